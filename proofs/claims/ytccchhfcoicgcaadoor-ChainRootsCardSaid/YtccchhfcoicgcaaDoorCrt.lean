import Derived.Test.YtccchhfcoicgcaaDoorCdw
import Derived.StillTailTactics
namespace Go.Proofs.YtccchhfcoicgcaaDoor
open Go.RowKit

def rootI : List (BitVec 8) := [99#8, 111#8, 117#8, 114#8, 105#8, 101#8, 114#8, 32#8, 114#8, 111#8, 111#8, 116#8]
def rootK (r s : Nat → BitVec 8) : List (BitVec 8) := hkdf (lst 32 r) (lst 32 s) rootI 64
def rootA (r s : Nat → BitVec 8) (i : Nat) : BitVec 8 := (rootK r s).getD i 0#8
def rootB (r s : Nat → BitVec 8) (i : Nat) : BitVec 8 := (rootK r s).getD (32 + i) 0#8
theorem keepC {W0 W W' : World} (h : Below W0.heap.size W0 W) (hb : Below W.heap.size W W') : Below W0.heap.size W0 W' := h.trans (hb.mono h.size)
theorem freeze_cellC (w : World) (a : Addr) (n : Nat) (x : Addr) : (w.freeze a n).cell? x = w.cell? x := by
  unfold World.freeze
  by_cases hn : n = 0
  · rw [if_pos hn]
  · rw [if_neg hn]
    simp only [World.cell?, Array.getElem?_modify]
    by_cases e : a.block = x.block
    · rw [if_pos e]
      cases hh : w.heap[x.block]? with
      | none => simp
      | some o => cases o <;> simp
    · rw [if_neg e]
theorem freeze_onlyC (w : World) (a : Addr) (n : Nat) : Only a.block w (w.freeze a n) := by
  unfold World.freeze
  by_cases hn : n = 0
  · rw [if_pos hn]; exact Only.refl _ _
  · rw [if_neg hn]
    refine ⟨rfl, rfl, rfl, by simp, fun k _ hk => ?_⟩
    simp only [Array.getElem?_modify]
    rw [if_neg (fun e => hk e.symm)]
theorem run_conv {P : Program} (w : World) (t e : TypeId) (ht : P.underlying t = some (.slice e)) (he : P.underlying e = some (.int .u8)) (g n c : Nat) :
    ∃ w', (convert t t (.slice (some ⟨g, 0, none⟩) n c)).run P w = .ok (.slice (some ⟨g, 0, none⟩) n c) w' ∧ Only g w w' ∧ ∀ y, w'.cell? y = w.cell? y := by
  cases hs : w.shape? g with
  | none => exact ⟨w, by simp [convert, run_underlying ht, run_underlying he, markStringish, hs], Only.refl _ _, fun _ => rfl⟩
  | some p => exact ⟨w.freeze ⟨g, p.2, none⟩ 1, by simp [convert, run_underlying ht, run_underlying he, markStringish, hs], freeze_onlyC w ⟨g, p.2, none⟩ 1, fun _ => freeze_cellC _ _ _ _⟩
theorem SlRead.alikeC {w w' : World} {A : Option Addr} {xs : List Value} (h : SlRead w A xs) (hc : ∀ y, w'.cell? y = w.cell? y) (hs : w.heap.size ≤ w'.heap.size) : SlRead w' A xs := by
  intro hn
  obtain ⟨b, o, rfl, hlt, hcell⟩ := h hn
  exact ⟨b, o, rfl, Nat.lt_of_lt_of_le hlt hs, fun j u hj => (hc _).trans (hcell j u hj)⟩
theorem slread_newC {W : World} {t : TypeId} (ys : List (BitVec 8)) (cs : Array Value) (h : cs.toList = ints .u8 (bys ys)) : SlRead (W.alloc (.cells cs t)) (some ⟨W.heap.size, 0, none⟩) (ints .u8 (bys ys)) := by
  intro _
  refine ⟨W.heap.size, 0, rfl, by simp, fun j u hj => ?_⟩
  rw [Nat.zero_add, World.cell?_alloc_new, ← hj, ← h, Array.getElem?_toList]
theorem wpStill_sliceAt {P : Program} {ops : Array Oper} {rest : List Oper} {o : Oper} {a : Act} {w : World} {Q : Act → Prop} (hgd : o.guard = none) (t : TypeId) (x : Operand) (lo hi mx : Option Operand) (ho : o.op = .slice t x lo hi mx)
    (va : Value) (vl vh vm : Option Value) (r : Value) (hx : (a.eval x, lo.map a.eval, hi.map a.eval, mx.map a.eval) = (va, vl, vh, vm)) (hr : (Instr.sliceAt t va vl vh vm).run P w = .ok r w)
    (h : wpStill P ops w Q rest (a.put o.dst r)) : wpStill P ops w Q (o :: rest) a := by
  simp only [Prod.mk.injEq] at hx
  refine wpStill_step fun K hK => ?_
  simp only [Region.wanted, hgd, if_true]
  unfold Oper.still execOp
  simp only [ho, hx.1, hx.2.1, hx.2.2.1, hx.2.2.2, Sem.run_bind, Sem.run_pure, hr, Result.andThen_ok]
  exact ⟨rfl, hK _ h⟩
section
variable {P : Program} {md : Region.Mode} {ops : Array Oper} {Q : Exit → Act → World → Prop} {S : World → Prop} {fuel : Nat} {listed : Array Bool} {a : Act} {w : World}
theorem rdy_conv {rs : List Nat} (i : Nat) (t t' : TypeId) (x : Operand) (dst : Option Tmp) (v v' : Value) (w' : World)
    (hi : ops[i]?.map (fun o => (o.op, o.dst, Region.wanted o (yielded ops a.tmps))) = some (.convert t t' x, dst, true))
    (hx : a.eval x = v) (hrun : (convert t t' v).run P w = .ok v' w') (hS : S w')
    (h : S w' → wpAnyH P md ops Q S fuel (listed.setIfInBounds i true) (a.put dst v') w') (rest : AllReadyH P md ops Q S fuel listed a w rs) : AllReadyH P md ops Q S fuel listed a w (i :: rs) := by
  obtain ⟨oi, ho, he⟩ := Option.map_eq_some_iff.1 hi
  simp only [Prod.mk.injEq] at he
  refine AllReadyH.cons ho (fun K hK => ?_) rest
  rw [if_pos he.2.2]
  unfold Oper.wp
  simp [execOp, he.1, hx, hrun, Result.andThen]
  rw [Oper.upon_value, he.2.1]
  exact hK.out _ _ hS h
theorem held_extract (i : Nat) (x : Operand) (k : Nat) (dst : Option Tmp) (vs : Array Value) (v : Value) (hi : ops[i]?.map (fun o => (o.op, o.dst, Region.wanted o (yielded ops a.tmps))) = some (.extract x k, dst, true))
    (hx : a.eval x = .tuple vs) (hv : ∀ w, (Instr.extract (.tuple vs) k).run P w = .ok v w) (hs : Region.noSelect ops = true) (hf : Region.free md ops listed i = true) (hr : (Region.ready md ops listed).contains i = true)
    (hQ : ∀ c a v d w, Q (.panic c) (a.put d v) w → Q (.panic c) a w) (hw : S w)
    (h : wpAnyH P md ops Q S fuel (listed.setIfInBounds i true) (a.put dst v) w) : wpAnyH P md ops Q S (fuel + 1) listed a w :=
  held_any i _ dst v hi hs hf hr hQ hw (fun o ho w _ => by unfold execOp; simp [ho, hx, hv, Result.andThen]) h
end

structure StR (w : World) (B : Nat) (F F' : Nat → BitVec 8) (W : World) : Prop where
  g : W.rangeAt (B + 4) 0 (arr8 32 F).toList
  h : W.rangeAt (B + 5) 0 (arr8 32 F').toList
  x : ∃ o, W.heap[B + 2]? = some (.cells o 23 (0, 0)) ∧ o.size = 32
  y : ∃ o, W.heap[B + 3]? = some (.cells o 23 (0, 0)) ∧ o.size = 32
  b : Below B w W
theorem StR.set {w : World} {B : Nat} {F F' : Nat → BitVec 8} {W : World} (h : StR w B F F' W) (g : Nat) (hg : g = B + 2 ∨ g = B + 3) (f : Nat → BitVec 8) : StR w B F F' (W.setRow g (arr8 32 f)) := by
  obtain ⟨ox, hx, hx'⟩ := h.x
  obtain ⟨oy, hy, hy'⟩ := h.y
  refine ⟨fun j v hv => ?_, fun j v hv => ?_, ?_, ?_, below_setRow h.b (by omega) _⟩
  · rw [World.cell?_of_block (setRow_ne W g _ (B + 4) (by omega))]; exact h.g j v hv
  · rw [World.cell?_of_block (setRow_ne W g _ (B + 5) (by omega))]; exact h.h j v hv
  · rcases hg with rfl | rfl
    · exact ⟨_, setRow_heap _ _ _ _ _ _ hx, by simp⟩
    · exact ⟨ox, (setRow_ne W _ _ _ (by omega)).trans hx, hx'⟩
  · rcases hg with rfl | rfl
    · exact ⟨oy, (setRow_ne W _ _ _ (by omega)).trans hy, hy'⟩
    · exact ⟨_, setRow_heap _ _ _ _ _ _ hy, by simp⟩

set_option maxRecDepth 100000 in
set_option maxHeartbeats 1600000 in
theorem root_any (r s : Nat → BitVec 8) (w : World) (hk : KAt w) :
    Calls Tryd.prog 7 #[.agg (arr8 32 r), .agg (arr8 32 s)] w fun e w' => e = .returned (.tuple #[.agg (arr8 32 (rootA r s)), .agg (arr8 32 (rootB r s))]) ∧ Below w.heap.size w w' := by
  have z32 : ∀ i, i < 32 → (Array.replicate 32 (Value.int IntKind.u8 0))[i]? = some (v8 0#8) := fun i hi => by simp [hi]; rfl
  go_enter Tryd.func7, Tryd.ntmps7
  go_upto_region 2 with (fail)
  refine wp_world (fun W => Below w.heap.size w W ∧ W.rowIs w.heap.size 23 32 (fun i => v8 (r i)) ∧ W.rowIs (w.heap.size + 1) 23 32 (fun i => v8 (s i)) ∧ W.rowIs (w.heap.size + 2) 23 32 (fun _ => v8 0#8) ∧ W.rowIs (w.heap.size + 3) 23 32 (fun _ => v8 0#8) ∧ W.rowIs (w.heap.size + 4) 23 32 (fun _ => v8 0#8) ∧ W.rowIs (w.heap.size + 5) 23 32 (fun _ => v8 0#8)) ?_ ?_
  · refine ⟨by go_grown, ?_, ?_, ?_, ?_, ?_, ?_⟩
    · exact (((((rowIs_new w (arr8 32 r) 23 w.heap.size 32 _ rfl (by simp) (fun i hi => arr8_get 32 r i hi)).alloc _).alloc _).alloc _).alloc _).alloc _
    · exact ((((rowIs_new (w.alloc _) (arr8 32 s) 23 (w.heap.size + 1) 32 _ (by simp) (by simp) (fun i hi => arr8_get 32 s i hi)).alloc _).alloc _).alloc _).alloc _
    · exact (((rowIs_new ((w.alloc _).alloc _) (Array.replicate 32 (.int .u8 0)) 23 (w.heap.size + 2) 32 (fun _ => v8 0#8) (by simp) (by simp) z32).alloc _).alloc _).alloc _
    · exact ((rowIs_new (((w.alloc _).alloc _).alloc _) (Array.replicate 32 (.int .u8 0)) 23 (w.heap.size + 3) 32 (fun _ => v8 0#8) (by simp) (by simp) z32).alloc _).alloc _
    · exact (rowIs_new ((((w.alloc _).alloc _).alloc _).alloc _) (Array.replicate 32 (.int .u8 0)) 23 (w.heap.size + 4) 32 (fun _ => v8 0#8) (by simp) (by simp) z32).alloc _
    · exact rowIs_new (((((w.alloc _).alloc _).alloc _).alloc _).alloc _) (Array.replicate 32 (.int .u8 0)) 23 (w.heap.size + 5) 32 (fun _ => v8 0#8) (by simp) (by simp) z32
  rintro W ⟨hb, hr, hs, h2, h3, h4, h5⟩
  have hkW := hk.below hb
  clear hk z32
  generalize hB : w.heap.size = B at *
  have HB := Lib.hid hB; clear hB
  have hsl0 := fun w' => sliceAt_arr (P := Tryd.prog) 32 Tryd.underlying23 (show (Tryd.prog.info? 5).map (·.size) = some 1 by kernel_rfl) B (by omega) w'
  have hsl1 := fun w' => sliceAt_arr (P := Tryd.prog) 32 Tryd.underlying23 (show (Tryd.prog.info? 5).map (·.size) = some 1 by kernel_rfl) (B + 1) (by omega) w'
  have hsl4 := fun w' => sliceAt_arr (P := Tryd.prog) 32 Tryd.underlying23 (show (Tryd.prog.info? 5).map (·.size) = some 1 by kernel_rfl) (B + 4) (by omega) w'
  have hsl5 := fun w' => sliceAt_arr (P := Tryd.prog) 32 Tryd.underlying23 (show (Tryd.prog.info? 5).map (·.size) = some 1 by kernel_rfl) (B + 5) (by omega) w'
  have alc : ∀ (W : World) (o : Obj), Below W.heap.size W (W.alloc o) := fun W o => (Below.refl _ _).alloc (Nat.le_refl _) _
  have hrS := slread_row hr
  have hsS := slread_row hs
  have hrk : rootK r s = hkdf (lst 32 r) (lst 32 s) rootI 64 := rfl
  have hra : ∀ i, rootA r s i = (rootK r s).getD i 0#8 := fun _ => rfl
  have hrb : ∀ i, rootB r s i = (rootK r s).getD (32 + i) 0#8 := fun _ => rfl
  have hrl : (rootK r s).length = 64 := hkdf_len _ _ _ _
  have HRA := Lib.hid hra; have HRB := Lib.hid hrb; have HRK := Lib.hid hrk; have HRL := Lib.hid hrl
  clear hr hs hra hrb hrk hrl
  generalize rootK r s = K at *
  have hrS : SlRead W.drew (some ⟨B, 0, none⟩) (ints .u8 (bys (lst 32 r))) := hrS.below (Below.drewNr 1)
  have hsS : SlRead W.drew (some ⟨B + 1, 0, none⟩) (ints .u8 (bys (lst 32 s))) := hsS.below (Below.drewNr 1)
  have hkW : KAt W.drew := hkW.of_block rfl
  refine wp_region_noPanic ?_
  refine wp_region_held_drew (S := fun W' => Below W.drew.heap.size W.drew W') (by kernel_rfl) (Below.refl _ _) (fun hHeld => ?_)
  refine held_slice 0 23 (.tmp 2) none none none (some 11) (.pointer (some ⟨B, 0, none⟩)) none none none (.slice (some ⟨B, 0, none⟩) 32 32) (by kernel_rfl) (by kernel_rfl) (hsl0) (by kernel_rfl) (by kernel_rfl) (by kernel_rfl) (fun _ _ _ _ _ h => h) hHeld ?_
  refine held_slice 1 23 (.tmp 3) none none none (some 12) (.pointer (some ⟨(B + 1), 0, none⟩)) none none none (.slice (some ⟨(B + 1), 0, none⟩) 32 32) (by kernel_rfl) (by kernel_rfl) (hsl1) (by kernel_rfl) (by kernel_rfl) (by kernel_rfl) (fun _ _ _ _ _ h => h) hHeld ?_
  refine held_ready [2] (by kernel_rfl) (by simp) (rdy_bsls 2 33 5 12 #[(0, .const (.int .u8 99)), (1, .const (.int .u8 111)), (2, .const (.int .u8 117)), (3, .const (.int .u8 114)), (4, .const (.int .u8 105)), (5, .const (.int .u8 101)), (6, .const (.int .u8 114)), (7, .const (.int .u8 32)), (8, .const (.int .u8 114)), (9, .const (.int .u8 111)), (10, .const (.int .u8 111)), (11, .const (.int .u8 116))] (some 13) #[(0, .int .u8 99), (1, .int .u8 111), (2, .int .u8 117), (3, .int .u8 114), (4, .int .u8 105), (5, .int .u8 101), (6, .int .u8 114), (7, .int .u8 32), (8, .int .u8 114), (9, .int .u8 111), (10, .int .u8 111), (11, .int .u8 116)] #[.int .u8 99, .int .u8 111, .int .u8 117, .int .u8 114, .int .u8 105, .int .u8 101, .int .u8 114, .int .u8 32, .int .u8 114, .int .u8 111, .int .u8 111, .int .u8 116] (by kernel_rfl) (by kernel_rfl) (by kernel_rfl) (keepC hHeld (alc _ _)) ?_ AllReadyH.nil)
  intro hHeld
  have hI := slread_newC (W := W.drew) (t := 5) rootI #[.int .u8 99, .int .u8 111, .int .u8 117, .int .u8 114, .int .u8 105, .int .u8 101, .int .u8 114, .int .u8 32, .int .u8 114, .int .u8 111, .int .u8 111, .int .u8 116] (by rfl)
  obtain ⟨C1, hcC1, hoC1, heC1⟩ := run_conv (P := Tryd.prog) (W.drew.alloc (.cells #[.int .u8 99, .int .u8 111, .int .u8 117, .int .u8 114, .int .u8 105, .int .u8 101, .int .u8 114, .int .u8 32, .int .u8 114, .int .u8 111, .int .u8 111, .int .u8 116] 5)) 33 5 Tryd.underlying33 Tryd.underlying5 W.drew.heap.size 12 12
  have hI := hI.alikeC heC1 hoC1.size
  have hC := hHeld.trans (hoC1.below (Nat.le_refl _) (by simp))
  refine held_ready [3] (by kernel_rfl) (by simp) (rdy_conv 3 33 33 (.tmp 13) (some 14) (.slice (some ⟨W.drew.heap.size, 0, none⟩) 12 12) (.slice (some ⟨W.drew.heap.size, 0, none⟩) 12 12) C1 (by kernel_rfl) (by kernel_rfl) hcC1 hC ?_ AllReadyH.nil)
  intro hHeld
  have hd := derive_far (some ⟨B, 0, none⟩) (lst 32 r) 32 (some ⟨B + 1, 0, none⟩) (lst 32 s) 32 (some ⟨W.drew.heap.size, 0, none⟩) rootI 12 64 C1 (hrS.below hHeld) (by simp) (by simp) (hsS.below hHeld) (by simp) (by simp) hI (by decide) (by decide) (by omega) (hkW.below hHeld)
  rw [lst_length, lst_length, show rootI.length = 12 from rfl, ← HRK.out] at hd
  refine held_call 4 15 #[.tmp 11, .tmp 12, .tmp 14, .const (.int .i64 64)] #[33, 33, 33, 3] (some 15) #[.slice (some ⟨B, 0, none⟩) 32 32, .slice (some ⟨(B + 1), 0, none⟩) 32 32, .slice (some ⟨W.drew.heap.size, 0, none⟩) 12 12, .int .i64 64] _ (by kernel_rfl) (by kernel_rfl) (by kernel_rfl) (by kernel_rfl) (hd) ?_
  rintro e Y3 ⟨OY3, rfl, hO, hbY3, hFar⟩
  refine ⟨_, rfl, keepC hHeld hbY3, fun hHeld => ?_⟩
  refine held_move 5 (.tmp 15) (some 10) (.tuple #[.slice OY3 64 64, .nilIface]) (by kernel_rfl) (by kernel_rfl) (by kernel_rfl) (by kernel_rfl) (by kernel_rfl) (fun _ _ _ _ _ h => h) hHeld ?_
  refine held_extract 6 (.tmp 10) 0 (some 16) #[.slice OY3 64 64, .nilIface] (.slice OY3 64 64) (by kernel_rfl) (by kernel_rfl) (fun _ => by kernel_rfl) (by kernel_rfl) (by kernel_rfl) (by kernel_rfl) (fun _ _ _ _ _ h => h) hHeld ?_
  refine held_extract 7 (.tmp 10) 1 (some 17) #[.slice OY3 64 64, .nilIface] (.nilIface) (by kernel_rfl) (by kernel_rfl) (fun _ => by kernel_rfl) (by kernel_rfl) (by kernel_rfl) (by kernel_rfl) (fun _ _ _ _ _ h => h) hHeld ?_
  refine held_assign 8 (.tmp 16) (some 8) (.slice OY3 64 64) (by kernel_rfl) (by kernel_rfl) (by kernel_rfl) (by kernel_rfl) (by kernel_rfl) (fun _ _ _ _ _ h => h) hHeld ?_
  refine held_assign 9 (.tmp 17) (some 9) (.nilIface) (by kernel_rfl) (by kernel_rfl) (by kernel_rfl) (by kernel_rfl) (by kernel_rfl) (fun _ _ _ _ _ h => h) hHeld ?_
  refine wpAnyH_done (by kernel_rfl) ?_ _
  refine NoPanic.normal ?_
  simp only [Act.put, List.setIfInBounds_toArray, List.set_cons_zero, List.set_cons_succ]
  have hbY := hb.trans (((Below.drewNr (w := W) 1).trans hHeld).mono (show B ≤ W.heap.size by have := h2.lt; omega))
  have h2Y := h2.of_block (hHeld.block _ h2.lt)
  have h3Y := h3.of_block (hHeld.block _ h3.lt)
  have h4Y := h4.of_block (hHeld.block _ h4.lt)
  have h5Y := h5.of_block (hHeld.block _ h5.lt)
  have hYs := hHeld.size
  have hYC : B + 5 < C1.heap.size := Nat.lt_of_lt_of_le (show B + 5 < W.drew.heap.size from h5.lt) hC.size
  have hW5 := h5.lt
  clear hb h2 h3 h4 h5 hHeld hrS hsS hkW hI
  go_upto_region 4 with (fail)
  refine wp_region_still_tail 3 (by kernel_rfl) (by kernel_rfl) ?_
  simp only [List.take_succ_cons, List.take_zero, List.drop_succ_cons, List.drop_zero]
  refine wpStill_sliceAt rfl 23 _ none none none rfl (.pointer (some ⟨B + 4, 0, none⟩)) none none none _ rfl (hsl4 _) ?_
  repeat still_step
  refine wpStill_nil ?_
  change wpList _ _ _ _ _ Y3.drew
  have h4D : Y3.drew.rowIs (B + 4) 23 32 (fun i => v8 ((fun _ => 0#8) i)) := h4Y
  have hOD : SlRead Y3.drew OY3 (ints .u8 (bys K)) := hO.below (Below.drewNr 1)
  have hOT := hOD.take 32
  rw [bys_take] at hOT
  refine wpList_copy_row rfl _ _ 33 33 rfl 5 Tryd.underlying33 (by kernel_rfl) (B + 4) 32 OY3 32 64 rfl rfl 23 (fun _ => 0#8) h4D (K.take 32) (by rw [List.length_take, HRL.out]; rfl) (by omega) hOT ?_
  intro W6 h46 hon6
  have hb6 := hbY.trans ((Below.drewNr (w := Y3) 1).mono (show B ≤ Y3.heap.size by have := h2Y.lt; omega))
  have hb6' : Below B w W6 := hb6.trans (hon6.below (by omega) (show B ≤ Y3.drew.heap.size from by have := h2Y.lt; show B ≤ Y3.heap.size; omega))
  have h26 := h2Y.of_block (hon6.block _ (show B + 2 < Y3.drew.heap.size from h2Y.lt) (by omega))
  have h36 := h3Y.of_block (hon6.block _ (show B + 3 < Y3.drew.heap.size from h3Y.lt) (by omega))
  have h56 := h5Y.of_block (hon6.block _ (show B + 5 < Y3.drew.heap.size from h5Y.lt) (by omega))
  have hO6 : SlRead W6 OY3 (ints .u8 (bys K)) := hOD.only (fun b' o' e => by have := hFar b' o' e; have := hYC; omega) hon6
  clear hb6 hbY h2Y h3Y h4Y h5Y h4D hOD hOT hO
  go_upto_region 5 with (fail)
  refine wp_region_still_tail 3 (by kernel_rfl) (by kernel_rfl) ?_
  simp only [List.take_succ_cons, List.take_zero, List.drop_succ_cons, List.drop_zero]
  refine wpStill_sliceAt rfl 23 _ none none none rfl (.pointer (some ⟨B + 5, 0, none⟩)) none none none _ rfl (hsl5 _) ?_
  have hsll := fun w' => slice_sl_l (P := Tryd.prog) Tryd.underlying33 (show (Tryd.prog.info? 5).map (·.size) = some 1 by kernel_rfl) OY3 64 64 32 32 rfl (by omega) w'
  repeat still_step
  refine wpStill_nil ?_
  change wpList _ _ _ _ _ W6.drew
  have h5D : W6.drew.rowIs (B + 5) 23 32 (fun i => v8 ((fun _ => 0#8) i)) := h56
  have hOD : SlRead W6.drew OY3 (ints .u8 (bys K)) := hO6.below (Below.drewNr 1)
  have hOC := hOD.cut 32 (cutA OY3 32 64) (fun hl b o e => by subst e; exact cutA_some (n := 64) (by omega) (by omega))
  rw [bys_drop] at hOC
  refine wpList_copy_row rfl _ _ 33 33 rfl 5 Tryd.underlying33 (by kernel_rfl) (B + 5) 32 (cutA OY3 32 64) 32 32 rfl rfl 23 (fun _ => 0#8) h5D (K.drop 32) (by rw [List.length_drop, HRL.out]) (by omega) hOC ?_
  intro W7 h57 hon7
  have hb7 : Below B w W7 := (hb6'.trans ((Below.drewNr (w := W6) 1).mono (show B ≤ W6.heap.size by have := h26.lt; omega))).trans (hon7.below (by omega) (show B ≤ W6.drew.heap.size from by have := h26.lt; show B ≤ W6.heap.size; omega))
  have h27 := h26.of_block (hon7.block _ (show B + 2 < W6.drew.heap.size from h26.lt) (by omega))
  have h37 := h36.of_block (hon7.block _ (show B + 3 < W6.drew.heap.size from h36.lt) (by omega))
  have h47 := h46.of_block (hon7.block _ (show B + 4 < W6.drew.heap.size from h46.lt) (by omega))
  have hA7 : W7.rowIs (B + 4) 23 32 (fun i => v8 (rootA r s i)) := h47.congr fun i hi => by
    rw [if_pos (by rw [List.length_take, HRL.out]; omega), HRA.out]
    rw [show (K.take 32).getD i 0#8 = K.getD i 0#8 by simp only [List.getD_eq_getElem?_getD, List.getElem?_take_of_lt hi]]
  have hB7 : W7.rowIs (B + 5) 23 32 (fun i => v8 (rootB r s i)) := h57.congr fun i hi => by
    rw [if_pos (by rw [List.length_drop, HRL.out]; omega), HRB.out]
    rw [show (K.drop 32).getD i 0#8 = K.getD (32 + i) 0#8 by simp only [List.getD_eq_getElem?_getD, List.getElem?_drop]]
  clear hb6' h26 h36 h46 h56 h47 h57 h5D hOD hOC hO6 hon6 hon7
  go_upto_region 6 with (fail)
  have iK : ∀ f : Nat → BitVec 8, (Tryd.prog.info? 23).map (·.size) = some (arr8 32 f).toList.length := fun f => by simp only [Array.length_toList, arr8_size]; kernel_rfl
  obtain ⟨ox, hx1, hx2, _⟩ := h27
  obtain ⟨oy, hy1, hy2, _⟩ := h37
  generalize hF1 : rootA r s = F1 at *
  generalize hF2 : rootB r s = F2 at *
  have HF1 := Lib.hid hF1; have HF2 := Lib.hid hF2; clear hF1 hF2
  have rg7 := rangeAt_row hA7
  have rh7 := rangeAt_row hB7
  clear hA7 hB7
  refine wp_region_noPanic ?_
  refine wp_region_held_drew (S := StR w B F1 F2) (by kernel_rfl) ⟨rg7, rh7, ⟨ox, hx1, hx2⟩, ⟨oy, hy1, hy2⟩, hb7.drew⟩ (fun hHeld => ?_)
  clear rg7 rh7 hx1 hy1 hb7
  refine held_load 0 23 (.tmp 6) (some 28) (B + 4) 0 (arr8 32 F1).toList _ (by kernel_rfl) (by kernel_rfl) (fun w h => h.g) Tryd.underlying23 rfl (iK F1) (by kernel_rfl) (by kernel_rfl) (by kernel_rfl) (fun _ _ _ _ _ h => h) hHeld ?_
  refine held_load 1 23 (.tmp 7) (some 29) (B + 5) 0 (arr8 32 F2).toList _ (by kernel_rfl) (by kernel_rfl) (fun w h => h.h) Tryd.underlying23 rfl (iK F2) (by kernel_rfl) (by kernel_rfl) (by kernel_rfl) (fun _ _ _ _ _ h => h) hHeld ?_
  obtain ⟨ox, ex, lx⟩ := hHeld.x
  refine held_ready [2] (by kernel_rfl) (by simp) (rdy_storeR 2 23 (.tmp 4) (.tmp 28) (B + 2) (arr8 32 F1) 23 ox (by kernel_rfl) (by kernel_rfl) ex (by kernel_rfl) (by rw [lx, arr8_size]) (arr8_one _ _) (hHeld.set (B + 2) (by omega) F1) ?_ AllReadyH.nil)
  intro hHeld
  have hrx := setRow_heap W7.drew (B + 2) _ (arr8 32 F1) _ _ ex
  obtain ⟨oy, ey, ly⟩ := hHeld.y
  refine held_ready [3] (by kernel_rfl) (by simp) (rdy_storeR 3 23 (.tmp 5) (.tmp 29) (B + 3) (arr8 32 F2) 23 oy (by kernel_rfl) (by kernel_rfl) ey (by kernel_rfl) (by rw [ly, arr8_size]) (arr8_one _ _) (hHeld.set (B + 3) (by omega) F2) ?_ AllReadyH.nil)
  intro hHeld
  have hrx := (setRow_ne (W7.drew.setRow (B + 2) (arr8 32 F1)) (B + 3) (arr8 32 F2) (B + 2) (by omega)).trans hrx
  have hry := setRow_heap (W7.drew.setRow (B + 2) (arr8 32 F1)) (B + 3) _ (arr8 32 F2) _ _ ey
  refine wpAnyH_done (by kernel_rfl) ?_ _
  refine NoPanic.normal ?_
  simp only [Act.put, List.setIfInBounds_toArray, List.set_cons_zero, List.set_cons_succ]
  go_wp2_with fail
  refine bodyPost_ret (results_two_rows rfl _ _ _ _ _ _ _ _ _ _ _ rfl hrx rfl hry Tryd.underlying23 rfl (by kernel_rfl) (by kernel_rfl)) rfl ?_
  rw [HB.out, HF1.out, HF2.out]
  exact ⟨rfl, hHeld.b⟩
end Go.Proofs.YtccchhfcoicgcaaDoor
