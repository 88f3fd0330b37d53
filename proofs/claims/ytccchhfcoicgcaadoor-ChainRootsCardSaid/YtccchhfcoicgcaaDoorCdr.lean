import Derived.Test.YtccchhfcoicgcaaDoorCdd
import Derived.Test.YtccchhfcoicgcaaDoorCst
namespace Go.Proofs.YtccchhfcoicgcaaDoor
open Go.RowKit

def DerT (n : Nat) (xs : List (BitVec 8)) (v : Value) (w : World) : Prop := ∃ O co, v = .tuple #[.slice O n co, .bool true] ∧ SlRead w O (ints .u8 (bys xs))
theorem DerT.mono {n : Nat} {xs : List (BitVec 8)} : ∀ y w1 w2, DerT n xs y w1 → Cells w1 w2 → DerT n xs y w2 := by
  rintro y w1 w2 ⟨O, co, h1, h2⟩ hb
  exact ⟨O, co, h1, h2.cells hb⟩
def SlA (n : Nat) (xs : List (BitVec 8)) (v : Value) (w : World) : Prop := ∃ O co, v = .slice O n co ∧ SlRead w O (ints .u8 (bys xs))
theorem SlA.mono {n : Nat} {xs : List (BitVec 8)} : ∀ y w1 w2, SlA n xs y w1 → Cells w1 w2 → SlA n xs y w2 := by
  rintro y w1 w2 ⟨O, co, h1, h2⟩ hb
  exact ⟨O, co, h1, h2.cells hb⟩
def upTo (f : Nat → BitVec 8) (k i : Nat) : BitVec 8 := if i < k then f i else 0#8
theorem upTo_step (f : Nat → BitVec 8) (k i : Nat) : (if i = k then v8 (f k) else v8 (upTo f k i)) = v8 (upTo f (k + 1) i) := by
  unfold upTo
  by_cases h1 : i = k
  · subst h1; simp
  · rw [if_neg h1]
    by_cases h2 : i < k
    · rw [if_pos h2, if_pos (by omega)]
    · rw [if_neg h2, if_neg (by omega)]

structure RootAt (w : World) (B X k : Nat) (O : Option Addr) (K : List (BitVec 8)) (r s : Nat → BitVec 8) (wr : World) : Prop where
  b : Below B w wr
  x : wr.rowIs X 23 32 (fun i => v8 (upTo r k i))
  y : wr.rowIs (X + 1) 23 32 (fun i => v8 (upTo s k i))
  o : SlRead wr O (ints .u8 (bys K))
  p : ∃ c, wr.heap[B + 2]? = some (.cells c 23 (0, 0)) ∧ c.size = 32
  q : ∃ c, wr.heap[B + 3]? = some (.cells c 23 (0, 0)) ∧ c.size = 32

structure StQ (w : World) (B X : Nat) (F F' : Nat → BitVec 8) (W : World) : Prop where
  g : W.rangeAt X 0 (arr8 32 F).toList
  h : W.rangeAt (X + 1) 0 (arr8 32 F').toList
  x : ∃ o, W.heap[B + 2]? = some (.cells o 23 (0, 0)) ∧ o.size = 32
  y : ∃ o, W.heap[B + 3]? = some (.cells o 23 (0, 0)) ∧ o.size = 32
  b : Below B w W
theorem StQ.set {w : World} {B X : Nat} {F F' : Nat → BitVec 8} {W : World} (h : StQ w B X F F' W) (h1 : B + 3 < X) (g : Nat) (hg : g = B + 2 ∨ g = B + 3) (f : Nat → BitVec 8) : StQ w B X F F' (W.setRow g (arr8 32 f)) := by
  obtain ⟨ox, hx, hx'⟩ := h.x
  obtain ⟨oy, hy, hy'⟩ := h.y
  refine ⟨fun j v hv => ?_, fun j v hv => ?_, ?_, ?_, below_setRow h.b (by omega) _⟩
  · rw [World.cell?_of_block (setRow_ne W g _ X (by omega))]; exact h.g j v hv
  · rw [World.cell?_of_block (setRow_ne W g _ (X + 1) (by omega))]; exact h.h j v hv
  · rcases hg with rfl | rfl
    · exact ⟨_, setRow_heap _ _ _ _ _ _ hx, by simp⟩
    · exact ⟨ox, (setRow_ne W _ _ _ (by omega)).trans hx, hx'⟩
  · rcases hg with rfl | rfl
    · exact ⟨oy, (setRow_ne W _ _ _ (by omega)).trans hy, hy'⟩
    · exact ⟨_, setRow_heap _ _ _ _ _ _ hy, by simp⟩

set_option maxRecDepth 100000 in
set_option maxHeartbeats 1600000 in
theorem droot_any (r s : Nat → BitVec 8) (w : World) :
    Calls Tryd.prog 8 #[.agg (arr8 32 r), .agg (arr8 32 s)] w fun e w' => e = .returned (.tuple #[.agg (arr8 32 (rootA r s)), .agg (arr8 32 (rootB r s))]) ∧ Below w.heap.size w w' := by
  have z32 : ∀ i, i < 32 → (Array.replicate 32 (Value.int IntKind.u8 0))[i]? = some (v8 0#8) := fun i hi => by simp [hi]; rfl
  go_enter Tryd.func8, Tryd.ntmps8
  go_upto_region 1 with (fail)
  refine wp_world (fun W => Below w.heap.size w W ∧ W.rowIs w.heap.size 23 32 (fun i => v8 (r i)) ∧ W.rowIs (w.heap.size + 1) 23 32 (fun i => v8 (s i)) ∧ W.rowIs (w.heap.size + 2) 23 32 (fun _ => v8 0#8) ∧ W.rowIs (w.heap.size + 3) 23 32 (fun _ => v8 0#8)) ?_ ?_
  · refine ⟨by go_grown, ?_, ?_, ?_, ?_⟩
    · exact (((rowIs_new w (arr8 32 r) 23 w.heap.size 32 _ rfl (by simp) (fun i hi => arr8_get 32 r i hi)).alloc _).alloc _).alloc _
    · exact ((rowIs_new (w.alloc _) (arr8 32 s) 23 (w.heap.size + 1) 32 _ (by simp) (by simp) (fun i hi => arr8_get 32 s i hi)).alloc _).alloc _
    · exact (rowIs_new ((w.alloc _).alloc _) (Array.replicate 32 (.int .u8 0)) 23 (w.heap.size + 2) 32 (fun _ => v8 0#8) (by simp) (by simp) z32).alloc _
    · exact rowIs_new (((w.alloc _).alloc _).alloc _) (Array.replicate 32 (.int .u8 0)) 23 (w.heap.size + 3) 32 (fun _ => v8 0#8) (by simp) (by simp) z32
  rintro W ⟨hb, hr, hs, h2, h3⟩
  generalize hB : w.heap.size = B at *
  have HB := Lib.hid hB; clear hB
  have hrS : SlRead W.drew (some ⟨B, 0, none⟩) (ints .u8 (bys (lst 32 r))) := slread_row hr
  have hsS : SlRead W.drew (some ⟨B + 1, 0, none⟩) (ints .u8 (bys (lst 32 s))) := slread_row hs
  have hrk : rootK r s = hkdf (lst 32 r) (lst 32 s) rootI 64 := rfl
  have hra : ∀ i, rootA r s i = (rootK r s).getD i 0#8 := fun _ => rfl
  have hrb : ∀ i, rootB r s i = (rootK r s).getD (32 + i) 0#8 := fun _ => rfl
  have hrl : (rootK r s).length = 64 := hkdf_len _ _ _ _
  have HRA := Lib.hid hra; have HRB := Lib.hid hrb; have HRK := Lib.hid hrk; have HL := Lib.hid hrl
  clear hra hrb hrk hrl
  generalize rootK r s = K at *
  generalize hFA : rootA r s = FA at *
  generalize hFB : rootB r s = FB at *
  have HFA := Lib.hid hFA; have HFB := Lib.hid hFB; clear hFA hFB
  have HD : ∀ w', Below W.drew.heap.size W.drew w' → ∀ g, SlRead w' (some ⟨g, 0, none⟩) (ints .u8 (bys rootI)) →
      Calls Tryd.prog 14 #[.slice (some ⟨B, 0, none⟩) 32 32, .slice (some ⟨B + 1, 0, none⟩) 32 32, .slice (some ⟨g, 0, none⟩) 12 12, .int .i64 64] w' fun e w'' => ∃ O co, e = .returned (.tuple #[.slice O 64 co, .bool true]) ∧ SlRead w'' O (ints .u8 (bys K)) ∧ Below w'.heap.size w' w'' := by
    intro w' hb g hg
    have h := dder_any (some ⟨B, 0, none⟩) (lst 32 r) 32 (some ⟨B + 1, 0, none⟩) (lst 32 s) 32 (some ⟨g, 0, none⟩) rootI 12 64 w' (hrS.below hb) (by simp) (hsS.below hb) (by simp) hg (by decide) (by decide)
    rwa [lst_length, lst_length, show rootI.length = 12 from rfl, ← HRK.out] at h
  refine wp_region_spec [Sp.k 0 (some 12) [] (.slice (some ⟨B, 0, none⟩) 32 32),
    Sp.k 1 (some 13) [] (.slice (some ⟨B + 1, 0, none⟩) 32 32),
    Sp.o 2 (some 14) [] (SlN W.drew.heap.size (ints .u8 (bys rootI)) 12),
    Sp.o 3 (some 15) [2] (SlN W.drew.heap.size (ints .u8 (bys rootI)) 12),
    Sp.o 4 (some 16) [0, 1, 2, 3] (DerT 64 (K)),
    Sp.o 5 (some 11) [0, 1, 2, 3, 4] (DerT 64 (K)),
    Sp.o 6 (some 17) [0, 1, 2, 3, 4, 5] (SlA 64 (K)),
    Sp.o 7 (some 18) [0, 1, 2, 3, 4, 5] (fun y _ => y = .bool true),
    Sp.o 8 (some 6) [0, 1, 2, 3, 4, 5, 6] (SlA 64 (K)),
    Sp.o 9 (some 7) [0, 1, 2, 3, 4, 5, 6, 7, 8] (fun y _ => y = .bool true)] (by kernel_rfl) (by kernel_rfl)
    ⟨owes_slice 0 (some 12) [] (.slice (some ⟨B, 0, none⟩) 32 32) 23 (Go.Operand.tmp 2) none none none (.pointer (some ⟨B, 0, none⟩)) none none none (fun v => by kernel_rfl) (fun v => by kernel_rfl) (sliceAt_arr (P := Tryd.prog) 32 Tryd.underlying23 (show (Tryd.prog.info? 5).map (·.size) = some 1 by kernel_rfl) (B) (by omega)),
    owes_slice 1 (some 13) [] (.slice (some ⟨B + 1, 0, none⟩) 32 32) 23 (Go.Operand.tmp 3) none none none (.pointer (some ⟨B + 1, 0, none⟩)) none none none (fun v => by kernel_rfl) (fun v => by kernel_rfl) (sliceAt_arr (P := Tryd.prog) 32 Tryd.underlying23 (show (Tryd.prog.info? 5).map (·.size) = some 1 by kernel_rfl) (B + 1) (by omega)),
    owes_bsl 2 (some 14) [] (SlN W.drew.heap.size (ints .u8 (bys rootI)) 12) 33 5 12 #[(0, Go.Operand.const (Go.Value.int Go.IntKind.u8 99)), (1, Go.Operand.const (Go.Value.int Go.IntKind.u8 111)), (2, Go.Operand.const (Go.Value.int Go.IntKind.u8 117)), (3, Go.Operand.const (Go.Value.int Go.IntKind.u8 114)), (4, Go.Operand.const (Go.Value.int Go.IntKind.u8 105)), (5, Go.Operand.const (Go.Value.int Go.IntKind.u8 101)), (6, Go.Operand.const (Go.Value.int Go.IntKind.u8 114)), (7, Go.Operand.const (Go.Value.int Go.IntKind.u8 32)), (8, Go.Operand.const (Go.Value.int Go.IntKind.u8 114)), (9, Go.Operand.const (Go.Value.int Go.IntKind.u8 111)), (10, Go.Operand.const (Go.Value.int Go.IntKind.u8 111)), (11, Go.Operand.const (Go.Value.int Go.IntKind.u8 116))] (#[(0, Go.Value.int Go.IntKind.u8 99), (1, Go.Value.int Go.IntKind.u8 111), (2, Go.Value.int Go.IntKind.u8 117), (3, Go.Value.int Go.IntKind.u8 114), (4, Go.Value.int Go.IntKind.u8 105), (5, Go.Value.int Go.IntKind.u8 101), (6, Go.Value.int Go.IntKind.u8 114), (7, Go.Value.int Go.IntKind.u8 32), (8, Go.Value.int Go.IntKind.u8 114), (9, Go.Value.int Go.IntKind.u8 111), (10, Go.Value.int Go.IntKind.u8 111), (11, Go.Value.int Go.IntKind.u8 116)]) (#[Go.Value.int Go.IntKind.u8 99, Go.Value.int Go.IntKind.u8 111, Go.Value.int Go.IntKind.u8 117, Go.Value.int Go.IntKind.u8 114, Go.Value.int Go.IntKind.u8 105, Go.Value.int Go.IntKind.u8 101, Go.Value.int Go.IntKind.u8 114, Go.Value.int Go.IntKind.u8 32, Go.Value.int Go.IntKind.u8 114, Go.Value.int Go.IntKind.u8 111, Go.Value.int Go.IntKind.u8 111, Go.Value.int Go.IntKind.u8 116]) (fun v => by kernel_rfl) (fun v => by kernel_rfl) (fun w => by kernel_rfl) SlN.mono (fun w' hb => ⟨_, rfl, hb.size, SlRead.new_row _ _ _ rfl⟩),
    owes_conv 3 (some 15) [2] (SlN W.drew.heap.size (ints .u8 (bys rootI)) 12) 33 33 (.tmp 14) (fun v => by kernel_rfl) SlN.mono (fun v w' hb ho => by
        obtain ⟨g2, e2, b2, r2⟩ := ho.get 2 (some 14) [] (SlN W.drew.heap.size (ints .u8 (bys rootI)) 12) rfl rfl
        obtain ⟨w3, h1, h2, h3⟩ := run_conv (P := Tryd.prog) w' 33 5 Tryd.underlying33 Tryd.underlying5 g2 12 12
        exact ⟨_, _, w3, Eq.trans (b := v 2) (by kernel_rfl) e2, h1, h2.below b2 hb.size, ⟨h2.size, fun a _ => h3 a⟩, g2, rfl, b2, r2.cells ⟨h2.size, fun a _ => h3 a⟩⟩),
    owes_call_o 4 (some 16) [0, 1, 2, 3] (DerT 64 (K)) 14 #[Go.Operand.tmp 12, Go.Operand.tmp 13, Go.Operand.tmp 15, Go.Operand.const (Go.Value.int Go.IntKind.i64 64)] #[33, 33, 33, 3] (fun v => by kernel_rfl) (fun _ _ => by kernel_rfl) DerT.mono (fun v w' hb ho => by
        obtain ⟨g3, e3, b3, r3⟩ := ho.get 3 (some 15) [2] (SlN W.drew.heap.size (ints .u8 (bys rootI)) 12) rfl rfl
        exact ⟨#[.slice (some ⟨B, 0, none⟩) 32 32, .slice (some ⟨B + 1, 0, none⟩) 32 32, .slice (some ⟨g3, 0, none⟩) 12 12, Go.Value.int Go.IntKind.i64 64], Eq.trans (b := #[.slice (some ⟨B, 0, none⟩) 32 32, .slice (some ⟨B + 1, 0, none⟩) 32 32, v 3, Go.Value.int Go.IntKind.i64 64]) (by kernel_rfl) (by rw [e3]), (HD w' hb _ r3).mono (fun e w1 ⟨O, co, h1, h2, h3⟩ => ⟨_, h1, h3, O, co, rfl, h2⟩)⟩),
    owes_move_o 5 (some 11) [0, 1, 2, 3, 4] (DerT 64 (K)) (Go.Operand.tmp 16) 4 (fun v => by kernel_rfl) DerT.mono (fun v => by kernel_rfl) (fun v w' hb ho => ho.get 4 (some 16) [0, 1, 2, 3] (DerT 64 (K)) rfl rfl),
    owes_extract_o 6 (some 17) [0, 1, 2, 3, 4, 5] (SlA 64 K) (.tmp 11) 0 (fun v => by kernel_rfl) SlA.mono (fun v w' hb ho => by
        obtain ⟨O5, co5, e5, r5⟩ := ho.get 5 (some 11) [0, 1, 2, 3, 4] (DerT 64 K) rfl rfl
        exact ⟨#[.slice O5 64 co5, .bool true], _, Eq.trans (b := v 5) (by kernel_rfl) e5, by kernel_rfl, O5, co5, rfl, r5⟩),
    owes_extract_o 7 (some 18) [0, 1, 2, 3, 4, 5] (fun y _ => y = .bool true) (.tmp 11) 1 (fun v => by kernel_rfl) (fun _ _ _ h _ => h) (fun v w' hb ho => by
        obtain ⟨O5, co5, e5, r5⟩ := ho.get 5 (some 11) [0, 1, 2, 3, 4] (DerT 64 K) rfl rfl
        exact ⟨#[.slice O5 64 co5, .bool true], _, Eq.trans (b := v 5) (by kernel_rfl) e5, by kernel_rfl, rfl⟩),
    owes_assign_o 8 (some 6) [0, 1, 2, 3, 4, 5, 6] (SlA 64 (K)) (Go.Operand.tmp 17) 6 (fun v => by kernel_rfl) SlA.mono (fun v => by kernel_rfl) (fun v w' hb ho => ho.get 6 (some 17) [0, 1, 2, 3, 4, 5] (SlA 64 (K)) rfl rfl),
    owes_assign_o 9 (some 7) [0, 1, 2, 3, 4, 5, 6, 7, 8] (fun y _ => y = .bool true) (Go.Operand.tmp 18) 7 (fun v => by kernel_rfl) (fun _ _ _ h _ => h) (fun v => by kernel_rfl) (fun v w' hb ho => ho.get 7 (some 18) [0, 1, 2, 3, 4, 5] (fun y _ => y = .bool true) rfl rfl), trivial⟩ ?_
  intro v w' hb' hall
  obtain ⟨O, co, e8, hO⟩ := hall.open_ 8 (some 6) _ (SlA 64 K) rfl
  have e9 : v 9 = .bool true := hall.open_ 9 (some 7) _ (fun y _ => y = .bool true) rfl
  clear hall HD hrS hsS
  simp only [putsK_k, putsK_o, putsK_nil, Act.put, List.setIfInBounds_toArray, List.set_cons_zero, List.set_cons_succ]
  rw [e8, e9]
  clear e8 e9
  have hbb : Below B w w' := hb.trans ((Below.drewNr (w := W) 1).trans (hb'.mono (show B ≤ W.heap.size by have := hr.lt; omega)))
  obtain ⟨p0, hp1, hp2, _⟩ := h2.of_block (hb'.block _ h2.lt)
  obtain ⟨q0, hq1, hq2, _⟩ := h3.of_block (hb'.block _ h3.lt)
  have hXB : B + 3 < w'.heap.size := Nat.lt_of_lt_of_le (show B + 3 < W.drew.heap.size from h3.lt) hb'.size
  clear hb hr hs h2 h3 hb'
  go_upto_region 3 with (fail)
  refine wp_world (RootAt w B w'.heap.size 0 O K FA FB) ?_ ?_
  · have ho1 := hO.below (w' := (w'.alloc (.cells (Array.replicate 32 (.int .u8 0)) 23)).alloc (.cells (Array.replicate 32 (.int .u8 0)) 23)) (((Below.refl _ _).alloc (Nat.le_refl _) _).alloc (by simp) _)
    refine ⟨(hbb.alloc (by omega) _).alloc (by simp; omega) _, ?_, ?_, ho1, ⟨p0, ?_, hp2⟩, ⟨q0, ?_, hq2⟩⟩
    · exact ((rowIs_new w' (Array.replicate 32 (.int .u8 0)) 23 w'.heap.size 32 (fun _ => v8 0#8) rfl (by simp) z32).alloc _).congr fun i _ => by simp [upTo]
    · exact (rowIs_new (w'.alloc _) (Array.replicate 32 (.int .u8 0)) 23 (w'.heap.size + 1) 32 (fun _ => v8 0#8) (by simp) (by simp) z32).congr fun i _ => by simp [upTo]
    · rw [heap_alloc_old _ _ (by simp; omega), heap_alloc_old _ _ (by omega)]; exact hp1
    · rw [heap_alloc_old _ _ (by simp; omega), heap_alloc_old _ _ (by omega)]; exact hq1
  have hOlt : ∀ b o, O = some ⟨b, o, none⟩ → b < w'.heap.size := by
    intro b o e
    obtain ⟨b', o', e', hlt, _⟩ := hO (by simp [HL.out])
    rw [e] at e'
    injection e' with e'
    injection e' with e1
    omega
  clear hbb hp1 hp2 hq1 hq2 hO z32
  generalize w'.heap.size = X at *
  intro W2 hR
  go_wp2_with fail
  go_loopw [10] (fun i wr => ∃ k : Nat, k ≤ 32 ∧ i = .int .i64 k ∧ RootAt w B X k O K FA FB wr) (fun i _ => 32 - (intOf i).toNat)
  case atStart => exact ⟨0, by omega, rfl, hR⟩
  clear hR
  case round =>
    obtain ⟨k, hk, rfl, hb, hx, hy, ho, hp, hq⟩ := hrel
    by_cases hlt : k < 32
    · obtain ⟨b, o, x1, hOe, hc1, hx1⟩ := ho.at_ (j := k) (by rw [bys_length, HL.out]; omega)
      obtain ⟨b', o', x2, hOe', hc2, hx2⟩ := ho.at_ (j := 32 + k) (by rw [bys_length, HL.out]; omega)
      rw [hOe] at hOe'
      obtain ⟨rfl, rfl⟩ : b = b' ∧ o = o' := by simpa using hOe'
      clear hOe'
      have hbl := hOlt b o hOe
      have hv1 : Value.int .u8 x1 = v8 (FA k) := by
        have : (bys K)[k]? = some (n8 (K.getD k 0#8)) := by
          unfold bys
          rw [List.getElem?_map, List.getElem?_eq_getElem (by rw [HL.out]; omega)]
          simp only [Option.map_some, List.getD_eq_getElem?_getD]
          rw [List.getElem?_eq_getElem (by rw [HL.out]; omega)]
          rfl
        rw [hx1] at this
        injection this with this
        rw [this, HRA.out]
      have hv2 : Value.int .u8 x2 = v8 (FB k) := by
        have : (bys K)[32 + k]? = some (n8 (K.getD (32 + k) 0#8)) := by
          unfold bys
          rw [List.getElem?_map, List.getElem?_eq_getElem (by rw [HL.out]; omega)]
          simp only [Option.map_some, List.getD_eq_getElem?_getD]
          rw [List.getElem?_eq_getElem (by rw [HL.out]; omega)]
          rfl
        rw [hx2] at this
        injection this with this
        rw [this, HRB.out]
      rw [hv1] at hc1
      rw [hv2] at hc2
      clear hx1 hx2 hv1 hv2
      have c1 := hx.cell (i := k) hlt
      have f1 := hx.frozen k
      have HO := Lib.hid hOe
      subst hOe
      have hbx : (⟨b, o + (32 + k), none⟩ : Addr).block ≠ (⟨X, k, none⟩ : Addr).block := by simp only; omega
      have hc2' : (wr.setCell ⟨X, k, none⟩ (v8 (FA k))).cell? ⟨b, o + (32 + k), none⟩ = some (v8 (FB k)) := by
        rw [World.cell?_setCell_other _ _ _ _ (fun e => by injection e with e; omega)]; exact hc2
      have hy' := hy.setOther (a := ⟨X, k, none⟩) (show X + 1 ≠ X by omega) (v8 (FA k))
      have c2 := hy'.cell (i := k) hlt
      have f2 := hy'.frozen k
      have hk0 : (k : Int) < 32 := by omega
      go_wp2_with fail
      go_roundw
      case rel =>
        have ho1 := ho.only (g := X) (fun b' o' e => by rw [HO.out] at e; injection e with e; injection e with e1 e2; omega) ((Only.refl X wr).setCell k (v8 (FA k)))
        have ho2 := ho1.only (g := X + 1) (fun b' o' e => by rw [HO.out] at e; injection e with e; injection e with e1 e2; omega) ((Only.refl (X + 1) _).setCell k (v8 (FB k)))
        obtain ⟨p0, hp1, hp2⟩ := hp
        obtain ⟨q0, hq1, hq2⟩ := hq
        refine ⟨k + 1, by omega, by go_num, (hb.setCell (show B ≤ X by omega) _).setCell (show B ≤ X + 1 by omega) _, ?_, ?_, ho2, ⟨p0, ?_, hp2⟩, ⟨q0, ?_, hq2⟩⟩
        · exact ((hx.set k _).setOther (show X ≠ X + 1 by omega) _).congr fun j _ => upTo_step FA k j
        · exact (hy'.set k _).congr fun j _ => upTo_step FB k j
        · rw [Below.heap_setCell _ _ _ _ (show B + 2 ≠ X + 1 by omega), Below.heap_setCell _ _ _ _ (show B + 2 ≠ X by omega)]; exact hp1
        · rw [Below.heap_setCell _ _ _ _ (show B + 3 ≠ X + 1 by omega), Below.heap_setCell _ _ _ _ (show B + 3 ≠ X by omega)]; exact hq1
      case measure => simp [intOf]; omega
    · have hk32 : k = 32 := by omega
      subst hk32
      have hdk : decide (((32 : Nat) : Int) < 32) = false := by decide
      have hx' := hx.congr (g := fun i => v8 (FA i)) fun i hi => by unfold upTo; rw [if_pos hi]
      have hy' := hy.congr (g := fun i => v8 (FB i)) fun i hi => by unfold upTo; rw [if_pos hi]
      have rgx := rangeAt_row hx'
      have rgy := rangeAt_row hy'
      clear hx hy hx' hy' ho hOlt
      go_upto_region 8 with (fail)
      have iK : ∀ f : Nat → BitVec 8, (Tryd.prog.info? 23).map (·.size) = some (arr8 32 f).toList.length := fun f => by simp only [Array.length_toList, arr8_size]; kernel_rfl
      refine wp_region_noPanic ?_
      refine wp_region_held_drew (S := StQ w B X FA FB) (by kernel_rfl) ⟨rgx, rgy, hp, hq, hb.drew⟩ (fun hHeld => ?_)
      clear rgx rgy hp hq hb
      refine held_load 0 23 (.tmp 8) (some 36) X 0 (arr8 32 FA).toList _ (by kernel_rfl) (by kernel_rfl) (fun w h => h.g) Tryd.underlying23 rfl (iK FA) (by kernel_rfl) (by kernel_rfl) (by kernel_rfl) (fun _ _ _ _ _ h => h) hHeld ?_
      refine held_load 1 23 (.tmp 9) (some 37) (X + 1) 0 (arr8 32 FB).toList _ (by kernel_rfl) (by kernel_rfl) (fun w h => h.h) Tryd.underlying23 rfl (iK FB) (by kernel_rfl) (by kernel_rfl) (by kernel_rfl) (fun _ _ _ _ _ h => h) hHeld ?_
      obtain ⟨ox, ex, lx⟩ := hHeld.x
      refine held_ready [2] (by kernel_rfl) (by simp) (rdy_storeR 2 23 (.tmp 4) (.tmp 36) (B + 2) (arr8 32 FA) 23 ox (by kernel_rfl) (by kernel_rfl) ex (by kernel_rfl) (by rw [lx, arr8_size]) (arr8_one _ _) (hHeld.set hXB (B + 2) (by omega) FA) ?_ AllReadyH.nil)
      intro hHeld
      have hrx := setRow_heap wr.drew (B + 2) _ (arr8 32 FA) _ _ ex
      obtain ⟨oy, ey, ly⟩ := hHeld.y
      refine held_ready [3] (by kernel_rfl) (by simp) (rdy_storeR 3 23 (.tmp 5) (.tmp 37) (B + 3) (arr8 32 FB) 23 oy (by kernel_rfl) (by kernel_rfl) ey (by kernel_rfl) (by rw [ly, arr8_size]) (arr8_one _ _) (hHeld.set hXB (B + 3) (by omega) FB) ?_ AllReadyH.nil)
      intro hHeld
      have hrx := (setRow_ne (wr.drew.setRow (B + 2) (arr8 32 FA)) (B + 3) (arr8 32 FB) (B + 2) (by omega)).trans hrx
      have hry := setRow_heap (wr.drew.setRow (B + 2) (arr8 32 FA)) (B + 3) _ (arr8 32 FB) _ _ ey
      refine wpAnyH_done (by kernel_rfl) ?_ _
      refine NoPanic.normal ?_
      simp only [Act.put, List.setIfInBounds_toArray, List.set_cons_zero, List.set_cons_succ]
      go_wp2_with fail
      refine bodyPost_ret (results_two_rows rfl _ _ _ _ _ _ _ _ _ _ _ rfl hrx rfl hry Tryd.underlying23 rfl (by kernel_rfl) (by kernel_rfl)) rfl ?_
      rw [HB.out, HFA.out, HFB.out]
      exact ⟨rfl, hHeld.b⟩
end Go.Proofs.YtccchhfcoicgcaaDoor
