import Derived.Test.YtelggkgfpaadfaaDoorTgr
import Derived.Laws.OwnMore
namespace Go.Proofs.YtelggkgfpaadfaaDoor
open Go.RowKit

theorem bsl_zero (w : World) : (Instr.buildSlice 27 0 #[]).run Tryd.prog w = .ok (.slice (some ⟨w.heap.size, 0, none⟩) 0 0) (w.alloc (.cells #[] 25)) := by kernel_rfl
theorem own_zero (w : World) : (w.alloc (.cells #[] 25)).ownsRow w.heap.size 25 32 (.slice (some ⟨w.heap.size, 0, none⟩) 0 0) ([] : List (Nat → BitVec 8)).length (hcells []) :=
  ⟨rfl, .inr ⟨w.heap.size, 0, #[], rfl, Nat.le_refl _, by show (w.heap.push _)[w.heap.size]? = _; simp, Nat.le_refl _, by unfold maxLen; omega, rfl, rfl⟩⟩
/-- many hashes more -/
theorem run_hs (ty : TypeId) (W : World) (base : Nat) (v : Value) (gs hs : List (Nat → BitVec 8)) (b o c : Nat) (hown : W.ownsRow base 25 32 v gs.length (hcells gs)) (hA : SlRead W (some ⟨b, o, none⟩) (hcells hs)) (hp : 0 < hs.length) (hb : base ≤ W.heap.size) (hl : gs.length + hs.length ≤ 100000) :
    ∃ v' w', (Builtin.append_ #[27, 27] ty #[v, .slice (some ⟨b, o, none⟩) hs.length c]).run Tryd.prog W = .ok v' w' ∧ w'.ownsRow base 25 32 v' (gs ++ hs).length (hcells (gs ++ hs)) ∧ W.grownBy w' v.ownBlock := by
  obtain ⟨i0, hi, hz0, hz1, hz2⟩ := info_parts info25
  obtain ⟨b', o', e1, _, hcl⟩ := hA (by rw [hcells_length]; omega)
  simp only [Option.some.injEq, Addr.mk.injEq, and_true] at e1
  obtain ⟨eb, eo⟩ := e1
  rw [← eb, ← eo] at hcl
  obtain ⟨v', w', hr, h2, h3, _, _⟩ := run_append_own_at (P := Tryd.prog) W base 27 ty 25 i0 _ 32 32 Tryd.underlying27 hi hz0 hz1 hz2 (by simp [Value.cells]) (by decide) v _ _ hown ⟨b, o, none⟩ hs.length c (hcells hs) (by rw [hcells_length]; omega) (by
    intro j u hu
    rw [add_eq]
    exact hcl j u hu) (by
    intro u hu
    obtain ⟨f, _, hu⟩ := List.mem_flatMap.1 hu
    obtain ⟨i, hi, e⟩ := List.getElem_of_mem hu
    have hi32 : i < 32 := by simpa using hi
    have := arr8_get 32 f i hi32
    rw [← e]
    rw [Array.getElem?_eq_getElem (by simpa using hi32)] at this
    simp only [Option.some.injEq] at this
    simp only [Array.getElem_toList, this]
    rfl) (by unfold maxLen; omega) (by omega) hb
  refine ⟨v', w', hr, ?_, h3⟩
  rw [hcells_append]
  simpa using h2
theorem idx32_k (b o n cap k : Nat) (hk : k < n) (w : World) : (Instr.indexAt 27 (.slice (some ⟨b, o, none⟩) n cap) (.int .i64 (k : Int))).run Tryd.prog w = .ok (.pointer (some ⟨b, o + 32 * k, none⟩)) w := by
  have hu := Tryd.underlying27
  have e2 : Tryd.prog.elem 27 = 25 := by simp [Program.elem, hu]
  obtain ⟨i, hi, hz⟩ := Option.map_eq_some_iff.1 info32
  rw [run_indexAt_slice (h := by rw [e2]; exact hu)]
  rw [if_pos (by omega)]
  simp only [e2, sizeOf, typeInfo, Result.andThen, Addr.add, Int.toNat_natCast]
  by_cases h0 : k = 0
  · subst h0; simp [hi, hz, Result.andThen]
  · have h1 : ¬ k * 32 = 0 := by omega
    simp [hi, hz, Result.andThen, h1, Nat.mul_comm]
theorem hcells_at (gs : List (Nat → BitVec 8)) : ∀ (N : Nat) (f : Nat → BitVec 8), gs[N]? = some f → ∀ j, j < 32 → (hcells gs)[32 * N + j]? = (arr8 32 f).toList[j]? := by
  induction gs with
  | nil => intro N f h; simp at h
  | cons g gs ih =>
    intro N f h j hj
    simp only [hcells, List.flatMap_cons]
    rcases N with _ | N
    · simp only [List.getElem?_cons_zero, Option.some.injEq] at h
      subst h
      rw [List.getElem?_append_left (by simp; omega)]
      simp
    · simp only [List.getElem?_cons_succ] at h
      rw [List.getElem?_append_right (by simp; omega)]
      have := ih N f h j hj
      rw [← this]
      congr 1
      simp
      omega
theorem idxa_3 (b o : Nat) (w : World) : (Instr.indexAt 25 (.pointer (some ⟨b, o, none⟩)) (.int .i64 3)).run Tryd.prog w = .ok (.pointer (some ⟨b, o + 3, none⟩)) w := by
  rfl
theorem slarr (b o : Nat) (w : World) : (Instr.sliceAt 25 (.pointer (some ⟨b, o, none⟩)) none none none).run Tryd.prog w = .ok (.slice (some ⟨b, o, none⟩) 32 32) w := by
  rfl

theorem wpList_load_run {P : Program} {w : World} {ops : Array Oper} {rest : List Oper} {o : Oper} {a : Act} {Q : Exit → Act → World → Prop} (hw : Region.wanted o (yielded ops a.tmps) = true) (t : TypeId) (x : Operand)
    (ho : o.op = .load t x) (vx : Value) (hx : a.eval x = vx) (v' : Value) (hr : (Instr.loadAt t vx).run P w = .ok v' w)
    (h : wpList P ops Q rest (a.put o.dst v') w) : wpList P ops Q (o :: rest) a w :=
  BigFrame.wpList_want hw fun _ hK => by
    unfold Oper.wp execOp
    simp only [ho, hx, Sem.run_bind, hr]
    exact hK _ _ h
theorem wpList_idx_run {P : Program} {w : World} {ops : Array Oper} {rest : List Oper} {o : Oper} {a : Act} {Q : Exit → Act → World → Prop} (hw : Region.wanted o (yielded ops a.tmps) = true) (t : TypeId) (x y : Operand)
    (ho : o.op = .indexAddr t x y) (vx vy : Value) (hx : (a.eval x, a.eval y) = (vx, vy)) (v' : Value) (hr : (Instr.indexAt t vx vy).run P w = .ok v' w)
    (h : wpList P ops Q rest (a.put o.dst v') w) : wpList P ops Q (o :: rest) a w :=
  BigFrame.wpList_want hw fun _ hK => by
    simp only [Prod.mk.injEq] at hx
    unfold Oper.wp execOp
    simp only [ho, hx.1, hx.2, Sem.run_bind, hr]
    exact hK _ _ h
theorem wpList_store_run {P : Program} {w : World} {ops : Array Oper} {rest : List Oper} {o : Oper} {a : Act} {Q : Exit → Act → World → Prop} (hw : Region.wanted o (yielded ops a.tmps) = true) (t : TypeId) (x y : Operand)
    (ho : o.op = .store t x y) (vx vy : Value) (hx : (a.eval x, a.eval y) = (vx, vy)) (w2 : World) (hr : (Instr.storeAt t vx vy).run P w = .ok () w2)
    (h : wpList P ops Q rest (a.put o.dst undef) w2) : wpList P ops Q (o :: rest) a w :=
  BigFrame.wpList_want hw fun _ hK => by
    simp only [Prod.mk.injEq] at hx
    unfold Oper.wp
    simp [execOp, ho, hx.1, hx.2, hr, Result.andThen]
    exact hK _ _ h
structure Fin (m n b o c g cg : Nat) (h0 DH DG LF : Nat → BitVec 8) (w wx : World) : Prop where
  dh : ∀ w', Below wx.heap.size wx w' → Calls Tryd.prog 18 #[.slice (some ⟨b, o, none⟩) m c] w' fun e w'' => e = .returned (.agg (arr8 32 DH)) ∧ Below w'.heap.size w' w''
  dg : ∀ w', Below wx.heap.size wx w' → Calls Tryd.prog 18 #[.slice (some ⟨g, 0, none⟩) n cg] w' fun e w'' => e = .returned (.agg (arr8 32 DG)) ∧ Below w'.heap.size w' w''
  rh : ∀ w', Below wx.heap.size wx w' → Calls Tryd.prog 17 #[.slice (some ⟨b, o, none⟩) m c] w' fun e w'' => e = .returned (.agg (arr8 32 DH)) ∧ Below w'.heap.size w' w''
  rg : ∀ w', Below wx.heap.size wx w' → Calls Tryd.prog 17 #[.slice (some ⟨g, 0, none⟩) n cg] w' fun e w'' => e = .returned (.agg (arr8 32 DG)) ∧ Below w'.heap.size w' w''
  lf : ∀ w', Below wx.heap.size wx w' → Calls Tryd.prog 11 #[.slice (some ⟨b, o, none⟩) 32 32] w' fun e w'' => e = .returned (.agg (arr8 32 LF)) ∧ Below w'.heap.size w' w''
  hs : ∀ w', Below wx.heap.size wx w' → ∀ A2 c2, SlRead w' A2 (ints .u8 (bys ([0#8] ++ lst 32 h0))) → Calls Tryd.prog 19 #[.slice A2 ([0#8] ++ lst 32 h0).length c2] w' fun e w'' => e = .returned (.agg (arr8 32 LF)) ∧ Below w'.heap.size w' w''
  l0 : ∀ w', Below wx.heap.size wx w' → SlRead w' (some ⟨b, o, none⟩) (ints .u8 (bys (lst 32 h0)))
  wb : Below w.heap.size w wx
theorem Fin.later {m n b o c g cg : Nat} {h0 DH DG LF : Nat → BitVec 8} {w wx w2 : World} (h : Fin m n b o c g cg h0 DH DG LF w wx) (hb : Below wx.heap.size wx w2) : Fin m n b o c g cg h0 DH DG LF w w2 :=
  ⟨fun w' h' => h.dh w' (hb.trans (h'.mono hb.size)), fun w' h' => h.dg w' (hb.trans (h'.mono hb.size)), fun w' h' => h.rh w' (hb.trans (h'.mono hb.size)), fun w' h' => h.rg w' (hb.trans (h'.mono hb.size)), fun w' h' => h.lf w' (hb.trans (h'.mono hb.size)), fun w' h' => h.hs w' (hb.trans (h'.mono hb.size)), fun w' h' => h.l0 w' (hb.trans (h'.mono hb.size)), h.wb.trans (hb.mono h.wb.size)⟩
theorem fin_mk (w W3 wx : World) (hs gx : List (Nat → BitVec 8)) (h0 : Nat → BitVec 8) (ht : List (Nat → BitVec 8)) (b o c g cg m n : Nat) (hm : hs.length = m) (hn : gx.length = n) (hO : SlRead W3 (some ⟨b, o, none⟩) (hcells hs)) (hB3 : Below w.heap.size w W3) (hbx : Below W3.heap.size W3 wx) (hk : KAt W3) (hgx : SlRead wx (some ⟨g, 0, none⟩) (hcells gx)) (hmc : m ≤ c) (hnc : n ≤ cg) (hm1 : m ≤ 1000) (hn1 : n ≤ 1000) (hh : h0 :: ht = hs) :
    ∃ DH DG LF, Fin m n b o c g cg h0 DH DG LF w wx := by
  subst hm hn
  have hO' := hO.below hbx
  have hk' := hk.below hbx
  have hl0 : SlRead wx (some ⟨b, o, none⟩) (ints .u8 (bys (lst 32 h0))) := by
    obtain ⟨b', o', e1, hlt', hc'⟩ := hO' (by rw [hcells_length, ← hh]; simp)
    refine fun _ => ⟨b', o', e1, hlt', fun j u hj => hc' j u ?_⟩
    rw [bys_ints] at hj
    have hjn : j < 32 := by
      have := (List.getElem?_eq_some_iff.1 hj).1
      simpa using this
    have := hcells_at hs 0 h0 (by rw [← hh]; rfl) j hjn
    rw [Nat.mul_zero, Nat.zero_add] at this
    rw [this, ← hj]
    simp [lst, arr8, hjn]
  refine ⟨rootOf hs, rootOf gx, shaOf (0#8 :: lst 32 h0), ?_, ?_, ?_, ?_, ?_, ?_, ?_, ?_⟩
  · exact fun w' hb => drootn_any hs.length hs _ c w' (Nat.le_refl _) (hO'.below hb) hmc (by omega)
  · exact fun w' hb => drootn_any gx.length gx _ cg w' (Nat.le_refl _) (hgx.below hb) hnc (by omega)
  · exact fun w' hb => root_any hs.length hs _ c w' (Nat.le_refl _) (hO'.below hb) hmc (by omega) (hk'.below hb)
  · exact fun w' hb => root_any gx.length gx _ cg w' (Nat.le_refl _) (hgx.below hb) hnc (by omega) (hk'.below hb)
  · intro w' hb
    have := leaf_any (some ⟨b, o, none⟩) (lst 32 h0) 32 w' (hl0.below hb) (by simp) (by simp) (hk'.below hb)
    simpa only [lst_length] using this
  · exact fun w' hb A2 c2 h => dsum_any A2 ([0#8] ++ lst 32 h0) c2 w' h (by simp)
  · exact fun w' hb => hl0.below hb
  · exact hB3.trans (hbx.mono hB3.size)
theorem eq_some (f g : Nat → BitVec 8) : ∃ bb, ∀ w, (Op.equalIn 10000 25 (.agg (arr8 32 f)) (.agg (arr8 32 g))).run Tryd.prog w = .ok bb w := by
  refine ⟨(List.map (fun i => UInt8.ofBitVec (f i)) (List.range 32) == List.map (fun i => UInt8.ofBitVec (g i)) (List.range 32)), fun w => ?_⟩
  rw [arr8_cells, arr8_cells, run_equalIn_bytes w 9998 25 5 32 Tryd.underlying25 Tryd.underlying5 size_u8 _ _ (by simp) (by simp)]
theorem store_u8 (b o : Nat) (x : Int) (w : World) (hc : (w.cell? ⟨b, o, none⟩).isSome) (hz : w.frozen? ⟨b, o, none⟩ = false) : (Instr.storeAt 5 (.pointer (some ⟨b, o, none⟩)) (.int .u8 x)).run Tryd.prog w = .ok () (w.setCell ⟨b, o, none⟩ (.int .u8 x)) := by
  have hu := Tryd.underlying5
  obtain ⟨v, hv⟩ := Option.isSome_iff_exists.1 hc
  simp [Instr.storeAt, Instr.sureAddr, storeVar, hz, Result.andThen, Value.cells, storeCells, Addr.add, run_store _ _ _ (.int .u8 x) _ rfl, hv]
theorem hcells_set (gs : List (Nat → BitVec 8)) (z : BitVec 8) : ∀ (N : Nat) (f : Nat → BitVec 8), gs[N]? = some f → (hcells gs).set (0 + 32 * N + 3) (v8 z) = hcells (gs.set N (fun i => if i = 3 then z else f i)) := by
  induction gs with
  | nil => intro N f h; simp at h
  | cons g gs ih =>
    intro N f h
    rcases N with _ | N
    · simp only [List.getElem?_cons_zero, Option.some.injEq] at h
      subst h
      simp only [hcells, List.flatMap_cons, List.set_cons_zero]
      rw [List.set_append_left _ _ (by simp)]
      congr 1
    · simp only [List.getElem?_cons_succ] at h
      have := ih N f h
      simp only [hcells, List.flatMap_cons, List.set_cons_succ] at this ⊢
      rw [List.set_append_right _ _ (by simp; omega), ← this]
      congr 2

structure ToAt (B : Nat) (W0 : World) (v : Value) (gs : List (Nat → BitVec 8)) (wr : World) : Prop where
  own : wr.ownsRow B 25 32 v gs.length (hcells gs)
  b : Below B W0 wr

set_option maxRecDepth 100000 in
set_option maxHeartbeats 1600000 in
theorem told_walk (A : Option Addr) (xs : List Int) (ca : Nat) (p q : Int) (w : World) (hA : SlRead w A (ints .i64 xs)) (hxs : ∀ x ∈ xs, -9223372036854775808 ≤ x ∧ x ≤ 9223372036854775807) (hla : xs.length ≤ 9223372036854775807) (hk : KAt w) :
    Calls Tryd.prog 5 #[.slice A xs.length ca, .int .i64 p, .int .i64 q] w fun e w' => e = .returned (.bool true) ∧ Below w.heap.size w w' := by
  go_enter Tryd.func5, Tryd.ntmps5
  go_wp2_with fail
  refine (first_any w hk).mono ?_
  rintro e W1 ⟨rfl, hB1⟩
  have hA1 := hA.below hB1
  have hk1 := hk.below hB1
  clear hA hk
  by_cases h1 : 60 < xs.length
  · have b1 : decide ((60 : Int) < (xs.length : Int)) = true := by simp; omega
    go_wp2_with fail
    go_ret
    exact ⟨rfl, hB1⟩
  have b1 : decide ((60 : Int) < (xs.length : Int)) = false := by simp; omega
  have hsq := SeqAt.new (cap := ca) hA1
  have hba : Below W1.heap.size W1 (W1.alloc (.cells #[.slice A xs.length ca, .int .i64 0] 31)) := (Below.refl _ _).alloc (Nat.le_refl _) _
  have hh := hashes_any W1.heap.size 0 A xs ca 50 _ hsq (by omega) (by omega) hxs
  go_wp2_with fail
  refine hh.mono ?_
  rintro e W3 ⟨hs, O, c, rfl, hl1, hl2, hl3, hO, honly⟩
  have hb3 : Below W1.heap.size (W1.alloc (.cells #[.slice A xs.length ca, .int .i64 0] 31)) W3 := honly.below (Nat.le_refl _) (by simp)
  have hb13 : Below W1.heap.size W1 W3 := hba.trans hb3
  have hk3 := hk1.below hb13
  have hB3 : Below w.heap.size w W3 := hB1.trans (hb13.mono hB1.size)
  clear hsq hba hh honly hb3 hb13 hk1 hB1 hA1
  rcases hs with _ | ⟨h0, ht⟩
  · go_wp2_with fail
    go_ret
    exact ⟨rfl, hB3⟩
  have hlen1 : 1 ≤ (h0 :: ht).length := by simp
  have e0 : (((h0 :: ht).length : Int) == 0) = false := by simp; omega
  obtain ⟨b, o, rfl, hblt, hcell⟩ := hO (by rw [hcells_length]; omega)
  have hrg : W3.rangeAt b o (arr8 32 h0).toList := fun j v hv => hcell j v (by
    simp only [hcells, List.flatMap_cons]
    rw [List.getElem?_append_left (by exact (List.getElem?_eq_some_iff.1 hv).1)]
    exact hv)
  clear hcell
  have hO1 := hO.below ((Below.refl _ _).alloc (Nat.le_refl _) (.cells #[] 25))
  obtain ⟨v5, W5, hr5, hown5, hg5⟩ := run_hs 27 (W3.alloc (.cells #[] 25)) W3.heap.size _ [] (h0 :: ht) b o c (own_zero W3) hO1 (by omega) (by simp) (by simp at hl1 ⊢; omega)
  have hbz := bsl_zero W3
  have hat5 : ToAt W3.heap.size W3 v5 (h0 :: ht) W5 := ⟨hown5, ((Below.refl _ _).alloc (Nat.le_refl _) _).trans ((Below.refl _ _).grown hg5 (by simp) (fun q hq => ((own_zero W3).lt q hq).1))⟩
  clear hO1 hown5 hg5
  have hl2' : (h0 :: ht).length ≤ c := hl2
  generalize hhs : h0 :: ht = hs at *
  obtain ⟨gs, hgs⟩ : ∃ gs, gs = hs := ⟨hs, rfl⟩
  have hgl : gs.length = hs.length := by rw [hgs]
  rw [← hgs] at hat5
  obtain ⟨g5, c5, cur, rfl, hB5, _, hc5, hm5, _, _⟩ : ∃ g cap cur, v5 = .slice (some ⟨g, 0, none⟩) hs.length cap ∧ W3.heap.size ≤ g ∧ W5.heap[g]? = some (.cells cur 25 (0, 0)) ∧ hs.length ≤ cap ∧ cap ≤ maxLen ∧ cur.size = cap * 32 ∧ cur.toList.take (hs.length * 32) = hcells gs := by
    rcases hat5.own.2 with ⟨_, h⟩ | h
    · omega
    · rw [hgl] at h; exact h
  obtain ⟨N, hN1, hN2⟩ := exists_mod q (hs.length : Int) (by omega)
  obtain ⟨M, hM1, hM2⟩ := exists_mod p 3 (by omega)
  have hNs : N < hs.length := by omega
  clear hgs hN2
  go_wp2_with (first | (refine wpList_bsl_run (by kernel_rfl) 27 0 _ rfl #[] (by kernel_rfl) _ _ hbz ?_) | (at_builtin; refine wpList_append_run_g (by kernel_rfl) _ _ _ _ rfl _ _ rfl rfl _ _ hr5 ?_))
  clear hr5 hbz
  refine (number_nat q _ N W5 (by omega) hN1).mono ?_
  rintro e W6 ⟨rfl, n6, rfl⟩
  have hat6 : ToAt W3.heap.size W3 (.slice (some ⟨g5, 0, none⟩) hs.length c5) gs (W5.drewN n6) := ⟨hat5.own, hat5.b.trans ((Below.drewNr (w := W5) n6).mono hat5.b.size)⟩
  generalize W5.drewN n6 = W6 at *
  clear hat5 hN1
  go_wp2_with fail
  refine (number_nat p 3 M W6 (by omega) hM1).mono ?_
  rintro e W7 ⟨rfl, n7, rfl⟩
  have hat7 : ToAt W3.heap.size W3 (.slice (some ⟨g5, 0, none⟩) hs.length c5) gs (W6.drewN n7) := ⟨hat6.own, hat6.b.trans ((Below.drewNr (w := W6) n7).mono hat6.b.size)⟩
  generalize W6.drewN n7 = W7 at *
  clear hat6 hM1
  have hM : M = 0 ∨ M = 1 ∨ M = 2 := by omega
  have hrd : SlRead W7 (some ⟨g5, 0, none⟩) (hcells gs) := by have := hat7.own; rw [← hgl] at this; exact SlRead.of_own32 this
  have hgN : ∃ f, gs[N]? = some f := ⟨gs[N]'(by omega), List.getElem?_eq_getElem (by omega)⟩
  obtain ⟨f, hf⟩ := hgN
  rcases hM with rfl | rfl | rfl
  · have m0 : (((0 : Nat) : Int) == 0) = true := by decide
    have hown := hat7.own
    have hbw := hat7.b
    clear hat7
    generalize hm : hs.length = m at *
    go_upto_region 14 with (fail)
    have hbd := hbw.trans ((Below.drewNr (w := W7) 1).mono hbw.size)
    have hownd : W7.drew.ownsRow W3.heap.size 25 32 (.slice (some ⟨g5, 0, none⟩) m c5) gs.length (hcells gs) := hown
    rw [hgl] at hownd
    have hcell3 := hownd.cells (g := g5) rfl (32 * N + 3) (v8 (f 3)) (by rw [hcells_at gs N f hf 3 (by omega)]; simp [arr8])
    have hg5l := (hownd.lt g5 rfl).2
    rw [add_eq, show 0 + (32 * N + 3) = 0 + 32 * N + 3 by omega] at hcell3
    have HL3 : ∀ w', Below W7.drew.heap.size W7.drew w' → (Instr.loadAt 5 (.pointer (some ⟨g5, 0 + 32 * N + 3, none⟩))).run Tryd.prog w' = .ok (v8 (f 3)) w' := fun w' hb => load_u8' g5 _ _ w' ((hb.cell (p := ⟨g5, 0 + 32 * N + 3, none⟩) hg5l).trans hcell3)
    refine wp_region_spec_tail 10 [Sp.k 0 (some 42) [] (.slice (some ⟨g5, 0, none⟩) m c5),
      Sp.k 1 (some 43) [] (.int .i64 N),
      Sp.k 2 (some 44) [] (.slice (some ⟨g5, 0, none⟩) m c5),
      Sp.k 3 (some 45) [] (.int .i64 N),
      Sp.k 4 (some 46) [2, 3] (.pointer (some ⟨g5, 0 + 32 * N, none⟩)),
      Sp.k 5 (some 47) [4] (.pointer (some ⟨g5, 0 + 32 * N + 3, none⟩)),
      Sp.k 6 (some 48) [5] (v8 (f 3)),
      Sp.k 7 (some 49) [6] (.int .u8 (IntKind.u8.wrap (n8 (f 3) + 1))),
      Sp.k 8 (some 50) [0, 1] (.pointer (some ⟨g5, 0 + 32 * N, none⟩)),
      Sp.k 9 (some 51) [8] (.pointer (some ⟨g5, 0 + 32 * N + 3, none⟩))] (by kernel_rfl) (by kernel_rfl)
      ⟨owes_move 0 (some 42) [] (.slice (some ⟨g5, 0, none⟩) m c5) (Go.Operand.tmp 9) (fun v => by kernel_rfl) (fun v => by kernel_rfl),
      owes_move 1 (some 43) [] (.int .i64 N) (Go.Operand.tmp 10) (fun v => by kernel_rfl) (fun v => by kernel_rfl),
      owes_move 2 (some 44) [] (.slice (some ⟨g5, 0, none⟩) m c5) (Go.Operand.tmp 9) (fun v => by kernel_rfl) (fun v => by kernel_rfl),
      owes_move 3 (some 45) [] (.int .i64 N) (Go.Operand.tmp 10) (fun v => by kernel_rfl) (fun v => by kernel_rfl),
      owes_index 4 (some 46) [2, 3] (.pointer (some ⟨g5, 0 + 32 * N, none⟩)) 27 (Go.Operand.tmp 44) (Go.Operand.tmp 45) (.slice (some ⟨g5, 0, none⟩) m c5) (.int .i64 N) (fun v => by kernel_rfl) (fun v => by kernel_rfl) (idx32_k g5 0 m c5 N (by omega)),
      owes_index 5 (some 47) [4] (.pointer (some ⟨g5, 0 + 32 * N + 3, none⟩)) 25 (Go.Operand.tmp 46) (Go.Operand.const (Go.Value.int Go.IntKind.i64 3)) (.pointer (some ⟨g5, 0 + 32 * N, none⟩)) (Go.Value.int Go.IntKind.i64 3) (fun v => by kernel_rfl) (fun v => by kernel_rfl) (idxa_3 g5 _),
      owes_load 6 (some 48) [5] (v8 (f 3)) 5 (Go.Operand.tmp 47) (.pointer (some ⟨g5, 0 + 32 * N + 3, none⟩)) (fun v => by kernel_rfl) (fun v => by kernel_rfl) (HL3),
      owes_bin 7 (some 49) [6] (.int .u8 (IntKind.u8.wrap (n8 (f 3) + 1))) Go.BinOp.add 5 (Go.Operand.tmp 48) (Go.Operand.const (Go.Value.int Go.IntKind.u8 1)) 5 (v8 (f 3)) (Go.Value.int Go.IntKind.u8 1) (fun v => by kernel_rfl) (fun v => by kernel_rfl) (fun w => add_u8 _ _ _ (f 3) 1#8 w),
      owes_index 8 (some 50) [0, 1] (.pointer (some ⟨g5, 0 + 32 * N, none⟩)) 27 (Go.Operand.tmp 42) (Go.Operand.tmp 43) (.slice (some ⟨g5, 0, none⟩) m c5) (.int .i64 N) (fun v => by kernel_rfl) (fun v => by kernel_rfl) (idx32_k g5 0 m c5 N (by omega)),
      owes_index 9 (some 51) [8] (.pointer (some ⟨g5, 0 + 32 * N + 3, none⟩)) 25 (Go.Operand.tmp 50) (Go.Operand.const (Go.Value.int Go.IntKind.i64 3)) (.pointer (some ⟨g5, 0 + 32 * N, none⟩)) (Go.Value.int Go.IntKind.i64 3) (fun v => by kernel_rfl) (fun v => by kernel_rfl) (idxa_3 g5 _), trivial⟩ ?_
    intro v w2 hb hall
    clear hall HL3
    have hown2 : w2.ownsRow W3.heap.size 25 32 (.slice (some ⟨g5, 0, none⟩) m c5) m (hcells gs) := ownsRow_via hownd (fun q _ hl => hb.block q hl)
    have hb2 := hbd.trans (hb.mono hbd.size)
    have hcell2 := (hb.cell (p := ⟨g5, 0 + 32 * N + 3, none⟩) hg5l).trans hcell3
    obtain ⟨z, hz⟩ := wrap_v8 (n8 (f 3) + 1) (w := w2)
    have hfz : w2.frozen? ⟨g5, 0 + 32 * N + 3, none⟩ = false := by
      rcases hown2.2 with ⟨h, _⟩ | ⟨g', cap', cur', h, _, hg', _, _, _, _⟩
      · simp at h
      · simp only [Value.slice.injEq, Option.some.injEq, Addr.mk.injEq, and_true, true_and] at h
        obtain ⟨rfl, rfl⟩ := h
        exact frozen_of_row w2 g5 _ cur' 25 hg'
    have hst := store_u8 g5 (0 + 32 * N + 3) (IntKind.u8.wrap (n8 (f 3) + 1)) w2 (Option.isSome_of_eq_some hcell2) hfz
    obtain ⟨hown3, hg3⟩ := hown2.stored (0 + 32 * N + 3) (.int .u8 (IntKind.u8.wrap (n8 (f 3) + 1)))
    have hb3 := hb2.setCell (p := ⟨g5, 0 + 32 * N + 3, none⟩) hB5 (.int .u8 (IntKind.u8.wrap (n8 (f 3) + 1)))
    generalize w2.setCell ⟨g5, 0 + 32 * N + 3, none⟩ (.int .u8 (IntKind.u8.wrap (n8 (f 3) + 1))) = wx at *
    rw [hz, hcells_set gs z N f hf] at hown3
    have hgx := SlRead.of_own32 hown3
    obtain ⟨DH, DG, LF, hfin⟩ := fin_mk w W3 wx hs (gs.set N (fun i => if i = 3 then z else f i)) h0 ht b o c g5 c5 m m hm (by rw [List.length_set, hgl]) hO hB3 hb3 hk3 hgx hl2' hc5 (by omega) (by omega) hhs
    clear hown hbw hbd hownd hcell3 hb hown2 hb2 hcell2 hfz hown3 hg3 hb3 hgx hrd
    simp only [putsK_k, putsK_nil, Act.put, List.setIfInBounds_toArray, List.set_cons_zero, List.set_cons_succ]
    simp only [List.drop_succ_cons, List.drop_zero]
    refine wpList_store_run (by kernel_rfl) 5 _ _ rfl _ _ rfl _ hst ?_
    clear hst
    simp only [Act.put]
    obtain ⟨bb, hbb⟩ := eq_some DH DG
    cases bb
    · go_upto_region 17 with (fail)
      refine wp_region_text [Sp.k 0 (some 61) [] (.slice (some ⟨b, o, none⟩) m c),
        Sp.k 1 (some 62) [0] (.agg (arr8 32 DH)),
        Sp.k 2 (some 63) [] (.slice (some ⟨g5, 0, none⟩) m c5),
        Sp.k 3 (some 64) [2] (.agg (arr8 32 DG)),
        Sp.k 4 (some 65) [1, 3] (.bool false)] (by kernel_rfl)
        ⟨owes_move 0 (some 61) [] (.slice (some ⟨b, o, none⟩) m c) (Go.Operand.tmp 8) (fun v => by kernel_rfl) (fun v => by kernel_rfl),
        owes_call 1 (some 62) [0] (.agg (arr8 32 DH)) 18 #[Go.Operand.tmp 61] #[27] (fun v => by kernel_rfl) (fun _ _ => by kernel_rfl) (fun v w' hb ho => by
            exact ⟨#[.slice (some ⟨b, o, none⟩) m c], by kernel_rfl, (hfin.dh w' hb).mono (fun _ _ h => h)⟩),
        owes_move 2 (some 63) [] (.slice (some ⟨g5, 0, none⟩) m c5) (Go.Operand.tmp 9) (fun v => by kernel_rfl) (fun v => by kernel_rfl),
        owes_call 3 (some 64) [2] (.agg (arr8 32 DG)) 18 #[Go.Operand.tmp 63] #[27] (fun v => by kernel_rfl) (fun _ _ => by kernel_rfl) (fun v w' hb ho => by
            exact ⟨#[.slice (some ⟨g5, 0, none⟩) m c5], by kernel_rfl, (hfin.dg w' hb).mono (fun _ _ h => h)⟩),
        owes_eql 4 (some 65) [1, 3] 25 (Go.Operand.tmp 62) (Go.Operand.tmp 64) 25 (arr8 32 DH) (arr8 32 DG) false (fun v => by kernel_rfl) (fun v => by kernel_rfl) (by kernel_rfl) (hbb), trivial⟩ ?_
      intro v w2 hb hall
      have hfin := hfin.later hb
      clear hall hb
      simp only [putsL_k, putsL_nil, List.set_cons_zero, List.set_cons_succ]
      have hfin := hfin.later (Below.drewNr (w := w2) 1)
      go_upto_region 19 with (fail)
      refine wp_region_spec_v [Sp.k 0 (some 67) [] (.bool true),
        Sp.k 1 (some 68) [0] (.bool true),
        Sp.k 2 (some 69) [1] (.slice (some ⟨b, o, none⟩) m c),
        Sp.k 3 (some 70) [1, 2] (.agg (arr8 32 DH)),
        Sp.k 4 (some 71) [1] (.slice (some ⟨g5, 0, none⟩) m c5),
        Sp.k 5 (some 72) [1, 4] (.agg (arr8 32 DG)),
        Sp.k 6 (some 73) [1, 3, 5] (.bool true),
        Sp.k 7 (some 74) [1, 6] (.bool true),
        Sp.k 8 (some 75) [7] (.bool true),
        Sp.k 9 (some 76) [8] (.slice (some ⟨b, o, none⟩) m c),
        Sp.k 10 (some 77) [8, 9] (.pointer (some ⟨b, o, none⟩)),
        Sp.k 11 (some 78) [8, 10] (.slice (some ⟨b, o, none⟩) 32 32),
        Sp.k 12 (some 79) [8, 11] (.agg (arr8 32 LF)),
        Sp.o 13 (some 80) [8] (SlEx [0#8]),
        Sp.k 14 (some 81) [8] (.slice (some ⟨b, o, none⟩) m c),
        Sp.k 15 (some 82) [8, 14] (.pointer (some ⟨b, o, none⟩)),
        Sp.k 16 (some 83) [8, 15] (.slice (some ⟨b, o, none⟩) 32 32),
        Sp.o 17 (some 84) [8, 13, 16] (SlIs ([0#8] ++ lst 32 h0)),
        Sp.k 18 (some 85) [8, 17] (.agg (arr8 32 LF)),
        Sp.k 19 (some 86) [8, 12, 18] (.bool true),
        Sp.k 20 (some 87) [8, 19] (.bool true),
        Sp.k 21 (some 6) [20] (.bool true)] (by kernel_rfl) (by kernel_rfl)
        ⟨owes_move 0 (some 67) [] (.bool true) (Go.Operand.tmp 7) (fun v => by kernel_rfl) (fun v => by kernel_rfl),
        owes_move 1 (some 68) [0] (.bool true) (Go.Operand.tmp 67) (fun v => by kernel_rfl) (fun v => by kernel_rfl),
        owes_move 2 (some 69) [1] (.slice (some ⟨b, o, none⟩) m c) (Go.Operand.tmp 8) (fun v => by kernel_rfl) (fun v => by kernel_rfl),
        owes_call 3 (some 70) [1, 2] (.agg (arr8 32 DH)) 17 #[Go.Operand.tmp 69] #[27] (fun v => by kernel_rfl) (fun _ _ => by kernel_rfl) (fun v w' hb ho => by
            exact ⟨#[.slice (some ⟨b, o, none⟩) m c], by kernel_rfl, (hfin.rh w' hb).mono (fun _ _ h => h)⟩),
        owes_move 4 (some 71) [1] (.slice (some ⟨g5, 0, none⟩) m c5) (Go.Operand.tmp 9) (fun v => by kernel_rfl) (fun v => by kernel_rfl),
        owes_call 5 (some 72) [1, 4] (.agg (arr8 32 DG)) 17 #[Go.Operand.tmp 71] #[27] (fun v => by kernel_rfl) (fun _ _ => by kernel_rfl) (fun v w' hb ho => by
            exact ⟨#[.slice (some ⟨g5, 0, none⟩) m c5], by kernel_rfl, (hfin.rg w' hb).mono (fun _ _ h => h)⟩),
        owes_neq 6 (some 73) [1, 3, 5] 25 (Go.Operand.tmp 70) (Go.Operand.tmp 72) 25 (arr8 32 DH) (arr8 32 DG) false (fun v => by kernel_rfl) (fun v => by kernel_rfl) (by kernel_rfl) (hbb),
        owes_pick 7 (some 74) [1, 6] (.bool true) (Go.Operand.tmp 68) (Go.Operand.tmp 73) (Go.Operand.const (Go.Value.bool false)) true (fun v => by kernel_rfl) (fun v => by kernel_rfl) (fun v => by kernel_rfl),
        owes_move 8 (some 75) [7] (.bool true) (Go.Operand.tmp 74) (fun v => by kernel_rfl) (fun v => by kernel_rfl),
        owes_move 9 (some 76) [8] (.slice (some ⟨b, o, none⟩) m c) (Go.Operand.tmp 8) (fun v => by kernel_rfl) (fun v => by kernel_rfl),
        owes_index 10 (some 77) [8, 9] (.pointer (some ⟨b, o, none⟩)) 27 (Go.Operand.tmp 76) (Go.Operand.const (Go.Value.int Go.IntKind.i64 0)) (.slice (some ⟨b, o, none⟩) m c) (Go.Value.int Go.IntKind.i64 0) (fun v => by kernel_rfl) (fun v => by kernel_rfl) (idx32_0 b o m c (by omega)),
        owes_slice 11 (some 78) [8, 10] (.slice (some ⟨b, o, none⟩) 32 32) 25 (Go.Operand.tmp 77) none none none (.pointer (some ⟨b, o, none⟩)) none none none (fun v => by kernel_rfl) (fun v => by kernel_rfl) (slarr b o),
        owes_call 12 (some 79) [8, 11] (.agg (arr8 32 LF)) 11 #[Go.Operand.tmp 78] #[23] (fun v => by kernel_rfl) (fun _ _ => by kernel_rfl) (fun v w' hb ho => by
            exact ⟨#[.slice (some ⟨b, o, none⟩) 32 32], by kernel_rfl, (hfin.lf w' hb).mono (fun _ _ h => h)⟩),
        owes_bsl 13 (some 80) [8] (SlEx [0#8]) 23 5 1 #[(0, Go.Operand.const (Go.Value.int Go.IntKind.u8 0))] (#[(0, Go.Value.int Go.IntKind.u8 0)]) (#[Go.Value.int Go.IntKind.u8 0]) (fun v => by kernel_rfl) (fun v => by kernel_rfl) (fun w => by kernel_rfl) SlEx.mono (fun w' hb => ⟨_, rfl, SlRead.new_row _ _ _ rfl⟩),
        owes_move 14 (some 81) [8] (.slice (some ⟨b, o, none⟩) m c) (Go.Operand.tmp 8) (fun v => by kernel_rfl) (fun v => by kernel_rfl),
        owes_index 15 (some 82) [8, 14] (.pointer (some ⟨b, o, none⟩)) 27 (Go.Operand.tmp 81) (Go.Operand.const (Go.Value.int Go.IntKind.i64 0)) (.slice (some ⟨b, o, none⟩) m c) (Go.Value.int Go.IntKind.i64 0) (fun v => by kernel_rfl) (fun v => by kernel_rfl) (idx32_0 b o m c (by omega)),
        owes_slice 16 (some 83) [8, 15] (.slice (some ⟨b, o, none⟩) 32 32) 25 (Go.Operand.tmp 82) none none none (.pointer (some ⟨b, o, none⟩)) none none none (fun v => by kernel_rfl) (fun v => by kernel_rfl) (slarr b o),
        owes_append 17 (some 84) [8, 13, 16] (SlIs ([0#8] ++ lst 32 h0)) (Go.Operand.tmp 80) (Go.Operand.tmp 83) 23 23 23 (fun v => by kernel_rfl) (by kernel_rfl) SlIs.mono (fun v w' hb ho => by
            obtain ⟨g13, e13, r13⟩ := ho.get 13 _ _ (SlEx [0#8]) rfl rfl
            obtain ⟨A17, c17, w17, h1, h2, h3, h4⟩ := run_app_full 23 w' g13 [0#8] (some ⟨b, o, none⟩) (lst 32 h0) 32 r13 (hfin.l0 w' hb) (by simp)
            exact ⟨_, _, _, _, Eq.trans (b := v 13) (by kernel_rfl) e13, by kernel_rfl, h1, h4, A17, c17, rfl, h2, h3⟩),
        owes_call 18 (some 85) [8, 17] (.agg (arr8 32 LF)) 19 #[Go.Operand.tmp 84] #[23] (fun v => by kernel_rfl) (fun _ _ => by kernel_rfl) (fun v w' hb ho => by
            obtain ⟨A17, c17, e17, l17, r17⟩ := ho.get 17 _ _ (SlIs ([0#8] ++ lst 32 h0)) rfl rfl
            exact ⟨#[.slice A17 ([0#8] ++ lst 32 h0).length c17], Eq.trans (b := #[v 17]) (by kernel_rfl) (by rw [e17]), (hfin.hs w' hb _ _ r17).mono (fun _ _ h => h)⟩),
        owes_eql 19 (some 86) [8, 12, 18] 25 (Go.Operand.tmp 79) (Go.Operand.tmp 85) 25 (arr8 32 LF) (arr8 32 LF) true (fun v => by kernel_rfl) (fun v => by kernel_rfl) (by kernel_rfl) (equal32 LF),
        owes_pick 20 (some 87) [8, 19] (.bool true) (Go.Operand.tmp 75) (Go.Operand.tmp 86) (Go.Operand.const (Go.Value.bool false)) true (fun v => by kernel_rfl) (fun v => by kernel_rfl) (fun v => by kernel_rfl),
        owes_assign 21 (some 6) [20] (.bool true) (Go.Operand.tmp 87) (fun v => by kernel_rfl) (fun v => by kernel_rfl), trivial⟩ ?_
      intro v w4 A' hA' hb hall
      have hs2 : A'.tmps.getD 6 undef = .bool true := by rw [hA']; kernel_rfl
      have hd2 : A'.defers = [] := by rw [hA']; kernel_rfl
      have hbe := (hfin.later hb).wb
      clear hall hb hA' hfin
      go_wp2_with fail
      exact ret_slot 6 rfl hs2 hd2 ⟨rfl, hbe⟩
    · go_upto_region 17 with (fail)
      refine wp_region_text [Sp.k 0 (some 61) [] (.slice (some ⟨b, o, none⟩) m c),
        Sp.k 1 (some 62) [0] (.agg (arr8 32 DH)),
        Sp.k 2 (some 63) [] (.slice (some ⟨g5, 0, none⟩) m c5),
        Sp.k 3 (some 64) [2] (.agg (arr8 32 DG)),
        Sp.k 4 (some 65) [1, 3] (.bool true)] (by kernel_rfl)
        ⟨owes_move 0 (some 61) [] (.slice (some ⟨b, o, none⟩) m c) (Go.Operand.tmp 8) (fun v => by kernel_rfl) (fun v => by kernel_rfl),
        owes_call 1 (some 62) [0] (.agg (arr8 32 DH)) 18 #[Go.Operand.tmp 61] #[27] (fun v => by kernel_rfl) (fun _ _ => by kernel_rfl) (fun v w' hb ho => by
            exact ⟨#[.slice (some ⟨b, o, none⟩) m c], by kernel_rfl, (hfin.dh w' hb).mono (fun _ _ h => h)⟩),
        owes_move 2 (some 63) [] (.slice (some ⟨g5, 0, none⟩) m c5) (Go.Operand.tmp 9) (fun v => by kernel_rfl) (fun v => by kernel_rfl),
        owes_call 3 (some 64) [2] (.agg (arr8 32 DG)) 18 #[Go.Operand.tmp 63] #[27] (fun v => by kernel_rfl) (fun _ _ => by kernel_rfl) (fun v w' hb ho => by
            exact ⟨#[.slice (some ⟨g5, 0, none⟩) m c5], by kernel_rfl, (hfin.dg w' hb).mono (fun _ _ h => h)⟩),
        owes_eql 4 (some 65) [1, 3] 25 (Go.Operand.tmp 62) (Go.Operand.tmp 64) 25 (arr8 32 DH) (arr8 32 DG) true (fun v => by kernel_rfl) (fun v => by kernel_rfl) (by kernel_rfl) (hbb), trivial⟩ ?_
      intro v w2 hb hall
      have hfin := hfin.later hb
      clear hall hb
      simp only [putsL_k, putsL_nil, List.set_cons_zero, List.set_cons_succ]
      have hbe := hfin.wb
      clear hfin
      go_wp2_with fail
      go_ret
      exact ⟨rfl, hbe⟩
  · have m0 : (((1 : Nat) : Int) == 0) = false := by decide
    have m1 : (((1 : Nat) : Int) == 1) = true := by decide
    have hld : (Instr.loadAt 25 (.pointer (some ⟨g5, 0 + 32 * N, none⟩))).run Tryd.prog W7 = .ok (.agg (arr8 32 f)) W7 := by
      obtain ⟨b', o', e1, hlt', hc'⟩ := hrd (by rw [hcells_length]; omega)
      simp only [Option.some.injEq, Addr.mk.injEq, and_true] at e1
      obtain ⟨rfl, rfl⟩ := e1
      have := load_row (P := Tryd.prog) 25 g5 (0 + 32 * N) (arr8 32 f).toList _ Tryd.underlying25 rfl (by simp only [Array.length_toList, arr8_size]; kernel_rfl) W7 (fun j v hv => by
        have := hc' (32 * N + j) v (by rw [hcells_at gs N f hf j (by have := (List.getElem?_eq_some_iff.1 hv).1; simpa using this)]; exact hv)
        simpa [Nat.add_assoc] using this)
      simpa using this
    obtain ⟨v8', W8, hr8, hown8, hg8⟩ := run_hash 27 W7 W3.heap.size _ gs f hat7.own hat7.b.size (by omega)
    have hb8 : Below W3.heap.size W3 W8 := by
      have hb4 : Below W7.heap.size W7 (W7.alloc (.cells (arr8 32 f) 25)) := (Below.refl _ _).alloc (Nat.le_refl _) _
      have hb5 : Below W3.heap.size (W7.alloc (.cells (arr8 32 f) 25)) W8 := (Below.refl _ _).grown hg8 (by have := hat7.b.size; simp; omega) (fun q hq => (hat7.own.lt q hq).1)
      exact hat7.b.trans ((hb4.mono hat7.b.size).trans hb5)
    have hbs := bsl_hash f W7
    have hidx := idx32_k g5 0 hs.length c5 N (by omega) W7
    obtain ⟨g8, c8, e8, hc8⟩ : ∃ g cap, v8' = .slice (some ⟨g, 0, none⟩) (gs ++ [f]).length cap ∧ (gs ++ [f]).length ≤ cap := by
      rcases hown8.2 with ⟨_, h⟩ | ⟨g', cap', cur', h, _, _, h3, _⟩
      · simp at h
      · exact ⟨g', cap', h, h3⟩
    subst e8
    have hgx := SlRead.of_own32 hown8
    have hn1 : (gs ++ [f]).length ≤ 1000 := by simp; omega
    obtain ⟨DH, DG, LF, hfin⟩ := fin_mk w W3 W8 hs (gs ++ [f]) h0 ht b o c g8 c8 hs.length (gs ++ [f]).length rfl rfl hO hB3 hb8 hk3 hgx hl2' hc8 (by omega) hn1 hhs
    clear hrd hown8 hg8 hb8 hgx hat7
    generalize (gs ++ [f]).length = n at *
    generalize hs.length = m at *
    go_upto_region 17 with (first | (refine wpList_idx_run (by kernel_rfl) 27 _ _ rfl _ _ rfl _ hidx ?_) | (refine wpList_load_run (by kernel_rfl) 25 _ rfl _ rfl _ hld ?_) | (refine wpList_bsl_run (by kernel_rfl) 27 1 _ rfl #[(0, .agg (arr8 32 f))] (by kernel_rfl) _ _ hbs ?_) | (at_builtin; refine wpList_append_run_g (by kernel_rfl) _ _ _ _ rfl _ _ rfl rfl _ _ hr8 ?_))
    clear hr8 hbs hld hidx
    obtain ⟨bb, hbb⟩ := eq_some DH DG
    cases bb
    · skip
      refine wp_region_text [Sp.k 0 (some 61) [] (.slice (some ⟨b, o, none⟩) m c),
        Sp.k 1 (some 62) [0] (.agg (arr8 32 DH)),
        Sp.k 2 (some 63) [] (.slice (some ⟨g8, 0, none⟩) n c8),
        Sp.k 3 (some 64) [2] (.agg (arr8 32 DG)),
        Sp.k 4 (some 65) [1, 3] (.bool false)] (by kernel_rfl)
        ⟨owes_move 0 (some 61) [] (.slice (some ⟨b, o, none⟩) m c) (Go.Operand.tmp 8) (fun v => by kernel_rfl) (fun v => by kernel_rfl),
        owes_call 1 (some 62) [0] (.agg (arr8 32 DH)) 18 #[Go.Operand.tmp 61] #[27] (fun v => by kernel_rfl) (fun _ _ => by kernel_rfl) (fun v w' hb ho => by
            exact ⟨#[.slice (some ⟨b, o, none⟩) m c], by kernel_rfl, (hfin.dh w' hb).mono (fun _ _ h => h)⟩),
        owes_move 2 (some 63) [] (.slice (some ⟨g8, 0, none⟩) n c8) (Go.Operand.tmp 9) (fun v => by kernel_rfl) (fun v => by kernel_rfl),
        owes_call 3 (some 64) [2] (.agg (arr8 32 DG)) 18 #[Go.Operand.tmp 63] #[27] (fun v => by kernel_rfl) (fun _ _ => by kernel_rfl) (fun v w' hb ho => by
            exact ⟨#[.slice (some ⟨g8, 0, none⟩) n c8], by kernel_rfl, (hfin.dg w' hb).mono (fun _ _ h => h)⟩),
        owes_eql 4 (some 65) [1, 3] 25 (Go.Operand.tmp 62) (Go.Operand.tmp 64) 25 (arr8 32 DH) (arr8 32 DG) false (fun v => by kernel_rfl) (fun v => by kernel_rfl) (by kernel_rfl) (hbb), trivial⟩ ?_
      intro v w2 hb hall
      have hfin := hfin.later hb
      clear hall hb
      simp only [putsL_k, putsL_nil, List.set_cons_zero, List.set_cons_succ]
      have hfin := hfin.later (Below.drewNr (w := w2) 1)
      go_upto_region 19 with (fail)
      refine wp_region_spec_v [Sp.k 0 (some 67) [] (.bool true),
        Sp.k 1 (some 68) [0] (.bool true),
        Sp.k 2 (some 69) [1] (.slice (some ⟨b, o, none⟩) m c),
        Sp.k 3 (some 70) [1, 2] (.agg (arr8 32 DH)),
        Sp.k 4 (some 71) [1] (.slice (some ⟨g8, 0, none⟩) n c8),
        Sp.k 5 (some 72) [1, 4] (.agg (arr8 32 DG)),
        Sp.k 6 (some 73) [1, 3, 5] (.bool true),
        Sp.k 7 (some 74) [1, 6] (.bool true),
        Sp.k 8 (some 75) [7] (.bool true),
        Sp.k 9 (some 76) [8] (.slice (some ⟨b, o, none⟩) m c),
        Sp.k 10 (some 77) [8, 9] (.pointer (some ⟨b, o, none⟩)),
        Sp.k 11 (some 78) [8, 10] (.slice (some ⟨b, o, none⟩) 32 32),
        Sp.k 12 (some 79) [8, 11] (.agg (arr8 32 LF)),
        Sp.o 13 (some 80) [8] (SlEx [0#8]),
        Sp.k 14 (some 81) [8] (.slice (some ⟨b, o, none⟩) m c),
        Sp.k 15 (some 82) [8, 14] (.pointer (some ⟨b, o, none⟩)),
        Sp.k 16 (some 83) [8, 15] (.slice (some ⟨b, o, none⟩) 32 32),
        Sp.o 17 (some 84) [8, 13, 16] (SlIs ([0#8] ++ lst 32 h0)),
        Sp.k 18 (some 85) [8, 17] (.agg (arr8 32 LF)),
        Sp.k 19 (some 86) [8, 12, 18] (.bool true),
        Sp.k 20 (some 87) [8, 19] (.bool true),
        Sp.k 21 (some 6) [20] (.bool true)] (by kernel_rfl) (by kernel_rfl)
        ⟨owes_move 0 (some 67) [] (.bool true) (Go.Operand.tmp 7) (fun v => by kernel_rfl) (fun v => by kernel_rfl),
        owes_move 1 (some 68) [0] (.bool true) (Go.Operand.tmp 67) (fun v => by kernel_rfl) (fun v => by kernel_rfl),
        owes_move 2 (some 69) [1] (.slice (some ⟨b, o, none⟩) m c) (Go.Operand.tmp 8) (fun v => by kernel_rfl) (fun v => by kernel_rfl),
        owes_call 3 (some 70) [1, 2] (.agg (arr8 32 DH)) 17 #[Go.Operand.tmp 69] #[27] (fun v => by kernel_rfl) (fun _ _ => by kernel_rfl) (fun v w' hb ho => by
            exact ⟨#[.slice (some ⟨b, o, none⟩) m c], by kernel_rfl, (hfin.rh w' hb).mono (fun _ _ h => h)⟩),
        owes_move 4 (some 71) [1] (.slice (some ⟨g8, 0, none⟩) n c8) (Go.Operand.tmp 9) (fun v => by kernel_rfl) (fun v => by kernel_rfl),
        owes_call 5 (some 72) [1, 4] (.agg (arr8 32 DG)) 17 #[Go.Operand.tmp 71] #[27] (fun v => by kernel_rfl) (fun _ _ => by kernel_rfl) (fun v w' hb ho => by
            exact ⟨#[.slice (some ⟨g8, 0, none⟩) n c8], by kernel_rfl, (hfin.rg w' hb).mono (fun _ _ h => h)⟩),
        owes_neq 6 (some 73) [1, 3, 5] 25 (Go.Operand.tmp 70) (Go.Operand.tmp 72) 25 (arr8 32 DH) (arr8 32 DG) false (fun v => by kernel_rfl) (fun v => by kernel_rfl) (by kernel_rfl) (hbb),
        owes_pick 7 (some 74) [1, 6] (.bool true) (Go.Operand.tmp 68) (Go.Operand.tmp 73) (Go.Operand.const (Go.Value.bool false)) true (fun v => by kernel_rfl) (fun v => by kernel_rfl) (fun v => by kernel_rfl),
        owes_move 8 (some 75) [7] (.bool true) (Go.Operand.tmp 74) (fun v => by kernel_rfl) (fun v => by kernel_rfl),
        owes_move 9 (some 76) [8] (.slice (some ⟨b, o, none⟩) m c) (Go.Operand.tmp 8) (fun v => by kernel_rfl) (fun v => by kernel_rfl),
        owes_index 10 (some 77) [8, 9] (.pointer (some ⟨b, o, none⟩)) 27 (Go.Operand.tmp 76) (Go.Operand.const (Go.Value.int Go.IntKind.i64 0)) (.slice (some ⟨b, o, none⟩) m c) (Go.Value.int Go.IntKind.i64 0) (fun v => by kernel_rfl) (fun v => by kernel_rfl) (idx32_0 b o m c (by omega)),
        owes_slice 11 (some 78) [8, 10] (.slice (some ⟨b, o, none⟩) 32 32) 25 (Go.Operand.tmp 77) none none none (.pointer (some ⟨b, o, none⟩)) none none none (fun v => by kernel_rfl) (fun v => by kernel_rfl) (slarr b o),
        owes_call 12 (some 79) [8, 11] (.agg (arr8 32 LF)) 11 #[Go.Operand.tmp 78] #[23] (fun v => by kernel_rfl) (fun _ _ => by kernel_rfl) (fun v w' hb ho => by
            exact ⟨#[.slice (some ⟨b, o, none⟩) 32 32], by kernel_rfl, (hfin.lf w' hb).mono (fun _ _ h => h)⟩),
        owes_bsl 13 (some 80) [8] (SlEx [0#8]) 23 5 1 #[(0, Go.Operand.const (Go.Value.int Go.IntKind.u8 0))] (#[(0, Go.Value.int Go.IntKind.u8 0)]) (#[Go.Value.int Go.IntKind.u8 0]) (fun v => by kernel_rfl) (fun v => by kernel_rfl) (fun w => by kernel_rfl) SlEx.mono (fun w' hb => ⟨_, rfl, SlRead.new_row _ _ _ rfl⟩),
        owes_move 14 (some 81) [8] (.slice (some ⟨b, o, none⟩) m c) (Go.Operand.tmp 8) (fun v => by kernel_rfl) (fun v => by kernel_rfl),
        owes_index 15 (some 82) [8, 14] (.pointer (some ⟨b, o, none⟩)) 27 (Go.Operand.tmp 81) (Go.Operand.const (Go.Value.int Go.IntKind.i64 0)) (.slice (some ⟨b, o, none⟩) m c) (Go.Value.int Go.IntKind.i64 0) (fun v => by kernel_rfl) (fun v => by kernel_rfl) (idx32_0 b o m c (by omega)),
        owes_slice 16 (some 83) [8, 15] (.slice (some ⟨b, o, none⟩) 32 32) 25 (Go.Operand.tmp 82) none none none (.pointer (some ⟨b, o, none⟩)) none none none (fun v => by kernel_rfl) (fun v => by kernel_rfl) (slarr b o),
        owes_append 17 (some 84) [8, 13, 16] (SlIs ([0#8] ++ lst 32 h0)) (Go.Operand.tmp 80) (Go.Operand.tmp 83) 23 23 23 (fun v => by kernel_rfl) (by kernel_rfl) SlIs.mono (fun v w' hb ho => by
            obtain ⟨g13, e13, r13⟩ := ho.get 13 _ _ (SlEx [0#8]) rfl rfl
            obtain ⟨A17, c17, w17, h1, h2, h3, h4⟩ := run_app_full 23 w' g13 [0#8] (some ⟨b, o, none⟩) (lst 32 h0) 32 r13 (hfin.l0 w' hb) (by simp)
            exact ⟨_, _, _, _, Eq.trans (b := v 13) (by kernel_rfl) e13, by kernel_rfl, h1, h4, A17, c17, rfl, h2, h3⟩),
        owes_call 18 (some 85) [8, 17] (.agg (arr8 32 LF)) 19 #[Go.Operand.tmp 84] #[23] (fun v => by kernel_rfl) (fun _ _ => by kernel_rfl) (fun v w' hb ho => by
            obtain ⟨A17, c17, e17, l17, r17⟩ := ho.get 17 _ _ (SlIs ([0#8] ++ lst 32 h0)) rfl rfl
            exact ⟨#[.slice A17 ([0#8] ++ lst 32 h0).length c17], Eq.trans (b := #[v 17]) (by kernel_rfl) (by rw [e17]), (hfin.hs w' hb _ _ r17).mono (fun _ _ h => h)⟩),
        owes_eql 19 (some 86) [8, 12, 18] 25 (Go.Operand.tmp 79) (Go.Operand.tmp 85) 25 (arr8 32 LF) (arr8 32 LF) true (fun v => by kernel_rfl) (fun v => by kernel_rfl) (by kernel_rfl) (equal32 LF),
        owes_pick 20 (some 87) [8, 19] (.bool true) (Go.Operand.tmp 75) (Go.Operand.tmp 86) (Go.Operand.const (Go.Value.bool false)) true (fun v => by kernel_rfl) (fun v => by kernel_rfl) (fun v => by kernel_rfl),
        owes_assign 21 (some 6) [20] (.bool true) (Go.Operand.tmp 87) (fun v => by kernel_rfl) (fun v => by kernel_rfl), trivial⟩ ?_
      intro v w4 A' hA' hb hall
      have hs2 : A'.tmps.getD 6 undef = .bool true := by rw [hA']; kernel_rfl
      have hd2 : A'.defers = [] := by rw [hA']; kernel_rfl
      have hbe := (hfin.later hb).wb
      clear hall hb hA' hfin
      go_wp2_with fail
      exact ret_slot 6 rfl hs2 hd2 ⟨rfl, hbe⟩
    · skip
      refine wp_region_text [Sp.k 0 (some 61) [] (.slice (some ⟨b, o, none⟩) m c),
        Sp.k 1 (some 62) [0] (.agg (arr8 32 DH)),
        Sp.k 2 (some 63) [] (.slice (some ⟨g8, 0, none⟩) n c8),
        Sp.k 3 (some 64) [2] (.agg (arr8 32 DG)),
        Sp.k 4 (some 65) [1, 3] (.bool true)] (by kernel_rfl)
        ⟨owes_move 0 (some 61) [] (.slice (some ⟨b, o, none⟩) m c) (Go.Operand.tmp 8) (fun v => by kernel_rfl) (fun v => by kernel_rfl),
        owes_call 1 (some 62) [0] (.agg (arr8 32 DH)) 18 #[Go.Operand.tmp 61] #[27] (fun v => by kernel_rfl) (fun _ _ => by kernel_rfl) (fun v w' hb ho => by
            exact ⟨#[.slice (some ⟨b, o, none⟩) m c], by kernel_rfl, (hfin.dh w' hb).mono (fun _ _ h => h)⟩),
        owes_move 2 (some 63) [] (.slice (some ⟨g8, 0, none⟩) n c8) (Go.Operand.tmp 9) (fun v => by kernel_rfl) (fun v => by kernel_rfl),
        owes_call 3 (some 64) [2] (.agg (arr8 32 DG)) 18 #[Go.Operand.tmp 63] #[27] (fun v => by kernel_rfl) (fun _ _ => by kernel_rfl) (fun v w' hb ho => by
            exact ⟨#[.slice (some ⟨g8, 0, none⟩) n c8], by kernel_rfl, (hfin.dg w' hb).mono (fun _ _ h => h)⟩),
        owes_eql 4 (some 65) [1, 3] 25 (Go.Operand.tmp 62) (Go.Operand.tmp 64) 25 (arr8 32 DH) (arr8 32 DG) true (fun v => by kernel_rfl) (fun v => by kernel_rfl) (by kernel_rfl) (hbb), trivial⟩ ?_
      intro v w2 hb hall
      have hfin := hfin.later hb
      clear hall hb
      simp only [putsL_k, putsL_nil, List.set_cons_zero, List.set_cons_succ]
      have hbe := hfin.wb
      clear hfin
      go_wp2_with fail
      go_ret
      exact ⟨rfl, hbe⟩
  · have m0 : (((2 : Nat) : Int) == 0) = false := by decide
    have m1 : (((2 : Nat) : Int) == 1) = false := by decide
    have hgx := hrd.htake (hs.length - 1) (by omega)
    obtain ⟨DH, DG, LF, hfin⟩ := fin_mk w W3 W7 hs (gs.take (hs.length - 1)) h0 ht b o c g5 c5 hs.length (hs.length - 1) rfl (by rw [List.length_take]; omega) hO hB3 hat7.b hk3 hgx hl2' (by omega) (by omega) (by omega) hhs
    clear hgx hrd hat7
    generalize hs.length = m at *
    go_upto_region 17 with (fail)
    obtain ⟨bb, hbb⟩ := eq_some DH DG
    cases bb
    · skip
      refine wp_region_text [Sp.k 0 (some 61) [] (.slice (some ⟨b, o, none⟩) m c),
        Sp.k 1 (some 62) [0] (.agg (arr8 32 DH)),
        Sp.k 2 (some 63) [] (.slice (some ⟨g5, 0, none⟩) (m - 1) c5),
        Sp.k 3 (some 64) [2] (.agg (arr8 32 DG)),
        Sp.k 4 (some 65) [1, 3] (.bool false)] (by kernel_rfl)
        ⟨owes_move 0 (some 61) [] (.slice (some ⟨b, o, none⟩) m c) (Go.Operand.tmp 8) (fun v => by kernel_rfl) (fun v => by kernel_rfl),
        owes_call 1 (some 62) [0] (.agg (arr8 32 DH)) 18 #[Go.Operand.tmp 61] #[27] (fun v => by kernel_rfl) (fun _ _ => by kernel_rfl) (fun v w' hb ho => by
            exact ⟨#[.slice (some ⟨b, o, none⟩) m c], by kernel_rfl, (hfin.dh w' hb).mono (fun _ _ h => h)⟩),
        owes_move 2 (some 63) [] (.slice (some ⟨g5, 0, none⟩) (m - 1) c5) (Go.Operand.tmp 9) (fun v => by kernel_rfl) (fun v => by kernel_rfl),
        owes_call 3 (some 64) [2] (.agg (arr8 32 DG)) 18 #[Go.Operand.tmp 63] #[27] (fun v => by kernel_rfl) (fun _ _ => by kernel_rfl) (fun v w' hb ho => by
            exact ⟨#[.slice (some ⟨g5, 0, none⟩) (m - 1) c5], by kernel_rfl, (hfin.dg w' hb).mono (fun _ _ h => h)⟩),
        owes_eql 4 (some 65) [1, 3] 25 (Go.Operand.tmp 62) (Go.Operand.tmp 64) 25 (arr8 32 DH) (arr8 32 DG) false (fun v => by kernel_rfl) (fun v => by kernel_rfl) (by kernel_rfl) (hbb), trivial⟩ ?_
      intro v w2 hb hall
      have hfin := hfin.later hb
      clear hall hb
      simp only [putsL_k, putsL_nil, List.set_cons_zero, List.set_cons_succ]
      have hfin := hfin.later (Below.drewNr (w := w2) 1)
      go_upto_region 19 with (fail)
      refine wp_region_spec_v [Sp.k 0 (some 67) [] (.bool true),
        Sp.k 1 (some 68) [0] (.bool true),
        Sp.k 2 (some 69) [1] (.slice (some ⟨b, o, none⟩) m c),
        Sp.k 3 (some 70) [1, 2] (.agg (arr8 32 DH)),
        Sp.k 4 (some 71) [1] (.slice (some ⟨g5, 0, none⟩) (m - 1) c5),
        Sp.k 5 (some 72) [1, 4] (.agg (arr8 32 DG)),
        Sp.k 6 (some 73) [1, 3, 5] (.bool true),
        Sp.k 7 (some 74) [1, 6] (.bool true),
        Sp.k 8 (some 75) [7] (.bool true),
        Sp.k 9 (some 76) [8] (.slice (some ⟨b, o, none⟩) m c),
        Sp.k 10 (some 77) [8, 9] (.pointer (some ⟨b, o, none⟩)),
        Sp.k 11 (some 78) [8, 10] (.slice (some ⟨b, o, none⟩) 32 32),
        Sp.k 12 (some 79) [8, 11] (.agg (arr8 32 LF)),
        Sp.o 13 (some 80) [8] (SlEx [0#8]),
        Sp.k 14 (some 81) [8] (.slice (some ⟨b, o, none⟩) m c),
        Sp.k 15 (some 82) [8, 14] (.pointer (some ⟨b, o, none⟩)),
        Sp.k 16 (some 83) [8, 15] (.slice (some ⟨b, o, none⟩) 32 32),
        Sp.o 17 (some 84) [8, 13, 16] (SlIs ([0#8] ++ lst 32 h0)),
        Sp.k 18 (some 85) [8, 17] (.agg (arr8 32 LF)),
        Sp.k 19 (some 86) [8, 12, 18] (.bool true),
        Sp.k 20 (some 87) [8, 19] (.bool true),
        Sp.k 21 (some 6) [20] (.bool true)] (by kernel_rfl) (by kernel_rfl)
        ⟨owes_move 0 (some 67) [] (.bool true) (Go.Operand.tmp 7) (fun v => by kernel_rfl) (fun v => by kernel_rfl),
        owes_move 1 (some 68) [0] (.bool true) (Go.Operand.tmp 67) (fun v => by kernel_rfl) (fun v => by kernel_rfl),
        owes_move 2 (some 69) [1] (.slice (some ⟨b, o, none⟩) m c) (Go.Operand.tmp 8) (fun v => by kernel_rfl) (fun v => by kernel_rfl),
        owes_call 3 (some 70) [1, 2] (.agg (arr8 32 DH)) 17 #[Go.Operand.tmp 69] #[27] (fun v => by kernel_rfl) (fun _ _ => by kernel_rfl) (fun v w' hb ho => by
            exact ⟨#[.slice (some ⟨b, o, none⟩) m c], by kernel_rfl, (hfin.rh w' hb).mono (fun _ _ h => h)⟩),
        owes_move 4 (some 71) [1] (.slice (some ⟨g5, 0, none⟩) (m - 1) c5) (Go.Operand.tmp 9) (fun v => by kernel_rfl) (fun v => by kernel_rfl),
        owes_call 5 (some 72) [1, 4] (.agg (arr8 32 DG)) 17 #[Go.Operand.tmp 71] #[27] (fun v => by kernel_rfl) (fun _ _ => by kernel_rfl) (fun v w' hb ho => by
            exact ⟨#[.slice (some ⟨g5, 0, none⟩) (m - 1) c5], by kernel_rfl, (hfin.rg w' hb).mono (fun _ _ h => h)⟩),
        owes_neq 6 (some 73) [1, 3, 5] 25 (Go.Operand.tmp 70) (Go.Operand.tmp 72) 25 (arr8 32 DH) (arr8 32 DG) false (fun v => by kernel_rfl) (fun v => by kernel_rfl) (by kernel_rfl) (hbb),
        owes_pick 7 (some 74) [1, 6] (.bool true) (Go.Operand.tmp 68) (Go.Operand.tmp 73) (Go.Operand.const (Go.Value.bool false)) true (fun v => by kernel_rfl) (fun v => by kernel_rfl) (fun v => by kernel_rfl),
        owes_move 8 (some 75) [7] (.bool true) (Go.Operand.tmp 74) (fun v => by kernel_rfl) (fun v => by kernel_rfl),
        owes_move 9 (some 76) [8] (.slice (some ⟨b, o, none⟩) m c) (Go.Operand.tmp 8) (fun v => by kernel_rfl) (fun v => by kernel_rfl),
        owes_index 10 (some 77) [8, 9] (.pointer (some ⟨b, o, none⟩)) 27 (Go.Operand.tmp 76) (Go.Operand.const (Go.Value.int Go.IntKind.i64 0)) (.slice (some ⟨b, o, none⟩) m c) (Go.Value.int Go.IntKind.i64 0) (fun v => by kernel_rfl) (fun v => by kernel_rfl) (idx32_0 b o m c (by omega)),
        owes_slice 11 (some 78) [8, 10] (.slice (some ⟨b, o, none⟩) 32 32) 25 (Go.Operand.tmp 77) none none none (.pointer (some ⟨b, o, none⟩)) none none none (fun v => by kernel_rfl) (fun v => by kernel_rfl) (slarr b o),
        owes_call 12 (some 79) [8, 11] (.agg (arr8 32 LF)) 11 #[Go.Operand.tmp 78] #[23] (fun v => by kernel_rfl) (fun _ _ => by kernel_rfl) (fun v w' hb ho => by
            exact ⟨#[.slice (some ⟨b, o, none⟩) 32 32], by kernel_rfl, (hfin.lf w' hb).mono (fun _ _ h => h)⟩),
        owes_bsl 13 (some 80) [8] (SlEx [0#8]) 23 5 1 #[(0, Go.Operand.const (Go.Value.int Go.IntKind.u8 0))] (#[(0, Go.Value.int Go.IntKind.u8 0)]) (#[Go.Value.int Go.IntKind.u8 0]) (fun v => by kernel_rfl) (fun v => by kernel_rfl) (fun w => by kernel_rfl) SlEx.mono (fun w' hb => ⟨_, rfl, SlRead.new_row _ _ _ rfl⟩),
        owes_move 14 (some 81) [8] (.slice (some ⟨b, o, none⟩) m c) (Go.Operand.tmp 8) (fun v => by kernel_rfl) (fun v => by kernel_rfl),
        owes_index 15 (some 82) [8, 14] (.pointer (some ⟨b, o, none⟩)) 27 (Go.Operand.tmp 81) (Go.Operand.const (Go.Value.int Go.IntKind.i64 0)) (.slice (some ⟨b, o, none⟩) m c) (Go.Value.int Go.IntKind.i64 0) (fun v => by kernel_rfl) (fun v => by kernel_rfl) (idx32_0 b o m c (by omega)),
        owes_slice 16 (some 83) [8, 15] (.slice (some ⟨b, o, none⟩) 32 32) 25 (Go.Operand.tmp 82) none none none (.pointer (some ⟨b, o, none⟩)) none none none (fun v => by kernel_rfl) (fun v => by kernel_rfl) (slarr b o),
        owes_append 17 (some 84) [8, 13, 16] (SlIs ([0#8] ++ lst 32 h0)) (Go.Operand.tmp 80) (Go.Operand.tmp 83) 23 23 23 (fun v => by kernel_rfl) (by kernel_rfl) SlIs.mono (fun v w' hb ho => by
            obtain ⟨g13, e13, r13⟩ := ho.get 13 _ _ (SlEx [0#8]) rfl rfl
            obtain ⟨A17, c17, w17, h1, h2, h3, h4⟩ := run_app_full 23 w' g13 [0#8] (some ⟨b, o, none⟩) (lst 32 h0) 32 r13 (hfin.l0 w' hb) (by simp)
            exact ⟨_, _, _, _, Eq.trans (b := v 13) (by kernel_rfl) e13, by kernel_rfl, h1, h4, A17, c17, rfl, h2, h3⟩),
        owes_call 18 (some 85) [8, 17] (.agg (arr8 32 LF)) 19 #[Go.Operand.tmp 84] #[23] (fun v => by kernel_rfl) (fun _ _ => by kernel_rfl) (fun v w' hb ho => by
            obtain ⟨A17, c17, e17, l17, r17⟩ := ho.get 17 _ _ (SlIs ([0#8] ++ lst 32 h0)) rfl rfl
            exact ⟨#[.slice A17 ([0#8] ++ lst 32 h0).length c17], Eq.trans (b := #[v 17]) (by kernel_rfl) (by rw [e17]), (hfin.hs w' hb _ _ r17).mono (fun _ _ h => h)⟩),
        owes_eql 19 (some 86) [8, 12, 18] 25 (Go.Operand.tmp 79) (Go.Operand.tmp 85) 25 (arr8 32 LF) (arr8 32 LF) true (fun v => by kernel_rfl) (fun v => by kernel_rfl) (by kernel_rfl) (equal32 LF),
        owes_pick 20 (some 87) [8, 19] (.bool true) (Go.Operand.tmp 75) (Go.Operand.tmp 86) (Go.Operand.const (Go.Value.bool false)) true (fun v => by kernel_rfl) (fun v => by kernel_rfl) (fun v => by kernel_rfl),
        owes_assign 21 (some 6) [20] (.bool true) (Go.Operand.tmp 87) (fun v => by kernel_rfl) (fun v => by kernel_rfl), trivial⟩ ?_
      intro v w4 A' hA' hb hall
      have hs2 : A'.tmps.getD 6 undef = .bool true := by rw [hA']; kernel_rfl
      have hd2 : A'.defers = [] := by rw [hA']; kernel_rfl
      have hbe := (hfin.later hb).wb
      clear hall hb hA' hfin
      go_wp2_with fail
      exact ret_slot 6 rfl hs2 hd2 ⟨rfl, hbe⟩
    · skip
      refine wp_region_text [Sp.k 0 (some 61) [] (.slice (some ⟨b, o, none⟩) m c),
        Sp.k 1 (some 62) [0] (.agg (arr8 32 DH)),
        Sp.k 2 (some 63) [] (.slice (some ⟨g5, 0, none⟩) (m - 1) c5),
        Sp.k 3 (some 64) [2] (.agg (arr8 32 DG)),
        Sp.k 4 (some 65) [1, 3] (.bool true)] (by kernel_rfl)
        ⟨owes_move 0 (some 61) [] (.slice (some ⟨b, o, none⟩) m c) (Go.Operand.tmp 8) (fun v => by kernel_rfl) (fun v => by kernel_rfl),
        owes_call 1 (some 62) [0] (.agg (arr8 32 DH)) 18 #[Go.Operand.tmp 61] #[27] (fun v => by kernel_rfl) (fun _ _ => by kernel_rfl) (fun v w' hb ho => by
            exact ⟨#[.slice (some ⟨b, o, none⟩) m c], by kernel_rfl, (hfin.dh w' hb).mono (fun _ _ h => h)⟩),
        owes_move 2 (some 63) [] (.slice (some ⟨g5, 0, none⟩) (m - 1) c5) (Go.Operand.tmp 9) (fun v => by kernel_rfl) (fun v => by kernel_rfl),
        owes_call 3 (some 64) [2] (.agg (arr8 32 DG)) 18 #[Go.Operand.tmp 63] #[27] (fun v => by kernel_rfl) (fun _ _ => by kernel_rfl) (fun v w' hb ho => by
            exact ⟨#[.slice (some ⟨g5, 0, none⟩) (m - 1) c5], by kernel_rfl, (hfin.dg w' hb).mono (fun _ _ h => h)⟩),
        owes_eql 4 (some 65) [1, 3] 25 (Go.Operand.tmp 62) (Go.Operand.tmp 64) 25 (arr8 32 DH) (arr8 32 DG) true (fun v => by kernel_rfl) (fun v => by kernel_rfl) (by kernel_rfl) (hbb), trivial⟩ ?_
      intro v w2 hb hall
      have hfin := hfin.later hb
      clear hall hb
      simp only [putsL_k, putsL_nil, List.set_cons_zero, List.set_cons_succ]
      have hbe := hfin.wb
      clear hfin
      go_wp2_with fail
      go_ret
      exact ⟨rfl, hbe⟩
end Go.Proofs.YtelggkgfpaadfaaDoor
