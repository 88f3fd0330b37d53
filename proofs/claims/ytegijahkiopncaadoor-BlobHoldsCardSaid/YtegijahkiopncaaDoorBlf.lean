import Derived.Test.YtegijahkiopncaaDoorBle
/-
  blob: Open of what is new.
-/
namespace Go.Proofs.YtegijahkiopncaaDoor
open Go.RowKit
section
variable {w : World} {S : Nat} {q l : Int} {V : Value} {es : List Be}
set_option maxRecDepth 100000 in
set_option maxHeartbeats 1600000 in
theorem open_ok (h : StS w S q l V es) (hl : es.length < 16) (hF : Few es) (k : Nat → BitVec 8) (n : Int) (h1 : 1 ≤ n) (h2 : n ≤ 30000) (hf : es.findIdx? (Be.is k) = none) (hq : sumN es + n ≤ q) :
    Calls Tryd.prog 12 #[.pointer (some ⟨S, 0, none⟩), .agg (arr8 32 k), .int .i64 n] w fun r w' => r = .returned .nilIface ∧ ∃ V' g, w.heap.size ≤ g ∧ StS w' S q l V' (es ++ [⟨g, k, n, .slice none 0 0, [], false, 0⟩]) ∧ Turn (fun x => x = S ∨ V.ownBlock = some x) w w' ∧ (∀ x, V'.ownBlock = some x → V.ownBlock = some x ∨ w.heap.size ≤ x) := by
  have hb0 := below_alc w (.cells (arr8 32 k) 26)
  have hus := Lib.hid (use_none (h.below hb0) (by omega) k hf)
  have hsb := sumN_bound hF.2
  have hs1 : -9223372036854775808 ≤ sumN es + n := by omega
  have hs2 : sumN es + n ≤ 9223372036854775807 := by omega
  have HN := Lib.hid (show es.length ≤ 16 by omega)
  have HBb := Lib.hid hF
  have HQ := Lib.hid (decide_eq_false (show ¬ q < sumN es + n by omega))
  obtain ⟨A, c, hV, _⟩ := own_slice h.own
  have H := Lib.hid h
  have hl2 : (es.length : Int) < 16 := by omega
  obtain ⟨len, hlen⟩ : ∃ x, x = es.length := ⟨_, rfl⟩
  rw [← hlen] at hl2 hV
  have HF : Hid (∀ W1, Below (w.alloc (.cells (arr8 32 k) 26)).heap.size (w.alloc (.cells (arr8 32 k) 26)) W1 → W1.cell? ⟨S, 2, none⟩ = some (.slice A len c)) := fun W1 hb => by rw [← hV]; exact load_st2 S W1 q l V ((h.below hb0).below hb).st
  have HV := Lib.hid hV
  clear h hf hsb hl hV hlen hF hq
  go_enter Tryd.func12, Tryd.ntmps12
  go_upto_region 7 with (first | (refine wpList_load_row rfl 26 _ rfl w.heap.size rfl _ _ _ _ (heap_alloc_new _ _) Tryd.underlying26 rfl (by rw [arr8_size]; kernel_rfl) ?_) | (go_at_call 28; refine hus.out.mono ?_; rintro r W1 ⟨rfl, hb'⟩; have hc1 := HF.out W1 hb'))
  have hb1 := hb0.trans (hb'.mono hb0.size)
  have HS := Lib.hid (H.out.below hb1)
  have hst := HS.out.st
  have hbx1 : W1.heap[w.heap.size]? = some (.cells (arr8 32 k) 26 (0, 0)) := heap_below (heap1_0 w _) hb'
  clear hc1 hus
  refine wp_region_noPanic ?_
  refine wp_region_held_drew (S := fun w' => w' = W1.drew) (by kernel_rfl) (rfl) (fun hHeld => ?_)
  refine held_move 0 (Go.Operand.tmp 0) (some 30) (.pointer (some ⟨S, 0, none⟩)) (by kernel_rfl) (by kernel_rfl) (by kernel_rfl) (by kernel_rfl) (by kernel_rfl) (fun _ _ _ _ _ h => h) hHeld ?_
  refine held_move 2 (Go.Operand.tmp 2) (some 32) (.int .i64 n) (by kernel_rfl) (by kernel_rfl) (by kernel_rfl) (by kernel_rfl) (by kernel_rfl) (fun _ _ _ _ _ h => h) hHeld ?_
  refine held_move 4 (Go.Operand.tmp 0) (some 34) (.pointer (some ⟨S, 0, none⟩)) (by kernel_rfl) (by kernel_rfl) (by kernel_rfl) (by kernel_rfl) (by kernel_rfl) (fun _ _ _ _ _ h => h) hHeld ?_
  refine held_nil 5 (Go.Operand.tmp 34) (some 35) ⟨S, 0, none⟩ (by kernel_rfl) (by kernel_rfl) (by kernel_rfl) (by kernel_rfl) (by kernel_rfl) (fun _ _ _ _ _ h => h) hHeld ?_
  refine held_field 6 59 (Go.Operand.tmp 35) 0 (some 36) (.pointer (some ⟨S, 0, none⟩)) (.pointer (some ⟨S, 0, none⟩)) (by kernel_rfl) (by kernel_rfl) (fun w => by kernel_rfl) (by kernel_rfl) (by kernel_rfl) (by kernel_rfl) (fun _ _ _ _ _ h => h) hHeld ?_
  refine held_cell 7 3 (Go.Operand.tmp 36) (some 37) (.pointer (some ⟨S, 0, none⟩)) (.int .i64 q) (by kernel_rfl) (by kernel_rfl) (fun W hw => by rw [hw]; exact load_i0 hst) (by kernel_rfl) (by kernel_rfl) (by kernel_rfl) (fun _ _ _ _ _ h => h) hHeld ?_
  refine held_call 1 20 #[Go.Operand.tmp 30] #[30] (some 31) #[.pointer (some ⟨S, 0, none⟩)] _ (by kernel_rfl) (by kernel_rfl) (by kernel_rfl) (by kernel_rfl) (used_b (HS.out.keep (W' := W1.drew) (fun _ _ => rfl)) HN.out HBb.out) ?_
  rintro r Y ⟨rfl, rfl⟩
  refine ⟨_, rfl, hHeld, fun hHeld => ?_⟩
  refine held_bin 3 Go.BinOp.add 3 (Go.Operand.tmp 31) (Go.Operand.tmp 32) 3 (some 33) (.int .i64 (sumN es)) (.int .i64 n) (.int .i64 (sumN es + n)) (by kernel_rfl) (by kernel_rfl) (fun w => add_i _ _ _ _ _ hs1 hs2 w) (by kernel_rfl) (by kernel_rfl) (by kernel_rfl) (fun _ _ _ _ _ h => h) hHeld ?_
  refine held_bin 8 Go.BinOp.gtr 3 (Go.Operand.tmp 33) (Go.Operand.tmp 37) 3 (some 38) (.int .i64 (sumN es + n)) (.int .i64 q) (.bool (decide (q < sumN es + n))) (by kernel_rfl) (by kernel_rfl) (fun w => by kernel_rfl) (by kernel_rfl) (by kernel_rfl) (by kernel_rfl) (fun _ _ _ _ _ h => h) hHeld ?_
  refine held_assign 9 (Go.Operand.tmp 38) (some 29) (.bool (decide (q < sumN es + n))) (by kernel_rfl) (by kernel_rfl) (by kernel_rfl) (by kernel_rfl) (by kernel_rfl) (fun _ _ _ _ _ h => h) hHeld ?_
  refine wpAnyH_done (by kernel_rfl) ?_ _
  refine NoPanic.normal ?_
  try simp only [Act.put, List.setIfInBounds_toArray, List.set_cons_zero, List.set_cons_succ]
  rw [HQ.out]
  clear hst hHeld
  go_upto_region 9 with (fail)
  obtain ⟨bx, hbx⟩ : ∃ b, b = w.heap.size := ⟨_, rfl⟩
  obtain ⟨W2, hW2⟩ : ∃ W, W = W1.drew := ⟨_, rfl⟩
  have hb2 : Below w.heap.size w W2 := by rw [hW2]; exact hb1.drew
  replace HS : Hid (StS W2 S q l V es) := by rw [hW2]; exact HS.out.keep (fun _ _ => rfl)
  have hbx2 : W2.heap[bx]? = some (.cells (arr8 32 k) 26 (0, 0)) := by rw [hW2, hbx]; exact hbx1
  rw [← hbx, ← hW2]
  have hS : OpP S bx q l V k W2.drew := ⟨HS.out.st, hbx2⟩
  have hbV : some bx ≠ V.ownBlock := own_ne HS.out.own hbx2 (by decide)
  have HBX := Lib.hid hbx
  clear hbx hW2 hb1 hb' hbx1 hb0
  refine wp_region_held_cut (S := OpP S bx q l V k) 11 (by kernel_rfl) (by kernel_rfl) (hS) (fun hHeld => ?_)
  refine held_move 0 (Go.Operand.tmp 0) (some 40) (.pointer (some ⟨S, 0, none⟩)) (by kernel_rfl) (by kernel_rfl) (by kernel_rfl) (by kernel_rfl) (by kernel_rfl) (fun _ _ _ _ _ h => h) hHeld ?_
  refine held_move 1 (Go.Operand.tmp 0) (some 41) (.pointer (some ⟨S, 0, none⟩)) (by kernel_rfl) (by kernel_rfl) (by kernel_rfl) (by kernel_rfl) (by kernel_rfl) (fun _ _ _ _ _ h => h) hHeld ?_
  refine held_nil 2 (Go.Operand.tmp 41) (some 42) ⟨S, 0, none⟩ (by kernel_rfl) (by kernel_rfl) (by kernel_rfl) (by kernel_rfl) (by kernel_rfl) (fun _ _ _ _ _ h => h) hHeld ?_
  refine held_field 3 59 (Go.Operand.tmp 42) 2 (some 43) (.pointer (some ⟨S, 0, none⟩)) (.pointer (some ⟨S, 2, none⟩)) (by kernel_rfl) (by kernel_rfl) (fun w => by kernel_rfl) (by kernel_rfl) (by kernel_rfl) (by kernel_rfl) (fun _ _ _ _ _ h => h) hHeld ?_
  refine held_cell 4 57 (Go.Operand.tmp 43) (some 44) (.pointer (some ⟨S, 2, none⟩)) (V) (by kernel_rfl) (by kernel_rfl) (fun W hw => load_stV hw.1) (by kernel_rfl) (by kernel_rfl) (by kernel_rfl) (fun _ _ _ _ _ h => h) hHeld ?_
  refine held_cell 5 26 (Go.Operand.tmp 4) (some 45) (.pointer (some ⟨bx, 0, none⟩)) (.agg (arr8 32 k)) (by kernel_rfl) (by kernel_rfl) (fun W hw => load_idB W bx k (range_new (cs := (arr8 32 k).toList) (by simpa using hw.2))) (by kernel_rfl) (by kernel_rfl) (by kernel_rfl) (fun _ _ _ _ _ h => h) hHeld ?_
  refine held_move 6 (Go.Operand.tmp 2) (some 46) (.int .i64 n) (by kernel_rfl) (by kernel_rfl) (by kernel_rfl) (by kernel_rfl) (by kernel_rfl) (fun _ _ _ _ _ h => h) hHeld ?_
  refine held_build 7 63 #[(0, Go.Operand.tmp 45), (1, Go.Operand.tmp 46)] (some 47) #[(0, .agg (arr8 32 k)), (1, .int .i64 n)] (.agg (enA k n (.slice none 0 0) false 0)) (by kernel_rfl) (by kernel_rfl) (fun w => en_build k n w) (by kernel_rfl) (by kernel_rfl) (by kernel_rfl) (fun _ _ _ _ _ h => h) hHeld ?_
  refine held_run 8 (Go.Op.box 63 (Go.Operand.tmp 47)) 60 (some 48) (.pointer (some ⟨W2.heap.size, 0, none⟩)) ((W2.drew.alloc (.cells (enA k n (.slice none 0 0) false 0) 63))) (by kernel_rfl) (by kernel_rfl) (by kernel_rfl) (fun o ho ht => exec_boxE ho (vx := .agg (enA k n (.slice none 0 0) false 0)) (by kernel_rfl) (by kernel_rfl)) (hHeld.alc _) ?_
  intro hHeld
  refine held_run 9 (Go.Op.buildSlice 57 1 #[(0, Go.Operand.tmp 48)]) 57 (some 49) (.slice (some ⟨(W2.drew.alloc (.cells (enA k n (.slice none 0 0) false 0) 63)).heap.size, 0, none⟩) 1 1) (((W2.drew.alloc (.cells (enA k n (.slice none 0 0) false 0) 63)).alloc (.cells #[.pointer (some ⟨W2.heap.size, 0, none⟩)] 60))) (by kernel_rfl) (by kernel_rfl) (by kernel_rfl) (fun o ho ht => exec_bsl (vs := #[(0, .pointer (some ⟨W2.heap.size, 0, none⟩))]) ho (by kernel_rfl) (by kernel_rfl)) (hHeld.alc _) ?_
  intro hHeld
  obtain ⟨V3, W3, hr3, ho3, hg3, hk3⟩ := push_p 57 ((W2.drew.alloc (.cells (enA k n (.slice none 0 0) false 0) 63)).alloc (.cells #[.pointer (some ⟨W2.heap.size, 0, none⟩)] 60)) V es ⟨W2.heap.size, k, n, .slice none 0 0, [], false, 0⟩ (((HS.out.keep (W' := W2.drew) (fun _ _ => rfl)).own.alloc _).alloc _) ⟨(W2.drew.alloc (.cells (enA k n (.slice none 0 0) false 0) 63)).heap.size, 0, none⟩ 1 (fun j u hu => by rw [Addr.add_lit]; exact range_new (heap1_0 (W2.drew.alloc (.cells (enA k n (.slice none 0 0) false 0) 63)) _) j u hu) (by have := HN.out; omega)
  refine held_run 10 (Go.Op.call { callee := Go.Callee.builtin Go.Builtin.append, args := #[Go.Operand.tmp 44, Go.Operand.tmp 49], argTypes := #[57, 57] }) 57 (some 50) (V3) (W3) (by kernel_rfl) (by kernel_rfl) (by kernel_rfl) (fun o ho ht => exec_append ho ht (vs := V) (vx := .slice (some ⟨(W2.drew.alloc (.cells (enA k n (.slice none 0 0) false 0) 63)).heap.size, 0, none⟩) 1 1) (by kernel_rfl) (hr3)) (hHeld.grown hg3 (by have := HS.out; exact own_ne this.own this.st (by decide)) hbV) ?_
  intro hHeld
  refine wpAnyH_done (by kernel_rfl) ?_ _
  show wpList _ _ _ _ _ _
  simp only [Act.put, List.setIfInBounds_toArray, List.set_cons_zero, List.set_cons_succ, List.drop_succ_cons, List.drop_zero]
  have hst3 := hHeld.1
  have hfz := thaw_heap hst3 2
  have hc3 := load_st2 S W3 q l V hst3
  have H3 := Lib.hid (And.intro ho3 (And.intro hg3 hk3))
  have HST := Lib.hid hst3
  obtain ⟨A3, c3, hV3, _⟩ := own_slice ho3
  obtain ⟨n3, hn3⟩ : ∃ x, x = (es ++ [(⟨W2.heap.size, k, n, .slice none 0 0, [], false, 0⟩ : Be)]).length := ⟨_, rfl⟩
  rw [← hn3] at hV3
  have HV3 := Lib.hid hV3
  subst hV3
  clear hn3 ho3 hg3 hk3 hHeld hr3 hst3 hbV hbx2 hS
  go_wp2_with fail
  go_ret
  obtain ⟨ho3, hg3, hk3⟩ := H3.out
  have hgr : W2.grownBy W3 V.ownBlock := open_gr W2 _ _ hg3
  have hset : Turn (· = S) W3 (W3.setCell ⟨S, 2, none⟩ (.slice A3 n3 c3)) := set_turnH W3 S 2 _
  have hsz := hgr.size
  have hnS : some S ≠ (Value.slice A3 n3 c3).ownBlock := own_ne ho3 HST.out (by decide)
  have hfin : Turn (fun x => x = S ∨ V.ownBlock = some x) w (W3.setCell ⟨S, 2, none⟩ (.slice A3 n3 c3)) :=
    ((Turn.of_below hb2).trans (Turn.of_grown (F := fun x => V.ownBlock = some x) hgr (fun k hk => hk)) (fun x hx => .inl (.inr hx))).trans hset (fun x hx => .inl (.inl hx))
  have hent : W3.heap[W2.heap.size]? = some (.cells (enA k n (.slice none 0 0) false 0) 63 (0, 0)) := by
    refine heap_grown (heap_below (heap1_0 W2.drew _) (below_alc _ _)) hg3 ?_
    intro y
    have := (HS.out.own.lt _ y.symm).2
    omega
  refine ⟨rfl, .slice A3 n3 c3, W2.heap.size, hb2.size, ?_, hfin, fun x hx => ?_⟩
  · refine HS.out.push ⟨W2.heap.size, k, n, .slice none 0 0, [], false, 0⟩ (st_set HST.out _) (own_keep ho3 fun x hx => hset.block x (ho3.lt x hx).2 (fun y => hnS (by rw [← y]; exact hx.symm))) ?_ rfl rfl (Nat.le_refl _) (fun x hx h1 h2 => (hset.block x (by omega) h1).trans (hgr.block x hx (fun y => h2 y.symm)))
    exact (hset.block _ (lt_heap hent) (fun y => by have := lt_heap HS.out.st; omega)).trans hent
  · rcases hk3 x hx with h1 | h1
    · exact .inl h1
    · have := hb2.size
      refine .inr ?_
      simp at h1
      omega
end
end Go.Proofs.YtegijahkiopncaaDoor
