import Derived.Test.YtegijahkiopncaaDoorBld
/-
  blob: Open, full or not.
-/
namespace Go.Proofs.YtegijahkiopncaaDoor
open Go.RowKit
theorem open_gr (W : World) (x y : Obj) {W3 : World} {row : Option Nat} (hg : ((W.drew.alloc x).alloc y).grownBy W3 row) : W.grownBy W3 row :=
  ⟨hg.os, hg.tape, hg.output, Nat.le_trans (by simp; omega) hg.size, fun k hk hr => (hg.block k (by simp; omega) hr).trans (by
    have h1 := (below_alc (W.drew.alloc x) y).block k (by simp; omega)
    have h2 := (below_alc W.drew x).block k hk
    exact h1.trans h2)⟩
theorem st_set {W : World} {S : Nat} {q l : Int} {V : Value} (h : W.heap[S]? = some (.cells (stA q l V) 59 (0, 0))) (V' : Value) : (W.setCell ⟨S, 2, none⟩ V').heap[S]? = some (.cells (stA q l V') 59 (0, 0)) := heap_setCell_same W S 2 _ _ _ h
section
variable {w : World} {S : Nat} {q l : Int} {V : Value} {es : List Be}
set_option maxRecDepth 100000 in
set_option maxHeartbeats 800000 in
theorem open_full (E : Nat → Addr) (hE : ErrsAt E w) (h : StS w S q l V es) (hl : es.length < 16) (hF : Few es) (k : Nat → BitVec 8) (n : Int) (h1 : 1 ≤ n) (h2 : n ≤ 30000) (hf : es.findIdx? (Be.is k) = none) (hq : q < sumN es + n) :
    Calls Tryd.prog 12 #[.pointer (some ⟨S, 0, none⟩), .agg (arr8 32 k), .int .i64 n] w fun r w' => r = .returned (errV (E 6)) ∧ Below w.heap.size w w' := by
  have hb0 := below_alc w (.cells (arr8 32 k) 26)
  have hus := Lib.hid (use_none (h.below hb0) (by omega) k hf)
  have hsb := sumN_bound hF.2
  have hs1 : -9223372036854775808 ≤ sumN es + n := by omega
  have hs2 : sumN es + n ≤ 9223372036854775807 := by omega
  have HN := Lib.hid (show es.length ≤ 16 by omega)
  have HBb := Lib.hid hF
  have HQ := Lib.hid (decide_eq_true hq)
  obtain ⟨A, c, hV, _⟩ := own_slice h.own
  have H := Lib.hid h
  have HE := Lib.hid hE
  have hl2 : (es.length : Int) < 16 := by omega
  obtain ⟨len, hlen⟩ : ∃ x, x = es.length := ⟨_, rfl⟩
  rw [← hlen] at hl2 hV
  have HF : Hid (∀ W1, Below (w.alloc (.cells (arr8 32 k) 26)).heap.size (w.alloc (.cells (arr8 32 k) 26)) W1 → W1.cell? ⟨S, 2, none⟩ = some (.slice A len c)) := fun W1 hb => by rw [← hV]; exact load_st2 S W1 q l V ((h.below hb0).below hb).st
  clear hE h hf hsb hl hV hlen hF hq
  go_enter Tryd.func12, Tryd.ntmps12
  go_upto_region 7 with (first | (refine wpList_load_row rfl 26 _ rfl w.heap.size rfl _ _ _ _ (heap_alloc_new _ _) Tryd.underlying26 rfl (by rw [arr8_size]; kernel_rfl) ?_) | (go_at_call 28; refine hus.out.mono ?_; rintro r W1 ⟨rfl, hb'⟩; have hc1 := HF.out W1 hb'))
  have hb1 := hb0.trans (hb'.mono hb0.size)
  have HS := Lib.hid (H.out.below hb1)
  have hst := HS.out.st
  have he : W1.drew.cell? ⟨3, 0, none⟩ = some (errV (E 6)) := (HE.out.below hb1).c 6 (by decide)
  clear hc1 hus
  refine wp_region_noPanic ?_
  refine wp_region_held_drew (S := fun w' => w' = W1.drew) (by kernel_rfl) (rfl) (fun hHeld => ?_)
  refine held_move 0 (Go.Operand.tmp 0) (some 30) (.pointer (some ⟨S, 0, none⟩)) (by kernel_rfl) (by kernel_rfl) (by kernel_rfl) (by kernel_rfl) (by kernel_rfl) (fun _ _ _ _ _ h => h) hHeld ?_
  refine held_move 2 (Go.Operand.tmp 2) (some 32) (.int .i64 n) (by kernel_rfl) (by kernel_rfl) (by kernel_rfl) (by kernel_rfl) (by kernel_rfl) (fun _ _ _ _ _ h => h) hHeld ?_
  refine held_move 4 (Go.Operand.tmp 0) (some 34) (.pointer (some ⟨S, 0, none⟩)) (by kernel_rfl) (by kernel_rfl) (by kernel_rfl) (by kernel_rfl) (by kernel_rfl) (fun _ _ _ _ _ h => h) hHeld ?_
  refine held_nil 5 (Go.Operand.tmp 34) (some 35) ⟨S, 0, none⟩ (by kernel_rfl) (by kernel_rfl) (by kernel_rfl) (by kernel_rfl) (by kernel_rfl) (fun _ _ _ _ _ h => h) hHeld ?_
  refine held_field 6 59 (Go.Operand.tmp 35) 0 (some 36) (.pointer (some ⟨S, 0, none⟩)) (.pointer (some ⟨S, 0, none⟩)) (by kernel_rfl) (by kernel_rfl) (fun w => by kernel_rfl) (by kernel_rfl) (by kernel_rfl) (by kernel_rfl) (fun _ _ _ _ _ h => h) hHeld ?_
  refine held_cell 7 3 (Go.Operand.tmp 36) (some 37) (.pointer (some ⟨S, 0, none⟩)) (.int .i64 q) (by kernel_rfl) (by kernel_rfl) (fun W hw => by rw [hw]; exact load_i0 hst) (by kernel_rfl) (by kernel_rfl) (by kernel_rfl) (fun _ _ _ _ _ h => h) hHeld ?_
  refine held_call 1 20 #[Go.Operand.tmp 30] #[30] (some 31) #[.pointer (some ⟨S, 0, none⟩)] _ (by kernel_rfl) (by kernel_rfl) (by kernel_rfl) (by kernel_rfl) (used_b (HS.out.keep (W' := W1.drew) (fun _ _ => rfl)) HN.out HBb.out) ?_
  rintro r Y ⟨rfl, rfl⟩
  refine ⟨_, rfl, hHeld, fun hHeld => ?_⟩
  refine held_bin 3 Go.BinOp.add 3 (Go.Operand.tmp 31) (Go.Operand.tmp 32) 3 (some 33) (.int .i64 (sumN es)) (.int .i64 n) (.int .i64 (sumN es + n)) (by kernel_rfl) (by kernel_rfl) (fun w => add_i _ _ _ _ _ hs1 hs2 w) (by kernel_rfl) (by kernel_rfl) (by kernel_rfl) (fun _ _ _ _ _ h => h) hHeld ?_
  refine held_bin 8 Go.BinOp.gtr 3 (Go.Operand.tmp 33) (Go.Operand.tmp 37) 3 (some 38) (.int .i64 (sumN es + n)) (.int .i64 q) (.bool (decide (q < sumN es + n))) (by kernel_rfl) (by kernel_rfl) (fun w => by kernel_rfl) (by kernel_rfl) (by kernel_rfl) (by kernel_rfl) (fun _ _ _ _ _ h => h) hHeld ?_
  refine held_assign 9 (Go.Operand.tmp 38) (some 29) (.bool (decide (q < sumN es + n))) (by kernel_rfl) (by kernel_rfl) (by kernel_rfl) (by kernel_rfl) (by kernel_rfl) (fun _ _ _ _ _ h => h) hHeld ?_
  refine wpAnyH_done (by kernel_rfl) ?_ _
  refine NoPanic.normal ?_
  try simp only [Act.put, List.setIfInBounds_toArray, List.set_cons_zero, List.set_cons_succ]
  rw [HQ.out]
  clear hst hHeld
  go_wp2_with fail
  go_ret
  exact ⟨rfl, hb1.drew⟩
end
end Go.Proofs.YtegijahkiopncaaDoor
