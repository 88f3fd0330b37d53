import Derived.Test.YtbeeehfaeknhmaaDoorDkc
/-
  disk: Read.
-/
namespace Go.Proofs.YtbeeehfaeknhmaaDoor
open Go.RowKit

section
variable {w : World} {n D R : Nat} {ss : List Sec} {off : Bool} {fuse : Int} {pv : Nat → Value}
set_option maxRecDepth 100000 in
set_option maxHeartbeats 800000 in
theorem read_off (E : Nat → Addr) (hE : ErrD E w) (h : DkS w n D R ss true fuse pv) (i : Int) : Calls Tryd.prog 34 #[.pointer (some ⟨D, 0, none⟩), .int .i64 i] w fun e w' => e = .returned (.tuple #[.slice none 0 0, errV (E 0)]) ∧ Below w.heap.size w w' := by
  have hc := h.offc
  have he : w.cell? ⟨2, 0, none⟩ = some (errV (E 0)) := hE.c 0 (by decide)
  have hb := Below.refl w.heap.size w
  clear h hE
  go_enter Tryd.func34, Tryd.ntmps34
  go_upto_region 2 with fail
  go_quiet (fail)
  go_wp2_with fail
  go_ret2
  exact ⟨rfl, hb.os, hb.tape, hb.output, hb.size, hb.block⟩
set_option maxRecDepth 100000 in
set_option maxHeartbeats 800000 in
theorem read_out (E : Nat → Addr) (hE : ErrD E w) (h : DkS w n D R ss false fuse pv) (i : Int) (hi : (decide (0 ≤ i) && decide (i < (ss.length : Int))) = false) : Calls Tryd.prog 34 #[.pointer (some ⟨D, 0, none⟩), .int .i64 i] w fun e w' => e = .returned (.tuple #[.slice none 0 0, errV (E 1)]) ∧ Below w.heap.size w w' := by
  have hc := h.offc
  have hh := has_any h i
  rw [hi] at hh
  have hE' := Lib.hid hE
  clear h hi hE
  go_enter Tryd.func34, Tryd.ntmps34
  go_upto_region 4 with (go_at_call 54; refine hh.mono ?_; rintro e w1 ⟨rfl, hb⟩; have he : w1.cell? ⟨3, 0, none⟩ = some (errV (E 1)) := (hE'.out.below hb).c 1 (by decide))
  go_quiet (fail)
  go_wp2_with fail
  go_ret2
  exact ⟨rfl, hb.os, hb.tape, hb.output, hb.size, hb.block⟩
set_option maxRecDepth 100000 in
set_option maxHeartbeats 800000 in
theorem read_in (h : DkS w n D R ss false fuse pv) (i : Nat) (s : Sec) (hs : ss[i]? = some s) : Calls Tryd.prog 34 #[.pointer (some ⟨D, 0, none⟩), .int .i64 (i : Int)] w fun e w' => ∃ g, e = .returned (.tuple #[.slice (some ⟨g, 0, none⟩) 128 128, .nilIface]) ∧ w.heap.size ≤ g ∧ w'.heap[g]? = some (.cells (bcells s.top).toArray 90) ∧ Below w.heap.size w w' := by
  have hc := h.offc
  have hil := (List.getElem?_eq_some_iff.1 hs).1
  have hh := has_any h (i : Int)
  rw [decide_eq_true (by omega), decide_eq_true (by omega), Bool.and_self] at hh
  have hx := idx_S R ss.length ss.length i hil
  have H := Lib.hid h
  have hzC := zero_C
  have hl := fun w1 (h1 : DkS w1 n D R ss false fuse pv) => last_any h1 i s hs
  have hA := Lib.hid (bcells_all s.top)
  have hT : Hid ((bcells s.top).length = 128) := by rw [bcells_len]; exact s.top_len
  have hzs : (bcells zc).toArray.size = 128 := by simp [bcells_len, zc_len]
  have h1 := agg_secs
  generalize bcells s.top = C at *
  generalize (bcells zc).toArray = Z at *
  have HZ := Lib.hid hzs
  have HL := Lib.hid hil
  clear h hil hs hzs
  go_enter Tryd.func34, Tryd.ntmps34
  go_wp2_with (first | (go_at_call 54; refine hh.mono ?_; rintro e w1 ⟨rfl, hb⟩; have hS := Lib.hid (H.out.below hb); have hhd := hS.out.hdr) | (go_at_call 56; refine (hl _ hS.out).mono ?_; rintro e w2 ⟨rfl, hb2⟩; have hr0 := heap1_0 w2 (.cells Z 90); have HB := Lib.hid ((hb.trans (hb2.mono hb.size)).trans ((below_alc w2 (.cells Z 90)).mono (Nat.le_trans hb.size hb2.size))); have HG := Lib.hid (Nat.le_trans hb.size hb2.size); clear hb hb2) | (refine wpList_allocV rfl 90 rfl Z hzC ?_) | (refine wpList_store_row rfl 90 _ _ rfl w2.heap.size _ rfl rfl _ _ hr0 (by rw [List.size_toArray, hT.out]; exact info_C) (HZ.out.trans (by rw [List.size_toArray, hT.out])) hA.out ?_))
  go_ret2
  exact ⟨_, rfl, HG.out, setRow_heap _ _ _ _ _ _ hr0, setRow_below HB.out _ HG.out _⟩
end
end Go.Proofs.YtbeeehfaeknhmaaDoor
