import Derived.Test.YtplennobcbmccaaDoorBbm
namespace Go.Proofs.YtplennobcbmccaaDoor
open Go.RowKit

theorem shr_u8 (t : TypeId) (x y : Operand) (a : BitVec 8) (k : Nat) (w : World) : (do eqGuard .shr t x y (v8 a) (.int .i64 (k : Int)); binOp .shr t (v8 a) (.int .i64 (k : Int)) : Sem Value).run Tryd.prog w = .ok (v8 (a >>> k)) w := by
  have h0 : ¬ ((k : Int) < 0) := by omega
  have e : (n8 a).fdiv (2 ^ min k 8) = n8 (a >>> k) := by
    have hl := a.isLt
    rw [n8_natG, n8_natG, Int.fdiv_eq_ediv_of_nonneg _ (Int.le_of_lt (Int.pow_pos (by omega))), BitVec.toNat_ushiftRight, Nat.shiftRight_eq_div_pow]
    rw [show ((2 : Int) ^ min k 8) = ((2 ^ min k 8 : Nat) : Int) by simp, ← Int.natCast_ediv]
    congr 1
    rcases Nat.lt_or_ge k 8 with h | h
    · rw [Nat.min_eq_left (by omega)]
    · rw [Nat.min_eq_right h, Nat.div_eq_of_lt (by omega), Nat.div_eq_of_lt (Nat.lt_of_lt_of_le hl (Nat.pow_le_pow_right (by omega) h))]
  simp [eqGuard, binOp, Op.shift, h0, IntKind.bits]
  exact e
theorem n8_andG (x y : BitVec 8) : bits .and .u8 (n8 x) (n8 y) = n8 (x &&& y) := by
  rw [u8_and _ _ (n8_lo _) (n8_hi _) (n8_lo _) (n8_hi _), n8_natG, n8_natG, n8_natG, BitVec.toNat_and]
  simp
theorem and_u8 (t : TypeId) (x y : Operand) (a b : BitVec 8) (w : World) : (do eqGuard .and t x y (v8 a) (v8 b); binOp .and t (v8 a) (v8 b) : Sem Value).run Tryd.prog w = .ok (v8 (a &&& b)) w := by
  simp [eqGuard, binOp, Op.intBits]
  exact n8_andG a b
theorem bit_all : ∀ n, n < 256 → ∀ k, k < 8 → ((BitVec.ofNat 8 n >>> k &&& 1#8) == 1#8) = (BitVec.ofNat 8 n).getLsbD k := by decide +kernel
theorem bit_one (x : BitVec 8) (k : Nat) (h : k < 8) : ((x >>> k &&& 1#8) == 1#8) = x.getLsbD k := by
  have := bit_all x.toNat x.isLt k h
  rwa [BitVec.ofNat_toNat, BitVec.setWidth_eq] at this
theorem bit_u8 (t : TypeId) (p q : Operand) (x : BitVec 8) (k : Nat) (h : k < 8) (b : Bool) (hb : x.getLsbD k = b) (w : World) : (do eqGuard .eql t p q (v8 (x >>> k &&& 1#8)) (.int .u8 1); binOp .eql t (v8 (x >>> k &&& 1#8)) (.int .u8 1) : Sem Value).run Tryd.prog w = .ok (.bool b) w := by
  rw [← hb, ← bit_one x k h]
  have e : (n8 (x >>> k &&& 1#8) == (1 : Int)) = ((x >>> k &&& 1#8) == 1#8) := by
    rw [Bool.eq_iff_iff, beq_iff_eq, beq_iff_eq, show (1 : Int) = n8 1#8 from rfl, n8_natG, n8_natG]
    constructor
    · intro h
      exact BitVec.eq_of_toNat_eq (by omega)
    · intro h
      rw [h]
  simp [eqGuard, binOp, Op.intCmp, e]
theorem load_errB (g : Nat) (v : Value) (w : World) (h : w.cell? ⟨g, 0, none⟩ = some v) : (Instr.loadAt 38 (.pointer (some ⟨g, 0, none⟩))).run Tryd.prog w = .ok v w := by
  have hu := Tryd.underlying38
  go_simp
/-- how many pieces there are, whatever is asked -/
def sizeN (z : Int) : Nat := (min (max z 0) 1000).toNat
theorem sizeN_le (z : Int) : sizeN z ≤ 1000 := by unfold sizeN; omega
theorem made_map (w : World) (n : Nat) (hx : n ≤ 1000) : IsMap ((w.alloc (.cells (madeCells #[.bool false] n) 4)).alloc (.cells #[.slice (some ⟨w.heap.size, 0, none⟩) n n, .int .i64 0] 50)) (w.alloc (.cells (madeCells #[.bool false] n) 4)).heap.size w.heap.size (List.replicate n false) ∧ Below w.heap.size w ((w.alloc (.cells (madeCells #[.bool false] n) 4)).alloc (.cells #[.slice (some ⟨w.heap.size, 0, none⟩) n n, .int .i64 0] 50)) := by
  refine ⟨⟨?_, ?_, ?_, by simpa using hx⟩, ?_⟩
  · refine (World.rowIs_alloc (w.alloc (Obj.cells (madeCells #[Value.bool false] n) 4)) #[_, _] _ _ fun i hi => ?_)
    have : i = 0 ∨ i = 1 := by simp at hi; omega
    rcases this with rfl | rfl
    · simp
    · simp [trues, List.countP_replicate]
  · refine World.rowIs.alloc ?_ _
    have := (World.rowIs_made w (.bool false) n 4).congr (g := fun i => .bool ((List.replicate n false).getD i false)) fun i hi => ?_
    · simpa using this
    · simp [hi]
  · simp
  · go_grown
theorem newz_any (z : Int) (w : World) :
    Calls Tryd.prog 8 #[.int .i64 z] w fun e w' => ∃ b a, e = .returned (.pointer (some ⟨b, 0, none⟩)) ∧ IsMap w' b a (List.replicate (sizeN z) false) ∧ Below w.heap.size w w' ∧ w.heap.size ≤ a ∧ w.heap.size ≤ b := by
  rcases (show z < 0 ∨ (0 ≤ z ∧ z ≤ 1000) ∨ 1000 < z by omega) with hz | hz | hz
  · have e : sizeN z = 0 := by unfold sizeN; omega
    rw [e]
    have hmk : (Instr.makeSlice 30 (.int .i64 0) (.int .i64 0)).run Tryd.prog w = .ok (.slice (some ⟨w.heap.size, 0, none⟩) 0 0) (w.alloc (.cells (madeCells #[.bool false] 0) 4)) := run_make_row' (P := Tryd.prog) 30 4 (.bool false) 1 Tryd.underlying30 Tryd.info4 rfl .i64 .i64 0 (by omega) (by omega) w
    go_enter Tryd.func8, Tryd.ntmps8
    go_wp2
    go_ret
    obtain ⟨h1, h2⟩ := made_map w 0 (by omega)
    rw [show (w.alloc (.cells (madeCells #[.bool false] 0) 4)).heap.size = w.heap.size + 1 by simp] at h1
    exact ⟨_, _, rfl, h1, h2, Nat.le_refl _, by simp⟩
  · obtain ⟨n, rfl⟩ : ∃ n : Nat, z = (n : Int) := ⟨z.toNat, by omega⟩
    have e : sizeN (n : Int) = n := by unfold sizeN; omega
    rw [e]
    exact new_any n w (by omega)
  · have e : sizeN z = 1000 := by unfold sizeN; omega
    rw [e]
    have hmk : (Instr.makeSlice 30 (.int .i64 1000) (.int .i64 1000)).run Tryd.prog w = .ok (.slice (some ⟨w.heap.size, 0, none⟩) 1000 1000) (w.alloc (.cells (madeCells #[.bool false] 1000) 4)) := run_make_row' (P := Tryd.prog) 30 4 (.bool false) 1 Tryd.underlying30 Tryd.info4 rfl .i64 .i64 1000 (by omega) (by omega) w
    go_enter Tryd.func8, Tryd.ntmps8
    go_wp2
    go_ret
    obtain ⟨h1, h2⟩ := made_map w 1000 (by omega)
    rw [show (w.alloc (.cells (madeCells #[.bool false] 1000) 4)).heap.size = w.heap.size + 1 by simp] at h1
    exact ⟨_, _, rfl, h1, h2, Nat.le_refl _, by simp⟩
end Go.Proofs.YtplennobcbmccaaDoor
