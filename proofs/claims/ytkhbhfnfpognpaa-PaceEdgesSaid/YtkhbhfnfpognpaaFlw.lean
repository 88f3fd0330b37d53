import Derived.Test.YtkhbhfnfpognpaaFlu
/-
  PaceEdges.
-/
namespace Go.Proofs.Ytkhbhfnfpognpaa
open Go.RowKit Ieee

def infW : Nat := 9218868437227405312
def oneW : Nat := 4607182418800017408
set_option maxRecDepth 100000 in
theorem edge_facts : ∀ k : Nat, k < 1000 → FloatKind.f64.format.div (floatOfInt .f64 ((k : Int) + 1)) (floatOfInt .f64 0) = some 9218868437227405312 ∧ FloatKind.f64.format.div (floatOfInt .f64 ((k : Int) + 1)) (floatOfInt .f64 ((k : Int) + 1)) = some 4607182418800017408 ∧ leftN 0 ((k : Int) + 1) 9218868437227405312 = 0 ∧ leftN 0 ((k : Int) + 1) 4607182418800017408 = (k : Int) + 1 := by decide +kernel
theorem delay_mono (a b : Int) (h : a ≤ b) : 1 ≤ delayN a ∧ delayN a ≤ delayN b ∧ delayN b ≤ 64 := by
  have key : ∀ t : Int, ∃ k : Nat, k ≤ 6 ∧ delayN t = 2 ^ k ∧ (k = 0 ∨ (k : Int) + 1 ≤ t) ∧ (k = 6 ∨ t ≤ (k : Int) + 1) := fun t => by
    by_cases h1 : t ≤ 1
    · exact ⟨0, by omega, delay_eq t 0 (by omega) (.inl rfl) (by simpa using h1), .inl rfl, .inr (by simpa using h1)⟩
    · by_cases h2 : 7 ≤ t
      · exact ⟨6, by omega, delay_top t h2, .inr (by simpa using h2), .inl rfl⟩
      · exact ⟨(t - 1).toNat, by omega, delay_eq t _ (by omega) (.inr (by omega)) (by omega), .inr (by omega), .inr (by omega)⟩
  obtain ⟨i, hi, ei, i1, i2⟩ := key a
  obtain ⟨j, hj, ej, j1, j2⟩ := key b
  have hij : i ≤ j := by omega
  rw [ei, ej]
  have : ∀ i : Nat, i ≤ 6 → ∀ j : Nat, j ≤ 6 → i ≤ j → (1 : Int) ≤ 2 ^ i ∧ (2 : Int) ^ i ≤ 2 ^ j ∧ (2 : Int) ^ j ≤ 64 := by decide
  exact this i hi j hj hij
theorem inf_any (w : World) : Calls Try.prog 24 #[.float .f64 9218868437227405312, .int .i64 1] w fun e w' => e = .returned (.bool true) ∧ w' = w := by
  have o1 : FloatKind.f64.format.order 9218868437227405312 9218868437227405311 = some .gt := by decide +kernel
  go_enter Try.func24, Try.ntmps24
  go_wp2_with fail
  go_ret
  exact ⟨rfl, rfl⟩
theorem copyn (w : World) : Calls Try.prog 26 #[.float .f64 0, .float .f64 13830554455654793216] w fun e w' => e = .returned (.float .f64 9223372036854775808) ∧ w' = w := by
  have b1 := ext_bits 13830554455654793216
  have b2 := ext_bits 0
  have b3 := fromI 9223372036854775808 9223372036854775808 rfl
  have c1 : bits .andNot .u64 0 9223372036854775808 = 0 := by decide +kernel
  have c2 : bits .and .u64 13830554455654793216 9223372036854775808 = 9223372036854775808 := by decide +kernel
  have c3 : bits .or .u64 0 9223372036854775808 = 9223372036854775808 := by decide +kernel
  go_enter Try.func26, Try.ntmps26
  go_wp2_with fail
  go_ret
  exact ⟨rfl, rfl⟩
theorem left_facts (k : Nat) (z : Nat) (hz : fnan z = true) : leftN ((k : Int) + 1) ((k : Int) + 1) z = 0 ∧ leftN 0 ((k : Int) + 1) z = 4611686018427387904 ∧ leftN 0 ((k : Int) + 1) 0 = 4611686018427387904 ∧ leftN 0 ((k : Int) + 1) 9223372036854775808 = 4611686018427387904 := by
  have e0 : (fnan 0 || (FloatKind.f64.format.order 0 0 == some .lt || FloatKind.f64.format.order 0 0 == some .eq)) = true := by decide +kernel
  have e1 : (fnan 9223372036854775808 || (FloatKind.f64.format.order 9223372036854775808 0 == some .lt || FloatKind.f64.format.order 9223372036854775808 0 == some .eq)) = true := by decide +kernel
  unfold leftN
  rw [hz, e0, e1]
  refine ⟨by rw [if_pos (by omega)], ?_, ?_, ?_⟩ <;> rw [if_neg (by omega)] <;> rfl
theorem zero_none : FloatKind.f64.format.div (floatOfInt .f64 0) (floatOfInt .f64 0) = none := by decide +kernel
end Go.Proofs.Ytkhbhfnfpognpaa
