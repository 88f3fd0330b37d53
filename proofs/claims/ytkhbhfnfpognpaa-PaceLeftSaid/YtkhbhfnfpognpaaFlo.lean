import Derived.Test.YtkhbhfnfpognpaaFlu
/-
  The quotient of two small whole numbers, in ticks.
-/
namespace Go.Proofs.Ytkhbhfnfpognpaa
open Go.RowKit Ieee

theorem even_ge (n drop : Nat) (h : drop ≤ n.log2 + 2) : n / 2 ^ drop ≤ Toward.even.cut false n drop := by
  unfold Toward.cut
  simp only [Nat.one_shiftLeft, Nat.min_eq_left h]
  omega
theorem even_le (n drop A : Nat) (h : drop ≤ n.log2 + 2) (hn : n ≤ A * 2 ^ drop) : Toward.even.cut false n drop ≤ A := by
  have hp : 0 < 2 ^ drop := Nat.pow_pos (by omega)
  by_cases h0 : n % 2 ^ drop = 0
  · rw [cut_even n drop h h0]
    exact Nat.div_le_of_le_mul (by rw [Nat.mul_comm]; exact hn)
  · have h1 := cut_le n drop h
    have h2 : n / 2 ^ drop < A := by
      rw [Nat.div_lt_iff_lt_mul hp]
      rcases Nat.lt_or_eq_of_le hn with h3 | h3
      · exact h3
      · rw [h3, Nat.mul_mod_left] at h0; exact absurd rfl h0
    omega
theorem up_is (m g c : Nat) (hc : 0 < c) (h1 : (c - 1) * 2 ^ g < m) (h2 : m ≤ c * 2 ^ g) : Toward.up.cut false m g = c := by
  have hp : 0 < 2 ^ g := Nat.pow_pos (by omega)
  rw [cut_up]
  obtain ⟨e, rfl⟩ : ∃ e, c = e + 1 := ⟨c - 1, by omega⟩
  simp only [Nat.add_sub_cancel] at h1
  have hdm := Nat.div_add_mod m (2 ^ g)
  have hr := Nat.mod_lt m hp
  rcases Nat.lt_or_eq_of_le h2 with h3 | h3
  · have hd : m / 2 ^ g = e := by
      refine Nat.div_eq_of_lt_le (by omega) ?_
      exact h3
    rw [hd] at hdm ⊢
    have : m % 2 ^ g ≠ 0 := by
      intro h0
      rw [h0, Nat.mul_comm] at hdm
      omega
    rw [show (m % 2 ^ g != 0) = true by simpa using this]
    rfl
  · rw [h3, Nat.mul_div_cancel _ hp, Nat.mul_mod_left]
    rfl
/-- a float, cut by what its number is -/
theorem tick_num (x m g c : Nat) (hr : FloatKind.f64.format.read x = .number false m (-(g : Int))) (hm : m < 9007199254740992) (hc : 0 < c) (hc2 : c < 65536) (h1 : (c - 1) * 2 ^ g < m) (h2 : m ≤ c * 2 ^ g) : tickF x = c := by
  have z : FloatKind.f64.format.read 0 = .number false 0 (-1074) := by decide +kernel
  have t : FloatKind.f64.format.read 4886405595696988160 = .number false 4503599627370496 10 := by decide +kernel
  have hm0 : 0 < m := by omega
  have hn : fnan x = false := by
    rw [fnan_is]
    show (FloatKind.f64.format.read x).isNaN = false
    rw [hr]
    rfl
  have o1 : FloatKind.f64.format.order x 0 = some .gt := by
    unfold Format.order
    rw [hr, z, order_pos, Nat.zero_mul]
    have : 0 < m * 2 ^ (-(g : Int) - min (-(g : Int)) (-1074)).toNat := Nat.mul_pos hm0 (Nat.pow_pos (by omega))
    generalize m * 2 ^ (-(g : Int) - min (-(g : Int)) (-1074)).toNat = S at this
    rw [cmp_i, if_neg (by omega), if_neg (by omega)]
  have o2 : FloatKind.f64.format.order x 4886405595696988160 = some .lt := by
    unfold Format.order
    rw [hr, t, order_pos, show min (-(g : Int)) 10 = -(g : Int) by omega, show (-(g : Int) - -(g : Int)).toNat = 0 by omega, show ((10 : Int) - -(g : Int)).toNat = g + 10 by omega, Nat.pow_zero, Nat.mul_one]
    have h3 : 2 ^ 10 ≤ 2 ^ (g + 10) := Nat.pow_le_pow_right (by omega) (by omega)
    have h4 : 4503599627370496 * 2 ^ 10 ≤ 4503599627370496 * 2 ^ (g + 10) := Nat.mul_le_mul_left _ h3
    generalize 4503599627370496 * 2 ^ (g + 10) = S at h4
    rw [cmp_i, if_pos (by omega)]
  have hcl : ceilW x = FloatKind.f64.format.nearest false c 0 := by
    unfold ceilW FloatKind.decode FloatKind.encode
    rw [hr]
    unfold Datum.integral Format.write
    simp only [show (-(g : Int)).toNat = 0 by omega, Int.neg_neg, Int.toNat_natCast, Nat.shiftLeft_zero, up_is m g c hc h1 h2]
  have hl : c.log2 ≤ 15 := by
    have : c.log2 < 16 := (Nat.log2_lt (by omega)).2 hc2
    omega
  have hib := int_back c c.log2 (by omega) (Nat.log2_self_le (by omega)) Nat.lt_log2_self (by rw [show c.log2 - 52 = 0 by omega, Nat.pow_zero, Nat.mod_one])
  unfold tickF
  rw [hn, o1, o2, hcl, hib]
  rfl
end Go.Proofs.Ytkhbhfnfpognpaa
