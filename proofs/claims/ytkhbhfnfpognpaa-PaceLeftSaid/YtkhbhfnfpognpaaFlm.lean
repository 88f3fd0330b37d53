import Derived.Test.YtkhbhfnfpognpaaFlb
/-
  Floats that are whole numbers: what is written comes back.
-/
namespace Go.Proofs.Ytkhbhfnfpognpaa
open Go.RowKit Ieee

theorem fsw : FloatKind.f64.format.signWeight = 9223372036854775808 := by decide +kernel
theorem fbi : FloatKind.f64.format.binade = 4503599627370496 := by decide +kernel
theorem fif : FloatKind.f64.format.infRung = 9218868437227405312 := by decide +kernel
theorem flp : FloatKind.f64.format.leastPlace = -1074 := by decide +kernel
theorem ffb : FloatKind.f64.format.fractionBits = 52 := rfl

theorem read_pos (e r : Nat) (he : e ≤ 2045) (h1 : 4503599627370496 ≤ r) (h2 : r < 9007199254740992) : FloatKind.f64.format.read (e * 4503599627370496 + r) = .number false r (-1074 + (e : Int)) := by
  unfold Format.read
  simp only [fsw, fbi, fif, flp]
  have e1 : (e * 4503599627370496 + r) / 9223372036854775808 = 0 := by omega
  have e2 : (e * 4503599627370496 + r) % 9223372036854775808 = e * 4503599627370496 + r := by omega
  rw [e1, e2, if_neg (by omega), if_pos (by omega)]
  have e3 : 4503599627370496 + (e * 4503599627370496 + r) % 4503599627370496 = r := by omega
  have e4 : (e * 4503599627370496 + r) / 4503599627370496 - 1 = e := by omega
  rw [e3, e4]
  rfl
theorem cut_up (n drop : Nat) : Toward.up.cut false n drop = n / 2 ^ drop + (n % 2 ^ drop != 0).toNat := by
  unfold Toward.cut
  simp only [Nat.one_shiftLeft, Bool.not_false, Bool.true_and]
  by_cases h : drop ≤ n.log2 + 2
  · rw [Nat.min_eq_left h]
  · rw [Nat.min_eq_right (by omega)]
    have l1 : n < 2 ^ (n.log2 + 1) := Nat.lt_log2_self
    have l2 : n < 2 ^ (n.log2 + 2) := Nat.lt_of_lt_of_le l1 (Nat.pow_le_pow_right (by omega) (by omega))
    have l3 : n < 2 ^ drop := Nat.lt_of_lt_of_le l1 (Nat.pow_le_pow_right (by omega) (by omega))
    rw [Nat.div_eq_of_lt l2, Nat.mod_eq_of_lt l2, Nat.div_eq_of_lt l3, Nat.mod_eq_of_lt l3]
theorem cut_zero (s : Bool) (n drop : Nat) : Toward.zero.cut s n drop = n / 2 ^ drop := by
  unfold Toward.cut
  simp only [Nat.one_shiftLeft, Bool.toNat_false, Nat.add_zero]
  by_cases h : drop ≤ n.log2 + 2
  · rw [Nat.min_eq_left h]
  · rw [Nat.min_eq_right (by omega)]
    have l1 : n < 2 ^ (n.log2 + 1) := Nat.lt_log2_self
    have l2 : n < 2 ^ (n.log2 + 2) := Nat.lt_of_lt_of_le l1 (Nat.pow_le_pow_right (by omega) (by omega))
    have l3 : n < 2 ^ drop := Nat.lt_of_lt_of_le l1 (Nat.pow_le_pow_right (by omega) (by omega))
    rw [Nat.div_eq_of_lt l2, Nat.div_eq_of_lt l3]
theorem cut_even (n drop : Nat) (h : drop ≤ n.log2 + 2) (hd : n % 2 ^ drop = 0) : Toward.even.cut false n drop = n / 2 ^ drop := by
  unfold Toward.cut
  have hp : 0 < 2 ^ drop := Nat.pow_pos (by omega)
  simp only [Nat.one_shiftLeft, Nat.min_eq_left h, hd]
  have : (2 ^ drop == 2 * 0) = false := by simp
  simp [this]
theorem log_is (mag L : Nat) (h1 : 2 ^ L ≤ mag) (h2 : mag < 2 ^ (L + 1)) : mag.log2 = L :=
  (Nat.log2_eq_iff (by have : 0 < 2 ^ L := Nat.pow_pos (by omega); omega)).2 ⟨h1, h2⟩
/-- what is kept of a whole number -/
def keptN (mag L : Nat) : Nat := mag * 2 ^ (52 - L) / 2 ^ (L - 52)
theorem kept_in (mag L : Nat) (h1 : 2 ^ L ≤ mag) (h2 : mag < 2 ^ (L + 1)) : 4503599627370496 ≤ keptN mag L ∧ keptN mag L < 9007199254740992 := by
  unfold keptN
  by_cases hL : L ≤ 52
  · rw [show L - 52 = 0 by omega, Nat.pow_zero, Nat.div_one]
    have e1 : 2 ^ L * 2 ^ (52 - L) = 4503599627370496 := by rw [← Nat.pow_add, show L + (52 - L) = 52 by omega]
    have e2 : 2 ^ (L + 1) * 2 ^ (52 - L) = 9007199254740992 := by rw [← Nat.pow_add, show L + 1 + (52 - L) = 53 by omega]
    rw [← e1, ← e2]
    exact ⟨Nat.mul_le_mul_right _ h1, Nat.mul_lt_mul_of_pos_right h2 (Nat.pow_pos (by omega))⟩
  · rw [show 52 - L = 0 by omega, Nat.pow_zero, Nat.mul_one]
    have hp : 0 < 2 ^ (L - 52) := Nat.pow_pos (by omega)
    have e1 : 4503599627370496 * 2 ^ (L - 52) = 2 ^ L := by rw [show 4503599627370496 = 2 ^ 52 by rfl, ← Nat.pow_add, show 52 + (L - 52) = L by omega]
    have e2 : 9007199254740992 * 2 ^ (L - 52) = 2 ^ (L + 1) := by rw [show 9007199254740992 = 2 ^ 53 by rfl, ← Nat.pow_add, show 53 + (L - 52) = L + 1 by omega]
    exact ⟨(Nat.le_div_iff_mul_le hp).2 (by omega), (Nat.div_lt_iff_lt_mul hp).2 (by omega)⟩
theorem nearest_exact (mag L : Nat) (hL : L ≤ 62) (h1 : 2 ^ L ≤ mag) (h2 : mag < 2 ^ (L + 1)) (hd : mag % 2 ^ (L - 52) = 0) :
    FloatKind.f64.format.nearest false mag 0 = (L + 1022) * 4503599627370496 + keptN mag L := by
  obtain ⟨k1, k2⟩ := kept_in mag L h1 h2
  have hl := log_is mag L h1 h2
  have hp : 0 < 2 ^ L := Nat.pow_pos (by omega)
  unfold Format.nearest
  rw [if_neg (by omega)]
  simp only [hl, ffb, flp, fbi, fif]
  have hm : max ((0 : Int) + (L : Int) - ((52 : Nat) : Int)) (-1074) = (L : Int) - 52 := by omega
  rw [hm]
  have a1 : ((0 : Int) - ((L : Int) - 52)).toNat = 52 - L := by omega
  have a2 : ((L : Int) - 52 - 0).toNat = L - 52 := by omega
  have a3 : ((L : Int) - 52 - (-1074)).toNat = L + 1022 := by omega
  rw [a1, a2, a3, Nat.shiftLeft_eq]
  have hc : Toward.even.cut false (mag * 2 ^ (52 - L)) (L - 52) = keptN mag L := by
    by_cases h5 : L ≤ 52
    · rw [cut_even _ _ (by omega) (by rw [show L - 52 = 0 by omega, Nat.pow_zero, Nat.mod_one])]
      rfl
    · rw [cut_even _ _ (by rw [show 52 - L = 0 by omega, Nat.pow_zero, Nat.mul_one, hl]; omega) (by rw [show 52 - L = 0 by omega, Nat.pow_zero, Nat.mul_one, hd])]
      rfl
  rw [hc]
  unfold Format.word
  simp only [Bool.false_eq_true, if_false]
  clear hc a1 a2 a3 hm hl hp h1 h2 hd
  generalize keptN mag L = K at *
  exact Nat.min_eq_left (by omega)
theorem read_exact (mag L : Nat) (hL : L ≤ 62) (h1 : 2 ^ L ≤ mag) (h2 : mag < 2 ^ (L + 1)) (hd : mag % 2 ^ (L - 52) = 0) :
    FloatKind.f64.format.read (FloatKind.f64.format.nearest false mag 0) = .number false (keptN mag L) ((L : Int) - 52) := by
  obtain ⟨k1, k2⟩ := kept_in mag L h1 h2
  have e : -1074 + ((L + 1022 : Nat) : Int) = (L : Int) - 52 := by omega
  rw [nearest_exact mag L hL h1 h2 hd, read_pos _ _ (by omega) k1 k2, e]
theorem kept_back (mag L : Nat) (hd : mag % 2 ^ (L - 52) = 0) : keptN mag L * 2 ^ (L - 52) / 2 ^ (52 - L) = mag := by
  unfold keptN
  by_cases h5 : L ≤ 52
  · rw [show L - 52 = 0 by omega, Nat.pow_zero, Nat.div_one, Nat.mul_one, Nat.mul_div_cancel _ (Nat.pow_pos (by omega))]
  · rw [show 52 - L = 0 by omega, Nat.pow_zero, Nat.div_one, Nat.mul_one, Nat.div_mul_cancel (Nat.dvd_of_mod_eq_zero hd)]
theorem toInt_num (m : Nat) (i : Int) : (Datum.number false m i).toInt .zero = some (((m * 2 ^ i.toNat / 2 ^ (-i).toNat : Nat) : Nat) : Int) := by
  unfold Datum.toInt Datum.integral
  simp only [cut_zero, Nat.shiftLeft_eq]
  unfold signed
  simp
theorem int_back (mag L : Nat) (hL : L ≤ 61) (h1 : 2 ^ L ≤ mag) (h2 : mag < 2 ^ (L + 1)) (hd : mag % 2 ^ (L - 52) = 0) :
    floatToIntVal .f64 (FloatKind.f64.format.nearest false mag 0) .i64 = some (mag : Int) := by
  have hr := read_exact mag L (by omega) h1 h2 hd
  have hb : 2 ^ (L + 1) ≤ 2 ^ 62 := Nat.pow_le_pow_right (by omega) (by omega)
  unfold floatToIntVal FloatKind.decode
  rw [hr, toInt_num, show ((L : Int) - 52).toNat = L - 52 by omega, show (-((L : Int) - 52)).toNat = 52 - L by omega, kept_back _ _ hd]
  simp only
  rw [if_pos]
  have m1 : IntKind.i64.min = -9223372036854775808 := by decide +kernel
  have m2 : IntKind.i64.max = 9223372036854775807 := by decide +kernel
  rw [m1, m2]
  have : (2 : Nat) ^ 62 = 4611686018427387904 := by decide
  omega
end Go.Proofs.Ytkhbhfnfpognpaa
