import Derived.Test.YtkhbhfnfpognpaaFlp
/-
  The quotient of two small whole numbers.
-/
namespace Go.Proofs.Ytkhbhfnfpognpaa
open Go.RowKit Ieee

theorem float_of (d : Nat) : floatOfInt .f64 (d : Int) = FloatKind.f64.format.nearest false d 0 := by
  unfold floatOfInt FloatKind.nearest FloatKind.encode Format.write
  simp only [Int.natAbs_natCast, show decide ((d : Int) < 0) = false from decide_eq_false (by omega)]
theorem float_read (d L : Nat) (hL : L ≤ 52) (h1 : 2 ^ L ≤ d) (h2 : d < 2 ^ (L + 1)) : FloatKind.f64.format.read (floatOfInt .f64 (d : Int)) = .number false (d * 2 ^ (52 - L)) ((L : Int) - 52) := by
  rw [float_of, read_exact d L (by omega) h1 h2 (by rw [show L - 52 = 0 by omega, Nat.pow_zero, Nat.mod_one])]
  unfold keptN
  rw [show L - 52 = 0 by omega, Nat.pow_zero, Nat.div_one]
theorem quo_num (E N F G Z r d : Nat) (hN : 0 < N) (cc : Nat) (hF : d * Z = 2 * E) (hG : r * Z = N * (2 * F)) (hZ : N * 16 ≤ Z) (hc : 0 < cc) (h1 : (cc - 1) * r < d) (h2 : d ≤ cc * r) (hGG : G = 2 * F) :
    2 * (E / N) + (E % N != 0).toNat ≤ cc * G ∧ (cc - 1) * G + 8 ≤ 2 * (E / N) + (E % N != 0).toNat := by
  have hdm := Nat.div_add_mod E N
  have hr := Nat.mod_lt E hN
  generalize E / N = Q at *
  generalize E % N = rho at *
  obtain ⟨e, rfl⟩ : ∃ e, cc = e + 1 := ⟨cc - 1, by omega⟩
  simp only [Nat.add_sub_cancel] at *
  subst hGG
  -- what lies above, what lies below
  have u1 : 2 * E ≤ N * ((e + 1) * (2 * F)) := by
    rw [← hF, Nat.mul_left_comm N, ← hG, ← Nat.mul_assoc]
    exact Nat.mul_le_mul_right _ h2
  have u2 : N * (e * (2 * F)) + Z ≤ 2 * E := by
    rw [← hF, Nat.mul_left_comm N, ← hG, ← Nat.mul_assoc, ← Nat.succ_mul]
    exact Nat.mul_le_mul_right _ h1
  constructor
  · have e1 : N * ((e + 1) * (2 * F)) = 2 * (N * ((e + 1) * F)) := by
      rw [Nat.mul_left_comm (e + 1) 2 F, Nat.mul_left_comm N 2]
    have e2 : (e + 1) * (2 * F) = 2 * ((e + 1) * F) := Nat.mul_left_comm _ _ _
    rw [e1] at u1
    rw [e2]
    generalize (e + 1) * F = X at *
    by_cases h0 : rho = 0
    · subst h0
      have : N * Q ≤ N * X := by omega
      have := Nat.le_of_mul_le_mul_left this hN
      simp
      omega
    · have : N * Q < N * X := by omega
      have := Nat.lt_of_mul_lt_mul_left this
      rw [show (rho != 0) = true by simpa using h0]
      show 2 * Q + 1 ≤ _
      omega
  · generalize e * (2 * F) = X at *
    have h3 : N * (X + 16) ≤ N * (2 * (Q + 1)) := by
      have e3 : N * (2 * (Q + 1)) = 2 * (N * Q) + 2 * N := by rw [Nat.mul_left_comm, Nat.mul_add, Nat.mul_one, Nat.mul_add]
      rw [Nat.mul_add, e3]
      omega
    have := Nat.le_of_mul_le_mul_left h3 hN
    omega
set_option maxRecDepth 100000 in
theorem div_frac (d r L R c : Nat) (hL : L ≤ 13) (hR : R ≤ 6) (d1 : 2 ^ L ≤ d) (d2 : d < 2 ^ (L + 1)) (r1 : 2 ^ R ≤ r) (r2 : r < 2 ^ (R + 1)) (hc : 0 < c) (hc2 : c < 65536) (h1 : (c - 1) * r < d) (h2 : d ≤ c * r) :
    ∃ q, FloatKind.f64.format.div (floatOfInt .f64 (d : Int)) (floatOfInt .f64 (r : Int)) = some q ∧ tickF q = c := by
  have rd := float_read d L (by omega) d1 d2
  have rr := float_read r R (by omega) r1 r2
  obtain ⟨kd1, kd2⟩ := kept_in d L d1 d2
  obtain ⟨kr1, kr2⟩ := kept_in r R r1 r2
  have kd : keptN d L = d * 2 ^ (52 - L) := by unfold keptN; rw [show L - 52 = 0 by omega, Nat.pow_zero, Nat.div_one]
  have kr : keptN r R = r * 2 ^ (52 - R) := by unfold keptN; rw [show R - 52 = 0 by omega, Nat.pow_zero, Nat.div_one]
  rw [kd] at kd1 kd2
  rw [kr] at kr1 kr2
  have hM : ∃ M, M = d * 2 ^ (52 - L) := ⟨_, rfl⟩
  obtain ⟨M, hM⟩ := hM
  obtain ⟨N, hN⟩ : ∃ N, N = r * 2 ^ (52 - R) := ⟨_, rfl⟩
  have hF : d * 2 ^ (107 - L) = 2 * (M * 18014398509481984) := by
    rw [hM, show 107 - L = 52 - L + 55 by omega, Nat.pow_add, ← Nat.mul_assoc]
    omega
  have hG : r * 2 ^ (107 - L) = N * (2 * 2 ^ (54 + R - L)) := by
    rw [hN, Nat.mul_assoc, ← Nat.pow_succ', ← Nat.pow_add]
    congr 2
    omega
  have hZ : N * 16 ≤ 2 ^ (107 - L) := by
    have : 2 ^ 60 ≤ 2 ^ (107 - L) := Nat.pow_le_pow_right (by omega) (by omega)
    rw [hN]
    omega
  rw [← hM] at rd kd1 kd2
  rw [← hN] at rr kr1 kr2
  obtain ⟨b2, b1⟩ := quo_num (M * 18014398509481984) N (2 ^ (54 + R - L)) (2 ^ (55 + R - L)) (2 ^ (107 - L)) r d (by omega) c hF hG hZ hc h1 h2 (by rw [show 55 + R - L = 54 + R - L + 1 by omega, Nat.pow_succ'])
  have lM := log_is M 52 kd1 kd2
  have lN := log_is N 52 kr1 kr2
  have hdiv : FloatKind.f64.format.div (floatOfInt .f64 (d : Int)) (floatOfInt .f64 (r : Int)) = some (FloatKind.f64.format.nearest false (2 * (M * 18014398509481984 / N) + (M * 18014398509481984 % N != 0).toNat) ((L : Int) - R - 55)) := by
    have e2 : (L : Int) - 52 - ((R : Int) - 52) - ((54 : Nat) : Int) - 1 = (L : Int) - R - 55 := by omega
    unfold Format.div
    rw [rd, rr]
    unfold Datum.quotient
    simp only [if_neg (show N ≠ 0 by omega), lM, lN, ffb, Nat.shiftLeft_eq]
    rw [show 52 + 2 + 52 - 52 = 54 by rfl, e2]
    rfl
  have q1 : 9007199254740992 ≤ M * 18014398509481984 / N := (Nat.le_div_iff_mul_le (by omega)).2 (by omega)
  have q2 : M * 18014398509481984 / N < 36028797018963968 := (Nat.div_lt_iff_lt_mul (by omega)).2 (by omega)
  have q3 := Bool.toNat_le (M * 18014398509481984 % N != 0)
  refine ⟨_, hdiv, ?_⟩
  clear hdiv rd rr kd kr kd1 kd2 kr1 kr2 lM lN hM hN hF hG hZ d1 d2 r1 r2 h1 h2
  generalize (M * 18014398509481984 % N != 0).toNat = bt at *
  generalize M * 18014398509481984 / N = Q at *
  obtain ⟨mag, hmag⟩ : ∃ mag, mag = 2 * Q + bt := ⟨_, rfl⟩
  rw [← hmag] at b1 b2 ⊢
  have p54 : 2 ^ 54 = 18014398509481984 := by decide
  have p55 : 2 ^ (54 + 1) = 36028797018963968 := by decide
  have p56 : 2 ^ (55 + 1) = 72057594037927936 := by decide
  have g1 : 18014398509481984 ≤ mag := by omega
  have g2 : mag < 72057594037927936 := by omega
  clear hmag q1 q2 q3
  by_cases hm : mag < 36028797018963968
  · have e : (L : Int) - R - 55 = -((53 + R - L : Nat) : Int) - ((2 : Nat) : Int) := by omega
    have e3 : 53 + R - L + 2 = 55 + R - L := by omega
    rw [e]
    refine tick_frac mag 54 2 (53 + R - L) c rfl (by omega) (by omega) ?_ ?_ hc hc2 (by rw [e3]; exact b2) (by rw [e3]; exact b1)
    · rw [p54]; exact g1
    · rw [p55]; exact hm
  · have e : (L : Int) - R - 55 = -((52 + R - L : Nat) : Int) - ((3 : Nat) : Int) := by omega
    have e3 : 52 + R - L + 3 = 55 + R - L := by omega
    rw [e]
    refine tick_frac mag 55 3 (52 + R - L) c rfl (by omega) (by omega) ?_ ?_ hc hc2 (by rw [e3]; exact b2) (by rw [e3]; exact b1)
    · rw [show 2 ^ 55 = 36028797018963968 by decide]; exact Nat.le_of_not_lt hm
    · rw [p56]; exact g2
end Go.Proofs.Ytkhbhfnfpognpaa
