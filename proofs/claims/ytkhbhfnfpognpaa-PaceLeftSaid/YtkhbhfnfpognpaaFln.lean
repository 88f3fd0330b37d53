import Derived.Test.YtkhbhfnfpognpaaFlm
/-
  Ticks: what every float is, in ticks.
-/
namespace Go.Proofs.Ytkhbhfnfpognpaa
open Go.RowKit Ieee

theorem cmp_i (a b : Int) : compare a b = if a < b then .lt else if a = b then .eq else .gt := rfl
theorem compare_lt_iff_lt {a b : Int} : compare a b = .lt ↔ a < b := by
  rw [cmp_i]
  split
  · simp [*]
  · split <;> simp [*]
theorem sg (m up : Nat) : signed false m up = ((m * 2 ^ up : Nat) : Int) := by unfold signed; simp [Nat.shiftLeft_eq]
theorem order_pos (a b : Nat) (p q : Int) : (Datum.number false a p).order (.number false b q) = some (compare ((a * 2 ^ (p - min p q).toNat : Nat) : Int) ((b * 2 ^ (q - min p q).toNat : Nat) : Int)) := by
  unfold Datum.order
  simp only [sg]
theorem cmp_lt (a b : Nat) : (some (compare (a : Int) (b : Int)) == some Ordering.lt) = decide (a < b) := by
  by_cases h : a < b
  · rw [show compare (a : Int) (b : Int) = .lt from compare_lt_iff_lt.2 (by omega)]; simp [h]
  · have : compare (a : Int) (b : Int) ≠ .lt := fun e => h (by have := compare_lt_iff_lt.1 e; omega)
    cases hc : compare (a : Int) (b : Int) <;> simp_all
/-- a float that is neither none nor nothing, and under the most -/
theorem read_of (x : Nat) (h0 : fnan x = false) (h1 : (FloatKind.f64.format.order x 0 == some .lt || FloatKind.f64.format.order x 0 == some .eq) = false) (h2 : (FloatKind.f64.format.order x 4886405595696988160 == some .gt || FloatKind.f64.format.order x 4886405595696988160 == some .eq) = false) :
    ∃ (m : Nat) (i : Int), FloatKind.f64.format.read x = .number false m i ∧ 0 < m ∧ m < 9007199254740992 ∧ i ≤ 9 ∧ -1074 ≤ i ∧ (i = -1074 ∨ 4503599627370496 ≤ m) := by
  have z : FloatKind.f64.format.read 0 = .number false 0 (-1074) := by decide +kernel
  have t : FloatKind.f64.format.read 4886405595696988160 = .number false 4503599627370496 10 := by decide +kernel
  have hn : (FloatKind.f64.format.read x).isNaN = false := by rw [fnan_is] at h0; exact h0
  unfold Format.order at h1 h2
  rw [z] at h1
  rw [t] at h2
  have key : ∀ (s : Bool) (m : Nat) (i : Int), ((Datum.number s m i).order (.number false 0 (-1074)) == some .lt || (Datum.number s m i).order (.number false 0 (-1074)) == some .eq) = false → s = false ∧ 0 < m := by
    intro s m i h
    unfold Datum.order at h
    have e0 : signed false 0 (-1074 - min i (-1074)).toNat = 0 := by rw [sg, Nat.zero_mul]; rfl
    simp only [e0] at h
    cases s with
    | true =>
      exfalso
      have hs : signed true m (i - min i (-1074)).toNat ≤ 0 := by
        show -((m <<< (i - min i (-1074)).toNat : Nat) : Int) ≤ 0
        exact Int.neg_nonpos_of_nonneg (Int.natCast_nonneg _)
      generalize signed true m (i - min i (-1074)).toNat = S at h hs
      rcases Int.lt_or_eq_of_le hs with h' | h'
      · rw [compare_lt_iff_lt.2 h'] at h; simp at h
      · subst h'; simp at h
    | false =>
      refine ⟨rfl, Nat.pos_of_ne_zero fun hm => ?_⟩
      subst hm
      rw [sg, Nat.zero_mul] at h
      simp at h
  have key2 : ∀ (m : Nat) (i : Int), 4503599627370496 ≤ m → ((Datum.number false m i).order (.number false 4503599627370496 10) == some .gt || (Datum.number false m i).order (.number false 4503599627370496 10) == some .eq) = false → i ≤ 9 := by
    intro m i hm h
    apply Classical.byContradiction
    intro hi
    rw [order_pos, show min i 10 = 10 by omega, show ((10 : Int) - 10).toNat = 0 by rfl, Nat.pow_zero, Nat.mul_one] at h
    have hp : 1 ≤ 2 ^ (i - 10).toNat := Nat.pow_pos (by omega)
    have h3 : 4503599627370496 ≤ m * 2 ^ (i - 10).toNat := Nat.le_trans hm (Nat.le_mul_of_pos_right _ hp)
    generalize m * 2 ^ (i - 10).toNat = S at h h3
    cases hc : compare (S : Int) ((4503599627370496 : Nat) : Int) with
    | lt => have := compare_lt_iff_lt.1 hc; omega
    | eq => rw [hc] at h; simp at h
    | gt => rw [hc] at h; simp at h
  unfold Format.read at h1 h2 hn ⊢
  simp only [fsw, fbi, fif, flp] at h1 h2 hn ⊢
  by_cases c1 : x % 9223372036854775808 < 4503599627370496
  · rw [if_pos c1] at h1
    rw [if_pos c1]
    obtain ⟨hs, hm⟩ := key _ _ _ h1
    rw [hs]
    exact ⟨_, _, rfl, hm, by omega, by omega, by omega, .inl rfl⟩
  · rw [if_neg c1] at h1 h2 hn ⊢
    by_cases c2 : x % 9223372036854775808 < 9218868437227405312
    · rw [if_pos c2] at h1 h2 ⊢
      obtain ⟨hs, hm⟩ := key _ _ _ h1
      rw [hs] at h2 ⊢
      have := key2 _ _ (by omega) h2
      exact ⟨_, _, rfl, hm, by omega, this, by omega, .inr (by omega)⟩
    · rw [if_neg c2] at h1 h2 hn ⊢
      by_cases c3 : x % 9223372036854775808 = 9218868437227405312
      · rw [if_pos c3] at h1 h2
        exfalso
        cases hs : (x / 9223372036854775808 % 2 == 1)
        · rw [hs] at h2; simp [Datum.order] at h2
        · rw [hs] at h1; simp [Datum.order] at h1
      · rw [if_neg c3] at hn
        simp [Datum.isNaN] at hn
/-- a float in ticks: what lies whole in it, and whether there is more -/
theorem tick_parts (x : Nat) (h0 : fnan x = false) (h1 : (FloatKind.f64.format.order x 0 == some .lt || FloatKind.f64.format.order x 0 == some .eq) = false) (h2 : (FloatKind.f64.format.order x 4886405595696988160 == some .gt || FloatKind.f64.format.order x 4886405595696988160 == some .eq) = false) :
    ∃ n : Nat, n < 4611686018427387904 ∧ floatToIntVal .f64 x .i64 = some (n : Int) ∧ (((FloatKind.f64.format.order (floatOfInt .f64 n) x == some .lt) = true ∧ floatToIntVal .f64 (ceilW x) .i64 = some ((n : Int) + 1)) ∨ ((FloatKind.f64.format.order (floatOfInt .f64 n) x == some .lt) = false ∧ floatToIntVal .f64 (ceilW x) .i64 = some (n : Int))) := by
  obtain ⟨m, i, hr, hm0, hm1, hi1, hi2, hs⟩ := read_of x h0 h1 h2
  clear h0 h1 h2
  have m1 : IntKind.i64.min = -9223372036854775808 := by decide +kernel
  have m2 : IntKind.i64.max = 9223372036854775807 := by decide +kernel
  have hflo : ∀ n : Nat, floatOfInt .f64 (n : Int) = FloatKind.f64.format.nearest false n 0 := fun n => by
    unfold floatOfInt FloatKind.nearest FloatKind.encode Format.write
    simp only [Int.natAbs_natCast, show decide ((n : Int) < 0) = false from decide_eq_false (by omega)]
  have hv : ∀ v : Nat, v < 9223372036854775808 → m * 2 ^ i.toNat / 2 ^ (-i).toNat = v → floatToIntVal .f64 x .i64 = some (v : Int) := fun v hv h => by
    unfold floatToIntVal FloatKind.decode
    rw [hr, toInt_num, h]
    simp only
    rw [if_pos (by rw [m1, m2]; omega)]
  have hcl : ceilW x = FloatKind.f64.format.nearest false (m * 2 ^ i.toNat / 2 ^ (-i).toNat + (m * 2 ^ i.toNat % 2 ^ (-i).toNat != 0).toNat) 0 := by
    unfold ceilW FloatKind.decode FloatKind.encode
    rw [hr]
    unfold Datum.integral Format.write
    simp only [cut_up, Nat.shiftLeft_eq]
  have hord : ∀ (n : Nat) k j, FloatKind.f64.format.read (FloatKind.f64.format.nearest false n 0) = .number false k j → FloatKind.f64.format.order (floatOfInt .f64 n) x = some (compare ((k * 2 ^ (j - min j i).toNat : Nat) : Int) ((m * 2 ^ (i - min j i).toNat : Nat) : Int)) := fun n k j h => by
    unfold Format.order
    rw [hflo, h, hr, order_pos]
  clear hr
  by_cases hi : 0 ≤ i
  · -- whole
    obtain ⟨u, rfl⟩ : ∃ u : Nat, i = u := ⟨i.toNat, by omega⟩
    have hm2 : 4503599627370496 ≤ m := by omega
    have hu : u ≤ 9 := by omega
    simp only [Int.toNat_natCast, show (-(u : Int)).toNat = 0 by omega, Nat.pow_zero, Nat.div_one, Nat.mod_one] at hv hcl
    have g1 : 2 ^ (52 + u) ≤ m * 2 ^ u := by rw [Nat.pow_add]; exact Nat.mul_le_mul_right _ hm2
    have g2 : m * 2 ^ u < 2 ^ (52 + u + 1) := by rw [show 52 + u + 1 = 53 + u by omega, Nat.pow_add]; exact Nat.mul_lt_mul_of_pos_right hm1 (Nat.pow_pos (by omega))
    have g3 : m * 2 ^ u % 2 ^ (52 + u - 52) = 0 := by rw [show 52 + u - 52 = u by omega]; exact Nat.mul_mod_left _ _
    have g4 : m * 2 ^ u < 4611686018427387904 := Nat.lt_of_lt_of_le g2 (Nat.pow_le_pow_right (n := 2) (by omega) (show 52 + u + 1 ≤ 62 by omega))
    have hk : keptN (m * 2 ^ u) (52 + u) = m := by
      unfold keptN
      rw [show 52 - (52 + u) = 0 by omega, show 52 + u - 52 = u by omega, Nat.pow_zero, Nat.mul_one, Nat.mul_div_cancel _ (Nat.pow_pos (by omega))]
    have hrd := read_exact (m * 2 ^ u) (52 + u) (by omega) g1 g2 g3
    have hib := int_back (m * 2 ^ u) (52 + u) (by omega) g1 g2 g3
    rw [hk, show ((52 + u : Nat) : Int) - 52 = (u : Int) by omega] at hrd
    have ho := hord _ _ _ hrd
    refine ⟨m * 2 ^ u, g4, hv _ (by omega) rfl, .inr ⟨?_, ?_⟩⟩
    · rw [ho, cmp_lt]; simp
    · rw [hcl, show ((0 : Nat) != 0).toNat = 0 by rfl, Nat.add_zero, hib]
  · obtain ⟨g, hg⟩ : ∃ g : Nat, i = -(g : Int) := ⟨(-i).toNat, by omega⟩
    have hg0 : 0 < g := by omega
    subst hg
    simp only [show (-(g : Int)).toNat = 0 by omega, Int.neg_neg, Int.toNat_natCast, Nat.pow_zero, Nat.mul_one] at hv hcl
    have hp : 0 < 2 ^ g := Nat.pow_pos (by omega)
    have hdm := Nat.div_add_mod m (2 ^ g)
    have hrem := Nat.mod_lt m hp
    have hle : m / 2 ^ g ≤ m := Nat.div_le_self _ _
    refine ⟨m / 2 ^ g, by omega, hv _ (by omega) rfl, ?_⟩
    by_cases hn : m / 2 ^ g = 0
    · rw [hn, Nat.mul_zero, Nat.zero_add] at hdm
      rw [hn, hdm] at hcl
      have hz : FloatKind.f64.format.read (FloatKind.f64.format.nearest false 0 0) = .number false 0 (-1074) := by decide +kernel
      have ho := hord _ _ _ hz
      rw [hn]
      refine .inl ⟨?_, ?_⟩
      · rw [ho, cmp_lt, Nat.zero_mul]
        have : 0 < m * 2 ^ (-(g : Int) - min (-1074) (-(g : Int))).toNat := Nat.mul_pos hm0 (Nat.pow_pos (by omega))
        simpa using this
      · rw [hcl, show (m != 0) = true by simp; omega]
        decide +kernel
    · -- something whole: no subnormal
      have hg52 : g ≤ 52 := by
        apply Classical.byContradiction
        intro h
        have : 2 ^ 53 ≤ 2 ^ g := Nat.pow_le_pow_right (by omega) (by omega)
        exact hn (Nat.div_eq_of_lt (by omega))
      have hm2 : 4503599627370496 ≤ m := by omega
      have e1 : 2 ^ (52 - g) * 2 ^ g = 4503599627370496 := by rw [← Nat.pow_add, show 52 - g + g = 52 by omega]
      have e2 : 2 ^ (52 - g + 1) * 2 ^ g = 9007199254740992 := by rw [← Nat.pow_add, show 52 - g + 1 + g = 53 by omega]
      have g1 : 2 ^ (52 - g) ≤ m / 2 ^ g := (Nat.le_div_iff_mul_le hp).2 (by omega)
      have g2 : m / 2 ^ g < 2 ^ (52 - g + 1) := (Nat.div_lt_iff_lt_mul hp).2 (by omega)
      have g3 : ∀ c : Nat, c % 2 ^ (52 - g - 52) = 0 := fun c => by rw [show 52 - g - 52 = 0 by omega, Nat.pow_zero, Nat.mod_one]
      have hk : keptN (m / 2 ^ g) (52 - g) = m / 2 ^ g * 2 ^ g := by
        unfold keptN
        rw [show 52 - (52 - g) = g by omega, show 52 - g - 52 = 0 by omega, Nat.pow_zero, Nat.div_one]
      have hrd := read_exact (m / 2 ^ g) (52 - g) (by omega) g1 g2 (g3 _)
      have hib := int_back (m / 2 ^ g) (52 - g) (by omega) g1 g2 (g3 _)
      rw [hk, show ((52 - g : Nat) : Int) - 52 = -(g : Int) by omega] at hrd
      have ho := hord _ _ _ hrd
      rw [Int.min_self, Int.sub_self, Int.toNat_zero, Nat.pow_zero, Nat.mul_one, Nat.mul_one] at ho
      rw [ho, cmp_lt]
      rw [Nat.mul_comm] at hdm
      by_cases hq : m % 2 ^ g = 0
      · rw [hq] at hcl hdm
        refine .inr ⟨by simp; omega, ?_⟩
        rw [hcl, show ((0 : Nat) != 0).toNat = 0 by rfl, Nat.add_zero, hib]
      · refine .inl ⟨by simp; omega, ?_⟩
        rw [hcl, show (m % 2 ^ g != 0) = true by simpa using hq, show true.toNat = 1 from rfl]
        by_cases hc : m / 2 ^ g + 1 < 2 ^ (52 - g + 1)
        · exact int_back (m / 2 ^ g + 1) (52 - g) (by omega) (by omega) hc (g3 _)
        · have hc2 : m / 2 ^ g + 1 = 2 ^ (52 - g + 1) := by omega
          have := int_back (m / 2 ^ g + 1) (52 - g + 1) (by omega) (by omega) (by rw [hc2]; exact Nat.pow_lt_pow_right (by omega) (by omega)) (by rw [hc2, show 52 - g + 1 - 52 = 0 by omega, Nat.pow_zero, Nat.mod_one])
          exact this
end Go.Proofs.Ytkhbhfnfpognpaa
