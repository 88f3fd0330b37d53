import Derived.Test.YtkhbhfnfpognpaaFlt
/-
  The document's Left; Progress and Rate, whatever comes; Same.
-/
namespace Go.Proofs.Ytkhbhfnfpognpaa
open Go.RowKit Ieee

set_option maxRecDepth 100000 in
theorem dleft_any (a b : Int) (r : Nat) (ha : -4611686018427387904 ≤ a ∧ a < 4611686018427387904) (hb : -4611686018427387904 ≤ b ∧ b < 4611686018427387904) (w : World) : Calls Try.prog 16 #[.int .i64 a, .int .i64 b, .float .f64 r] w fun e w' => e = .returned (.int .i64 (leftN a b r)) ∧ w' = w := by
  obtain ⟨R, hR⟩ : ∃ R, leftN a b r = R := ⟨_, rfl⟩
  rw [hR]
  unfold leftN at hR
  have hg := rate_gt r
  go_enter Try.func16, Try.ntmps16
  by_cases hab : b ≤ a
  · rw [if_pos hab] at hR
    have d1 : decide (b ≤ a) = true := by simpa using hab
    replace hR := Lib.hid hR
    clear hg
    go_wp2_with fail
    go_ret
    rw [← hR.out]
    exact ⟨rfl, rfl⟩
  rw [if_neg hab] at hR
  have d1 : decide (b ≤ a) = false := by simpa using hab
  cases h1 : (fnan r || (FloatKind.f64.format.order r 0 == some .lt || FloatKind.f64.format.order r 0 == some .eq)) with
  | true =>
    rw [h1] at hg hR
    rw [if_pos rfl] at hR
    replace hR := Lib.hid hR
    replace hg : (FloatKind.f64.format.order r 0 == some .gt) = false := hg
    clear h1
    go_wp2_with fail
    go_ret
    rw [← hR.out]
    exact ⟨rfl, rfl⟩
  | false =>
    rw [h1] at hg hR
    replace hg : (FloatKind.f64.format.order r 0 == some .gt) = true := hg
    rw [if_neg (by simp)] at hR
    obtain ⟨h2, h3⟩ := Bool.or_eq_false_iff.1 h1
    obtain ⟨d, hd⟩ : ∃ d : Nat, b - a = d := ⟨(b - a).toNat, by omega⟩
    obtain ⟨q, hq⟩ := div_some d (by omega) (by omega) r h2 h3
    clear h1 h2 h3
    rw [hd, hq] at hR
    have hq2 := fun w => run_float_arith (P := Try.prog) w .quo 24 .f64 _ _ q hq
    have ht := dticks_any q w
    rw [show tickF q = R from hR] at ht
    clear hR hq
    have hsub : wrap64 (b - a) = (d : Int) := by unfold wrap64; omega
    have hsub2 : IntKind.i64.wrap (b - a) = (d : Int) := by rw [hd]; exact IntWalk.i64_in _ (by omega)
    go_wp2_with fail
    refine ht.mono ?_
    rintro e w1 ⟨rfl, rfl⟩
    go_wp2_with fail
    go_ret
    exact ⟨rfl, rfl⟩
theorem nan_cut (x y t : Nat) : fnan ((Question.nanBits .f64 x y).cut t) = true := by
  rw [fnan_is]
  show (FloatKind.f64.format.read ((t % 2) * 2 ^ 63 + 0x7ff0000000000000 + 1 + (t / 2) % (2 ^ 52 - 1))).isNaN = true
  generalize hz : (t % 2) * 2 ^ 63 + 0x7ff0000000000000 + 1 + (t / 2) % (2 ^ 52 - 1) = z
  have hz2 : z % 9223372036854775808 = 9218868437227405313 + (t / 2) % 4503599627370495 := by omega
  unfold Format.read
  simp only [fsw, fbi, fif, flp]
  rw [if_neg (by omega), if_neg (by omega), if_neg (by omega)]
  rfl
theorem quo_none (t : TypeId) (x y : Nat) (h : FloatKind.f64.format.div x y = none) (w : World) : (binOp .quo t (.float .f64 x) (.float .f64 y)).run Try.prog w = .ok (.float .f64 ((Question.nanBits .f64 x y).cut (w.tape w.drawn (.nanBits .f64 x y)))) w.drew := by
  simp [binOp, Op.floatArith, h, Question.forced]
/-- a quotient: its word, or some float that is no number -/
def RateR (n m : Int) (e : Ending) : Prop := ∃ r : Nat, e = .returned (.float .f64 r) ∧ match FloatKind.f64.format.div (floatOfInt .f64 n) (floatOfInt .f64 m) with | some q => r = q | none => fnan r = true
theorem mrate_any (n m : Int) (w : World) : Calls Try.prog 27 #[.int .i64 n, .int .i64 m] w fun e w' => RateR n m e ∧ Below w.heap.size w w' := by
  cases h : FloatKind.f64.format.div (floatOfInt .f64 n) (floatOfInt .f64 m) with
  | some q => exact (rate_val n m q h w).mono fun e w' h2 => ⟨⟨q, h2.1, by rw [h]⟩, by rw [h2.2]; exact Below.refl _ _⟩
  | none =>
    have hq := fun w => quo_none 24 _ _ h w
    obtain ⟨Z, hZ⟩ : ∃ Z, (Question.nanBits .f64 (floatOfInt .f64 n) (floatOfInt .f64 m)).cut (w.tape w.drawn (.nanBits .f64 (floatOfInt .f64 n) (floatOfInt .f64 m))) = Z := ⟨_, rfl⟩
    have hn : fnan Z = true := by rw [← hZ]; exact nan_cut _ _ _
    replace hq := hq w
    rw [hZ] at hq
    have H : Hid (∀ e, e = .returned (.float .f64 Z) → RateR n m e) := Lib.hid fun e he => ⟨Z, he, by rw [h]; exact hn⟩
    clear h hZ hn
    go_enter Try.func27, Try.ntmps27
    go_wp2_with fail
    go_ret
    exact ⟨H.out _ rfl, Below.drewNr 1⟩
theorem drate_any (n m : Int) (w : World) : Calls Try.prog 14 #[.int .i64 n, .int .i64 m] w fun e w' => RateR n m e ∧ Below w.heap.size w w' := by
  cases h : FloatKind.f64.format.div (floatOfInt .f64 n) (floatOfInt .f64 m) with
  | some q =>
    have hq := fun w => run_float_arith (P := Try.prog) w .quo 24 .f64 _ _ q h
    have H : Hid (∀ e, e = .returned (.float .f64 q) → RateR n m e) := Lib.hid fun e he => ⟨q, he, by rw [h]⟩
    clear h
    go_enter Try.func14, Try.ntmps14
    go_wp2_with fail
    go_ret
    exact ⟨H.out _ rfl, Below.refl _ _⟩
  | none =>
    have hq := fun w => quo_none 24 _ _ h w
    obtain ⟨Z, hZ⟩ : ∃ Z, (Question.nanBits .f64 (floatOfInt .f64 n) (floatOfInt .f64 m)).cut (w.tape w.drawn (.nanBits .f64 (floatOfInt .f64 n) (floatOfInt .f64 m))) = Z := ⟨_, rfl⟩
    have hn : fnan Z = true := by rw [← hZ]; exact nan_cut _ _ _
    replace hq := hq w
    rw [hZ] at hq
    have H : Hid (∀ e, e = .returned (.float .f64 Z) → RateR n m e) := Lib.hid fun e he => ⟨Z, he, by rw [h]; exact hn⟩
    clear h hZ hn
    go_enter Try.func14, Try.ntmps14
    go_wp2_with fail
    go_ret
    exact ⟨H.out _ rfl, Below.drewNr 1⟩
theorem progress_any (n m : Int) (w : World) : Calls Try.prog 13 #[.int .i64 n, .int .i64 m] w fun e w' => RateR n m e ∧ Below w.heap.size w w' := by
  have hr := mrate_any n m w
  go_enter Try.func13, Try.ntmps13
  go_wp2_with fail
  refine hr.mono ?_
  rintro e w1 ⟨⟨r, rfl, hq⟩, hb⟩
  have H : Hid (∀ e, e = .returned (.float .f64 r) → RateR n m e) := Lib.hid fun e he => ⟨r, he, hq⟩
  clear hr hq
  go_wp2_with fail
  go_ret
  exact ⟨H.out _ rfl, hb⟩
theorem same_any (n m : Int) (a b : Nat) (ha : RateR n m (.returned (.float .f64 a))) (hb : RateR n m (.returned (.float .f64 b))) (w : World) : Calls Try.prog 12 #[.float .f64 a, .float .f64 b] w fun e w' => e = .returned (.bool true) ∧ w' = w := by
  have hab : a = b ∨ (fnan a = true ∧ fnan b = true) := by
    obtain ⟨r, h1, h2⟩ := ha
    obtain ⟨s, h3, h4⟩ := hb
    cases h1
    cases h3
    cases hd : FloatKind.f64.format.div (floatOfInt .f64 n) (floatOfInt .f64 m) with
    | some q => rw [hd] at h2 h4; exact .inl (h2.trans h4.symm)
    | none => rw [hd] at h2 h4; exact .inr ⟨h2, h4⟩
  clear ha hb
  have na := none_any a w
  have nb := none_any b w
  have ba := ext_bits a
  have bb := ext_bits b
  go_enter Try.func12, Try.ntmps12
  cases h1 : fnan a with
  | true =>
    have h2 : fnan b = true := by
      rcases hab with rfl | h
      · exact h1
      · exact h.2
    rw [h1] at na
    rw [h2] at nb
    clear hab h1 h2
    go_wp2_with fail
    refine na.mono ?_
    rintro e w1 ⟨rfl, rfl⟩
    go_wp2_with fail
    refine nb.mono ?_
    rintro e w1 ⟨rfl, rfl⟩
    go_wp2_with fail
    go_ret
    exact ⟨rfl, rfl⟩
  | false =>
    have h2 : a = b := by
      rcases hab with h | h
      · exact h
      · rw [h1] at h; cases h.1
    subst h2
    rw [h1] at na
    clear hab h1 nb
    go_wp2_with fail
    refine na.mono ?_
    rintro e w1 ⟨rfl, rfl⟩
    go_wp2_with fail
    go_ret
    exact ⟨rfl, rfl⟩
end Go.Proofs.Ytkhbhfnfpognpaa
