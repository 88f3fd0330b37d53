import Derived.Test.YtffkjbbhbpaacaaDoorFla
/-
  Floats: Ceil, Ticks; Ldexp of a half; the document's Delay.
-/
namespace Go.Proofs.YtffkjbbhbpaacaaDoor
open Go.RowKit

def ceilW (x : Nat) : Nat := FloatKind.f64.encode ((FloatKind.f64.decode x).integral .up)
theorem ext_ceil (x : Nat) (hx : (FloatKind.f64.decode x).isNaN = false) (w : World) : (callFunc 85 #[.float .f64 x]).run Tryd.prog w = .ok (.value (.float .f64 (ceilW x))) w := by
  rw [run_callFunc_extern (P := Tryd.prog) (f := 85) (fn := Tryd.f85) (e := Extern.MathFloor.toIntegral "math.archCeil" .up) Tryd.func85 (by kernel_rfl) (by kernel_rfl) (by kernel_rfl) (by kernel_rfl)]
  have m : ∀ (h1 : Nat → Sem Value) (h2 : Array Value → Sem Value), Extern.MathFloor.toIntegral.match_2 (fun _ => Sem Value) #[.float .f64 x] h1 h2 = h1 x := fun _ _ => rfl
  delta Extern.MathFloor.toIntegral
  rw [m]
  unfold ceilW
  cases h : FloatKind.f64.decode x with
  | nan s t => rw [h] at hx; cases hx
  | number s m e => rfl
  | infinity s => rfl
theorem order_self (d : Ieee.Datum) : (d.order d == some .eq) = !d.isNaN := by
  cases d with
  | nan s t => rfl
  | number s m e =>
    simp [Ieee.Datum.order, Ieee.Datum.isNaN]
  | infinity s => cases s <;> rfl
theorem fnan_is (x : Nat) : fnan x = (FloatKind.f64.decode x).isNaN := by
  have h := order_self (FloatKind.f64.decode x)
  unfold fnan
  show (!((FloatKind.f64.decode x).order (FloatKind.f64.decode x) == some .eq)) = _
  rw [h, Bool.not_not]
theorem ceil_any (x : Nat) (hx : fnan x = false) (w : World) : Calls Tryd.prog 81 #[.float .f64 x] w fun e w' => e = .returned (.float .f64 (ceilW x)) ∧ w' = w := by
  have hb := ext_ceil x (by rw [← fnan_is]; exact hx)
  go_enter Tryd.func81, Tryd.ntmps81
  go_wp2_with fail
  go_ret
  exact ⟨rfl, rfl⟩
/-- what meter.Ticks says -/
def tickF (x : Nat) : Int := if fnan x || (FloatKind.f64.format.order x 0 == some .lt || FloatKind.f64.format.order x 0 == some .eq) then 0 else if (FloatKind.f64.format.order x 4886405595696988160 == some .gt || FloatKind.f64.format.order x 4886405595696988160 == some .eq) then 4611686018427387904 else (floatToIntVal .f64 (ceilW x) .i64).getD 0
theorem ticks_when (x : Nat) (hr : fnan x = false → (FloatKind.f64.format.order x 0 == some .lt || FloatKind.f64.format.order x 0 == some .eq) = false → (FloatKind.f64.format.order x 4886405595696988160 == some .gt || FloatKind.f64.format.order x 4886405595696988160 == some .eq) = false → ∃ n, floatToIntVal .f64 (ceilW x) .i64 = some n) (w : World) :
    Calls Tryd.prog 76 #[.float .f64 x] w fun e w' => e = .returned (.int .i64 (tickF x)) ∧ w' = w := by
  have ia := isnan_any x w
  go_enter Tryd.func76, Tryd.ntmps76
  unfold tickF
  cases h0 : fnan x with
  | true =>
    rw [h0] at ia
    go_wp2_with fail
    refine ia.mono ?_
    rintro e w1 ⟨rfl, rfl⟩
    go_wp2_with fail
    go_ret
    exact ⟨rfl, rfl⟩
  | false =>
    rw [h0] at ia
    cases h1 : (FloatKind.f64.format.order x 0 == some .lt || FloatKind.f64.format.order x 0 == some .eq) with
    | true =>
      go_wp2_with fail
      refine ia.mono ?_
      rintro e w1 ⟨rfl, rfl⟩
      go_wp2_with fail
      go_ret
      exact ⟨rfl, rfl⟩
    | false =>
      cases h2 : (FloatKind.f64.format.order x 4886405595696988160 == some .gt || FloatKind.f64.format.order x 4886405595696988160 == some .eq) with
      | true =>
        go_wp2_with fail
        refine ia.mono ?_
        rintro e w1 ⟨rfl, rfl⟩
        go_wp2_with fail
        go_ret
        exact ⟨rfl, rfl⟩
      | false =>
        obtain ⟨n, hn⟩ := hr h0 h1 h2
        have hc := ceil_any x h0 w
        have hcv := fun w => run_convert_float_int (P := Tryd.prog) w 128 2 .f64 .i64 (ceilW x) n (by rw [Tryd.underlying128]; rfl) Tryd.underlying2 hn
        rw [hn]
        go_wp2_with fail
        refine ia.mono ?_
        rintro e w1 ⟨rfl, rfl⟩
        go_wp2_with fail
        refine hc.mono ?_
        rintro e w1 ⟨rfl, rfl⟩
        go_wp2_with fail
        go_ret
        exact ⟨rfl, rfl⟩
theorem fromI (x : Nat) (z : Int) (h : z = (x : Int)) (w : World) : (callFunc 93 #[.int .u64 z]).run Tryd.prog w = .ok (.value (.float .f64 x)) w := by rw [h]; exact ext_from x w
theorem abs_half (w : World) : Calls Tryd.prog 95 #[.float .f64 4602678819172646912] w fun e w' => e = .returned (.float .f64 4602678819172646912) ∧ w' = w := by
  have b1 := ext_bits 4602678819172646912
  have b2 := fromI 4602678819172646912 4602678819172646912 rfl
  have b3 : bits .andNot .u64 4602678819172646912 9223372036854775808 = 4602678819172646912 := by decide +kernel
  go_enter Tryd.func95, Tryd.ntmps95
  go_wp2_with fail
  go_ret
  exact ⟨rfl, rfl⟩
theorem norm_half (w : World) : Calls Tryd.prog 89 #[.float .f64 4602678819172646912] w fun e w' => e = .returned (.tuple #[.float .f64 4602678819172646912, .int .i64 0]) ∧ w' = w := by
  have ha := abs_half w
  have o1 : FloatKind.f64.format.order 4602678819172646912 4503599627370496 = some .gt := by decide +kernel
  go_enter Tryd.func89, Tryd.ntmps89
  go_wp2_with fail
  refine ha.mono ?_
  rintro e w1 ⟨rfl, rfl⟩
  go_wp2_with fail
  go_ret2
  exact ⟨rfl, rfl⟩
theorem isinf_half (w : World) : Calls Tryd.prog 88 #[.float .f64 4602678819172646912, .int .i64 0] w fun e w' => e = .returned (.bool false) ∧ w' = w := by
  have o1 : FloatKind.f64.format.order 4602678819172646912 9218868437227405311 = some .lt := by decide +kernel
  have ha := abs_half w
  go_enter Tryd.func88, Tryd.ntmps88
  go_wp2_with fail
  refine ha.mono ?_
  rintro e w1 ⟨rfl, rfl⟩
  go_wp2_with fail
  go_ret
  exact ⟨rfl, rfl⟩
theorem copy0 (w : World) : Calls Tryd.prog 91 #[.float .f64 0, .float .f64 4602678819172646912] w fun e w' => e = .returned (.float .f64 0) ∧ w' = w := by
  have b1 := ext_bits 4602678819172646912
  have b2 := ext_bits 0
  have b3 := fromI 0 0 rfl
  have c1 : bits .andNot .u64 0 9223372036854775808 = 0 := by decide +kernel
  have c2 : bits .and .u64 4602678819172646912 9223372036854775808 = 0 := by decide +kernel
  have c3 : bits .or .u64 0 0 = 0 := by decide +kernel
  go_enter Tryd.func91, Tryd.ntmps91
  go_wp2_with fail
  go_ret
  exact ⟨rfl, rfl⟩
theorem inf1 (w : World) : Calls Tryd.prog 92 #[.int .i64 1] w fun e w' => e = .returned (.float .f64 9218868437227405312) ∧ w' = w := by
  have b3 := fromI 9218868437227405312 9218868437227405312 rfl
  go_enter Tryd.func92, Tryd.ntmps92
  go_wp2_with fail
  go_ret
  exact ⟨rfl, rfl⟩
/-- 2^(k-1022), a half doubled so often -/
def powW (k : Nat) : Nat := (k + 1) * 4503599627370496
def subW (k : Nat) : Nat := (FloatKind.f64.format.mul 4368491638549381120 (powW k)).getD 0
theorem or_pow : ∀ k : Nat, k < 2046 → bits .or .u64 0 (((k : Int) + 1) * 4503599627370496) = ((powW k : Nat) : Int) := by decide +kernel
theorem mul_pow : ∀ k : Nat, k < 2046 → FloatKind.f64.format.mul 4607182418800017408 (powW k) = some (powW k) := by decide +kernel
theorem mul_sub : ∀ k : Nat, k < 53 → FloatKind.f64.format.mul 4368491638549381120 (powW k) = some (subW k) := by decide +kernel
/-- what a half, doubled p times, is -/
def ldW (p : Int) : Nat := if p ≤ -1075 then 0 else if p ≤ -1022 then subW (p + 1074).toNat else if p ≤ 1024 then powW (p + 1021).toNat else 9218868437227405312
set_option maxRecDepth 100000 in
set_option maxHeartbeats 800000 in
theorem ldexp0 (p : Int) (hp : -5000 ≤ p ∧ p ≤ 5000) (w : World) : Calls Tryd.prog 84 #[.float .f64 4602678819172646912, .int .i64 p] w fun e w' => e = .returned (.float .f64 (ldW p)) ∧ w' = w := by
  have o1 : FloatKind.f64.format.order 4602678819172646912 0 = some .gt := by decide +kernel
  have i1 := isinf_half w
  have i2 := isnan_any 4602678819172646912 w
  rw [show fnan 4602678819172646912 = false by decide +kernel] at i2
  have i3 := norm_half w
  have b1 := ext_bits 4602678819172646912
  have c1 : bits .and .i64 1022 2047 = 1022 := by decide +kernel
  have c2 : bits .andNot .u64 4602678819172646912 9218868437227405312 = 0 := by decide +kernel
  have c3 : wrap64 (-1) = -1 := by decide +kernel
  have hcp := copy0 w
  have hin := inf1 w
  have hl : ldW p = if p ≤ -1075 then 0 else if p ≤ -1022 then subW (p + 1074).toNat else if p ≤ 1024 then powW (p + 1021).toNat else 9218868437227405312 := rfl
  generalize ldW p = R at hl ⊢
  have hw : wrap64 (p + -1) = p + -1 := by unfold wrap64; omega
  have HL := Lib.hid hl
  clear hl
  go_enter Tryd.func84, Tryd.ntmps84
  by_cases h1 : p ≤ -1075
  · have d1 : decide (p + -1 < -1075) = true := by simp; omega
    have hR : R = 0 := by rw [HL.out, if_pos h1]
    replace hR := Lib.hid hR
    go_wp2_with fail
    refine i1.mono ?_
    rintro e w1 ⟨rfl, rfl⟩
    go_wp2_with fail
    refine i2.mono ?_
    rintro e w1 ⟨rfl, rfl⟩
    go_wp2_with fail
    refine i3.mono ?_
    rintro e w1 ⟨rfl, rfl⟩
    go_wp2_with fail
    refine hcp.mono ?_
    rintro e w1 ⟨rfl, rfl⟩
    go_wp2_with fail
    go_ret
    rw [hR.out]
    exact ⟨rfl, rfl⟩
  have d1 : decide (p + -1 < -1075) = false := by simp; omega
  by_cases h2 : p ≤ -1022
  · obtain ⟨k, hk⟩ : ∃ k : Nat, k = (p + 1074).toNat := ⟨_, rfl⟩
    have hk53 : k < 53 := by omega
    have hqk : p = (k : Int) - 1074 := by omega
    have hR : R = subW k := by rw [HL.out, if_neg h1, if_pos h2, hk]
    have d2 : decide (1023 < p + -1) = false := by simp; omega
    have d3 : decide (p + -1 < -1022) = true := by simp; omega
    have hsum : (p + -1 + 53 + 1023) * 4503599627370496 = ((k : Int) + 1) * 4503599627370496 := by rw [hqk]; congr 1; omega
    have hor : bits .or .u64 0 ((p + -1 + 53 + 1023) * 4503599627370496) = ((powW k : Nat) : Int) := by rw [hsum]; exact or_pow k (by omega)
    have hfr := ext_from (powW k)
    have hml := fun w => run_float_arith (P := Tryd.prog) w .mul 128 .f64 4368491638549381120 (powW k) (subW k) (mul_sub k hk53)
    replace hR := Lib.hid hR
    clear hsum hk HL
    generalize powW k = PW at *
    generalize subW k = SW at *
    have hq2 : -1075 < p ∧ p ≤ -1022 := by omega
    clear hqk hk53 k
    go_wp2_with fail
    refine i1.mono ?_
    rintro e w1 ⟨rfl, rfl⟩
    go_wp2_with fail
    refine i2.mono ?_
    rintro e w1 ⟨rfl, rfl⟩
    go_wp2_with fail
    refine i3.mono ?_
    rintro e w1 ⟨rfl, rfl⟩
    go_wp2_with fail
    go_ret
    rw [hR.out]
    exact ⟨rfl, rfl⟩
  by_cases h3 : p ≤ 1024
  · obtain ⟨k, hk⟩ : ∃ k : Nat, k = (p + 1021).toNat := ⟨_, rfl⟩
    have hk53 : k < 2046 := by omega
    have hqk : p = (k : Int) - 1021 := by omega
    have hR : R = powW k := by rw [HL.out, if_neg h1, if_neg h2, if_pos h3, hk]
    have d2 : decide (1023 < p + -1) = false := by simp; omega
    have d3 : decide (p + -1 < -1022) = false := by simp; omega
    have hsum : (p + -1 + 1023) * 4503599627370496 = ((k : Int) + 1) * 4503599627370496 := by rw [hqk]; congr 1; omega
    have hor : bits .or .u64 0 ((p + -1 + 1023) * 4503599627370496) = ((powW k : Nat) : Int) := by rw [hsum]; exact or_pow k (by omega)
    have hfr := ext_from (powW k)
    have hml := fun w => run_float_arith (P := Tryd.prog) w .mul 128 .f64 4607182418800017408 (powW k) (powW k) (mul_pow k hk53)
    replace hR := Lib.hid hR
    clear hsum hk HL
    generalize powW k = PW at *
    have hq2 : -1022 < p ∧ p ≤ 1024 := by omega
    clear hqk hk53 k
    go_wp2_with fail
    refine i1.mono ?_
    rintro e w1 ⟨rfl, rfl⟩
    go_wp2_with fail
    refine i2.mono ?_
    rintro e w1 ⟨rfl, rfl⟩
    go_wp2_with fail
    refine i3.mono ?_
    rintro e w1 ⟨rfl, rfl⟩
    go_wp2_with fail
    go_ret
    rw [hR.out]
    exact ⟨rfl, rfl⟩
  · have d2 : decide (1023 < p + -1) = true := by simp; omega
    have hR : R = 9218868437227405312 := by rw [HL.out, if_neg h1, if_neg h2, if_neg h3]
    replace hR := Lib.hid hR
    go_wp2_with fail
    refine i1.mono ?_
    rintro e w1 ⟨rfl, rfl⟩
    go_wp2_with fail
    refine i2.mono ?_
    rintro e w1 ⟨rfl, rfl⟩
    go_wp2_with fail
    refine i3.mono ?_
    rintro e w1 ⟨rfl, rfl⟩
    go_wp2_with fail
    refine hin.mono ?_
    rintro e w1 ⟨rfl, rfl⟩
    go_wp2_with fail
    go_ret
    rw [hR.out]
    exact ⟨rfl, rfl⟩
end Go.Proofs.YtffkjbbhbpaacaaDoor
