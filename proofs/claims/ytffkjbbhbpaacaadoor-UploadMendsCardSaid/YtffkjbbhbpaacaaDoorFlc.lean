import Derived.Test.YtffkjbbhbpaacaaDoorRsq
import Derived.Test.YtffkjbbhbpaacaaDoorNum
import Derived.WalkLawsBesides
import Derived.Laws.Externs
import Derived.Lib.Hide
/-
  Floats: what math's and meter's functions answer, off the words.
  Floats: Ceil, Ticks; Ldexp of a half; the document's Delay.
  pace.Delay, the document's Delay.
-/
namespace Go.Proofs.YtffkjbbhbpaacaaDoor
open Go.RowKit

/-- how two floats stand to each other -/
abbrev ord (a b : Nat) : Option Ordering := FloatKind.f64.format.order a b
/-- none: a float that is no number -/
def fnan (x : Nat) : Bool := ord x x != some .eq
def fneg (x : Nat) : Bool := decide (9223372036854775808 ≤ x)

theorem ext_bits (x : Nat) (w : World) : (callFunc 90 #[.float .f64 x]).run Tryd.prog w = .ok (.value (.int .u64 (x : Int))) w := by
  rw [run_callFunc_extern (P := Tryd.prog) (f := 90) (fn := Tryd.f90) (e := Extern.MathFloatBits.float64bits) Tryd.func90 (by kernel_rfl) (by kernel_rfl) (by kernel_rfl) (by kernel_rfl)]
  rfl
theorem ext_from (x : Nat) (w : World) : (callFunc 93 #[.int .u64 (x : Int)]).run Tryd.prog w = .ok (.value (.float .f64 x)) w := by
  rw [run_callFunc_extern (P := Tryd.prog) (f := 93) (fn := Tryd.f93) (e := Extern.MathFloatBits.float64frombits) Tryd.func93 (by kernel_rfl) (by kernel_rfl) (by kernel_rfl) (by kernel_rfl)]
  rfl

theorem isnan_any (x : Nat) (w : World) : Calls Tryd.prog 80 #[.float .f64 x] w fun e w' => e = .returned (.bool (fnan x)) ∧ w' = w := by
  go_enter Tryd.func80, Tryd.ntmps80
  go_wp2_with fail
  go_ret
  exact ⟨rfl, rfl⟩
theorem neg_wrap (x : Nat) (hx : x < 18446744073709551616) : decide (wrap64 (x : Int) < 0) = fneg x := by
  unfold fneg
  apply decide_eq_decide.2
  unfold wrap64
  omega
theorem signbit_any (x : Nat) (hx : x < 18446744073709551616) (w : World) : Calls Tryd.prog 87 #[.float .f64 x] w fun e w' => e = .returned (.bool (fneg x)) ∧ w' = w := by
  have hb := ext_bits x
  have hn := neg_wrap x hx
  go_enter Tryd.func87, Tryd.ntmps87
  go_wp2_with fail
  go_ret
  exact ⟨rfl, rfl⟩
/-- what meter.Less says -/
def lessF (a b : Nat) : Bool := if fnan a || fnan b then (!fnan b && fnan a) else if (FloatKind.f64.format.order a 0 == some .eq) && (FloatKind.f64.format.order b 0 == some .eq) then (fneg a && !fneg b) else (FloatKind.f64.format.order a b == some .lt)
set_option maxRecDepth 100000 in
theorem less_any (a b : Nat) (ha : a < 18446744073709551616) (hb : b < 18446744073709551616) (w : World) : Calls Tryd.prog 82 #[.float .f64 a, .float .f64 b] w fun e w' => e = .returned (.bool (lessF a b)) ∧ w' = w := by
  have ia := isnan_any a w
  have ib := isnan_any b w
  have sa := signbit_any a ha w
  have sb := signbit_any b hb w
  go_enter Tryd.func82, Tryd.ntmps82
  unfold lessF
  cases hna : fnan a with
  | true =>
    rw [hna] at ia
    cases hnb : fnan b with
    | true =>
      rw [hnb] at ib
      go_wp2_with fail
      refine ia.mono ?_
      rintro e w1 ⟨rfl, rfl⟩
      go_wp2_with fail
      refine ib.mono ?_
      rintro e w1 ⟨rfl, rfl⟩
      go_wp2_with fail
      go_ret
      exact ⟨rfl, rfl⟩
    | false =>
      rw [hnb] at ib
      go_wp2_with fail
      refine ia.mono ?_
      rintro e w1 ⟨rfl, rfl⟩
      go_wp2_with fail
      refine ib.mono ?_
      rintro e w1 ⟨rfl, rfl⟩
      go_wp2_with fail
      refine ia.mono ?_
      rintro e w1 ⟨rfl, rfl⟩
      go_wp2_with fail
      go_ret
      exact ⟨rfl, rfl⟩
  | false =>
    rw [hna] at ia
    cases hnb : fnan b with
    | true =>
      rw [hnb] at ib
      go_wp2_with fail
      refine ia.mono ?_
      rintro e w1 ⟨rfl, rfl⟩
      go_wp2_with fail
      refine ib.mono ?_
      rintro e w1 ⟨rfl, rfl⟩
      go_wp2_with fail
      refine ib.mono ?_
      rintro e w1 ⟨rfl, rfl⟩
      go_wp2_with fail
      go_ret
      exact ⟨rfl, rfl⟩
    | false =>
      rw [hnb] at ib
      go_wp2_with fail
      refine ia.mono ?_
      rintro e w1 ⟨rfl, rfl⟩
      go_wp2_with fail
      refine ib.mono ?_
      rintro e w1 ⟨rfl, rfl⟩
      cases ea : (FloatKind.f64.format.order a 0 == some Ordering.eq) with
      | true =>
        cases eb : (FloatKind.f64.format.order b 0 == some Ordering.eq) with
        | true =>
          go_wp2_with fail
          refine sa.mono ?_
          rintro e w1 ⟨rfl, rfl⟩
          cases ga : fneg a with
          | true =>
            go_wp2_with fail
            refine sb.mono ?_
            rintro e w1 ⟨rfl, rfl⟩
            go_wp2_with fail
            go_ret
            exact ⟨rfl, rfl⟩
          | false =>
            go_wp2_with fail
            go_ret
            exact ⟨rfl, rfl⟩
        | false =>
          go_wp2_with fail
          go_ret
          exact ⟨rfl, rfl⟩
      | false =>
        go_wp2_with fail
        go_ret
        exact ⟨rfl, rfl⟩
def clampF (x lo hi : Nat) : Nat := if lessF x lo then lo else if lessF hi x then hi else x
theorem clamp_any (x lo hi : Nat) (hx : x < 18446744073709551616) (hl : lo < 18446744073709551616) (hh : hi < 18446744073709551616) (w : World) : Calls Tryd.prog 77 #[.float .f64 x, .float .f64 lo, .float .f64 hi] w fun e w' => e = .returned (.float .f64 (clampF x lo hi)) ∧ w' = w := by
  have l1 := less_any x lo hx hl w
  have l2 := less_any hi x hh hx w
  go_enter Tryd.func77, Tryd.ntmps77
  unfold clampF
  cases h1 : lessF x lo with
  | true =>
    rw [h1] at l1
    go_wp2_with fail
    refine l1.mono ?_
    rintro e w1 ⟨rfl, rfl⟩
    go_wp2_with fail
    go_ret
    exact ⟨rfl, rfl⟩
  | false =>
    rw [h1] at l1
    go_wp2_with fail
    refine l1.mono ?_
    rintro e w1 ⟨rfl, rfl⟩
    cases h2 : lessF hi x with
    | true =>
      rw [h2] at l2
      go_wp2_with fail
      refine l2.mono ?_
      rintro e w1 ⟨rfl, rfl⟩
      go_wp2_with fail
      go_ret
      exact ⟨rfl, rfl⟩
    | false =>
      rw [h2] at l2
      go_wp2_with fail
      refine l2.mono ?_
      rintro e w1 ⟨rfl, rfl⟩
      go_wp2_with fail
      go_ret
      exact ⟨rfl, rfl⟩
def ceilW (x : Nat) : Nat := FloatKind.f64.encode ((FloatKind.f64.decode x).integral .up)
theorem ext_ceil (x : Nat) (hx : (FloatKind.f64.decode x).isNaN = false) (w : World) : (callFunc 85 #[.float .f64 x]).run Tryd.prog w = .ok (.value (.float .f64 (ceilW x))) w := by
  rw [run_callFunc_extern (P := Tryd.prog) (f := 85) (fn := Tryd.f85) (e := Extern.MathFloor.toIntegral "math.archCeil" .up) Tryd.func85 (by kernel_rfl) (by kernel_rfl) (by kernel_rfl) (by kernel_rfl)]
  have m : ∀ (h1 : Nat → Sem Value) (h2 : Array Value → Sem Value), Extern.MathFloor.toIntegral.match_2 (fun _ => Sem Value) #[.float .f64 x] h1 h2 = h1 x := fun _ _ => rfl
  delta Extern.MathFloor.toIntegral
  rw [m]
  unfold ceilW
  cases h : FloatKind.f64.decode x with
  | nan s t => rw [h] at hx; cases hx
  | number s m e => rfl
  | infinity s => rfl
theorem order_self (d : Ieee.Datum) : (d.order d == some .eq) = !d.isNaN := by
  cases d with
  | nan s t => rfl
  | number s m e =>
    simp [Ieee.Datum.order, Ieee.Datum.isNaN]
  | infinity s => cases s <;> rfl
theorem fnan_is (x : Nat) : fnan x = (FloatKind.f64.decode x).isNaN := by
  have h := order_self (FloatKind.f64.decode x)
  unfold fnan
  show (!((FloatKind.f64.decode x).order (FloatKind.f64.decode x) == some .eq)) = _
  rw [h, Bool.not_not]
theorem ceil_any (x : Nat) (hx : fnan x = false) (w : World) : Calls Tryd.prog 81 #[.float .f64 x] w fun e w' => e = .returned (.float .f64 (ceilW x)) ∧ w' = w := by
  have hb := ext_ceil x (by rw [← fnan_is]; exact hx)
  go_enter Tryd.func81, Tryd.ntmps81
  go_wp2_with fail
  go_ret
  exact ⟨rfl, rfl⟩
/-- what meter.Ticks says -/
def tickF (x : Nat) : Int := if fnan x || (FloatKind.f64.format.order x 0 == some .lt || FloatKind.f64.format.order x 0 == some .eq) then 0 else if (FloatKind.f64.format.order x 4886405595696988160 == some .gt || FloatKind.f64.format.order x 4886405595696988160 == some .eq) then 4611686018427387904 else (floatToIntVal .f64 (ceilW x) .i64).getD 0
theorem ticks_when (x : Nat) (hr : fnan x = false → (FloatKind.f64.format.order x 0 == some .lt || FloatKind.f64.format.order x 0 == some .eq) = false → (FloatKind.f64.format.order x 4886405595696988160 == some .gt || FloatKind.f64.format.order x 4886405595696988160 == some .eq) = false → ∃ n, floatToIntVal .f64 (ceilW x) .i64 = some n) (w : World) :
    Calls Tryd.prog 76 #[.float .f64 x] w fun e w' => e = .returned (.int .i64 (tickF x)) ∧ w' = w := by
  have ia := isnan_any x w
  go_enter Tryd.func76, Tryd.ntmps76
  unfold tickF
  cases h0 : fnan x with
  | true =>
    rw [h0] at ia
    go_wp2_with fail
    refine ia.mono ?_
    rintro e w1 ⟨rfl, rfl⟩
    go_wp2_with fail
    go_ret
    exact ⟨rfl, rfl⟩
  | false =>
    rw [h0] at ia
    cases h1 : (FloatKind.f64.format.order x 0 == some .lt || FloatKind.f64.format.order x 0 == some .eq) with
    | true =>
      go_wp2_with fail
      refine ia.mono ?_
      rintro e w1 ⟨rfl, rfl⟩
      go_wp2_with fail
      go_ret
      exact ⟨rfl, rfl⟩
    | false =>
      cases h2 : (FloatKind.f64.format.order x 4886405595696988160 == some .gt || FloatKind.f64.format.order x 4886405595696988160 == some .eq) with
      | true =>
        go_wp2_with fail
        refine ia.mono ?_
        rintro e w1 ⟨rfl, rfl⟩
        go_wp2_with fail
        go_ret
        exact ⟨rfl, rfl⟩
      | false =>
        obtain ⟨n, hn⟩ := hr h0 h1 h2
        have hc := ceil_any x h0 w
        have hcv := fun w => run_convert_float_int (P := Tryd.prog) w 128 2 .f64 .i64 (ceilW x) n (by rw [Tryd.underlying128]; rfl) Tryd.underlying2 hn
        rw [hn]
        go_wp2_with fail
        refine ia.mono ?_
        rintro e w1 ⟨rfl, rfl⟩
        go_wp2_with fail
        refine hc.mono ?_
        rintro e w1 ⟨rfl, rfl⟩
        go_wp2_with fail
        go_ret
        exact ⟨rfl, rfl⟩
theorem fromI (x : Nat) (z : Int) (h : z = (x : Int)) (w : World) : (callFunc 93 #[.int .u64 z]).run Tryd.prog w = .ok (.value (.float .f64 x)) w := by rw [h]; exact ext_from x w
theorem abs_half (w : World) : Calls Tryd.prog 95 #[.float .f64 4602678819172646912] w fun e w' => e = .returned (.float .f64 4602678819172646912) ∧ w' = w := by
  have b1 := ext_bits 4602678819172646912
  have b2 := fromI 4602678819172646912 4602678819172646912 rfl
  have b3 : bits .andNot .u64 4602678819172646912 9223372036854775808 = 4602678819172646912 := by decide +kernel
  go_enter Tryd.func95, Tryd.ntmps95
  go_wp2_with fail
  go_ret
  exact ⟨rfl, rfl⟩
theorem norm_half (w : World) : Calls Tryd.prog 89 #[.float .f64 4602678819172646912] w fun e w' => e = .returned (.tuple #[.float .f64 4602678819172646912, .int .i64 0]) ∧ w' = w := by
  have ha := abs_half w
  have o1 : FloatKind.f64.format.order 4602678819172646912 4503599627370496 = some .gt := by decide +kernel
  go_enter Tryd.func89, Tryd.ntmps89
  go_wp2_with fail
  refine ha.mono ?_
  rintro e w1 ⟨rfl, rfl⟩
  go_wp2_with fail
  go_ret2
  exact ⟨rfl, rfl⟩
theorem isinf_half (w : World) : Calls Tryd.prog 88 #[.float .f64 4602678819172646912, .int .i64 0] w fun e w' => e = .returned (.bool false) ∧ w' = w := by
  have o1 : FloatKind.f64.format.order 4602678819172646912 9218868437227405311 = some .lt := by decide +kernel
  have ha := abs_half w
  go_enter Tryd.func88, Tryd.ntmps88
  go_wp2_with fail
  refine ha.mono ?_
  rintro e w1 ⟨rfl, rfl⟩
  go_wp2_with fail
  go_ret
  exact ⟨rfl, rfl⟩
theorem copy0 (w : World) : Calls Tryd.prog 91 #[.float .f64 0, .float .f64 4602678819172646912] w fun e w' => e = .returned (.float .f64 0) ∧ w' = w := by
  have b1 := ext_bits 4602678819172646912
  have b2 := ext_bits 0
  have b3 := fromI 0 0 rfl
  have c1 : bits .andNot .u64 0 9223372036854775808 = 0 := by decide +kernel
  have c2 : bits .and .u64 4602678819172646912 9223372036854775808 = 0 := by decide +kernel
  have c3 : bits .or .u64 0 0 = 0 := by decide +kernel
  go_enter Tryd.func91, Tryd.ntmps91
  go_wp2_with fail
  go_ret
  exact ⟨rfl, rfl⟩
theorem inf1 (w : World) : Calls Tryd.prog 92 #[.int .i64 1] w fun e w' => e = .returned (.float .f64 9218868437227405312) ∧ w' = w := by
  have b3 := fromI 9218868437227405312 9218868437227405312 rfl
  go_enter Tryd.func92, Tryd.ntmps92
  go_wp2_with fail
  go_ret
  exact ⟨rfl, rfl⟩
/-- 2^(k-1022), a half doubled so often -/
def powW (k : Nat) : Nat := (k + 1) * 4503599627370496
def subW (k : Nat) : Nat := (FloatKind.f64.format.mul 4368491638549381120 (powW k)).getD 0
theorem or_pow : ∀ k : Nat, k < 2046 → bits .or .u64 0 (((k : Int) + 1) * 4503599627370496) = ((powW k : Nat) : Int) := by decide +kernel
theorem mul_pow : ∀ k : Nat, k < 2046 → FloatKind.f64.format.mul 4607182418800017408 (powW k) = some (powW k) := by decide +kernel
theorem mul_sub : ∀ k : Nat, k < 53 → FloatKind.f64.format.mul 4368491638549381120 (powW k) = some (subW k) := by decide +kernel
/-- what a half, doubled p times, is -/
def ldW (p : Int) : Nat := if p ≤ -1075 then 0 else if p ≤ -1022 then subW (p + 1074).toNat else if p ≤ 1024 then powW (p + 1021).toNat else 9218868437227405312
set_option maxRecDepth 100000 in
set_option maxHeartbeats 800000 in
theorem ldexp0 (p : Int) (hp : -5000 ≤ p ∧ p ≤ 5000) (w : World) : Calls Tryd.prog 84 #[.float .f64 4602678819172646912, .int .i64 p] w fun e w' => e = .returned (.float .f64 (ldW p)) ∧ w' = w := by
  have o1 : FloatKind.f64.format.order 4602678819172646912 0 = some .gt := by decide +kernel
  have i1 := isinf_half w
  have i2 := isnan_any 4602678819172646912 w
  rw [show fnan 4602678819172646912 = false by decide +kernel] at i2
  have i3 := norm_half w
  have b1 := ext_bits 4602678819172646912
  have c1 : bits .and .i64 1022 2047 = 1022 := by decide +kernel
  have c2 : bits .andNot .u64 4602678819172646912 9218868437227405312 = 0 := by decide +kernel
  have c3 : wrap64 (-1) = -1 := by decide +kernel
  have hcp := copy0 w
  have hin := inf1 w
  have hl : ldW p = if p ≤ -1075 then 0 else if p ≤ -1022 then subW (p + 1074).toNat else if p ≤ 1024 then powW (p + 1021).toNat else 9218868437227405312 := rfl
  generalize ldW p = R at hl ⊢
  have hw : wrap64 (p + -1) = p + -1 := by unfold wrap64; omega
  have HL := Lib.hid hl
  clear hl
  go_enter Tryd.func84, Tryd.ntmps84
  by_cases h1 : p ≤ -1075
  · have d1 : decide (p + -1 < -1075) = true := by simp; omega
    have hR : R = 0 := by rw [HL.out, if_pos h1]
    replace hR := Lib.hid hR
    go_wp2_with fail
    refine i1.mono ?_
    rintro e w1 ⟨rfl, rfl⟩
    go_wp2_with fail
    refine i2.mono ?_
    rintro e w1 ⟨rfl, rfl⟩
    go_wp2_with fail
    refine i3.mono ?_
    rintro e w1 ⟨rfl, rfl⟩
    go_wp2_with fail
    refine hcp.mono ?_
    rintro e w1 ⟨rfl, rfl⟩
    go_wp2_with fail
    go_ret
    rw [hR.out]
    exact ⟨rfl, rfl⟩
  have d1 : decide (p + -1 < -1075) = false := by simp; omega
  by_cases h2 : p ≤ -1022
  · obtain ⟨k, hk⟩ : ∃ k : Nat, k = (p + 1074).toNat := ⟨_, rfl⟩
    have hk53 : k < 53 := by omega
    have hqk : p = (k : Int) - 1074 := by omega
    have hR : R = subW k := by rw [HL.out, if_neg h1, if_pos h2, hk]
    have d2 : decide (1023 < p + -1) = false := by simp; omega
    have d3 : decide (p + -1 < -1022) = true := by simp; omega
    have hsum : (p + -1 + 53 + 1023) * 4503599627370496 = ((k : Int) + 1) * 4503599627370496 := by rw [hqk]; congr 1; omega
    have hor : bits .or .u64 0 ((p + -1 + 53 + 1023) * 4503599627370496) = ((powW k : Nat) : Int) := by rw [hsum]; exact or_pow k (by omega)
    have hfr := ext_from (powW k)
    have hml := fun w => run_float_arith (P := Tryd.prog) w .mul 128 .f64 4368491638549381120 (powW k) (subW k) (mul_sub k hk53)
    replace hR := Lib.hid hR
    clear hsum hk HL
    generalize powW k = PW at *
    generalize subW k = SW at *
    have hq2 : -1075 < p ∧ p ≤ -1022 := by omega
    clear hqk hk53 k
    go_wp2_with fail
    refine i1.mono ?_
    rintro e w1 ⟨rfl, rfl⟩
    go_wp2_with fail
    refine i2.mono ?_
    rintro e w1 ⟨rfl, rfl⟩
    go_wp2_with fail
    refine i3.mono ?_
    rintro e w1 ⟨rfl, rfl⟩
    go_wp2_with fail
    go_ret
    rw [hR.out]
    exact ⟨rfl, rfl⟩
  by_cases h3 : p ≤ 1024
  · obtain ⟨k, hk⟩ : ∃ k : Nat, k = (p + 1021).toNat := ⟨_, rfl⟩
    have hk53 : k < 2046 := by omega
    have hqk : p = (k : Int) - 1021 := by omega
    have hR : R = powW k := by rw [HL.out, if_neg h1, if_neg h2, if_pos h3, hk]
    have d2 : decide (1023 < p + -1) = false := by simp; omega
    have d3 : decide (p + -1 < -1022) = false := by simp; omega
    have hsum : (p + -1 + 1023) * 4503599627370496 = ((k : Int) + 1) * 4503599627370496 := by rw [hqk]; congr 1; omega
    have hor : bits .or .u64 0 ((p + -1 + 1023) * 4503599627370496) = ((powW k : Nat) : Int) := by rw [hsum]; exact or_pow k (by omega)
    have hfr := ext_from (powW k)
    have hml := fun w => run_float_arith (P := Tryd.prog) w .mul 128 .f64 4607182418800017408 (powW k) (powW k) (mul_pow k hk53)
    replace hR := Lib.hid hR
    clear hsum hk HL
    generalize powW k = PW at *
    have hq2 : -1022 < p ∧ p ≤ 1024 := by omega
    clear hqk hk53 k
    go_wp2_with fail
    refine i1.mono ?_
    rintro e w1 ⟨rfl, rfl⟩
    go_wp2_with fail
    refine i2.mono ?_
    rintro e w1 ⟨rfl, rfl⟩
    go_wp2_with fail
    refine i3.mono ?_
    rintro e w1 ⟨rfl, rfl⟩
    go_wp2_with fail
    go_ret
    rw [hR.out]
    exact ⟨rfl, rfl⟩
  · have d2 : decide (1023 < p + -1) = true := by simp; omega
    have hR : R = 9218868437227405312 := by rw [HL.out, if_neg h1, if_neg h2, if_neg h3]
    replace hR := Lib.hid hR
    go_wp2_with fail
    refine i1.mono ?_
    rintro e w1 ⟨rfl, rfl⟩
    go_wp2_with fail
    refine i2.mono ?_
    rintro e w1 ⟨rfl, rfl⟩
    go_wp2_with fail
    refine i3.mono ?_
    rintro e w1 ⟨rfl, rfl⟩
    go_wp2_with fail
    refine hin.mono ?_
    rintro e w1 ⟨rfl, rfl⟩
    go_wp2_with fail
    go_ret
    rw [hR.out]
    exact ⟨rfl, rfl⟩
section
variable {P : Program} {ops : Array Oper} {l : List Sp} {a : Act} {w : World}
theorem owes_min (i : Nat) (dst : Option Tmp) (anc : List Nat) (r : Value) (x y : Operand) (t u ty : TypeId) (vx vy : Value) (hop : ∀ v, ops[i]?.map (fun o => (o.op, Region.wanted o (yielded ops (fr l anc a v).tmps))) = some (.call { callee := .builtin .min, args := #[x, y], argTypes := #[t, u] }, true)) (hty : ops[i]?.map (·.type) = some ty)
    (hx : ∀ v, ((fr l anc a v).eval x, (fr l anc a v).eval y) = (vx, vy)) (he : ∀ w, (Builtin.min_ #[t, u] ty #[vx, vy]).run P w = .ok r w) : Owes P ops l a w (Sp.k i dst anc r) :=
  .mk_k fun v w' hb ho o hi => by
    have h := hop v
    have hx := hx v
    simp only [Prod.mk.injEq] at hx
    rw [hi] at h hty
    simp only [Option.map_some, Option.some.injEq, Prod.mk.injEq] at h hty
    refine .value (v := r) (w' := w') h.2 ?_ ⟨Below.refl _ _, Cells.refl _, rfl⟩
    simp only [execOp, h.1, resolve, invoke, builtin, Sem.run_bind, Sem.run_pure, Result.andThen_ok, List.map_toArray, List.map_cons, List.map_nil, hx.1, hx.2, hty, he w']
theorem owes_max (i : Nat) (dst : Option Tmp) (anc : List Nat) (r : Value) (x y : Operand) (t u ty : TypeId) (vx vy : Value) (hop : ∀ v, ops[i]?.map (fun o => (o.op, Region.wanted o (yielded ops (fr l anc a v).tmps))) = some (.call { callee := .builtin .max, args := #[x, y], argTypes := #[t, u] }, true)) (hty : ops[i]?.map (·.type) = some ty)
    (hx : ∀ v, ((fr l anc a v).eval x, (fr l anc a v).eval y) = (vx, vy)) (he : ∀ w, (Builtin.max_ #[t, u] ty #[vx, vy]).run P w = .ok r w) : Owes P ops l a w (Sp.k i dst anc r) :=
  .mk_k fun v w' hb ho o hi => by
    have h := hop v
    have hx := hx v
    simp only [Prod.mk.injEq] at hx
    rw [hi] at h hty
    simp only [Option.map_some, Option.some.injEq, Prod.mk.injEq] at h hty
    refine .value (v := r) (w' := w') h.2 ?_ ⟨Below.refl _ _, Cells.refl _, rfl⟩
    simp only [execOp, h.1, resolve, invoke, builtin, Sem.run_bind, Sem.run_pure, Result.andThen_ok, List.map_toArray, List.map_cons, List.map_nil, hx.1, hx.2, hty, he w']
end
theorem max_i64D (a b c : Int) (h : (if a < b then b else a) = c) (w : World) : (Builtin.max_ #[3, 3] 3 #[.int .i64 a, .int .i64 b]).run Tryd.prog w = .ok (.int .i64 c) w := by
  rw [run_max_int2, h]
theorem min_i64D (a b c : Int) (h : (if b < a then b else a) = c) (w : World) : (Builtin.min_ #[3, 3] 3 #[.int .i64 a, .int .i64 b]).run Tryd.prog w = .ok (.int .i64 c) w := by
  rw [run_min_int2, h]
/-- how long to wait after so many tries -/
def delayN (t : Int) : Int := if t ≤ 1 then 1 else if 7 ≤ t then 64 else 2 ^ (t - 1).toNat
theorem delay_top (t : Int) (h : 7 ≤ t) : delayN t = 64 := by
  unfold delayN
  rw [if_neg (by omega), if_pos h]
theorem delay_eq (t : Int) (k : Nat) (hk : k ≤ 6) (h1 : k = 0 ∨ (k : Int) + 1 ≤ t) (h2 : t ≤ (k : Int) + 1) : delayN t = 2 ^ k := by
  unfold delayN
  rcases h1 with rfl | h1
  · rw [if_pos (by simpa using h2)]; rfl
  · have e : t = (k : Int) + 1 := by omega
    subst e
    by_cases h0 : k = 0
    · subst h0; rfl
    · rw [if_neg (by omega)]
      by_cases h6 : k = 6
      · subst h6; rfl
      · rw [if_neg (by omega), show ((k : Int) + 1 - 1).toNat = k by omega]
/-- a word, cut: what it is in ticks -/
def waitW (x : Nat) : Nat := clampF x 4607182418800017408 4634204016564240384
def okT (x : Nat) : Bool := (floatToIntVal .f64 (ceilW x) .i64).isSome
theorem wait_zero : tickF (waitW 0) = 1 ∧ okT (waitW 0) = true := by decide +kernel
theorem wait_inf : tickF (waitW 9218868437227405312) = 64 ∧ okT (waitW 9218868437227405312) = true := by decide +kernel
theorem wait_sub : ∀ k : Nat, k < 53 → tickF (waitW (subW k)) = 1 ∧ okT (waitW (subW k)) = true ∧ subW k < 18446744073709551616 := by decide +kernel
theorem wait_pow : ∀ k : Nat, k < 2046 → tickF (waitW (powW k)) = delayN ((k : Int) - 1021) ∧ okT (waitW (powW k)) = true ∧ powW k < 18446744073709551616 := by decide +kernel
theorem wait_ld (p : Int) (hp : -5000 ≤ p ∧ p ≤ 5000) : tickF (waitW (ldW p)) = delayN p ∧ okT (waitW (ldW p)) = true ∧ ldW p < 18446744073709551616 := by
  unfold ldW
  split
  · refine ⟨?_, wait_zero.2, by decide⟩
    rw [wait_zero.1]
    unfold delayN
    rw [if_pos (by omega)]
  · split
    · obtain ⟨h1, h2, h3⟩ := wait_sub (p + 1074).toNat (by omega)
      refine ⟨?_, h2, h3⟩
      rw [h1]
      unfold delayN
      rw [if_pos (by omega)]
    · split
      · obtain ⟨h1, h2, h3⟩ := wait_pow (p + 1021).toNat (by omega)
        refine ⟨?_, h2, h3⟩
        rw [h1]
        congr 1
        omega
      · refine ⟨?_, wait_inf.2, by decide⟩
        rw [wait_inf.1]
        exact (delay_top p (by omega)).symm
theorem ldexp_any (p : Int) (hp : -5000 ≤ p ∧ p ≤ 5000) (w : World) : Calls Tryd.prog 78 #[.float .f64 4602678819172646912, .int .i64 p] w fun e w' => e = .returned (.float .f64 (ldW p)) ∧ w' = w := by
  have h := ldexp0 p hp w
  go_enter Tryd.func78, Tryd.ntmps78
  generalize ldW p = R at h ⊢
  go_wp2_with fail
  refine h.mono ?_
  rintro e w1 ⟨rfl, rfl⟩
  go_wp2_with fail
  go_ret
  exact ⟨rfl, rfl⟩
set_option maxRecDepth 100000 in
theorem delay_any (t : Int) (w : World) : Calls Tryd.prog 62 #[.int .i64 t] w fun e w' => e = .returned (.int .i64 (delayN t)) ∧ Below w.heap.size w w' := by
  go_enter Tryd.func62, Tryd.ntmps62
  obtain ⟨m, hm⟩ : ∃ m, (if t < -5000 then -5000 else t) = m := ⟨_, rfl⟩
  obtain ⟨p, hp⟩ : ∃ p, (if (5000 : Int) < m then 5000 else m) = p := ⟨_, rfl⟩
  have hb : -5000 ≤ p ∧ p ≤ 5000 := by
    rw [← hp, ← hm]
    split <;> split <;> omega
  have hd : delayN p = delayN t := by
    by_cases h1 : t < -5000
    · rw [if_pos h1] at hm
      have : p = -5000 := by rw [← hp, ← hm]; rfl
      rw [this]
      unfold delayN
      rw [if_pos (by omega), if_pos (by omega)]
    · rw [if_neg h1] at hm
      by_cases h2 : 5000 < m
      · rw [if_pos h2] at hp
        rw [← hp, delay_top t (by omega)]
        rfl
      · rw [if_neg h2] at hp
        rw [← hp, ← hm]
  go_upto_region 1 with (fail)
  refine wp_region_text [Sp.k 0 (some 4) [] (.int .i64 t),
    Sp.k 1 (some 5) [0] (.int .i64 m),
    Sp.k 2 (some 6) [1] (.int .i64 p),
    Sp.k 3 (some 3) [2] (.int .i64 p)] (by kernel_rfl)
    ⟨owes_move 0 (some 4) [] (.int .i64 t) (Go.Operand.tmp 0) (fun v => by kernel_rfl) (fun v => by kernel_rfl),
    owes_max 1 (some 5) [0] (.int .i64 m) (.tmp 4) (.const (.int .i64 (-5000))) 3 3 3 (.int .i64 t) (.int .i64 (-5000)) (fun v => by kernel_rfl) (by kernel_rfl) (fun v => by kernel_rfl) (fun w => max_i64D _ _ _ hm w),
    owes_min 2 (some 6) [1] (.int .i64 p) (.tmp 5) (.const (.int .i64 5000)) 3 3 3 (.int .i64 m) (.int .i64 5000) (fun v => by kernel_rfl) (by kernel_rfl) (fun v => by kernel_rfl) (fun w => min_i64D _ _ _ hp w),
    owes_assign 3 (some 3) [2] (.int .i64 p) (Go.Operand.tmp 6) (fun v => by kernel_rfl) (fun v => by kernel_rfl), trivial⟩ ?_
  intro v w1 hb1 hall
  clear hall hm hp
  simp only [putsL_k, putsL_nil, List.set_cons_zero, List.set_cons_succ]
  obtain ⟨h1, h2, h3⟩ := wait_ld p hb
  have hl := ldexp_any p hb w1
  generalize ldW p = L at h1 h2 h3 hl
  have hc := clamp_any L 4607182418800017408 4634204016564240384 h3 (by decide) (by decide) w1
  rw [show clampF L 4607182418800017408 4634204016564240384 = waitW L from rfl] at hc
  generalize waitW L = X at h1 h2 hc
  have ht := ticks_when X (fun _ _ _ => Option.isSome_iff_exists.1 h2) w1
  rw [h1, hd] at ht
  clear h1 h2 h3 hd hb
  obtain ⟨D, hD⟩ : ∃ D, D = delayN t := ⟨_, rfl⟩
  rw [← hD] at ht
  have HD := Lib.hid hD
  clear hD
  go_wp2_with fail
  refine hl.mono ?_
  rintro e w2 ⟨rfl, rfl⟩
  go_wp2_with fail
  refine hc.mono ?_
  rintro e w2 ⟨rfl, rfl⟩
  go_wp2_with fail
  refine ht.mono ?_
  rintro e w2 ⟨rfl, rfl⟩
  go_wp2_with fail
  go_ret
  rw [← HD.out]
  exact ⟨rfl, hb1⟩
set_option maxRecDepth 100000 in
theorem ddelay_any (t : Int) (w : World) : Calls Tryd.prog 65 #[.int .i64 t] w fun e w' => e = .returned (.int .i64 (delayN t)) ∧ w' = w := by
  go_enter Tryd.func65, Tryd.ntmps65
  go_wp2_with fail
  go_loopw [3, 4] (fun n i wr => ∃ k : Nat, k ≤ 6 ∧ n = .int .i64 ((2 ^ k : Nat) : Int) ∧ i = .int .i64 ((k + 1 : Nat) : Int) ∧ (k = 0 ∨ (k : Int) + 1 ≤ t) ∧ wr = w) (fun _ i _ => 8 - (intOf i).toNat)
  case atStart => exact ⟨0, by omega, rfl, rfl, .inl rfl, rfl⟩
  case round =>
    obtain ⟨k, hk, rfl, rfl, hkt, rfl⟩ := hrel
    rcases k with _ | _ | _ | _ | _ | _ | _ | k
    · have hn : delayN t = if t ≤ 1 then 1 else delayN t := by
        split
        · exact delay_eq t 0 (by omega) hkt (by omega)
        · rfl
      by_cases hlt : (1 : Int) < t
      · have d1 : decide ((1 : Int) < t) = true := by simpa using hlt
        clear hn
        go_wp2_with fail
        go_roundw
        case rel => exact ⟨1, by omega, rfl, rfl, by omega, by simp⟩
        case measure => simp [intOf]
      · have d1 : decide ((1 : Int) < t) = false := by simp; omega
        have hr : delayN t = 1 := by rw [hn, if_pos (by omega)]
        have HR := Lib.hid hr
        clear hn hr
        go_wp2_with fail
        go_ret
        rw [HR.out]
        exact ⟨rfl, rfl⟩
    · have hn : delayN t = if t ≤ 2 then 2 else delayN t := by
        split
        · exact delay_eq t 1 (by omega) hkt (by omega)
        · rfl
      by_cases hlt : (2 : Int) < t
      · have d1 : decide ((2 : Int) < t) = true := by simpa using hlt
        clear hn
        go_wp2_with fail
        go_roundw
        case rel => exact ⟨2, by omega, rfl, rfl, by omega, by simp⟩
        case measure => simp [intOf]
      · have d1 : decide ((2 : Int) < t) = false := by simp; omega
        have hr : delayN t = 2 := by rw [hn, if_pos (by omega)]
        have HR := Lib.hid hr
        clear hn hr
        go_wp2_with fail
        go_ret
        rw [HR.out]
        exact ⟨rfl, rfl⟩
    · have hn : delayN t = if t ≤ 3 then 4 else delayN t := by
        split
        · exact delay_eq t 2 (by omega) hkt (by omega)
        · rfl
      by_cases hlt : (3 : Int) < t
      · have d1 : decide ((3 : Int) < t) = true := by simpa using hlt
        clear hn
        go_wp2_with fail
        go_roundw
        case rel => exact ⟨3, by omega, rfl, rfl, by omega, by simp⟩
        case measure => simp [intOf]
      · have d1 : decide ((3 : Int) < t) = false := by simp; omega
        have hr : delayN t = 4 := by rw [hn, if_pos (by omega)]
        have HR := Lib.hid hr
        clear hn hr
        go_wp2_with fail
        go_ret
        rw [HR.out]
        exact ⟨rfl, rfl⟩
    · have hn : delayN t = if t ≤ 4 then 8 else delayN t := by
        split
        · exact delay_eq t 3 (by omega) hkt (by omega)
        · rfl
      by_cases hlt : (4 : Int) < t
      · have d1 : decide ((4 : Int) < t) = true := by simpa using hlt
        clear hn
        go_wp2_with fail
        go_roundw
        case rel => exact ⟨4, by omega, rfl, rfl, by omega, by simp⟩
        case measure => simp [intOf]
      · have d1 : decide ((4 : Int) < t) = false := by simp; omega
        have hr : delayN t = 8 := by rw [hn, if_pos (by omega)]
        have HR := Lib.hid hr
        clear hn hr
        go_wp2_with fail
        go_ret
        rw [HR.out]
        exact ⟨rfl, rfl⟩
    · have hn : delayN t = if t ≤ 5 then 16 else delayN t := by
        split
        · exact delay_eq t 4 (by omega) hkt (by omega)
        · rfl
      by_cases hlt : (5 : Int) < t
      · have d1 : decide ((5 : Int) < t) = true := by simpa using hlt
        clear hn
        go_wp2_with fail
        go_roundw
        case rel => exact ⟨5, by omega, rfl, rfl, by omega, by simp⟩
        case measure => simp [intOf]
      · have d1 : decide ((5 : Int) < t) = false := by simp; omega
        have hr : delayN t = 16 := by rw [hn, if_pos (by omega)]
        have HR := Lib.hid hr
        clear hn hr
        go_wp2_with fail
        go_ret
        rw [HR.out]
        exact ⟨rfl, rfl⟩
    · have hn : delayN t = if t ≤ 6 then 32 else delayN t := by
        split
        · exact delay_eq t 5 (by omega) hkt (by omega)
        · rfl
      by_cases hlt : (6 : Int) < t
      · have d1 : decide ((6 : Int) < t) = true := by simpa using hlt
        clear hn
        go_wp2_with fail
        go_roundw
        case rel => exact ⟨6, by omega, rfl, rfl, by omega, by simp⟩
        case measure => simp [intOf]
      · have d1 : decide ((6 : Int) < t) = false := by simp; omega
        have hr : delayN t = 32 := by rw [hn, if_pos (by omega)]
        have HR := Lib.hid hr
        clear hn hr
        go_wp2_with fail
        go_ret
        rw [HR.out]
        exact ⟨rfl, rfl⟩
    · have hr : delayN t = 64 := delay_top t (by omega)
      have HR := Lib.hid hr
      clear hr
      by_cases hlt : (7 : Int) < t
      · have d1 : decide ((7 : Int) < t) = true := by simpa using hlt
        go_wp2_with fail
        go_ret
        rw [HR.out]
        exact ⟨rfl, rfl⟩
      · have d1 : decide ((7 : Int) < t) = false := by simp; omega
        go_wp2_with fail
        go_ret
        rw [HR.out]
        exact ⟨rfl, rfl⟩
    · omega
end Go.Proofs.YtffkjbbhbpaacaaDoor
