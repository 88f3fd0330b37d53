import Derived.Test.YtffkjbbhbpaacaaDoorRsq
import Derived.Test.YtffkjbbhbpaacaaDoorNum
import Derived.WalkLawsBesides
import Derived.Laws.Externs
import Derived.Lib.Hide
/-
  Floats: what math's and meter's functions answer, off the words.
-/
namespace Go.Proofs.YtffkjbbhbpaacaaDoor
open Go.RowKit

/-- how two floats stand to each other -/
abbrev ord (a b : Nat) : Option Ordering := FloatKind.f64.format.order a b
/-- none: a float that is no number -/
def fnan (x : Nat) : Bool := ord x x != some .eq
def fneg (x : Nat) : Bool := decide (9223372036854775808 ≤ x)

theorem ext_bits (x : Nat) (w : World) : (callFunc 90 #[.float .f64 x]).run Tryd.prog w = .ok (.value (.int .u64 (x : Int))) w := by
  rw [run_callFunc_extern (P := Tryd.prog) (f := 90) (fn := Tryd.f90) (e := Extern.MathFloatBits.float64bits) Tryd.func90 (by kernel_rfl) (by kernel_rfl) (by kernel_rfl) (by kernel_rfl)]
  rfl
theorem ext_from (x : Nat) (w : World) : (callFunc 93 #[.int .u64 (x : Int)]).run Tryd.prog w = .ok (.value (.float .f64 x)) w := by
  rw [run_callFunc_extern (P := Tryd.prog) (f := 93) (fn := Tryd.f93) (e := Extern.MathFloatBits.float64frombits) Tryd.func93 (by kernel_rfl) (by kernel_rfl) (by kernel_rfl) (by kernel_rfl)]
  rfl

theorem isnan_any (x : Nat) (w : World) : Calls Tryd.prog 80 #[.float .f64 x] w fun e w' => e = .returned (.bool (fnan x)) ∧ w' = w := by
  go_enter Tryd.func80, Tryd.ntmps80
  go_wp2_with fail
  go_ret
  exact ⟨rfl, rfl⟩
theorem neg_wrap (x : Nat) (hx : x < 18446744073709551616) : decide (wrap64 (x : Int) < 0) = fneg x := by
  unfold fneg
  apply decide_eq_decide.2
  unfold wrap64
  omega
theorem signbit_any (x : Nat) (hx : x < 18446744073709551616) (w : World) : Calls Tryd.prog 87 #[.float .f64 x] w fun e w' => e = .returned (.bool (fneg x)) ∧ w' = w := by
  have hb := ext_bits x
  have hn := neg_wrap x hx
  go_enter Tryd.func87, Tryd.ntmps87
  go_wp2_with fail
  go_ret
  exact ⟨rfl, rfl⟩
/-- what meter.Less says -/
def lessF (a b : Nat) : Bool := if fnan a || fnan b then (!fnan b && fnan a) else if (FloatKind.f64.format.order a 0 == some .eq) && (FloatKind.f64.format.order b 0 == some .eq) then (fneg a && !fneg b) else (FloatKind.f64.format.order a b == some .lt)
set_option maxRecDepth 100000 in
theorem less_any (a b : Nat) (ha : a < 18446744073709551616) (hb : b < 18446744073709551616) (w : World) : Calls Tryd.prog 82 #[.float .f64 a, .float .f64 b] w fun e w' => e = .returned (.bool (lessF a b)) ∧ w' = w := by
  have ia := isnan_any a w
  have ib := isnan_any b w
  have sa := signbit_any a ha w
  have sb := signbit_any b hb w
  go_enter Tryd.func82, Tryd.ntmps82
  unfold lessF
  cases hna : fnan a with
  | true =>
    rw [hna] at ia
    cases hnb : fnan b with
    | true =>
      rw [hnb] at ib
      go_wp2_with fail
      refine ia.mono ?_
      rintro e w1 ⟨rfl, rfl⟩
      go_wp2_with fail
      refine ib.mono ?_
      rintro e w1 ⟨rfl, rfl⟩
      go_wp2_with fail
      go_ret
      exact ⟨rfl, rfl⟩
    | false =>
      rw [hnb] at ib
      go_wp2_with fail
      refine ia.mono ?_
      rintro e w1 ⟨rfl, rfl⟩
      go_wp2_with fail
      refine ib.mono ?_
      rintro e w1 ⟨rfl, rfl⟩
      go_wp2_with fail
      refine ia.mono ?_
      rintro e w1 ⟨rfl, rfl⟩
      go_wp2_with fail
      go_ret
      exact ⟨rfl, rfl⟩
  | false =>
    rw [hna] at ia
    cases hnb : fnan b with
    | true =>
      rw [hnb] at ib
      go_wp2_with fail
      refine ia.mono ?_
      rintro e w1 ⟨rfl, rfl⟩
      go_wp2_with fail
      refine ib.mono ?_
      rintro e w1 ⟨rfl, rfl⟩
      go_wp2_with fail
      refine ib.mono ?_
      rintro e w1 ⟨rfl, rfl⟩
      go_wp2_with fail
      go_ret
      exact ⟨rfl, rfl⟩
    | false =>
      rw [hnb] at ib
      go_wp2_with fail
      refine ia.mono ?_
      rintro e w1 ⟨rfl, rfl⟩
      go_wp2_with fail
      refine ib.mono ?_
      rintro e w1 ⟨rfl, rfl⟩
      cases ea : (FloatKind.f64.format.order a 0 == some Ordering.eq) with
      | true =>
        cases eb : (FloatKind.f64.format.order b 0 == some Ordering.eq) with
        | true =>
          go_wp2_with fail
          refine sa.mono ?_
          rintro e w1 ⟨rfl, rfl⟩
          cases ga : fneg a with
          | true =>
            go_wp2_with fail
            refine sb.mono ?_
            rintro e w1 ⟨rfl, rfl⟩
            go_wp2_with fail
            go_ret
            exact ⟨rfl, rfl⟩
          | false =>
            go_wp2_with fail
            go_ret
            exact ⟨rfl, rfl⟩
        | false =>
          go_wp2_with fail
          go_ret
          exact ⟨rfl, rfl⟩
      | false =>
        go_wp2_with fail
        go_ret
        exact ⟨rfl, rfl⟩
def clampF (x lo hi : Nat) : Nat := if lessF x lo then lo else if lessF hi x then hi else x
theorem clamp_any (x lo hi : Nat) (hx : x < 18446744073709551616) (hl : lo < 18446744073709551616) (hh : hi < 18446744073709551616) (w : World) : Calls Tryd.prog 77 #[.float .f64 x, .float .f64 lo, .float .f64 hi] w fun e w' => e = .returned (.float .f64 (clampF x lo hi)) ∧ w' = w := by
  have l1 := less_any x lo hx hl w
  have l2 := less_any hi x hh hx w
  go_enter Tryd.func77, Tryd.ntmps77
  unfold clampF
  cases h1 : lessF x lo with
  | true =>
    rw [h1] at l1
    go_wp2_with fail
    refine l1.mono ?_
    rintro e w1 ⟨rfl, rfl⟩
    go_wp2_with fail
    go_ret
    exact ⟨rfl, rfl⟩
  | false =>
    rw [h1] at l1
    go_wp2_with fail
    refine l1.mono ?_
    rintro e w1 ⟨rfl, rfl⟩
    cases h2 : lessF hi x with
    | true =>
      rw [h2] at l2
      go_wp2_with fail
      refine l2.mono ?_
      rintro e w1 ⟨rfl, rfl⟩
      go_wp2_with fail
      go_ret
      exact ⟨rfl, rfl⟩
    | false =>
      rw [h2] at l2
      go_wp2_with fail
      refine l2.mono ?_
      rintro e w1 ⟨rfl, rfl⟩
      go_wp2_with fail
      go_ret
      exact ⟨rfl, rfl⟩
end Go.Proofs.YtffkjbbhbpaacaaDoor
