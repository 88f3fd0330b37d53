import Derived.Test.YtkhbhfnfpognpaaFln
import Derived.Test.YtkhbhfnfpognpaaFle
/-
  Ticks, Left, Progress: the program's, the document's, at every float.
-/
namespace Go.Proofs.Ytkhbhfnfpognpaa
open Go.RowKit Ieee

theorem none_any (x : Nat) (w : World) : Calls Try.prog 31 #[.float .f64 x] w fun e w' => e = .returned (.bool (fnan x)) ∧ w' = w := by
  go_enter Try.func31, Try.ntmps31
  go_wp2_with fail
  go_ret
  exact ⟨rfl, rfl⟩
theorem mticks_any (x : Nat) (w : World) : Calls Try.prog 28 #[.float .f64 x] w fun e w' => e = .returned (.int .i64 (tickF x)) ∧ w' = w :=
  ticks_when x (fun h0 h1 h2 => by
    obtain ⟨n, _, _, ⟨_, h⟩ | ⟨_, h⟩⟩ := tick_parts x h0 h1 h2
    · exact ⟨_, h⟩
    · exact ⟨_, h⟩) w
theorem dticks_any (x : Nat) (w : World) : Calls Try.prog 34 #[.float .f64 x] w fun e w' => e = .returned (.int .i64 (tickF x)) ∧ w' = w := by
  have ia := none_any x w
  go_enter Try.func34, Try.ntmps34
  unfold tickF
  cases h0 : fnan x with
  | true =>
    rw [h0] at ia
    go_wp2_with fail
    refine ia.mono ?_
    rintro e w1 ⟨rfl, rfl⟩
    go_wp2_with fail
    go_ret
    exact ⟨rfl, rfl⟩
  | false =>
    rw [h0] at ia
    cases h1 : (FloatKind.f64.format.order x 0 == some .lt || FloatKind.f64.format.order x 0 == some .eq) with
    | true =>
      go_wp2_with fail
      refine ia.mono ?_
      rintro e w1 ⟨rfl, rfl⟩
      go_wp2_with fail
      go_ret
      exact ⟨rfl, rfl⟩
    | false =>
      cases h2 : (FloatKind.f64.format.order x 4886405595696988160 == some .gt || FloatKind.f64.format.order x 4886405595696988160 == some .eq) with
      | true =>
        go_wp2_with fail
        refine ia.mono ?_
        rintro e w1 ⟨rfl, rfl⟩
        go_wp2_with fail
        go_ret
        exact ⟨rfl, rfl⟩
      | false =>
        obtain ⟨n, hn, hf, hc⟩ := tick_parts x h0 h1 h2
        have hcv := fun w => run_convert_float_int (P := Try.prog) w 24 2 .f64 .i64 x n (by rw [Try.underlying24]; rfl) Try.underlying2 hf
        clear hf
        rcases hc with ⟨ho, hc⟩ | ⟨ho, hc⟩
        · rw [hc]
          clear hc
          go_wp2_with fail
          refine ia.mono ?_
          rintro e w1 ⟨rfl, rfl⟩
          go_wp2_with fail
          go_ret
          exact ⟨rfl, rfl⟩
        · rw [hc]
          clear hc
          go_wp2_with fail
          refine ia.mono ?_
          rintro e w1 ⟨rfl, rfl⟩
          go_wp2_with fail
          go_ret
          exact ⟨rfl, rfl⟩
theorem order_none (d e : Datum) : (d.order e = none) ↔ (d.isNaN = true ∨ e.isNaN = true) := by
  cases d <;> cases e <;> simp [Datum.order, Datum.isNaN]
/-- a rate that is more than nothing -/
theorem rate_gt (r : Nat) : (FloatKind.f64.format.order r 0 == some .gt) = !(fnan r || (FloatKind.f64.format.order r 0 == some .lt || FloatKind.f64.format.order r 0 == some .eq)) := by
  have h := order_none (FloatKind.f64.format.read r) (FloatKind.f64.format.read 0)
  have z : (FloatKind.f64.format.read 0).isNaN = false := by decide +kernel
  rw [z] at h
  rw [fnan_is]
  show ((FloatKind.f64.format.read r).order (FloatKind.f64.format.read 0) == some .gt) = !((FloatKind.f64.format.read r).isNaN || (((FloatKind.f64.format.read r).order (FloatKind.f64.format.read 0) == some .lt) || ((FloatKind.f64.format.read r).order (FloatKind.f64.format.read 0) == some .eq)))
  cases ho : (FloatKind.f64.format.read r).order (FloatKind.f64.format.read 0) with
  | none =>
    have := h.1 ho
    simp at this
    rw [this]
    rfl
  | some o =>
    have hn : (FloatKind.f64.format.read r).isNaN = false := by
      cases hh : (FloatKind.f64.format.read r).isNaN
      · rfl
      · rw [h.2 (.inl hh)] at ho; cases ho
    rw [hn]
    cases o <;> rfl
theorem cut_le (n drop : Nat) (h : drop ≤ n.log2 + 2) : Toward.even.cut false n drop ≤ n / 2 ^ drop + 1 := by
  unfold Toward.cut
  simp only [Nat.one_shiftLeft, Nat.min_eq_left h]
  have := Bool.toNat_le (decide (2 ^ drop < 2 * (n % 2 ^ drop)) || 2 ^ drop == 2 * (n % 2 ^ drop) && n / 2 ^ drop % 2 == 1)
  omega
/-- a whole number above nothing, written, is a number -/
theorem read_num (mag L : Nat) (hL : L ≤ 62) (h1 : 2 ^ L ≤ mag) (h2 : mag < 2 ^ (L + 1)) :
    ∃ a p, FloatKind.f64.format.read (FloatKind.f64.format.nearest false mag 0) = .number false a p := by
  obtain ⟨k1, k2⟩ := kept_in mag L h1 h2
  have hl := log_is mag L h1 h2
  have hp : 0 < 2 ^ L := Nat.pow_pos (by omega)
  have hm : max ((0 : Int) + (L : Int) - ((52 : Nat) : Int)) (-1074) = (L : Int) - 52 := by omega
  have a1 : ((0 : Int) - ((L : Int) - 52)).toNat = 52 - L := by omega
  have a2 : ((L : Int) - 52 - 0).toNat = L - 52 := by omega
  have a3 : ((L : Int) - 52 - (-1074)).toNat = L + 1022 := by omega
  have hc : Toward.even.cut false (mag * 2 ^ (52 - L)) (L - 52) ≤ keptN mag L + 1 := by
    refine cut_le _ _ ?_
    by_cases h5 : L ≤ 52
    · omega
    · rw [show 52 - L = 0 by omega, Nat.pow_zero, Nat.mul_one, hl]; omega
  have hn : FloatKind.f64.format.nearest false mag 0 = (L + 1022) * 4503599627370496 + Toward.even.cut false (mag * 2 ^ (52 - L)) (L - 52) := by
    unfold Format.nearest
    rw [if_neg (by omega)]
    simp only [hl, ffb, flp, fbi, fif]
    rw [hm, a1, a2, a3, Nat.shiftLeft_eq]
    unfold Format.word
    simp only [Bool.false_eq_true, if_false]
    clear a1 a2 a3 hm hl hp h1 h2
    generalize keptN mag L = K at *
    generalize Toward.even.cut false (mag * 2 ^ (52 - L)) (L - 52) = C at *
    exact Nat.min_eq_left (by omega)
  rw [hn]
  clear hn a1 a2 a3 hm hl hp h1 h2
  generalize keptN mag L = K at *
  generalize Toward.even.cut false (mag * 2 ^ (52 - L)) (L - 52) = C at *
  generalize hx : (L + 1022) * 4503599627370496 + C = x
  unfold Format.read
  simp only [fsw, fbi, fif, flp]
  have e1 : x / 9223372036854775808 = 0 := by omega
  have e2 : x % 9223372036854775808 = x := by omega
  rw [e1, e2]
  split
  · exact ⟨_, _, rfl⟩
  · rw [if_pos (by omega)]
    exact ⟨_, _, rfl⟩
theorem div_some (d : Nat) (hd : 0 < d) (hd2 : d < 9223372036854775808) (r : Nat) (h0 : fnan r = false) (h1 : (FloatKind.f64.format.order r 0 == some .lt || FloatKind.f64.format.order r 0 == some .eq) = false) : ∃ q, FloatKind.f64.format.div (floatOfInt .f64 (d : Int)) r = some q := by
  have hf : floatOfInt .f64 (d : Int) = FloatKind.f64.format.nearest false d 0 := by
    unfold floatOfInt FloatKind.nearest FloatKind.encode Format.write
    simp only [Int.natAbs_natCast, show decide ((d : Int) < 0) = false from decide_eq_false (by omega)]
  have hl : d.log2 ≤ 62 := by
    have : d.log2 < 63 := (Nat.log2_lt (by omega)).2 hd2
    omega
  obtain ⟨a, p, hr⟩ := read_num d d.log2 hl (Nat.log2_self_le (by omega)) Nat.lt_log2_self
  unfold Format.div
  rw [hf, hr]
  have hn : (FloatKind.f64.format.read r).isNaN = false := by rw [fnan_is] at h0; exact h0
  unfold Format.order at h1
  rw [show FloatKind.f64.format.read 0 = .number false 0 (-1074) by decide +kernel] at h1
  cases hR : FloatKind.f64.format.read r with
  | nan s t => rw [hR] at hn; cases hn
  | infinity s => exact ⟨_, rfl⟩
  | number s m i =>
    have hm : m ≠ 0 := by
      intro hm
      subst hm
      rw [hR] at h1
      have hs : ∀ s u, signed s 0 u = 0 := fun s u => by unfold signed; cases s <;> simp
      unfold Datum.order at h1
      simp only [hs] at h1
      exact absurd h1 (by decide)
    unfold Datum.quotient
    simp only [if_neg hm]
    exact ⟨_, rfl⟩
/-- what is left, in ticks -/
def leftN (have_ all : Int) (r : Nat) : Int := if all ≤ have_ then 0 else if fnan r || (FloatKind.f64.format.order r 0 == some .lt || FloatKind.f64.format.order r 0 == some .eq) then 4611686018427387904 else tickF ((FloatKind.f64.format.div (floatOfInt .f64 (all - have_)) r).getD 0)
set_option maxRecDepth 100000 in
theorem left_any (a b : Int) (r : Nat) (ha : -4611686018427387904 ≤ a ∧ a < 4611686018427387904) (hb : -4611686018427387904 ≤ b ∧ b < 4611686018427387904) (w : World) : Calls Try.prog 15 #[.int .i64 a, .int .i64 b, .float .f64 r] w fun e w' => e = .returned (.int .i64 (leftN a b r)) ∧ w' = w := by
  have ia := isnan_any r w
  obtain ⟨R, hR⟩ : ∃ R, leftN a b r = R := ⟨_, rfl⟩
  rw [hR]
  unfold leftN at hR
  go_enter Try.func15, Try.ntmps15
  by_cases hab : b ≤ a
  · rw [if_pos hab] at hR
    have d1 : decide (b ≤ a) = true := by simpa using hab
    replace hR := Lib.hid hR
    go_wp2_with fail
    go_ret
    rw [← hR.out]
    exact ⟨rfl, rfl⟩
  rw [if_neg hab] at hR
  have d1 : decide (b ≤ a) = false := by simpa using hab
  cases h0 : fnan r with
  | true =>
    rw [h0] at ia hR
    rw [if_pos (by simp)] at hR
    replace hR := Lib.hid hR
    go_wp2_with fail
    refine ia.mono ?_
    rintro e w1 ⟨rfl, rfl⟩
    go_wp2_with fail
    go_ret
    rw [← hR.out]
    exact ⟨rfl, rfl⟩
  | false =>
    rw [h0] at ia hR
    cases h1 : (FloatKind.f64.format.order r 0 == some .lt || FloatKind.f64.format.order r 0 == some .eq) with
    | true =>
      rw [h1] at hR
      rw [if_pos (by simp)] at hR
      replace hR := Lib.hid hR
      go_wp2_with fail
      refine ia.mono ?_
      rintro e w1 ⟨rfl, rfl⟩
      go_wp2_with fail
      go_ret
      rw [← hR.out]
      exact ⟨rfl, rfl⟩
    | false =>
      rw [h1] at hR
      rw [if_neg (by simp)] at hR
      obtain ⟨d, hd⟩ : ∃ d : Nat, b - a = d := ⟨(b - a).toNat, by omega⟩
      obtain ⟨q, hq⟩ := div_some d (by omega) (by omega) r h0 h1
      rw [hd, hq] at hR
      have hq2 := fun w => run_float_arith (P := Try.prog) w .quo 24 .f64 _ _ q hq
      have ht := mticks_any q w
      rw [show tickF q = R from hR] at ht
      clear hR hq
      have hsub : IntKind.u64.wrap (IntKind.u64.wrap b - IntKind.u64.wrap a) = (d : Int) := by
        have hw : ∀ n : Int, IntKind.u64.wrap n = n % 18446744073709551616 := fun n => by simp [IntKind.wrap, IntKind.bits, IntKind.signed]
        rw [hw, hw, hw]
        omega
      go_wp2_with fail
      refine ia.mono ?_
      rintro e w1 ⟨rfl, rfl⟩
      go_wp2_with fail
      refine ht.mono ?_
      rintro e w1 ⟨rfl, rfl⟩
      go_wp2_with fail
      go_ret
      exact ⟨rfl, rfl⟩
end Go.Proofs.Ytkhbhfnfpognpaa
