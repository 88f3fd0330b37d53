import Derived.Test.YtffkjbbhbpaacaaDoorFlb
/-
  pace.Delay, the document's Delay.
-/
namespace Go.Proofs.YtffkjbbhbpaacaaDoor
open Go.RowKit

section
variable {P : Program} {ops : Array Oper} {l : List Sp} {a : Act} {w : World}
theorem owes_min (i : Nat) (dst : Option Tmp) (anc : List Nat) (r : Value) (x y : Operand) (t u ty : TypeId) (vx vy : Value) (hop : ∀ v, ops[i]?.map (fun o => (o.op, Region.wanted o (yielded ops (fr l anc a v).tmps))) = some (.call { callee := .builtin .min, args := #[x, y], argTypes := #[t, u] }, true)) (hty : ops[i]?.map (·.type) = some ty)
    (hx : ∀ v, ((fr l anc a v).eval x, (fr l anc a v).eval y) = (vx, vy)) (he : ∀ w, (Builtin.min_ #[t, u] ty #[vx, vy]).run P w = .ok r w) : Owes P ops l a w (Sp.k i dst anc r) :=
  .mk_k fun v w' hb ho o hi => by
    have h := hop v
    have hx := hx v
    simp only [Prod.mk.injEq] at hx
    rw [hi] at h hty
    simp only [Option.map_some, Option.some.injEq, Prod.mk.injEq] at h hty
    refine .value (v := r) (w' := w') h.2 ?_ ⟨Below.refl _ _, Cells.refl _, rfl⟩
    simp only [execOp, h.1, resolve, invoke, builtin, Sem.run_bind, Sem.run_pure, Result.andThen_ok, List.map_toArray, List.map_cons, List.map_nil, hx.1, hx.2, hty, he w']
theorem owes_max (i : Nat) (dst : Option Tmp) (anc : List Nat) (r : Value) (x y : Operand) (t u ty : TypeId) (vx vy : Value) (hop : ∀ v, ops[i]?.map (fun o => (o.op, Region.wanted o (yielded ops (fr l anc a v).tmps))) = some (.call { callee := .builtin .max, args := #[x, y], argTypes := #[t, u] }, true)) (hty : ops[i]?.map (·.type) = some ty)
    (hx : ∀ v, ((fr l anc a v).eval x, (fr l anc a v).eval y) = (vx, vy)) (he : ∀ w, (Builtin.max_ #[t, u] ty #[vx, vy]).run P w = .ok r w) : Owes P ops l a w (Sp.k i dst anc r) :=
  .mk_k fun v w' hb ho o hi => by
    have h := hop v
    have hx := hx v
    simp only [Prod.mk.injEq] at hx
    rw [hi] at h hty
    simp only [Option.map_some, Option.some.injEq, Prod.mk.injEq] at h hty
    refine .value (v := r) (w' := w') h.2 ?_ ⟨Below.refl _ _, Cells.refl _, rfl⟩
    simp only [execOp, h.1, resolve, invoke, builtin, Sem.run_bind, Sem.run_pure, Result.andThen_ok, List.map_toArray, List.map_cons, List.map_nil, hx.1, hx.2, hty, he w']
end
theorem max_i64D (a b c : Int) (h : (if a < b then b else a) = c) (w : World) : (Builtin.max_ #[3, 3] 3 #[.int .i64 a, .int .i64 b]).run Tryd.prog w = .ok (.int .i64 c) w := by
  rw [run_max_int2, h]
theorem min_i64D (a b c : Int) (h : (if b < a then b else a) = c) (w : World) : (Builtin.min_ #[3, 3] 3 #[.int .i64 a, .int .i64 b]).run Tryd.prog w = .ok (.int .i64 c) w := by
  rw [run_min_int2, h]
/-- how long to wait after so many tries -/
def delayN (t : Int) : Int := if t ≤ 1 then 1 else if 7 ≤ t then 64 else 2 ^ (t - 1).toNat
theorem delay_top (t : Int) (h : 7 ≤ t) : delayN t = 64 := by
  unfold delayN
  rw [if_neg (by omega), if_pos h]
theorem delay_eq (t : Int) (k : Nat) (hk : k ≤ 6) (h1 : k = 0 ∨ (k : Int) + 1 ≤ t) (h2 : t ≤ (k : Int) + 1) : delayN t = 2 ^ k := by
  unfold delayN
  rcases h1 with rfl | h1
  · rw [if_pos (by simpa using h2)]; rfl
  · have e : t = (k : Int) + 1 := by omega
    subst e
    by_cases h0 : k = 0
    · subst h0; rfl
    · rw [if_neg (by omega)]
      by_cases h6 : k = 6
      · subst h6; rfl
      · rw [if_neg (by omega), show ((k : Int) + 1 - 1).toNat = k by omega]
/-- a word, cut: what it is in ticks -/
def waitW (x : Nat) : Nat := clampF x 4607182418800017408 4634204016564240384
def okT (x : Nat) : Bool := (floatToIntVal .f64 (ceilW x) .i64).isSome
theorem wait_zero : tickF (waitW 0) = 1 ∧ okT (waitW 0) = true := by decide +kernel
theorem wait_inf : tickF (waitW 9218868437227405312) = 64 ∧ okT (waitW 9218868437227405312) = true := by decide +kernel
theorem wait_sub : ∀ k : Nat, k < 53 → tickF (waitW (subW k)) = 1 ∧ okT (waitW (subW k)) = true ∧ subW k < 18446744073709551616 := by decide +kernel
theorem wait_pow : ∀ k : Nat, k < 2046 → tickF (waitW (powW k)) = delayN ((k : Int) - 1021) ∧ okT (waitW (powW k)) = true ∧ powW k < 18446744073709551616 := by decide +kernel
theorem wait_ld (p : Int) (hp : -5000 ≤ p ∧ p ≤ 5000) : tickF (waitW (ldW p)) = delayN p ∧ okT (waitW (ldW p)) = true ∧ ldW p < 18446744073709551616 := by
  unfold ldW
  split
  · refine ⟨?_, wait_zero.2, by decide⟩
    rw [wait_zero.1]
    unfold delayN
    rw [if_pos (by omega)]
  · split
    · obtain ⟨h1, h2, h3⟩ := wait_sub (p + 1074).toNat (by omega)
      refine ⟨?_, h2, h3⟩
      rw [h1]
      unfold delayN
      rw [if_pos (by omega)]
    · split
      · obtain ⟨h1, h2, h3⟩ := wait_pow (p + 1021).toNat (by omega)
        refine ⟨?_, h2, h3⟩
        rw [h1]
        congr 1
        omega
      · refine ⟨?_, wait_inf.2, by decide⟩
        rw [wait_inf.1]
        exact (delay_top p (by omega)).symm
theorem ldexp_any (p : Int) (hp : -5000 ≤ p ∧ p ≤ 5000) (w : World) : Calls Tryd.prog 78 #[.float .f64 4602678819172646912, .int .i64 p] w fun e w' => e = .returned (.float .f64 (ldW p)) ∧ w' = w := by
  have h := ldexp0 p hp w
  go_enter Tryd.func78, Tryd.ntmps78
  generalize ldW p = R at h ⊢
  go_wp2_with fail
  refine h.mono ?_
  rintro e w1 ⟨rfl, rfl⟩
  go_wp2_with fail
  go_ret
  exact ⟨rfl, rfl⟩
set_option maxRecDepth 100000 in
theorem delay_any (t : Int) (w : World) : Calls Tryd.prog 62 #[.int .i64 t] w fun e w' => e = .returned (.int .i64 (delayN t)) ∧ Below w.heap.size w w' := by
  go_enter Tryd.func62, Tryd.ntmps62
  obtain ⟨m, hm⟩ : ∃ m, (if t < -5000 then -5000 else t) = m := ⟨_, rfl⟩
  obtain ⟨p, hp⟩ : ∃ p, (if (5000 : Int) < m then 5000 else m) = p := ⟨_, rfl⟩
  have hb : -5000 ≤ p ∧ p ≤ 5000 := by
    rw [← hp, ← hm]
    split <;> split <;> omega
  have hd : delayN p = delayN t := by
    by_cases h1 : t < -5000
    · rw [if_pos h1] at hm
      have : p = -5000 := by rw [← hp, ← hm]; rfl
      rw [this]
      unfold delayN
      rw [if_pos (by omega), if_pos (by omega)]
    · rw [if_neg h1] at hm
      by_cases h2 : 5000 < m
      · rw [if_pos h2] at hp
        rw [← hp, delay_top t (by omega)]
        rfl
      · rw [if_neg h2] at hp
        rw [← hp, ← hm]
  go_upto_region 1 with (fail)
  refine wp_region_text [Sp.k 0 (some 4) [] (.int .i64 t),
    Sp.k 1 (some 5) [0] (.int .i64 m),
    Sp.k 2 (some 6) [1] (.int .i64 p),
    Sp.k 3 (some 3) [2] (.int .i64 p)] (by kernel_rfl)
    ⟨owes_move 0 (some 4) [] (.int .i64 t) (Go.Operand.tmp 0) (fun v => by kernel_rfl) (fun v => by kernel_rfl),
    owes_max 1 (some 5) [0] (.int .i64 m) (.tmp 4) (.const (.int .i64 (-5000))) 3 3 3 (.int .i64 t) (.int .i64 (-5000)) (fun v => by kernel_rfl) (by kernel_rfl) (fun v => by kernel_rfl) (fun w => max_i64D _ _ _ hm w),
    owes_min 2 (some 6) [1] (.int .i64 p) (.tmp 5) (.const (.int .i64 5000)) 3 3 3 (.int .i64 m) (.int .i64 5000) (fun v => by kernel_rfl) (by kernel_rfl) (fun v => by kernel_rfl) (fun w => min_i64D _ _ _ hp w),
    owes_assign 3 (some 3) [2] (.int .i64 p) (Go.Operand.tmp 6) (fun v => by kernel_rfl) (fun v => by kernel_rfl), trivial⟩ ?_
  intro v w1 hb1 hall
  clear hall hm hp
  simp only [putsL_k, putsL_nil, List.set_cons_zero, List.set_cons_succ]
  obtain ⟨h1, h2, h3⟩ := wait_ld p hb
  have hl := ldexp_any p hb w1
  generalize ldW p = L at h1 h2 h3 hl
  have hc := clamp_any L 4607182418800017408 4634204016564240384 h3 (by decide) (by decide) w1
  rw [show clampF L 4607182418800017408 4634204016564240384 = waitW L from rfl] at hc
  generalize waitW L = X at h1 h2 hc
  have ht := ticks_when X (fun _ _ _ => Option.isSome_iff_exists.1 h2) w1
  rw [h1, hd] at ht
  clear h1 h2 h3 hd hb
  obtain ⟨D, hD⟩ : ∃ D, D = delayN t := ⟨_, rfl⟩
  rw [← hD] at ht
  have HD := Lib.hid hD
  clear hD
  go_wp2_with fail
  refine hl.mono ?_
  rintro e w2 ⟨rfl, rfl⟩
  go_wp2_with fail
  refine hc.mono ?_
  rintro e w2 ⟨rfl, rfl⟩
  go_wp2_with fail
  refine ht.mono ?_
  rintro e w2 ⟨rfl, rfl⟩
  go_wp2_with fail
  go_ret
  rw [← HD.out]
  exact ⟨rfl, hb1⟩
set_option maxRecDepth 100000 in
theorem ddelay_any (t : Int) (w : World) : Calls Tryd.prog 65 #[.int .i64 t] w fun e w' => e = .returned (.int .i64 (delayN t)) ∧ w' = w := by
  go_enter Tryd.func65, Tryd.ntmps65
  go_wp2_with fail
  go_loopw [3, 4] (fun n i wr => ∃ k : Nat, k ≤ 6 ∧ n = .int .i64 ((2 ^ k : Nat) : Int) ∧ i = .int .i64 ((k + 1 : Nat) : Int) ∧ (k = 0 ∨ (k : Int) + 1 ≤ t) ∧ wr = w) (fun _ i _ => 8 - (intOf i).toNat)
  case atStart => exact ⟨0, by omega, rfl, rfl, .inl rfl, rfl⟩
  case round =>
    obtain ⟨k, hk, rfl, rfl, hkt, rfl⟩ := hrel
    rcases k with _ | _ | _ | _ | _ | _ | _ | k
    · have hn : delayN t = if t ≤ 1 then 1 else delayN t := by
        split
        · exact delay_eq t 0 (by omega) hkt (by omega)
        · rfl
      by_cases hlt : (1 : Int) < t
      · have d1 : decide ((1 : Int) < t) = true := by simpa using hlt
        clear hn
        go_wp2_with fail
        go_roundw
        case rel => exact ⟨1, by omega, rfl, rfl, by omega, by simp⟩
        case measure => simp [intOf]
      · have d1 : decide ((1 : Int) < t) = false := by simp; omega
        have hr : delayN t = 1 := by rw [hn, if_pos (by omega)]
        have HR := Lib.hid hr
        clear hn hr
        go_wp2_with fail
        go_ret
        rw [HR.out]
        exact ⟨rfl, rfl⟩
    · have hn : delayN t = if t ≤ 2 then 2 else delayN t := by
        split
        · exact delay_eq t 1 (by omega) hkt (by omega)
        · rfl
      by_cases hlt : (2 : Int) < t
      · have d1 : decide ((2 : Int) < t) = true := by simpa using hlt
        clear hn
        go_wp2_with fail
        go_roundw
        case rel => exact ⟨2, by omega, rfl, rfl, by omega, by simp⟩
        case measure => simp [intOf]
      · have d1 : decide ((2 : Int) < t) = false := by simp; omega
        have hr : delayN t = 2 := by rw [hn, if_pos (by omega)]
        have HR := Lib.hid hr
        clear hn hr
        go_wp2_with fail
        go_ret
        rw [HR.out]
        exact ⟨rfl, rfl⟩
    · have hn : delayN t = if t ≤ 3 then 4 else delayN t := by
        split
        · exact delay_eq t 2 (by omega) hkt (by omega)
        · rfl
      by_cases hlt : (3 : Int) < t
      · have d1 : decide ((3 : Int) < t) = true := by simpa using hlt
        clear hn
        go_wp2_with fail
        go_roundw
        case rel => exact ⟨3, by omega, rfl, rfl, by omega, by simp⟩
        case measure => simp [intOf]
      · have d1 : decide ((3 : Int) < t) = false := by simp; omega
        have hr : delayN t = 4 := by rw [hn, if_pos (by omega)]
        have HR := Lib.hid hr
        clear hn hr
        go_wp2_with fail
        go_ret
        rw [HR.out]
        exact ⟨rfl, rfl⟩
    · have hn : delayN t = if t ≤ 4 then 8 else delayN t := by
        split
        · exact delay_eq t 3 (by omega) hkt (by omega)
        · rfl
      by_cases hlt : (4 : Int) < t
      · have d1 : decide ((4 : Int) < t) = true := by simpa using hlt
        clear hn
        go_wp2_with fail
        go_roundw
        case rel => exact ⟨4, by omega, rfl, rfl, by omega, by simp⟩
        case measure => simp [intOf]
      · have d1 : decide ((4 : Int) < t) = false := by simp; omega
        have hr : delayN t = 8 := by rw [hn, if_pos (by omega)]
        have HR := Lib.hid hr
        clear hn hr
        go_wp2_with fail
        go_ret
        rw [HR.out]
        exact ⟨rfl, rfl⟩
    · have hn : delayN t = if t ≤ 5 then 16 else delayN t := by
        split
        · exact delay_eq t 4 (by omega) hkt (by omega)
        · rfl
      by_cases hlt : (5 : Int) < t
      · have d1 : decide ((5 : Int) < t) = true := by simpa using hlt
        clear hn
        go_wp2_with fail
        go_roundw
        case rel => exact ⟨5, by omega, rfl, rfl, by omega, by simp⟩
        case measure => simp [intOf]
      · have d1 : decide ((5 : Int) < t) = false := by simp; omega
        have hr : delayN t = 16 := by rw [hn, if_pos (by omega)]
        have HR := Lib.hid hr
        clear hn hr
        go_wp2_with fail
        go_ret
        rw [HR.out]
        exact ⟨rfl, rfl⟩
    · have hn : delayN t = if t ≤ 6 then 32 else delayN t := by
        split
        · exact delay_eq t 5 (by omega) hkt (by omega)
        · rfl
      by_cases hlt : (6 : Int) < t
      · have d1 : decide ((6 : Int) < t) = true := by simpa using hlt
        clear hn
        go_wp2_with fail
        go_roundw
        case rel => exact ⟨6, by omega, rfl, rfl, by omega, by simp⟩
        case measure => simp [intOf]
      · have d1 : decide ((6 : Int) < t) = false := by simp; omega
        have hr : delayN t = 32 := by rw [hn, if_pos (by omega)]
        have HR := Lib.hid hr
        clear hn hr
        go_wp2_with fail
        go_ret
        rw [HR.out]
        exact ⟨rfl, rfl⟩
    · have hr : delayN t = 64 := delay_top t (by omega)
      have HR := Lib.hid hr
      clear hr
      by_cases hlt : (7 : Int) < t
      · have d1 : decide ((7 : Int) < t) = true := by simpa using hlt
        go_wp2_with fail
        go_ret
        rw [HR.out]
        exact ⟨rfl, rfl⟩
      · have d1 : decide ((7 : Int) < t) = false := by simp; omega
        go_wp2_with fail
        go_ret
        rw [HR.out]
        exact ⟨rfl, rfl⟩
    · omega
end Go.Proofs.YtffkjbbhbpaacaaDoor
