import Derived.Test.YtkhbhfnfpognpaaFlq
/-
  PaceLeft.
-/
namespace Go.Proofs.Ytkhbhfnfpognpaa
open Go.RowKit Ieee

theorem rate_facts : ∀ k : Nat, k < 100 → FloatKind.f64.format.div (floatOfInt .f64 ((k : Int) + 1)) (floatOfInt .f64 1) = some (floatOfInt .f64 ((k : Int) + 1)) ∧ (fnan (floatOfInt .f64 ((k : Int) + 1)) || (FloatKind.f64.format.order (floatOfInt .f64 ((k : Int) + 1)) 0 == some .lt || FloatKind.f64.format.order (floatOfInt .f64 ((k : Int) + 1)) 0 == some .eq)) = false := by decide +kernel
theorem left_value (H A k : Nat) (hA : A < 10000) (hk : k < 100) (hlt : H < A) : ∃ c : Nat, 0 < c ∧ c ≤ 10000 ∧ leftN H A (floatOfInt .f64 ((k : Int) + 1)) = c ∧ (c - 1) * (k + 1) < A - H ∧ A - H ≤ c * (k + 1) := by
  obtain ⟨d, hd⟩ : ∃ d, d = A - H := ⟨_, rfl⟩
  rw [← hd]
  have hq := Nat.div_add_mod (d + k) (k + 1)
  have hr := Nat.mod_lt (d + k) (show 0 < k + 1 by omega)
  obtain ⟨c, hc⟩ : ∃ c, c = (d + k) / (k + 1) := ⟨_, rfl⟩
  rw [← hc, Nat.mul_comm] at hq
  have c0 : 0 < c := by rw [hc]; exact Nat.div_pos (by omega) (by omega)
  have c1 : c ≤ 10000 := by
    rw [hc]
    refine Nat.le_of_lt_succ ((Nat.div_lt_iff_lt_mul (by omega)).2 ?_)
    omega
  have h2 : d ≤ c * (k + 1) := by omega
  have h1 : (c - 1) * (k + 1) < d := by rw [Nat.sub_mul, Nat.one_mul]; omega
  refine ⟨c, c0, c1, ?_, h1, h2⟩
  have ld : d.log2 ≤ 13 := by
    have : d.log2 < 14 := (Nat.log2_lt (by omega)).2 (by omega)
    omega
  have lk : (k + 1).log2 ≤ 6 := by
    have : (k + 1).log2 < 7 := (Nat.log2_lt (by omega)).2 (by omega)
    omega
  obtain ⟨q, hq1, hq2⟩ := div_frac d (k + 1) d.log2 (k + 1).log2 c ld lk (Nat.log2_self_le (by omega)) Nat.lt_log2_self (Nat.log2_self_le (by omega)) Nat.lt_log2_self c0 (by omega) h1 h2
  rw [show ((k + 1 : Nat) : Int) = (k : Int) + 1 by omega] at hq1
  have hf := (rate_facts k hk).2
  have hs : (A : Int) - H = d := by omega
  unfold leftN
  rw [hf, hs, hq1, if_neg (by omega)]
  exact hq2
theorem wrap_in (P : Int) (h1 : 0 ≤ P) (h2 : P ≤ 1000000) : wrap64 P = P := by unfold wrap64; omega
theorem small (A H : Nat) (P : Int) (hA : (A : Int) < 10000) (h : P < (A : Int) - H) : P ≤ 1000000 := by omega
theorem prods (H A k c : Nat) (hA : (A : Int) < 10000) (hk : k < 100) (c0 : 0 < c) (c1 : c ≤ 10000) (h1 : (c - 1) * (k + 1) < A - H) (h2 : A - H ≤ c * (k + 1)) (hlt : H < A) :
    ∃ P P2 : Int, (c : Int) * ((k : Int) + 1) = P ∧ ((c : Int) - 1) * ((k : Int) + 1) = P2 ∧ (A : Int) - H ≤ P ∧ P2 < (A : Int) - H ∧ wrap64 P = P ∧ wrap64 P2 = P2 := by
  obtain ⟨e, rfl⟩ : ∃ e, c = e + 1 := ⟨c - 1, by omega⟩
  rw [Nat.add_sub_cancel] at h1
  have e1 : ((e + 1 : Nat) : Int) * ((k : Int) + 1) = (((e + 1) * (k + 1) : Nat) : Int) := by simp
  have e2 : (((e + 1 : Nat) : Int) - 1) * ((k : Int) + 1) = ((e * (k + 1) : Nat) : Int) := by
    rw [show ((e + 1 : Nat) : Int) - 1 = (e : Int) by omega]; simp
  have b3 : (e + 1) * (k + 1) ≤ 1000000 := Nat.le_trans (Nat.mul_le_mul c1 (show k + 1 ≤ 100 by omega)) (by decide)
  rw [e1, e2]
  clear e1 e2
  generalize (e + 1) * (k + 1) = P at *
  generalize e * (k + 1) = P2 at *
  have b4 : P2 < A - H := h1
  clear h1
  refine ⟨P, P2, rfl, rfl, by omega, by omega, wrap_in P (by omega) (by omega), ?_⟩
  exact wrap_in P2 (by omega) (small A H P2 hA (by omega))
theorem quietL {P : Program} {f : FuncId} {args : Array Value} {w : World} {v : Value} (h : Quiets P f args w v) : Calls P f args w fun e w' => e = .returned v ∧ Below w.heap.size w w' :=
  h.mono fun _ _ ⟨h1, m, h2⟩ => ⟨h1, by rw [h2]; exact Below.drewNr m⟩
set_option maxRecDepth 100000 in
set_option maxHeartbeats 1600000 in
theorem pleft_walk (hv al rt : Int) (w : World) :
    Calls Try.prog 7 #[.int .i64 hv, .int .i64 al, .int .i64 rt] w fun e w' => e = .returned (.bool true) ∧ Below w.heap.size w w' := by
  obtain ⟨H, hH, hH2⟩ := exists_mod hv 10000 (by omega)
  obtain ⟨A, hA, hA2⟩ := exists_mod al 10000 (by omega)
  obtain ⟨k, hk, hk2⟩ := exists_mod rt 100 (by omega)
  have n1 := fun W => quietL (number_nat hv 10000 H W (by omega) hH)
  have n2 := fun W => quietL (number_nat al 10000 A W (by omega) hA)
  have n3 := fun W => quietL (number_nat rt 100 k W (by omega) hk)
  clear hH hA hk
  obtain ⟨f1, f2⟩ := rate_facts k (by omega)
  have hrt := fun W => rate_val ((k : Int) + 1) 1 _ f1 W
  clear f1 f2
  go_enter Try.func7, Try.ntmps7
  go_wp2_with fail
  refine (first_any w).mono ?_
  rintro e W1 ⟨rfl, hb1⟩
  have hs1 := hb1.size
  go_wp2_with fail
  refine (n1 W1).mono ?_
  rintro e W2 ⟨rfl, hb2⟩
  replace hb2 := hb1.trans (hb2.mono hs1)
  have hs2 := hb2.size
  clear hb1 hs1 n1
  go_wp2_with fail
  refine (n2 W2).mono ?_
  rintro e W3 ⟨rfl, hb3⟩
  replace hb3 := hb2.trans (hb3.mono hs2)
  have hs3 := hb3.size
  clear hb2 hs2 n2
  go_wp2_with fail
  refine (n3 W3).mono ?_
  rintro e W4 ⟨rfl, hb4⟩
  replace hb4 := hb3.trans (hb4.mono hs3)
  clear hb3 hs3 n3
  have hl := left_any H A (floatOfInt .f64 ((k : Int) + 1)) (by omega) (by omega) W4
  by_cases hlt : H < A
  · obtain ⟨c, c0, c1, hv, h1, h2⟩ := left_value H A k (by omega) (by omega) hlt
    rw [hv] at hl
    clear hv
    have d1 : decide (A ≤ H) = false := by simp; omega
    obtain ⟨P, P2, hP, hP2, b1, b2, w1, w2⟩ := prods H A k c hA2 (by omega) c0 c1 h1 h2 hlt
    have v1 : wrap64 ((c : Int) * ((k : Int) + 1)) = P := by rw [hP]; exact w1
    have v2 : wrap64 (((c : Int) - 1) * ((k : Int) + 1)) = P2 := by rw [hP2]; exact w2
    clear w1 w2
    have d2 : decide ((A : Int) - H ≤ P) = true := by simpa using b1
    have d3 : decide (P2 < (A : Int) - H) = true := by simpa using b2
    clear hP hP2 h1 h2
    go_wp2_with fail
    refine (hrt W4).mono ?_
    rintro e W5 ⟨rfl, rfl⟩
    clear hrt
    go_wp2_with fail
    refine hl.mono ?_
    rintro e W6 ⟨rfl, rfl⟩
    clear hl
    have c2 : (c : Int) ≤ 10000 := by omega
    have c3 : (0 : Int) < c := by omega
    have c4 : wrap64 ((c : Int) - 1) = (c : Int) - 1 := by unfold wrap64; omega
    have c5 : wrap64 ((A : Int) - H) = (A : Int) - H := by unfold wrap64; omega
    clear c0 c1 hA2 hH2 b1 b2 hlt
    go_wp2_with fail
    go_ret
    exact ⟨rfl, hb4⟩
  · have hv : leftN H A (floatOfInt .f64 ((k : Int) + 1)) = 0 := by unfold leftN; rw [if_pos (by omega)]
    rw [hv] at hl
    clear hv
    have d1 : decide (A ≤ H) = true := by simp; omega
    go_wp2_with fail
    refine (hrt W4).mono ?_
    rintro e W5 ⟨rfl, rfl⟩
    clear hrt
    go_wp2_with fail
    refine hl.mono ?_
    rintro e W6 ⟨rfl, rfl⟩
    go_wp2_with fail
    go_ret
    exact ⟨rfl, hb4⟩
end Go.Proofs.Ytkhbhfnfpognpaa
