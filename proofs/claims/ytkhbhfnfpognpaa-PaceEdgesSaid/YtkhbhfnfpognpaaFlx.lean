import Derived.Test.YtkhbhfnfpognpaaFlw
/-
  PaceEdges.
-/
namespace Go.Proofs.Ytkhbhfnfpognpaa
open Go.RowKit Ieee

theorem quietE {P : Program} {f : FuncId} {args : Array Value} {w : World} {v : Value} (h : Quiets P f args w v) : Calls P f args w fun e w' => e = .returned v ∧ Below w.heap.size w w' :=
  h.mono fun _ _ ⟨h1, m, h2⟩ => ⟨h1, by rw [h2]; exact Below.drewNr m⟩

set_option maxRecDepth 100000 in
set_option maxHeartbeats 1600000 in
theorem edges_walk (a b n : Int) (w : World) :
    Calls Try.prog 5 #[.int .i64 a, .int .i64 b, .int .i64 n] w fun e w' => e = .returned (.bool true) ∧ Below w.heap.size w w' := by
  go_enter Try.func5, Try.ntmps5
  go_wp2_with fail
  refine (first_any w).mono ?_
  rintro e W1 ⟨rfl, hb1⟩
  have hs1 := hb1.size
  by_cases hab : b < a
  · have d1 : decide (b < a) = true := by simpa using hab
    obtain ⟨X, hX⟩ : ∃ X, X = delayN b := ⟨_, rfl⟩
    obtain ⟨Y, hY⟩ : ∃ Y, Y = delayN a := ⟨_, rfl⟩
    obtain ⟨q1, q2, q3⟩ := delay_mono b a (by omega)
    have hx := delay_any b W1
    have hy := fun W => delay_any a W
    rw [← hX] at q1 q2 hx
    rw [← hY] at q2 q3
    simp only [← hY] at hy
    clear hX hY
    have d2 : decide (1 ≤ X) = true := by simpa using q1
    have d3 : decide (X ≤ Y) = true := by simpa using q2
    have d4 : decide (Y ≤ 64) = true := by simpa using q3
    clear q1 q2 q3
    go_wp2_with fail
    refine hx.mono ?_
    rintro e W2 ⟨rfl, hb2⟩
    replace hb2 := hb1.trans (hb2.mono hs1)
    have hs2 := hb2.size
    clear hb1 hs1 hx
    go_wp2_with fail
    refine (hy W2).mono ?_
    rintro e W3 ⟨rfl, hb3⟩
    replace hb3 := hb2.trans (hb3.mono hs2)
    have hs3 := hb3.size
    clear hb2 hs2 hy
    obtain ⟨k, hk, hk1⟩ := exists_mod n 1000 (by omega)
    have hk2 : k < 1000 := by omega
    have hn := quietE (number_nat n 1000 k W3 (by omega) hk)
    clear hk
    obtain ⟨f1, f2, f3, f4⟩ := edge_facts k hk2
    go_wp2_with fail
    refine hn.mono ?_
    rintro e W4 ⟨rfl, hb4⟩
    replace hb4 := hb3.trans (hb4.mono hs3)
    have hs4 := hb4.size
    clear hb3 hs3 hn
    go_wp2_with fail
    refine (progress_any 0 0 W4).mono ?_
    rintro e W5 ⟨⟨z, rfl, hz⟩, hb5⟩
    rw [zero_none] at hz
    replace hb5 := hb4.trans (hb5.mono hs4)
    have hs5 := hb5.size
    clear hb4 hs4
    obtain ⟨l1, l2, l3, l4⟩ := left_facts k z hz
    have hz2 : (FloatKind.f64.format.order z z != some Ordering.eq) = true := hz
    go_wp2_with fail
    refine (progress_val ((k : Int) + 1) 0 _ f1 W5).mono ?_
    rintro e W6 ⟨rfl, rfl⟩
    have e1 := delay_any (-((k : Int) + 1)) W6
    rw [show delayN (-((k : Int) + 1)) = 1 by unfold delayN; rw [if_pos (by omega)]] at e1
    go_wp2_with fail
    refine e1.mono ?_
    rintro e W7 ⟨rfl, hb7⟩
    replace hb7 := hb5.trans (hb7.mono hs5)
    have hs7 := hb7.size
    clear hb5 hs5 e1
    have e1 := delay_any (2000 + ((k : Int) + 1)) W7
    rw [delay_top _ (by omega)] at e1
    go_wp2_with fail
    refine e1.mono ?_
    rintro e W8 ⟨rfl, hb8⟩
    replace hb8 := hb7.trans (hb8.mono hs7)
    clear hb7 hs7 e1
    go_wp2_with fail
    refine (inf_any W8).mono ?_
    rintro e W9 ⟨rfl, rfl⟩
    go_wp2_with fail
    refine (progress_val ((k : Int) + 1) ((k : Int) + 1) _ f2 W9).mono ?_
    rintro e W10 ⟨rfl, rfl⟩
    have lf := fun (a b : Int) (r : Nat) h1 h2 => left_any a b r h1 h2 W10
    have r1 := lf ((k : Int) + 1) ((k : Int) + 1) z (by omega) (by omega)
    have r2 := lf 0 ((k : Int) + 1) z (by omega) (by omega)
    have r3 := lf 0 ((k : Int) + 1) 0 (by omega) (by omega)
    have r4 := lf 0 ((k : Int) + 1) 9223372036854775808 (by omega) (by omega)
    have r5 := lf 0 ((k : Int) + 1) 9218868437227405312 (by omega) (by omega)
    have r6 := lf 0 ((k : Int) + 1) 4607182418800017408 (by omega) (by omega)
    rw [l1] at r1
    rw [l2] at r2
    rw [l3] at r3
    rw [l4] at r4
    rw [f3] at r5
    rw [f4] at r6
    have p1 := inf1 W10
    have p2 := copyn W10
    clear f1 f2 f3 f4 l1 l2 l3 l4 lf hz
    go_wp2_with fail
    refine r1.mono ?_
    rintro e W11 ⟨rfl, rfl⟩
    go_wp2_with fail
    refine r2.mono ?_
    rintro e W11 ⟨rfl, rfl⟩
    go_wp2_with fail
    refine r3.mono ?_
    rintro e W11 ⟨rfl, rfl⟩
    go_wp2_with fail
    refine p1.mono ?_
    rintro e W11 ⟨rfl, rfl⟩
    go_wp2_with fail
    refine r5.mono ?_
    rintro e W11 ⟨rfl, rfl⟩
    go_wp2_with fail
    refine p2.mono ?_
    rintro e W11 ⟨rfl, rfl⟩
    go_wp2_with fail
    refine r4.mono ?_
    rintro e W11 ⟨rfl, rfl⟩
    go_wp2_with fail
    refine r6.mono ?_
    rintro e W11 ⟨rfl, rfl⟩
    go_wp2_with fail
    go_ret
    exact ⟨rfl, hb8⟩
  · have d1 : decide (b < a) = false := by simpa using hab
    obtain ⟨X, hX⟩ : ∃ X, X = delayN a := ⟨_, rfl⟩
    obtain ⟨Y, hY⟩ : ∃ Y, Y = delayN b := ⟨_, rfl⟩
    obtain ⟨q1, q2, q3⟩ := delay_mono a b (by omega)
    have hx := delay_any a W1
    have hy := fun W => delay_any b W
    rw [← hX] at q1 q2 hx
    rw [← hY] at q2 q3
    simp only [← hY] at hy
    clear hX hY
    have d2 : decide (1 ≤ X) = true := by simpa using q1
    have d3 : decide (X ≤ Y) = true := by simpa using q2
    have d4 : decide (Y ≤ 64) = true := by simpa using q3
    clear q1 q2 q3
    go_wp2_with fail
    refine hx.mono ?_
    rintro e W2 ⟨rfl, hb2⟩
    replace hb2 := hb1.trans (hb2.mono hs1)
    have hs2 := hb2.size
    clear hb1 hs1 hx
    go_wp2_with fail
    refine (hy W2).mono ?_
    rintro e W3 ⟨rfl, hb3⟩
    replace hb3 := hb2.trans (hb3.mono hs2)
    have hs3 := hb3.size
    clear hb2 hs2 hy
    obtain ⟨k, hk, hk1⟩ := exists_mod n 1000 (by omega)
    have hk2 : k < 1000 := by omega
    have hn := quietE (number_nat n 1000 k W3 (by omega) hk)
    clear hk
    obtain ⟨f1, f2, f3, f4⟩ := edge_facts k hk2
    go_wp2_with fail
    refine hn.mono ?_
    rintro e W4 ⟨rfl, hb4⟩
    replace hb4 := hb3.trans (hb4.mono hs3)
    have hs4 := hb4.size
    clear hb3 hs3 hn
    go_wp2_with fail
    refine (progress_any 0 0 W4).mono ?_
    rintro e W5 ⟨⟨z, rfl, hz⟩, hb5⟩
    rw [zero_none] at hz
    replace hb5 := hb4.trans (hb5.mono hs4)
    have hs5 := hb5.size
    clear hb4 hs4
    obtain ⟨l1, l2, l3, l4⟩ := left_facts k z hz
    have hz2 : (FloatKind.f64.format.order z z != some Ordering.eq) = true := hz
    go_wp2_with fail
    refine (progress_val ((k : Int) + 1) 0 _ f1 W5).mono ?_
    rintro e W6 ⟨rfl, rfl⟩
    have e1 := delay_any (-((k : Int) + 1)) W6
    rw [show delayN (-((k : Int) + 1)) = 1 by unfold delayN; rw [if_pos (by omega)]] at e1
    go_wp2_with fail
    refine e1.mono ?_
    rintro e W7 ⟨rfl, hb7⟩
    replace hb7 := hb5.trans (hb7.mono hs5)
    have hs7 := hb7.size
    clear hb5 hs5 e1
    have e1 := delay_any (2000 + ((k : Int) + 1)) W7
    rw [delay_top _ (by omega)] at e1
    go_wp2_with fail
    refine e1.mono ?_
    rintro e W8 ⟨rfl, hb8⟩
    replace hb8 := hb7.trans (hb8.mono hs7)
    clear hb7 hs7 e1
    go_wp2_with fail
    refine (inf_any W8).mono ?_
    rintro e W9 ⟨rfl, rfl⟩
    go_wp2_with fail
    refine (progress_val ((k : Int) + 1) ((k : Int) + 1) _ f2 W9).mono ?_
    rintro e W10 ⟨rfl, rfl⟩
    have lf := fun (a b : Int) (r : Nat) h1 h2 => left_any a b r h1 h2 W10
    have r1 := lf ((k : Int) + 1) ((k : Int) + 1) z (by omega) (by omega)
    have r2 := lf 0 ((k : Int) + 1) z (by omega) (by omega)
    have r3 := lf 0 ((k : Int) + 1) 0 (by omega) (by omega)
    have r4 := lf 0 ((k : Int) + 1) 9223372036854775808 (by omega) (by omega)
    have r5 := lf 0 ((k : Int) + 1) 9218868437227405312 (by omega) (by omega)
    have r6 := lf 0 ((k : Int) + 1) 4607182418800017408 (by omega) (by omega)
    rw [l1] at r1
    rw [l2] at r2
    rw [l3] at r3
    rw [l4] at r4
    rw [f3] at r5
    rw [f4] at r6
    have p1 := inf1 W10
    have p2 := copyn W10
    clear f1 f2 f3 f4 l1 l2 l3 l4 lf hz
    go_wp2_with fail
    refine r1.mono ?_
    rintro e W11 ⟨rfl, rfl⟩
    go_wp2_with fail
    refine r2.mono ?_
    rintro e W11 ⟨rfl, rfl⟩
    go_wp2_with fail
    refine r3.mono ?_
    rintro e W11 ⟨rfl, rfl⟩
    go_wp2_with fail
    refine p1.mono ?_
    rintro e W11 ⟨rfl, rfl⟩
    go_wp2_with fail
    refine r5.mono ?_
    rintro e W11 ⟨rfl, rfl⟩
    go_wp2_with fail
    refine p2.mono ?_
    rintro e W11 ⟨rfl, rfl⟩
    go_wp2_with fail
    refine r4.mono ?_
    rintro e W11 ⟨rfl, rfl⟩
    go_wp2_with fail
    refine r6.mono ?_
    rintro e W11 ⟨rfl, rfl⟩
    go_wp2_with fail
    go_ret
    exact ⟨rfl, hb8⟩
end Go.Proofs.Ytkhbhfnfpognpaa
