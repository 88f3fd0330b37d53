import Derived.Test.YtkhbhfnfpognpaaFld
/-
  PaceRuns.
-/
namespace Go.Proofs.Ytkhbhfnfpognpaa
open Go.RowKit

section
variable {P : Program} {ops : Array Oper} {l : List Sp} {a : Act} {w : World}
theorem owes_field (i : Nat) (dst : Option Tmp) (anc : List Nat) (r : Value) (t : TypeId) (x : Operand) (k : Nat) (vx : Value) (hop : ∀ v, ops[i]?.map (fun o => (o.op, Region.wanted o (yielded ops (fr l anc a v).tmps))) = some (.fieldAddr t x k, true))
    (hx : ∀ v, (fr l anc a v).eval x = vx) (he : ∀ w, (Instr.fieldAt t vx k).run P w = .ok r w) : Owes P ops l a w (Sp.k i dst anc r) :=
  owes_pure i dst anc r _ hop fun v w' _ _ o ho => by unfold execOp; simp only [ho, hx v, Sem.run_bind, he w']; rfl
end
theorem run_min2 (a b c : Int) (h : (if b < a then b else a) = c) (w : World) : (Builtin.min_ #[3, 3] 3 #[.int .i64 a, .int .i64 b]).run Try.prog w = .ok (.int .i64 c) w := min_i64D a b c h w
theorem ld_intP (b o : Nat) (v : Value) (w : World) (h : w.cell? ⟨b, o, none⟩ = some v) : (Instr.loadAt 3 (.pointer (some ⟨b, o, none⟩))).run Try.prog w = .ok v w := by
  have h2 := Try.underlying3
  go_simp
theorem gtrT (t : TypeId) (x y : Operand) (a b : Int) (h : b < a) (w : World) : (do eqGuard .gtr t x y (.int .i64 a) (.int .i64 b); binOp .gtr t (.int .i64 a) (.int .i64 b) : Sem Value).run Try.prog w = .ok (.bool true) w := by
  simp [eqGuard, binOp, Op.intCmp]; omega
theorem gtrF (t : TypeId) (x y : Operand) (a b : Int) (h : a ≤ b) (w : World) : (do eqGuard .gtr t x y (.int .i64 a) (.int .i64 b); binOp .gtr t (.int .i64 a) (.int .i64 b) : Sem Value).run Try.prog w = .ok (.bool false) w := by
  simp [eqGuard, binOp, Op.intCmp]; omega
theorem neqS (t : TypeId) (x y : Operand) (a : Int) (w : World) : (do eqGuard .neq t x y (.int .i64 a) (.int .i64 a); binOp .neq t (.int .i64 a) (.int .i64 a) : Sem Value).run Try.prog w = .ok (.bool false) w := by
  simp [eqGuard, binOp, Op.intCmp]
theorem mulP (t : TypeId) (x y : Operand) (a b : Int) (h1 : -9223372036854775808 ≤ a * b) (h2 : a * b ≤ 9223372036854775807) (w : World) : (do eqGuard .mul t x y (.int .i64 a) (.int .i64 b); binOp .mul t (.int .i64 a) (.int .i64 b) : Sem Value).run Try.prog w = .ok (.int .i64 (a * b)) w := by
  have hw : IntKind.i64.wrap (a * b) = a * b := IntWalk.i64_in _ (by omega)
  simp [eqGuard, binOp, Op.intArith, hw]
theorem delays : ∀ i : Nat, i < 12 → 1 ≤ delayN (i : Int) ∧ delayN (i : Int) ≤ 64 ∧ (2 < i → delayN (i : Int) = min (2 * delayN ((i : Int) - 1)) 64) := by decide +kernel
/-- a pace, alone -/
structure PrF (w : World) (B : Nat) (a b : Int) (W : World) : Prop where
  p : PcAt B 37 a b W
  b : Below B w W
theorem PrF.next {w : World} {B : Nat} {a b : Int} {W W' : World} (h : PrF w B a b W) (hB : B ≤ W.heap.size) (hb : Below W.heap.size W W') : PrF w B a b W' := ⟨h.p.next hb, h.b.trans (hb.mono hB)⟩
theorem PrF.step {w : World} {B : Nat} {a b a' b' : Int} {W W' : World} (h : PrF w B a b W) (hp : PcAt B 37 a' b' W') (ho : Only B W W') : PrF w B a' b' W' := ⟨hp, h.b.trans (ho.below (Nat.le_refl _) (Nat.le_of_lt h.p.lt))⟩

set_option maxRecDepth 100000 in
set_option maxHeartbeats 3200000 in
theorem runs_walk (ticks : Int) (w : World) : Calls Try.prog 6 #[.int .i64 ticks] w fun e w' => e = .returned (.bool true) ∧ Below w.heap.size w w' := by
  go_enter Try.func6, Try.ntmps6
  go_wp2_with fail
  refine (first_any w).mono ?_
  rintro e W1 ⟨rfl, hb1⟩
  go_upto_region 5 with (fail)
  have hB1 : w.heap.size ≤ W1.heap.size := hb1.size
  have hz : PcAt W1.heap.size 37 0 0 (W1.alloc (.cells #[.int .i64 0, .int .i64 0] 37)) := rowIs_new _ _ _ _ _ _ rfl rfl (fun i hi => by
    rcases i with _ | _ | i
    · rfl
    · rfl
    · omega)
  have hF0 : PrF W1 W1.heap.size 0 0 (W1.alloc (.cells #[.int .i64 0, .int .i64 0] 37)) := ⟨hz, (Below.refl _ _).alloc (Nat.le_refl _) _⟩
  have HW := Lib.hid (And.intro hb1 hB1)
  refine wp_world (PrF W1 W1.heap.size 0 0) hF0 ?_
  clear hz hF0 hb1 hB1
  generalize hB : W1.heap.size = B at HW ⊢
  rintro W2 hF
  obtain ⟨K, hK, hKl⟩ := exists_mod ticks 5 (by omega)
  have HK := Lib.hid hK
  clear hK
  go_wp2_with fail
  refine (number_nat ticks 5 K W2 (by omega) HK.out).mono ?_
  rintro e W3 ⟨rfl, q, rfl⟩
  have hq : Below W2.heap.size W2 (W2.drewN q) := Below.drewNr q
  generalize W2.drewN q = W3 at hq ⊢
  replace hF := hF.next (Nat.le_of_lt hF.p.lt) hq
  clear hq HK W2
  go_wp2_with fail
  go_loopw [5, 6] (fun l i wr => ∃ k : Nat, k ≤ 11 ∧ i = .int .i64 ((k + 1 : Nat) : Int) ∧ l = .int .i64 (if k = 0 then 0 else delayN (k : Int)) ∧ PrF W1 B (k : Int) 0 wr) (fun _ i _ => 12 - (intOf i).toNat)
  case atStart => exact ⟨0, by omega, rfl, rfl, hF⟩
  clear hF
  case round =>
    obtain ⟨k, hk, rfl, rfl, hF⟩ := hrel
    by_cases hlt : k < 11
    · obtain ⟨D, hD⟩ : ∃ D, D = delayN ((k + 1 : Nat) : Int) := ⟨_, rfl⟩
      obtain ⟨L, hL⟩ : ∃ L, L = (if k = 0 then (0 : Int) else delayN (k : Int)) := ⟨_, rfl⟩
      obtain ⟨hd1, hd2, hd3⟩ := delays (k + 1) (by omega)
      rw [← hD] at hd1 hd2 hd3
      have hL0 : 0 ≤ L ∧ L ≤ 64 := by
        rw [hL]
        split
        · omega
        · have := delays k (by omega); omega
      have hmin : 2 < k + 1 → (if 64 < 2 * L then 64 else 2 * L) = D := fun h => by
        have h4 := hd3 h
        rw [show (((k + 1 : Nat) : Int)) - 1 = (k : Int) by omega] at h4
        have e : L = delayN (k : Int) := by rw [hL, if_neg (by omega)]
        rw [h4, e]
        by_cases hh : 64 < 2 * delayN (k : Int)
        · rw [if_pos hh, Int.min_eq_right (by omega)]
        · rw [if_neg hh, Int.min_eq_left (by omega)]
      have HD := Lib.hid hD
      have HL := Lib.hid hL
      rw [← hL]
      have hfl := fun w h => pfail_any B (k : Int) 0 w h (by omega)
      rw [show (k : Int) + 1 = ((k + 1 : Nat) : Int) by omega, ← hD] at hfl
      obtain ⟨n, hn⟩ : ∃ n, n = k + 1 := ⟨_, rfl⟩
      rw [← hn] at hmin hfl HD ⊢
      have hn1 : 1 ≤ n ∧ n ≤ 11 := by omega
      have HN := Lib.hid hn
      clear hD hL hd3 hn hlt hk
      go_wp2_with fail
      refine (ready_any B (k : Int) 0 wr hF.p).mono ?_
      rintro e w1 ⟨rfl, rfl⟩
      go_wp2_with fail
      refine (hfl _ hF.p).mono ?_
      rintro e w2 ⟨rfl, hp2, ho2⟩
      replace hF := hF.step hp2 ho2
      clear hp2 ho2 hfl
      have c0 := hF.p.c0
      have c1 := hF.p.c1
      have e1 : decide ((n : Int) > 10) = decide (10 < (n : Int)) := rfl
      have d1 : decide (D < 1) = false := by simp; omega
      have d2 : decide (64 < D) = false := by simp; omega
      go_upto_region 12 with (fail)
      obtain ⟨Dn, hDn⟩ : ∃ Dn : Nat, D = (Dn : Int) := ⟨D.toNat, by omega⟩
      subst hDn
      by_cases h2 : 2 < n
      · have hm := hmin h2
        refine wp_region_text [Sp.k 0 (some 42) [] (.int .i64 (n : Int)),
          Sp.k 1 (some 43) [0] (.bool true),
          Sp.k 2 (some 44) [1] (.bool true),
          Sp.k 3 (some 45) [2] (.pointer (some ⟨B, 1, none⟩)),
          Sp.k 4 (some 46) [2, 3] (.int .i64 (Dn : Int)),
          Sp.k 5 (some 47) [2] (.int .i64 L),
          Sp.k 6 (some 48) [2, 5] (.int .i64 (2 * L)),
          Sp.k 7 (some 49) [2, 6] (.int .i64 (Dn : Int)),
          Sp.k 8 (some 50) [2, 4, 7] (.bool false),
          Sp.k 9 (some 51) [2, 8] (.bool false)] (by kernel_rfl)
          ⟨owes_move 0 (some 42) [] (.int .i64 (n : Int)) (Go.Operand.tmp 6) (fun v => by kernel_rfl) (fun v => by kernel_rfl),
          owes_bin 1 (some 43) [0] (.bool true) Go.BinOp.gtr 3 (Go.Operand.tmp 42) (Go.Operand.const (Go.Value.int Go.IntKind.i64 2)) 3 (.int .i64 (n : Int)) (Go.Value.int Go.IntKind.i64 2) (fun v => by kernel_rfl) (fun v => by kernel_rfl) (gtrT _ _ _ _ _ (by omega)),
          owes_move 2 (some 44) [1] (.bool true) (Go.Operand.tmp 43) (fun v => by kernel_rfl) (fun v => by kernel_rfl),
          owes_field 3 (some 45) [2] (.pointer (some ⟨B, 1, none⟩)) 37 (Go.Operand.tmp 4) 1 (.pointer (some ⟨B, 0, none⟩)) (fun v => by kernel_rfl) (fun v => by kernel_rfl) (fun w => by kernel_rfl),
          owes_load 4 (some 46) [2, 3] (.int .i64 (Dn : Int)) 3 (Go.Operand.tmp 45) (.pointer (some ⟨B, 1, none⟩)) (fun v => by kernel_rfl) (fun v => by kernel_rfl) (fun w' hb => ld_intP _ _ _ w' ((hb.cell (p := ⟨B, 1, none⟩) hF.p.lt).trans c1)),
          owes_move 5 (some 47) [2] (.int .i64 L) (Go.Operand.tmp 5) (fun v => by kernel_rfl) (fun v => by kernel_rfl),
          owes_bin 6 (some 48) [2, 5] (.int .i64 (2 * L)) Go.BinOp.mul 3 (Go.Operand.const (Go.Value.int Go.IntKind.i64 2)) (Go.Operand.tmp 47) 3 (Go.Value.int Go.IntKind.i64 2) (.int .i64 L) (fun v => by kernel_rfl) (fun v => by kernel_rfl) (mulP _ _ _ _ _ (by omega) (by omega)),
          owes_min 7 (some 49) [2, 6] (.int .i64 (Dn : Int)) (.tmp 48) (.const (.int .i64 64)) 3 3 3 (.int .i64 (2 * L)) (.int .i64 64) (fun v => by kernel_rfl) (by kernel_rfl) (fun v => by kernel_rfl) (fun w => min_i64D _ _ _ hm w),
          owes_bin 8 (some 50) [2, 4, 7] (.bool false) Go.BinOp.neq 3 (Go.Operand.tmp 46) (Go.Operand.tmp 49) 3 (.int .i64 (Dn : Int)) (.int .i64 (Dn : Int)) (fun v => by kernel_rfl) (fun v => by kernel_rfl) (neqS _ _ _ _),
          owes_pick 9 (some 51) [2, 8] (.bool false) (Go.Operand.tmp 44) (Go.Operand.tmp 50) (Go.Operand.const (Go.Value.bool false)) true (fun v => by kernel_rfl) (fun v => by kernel_rfl) (fun v => by kernel_rfl), trivial⟩ ?_
        intro v w3 hb3 hall
        clear hall hm hmin
        simp only [putsL_k, putsL_nil, List.set_cons_zero, List.set_cons_succ]
        replace hF := hF.next (Nat.le_of_lt hF.p.lt) hb3
        clear hb3 c0 c1 e1 d1 d2 h2 w2
        have c1 := hF.p.c1
        have hDl : 1 ≤ Dn := by omega
        go_wp2_with fail
        go_loopw [7] (fun i wr => ∃ j : Nat, j ≤ Dn ∧ i = .int .i64 (j : Int) ∧ PrF W1 B (n : Int) ((Dn - j : Nat) : Int) wr) (fun i _ => Dn - (intOf i).toNat)
        case atStart => exact ⟨0, by omega, rfl, by simpa using hF⟩
        clear hF c1
        case round =>
          obtain ⟨j, hj, rfl, hF⟩ := hrel
          by_cases hjl : j < Dn
          · have hne : (((Dn - j : Nat) : Int) == 0) = false := by simp; omega
            have hr := ready_any B (n : Int) ((Dn - j : Nat) : Int) wr hF.p
            rw [hne] at hr
            have ht := ptick_any B (n : Int) ((Dn - j : Nat) : Int) wr hF.p (by omega)
            rw [show tickN ((Dn - j : Nat) : Int) = ((Dn - (j + 1) : Nat) : Int) by unfold tickN; rw [if_pos (by omega)]; omega] at ht
            clear hne
            go_wp2_with fail
            refine hr.mono ?_
            rintro e w4 ⟨rfl, rfl⟩
            go_wp2_with fail
            refine ht.mono ?_
            rintro e w4 ⟨rfl, hp4, ho4⟩
            replace hF := hF.step hp4 ho4
            clear hr ht hp4 ho4
            go_wp2_with fail
            go_roundw
            case rel => exact ⟨j + 1, by omega, by go_num, hF⟩
            case measure => simp [intOf]; omega
          · obtain rfl : j = Dn := by omega
            rw [Nat.sub_self] at hF
            clear hjl hj
            go_wp2_with fail
            go_loopw [8] (fun i wr => ∃ m : Nat, m ≤ K ∧ i = .int .i64 (m : Int) ∧ PrF W1 B (n : Int) 0 wr) (fun i _ => K - (intOf i).toNat)
            case atStart => exact ⟨0, by omega, rfl, hF⟩
            clear hF
            case round =>
              obtain ⟨m, hm, rfl, hF⟩ := hrel
              by_cases hml : m < K
              · have ht := ptick_any B (n : Int) 0 wr hF.p (by omega)
                rw [show tickN 0 = 0 by decide] at ht
                go_wp2_with fail
                refine ht.mono ?_
                rintro e w5 ⟨rfl, hp5, ho5⟩
                replace hF := hF.step hp5 ho5
                clear ht hp5 ho5
                go_wp2_with fail
                go_roundw
                case rel => exact ⟨m + 1, by omega, by go_num, hF⟩
                case measure => simp [intOf]; omega
              · obtain rfl : m = K := by omega
                have HF := Lib.hid hF
                clear hF hml hm
                go_wp2_with fail
                go_roundw
                case rel =>
                  have h1 := HN.out
                  have h2 := HD.out
                  have h4 := HF.out
                  subst h1
                  refine ⟨k + 1, by omega, by go_num, ?_, h4⟩
                  rw [if_neg (by omega), ← h2]
                case measure => have := HN.out; simp [intOf]; omega
      · clear hmin
        refine wp_region_text [Sp.k 0 (some 42) [] (.int .i64 (n : Int)),
          Sp.k 1 (some 43) [0] (.bool false),
          Sp.k 2 (some 44) [1] (.bool false),
          Sp.k 3 (some 45) [2] (undef),
          Sp.k 4 (some 46) [2, 3] (undef),
          Sp.k 5 (some 47) [2] (undef),
          Sp.k 6 (some 48) [2, 5] (undef),
          Sp.k 7 (some 49) [2, 6] (undef),
          Sp.k 8 (some 50) [2, 4, 7] (undef),
          Sp.k 9 (some 51) [2, 8] (Go.Value.bool false)] (by kernel_rfl)
          ⟨owes_move 0 (some 42) [] (.int .i64 (n : Int)) (Go.Operand.tmp 6) (fun v => by kernel_rfl) (fun v => by kernel_rfl),
          owes_bin 1 (some 43) [0] (.bool false) Go.BinOp.gtr 3 (Go.Operand.tmp 42) (Go.Operand.const (Go.Value.int Go.IntKind.i64 2)) 3 (.int .i64 (n : Int)) (Go.Value.int Go.IntKind.i64 2) (fun v => by kernel_rfl) (fun v => by kernel_rfl) (gtrF _ _ _ _ _ (by omega)),
          owes_move 2 (some 44) [1] (.bool false) (Go.Operand.tmp 43) (fun v => by kernel_rfl) (fun v => by kernel_rfl),
          owes_skip 3 (some 45) [2] (fun v => by kernel_rfl),
          owes_skip 4 (some 46) [2, 3] (fun v => by kernel_rfl),
          owes_skip 5 (some 47) [2] (fun v => by kernel_rfl),
          owes_skip 6 (some 48) [2, 5] (fun v => by kernel_rfl),
          owes_skip 7 (some 49) [2, 6] (fun v => by kernel_rfl),
          owes_skip 8 (some 50) [2, 4, 7] (fun v => by kernel_rfl),
          owes_pick 9 (some 51) [2, 8] (Go.Value.bool false) (Go.Operand.tmp 44) (Go.Operand.tmp 50) (Go.Operand.const (Go.Value.bool false)) false (fun v => by kernel_rfl) (fun v => by kernel_rfl) (fun v => by kernel_rfl), trivial⟩ ?_
        intro v w3 hb3 hall
        clear hall
        simp only [putsL_k, putsL_nil, List.set_cons_zero, List.set_cons_succ]
        replace hF := hF.next (Nat.le_of_lt hF.p.lt) hb3
        clear hb3 c0 c1 e1 d1 d2 h2 w2
        have c1 := hF.p.c1
        have hDl : 1 ≤ Dn := by omega
        go_wp2_with fail
        go_loopw [7] (fun i wr => ∃ j : Nat, j ≤ Dn ∧ i = .int .i64 (j : Int) ∧ PrF W1 B (n : Int) ((Dn - j : Nat) : Int) wr) (fun i _ => Dn - (intOf i).toNat)
        case atStart => exact ⟨0, by omega, rfl, by simpa using hF⟩
        clear hF c1
        case round =>
          obtain ⟨j, hj, rfl, hF⟩ := hrel
          by_cases hjl : j < Dn
          · have hne : (((Dn - j : Nat) : Int) == 0) = false := by simp; omega
            have hr := ready_any B (n : Int) ((Dn - j : Nat) : Int) wr hF.p
            rw [hne] at hr
            have ht := ptick_any B (n : Int) ((Dn - j : Nat) : Int) wr hF.p (by omega)
            rw [show tickN ((Dn - j : Nat) : Int) = ((Dn - (j + 1) : Nat) : Int) by unfold tickN; rw [if_pos (by omega)]; omega] at ht
            clear hne
            go_wp2_with fail
            refine hr.mono ?_
            rintro e w4 ⟨rfl, rfl⟩
            go_wp2_with fail
            refine ht.mono ?_
            rintro e w4 ⟨rfl, hp4, ho4⟩
            replace hF := hF.step hp4 ho4
            clear hr ht hp4 ho4
            go_wp2_with fail
            go_roundw
            case rel => exact ⟨j + 1, by omega, by go_num, hF⟩
            case measure => simp [intOf]; omega
          · obtain rfl : j = Dn := by omega
            rw [Nat.sub_self] at hF
            clear hjl hj
            go_wp2_with fail
            go_loopw [8] (fun i wr => ∃ m : Nat, m ≤ K ∧ i = .int .i64 (m : Int) ∧ PrF W1 B (n : Int) 0 wr) (fun i _ => K - (intOf i).toNat)
            case atStart => exact ⟨0, by omega, rfl, hF⟩
            clear hF
            case round =>
              obtain ⟨m, hm, rfl, hF⟩ := hrel
              by_cases hml : m < K
              · have ht := ptick_any B (n : Int) 0 wr hF.p (by omega)
                rw [show tickN 0 = 0 by decide] at ht
                go_wp2_with fail
                refine ht.mono ?_
                rintro e w5 ⟨rfl, hp5, ho5⟩
                replace hF := hF.step hp5 ho5
                clear ht hp5 ho5
                go_wp2_with fail
                go_roundw
                case rel => exact ⟨m + 1, by omega, by go_num, hF⟩
                case measure => simp [intOf]; omega
              · obtain rfl : m = K := by omega
                have HF := Lib.hid hF
                clear hF hml hm
                go_wp2_with fail
                go_roundw
                case rel =>
                  have h1 := HN.out
                  have h2 := HD.out
                  have h4 := HF.out
                  subst h1
                  refine ⟨k + 1, by omega, by go_num, ?_, h4⟩
                  rw [if_neg (by omega), ← h2]
                case measure => have := HN.out; simp [intOf]; omega
    · obtain rfl : k = 11 := by omega
      clear hlt hk
      rw [show (if (11 : Nat) = 0 then (0 : Int) else delayN ((11 : Nat) : Int)) = 64 by decide]
      go_wp2_with fail
      refine (good_any B _ 0 wr hF.p).mono ?_
      rintro e w1 ⟨rfl, hp1, ho1⟩
      replace hF := hF.step hp1 ho1
      clear hp1 ho1
      go_wp2_with fail
      refine (ready_any B 0 0 w1 hF.p).mono ?_
      rintro e w2 ⟨rfl, rfl⟩
      have c0 := hF.p.c0
      go_wp2_with fail
      go_ret
      exact ⟨rfl, HW.out.1.trans (hF.b.mono HW.out.2)⟩
end Go.Proofs.Ytkhbhfnfpognpaa
