import Derived.Test.YtihnpcoiadbpiaaDoorPfs
namespace Go.Proofs.YtihnpcoiadbpiaaDoor
open Go.RowKit

def hfour : Nat → BitVec 8 := fun i => if i = 0 then 4#8 else 0#8
theorem check_four : checkGot hfour hfour 0 1 [] = 0 := by
  have e : upGot hfour 0 1 [] = (hfour, 0) := by
    unfold upGot
    rw [if_neg (by omega)]
    simp [turnsOf_one, upOf]
  unfold checkGot
  rw [e]
  simp
theorem check_five : checkGot hfour five 0 1 [] = 113 := by
  have e : upGot five 0 1 [] = (five, 0) := by
    unfold upGot
    rw [if_neg (by omega)]
    simp [turnsOf_one, upOf]
  unfold checkGot
  rw [e]
  have h : ¬ lst 32 five = lst 32 hfour := by decide
  simp [h]
theorem check_neg (ff : Nat) : checkGot zz zz 0 (-(ff : Int)) [] = 102 := by
  have e : upGot zz 0 (-(ff : Int)) [] = (zz, 102) := by
    unfold upGot
    rw [if_pos (by omega)]
  unfold checkGot
  rw [e]
  simp
theorem PaAt.ext {w wr W : World} {acc : List (Nat → BitVec 8)} {v : Value} (h : PaAt w acc v wr) (hb : Below wr.heap.size wr W) : PaAt w acc v W :=
  ⟨ownsRow_via h.own (fun g _ hl => hb.block g hl), h.bel.trans (hb.mono h.bel.size)⟩

set_option maxRecDepth 100000 in
set_option maxHeartbeats 3200000 in
theorem errors_walk (E : Nat → Addr) (zn zf zw : Int) (w : World) (hE0 : ErrsAt E w) (hk0 : KAt w) :
    Calls Tryd.prog 6 #[.int .i64 zn, .int .i64 zf, .int .i64 zw] w fun e w' => e = .returned (.bool true) ∧ Below w.heap.size w w' := by
  obtain ⟨n, hn1, hn2⟩ := exists_mod zn 20 (by omega)
  obtain ⟨ff, hf1, hf2⟩ := exists_mod zf 1000 (by omega)
  obtain ⟨m, hm1, hm2⟩ := exists_mod zw 4 (by omega)
  have HN := Lib.hid hn1; have HF := Lib.hid hf1; have HM := Lib.hid hm1
  clear hn1 hf1 hm1
  go_enter Tryd.func6, Tryd.ntmps6
  go_wp2_with fail
  refine (pfirst_any E w hE0 hk0).mono ?_
  rintro e W1 ⟨rfl, hb1⟩
  go_wp2_with fail
  refine (number_nat zn 20 n W1 (by omega) HN.out).mono ?_
  rintro e W2 ⟨rfl, n2, rfl⟩
  replace hb1 := below_tr hb1 (Below.drewNr n2)
  generalize W1.drewN n2 = W1 at *
  go_wp2_with fail
  refine (number_nat zf 1000 ff W1 (by omega) HF.out).mono ?_
  rintro e W3 ⟨rfl, n3, rfl⟩
  replace hb1 := below_tr hb1 (Below.drewNr n3)
  generalize W1.drewN n3 = W1 at *
  have hat : PaAt w [] (.slice none 0 0) W1 := ⟨World.ownsRow_nil _ _ _ _, hb1⟩
  clear hb1
  go_wp2_with fail
  go_loopw [8, 9] (fun v p wr => ∃ (k : Nat) (hs : List (Nat → BitVec 8)), p = .int .i64 k ∧ k ≤ n ∧ hs.length = k ∧ PaAt w hs v wr) (fun _ p _ => n - (intOf p).toNat)
  case atStart => exact ⟨0, [], rfl, by omega, rfl, hat⟩
  clear hat
  case round =>
    obtain ⟨k, hs, rfl, hkn, hlen, hat⟩ := hrel
    by_cases hlt : k < n
    · have hlt' : decide (k < n) = true := by simpa using hlt
      go_wp2_with fail
      refine (key_any k wr).mono ?_
      rintro e W4 ⟨f, rfl, hb4⟩
      have ho4 := hat.ext hb4
      obtain ⟨v5, W5, hr5, hown5, hg5⟩ := run_hash 26 W4 w.heap.size _ hs f ho4.own ho4.bel.size (by omega)
      have hat5 := hat.step hb4 hown5 hg5
      have hbs := bsl_hash f W4
      clear hat ho4 hown5 hg5 hb4
      go_wp2_with (first | (refine wpList_bsl_run (by kernel_rfl) 26 1 _ rfl #[(0, .agg (arr8 32 f))] (by kernel_rfl) _ _ hbs ?_) | (at_builtin; refine wpList_append_run_g (by kernel_rfl) _ _ _ _ rfl _ _ rfl rfl _ _ hr5 ?_))
      go_roundw
      case rel => exact ⟨k + 1, hs ++ [f], by go_num, by omega, by simp; omega, hat5⟩
      case measure => simp [intOf]; omega
    · have hlt' : decide (k < n) = false := by simpa using hlt
      obtain rfl : k = n := by omega
      subst hlen
      obtain ⟨A, c, rfl, hc⟩ := ownsRow_form hat.own
      have hbw := hat.bel
      clear hat
      have hE := hE0.below hbw
      have hk := hk0.below hbw
      have hp := fun i hi => path_bad E i hs A c wr hE hi
      go_wp2_with fail
      refine (hp _ (by omega)).mono ?_
      rintro e W4 ⟨rfl, hb4⟩
      replace hbw := below_tr hbw hb4
      replace hE := hE0.below hbw
      clear hp hb4
      have hp := fun i hi => path_bad E i hs A c W4 hE hi
      go_wp2_with fail
      refine (hp _ (by omega)).mono ?_
      rintro e W5 ⟨rfl, hb5⟩
      replace hbw := below_tr hbw hb5
      clear hp hb5
      go_wp2_with fail
      refine (number_nat zw 4 m _ (by omega) HM.out).mono ?_
      rintro e W5' ⟨rfl, n5, rfl⟩
      replace hbw := below_tr hbw (Below.drewNr n5)
      generalize W5.drewN n5 = W5 at *
      replace hE := hE0.below hbw
      replace hk := hk0.below hbw
      have hup := fun i n hi => up_range E zz i n [] none 0 W5 hE hi
      rcases (show m = 0 ∨ m = 1 ∨ m = 2 ∨ m = 3 by omega) with rfl | rfl | rfl | rfl
      · go_wp2_with (refine wpList_build_as rfl 24 #[] rfl (arr8 32 zz) (by kernel_rfl) ?_)
        refine (hup _ _ (by omega)).mono ?_
        rintro e W6 ⟨rfl, hb6⟩
        clear hup
        have hbW := below_tr hbw hb6
        replace hE := hE0.below hbW
        replace hk := hk0.below hbW
        clear hb6 hbw
        have HC0 : ∀ w', Below W6.heap.size W6 w' → Calls Tryd.prog 17 #[.agg (arr8 32 hfour), .agg (arr8 32 hfour), .int .i64 0, .int .i64 1, .slice none 0 0] w' fun e w'' => e = .returned .nilIface ∧ Below w'.heap.size w' w'' := fun w' hb => by
          have h := check_all E hfour hfour 0 1 [] none 0 w' (hE.below hb) (SlRead.nil_) (hk.below hb)
          rwa [check_four] at h
        have HC1 : ∀ w', Below W6.heap.size W6 w' → Calls Tryd.prog 17 #[.agg (arr8 32 hfour), .agg (arr8 32 five), .int .i64 0, .int .i64 1, .slice none 0 0] w' fun e w'' => e = .returned (errV (E 12)) ∧ Below w'.heap.size w' w'' := fun w' hb => by
          have h := check_all E hfour five 0 1 [] none 0 w' (hE.below hb) (SlRead.nil_) (hk.below hb)
          rwa [check_five] at h
        go_upto_region 22 with (fail)
        refine wp_region_text [Sp.k 0 (some 84) [] (.bool true),
          Sp.k 1 (some 85) [0] (.bool true),
          Sp.k 2 (some 86) [1] (errV (E 1)),
          Sp.k 3 (some 87) [1, 2] (.bool true),
          Sp.k 4 (some 88) [1, 3] (.bool true),
          Sp.k 5 (some 89) [4] (.bool true),
          Sp.k 6 (some 90) [5] (errV (E 1)),
          Sp.k 7 (some 91) [5, 6] (.bool true),
          Sp.k 8 (some 92) [5, 7] (.bool true),
          Sp.k 9 (some 93) [8] (.bool true),
          Sp.k 10 (some 94) [9] (errV (E 1)),
          Sp.k 11 (some 95) [9, 10] (.bool true),
          Sp.k 12 (some 96) [9, 11] (.bool true),
          Sp.k 13 (some 97) [12] (.bool true),
          Sp.k 14 (some 98) [13] (.agg (arr8 32 hfour)),
          Sp.k 15 (some 99) [13] (.agg (arr8 32 hfour)),
          Sp.k 16 (some 100) [13, 14, 15] (.nilIface),
          Sp.k 17 (some 101) [13, 16] (.bool true),
          Sp.k 18 (some 102) [13, 17] (.bool true),
          Sp.k 19 (some 103) [18] (.bool true),
          Sp.k 20 (some 104) [19] (.agg (arr8 32 hfour)),
          Sp.k 21 (some 105) [19] (.agg (arr8 32 five)),
          Sp.k 22 (some 106) [19, 20, 21] (errV (E 12)),
          Sp.k 23 (some 107) [19, 22] (.bool true),
          Sp.k 24 (some 108) [19, 23] (.bool true),
          Sp.k 25 (some 6) [24] (.bool true)] (by kernel_rfl)
          ⟨owes_move 0 (some 84) [] (.bool true) (Go.Operand.tmp 7) (fun v => by kernel_rfl) (fun v => by kernel_rfl),
          owes_move 1 (some 85) [0] (.bool true) (Go.Operand.tmp 84) (fun v => by kernel_rfl) (fun v => by kernel_rfl),
          owes_move 2 (some 86) [1] (errV (E 1)) (Go.Operand.tmp 11) (fun v => by kernel_rfl) (fun v => by kernel_rfl),
          owes_call 3 (some 87) [1, 2] (.bool true) 13 #[Go.Operand.tmp 86, Go.Operand.const (Go.Value.int Go.IntKind.i64 102)] #[33, 3] (fun v => by kernel_rfl) (fun _ _ => by kernel_rfl) (fun v w' hb ho => by
              exact ⟨#[errV (E 1), Go.Value.int Go.IntKind.i64 102], by kernel_rfl, (is_any E (errV (E 1)) 102 102 (.inr ⟨1, by decide, rfl, rfl⟩) w' (hE.below hb)).mono (fun _ _ h => h)⟩),
          owes_pick 4 (some 88) [1, 3] (.bool true) (Go.Operand.tmp 85) (Go.Operand.tmp 87) (Go.Operand.const (Go.Value.bool false)) true (fun v => by kernel_rfl) (fun v => by kernel_rfl) (fun v => by kernel_rfl),
          owes_move 5 (some 89) [4] (.bool true) (Go.Operand.tmp 88) (fun v => by kernel_rfl) (fun v => by kernel_rfl),
          owes_move 6 (some 90) [5] (errV (E 1)) (Go.Operand.tmp 13) (fun v => by kernel_rfl) (fun v => by kernel_rfl),
          owes_call 7 (some 91) [5, 6] (.bool true) 13 #[Go.Operand.tmp 90, Go.Operand.const (Go.Value.int Go.IntKind.i64 102)] #[33, 3] (fun v => by kernel_rfl) (fun _ _ => by kernel_rfl) (fun v w' hb ho => by
              exact ⟨#[errV (E 1), Go.Value.int Go.IntKind.i64 102], by kernel_rfl, (is_any E (errV (E 1)) 102 102 (.inr ⟨1, by decide, rfl, rfl⟩) w' (hE.below hb)).mono (fun _ _ h => h)⟩),
          owes_pick 8 (some 92) [5, 7] (.bool true) (Go.Operand.tmp 89) (Go.Operand.tmp 91) (Go.Operand.const (Go.Value.bool false)) true (fun v => by kernel_rfl) (fun v => by kernel_rfl) (fun v => by kernel_rfl),
          owes_move 9 (some 93) [8] (.bool true) (Go.Operand.tmp 92) (fun v => by kernel_rfl) (fun v => by kernel_rfl),
          owes_move 10 (some 94) [9] (errV (E 1)) (Go.Operand.tmp 14) (fun v => by kernel_rfl) (fun v => by kernel_rfl),
          owes_call 11 (some 95) [9, 10] (.bool true) 13 #[Go.Operand.tmp 94, Go.Operand.const (Go.Value.int Go.IntKind.i64 102)] #[33, 3] (fun v => by kernel_rfl) (fun _ _ => by kernel_rfl) (fun v w' hb ho => by
              exact ⟨#[errV (E 1), Go.Value.int Go.IntKind.i64 102], by kernel_rfl, (is_any E (errV (E 1)) 102 102 (.inr ⟨1, by decide, rfl, rfl⟩) w' (hE.below hb)).mono (fun _ _ h => h)⟩),
          owes_pick 12 (some 96) [9, 11] (.bool true) (Go.Operand.tmp 93) (Go.Operand.tmp 95) (Go.Operand.const (Go.Value.bool false)) true (fun v => by kernel_rfl) (fun v => by kernel_rfl) (fun v => by kernel_rfl),
          owes_move 13 (some 97) [12] (.bool true) (Go.Operand.tmp 96) (fun v => by kernel_rfl) (fun v => by kernel_rfl),
          owes_build 14 (some 98) [13] (.agg (arr8 32 hfour)) 24 #[(0, Go.Operand.const (Go.Value.int Go.IntKind.u8 4))] (#[(0, Go.Value.int Go.IntKind.u8 4)]) (fun v => by kernel_rfl) (fun v => by kernel_rfl) (fun w => by kernel_rfl),
          owes_build 15 (some 99) [13] (.agg (arr8 32 hfour)) 24 #[(0, Go.Operand.const (Go.Value.int Go.IntKind.u8 4))] (#[(0, Go.Value.int Go.IntKind.u8 4)]) (fun v => by kernel_rfl) (fun v => by kernel_rfl) (fun w => by kernel_rfl),
          owes_call 16 (some 100) [13, 14, 15] (.nilIface) 17 #[Go.Operand.tmp 98, Go.Operand.tmp 99, Go.Operand.const (Go.Value.int Go.IntKind.i64 0), Go.Operand.const (Go.Value.int Go.IntKind.i64 1), Go.Operand.const (Go.Value.slice none 0 0)] #[24, 24, 3, 3, 26] (fun v => by kernel_rfl) (fun _ _ => by kernel_rfl) (fun v w' hb ho => by
              exact ⟨#[.agg (arr8 32 hfour), .agg (arr8 32 hfour), Go.Value.int Go.IntKind.i64 0, Go.Value.int Go.IntKind.i64 1, Go.Value.slice none 0 0], by kernel_rfl, (HC0 w' hb).mono (fun _ _ h => h)⟩),
          owes_bin 17 (some 101) [13, 16] (.bool true) Go.BinOp.eql 33 (Go.Operand.tmp 100) (Go.Operand.const Go.Value.nilIface) 33 (.nilIface) (Go.Value.nilIface) (fun v => by kernel_rfl) (fun v => by kernel_rfl) (fun w => by kernel_rfl),
          owes_pick 18 (some 102) [13, 17] (.bool true) (Go.Operand.tmp 97) (Go.Operand.tmp 101) (Go.Operand.const (Go.Value.bool false)) true (fun v => by kernel_rfl) (fun v => by kernel_rfl) (fun v => by kernel_rfl),
          owes_move 19 (some 103) [18] (.bool true) (Go.Operand.tmp 102) (fun v => by kernel_rfl) (fun v => by kernel_rfl),
          owes_build 20 (some 104) [19] (.agg (arr8 32 hfour)) 24 #[(0, Go.Operand.const (Go.Value.int Go.IntKind.u8 4))] (#[(0, Go.Value.int Go.IntKind.u8 4)]) (fun v => by kernel_rfl) (fun v => by kernel_rfl) (fun w => by kernel_rfl),
          owes_build 21 (some 105) [19] (.agg (arr8 32 five)) 24 #[(0, Go.Operand.const (Go.Value.int Go.IntKind.u8 5))] (#[(0, Go.Value.int Go.IntKind.u8 5)]) (fun v => by kernel_rfl) (fun v => by kernel_rfl) (fun w => by kernel_rfl),
          owes_call 22 (some 106) [19, 20, 21] (errV (E 12)) 17 #[Go.Operand.tmp 104, Go.Operand.tmp 105, Go.Operand.const (Go.Value.int Go.IntKind.i64 0), Go.Operand.const (Go.Value.int Go.IntKind.i64 1), Go.Operand.const (Go.Value.slice none 0 0)] #[24, 24, 3, 3, 26] (fun v => by kernel_rfl) (fun _ _ => by kernel_rfl) (fun v w' hb ho => by
              exact ⟨#[.agg (arr8 32 hfour), .agg (arr8 32 five), Go.Value.int Go.IntKind.i64 0, Go.Value.int Go.IntKind.i64 1, Go.Value.slice none 0 0], by kernel_rfl, (HC1 w' hb).mono (fun _ _ h => h)⟩),
          owes_call 23 (some 107) [19, 22] (.bool true) 13 #[Go.Operand.tmp 106, Go.Operand.const (Go.Value.int Go.IntKind.i64 113)] #[33, 3] (fun v => by kernel_rfl) (fun _ _ => by kernel_rfl) (fun v w' hb ho => by
              exact ⟨#[errV (E 12), Go.Value.int Go.IntKind.i64 113], by kernel_rfl, (is_any E (errV (E 12)) 113 113 (.inr ⟨12, by decide, rfl, rfl⟩) w' (hE.below hb)).mono (fun _ _ h => h)⟩),
          owes_pick 24 (some 108) [19, 23] (.bool true) (Go.Operand.tmp 103) (Go.Operand.tmp 107) (Go.Operand.const (Go.Value.bool false)) true (fun v => by kernel_rfl) (fun v => by kernel_rfl) (fun v => by kernel_rfl),
          owes_assign 25 (some 6) [24] (.bool true) (Go.Operand.tmp 108) (fun v => by kernel_rfl) (fun v => by kernel_rfl), trivial⟩ ?_
        intro v w' hb' hall
        clear hall
        have hbb := below_tr hbW hb'
        clear hb' hbW HC0 HC1
        simp only [putsL_k, putsL_nil, List.set_cons_zero, List.set_cons_succ]
        go_wp2_with fail
        go_ret
        exact ⟨rfl, hbb⟩
      · go_wp2_with (refine wpList_build_as rfl 24 #[] rfl (arr8 32 zz) (by kernel_rfl) ?_)
        refine (hup _ _ (by omega)).mono ?_
        rintro e W6 ⟨rfl, hb6⟩
        clear hup
        have hbW := below_tr hbw hb6
        replace hE := hE0.below hbW
        replace hk := hk0.below hbW
        clear hb6 hbw
        have HC0 : ∀ w', Below W6.heap.size W6 w' → Calls Tryd.prog 17 #[.agg (arr8 32 hfour), .agg (arr8 32 hfour), .int .i64 0, .int .i64 1, .slice none 0 0] w' fun e w'' => e = .returned .nilIface ∧ Below w'.heap.size w' w'' := fun w' hb => by
          have h := check_all E hfour hfour 0 1 [] none 0 w' (hE.below hb) (SlRead.nil_) (hk.below hb)
          rwa [check_four] at h
        have HC1 : ∀ w', Below W6.heap.size W6 w' → Calls Tryd.prog 17 #[.agg (arr8 32 hfour), .agg (arr8 32 five), .int .i64 0, .int .i64 1, .slice none 0 0] w' fun e w'' => e = .returned (errV (E 12)) ∧ Below w'.heap.size w' w'' := fun w' hb => by
          have h := check_all E hfour five 0 1 [] none 0 w' (hE.below hb) (SlRead.nil_) (hk.below hb)
          rwa [check_five] at h
        go_upto_region 22 with (fail)
        refine wp_region_text [Sp.k 0 (some 84) [] (.bool true),
          Sp.k 1 (some 85) [0] (.bool true),
          Sp.k 2 (some 86) [1] (errV (E 1)),
          Sp.k 3 (some 87) [1, 2] (.bool true),
          Sp.k 4 (some 88) [1, 3] (.bool true),
          Sp.k 5 (some 89) [4] (.bool true),
          Sp.k 6 (some 90) [5] (errV (E 1)),
          Sp.k 7 (some 91) [5, 6] (.bool true),
          Sp.k 8 (some 92) [5, 7] (.bool true),
          Sp.k 9 (some 93) [8] (.bool true),
          Sp.k 10 (some 94) [9] (errV (E 1)),
          Sp.k 11 (some 95) [9, 10] (.bool true),
          Sp.k 12 (some 96) [9, 11] (.bool true),
          Sp.k 13 (some 97) [12] (.bool true),
          Sp.k 14 (some 98) [13] (.agg (arr8 32 hfour)),
          Sp.k 15 (some 99) [13] (.agg (arr8 32 hfour)),
          Sp.k 16 (some 100) [13, 14, 15] (.nilIface),
          Sp.k 17 (some 101) [13, 16] (.bool true),
          Sp.k 18 (some 102) [13, 17] (.bool true),
          Sp.k 19 (some 103) [18] (.bool true),
          Sp.k 20 (some 104) [19] (.agg (arr8 32 hfour)),
          Sp.k 21 (some 105) [19] (.agg (arr8 32 five)),
          Sp.k 22 (some 106) [19, 20, 21] (errV (E 12)),
          Sp.k 23 (some 107) [19, 22] (.bool true),
          Sp.k 24 (some 108) [19, 23] (.bool true),
          Sp.k 25 (some 6) [24] (.bool true)] (by kernel_rfl)
          ⟨owes_move 0 (some 84) [] (.bool true) (Go.Operand.tmp 7) (fun v => by kernel_rfl) (fun v => by kernel_rfl),
          owes_move 1 (some 85) [0] (.bool true) (Go.Operand.tmp 84) (fun v => by kernel_rfl) (fun v => by kernel_rfl),
          owes_move 2 (some 86) [1] (errV (E 1)) (Go.Operand.tmp 11) (fun v => by kernel_rfl) (fun v => by kernel_rfl),
          owes_call 3 (some 87) [1, 2] (.bool true) 13 #[Go.Operand.tmp 86, Go.Operand.const (Go.Value.int Go.IntKind.i64 102)] #[33, 3] (fun v => by kernel_rfl) (fun _ _ => by kernel_rfl) (fun v w' hb ho => by
              exact ⟨#[errV (E 1), Go.Value.int Go.IntKind.i64 102], by kernel_rfl, (is_any E (errV (E 1)) 102 102 (.inr ⟨1, by decide, rfl, rfl⟩) w' (hE.below hb)).mono (fun _ _ h => h)⟩),
          owes_pick 4 (some 88) [1, 3] (.bool true) (Go.Operand.tmp 85) (Go.Operand.tmp 87) (Go.Operand.const (Go.Value.bool false)) true (fun v => by kernel_rfl) (fun v => by kernel_rfl) (fun v => by kernel_rfl),
          owes_move 5 (some 89) [4] (.bool true) (Go.Operand.tmp 88) (fun v => by kernel_rfl) (fun v => by kernel_rfl),
          owes_move 6 (some 90) [5] (errV (E 1)) (Go.Operand.tmp 13) (fun v => by kernel_rfl) (fun v => by kernel_rfl),
          owes_call 7 (some 91) [5, 6] (.bool true) 13 #[Go.Operand.tmp 90, Go.Operand.const (Go.Value.int Go.IntKind.i64 102)] #[33, 3] (fun v => by kernel_rfl) (fun _ _ => by kernel_rfl) (fun v w' hb ho => by
              exact ⟨#[errV (E 1), Go.Value.int Go.IntKind.i64 102], by kernel_rfl, (is_any E (errV (E 1)) 102 102 (.inr ⟨1, by decide, rfl, rfl⟩) w' (hE.below hb)).mono (fun _ _ h => h)⟩),
          owes_pick 8 (some 92) [5, 7] (.bool true) (Go.Operand.tmp 89) (Go.Operand.tmp 91) (Go.Operand.const (Go.Value.bool false)) true (fun v => by kernel_rfl) (fun v => by kernel_rfl) (fun v => by kernel_rfl),
          owes_move 9 (some 93) [8] (.bool true) (Go.Operand.tmp 92) (fun v => by kernel_rfl) (fun v => by kernel_rfl),
          owes_move 10 (some 94) [9] (errV (E 1)) (Go.Operand.tmp 14) (fun v => by kernel_rfl) (fun v => by kernel_rfl),
          owes_call 11 (some 95) [9, 10] (.bool true) 13 #[Go.Operand.tmp 94, Go.Operand.const (Go.Value.int Go.IntKind.i64 102)] #[33, 3] (fun v => by kernel_rfl) (fun _ _ => by kernel_rfl) (fun v w' hb ho => by
              exact ⟨#[errV (E 1), Go.Value.int Go.IntKind.i64 102], by kernel_rfl, (is_any E (errV (E 1)) 102 102 (.inr ⟨1, by decide, rfl, rfl⟩) w' (hE.below hb)).mono (fun _ _ h => h)⟩),
          owes_pick 12 (some 96) [9, 11] (.bool true) (Go.Operand.tmp 93) (Go.Operand.tmp 95) (Go.Operand.const (Go.Value.bool false)) true (fun v => by kernel_rfl) (fun v => by kernel_rfl) (fun v => by kernel_rfl),
          owes_move 13 (some 97) [12] (.bool true) (Go.Operand.tmp 96) (fun v => by kernel_rfl) (fun v => by kernel_rfl),
          owes_build 14 (some 98) [13] (.agg (arr8 32 hfour)) 24 #[(0, Go.Operand.const (Go.Value.int Go.IntKind.u8 4))] (#[(0, Go.Value.int Go.IntKind.u8 4)]) (fun v => by kernel_rfl) (fun v => by kernel_rfl) (fun w => by kernel_rfl),
          owes_build 15 (some 99) [13] (.agg (arr8 32 hfour)) 24 #[(0, Go.Operand.const (Go.Value.int Go.IntKind.u8 4))] (#[(0, Go.Value.int Go.IntKind.u8 4)]) (fun v => by kernel_rfl) (fun v => by kernel_rfl) (fun w => by kernel_rfl),
          owes_call 16 (some 100) [13, 14, 15] (.nilIface) 17 #[Go.Operand.tmp 98, Go.Operand.tmp 99, Go.Operand.const (Go.Value.int Go.IntKind.i64 0), Go.Operand.const (Go.Value.int Go.IntKind.i64 1), Go.Operand.const (Go.Value.slice none 0 0)] #[24, 24, 3, 3, 26] (fun v => by kernel_rfl) (fun _ _ => by kernel_rfl) (fun v w' hb ho => by
              exact ⟨#[.agg (arr8 32 hfour), .agg (arr8 32 hfour), Go.Value.int Go.IntKind.i64 0, Go.Value.int Go.IntKind.i64 1, Go.Value.slice none 0 0], by kernel_rfl, (HC0 w' hb).mono (fun _ _ h => h)⟩),
          owes_bin 17 (some 101) [13, 16] (.bool true) Go.BinOp.eql 33 (Go.Operand.tmp 100) (Go.Operand.const Go.Value.nilIface) 33 (.nilIface) (Go.Value.nilIface) (fun v => by kernel_rfl) (fun v => by kernel_rfl) (fun w => by kernel_rfl),
          owes_pick 18 (some 102) [13, 17] (.bool true) (Go.Operand.tmp 97) (Go.Operand.tmp 101) (Go.Operand.const (Go.Value.bool false)) true (fun v => by kernel_rfl) (fun v => by kernel_rfl) (fun v => by kernel_rfl),
          owes_move 19 (some 103) [18] (.bool true) (Go.Operand.tmp 102) (fun v => by kernel_rfl) (fun v => by kernel_rfl),
          owes_build 20 (some 104) [19] (.agg (arr8 32 hfour)) 24 #[(0, Go.Operand.const (Go.Value.int Go.IntKind.u8 4))] (#[(0, Go.Value.int Go.IntKind.u8 4)]) (fun v => by kernel_rfl) (fun v => by kernel_rfl) (fun w => by kernel_rfl),
          owes_build 21 (some 105) [19] (.agg (arr8 32 five)) 24 #[(0, Go.Operand.const (Go.Value.int Go.IntKind.u8 5))] (#[(0, Go.Value.int Go.IntKind.u8 5)]) (fun v => by kernel_rfl) (fun v => by kernel_rfl) (fun w => by kernel_rfl),
          owes_call 22 (some 106) [19, 20, 21] (errV (E 12)) 17 #[Go.Operand.tmp 104, Go.Operand.tmp 105, Go.Operand.const (Go.Value.int Go.IntKind.i64 0), Go.Operand.const (Go.Value.int Go.IntKind.i64 1), Go.Operand.const (Go.Value.slice none 0 0)] #[24, 24, 3, 3, 26] (fun v => by kernel_rfl) (fun _ _ => by kernel_rfl) (fun v w' hb ho => by
              exact ⟨#[.agg (arr8 32 hfour), .agg (arr8 32 five), Go.Value.int Go.IntKind.i64 0, Go.Value.int Go.IntKind.i64 1, Go.Value.slice none 0 0], by kernel_rfl, (HC1 w' hb).mono (fun _ _ h => h)⟩),
          owes_call 23 (some 107) [19, 22] (.bool true) 13 #[Go.Operand.tmp 106, Go.Operand.const (Go.Value.int Go.IntKind.i64 113)] #[33, 3] (fun v => by kernel_rfl) (fun _ _ => by kernel_rfl) (fun v w' hb ho => by
              exact ⟨#[errV (E 12), Go.Value.int Go.IntKind.i64 113], by kernel_rfl, (is_any E (errV (E 12)) 113 113 (.inr ⟨12, by decide, rfl, rfl⟩) w' (hE.below hb)).mono (fun _ _ h => h)⟩),
          owes_pick 24 (some 108) [19, 23] (.bool true) (Go.Operand.tmp 103) (Go.Operand.tmp 107) (Go.Operand.const (Go.Value.bool false)) true (fun v => by kernel_rfl) (fun v => by kernel_rfl) (fun v => by kernel_rfl),
          owes_assign 25 (some 6) [24] (.bool true) (Go.Operand.tmp 108) (fun v => by kernel_rfl) (fun v => by kernel_rfl), trivial⟩ ?_
        intro v w' hb' hall
        clear hall
        have hbb := below_tr hbW hb'
        clear hb' hbW HC0 HC1
        simp only [putsL_k, putsL_nil, List.set_cons_zero, List.set_cons_succ]
        go_wp2_with fail
        go_ret
        exact ⟨rfl, hbb⟩
      · go_wp2_with (refine wpList_build_as rfl 24 #[] rfl (arr8 32 zz) (by kernel_rfl) ?_)
        refine (hup _ _ (by omega)).mono ?_
        rintro e W6 ⟨rfl, hb6⟩
        clear hup
        have hbW := below_tr hbw hb6
        replace hE := hE0.below hbW
        replace hk := hk0.below hbW
        clear hb6 hbw
        have HC0 : ∀ w', Below W6.heap.size W6 w' → Calls Tryd.prog 17 #[.agg (arr8 32 hfour), .agg (arr8 32 hfour), .int .i64 0, .int .i64 1, .slice none 0 0] w' fun e w'' => e = .returned .nilIface ∧ Below w'.heap.size w' w'' := fun w' hb => by
          have h := check_all E hfour hfour 0 1 [] none 0 w' (hE.below hb) (SlRead.nil_) (hk.below hb)
          rwa [check_four] at h
        have HC1 : ∀ w', Below W6.heap.size W6 w' → Calls Tryd.prog 17 #[.agg (arr8 32 hfour), .agg (arr8 32 five), .int .i64 0, .int .i64 1, .slice none 0 0] w' fun e w'' => e = .returned (errV (E 12)) ∧ Below w'.heap.size w' w'' := fun w' hb => by
          have h := check_all E hfour five 0 1 [] none 0 w' (hE.below hb) (SlRead.nil_) (hk.below hb)
          rwa [check_five] at h
        go_upto_region 22 with (fail)
        refine wp_region_text [Sp.k 0 (some 84) [] (.bool true),
          Sp.k 1 (some 85) [0] (.bool true),
          Sp.k 2 (some 86) [1] (errV (E 1)),
          Sp.k 3 (some 87) [1, 2] (.bool true),
          Sp.k 4 (some 88) [1, 3] (.bool true),
          Sp.k 5 (some 89) [4] (.bool true),
          Sp.k 6 (some 90) [5] (errV (E 1)),
          Sp.k 7 (some 91) [5, 6] (.bool true),
          Sp.k 8 (some 92) [5, 7] (.bool true),
          Sp.k 9 (some 93) [8] (.bool true),
          Sp.k 10 (some 94) [9] (errV (E 1)),
          Sp.k 11 (some 95) [9, 10] (.bool true),
          Sp.k 12 (some 96) [9, 11] (.bool true),
          Sp.k 13 (some 97) [12] (.bool true),
          Sp.k 14 (some 98) [13] (.agg (arr8 32 hfour)),
          Sp.k 15 (some 99) [13] (.agg (arr8 32 hfour)),
          Sp.k 16 (some 100) [13, 14, 15] (.nilIface),
          Sp.k 17 (some 101) [13, 16] (.bool true),
          Sp.k 18 (some 102) [13, 17] (.bool true),
          Sp.k 19 (some 103) [18] (.bool true),
          Sp.k 20 (some 104) [19] (.agg (arr8 32 hfour)),
          Sp.k 21 (some 105) [19] (.agg (arr8 32 five)),
          Sp.k 22 (some 106) [19, 20, 21] (errV (E 12)),
          Sp.k 23 (some 107) [19, 22] (.bool true),
          Sp.k 24 (some 108) [19, 23] (.bool true),
          Sp.k 25 (some 6) [24] (.bool true)] (by kernel_rfl)
          ⟨owes_move 0 (some 84) [] (.bool true) (Go.Operand.tmp 7) (fun v => by kernel_rfl) (fun v => by kernel_rfl),
          owes_move 1 (some 85) [0] (.bool true) (Go.Operand.tmp 84) (fun v => by kernel_rfl) (fun v => by kernel_rfl),
          owes_move 2 (some 86) [1] (errV (E 1)) (Go.Operand.tmp 11) (fun v => by kernel_rfl) (fun v => by kernel_rfl),
          owes_call 3 (some 87) [1, 2] (.bool true) 13 #[Go.Operand.tmp 86, Go.Operand.const (Go.Value.int Go.IntKind.i64 102)] #[33, 3] (fun v => by kernel_rfl) (fun _ _ => by kernel_rfl) (fun v w' hb ho => by
              exact ⟨#[errV (E 1), Go.Value.int Go.IntKind.i64 102], by kernel_rfl, (is_any E (errV (E 1)) 102 102 (.inr ⟨1, by decide, rfl, rfl⟩) w' (hE.below hb)).mono (fun _ _ h => h)⟩),
          owes_pick 4 (some 88) [1, 3] (.bool true) (Go.Operand.tmp 85) (Go.Operand.tmp 87) (Go.Operand.const (Go.Value.bool false)) true (fun v => by kernel_rfl) (fun v => by kernel_rfl) (fun v => by kernel_rfl),
          owes_move 5 (some 89) [4] (.bool true) (Go.Operand.tmp 88) (fun v => by kernel_rfl) (fun v => by kernel_rfl),
          owes_move 6 (some 90) [5] (errV (E 1)) (Go.Operand.tmp 13) (fun v => by kernel_rfl) (fun v => by kernel_rfl),
          owes_call 7 (some 91) [5, 6] (.bool true) 13 #[Go.Operand.tmp 90, Go.Operand.const (Go.Value.int Go.IntKind.i64 102)] #[33, 3] (fun v => by kernel_rfl) (fun _ _ => by kernel_rfl) (fun v w' hb ho => by
              exact ⟨#[errV (E 1), Go.Value.int Go.IntKind.i64 102], by kernel_rfl, (is_any E (errV (E 1)) 102 102 (.inr ⟨1, by decide, rfl, rfl⟩) w' (hE.below hb)).mono (fun _ _ h => h)⟩),
          owes_pick 8 (some 92) [5, 7] (.bool true) (Go.Operand.tmp 89) (Go.Operand.tmp 91) (Go.Operand.const (Go.Value.bool false)) true (fun v => by kernel_rfl) (fun v => by kernel_rfl) (fun v => by kernel_rfl),
          owes_move 9 (some 93) [8] (.bool true) (Go.Operand.tmp 92) (fun v => by kernel_rfl) (fun v => by kernel_rfl),
          owes_move 10 (some 94) [9] (errV (E 1)) (Go.Operand.tmp 14) (fun v => by kernel_rfl) (fun v => by kernel_rfl),
          owes_call 11 (some 95) [9, 10] (.bool true) 13 #[Go.Operand.tmp 94, Go.Operand.const (Go.Value.int Go.IntKind.i64 102)] #[33, 3] (fun v => by kernel_rfl) (fun _ _ => by kernel_rfl) (fun v w' hb ho => by
              exact ⟨#[errV (E 1), Go.Value.int Go.IntKind.i64 102], by kernel_rfl, (is_any E (errV (E 1)) 102 102 (.inr ⟨1, by decide, rfl, rfl⟩) w' (hE.below hb)).mono (fun _ _ h => h)⟩),
          owes_pick 12 (some 96) [9, 11] (.bool true) (Go.Operand.tmp 93) (Go.Operand.tmp 95) (Go.Operand.const (Go.Value.bool false)) true (fun v => by kernel_rfl) (fun v => by kernel_rfl) (fun v => by kernel_rfl),
          owes_move 13 (some 97) [12] (.bool true) (Go.Operand.tmp 96) (fun v => by kernel_rfl) (fun v => by kernel_rfl),
          owes_build 14 (some 98) [13] (.agg (arr8 32 hfour)) 24 #[(0, Go.Operand.const (Go.Value.int Go.IntKind.u8 4))] (#[(0, Go.Value.int Go.IntKind.u8 4)]) (fun v => by kernel_rfl) (fun v => by kernel_rfl) (fun w => by kernel_rfl),
          owes_build 15 (some 99) [13] (.agg (arr8 32 hfour)) 24 #[(0, Go.Operand.const (Go.Value.int Go.IntKind.u8 4))] (#[(0, Go.Value.int Go.IntKind.u8 4)]) (fun v => by kernel_rfl) (fun v => by kernel_rfl) (fun w => by kernel_rfl),
          owes_call 16 (some 100) [13, 14, 15] (.nilIface) 17 #[Go.Operand.tmp 98, Go.Operand.tmp 99, Go.Operand.const (Go.Value.int Go.IntKind.i64 0), Go.Operand.const (Go.Value.int Go.IntKind.i64 1), Go.Operand.const (Go.Value.slice none 0 0)] #[24, 24, 3, 3, 26] (fun v => by kernel_rfl) (fun _ _ => by kernel_rfl) (fun v w' hb ho => by
              exact ⟨#[.agg (arr8 32 hfour), .agg (arr8 32 hfour), Go.Value.int Go.IntKind.i64 0, Go.Value.int Go.IntKind.i64 1, Go.Value.slice none 0 0], by kernel_rfl, (HC0 w' hb).mono (fun _ _ h => h)⟩),
          owes_bin 17 (some 101) [13, 16] (.bool true) Go.BinOp.eql 33 (Go.Operand.tmp 100) (Go.Operand.const Go.Value.nilIface) 33 (.nilIface) (Go.Value.nilIface) (fun v => by kernel_rfl) (fun v => by kernel_rfl) (fun w => by kernel_rfl),
          owes_pick 18 (some 102) [13, 17] (.bool true) (Go.Operand.tmp 97) (Go.Operand.tmp 101) (Go.Operand.const (Go.Value.bool false)) true (fun v => by kernel_rfl) (fun v => by kernel_rfl) (fun v => by kernel_rfl),
          owes_move 19 (some 103) [18] (.bool true) (Go.Operand.tmp 102) (fun v => by kernel_rfl) (fun v => by kernel_rfl),
          owes_build 20 (some 104) [19] (.agg (arr8 32 hfour)) 24 #[(0, Go.Operand.const (Go.Value.int Go.IntKind.u8 4))] (#[(0, Go.Value.int Go.IntKind.u8 4)]) (fun v => by kernel_rfl) (fun v => by kernel_rfl) (fun w => by kernel_rfl),
          owes_build 21 (some 105) [19] (.agg (arr8 32 five)) 24 #[(0, Go.Operand.const (Go.Value.int Go.IntKind.u8 5))] (#[(0, Go.Value.int Go.IntKind.u8 5)]) (fun v => by kernel_rfl) (fun v => by kernel_rfl) (fun w => by kernel_rfl),
          owes_call 22 (some 106) [19, 20, 21] (errV (E 12)) 17 #[Go.Operand.tmp 104, Go.Operand.tmp 105, Go.Operand.const (Go.Value.int Go.IntKind.i64 0), Go.Operand.const (Go.Value.int Go.IntKind.i64 1), Go.Operand.const (Go.Value.slice none 0 0)] #[24, 24, 3, 3, 26] (fun v => by kernel_rfl) (fun _ _ => by kernel_rfl) (fun v w' hb ho => by
              exact ⟨#[.agg (arr8 32 hfour), .agg (arr8 32 five), Go.Value.int Go.IntKind.i64 0, Go.Value.int Go.IntKind.i64 1, Go.Value.slice none 0 0], by kernel_rfl, (HC1 w' hb).mono (fun _ _ h => h)⟩),
          owes_call 23 (some 107) [19, 22] (.bool true) 13 #[Go.Operand.tmp 106, Go.Operand.const (Go.Value.int Go.IntKind.i64 113)] #[33, 3] (fun v => by kernel_rfl) (fun _ _ => by kernel_rfl) (fun v w' hb ho => by
              exact ⟨#[errV (E 12), Go.Value.int Go.IntKind.i64 113], by kernel_rfl, (is_any E (errV (E 12)) 113 113 (.inr ⟨12, by decide, rfl, rfl⟩) w' (hE.below hb)).mono (fun _ _ h => h)⟩),
          owes_pick 24 (some 108) [19, 23] (.bool true) (Go.Operand.tmp 103) (Go.Operand.tmp 107) (Go.Operand.const (Go.Value.bool false)) true (fun v => by kernel_rfl) (fun v => by kernel_rfl) (fun v => by kernel_rfl),
          owes_assign 25 (some 6) [24] (.bool true) (Go.Operand.tmp 108) (fun v => by kernel_rfl) (fun v => by kernel_rfl), trivial⟩ ?_
        intro v w' hb' hall
        clear hall
        have hbb := below_tr hbW hb'
        clear hb' hbW HC0 HC1
        simp only [putsL_k, putsL_nil, List.set_cons_zero, List.set_cons_succ]
        go_wp2_with fail
        go_ret
        exact ⟨rfl, hbb⟩
      · clear hup
        have hck := check_all E zz zz 0 (-(ff : Int)) [] none 0 W5 hE SlRead.nil_ hk
        rw [check_neg] at hck
        go_wp2_with (refine wpList_build_as rfl 24 #[] rfl (arr8 32 zz) (by kernel_rfl) ?_)
        refine hck.mono ?_
        rintro e W6 ⟨rfl, hb6⟩
        clear hck
        rw [show errOf E 102 = errV (E 1) from rfl]
        have hbW := below_tr hbw hb6
        replace hE := hE0.below hbW
        replace hk := hk0.below hbW
        clear hb6 hbw
        have HC0 : ∀ w', Below W6.heap.size W6 w' → Calls Tryd.prog 17 #[.agg (arr8 32 hfour), .agg (arr8 32 hfour), .int .i64 0, .int .i64 1, .slice none 0 0] w' fun e w'' => e = .returned .nilIface ∧ Below w'.heap.size w' w'' := fun w' hb => by
          have h := check_all E hfour hfour 0 1 [] none 0 w' (hE.below hb) (SlRead.nil_) (hk.below hb)
          rwa [check_four] at h
        have HC1 : ∀ w', Below W6.heap.size W6 w' → Calls Tryd.prog 17 #[.agg (arr8 32 hfour), .agg (arr8 32 five), .int .i64 0, .int .i64 1, .slice none 0 0] w' fun e w'' => e = .returned (errV (E 12)) ∧ Below w'.heap.size w' w'' := fun w' hb => by
          have h := check_all E hfour five 0 1 [] none 0 w' (hE.below hb) (SlRead.nil_) (hk.below hb)
          rwa [check_five] at h
        go_upto_region 22 with (fail)
        refine wp_region_text [Sp.k 0 (some 84) [] (.bool true),
          Sp.k 1 (some 85) [0] (.bool true),
          Sp.k 2 (some 86) [1] (errV (E 1)),
          Sp.k 3 (some 87) [1, 2] (.bool true),
          Sp.k 4 (some 88) [1, 3] (.bool true),
          Sp.k 5 (some 89) [4] (.bool true),
          Sp.k 6 (some 90) [5] (errV (E 1)),
          Sp.k 7 (some 91) [5, 6] (.bool true),
          Sp.k 8 (some 92) [5, 7] (.bool true),
          Sp.k 9 (some 93) [8] (.bool true),
          Sp.k 10 (some 94) [9] (errV (E 1)),
          Sp.k 11 (some 95) [9, 10] (.bool true),
          Sp.k 12 (some 96) [9, 11] (.bool true),
          Sp.k 13 (some 97) [12] (.bool true),
          Sp.k 14 (some 98) [13] (.agg (arr8 32 hfour)),
          Sp.k 15 (some 99) [13] (.agg (arr8 32 hfour)),
          Sp.k 16 (some 100) [13, 14, 15] (.nilIface),
          Sp.k 17 (some 101) [13, 16] (.bool true),
          Sp.k 18 (some 102) [13, 17] (.bool true),
          Sp.k 19 (some 103) [18] (.bool true),
          Sp.k 20 (some 104) [19] (.agg (arr8 32 hfour)),
          Sp.k 21 (some 105) [19] (.agg (arr8 32 five)),
          Sp.k 22 (some 106) [19, 20, 21] (errV (E 12)),
          Sp.k 23 (some 107) [19, 22] (.bool true),
          Sp.k 24 (some 108) [19, 23] (.bool true),
          Sp.k 25 (some 6) [24] (.bool true)] (by kernel_rfl)
          ⟨owes_move 0 (some 84) [] (.bool true) (Go.Operand.tmp 7) (fun v => by kernel_rfl) (fun v => by kernel_rfl),
          owes_move 1 (some 85) [0] (.bool true) (Go.Operand.tmp 84) (fun v => by kernel_rfl) (fun v => by kernel_rfl),
          owes_move 2 (some 86) [1] (errV (E 1)) (Go.Operand.tmp 11) (fun v => by kernel_rfl) (fun v => by kernel_rfl),
          owes_call 3 (some 87) [1, 2] (.bool true) 13 #[Go.Operand.tmp 86, Go.Operand.const (Go.Value.int Go.IntKind.i64 102)] #[33, 3] (fun v => by kernel_rfl) (fun _ _ => by kernel_rfl) (fun v w' hb ho => by
              exact ⟨#[errV (E 1), Go.Value.int Go.IntKind.i64 102], by kernel_rfl, (is_any E (errV (E 1)) 102 102 (.inr ⟨1, by decide, rfl, rfl⟩) w' (hE.below hb)).mono (fun _ _ h => h)⟩),
          owes_pick 4 (some 88) [1, 3] (.bool true) (Go.Operand.tmp 85) (Go.Operand.tmp 87) (Go.Operand.const (Go.Value.bool false)) true (fun v => by kernel_rfl) (fun v => by kernel_rfl) (fun v => by kernel_rfl),
          owes_move 5 (some 89) [4] (.bool true) (Go.Operand.tmp 88) (fun v => by kernel_rfl) (fun v => by kernel_rfl),
          owes_move 6 (some 90) [5] (errV (E 1)) (Go.Operand.tmp 13) (fun v => by kernel_rfl) (fun v => by kernel_rfl),
          owes_call 7 (some 91) [5, 6] (.bool true) 13 #[Go.Operand.tmp 90, Go.Operand.const (Go.Value.int Go.IntKind.i64 102)] #[33, 3] (fun v => by kernel_rfl) (fun _ _ => by kernel_rfl) (fun v w' hb ho => by
              exact ⟨#[errV (E 1), Go.Value.int Go.IntKind.i64 102], by kernel_rfl, (is_any E (errV (E 1)) 102 102 (.inr ⟨1, by decide, rfl, rfl⟩) w' (hE.below hb)).mono (fun _ _ h => h)⟩),
          owes_pick 8 (some 92) [5, 7] (.bool true) (Go.Operand.tmp 89) (Go.Operand.tmp 91) (Go.Operand.const (Go.Value.bool false)) true (fun v => by kernel_rfl) (fun v => by kernel_rfl) (fun v => by kernel_rfl),
          owes_move 9 (some 93) [8] (.bool true) (Go.Operand.tmp 92) (fun v => by kernel_rfl) (fun v => by kernel_rfl),
          owes_move 10 (some 94) [9] (errV (E 1)) (Go.Operand.tmp 14) (fun v => by kernel_rfl) (fun v => by kernel_rfl),
          owes_call 11 (some 95) [9, 10] (.bool true) 13 #[Go.Operand.tmp 94, Go.Operand.const (Go.Value.int Go.IntKind.i64 102)] #[33, 3] (fun v => by kernel_rfl) (fun _ _ => by kernel_rfl) (fun v w' hb ho => by
              exact ⟨#[errV (E 1), Go.Value.int Go.IntKind.i64 102], by kernel_rfl, (is_any E (errV (E 1)) 102 102 (.inr ⟨1, by decide, rfl, rfl⟩) w' (hE.below hb)).mono (fun _ _ h => h)⟩),
          owes_pick 12 (some 96) [9, 11] (.bool true) (Go.Operand.tmp 93) (Go.Operand.tmp 95) (Go.Operand.const (Go.Value.bool false)) true (fun v => by kernel_rfl) (fun v => by kernel_rfl) (fun v => by kernel_rfl),
          owes_move 13 (some 97) [12] (.bool true) (Go.Operand.tmp 96) (fun v => by kernel_rfl) (fun v => by kernel_rfl),
          owes_build 14 (some 98) [13] (.agg (arr8 32 hfour)) 24 #[(0, Go.Operand.const (Go.Value.int Go.IntKind.u8 4))] (#[(0, Go.Value.int Go.IntKind.u8 4)]) (fun v => by kernel_rfl) (fun v => by kernel_rfl) (fun w => by kernel_rfl),
          owes_build 15 (some 99) [13] (.agg (arr8 32 hfour)) 24 #[(0, Go.Operand.const (Go.Value.int Go.IntKind.u8 4))] (#[(0, Go.Value.int Go.IntKind.u8 4)]) (fun v => by kernel_rfl) (fun v => by kernel_rfl) (fun w => by kernel_rfl),
          owes_call 16 (some 100) [13, 14, 15] (.nilIface) 17 #[Go.Operand.tmp 98, Go.Operand.tmp 99, Go.Operand.const (Go.Value.int Go.IntKind.i64 0), Go.Operand.const (Go.Value.int Go.IntKind.i64 1), Go.Operand.const (Go.Value.slice none 0 0)] #[24, 24, 3, 3, 26] (fun v => by kernel_rfl) (fun _ _ => by kernel_rfl) (fun v w' hb ho => by
              exact ⟨#[.agg (arr8 32 hfour), .agg (arr8 32 hfour), Go.Value.int Go.IntKind.i64 0, Go.Value.int Go.IntKind.i64 1, Go.Value.slice none 0 0], by kernel_rfl, (HC0 w' hb).mono (fun _ _ h => h)⟩),
          owes_bin 17 (some 101) [13, 16] (.bool true) Go.BinOp.eql 33 (Go.Operand.tmp 100) (Go.Operand.const Go.Value.nilIface) 33 (.nilIface) (Go.Value.nilIface) (fun v => by kernel_rfl) (fun v => by kernel_rfl) (fun w => by kernel_rfl),
          owes_pick 18 (some 102) [13, 17] (.bool true) (Go.Operand.tmp 97) (Go.Operand.tmp 101) (Go.Operand.const (Go.Value.bool false)) true (fun v => by kernel_rfl) (fun v => by kernel_rfl) (fun v => by kernel_rfl),
          owes_move 19 (some 103) [18] (.bool true) (Go.Operand.tmp 102) (fun v => by kernel_rfl) (fun v => by kernel_rfl),
          owes_build 20 (some 104) [19] (.agg (arr8 32 hfour)) 24 #[(0, Go.Operand.const (Go.Value.int Go.IntKind.u8 4))] (#[(0, Go.Value.int Go.IntKind.u8 4)]) (fun v => by kernel_rfl) (fun v => by kernel_rfl) (fun w => by kernel_rfl),
          owes_build 21 (some 105) [19] (.agg (arr8 32 five)) 24 #[(0, Go.Operand.const (Go.Value.int Go.IntKind.u8 5))] (#[(0, Go.Value.int Go.IntKind.u8 5)]) (fun v => by kernel_rfl) (fun v => by kernel_rfl) (fun w => by kernel_rfl),
          owes_call 22 (some 106) [19, 20, 21] (errV (E 12)) 17 #[Go.Operand.tmp 104, Go.Operand.tmp 105, Go.Operand.const (Go.Value.int Go.IntKind.i64 0), Go.Operand.const (Go.Value.int Go.IntKind.i64 1), Go.Operand.const (Go.Value.slice none 0 0)] #[24, 24, 3, 3, 26] (fun v => by kernel_rfl) (fun _ _ => by kernel_rfl) (fun v w' hb ho => by
              exact ⟨#[.agg (arr8 32 hfour), .agg (arr8 32 five), Go.Value.int Go.IntKind.i64 0, Go.Value.int Go.IntKind.i64 1, Go.Value.slice none 0 0], by kernel_rfl, (HC1 w' hb).mono (fun _ _ h => h)⟩),
          owes_call 23 (some 107) [19, 22] (.bool true) 13 #[Go.Operand.tmp 106, Go.Operand.const (Go.Value.int Go.IntKind.i64 113)] #[33, 3] (fun v => by kernel_rfl) (fun _ _ => by kernel_rfl) (fun v w' hb ho => by
              exact ⟨#[errV (E 12), Go.Value.int Go.IntKind.i64 113], by kernel_rfl, (is_any E (errV (E 12)) 113 113 (.inr ⟨12, by decide, rfl, rfl⟩) w' (hE.below hb)).mono (fun _ _ h => h)⟩),
          owes_pick 24 (some 108) [19, 23] (.bool true) (Go.Operand.tmp 103) (Go.Operand.tmp 107) (Go.Operand.const (Go.Value.bool false)) true (fun v => by kernel_rfl) (fun v => by kernel_rfl) (fun v => by kernel_rfl),
          owes_assign 25 (some 6) [24] (.bool true) (Go.Operand.tmp 108) (fun v => by kernel_rfl) (fun v => by kernel_rfl), trivial⟩ ?_
        intro v w' hb' hall
        clear hall
        have hbb := below_tr hbW hb'
        clear hb' hbW HC0 HC1
        simp only [putsL_k, putsL_nil, List.set_cons_zero, List.set_cons_succ]
        go_wp2_with fail
        go_ret
        exact ⟨rfl, hbb⟩

end Go.Proofs.YtihnpcoiadbpiaaDoor
