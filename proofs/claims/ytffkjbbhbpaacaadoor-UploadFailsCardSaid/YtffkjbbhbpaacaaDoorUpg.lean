import Derived.Test.YtffkjbbhbpaacaaDoorUff
import Derived.Test.YtffkjbbhbpaacaaDoorUpd
/-
  UploadFails' walk.
-/
namespace Go.Proofs.YtffkjbbhbpaacaaDoor
open Go.RowKit
def cds (k : Nat) : Int := [1, 2, 3, 7, 9, 19, 20, 255].getD k 0
theorem cds_get (k : Nat) (h : k < 8) : (#[.int .i64 1, .int .i64 2, .int .i64 3, .int .i64 7, .int .i64 9, .int .i64 19, .int .i64 20, .int .i64 255] : Array Value)[k]? = some (.int .i64 (cds k)) := by
  obtain rfl | rfl | rfl | rfl | rfl | rfl | rfl | rfl : k = 0 ∨ k = 1 ∨ k = 2 ∨ k = 3 ∨ k = 4 ∨ k = 5 ∨ k = 6 ∨ k = 7 := by omega
  all_goals rfl
theorem cds_ne (k : Nat) (h : k < 8) : cds k ≠ 0 ∧ cds k ≠ 15 := by
  obtain rfl | rfl | rfl | rfl | rfl | rfl | rfl | rfl : k = 0 ∨ k = 1 ∨ k = 2 ∨ k = 3 ∨ k = 4 ∨ k = 5 ∨ k = 6 ∨ k = 7 := by omega
  all_goals decide
def wN (i : Nat) : Int := if i = 0 then 0 else delayN (i : Int)
theorem delay_up : ∀ i : Nat, i < 11 → wN i ≤ wN (i + 1) ∧ wN (i + 1) ≠ 0 := by decide
theorem rv_build0 (w : World) : (Instr.build 47 #[]).run Tryd.prog w = .ok (.agg (rv 0 0 (.slice none 0 0))) w := by kernel_rfl
theorem rv_build1 (z : Int) (w : World) : (Instr.build 47 #[(0, .int .i64 z)]).run Tryd.prog w = .ok (.agg (rv z 0 (.slice none 0 0))) w := by kernel_rfl
theorem up_build1 (w : World) : (Instr.build 31 #[(0, .int .i64 1)]).run Tryd.prog w = .ok (.agg (uv 1 0 0 0)) w := by kernel_rfl
theorem hs_build0 (w : World) : (Instr.build 37 #[]).run Tryd.prog w = .ok (.agg (arr8 32 zf)) w := by kernel_rfl
set_option maxRecDepth 100000 in
set_option maxHeartbeats 1600000 in
theorem fails_walk (E : Nat → Addr) (n code : Int) (good : Bool) (w0 : World) (hE : ErrsAt E w0) :
    Calls Tryd.prog 4 #[.int .i64 n, .int .i64 code, .bool good] w0 fun e w' => e = .returned (.bool true) ∧ Below w0.heap.size w0 w' := by
  have hfi := first_any w0
  have HE := Lib.hid hE
  clear hE
  obtain ⟨K, hK, hK8⟩ := exists_mod code 8 (by omega)
  obtain ⟨M, hM, hM11⟩ := exists_mod n 11 (by omega)
  have hnu := fun w => number_nat code 8 K w (by omega) hK
  have hnv := fun w => number_nat n 11 M w (by omega) hM
  have hKb : K < 8 := by omega
  obtain ⟨hz0, hz15⟩ := cds_ne K hKb
  have hcg := cds_get K hKb
  obtain ⟨Z, hZ⟩ : ∃ z, z = cds K := ⟨_, rfl⟩
  rw [← hZ] at hz0 hz15 hcg
  have HZ := Lib.hid (And.intro hz0 hz15)
  clear hK hM hM11 hZ hz0 hz15
  go_enter Tryd.func4, Tryd.ntmps4
  go_upto_region 4 with (go_at_call 6; refine hfi.mono ?_; rintro e w1 ⟨rfl, hb1⟩; have HB1 := Lib.hid hb1; clear hb1 hfi)
  have ck : (w1.alloc (.cells #[.int .i64 1, .int .i64 2, .int .i64 3, .int .i64 7, .int .i64 9, .int .i64 19, .int .i64 20, .int .i64 255] 3)).cell? ⟨w1.heap.size, K, none⟩ = some (.int .i64 Z) := cell_heap (heap1_0 w1 _) hcg
  have hlx : w1.heap.size < (w1.alloc (.cells #[.int .i64 1, .int .i64 2, .int .i64 3, .int .i64 7, .int .i64 9, .int .i64 19, .int .i64 20, .int .i64 255] 3)).heap.size := lt_heap (heap1_0 w1 _)
  have hbx := below_alc w1 (.cells #[.int .i64 1, .int .i64 2, .int .i64 3, .int .i64 7, .int .i64 9, .int .i64 19, .int .i64 20, .int .i64 255] 3)
  go_upto_region 5 with (go_at_call 7; refine (hnu _).mono ?_; rintro e w2 ⟨rfl, q2, rfl⟩; have ck2 := ((Below.drewNr (w := w1.alloc (.cells #[.int .i64 1, .int .i64 2, .int .i64 3, .int .i64 7, .int .i64 9, .int .i64 19, .int .i64 20, .int .i64 255] 3)) q2).cell (p := ⟨w1.heap.size, K, none⟩) hlx).trans ck; clear hnu)
  have HB2 := Lib.hid (HB1.out.trans ((hbx.trans ((Below.drewNr q2).mono hbx.size)).mono HB1.out.size))
  clear ck ck2 hlx hbx hcg hKb HB1
  generalize (w1.alloc (.cells #[.int .i64 1, .int .i64 2, .int .i64 3, .int .i64 7, .int .i64 9, .int .i64 19, .int .i64 20, .int .i64 255] 3)).drewN q2 = W2 at *
  go_upto_region 6 with (go_at_call 7; refine (hnv _).mono ?_; rintro e w3 ⟨rfl, q3, rfl⟩; clear hnv)
  have HB3 := Lib.hid (HB2.out.trans ((Below.drewNr (w := W2) q3).mono HB2.out.size))
  clear HB2
  generalize W2.drewN q3 = W3 at *
  obtain ⟨zM, hzM⟩ : ∃ z : Int, z = (M : Int) := ⟨_, rfl⟩
  rw [← hzM]
  clear hzM
  go_upto_region 7 with (refine wpList_build rfl 31 _ rfl #[(0, .int .i64 1)] (by kernel_rfl) (.agg (uv 1 0 0 0)) (fun w => up_build1 w) ?_)
  refine wp_world (fun W => Below w0.heap.size w0 W ∧ UpH W W3.heap.size 1 0 0 0) ⟨HB3.out.trans ((below_alc W3 _).mono HB3.out.size), heap1_0 _ _⟩ ?_
  rintro W4 ⟨hb4, hu4⟩
  have hUlo := HB3.out.size
  clear HB3
  generalize W3.heap.size = U at *
  have HU := Lib.hid hUlo
  have H4 := Lib.hid (And.intro hb4 hu4)
  clear hUlo hb4 hu4
  go_wp2_with fail
  go_loopw [9, 10] (fun x y wr => ∃ i : Nat, i ≤ 11 ∧ x = .int .i64 (wN i) ∧ y = .int .i64 (i : Int) ∧ UpH wr U 1 0 (i : Int) (wN i) ∧ Below w0.heap.size w0 wr) (fun _ y _ => 11 - (intOf y).toNat)
  case atStart => exact ⟨0, by omega, rfl, rfl, H4.out.2, H4.out.1⟩
  clear H4
  case round =>
    obtain ⟨i, hi, rfl, rfl, hu, hbr⟩ := hrel
    by_cases hlt : i < 11
    · have hlt' : (i : Int) < 11 := by omega
      obtain ⟨hle, hne⟩ := delay_up i hlt
      obtain ⟨L, hL⟩ : ∃ z, z = wN i := ⟨_, rfl⟩
      obtain ⟨D, hD⟩ : ∃ z, z = wN (i + 1) := ⟨_, rfl⟩
      rw [← hL] at hu hle
      rw [← hD] at hle hne
      rw [← hL]
      have hdl : ¬ D < L := by omega
      have HD : Hid (D = wN (i + 1) ∧ D ≠ 0 ∧ delayN ((i : Int) + 1) = D) := Lib.hid ⟨hD, hne, by rw [hD]; unfold wN; rw [if_neg (by omega)]; rfl⟩
      clear hle hne hL hD
      have hw1 : wrap64 ((i : Int) + 1) = (i : Int) + 1 := by unfold wrap64; omega
      have hEr := HE.out.below hbr
      have HR := Lib.hid (And.intro hbr (And.intro hu (And.intro hlt hEr)))
      have hyes := answer_yes E wr hEr hu (by decide) 0 0 (.slice none 0 0) 100 2 0 (fun W hb hW => after_u E W (hEr.below hb) hW (by decide) 0 0 (.slice none 0 0) 100 (by decide) (some (2, 0)) (by decide))
      have hno := answer_no E wr hEr hu (by decide) Z 0 (.slice none 0 0) 100 (by omega) (fun W hb hW => after_u E W (hEr.below hb) hW (by decide) Z 0 (.slice none 0 0) 100 (by decide) none (by unfold nAfter nOpen; rw [if_pos rfl, if_neg HZ.out.1, if_neg HZ.out.2]))
      rw [HD.out.2.2] at hno
      clear hu hbr hlt hEr hi
      go_upto_region 11 with (fail)
      have yes : ∀ wz, Hid (Below w0.heap.size w0 wz) → True := fun _ _ => trivial
      clear yes
      cases good with
      | true =>
        by_cases hiM : (i : Int) = zM
        · have d1 : ((i : Int) == zM) = true := by simpa using hiM
          clear hno hiM
          go_wp2_with (first | (refine wpList_build rfl 47 _ rfl #[] (by kernel_rfl) (.agg (rv 0 0 (.slice none 0 0))) (fun w => rv_build0 w) ?_) | (go_at_call 14; refine hyes.mono ?_; rintro e W5 ⟨rfl, hu5, ht5⟩; have c0 := hu5.c0; have c2 := hu5.c2; have c3 := hu5.c3; have H5 := Lib.hid (ht5.below HR.out.1 HR.out.1.size (fun q e => by rw [e]; exact HU.out)); clear hu5 ht5 hyes))
          go_ret
          exact ⟨rfl, H5.out⟩
        · have d1 : ((i : Int) == zM) = false := by simpa using hiM
          clear hyes hiM
          go_upto_region 16 with (first | (refine wpList_build rfl 47 _ rfl #[(0, .int .i64 Z)] (by kernel_rfl) (.agg (rv Z 0 (.slice none 0 0))) (fun w => rv_build1 Z w) ?_) | (go_at_call 14; refine hno.mono ?_; rintro e W5 ⟨rfl, hu5, ht5⟩; have c0 := hu5.c0; have c2 := hu5.c2; have c3 := hu5.c3; have H5 := Lib.hid (And.intro (ht5.below HR.out.1 HR.out.1.size (fun q e => by rw [e]; exact HU.out)) hu5); clear hu5 ht5 hno))
          have hev : decide (10 < (i : Int) + 1) = ((i : Int) == 10) := by
            have := HR.out.2.2.1
            by_cases h : i = 10
            · subst h; decide
            · have e1 : decide (10 < (i : Int) + 1) = false := decide_eq_false (by omega)
              have e2 : ((i : Int) == 10) = false := by simp; omega
              rw [e1, e2]
          go_upto_region 19 with (fail)
          have haw := ask_wait W5 H5.out.2 zf none 0 0 HD.out.2.1
          clear c0 c2 c3 hdl hev
          go_upto_region 20 with (first | (refine wpList_build rfl 37 _ rfl #[] (by kernel_rfl) (.agg (arr8 32 zf)) (fun w => hs_build0 w) ?_) | (go_at_call 9; refine haw.mono ?_; rintro e W6 ⟨rfl, hb6⟩; have H6 := Lib.hid (And.intro (H5.out.1.trans (hb6.mono H5.out.1.size)) (H5.out.2.below hb6)); clear hb6 haw) | (refine wpList_store_row rfl 40 _ _ rfl W6.heap.size (rqA 0 zf 0 0 (.slice none 0 0)) rfl rfl _ _ (heap1_0 _ _) (rq_info _ _ _ _ _) (by kernel_rfl) (rq_one _ _ _ _ _ _ _) ?_; rw [alloc_setRow]))
          have H7 := Lib.hid (And.intro (H6.out.1.trans ((below_alc W6 (.cells (rqA 0 zf 0 0 (.slice none 0 0)) 40)).mono H6.out.1.size)) (H6.out.2.below (below_alc W6 (.cells (rqA 0 zf 0 0 (.slice none 0 0)) 40))))
          clear H5 H6
          generalize W6.alloc (.cells (rqA 0 zf 0 0 (.slice none 0 0)) 40) = W7 at *
          go_wp2_with fail
          refine ⟨?rel, ?measure⟩
          case rel => exact ⟨i + 1, HR.out.2.2.1, by rw [← HD.out.1], by go_num, by have h := H7.out.2; rw [HD.out.1] at h; exact h, H7.out.1⟩
          case measure => have := HR.out.2.2.1; show 11 - ((i : Int) + 1).toNat < 11 - (i : Int).toNat; omega
      | false =>
        clear hyes
        go_upto_region 16 with (first | (refine wpList_build rfl 47 _ rfl #[(0, .int .i64 Z)] (by kernel_rfl) (.agg (rv Z 0 (.slice none 0 0))) (fun w => rv_build1 Z w) ?_) | (go_at_call 14; refine hno.mono ?_; rintro e W5 ⟨rfl, hu5, ht5⟩; have c0 := hu5.c0; have c2 := hu5.c2; have c3 := hu5.c3; have H5 := Lib.hid (And.intro (ht5.below HR.out.1 HR.out.1.size (fun q e => by rw [e]; exact HU.out)) hu5); clear hu5 ht5 hno))
        have hev : decide (10 < (i : Int) + 1) = ((i : Int) == 10) := by
          have := HR.out.2.2.1
          by_cases h : i = 10
          · subst h; decide
          · have e1 : decide (10 < (i : Int) + 1) = false := decide_eq_false (by omega)
            have e2 : ((i : Int) == 10) = false := by simp; omega
            rw [e1, e2]
        go_upto_region 19 with (fail)
        have haw := ask_wait W5 H5.out.2 zf none 0 0 HD.out.2.1
        clear c0 c2 c3 hdl hev
        go_upto_region 20 with (first | (refine wpList_build rfl 37 _ rfl #[] (by kernel_rfl) (.agg (arr8 32 zf)) (fun w => hs_build0 w) ?_) | (go_at_call 9; refine haw.mono ?_; rintro e W6 ⟨rfl, hb6⟩; have H6 := Lib.hid (And.intro (H5.out.1.trans (hb6.mono H5.out.1.size)) (H5.out.2.below hb6)); clear hb6 haw) | (refine wpList_store_row rfl 40 _ _ rfl W6.heap.size (rqA 0 zf 0 0 (.slice none 0 0)) rfl rfl _ _ (heap1_0 _ _) (rq_info _ _ _ _ _) (by kernel_rfl) (rq_one _ _ _ _ _ _ _) ?_; rw [alloc_setRow]))
        have H7 := Lib.hid (And.intro (H6.out.1.trans ((below_alc W6 (.cells (rqA 0 zf 0 0 (.slice none 0 0)) 40)).mono H6.out.1.size)) (H6.out.2.below (below_alc W6 (.cells (rqA 0 zf 0 0 (.slice none 0 0)) 40))))
        clear H5 H6
        generalize W6.alloc (.cells (rqA 0 zf 0 0 (.slice none 0 0)) 40) = W7 at *
        go_wp2_with fail
        refine ⟨?rel, ?measure⟩
        case rel => exact ⟨i + 1, HR.out.2.2.1, by rw [← HD.out.1], by go_num, by have h := H7.out.2; rw [HD.out.1] at h; exact h, H7.out.1⟩
        case measure => have := HR.out.2.2.1; show 11 - ((i : Int) + 1).toNat < 11 - (i : Int).toNat; omega
    · obtain rfl : i = 11 := by omega
      have HB := Lib.hid hbr
      clear hu hbr
      have hcn := fun w => code_nil w
      rw [show wN 11 = 64 by decide]
      go_wp2_with (go_at_call 16; refine (hcn _).mono ?_; rintro e wz ⟨rfl, rfl⟩; clear hcn)
      go_ret
      exact ⟨rfl, HB.out⟩
end Go.Proofs.YtffkjbbhbpaacaaDoor
