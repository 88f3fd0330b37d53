import Derived.Test.YtionjhlllpipjaaDoorDkp
import Derived.Test.YtionjhlllpipjaaDoorNum
/-
  disk: DiskFuses' walk.
-/
namespace Go.Proofs.YtionjhlllpipjaaDoor
open Go.RowKit

theorem fill_row {x : Int} {w w1 : World} (h : w1.heap[w.heap.size]? = some (.cells (bcells (fillL x)).toArray 5 (0, 0))) : w1.rangeAt w.heap.size 0 (bcells (fillL x)) := range_new h
theorem exists_mod' (x n : Int) (hn : 0 < n) : ∃ k : Nat, x % n = k ∧ (k : Int) < n := ⟨(x % n).toNat, by rw [Int.toNat_of_nonneg (Int.emod_nonneg _ (by omega))], by rw [Int.toNat_of_nonneg (Int.emod_nonneg _ (by omega))]; exact Int.emod_lt_of_pos _ hn⟩
theorem bsl_1 (w : World) : (Instr.buildSlice 29 1 #[(0, .int .i64 1)]).run Tryd.prog w = .ok (.slice (some ⟨w.heap.size, 0, none⟩) 1 1) (w.alloc (.cells #[.int .i64 1] 3)) := by kernel_rfl
theorem zero_I (i : TypeInfo) (h : Tryd.prog.info? 3 = some i) : i.zero = some (.int .i64 0) := by
  have : (Tryd.prog.info? 3).bind (·.zero) = some (.int .i64 0) := by kernel_rfl
  rw [h] at this
  exact this
theorem app_1 {w8 wr : World} (hb : Below w8.heap.size w8 wr) {v : Value} {j : Nat} (ho : wr.ownsRow w8.heap.size 3 1 v j ((List.replicate j (1 : Int)).map (Value.int .i64))) (hj : j < 30) :
    ∃ v' w', (Builtin.append_ #[29, 29] 29 #[v, .slice (some ⟨wr.heap.size, 0, none⟩) 1 1]).run Tryd.prog (wr.alloc (.cells #[.int .i64 1] 3)) = .ok v' w' ∧ w'.ownsRow w8.heap.size 3 1 v' (j + 1) ((List.replicate (j + 1) (1 : Int)).map (Value.int .i64)) ∧ Below w8.heap.size w8 w' := by
  obtain ⟨i, hi, hz⟩ := Option.map_eq_some_iff.1 (show (Tryd.prog.info? 3).map (fun i => (i.size, i.bytes)) = some (1, 8) by kernel_rfl)
  simp only [Prod.mk.injEq] at hz
  have ho1 := ho.alloc (w := wr) (.cells #[.int .i64 1] 3)
  obtain ⟨v', w', h1, h2, h3, _, _⟩ := run_append_own2 (P := Tryd.prog) (wr.alloc (.cells #[.int .i64 1] 3)) w8.heap.size 29 29 3 i (.int .i64 0) 1 8 Tryd.underlying29 hi (zero_I i hi) hz.1 hz.2 rfl (by omega) v j _ ho1 ⟨wr.heap.size, 0, none⟩ 1 1 [.int .i64 1] rfl
    (fun q u hu => by rw [Addr.add_mid]; exact range_new (heap1_0 wr _) q u hu) (by intro u hu; rw [List.mem_singleton.1 hu]; rfl) (by unfold maxLen; omega) (by omega) (Nat.le_trans hb.size (by simp))
  refine ⟨v', w', h1, ?_, ?_⟩
  · rw [List.replicate_succ', List.map_append]
    exact h2
  · have hb1 : Below w8.heap.size w8 (wr.alloc (.cells #[.int .i64 1] 3)) := hb.trans ((below_alc wr _).mono hb.size)
    exact hb1.trans ⟨h3.os, h3.tape, h3.output, h3.size, fun k hk => h3.block k (Nat.lt_of_lt_of_le hk hb1.size) (fun e => by have := (ho1.lt k e.symm).1; omega)⟩
theorem keep_own {w wr : World} {R : Nat} {v : Value} (ho : wr.ownsRow w.heap.size 3 1 v 30 ((List.replicate 30 (1 : Int)).map (Value.int .i64))) (hR : R < w.heap.size) : KeepAt wr R (List.replicate 30 1) v := by
  rcases ho.2 with ⟨_, e⟩ | ⟨g, c, cur, e, h1, _, h2, _, _⟩
  · omega
  · rcases own_cells ho with ⟨e', _⟩ | ⟨g', c', e', h1', h2', hr, _⟩
    · omega
    · rw [e] at e'
      cases e'
      exact ⟨_, c, e, by simpa using h2, fun x hx => by rw [List.eq_of_mem_replicate hx]; omega, fun _ => ⟨g, 0, rfl, by omega, h2', hr⟩⟩
set_option maxRecDepth 100000 in
set_option maxHeartbeats 3200000 in
theorem fuses_walk (E : Nat → Addr) (a b : Int) (last : Bool) (w0 : World) (hE : ErrsAt E w0) : Calls Tryd.prog 5 #[.int .i64 a, .int .i64 b, .bool last] w0 fun e w' => e = .returned (.bool true) ∧ Below w0.heap.size w0 w' := by
  have hfi := first_any w0
  have HE := Lib.hid hE
  obtain ⟨N, hN, hN20⟩ := exists_mod' a 20 (by omega)
  obtain ⟨M, hM, hM5⟩ := exists_mod' b 5 (by omega)
  have hnu := fun w => number_nat a 20 N w (by omega) hN
  have hmu := fun w => number_nat b 5 M w (by omega) hM
  clear hE hN hM
  go_enter Tryd.func5, Tryd.ntmps5
  go_upto_region 4 with (go_at_call 7; refine hfi.mono ?_; rintro e w1 ⟨rfl, hb1⟩)
  have HB1 := Lib.hid hb1
  clear hb1 hfi
  go_upto_region 5 with (go_at_call 8; refine (hnu _).mono ?_; rintro e w1b ⟨rfl, m1, rfl⟩)
  go_upto_region 6 with (go_at_call 8; refine (hmu _).mono ?_; rintro e w1c ⟨rfl, m2, rfl⟩)
  refine wp_world (fun W => Below w0.heap.size w0 W) ⟨HB1.out.os, HB1.out.tape, HB1.out.output, HB1.out.size, HB1.out.block⟩ ?_
  intro w2 hb2
  have hnew := new_any 30 (by omega) w0.heap.size w2 hb2.size
  have HB2 := Lib.hid hb2
  clear hb2 hnu hmu HB1
  go_upto_region 9 with (go_at_call 9; refine hnew.mono ?_; rintro e w3 ⟨D, R, rfl, hd3, _, _, hb3⟩)
  have hfu := fuse_any hd3 (N : Int) (by omega)
  rw [show max (N : Int) (-1) = (N : Int) by omega] at hfu
  have HB3 := Lib.hid (HB2.out.trans (hb3.mono HB2.out.size))
  have HD3 := Lib.hid hd3
  clear hnew hd3 hb3
  go_upto_region 10 with (go_at_call 17; refine hfu.mono ?_; rintro e w4 ⟨rfl, hd4, ht4⟩)
  have HB4 := Lib.hid (ht4.below HB3.out HB3.out.size (fun q e => by rw [e]; exact HD3.out.low.1))
  have HD4 := Lib.hid hd4
  clear hfu hd4 ht4
  have hN' : N < 20 := by omega
  go_wp2_with fail
  go_loopw [9] (fun i wr => ∃ (k : Nat) (pv : Nat → Value), i = .int .i64 (k : Int) ∧ k ≤ N ∧ DkS wr w0.heap.size D R (fuS k) false ((N - k : Nat) : Int) pv ∧ Below w0.heap.size w0 wr) (fun i _ => N - (intOf i).toNat)
  case atStart => exact ⟨0, _, rfl, by omega, HD4.out, HB4.out⟩
  case round =>
    obtain ⟨k, pv, rfl, hk, hd, hb⟩ := hrel
    have HD := Lib.hid hd
    have HB := Lib.hid hb
    by_cases hlt : k < N
    · have hlt' : decide (k < N) = true := by simpa using hlt
      have hg := fuS_get k (by omega)
      have hwr := fun (W : World) (hW : DkS W w0.heap.size D R (fuS k) false ((N - k : Nat) : Int) pv) (hWb : Below w0.heap.size w0 W) (g : Nat) (hr : W.rangeAt g 0 (bcells (fillL 7))) (hne : (pv k).ownBlock ≠ some g) => write_in E w0 HE.out hWb hW k secZ hg (fillL 7) (fillL_len 7) g 0 128 hr hne (by simp [secZ])
      rw [show secZ.add (fillL 7) (fillL_len 7) = fz 7 from rfl, fuS_set k (by omega)] at hwr
      have hfl := filled_any 7 wr
      have hnw : (pv k).ownBlock ≠ some wr.heap.size := fun e => by have := ((hd.own k _ hg).lt _ e).2; omega
      clear hd hb
      go_wp2_with (first | (go_at_call 11; refine hfl.mono ?_; rintro e w5 ⟨rfl, hr5, hb5⟩; have hd5 := HD.out.below hb5; have hb5' := HB.out.trans (hb5.mono HB.out.size); have hwr5 := hwr w5 hd5 hb5' _ (range_new hr5) hnw; have HD5 := Lib.hid hd5; have HB5 := Lib.hid hb5'; clear hd5 hb5' hb5 hr5) | (go_at_call 13; refine hwr5.mono ?_; rintro e w6 ⟨hev, pv6, hd6, ht6, hf6⟩; (rw [show drawV E ((N - k : Nat) : Int) = .nilIface from if_neg (by omega)] at hev); subst hev; have HD6 := Lib.hid hd6; have HT6 := Lib.hid ht6; clear hd6 ht6 hf6))
      go_roundw
      case rel => exact ⟨k + 1, pv6, by go_num, by omega, by
        have h := HD6.out
        rw [show drawO false ((N - k : Nat) : Int) = false by unfold drawO; rw [decide_eq_false (by omega)]; rfl, show drawF ((N - k : Nat) : Int) = ((N - (k + 1) : Nat) : Int) by unfold drawF; rw [if_pos (by omega)]; omega] at h
        exact h, HT6.out.below HB5.out HB5.out.size (fun q hq => HD5.out.lowF hq)⟩
      case measure => simp [intOf]; omega
    · have hkN : k = N := by omega
      subst hkN
      rw [Nat.sub_self] at HD
      clear hd hb
      cases last with
      | true =>
        have hsy := sync_fail E (HE.out.below HB.out) HD.out
        go_upto_region 19 with (go_at_call 15; refine hsy.mono ?_; rintro e w7 ⟨rfl, hd7, ht7⟩)
        have HB7 := Lib.hid (ht7.below HB.out HB.out.size (fun q e => by rw [e]; exact HD.out.low.1))
        obtain ⟨S2, hS2⟩ : ∃ S2, S2 = fuS k := ⟨_, rfl⟩
        obtain ⟨pv7, hpv7⟩ : ∃ p : Nat → Value, p = pv := ⟨_, rfl⟩
        have HD7 : Hid (DkS w7 w0.heap.size D R S2 true 0 pv7) := by rw [hS2, hpv7]; exact hd7
        have hsm : ∀ s ∈ S2, s.pend.length ≤ 1 := by rw [hS2]; exact fuS_small k
        have hl2 : S2.length = 30 := by rw [hS2]; exact fuS_len k (by omega)
        have hget10 : (crashTo S2 (List.replicate 30 1) 30).1[k]? = some secZ := by
          obtain ⟨_, _, _, h3⟩ := crash_ones S2 hsm 30 30 (Nat.le_refl _)
          rw [h3 k (by omega), hS2, fuS_get k (by omega)]
          rfl
        have htop : secZ.top = zc := rfl
        clear hsy hd7 ht7 hS2 hpv7
        have HD := HD7
        have HB := HB7
        go_wp2_with fail
        go_loopw [11] (fun i wr => ∃ j : Nat, i = .int .i64 (j : Int) ∧ j ≤ M ∧ DkS wr w0.heap.size D R S2 true 0 pv7 ∧ Below w0.heap.size w0 wr) (fun i _ => M - (intOf i).toNat)
        case atStart => exact ⟨0, rfl, by omega, HD7.out, HB7.out⟩
        case round =>
          obtain ⟨j, rfl, hj, hd, hb⟩ := hrel
          have HD := Lib.hid hd
          have HB := Lib.hid hb
          clear hd hb
          by_cases hlt : j < M
          · have hlt' : decide (j < M) = true := by simpa using hlt
            go_wp2_with (first | (go_at_call 21; refine (read_off E (HE.out.below HB.out) HD.out _).mono ?_; rintro e wx ⟨rfl, hbx⟩; have HD := Lib.hid (HD.out.below hbx); have HB := Lib.hid (HB.out.trans (hbx.mono HB.out.size)); clear hbx) | (go_at_call 11; refine (filled_any _ _).mono ?_; rintro e wx ⟨rfl, _, hbx⟩; have HD := Lib.hid (HD.out.below hbx); have HB := Lib.hid (HB.out.trans (hbx.mono HB.out.size)); clear hbx) | (go_at_call 13; refine (write_off E (HE.out.below HB.out) HD.out _ _).mono ?_; rintro e wx ⟨rfl, hbx⟩; have HD := Lib.hid (HD.out.below hbx); have HB := Lib.hid (HB.out.trans (hbx.mono HB.out.size)); clear hbx) | (go_at_call 15; refine (sync_off E (HE.out.below HB.out) HD.out).mono ?_; rintro e wx ⟨rfl, hbx⟩; have HD := Lib.hid (HD.out.below hbx); have HB := Lib.hid (HB.out.trans (hbx.mono HB.out.size)); clear hbx) | (go_at_call 24; refine (off_any HD.out).mono ?_; rintro e wx ⟨rfl, hbx⟩; have HD := Lib.hid (HD.out.below hbx); have HB := Lib.hid (HB.out.trans (hbx.mono HB.out.size)); clear hbx))
            go_roundw
            case rel => exact ⟨j + 1, by go_num, by omega, HD.out, HB.out⟩
            case measure => simp [intOf]; omega
          · go_upto_region 25 with (fail)
            refine wp_world (fun W => DkS W w0.heap.size D R S2 true 0 pv7 ∧ Below w0.heap.size w0 W) ⟨HD.out, HB.out⟩ ?_
            rintro w8 ⟨hd8, hb8⟩
            have HD8 := Lib.hid hd8
            have HB8 := Lib.hid hb8
            clear hd8 hb8
            go_wp2_with fail
            go_loopw [14, 15] (fun x i wr => ∃ (j : Nat) (v : Value), v = x ∧ i = .int .i64 (j : Int) ∧ j ≤ 30 ∧ wr.ownsRow w8.heap.size 3 1 v j ((List.replicate j (1 : Int)).map (Value.int .i64)) ∧ Below w8.heap.size w8 wr) (fun _ i _ => 30 - (intOf i).toNat)
            case atStart => exact ⟨0, _, rfl, rfl, by omega, ⟨rfl, .inl ⟨rfl, rfl⟩⟩, Below.refl _ _⟩
            case round =>
              obtain ⟨j, v, rfl, rfl, hj, ho, hb⟩ := hrel
              have HBx := Lib.hid hb
              by_cases hlt : j < 30
              · have hlt' : decide (j < 30) = true := by simpa using hlt
                have hbs := bsl_1 wr
                obtain ⟨v', w', hap, ho', hb'⟩ := app_1 hb ho hlt
                have HO := Lib.hid ho'
                have HB' := Lib.hid hb'
                clear ho ho' hb hb'
                go_upto_region 29 with (fail)
                refine wp_region_lit ?_
                refine wpList_run (by kernel_rfl) (v) (wr) (exec_move rfl (by kernel_rfl)) ?_
                refine wpList_run (by kernel_rfl) (.slice (some ⟨wr.heap.size, 0, none⟩) 1 1) ((wr.alloc (.cells #[.int .i64 1] 3))) (exec_bsl (vs := #[(0, Go.Value.int Go.IntKind.i64 1)]) rfl (by kernel_rfl) (bsl_1 wr)) ?_
                refine wpList_run (by kernel_rfl) (v') (w') (exec_append rfl rfl (vs := v) (vx := .slice (some ⟨wr.heap.size, 0, none⟩) 1 1) (by kernel_rfl) (hap)) ?_
                refine wpList_run (by kernel_rfl) (v') (w') (exec_assign rfl (by kernel_rfl)) ?_
                refine wpList_nil ?_
                simp only [put_list, List.set_cons_zero, List.set_cons_succ]
                clear hap hbs
                go_wp2_with fail
                go_roundw
                case rel => exact ⟨j + 1, _, rfl, by go_num, by omega, HO.out, HB'.out⟩
                case measure => simp [intOf]; omega
              · have hj30 : j = 30 := by omega
                subst hj30
                have hd9 := HD8.out.below hb
                have HB9 := Lib.hid (HB8.out.trans (hb.mono HB8.out.size))
                have hkeep : KeepAt wr R (List.replicate 30 1) v := keep_own ho HD8.out.ltR
                have hcr := crash_any hd9 (List.replicate 30 1) v hkeep (fun s hs => by have := hsm s hs; omega)
                unfold CrPost at hcr
                rw [hl2] at hcr
                have HD9 := Lib.hid hd9
                clear ho hb hd9 hkeep
                go_upto_region 31 with (go_at_call 19; refine hcr.mono ?_; rintro e w10 ⟨rfl, pv10, hd10, ht10, _⟩)
                have hrd := read_in hd10 k _ hget10
                have HB10 := Lib.hid (ht10.below HB9.out HB9.out.size (fun q hq => hq.elim (fun e => by rw [e]; exact HD8.out.low.1) (fun e => by rw [e]; exact HD8.out.low.2)))
                have HD10 := Lib.hid hd10
                clear hcr hd10 ht10
                go_upto_region 32 with (go_at_call 21; refine hrd.mono ?_; rintro e w11 ⟨g11, rfl, _, hr11, hb11⟩)
                rw [htop] at hr11
                have hc11 : w11.cell? ⟨g11, 0, none⟩ = some (.int .u8 0) := rng_get (range_new hr11) 0 (by simp [zc])
                have HD := Lib.hid (HD10.out.below hb11)
                have HB := Lib.hid (HB10.out.trans (hb11.mono HB10.out.size))
                have hl11 : g11 < w11.heap.size := cell_lt hc11
                clear hrd hb11 hr11
                go_wp2_with (first | (go_at_call 12; refine (is_any E (errV (E 0)) 101 101 (.inr ⟨0, by decide, rfl, by decide⟩) _ (HE.out.below HB.out)).mono ?_; rintro e wx ⟨rfl, hbx⟩; have hc12 := (hbx.cell (p := ⟨g11, 0, none⟩) hl11).trans hc11; have HD := Lib.hid (HD.out.below hbx); have HB := Lib.hid (HB.out.trans (hbx.mono HB.out.size)); clear hbx) | (go_at_call 15; refine (sync_ok E (HE.out.below HB.out) HD.out (by decide)).mono ?_; rintro e wy ⟨rfl, pvy, _, hty, _⟩; have HTy := Lib.hid hty; clear hty))
                go_ret
                exact ⟨rfl, HTy.out.below HB.out HB.out.size (fun q hq => hq.elim (fun e => by rw [e]; exact HD8.out.low.1) (fun e => by rw [e]; exact HD8.out.low.2))⟩
      | false =>
        have hfl := filled_any 8 wr
        have hg := fuS_get k (by omega)
        have hnw : (pv k).ownBlock ≠ some wr.heap.size := fun e => by have := ((HD.out.own k _ hg).lt _ e).2; omega
        go_upto_region 19 with (first | (go_at_call 11; refine hfl.mono ?_; rintro e w6 ⟨rfl, hr6, hb6⟩; have hd6 := HD.out.below hb6; have hb6' := HB.out.trans (hb6.mono HB.out.size); have hwr6 := write_in E w0 HE.out hb6' hd6 k secZ hg (fillL 8) (fillL_len 8) wr.heap.size 0 128 (range_new hr6) hnw (by simp [secZ]); have HD6 := Lib.hid hd6; have HB6 := Lib.hid hb6'; clear hd6 hb6' hb6 hr6) | (go_at_call 13; refine hwr6.mono ?_; rintro e w7 ⟨rfl, pv7, hd7, ht7, _⟩))
        have HB7 := Lib.hid (ht7.below HB6.out HB6.out.size (fun q hq => HD6.out.lowF hq))
        obtain ⟨S2, hS2⟩ : ∃ S2, S2 = (fuS k).set k (fz 8) := ⟨_, rfl⟩
        have HD7 : Hid (DkS w7 w0.heap.size D R S2 true 0 pv7) := by rw [hS2]; exact hd7
        have hsm : ∀ s ∈ S2, s.pend.length ≤ 1 := by
          rw [hS2]
          intro s hs
          rcases List.mem_or_eq_of_mem_set hs with h | h
          · exact fuS_small k s h
          · rw [h]; exact Nat.le_refl _
        have hl2 : S2.length = 30 := by rw [hS2, List.length_set]; exact fuS_len k (by omega)
        have hget10 : (crashTo S2 (List.replicate 30 1) 30).1[k]? = some ((fz 8).settled 1) := by
          obtain ⟨_, _, _, h3⟩ := crash_ones S2 hsm 30 30 (Nat.le_refl _)
          rw [h3 k (by omega), hS2, List.getElem?_set_self (by rw [fuS_len k (by omega)]; omega)]
          rfl
        have htop : ((fz 8).settled 1).top = fillL 8 := rfl
        rw [show drawV E 0 = errV (E 0) from if_pos rfl]
        clear hfl hwr6 hd7 ht7 hS2 hg hnw
        have HD := HD7
        have HB := HB7
        go_wp2_with fail
        go_loopw [11] (fun i wr => ∃ j : Nat, i = .int .i64 (j : Int) ∧ j ≤ M ∧ DkS wr w0.heap.size D R S2 true 0 pv7 ∧ Below w0.heap.size w0 wr) (fun i _ => M - (intOf i).toNat)
        case atStart => exact ⟨0, rfl, by omega, HD7.out, HB7.out⟩
        case round =>
          obtain ⟨j, rfl, hj, hd, hb⟩ := hrel
          have HD := Lib.hid hd
          have HB := Lib.hid hb
          clear hd hb
          by_cases hlt : j < M
          · have hlt' : decide (j < M) = true := by simpa using hlt
            go_wp2_with (first | (go_at_call 21; refine (read_off E (HE.out.below HB.out) HD.out _).mono ?_; rintro e wx ⟨rfl, hbx⟩; have HD := Lib.hid (HD.out.below hbx); have HB := Lib.hid (HB.out.trans (hbx.mono HB.out.size)); clear hbx) | (go_at_call 11; refine (filled_any _ _).mono ?_; rintro e wx ⟨rfl, _, hbx⟩; have HD := Lib.hid (HD.out.below hbx); have HB := Lib.hid (HB.out.trans (hbx.mono HB.out.size)); clear hbx) | (go_at_call 13; refine (write_off E (HE.out.below HB.out) HD.out _ _).mono ?_; rintro e wx ⟨rfl, hbx⟩; have HD := Lib.hid (HD.out.below hbx); have HB := Lib.hid (HB.out.trans (hbx.mono HB.out.size)); clear hbx) | (go_at_call 15; refine (sync_off E (HE.out.below HB.out) HD.out).mono ?_; rintro e wx ⟨rfl, hbx⟩; have HD := Lib.hid (HD.out.below hbx); have HB := Lib.hid (HB.out.trans (hbx.mono HB.out.size)); clear hbx) | (go_at_call 24; refine (off_any HD.out).mono ?_; rintro e wx ⟨rfl, hbx⟩; have HD := Lib.hid (HD.out.below hbx); have HB := Lib.hid (HB.out.trans (hbx.mono HB.out.size)); clear hbx))
            go_roundw
            case rel => exact ⟨j + 1, by go_num, by omega, HD.out, HB.out⟩
            case measure => simp [intOf]; omega
          · go_upto_region 25 with (fail)
            refine wp_world (fun W => DkS W w0.heap.size D R S2 true 0 pv7 ∧ Below w0.heap.size w0 W) ⟨HD.out, HB.out⟩ ?_
            rintro w8 ⟨hd8, hb8⟩
            have HD8 := Lib.hid hd8
            have HB8 := Lib.hid hb8
            clear hd8 hb8
            go_wp2_with fail
            go_loopw [14, 15] (fun x i wr => ∃ (j : Nat) (v : Value), v = x ∧ i = .int .i64 (j : Int) ∧ j ≤ 30 ∧ wr.ownsRow w8.heap.size 3 1 v j ((List.replicate j (1 : Int)).map (Value.int .i64)) ∧ Below w8.heap.size w8 wr) (fun _ i _ => 30 - (intOf i).toNat)
            case atStart => exact ⟨0, _, rfl, rfl, by omega, ⟨rfl, .inl ⟨rfl, rfl⟩⟩, Below.refl _ _⟩
            case round =>
              obtain ⟨j, v, rfl, rfl, hj, ho, hb⟩ := hrel
              have HBx := Lib.hid hb
              by_cases hlt : j < 30
              · have hlt' : decide (j < 30) = true := by simpa using hlt
                have hbs := bsl_1 wr
                obtain ⟨v', w', hap, ho', hb'⟩ := app_1 hb ho hlt
                have HO := Lib.hid ho'
                have HB' := Lib.hid hb'
                clear ho ho' hb hb'
                go_upto_region 29 with (fail)
                refine wp_region_lit ?_
                refine wpList_run (by kernel_rfl) (v) (wr) (exec_move rfl (by kernel_rfl)) ?_
                refine wpList_run (by kernel_rfl) (.slice (some ⟨wr.heap.size, 0, none⟩) 1 1) ((wr.alloc (.cells #[.int .i64 1] 3))) (exec_bsl (vs := #[(0, Go.Value.int Go.IntKind.i64 1)]) rfl (by kernel_rfl) (bsl_1 wr)) ?_
                refine wpList_run (by kernel_rfl) (v') (w') (exec_append rfl rfl (vs := v) (vx := .slice (some ⟨wr.heap.size, 0, none⟩) 1 1) (by kernel_rfl) (hap)) ?_
                refine wpList_run (by kernel_rfl) (v') (w') (exec_assign rfl (by kernel_rfl)) ?_
                refine wpList_nil ?_
                simp only [put_list, List.set_cons_zero, List.set_cons_succ]
                clear hap hbs
                go_wp2_with fail
                go_roundw
                case rel => exact ⟨j + 1, _, rfl, by go_num, by omega, HO.out, HB'.out⟩
                case measure => simp [intOf]; omega
              · have hj30 : j = 30 := by omega
                subst hj30
                have hd9 := HD8.out.below hb
                have HB9 := Lib.hid (HB8.out.trans (hb.mono HB8.out.size))
                have hkeep : KeepAt wr R (List.replicate 30 1) v := keep_own ho HD8.out.ltR
                have hcr := crash_any hd9 (List.replicate 30 1) v hkeep (fun s hs => by have := hsm s hs; omega)
                unfold CrPost at hcr
                rw [hl2] at hcr
                have HD9 := Lib.hid hd9
                clear ho hb hd9 hkeep
                go_upto_region 31 with (go_at_call 19; refine hcr.mono ?_; rintro e w10 ⟨rfl, pv10, hd10, ht10, _⟩)
                have hrd := read_in hd10 k _ hget10
                have HB10 := Lib.hid (ht10.below HB9.out HB9.out.size (fun q hq => hq.elim (fun e => by rw [e]; exact HD8.out.low.1) (fun e => by rw [e]; exact HD8.out.low.2)))
                have HD10 := Lib.hid hd10
                clear hcr hd10 ht10
                go_upto_region 32 with (go_at_call 21; refine hrd.mono ?_; rintro e w11 ⟨g11, rfl, _, hr11, hb11⟩)
                rw [htop] at hr11
                have hc11 : w11.cell? ⟨g11, 0, none⟩ = some (.int .u8 8) := rng_get (range_new hr11) 0 (by simp [fillL])
                have HD := Lib.hid (HD10.out.below hb11)
                have HB := Lib.hid (HB10.out.trans (hb11.mono HB10.out.size))
                have hl11 : g11 < w11.heap.size := cell_lt hc11
                clear hrd hb11 hr11
                go_wp2_with (first | (go_at_call 12; refine (is_any E (errV (E 0)) 101 101 (.inr ⟨0, by decide, rfl, by decide⟩) _ (HE.out.below HB.out)).mono ?_; rintro e wx ⟨rfl, hbx⟩; have hc12 := (hbx.cell (p := ⟨g11, 0, none⟩) hl11).trans hc11; have HD := Lib.hid (HD.out.below hbx); have HB := Lib.hid (HB.out.trans (hbx.mono HB.out.size)); clear hbx) | (go_at_call 15; refine (sync_ok E (HE.out.below HB.out) HD.out (by decide)).mono ?_; rintro e wy ⟨rfl, pvy, _, hty, _⟩; have HTy := Lib.hid hty; clear hty))
                go_ret
                exact ⟨rfl, HTy.out.below HB.out HB.out.size (fun q hq => hq.elim (fun e => by rw [e]; exact HD8.out.low.1) (fun e => by rw [e]; exact HD8.out.low.2))⟩
end Go.Proofs.YtionjhlllpipjaaDoor
