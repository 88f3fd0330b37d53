import Derived.Test.YtbeeehfaeknhmaaDoorSnf
/-
  SlotsWhole's walk.
-/
namespace Go.Proofs.YtbeeehfaeknhmaaDoor
open Go.RowKit

theorem wrap_small (i : Nat) (h : i ≤ 1000) : wrap64 ((i : Int) + 1) = (i : Int) + 1 := by unfold wrap64; omega
theorem meas_lt (k n : Nat) (h : k < n) : n - (intOf (.int .i64 ((k : Int) + 1))).toNat < n - (intOf (.int .i64 (k : Int))).toNat := by
  show n - ((k : Int) + 1).toNat < n - ((k : Int)).toNat
  omega
set_option maxRecDepth 100000 in
set_option maxHeartbeats 1600000 in
theorem whole_walk (E : Nat → Addr) (As : Option Addr) (ls : List Int) (cs : Nat) (Af : Option Addr) (lf : List Int) (cf : Nat) (AK : Option Addr) (keep : List Int) (ck : Nat) (w0 : World) (hE0 : ErrsAt E w0) (hs0 : SlRead w0 As (ints .i64 ls)) (hf0 : SlRead w0 Af (ints .i64 lf)) (hk0 : SlRead w0 AK (ints .i64 keep)) (hkc : keep.length ≤ ck) (hkx : ∀ x ∈ keep, x ≤ 9223372036854775807) :
    Calls Tryd.prog 4 #[.slice As ls.length cs, .slice Af lf.length cf, .slice AK keep.length ck] w0 fun e w' => e = .returned (.bool true) ∧ Below w0.heap.size w0 w' := by
  have hE := hE0.toD
  have hfi := first_any E w0 hE
  have HE := Lib.hid (And.intro hE hE0)
  have HKP := Lib.hid (And.intro hk0 (And.intro hkc hkx))
  have hnew := fun W (hb : Below w0.heap.size w0 W) => new_m (N := 15) (by decide) w0.heap.size W hb.size
  clear hE hE0 hk0 hkc hkx
  obtain ⟨ns, hns⟩ : ∃ n, n = ls.length := ⟨_, rfl⟩
  obtain ⟨nf, hnf⟩ : ∃ n, n = lf.length := ⟨_, rfl⟩
  obtain ⟨nk, hnk⟩ : ∃ n, n = keep.length := ⟨_, rfl⟩
  rw [← hns, ← hnf, ← hnk]
  have HL := Lib.hid (And.intro hns (And.intro hnf hnk))
  clear hns hnf hnk
  go_enter Tryd.func4, Tryd.ntmps4
  go_upto_region 4 with (go_at_call 9; refine hfi.mono ?_; rintro e w1 ⟨rfl, hb1⟩; have HB1 := Lib.hid hb1; clear hb1 hfi)
  by_cases h12 : 12 < ns
  · have d1 : (12 : Int) < (ns : Int) := by omega
    clear h12
    go_wp2_with fail
    go_ret
    exact ⟨rfl, HB1.out⟩
  have d1 : ¬ (12 : Int) < (ns : Int) := by omega
  by_cases hfs : nf < ns
  · have d2 : (nf : Int) < (ns : Int) := by omega
    go_wp2_with fail
    go_ret
    exact ⟨rfl, HB1.out⟩
  have d2 : ¬ (nf : Int) < (ns : Int) := by omega
  by_cases h40 : 40 < nk
  · have d3 : (40 : Int) < (nk : Int) := by omega
    clear h40
    go_wp2_with fail
    go_ret
    exact ⟨rfl, HB1.out⟩
  have d3 : ¬ (40 : Int) < (nk : Int) := by omega
  have hns12 : ns ≤ 12 := by omega
  clear h12 h40
  have hnew1 := hnew _ HB1.out
  clear hnew
  go_upto_region 9 with (go_at_call 11; refine hnew1.mono ?_; rintro e W2 ⟨D, R, pv, rfl, hd, hb⟩; have HD := Lib.hid (And.intro hd (HB1.out.trans (hb.mono HB1.out.size))); clear hd hb hnew1)
  clear d1 d2 d3
  have hop := open_c (m := ⟨0, 0, 0⟩) (b := []) E HE.out.1 HD.out.2 HD.out.1 (fit_zero 15) (clean_keeps (fit_zero 15) (by decide)) (by decide)
  go_upto_region 12 with (go_at_call 13; refine hop.mono ?_; rintro e W3 ⟨S, pv3, rfl, hc, _, _⟩; have HC := Lib.hid hc; clear hc hop)
  go_wp2_with fail
  go_loopw [9, 11, 12] (fun x1 x2 x3 wr => ∃ (i S : Nat) (pv : Nat → Value) (m : SM) (b : List UInt8) (A : Option Addr) (c n : Nat), i ≤ ns ∧ x3 = .int .i64 (i : Int) ∧ x1 = .pointer (some ⟨S, 0, none⟩) ∧ x2 = .slice A n c ∧ n = b.length ∧ b.length < 800 ∧ m.saves ≤ i ∧ CleanS w0 wr D R S 15 pv m b ∧ RowC wr D R S 15 pv m b A b) (fun _ _ x _ => ns - (intOf x).toNat)
  case atStart => exact ⟨0, S, pv3, ⟨0, 0, 0⟩, [], none, 0, 0, by omega, rfl, rfl, rfl, rfl, by decide, Nat.le_refl _, HC.out, ⟨SlRead.nil_, fun h0 => absurd h0 (by decide)⟩⟩
  clear HC
  case round =>
    obtain ⟨i, S, pv, m, b, A, c, nb, hi, rfl, rfl, rfl, hnb, hb800, hsv, hC, hA⟩ := hrel
    by_cases hlt : i < ns
    · have hlt' : (i : Int) < (ns : Int) := by omega
      have hw1 : wrap64 ((i : Int) + 1) = (i : Int) + 1 := wrap_small i (by omega)
      obtain ⟨bs, os, xs, hOs, hcs, hbs⟩ := (hs0.below hC.s.b).at_ (j := i) (by rw [← HL.out.1]; exact hlt)
      obtain ⟨bf, of, xf, hOf, hcf, hbf⟩ := (hf0.below hC.s.b).at_ (j := i) (by rw [← HL.out.2.1]; omega)
      obtain ⟨K, hK, hK800⟩ := exists_mod xs 800 (by omega)
      obtain ⟨f, hf, hf30⟩ := exists_mod xf 30 (by omega)
      have hnu := fun w => number_nat xs 800 K w (by omega) hK
      have hnf := fun w => number_nat xf 30 f w (by omega) hf
      have hff : (i : Int) < (nf : Int) := by omega
      subst hOs hOf
      have HC := Lib.hid (And.intro hC (And.intro hA (And.intro hnb (And.intro hb800 (And.intro hsv (And.intro hlt (And.intro hi hns12)))))))
      have HKf : Hid (K < 800 ∧ f < 30) := Lib.hid (by omega)
      clear hK hf hC hA hnb hb800 hsv hlt hi hK800 hf30 hns12
      have hfl := fun w => file_any ((i : Int) + 1) K (by have := HKf.out; omega) w
      go_upto_region 17 with (first | (go_at_call 10; refine (hnu _).mono ?_; rintro e W1 ⟨rfl, q1, rfl⟩) | (go_at_call 23; refine (hfl _).mono ?_; rintro e W4 ⟨AB, cB, rfl, ho4, hb4⟩))
      have hbq : Below wr.heap.size wr (wr.drewN q1) := Below.drewNr q1
      have HC4 := Lib.hid ((HC.out.1.below hbq).below hb4)
      have HB4 := Lib.hid (And.intro (RowK.own (HC.out.1.below hbq).s ho4) (own_capU ho4))
      have HA4 := Lib.hid ((HC.out.2.1.below hbq).below hb4)
      have hcf4 := (hb4.cell (p := ⟨bf, of + i, none⟩) (cell_lt hcf)).trans hcf
      have hfu := fun w (h : CleanS w0 w D R S 15 pv m b) => fuse_c h f (by have := HKf.out; omega)
      obtain ⟨zf, hzf⟩ : ∃ z : Int, z = (f : Int) := ⟨_, rfl⟩
      rw [← hzf] at hnf hfu
      have HZF := Lib.hid hzf
      clear hbq hb4 ho4 hnu hfl hcs hbs hcf hzf
      go_upto_region 18 with (first | (go_at_call 10; refine (hnf _).mono ?_; rintro e W5 ⟨rfl, q5, rfl⟩; have hb5 : Below W4.heap.size W4 (W4.drewN q5) := Below.drewNr q5; have HC5 := Lib.hid (HC4.out.below hb5); have HX5 := Lib.hid (And.intro (HB4.out.1.below hb5) (HA4.out.below hb5)); clear hb5) | (go_at_call 19; refine (hfu _ HC5.out).mono ?_; rintro e W6 ⟨rfl, hT6, hS6⟩; have HT6 := Lib.hid hT6; have HS6 := Lib.hid hS6; clear hT6 hS6))
      obtain ⟨b', hb'⟩ : ∃ b', b' = fileL ((i : Int) + 1) K := ⟨_, rfl⟩
      have HB' : Hid (b'.length = K) := Lib.hid (by rw [hb', fileL_len])
      rw [← hb'] at HB4 HX5
      clear hb' hnf hfu
      have hfit := HC.out.1.f
      have hsv7 : m.saves < 4294967295 := by have h1 := HC.out.2.2.2.2.1; have h2 := HC.out.2.2.2.2.2.2; omega
      have hb'r : b'.length ≤ roomN 15 := by rw [HB'.out]; have := HKf.out; unfold roomN halfN; omega
      obtain ⟨r, d', n', hsave, hdl, hleft, hr, hrn⟩ := save_crash hfit b' hb'r hsv7 (by decide) f keep
      rw [← HZF.out] at hsave
      obtain ⟨m2, b2, hf2, hk2, em2, eb2⟩ := left_open hfit hb'r hsv7 hleft
      have hrow6 := HX5.out.1.turned (HT6.out.toU S)
      have hpl : PL d' 2000 := by
        have := PL_saveM (PL_mk (cleanL 15 m b) zf 0) m b'
        rw [hsave] at this
        exact this.mono (by have h1 := hfit.f.2.2; unfold needS; unfold roomN halfN at h1 hb'r; omega)
      have hsv := save_s E HE.out.1 HS6.out (PL_mk _ _ _) (by rw [clean_len]; exact hfit.f) hrow6 cB (by rw [HB'.out]; exact HB4.out.2)
      rw [hsave, HB'.out] at hsv
      have hnew2 : r = none → b2 = b' := fun e => by
        have h1 := hrn e
        rw [eb2]
        have : newHead f (needS b'.length) keep = true := (if_neg (by omega)).trans (if_neg (by omega))
        rw [if_pos this]
      have hor : b2 = b ∨ b2 = b' := by
        rw [eb2]
        split
        · exact .inr rfl
        · exact .inl rfl
      have HM2 : Hid (Fit 15 m2 b2 ∧ Keeps 15 (crashL d'.ss keep) m2 b2 ∧ b2.length < 800 ∧ m2.saves ≤ i + 1) := Lib.hid ⟨hf2, hk2, by rcases hor with e | e <;> rw [e]; exact HC.out.2.2.2.1; rw [HB'.out]; exact HKf.out.1, by rw [em2]; have h1 := HC.out.2.2.2.2.1; split; show m.saves + 1 ≤ _; omega; omega⟩
      have HPL := Lib.hid hpl
      have Hnew := Lib.hid (And.intro hnew2 (And.intro hor hr))
      have HA6 := Lib.hid (And.intro hrow6 (HX5.out.2.turned (HT6.out.toU S)))
      clear hfit hsv7 hb'r hsave hdl hleft hrn hf2 hk2 em2 eb2 hrow6 hpl hnew2 hor hr
      go_upto_region 19 with (go_at_call 25; refine hsv.mono ?_; rintro e W7 ⟨rfl, pv7, hu7, hs7⟩; have HD7 := Lib.hid (And.intro hs7.dk (And.intro hs7.b HPL.out)); have HR7 := Lib.hid (And.intro (HA6.out.1.turned hu7) (HA6.out.2.turned hu7)); clear hu7 hs7 hsv)
      have Hbn := Lib.hid HC.out.2.2.1
      have Hbl := Lib.hid HC.out.2.2.2.1
      rcases Hnew.out.2.2 with rfl | rfl
      · have HOK : Hid (b2 = b' ∨ b2 = b') := Lib.hid (.inl (Hnew.out.1 rfl))
        have hb'n : K = b'.length := HB'.out.symm
        have Hb'n := Lib.hid hb'n
        have Hb'l : Hid (b'.length < 800) := Lib.hid (by rw [HB'.out]; exact HKf.out.1)
        clear hb'n
        rw [show eo E none = .nilIface from rfl]
        go_upto_region 23 with (fail)
        have hcr := crash_c HD7.out.1 HD7.out.2.1 HD7.out.2.2 keep AK ck HKP.out.1 HKP.out.2.1 HKP.out.2.2
        rw [← HL.out.2.2] at hcr
        go_upto_region 24 with (go_at_call 21; refine hcr.mono ?_; rintro e W8 ⟨rfl, pv8, hT8⟩; have HT8 := Lib.hid hT8; clear hT8 hcr)
        have hb8 := HT8.out.base HD7.out.1 HD7.out.2.1
        have hop := open_c E HE.out.1 hb8 HT8.out.dk HM2.out.1 HM2.out.2.1 (by decide)
        clear hb8
        go_upto_region 25 with (go_at_call 13; refine hop.mono ?_; rintro e W9 ⟨S2, pv9, rfl, hc9, hlo9, hT9⟩; have HC9 := Lib.hid hc9; have HX9 := Lib.hid (And.intro hlo9 hT9); clear hc9 hlo9 hT9 hop)
        have hrn9 : RowC W9 D R S2 15 pv9 m2 b2 AB b' := ((HR7.out.1.turned (HT8.out.toU S)).reopen HX9.out.2 HX9.out.1)
        have hrw9 : RowC W9 D R S2 15 pv9 m2 b2 AB b' := ((HR7.out.1.turned (HT8.out.toU S)).reopen HX9.out.2 HX9.out.1)
        have HR9 := Lib.hid (And.intro hrn9 hrw9)
        clear hrn9 hrw9
        have him := image_c HC9.out
        go_upto_region 28 with (go_at_call 28; refine him.mono ?_; rintro e Wa ⟨AI, cI, rfl, hri, hba⟩; have HCa := Lib.hid (HC9.out.below hba); have HRa := Lib.hid (And.intro (HR9.out.1.below hba) (And.intro (HR9.out.2.below hba) hri)); clear hba hri him)
        have hld := load_c2 HCa.out
        obtain ⟨n2, hn2⟩ : ∃ n2, n2 = b2.length := ⟨_, rfl⟩
        rw [← hn2] at hld
        have HN2 := Lib.hid hn2
        clear hn2
        go_upto_region 29 with (go_at_call 16; refine hld.mono ?_; rintro e Wb ⟨AL, cL, rfl, hrl, hbb⟩; have HCb := Lib.hid (HCa.out.below hbb); have HRb := Lib.hid (And.intro (HRa.out.1.below hbb) (And.intro (HRa.out.2.1.below hbb) (And.intro (HRa.out.2.2.below hbb) hrl))); clear hbb hrl hld)
        have hs1 := same_rows AB b' cL cB n2 K Wb HRb.out.2.2.2.r HRb.out.2.1.r HN2.out Hb'n.out (by have := HM2.out.2.2; omega) (by have := Hb'l.out; omega)
        have hs2 := fun W (hb : Below Wb.heap.size Wb W) => same_rows AB b' cL cB n2 K W (HRb.out.2.2.2.below hb).r (HRb.out.1.below hb).r HN2.out HB'.out.symm (by have := HM2.out.2.2; omega) (by rw [HB'.out]; have := HKf.out; omega)
        have hil : Hid ((imgL (cleanL 15 m2 b2)).length = 1920) := Lib.hid (by rw [img_len, cleanL_len])
        by_cases hq : b2 = b'
        · rw [decide_eq_true hq] at hs1
          clear hs2
          go_upto_region 31 with (go_at_call 18; refine hs1.mono ?_; rintro e Wc ⟨rfl, hbc⟩; have HBc := Lib.hid hbc; clear hbc hs1)
          clear hq
          have hCc := HCb.out.below HBc.out
          have HRc := Lib.hid (And.intro (HRb.out.2.2.1.below HBc.out) (HRb.out.2.2.2.below HBc.out))
          have hop := open_c E HE.out.1 hCc.s.b hCc.s.dk HM2.out.1 (clean_keeps HM2.out.1 (by decide)) (by decide)
          have HCc := Lib.hid hCc
          clear hCc
          go_upto_region 32 with (go_at_call 13; refine hop.mono ?_; rintro e We ⟨S3, pve, rfl, hce, hloe, hTe⟩; have HCe := Lib.hid hce; have HXe := Lib.hid (And.intro hloe hTe); clear hce hloe hTe hop)
          have hre1 : RowC We D R S3 15 pve m2 b2 AI (imgL (cleanL 15 m2 b2)) := HRc.out.1.reopen HXe.out.2 HXe.out.1
          have hre2 : RowC We D R S3 15 pve m2 b2 AL b2 := HRc.out.2.reopen HXe.out.2 HXe.out.1
          have HRe := Lib.hid (And.intro hre1 (And.intro hre2 (HCc.out.s.sl.turn HXe.out.2.t HCc.out.s.nS)))
          clear hre1 hre2
          obtain ⟨zv, hzv⟩ : ∃ z : Int, z = (m2.saves : Int) := ⟨_, rfl⟩
          have hq3 := seq_c HCe.out
          have hq4 := fun W (hb : Below We.heap.size We W) => seqS_any (HRe.out.2.2.below hb) (HM2.out.1.f.ok (by decide))
          rw [← hzv] at hq3 hq4
          clear hzv
          go_wp2_with (first | (go_at_call 30; refine hq3.mono ?_; rintro e Wf ⟨rfl, hbf⟩; have hq5 := hq4 Wf hbf; have HBf := Lib.hid hbf; clear hbf hq3 hq4) | (go_at_call 30; refine hq5.mono ?_; rintro e Wg ⟨rfl, hbg⟩; have HBg := Lib.hid (HBf.out.trans (hbg.mono HBf.out.size)); have hig := image_c (HCe.out.below HBg.out); clear hbg hq5) | (go_at_call 28; refine hig.mono ?_; rintro e Wh ⟨AJ, cJ, rfl, hrj, hbh⟩; have hsm := same_row AJ cI cJ 1920 Wh ((HRe.out.1.below HBg.out).below hbh).r hrj.r hil.out.symm (by rw [hil.out]; decide); have HBh := Lib.hid (HBg.out.trans (hbh.mono HBg.out.size)); clear hrj hbh hig) | (go_at_call 18; refine hsm.mono ?_; rintro e Wi ⟨rfl, hbi⟩; have HBi := Lib.hid (HBh.out.trans (hbi.mono HBh.out.size)); clear hbi hsm))
          refine ⟨?rel, ?measure⟩
          case rel => exact ⟨i + 1, S3, pve, m2, b2, AL, cL, n2, by have := HC.out.2.2.2.2.2.1; omega, by go_num, rfl, rfl, HN2.out, HM2.out.2.2.1, HM2.out.2.2.2, HCe.out.below HBi.out, HRe.out.2.1.below HBi.out⟩
          case measure => rw [hw1]; exact meas_lt i ns HC.out.2.2.2.2.2.1
        · rw [decide_eq_false hq] at hs1
          have hq2 := HOK.out.resolve_left hq
          have hs3 := fun W hb => (show decide (b2 = b') = true from decide_eq_true hq2) ▸ hs2 W hb
          clear hs2 hq hq2
          go_upto_region 31 with (first | (go_at_call 18; refine hs1.mono ?_; rintro e Wd ⟨rfl, hbd⟩; have hs4 := hs3 Wd hbd; have HBd := Lib.hid hbd; clear hbd hs1 hs3) | (go_at_call 18; refine hs4.mono ?_; rintro e Wc ⟨rfl, hbc⟩; have HBc := Lib.hid (HBd.out.trans (hbc.mono HBd.out.size)); clear hbc hs4))
          have hCc := HCb.out.below HBc.out
          have HRc := Lib.hid (And.intro (HRb.out.2.2.1.below HBc.out) (HRb.out.2.2.2.below HBc.out))
          have hop := open_c E HE.out.1 hCc.s.b hCc.s.dk HM2.out.1 (clean_keeps HM2.out.1 (by decide)) (by decide)
          have HCc := Lib.hid hCc
          clear hCc
          go_upto_region 32 with (go_at_call 13; refine hop.mono ?_; rintro e We ⟨S3, pve, rfl, hce, hloe, hTe⟩; have HCe := Lib.hid hce; have HXe := Lib.hid (And.intro hloe hTe); clear hce hloe hTe hop)
          have hre1 : RowC We D R S3 15 pve m2 b2 AI (imgL (cleanL 15 m2 b2)) := HRc.out.1.reopen HXe.out.2 HXe.out.1
          have hre2 : RowC We D R S3 15 pve m2 b2 AL b2 := HRc.out.2.reopen HXe.out.2 HXe.out.1
          have HRe := Lib.hid (And.intro hre1 (And.intro hre2 (HCc.out.s.sl.turn HXe.out.2.t HCc.out.s.nS)))
          clear hre1 hre2
          obtain ⟨zv, hzv⟩ : ∃ z : Int, z = (m2.saves : Int) := ⟨_, rfl⟩
          have hq3 := seq_c HCe.out
          have hq4 := fun W (hb : Below We.heap.size We W) => seqS_any (HRe.out.2.2.below hb) (HM2.out.1.f.ok (by decide))
          rw [← hzv] at hq3 hq4
          clear hzv
          go_wp2_with (first | (go_at_call 30; refine hq3.mono ?_; rintro e Wf ⟨rfl, hbf⟩; have hq5 := hq4 Wf hbf; have HBf := Lib.hid hbf; clear hbf hq3 hq4) | (go_at_call 30; refine hq5.mono ?_; rintro e Wg ⟨rfl, hbg⟩; have HBg := Lib.hid (HBf.out.trans (hbg.mono HBf.out.size)); have hig := image_c (HCe.out.below HBg.out); clear hbg hq5) | (go_at_call 28; refine hig.mono ?_; rintro e Wh ⟨AJ, cJ, rfl, hrj, hbh⟩; have hsm := same_row AJ cI cJ 1920 Wh ((HRe.out.1.below HBg.out).below hbh).r hrj.r hil.out.symm (by rw [hil.out]; decide); have HBh := Lib.hid (HBg.out.trans (hbh.mono HBg.out.size)); clear hrj hbh hig) | (go_at_call 18; refine hsm.mono ?_; rintro e Wi ⟨rfl, hbi⟩; have HBi := Lib.hid (HBh.out.trans (hbi.mono HBh.out.size)); clear hbi hsm))
          refine ⟨?rel, ?measure⟩
          case rel => exact ⟨i + 1, S3, pve, m2, b2, AL, cL, n2, by have := HC.out.2.2.2.2.2.1; omega, by go_num, rfl, rfl, HN2.out, HM2.out.2.2.1, HM2.out.2.2.2, HCe.out.below HBi.out, HRe.out.2.1.below HBi.out⟩
          case measure => rw [hw1]; exact meas_lt i ns HC.out.2.2.2.2.2.1
      · have HOK : Hid (b2 = b ∨ b2 = b') := Lib.hid Hnew.out.2.1
        rw [show eo E (some 0) = errV (E 0) from rfl]
        have his := is_any E (errV (E 0)) 101 101 (.inr ⟨0, by decide, rfl, rfl⟩) W7 (HE.out.2.below HD7.out.2.1)
        go_upto_region 23 with (go_at_call 15; refine his.mono ?_; rintro e W7b ⟨rfl, hb7⟩; have HD7b := Lib.hid (And.intro (DkS.below HD7.out.1 hb7) (HD7.out.2.1.trans (hb7.mono HD7.out.2.1.size))); have HR7b := Lib.hid (And.intro (HR7.out.1.below hb7) (HR7.out.2.below hb7)); clear hb7 his)
        have HD7 := Lib.hid (And.intro HD7b.out.1 (And.intro HD7b.out.2 HPL.out))
        have HR7 := HR7b
        have hcr := crash_c HD7.out.1 HD7.out.2.1 HD7.out.2.2 keep AK ck HKP.out.1 HKP.out.2.1 HKP.out.2.2
        rw [← HL.out.2.2] at hcr
        go_upto_region 24 with (go_at_call 21; refine hcr.mono ?_; rintro e W8 ⟨rfl, pv8, hT8⟩; have HT8 := Lib.hid hT8; clear hT8 hcr)
        have hb8 := HT8.out.base HD7.out.1 HD7.out.2.1
        have hop := open_c E HE.out.1 hb8 HT8.out.dk HM2.out.1 HM2.out.2.1 (by decide)
        clear hb8
        go_upto_region 25 with (go_at_call 13; refine hop.mono ?_; rintro e W9 ⟨S2, pv9, rfl, hc9, hlo9, hT9⟩; have HC9 := Lib.hid hc9; have HX9 := Lib.hid (And.intro hlo9 hT9); clear hc9 hlo9 hT9 hop)
        have hrn9 : RowC W9 D R S2 15 pv9 m2 b2 AB b' := ((HR7.out.1.turned (HT8.out.toU S)).reopen HX9.out.2 HX9.out.1)
        have hrw9 : RowC W9 D R S2 15 pv9 m2 b2 A b := ((HR7.out.2.turned (HT8.out.toU S)).reopen HX9.out.2 HX9.out.1)
        have HR9 := Lib.hid (And.intro hrn9 hrw9)
        clear hrn9 hrw9
        have him := image_c HC9.out
        go_upto_region 28 with (go_at_call 28; refine him.mono ?_; rintro e Wa ⟨AI, cI, rfl, hri, hba⟩; have HCa := Lib.hid (HC9.out.below hba); have HRa := Lib.hid (And.intro (HR9.out.1.below hba) (And.intro (HR9.out.2.below hba) hri)); clear hba hri him)
        have hld := load_c2 HCa.out
        obtain ⟨n2, hn2⟩ : ∃ n2, n2 = b2.length := ⟨_, rfl⟩
        rw [← hn2] at hld
        have HN2 := Lib.hid hn2
        clear hn2
        go_upto_region 29 with (go_at_call 16; refine hld.mono ?_; rintro e Wb ⟨AL, cL, rfl, hrl, hbb⟩; have HCb := Lib.hid (HCa.out.below hbb); have HRb := Lib.hid (And.intro (HRa.out.1.below hbb) (And.intro (HRa.out.2.1.below hbb) (And.intro (HRa.out.2.2.below hbb) hrl))); clear hbb hrl hld)
        have hs1 := same_rows A b cL c n2 nb Wb HRb.out.2.2.2.r HRb.out.2.1.r HN2.out Hbn.out (by have := HM2.out.2.2; omega) (by have := Hbl.out; omega)
        have hs2 := fun W (hb : Below Wb.heap.size Wb W) => same_rows AB b' cL cB n2 K W (HRb.out.2.2.2.below hb).r (HRb.out.1.below hb).r HN2.out HB'.out.symm (by have := HM2.out.2.2; omega) (by rw [HB'.out]; have := HKf.out; omega)
        have hil : Hid ((imgL (cleanL 15 m2 b2)).length = 1920) := Lib.hid (by rw [img_len, cleanL_len])
        by_cases hq : b2 = b
        · rw [decide_eq_true hq] at hs1
          clear hs2
          go_upto_region 31 with (go_at_call 18; refine hs1.mono ?_; rintro e Wc ⟨rfl, hbc⟩; have HBc := Lib.hid hbc; clear hbc hs1)
          clear hq
          have hCc := HCb.out.below HBc.out
          have HRc := Lib.hid (And.intro (HRb.out.2.2.1.below HBc.out) (HRb.out.2.2.2.below HBc.out))
          have hop := open_c E HE.out.1 hCc.s.b hCc.s.dk HM2.out.1 (clean_keeps HM2.out.1 (by decide)) (by decide)
          have HCc := Lib.hid hCc
          clear hCc
          go_upto_region 32 with (go_at_call 13; refine hop.mono ?_; rintro e We ⟨S3, pve, rfl, hce, hloe, hTe⟩; have HCe := Lib.hid hce; have HXe := Lib.hid (And.intro hloe hTe); clear hce hloe hTe hop)
          have hre1 : RowC We D R S3 15 pve m2 b2 AI (imgL (cleanL 15 m2 b2)) := HRc.out.1.reopen HXe.out.2 HXe.out.1
          have hre2 : RowC We D R S3 15 pve m2 b2 AL b2 := HRc.out.2.reopen HXe.out.2 HXe.out.1
          have HRe := Lib.hid (And.intro hre1 (And.intro hre2 (HCc.out.s.sl.turn HXe.out.2.t HCc.out.s.nS)))
          clear hre1 hre2
          obtain ⟨zv, hzv⟩ : ∃ z : Int, z = (m2.saves : Int) := ⟨_, rfl⟩
          have hq3 := seq_c HCe.out
          have hq4 := fun W (hb : Below We.heap.size We W) => seqS_any (HRe.out.2.2.below hb) (HM2.out.1.f.ok (by decide))
          rw [← hzv] at hq3 hq4
          clear hzv
          go_wp2_with (first | (go_at_call 30; refine hq3.mono ?_; rintro e Wf ⟨rfl, hbf⟩; have hq5 := hq4 Wf hbf; have HBf := Lib.hid hbf; clear hbf hq3 hq4) | (go_at_call 30; refine hq5.mono ?_; rintro e Wg ⟨rfl, hbg⟩; have HBg := Lib.hid (HBf.out.trans (hbg.mono HBf.out.size)); have hig := image_c (HCe.out.below HBg.out); clear hbg hq5) | (go_at_call 28; refine hig.mono ?_; rintro e Wh ⟨AJ, cJ, rfl, hrj, hbh⟩; have hsm := same_row AJ cI cJ 1920 Wh ((HRe.out.1.below HBg.out).below hbh).r hrj.r hil.out.symm (by rw [hil.out]; decide); have HBh := Lib.hid (HBg.out.trans (hbh.mono HBg.out.size)); clear hrj hbh hig) | (go_at_call 18; refine hsm.mono ?_; rintro e Wi ⟨rfl, hbi⟩; have HBi := Lib.hid (HBh.out.trans (hbi.mono HBh.out.size)); clear hbi hsm))
          refine ⟨?rel, ?measure⟩
          case rel => exact ⟨i + 1, S3, pve, m2, b2, AL, cL, n2, by have := HC.out.2.2.2.2.2.1; omega, by go_num, rfl, rfl, HN2.out, HM2.out.2.2.1, HM2.out.2.2.2, HCe.out.below HBi.out, HRe.out.2.1.below HBi.out⟩
          case measure => rw [hw1]; exact meas_lt i ns HC.out.2.2.2.2.2.1
        · rw [decide_eq_false hq] at hs1
          have hq2 := HOK.out.resolve_left hq
          have hs3 := fun W hb => (show decide (b2 = b') = true from decide_eq_true hq2) ▸ hs2 W hb
          clear hs2 hq hq2
          go_upto_region 31 with (first | (go_at_call 18; refine hs1.mono ?_; rintro e Wd ⟨rfl, hbd⟩; have hs4 := hs3 Wd hbd; have HBd := Lib.hid hbd; clear hbd hs1 hs3) | (go_at_call 18; refine hs4.mono ?_; rintro e Wc ⟨rfl, hbc⟩; have HBc := Lib.hid (HBd.out.trans (hbc.mono HBd.out.size)); clear hbc hs4))
          have hCc := HCb.out.below HBc.out
          have HRc := Lib.hid (And.intro (HRb.out.2.2.1.below HBc.out) (HRb.out.2.2.2.below HBc.out))
          have hop := open_c E HE.out.1 hCc.s.b hCc.s.dk HM2.out.1 (clean_keeps HM2.out.1 (by decide)) (by decide)
          have HCc := Lib.hid hCc
          clear hCc
          go_upto_region 32 with (go_at_call 13; refine hop.mono ?_; rintro e We ⟨S3, pve, rfl, hce, hloe, hTe⟩; have HCe := Lib.hid hce; have HXe := Lib.hid (And.intro hloe hTe); clear hce hloe hTe hop)
          have hre1 : RowC We D R S3 15 pve m2 b2 AI (imgL (cleanL 15 m2 b2)) := HRc.out.1.reopen HXe.out.2 HXe.out.1
          have hre2 : RowC We D R S3 15 pve m2 b2 AL b2 := HRc.out.2.reopen HXe.out.2 HXe.out.1
          have HRe := Lib.hid (And.intro hre1 (And.intro hre2 (HCc.out.s.sl.turn HXe.out.2.t HCc.out.s.nS)))
          clear hre1 hre2
          obtain ⟨zv, hzv⟩ : ∃ z : Int, z = (m2.saves : Int) := ⟨_, rfl⟩
          have hq3 := seq_c HCe.out
          have hq4 := fun W (hb : Below We.heap.size We W) => seqS_any (HRe.out.2.2.below hb) (HM2.out.1.f.ok (by decide))
          rw [← hzv] at hq3 hq4
          clear hzv
          go_wp2_with (first | (go_at_call 30; refine hq3.mono ?_; rintro e Wf ⟨rfl, hbf⟩; have hq5 := hq4 Wf hbf; have HBf := Lib.hid hbf; clear hbf hq3 hq4) | (go_at_call 30; refine hq5.mono ?_; rintro e Wg ⟨rfl, hbg⟩; have HBg := Lib.hid (HBf.out.trans (hbg.mono HBf.out.size)); have hig := image_c (HCe.out.below HBg.out); clear hbg hq5) | (go_at_call 28; refine hig.mono ?_; rintro e Wh ⟨AJ, cJ, rfl, hrj, hbh⟩; have hsm := same_row AJ cI cJ 1920 Wh ((HRe.out.1.below HBg.out).below hbh).r hrj.r hil.out.symm (by rw [hil.out]; decide); have HBh := Lib.hid (HBg.out.trans (hbh.mono HBg.out.size)); clear hrj hbh hig) | (go_at_call 18; refine hsm.mono ?_; rintro e Wi ⟨rfl, hbi⟩; have HBi := Lib.hid (HBh.out.trans (hbi.mono HBh.out.size)); clear hbi hsm))
          refine ⟨?rel, ?measure⟩
          case rel => exact ⟨i + 1, S3, pve, m2, b2, AL, cL, n2, by have := HC.out.2.2.2.2.2.1; omega, by go_num, rfl, rfl, HN2.out, HM2.out.2.2.1, HM2.out.2.2.2, HCe.out.below HBi.out, HRe.out.2.1.below HBi.out⟩
          case measure => rw [hw1]; exact meas_lt i ns HC.out.2.2.2.2.2.1
    · obtain rfl : i = ns := by omega
      have HB := Lib.hid hC.s.b
      clear hC hA
      go_wp2_with fail
      go_ret
      exact ⟨rfl, HB.out⟩
end Go.Proofs.YtbeeehfaeknhmaaDoor
