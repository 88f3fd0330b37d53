import Derived.Test.YtbeeehfaeknhmaaDoorSnb
/-
  SlotsRoom's walk.
-/
namespace Go.Proofs.YtbeeehfaeknhmaaDoor
open Go.RowKit

set_option maxRecDepth 100000 in
set_option maxHeartbeats 1200000 in
theorem room_walk (E : Nat → Addr) (zn zm : Int) (w0 : World) (hE0 : ErrsAt E w0) : Calls Tryd.prog 6 #[.int .i64 zn, .int .i64 zm] w0 fun e w' => e = .returned (.bool true) ∧ Below w0.heap.size w0 w' := by
  have hE := hE0.toD
  have hfi := first_any E w0 hE
  obtain ⟨n0, hn0, hn20⟩ := exists_mod zn 20 (by omega)
  obtain ⟨m0, hm0, hm300⟩ := exists_mod zm 300 (by omega)
  have hnu := fun w => number_nat zn 20 n0 w (by omega) hn0
  have hmu := fun w => number_nat zm 300 m0 w (by omega) hm0
  obtain ⟨N, hN⟩ : ∃ N, N = n0 + 3 := ⟨_, rfl⟩
  obtain ⟨mo, hmo⟩ : ∃ mo, mo = m0 + 1 := ⟨_, rfl⟩
  have hN3 : 3 ≤ N ∧ N ≤ 22 := by omega
  have hmo3 : 1 ≤ mo ∧ mo ≤ 300 := by omega
  have e1 : ((n0 : Nat) : Int) + 3 = (N : Int) := by omega
  have e2 : ((m0 : Nat) : Int) + 1 = (mo : Int) := by omega
  have HE := Lib.hid (And.intro hE hE0)
  obtain ⟨zN, hzN⟩ : ∃ z : Int, z = (N : Int) := ⟨_, rfl⟩
  obtain ⟨zmo, hzmo⟩ : ∃ z : Int, z = (mo : Int) := ⟨_, rfl⟩
  obtain ⟨zn0, hzn0⟩ : ∃ z : Int, z = (n0 : Int) := ⟨_, rfl⟩
  obtain ⟨zm0, hzm0⟩ : ∃ z : Int, z = (m0 : Int) := ⟨_, rfl⟩
  rw [← hzn0] at hnu e1
  rw [← hzm0] at hmu e2
  have hnew := fun W (hb : Below w0.heap.size w0 W) => new_m (N := N) (by omega) w0.heap.size W hb.size
  rw [← hzN] at hnew e1
  rw [← hzmo] at e2
  have hw1 : wrap64 (zn0 + 3) = zN := by rw [e1, hzN]; unfold wrap64; omega
  have hw2 : wrap64 (zm0 + 1) = zmo := by rw [e2, hzmo]; unfold wrap64; omega
  have HZ := Lib.hid (And.intro hzN (And.intro hzmo (And.intro hN3 hmo3)))
  clear hE hE0 hn0 hn20 hm0 hm300 hN hmo hN3 hmo3 hzn0 hzm0 hzN hzmo e1 e2
  go_enter Tryd.func6, Tryd.ntmps6
  go_upto_region 6 with (first | (go_at_call 9; refine hfi.mono ?_; rintro e w1 ⟨rfl, hb1⟩; have HB1 := Lib.hid hb1; clear hb1 hfi) | (go_at_call 10; refine (hnu _).mono ?_; rintro e w2 ⟨rfl, q2, rfl⟩; clear hnu) | (go_at_call 10; refine (hmu _).mono ?_; rintro e w3 ⟨rfl, q3, rfl⟩; clear hmu))
  have hbW : Below w0.heap.size w0 (w1.drewN (q2 + q3)) := HB1.out.trans ((Below.drewNr (q2 + q3)).mono HB1.out.size)
  refine wp_world (fun W => Below w0.heap.size w0 W) hbW ?_
  clear hbW HB1
  intro W1 hb1
  have hnew1 := hnew W1 hb1
  have HB1 := Lib.hid hb1
  clear hnew hb1
  go_upto_region 9 with (go_at_call 11; refine hnew1.mono ?_; rintro e W2 ⟨D, R, pv, rfl, hd, hb⟩; have HD := Lib.hid (And.intro hd (HB1.out.trans (hb.mono HB1.out.size))); clear hd hb hnew1)
  clear hw1 hw2
  have hop := open_c (m := ⟨0, 0, 0⟩) (b := []) E HE.out.1 HD.out.2 HD.out.1 (fit_zero N) (clean_keeps (fit_zero N) (by have := HZ.out.2.2.1; omega)) (by have := HZ.out.2.2.1; omega)
  go_upto_region 10 with (go_at_call 13; refine hop.mono ?_; rintro e W3 ⟨S, pv3, rfl, hc, _, _⟩; have HC := Lib.hid hc; clear hc hop)
  obtain ⟨zr, hzr⟩ : ∃ z : Int, z = ((roomN N : Nat) : Int) := ⟨_, rfl⟩
  obtain ⟨zh, hzh⟩ : ∃ z : Int, z = ((halfN N : Nat) : Int) := ⟨_, rfl⟩
  have htd : Int.tdiv (zN - 1) 2 = zh := by rw [Int.tdiv_eq_ediv_of_nonneg (by rw [HZ.out.1]; have := HZ.out.2.2.1; omega), hzh, HZ.out.1]; unfold halfN; have := HZ.out.2.2.1; omega
  have hx4 : wrap64 zh = zh := by rw [hzh]; have := HZ.out.2.2.1; unfold halfN wrap64; omega
  have hrz : wrap64 (zh * 128) = zr := by rw [hzr, hzh]; have := HZ.out.2.2.1; unfold roomN halfN wrap64; omega
  clear hzh
  have hx1 : wrap64 (zN - 1) = zN - 1 := by rw [HZ.out.1]; have := HZ.out.2.2.1; unfold wrap64; omega
  have hrb : 128 ≤ roomN N ∧ roomN N ≤ 2000 := by have := HZ.out.2.2.1; unfold roomN halfN; omega
  have hx2 : wrap64 zr = zr := by rw [hzr]; unfold wrap64; omega
  have HR := Lib.hid (And.intro hzr hrb)
  have hrm : ∀ W {m b} {pv}, CleanS w0 W D R S N pv m b → Calls Tryd.prog 31 #[.pointer (some ⟨S, 0, none⟩)] W fun e W1 => e = .returned (.int .i64 zr) ∧ Below W.heap.size W W1 := fun W {m b pv} h => by rw [HR.out.1]; exact room_c h
  have hsq0 : ∀ W {b} {pv}, CleanS w0 W D R S N pv ⟨0, 0, 0⟩ b → Calls Tryd.prog 30 #[.pointer (some ⟨S, 0, none⟩)] W fun e W1 => e = .returned (.int .i64 0) ∧ Below W.heap.size W W1 := fun W {b pv} h => seq_c h
  clear hzr hrb
  go_upto_region 12 with (first | (go_at_call 31; refine (hrm _ HC.out).mono ?_; rintro e W4 ⟨rfl, hb4⟩; have HC4 := Lib.hid (HC.out.below hb4); clear hb4) | (go_at_call 30; refine (hsq0 _ HC4.out).mono ?_; rintro e W5 ⟨rfl, hb5⟩; have HC5 := Lib.hid (HC4.out.below hb5); clear hb5))
  clear hrz hx1 hx2 hsq0 htd hx4
  have hfi : ∀ W, Calls Tryd.prog 23 #[.int .i64 zN, .int .i64 zr] W fun e W1 => ∃ A c, e = .returned (.slice A (roomN N) c) ∧ W1.ownsRow W.heap.size 5 1 (.slice A (roomN N) c) (roomN N) (bcells (fileL zN (roomN N))) ∧ Below W.heap.size W W1 := fun W => by rw [HR.out.1]; exact file_any zN (roomN N) (by have := HR.out.2; omega) W
  go_upto_region 13 with (first | (go_at_call 31; refine (hrm _ HC5.out).mono ?_; rintro e W6 ⟨rfl, hb6⟩; have HC6 := Lib.hid (HC5.out.below hb6); clear hb6) | (go_at_call 23; refine (hfi _).mono ?_; rintro e W7 ⟨A, c, rfl, ho7, hb7⟩; have HC7 := Lib.hid (HC6.out.below hb7); have HA7 := Lib.hid (And.intro (RowK.own HC6.out.s ho7) (own_capU ho7)); clear hb7 ho7))
  clear hfi
  have hsv := save_c E HE.out.1 HC7.out HA7.out.1 c (by rw [fileL_len]; exact HA7.out.2) (by rw [fileL_len]; exact Nat.le_refl _) (by decide)
  rw [fileL_len] at hsv
  have hsq1 : ∀ W {n b} {pv}, CleanS w0 W D R S N pv (SM.next ⟨0, 0, 0⟩ n) b → Calls Tryd.prog 30 #[.pointer (some ⟨S, 0, none⟩)] W fun e W1 => e = .returned (.int .i64 1) ∧ Below W.heap.size W W1 := fun W {n b pv} h => seq_c h
  go_upto_region 15 with (first | (go_at_call 25; refine hsv.mono ?_; rintro e W8 ⟨rfl, pv8, hu8, hc8⟩; have HC8 := Lib.hid hc8; have HA8 := Lib.hid (HA7.out.1.turned hu8); clear hu8 hc8 hsv) | (go_at_call 30; refine (hsq1 _ HC8.out).mono ?_; rintro e W9 ⟨rfl, hb9⟩; have HC9 := Lib.hid (HC8.out.below hb9); have HA9 := Lib.hid (HA8.out.below hb9); clear hb9))
  have him := image_c HC9.out
  go_upto_region 16 with (go_at_call 28; refine him.mono ?_; rintro e Wa ⟨AI, cI, rfl, hri, hba⟩; have HCa := Lib.hid (HC9.out.below hba); have HAa := Lib.hid (HA9.out.below hba); have HIa := Lib.hid hri; clear hba hri him)
  obtain ⟨zt, hzt⟩ : ∃ z : Int, z = zr + zmo := ⟨_, rfl⟩
  have hx3 : wrap64 (zr + zmo) = zt := by rw [hzt, HR.out.1, HZ.out.2.1]; have := HR.out.2; have := HZ.out.2.2.2; unfold wrap64; omega
  have hfi : ∀ W, Calls Tryd.prog 23 #[.int .i64 1, .int .i64 zt] W fun e W1 => ∃ A c, e = .returned (.slice A (roomN N + mo) c) ∧ W1.ownsRow W.heap.size 5 1 (.slice A (roomN N + mo) c) (roomN N + mo) (bcells (fileL 1 (roomN N + mo))) ∧ Below W.heap.size W W1 := fun W => by rw [hzt, HR.out.1, HZ.out.2.1, ← Int.natCast_add]; exact file_any 1 (roomN N + mo) (by have := HR.out.2; have := HZ.out.2.2.2; omega) W
  clear hzt
  have hsf : ∀ W A c {pv m b}, CleanS w0 W D R S N pv m b → RowC W D R S N pv m b A (fileL 1 (roomN N + mo)) → roomN N + mo ≤ c → Calls Tryd.prog 25 #[.pointer (some ⟨S, 0, none⟩), .slice A (roomN N + mo) c] W fun e W1 => e = .returned (errV (E 6)) ∧ ∃ pv1, DkU W W1 w0.heap.size D R S (mkD (cleanL N m b) (-1)) (mkD (cleanL N m b) (-1)) pv pv1 ∧ CleanS w0 W1 D R S N pv1 m b := fun W A c {pv m b} h hr hc => by
    have q := save_full E HE.out.1 h hr c (by rw [fileL_len]; exact hc) (by rw [fileL_len]; have := HZ.out.2.2.2; omega)
    rw [fileL_len] at q
    exact q
  go_upto_region 17 with (first | (go_at_call 31; refine (hrm _ HCa.out).mono ?_; rintro e Wb ⟨rfl, hbb⟩; have HCb := Lib.hid (HCa.out.below hbb); have HAb := Lib.hid (HAa.out.below hbb); have HIb := Lib.hid (HIa.out.below hbb); clear hbb) | (go_at_call 23; refine (hfi _).mono ?_; rintro e Wc ⟨A2, c2, rfl, hoc, hbc⟩; have HCc := Lib.hid (HCb.out.below hbc); have HAc := Lib.hid (HAb.out.below hbc); have HIc := Lib.hid (HIb.out.below hbc); have HR2 := Lib.hid (And.intro (RowK.own HCb.out.s hoc) (own_capU hoc)); clear hbc hoc) | (go_at_call 25; refine (hsf _ _ _ HCc.out HR2.out.1 HR2.out.2).mono ?_; rintro e Wd ⟨rfl, pvd, hud, hcd⟩; have HCd := Lib.hid hcd; have HAd := Lib.hid (HAc.out.turned hud); have HId := Lib.hid (HIc.out.turned hud); clear hud hcd))
  clear hfi hsf hx3
  have hld := load_c HCd.out
  rw [fileL_len] at hld
  go_upto_region 18 with (go_at_call 16; refine hld.mono ?_; rintro e We ⟨AL, cL, rfl, hrl, hbe⟩; have HCe := Lib.hid (HCd.out.below hbe); have HAe := Lib.hid (HAd.out.below hbe); have HIe := Lib.hid (HId.out.below hbe); have HLe := Lib.hid hrl; clear hbe hrl hld)
  have his := is_any E (errV (E 6)) 107 107 (.inr ⟨6, by decide, rfl, rfl⟩) We (HE.out.2.below HCe.out.s.b)
  have hil : (imgL (cleanL N (SM.next ⟨0, 0, 0⟩ (roomN N)) (fileL zN (roomN N)))).length = N * 128 := by rw [img_len, cleanL_len]
  have HIL := Lib.hid hil
  have hN400 : N * 128 ≤ 1000000 := by have := HZ.out.2.2.1; omega
  have HN4 := Lib.hid hN400
  clear hil hN400
  go_wp2_with (first | (go_at_call 15; refine his.mono ?_; rintro e Wf ⟨rfl, hbf⟩; have HCf := Lib.hid (HCe.out.below hbf); have HAf := Lib.hid (HAe.out.below hbf); have HIf := Lib.hid (HIe.out.below hbf); have hsm := same_row A cL c (roomN N) Wf (HLe.out.below hbf) HAf.out.r (by rw [fileL_len]) (by rw [fileL_len]; have := HR.out.2; omega); clear hbf his) | (go_at_call 18; refine hsm.mono ?_; rintro e Wg ⟨rfl, hbg⟩; have HCg := Lib.hid (HCf.out.below hbg); have HIg := Lib.hid (HIf.out.below hbg); have him := image_c HCg.out; clear hbg hsm) | (go_at_call 28; refine him.mono ?_; rintro e Wh ⟨AJ, cJ, rfl, hrj, hbh⟩; have HCh := Lib.hid (HCg.out.below hbh); have hsm2 := same_row AJ cI cJ (N * 128) Wh (HIg.out.below hbh).r hrj.r HIL.out.symm (by rw [HIL.out]; exact HN4.out); clear hbh hrj him) | (go_at_call 18; refine hsm2.mono ?_; rintro e Wi ⟨rfl, hbi⟩; have HCi := Lib.hid (HCh.out.below hbi); have hsq := hsq1 _ HCi.out; clear hbi hsm2) | (go_at_call 30; refine hsq.mono ?_; rintro e Wj ⟨rfl, hbj⟩; have HCj := Lib.hid (HCi.out.below hbj); clear hbj hsq))
  go_ret
  exact ⟨rfl, HCj.out.s.b⟩
end Go.Proofs.YtbeeehfaeknhmaaDoor
