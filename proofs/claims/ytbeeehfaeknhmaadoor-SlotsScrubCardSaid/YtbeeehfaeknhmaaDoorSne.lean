import Derived.Test.YtbeeehfaeknhmaaDoorSnb
/-
  SlotsScrub's walk.
-/
namespace Go.Proofs.YtbeeehfaeknhmaaDoor
open Go.RowKit

theorem meas_lt (k n : Nat) (h : k < n) : n - (intOf (.int .i64 ((k : Int) + 1))).toNat < n - (intOf (.int .i64 (k : Int))).toNat := by
  show n - ((k : Int) + 1).toNat < n - ((k : Int)).toNat
  omega
/-- sectors that are not in use were written -/
structure Dirty (ss : List Sec) (l : List Blk) (u k : Nat) : Prop where
  n : ss.length = l.length
  c : ∀ i, i < u → ss[i]? = (l[i]?).map secOf
  p : ∀ s ∈ ss, s.pend.length ≤ k
def topsB (ss : List Sec) : List Blk := ss.map fun s => ⟨s.top, s.top_len⟩
theorem topsB_sync (ss : List Sec) : ss.map Sec.sync = (topsB ss).map secOf := by
  unfold topsB
  rw [List.map_map]
  rfl
theorem Dirty.keeps {ss : List Sec} {N k : Nat} {m : SM} {b : List UInt8} (h : Dirty ss (cleanL N m b) (m.from N + needS m.size) k) (hf : Fit N m b) (hN : 0 < N) : Keeps N (topsB ss) m b := by
  have hk := clean_keeps hf hN
  have key : ∀ i B, i < m.from N + needS m.size → (cleanL N m b)[i]? = some B → (topsB ss)[i]? = some B := fun i B hi e => by
    unfold topsB
    rw [List.getElem?_map, h.c i hi, e]
    rfl
  exact ⟨by unfold topsB; rw [List.length_map, h.n, cleanL_len], key 0 _ (by have := from_pos m N; omega) hk.h, fun j hj => key _ _ (by omega) (hk.k j hj)⟩
theorem Dirty.wr {ss : List Sec} {l : List Blk} {u k : Nat} (h : Dirty ss l u k) (i : Nat) (hi : u ≤ i) (B : Blk) : Dirty (setS ss i B) l u (k + 1) :=
  ⟨by rw [setS_len]; exact h.n, fun j hj => by rw [setS_get _ _ _ _ (by omega)]; exact h.c j hj, fun s hs => (PL.wr (d := ⟨ss, false, -1⟩) h.p i B) s hs⟩
set_option maxRecDepth 100000 in
set_option maxHeartbeats 1600000 in
theorem scrub_walk (E : Nat → Addr) (zs : Int) (A : Option Addr) (l : List Int) (ca : Nat) (w0 : World) (hE : ErrD E w0) (hl0 : SlRead w0 A (ints .i64 l)) : Calls Tryd.prog 7 #[.int .i64 zs, .slice A l.length ca] w0 fun e w' => e = .returned (.bool true) ∧ Below w0.heap.size w0 w' := by
  have hfi := first_any E w0 hE
  obtain ⟨n, hn, hn9⟩ := exists_mod zs 900 (by omega)
  have hnu := fun w => number_nat zs 900 n w (by omega) hn
  have HE := Lib.hid hE
  have hnew := fun W (hb : Below w0.heap.size w0 W) => new_m (N := 17) (by decide) w0.heap.size W hb.size
  clear hE hn
  go_enter Tryd.func7, Tryd.ntmps7
  go_upto_region 4 with (go_at_call 9; refine hfi.mono ?_; rintro e w1 ⟨rfl, hb1⟩; have HB1 := Lib.hid hb1; clear hb1 hfi)
  by_cases h20 : 20 < l.length
  · have d1 : (20 : Int) < (l.length : Int) := by omega
    clear h20
    go_wp2_with fail
    go_ret
    exact ⟨rfl, HB1.out⟩
  have d1 : ¬ (20 : Int) < (l.length : Int) := by omega
  have hl20 : l.length ≤ 20 := by omega
  clear h20
  go_upto_region 7 with (go_at_call 10; refine (hnu _).mono ?_; rintro e w2 ⟨rfl, q2, rfl⟩; clear hnu)
  have hbW : Below w0.heap.size w0 (w1.drewN q2) := HB1.out.trans ((Below.drewNr q2).mono HB1.out.size)
  refine wp_world (fun W => Below w0.heap.size w0 W) hbW ?_
  clear hbW HB1 d1
  intro W1 hb1
  have hnew1 := hnew W1 hb1
  have HB1 := Lib.hid hb1
  clear hnew hb1
  go_upto_region 10 with (go_at_call 11; refine hnew1.mono ?_; rintro e W2 ⟨D, R, pv, rfl, hd, hb⟩; have HD := Lib.hid (And.intro hd (HB1.out.trans (hb.mono HB1.out.size))); clear hd hb hnew1)
  have hop := open_c (m := ⟨0, 0, 0⟩) (b := []) E HE.out HD.out.2 HD.out.1 (fit_zero 17) (clean_keeps (fit_zero 17) (by decide)) (by decide)
  go_upto_region 11 with (go_at_call 13; refine hop.mono ?_; rintro e W3 ⟨S, pv3, rfl, hc, _, _⟩; have HC := Lib.hid hc; clear hc hop)
  have hfl := file_any 3 n (by omega) W3
  have hn9' : n < 900 := by omega
  have HN := Lib.hid hn9'
  go_upto_region 12 with (go_at_call 23; refine hfl.mono ?_; rintro e W4 ⟨AB, cB, rfl, ho4, hb4⟩; have HC4 := Lib.hid (HC.out.below hb4); have HA4 := Lib.hid (And.intro (RowK.own HC.out.s ho4) (own_capU ho4)); clear hb4 ho4 hfl)
  have hsv := save_c E HE.out HC4.out HA4.out.1 cB (by rw [fileL_len]; exact HA4.out.2) (by rw [fileL_len]; have := HN.out; unfold roomN halfN; omega) (by decide)
  rw [fileL_len] at hsv
  clear hn9 hn9'
  go_upto_region 14 with (go_at_call 25; refine hsv.mono ?_; rintro e W5 ⟨rfl, pv5, hu5, hc5⟩; have HC5 := Lib.hid hc5; have HA5 := Lib.hid (HA4.out.1.turned hu5); clear hu5 hc5 hsv)
  obtain ⟨m1, hm1⟩ : ∃ m1, m1 = SM.next ⟨0, 0, 0⟩ n := ⟨_, rfl⟩
  obtain ⟨b1, hb1'⟩ : ∃ b1, b1 = fileL 3 n := ⟨_, rfl⟩
  rw [← hm1, ← hb1'] at HC5 HA5
  have HM1 : Hid (m1.size = n ∧ m1.from 17 = 1 ∧ m1.saves = 1 ∧ b1.length = n) := Lib.hid (by rw [hm1, hb1']; exact ⟨rfl, rfl, rfl, fileL_len _ _⟩)
  clear hm1 hb1' HC4 HA4
  have him := image_c HC5.out
  go_upto_region 15 with (go_at_call 28; refine him.mono ?_; rintro e W6 ⟨AI, cI, rfl, hri, hb6⟩; have HC6 := Lib.hid (HC5.out.below hb6); have HA6 := Lib.hid (HA5.out.below hb6); have HI6 := Lib.hid hri; clear hb6 hri him)
  obtain ⟨u, hu⟩ : ∃ u, u = 1 + needS n := ⟨_, rfl⟩
  have hub : 1 ≤ u ∧ u ≤ 9 := by rw [hu]; have := HN.out; unfold needS; omega
  obtain ⟨zn, hzn⟩ : ∃ z : Int, z = (n : Int) := ⟨_, rfl⟩
  obtain ⟨zu, hzu⟩ : ∃ z : Int, z = (u : Int) := ⟨_, rfl⟩
  obtain ⟨zd, hzd⟩ : ∃ z : Int, z = (needS n : Int) := ⟨_, rfl⟩
  obtain ⟨zq, hzq⟩ : ∃ z : Int, z = zn + 127 := ⟨_, rfl⟩
  have hx1 : wrap64 (zn + 127) = zq := by rw [hzq, hzn]; have := HN.out; unfold wrap64; omega
  have htd : Int.tdiv zq 128 = zd := by rw [hzq, Int.tdiv_eq_ediv_of_nonneg (by omega), hzd, hzn]; unfold needS; omega
  have hx2 : wrap64 zd = zd := by rw [hzd]; have := HN.out; unfold needS wrap64; omega
  have hx3 : wrap64 (1 + zd) = zu := by rw [hzd, hzu, hu]; have := HN.out; unfold needS wrap64; omega
  rw [← hzn]
  have HU := Lib.hid (And.intro hu (And.intro hub hzu))
  clear hzq hzd hzn hu hub hzu
  go_wp2_with fail
  try rw [hx3]
  clear hx1 hx2 hx3 htd
  have hd6 := HC6.out.s.dk
  have hb6 := HC6.out.s.b
  have HD6 := Lib.hid (And.intro hd6 hb6)
  go_loopw [12] (fun x wr => ∃ (k : Nat) (ss : List Sec) (pvk : Nat → Value), k ≤ l.length ∧ x = .int .i64 (k : Int) ∧ DkT W6 wr w0.heap.size D R (mkD (cleanL 17 m1 b1) (-1)) ⟨ss, false, -1⟩ pv5 pvk ∧ Dirty ss (cleanL 17 m1 b1) u k) (fun x _ => l.length - (intOf x).toNat)
  case atStart => exact ⟨0, (mkD (cleanL 17 m1 b1) (-1)).ss, pv5, by omega, rfl, DkT.refl hd6 (Below.refl _ _), ⟨by simp [mkD], fun i _ => by unfold mkD; rw [List.getElem?_map], fun s hs => by obtain ⟨B, _, rfl⟩ := List.mem_map.1 hs; exact Nat.le_refl _⟩⟩
  clear hd6 hb6
  case round =>
    obtain ⟨k, ss, pvk, hk, rfl, hT, hdy⟩ := hrel
    have hbr := hT.base HD6.out.1 HD6.out.2
    by_cases hlt : k < l.length
    · have hlt' : (k : Int) < (l.length : Int) := by omega
      obtain ⟨bl, ol, x, hOl, hcl, _⟩ := (hl0.below hbr).at_ (j := k) hlt
      obtain ⟨K, hKx, hK17⟩ := exists_mod x (17 - zu) (by rw [HU.out.2.2]; have := HU.out.2.1; omega)
      obtain ⟨zt, hzt⟩ : ∃ z : Int, z = 17 - zu := ⟨_, rfl⟩
      rw [← hzt] at hKx hK17
      have hnu := fun w => number_nat x zt K w (by rw [hzt, HU.out.2.2]; have := HU.out.2.1; omega) hKx
      have hx4 : wrap64 (17 - zu) = zt := by rw [hzt, HU.out.2.2]; have := HU.out.2.1; unfold wrap64; omega
      obtain ⟨q, hq⟩ : ∃ q, q = u + K := ⟨_, rfl⟩
      obtain ⟨zq, hzq⟩ : ∃ z : Int, z = (q : Int) := ⟨_, rfl⟩
      obtain ⟨zK, hzK⟩ : ∃ z : Int, z = (K : Int) := ⟨_, rfl⟩
      rw [← hzK] at hnu
      have hq17 : u ≤ q ∧ q < 17 := by rw [hzt, HU.out.2.2] at hK17; omega
      have hx5 : wrap64 (zu + zK) = zq := by rw [hzq, hq, hzK, HU.out.2.2]; unfold wrap64; omega
      have HQ := Lib.hid (And.intro hq17 hzq)
      have HT := Lib.hid (And.intro hT (And.intro hdy (And.intro hbr hlt)))
      subst hOl
      clear hKx hK17 hzt hq hzK hq17 hzq hT hdy hbr hlt
      go_upto_region 20 with (go_at_call 10; refine (hnu _).mono ?_; rintro e Wa ⟨rfl, qa, rfl⟩)
      have hcl2 : (wr.drewN qa).cell? ⟨bl, ol + k, none⟩ = some (.int .i64 x) := hcl
      have hba : Below wr.heap.size wr (wr.drewN qa) := Below.drewNr qa
      have hTa := HT.out.1.below hba
      have hbra := HT.out.2.2.1.trans (hba.mono HT.out.2.2.1.size)
      have HTa := Lib.hid (And.intro hTa hbra)
      try rw [hx5]
      clear hcl hnu hx4 hx5 hba hTa hbra
      generalize wr.drewN qa = Wa at *
      have hfl := file_any x 128 (by decide) Wa
      obtain ⟨F, hF⟩ : ∃ F : Blk, F.l = fileL x 128 := ⟨⟨fileL x 128, fileL_len _ _⟩, rfl⟩
      rw [← hF] at hfl
      clear hF
      have hwr : ∀ W A c, Wa.heap.size ≤ W.heap.size → W.ownsRow Wa.heap.size 5 1 (.slice A 128 c) 128 (bcells F.l) → Below Wa.heap.size Wa W → Calls Tryd.prog 32 #[.pointer (some ⟨D, 0, none⟩), .int .i64 zq, .slice A 128 c] W fun e w' => e = .returned .nilIface ∧ ∃ pv', DkT W6 w' w0.heap.size D R (mkD (cleanL 17 m1 b1) (-1)) ⟨setS ss q F, false, -1⟩ pv5 pv' := fun W A c _ ho hb => by
        obtain ⟨gb, ob, e, hl, hcell⟩ := (SlRead.of_own ho) (by rw [bcells_len, F.h]; decide)
        have hlo : Wa.heap.size ≤ gb := by
          obtain ⟨A', c', e2, _, _, hA⟩ := own_slice ho
          cases e2
          exact (hA _ e).1
        subst e
        have hTb := HTa.out.1.below hb
        have hw := write_m E w0 HE.out (HTa.out.2.trans (hb.mono HTa.out.2.size)) hTb.dk (PL.mono (d := ⟨ss, false, -1⟩) (k := k) HT.out.2.1.p (by have := HT.out.2.2.2; omega)) q (by rw [show (DM.mk ss false (-1)).ss.length = ss.length from rfl, HT.out.2.1.n, cleanL_len]; exact HQ.out.1.2) F gb ob c hcell (fun hh => by have := HTa.out.1.dk.ltF hh; omega)
        rw [← HQ.out.2, bad_neg, ev_false, wr_neg] at hw
        refine hw.mono ?_
        rintro e w' ⟨rfl, pv', hT'⟩
        exact ⟨rfl, pv', hTb.trans hT'⟩
      have hw1 : wrap64 ((k : Int) + 1) = (k : Int) + 1 := by unfold wrap64; omega
      clear hl20
      go_wp2_with (first | (go_at_call 23; refine hfl.mono ?_; rintro e Wb ⟨A2, c2, rfl, ho2, hb2⟩; have hw2 := hwr Wb A2 c2 hb2.size ho2 hb2; clear ho2 hb2 hfl) | (go_at_call 32; refine hw2.mono ?_; rintro e Wc ⟨rfl, pvc, hTc⟩; have HTc := Lib.hid hTc; clear hTc hw2))
      refine ⟨?rel, ?measure⟩
      case rel => exact ⟨k + 1, _, pvc, by have := HT.out.2.2.2; omega, by go_num, HTc.out, HT.out.2.1.wr q HQ.out.1.1 _⟩
      case measure => rw [hw1]; exact meas_lt k l.length HT.out.2.2.2
    · obtain rfl : k = l.length := by omega
      have hge : ¬ ((l.length : Int) < (l.length : Int)) := by omega
      have hsy := sync_m E (HE.out.below hbr) hT.dk
      rw [show (DM.mk ss false (-1)).bad = false from rfl, ev_false, sy_neg, topsB_sync] at hsy
      have hfit : Fit 17 m1 b1 := HC6.out.f
      have hkp : Keeps 17 (topsB ss) m1 b1 := by
        refine Dirty.keeps (k := l.length) ?_ hfit (by decide)
        rw [HM1.out.2.1, HM1.out.1, ← HU.out.1]
        exact hdy
      have HT := Lib.hid (And.intro hT (And.intro hbr (And.intro hfit hkp)))
      clear hT hbr hfit hkp hdy hlt hk hl20
      go_upto_region 24 with (go_at_call 33; refine hsy.mono ?_; rintro e W7 ⟨rfl, pv7, hT7⟩; have HT7 := Lib.hid (HT.out.1.trans hT7); clear hT7 hsy)
      have hop := open_c E HE.out (HT7.out.base HD6.out.1 HD6.out.2) HT7.out.dk HT.out.2.2.1 HT.out.2.2.2 (by decide)
      go_upto_region 25 with (go_at_call 13; refine hop.mono ?_; rintro e W8 ⟨S2, pv8, rfl, hc, hlo, hT8⟩; have HC8 := Lib.hid hc; have HX8 := Lib.hid (And.intro hlo (HT7.out.trans hT8)); clear hc hlo hT8 hop)
      have ha8 : RowC W8 D R S2 17 pv8 m1 b1 AB b1 := by
        have h1 := HA6.out
        exact h1.reopen HX8.out.2 (Nat.le_trans HT7.out.t.size HX8.out.1)
      have hi8 : RowC W8 D R S2 17 pv8 m1 b1 AI (imgL (cleanL 17 m1 b1)) := by
        have h1 := HI6.out
        exact h1.reopen HX8.out.2 (Nat.le_trans HT7.out.t.size HX8.out.1)
      have HR8 := Lib.hid (And.intro ha8 hi8)
      clear ha8 hi8 HT HX8
      have hld := load_c HC8.out
      rw [HM1.out.2.2.2] at hld
      go_upto_region 28 with (go_at_call 16; refine hld.mono ?_; rintro e W9 ⟨AL, cL, rfl, hrl, hb9⟩; have HC9 := Lib.hid (HC8.out.below hb9); have HR9 := Lib.hid (And.intro (HR8.out.1.below hb9) (HR8.out.2.below hb9)); have HL9 := Lib.hid hrl; clear hrl hb9 hld)
      have hsm := same_row AB cL cB n W9 HL9.out HR9.out.1.r HM1.out.2.2.2.symm (by rw [HM1.out.2.2.2]; have := HN.out; omega)
      have hsq : ∀ W, CleanS w0 W D R S2 17 pv8 m1 b1 → Calls Tryd.prog 30 #[.pointer (some ⟨S2, 0, none⟩)] W fun e W1 => e = .returned (.int .i64 1) ∧ Below W.heap.size W W1 := fun W h => by
        have q := seq_c h
        rw [HM1.out.2.2.1] at q
        exact q
      have hil : Hid ((imgL (cleanL 17 m1 b1)).length = 2176) := Lib.hid (by rw [img_len, cleanL_len])
      go_wp2_with (first | (go_at_call 18; refine hsm.mono ?_; rintro e Wa ⟨rfl, hba⟩; have HCa := Lib.hid (HC9.out.below hba); have HIa := Lib.hid (HR9.out.2.below hba); have him := image_c HCa.out; clear hba hsm) | (go_at_call 28; refine him.mono ?_; rintro e Wb ⟨AJ, cJ, rfl, hrj, hbb⟩; have HCb := Lib.hid (HCa.out.below hbb); have hsm2 := same_row AI cJ cI 2176 Wb hrj.r (HIa.out.below hbb).r hil.out.symm (by rw [hil.out]; decide); clear hbb hrj him) | (go_at_call 18; refine hsm2.mono ?_; rintro e Wc ⟨rfl, hbc⟩; have HCc := Lib.hid (HCb.out.below hbc); have hsq1 := hsq _ HCc.out; clear hbc hsm2) | (go_at_call 30; refine hsq1.mono ?_; rintro e Wd ⟨rfl, hbd⟩; have HCd := Lib.hid (HCc.out.below hbd); clear hbd hsq1))
      go_ret
      exact ⟨rfl, HCd.out.s.b⟩
end Go.Proofs.YtbeeehfaeknhmaaDoor
