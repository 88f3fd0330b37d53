import Derived.Test.YtmmcabjpmcepaaaDoorAek
/-
  AeadBack.
-/
namespace Go.Proofs.YtmmcabjpmcepaaaDoor
open Go.RowKit

theorem n8_inc (x : BitVec 8) : (n8 x + 1) % 256 = n8 (x + 1#8) := by
  rw [n8_nat, n8_nat, BitVec.toNat_add]
  simp
theorem n8_incW (x : BitVec 8) : IntKind.u8.wrap (n8 x + 1) = n8 (x + 1#8) := by
  rw [← n8_inc]
  simp [IntKind.wrap, IntKind.signed, IntKind.bits]
theorem row_set {w : World} {b : Nat} {t : TypeId} {n : Nat} {f : Nat → BitVec 8} (h : w.rowIs b t n (fun i => v8 (f i))) (k : Nat) (y : BitVec 8) : (w.setCell ⟨b, k, none⟩ (v8 y)).rowIs b t n (fun i => v8 (if i = k then y else f i)) :=
  (h.set k _).congr fun i _ => by
    by_cases e : i = k
    · rw [if_pos e, if_pos e]
    · rw [if_neg e, if_neg e]

set_option maxRecDepth 100000 in
set_option maxHeartbeats 3200000 in
theorem back_walk (E : Nat → Addr) (key non : Nat → BitVec 8) (A : Option Addr) (ad : List (BitVec 8)) (ca : Nat) (X : Option Addr) (b : List (BitVec 8)) (cx : Nat) (z1 z2 : Int) (w : World)
    (hA : SlRead w A (ints .u8 (bys ad))) (hX : SlRead w X (ints .u8 (bys b))) (hE : ErrsAt E w) :
    Calls Tryd.prog 4 #[.agg (arr8 32 key), .agg (arr8 12 non), .slice A ad.length ca, .slice X b.length cx, .int .i64 z1, .int .i64 z2] w fun e w' => e = .returned (.bool true) ∧ Below w.heap.size w w' := by
  go_enter Tryd.func4, Tryd.ntmps4
  go_upto_region 1 with (fail)
  refine wp_world (HdA w w.heap.size key non) ?_ ?_
  · refine ⟨?_, ?_, ?_⟩
    · exact (rowIs_new _ _ _ _ _ _ (by simp) (by simp) (fun i hi => arr8_get 32 key i hi)).alloc _
    · exact rowIs_new _ _ _ _ _ _ (by simp) (by simp) (fun i hi => arr8_get 12 non i hi)
    · go_grown
  rintro W hW
  have hE0 := hE.below hW.b
  generalize hB : w.heap.size = B at hW ⊢
  have HB := Lib.hid hB; clear hB
  go_wp2_with fail
  refine (first_any E W hE0).mono ?_
  rintro e W1 ⟨rfl, hb1⟩
  have hW1 := hW.next hb1
  clear hW hb1 hE0
  by_cases h1 : 200 < ad.length
  · have d1 : decide ((200 : Int) < (ad.length : Int)) = true := by simp; omega
    go_wp2_with fail
    go_ret
    exact ⟨rfl, by rw [HB.out]; exact hW1.b⟩
  have d1 : decide ((200 : Int) < (ad.length : Int)) = false := by simp; omega
  by_cases h2 : 200 < b.length
  · have d2 : decide ((200 : Int) < (b.length : Int)) = true := by simp; omega
    go_wp2_with fail
    go_ret
    exact ⟨rfl, by rw [HB.out]; exact hW1.b⟩
  have d2 : decide ((200 : Int) < (b.length : Int)) = false := by simp; omega
  have hla : ad.length ≤ 1000 := by omega
  have hlx : b.length ≤ 1000 := by omega
  have hX1 : SlRead W1 X (ints .u8 (bys b)) := hX.below (by rw [HB.out]; exact hW1.b)
  go_wp2_with fail
  refine (bytes_own X b cx W1 hX1 (by omega)).mono ?_
  rintro e W2 ⟨vw, rfl, h2w⟩
  obtain ⟨Aw, cw, rfl, hcw, hSw⟩ := h2w.is
  have hW2 := hW1.next h2w.b
  have hla9 : ad.length ≤ 900 := by omega
  clear h2w hX1 hW1 d1 d2 h1
  have hA2 : SlRead W2 A (ints .u8 (bys ad)) := hA.below (by rw [HB.out]; exact hW2.b)
  have hX2 : SlRead W2 X (ints .u8 (bys b)) := hX.below (by rw [HB.out]; exact hW2.b)
  have hk := rowIs_heap8 hW2.k
  have hn := rowIs_heap8 hW2.n
  go_wp2_with (first | (refine wpList_load_row rfl 23 _ rfl _ rfl _ _ _ _ hk Tryd.underlying23 rfl (by kernel_rfl) ?_) | (refine wpList_load_row rfl 24 _ rfl _ rfl _ _ _ _ hn Tryd.underlying24 rfl (by kernel_rfl) ?_))
  refine (seal_any key non A X ad b ca cx W2 hA2 hX2 hla hlx).mono ?_
  rintro e W3 ⟨v3, rfl, h3⟩
  have hW3 := hW2.next h3.b
  have hSw3 := hSw.below h3.b
  have hop := openGot_sealB key non ad b
  have hcl0 := sealB_length key non ad b
  obtain ⟨c, hc⟩ : ∃ c, c = sealB key non ad b := ⟨_, rfl⟩
  rw [← hc] at h3 hop hcl0
  have hcl16 : 16 ≤ c.length := by omega
  have hcl216 : c.length ≤ 216 := by omega
  have hne : ((c.length : Int) != (b.length : Int) + 16) = false := by simp; omega
  obtain ⟨Ac, cc, rfl, hcc, hSc⟩ := h3.is
  have hA3 : SlRead W3 A (ints .u8 (bys ad)) := hA.below (by rw [HB.out]; exact hW3.b)
  have hE3 := hE.below (show Below w.heap.size w W3 by rw [HB.out]; exact hW3.b)
  have ho := openT (key := key) (non := non) (ca := ca) hE3 hA3 hSc hla (by omega) hcc
  rw [hop, show errC E 0 = .nilIface from rfl] at ho
  have HNE := Lib.hid hne
  clear hc hcl0 hop h3 hA2 hX2 hSw hW2 hne hk hn
  have hk := rowIs_heap8 hW3.k
  have hn := rowIs_heap8 hW3.n
  go_wp2_with (first | (refine wpList_load_row rfl 23 _ rfl _ rfl _ _ _ _ hk Tryd.underlying23 rfl (by kernel_rfl) ?_) | (refine wpList_load_row rfl 24 _ rfl _ rfl _ _ _ _ hn Tryd.underlying24 rfl (by kernel_rfl) ?_))
  refine ho.mono ?_
  rintro e W4 ⟨v4, rfl, ⟨Ax, cxx, rfl, hlxx, hSx⟩, hb4⟩
  have hW4 := hW3.next hb4
  have hSw4 := hSw3.below hb4
  have hSc4 := hSc.below hb4
  have hX4 : SlRead W4 X (ints .u8 (bys b)) := hX.below (by rw [HB.out]; exact hW4.b)
  have hsm := same_true Ax X b cxx cx W4 hSx hX4 (by omega)
  clear ho hk hn hA3 hE3 hSw3 hSc hSx hb4 hW3
  go_wp2_with fail
  refine hsm.mono ?_
  rintro e W5 ⟨rfl, q, rfl⟩
  have hb5 : Below W4.heap.size W4 (W4.drewN q) := Below.drewNr q
  generalize W4.drewN q = W5 at hb5 ⊢
  have hW5 := hW4.next hb5
  have hSw5 := hSw4.below hb5
  have hSc5 := hSc4.below hb5
  have hX5 : SlRead W5 X (ints .u8 (bys b)) := hX.below (by rw [HB.out]; exact hW5.b)
  have hsm := same_true X Aw b cx cw W5 hX5 hSw5 (by omega)
  have hne := HNE.out
  clear hW4 hSw4 hSc4 hX4 hb5
  go_wp2_with fail
  refine hsm.mono ?_
  rintro e W10 ⟨rfl, q, rfl⟩
  have hb6 : Below W5.heap.size W5 (W5.drewN q) := Below.drewNr q
  generalize W5.drewN q = W10 at hb6 ⊢
  have hW10 := hW5.next hb6
  have hSc10 := hSc5.below hb6
  clear hsm hW5 hSw5 hSc5 hX5 hb6 hne HNE hcw
  have hk := rowIs_heap8 hW10.k
  obtain ⟨KB, hKB⟩ : ∃ KB, KB = W10.heap.size := ⟨_, rfl⟩
  have hBK : B ≤ KB := by rw [hKB]; exact Nat.le_of_lt hW10.k.lt
  have hBK1 : B + 1 < KB := by rw [hKB]; exact hW10.lt
  have hb10 := hW10.b
  have HKB := Lib.hid hKB
  clear hKB
  go_upto_region 12 with (first | (refine wpList_load_row rfl 23 _ rfl _ rfl _ _ _ _ hk Tryd.underlying23 rfl (by kernel_rfl) ?_) | (refine wpList_store_row rfl 23 _ _ rfl _ _ rfl rfl _ _ (heap_alloc_new _ _) (by kernel_rfl) (by simp) (arr8_one _ _) ?_; rw [alloc_setRow]))
  rw [← HKB.out]
  refine wp_world (fun W => W.rowIs KB 23 32 (fun i => v8 (key i)) ∧ Below KB W10 W ∧ W.heap.size = KB + 1) ?_ ?_
  · exact ⟨rowIs_new _ _ _ _ _ _ HKB.out (by simp) (fun i hi => arr8_get 32 _ i hi), (Below.refl _ _).alloc (by rw [HKB.out]; exact Nat.le_refl _) _, by rw [HKB.out]; simp⟩
  rintro W11 ⟨hk11, hb11, hs11⟩
  have hn := rowIs_heap8 (hW10.later hb11 hBK1).n
  have HS11 := Lib.hid hs11
  clear hs11 hk
  go_upto_region 13 with (first | (refine wpList_load_row rfl 24 _ rfl _ rfl _ _ _ _ hn Tryd.underlying24 rfl (by kernel_rfl) ?_) | (refine wpList_store_row rfl 24 _ _ rfl _ _ rfl rfl _ _ (heap_alloc_new _ _) (by kernel_rfl) (by simp) (arr8_one _ _) ?_; rw [alloc_setRow]))
  rw [HS11.out]
  refine wp_world (HdA W10 KB key non) ?_ ?_
  · exact ⟨hk11.alloc _, rowIs_new _ _ _ _ _ _ HS11.out.symm (by simp) (fun i hi => arr8_get 12 _ i hi), hb11.alloc (by rw [HS11.out]; omega) _⟩
  clear hk11 hb11 hn HS11
  rintro W12 hR
  have hA12 : SlRead W12 A (ints .u8 (bys ad)) := hA.below (by rw [HB.out]; exact hb10.trans (hR.b.mono hBK))
  have hSc12 : SlRead W12 Ac (ints .u8 (bys c)) := hSc10.below (by rw [← HKB.out]; exact hR.b)
  go_wp2_with fail
  refine (bytes_own A ad ca W12 hA12 (by omega)).mono ?_
  rintro e Wa ⟨va, rfl, h13⟩
  have hRa := hR.next h13.b
  have hKBa := hR.lt
  have hSca := hSc12.below h13.b
  obtain ⟨Aa, caa, rfl, hcaa, _⟩ := h13.is
  have ha0 := h13.own
  have hBad := h13.s
  obtain ⟨Ba, hBa⟩ : ∃ Ba, Ba = W12.heap.size := ⟨_, rfl⟩
  rw [← hBa] at hKBa ha0 hBad
  have hab : ∀ j, (Value.slice Aa ad.length caa).ownBlock = some j → j < Wa.heap.size := fun j hj => (ha0.lt j hj).2
  clear h13 hR hSc12 hA12 hBa hSc10 hW10 HKB
  go_wp2_with fail
  refine (bytes_own Ac c cc Wa hSca (by omega)).mono ?_
  rintro e Wd ⟨vd, rfl, h14⟩
  have hRd := hRa.next h14.b
  have had := ownsRow_via ha0 (fun g _ hlt => h14.b.block g hlt)
  have hcd0 := h14.is
  have hd0 := h14.own
  have hBd0 := h14.s
  obtain ⟨Bd, hBd⟩ : ∃ Bd, Bd = Wa.heap.size := ⟨_, rfl⟩
  rw [← hBd] at hd0 hBd0 hBad hab
  obtain ⟨g, cd, rfl, hgB, hgW⟩ := hd0.form (by omega)
  have hcd : c.length ≤ cd := by
    obtain ⟨O, c', e, l, _⟩ := hcd0
    simp only [Value.slice.injEq] at e
    omega
  clear h14 hRa ha0 hcd0 hSca hBd hcc
  obtain ⟨M, hM, hMl⟩ := exists_mod z1 4 (by omega)
  have HM := Lib.hid hM
  clear hM
  go_wp2_with fail
  refine (number_nat z1 4 M Wd (by omega) HM.out).mono ?_
  rintro e We ⟨rfl, q, rfl⟩
  have hbe : Below Wd.heap.size Wd (Wd.drewN q) := Below.drewNr q
  generalize Wd.drewN q = We at hbe ⊢
  have hR := hRd.next hbe
  have ha := ownsRow_via had (fun g _ hlt => hbe.block g hlt)
  have hd := ownsRow_via hd0 (fun g _ hlt => hbe.block g hlt)
  have hBde : Bd ≤ We.heap.size := Nat.le_trans hBd0 hbe.size
  have hEe : True := trivial
  clear hRd had hd0 hbe HM hBd0 hgW
  rcases M with _ | _ | _ | _ | M
  · obtain ⟨K, hK, hKl⟩ := exists_mod z2 c.length (by omega)
    have HK := Lib.hid hK
    clear hK
    go_wp2_with fail
    refine (number_nat z2 c.length K We (by omega) HK.out).mono ?_
    rintro e W6 ⟨rfl, q, rfl⟩
    have hb6 : Below We.heap.size We (We.drewN q) := Below.drewNr q
    generalize We.drewN q = W6 at hb6 ⊢
    have hR6 := hR.next hb6
    have hown6 := ownsRow_via hd (fun g _ hlt => hb6.block g hlt)
    have hSa6 := (SlRead.of_own ha).below hb6
    have hKn : K < c.length := by omega
    obtain ⟨x, hx⟩ : ∃ x, c[K]? = some x := ⟨c[K], by simp [hKn]⟩
    have cx1 : W6.cell? ⟨g, K, none⟩ = some (v8 x) := by rw [hown6.cellAt K (by omega), bys_ints]; simp [hx]
    have fc := hown6.frozenAt K
    have hxy : (n8 x + 1) % 256 = n8 (x + 1#8) := n8_inc x
    have hxz : IntKind.u8.wrap (n8 x + 1) = n8 (x + 1#8) := n8_incW x
    have hst := own_set hown6 K (x + 1#8)
    obtain ⟨d2, hd2⟩ : ∃ d2, d2 = c.set K (x + 1#8) := ⟨_, rfl⟩
    have hdl : d2.length = c.length := by rw [hd2, List.length_set]
    rw [← hd2, hdl] at hst
    have hbs : Below Bd W6 (W6.setCell ⟨g, K, none⟩ (v8 (x + 1#8))) := (Below.refl _ _).setCell hgB _
    have hR7 := hR6.later hbs (by omega)
    have hSa7 : SlRead (W6.setCell ⟨g, K, none⟩ (v8 (x + 1#8))) Aa (ints .u8 (bys ad)) := hSa6.only (fun bb o e => by have := hab bb (by rw [e]; rfl); omega) ((Only.refl g W6).setCell K _)
    have HDL := Lib.hid hdl
    clear hdl hd2 hx hown6 hR hR6 hSa6 hb6 HK hbs hd ha hEe
    go_upto_region 26 with (fail)
    refine wp_world (fun W => HdA W10 KB key non W ∧ SlRead W Aa (ints .u8 (bys ad)) ∧ SlRead W (some ⟨g, 0, none⟩) (ints .u8 (bys d2))) ⟨hR7, hSa7, SlRead.of_own hst⟩ ?_
    clear hR7 hSa7 hst cx1 fc hxy hxz
    rintro Wt ⟨hR, Sa, Sd⟩
    have hd16 : 16 ≤ d2.length := by rw [HDL.out]; exact hcl16
    have hdl1 : d2.length ≤ 1000 := by rw [HDL.out]; omega
    have hdc : d2.length ≤ cd := by rw [HDL.out]; exact hcd
    have hal : ad.length ≤ 1000 := hla
    obtain ⟨key2, hkey2⟩ : ∃ k, k = key := ⟨_, rfl⟩
    obtain ⟨non2, hnon2⟩ : ∃ k, k = non := ⟨_, rfl⟩
    rw [← hkey2, ← hnon2] at hR
    clear hkey2 hnon2
    have hlt : KB + 1 < Wt.heap.size := hR.lt
    have hbt := hb10.trans (hR.b.mono hBK)
    have hEt := hE.below (show Below w.heap.size w Wt by rw [HB.out]; exact hbt)
    obtain ⟨O1, hO1⟩ : ∃ O1, O1 = (openGot key2 non2 ad d2).1 := ⟨_, rfl⟩
    obtain ⟨On, hOn⟩ : ∃ On, On = (openGot key2 non2 ad d2).2 := ⟨_, rfl⟩
    have hcase : On = 0 ∨ (O1 = [] ∧ On = 109) := by
      rcases openGot_long key2 non2 ad d2 hd16 with h | h
      · exact .inl (hOn.trans h)
      · exact .inr ⟨by rw [hO1, h], by rw [hOn, h]⟩
    have ho := openT (key := key2) (non := non2) (ca := caa) hEt Sa Sd hal hdl1 hdc
    have hd := fun (W : World) (hb : Below Wt.heap.size Wt W) => dopenT (key := key2) (non := non2) (ca := caa) (cx := cd) (Sa.below hb) (Sd.below hb) hal hdl1 hdc
    rw [← hO1, ← hOn] at ho
    simp only [← hO1, ← hOn] at hd
    rw [HDL.out] at ho
    simp only [HDL.out] at hd
    have HD := Lib.hid hd
    clear hd hO1 hOn Sa Sd hal hdl1 hdc hd16
    have hk := rowIs_heap8 hR.k
    have hn := rowIs_heap8 hR.n
    go_wp2_with (first | (refine wpList_load_row rfl 23 _ rfl _ rfl _ _ _ _ hk Tryd.underlying23 rfl (by kernel_rfl) ?_) | (refine wpList_load_row rfl 24 _ rfl _ rfl _ _ _ _ hn Tryd.underlying24 rfl (by kernel_rfl) ?_))
    refine ho.mono ?_
    rintro e Wu ⟨v, rfl, ⟨Ay, cy, rfl, hly, hSy⟩, hbu⟩
    have hRu := hR.next hbu
    have hEu := hEt.below hbu
    have hd := HD.out Wu hbu
    clear ho HD hk hn hR hEt hSy hbt hbu
    have hk := rowIs_heap8 hRu.k
    have hn := rowIs_heap8 hRu.n
    rcases hcase with h0 | ⟨h1, h2⟩
    · rw [h0] at hd ⊢
      go_wp2_with (first | (refine wpList_load_row rfl 23 _ rfl _ rfl _ _ _ _ hk Tryd.underlying23 rfl (by kernel_rfl) ?_) | (refine wpList_load_row rfl 24 _ rfl _ rfl _ _ _ _ hn Tryd.underlying24 rfl (by kernel_rfl) ?_))
      refine hd.mono ?_
      rintro e Wv ⟨v, rfl, ⟨Az, cz, rfl, hlz, hSz⟩, hbv⟩
      have hfin := hb10.trans ((hRu.next hbv).b.mono hBK)
      clear hd hk hn hRu hEu hSz hbv
      go_wp2_with fail
      go_ret
      rw [HB.out]
      exact ⟨rfl, hfin⟩
    · rw [h1, h2] at hd ⊢
      go_wp2_with (first | (refine wpList_load_row rfl 23 _ rfl _ rfl _ _ _ _ hk Tryd.underlying23 rfl (by kernel_rfl) ?_) | (refine wpList_load_row rfl 24 _ rfl _ rfl _ _ _ _ hn Tryd.underlying24 rfl (by kernel_rfl) ?_))
      refine hd.mono ?_
      rintro e Wv ⟨v, rfl, ⟨Az, cz, rfl, hlz, hSz⟩, hbv⟩
      have hfin := hb10.trans ((hRu.next hbv).b.mono hBK)
      have hEv := hEu.below hbv
      have hsv : B ≤ Wv.heap.size := by rw [← HB.out]; exact hfin.size
      have hi := is_any E (errC E 109) 109 109 (errC_reads E 109 (by omega)) Wv hEv
      rw [show decide ((109 : Int) = 109) = true by decide] at hi
      clear hd hk hn hRu hEu hSz hbv hEv
      go_wp2_with fail
      refine hi.mono ?_
      rintro e Wx ⟨rfl, hbx⟩
      have hfin2 := hfin.trans (hbx.mono hsv)
      clear hi hfin hbx
      go_wp2_with fail
      go_ret
      rw [HB.out]
      exact ⟨rfl, hfin2⟩
  · obtain ⟨K, hK, hKl⟩ := exists_mod z2 32 (by omega)
    have HK := Lib.hid hK
    clear hK
    go_wp2_with fail
    refine (number_nat z2 32 K We (by omega) HK.out).mono ?_
    rintro e W6 ⟨rfl, q, rfl⟩
    have hb6 : Below We.heap.size We (We.drewN q) := Below.drewNr q
    generalize We.drewN q = W6 at hb6 ⊢
    have hR6 := hR.next hb6
    have hown6 := ownsRow_via hd (fun g _ hlt => hb6.block g hlt)
    have hownA := ownsRow_via ha (fun g _ hlt => hb6.block g hlt)
    have hKn : K < 32 := by omega
    have cx1 := hR6.k.cell hKn
    have fc := hR6.k.frozen K
    have hxy := n8_xorR (key K) 4#8
    rw [show n8 4#8 = 4 from rfl] at hxy
    have hon := (Only.refl (KB) W6).setCell K (v8 (key K ^^^ 4#8))
    have hset := row_set hR6.k K (key K ^^^ 4#8)
    have hR7 : HdA W10 KB (fun i => if i = K then key K ^^^ 4#8 else key i) non (W6.setCell ⟨KB, K, none⟩ (v8 (key K ^^^ 4#8))) := ⟨hset, hR6.n.setOther (a := ⟨KB, K, none⟩) (by simp only; omega) _, hR6.b.setCell (by simp only; omega) _⟩
    have hst := ownsRow_via hown6 (fun g' h1 h2 => hon.block g' h2 (by omega))
    have hsa := ownsRow_via hownA (fun g' h1 h2 => hon.block g' h2 (by omega))
    clear hown6 hownA hR hR6 hb6 HK hon hd ha hEe
    go_upto_region 26 with (fail)
    refine wp_world (fun W => HdA W10 KB (fun i => if i = K then key K ^^^ 4#8 else key i) non W ∧ SlRead W Aa (ints .u8 (bys ad)) ∧ SlRead W (some ⟨g, 0, none⟩) (ints .u8 (bys c))) ⟨hR7, SlRead.of_own hsa, SlRead.of_own hst⟩ ?_
    clear hR7 hst hsa cx1 fc hxy
    rintro Wt ⟨hR, Sa, Sd⟩
    have hd16 : 16 ≤ c.length := hcl16
    have hdl1 : c.length ≤ 1000 := by omega
    have hdc : c.length ≤ cd := hcd
    have hal : ad.length ≤ 1000 := hla
    obtain ⟨key2, hkey2⟩ : ∃ k, k = (fun i => if i = K then key K ^^^ 4#8 else key i) := ⟨_, rfl⟩
    obtain ⟨non2, hnon2⟩ : ∃ k, k = non := ⟨_, rfl⟩
    rw [← hkey2, ← hnon2] at hR
    clear hkey2 hnon2
    have hlt : KB + 1 < Wt.heap.size := hR.lt
    have hbt := hb10.trans (hR.b.mono hBK)
    have hEt := hE.below (show Below w.heap.size w Wt by rw [HB.out]; exact hbt)
    obtain ⟨O1, hO1⟩ : ∃ O1, O1 = (openGot key2 non2 ad c).1 := ⟨_, rfl⟩
    obtain ⟨On, hOn⟩ : ∃ On, On = (openGot key2 non2 ad c).2 := ⟨_, rfl⟩
    have hcase : On = 0 ∨ (O1 = [] ∧ On = 109) := by
      rcases openGot_long key2 non2 ad c hd16 with h | h
      · exact .inl (hOn.trans h)
      · exact .inr ⟨by rw [hO1, h], by rw [hOn, h]⟩
    have ho := openT (key := key2) (non := non2) (ca := caa) hEt Sa Sd hal hdl1 hdc
    have hd := fun (W : World) (hb : Below Wt.heap.size Wt W) => dopenT (key := key2) (non := non2) (ca := caa) (cx := cd) (Sa.below hb) (Sd.below hb) hal hdl1 hdc
    rw [← hO1, ← hOn] at ho
    simp only [← hO1, ← hOn] at hd


    have HD := Lib.hid hd
    clear hd hO1 hOn Sa Sd hal hdl1 hdc hd16
    have hk := rowIs_heap8 hR.k
    have hn := rowIs_heap8 hR.n
    go_wp2_with (first | (refine wpList_load_row rfl 23 _ rfl _ rfl _ _ _ _ hk Tryd.underlying23 rfl (by kernel_rfl) ?_) | (refine wpList_load_row rfl 24 _ rfl _ rfl _ _ _ _ hn Tryd.underlying24 rfl (by kernel_rfl) ?_))
    refine ho.mono ?_
    rintro e Wu ⟨v, rfl, ⟨Ay, cy, rfl, hly, hSy⟩, hbu⟩
    have hRu := hR.next hbu
    have hEu := hEt.below hbu
    have hd := HD.out Wu hbu
    clear ho HD hk hn hR hEt hSy hbt hbu
    have hk := rowIs_heap8 hRu.k
    have hn := rowIs_heap8 hRu.n
    rcases hcase with h0 | ⟨h1, h2⟩
    · rw [h0] at hd ⊢
      go_wp2_with (first | (refine wpList_load_row rfl 23 _ rfl _ rfl _ _ _ _ hk Tryd.underlying23 rfl (by kernel_rfl) ?_) | (refine wpList_load_row rfl 24 _ rfl _ rfl _ _ _ _ hn Tryd.underlying24 rfl (by kernel_rfl) ?_))
      refine hd.mono ?_
      rintro e Wv ⟨v, rfl, ⟨Az, cz, rfl, hlz, hSz⟩, hbv⟩
      have hfin := hb10.trans ((hRu.next hbv).b.mono hBK)
      clear hd hk hn hRu hEu hSz hbv
      go_wp2_with fail
      go_ret
      rw [HB.out]
      exact ⟨rfl, hfin⟩
    · rw [h1, h2] at hd ⊢
      go_wp2_with (first | (refine wpList_load_row rfl 23 _ rfl _ rfl _ _ _ _ hk Tryd.underlying23 rfl (by kernel_rfl) ?_) | (refine wpList_load_row rfl 24 _ rfl _ rfl _ _ _ _ hn Tryd.underlying24 rfl (by kernel_rfl) ?_))
      refine hd.mono ?_
      rintro e Wv ⟨v, rfl, ⟨Az, cz, rfl, hlz, hSz⟩, hbv⟩
      have hfin := hb10.trans ((hRu.next hbv).b.mono hBK)
      have hEv := hEu.below hbv
      have hsv : B ≤ Wv.heap.size := by rw [← HB.out]; exact hfin.size
      have hi := is_any E (errC E 109) 109 109 (errC_reads E 109 (by omega)) Wv hEv
      rw [show decide ((109 : Int) = 109) = true by decide] at hi
      clear hd hk hn hRu hEu hSz hbv hEv
      go_wp2_with fail
      refine hi.mono ?_
      rintro e Wx ⟨rfl, hbx⟩
      have hfin2 := hfin.trans (hbx.mono hsv)
      clear hi hfin hbx
      go_wp2_with fail
      go_ret
      rw [HB.out]
      exact ⟨rfl, hfin2⟩
  · obtain ⟨K, hK, hKl⟩ := exists_mod z2 12 (by omega)
    have HK := Lib.hid hK
    clear hK
    go_wp2_with fail
    refine (number_nat z2 12 K We (by omega) HK.out).mono ?_
    rintro e W6 ⟨rfl, q, rfl⟩
    have hb6 : Below We.heap.size We (We.drewN q) := Below.drewNr q
    generalize We.drewN q = W6 at hb6 ⊢
    have hR6 := hR.next hb6
    have hown6 := ownsRow_via hd (fun g _ hlt => hb6.block g hlt)
    have hownA := ownsRow_via ha (fun g _ hlt => hb6.block g hlt)
    have hKn : K < 12 := by omega
    have cx1 := hR6.n.cell hKn
    have fc := hR6.n.frozen K
    have hxy := n8_xorR (non K) 4#8
    rw [show n8 4#8 = 4 from rfl] at hxy
    have hon := (Only.refl (KB + 1) W6).setCell K (v8 (non K ^^^ 4#8))
    have hset := row_set hR6.n K (non K ^^^ 4#8)
    have hR7 : HdA W10 KB key (fun i => if i = K then non K ^^^ 4#8 else non i) (W6.setCell ⟨KB + 1, K, none⟩ (v8 (non K ^^^ 4#8))) := ⟨hR6.k.setOther (a := ⟨KB + 1, K, none⟩) (by simp only; omega) _, hset, hR6.b.setCell (by simp only; omega) _⟩
    have hst := ownsRow_via hown6 (fun g' h1 h2 => hon.block g' h2 (by omega))
    have hsa := ownsRow_via hownA (fun g' h1 h2 => hon.block g' h2 (by omega))
    clear hown6 hownA hR hR6 hb6 HK hon hd ha hEe
    go_upto_region 26 with (fail)
    refine wp_world (fun W => HdA W10 KB key (fun i => if i = K then non K ^^^ 4#8 else non i) W ∧ SlRead W Aa (ints .u8 (bys ad)) ∧ SlRead W (some ⟨g, 0, none⟩) (ints .u8 (bys c))) ⟨hR7, SlRead.of_own hsa, SlRead.of_own hst⟩ ?_
    clear hR7 hst hsa cx1 fc hxy
    rintro Wt ⟨hR, Sa, Sd⟩
    have hd16 : 16 ≤ c.length := hcl16
    have hdl1 : c.length ≤ 1000 := by omega
    have hdc : c.length ≤ cd := hcd
    have hal : ad.length ≤ 1000 := hla
    obtain ⟨key2, hkey2⟩ : ∃ k, k = key := ⟨_, rfl⟩
    obtain ⟨non2, hnon2⟩ : ∃ k, k = (fun i => if i = K then non K ^^^ 4#8 else non i) := ⟨_, rfl⟩
    rw [← hkey2, ← hnon2] at hR
    clear hkey2 hnon2
    have hlt : KB + 1 < Wt.heap.size := hR.lt
    have hbt := hb10.trans (hR.b.mono hBK)
    have hEt := hE.below (show Below w.heap.size w Wt by rw [HB.out]; exact hbt)
    obtain ⟨O1, hO1⟩ : ∃ O1, O1 = (openGot key2 non2 ad c).1 := ⟨_, rfl⟩
    obtain ⟨On, hOn⟩ : ∃ On, On = (openGot key2 non2 ad c).2 := ⟨_, rfl⟩
    have hcase : On = 0 ∨ (O1 = [] ∧ On = 109) := by
      rcases openGot_long key2 non2 ad c hd16 with h | h
      · exact .inl (hOn.trans h)
      · exact .inr ⟨by rw [hO1, h], by rw [hOn, h]⟩
    have ho := openT (key := key2) (non := non2) (ca := caa) hEt Sa Sd hal hdl1 hdc
    have hd := fun (W : World) (hb : Below Wt.heap.size Wt W) => dopenT (key := key2) (non := non2) (ca := caa) (cx := cd) (Sa.below hb) (Sd.below hb) hal hdl1 hdc
    rw [← hO1, ← hOn] at ho
    simp only [← hO1, ← hOn] at hd


    have HD := Lib.hid hd
    clear hd hO1 hOn Sa Sd hal hdl1 hdc hd16
    have hk := rowIs_heap8 hR.k
    have hn := rowIs_heap8 hR.n
    go_wp2_with (first | (refine wpList_load_row rfl 23 _ rfl _ rfl _ _ _ _ hk Tryd.underlying23 rfl (by kernel_rfl) ?_) | (refine wpList_load_row rfl 24 _ rfl _ rfl _ _ _ _ hn Tryd.underlying24 rfl (by kernel_rfl) ?_))
    refine ho.mono ?_
    rintro e Wu ⟨v, rfl, ⟨Ay, cy, rfl, hly, hSy⟩, hbu⟩
    have hRu := hR.next hbu
    have hEu := hEt.below hbu
    have hd := HD.out Wu hbu
    clear ho HD hk hn hR hEt hSy hbt hbu
    have hk := rowIs_heap8 hRu.k
    have hn := rowIs_heap8 hRu.n
    rcases hcase with h0 | ⟨h1, h2⟩
    · rw [h0] at hd ⊢
      go_wp2_with (first | (refine wpList_load_row rfl 23 _ rfl _ rfl _ _ _ _ hk Tryd.underlying23 rfl (by kernel_rfl) ?_) | (refine wpList_load_row rfl 24 _ rfl _ rfl _ _ _ _ hn Tryd.underlying24 rfl (by kernel_rfl) ?_))
      refine hd.mono ?_
      rintro e Wv ⟨v, rfl, ⟨Az, cz, rfl, hlz, hSz⟩, hbv⟩
      have hfin := hb10.trans ((hRu.next hbv).b.mono hBK)
      clear hd hk hn hRu hEu hSz hbv
      go_wp2_with fail
      go_ret
      rw [HB.out]
      exact ⟨rfl, hfin⟩
    · rw [h1, h2] at hd ⊢
      go_wp2_with (first | (refine wpList_load_row rfl 23 _ rfl _ rfl _ _ _ _ hk Tryd.underlying23 rfl (by kernel_rfl) ?_) | (refine wpList_load_row rfl 24 _ rfl _ rfl _ _ _ _ hn Tryd.underlying24 rfl (by kernel_rfl) ?_))
      refine hd.mono ?_
      rintro e Wv ⟨v, rfl, ⟨Az, cz, rfl, hlz, hSz⟩, hbv⟩
      have hfin := hb10.trans ((hRu.next hbv).b.mono hBK)
      have hEv := hEu.below hbv
      have hsv : B ≤ Wv.heap.size := by rw [← HB.out]; exact hfin.size
      have hi := is_any E (errC E 109) 109 109 (errC_reads E 109 (by omega)) Wv hEv
      rw [show decide ((109 : Int) = 109) = true by decide] at hi
      clear hd hk hn hRu hEu hSz hbv hEv
      go_wp2_with fail
      refine hi.mono ?_
      rintro e Wx ⟨rfl, hbx⟩
      have hfin2 := hfin.trans (hbx.mono hsv)
      clear hi hfin hbx
      go_wp2_with fail
      go_ret
      rw [HB.out]
      exact ⟨rfl, hfin2⟩
  · have hle : ad.length ≤ 140737488351900 := by omega
    have hsB : Ba ≤ We.heap.size := by omega
    go_upto_region 26 with (at_builtin; refine push_one rfl _ _ rfl We Ba (.slice Aa ad.length caa) ad 0#8 rfl rfl ha hsB hle ?_; intro v' W6 hown hb6 hg1 hg2; clear hg2)
    have hst := ownsRow_via hd (fun g' h1 h2 => hg1.block g' h2 (fun e => by have := hab g' e.symm; omega))
    have hR6 := hR.later hb6 hKBa
    obtain ⟨Av, cv, rfl, hcv⟩ := ownsRow_form hown
    clear hd ha hR hb6 hg1 hEe hle hcv
    obtain ⟨a2, ha2⟩ : ∃ a2, a2 = ad ++ [0#8] := ⟨_, rfl⟩
    have hal : a2.length ≤ 1000 := by rw [ha2, show (ad ++ [0#8]).length = ad.length + 1 by simp]; omega
    rw [← ha2] at hown
    try rw [← ha2]
    clear ha2
    refine wp_world (fun W => HdA W10 KB key non W ∧ SlRead W Av (ints .u8 (bys a2)) ∧ SlRead W (some ⟨g, 0, none⟩) (ints .u8 (bys c))) ⟨hR6, SlRead.of_own hown, SlRead.of_own hst⟩ ?_
    clear hR6 hown hst
    rintro Wt ⟨hR, Sa, Sd⟩
    have hd16 : 16 ≤ c.length := hcl16
    have hdl1 : c.length ≤ 1000 := by omega
    have hdc : c.length ≤ cd := hcd
    obtain ⟨key2, hkey2⟩ : ∃ k, k = key := ⟨_, rfl⟩
    obtain ⟨non2, hnon2⟩ : ∃ k, k = non := ⟨_, rfl⟩
    rw [← hkey2, ← hnon2] at hR
    clear hkey2 hnon2
    have hlt : KB + 1 < Wt.heap.size := hR.lt
    have hbt := hb10.trans (hR.b.mono hBK)
    have hEt := hE.below (show Below w.heap.size w Wt by rw [HB.out]; exact hbt)
    obtain ⟨O1, hO1⟩ : ∃ O1, O1 = (openGot key2 non2 a2 c).1 := ⟨_, rfl⟩
    obtain ⟨On, hOn⟩ : ∃ On, On = (openGot key2 non2 a2 c).2 := ⟨_, rfl⟩
    have hcase : On = 0 ∨ (O1 = [] ∧ On = 109) := by
      rcases openGot_long key2 non2 a2 c hd16 with h | h
      · exact .inl (hOn.trans h)
      · exact .inr ⟨by rw [hO1, h], by rw [hOn, h]⟩
    have ho := openT (key := key2) (non := non2) (ca := cv) hEt Sa Sd hal hdl1 hdc
    have hd := fun (W : World) (hb : Below Wt.heap.size Wt W) => dopenT (key := key2) (non := non2) (ca := cv) (cx := cd) (Sa.below hb) (Sd.below hb) hal hdl1 hdc
    rw [← hO1, ← hOn] at ho
    simp only [← hO1, ← hOn] at hd


    have HD := Lib.hid hd
    clear hd hO1 hOn Sa Sd hal hdl1 hdc hd16
    have hk := rowIs_heap8 hR.k
    have hn := rowIs_heap8 hR.n
    go_wp2_with (first | (refine wpList_load_row rfl 23 _ rfl _ rfl _ _ _ _ hk Tryd.underlying23 rfl (by kernel_rfl) ?_) | (refine wpList_load_row rfl 24 _ rfl _ rfl _ _ _ _ hn Tryd.underlying24 rfl (by kernel_rfl) ?_))
    refine ho.mono ?_
    rintro e Wu ⟨v, rfl, ⟨Ay, cy, rfl, hly, hSy⟩, hbu⟩
    have hRu := hR.next hbu
    have hEu := hEt.below hbu
    have hd := HD.out Wu hbu
    clear ho HD hk hn hR hEt hSy hbt hbu
    have hk := rowIs_heap8 hRu.k
    have hn := rowIs_heap8 hRu.n
    rcases hcase with h0 | ⟨h1, h2⟩
    · rw [h0] at hd ⊢
      go_wp2_with (first | (refine wpList_load_row rfl 23 _ rfl _ rfl _ _ _ _ hk Tryd.underlying23 rfl (by kernel_rfl) ?_) | (refine wpList_load_row rfl 24 _ rfl _ rfl _ _ _ _ hn Tryd.underlying24 rfl (by kernel_rfl) ?_))
      refine hd.mono ?_
      rintro e Wv ⟨v, rfl, ⟨Az, cz, rfl, hlz, hSz⟩, hbv⟩
      have hfin := hb10.trans ((hRu.next hbv).b.mono hBK)
      clear hd hk hn hRu hEu hSz hbv
      go_wp2_with fail
      go_ret
      rw [HB.out]
      exact ⟨rfl, hfin⟩
    · rw [h1, h2] at hd ⊢
      go_wp2_with (first | (refine wpList_load_row rfl 23 _ rfl _ rfl _ _ _ _ hk Tryd.underlying23 rfl (by kernel_rfl) ?_) | (refine wpList_load_row rfl 24 _ rfl _ rfl _ _ _ _ hn Tryd.underlying24 rfl (by kernel_rfl) ?_))
      refine hd.mono ?_
      rintro e Wv ⟨v, rfl, ⟨Az, cz, rfl, hlz, hSz⟩, hbv⟩
      have hfin := hb10.trans ((hRu.next hbv).b.mono hBK)
      have hEv := hEu.below hbv
      have hsv : B ≤ Wv.heap.size := by rw [← HB.out]; exact hfin.size
      have hi := is_any E (errC E 109) 109 109 (errC_reads E 109 (by omega)) Wv hEv
      rw [show decide ((109 : Int) = 109) = true by decide] at hi
      clear hd hk hn hRu hEu hSz hbv hEv
      go_wp2_with fail
      refine hi.mono ?_
      rintro e Wx ⟨rfl, hbx⟩
      have hfin2 := hfin.trans (hbx.mono hsv)
      clear hi hfin hbx
      go_wp2_with fail
      go_ret
      rw [HB.out]
      exact ⟨rfl, hfin2⟩
  · omega
end Go.Proofs.YtmmcabjpmcepaaaDoor
