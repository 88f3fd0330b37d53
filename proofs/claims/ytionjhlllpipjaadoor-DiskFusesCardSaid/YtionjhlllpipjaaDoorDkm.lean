import Derived.Test.YtionjhlllpipjaaDoorDkl
/-
  disk: DiskOwn's walk.
-/
namespace Go.Proofs.YtionjhlllpipjaaDoor
open Go.RowKit

theorem fillL_len (x : Int) : (fillL x).length = 128 := by simp [fillL]
theorem bcells_ints (l : List UInt8) : bcells l = ints .u8 (l.map fun b => (b.toNat : Int)) := by simp [bcells, ints, cellB]
theorem same_128 (l : List UInt8) (hl : l.length = 128) (g h c c' : Nat) (w : World) (hg : w.rangeAt g 0 (bcells l)) (hh : w.rangeAt h 0 (bcells l)) :
    Calls Tryd.prog 23 #[.slice (some ⟨g, 0, none⟩) 128 c, .slice (some ⟨h, 0, none⟩) 128 c'] w fun e w' => e = .returned (.bool true) ∧ Below w.heap.size w w' := by
  have hlt := range_lt hg (by rw [bcells_len]; omega)
  have hlt2 := range_lt hh (by rw [bcells_len]; omega)
  rw [bcells_ints] at hg hh
  have e : (l.map fun b => (b.toNat : Int)).length = 128 := by simp [hl]
  generalize (l.map fun b => (b.toNat : Int)) = xs at hg hh e
  have q := sameBytes_any (some ⟨g, 0, none⟩) (some ⟨h, 0, none⟩) xs xs c c' w (fun _ => ⟨g, 0, rfl, hlt, hg⟩) (fun _ => ⟨h, 0, rfl, hlt2, hh⟩) (by omega) (by omega)
  rw [e] at q
  refine q.mono ?_
  rintro e w' ⟨rfl, m, rfl⟩
  exact ⟨by simp, Below.drewNr m⟩
theorem set_turn (w : World) (g k : Nat) (v : Value) : Turn (· = g) w (w.setCell ⟨g, k, none⟩ v) := Turn.of_grown (grown_setCell _ _ _) (fun _ hk => (Option.some.inj hk).symm)
theorem own_heap {w : World} {base n : Nat} {v : Value} {l : List UInt8} (h : w.ownsRow base 5 1 v n (bcells l)) (hn : 0 < n) : ∃ g c cur, v = .slice (some ⟨g, 0, none⟩) n c ∧ base ≤ g ∧ g < w.heap.size ∧ w.rangeAt g 0 (bcells l) ∧ w.heap[g]? = some (.cells cur 5 (0, 0)) := by
  obtain ⟨g, c, e, h1, h2, h3⟩ := own_rng h hn
  subst e
  rcases h.2 with ⟨e, _⟩ | ⟨g', cap, cur, e, _, h5, _⟩
  · cases e
  · cases e
    exact ⟨g, c, cur, rfl, h1, h2, h3, h5⟩
/-- the disk of DiskOwn -/
def ownS (a : Int) : List Sec := ((List.replicate 3 secZ).set 1 (secZ.add (fillL a) (fillL_len a))).map Sec.sync
theorem ownS_get (a : Int) : (ownS a)[1]? = some (secZ.add (fillL a) (fillL_len a)).sync := rfl
theorem ownS_top (a : Int) : (secZ.add (fillL a) (fillL_len a)).sync.top = fillL a := rfl
theorem ownS_len (a : Int) : (ownS a).length = 3 := rfl
theorem write_nil (E : Nat → Addr) {w w0 : World} {D R : Nat} {ss : List Sec} {pv : Nat → Value} (hE : ErrsAt E w0) (hb : Below w0.heap.size w0 w) (h : DkS w w0.heap.size D R ss false (-1) pv) (i : Nat) (s : Sec) (hs : ss[i]? = some s) (B : List UInt8) (hB : B.length = 128) (gb ob cb : Nat)
    (hr : w.rangeAt gb ob (bcells B)) (hgb : (pv i).ownBlock ≠ some gb) (hn : s.pend.length ≤ 2000) :
    Calls Tryd.prog 13 #[.pointer (some ⟨D, 0, none⟩), .int .i64 (i : Int), .slice (some ⟨gb, ob, none⟩) 128 cb] w fun e w' =>
      e = .returned .nilIface ∧ ∃ pv', DkS w' w0.heap.size D R (ss.set i (s.add B hB)) false (-1) pv' ∧ Turn (DFoot D R ss pv) w w' ∧ Fresh w pv pv' ∧ ErrsAt E w' ∧ Below w0.heap.size w0 w' := by
  refine (write_in E w0 hE hb h i s hs B hB gb ob cb hr hgb hn).mono ?_
  rintro e w' ⟨rfl, pv', hd, ht, hf⟩
  have hb' := ht.below hb hb.size (fun q hq => h.lowF hq)
  exact ⟨rfl, pv', hd, ht, hf, hE.below hb', hb'⟩
/-- behind Write and Sync -/
theorem own_sync (E : Nat → Addr) {w0 w3 w4 : World} {D R g : Nat} {ss : List Sec} {pv pv4 : Nat → Value} {c : Array Value} {t : TypeId} (hE4 : ErrsAt E w4) (hb4 : Below w0.heap.size w0 w4) {ss' : List Sec} (h4 : DkS w4 w0.heap.size D R ss' false (-1) pv4)
    (ht : Turn (DFoot D R ss pv) w3 w4) (hf : Fresh w3 pv pv4) (hg : w3.heap[g]? = some (.cells c t (0, 0))) (hnf : ¬ DFoot D R ss pv g) (hnp : ∀ j, (pv j).ownBlock ≠ some g) :
    Calls Tryd.prog 15 #[.pointer (some ⟨D, 0, none⟩)] w4 fun e w5 => e = .returned .nilIface ∧ ∃ pv5, DkS w5 w0.heap.size D R (ss'.map Sec.sync) false (-1) pv5 ∧ Below w0.heap.size w0 w5 ∧ w5.heap[g]? = some (.cells c t (0, 0)) ∧ ∀ s2 : List Sec, ¬ DFoot D R s2 pv5 g := by
  refine (sync_ok E hE4 h4 (by decide)).mono ?_
  rintro e w5 ⟨rfl, pv5, h5, ht5, hl5⟩
  have hlt : g < w3.heap.size := (Array.getElem?_eq_some_iff.1 hg).1
  have hgD : g ≠ D := fun e => hnf (.inl e)
  have hgR : g ≠ R := fun e => hnf (.inr (.inl e))
  refine ⟨rfl, pv5, h5, ht5.below hb4 hb4.size (fun q hq => hq.elim (fun e => by rw [e]; exact h4.low.1) (fun e => by rw [e]; exact h4.low.2)), ?_, fun s2 hq => ?_⟩
  · rw [ht5.block g (Nat.lt_of_lt_of_le hlt ht.size) (fun e => e.elim hgD hgR), ht.block g hlt hnf]
    exact hg
  · rcases hq with e | e | ⟨j, _, e⟩
    · exact hgD e
    · exact hgR e
    · rcases hf j g (hl5 j g e) with h | h
      · exact hnp j h
      · omega
set_option maxRecDepth 100000 in
set_option maxHeartbeats 3200000 in
theorem own_walk (E : Nat → Addr) (a b : Int) (w0 : World) (hE : ErrsAt E w0) : Calls Tryd.prog 6 #[.int .i64 a, .int .i64 b] w0 fun e w' => e = .returned (.bool true) ∧ Below w0.heap.size w0 w' := by
  have hfi := first_any w0
  have HE := Lib.hid hE
  clear hE
  go_enter Tryd.func6, Tryd.ntmps6
  go_upto_region 4 with (go_at_call 7; refine hfi.mono ?_; rintro e w1 ⟨rfl, hb1⟩)
  have hnew := new_any 3 (by omega) w0.heap.size w1 hb1.size
  have HB1 := Lib.hid hb1
  clear hb1 hfi
  go_upto_region 7 with (go_at_call 9; refine hnew.mono ?_; rintro e w2 ⟨D, R, rfl, hd2, _, _, hb2⟩)
  have hfl := filled_any a w2
  have HB2 := Lib.hid (HB1.out.trans (hb2.mono HB1.out.size))
  have HD2 := Lib.hid hd2
  clear hnew hd2 hb2
  go_upto_region 8 with (go_at_call 11; refine hfl.mono ?_; rintro e w3 ⟨rfl, hr3, hb3⟩)
  have hd3 := HD2.out.below hb3
  have HB3 := Lib.hid (HB2.out.trans (hb3.mono HB2.out.size))
  have hwr := write_nil E HE.out HB3.out hd3 1 secZ (repl_get 3 1 (by omega)) (fillL a) (fillL_len a) w2.heap.size 0 128 (range_new hr3) (by simp [Value.ownBlock]) (by simp [secZ])
  have hnf : ¬ DFoot D R (List.replicate 3 secZ) (fun _ => Value.slice none 0 0) w2.heap.size := by
    rintro (e | e | ⟨j, _, e⟩)
    · have := HD2.out.ltD; omega
    · have := HD2.out.ltR; omega
    · cases e
  have HD3 := Lib.hid hd3
  have HR3 := Lib.hid hr3
  clear hd3 hr3 hb3 hfl
  go_upto_region 10 with (first | (go_at_call 13; refine hwr.mono ?_; rintro e w4 ⟨rfl, pv4, hd4, ht4, hf4, he4, hb4⟩; have hsy := own_sync E he4 hb4 hd4 ht4 hf4 HR3.out hnf (fun j e => by cases e); clear hd4 ht4 hf4 he4 hb4) | (go_at_call 15; refine hsy.mono ?_; rintro e w5 ⟨rfl, pv5, hd5, hb5, hr5, hnf5⟩))
  have hc5 : ∃ u : Int, w5.cell? ⟨w2.heap.size, 5, none⟩ = some (.int .u8 u) := ⟨_, rng_get (range_new hr5) 5 (by rw [fillL_len]; omega)⟩
  obtain ⟨u5, hc5⟩ := hc5
  have hf5 := thaw hr5 5
  have hN5 := Lib.hid (hnf5 (ownS a))
  have HD5 : Hid (DkS w5 w0.heap.size D R (ownS a) false (-1) pv5) := Lib.hid hd5
  have HB5 := Lib.hid hb5
  clear hwr hsy hd5 hb5 hr5 hnf5 hnf HD2 HD3 HR3 HB1 HB3
  have hlow : w0.heap.size ≤ w2.heap.size := HB2.out.size
  go_upto_region 11 with (fail)
  refine wp_world (fun W => Turn (· = w2.heap.size) w5 W) (set_turn _ _ _ _) ?_
  rintro w6 ht6
  have hd6 := HD5.out.other ht6 (fun k hk e => hN5.out (by rw [← e]; exact hk))
  have HB6 := Lib.hid (ht6.below HB5.out HB5.out.size (fun q e => by rw [e]; exact hlow))
  have hrd := read_in hd6 1 _ (ownS_get a)
  rw [ownS_top] at hrd
  have HD6 := Lib.hid hd6
  clear ht6 hc5 hf5 hd6 hN5 HD5 HB5
  go_upto_region 12 with (go_at_call 21; refine hrd.mono ?_; rintro e w7 ⟨g7, rfl, hg7, hr7, hb7⟩)
  have hd7 := HD6.out.below hb7
  have HB7 := Lib.hid (HB6.out.trans (hb7.mono HB6.out.size))
  have hfl := filled_any a w7
  have HD7 := Lib.hid hd7
  have HR7 := Lib.hid hr7
  have hn7 : ¬ DFoot D R (ownS a) pv5 g7 := fun h => by have := HD6.out.ltF h; omega
  have hl7 : w0.heap.size ≤ g7 := Nat.le_trans HB6.out.size hg7
  have hlt7 : g7 < w7.heap.size := (Array.getElem?_eq_some_iff.1 hr7).1
  clear hrd hd7 hb7 hr7
  go_upto_region 14 with (first | (go_at_call 11; refine hfl.mono ?_; rintro e w8 ⟨rfl, hr8, hb8⟩; have hg8 := (hb8.block g7 hlt7).trans HR7.out; have hsb := same_128 (fillL a) (fillL_len a) g7 w7.heap.size 128 128 w8 (range_new hg8) (range_new hr8)) | (go_at_call 23; refine hsb.mono ?_; rintro e w9 ⟨rfl, hb9⟩))
  have hg9 := (hb9.block g7 (Nat.lt_of_lt_of_le hlt7 hb8.size)).trans hg8
  have hd9 := (HD7.out.below hb8).below hb9
  have hc9 : ∃ u : Int, w9.cell? ⟨g7, 6, none⟩ = some (.int .u8 u) := ⟨_, rng_get (range_new hg9) 6 (by rw [fillL_len]; omega)⟩
  obtain ⟨u9, hc9⟩ := hc9
  have hf9 := thaw hg9 6
  have HB9 := Lib.hid ((HB7.out.trans (hb8.mono HB7.out.size)).trans (hb9.mono (Nat.le_trans HB7.out.size hb8.size)))
  have HD9 := Lib.hid hd9
  clear hfl hsb hr8 hb8 hg8 hb9 hg9 hd9
  go_upto_region 15 with (fail)
  refine wp_world (fun W => Turn (· = g7) w9 W) (set_turn _ _ _ _) ?_
  rintro w10 ht10
  have hd10 := HD9.out.other ht10 (fun k hk e => hn7 (by rw [← e]; exact hk))
  have HB10 := Lib.hid (ht10.below HB9.out HB9.out.size (fun q e => by rw [e]; exact hl7))
  have him := image_any hd10
  rw [ownS_len] at him
  have HD10 := Lib.hid hd10
  clear ht10 hd10 hc9 hf9 HD9 HB9
  go_upto_region 16 with (go_at_call 25; refine him.mono ?_; rintro e w11 ⟨v, rfl, ho11, hb11⟩)
  obtain ⟨g11, c11, cur11, rfl, hg11, hlt11, hr11, hh11⟩ := own_heap ho11 (by omega)
  have hc11 : ∃ u : Int, w11.cell? ⟨g11, 135, none⟩ = some (.int .u8 u) := ⟨_, by simpa [cellB] using rng_get hr11 135 (by rw [durs_len, ownS_len]; omega)⟩
  obtain ⟨u11, hc11⟩ := hc11
  have hf11 := thaw hh11 135
  have hd11 := HD10.out.below hb11
  have hn11 : ¬ DFoot D R (ownS a) pv5 g11 := fun h => by have := HD10.out.ltF h; omega
  have HB11 := Lib.hid (HB10.out.trans (hb11.mono HB10.out.size))
  have hl11 : w0.heap.size ≤ g11 := Nat.le_trans HB10.out.size hg11
  have HD11 := Lib.hid hd11
  clear him ho11 hb11 hr11 hh11 hd11
  go_upto_region 17 with (fail)
  refine wp_world (fun W => Turn (· = g11) w11 W) (set_turn _ _ _ _) ?_
  rintro w12 ht12
  have hd12 := HD11.out.other ht12 (fun k hk e => hn11 (by rw [← e]; exact hk))
  have HB12 := Lib.hid (ht12.below HB11.out HB11.out.size (fun q e => by rw [e]; exact hl11))
  have hrd := read_in hd12 1 _ (ownS_get a)
  rw [ownS_top] at hrd
  have HD12 := Lib.hid hd12
  clear ht12 hd12 hc11 hf11 HD11 HB11
  go_upto_region 18 with (go_at_call 21; refine hrd.mono ?_; rintro e w13 ⟨g13, rfl, hg13, hr13, hb13⟩)
  have HG := Lib.hid (range_new hr13)
  have HL := Lib.hid (Array.getElem?_eq_some_iff.1 hr13).1
  have HD := Lib.hid (HD12.out.below hb13)
  have HB := Lib.hid (HB12.out.trans (hb13.mono HB12.out.size))
  clear hrd hr13 hb13
  go_wp2_with (first | (go_at_call 11; refine (filled_any _ _).mono ?_; rintro e wx ⟨rfl, hrx, hbx⟩; have HG := Lib.hid (range_b HG.out hbx HL.out); have HL := Lib.hid (Nat.lt_of_lt_of_le HL.out hbx.size); have HD := Lib.hid (HD.out.below hbx); have HB := Lib.hid (HB.out.trans (hbx.mono HB.out.size)); clear hbx) | (go_at_call 23; refine (same_128 (fillL a) (fillL_len a) g13 _ 128 128 _ HG.out (range_new hrx)).mono ?_; rintro e wx ⟨rfl, hbx⟩; have HG := Lib.hid (range_b HG.out hbx HL.out); have HL := Lib.hid (Nat.lt_of_lt_of_le HL.out hbx.size); have HD := Lib.hid (HD.out.below hbx); have HB := Lib.hid (HB.out.trans (hbx.mono HB.out.size)); clear hbx) | (go_at_call 13; refine (write_out E (HE.out.below HB.out) HD.out _ _ _ _ (by first | (right; omega) | (left; rw [ownS_len]; decide))).mono ?_; rintro e wx ⟨rfl, hbx⟩; have HG := Lib.hid (range_b HG.out hbx HL.out); have HL := Lib.hid (Nat.lt_of_lt_of_le HL.out hbx.size); have HD := Lib.hid (HD.out.below hbx); have HB := Lib.hid (HB.out.trans (hbx.mono HB.out.size)); clear hbx) | (go_at_call 12; refine (is_any E (errV (E 1)) 102 102 (.inr ⟨1, by decide, rfl, by decide⟩) _ (HE.out.below HB.out)).mono ?_; rintro e wx ⟨rfl, hbx⟩; have HG := Lib.hid (range_b HG.out hbx HL.out); have HL := Lib.hid (Nat.lt_of_lt_of_le HL.out hbx.size); have HD := Lib.hid (HD.out.below hbx); have HB := Lib.hid (HB.out.trans (hbx.mono HB.out.size)); clear hbx))
  go_ret
  exact ⟨rfl, HB.out⟩
end Go.Proofs.YtionjhlllpipjaaDoor
