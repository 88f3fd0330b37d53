import Derived.Test.YtgdnolondfnbkaaDoorHej
/-
  HeadSays.
-/
namespace Go.Proofs.YtgdnolondfnbkaaDoor
open Go.RowKit

theorem same_eqH (A B : Option Addr) (xs : List Int) (ca cb : Nat) (w : World) (hA : SlRead w A (ints .u8 xs)) (hB : SlRead w B (ints .u8 xs)) (hx : xs.length ≤ 100000000) :
    Quiets Tryd.prog 11 #[.slice A xs.length ca, .slice B xs.length cb] w (.bool true) := by
  have h := sameBytes_any A B xs xs ca cb w hA hB (by omega) (by omega)
  rw [show decide (xs = xs) = true by simp] at h
  exact h
theorem same40 (dh : List Int) (pn n : Int) (A B : Option Addr) (ca cb : Nat) (w : World) (hl : dh.length = 32) (hA : SlRead w A (ints .u8 (hdB dh pn n))) (hB : SlRead w B (ints .u8 (hdB dh pn n))) :
    Quiets Tryd.prog 11 #[.slice A 40 ca, .slice B 40 cb] w (.bool true) := by
  have h := same_eqH A B (hdB dh pn n) ca cb w hA hB (by rw [hdB_len _ _ _ hl]; omega)
  rw [hdB_len _ _ _ hl] at h
  exact h
theorem RestP.form {xs : List Int} {r : Value} {w : World} (h : RestP xs r w) : ∃ A c, r = .slice A (xs.drop 40).length c ∧ SlRead w A (ints .u8 (xs.drop 40)) := by
  unfold RestP at h
  split at h
  · obtain ⟨A, c, rfl, hr⟩ := h
    exact ⟨A, c, by simp, hr⟩
  · obtain rfl := h
    have e : xs.drop 40 = [] := List.drop_of_length_le (by omega)
    rw [e]
    exact ⟨none, 0, rfl, SlRead.nil_⟩
theorem flt_one (o : Option (Nat × Int)) : ∃ fs : List Value, fltR o = fs.toArray ∧ fs.length = 3 ∧ ∀ v ∈ fs, v.oneCell' = true := by
  unfold fltR
  rcases o with _ | ⟨k, z⟩
  · exact ⟨(frow 0 false 0).toList, rfl, rfl, by intro v hv; simp [frow] at hv; rcases hv with rfl | rfl | rfl <;> rfl⟩
  · exact ⟨(frow (101 + (k : Int)) true z).toList, rfl, rfl, by intro v hv; simp [frow] at hv; rcases hv with rfl | rfl | rfl <;> rfl⟩
theorem norm_put {K : Act → World → Prop} {Q : Exit → Act → World → Prop} {a : Act} {w : World} (h : ∀ A, A = a → Exit.then K Q .normal A w) : Exit.then K Q .normal a w := h a rfl
set_option maxRecDepth 100000 in
set_option maxHeartbeats 6400000 in
theorem says_walk (E : Nat → Addr) (dh : List Int) (pn n : Int) (A : Option Addr) (xs : List Int) (ca : Nat) (w : World) (hdl : dh.length = 32) (hA : SlRead w A (ints .u8 xs)) (hca : xs.length ≤ ca) (hx : Byts xs) (hE : ErrsAt E w) :
    Calls Tryd.prog 3 #[hdV dh pn n, .slice A xs.length ca] w fun e w' => e = .returned (.bool true) ∧ Below w.heap.size w w' := by
  have hinf : (Tryd.prog.info? 26).map (·.size) = some 34 := by kernel_rfl
  obtain ⟨zs, hzs⟩ : ∃ zs, zs = xs.drop 40 := ⟨_, rfl⟩
  have hzl : zs.length = xs.length - 40 := by rw [hzs]; simp
  have HZ := Lib.hid hzs
  have HZL := Lib.hid hzl
  clear hzs hzl
  go_enter Tryd.func3, Tryd.ntmps3
  go_upto_region 1 with (fail)
  obtain ⟨P0, hP0⟩ : ∃ P, P = w.heap.size := ⟨_, rfl⟩
  refine wp_world (fun V => Below w.heap.size w V ∧ V.rangeAt P0 0 (hdC dh pn n) ∧ V.heap.size = P0 + 1) ⟨below_alc w _, by rw [hP0]; exact range_new (heap1_0 w _), by rw [hP0]; simp⟩ ?_
  rintro V0 ⟨hb0, rP0, hs0⟩
  rw [← hP0]
  have HD := Lib.hid (hdC_len dh pn n hdl)
  have hnP : w.heap.size ≤ P0 := by omega
  clear hP0
  go_wp2_with fail
  refine (hfirst_any E V0 (hE.below hb0)).mono ?_
  rintro e V1 ⟨rfl, hb1⟩
  have hs1 := hb1.size
  have rP1 := (Turn.of_below (F := fun _ => False) hb1).range rP0 (by omega) id
  have hbw1 := hb0.trans (hb1.mono hb0.size)
  have lP1 : P0 < V1.heap.size := by omega
  clear hb0 hb1 rP0 hs0 hs1
  by_cases hlen : 100 < xs.length
  · have hd : ((100 : Int) < (xs.length : Int)) = True := by simp; omega
    have HF := Lib.hid hbw1
    go_wp2_with fail
    go_ret
    exact ⟨rfl, HF.out⟩
  have hd : ¬ ((100 : Int) < (xs.length : Int)) := by omega
  have HR := hread_any E A xs ca V1 (hA.below hbw1) hx (by omega) (hE.below hbw1)
  obtain ⟨cs1, hcs1⟩ : ∃ cs, cs = hdR xs := ⟨_, rfl⟩
  obtain ⟨cs2, hcs2⟩ : ∃ cs, cs = hdR (xs.take 40) := ⟨_, rfl⟩
  have hx2 : Byts (xs.take 40) := fun x h => hx x (List.mem_of_mem_take h)
  have hE1 : ∀ w, (Op.equalIn 10000 26 (.agg cs1.toArray) (.agg cs1.toArray)).run Tryd.prog w = .ok true w := by rw [hcs1]; exact hdR_eq xs hx
  have hE2 : ∀ w, (Op.equalIn 10000 26 (.agg cs2.toArray) (.agg cs2.toArray)).run Tryd.prog w = .ok true w := by rw [hcs2]; exact hdR_eq _ hx2
  have HL1 : Hid (cs1.length = 34) := Lib.hid (by rw [hcs1]; exact hdR_len _)
  have HL2 : Hid (cs2.length = 34) := Lib.hid (by rw [hcs2]; exact hdR_len _)
  have HO1 : Hid (∀ v ∈ cs1, v.oneCell' = true) := Lib.hid (by rw [hcs1]; exact hdR_one _)
  have HO2 : Hid (∀ v ∈ cs2, v.oneCell' = true) := Lib.hid (by rw [hcs2]; exact hdR_one _)
  obtain ⟨fs1, hfs1, hfl1, hfo1⟩ := flt_one (hdO xs.length)
  obtain ⟨fs2, hfs2, hfl2, hfo2⟩ := flt_one (hdO (min 40 xs.length))
  have HF1 := Lib.hid hfl1
  have HF2 := Lib.hid hfl2
  have HG1 := Lib.hid hfo1
  have HG2 := Lib.hid hfo2
  have HDR : ∀ Y, Below w.heap.size w Y → _ := fun Y hY => drhead_any A xs ca Y (hA.below hY) hca hx (by omega)
  have HC : ∀ Y, Below w.heap.size w Y → _ := fun Y hY => hcut_any E A xs ca Y (hA.below hY) hca hx (by omega) (hE.below hY)
  have HDC : ∀ Y, Below w.heap.size w Y → _ := fun Y hY => dcut_any A xs ca Y (hA.below hY) hca hx (by omega)
  have HS1 : ∀ (v : Value) (Y : World), Below w.heap.size w Y → TellR E (hdO xs.length) v Y → _ := fun v Y hY h => same_tell E (hdO xs.length) v Y (hE.below hY) h
  have HS2 : ∀ (v : Value) (Y : World), Below w.heap.size w Y → TellR E (hdO (min 40 xs.length)) v Y → _ := fun v Y hY h => same_tell E (hdO (min 40 xs.length)) v Y (hE.below hY) h
  rw [← hcs1] at HR
  rw [← hcs1, hfs1] at HDR
  rw [← hcs2] at HC
  rw [← hcs2, hfs2] at HDC
  rw [hfs1] at HS1
  rw [hfs2] at HS2
  clear hcs1 hcs2 hfs1 hfs2 hfl1 hfl2 hfo1 hfo2 hx2 hlen
  go_wp2_with fail
  refine HR.mono ?_
  rintro e V2 ⟨u1, rfl, ht1, hb2⟩
  obtain ⟨B1, hB1⟩ : ∃ B, B = V2.heap.size := ⟨_, rfl⟩
  have rP2 := (Turn.of_below (F := fun _ => False) hb2).range rP1 lP1 id
  have hbw2 := hbw1.trans (hb2.mono hbw1.size)
  have hs2 := hb2.size
  clear HR rP1 hbw1 hb2
  go_upto_region 7 with (refine wpList_store_row rfl 26 _ _ rfl V2.heap.size cs1.toArray rfl rfl _ _ (heap_alloc_new _ _) (by rw [List.size_toArray, HL1.out]; exact hinf) (by simp [HL1.out]) (all_oneCell_toArray HO1.out) ?_)
  refine wp_world (fun V => Below V2.heap.size V2 V ∧ V.rangeAt B1 0 cs1 ∧ V.heap.size = B1 + 1) ⟨by rw [alloc_setRow]; exact below_alc V2 _, by rw [alloc_setRow, hB1]; exact range_new (heap1_0 V2 _), by rw [alloc_setRow, hB1]; simp⟩ ?_
  rintro V3 ⟨hb3, r13, hs3⟩
  rw [← hB1]
  have rP3 := (Turn.of_below (F := fun _ => False) hb3).range rP2 (by omega) id
  have hbw3 := hbw2.trans (hb3.mono hbw2.size)
  have ht13 := ht1.below hb3
  have hn1 : P0 < B1 := by omega
  clear rP2 hbw2 hb3 ht1 hB1 lP1 hs2
  go_wp2_with fail
  refine (HDR V3 hbw3).mono ?_
  rintro e V4 ⟨rfl, hb4⟩
  obtain ⟨B2, hB2⟩ : ∃ B, B = V4.heap.size := ⟨_, rfl⟩
  obtain ⟨F2, hF2⟩ : ∃ B, B = B2 + 1 := ⟨_, rfl⟩
  have rP4 := (Turn.of_below (F := fun _ => False) hb4).range rP3 (by omega) id
  have r14 := (Turn.of_below (F := fun _ => False) hb4).range r13 (by omega) id
  have ht14 := ht13.below hb4
  have hbw4 := hbw3.trans (hb4.mono hbw3.size)
  have hs4 := hb4.size
  clear HDR rP3 r13 ht13 hbw3 hb4
  go_upto_region 8 with (first | (refine wpList_store_row rfl 26 _ _ rfl V4.heap.size cs1.toArray rfl rfl _ _ (heap2_0 _ _ _) (by rw [List.size_toArray, HL1.out]; exact hinf) (by simp [HL1.out]) (all_oneCell_toArray HO1.out) ?_) | (refine wpList_store_row rfl 34 _ _ rfl (V4.heap.size + 1) fs1.toArray rfl rfl _ _ ((setRow_other _ _ _ _ (by omega)).trans (heap2_1 _ _ _)) (by rw [List.size_toArray, HF1.out]; kernel_rfl) (by simp [HF1.out]) (all_oneCell_toArray HG1.out) ?_))
  refine wp_world (fun V => Below V4.heap.size V4 V ∧ V.rangeAt B2 0 cs1 ∧ V.rangeAt F2 0 fs1 ∧ V.heap.size = F2 + 1) ?_ ?_
  · subst hF2 hB2
    have h0 := (setRow_other _ (V4.heap.size + 1) V4.heap.size fs1.toArray (by omega)).trans (setRow_heap _ V4.heap.size _ cs1.toArray _ _ (heap2_0 V4 (.cells (hdC zdh 0 0).toArray 26 ) (.cells (frow 0 false 0) 34 )))
    have h1 := setRow_heap _ (V4.heap.size + 1) _ fs1.toArray _ _ ((setRow_other _ V4.heap.size (V4.heap.size + 1) cs1.toArray (by omega)).trans (heap2_1 V4 (.cells (hdC zdh 0 0).toArray 26 ) (.cells (frow 0 false 0) 34 )))
    exact ⟨setRow_below (setRow_below ((below_alc V4 _).alloc (by simp) _) _ (by omega) _) _ (by omega) _, range_new h0, range_new h1, by simp [World.setRow]⟩
  rintro V5 ⟨hb5, r25, q25, hs5⟩
  rw [← hB2, ← hF2]
  have rP5 := (Turn.of_below (F := fun _ => False) hb5).range rP4 (by omega) id
  have r15 := (Turn.of_below (F := fun _ => False) hb5).range r14 (by omega) id
  have ht15 := ht14.below hb5
  have hbw5 := hbw4.trans (hb5.mono hbw4.size)
  have hn2 : B1 < B2 ∧ B2 < F2 := by omega
  clear rP4 r14 ht14 hbw4 hb5 hB2 hF2 hs4 hs3
  go_wp2_with fail
  refine (HC V5 hbw5).mono ?_
  rintro e V6 ⟨rr, u3, rfl, ht36, hrest, hb6⟩
  have hf := hrest.form
  rw [← HZ.out] at hf
  obtain ⟨A3, c3, rfl, hz36⟩ := hf
  obtain ⟨B3, hB3⟩ : ∃ B, B = V6.heap.size := ⟨_, rfl⟩
  have rP6 := (Turn.of_below (F := fun _ => False) hb6).range rP5 (by omega) id
  have r16 := (Turn.of_below (F := fun _ => False) hb6).range r15 (by omega) id
  have r26 := (Turn.of_below (F := fun _ => False) hb6).range r25 (by omega) id
  have q26 := (Turn.of_below (F := fun _ => False) hb6).range q25 (by omega) id
  have ht16 := ht15.below hb6
  have hbw6 := hbw5.trans (hb6.mono hbw5.size)
  have hs6 := hb6.size
  clear HC rP5 r15 r25 q25 ht15 hbw5 hb6 hrest
  go_upto_region 9 with (refine wpList_store_row rfl 26 _ _ rfl V6.heap.size cs2.toArray rfl rfl _ _ (heap_alloc_new _ _) (by rw [List.size_toArray, HL2.out]; exact hinf) (by simp [HL2.out]) (all_oneCell_toArray HO2.out) ?_)
  refine wp_world (fun V => Below V6.heap.size V6 V ∧ V.rangeAt B3 0 cs2 ∧ V.heap.size = B3 + 1) ⟨by rw [alloc_setRow]; exact below_alc V6 _, by rw [alloc_setRow, hB3]; exact range_new (heap1_0 V6 _), by rw [alloc_setRow, hB3]; simp⟩ ?_
  rintro V7 ⟨hb7, r37, hs7⟩
  rw [← hB3]
  have rP7 := (Turn.of_below (F := fun _ => False) hb7).range rP6 (by omega) id
  have r17 := (Turn.of_below (F := fun _ => False) hb7).range r16 (by omega) id
  have r27 := (Turn.of_below (F := fun _ => False) hb7).range r26 (by omega) id
  have q27 := (Turn.of_below (F := fun _ => False) hb7).range q26 (by omega) id
  have ht17 := ht16.below hb7
  have ht37 := ht36.below hb7
  have hz37 := hz36.below hb7
  have hbw7 := hbw6.trans (hb7.mono hbw6.size)
  have hn3 : F2 < B3 := by omega
  clear rP6 r16 r26 q26 ht16 ht36 hz36 hbw6 hb7 hB3 hs6 hs5
  go_wp2_with fail
  refine (HDC V7 hbw7).mono ?_
  rintro e V8 ⟨rr, rfl, hrest, hb8⟩
  have hf := hrest.form
  rw [← HZ.out] at hf
  obtain ⟨A4, c4, rfl, hz48⟩ := hf
  obtain ⟨B4, hB4⟩ : ∃ B, B = V8.heap.size := ⟨_, rfl⟩
  obtain ⟨F4, hF4⟩ : ∃ B, B = B4 + 1 := ⟨_, rfl⟩
  have rP8 := (Turn.of_below (F := fun _ => False) hb8).range rP7 (by omega) id
  have r18 := (Turn.of_below (F := fun _ => False) hb8).range r17 (by omega) id
  have r28 := (Turn.of_below (F := fun _ => False) hb8).range r27 (by omega) id
  have q28 := (Turn.of_below (F := fun _ => False) hb8).range q27 (by omega) id
  have r38 := (Turn.of_below (F := fun _ => False) hb8).range r37 (by omega) id
  have ht18 := ht17.below hb8
  have ht38 := ht37.below hb8
  have hz38 := hz37.below hb8
  have hbw8 := hbw7.trans (hb8.mono hbw7.size)
  have hs8 := hb8.size
  clear HDC rP7 r17 r27 q27 r37 ht17 ht37 hz37 hbw7 hb8 hrest
  go_upto_region 10 with (first | (refine wpList_store_row rfl 26 _ _ rfl V8.heap.size cs2.toArray rfl rfl _ _ (heap2_0 _ _ _) (by rw [List.size_toArray, HL2.out]; exact hinf) (by simp [HL2.out]) (all_oneCell_toArray HO2.out) ?_) | (refine wpList_store_row rfl 34 _ _ rfl (V8.heap.size + 1) fs2.toArray rfl rfl _ _ ((setRow_other _ _ _ _ (by omega)).trans (heap2_1 _ _ _)) (by rw [List.size_toArray, HF2.out]; kernel_rfl) (by simp [HF2.out]) (all_oneCell_toArray HG2.out) ?_))
  refine wp_world (fun V => Below V8.heap.size V8 V ∧ V.rangeAt B4 0 cs2 ∧ V.rangeAt F4 0 fs2 ∧ V.heap.size = F4 + 1) ?_ ?_
  · subst hF4 hB4
    have h0 := (setRow_other _ (V8.heap.size + 1) V8.heap.size fs2.toArray (by omega)).trans (setRow_heap _ V8.heap.size _ cs2.toArray _ _ (heap2_0 V8 (.cells (hdC zdh 0 0).toArray 26 ) (.cells (frow 0 false 0) 34 )))
    have h1 := setRow_heap _ (V8.heap.size + 1) _ fs2.toArray _ _ ((setRow_other _ V8.heap.size (V8.heap.size + 1) cs2.toArray (by omega)).trans (heap2_1 V8 (.cells (hdC zdh 0 0).toArray 26 ) (.cells (frow 0 false 0) 34 )))
    exact ⟨setRow_below (setRow_below ((below_alc V8 _).alloc (by simp) _) _ (by omega) _) _ (by omega) _, range_new h0, range_new h1, by simp [World.setRow]⟩
  rintro W ⟨hb9, r4, q4, hs9⟩
  rw [← hB4, ← hF4]
  have rP := (Turn.of_below (F := fun _ => False) hb9).range rP8 (by omega) id
  have r1 := (Turn.of_below (F := fun _ => False) hb9).range r18 (by omega) id
  have r2 := (Turn.of_below (F := fun _ => False) hb9).range r28 (by omega) id
  have q2 := (Turn.of_below (F := fun _ => False) hb9).range q28 (by omega) id
  have r3 := (Turn.of_below (F := fun _ => False) hb9).range r38 (by omega) id
  have ht1 := ht18.below hb9
  have ht3 := ht38.below hb9
  have z3 := hz38.below hb9
  have z4 := hz48.below hb9
  have hbw := hbw8.trans (hb9.mono hbw8.size)
  have hn4 : B3 < B4 ∧ B4 < F4 ∧ F4 < W.heap.size := by omega
  clear rP8 r18 r28 q28 r38 ht18 ht38 hz38 hz48 hbw8 hb9 hB4 hF4 hs8 hs7 hs9
  have lP : P0 < W.heap.size := by omega
  have l1 : B1 < W.heap.size := by omega
  have l2 : B2 < W.heap.size := by omega
  have m2 : F2 < W.heap.size := by omega
  have l3 : B3 < W.heap.size := by omega
  have l4 : B4 < W.heap.size := by omega
  have m4 : F4 < W.heap.size := by omega
  have hzl : zs.length ≤ 100 := by have := HZL.out; omega
  have hS1 : ∀ Y, Below W.heap.size W Y → _ := fun Y hY => HS1 u1 Y (hbw.trans (hY.mono hbw.size)) (ht1.below hY)
  have hS2 : ∀ Y, Below W.heap.size W Y → _ := fun Y hY => HS2 u3 Y (hbw.trans (hY.mono hbw.size)) (ht3.below hY)
  refine wp_region_noPanic ?_
  refine wp_region_held_drew (S := fun Y => Below W.heap.size W Y) (by kernel_rfl) (Below.drewNr (w := W) 1) (fun hHeld => ?_)
  refine held_move 0 (Go.Operand.tmp 5) (some 45) (.bool true) (by kernel_rfl) (by kernel_rfl) (by kernel_rfl) (by kernel_rfl) (by kernel_rfl) (fun _ _ _ _ _ h => h) hHeld ?_
  refine held_move 1 (Go.Operand.tmp 45) (some 46) (.bool true) (by kernel_rfl) (by kernel_rfl) (by kernel_rfl) (by kernel_rfl) (by kernel_rfl) (fun _ _ _ _ _ h => h) hHeld ?_
  refine held_load 2 26 (Go.Operand.tmp 2) (some 47) (P0) (0) (hdC dh pn n) _ (by kernel_rfl) (by kernel_rfl) (fun w h => (Turn.of_below (F := fun _ => False) h).range rP lP id) Tryd.underlying26 rfl (by rw [HD.out]; exact hinf) (by kernel_rfl) (by kernel_rfl) (by kernel_rfl) (fun _ _ _ _ _ h => h) hHeld ?_
  refine held_load 4 26 (Go.Operand.tmp 2) (some 49) (P0) (0) (hdC dh pn n) _ (by kernel_rfl) (by kernel_rfl) (fun w h => (Turn.of_below (F := fun _ => False) h).range rP lP id) Tryd.underlying26 rfl (by rw [HD.out]; exact hinf) (by kernel_rfl) (by kernel_rfl) (by kernel_rfl) (fun _ _ _ _ _ h => h) hHeld ?_
  refine held_call 3 12 #[Go.Operand.tmp 47] #[26] (some 48) #[.agg (hdC dh pn n).toArray] _ (by kernel_rfl) (by kernel_rfl) (by kernel_rfl) (by kernel_rfl) (hbytes_any dh pn n _ hdl) ?_
  rintro e Y1 ⟨va, rfl, hown1, hb1⟩
  obtain ⟨Aa, ca2, rfl, _⟩ := ownsRow_form hown1
  have hra := SlRead.of_own hown1
  refine ⟨_, rfl, hHeld.trans (hb1.mono hHeld.size), fun hHeld => ?_⟩
  refine held_call 5 13 #[Go.Operand.tmp 49] #[26] (some 50) #[.agg (hdC dh pn n).toArray] _ (by kernel_rfl) (by kernel_rfl) (by kernel_rfl) (by kernel_rfl) (dheader_any dh pn n _ hdl) ?_
  rintro e Y2 ⟨vb, rfl, hown2, hb2⟩
  obtain ⟨Ab, cb2, rfl, _⟩ := ownsRow_form hown2
  have hrb := SlRead.of_own hown2
  have hra := hra.below hb2
  refine ⟨_, rfl, hHeld.trans (hb2.mono hHeld.size), fun hHeld => ?_⟩
  refine held_call 6 11 #[Go.Operand.tmp 48, Go.Operand.tmp 50] #[27, 27] (some 51) #[.slice Aa 40 ca2, .slice Ab 40 cb2] _ (by kernel_rfl) (by kernel_rfl) (by kernel_rfl) (by kernel_rfl) (same40 dh pn n _ _ _ _ _ hdl hra hrb) ?_
  rintro e Y3 ⟨rfl, m3, rfl⟩
  refine ⟨_, rfl, hHeld.trans ((Below.drewNr m3).mono hHeld.size), fun hHeld => ?_⟩
  refine held_pick 7 (Go.Operand.tmp 46) (Go.Operand.tmp 51) (Go.Operand.const (Go.Value.bool false)) (some 52) true (.bool true) (by kernel_rfl) (by kernel_rfl) (by kernel_rfl) (by kernel_rfl) (by kernel_rfl) (by kernel_rfl) (fun _ _ _ _ _ h => h) hHeld ?_
  refine held_move 8 (Go.Operand.tmp 52) (some 53) (.bool true) (by kernel_rfl) (by kernel_rfl) (by kernel_rfl) (by kernel_rfl) (by kernel_rfl) (fun _ _ _ _ _ h => h) hHeld ?_
  refine held_load 9 26 (Go.Operand.tmp 6) (some 54) (B1) (0) (cs1) _ (by kernel_rfl) (by kernel_rfl) (fun w h => (Turn.of_below (F := fun _ => False) h).range r1 l1 id) Tryd.underlying26 rfl (by rw [HL1.out]; exact hinf) (by kernel_rfl) (by kernel_rfl) (by kernel_rfl) (fun _ _ _ _ _ h => h) hHeld ?_
  refine held_load 10 26 (Go.Operand.tmp 8) (some 55) (B2) (0) (cs1) _ (by kernel_rfl) (by kernel_rfl) (fun w h => (Turn.of_below (F := fun _ => False) h).range r2 l2 id) Tryd.underlying26 rfl (by rw [HL1.out]; exact hinf) (by kernel_rfl) (by kernel_rfl) (by kernel_rfl) (fun _ _ _ _ _ h => h) hHeld ?_
  refine held_eql 11 26 (Go.Operand.tmp 54) (Go.Operand.tmp 55) 26 (some 56) (cs1.toArray) (cs1.toArray) true (by kernel_rfl) (by kernel_rfl) (by kernel_rfl) (by kernel_rfl) (hE1) (by kernel_rfl) (by kernel_rfl) (by kernel_rfl) (fun _ _ _ _ _ h => h) hHeld ?_
  refine held_pick 12 (Go.Operand.tmp 53) (Go.Operand.tmp 56) (Go.Operand.const (Go.Value.bool false)) (some 57) true (.bool true) (by kernel_rfl) (by kernel_rfl) (by kernel_rfl) (by kernel_rfl) (by kernel_rfl) (by kernel_rfl) (fun _ _ _ _ _ h => h) hHeld ?_
  refine held_move 13 (Go.Operand.tmp 57) (some 58) (.bool true) (by kernel_rfl) (by kernel_rfl) (by kernel_rfl) (by kernel_rfl) (by kernel_rfl) (fun _ _ _ _ _ h => h) hHeld ?_
  refine held_move 14 (Go.Operand.tmp 7) (some 59) (u1) (by kernel_rfl) (by kernel_rfl) (by kernel_rfl) (by kernel_rfl) (by kernel_rfl) (fun _ _ _ _ _ h => h) hHeld ?_
  refine held_load 15 34 (Go.Operand.tmp 9) (some 60) (F2) (0) (fs1) _ (by kernel_rfl) (by kernel_rfl) (fun w h => (Turn.of_below (F := fun _ => False) h).range q2 m2 id) Tryd.underlying34 rfl (by rw [HF1.out]; kernel_rfl) (by kernel_rfl) (by kernel_rfl) (by kernel_rfl) (fun _ _ _ _ _ h => h) hHeld ?_
  refine held_call 16 14 #[Go.Operand.tmp 59, Go.Operand.tmp 60] #[30, 34] (some 61) #[u1, .agg (fs1).toArray] _ (by kernel_rfl) (by kernel_rfl) (by kernel_rfl) (by kernel_rfl) (hS1 _ hHeld) ?_
  rintro e Y4 ⟨rfl, hb4⟩
  refine ⟨_, rfl, hHeld.trans (hb4.mono hHeld.size), fun hHeld => ?_⟩
  refine held_pick 17 (Go.Operand.tmp 58) (Go.Operand.tmp 61) (Go.Operand.const (Go.Value.bool false)) (some 62) true (.bool true) (by kernel_rfl) (by kernel_rfl) (by kernel_rfl) (by kernel_rfl) (by kernel_rfl) (by kernel_rfl) (fun _ _ _ _ _ h => h) hHeld ?_
  refine held_move 18 (Go.Operand.tmp 62) (some 63) (.bool true) (by kernel_rfl) (by kernel_rfl) (by kernel_rfl) (by kernel_rfl) (by kernel_rfl) (fun _ _ _ _ _ h => h) hHeld ?_
  refine held_load 19 26 (Go.Operand.tmp 10) (some 64) (B3) (0) (cs2) _ (by kernel_rfl) (by kernel_rfl) (fun w h => (Turn.of_below (F := fun _ => False) h).range r3 l3 id) Tryd.underlying26 rfl (by rw [HL2.out]; exact hinf) (by kernel_rfl) (by kernel_rfl) (by kernel_rfl) (fun _ _ _ _ _ h => h) hHeld ?_
  refine held_load 20 26 (Go.Operand.tmp 13) (some 65) (B4) (0) (cs2) _ (by kernel_rfl) (by kernel_rfl) (fun w h => (Turn.of_below (F := fun _ => False) h).range r4 l4 id) Tryd.underlying26 rfl (by rw [HL2.out]; exact hinf) (by kernel_rfl) (by kernel_rfl) (by kernel_rfl) (fun _ _ _ _ _ h => h) hHeld ?_
  refine held_eql 21 26 (Go.Operand.tmp 64) (Go.Operand.tmp 65) 26 (some 66) (cs2.toArray) (cs2.toArray) true (by kernel_rfl) (by kernel_rfl) (by kernel_rfl) (by kernel_rfl) (hE2) (by kernel_rfl) (by kernel_rfl) (by kernel_rfl) (fun _ _ _ _ _ h => h) hHeld ?_
  refine held_pick 22 (Go.Operand.tmp 63) (Go.Operand.tmp 66) (Go.Operand.const (Go.Value.bool false)) (some 67) true (.bool true) (by kernel_rfl) (by kernel_rfl) (by kernel_rfl) (by kernel_rfl) (by kernel_rfl) (by kernel_rfl) (fun _ _ _ _ _ h => h) hHeld ?_
  refine held_move 23 (Go.Operand.tmp 67) (some 68) (.bool true) (by kernel_rfl) (by kernel_rfl) (by kernel_rfl) (by kernel_rfl) (by kernel_rfl) (fun _ _ _ _ _ h => h) hHeld ?_
  refine held_move 24 (Go.Operand.tmp 11) (some 69) (.slice A3 zs.length c3) (by kernel_rfl) (by kernel_rfl) (by kernel_rfl) (by kernel_rfl) (by kernel_rfl) (fun _ _ _ _ _ h => h) hHeld ?_
  refine held_move 25 (Go.Operand.tmp 14) (some 70) (.slice A4 zs.length c4) (by kernel_rfl) (by kernel_rfl) (by kernel_rfl) (by kernel_rfl) (by kernel_rfl) (fun _ _ _ _ _ h => h) hHeld ?_
  refine held_call 26 11 #[Go.Operand.tmp 69, Go.Operand.tmp 70] #[27, 27] (some 71) #[.slice A3 zs.length c3, .slice A4 zs.length c4] _ (by kernel_rfl) (by kernel_rfl) (by kernel_rfl) (by kernel_rfl) (same_eqH _ _ zs _ _ _ (z3.below hHeld) (z4.below hHeld) (by omega)) ?_
  rintro e Y5 ⟨rfl, m5, rfl⟩
  refine ⟨_, rfl, hHeld.trans ((Below.drewNr m5).mono hHeld.size), fun hHeld => ?_⟩
  refine held_pick 27 (Go.Operand.tmp 68) (Go.Operand.tmp 71) (Go.Operand.const (Go.Value.bool false)) (some 72) true (.bool true) (by kernel_rfl) (by kernel_rfl) (by kernel_rfl) (by kernel_rfl) (by kernel_rfl) (by kernel_rfl) (fun _ _ _ _ _ h => h) hHeld ?_
  refine held_move 28 (Go.Operand.tmp 72) (some 73) (.bool true) (by kernel_rfl) (by kernel_rfl) (by kernel_rfl) (by kernel_rfl) (by kernel_rfl) (fun _ _ _ _ _ h => h) hHeld ?_
  refine held_move 29 (Go.Operand.tmp 12) (some 74) (u3) (by kernel_rfl) (by kernel_rfl) (by kernel_rfl) (by kernel_rfl) (by kernel_rfl) (fun _ _ _ _ _ h => h) hHeld ?_
  refine held_load 30 34 (Go.Operand.tmp 15) (some 75) (F4) (0) (fs2) _ (by kernel_rfl) (by kernel_rfl) (fun w h => (Turn.of_below (F := fun _ => False) h).range q4 m4 id) Tryd.underlying34 rfl (by rw [HF2.out]; kernel_rfl) (by kernel_rfl) (by kernel_rfl) (by kernel_rfl) (fun _ _ _ _ _ h => h) hHeld ?_
  refine held_call 31 14 #[Go.Operand.tmp 74, Go.Operand.tmp 75] #[30, 34] (some 76) #[u3, .agg (fs2).toArray] _ (by kernel_rfl) (by kernel_rfl) (by kernel_rfl) (by kernel_rfl) (hS2 _ hHeld) ?_
  rintro e Y6 ⟨rfl, hb6⟩
  refine ⟨_, rfl, hHeld.trans (hb6.mono hHeld.size), fun hHeld => ?_⟩
  refine held_pick 32 (Go.Operand.tmp 73) (Go.Operand.tmp 76) (Go.Operand.const (Go.Value.bool false)) (some 77) true (.bool true) (by kernel_rfl) (by kernel_rfl) (by kernel_rfl) (by kernel_rfl) (by kernel_rfl) (by kernel_rfl) (fun _ _ _ _ _ h => h) hHeld ?_
  refine held_assign 33 (Go.Operand.tmp 77) (some 4) (.bool true) (by kernel_rfl) (by kernel_rfl) (by kernel_rfl) (by kernel_rfl) (by kernel_rfl) (fun _ _ _ _ _ h => h) hHeld ?_
  refine wpAnyH_done (by kernel_rfl) ?_ _
  refine NoPanic.normal ?_
  refine norm_put fun A hA => ?_
  have h8 : A.tmps.getD 4 undef = .bool true := by rw [hA]; kernel_rfl
  have hd8 : A.defers = [] := by rw [hA]; kernel_rfl
  clear hA
  have HF := Lib.hid (hbw.trans (hHeld.mono hbw.size))
  go_wp2_with fail
  exact ret_slot 4 rfl h8 hd8 ⟨rfl, HF.out⟩
end Go.Proofs.YtgdnolondfnbkaaDoor
