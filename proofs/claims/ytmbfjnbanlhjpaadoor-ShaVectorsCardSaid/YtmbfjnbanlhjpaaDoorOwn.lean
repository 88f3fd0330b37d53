import Derived.Test.YtmbfjnbanlhjpaaDoorLen
namespace Go.Proofs.YtmbfjnbanlhjpaaDoor
open Go.RowKit

set_option maxRecDepth 100000 in
set_option maxHeartbeats 1600000 in
theorem own_walk (A : Option Addr) (ys : List (BitVec 8)) (cap : Nat) (z : Int) (w : World) (hA : SlRead w A (ints .u8 (bys ys))) (hcap : ys.length ≤ cap) (hmax : ys.length ≤ 9223372036854775807) (hk : KAt w) :
    Calls Tryd.prog 5 #[.slice A ys.length cap, .int .i64 z] w fun e w' => e = .returned (.bool true) ∧ Below w.heap.size w w' := by
  go_enter Tryd.func5, Tryd.ntmps5
  go_wp2_with fail
  refine (first_any _ hk).mono ?_
  rintro e W ⟨rfl, hb⟩
  by_cases hz0 : ys.length = 0
  · have hb0 : ((ys.length : Int) == 0) = true := by simp [hz0]
    go_wp2_with fail
    go_ret
    exact ⟨rfl, hb⟩
  have hb0 : ((ys.length : Int) == 0) = false := by simpa using hz0
  by_cases h200 : 200 < ys.length
  · have hb2 : decide ((200 : Int) < (ys.length : Int)) = true := by simp; omega
    go_wp2_with fail
    go_ret
    exact ⟨rfl, hb⟩
  have hb2 : decide ((200 : Int) < (ys.length : Int)) = false := by simp; omega
  have hAW := hA.below hb
  have hkW := hk.below hb
  have hby := bytes_any A (bys ys) cap W hAW (by simp; omega)
  rw [bys_length] at hby
  go_wp2_with fail
  refine hby.mono ?_
  rintro e W1 ⟨v, rfl, hown, hb1⟩
  obtain ⟨Aw, cw, rfl, hcw⟩ := ownsRow_form hown
  have hr1 := SlRead.of_own hown
  have hA1 := hAW.below hb1
  have hk1 := hkW.below hb1
  have hb1' := hb.trans (hb1.mono hb.size)
  clear hown hAW hkW hb hby hA hb1
  go_wp2_with fail
  refine (new_any _).mono ?_
  rintro e W2 ⟨C1, rfl, hC1, hx2, hb2'⟩
  have hr2 := hr1.below hb2'
  have hA2 := hA1.below hb2'
  have hk2 := hk1.below hb2'
  have hB2 := hb1'.trans (hb2'.mono hb1'.size)
  have offA1 : OffB A C1 := hA1.offB (by simp; omega) hC1
  have offW1 : OffB Aw C1 := hr1.offB (by simp; omega) hC1
  have hk1C : 0 < C1 := Nat.lt_of_lt_of_le hk1.lt hC1
  have hw1 : w.heap.size ≤ C1 := Nat.le_trans hb1'.size hC1
  clear hr1 hA1 hk1 hb1' hb2'
  go_wp2_with fail
  refine (new_any _).mono ?_
  rintro e W3 ⟨C2, rfl, hC2, hy3, hb3⟩
  have hx3 := hx2.below hb3
  have hr3 := hr2.below hb3
  have hA3 := hA2.below hb3
  have hk3 := hk2.below hb3
  have hB3 := hB2.trans (hb3.mono hB2.size)
  have offA2 : OffB A C2 := hA2.offB (by simp; omega) hC2
  have offW2 : OffB Aw C2 := hr2.offB (by simp; omega) hC2
  have hC12 : C1 < C2 := Nat.lt_of_lt_of_le hx2.lt hC2
  clear hx2 hr2 hA2 hk2 hB2 hb3
  go_wp2_with fail
  refine (write_x C1 [] ys A cap W3 hx3 hk3 (by omega) hA3 (fun _ => offA1) hcap (by omega)).mono ?_
  rintro e W4 ⟨rfl, hx4, hon⟩
  have hy4 : HashX W4 C2 [] := hon.row hy3 (by omega)
  have hr4 := hr3.only offW1 hon
  have hA4 := hA3.only offA1 hon
  have hk4 := hon.kat hk3 (by omega)
  have hB4 := hB3.trans (hon.below hw1 hB3.size)
  clear hx3 hy3 hr3 hA3 hk3 hB3 hon
  rw [List.nil_append] at hx4
  go_wp2_with fail
  refine (sum_x C1 _ W4 hx4 hk4).mono ?_
  rintro e W5 ⟨rfl, hb5⟩
  have hx5 := hx4.below hb5
  have hy5 := hy4.below hb5
  have hr5 := hr4.below hb5
  have hA5 := hA4.below hb5
  have hk5 := hk4.below hb5
  have hB5 := hB4.trans (hb5.mono hB4.size)
  clear hx4 hy4 hr4 hA4 hk4 hB4 hb5
  go_upto_region 13 with (first | (refine wpList_store_row rfl 26 _ _ rfl _ _ rfl rfl _ _ (heap_alloc_new _ _) (by kernel_rfl) (by simp) (arr8_one _ _) ?_; rw [alloc_setRow]))
  generalize hGA : W5.heap.size = GA at *
  have hb6 : Below GA W5 (W5.alloc (.cells (arr8 32 (shaOf ys)) 26)) := by
    rw [← hGA]; exact (Below.refl _ _).alloc (Nat.le_refl _) _
  have ha6 : (W5.alloc (.cells (arr8 32 (shaOf ys)) 26)).rowIs GA 26 32 (fun i => v8 (shaOf ys i)) := rowIs_new _ _ _ _ _ _ hGA.symm (by simp) (fun i hi => arr8_get 32 _ i hi)
  generalize W5.alloc (.cells (arr8 32 (shaOf ys)) 26) = W6 at *
  rw [← hGA] at hb6
  have hx6 := hx5.below hb6
  have hy6 := hy5.below hb6
  have hr6 := hr5.below hb6
  have hA6 := hA5.below hb6
  have hk6 := hk5.below hb6
  have hB6 := hB5.trans (hb6.mono hB5.size)
  have hC1g : C1 < GA := by rw [← hGA]; exact hx5.lt
  have hC2g : C2 < GA := by rw [← hGA]; exact hy5.lt
  clear hx5 hy5 hr5 hA5 hk5 hB5 hb6 hGA
  go_wp2_with fail
  have hrd1 : ∀ W : World, SlRead (W.alloc (.cells #[.int .u8 1] 5)) (some ⟨W.heap.size, 0, none⟩) (ints .u8 (bys [1#8])) := by
    intro W _
    refine ⟨W.heap.size, 0, rfl, by simp, fun j u hj => ?_⟩
    have hj0 : j = 0 := by
      have := (List.getElem?_eq_some_iff.1 hj).1
      simp at this
      omega
    subst hj0
    rw [World.cell?_alloc_new]
    exact hj
  have hb7 : Below W6.heap.size W6 (W6.alloc (.cells #[.int .u8 1] 5)) := (Below.refl _ _).alloc (Nat.le_refl _) _
  have hg6 : GA < W6.heap.size := ha6.lt
  have hw7 := write_x C2 [] [1#8] (some ⟨W6.heap.size, 0, none⟩) 1 (W6.alloc (.cells #[.int .u8 1] 5)) (hy6.below hb7) (hk6.below hb7) (by omega) (hrd1 W6) (fun _ b' o' e => by simp at e; omega) (by simp) (by simp)
  refine hw7.mono ?_
  rintro e W7 ⟨rfl, hy7, hon⟩
  have hon7 : Only C2 W6 W7 := (Only.of_below hb7).trans hon
  have hx7 : HashX W7 C1 ys := hon7.row hx6 (by omega)
  have ha7 := hon7.row ha6 (by omega)
  have hr7 := hr6.only offW2 hon7
  have hA7 := hA6.only offA2 hon7
  have hk7 := hon7.kat hk6 (by omega)
  have hB7 := hB6.trans (hon7.below (by omega) hB6.size)
  clear hx6 hy6 ha6 hr6 hA6 hk6 hB6 hon hon7 hb7 hw7
  have hsb := sameBytes_any A Aw (bys ys) (bys ys) cap cw W7 hA7 hr7 (by simp; omega) (by simp; omega)
  rw [bys_length, show decide (bys ys = bys ys) = true by simp] at hsb
  go_wp2_with fail
  refine hsb.mono ?_
  rintro e W7b ⟨rfl, m7, rfl⟩
  clear hsb
  go_wp2_with fail
  refine (new_any _).mono ?_
  rintro e W8 ⟨C3, rfl, hC3, hz8, hb8⟩
  have hC3' : W7.heap.size ≤ C3 := hC3
  have hb8' : Below W7.heap.size W7 W8 := (Below.drewNr m7).trans hb8
  have hx8 := hx7.below hb8'
  have hy8 := hy7.below hb8'
  have ha8 := ha7.of_block (hb8'.block _ ha7.lt)
  have hr8 := hr7.below hb8'
  have hA8 := hA7.below hb8'
  have hk8 := hk7.below hb8'
  have hB8 := hB7.trans (hb8'.mono hB7.size)
  have offW3 : OffB Aw C3 := hr7.offB (by simp; omega) hC3'
  have hGA3 : GA < C3 := Nat.lt_of_lt_of_le ha7.lt hC3'
  have hw3 : w.heap.size ≤ C3 := Nat.le_trans hB7.size hC3'
  clear hx7 hy7 ha7 hr7 hA7 hk7 hB7 hb8 hb8' hC3 hC3'
  have hby := bytes_any A (bys ys) cap W8 hA8 (by simp; omega)
  rw [bys_length] at hby
  go_wp2_with fail
  refine hby.mono ?_
  rintro e W9 ⟨v, rfl, hown, hb9⟩
  obtain ⟨Ad, cd, rfl, hcd⟩ := ownsRow_form hown
  have hd9 := SlRead.of_own hown
  have hx9 := hx8.below hb9
  have hy9 := hy8.below hb9
  have hz9 := hz8.below hb9
  have ha9 := ha8.of_block (hb9.block _ ha8.lt)
  have hr9 := hr8.below hb9
  have hk9 := hk8.below hb9
  have hB9 := hB8.trans (hb9.mono hB8.size)
  have hC39 : C3 < W8.heap.size := hz8.lt
  have offWg : ∀ g, W8.heap.size ≤ g → OffB Aw g := fun g hg => hr8.offB (by simp; omega) hg
  clear hby hx8 hy8 hz8 ha8 hr8 hA8 hk8 hB8 hb9
  have hd0 := hown.2
  rcases hown.2 with ⟨e1, e2⟩ | ⟨gd, capd, curd, e1, e2, e3, e4⟩
  · exact absurd e2 hz0
  simp only [Value.slice.injEq, true_and] at e1
  obtain ⟨rfl, rfl⟩ := e1
  clear hd0 e3 e4
  go_wp2_with fail
  refine (write_x C3 [] ys (some ⟨gd, 0, none⟩) cd W9 hz9 hk9 (by omega) hd9 (fun _ b' o' e => by simp at e; omega) (hcd (by omega)) (by omega)).mono ?_
  rintro e W10 ⟨rfl, hz10, hon⟩
  rw [List.nil_append] at hz10
  have hx10 : HashX W10 C1 ys := hon.row hx9 (by omega)
  have hy10 : HashX W10 C2 ([] ++ [1#8]) := hon.row hy9 (by omega)
  have ha10 := hon.row ha9 (by omega)
  have hr10 := hr9.only offW3 hon
  have hk10 := hon.kat hk9 (by omega)
  have hB10 := hB9.trans (hon.below hw3 hB9.size)
  have own10 := ownsRow_via hown (fun g hg hl => hon.block g hl (by omega))
  clear hx9 hy9 ha9 hr9 hk9 hB9 hon hown hd9 hz9
  obtain ⟨k, hkz, hkl⟩ := exists_mod z (ys.length : Int) (by omega)
  go_wp2_with fail
  refine (number_nat z (ys.length : Int) k W10 (by omega) hkz).mono ?_
  rintro e W10b ⟨rfl, m10, rfl⟩
  have ck := own10.cellAt k (by omega)
  have fk := own10.frozenAt k
  rw [show (ints IntKind.u8 (bys ys))[k]? = some (v8 (ys[k]'(by omega))) by rw [bys_ints]; simp [show k < ys.length by omega]] at ck
  generalize hyk : ys[k]'(by omega) = yk at ck
  clear hyk own10
  have hk0 : (k : Int) < (ys.length : Int) := by omega
  go_wp2_with fail
  have on11 : Only gd W10 ((W10.drewN m10).setCell ⟨gd, k, none⟩ (.int .u8 ((n8 yk + 1) % 256))) := (Only.drewN m10).setCell k _
  generalize (W10.drewN m10).setCell ⟨gd, k, none⟩ (.int .u8 ((n8 yk + 1) % 256)) = W11 at *
  have hz11 : HashX W11 C3 ys := on11.row hz10 (by omega)
  have hy11 : HashX W11 C2 ([] ++ [1#8]) := on11.row hy10 (by omega)
  have ha11 := on11.row ha10 (by omega)
  have hr11 := hr10.only (offWg gd e2) on11
  have hk11 := on11.kat hk10 (by omega)
  have hB11 := hB10.trans (on11.below (by have := hB10.size; omega) hB10.size)
  clear hz10 hy10 ha10 hr10 hk10 hB10 on11 ck fk hx10
  refine (sum_x C3 _ W11 hz11 hk11).mono ?_
  rintro e W12 ⟨rfl, hb12⟩
  have hy12 := hy11.below hb12
  have ha12 := ha11.of_block (hb12.block _ ha11.lt)
  have hr12 := hr11.below hb12
  have hk12 := hk11.below hb12
  have hB12 := hB11.trans (hb12.mono hB11.size)
  clear hz11 hy11 ha11 hr11 hk11 hB11 hb12
  go_upto_region 24 with (first | (refine wpList_store_row rfl 26 _ _ rfl _ _ rfl rfl _ _ (heap_alloc_new _ _) (by kernel_rfl) (by simp) (arr8_one _ _) ?_; rw [alloc_setRow]))
  generalize hGC : W12.heap.size = GC at *
  have hb13 : Below W12.heap.size W12 (W12.alloc (.cells (arr8 32 (shaOf ys)) 26)) := (Below.refl _ _).alloc (Nat.le_refl _) _
  have hc13 : (W12.alloc (.cells (arr8 32 (shaOf ys)) 26)).rowIs GC 26 32 (fun i => v8 (shaOf ys i)) := rowIs_new _ _ _ _ _ _ hGC.symm (by simp) (fun i hi => arr8_get 32 _ i hi)
  generalize W12.alloc (.cells (arr8 32 (shaOf ys)) 26) = W13 at *
  have hy13 := hy12.below hb13
  have ha13 := ha12.of_block (hb13.block _ ha12.lt)
  have hr13 := hr12.below hb13
  have hk13 := hk12.below hb13
  have hB13 := hB12.trans (hb13.mono hB12.size)
  clear hy12 ha12 hr12 hk12 hB12 hb13 hGC
  have iH : (Tryd.prog.info? 26).map (·.size) = some (arr8 32 (shaOf ys)).toList.length := by simp only [Array.length_toList, arr8_size]; kernel_rfl
  generalize hF : shaOf ys = F at *
  have HF := Lib.hid hF; clear hF
  have keep : ∀ {W W' : World}, (W.rangeAt GA 0 (arr8 32 F).toList ∧ W.rangeAt GC 0 (arr8 32 F).toList ∧ HashX W C2 [1#8] ∧ KAt W ∧ SlRead W Aw (ints .u8 (bys ys)) ∧ Below w.heap.size w W ∧ GA < W.heap.size ∧ GC < W.heap.size) → Below W.heap.size W W' → (W'.rangeAt GA 0 (arr8 32 F).toList ∧ W'.rangeAt GC 0 (arr8 32 F).toList ∧ HashX W' C2 [1#8] ∧ KAt W' ∧ SlRead W' Aw (ints .u8 (bys ys)) ∧ Below w.heap.size w W' ∧ GA < W'.heap.size ∧ GC < W'.heap.size) :=
    fun h hb => ⟨rangeAt_below h.1 hb h.2.2.2.2.2.2.1, rangeAt_below h.2.1 hb h.2.2.2.2.2.2.2, h.2.2.1.below hb, h.2.2.2.1.below hb, h.2.2.2.2.1.below hb, h.2.2.2.2.2.1.trans (hb.mono h.2.2.2.2.2.1.size), Nat.lt_of_lt_of_le h.2.2.2.2.2.2.1 hb.size, Nat.lt_of_lt_of_le h.2.2.2.2.2.2.2 hb.size⟩
  refine wp_region_noPanic ?_
  refine wp_region_held_drew (S := fun W => W.rangeAt GA 0 (arr8 32 F).toList ∧ W.rangeAt GC 0 (arr8 32 F).toList ∧ HashX W C2 [1#8] ∧ KAt W ∧ SlRead W Aw (ints .u8 (bys ys)) ∧ Below w.heap.size w W ∧ GA < W.heap.size ∧ GC < W.heap.size) (by kernel_rfl) ⟨rangeAt_row ha13, rangeAt_row hc13, hy13, hk13, hr13, hB13.drew, ha13.lt, hc13.lt⟩ (fun hHeld => ?_)
  refine held_move 0 (.tmp 5) (some 70) (.bool true) (by kernel_rfl) (by kernel_rfl) (by kernel_rfl) (by kernel_rfl) (by kernel_rfl) (fun _ _ _ _ _ h => h) hHeld ?_
  refine held_move 1 (.tmp 70) (some 71) (.bool true) (by kernel_rfl) (by kernel_rfl) (by kernel_rfl) (by kernel_rfl) (by kernel_rfl) (fun _ _ _ _ _ h => h) hHeld ?_
  refine held_load 2 26 (.tmp 9) (some 72) GA 0 (arr8 32 F).toList _ (by kernel_rfl) (by kernel_rfl) (fun w h => h.1) Tryd.underlying26 rfl iH (by kernel_rfl) (by kernel_rfl) (by kernel_rfl) (fun _ _ _ _ _ h => h) hHeld ?_
  refine held_load 3 26 (.tmp 13) (some 73) GC 0 (arr8 32 F).toList _ (by kernel_rfl) (by kernel_rfl) (fun w h => h.2.1) Tryd.underlying26 rfl iH (by kernel_rfl) (by kernel_rfl) (by kernel_rfl) (fun _ _ _ _ _ h => h) hHeld ?_
  refine held_eql 4 26 (.tmp 72) (.tmp 73) 26 (some 74) (arr8 32 F) (arr8 32 F) true (by kernel_rfl) (by kernel_rfl) (by kernel_rfl) (by kernel_rfl) (equal32 _) (by kernel_rfl) (by kernel_rfl) (by kernel_rfl) (fun _ _ _ _ _ h => h) hHeld ?_
  refine held_pick 5 (.tmp 71) (.tmp 74) (.const (.bool false)) (some 75) true (.bool true) (by kernel_rfl) (by kernel_rfl) (by kernel_rfl) (by kernel_rfl) (by kernel_rfl) (by kernel_rfl) (fun _ _ _ _ _ h => h) hHeld ?_
  refine held_move 6 (.tmp 75) (some 76) (.bool true) (by kernel_rfl) (by kernel_rfl) (by kernel_rfl) (by kernel_rfl) (by kernel_rfl) (fun _ _ _ _ _ h => h) hHeld ?_
  refine held_move 7 (.tmp 8) (some 77) (.pointer (some ⟨C2, 0, none⟩)) (by kernel_rfl) (by kernel_rfl) (by kernel_rfl) (by kernel_rfl) (by kernel_rfl) (fun _ _ _ _ _ h => h) hHeld ?_
  have alc : ∀ (W : World) (o : Obj), Below W.heap.size W (W.alloc o) := fun W o => (Below.refl _ _).alloc (Nat.le_refl _) _
  refine held_ready [8, 9] (by kernel_rfl) (by simp) (rdy_call 8 12 #[.tmp 77] #[28] (some 78) #[.pointer (some ⟨C2, 0, none⟩)] _ (by kernel_rfl) (by kernel_rfl) (by kernel_rfl) (sum_x C2 _ _ hHeld.2.2.1 hHeld.2.2.2.1) ?_ (rdy_bsl 9 22 5 (.const (.int .u8 1)) (some 79) (.int .u8 1) (by kernel_rfl) (by kernel_rfl) (bsl_u8 1 _) (keep hHeld (alc _ _)) ?_ AllReadyH.nil))
  · rintro e W14 ⟨rfl, hb14⟩
    refine ⟨_, rfl, keep hHeld hb14, fun hHeld => ?_⟩
    refine held_ready [9] (by kernel_rfl) (by simp) (rdy_bsl 9 22 5 (.const (.int .u8 1)) (some 79) (.int .u8 1) (by kernel_rfl) (by kernel_rfl) (bsl_u8 1 _) (keep hHeld (alc _ _)) ?_ AllReadyH.nil)
    intro hHeld
    refine held_ready [10] (by kernel_rfl) (by simp) (rdy_bsl 10 30 22 (.tmp 79) (some 80) (.slice (some ⟨W14.heap.size, 0, none⟩) 1 1) (by kernel_rfl) (by kernel_rfl) (bsl_sl _ 1 1 _) (keep hHeld (alc _ _)) ?_ AllReadyH.nil)
    intro hHeld
    have hs1 := (SlRead.one_new (W := W14) (.int .u8 1) 5).below (alc _ (.cells #[.slice (some ⟨W14.heap.size, 0, none⟩) 1 1] 22))
    have hs2 := SlRead.one_new (W := W14.alloc (.cells #[.int .u8 1] 5)) (.slice (some ⟨W14.heap.size, 0, none⟩) 1 1) 22
    refine held_call 11 13 #[.tmp 80] #[30] (some 81) #[.slice (some ⟨(W14.alloc (.cells #[.int .u8 1] 5)).heap.size, 0, none⟩) 1 1] _ (by kernel_rfl) (by kernel_rfl) (by kernel_rfl) (by kernel_rfl) (suml_sing ((W14.alloc (.cells #[.int .u8 1] 5)).heap.size) (some ⟨W14.heap.size, 0, none⟩, [1#8], 1) _ hs2 ⟨hs1, by simp, by simp⟩ hHeld.2.2.2.1) ?_
    rintro e W15 ⟨rfl, hb15⟩
    refine ⟨_, rfl, keep hHeld hb15, fun hHeld => ?_⟩
    refine held_eql 12 26 (.tmp 78) (.tmp 81) 26 (some 82) (arr8 32 (shaOf [1#8])) (arr8 32 (shaOf [1#8])) true (by kernel_rfl) (by kernel_rfl) (by kernel_rfl) (by kernel_rfl) (equal32 _) (by kernel_rfl) (by kernel_rfl) (by kernel_rfl) (fun _ _ _ _ _ h => h) hHeld ?_
    refine held_pick 13 (.tmp 76) (.tmp 82) (.const (.bool false)) (some 83) true (.bool true) (by kernel_rfl) (by kernel_rfl) (by kernel_rfl) (by kernel_rfl) (by kernel_rfl) (by kernel_rfl) (fun _ _ _ _ _ h => h) hHeld ?_
    refine held_move 14 (.tmp 83) (some 84) (.bool true) (by kernel_rfl) (by kernel_rfl) (by kernel_rfl) (by kernel_rfl) (by kernel_rfl) (fun _ _ _ _ _ h => h) hHeld ?_
    refine held_load 15 26 (.tmp 9) (some 85) GA 0 (arr8 32 F).toList _ (by kernel_rfl) (by kernel_rfl) (fun w h => h.1) Tryd.underlying26 rfl iH (by kernel_rfl) (by kernel_rfl) (by kernel_rfl) (fun _ _ _ _ _ h => h) hHeld ?_
    refine held_move 16 (.tmp 6) (some 86) (.slice Aw ys.length cw) (by kernel_rfl) (by kernel_rfl) (by kernel_rfl) (by kernel_rfl) (by kernel_rfl) (fun _ _ _ _ _ h => h) hHeld ?_
    refine held_ready [17] (by kernel_rfl) (by simp) (rdy_bsl 17 30 22 (.tmp 86) (some 87) (.slice Aw ys.length cw) (by kernel_rfl) (by kernel_rfl) (bsl_sl _ _ _ _) (keep hHeld (alc _ _)) ?_ AllReadyH.nil)
    intro hHeld
    have hs3 := suml_sing (W15.heap.size) (Aw, ys, cw) _ (SlRead.one_new (.slice Aw ys.length cw) 22) ⟨hHeld.2.2.2.2.1, hcw (by omega), by simp; omega⟩ hHeld.2.2.2.1
    simp only at hs3
    rw [HF.out] at hs3
    refine held_call 18 13 #[.tmp 87] #[30] (some 88) #[.slice (some ⟨W15.heap.size, 0, none⟩) 1 1] _ (by kernel_rfl) (by kernel_rfl) (by kernel_rfl) (by kernel_rfl) hs3 ?_
    rintro e W16 ⟨rfl, hb16⟩
    refine ⟨_, rfl, keep hHeld hb16, fun hHeld => ?_⟩
    refine held_eql 19 26 (.tmp 85) (.tmp 88) 26 (some 89) (arr8 32 F) (arr8 32 F) true (by kernel_rfl) (by kernel_rfl) (by kernel_rfl) (by kernel_rfl) (equal32 _) (by kernel_rfl) (by kernel_rfl) (by kernel_rfl) (fun _ _ _ _ _ h => h) hHeld ?_
    refine held_pick 20 (.tmp 84) (.tmp 89) (.const (.bool false)) (some 90) true (.bool true) (by kernel_rfl) (by kernel_rfl) (by kernel_rfl) (by kernel_rfl) (by kernel_rfl) (by kernel_rfl) (fun _ _ _ _ _ h => h) hHeld ?_
    refine held_assign 21 (.tmp 90) (some 4) (.bool true) (by kernel_rfl) (by kernel_rfl) (by kernel_rfl) (by kernel_rfl) (by kernel_rfl) (fun _ _ _ _ _ h => h) hHeld ?_
    refine wpAnyH_done (by kernel_rfl) ?_ _
    refine NoPanic.normal ?_
    simp only [Act.put, List.setIfInBounds_toArray, List.set_cons_zero, List.set_cons_succ]
    go_wp2_with fail
    go_ret
    exact ⟨rfl, hHeld.2.2.2.2.2.1⟩
  · intro hHeld
    refine held_ready [8, 10] (by kernel_rfl) (by simp) (rdy_call 8 12 #[.tmp 77] #[28] (some 78) #[.pointer (some ⟨C2, 0, none⟩)] _ (by kernel_rfl) (by kernel_rfl) (by kernel_rfl) (sum_x C2 _ _ hHeld.2.2.1 hHeld.2.2.2.1) ?_ (rdy_bsl 10 30 22 (.tmp 79) (some 80) (.slice (some ⟨W13.drew.heap.size, 0, none⟩) 1 1) (by kernel_rfl) (by kernel_rfl) (bsl_sl _ 1 1 _) (keep hHeld (alc _ _)) ?_ AllReadyH.nil))
    · rintro e W14 ⟨rfl, hb14⟩
      refine ⟨_, rfl, keep hHeld hb14, fun hHeld => ?_⟩
      refine held_ready [10] (by kernel_rfl) (by simp) (rdy_bsl 10 30 22 (.tmp 79) (some 80) (.slice (some ⟨W13.drew.heap.size, 0, none⟩) 1 1) (by kernel_rfl) (by kernel_rfl) (bsl_sl _ 1 1 _) (keep hHeld (alc _ _)) ?_ AllReadyH.nil)
      intro hHeld
      have hs1 := ((SlRead.one_new (W := W13.drew) (.int .u8 1) 5).below hb14).below (alc _ (.cells #[.slice (some ⟨W13.drew.heap.size, 0, none⟩) 1 1] 22))
      have hs2 := SlRead.one_new (W := W14) (.slice (some ⟨W13.drew.heap.size, 0, none⟩) 1 1) 22
      refine held_call 11 13 #[.tmp 80] #[30] (some 81) #[.slice (some ⟨W14.heap.size, 0, none⟩) 1 1] _ (by kernel_rfl) (by kernel_rfl) (by kernel_rfl) (by kernel_rfl) (suml_sing (W14.heap.size) (some ⟨W13.drew.heap.size, 0, none⟩, [1#8], 1) _ hs2 ⟨hs1, by simp, by simp⟩ hHeld.2.2.2.1) ?_
      rintro e W15 ⟨rfl, hb15⟩
      refine ⟨_, rfl, keep hHeld hb15, fun hHeld => ?_⟩
      refine held_eql 12 26 (.tmp 78) (.tmp 81) 26 (some 82) (arr8 32 (shaOf [1#8])) (arr8 32 (shaOf [1#8])) true (by kernel_rfl) (by kernel_rfl) (by kernel_rfl) (by kernel_rfl) (equal32 _) (by kernel_rfl) (by kernel_rfl) (by kernel_rfl) (fun _ _ _ _ _ h => h) hHeld ?_
      refine held_pick 13 (.tmp 76) (.tmp 82) (.const (.bool false)) (some 83) true (.bool true) (by kernel_rfl) (by kernel_rfl) (by kernel_rfl) (by kernel_rfl) (by kernel_rfl) (by kernel_rfl) (fun _ _ _ _ _ h => h) hHeld ?_
      refine held_move 14 (.tmp 83) (some 84) (.bool true) (by kernel_rfl) (by kernel_rfl) (by kernel_rfl) (by kernel_rfl) (by kernel_rfl) (fun _ _ _ _ _ h => h) hHeld ?_
      refine held_load 15 26 (.tmp 9) (some 85) GA 0 (arr8 32 F).toList _ (by kernel_rfl) (by kernel_rfl) (fun w h => h.1) Tryd.underlying26 rfl iH (by kernel_rfl) (by kernel_rfl) (by kernel_rfl) (fun _ _ _ _ _ h => h) hHeld ?_
      refine held_move 16 (.tmp 6) (some 86) (.slice Aw ys.length cw) (by kernel_rfl) (by kernel_rfl) (by kernel_rfl) (by kernel_rfl) (by kernel_rfl) (fun _ _ _ _ _ h => h) hHeld ?_
      refine held_ready [17] (by kernel_rfl) (by simp) (rdy_bsl 17 30 22 (.tmp 86) (some 87) (.slice Aw ys.length cw) (by kernel_rfl) (by kernel_rfl) (bsl_sl _ _ _ _) (keep hHeld (alc _ _)) ?_ AllReadyH.nil)
      intro hHeld
      have hs3 := suml_sing (W15.heap.size) (Aw, ys, cw) _ (SlRead.one_new (.slice Aw ys.length cw) 22) ⟨hHeld.2.2.2.2.1, hcw (by omega), by simp; omega⟩ hHeld.2.2.2.1
      simp only at hs3
      rw [HF.out] at hs3
      refine held_call 18 13 #[.tmp 87] #[30] (some 88) #[.slice (some ⟨W15.heap.size, 0, none⟩) 1 1] _ (by kernel_rfl) (by kernel_rfl) (by kernel_rfl) (by kernel_rfl) hs3 ?_
      rintro e W16 ⟨rfl, hb16⟩
      refine ⟨_, rfl, keep hHeld hb16, fun hHeld => ?_⟩
      refine held_eql 19 26 (.tmp 85) (.tmp 88) 26 (some 89) (arr8 32 F) (arr8 32 F) true (by kernel_rfl) (by kernel_rfl) (by kernel_rfl) (by kernel_rfl) (equal32 _) (by kernel_rfl) (by kernel_rfl) (by kernel_rfl) (fun _ _ _ _ _ h => h) hHeld ?_
      refine held_pick 20 (.tmp 84) (.tmp 89) (.const (.bool false)) (some 90) true (.bool true) (by kernel_rfl) (by kernel_rfl) (by kernel_rfl) (by kernel_rfl) (by kernel_rfl) (by kernel_rfl) (fun _ _ _ _ _ h => h) hHeld ?_
      refine held_assign 21 (.tmp 90) (some 4) (.bool true) (by kernel_rfl) (by kernel_rfl) (by kernel_rfl) (by kernel_rfl) (by kernel_rfl) (fun _ _ _ _ _ h => h) hHeld ?_
      refine wpAnyH_done (by kernel_rfl) ?_ _
      refine NoPanic.normal ?_
      simp only [Act.put, List.setIfInBounds_toArray, List.set_cons_zero, List.set_cons_succ]
      go_wp2_with fail
      go_ret
      exact ⟨rfl, hHeld.2.2.2.2.2.1⟩
    · intro hHeld
      refine held_ready [8] (by kernel_rfl) (by simp) (rdy_call 8 12 #[.tmp 77] #[28] (some 78) #[.pointer (some ⟨C2, 0, none⟩)] _ (by kernel_rfl) (by kernel_rfl) (by kernel_rfl) (sum_x C2 _ _ hHeld.2.2.1 hHeld.2.2.2.1) ?_ AllReadyH.nil)
      rintro e W14 ⟨rfl, hb14⟩
      refine ⟨_, rfl, keep hHeld hb14, fun hHeld => ?_⟩
      have hs1 := ((SlRead.one_new (W := W13.drew) (.int .u8 1) 5).below (alc _ (.cells #[.slice (some ⟨W13.drew.heap.size, 0, none⟩) 1 1] 22))).below hb14
      have hs2 := (SlRead.one_new (W := W13.drew.alloc (.cells #[.int .u8 1] 5)) (.slice (some ⟨W13.drew.heap.size, 0, none⟩) 1 1) 22).below hb14
      refine held_call 11 13 #[.tmp 80] #[30] (some 81) #[.slice (some ⟨(W13.drew.alloc (.cells #[.int .u8 1] 5)).heap.size, 0, none⟩) 1 1] _ (by kernel_rfl) (by kernel_rfl) (by kernel_rfl) (by kernel_rfl) (suml_sing ((W13.drew.alloc (.cells #[.int .u8 1] 5)).heap.size) (some ⟨W13.drew.heap.size, 0, none⟩, [1#8], 1) _ hs2 ⟨hs1, by simp, by simp⟩ hHeld.2.2.2.1) ?_
      rintro e W15 ⟨rfl, hb15⟩
      refine ⟨_, rfl, keep hHeld hb15, fun hHeld => ?_⟩
      refine held_eql 12 26 (.tmp 78) (.tmp 81) 26 (some 82) (arr8 32 (shaOf [1#8])) (arr8 32 (shaOf [1#8])) true (by kernel_rfl) (by kernel_rfl) (by kernel_rfl) (by kernel_rfl) (equal32 _) (by kernel_rfl) (by kernel_rfl) (by kernel_rfl) (fun _ _ _ _ _ h => h) hHeld ?_
      refine held_pick 13 (.tmp 76) (.tmp 82) (.const (.bool false)) (some 83) true (.bool true) (by kernel_rfl) (by kernel_rfl) (by kernel_rfl) (by kernel_rfl) (by kernel_rfl) (by kernel_rfl) (fun _ _ _ _ _ h => h) hHeld ?_
      refine held_move 14 (.tmp 83) (some 84) (.bool true) (by kernel_rfl) (by kernel_rfl) (by kernel_rfl) (by kernel_rfl) (by kernel_rfl) (fun _ _ _ _ _ h => h) hHeld ?_
      refine held_load 15 26 (.tmp 9) (some 85) GA 0 (arr8 32 F).toList _ (by kernel_rfl) (by kernel_rfl) (fun w h => h.1) Tryd.underlying26 rfl iH (by kernel_rfl) (by kernel_rfl) (by kernel_rfl) (fun _ _ _ _ _ h => h) hHeld ?_
      refine held_move 16 (.tmp 6) (some 86) (.slice Aw ys.length cw) (by kernel_rfl) (by kernel_rfl) (by kernel_rfl) (by kernel_rfl) (by kernel_rfl) (fun _ _ _ _ _ h => h) hHeld ?_
      refine held_ready [17] (by kernel_rfl) (by simp) (rdy_bsl 17 30 22 (.tmp 86) (some 87) (.slice Aw ys.length cw) (by kernel_rfl) (by kernel_rfl) (bsl_sl _ _ _ _) (keep hHeld (alc _ _)) ?_ AllReadyH.nil)
      intro hHeld
      have hs3 := suml_sing (W15.heap.size) (Aw, ys, cw) _ (SlRead.one_new (.slice Aw ys.length cw) 22) ⟨hHeld.2.2.2.2.1, hcw (by omega), by simp; omega⟩ hHeld.2.2.2.1
      simp only at hs3
      rw [HF.out] at hs3
      refine held_call 18 13 #[.tmp 87] #[30] (some 88) #[.slice (some ⟨W15.heap.size, 0, none⟩) 1 1] _ (by kernel_rfl) (by kernel_rfl) (by kernel_rfl) (by kernel_rfl) hs3 ?_
      rintro e W16 ⟨rfl, hb16⟩
      refine ⟨_, rfl, keep hHeld hb16, fun hHeld => ?_⟩
      refine held_eql 19 26 (.tmp 85) (.tmp 88) 26 (some 89) (arr8 32 F) (arr8 32 F) true (by kernel_rfl) (by kernel_rfl) (by kernel_rfl) (by kernel_rfl) (equal32 _) (by kernel_rfl) (by kernel_rfl) (by kernel_rfl) (fun _ _ _ _ _ h => h) hHeld ?_
      refine held_pick 20 (.tmp 84) (.tmp 89) (.const (.bool false)) (some 90) true (.bool true) (by kernel_rfl) (by kernel_rfl) (by kernel_rfl) (by kernel_rfl) (by kernel_rfl) (by kernel_rfl) (fun _ _ _ _ _ h => h) hHeld ?_
      refine held_assign 21 (.tmp 90) (some 4) (.bool true) (by kernel_rfl) (by kernel_rfl) (by kernel_rfl) (by kernel_rfl) (by kernel_rfl) (fun _ _ _ _ _ h => h) hHeld ?_
      refine wpAnyH_done (by kernel_rfl) ?_ _
      refine NoPanic.normal ?_
      simp only [Act.put, List.setIfInBounds_toArray, List.set_cons_zero, List.set_cons_succ]
      go_wp2_with fail
      go_ret
      exact ⟨rfl, hHeld.2.2.2.2.2.1⟩
end Go.Proofs.YtmbfjnbanlhjpaaDoor
