import Derived.Test.YtplmliomhpgfpaaDoorMfrz
namespace Go.Proofs.YtplmliomhpgfpaaDoor
open Go.RowKit

def jefe : List (BitVec 8) := [74#8, 101#8, 102#8, 101#8]
def wt1 : List (BitVec 8) := [119#8, 104#8, 97#8, 116#8, 32#8, 100#8, 111#8, 32#8, 121#8, 97#8, 32#8, 119#8, 97#8, 110#8, 116#8, 32#8]
def wt2 : List (BitVec 8) := [102#8, 111#8, 114#8, 32#8, 110#8, 111#8, 116#8, 104#8, 105#8, 110#8, 103#8, 63#8]
theorem q1 : macOf jefe (wt1 ++ wt2) 0 = 91#8 ∧ macOf jefe (wt1 ++ wt2) 1 = 220#8 ∧ macOf jefe (wt1 ++ wt2) 2 = 193#8 ∧ macOf jefe (wt1 ++ wt2) 3 = 70#8 ∧ macOf jefe (wt1 ++ wt2) 30 = 56#8 ∧ macOf jefe (wt1 ++ wt2) 31 = 67#8 := by decide +kernel
def vK (k : Nat) : List (BitVec 8) := (List.range k).map fun _ => 11#8
def vS (k : Nat) : List (BitVec 8) := (List.range k).map fun i => BitVec.ofNat 8 i
def vI (k : Nat) : List (BitVec 8) := (List.range k).map fun i => BitVec.ofNat 8 (240 + i)
theorem q2 : (hkdf (vS 13) (vK 22) (vI 10) 42)[0]? = some 60#8 ∧ (hkdf (vS 13) (vK 22) (vI 10) 42)[1]? = some 178#8 ∧ (hkdf (vS 13) (vK 22) (vI 10) 42)[2]? = some 95#8 ∧ (hkdf (vS 13) (vK 22) (vI 10) 42)[3]? = some 37#8 ∧ (hkdf (vS 13) (vK 22) (vI 10) 42)[40]? = some 88#8 ∧ (hkdf (vS 13) (vK 22) (vI 10) 42)[41]? = some 101#8 := by decide +kernel

set_option maxRecDepth 100000 in
set_option maxHeartbeats 1600000 in
theorem vec_walk (z : Int) (w : World) (hk : KAt w) :
    Calls Tryd.prog 4 #[.int .i64 z] w fun e w' => e = .returned (.bool true) ∧ Below w.heap.size w w' := by
  obtain ⟨k, hkz, hkl⟩ := exists_mod z 2 (by omega)
  obtain ⟨i0, hi, hz0, hz1, hz2⟩ := info_parts Tryd.info5
  go_enter Tryd.func4, Tryd.ntmps4
  go_wp2_with fail
  refine (first_any _ hk).mono ?_
  rintro e W ⟨rfl, hb⟩
  go_wp2_with fail
  refine (number_same z 2 k _ (by omega) hkz).mono ?_
  rintro e W2 ⟨rfl, rfl⟩
  by_cases h0 : k = 0
  · subst h0
    go_wp2_with (first | (refine wpList_conv_bytes rfl 22 5 (.tmp 19) rfl Tryd.underlying22 Tryd.underlying5 _ _ _ rfl ?_; intro W3 hon3 hc3) | (refine wpList_conv_bytes rfl 22 5 (.tmp 21) rfl Tryd.underlying22 Tryd.underlying5 _ _ _ rfl ?_; intro W4 hon4 hc4) | (refine wpList_conv_bytes rfl 22 5 (.tmp 23) rfl Tryd.underlying22 Tryd.underlying5 _ _ _ rfl ?_; intro W5 hon5 hc5))
    have hb3 : Below W2.heap.size W2 W3 := ((Below.refl _ _).alloc (Nat.le_refl _) _).trans (hon3.below (Nat.le_refl _) (by simp))
    have s1 := (slread_new jefe _ rfl).alike hc3 hon3.size
    have hb4 : Below W3.heap.size W3 W4 := ((Below.refl _ _).alloc (Nat.le_refl _) _).trans (hon4.below (Nat.le_refl _) (by simp))
    have s2 := (slread_new wt1 _ rfl).alike hc4 hon4.size
    have hb5 : Below W4.heap.size W4 W5 := ((Below.refl _ _).alloc (Nat.le_refl _) _).trans (hon5.below (Nat.le_refl _) (by simp))
    have s3 := (slread_new wt2 _ rfl).alike hc5 hon5.size
    have hb6 := (Below.refl W5.heap.size W5).alloc (Nat.le_refl _) (.cells #[.slice (some ⟨W3.heap.size, 0, none⟩) 16 16, .slice (some ⟨W4.heap.size, 0, none⟩) 12 12] 22)
    have t1 := ((s1.below hb4).below hb5).below hb6
    have t2 := (s2.below hb5).below hb6
    have t3 := s3.below hb6
    have hbW5 := ((hb.trans (hb3.mono hb.size)).trans (hb4.mono (Nat.le_trans hb.size hb3.size))).trans (hb5.mono (Nat.le_trans hb.size (Nat.le_trans hb3.size hb4.size)))
    have hbW6 := hbW5.trans (hb6.mono hbW5.size)
    have hm := msum_any (some ⟨W2.heap.size, 0, none⟩) jefe 4 (some ⟨W5.heap.size, 0, none⟩) [(some ⟨W3.heap.size, 0, none⟩, wt1, 16), (some ⟨W4.heap.size, 0, none⟩, wt2, 12)] 2 _ t1 (by decide) (by decide) (SlRead.two_new (W := W5) (.slice (some ⟨W3.heap.size, 0, none⟩) 16 16) (.slice (some ⟨W4.heap.size, 0, none⟩) 12 12) 22) (by
      intro a ha
      simp at ha
      rcases ha with rfl | rfl
      · exact ⟨t2, by simp [wt1], by simp [wt1]⟩
      · exact ⟨t3, by simp [wt2], by simp [wt2]⟩) (by simp) (hk.below hbW6)
    rw [show flat [(some (⟨W3.heap.size, 0, none⟩ : Addr), wt1, 16), (some ⟨W4.heap.size, 0, none⟩, wt2, 12)] = wt1 ++ wt2 by simp [flat]] at hm
    refine hm.mono ?_
    rintro e W7 ⟨rfl, hb7⟩
    have hbW7 := hbW6.trans (hb7.mono hbW6.size)
    clear hb3 s1 hb4 s2 hb5 s3 hb6 t1 t2 t3 hbW5 hbW6 hm hb7 hon3 hon4 hon5 hc3 hc4 hc5
    obtain ⟨p0, p1, p2, p3, p30, p31⟩ := q1
    go_upto_region 6 with (refine wpList_store_row rfl 32 _ _ rfl _ _ rfl rfl _ _ (heap_alloc_new _ _) (by kernel_rfl) (by simp) (arr8_one _ _) ?_; rw [alloc_setRow])
    have hr : (W7.alloc (.cells (arr8 32 (macOf jefe (wt1 ++ wt2))) 32)).rowIs W7.heap.size 32 32 (fun i => v8 (macOf jefe (wt1 ++ wt2) i)) := rowIs_new _ _ _ _ _ _ rfl (by simp) (fun i hi => arr8_get 32 _ i hi)
    have hbl := hbW7.alloc hbW7.size (.cells (arr8 32 (macOf jefe (wt1 ++ wt2))) 32)
    generalize W7.alloc (.cells (arr8 32 (macOf jefe (wt1 ++ wt2))) 32) = W8 at *
    have c0 := hr.cell (i := 0) (by omega)
    have c1 := hr.cell (i := 1) (by omega)
    have c2 := hr.cell (i := 2) (by omega)
    have c3 := hr.cell (i := 3) (by omega)
    have c30 := hr.cell (i := 30) (by omega)
    have c31 := hr.cell (i := 31) (by omega)
    rw [p0] at c0
    rw [p1] at c1
    rw [p2] at c2
    rw [p3] at c3
    rw [p30] at c30
    rw [p31] at c31
    change W8.cell? _ = some (.int .u8 91) at c0
    change W8.cell? _ = some (.int .u8 220) at c1
    change W8.cell? _ = some (.int .u8 193) at c2
    change W8.cell? _ = some (.int .u8 70) at c3
    change W8.cell? _ = some (.int .u8 56) at c30
    change W8.cell? _ = some (.int .u8 67) at c31
    clear hr p0 p1 p2 p3 p30 p31 hbW7
    go_wp2_with fail
    go_ret
    exact ⟨rfl, hbl⟩
  · have hb0 : ((k : Int) == 0) = false := by simpa using h0
    have hbW2 := hb
    go_wp2_with fail
    go_loopw [5, 8] (fun v i wr => ∃ j : Nat, j ≤ 22 ∧ i = .int .i64 j ∧ wr.ownsRow W2.heap.size 5 1 v j (ints .u8 (bys (vK j))) ∧ Below W2.heap.size W2 wr) (fun _ i _ => 22 - (intOf i).toNat)
    case atStart => exact ⟨0, by omega, rfl, World.ownsRow_nil _ _ _ _, Below.refl _ _⟩
    case round =>
      obtain ⟨j, hj, rfl, hown, hbl⟩ := hrel
      by_cases hlt : j < 22
      · have hj0 : (j : Int) < 22 := by omega
        go_wp2_with (at_builtin; refine wpList_append_own _ rfl _ _ 22 rfl W2.heap.size 5 i0 (.int .u8 0) 1 1 Tryd.underlying22 hi hz0 hz1 hz2 rfl (by decide) _ _ _ rfl (hown.alloc _) ⟨wr.heap.size, 0, none⟩ 1 1 [.int .u8 (11)] rfl rfl ?c1 ?c2 ?c3 ?c4 ?c5 ?_)
        case c1 => exact cell_one_new _ _ _
        case c2 => intro u hu; simp at hu; subst hu; rfl
        case c3 => unfold maxLen; omega
        case c4 => omega
        case c5 => have := hbl.size; simp; omega
        intro v' w2 hown2 hgrow2 _
        rw [show ints .u8 (bys (vK j)) ++ [.int .u8 (11)] = ints .u8 (bys (vK (j + 1))) by
          rw [bys_ints, bys_ints]
          simp [vK, List.range_succ]; rfl] at hown2
        have hbl2 : Below W2.heap.size W2 w2 := (hbl.alloc hbl.size _).grown hgrow2 (by have := hbl.size; simp; omega) (fun j hj => (hown.lt j hj).1)
        clear hown hbl hgrow2
        go_wp2_with fail
        go_roundw
        case rel => exact ⟨j + 1, by omega, by go_num, hown2, hbl2⟩
        case measure => simp [intOf]; omega
      · have hjN : j = 22 := by omega
        have hjI : (j : Int) = 22 := by omega
        rw [hjI]
        clear hjI
        subst hjN
        obtain ⟨A5, c5, rfl, hc5⟩ := ownsRow_form hown
        have hs5 := SlRead.of_own hown
        obtain ⟨W3, rfl⟩ : ∃ x, x = wr := ⟨_, rfl⟩
        have hbW3 : Below w.heap.size w W3 := hbW2.trans (hbl.mono hbW2.size)
        have HB3 := hbl
        clear hown hbl
        go_wp2_with fail
        go_loopw [6, 9] (fun v i wr => ∃ j : Nat, j ≤ 13 ∧ i = .int .i64 j ∧ wr.ownsRow W3.heap.size 5 1 v j (ints .u8 (bys (vS j))) ∧ Below W3.heap.size W3 wr) (fun _ i _ => 13 - (intOf i).toNat)
        case atStart => exact ⟨0, by omega, rfl, World.ownsRow_nil _ _ _ _, Below.refl _ _⟩
        case round =>
          obtain ⟨j, hj, rfl, hown, hbl⟩ := hrel
          by_cases hlt : j < 13
          · have hj0 : (j : Int) < 13 := by omega
            go_wp2_with (at_builtin; refine wpList_append_own _ rfl _ _ 22 rfl W3.heap.size 5 i0 (.int .u8 0) 1 1 Tryd.underlying22 hi hz0 hz1 hz2 rfl (by decide) _ _ _ rfl (hown.alloc _) ⟨wr.heap.size, 0, none⟩ 1 1 [.int .u8 ((j : Int))] rfl rfl ?c1 ?c2 ?c3 ?c4 ?c5 ?_)
            case c1 => exact cell_one_new _ _ _
            case c2 => intro u hu; simp at hu; subst hu; rfl
            case c3 => unfold maxLen; omega
            case c4 => omega
            case c5 => have := hbl.size; simp; omega
            intro v' w2 hown2 hgrow2 _
            rw [show ints .u8 (bys (vS j)) ++ [.int .u8 ((j : Int))] = ints .u8 (bys (vS (j + 1))) by
              rw [bys_ints, bys_ints]
              simp [vS, List.range_succ, n8_nat]; omega] at hown2
            have hbl2 : Below W3.heap.size W3 w2 := (hbl.alloc hbl.size _).grown hgrow2 (by have := hbl.size; simp; omega) (fun j hj => (hown.lt j hj).1)
            clear hown hbl hgrow2
            go_wp2_with fail
            go_roundw
            case rel => exact ⟨j + 1, by omega, by go_num, hown2, hbl2⟩
            case measure => simp [intOf]; omega
          · have hjN : j = 13 := by omega
            have hjI : (j : Int) = 13 := by omega
            rw [hjI]
            clear hjI
            subst hjN
            obtain ⟨A6, c6, rfl, hc6⟩ := ownsRow_form hown
            have hs6 := SlRead.of_own hown
            obtain ⟨W4, rfl⟩ : ∃ x, x = wr := ⟨_, rfl⟩
            have hbW4 : Below w.heap.size w W4 := hbW3.trans (hbl.mono hbW3.size)
            have ht5 := hs5.below hbl
            clear hown hbl hs5
            go_wp2_with fail
            go_loopw [7, 10] (fun v i wr => ∃ j : Nat, j ≤ 10 ∧ i = .int .i64 j ∧ wr.ownsRow W4.heap.size 5 1 v j (ints .u8 (bys (vI j))) ∧ Below W4.heap.size W4 wr) (fun _ i _ => 10 - (intOf i).toNat)
            case atStart => exact ⟨0, by omega, rfl, World.ownsRow_nil _ _ _ _, Below.refl _ _⟩
            case round =>
              obtain ⟨j, hj, rfl, hown, hbl⟩ := hrel
              by_cases hlt : j < 10
              · have hj0 : (j : Int) < 10 := by omega
                go_wp2_with (at_builtin; refine wpList_append_own _ rfl _ _ 22 rfl W4.heap.size 5 i0 (.int .u8 0) 1 1 Tryd.underlying22 hi hz0 hz1 hz2 rfl (by decide) _ _ _ rfl (hown.alloc _) ⟨wr.heap.size, 0, none⟩ 1 1 [.int .u8 (240 + (j : Int))] rfl rfl ?c1 ?c2 ?c3 ?c4 ?c5 ?_)
                case c1 => exact cell_one_new _ _ _
                case c2 => intro u hu; simp at hu; subst hu; rfl
                case c3 => unfold maxLen; omega
                case c4 => omega
                case c5 => have := hbl.size; simp; omega
                intro v' w2 hown2 hgrow2 _
                rw [show ints .u8 (bys (vI j)) ++ [.int .u8 (240 + (j : Int))] = ints .u8 (bys (vI (j + 1))) by
                  rw [bys_ints, bys_ints]
                  simp [vI, List.range_succ, n8_nat]; omega] at hown2
                have hbl2 : Below W4.heap.size W4 w2 := (hbl.alloc hbl.size _).grown hgrow2 (by have := hbl.size; simp; omega) (fun j hj => (hown.lt j hj).1)
                clear hown hbl hgrow2
                go_wp2_with fail
                go_roundw
                case rel => exact ⟨j + 1, by omega, by go_num, hown2, hbl2⟩
                case measure => simp [intOf]; omega
              · have hjN : j = 10 := by omega
                have hjI : (j : Int) = 10 := by omega
                rw [hjI]
                clear hjI
                subst hjN
                obtain ⟨A7, c7, rfl, hc7⟩ := ownsRow_form hown
                have hs7 := SlRead.of_own hown
                obtain ⟨W5, rfl⟩ : ∃ x, x = wr := ⟨_, rfl⟩
                have hbW5 : Below w.heap.size w W5 := hbW4.trans (hbl.mono hbW4.size)
                have hu5 := ht5.below hbl
                have hu6 := hs6.below hbl
                clear hown hbl ht5 hs6
                obtain ⟨r0, r1, r2, r3, r40, r41⟩ := q2
                have hd := derive_any A6 (vS 13) c6 A5 (vK 22) c5 A7 (vI 10) c7 42 W5 hu6 (hc6 (by omega)) (by simp [vS]) hu5 (hc5 (by omega)) (by simp [vK]) hs7 (hc7 (by omega)) (by simp [vI]) (by omega) (hk.below hbW5)
                rw [show (vS 13).length = 13 by simp [vS], show (vK 22).length = 22 by simp [vK], show (vI 10).length = 10 by simp [vI]] at hd
                go_wp2_with fail
                refine hd.mono ?_
                rintro e W6 ⟨O, rfl, hO, hb6⟩
                have hbe := hbW5.trans (hb6.mono hbW5.size)
                obtain ⟨b0, o0, rfl, _, hcell⟩ := hO (by simp [hkdf_len])
                rw [bys_ints] at hcell
                have c0 := hcell 0 (.int .u8 60) (by rw [List.getElem?_map, r0]; rfl)
                have c1 := hcell 1 (.int .u8 178) (by rw [List.getElem?_map, r1]; rfl)
                have c2 := hcell 2 (.int .u8 95) (by rw [List.getElem?_map, r2]; rfl)
                have c3 := hcell 3 (.int .u8 37) (by rw [List.getElem?_map, r3]; rfl)
                have c40 := hcell 40 (.int .u8 88) (by rw [List.getElem?_map, r40]; rfl)
                have c41 := hcell 41 (.int .u8 101) (by rw [List.getElem?_map, r41]; rfl)
                rw [Nat.add_zero] at c0
                clear hcell hO hd hu5 hu6 hs7 r0 r1 r2 r3 r40 r41 hb6
                go_wp2_with fail
                go_ret
                exact ⟨rfl, hbe⟩
end Go.Proofs.YtplmliomhpgfpaaDoor
