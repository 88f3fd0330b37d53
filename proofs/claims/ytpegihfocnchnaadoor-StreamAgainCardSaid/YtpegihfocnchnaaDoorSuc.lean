import Derived.Test.YtpegihfocnchnaaDoorTky
/-
  StreamAgain.
-/
namespace Go.Proofs.YtpegihfocnchnaaDoor
open Go.RowKit

theorem own_setN {w : World} {base g cap n : Nat} {ds : List (BitVec 8)} (hn : ds.length = n) (h : w.ownsRow base 5 1 (.slice (some ⟨g, 0, none⟩) n cap) n (ints .u8 (bys ds))) (k : Nat) (y : BitVec 8) :
    (w.setCell ⟨g, k, none⟩ (v8 y)).ownsRow base 5 1 (.slice (some ⟨g, 0, none⟩) n cap) n (ints .u8 (bys (ds.set k y))) := by
  subst hn
  have := own_set h k y
  rwa [List.length_set] at this

set_option maxRecDepth 100000 in
set_option maxHeartbeats 3200000 in
theorem again_walk (E : Nat → Addr) (X : Option Addr) (b : List (BitVec 8)) (cx : Nat) (z : Int) (i : BitVec 32) (last : Bool) (w : World) (hX : SlRead w X (ints .u8 (bys b))) (hE : ErrsSt E w) :
    Calls Tryd.prog 5 #[.slice X b.length cx, .int .i64 z, v32 i, .bool last] w fun e w' => e = .returned (.bool true) ∧ Below w.heap.size w w' := by
  go_enter Tryd.func5, Tryd.ntmps5
  go_wp2_with fail
  refine (first_any w).mono ?_
  rintro e W1 ⟨rfl, hb1⟩
  generalize hB : w.heap.size = B at hb1 ⊢
  have HB := Lib.hid hB; clear hB
  by_cases h1 : 60 < b.length
  · have d1 : decide ((60 : Int) < (b.length : Int)) = true := by simp; omega
    go_wp2_with fail
    go_ret
    exact ⟨rfl, by rw [HB.out]; exact hb1⟩
  have d1 : decide ((60 : Int) < (b.length : Int)) = false := by simp; omega
  have hlx : b.length ≤ 60 := by omega
  clear h1
  have hB1 : B ≤ W1.heap.size := by rw [← HB.out]; exact hb1.size
  go_upto_region 7 with (first | (go_at_call 21; refine (key_any z W1).mono ?_; rintro e W2 ⟨key, rfl, hb2⟩) | (refine wpList_store_row rfl 23 _ _ rfl _ _ rfl rfl _ _ (heap_alloc_new _ _) (by kernel_rfl) (by simp) (arr8_one _ _) ?_; rw [alloc_setRow]))
  have hbw := hb1.trans (hb2.mono hB1)
  have hB2 : B ≤ W2.heap.size := by rw [← HB.out]; exact hbw.size
  refine wp_world (fun W => W.rowIs W2.heap.size 23 32 (fun i => v8 (key i)) ∧ Below B w W) ⟨rowIs_new _ _ _ _ _ _ rfl (by simp) (fun i hi => arr8_get 32 key i hi), hbw.alloc hB2 _⟩ ?_
  generalize W2.heap.size = KB at hB2 ⊢
  clear hbw hb1 hb2 hB1 d1 W2
  rintro W3 ⟨hk3, hw3⟩
  have hX3 : SlRead W3 X (ints .u8 (bys b)) := hX.below (by rw [HB.out]; exact hw3)
  have hk := rowIs_heap8 hk3
  go_wp2_with (first | (refine wpList_load_row rfl 23 _ rfl _ rfl _ _ _ _ hk Tryd.underlying23 rfl (by kernel_rfl) ?_))
  refine (sseal_any key i last X b cx W3 hX3 (by omega)).mono ?_
  rintro e W4 ⟨v4, rfl, h4⟩
  have hop := openGot_sealB key (nonB i last) [] b
  have hcl0 := sealB_length key (nonB i last) [] b
  obtain ⟨c, hc⟩ : ∃ c, c = sealB key (nonB i last) [] b := ⟨_, rfl⟩
  rw [← hc] at h4 hop hcl0
  have hcl76 : c.length ≤ 76 := by omega
  have hce : ((c.length : Int) == (b.length : Int) + 16) = true := by simp; omega
  have HCE := Lib.hid hce
  have hKB3 : KB < W3.heap.size := hk3.lt
  have hk4 := hk3.of_block (h4.b.block _ hKB3)
  have hw4 : Below B w W4 := hw3.trans (h4.b.mono (by omega))
  obtain ⟨Ax, cax, rfl, hcax, hSx⟩ := h4.is
  have HC := Lib.hid hc
  have HOP := Lib.hid hop
  clear h4 hc hcl0 hop hk hX3 hk3 hw3 hce hKB3 W3
  have hX4 : SlRead W4 X (ints .u8 (bys b)) := hX.below (by rw [HB.out]; exact hw4)
  have hs2 := sseal_any key i last X b cx W4 hX4 (by omega)
  rw [← HC.out] at hs2
  have hk := rowIs_heap8 hk4
  go_wp2_with (first | (refine wpList_load_row rfl 23 _ rfl _ rfl _ _ _ _ hk Tryd.underlying23 rfl (by kernel_rfl) ?_))
  refine hs2.mono ?_
  rintro e W5 ⟨v5, rfl, h5⟩
  obtain ⟨Ay, cay, rfl, hcay, hSy⟩ := h5.is
  have hKB4 : KB < W4.heap.size := hk4.lt
  have hk5 := hk4.of_block (h5.b.block _ hKB4)
  have hw5 : Below B w W5 := hw4.trans (h5.b.mono (by omega))
  have hSx5 := hSx.below h5.b
  clear h5 hs2 hk hX4 hk4 hw4 hSx hKB4 W4
  have hX5 : SlRead W5 X (ints .u8 (bys b)) := hX.below (by rw [HB.out]; exact hw5)
  go_wp2_with fail
  refine (bytes_own X b cx W5 hX5 (by omega)).mono ?_
  rintro e W6 ⟨v6, rfl, h6⟩
  obtain ⟨Aw, cw, rfl, hcw, hSw⟩ := h6.is
  have hKB5 : KB < W5.heap.size := hk5.lt
  have hk6 := hk5.of_block (h6.b.block _ hKB5)
  have hw6 : Below B w W6 := hw5.trans (h6.b.mono (by omega))
  have hSx6 := hSx5.below h6.b
  have hSy6 := hSy.below h6.b
  clear h6 hX5 hk5 hw5 hSx5 hSy hKB5 W5
  have ho := sopen_st E key i last Ax c cax W6 (hE.below (by rw [HB.out]; exact hw6)) hSx6 (by omega) hcax
  rw [HOP.out, show errC E 0 = .nilIface from rfl] at ho
  have hk := rowIs_heap8 hk6
  go_wp2_with (first | (refine wpList_load_row rfl 23 _ rfl _ rfl _ _ _ _ hk Tryd.underlying23 rfl (by kernel_rfl) ?_))
  refine ho.mono ?_
  rintro e W7 ⟨v7, rfl, h7⟩
  have hown7 := h7.own
  have hb7 := h7.b
  have hS7 := h7.s
  obtain ⟨Ad, cad, rfl, hcad⟩ := ownsRow_form hown7
  have hSz7 := SlRead.of_own hown7
  have hKB6 : KB < W6.heap.size := hk6.lt
  obtain ⟨Bd, hBd⟩ : ∃ Bd, Bd = W6.heap.size := ⟨_, rfl⟩
  rw [← hBd] at hown7 hb7 hS7 hKB6
  have HBD := Lib.hid hBd
  clear h7 ho hk hBd
  have hsm := same_true Ax Ay c cax cay W7 (hSx6.below (by rw [← HBD.out]; exact hb7)) (hSy6.below (by rw [← HBD.out]; exact hb7)) (by omega)
  go_wp2_with fail
  refine hsm.mono ?_
  rintro e W8 ⟨rfl, q, rfl⟩
  have hbq : Below W7.heap.size W7 (W7.drewN q) := Below.drewNr q
  generalize W7.drewN q = W8 at hbq ⊢
  have hb8 := hb7.trans (hbq.mono hS7)
  have hown8 := ownsRow_via hown7 (fun g _ hlt => hbq.block g hlt)
  have hSz8 := hSz7.below hbq
  have hS8 : Bd ≤ W8.heap.size := Nat.le_trans hS7 hbq.size
  clear hbq hb7 hown7 hSz7 hS7 hsm
  have hsm := same_true Ad Aw b cad cw W8 hSz8 (hSw.below (by rw [← HBD.out]; exact hb8)) (by omega)
  go_wp2_with fail
  refine hsm.mono ?_
  rintro e W9 ⟨rfl, q, rfl⟩
  have hbq : Below W8.heap.size W8 (W8.drewN q) := Below.drewNr q
  generalize W8.drewN q = W9 at hbq ⊢
  have hb9 := hb8.trans (hbq.mono hS8)
  have hown9 := ownsRow_via hown8 (fun g _ hlt => hbq.block g hlt)
  clear hbq hb8 hown8 hSz8 hS8 hsm
  go_wp2_with fail
  go_loopw [16] (fun i wr => ∃ k : Nat, k ≤ b.length ∧ i = .int .i64 k ∧ ∃ zs : List (BitVec 8), zs.length = b.length ∧ wr.ownsRow Bd 5 1 (.slice Ad b.length cad) b.length (ints .u8 (bys zs)) ∧ Below Bd W6 wr) (fun i _ => b.length - (intOf i).toNat)
  case atStart => exact ⟨0, by omega, rfl, b, rfl, hown9, hb9⟩
  clear hown9 hb9
  case round =>
    obtain ⟨k, hkb, rfl, zs, hzl, hown, hbr⟩ := hrel
    have HZL := Lib.hid hzl
    clear hzl
    by_cases hlt : k < b.length
    · obtain ⟨g, cad', hv, hgB, hgW⟩ := hown.form (by omega)
      obtain ⟨rfl, _, rfl⟩ : Ad = some ⟨g, 0, none⟩ ∧ b.length = b.length ∧ cad = cad' := by simpa using hv
      obtain ⟨x, hx⟩ : ∃ x, zs[k]? = some x := ⟨zs[k]'(by rw [HZL.out]; exact hlt), by simp [HZL.out, hlt]⟩
      have cx1 : wr.cell? ⟨g, k, none⟩ = some (v8 x) := by rw [hown.cellAt k (by omega), bys_ints]; simp [hx]
      have fc := hown.frozenAt k
      have hxy := n8_xorR x 85#8
      rw [show n8 85#8 = 85 from rfl] at hxy
      have hst := own_setN HZL.out hown k (x ^^^ 85#8)
      have hb2 : Below Bd W6 (wr.setCell ⟨g, k, none⟩ (v8 (x ^^^ 85#8))) := hbr.setCell hgB _
      have HST := Lib.hid hst
      clear hst hv hown hbr hx
      go_wp2_with fail
      go_roundw
      case rel => exact ⟨k + 1, by omega, by go_num, zs.set k (x ^^^ 85#8), by rw [List.length_set]; exact HZL.out, HST.out, hb2⟩
      case measure => simp [intOf]; omega
    · have hlt2 : decide ((k : Int) < (b.length : Int)) = false := by simp; omega
      have hSr : Bd ≤ wr.heap.size := by rw [HBD.out]; exact hbr.size
      have hkr := hk6.of_block (hbr.block _ hKB6)
      have hwr : Below B w wr := hw6.trans (hbr.mono (by omega))
      have ho := sopen_st E key i last Ax c cax wr (hE.below (by rw [HB.out]; exact hwr)) (hSx6.below (by rw [← HBD.out]; exact hbr)) (by omega) hcax
      rw [HOP.out, show errC E 0 = .nilIface from rfl] at ho
      have hk := rowIs_heap8 hkr
      clear hown
      go_wp2_with (first | (refine wpList_load_row rfl 23 _ rfl _ rfl _ _ _ _ hk Tryd.underlying23 rfl (by kernel_rfl) ?_))
      refine ho.mono ?_
      rintro e Wa ⟨va, rfl, ha⟩
      obtain ⟨Av, cv, rfl, hcv, hSv⟩ := ha.is
      have hba := hbr.trans (ha.b.mono hSr)
      have hwa : Below B w Wa := hw6.trans (hba.mono (by omega))
      have hsm := same_true Av Aw b cv cw Wa hSv (hSw.below (by rw [← HBD.out]; exact hba)) (by omega)
      have hBa : B ≤ Wa.heap.size := by rw [← HB.out]; exact hwa.size
      have hce := HCE.out
      clear ha ho hk hkr hwr hbr hba
      go_wp2_with fail
      refine hsm.mono ?_
      rintro e Wb ⟨rfl, q, rfl⟩
      have hbq : Below Wa.heap.size Wa (Wa.drewN q) := Below.drewNr q
      generalize Wa.drewN q = Wb at hbq ⊢
      have hfin := hwa.trans (hbq.mono hBa)
      clear hbq hsm hwa
      go_wp2_with fail
      go_ret
      rw [HB.out]
      exact ⟨rfl, hfin⟩
end Go.Proofs.YtpegihfocnchnaaDoor
