import Derived.Test.YtmmcabjpmcepaaaDoorAem
/-
  AeadOwn.
-/
namespace Go.Proofs.YtmmcabjpmcepaaaDoor
open Go.RowKit

theorem own_setN {w : World} {base g cap n : Nat} {ds : List (BitVec 8)} (hn : ds.length = n) (h : w.ownsRow base 5 1 (.slice (some ⟨g, 0, none⟩) n cap) n (ints .u8 (bys ds))) (k : Nat) (y : BitVec 8) :
    (w.setCell ⟨g, k, none⟩ (v8 y)).ownsRow base 5 1 (.slice (some ⟨g, 0, none⟩) n cap) n (ints .u8 (bys (ds.set k y))) := by
  subst hn
  have := own_set h k y
  rwa [List.length_set] at this

set_option maxRecDepth 100000 in
set_option maxHeartbeats 3200000 in
theorem own_walk (E : Nat → Addr) (key non : Nat → BitVec 8) (A : Option Addr) (ad : List (BitVec 8)) (ca : Nat) (X : Option Addr) (b : List (BitVec 8)) (cx : Nat) (z : Int) (w : World)
    (hA : SlRead w A (ints .u8 (bys ad))) (hX : SlRead w X (ints .u8 (bys b))) (hE : ErrsAt E w) :
    Calls Tryd.prog 7 #[.agg (arr8 32 key), .agg (arr8 12 non), .slice A ad.length ca, .slice X b.length cx, .int .i64 z] w fun e w' => e = .returned (.bool true) ∧ Below w.heap.size w w' := by
  go_enter Tryd.func7, Tryd.ntmps7
  go_upto_region 1 with (fail)
  refine wp_world (HdA w w.heap.size key non) ?_ ?_
  · refine ⟨?_, ?_, ?_⟩
    · exact (rowIs_new _ _ _ _ _ _ (by simp) (by simp) (fun i hi => arr8_get 32 key i hi)).alloc _
    · exact rowIs_new _ _ _ _ _ _ (by simp) (by simp) (fun i hi => arr8_get 12 non i hi)
    · go_grown
  rintro W hW
  have hE0 := hE.below hW.b
  generalize hB : w.heap.size = B at hW ⊢
  have HB := Lib.hid hB; clear hB
  go_wp2_with fail
  refine (first_any E W hE0).mono ?_
  rintro e W1 ⟨rfl, hb1⟩
  have hW1 := hW.next hb1
  clear hW hb1 hE0
  by_cases h1 : 60 < ad.length
  · have d1 : decide ((60 : Int) < (ad.length : Int)) = true := by simp; omega
    go_wp2_with fail
    go_ret
    exact ⟨rfl, by rw [HB.out]; exact hW1.b⟩
  have d1 : decide ((60 : Int) < (ad.length : Int)) = false := by simp; omega
  by_cases h2 : 60 < b.length
  · have d2 : decide ((60 : Int) < (b.length : Int)) = true := by simp; omega
    go_wp2_with fail
    go_ret
    exact ⟨rfl, by rw [HB.out]; exact hW1.b⟩
  have d2 : decide ((60 : Int) < (b.length : Int)) = false := by simp; omega
  have hla : ad.length ≤ 1000 := by omega
  have hlx : b.length ≤ 1000 := by omega
  have hA1 : SlRead W1 A (ints .u8 (bys ad)) := hA.below (by rw [HB.out]; exact hW1.b)
  go_wp2_with fail
  refine (bytes_own A ad ca W1 hA1 (by omega)).mono ?_
  rintro e W2 ⟨v2, rfl, h2x⟩
  obtain ⟨Ax, cax, rfl, hcax, hSx⟩ := h2x.is
  have hW2 := hW1.next h2x.b
  have hX2 : SlRead W2 X (ints .u8 (bys b)) := hX.below (by rw [HB.out]; exact hW2.b)
  clear h2x hA1 hW1 d1 d2 h1
  go_wp2_with fail
  refine (bytes_own X b cx W2 hX2 (by omega)).mono ?_
  rintro e W3 ⟨v3, rfl, h3y⟩
  obtain ⟨Ay, cay, rfl, hcay, hSy⟩ := h3y.is
  have hW3 := hW2.next h3y.b
  have hSx3 := hSx.below h3y.b
  have hBc0 := hW3.lt
  clear h3y hX2 hW2 hSx
  have hk := rowIs_heap8 hW3.k
  have hn := rowIs_heap8 hW3.n
  go_wp2_with (first | (refine wpList_load_row rfl 23 _ rfl _ rfl _ _ _ _ hk Tryd.underlying23 rfl (by kernel_rfl) ?_) | (refine wpList_load_row rfl 24 _ rfl _ rfl _ _ _ _ hn Tryd.underlying24 rfl (by kernel_rfl) ?_))
  refine (seal_any key non Ax Ay ad b cax cay W3 hSx3 hSy hla hlx).mono ?_
  rintro e W4 ⟨v4, rfl, h4⟩
  have hop := openGot_sealB key non ad b
  have hcl0 := sealB_length key non ad b
  obtain ⟨c, hc⟩ : ∃ c, c = sealB key non ad b := ⟨_, rfl⟩
  rw [← hc] at h4 hop hcl0
  have hcl16 : 0 < c.length := by omega
  have hcl216 : c.length ≤ 216 := by omega
  have hW4 := hW3.next h4.b
  have hSx4 := hSx3.below h4.b
  have hown4 := h4.own
  have hbc4 := h4.b
  have hSc4 := h4.is
  obtain ⟨gc, cc, rfl, hgc, hgcl⟩ := hown4.form hcl16
  have hcc : c.length ≤ cc := by
    obtain ⟨O, c', e, l, _⟩ := hSc4
    simp only [Value.slice.injEq] at e
    omega
  have hScc := SlRead.of_own hown4
  have HC := Lib.hid hc
  have HOP := Lib.hid hop
  clear hc hop hcl0 h4 hk hn hSc4
  obtain ⟨Bc, hBc⟩ : ∃ Bc, Bc = W3.heap.size := ⟨_, rfl⟩
  rw [← hBc] at hown4 hbc4 hgc hBc0
  have HBC := Lib.hid hBc
  clear hBc
  go_wp2_with fail
  refine (bytes_own (some ⟨gc, 0, none⟩) c cc W4 hScc (by omega)).mono ?_
  rintro e W5 ⟨v5, rfl, h5⟩
  obtain ⟨Aw, cw, rfl, hcw, hSw⟩ := h5.is
  have hW5 := hW4.next h5.b
  have hSx5 := hSx4.below h5.b
  have hSc5 := hScc.below h5.b
  have hown5 := ownsRow_via hown4 (fun g _ hlt => h5.b.block g hlt)
  have hbc5 : Below Bc W3 W5 := hbc4.trans (h5.b.mono (by rw [HBC.out]; exact hbc4.size))
  have hgc5 : gc < W5.heap.size := Nat.lt_of_lt_of_le hgcl h5.b.size
  have hE5 := hE.below (show Below w.heap.size w W5 by rw [HB.out]; exact hW5.b)
  have ho := open_any E key non Ax (some ⟨gc, 0, none⟩) ad c cax cc W5 hE5 hSx5 hSc5 hla (by omega) hcc
  rw [HOP.out, show errC E 0 = .nilIface from rfl] at ho
  clear h5 hW3 hW4 hSx3 hSx4 hScc hown4 hbc4 hE5 hgcl HOP
  have hk := rowIs_heap8 hW5.k
  have hn := rowIs_heap8 hW5.n
  go_wp2_with (first | (refine wpList_load_row rfl 23 _ rfl _ rfl _ _ _ _ hk Tryd.underlying23 rfl (by kernel_rfl) ?_) | (refine wpList_load_row rfl 24 _ rfl _ rfl _ _ _ _ hn Tryd.underlying24 rfl (by kernel_rfl) ?_))
  refine ho.mono ?_
  rintro e W6 ⟨v6, rfl, h6⟩
  have hown6 := h6.own
  have hb6 := h6.b
  obtain ⟨Ad, cad, rfl, hcad⟩ := ownsRow_form hown6
  have hBB : Bc ≤ W5.heap.size := Nat.le_trans (by rw [HBC.out]; exact hbc5.size) (Nat.le_refl _)
  have hWl : B + 1 < W5.heap.size := hW5.lt
  have hS5 : W5.heap.size ≤ W6.heap.size := h6.s
  obtain ⟨Bd, hBd⟩ : ∃ Bd, Bd = W5.heap.size := ⟨_, rfl⟩
  rw [← hBd] at hown6 hb6 hBB hgc5 hWl hS5
  have HBD := Lib.hid hBd
  clear h6 ho hk hn hBd
  -- what is known of every world behind it
  have hSc6 := hSc5.below (show Below W5.heap.size W5 W6 by rw [← HBD.out]; exact hb6)
  have hSw6 := hSw.below (show Below W5.heap.size W5 W6 by rw [← HBD.out]; exact hb6)
  have hSx6 := hSx5.below (show Below W5.heap.size W5 W6 by rw [← HBD.out]; exact hb6)
  have hsm := same_true (some ⟨gc, 0, none⟩) Aw c cc cw W6 hSc6 hSw6 (by omega)
  clear hSc6 hSw6
  go_wp2_with fail
  refine hsm.mono ?_
  rintro e W7 ⟨rfl, q, rfl⟩
  have hbq : Below W6.heap.size W6 (W6.drewN q) := Below.drewNr q
  generalize W6.drewN q = W7 at hbq ⊢
  have hb7 := hb6.trans (hbq.mono hS5)
  have hSx7 := hSx6.below hbq
  have hA7 : SlRead W7 A (ints .u8 (bys ad)) := hA.below (by rw [HB.out]; exact (hW5.later hb7 hWl).b)
  have hsm := same_true Ax A ad cax ca W7 hSx7 hA7 (by omega)
  have hown7 := ownsRow_via hown6 (fun g _ hlt => hbq.block g hlt)
  have hS7 : Bd ≤ W7.heap.size := Nat.le_trans hS5 hbq.size
  clear hSx6 hbq hb6 hown6 hSx7 hA7 hS5
  go_wp2_with fail
  refine hsm.mono ?_
  rintro e W8 ⟨rfl, q, rfl⟩
  have hbq : Below W7.heap.size W7 (W7.drewN q) := Below.drewNr q
  generalize W7.drewN q = W8 at hbq ⊢
  have hb8 := hb7.trans (hbq.mono hS7)
  have hSy8 : SlRead W8 Ay (ints .u8 (bys b)) := hSy.below (by rw [← HBC.out]; exact hbc5.trans (hb8.mono hBB))
  have hX8 : SlRead W8 X (ints .u8 (bys b)) := hX.below (by rw [HB.out]; exact (hW5.later hb8 hWl).b)
  have hsm := same_true Ay X b cay cx W8 hSy8 hX8 (by omega)
  have hown8 := ownsRow_via hown7 (fun g _ hlt => hbq.block g hlt)
  have hS8 : Bd ≤ W8.heap.size := Nat.le_trans hS7 hbq.size
  clear hbq hb7 hown7 hSy8 hX8 hS7
  go_wp2_with fail
  refine hsm.mono ?_
  rintro e W9 ⟨rfl, q, rfl⟩
  have hbq : Below W8.heap.size W8 (W8.drewN q) := Below.drewNr q
  generalize W8.drewN q = W9 at hbq ⊢
  have hb9 := hb8.trans (hbq.mono hS8)
  have hown9 := ownsRow_via hown8 (fun g _ hlt => hbq.block g hlt)
  clear hbq hb8 hown8 hS8 hsm
  have hlb : ((b.length : Int) != (b.length : Int)) = false := by simp
  go_wp2_with fail
  go_loopw [18] (fun i wr => ∃ k : Nat, k ≤ b.length ∧ i = .int .i64 k ∧ ∃ zs : List (BitVec 8), zs.length = b.length ∧ wr.ownsRow Bd 5 1 (.slice Ad b.length cad) b.length (ints .u8 (bys zs)) ∧ Below Bd W5 wr) (fun i _ => b.length - (intOf i).toNat)
  case atStart => exact ⟨0, by omega, rfl, b, rfl, hown9, hb9⟩
  clear hown9 hb9 hlb
  case round =>
    obtain ⟨k, hk, rfl, zs, hzl, hown, hbr⟩ := hrel
    have HZL := Lib.hid hzl
    clear hzl
    by_cases hlt : k < b.length
    · obtain ⟨g, cad', hv, hgB, hgW⟩ := hown.form (by omega)
      obtain ⟨rfl, _, rfl⟩ : Ad = some ⟨g, 0, none⟩ ∧ b.length = b.length ∧ cad = cad' := by simpa using hv
      obtain ⟨x, hx⟩ : ∃ x, zs[k]? = some x := ⟨zs[k]'(by rw [HZL.out]; exact hlt), by simp [HZL.out, hlt]⟩
      have cx1 : wr.cell? ⟨g, k, none⟩ = some (v8 x) := by rw [hown.cellAt k (by omega), bys_ints]; simp [hx]
      have fc := hown.frozenAt k
      have hxy : (n8 x + 1) % 256 = n8 (x + 1#8) := n8_inc x
      have hxz : IntKind.u8.wrap (n8 x + 1) = n8 (x + 1#8) := n8_incW x
      have hst := own_setN HZL.out hown k (x + 1#8)
      have hb2 : Below Bd W5 (wr.setCell ⟨g, k, none⟩ (v8 (x + 1#8))) := hbr.setCell hgB _
      have HST := Lib.hid hst
      clear hst hv hown hbr hx
      go_wp2_with fail
      go_roundw
      case rel => exact ⟨k + 1, by omega, by go_num, zs.set k (x + 1#8), by rw [List.length_set]; exact HZL.out, HST.out, hb2⟩
      case measure => simp [intOf]; omega
    · have hlt2 : decide ((k : Int) < (b.length : Int)) = false := by simp; omega
      obtain ⟨K, hK, hKl⟩ := exists_mod z c.length (by omega)
      have HK := Lib.hid hK
      have hSr : Bd ≤ wr.heap.size := by rw [HBD.out]; exact hbr.size
      clear hK hown
      go_wp2_with fail
      refine (number_nat z c.length K wr (by omega) HK.out).mono ?_
      rintro e Wa ⟨rfl, q, rfl⟩
      have hbq : Below wr.heap.size wr (wr.drewN q) := Below.drewNr q
      generalize wr.drewN q = Wa at hbq ⊢
      have hba := hbr.trans (hbq.mono hSr)
      have hSca := hSc5.below (show Below W5.heap.size W5 Wa by rw [← HBD.out]; exact hba)
      have hSwa := hSw.below (show Below W5.heap.size W5 Wa by rw [← HBD.out]; exact hba)
      have hSa : Bd ≤ Wa.heap.size := Nat.le_trans hSr hbq.size
      have hsm := same_true (some ⟨gc, 0, none⟩) Aw c cc cw Wa hSca hSwa (by omega)
      clear hbr hbq hSca hSwa hSr
      go_wp2_with fail
      refine hsm.mono ?_
      rintro e Wb ⟨rfl, q, rfl⟩
      have hbq : Below Wa.heap.size Wa (Wa.drewN q) := Below.drewNr q
      generalize Wa.drewN q = Wb at hbq ⊢
      have hbb := hba.trans (hbq.mono hSa)
      have hownb := ownsRow_via hown5 (fun g _ hlt => hbb.block g (by rw [HBD.out]; exact hlt))
      have hKn : K < c.length := by omega
      obtain ⟨x, hx⟩ : ∃ x, c[K]? = some x := ⟨c[K], by simp [hKn]⟩
      have cx1 : Wb.cell? ⟨gc, K, none⟩ = some (v8 x) := by rw [hownb.cellAt K (by omega), bys_ints]; simp [hx]
      have fc := hownb.frozenAt K
      have hxy : (n8 x + 1) % 256 = n8 (x + 1#8) := n8_inc x
      have hxz : IntKind.u8.wrap (n8 x + 1) = n8 (x + 1#8) := n8_incW x
      have hbt : Below Bc W3 (Wb.setCell ⟨gc, K, none⟩ (v8 (x + 1#8))) := (hbc5.trans (hbb.mono hBB)).setCell hgc _
      have hRt0 : HdA w B key non (Wb.setCell ⟨gc, K, none⟩ (v8 (x + 1#8))) := (hW5.later hbb hWl).later (C := Bc) ((Below.refl _ _).setCell hgc _) hBc0
      clear hba hbq hSa hsm hbb hownb hx HK hlt hlt2
      go_upto_region 21 with (fail)
      refine wp_world (fun W => Below Bc W3 W ∧ HdA w B key non W) ⟨hbt, hRt0⟩ ?_
      clear hbt hRt0 cx1 fc hxy hxz
      rintro Wt ⟨hbt, hRt⟩
      have hSyt : SlRead Wt Ay (ints .u8 (bys b)) := hSy.below (by rw [← HBC.out]; exact hbt)
      have hXt : SlRead Wt X (ints .u8 (bys b)) := hX.below (by rw [HB.out]; exact hRt.b)
      have hAt : SlRead Wt A (ints .u8 (bys ad)) := hA.below (by rw [HB.out]; exact hRt.b)
      have HY : ∀ w', Below Wt.heap.size Wt w' → Calls Tryd.prog 10 #[.slice Ay b.length cay, .slice X b.length cx] w' fun e w'' => e = .returned (.bool true) ∧ Below w'.heap.size w' w'' := fun w' hb => quietB (same_true Ay X b cay cx w' (hSyt.below hb) (hXt.below hb) (by omega))
      have HS : ∀ w', Below Wt.heap.size Wt w' → Calls Tryd.prog 9 #[.agg (arr8 32 key), .agg (arr8 12 non), .slice A ad.length ca, .slice X b.length cx] w' fun e w'' => ∃ r, e = .returned r ∧ Below w'.heap.size w' w'' ∧ SlIsA c r w'' := fun w' hb => by
        refine (seal_any key non A X ad b ca cx w' (hAt.below hb) (hXt.below hb) hla hlx).mono ?_
        rintro e w'' ⟨v, rfl, h⟩
        rw [← HC.out] at h
        exact ⟨v, rfl, h.b, h.is⟩
      have HD : ∀ w', Below Wt.heap.size Wt w' → Calls Tryd.prog 11 #[.agg (arr8 32 key), .agg (arr8 12 non), .slice A ad.length ca, .slice X b.length cx] w' fun e w'' => ∃ r, e = .returned r ∧ Below w'.heap.size w' w'' ∧ SlIsA c r w'' := fun w' hb => by
        refine (dseal_any key non A X ad b ca cx w' (hAt.below hb) (hXt.below hb) hla hlx).mono ?_
        rintro e w'' ⟨v, rfl, h⟩
        rw [← HC.out] at h
        exact ⟨v, rfl, h.b, h.is⟩
      refine wp_region_spec [Sp.k 0 (some 108) [] (.bool true),
        Sp.k 1 (some 109) [0] (.bool true),
        Sp.k 2 (some 110) [1] (.slice Ay b.length cay),
        Sp.k 3 (some 111) [1] (.slice X b.length cx),
        Sp.k 4 (some 112) [1, 2, 3] (.bool true),
        Sp.k 5 (some 113) [1, 4] (.bool true),
        Sp.k 6 (some 114) [5] (.bool true),
        Sp.k 7 (some 115) [6] (.agg (arr8 32 key)),
        Sp.k 8 (some 116) [6] (.agg (arr8 12 non)),
        Sp.k 9 (some 117) [6] (.slice A ad.length ca),
        Sp.k 10 (some 118) [6] (.slice X b.length cx),
        Sp.o 11 (some 119) [6, 7, 8, 9, 10] (SlIsA (c)),
        Sp.k 12 (some 120) [6] (.agg (arr8 32 key)),
        Sp.k 13 (some 121) [6] (.agg (arr8 12 non)),
        Sp.k 14 (some 122) [6] (.slice A ad.length ca),
        Sp.k 15 (some 123) [6] (.slice X b.length cx),
        Sp.o 16 (some 124) [6, 12, 13, 14, 15] (SlIsA (c)),
        Sp.k 17 (some 125) [6, 11, 16] (.bool true),
        Sp.k 18 (some 126) [6, 17] (.bool true),
        Sp.k 19 (some 10) [18] (.bool true)] (by kernel_rfl) (by kernel_rfl)
        ⟨owes_move 0 (some 108) [] (.bool true) (Go.Operand.tmp 11) (fun v => by kernel_rfl) (fun v => by kernel_rfl),
        owes_move 1 (some 109) [0] (.bool true) (Go.Operand.tmp 108) (fun v => by kernel_rfl) (fun v => by kernel_rfl),
        owes_move 2 (some 110) [1] (.slice Ay b.length cay) (Go.Operand.tmp 13) (fun v => by kernel_rfl) (fun v => by kernel_rfl),
        owes_move 3 (some 111) [1] (.slice X b.length cx) (Go.Operand.tmp 3) (fun v => by kernel_rfl) (fun v => by kernel_rfl),
        owes_call 4 (some 112) [1, 2, 3] (.bool true) 10 #[Go.Operand.tmp 110, Go.Operand.tmp 111] #[25, 25] (fun v => by kernel_rfl) (fun _ _ => by kernel_rfl) (fun v w' hb ho => by
            exact ⟨#[.slice Ay b.length cay, .slice X b.length cx], by kernel_rfl, (HY w' (drB hb)).mono (fun _ _ h => h)⟩),
        owes_pick 5 (some 113) [1, 4] (.bool true) (Go.Operand.tmp 109) (Go.Operand.tmp 112) (Go.Operand.const (Go.Value.bool false)) true (fun v => by kernel_rfl) (fun v => by kernel_rfl) (fun v => by kernel_rfl),
        owes_move 6 (some 114) [5] (.bool true) (Go.Operand.tmp 113) (fun v => by kernel_rfl) (fun v => by kernel_rfl),
        owes_load 7 (some 115) [6] (.agg (arr8 32 key)) 23 (Go.Operand.tmp 5) (.pointer (some ⟨B, 0, none⟩)) (fun v => by kernel_rfl) (fun v => by kernel_rfl) (fun w' hb => key_load (hRt.next (drB hb)).k),
        owes_load 8 (some 116) [6] (.agg (arr8 12 non)) 24 (Go.Operand.tmp 6) (.pointer (some ⟨B + 1, 0, none⟩)) (fun v => by kernel_rfl) (fun v => by kernel_rfl) (fun w' hb => non_load (hRt.next (drB hb)).n),
        owes_move 9 (some 117) [6] (.slice A ad.length ca) (Go.Operand.tmp 2) (fun v => by kernel_rfl) (fun v => by kernel_rfl),
        owes_move 10 (some 118) [6] (.slice X b.length cx) (Go.Operand.tmp 3) (fun v => by kernel_rfl) (fun v => by kernel_rfl),
        owes_call_o 11 (some 119) [6, 7, 8, 9, 10] (SlIsA (c)) 9 #[Go.Operand.tmp 115, Go.Operand.tmp 116, Go.Operand.tmp 117, Go.Operand.tmp 118] #[23, 24, 25, 25] (fun v => by kernel_rfl) (fun _ _ => by kernel_rfl) SlIsA.mono (fun v w' hb ho => by
            exact ⟨#[.agg (arr8 32 key), .agg (arr8 12 non), .slice A ad.length ca, .slice X b.length cx], by kernel_rfl, (HS w' (drB hb)).mono (fun _ _ h => h)⟩),
        owes_load 12 (some 120) [6] (.agg (arr8 32 key)) 23 (Go.Operand.tmp 5) (.pointer (some ⟨B, 0, none⟩)) (fun v => by kernel_rfl) (fun v => by kernel_rfl) (fun w' hb => key_load (hRt.next (drB hb)).k),
        owes_load 13 (some 121) [6] (.agg (arr8 12 non)) 24 (Go.Operand.tmp 6) (.pointer (some ⟨B + 1, 0, none⟩)) (fun v => by kernel_rfl) (fun v => by kernel_rfl) (fun w' hb => non_load (hRt.next (drB hb)).n),
        owes_move 14 (some 122) [6] (.slice A ad.length ca) (Go.Operand.tmp 2) (fun v => by kernel_rfl) (fun v => by kernel_rfl),
        owes_move 15 (some 123) [6] (.slice X b.length cx) (Go.Operand.tmp 3) (fun v => by kernel_rfl) (fun v => by kernel_rfl),
        owes_call_o 16 (some 124) [6, 12, 13, 14, 15] (SlIsA (c)) 11 #[Go.Operand.tmp 120, Go.Operand.tmp 121, Go.Operand.tmp 122, Go.Operand.tmp 123] #[23, 24, 25, 25] (fun v => by kernel_rfl) (fun _ _ => by kernel_rfl) SlIsA.mono (fun v w' hb ho => by
            exact ⟨#[.agg (arr8 32 key), .agg (arr8 12 non), .slice A ad.length ca, .slice X b.length cx], by kernel_rfl, (HD w' (drB hb)).mono (fun _ _ h => h)⟩),
        owes_call 17 (some 125) [6, 11, 16] (.bool true) 10 #[Go.Operand.tmp 119, Go.Operand.tmp 124] #[25, 25] (fun v => by kernel_rfl) (fun _ _ => by kernel_rfl) (fun v w' hb ho => by
            obtain ⟨A11, c11, e11, l11, r11⟩ := ho.get 11 _ _ (SlIsA (c)) rfl rfl
            obtain ⟨A16, c16, e16, l16, r16⟩ := ho.get 16 _ _ (SlIsA (c)) rfl rfl
            exact ⟨#[.slice A11 (c).length c11, .slice A16 (c).length c16], Eq.trans (b := #[v 11, v 16]) (by kernel_rfl) (by rw [e11, e16]), (quietB (same_true A11 A16 c c11 c16 w' r11 r16 (by omega))).mono (fun _ _ h => h)⟩),
        owes_pick 18 (some 126) [6, 17] (.bool true) (Go.Operand.tmp 114) (Go.Operand.tmp 125) (Go.Operand.const (Go.Value.bool false)) true (fun v => by kernel_rfl) (fun v => by kernel_rfl) (fun v => by kernel_rfl),
        owes_assign 19 (some 10) [18] (.bool true) (Go.Operand.tmp 126) (fun v => by kernel_rfl) (fun v => by kernel_rfl), trivial⟩ ?_
      intro v w' hb' hall
      clear hall
      have hfin := (hRt.next (drB hb')).b
      clear hb' HY HS HD hSyt hXt hAt hRt hbt
      simp only [putsL_k, putsL_o, putsL_nil, List.set_cons_zero, List.set_cons_succ]
      go_wp2_with fail
      go_ret
      rw [HB.out]
      exact ⟨rfl, hfin⟩
end Go.Proofs.YtmmcabjpmcepaaaDoor
