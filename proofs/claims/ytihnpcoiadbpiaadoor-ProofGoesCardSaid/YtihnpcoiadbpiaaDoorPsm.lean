import Derived.Test.YtihnpcoiadbpiaaDoorPck
namespace Go.Proofs.YtihnpcoiadbpiaaDoor
open Go.RowKit

theorem ownsRow_low {w : World} {base b2 : Nat} {e : TypeId} {size : Nat} {v : Value} {n : Nat} {xs : List Value} (h : w.ownsRow base e size v n xs) (hb : b2 ≤ base) : w.ownsRow b2 e size v n xs := by
  refine ⟨h.1, ?_⟩
  rcases h.2 with h2 | ⟨g, cap, cur, e1, e2, e3⟩
  · exact .inl h2
  · exact .inr ⟨g, cap, cur, e1, Nat.le_trans hb e2, e3⟩
set_option maxRecDepth 100000 in
set_option maxHeartbeats 1600000 in
theorem same_hashes (hs : List (Nat → BitVec 8)) (A B : Option Addr) (ca cb : Nat) (w : World) (hA : SlRead w A (hcells hs)) (hB : SlRead w B (hcells hs)) (hl : hs.length ≤ 4611686018427387904) :
    Calls Tryd.prog 12 #[.slice A hs.length ca, .slice B hs.length cb] w fun e w' => e = .returned (.bool true) ∧ Below w.heap.size w w' := by
  go_enter Tryd.func12, Tryd.ntmps12
  go_wp2_with fail
  go_loopw [5] (fun p wr => ∃ k : Nat, p = .int .i64 k ∧ k ≤ hs.length ∧ Below w.heap.size w wr) (fun p _ => hs.length - (intOf p).toNat)
  case atStart => exact ⟨0, rfl, by omega, Below.refl _ _⟩
  case round =>
    obtain ⟨k, rfl, hk, hbw⟩ := hrel
    by_cases hlt : k < hs.length
    · have hlt' : decide (k < hs.length) = true := by simpa using hlt
      obtain ⟨q, hq⟩ : ∃ q, hs[k]? = some q := ⟨hs[k], by simp [hlt]⟩
      obtain ⟨b, o, rfl, _, _⟩ := hA (by rw [hcells_length]; omega)
      obtain ⟨b2, o2, rfl, _, _⟩ := hB (by rw [hcells_length]; omega)
      have hq1 := hrange hA hq
      have hq2 := hrange hB hq
      have HQ : ∀ w', Below wr.heap.size wr w' → w'.rangeAt b (o + 32 * k) (arr8 32 q).toList := fun w' hb' =>
        rangeAt_below (rangeAt_below hq1.2 hbw hq1.1) hb' (Nat.lt_of_lt_of_le hq1.1 hbw.size)
      have HQ2 : ∀ w', Below wr.heap.size wr w' → w'.rangeAt b2 (o2 + 32 * k) (arr8 32 q).toList := fun w' hb' =>
        rangeAt_below (rangeAt_below hq2.2 hbw hq2.1) hb' (Nat.lt_of_lt_of_le hq2.1 hbw.size)
      clear hq1 hq2 hq
      go_upto_region 6 with (fail)
      refine wp_region_spec [Sp.k 0 (some 18) [] (.slice (some ⟨b, o, none⟩) hs.length ca),
        Sp.k 1 (some 19) [] (.int .i64 k),
        Sp.k 2 (some 20) [0, 1] (.pointer (some ⟨b, o + 32 * k, none⟩)),
        Sp.k 3 (some 21) [2] (.agg (arr8 32 q)),
        Sp.k 4 (some 22) [] (.slice (some ⟨b2, o2, none⟩) hs.length cb),
        Sp.k 5 (some 23) [] (.int .i64 k),
        Sp.k 6 (some 24) [4, 5] (.pointer (some ⟨b2, o2 + 32 * k, none⟩)),
        Sp.k 7 (some 25) [6] (.agg (arr8 32 q)),
        Sp.k 8 (some 26) [3, 7] (.bool true),
        Sp.k 9 (some 6) [8] (.bool true)] (by kernel_rfl) (by kernel_rfl)
        ⟨owes_move 0 (some 18) [] (.slice (some ⟨b, o, none⟩) hs.length ca) (Go.Operand.tmp 0) (fun v => by kernel_rfl) (fun v => by kernel_rfl),
        owes_move 1 (some 19) [] (.int .i64 k) (Go.Operand.tmp 5) (fun v => by kernel_rfl) (fun v => by kernel_rfl),
        owes_index 2 (some 20) [0, 1] (.pointer (some ⟨b, o + 32 * k, none⟩)) 26 (Go.Operand.tmp 18) (Go.Operand.tmp 19) (.slice (some ⟨b, o, none⟩) hs.length ca) (.int .i64 k) (fun v => by kernel_rfl) (fun v => by kernel_rfl) (idxH b o _ ca k (by omega)),
        owes_load 3 (some 21) [2] (.agg (arr8 32 q)) 24 (Go.Operand.tmp 20) (.pointer (some ⟨b, o + 32 * k, none⟩)) (fun v => by kernel_rfl) (fun v => by kernel_rfl) (fun w' hb => load_hash _ _ _ w' (HQ w' (drB hb))),
        owes_move 4 (some 22) [] (.slice (some ⟨b2, o2, none⟩) hs.length cb) (Go.Operand.tmp 1) (fun v => by kernel_rfl) (fun v => by kernel_rfl),
        owes_move 5 (some 23) [] (.int .i64 k) (Go.Operand.tmp 5) (fun v => by kernel_rfl) (fun v => by kernel_rfl),
        owes_index 6 (some 24) [4, 5] (.pointer (some ⟨b2, o2 + 32 * k, none⟩)) 26 (Go.Operand.tmp 22) (Go.Operand.tmp 23) (.slice (some ⟨b2, o2, none⟩) hs.length cb) (.int .i64 k) (fun v => by kernel_rfl) (fun v => by kernel_rfl) (idxH b2 o2 _ cb k (by omega)),
        owes_load 7 (some 25) [6] (.agg (arr8 32 q)) 24 (Go.Operand.tmp 24) (.pointer (some ⟨b2, o2 + 32 * k, none⟩)) (fun v => by kernel_rfl) (fun v => by kernel_rfl) (fun w' hb => load_hash _ _ _ w' (HQ2 w' (drB hb))),
        owes_eql 8 (some 26) [3, 7] 24 (Go.Operand.tmp 21) (Go.Operand.tmp 25) 24 (arr8 32 q) (arr8 32 q) true (fun v => by kernel_rfl) (fun v => by kernel_rfl) (by kernel_rfl) (hash_same q q rfl),
        owes_assign 9 (some 6) [8] (.bool true) (Go.Operand.tmp 26) (fun v => by kernel_rfl) (fun v => by kernel_rfl), trivial⟩ ?_
      intro v w' hb' hall
      clear hall HQ HQ2
      have hbb := below_tr hbw (drB hb')
      clear hb' hbw
      simp only [putsL_k, putsL_nil, List.set_cons_zero, List.set_cons_succ]
      go_wp2_with fail
      go_roundw
      case rel => exact ⟨k + 1, by go_num, by omega, hbb⟩
      case measure => simp [intOf]; omega
    · have hlt' : decide (k < hs.length) = false := by simpa using hlt
      go_wp2_with fail
      go_ret
      exact ⟨rfl, hbw⟩

set_option maxRecDepth 100000 in
set_option maxHeartbeats 1600000 in
theorem dpath_bad (i : Int) (hs : List (Nat → BitVec 8)) (A : Option Addr) (cap : Nat) (w : World) (hi : i < 0 ∨ (hs.length : Int) ≤ i) :
    Calls Tryd.prog 11 #[.int .i64 i, .slice A hs.length cap] w fun e w' => e = .returned (.tuple #[.slice none 0 0, .bool false]) ∧ Below w.heap.size w w' := by
  go_enter Tryd.func11, Tryd.ntmps11
  by_cases h0 : i < 0
  · go_wp2_with fail
    go_ret2
    exact ⟨rfl, Below.refl _ _⟩
  · have h1 : (hs.length : Int) ≤ i := by omega
    go_wp2_with fail
    go_ret2
    exact ⟨rfl, Below.refl _ _⟩

set_option maxRecDepth 100000 in
set_option maxHeartbeats 1600000 in
theorem dpath_any (n : Nat) : ∀ (hs : List (Nat → BitVec 8)) (A : Option Addr) (cap i : Nat) (w : World), hs.length ≤ n → i < hs.length → SlRead w A (hcells hs) → hs.length ≤ cap → hs.length ≤ 1048576 →
    Calls Tryd.prog 11 #[.int .i64 (i : Int), .slice A hs.length cap] w fun e w' => ∃ v, e = .returned (.tuple #[v, .bool true]) ∧ w'.ownsRow w.heap.size 24 32 v (pathOf i hs).length (hcells (pathOf i hs)) ∧ Below w.heap.size w w' := by
  induction n with
  | zero => intro hs A cap i w h1 h2; omega
  | succ n ih =>
    intro hs A cap i w hn hlt hA hc hl
    have h0 : ¬ (i : Int) < 0 := by omega
    have h1 : ¬ (hs.length : Int) ≤ (i : Int) := by omega
    have h2 : decide (hs.length ≤ i) = false := by simp; omega
    go_enter Tryd.func11, Tryd.ntmps11
    by_cases h3 : hs.length = 1
    · have h4 : ((hs.length : Int) == 1) = true := by simp [h3]
      rw [pathOf_one i hs (by omega)]
      go_wp2_with fail
      go_ret2
      exact ⟨_, rfl, World.ownsRow_nil w _ _ _, Below.refl _ _⟩
    · have h4 : decide (hs.length = 1) = false := by simpa using h3
      go_wp2_with fail
      refine (dsplit_any (hs.length : Int) (by omega) _).mono ?_
      rintro e W ⟨rfl, hb⟩
      rw [Int.toNat_natCast]
      have hsp := spl_spec hs.length (by omega)
      have hsp0 := spl_pos hs.length (by omega)
      obtain ⟨k, hk'⟩ : ∃ k, k = spl hs.length := ⟨_, rfl⟩
      rw [← hk'] at hsp hsp0 ⊢
      have HK := Lib.hid hk'; clear hk'
      obtain ⟨b, o, rfl, _, _⟩ := hA (by rw [hcells_length]; omega)
      have hAW := hA.below hb
      have htk := hAW.htake k (by omega)
      have hdr := hAW.hdrop k (by omega)
      have htl : (hs.take k).length = k := by rw [List.length_take]; omega
      have hdl : (hs.drop k).length = hs.length - k := by rw [List.length_drop]
      have s1 := fun w => sl32_h b o hs.length cap k (by omega) w
      have s2 := fun w => sl32_l b o hs.length cap k (by omega) (by omega) w
      clear h0 h1
      by_cases hik : i < k
      · have hd : decide (i < k) = true := by simp; omega
        have hih := ih (hs.take k) (some ⟨b, o, none⟩) (cap) (i) W (by rw [htl]; omega) (by rw [htl]; omega) htk (by rw [htl]; omega) (by rw [htl]; omega)
        rw [htl] at hih

        have HIH := Lib.hid hih; clear hih
        go_wp2_with fail
        refine HIH.out.mono ?_
        rintro e W2 ⟨v, rfl, hown, hb2⟩
        have hb12 := below_tr hb hb2
        have hrt := drootn_any (hs.drop k).length (hs.drop k) (some ⟨b, o + 32 * k, none⟩) (cap - k) W2 (Nat.le_refl _) (hdr.below hb2) (by rw [hdl]; omega) (by rw [hdl]; omega)
        rw [hdl] at hrt
        have HRT := Lib.hid hrt; clear hrt
        go_wp2_with fail
        refine HRT.out.mono ?_
        rintro e W3 ⟨rfl, hb3⟩
        have hb13 := below_tr hb12 hb3
        have ho3 : W3.ownsRow w.heap.size 24 32 v (pathOf (i) (hs.take k)).length (hcells (pathOf (i) (hs.take k))) := ownsRow_low (ownsRow_via hown (fun g _ hl => hb3.block g hl)) (by have := hb.size; omega)
        obtain ⟨v5, W5, hr5, hown5, hg5⟩ := run_hash 26 W3 w.heap.size v (pathOf (i) (hs.take k)) (rootOf (hs.drop k)) ho3 hb13.size (by have := pathOf_length (hs.take k).length (i) (hs.take k) (Nat.le_refl _); have := turnsOf_short 20 (i) (hs.take k).length (by rw [htl]; omega); omega)
        have hbs := bsl_hash (rootOf (hs.drop k)) W3
        have hb15 : Below w.heap.size w W5 := hb13.trans (hid_below hb13.size ho3 hg5)
        have hpe : pathOf i hs = pathOf (i) (hs.take k) ++ [rootOf (hs.drop k)] := by
          rw [pathOf_left i hs (by omega) (by rw [← HK.out]; exact hik), ← HK.out]
        rw [← hpe] at hown5
        have HPE := Lib.hid hpe
        clear hpe hb hb2 hb12 hb3 hb13 ho3 hown hg5 htk hdr hAW HIH HRT
        obtain ⟨R, hR⟩ : ∃ R, R = rootOf (hs.drop k) := ⟨_, rfl⟩
        rw [← hR] at hr5 hbs ⊢
        clear hR
        go_wp2_with (first | (refine wpList_bsl_run (by kernel_rfl) 26 1 _ rfl #[(0, .agg (arr8 32 R))] (by kernel_rfl) _ _ hbs ?_) | (at_builtin; refine wpList_append_run_g (by kernel_rfl) _ _ _ _ rfl _ _ rfl rfl _ _ hr5 ?_))
        go_ret2
        exact ⟨v5, rfl, hown5, hb15⟩
      · have hd : decide (i < k) = false := by simp; omega
        have hih := ih (hs.drop k) (some ⟨b, o + 32 * k, none⟩) (cap - k) (i - k) W (by rw [hdl]; omega) (by rw [hdl]; omega) hdr (by rw [hdl]; omega) (by rw [hdl]; omega)
        rw [hdl] at hih
        rw [show ((i - k : Nat) : Int) = (i : Int) - (k : Int) by omega] at hih
        have HIH := Lib.hid hih; clear hih
        go_wp2_with fail
        refine HIH.out.mono ?_
        rintro e W2 ⟨v, rfl, hown, hb2⟩
        have hb12 := below_tr hb hb2
        have hrt := drootn_any (hs.take k).length (hs.take k) (some ⟨b, o, none⟩) (cap) W2 (Nat.le_refl _) (htk.below hb2) (by rw [htl]; omega) (by rw [htl]; omega)
        rw [htl] at hrt
        have HRT := Lib.hid hrt; clear hrt
        go_wp2_with fail
        refine HRT.out.mono ?_
        rintro e W3 ⟨rfl, hb3⟩
        have hb13 := below_tr hb12 hb3
        have ho3 : W3.ownsRow w.heap.size 24 32 v (pathOf (i - k) (hs.drop k)).length (hcells (pathOf (i - k) (hs.drop k))) := ownsRow_low (ownsRow_via hown (fun g _ hl => hb3.block g hl)) (by have := hb.size; omega)
        obtain ⟨v5, W5, hr5, hown5, hg5⟩ := run_hash 26 W3 w.heap.size v (pathOf (i - k) (hs.drop k)) (rootOf (hs.take k)) ho3 hb13.size (by have := pathOf_length (hs.drop k).length (i - k) (hs.drop k) (Nat.le_refl _); have := turnsOf_short 20 (i - k) (hs.drop k).length (by rw [hdl]; omega); omega)
        have hbs := bsl_hash (rootOf (hs.take k)) W3
        have hb15 : Below w.heap.size w W5 := hb13.trans (hid_below hb13.size ho3 hg5)
        have hpe : pathOf i hs = pathOf (i - k) (hs.drop k) ++ [rootOf (hs.take k)] := by
          rw [pathOf_right i hs (by omega) (by rw [← HK.out]; exact hik), ← HK.out]
        rw [← hpe] at hown5
        have HPE := Lib.hid hpe
        clear hpe hb hb2 hb12 hb3 hb13 ho3 hown hg5 htk hdr hAW HIH HRT
        obtain ⟨R, hR⟩ : ∃ R, R = rootOf (hs.take k) := ⟨_, rfl⟩
        rw [← hR] at hr5 hbs ⊢
        clear hR
        go_wp2_with (first | (refine wpList_bsl_run (by kernel_rfl) 26 1 _ rfl #[(0, .agg (arr8 32 R))] (by kernel_rfl) _ _ hbs ?_) | (at_builtin; refine wpList_append_run_g (by kernel_rfl) _ _ _ _ rfl _ _ rfl rfl _ _ hr5 ?_))
        go_ret2
        exact ⟨v5, rfl, hown5, hb15⟩

end Go.Proofs.YtihnpcoiadbpiaaDoor
