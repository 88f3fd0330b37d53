import Derived.Test.YtihnpcoiadbpiaaDoorPtu
namespace Go.Proofs.YtihnpcoiadbpiaaDoor
open Go.RowKit

def lenOf : Value → Nat
  | .slice _ n _ => n
  | _ => 0
structure PaAt (w : World) (acc : List (Nat → BitVec 8)) (v : Value) (wr : World) : Prop where
  own : wr.ownsRow w.heap.size 24 32 v acc.length (hcells acc)
  bel : Below w.heap.size w wr
theorem PaAt.step {w wr W W' : World} {acc : List (Nat → BitVec 8)} {f : Nat → BitVec 8} {v v' : Value} (h : PaAt w acc v wr) (hb : Below wr.heap.size wr W) (hown : W'.ownsRow w.heap.size 24 32 v' (acc ++ [f]).length (hcells (acc ++ [f]))) (hg : (W.alloc (.cells (arr8 32 f) 24)).grownBy W' v.ownBlock) : PaAt w (acc ++ [f]) v' W' := by
  have h1 : W.ownsRow w.heap.size 24 32 v acc.length (hcells acc) := ownsRow_via h.own (fun g _ hl => hb.block g hl)
  have hs : w.heap.size ≤ W.heap.size := Nat.le_trans h.bel.size hb.size
  exact ⟨hown, (h.bel.trans (hb.mono h.bel.size)).trans (hid_below hs h1 hg)⟩

/-- a row of the caller's stays, whatever the call made of its own -/
theorem SlRead.base {w w' : World} {A : Option Addr} {xs : List Value} {B : Nat} (h : SlRead w A xs) (hb : Below B w w') (hA : ∀ b o, A = some ⟨b, o, none⟩ → 0 < xs.length → b < B) : SlRead w' A xs := by
  intro hn
  obtain ⟨b, o, e, hlt, hc⟩ := h hn
  have := hA b o e hn
  exact ⟨b, o, e, Nat.lt_of_lt_of_le hlt hb.size, fun q u hu => (hb.cell (p := ⟨b, o + q, none⟩) (by simpa using this)).trans (hc q u hu)⟩

set_option maxRecDepth 100000 in
set_option maxHeartbeats 1600000 in
theorem path_bad (E : Nat → Addr) (i : Int) (hs : List (Nat → BitVec 8)) (A : Option Addr) (cap : Nat) (w : World) (hE : ErrsAt E w) (hi : i < 0 ∨ (hs.length : Int) ≤ i) :
    Calls Tryd.prog 10 #[.int .i64 i, .slice A hs.length cap] w fun e w' => e = .returned (.tuple #[.slice none 0 0, errV (E 1)]) ∧ Below w.heap.size w w' := by
  have c1 : w.cell? ⟨0, 0, none⟩ = some (errV (E 1)) := hE.c 1 (by decide)
  go_enter Tryd.func10, Tryd.ntmps10
  by_cases h0 : i < 0
  · go_wp2_with fail
    go_quiet (fail)
    go_wp2_with fail
    go_ret2
    exact ⟨rfl, Below.drewNr _⟩
  · have h1 : (hs.length : Int) ≤ i := by omega
    go_wp2_with fail
    go_quiet (fail)
    go_wp2_with fail
    go_ret2
    exact ⟨rfl, Below.drewNr _⟩

set_option maxRecDepth 100000 in
set_option maxHeartbeats 1600000 in
theorem path_any (i : Nat) (hs : List (Nat → BitVec 8)) (A : Option Addr) (cap : Nat) (w : World) (hA : SlRead w A (hcells hs)) (hc : hs.length ≤ cap) (hlt : i < hs.length) (hl : hs.length ≤ 1048576) (hk : KAt w) :
    Calls Tryd.prog 10 #[.int .i64 (i : Int), .slice A hs.length cap] w fun e w' => ∃ v, e = .returned (.tuple #[v, .nilIface]) ∧ w'.ownsRow w.heap.size 24 32 v (pathOf i hs).length (hcells (pathOf i hs)) ∧ Below w.heap.size w w' := by
  have hat : PaAt w [] (.slice none 0 0) w := ⟨World.ownsRow_nil w _ _ _, Below.refl _ _⟩
  have htl := turnsOf_short 20 i hs.length (by omega)
  rw [← pathOf_length hs.length i hs (Nat.le_refl _)] at htl
  obtain ⟨T, hT⟩ : ∃ T, T = pathOf i hs := ⟨_, rfl⟩
  rw [← hT] at htl ⊢
  have HT := Lib.hid hT; clear hT
  have h0 : ¬ (i : Int) < 0 := by omega
  have h1 : ¬ (hs.length : Int) ≤ (i : Int) := by omega
  have h2 : decide (hs.length ≤ i) = false := by simp; omega
  go_enter Tryd.func10, Tryd.ntmps10
  go_wp2_with fail
  go_loopw [0, 1, 6] (fun p q v wr => ∃ (i' b o c' : Nat) (hs' acc : List (Nat → BitVec 8)), p = .int .i64 i' ∧ q = .slice (some ⟨b, o, none⟩) hs'.length c' ∧ i' < hs'.length ∧ hs'.length ≤ c' ∧ hs'.length ≤ 1048576 ∧ Hid (T = pathOf i' hs' ++ acc.reverse) ∧ acc.length ≤ 20 ∧ SlRead w (some ⟨b, o, none⟩) (hcells hs') ∧ PaAt w acc v wr) (fun _ q _ _ => lenOf q)
  case atStart =>
    obtain ⟨b, o, rfl, _, _⟩ := hA (by rw [hcells_length]; omega)
    exact ⟨i, b, o, cap, hs, [], rfl, rfl, hlt, hc, hl, Lib.hid (by rw [HT.out]; simp), by simp, hA, hat⟩
  clear hat hlt hl hc hA HT h0 h1 h2
  case round =>
    obtain ⟨i', b, o, c', hs', acc, rfl, rfl, hlt, hc, hl, HQ, hal, hA, hat⟩ := hrel
    by_cases h1 : (1 : Int) < (hs'.length : Int)
    · go_wp2_with fail
      refine (split_any (hs'.length : Int) (by omega) _).mono ?_
      rintro e W ⟨rfl, hb⟩
      rw [Int.toNat_natCast]
      have hsp := spl_spec hs'.length (by omega)
      have hsp0 := spl_pos hs'.length (by omega)
      obtain ⟨k, hk'⟩ : ∃ k, k = spl hs'.length := ⟨_, rfl⟩
      rw [← hk'] at hsp hsp0 ⊢
      have HK := Lib.hid hk'; clear hk'
      have hAW := (hA.below hat.bel).below hb
      have hkW := (hk.below hat.bel).below hb
      have HA := Lib.hid hA; clear hA
      have htk := hAW.htake k (by omega)
      have hdr := hAW.hdrop k (by omega)
      have htl' : (hs'.take k).length = k := by rw [List.length_take]; omega
      have hdl : (hs'.drop k).length = hs'.length - k := by rw [List.length_drop]
      have s1 := fun w => sl32_h b o hs'.length c' k (by omega) w
      have s2 := fun w => sl32_l b o hs'.length c' k (by omega) (by omega) w
      by_cases hik : i' < k
      · have hd : decide (k ≤ i') = false := by simp; omega
        have hrt := fun w' (hb' : Below W.heap.size W w') => root_any (hs'.drop k).length (hs'.drop k) (some ⟨b, o + 32 * k, none⟩) (c' - k) w' (Nat.le_refl _) (hdr.below hb') (by rw [hdl]; omega) (by rw [hdl]; omega) (hkW.below hb')
        rw [hdl] at hrt
        have HRT := Lib.hid hrt; clear hrt
        go_wp2_with fail
        go_quiet (fail)
        go_wp2_with fail
        refine (HRT.out _ (Below.drewNr _)).mono ?_
        rintro e W2 ⟨rfl, hb2⟩
        have hb12 := below_tr (below_tr hb (Below.drewNr _)) hb2
        have ho2 : W2.ownsRow w.heap.size 24 32 _ acc.length (hcells acc) := ownsRow_via hat.own (fun g _ hl => hb12.block g hl)
        obtain ⟨v5, W5, hr5, hown5, hg5⟩ := run_hash 26 W2 w.heap.size _ acc (rootOf (hs'.drop k)) ho2 (Nat.le_trans hat.bel.size hb12.size) (by omega)
        have hat5 := hat.step hb12 hown5 hg5
        have hbs := bsl_hash (rootOf (hs'.drop k)) W2
        have HRD := Lib.hid (p := SlRead w (some ⟨b, o, none⟩) (hcells (hs'.take k))) (HA.out.htake k (by omega))
        clear hat ho2 hown5 hg5 hb hb2 hb12 htk hdr hAW hkW s1 s2 HRT
        have hpe : Hid (T = pathOf (i') (hs'.take k) ++ (acc ++ [rootOf (hs'.drop k)]).reverse) := by
          rw [HQ.out, pathOf_left i' hs' (by omega) (by rw [← HK.out]; exact hik), ← HK.out]
          exact Lib.hid (by simp)
        have hal5 : (acc ++ [rootOf (hs'.drop k)]).length ≤ 20 := by
          have e := congrArg List.length hpe.out
          rw [List.length_append, List.length_reverse] at e
          omega
        generalize rootOf (hs'.drop k) = R at *
        go_wp2_with (first | (refine wpList_bsl_run (by kernel_rfl) 26 1 _ rfl #[(0, .agg (arr8 32 R))] (by kernel_rfl) _ _ hbs ?_) | (at_builtin; refine wpList_append_run_g (by kernel_rfl) _ _ _ _ rfl _ _ rfl rfl _ _ hr5 ?_))
        go_roundw
        case rel => exact ⟨i', _, _, c', hs'.take k, acc ++ [R], by go_num, by rw [htl'], by rw [htl']; omega, by rw [htl']; omega, by rw [htl']; omega, hpe, hal5, HRD.out, hat5⟩
        case measure => simp [lenOf]; omega
      · have hd : decide (k ≤ i') = true := by simp; omega
        have hrt := fun w' (hb' : Below W.heap.size W w') => root_any (hs'.take k).length (hs'.take k) (some ⟨b, o, none⟩) (c') w' (Nat.le_refl _) (htk.below hb') (by rw [htl']; omega) (by rw [htl']; omega) (hkW.below hb')
        rw [htl'] at hrt
        have HRT := Lib.hid hrt; clear hrt
        go_wp2_with fail
        go_quiet (fail)
        go_wp2_with fail
        refine (HRT.out _ (Below.drewNr _)).mono ?_
        rintro e W2 ⟨rfl, hb2⟩
        have hb12 := below_tr (below_tr hb (Below.drewNr _)) hb2
        have ho2 : W2.ownsRow w.heap.size 24 32 _ acc.length (hcells acc) := ownsRow_via hat.own (fun g _ hl => hb12.block g hl)
        obtain ⟨v5, W5, hr5, hown5, hg5⟩ := run_hash 26 W2 w.heap.size _ acc (rootOf (hs'.take k)) ho2 (Nat.le_trans hat.bel.size hb12.size) (by omega)
        have hat5 := hat.step hb12 hown5 hg5
        have hbs := bsl_hash (rootOf (hs'.take k)) W2
        have HRD := Lib.hid (p := SlRead w (some ⟨b, o + 32 * k, none⟩) (hcells (hs'.drop k))) (HA.out.hdrop k (by omega))
        clear hat ho2 hown5 hg5 hb hb2 hb12 htk hdr hAW hkW s1 s2 HRT
        have hpe : Hid (T = pathOf (i' - k) (hs'.drop k) ++ (acc ++ [rootOf (hs'.take k)]).reverse) := by
          rw [HQ.out, pathOf_right i' hs' (by omega) (by rw [← HK.out]; exact hik), ← HK.out]
          exact Lib.hid (by simp)
        have hal5 : (acc ++ [rootOf (hs'.take k)]).length ≤ 20 := by
          have e := congrArg List.length hpe.out
          rw [List.length_append, List.length_reverse] at e
          omega
        generalize rootOf (hs'.take k) = R at *
        go_wp2_with (first | (refine wpList_bsl_run (by kernel_rfl) 26 1 _ rfl #[(0, .agg (arr8 32 R))] (by kernel_rfl) _ _ hbs ?_) | (at_builtin; refine wpList_append_run_g (by kernel_rfl) _ _ _ _ rfl _ _ rfl rfl _ _ hr5 ?_))
        go_roundw
        case rel => exact ⟨i' - k, _, _, c' - k, hs'.drop k, acc ++ [R], by go_num, by rw [hdl], by rw [hdl]; omega, by rw [hdl]; omega, by rw [hdl]; omega, hpe, hal5, HRD.out, hat5⟩
        case measure => simp [lenOf]; omega
    · have hn1 : hs'.length ≤ 1 := by omega
      rw [pathOf_one i' hs' hn1] at HQ
      have HT : T = acc.reverse := by rw [HQ.out]; simp
      subst HT
      clear HQ hA
      go_wp2_with fail
      refine (rev_hash _ acc w.heap.size wr (by omega) hat.own).mono ?_
      rintro e W ⟨rfl, hown, hbw⟩
      have hbb := hat.bel.trans hbw
      clear hat hbw
      go_wp2_with fail
      go_ret2
      exact ⟨_, rfl, hown, hbb⟩
end Go.Proofs.YtihnpcoiadbpiaaDoor
