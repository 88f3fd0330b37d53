import Derived.Test.YtihnpcoiadbpiaaDoorPma
namespace Go.Proofs.YtihnpcoiadbpiaaDoor
open Go.RowKit

structure TuAt (w : World) (acc : List Bool) (v : Value) (wr : World) : Prop where
  own : wr.ownsRow w.heap.size 4 1 v acc.length (bools acc)
  bel : Below w.heap.size w wr
theorem TuAt.step {w wr W W' : World} {acc : List Bool} {b : Bool} {v v' : Value} (h : TuAt w acc v wr) (hb : Below wr.heap.size wr W) (hown : W'.ownsRow w.heap.size 4 1 v' (acc ++ [b]).length (bools (acc ++ [b]))) (hg : (W.alloc (.cells #[.bool b] 4)).grownBy W' v.ownBlock) : TuAt w (acc ++ [b]) v' W' := by
  have h1 : W.ownsRow w.heap.size 4 1 _ acc.length (bools acc) := ownsRow_via h.own (fun g _ hl => hb.block g hl)
  have hs : w.heap.size ≤ W.heap.size := Nat.le_trans h.bel.size hb.size
  exact ⟨hown, (h.bel.trans (hb.mono h.bel.size)).trans (hid_below hs h1 hg)⟩

set_option maxRecDepth 100000 in
set_option maxHeartbeats 1600000 in
theorem turns_any (i n : Nat) (h : i < n) (hn : n ≤ 1048576) (w : World) :
    Calls Tryd.prog 27 #[.int .i64 (i : Int), .int .i64 (n : Int)] w fun e w' => ∃ v, e = .returned v ∧ w'.ownsRow w.heap.size 4 1 v (turnsOf i n).length (bools (turnsOf i n)) ∧ Below w.heap.size w w' := by
  have hat : TuAt w [] (.slice none 0 0) w := ⟨World.ownsRow_nil w _ _ _, Below.refl _ _⟩
  have htl := turnsOf_short 20 i n hn
  obtain ⟨T, hT⟩ : ∃ T, T = turnsOf i n := ⟨_, rfl⟩
  rw [← hT] at htl ⊢
  have HT := Lib.hid hT; clear hT
  go_enter Tryd.func27, Tryd.ntmps27
  go_wp2_with fail
  go_loopw [0, 1, 5] (fun p q v wr => ∃ (i' n' : Nat) (acc : List Bool), p = .int .i64 i' ∧ q = .int .i64 n' ∧ i' < n' ∧ n' ≤ 1048576 ∧ Hid (T = turnsOf i' n' ++ acc.reverse) ∧ acc.length ≤ 20 ∧ TuAt w acc v wr) (fun _ q _ _ => (intOf q).toNat)
  case atStart => exact ⟨i, n, [], rfl, rfl, h, hn, Lib.hid (by rw [HT.out]; simp), by simp, hat⟩
  clear hat h hn HT
  case round =>
    obtain ⟨i', n', acc, rfl, rfl, hlt, hn', HQ, hal, hat⟩ := hrel
    by_cases h1 : (1 : Int) < (n' : Int)
    · go_wp2_with fail
      refine (split_any (n' : Int) (by omega) _).mono ?_
      rintro e W ⟨rfl, hb⟩
      rw [Int.toNat_natCast]
      have hsp := spl_spec n' (by omega)
      have hsp0 := spl_pos n' (by omega)
      obtain ⟨k, hk⟩ : ∃ k, k = spl n' := ⟨_, rfl⟩
      rw [← hk] at hsp hsp0 ⊢
      by_cases hik : i' < k
      · have hd : decide (k ≤ i') = false := by simp; omega
        have ho2 : W.ownsRow w.heap.size 4 1 _ acc.length (bools acc) := ownsRow_via hat.own (fun g _ hl => hb.block g hl)
        obtain ⟨v5, W5, hr5, hown5, hg5⟩ := run_bool 60 W w.heap.size _ acc false ho2 (Nat.le_trans hat.bel.size hb.size) (by omega)
        have hat5 := hat.step hb hown5 hg5
        have hbs := bsl_bool false W
        clear hat ho2 hown5 hg5 hb
        have HK := Lib.hid hk; clear hk
        go_wp2_with (first | (refine wpList_bsl_run (by kernel_rfl) 60 1 _ rfl #[(0, .bool false)] (by kernel_rfl) _ _ hbs ?_) | (at_builtin; refine wpList_append_run_g (by kernel_rfl) _ _ _ _ rfl _ _ rfl rfl _ _ hr5 ?_))
        go_roundw
        case rel =>
          refine ⟨i', k, acc ++ [false], rfl, rfl, hik, by omega, Lib.hid (by rw [HQ.out, turnsOf_left i' n' (by omega) (by rw [← HK.out]; exact hik), ← HK.out]; simp), ?_, hat5⟩
          have e := congrArg List.length HQ.out
          rw [turnsOf_left i' n' (by omega) (by rw [← HK.out]; exact hik)] at e
          simp at e ⊢; omega
        case measure => simp [intOf]; omega
      · have hd : decide (k ≤ i') = true := by simp; omega
        have ho2 : W.ownsRow w.heap.size 4 1 _ acc.length (bools acc) := ownsRow_via hat.own (fun g _ hl => hb.block g hl)
        obtain ⟨v5, W5, hr5, hown5, hg5⟩ := run_bool 60 W w.heap.size _ acc true ho2 (Nat.le_trans hat.bel.size hb.size) (by omega)
        have hat5 := hat.step hb hown5 hg5
        have hbs := bsl_bool true W
        clear hat ho2 hown5 hg5 hb
        have HK := Lib.hid hk; clear hk
        go_wp2_with (first | (refine wpList_bsl_run (by kernel_rfl) 60 1 _ rfl #[(0, .bool true)] (by kernel_rfl) _ _ hbs ?_) | (at_builtin; refine wpList_append_run_g (by kernel_rfl) _ _ _ _ rfl _ _ rfl rfl _ _ hr5 ?_))
        go_roundw
        case rel =>
          refine ⟨i' - k, n' - k, acc ++ [true], by go_num, by go_num, by omega, by omega, Lib.hid (by rw [HQ.out, turnsOf_right i' n' (by omega) (by rw [← HK.out]; exact hik), ← HK.out]; simp), ?_, hat5⟩
          have e := congrArg List.length HQ.out
          rw [turnsOf_right i' n' (by omega) (by rw [← HK.out]; exact hik)] at e
          simp at e ⊢; omega
        case measure => simp [intOf]; omega
    · have hn1 : n' ≤ 1 := by omega
      rw [turnsOf_one i' n' hn1] at HQ
      have HT : T = acc.reverse := by rw [HQ.out]; simp
      subst HT
      clear HQ
      go_wp2_with fail
      refine (rev_bool _ acc w.heap.size wr (by omega) hat.own).mono ?_
      rintro e W ⟨rfl, hown, hbw⟩
      have hbb := hat.bel.trans hbw
      clear hat hbw
      go_wp2_with fail
      go_ret
      exact ⟨_, rfl, hown, hbb⟩
end Go.Proofs.YtihnpcoiadbpiaaDoor
