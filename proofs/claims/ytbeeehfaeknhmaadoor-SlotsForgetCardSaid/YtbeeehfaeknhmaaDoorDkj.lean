import Derived.Test.YtbeeehfaeknhmaaDoorDki
/-
  disk: Sync.
-/
namespace Go.Proofs.YtbeeehfaeknhmaaDoor
open Go.RowKit

def Sec.sync (s : Sec) : Sec := ⟨s.top, [], s.top_len, by simp⟩
theorem Sec.sync_none (s : Sec) (h : s.pend.length = 0) : s.sync = s := by
  obtain ⟨d, p, hd, hp⟩ := s
  have : p = [] := List.length_eq_zero_iff.1 h
  subst this
  rfl
def syncTo (ss : List Sec) (k : Nat) : List Sec := (ss.take k).map Sec.sync ++ ss.drop k
theorem syncTo_len (ss : List Sec) (k : Nat) (h : k ≤ ss.length) : (syncTo ss k).length = ss.length := by simp [syncTo]; omega
theorem syncTo_get (ss : List Sec) (k : Nat) (h : k < ss.length) : (syncTo ss k)[k]? = ss[k]? := by
  unfold syncTo
  rw [List.getElem?_append_right (by simp; omega)]
  simp only [List.length_map, List.length_take, Nat.min_eq_left (Nat.le_of_lt h), Nat.sub_self, List.getElem?_drop, Nat.add_zero]
theorem syncTo_set (ss : List Sec) (k : Nat) (s : Sec) (hs : ss[k]? = some s) : (syncTo ss k).set k s.sync = syncTo ss (k + 1) := by
  have h := (List.getElem?_eq_some_iff.1 hs).1
  have e := (List.getElem?_eq_some_iff.1 hs).2
  unfold syncTo
  rw [List.set_append_right _ _ (by simp; omega)]
  simp only [List.length_map, List.length_take, Nat.min_eq_left (Nat.le_of_lt h), Nat.sub_self]
  rw [List.drop_eq_getElem_cons h, List.set_cons_zero, List.take_succ_eq_append_getElem h, List.map_append, List.append_assoc, e]
  rfl
theorem syncTo_all (ss : List Sec) : syncTo ss ss.length = ss.map Sec.sync := by simp [syncTo]
theorem syncTo_zero (ss : List Sec) : syncTo ss 0 = ss := by simp [syncTo]
/-- rows as they were, or none -/
def Less (pv pv' : Nat → Value) : Prop := ∀ j q, (pv' j).ownBlock = some q → (pv j).ownBlock = some q
section
variable {w : World} {n D R : Nat} {ss : List Sec} {off : Bool} {fuse : Int} {pv : Nat → Value}
set_option maxRecDepth 100000 in
set_option maxHeartbeats 800000 in
theorem sync_off (E : Nat → Addr) (hE : ErrD E w) (h : DkS w n D R ss true fuse pv) : Calls Tryd.prog 33 #[.pointer (some ⟨D, 0, none⟩)] w fun e w' => e = .returned (errV (E 0)) ∧ Below w.heap.size w w' := by
  have hc := h.offc
  have he : w.cell? ⟨2, 0, none⟩ = some (errV (E 0)) := hE.c 0 (by decide)
  have hb := Below.refl w.heap.size w
  clear h hE
  go_enter Tryd.func33, Tryd.ntmps33
  go_wp2_with fail
  go_ret
  exact ⟨rfl, hb⟩
set_option maxRecDepth 100000 in
set_option maxHeartbeats 1600000 in
theorem sync_ok (E : Nat → Addr) (hE : ErrD E w) (h : DkS w n D R ss false fuse pv) (hf : fuse ≠ 0) : Calls Tryd.prog 33 #[.pointer (some ⟨D, 0, none⟩)] w fun e w' =>
    e = .returned .nilIface ∧ ∃ pv', DkS w' n D R (ss.map Sec.sync) false (drawF fuse) pv' ∧ Turn (fun k => k = D ∨ k = R) w w' ∧ Less pv pv' := by
  have hc := h.offc
  have hdr := draw_any E hE h
  rw [show drawV E fuse = .nilIface from if_neg hf, show drawO false fuse = false by unfold drawO; rw [decide_eq_false hf]; rfl] at hdr
  have hlen := h.len
  generalize drawF fuse = fz at hdr ⊢
  clear h hE hf
  go_enter Tryd.func33, Tryd.ntmps33
  go_upto_region 6 with (go_at_call 55; refine hdr.mono ?_; rintro e wd ⟨rfl, hd, ht⟩)
  have hhd := hd.hdr
  have HD := Lib.hid hd
  have HT := Lib.hid ht
  clear hd ht
  go_wp2_with fail
  go_loopw [21] (fun i wr => ∃ (k : Nat) (pv' : Nat → Value), i = .int .i64 (k : Int) ∧ k ≤ ss.length ∧ DkS wr n D R (syncTo ss k) false fz pv' ∧ Turn (· = R) wd wr ∧ Less pv pv') (fun i _ => ss.length - (intOf i).toNat)
  case atStart => exact ⟨0, pv, rfl, by omega, by rw [syncTo_zero]; exact HD.out, Turn.of_below (Below.refl _ _), fun _ _ h => h⟩
  case round =>
    obtain ⟨k, pv', rfl, hk, hd, ht, hl⟩ := hrel
    by_cases hlt : k < ss.length
    · have hlt' : decide (k < ss.length) = true := by simpa using hlt
      obtain ⟨s, hs⟩ : ∃ s, ss[k]? = some s := ⟨_, List.getElem?_eq_getElem hlt⟩
      have hs' : (syncTo ss k)[k]? = some s := (syncTo_get ss k hlt).trans hs
      obtain ⟨A, c, hv⟩ := own_shapeC (hd.own k s hs')
      have hp := hd.pnd k s hs'
      rw [hv] at hp
      have hh := hd.hdr
      rw [syncTo_len _ _ hk] at hh
      have hx := idx_S R ss.length ss.length k hlt
      have h1 := agg_secs
      have h2 := agg_pend
      have hk4 : k < 400 := by omega
      have HTr := Lib.hid ht
      have HL := Lib.hid hl
      have HLN := Lib.hid hlen
      have HS := Lib.hid hs
      by_cases h0 : s.pend.length = 0
      · rw [h0] at hp
        have HN : Hid (DkS wr n D R (syncTo ss (k + 1)) false fz pv') := by
          rw [← syncTo_set ss k s hs, s.sync_none h0]
          have e := (List.getElem?_eq_some_iff.1 hs').2
          rw [← e, List.set_getElem_self]
          exact hd
        clear hd hv hs hs' h0 ht hl hlen
        go_wp2_with fail
        go_roundw
        case rel => exact ⟨k + 1, pv', by go_num, by omega, HN.out, HTr.out, HL.out⟩
        case measure => simp [intOf]; omega
      · have hpos : 0 < s.pend.length := by omega
        have hla := last_any hd k s hs'
        have hst := fun w1 (h1 : DkS w1 n D R (syncTo ss k) false fz pv') => settle_any h1 k s hs' s.top s.top_len
        rw [show (⟨s.top, [], s.top_len, by simp⟩ : Sec) = s.sync from rfl, syncTo_set ss k s hs] at hst
        have HD0 := Lib.hid hd
        clear hd hv hs hs' h0 ht hl hlen
        generalize s.pend.length = m at hp hpos
        go_wp2_with (first | (go_at_call 56; refine hla.mono ?_; rintro e w1 ⟨rfl, hb1⟩; have HB1 := Lib.hid hb1; clear hb1) | (go_at_call 48; refine (hst _ (HD0.out.below HB1.out)).mono ?_; rintro e w2 ⟨rfl, hd2, ht2⟩; have HD2 := Lib.hid hd2; have HT2 := Lib.hid ht2; clear hd2 ht2))
        go_roundw
        case rel => exact ⟨k + 1, _, by go_num, by omega, HD2.out, HTr.out.trans ((Turn.of_below HB1.out : Turn (· = R) wr w1).trans HT2.out (fun q hq => .inl hq)) (fun q hq => .inl hq), fun j q hq => by
          unfold pvSet at hq
          split at hq
          · cases hq
          · exact HL.out j q hq⟩
        case measure => simp [intOf]; omega
    · have hk' : k = ss.length := by omega
      subst hk'
      rw [syncTo_all] at hd
      have HD1 := Lib.hid hd
      clear hd
      go_wp2_with fail
      go_ret
      exact ⟨rfl, pv', HD1.out, (HT.out.mono (fun q hq => .inl hq) : Turn (fun k => k = D ∨ k = R) w wd).trans ht (fun q hq => .inl (.inr hq)), hl⟩
end
end Go.Proofs.YtbeeehfaeknhmaaDoor
