import Derived.Test.YtplennobcbmccaaDoorBits
namespace Go.Proofs.YtplennobcbmccaaDoor
open Go.RowKit

theorem mod_step (s j n q : Nat) (hq : q = (s + j) % n) : ((q : Int) + 1) % (n : Int) = (((s + (j + 1)) % n : Nat) : Int) := by
  subst hq
  have : (((s + j) % n : Nat) : Int) + 1 = (((s + j) % n + 1 : Nat) : Int) := by omega
  rw [this, ← Int.natCast_emod]
  congr 1
  rw [Nat.mod_add_mod]; rfl

theorem IsMap.row_at {w : World} {b a : Nat} {l : List Bool} (h : IsMap w b a l) (k : Nat) (hk : k < l.length) (v v' : Bool) (hv : l.getD k v = v') (m : Nat) : 
    (w.drewN m).cell? ⟨a, k, none⟩ = some (.bool v') := by
  have := h.row.cell hk
  simp only [World.cell?_drewN]
  rw [this]
  have e : l.getD k false = v' := by rw [← hv]; simp [hk]
  rw [e]

def nextRel (l : List Bool) (w : World) (s d : Nat) (g : Nat) (i : Value) (wr : World) : Prop :=
  ∃ j q m, j + g = d + 1 ∧ j ≤ d ∧ q = (s + j) % l.length ∧ i = .int .i64 (q : Nat) ∧ wr = w.drewN m

set_option maxHeartbeats 800000 in
theorem next_at (b a : Nat) (l : List Bool) (s : Int) (d : Nat) (w : World) (h : IsMap w b a l) (ht : trues l < l.length) (hd : NextAt l s.toNat d)
    (hs : s ≤ 9223372036854775807) :
    Quiets Tryd.prog 15 #[.pointer (some ⟨b, 0, none⟩), .int .i64 s] w (.int .i64 ((s.toNat + d) % l.length : Nat)) := by
  unfold Quiets
  have h0 := h.h0
  have hl := h.hl
  have tne : ((trues l : Int) == (l.length : Int)) = false := by simp; omega
  have lne : ((l.length : Int) == 0) = false := by simp; intro h; rw [h] at ht; simp at ht
  have hlen : 0 < l.length := by omega
  have hcase : (∃ k : Nat, s = k) ∨ (s < 0 ∧ s.toNat = 0) := by
    rcases Int.lt_or_le s 0 with h | h
    · right; omega
    · left; exact ⟨s.toNat, by omega⟩
  rcases hcase with ⟨k, rfl⟩ | ⟨hneg, hs0⟩
  all_goals
    try (simp only [Int.toNat_natCast] at hd ⊢)
    try (rw [hs0] at hd ⊢; clear hs0)
    go_enter Tryd.func15, Tryd.ntmps15
    go_wp2_with (first | (go_at_call 10; refine Calls.mono (size_any b a l _ ?hh) ?_; (case hh => first | exact h | exact h.drewN _); rintro e w' ⟨rfl, m, rfl⟩) | (go_at_call 13; refine (count_any b a l _ h).mono ?_; rintro e w' ⟨rfl, m, rfl⟩))
  · go_loopg [5] (d + 1) (fun g i wr => nextRel l w k d g i wr)
    case atStart => exact ⟨0, k % l.length, _, by omega, by omega, by simp, by simp, rfl⟩
    case round =>
      obtain ⟨j, q, m', hg, hj, hq, rfl, rfl⟩ := hrel
      have hlt : q < l.length := by rw [hq]; exact Nat.mod_lt _ hlen
      by_cases hjd : j = d
      · have hc := h.row_at _ hlt true false (by rw [hq, hjd]; exact hd.no) m'
        have HJ := Lib.hid (show (q : Int) = (((k + d) % l.length : Nat) : Int) by rw [hq, hjd]); clear hjd hq
        go_wp2
        go_ret
        exact ⟨by rw [HJ.out]; rfl, _, rfl⟩
      · have hc := h.row_at _ hlt false true (by rw [hq]; exact hd.yes j (by omega)) m'
        have HS := Lib.hid (mod_step k j l.length q hq); clear hq
        have hgk : gk - 1 < gk := by omega
        go_wp2_with (first | (go_at_call 10; refine Calls.mono (size_any b a l _ ?hh) ?_; (case hh => first | exact h | exact h.drewN _); rintro e w' ⟨rfl, m, rfl⟩))
        go_roundg (gk - 1)
        case measure => exact hgk
        case rel => exact ⟨j + 1, (k + (j + 1)) % l.length, _, by omega, by omega, rfl, by rw [HS.out], rfl⟩
  · go_loopg [5] (d + 1) (fun g i wr => nextRel l w 0 d g i wr)
    case atStart => exact ⟨0, 0 % l.length, _, by omega, by omega, by simp, by simp, rfl⟩
    case round =>
      obtain ⟨j, q, m', hg, hj, hq, rfl, rfl⟩ := hrel
      have hlt : q < l.length := by rw [hq]; exact Nat.mod_lt _ hlen
      by_cases hjd : j = d
      · have hc := h.row_at _ hlt true false (by rw [hq, hjd]; exact hd.no) m'
        have HJ := Lib.hid (show (q : Int) = (((0 + d) % l.length : Nat) : Int) by rw [hq, hjd]); clear hjd hq
        go_wp2
        go_ret
        exact ⟨by rw [HJ.out]; rfl, _, rfl⟩
      · have hc := h.row_at _ hlt false true (by rw [hq]; exact hd.yes j (by omega)) m'
        have HS := Lib.hid (mod_step 0 j l.length q hq); clear hq
        have hgk : gk - 1 < gk := by omega
        go_wp2_with (first | (go_at_call 10; refine Calls.mono (size_any b a l _ ?hh) ?_; (case hh => first | exact h | exact h.drewN _); rintro e w' ⟨rfl, m, rfl⟩))
        go_roundg (gk - 1)
        case measure => exact hgk
        case rel => exact ⟨j + 1, (0 + (j + 1)) % l.length, _, by omega, by omega, rfl, by rw [HS.out], rfl⟩

set_option maxHeartbeats 400000 in
theorem next_full (b a : Nat) (l : List Bool) (s : Int) (w : World) (h : IsMap w b a l) (ht : trues l = l.length) :
    Quiets Tryd.prog 15 #[.pointer (some ⟨b, 0, none⟩), .int .i64 s] w (.int .i64 (-1)) := by
  unfold Quiets
  have tne : ((trues l : Int) == (l.length : Int)) = true := by simp; omega
  clear ht
  go_enter Tryd.func15, Tryd.ntmps15
  go_wp2_with (first | (go_at_call 10; refine Calls.mono (size_any b a l _ ?hh) ?_; (case hh => first | exact h | exact h.drewN _); rintro e w' ⟨rfl, m, rfl⟩) | (go_at_call 13; refine (count_any b a l _ h).mono ?_; rintro e w' ⟨rfl, m, rfl⟩))
  go_ret
  exact ⟨rfl, _, rfl⟩

/-- how many from the first on are there -/
def front (l : List Bool) : Nat := (l.takeWhile id).length
theorem front_le (l : List Bool) : front l ≤ l.length := by unfold front; exact (List.takeWhile_sublist _).length_le
theorem front_yes (l : List Bool) (j : Nat) (h : j < front l) : l.getD j false = true := by
  unfold front at h
  induction l generalizing j with
  | nil => simp at h
  | cons x l ih =>
    cases x with
    | false => simp at h
    | true =>
      cases j with
      | zero => simp
      | succ j => simp at h; simpa using ih j h
theorem front_no (l : List Bool) (h : front l < l.length) : l.getD (front l) true = false := by
  unfold front at *
  induction l with
  | nil => simp at h
  | cons x l ih =>
    cases x with
    | false => simp
    | true => simp at h; simpa using ih h

set_option maxHeartbeats 800000 in
theorem front_any (b a : Nat) (l : List Bool) (w : World) (h : IsMap w b a l) :
    Quiets Tryd.prog 17 #[.pointer (some ⟨b, 0, none⟩)] w (.int .i64 (front l : Nat)) := by
  unfold Quiets
  have h0 := h.h0
  have hl := h.hl
  have hf := front_le l
  go_enter Tryd.func17, Tryd.ntmps17
  go_wp2
  go_loop [10] (fun i => ∃ k : Nat, k ≤ front l ∧ i = .int .i64 k) (fun i => l.length - (intOf i).toNat)
  case atStart => exact ⟨0, by omega, rfl⟩
  case round =>
    obtain ⟨k, hk, rfl⟩ := hrel
    by_cases hlt : k < l.length
    · by_cases hkf : k = front l
      · have hc := h.row_at k hlt true false (by rw [hkf]; exact front_no l (by omega)) 0
        simp only [World.cell?_drewN] at hc
        have HJ := Lib.hid hkf; clear hkf
        go_wp2
        go_ret
        exact ⟨by rw [HJ.out]; rfl, 0, rfl⟩
      · have hc := h.row_at k hlt false true (front_yes l k (by omega)) 0
        simp only [World.cell?_drewN] at hc
        go_wp2
        go_round
        case rel => exact ⟨k + 1, by omega, by go_num⟩
        case measure => simp [intOf]; omega
    · have hkf : front l = l.length := by omega
      have HJ := Lib.hid hkf; clear hkf
      go_wp2_with (first | (go_at_call 10; refine Calls.mono (size_any b a l _ ?hh) ?_; (case hh => first | exact h | exact h.drewN _); rintro e w' ⟨rfl, m, rfl⟩))
      go_ret
      exact ⟨by rw [HJ.out]; rfl, _, rfl⟩
end Go.Proofs.YtplennobcbmccaaDoor
