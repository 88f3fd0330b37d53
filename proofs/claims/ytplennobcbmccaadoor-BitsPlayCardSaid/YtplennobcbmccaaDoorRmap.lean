import Derived.Test.YtplennobcbmccaaDoorBits3
import Derived.Test.YtplennobcbmccaaDoorByt
namespace Go.Proofs.YtplennobcbmccaaDoor
open Go.RowKit

/-- the document's map of bits in memory -/
structure IsRMap (w : World) (b a : Nat) (l : List Bool) : Prop where
  st : w.rowIs b 32 1 (fun _ => .slice (some ⟨a, 0, none⟩) l.length l.length)
  row : w.rowIs a 4 l.length (fun i => .bool (l.getD i false))
  ne : a ≠ b
  hl : l.length ≤ 1000

namespace IsRMap
variable {w : World} {b a : Nat} {l : List Bool}
theorem h0 (h : IsRMap w b a l) : w.cell? ⟨b, 0, none⟩ = some (.slice (some ⟨a, 0, none⟩) l.length l.length) := h.st.cell (by omega)
theorem drewN (h : IsRMap w b a l) (n : Nat) : IsRMap (w.drewN n) b a l := ⟨h.st, h.row, h.ne, h.hl⟩
theorem below {w' : World} {B : Nat} (h : IsRMap w b a l) (hb : Below B w w') (ha : a < B) (hbb : b < B) : IsRMap w' b a l :=
  ⟨h.st.of_block (hb.block _ hbb), h.row.of_block (hb.block _ ha), h.ne, h.hl⟩
theorem below' {w' : World} (h : IsRMap w b a l) (hb : Below w.heap.size w w') : IsRMap w' b a l := h.below hb h.row.lt h.st.lt
theorem set (h : IsRMap w b a l) (k : Nat) (hk : k < l.length) : IsRMap (w.setCell ⟨a, k, none⟩ (.bool true)) b a (l.set k true) := by
  refine ⟨?_, ?_, h.ne, by simpa using h.hl⟩
  · simpa using h.st.setOther (a := ⟨a, k, none⟩) (fun e => h.ne e.symm) (.bool true)
  · have := (h.row.set k (.bool true)).congr (g := fun i => .bool ((l.set k true).getD i false)) fun i hi => ?_
    · simpa using this
    · by_cases e : i = k
      · subst e; simp [hk]
      · simp [e, Ne.symm e]
theorem row_at (h : IsRMap w b a l) (k : Nat) (hk : k < l.length) (v v' : Bool) (hv : l.getD k v = v') (m : Nat) : 
    (w.drewN m).cell? ⟨a, k, none⟩ = some (.bool v') := by
  have := h.row.cell hk
  simp only [World.cell?_drewN]
  rw [this]
  have e : l.getD k false = v' := by rw [← hv]; simp [hk]
  rw [e]
end IsRMap

set_option maxHeartbeats 400000 in
theorem rhas_any (b a : Nat) (l : List Bool) (i : Int) (w : World) (h : IsRMap w b a l) :
    Quiets Tryd.prog 20 #[.pointer (some ⟨b, 0, none⟩), .int .i64 i] w (.bool (decide (0 ≤ i) && l.getD i.toNat false)) := by
  unfold Quiets
  have h0 := h.h0
  by_cases hi : 0 ≤ i
  · obtain ⟨k, rfl⟩ := Int.eq_ofNat_of_zero_le hi
    have hl := h.hl
    by_cases hk : k < l.length
    · have hc := h.row.cell hk
      go_enter Tryd.func20, Tryd.ntmps20
      go_wp2
      go_ret
      exact ⟨by simp [hk], 0, rfl⟩
    · have hk2 : l.length ≤ k := by omega
      go_enter Tryd.func20, Tryd.ntmps20
      go_wp2
      go_ret
      exact ⟨by simp [hk2], 0, rfl⟩
  · go_enter Tryd.func20, Tryd.ntmps20
    go_wp2
    go_ret
    exact ⟨by simp; omega, 0, rfl⟩

set_option maxHeartbeats 400000 in
theorem rset_no (b a : Nat) (l : List Bool) (i : Int) (w : World) (h : IsRMap w b a l) (hv : ¬ Could l i) :
    Quiets Tryd.prog 12 #[.pointer (some ⟨b, 0, none⟩), .int .i64 i] w (.bool false) := by
  unfold Quiets
  have h0 := h.h0
  by_cases hi : 0 ≤ i
  · obtain ⟨k, rfl⟩ := Int.eq_ofNat_of_zero_le hi
    have hl := h.hl
    by_cases hk : k < l.length
    · have hc := h.row.cell hk
      have e : l.getD k false = true := by
        cases hh : l.getD k false
        · exact absurd ⟨hi, by omega, by simpa using hh⟩ hv
        · rfl
      rw [e] at hc
      clear e hv
      go_enter Tryd.func12, Tryd.ntmps12
      go_wp2
      go_ret
      exact ⟨rfl, 0, rfl⟩
    · have hk2 : l.length ≤ k := by omega
      clear hv
      go_enter Tryd.func12, Tryd.ntmps12
      go_wp2
      go_ret
      exact ⟨rfl, 0, rfl⟩
  · clear hv
    have hi2 : i < 0 := by omega
    go_enter Tryd.func12, Tryd.ntmps12
    go_wp2
    go_ret
    exact ⟨rfl, 0, rfl⟩

set_option maxHeartbeats 400000 in
theorem rset_yes (b a : Nat) (l : List Bool) (k : Nat) (w : World) (h : IsRMap w b a l) (hk : k < l.length) (hf : l.getD k false = false) :
    Calls Tryd.prog 12 #[.pointer (some ⟨b, 0, none⟩), .int .i64 k] w fun e w' => e = .returned (.bool true) ∧ w' = w.setCell ⟨a, k, none⟩ (.bool true) := by
  have h0 := h.h0
  have fk := h.row.frozen k
  have hl := h.hl
  have hc := h.row.cell hk
  rw [hf] at hc
  go_enter Tryd.func12, Tryd.ntmps12
  go_wp2
  go_ret
  exact ⟨rfl, rfl⟩

def RSetPost (w : World) (b a : Nat) (l : List Bool) (i : Int) (e : Ending) (w' : World) : Prop :=
  e = .returned (.bool (decide (Could l i))) ∧ IsRMap w' b a (if Could l i then l.set i.toNat true else l) ∧ ∀ B, B ≤ a → B ≤ b → Below B w w'

theorem rset_any (b a : Nat) (l : List Bool) (i : Int) (w : World) (h : IsRMap w b a l) :
    Calls Tryd.prog 12 #[.pointer (some ⟨b, 0, none⟩), .int .i64 i] w (RSetPost w b a l i) := by
  by_cases hc : Could l i
  · obtain ⟨h1, h2, h3⟩ := id hc
    obtain ⟨k, rfl⟩ := Int.eq_ofNat_of_zero_le h1
    refine (rset_yes b a l k w h (by omega) (by simpa using h3)).mono ?_
    rintro e w' ⟨rfl, rfl⟩
    refine ⟨by simp [hc], ?_, fun B hBa hBb => ?_⟩
    · rw [if_pos hc]
      exact h.set k (by omega)
    · exact (Below.refl _ _).setCell hBa _
  · refine (rset_no b a l i w h hc).mono ?_
    rintro e w' ⟨rfl, m, rfl⟩
    refine ⟨by simp [hc], ?_, fun B _ _ => Below.drewNr m⟩
    rw [if_neg hc]
    exact h.drewN m

theorem trues_take (l : List Bool) (k : Nat) (hk : k < l.length) : trues (l.take (k + 1)) = trues (l.take k) + (if l.getD k false = true then 1 else 0) := by
  unfold trues
  rw [List.take_add_one, List.countP_append]
  simp [hk, List.countP_cons]

set_option maxHeartbeats 800000 in
theorem rcount_any (b a : Nat) (l : List Bool) (w : World) (h : IsRMap w b a l) : Quiets Tryd.prog 14 #[.pointer (some ⟨b, 0, none⟩)] w (.int .i64 (trues l : Nat)) := by
  unfold Quiets
  have h0 := h.h0
  have hl := h.hl
  go_enter Tryd.func14, Tryd.ntmps14
  go_wp2
  go_loop [3, 4] (fun n i => ∃ k c : Nat, k ≤ l.length ∧ i = .int .i64 k ∧ n = .int .i64 c ∧ c = trues (l.take k)) (fun _ i => l.length - (intOf i).toNat)
  case atStart => exact ⟨0, 0, by omega, rfl, rfl, by simp [trues]⟩
  case round =>
    obtain ⟨k, c, hk, rfl, rfl, hc⟩ := hrel
    have hc1000 : c ≤ 1000 := by rw [hc]; have := trues_le (l.take k); simp at this; omega
    by_cases hlt : k < l.length
    · have ht := trues_take l k hlt
      rw [← hc] at ht
      clear hc
      by_cases hv : l.getD k false = true
      · have hcell := h.row_at k hlt false true hv 0
        simp only [World.cell?_drewN] at hcell
        rw [if_pos hv] at ht
        have HT := Lib.hid ht; clear ht hv
        go_wp2
        go_round
        case rel => exact ⟨k + 1, c + 1, by omega, by go_num, by go_num, HT.out.symm⟩
        case measure => simp [intOf]; omega
      · have hcell := h.row_at k hlt false false (by simpa using hv) 0
        simp only [World.cell?_drewN] at hcell
        rw [if_neg hv] at ht
        have HT := Lib.hid ht; clear ht hv
        go_wp2
        go_round
        case rel => exact ⟨k + 1, c, by omega, by go_num, by go_num, HT.out.symm⟩
        case measure => simp [intOf]; omega
    · have hkl : l.take k = l := List.take_of_length_le (by omega)
      rw [hkl] at hc
      have HC := Lib.hid hc; clear hc hkl
      go_wp2
      go_ret
      exact ⟨by rw [HC.out]; rfl, 0, rfl⟩

theorem front_full (l : List Bool) (h : trues l = l.length) : front l = l.length := by
  unfold front trues at *
  induction l with
  | nil => rfl
  | cons x l ih =>
    have hle := List.countP_le_length (p := id) (l := l)
    cases x with
    | false => simp at h; omega
    | true =>
      simp only [List.countP_cons_of_pos, id, List.length_cons] at h
      simp only [List.takeWhile_cons, id, if_true, List.length_cons]
      rw [ih (by omega)]

set_option maxHeartbeats 800000 in
theorem rfront_any (b a : Nat) (l : List Bool) (w : World) (h : IsRMap w b a l) :
    Quiets Tryd.prog 18 #[.pointer (some ⟨b, 0, none⟩)] w (.int .i64 (front l : Nat)) := by
  unfold Quiets
  have h0 := h.h0
  have hl := h.hl
  have hf := front_le l
  go_enter Tryd.func18, Tryd.ntmps18
  go_wp2
  go_loop [3] (fun i => ∃ k : Nat, k ≤ front l ∧ i = .int .i64 k) (fun i => l.length - (intOf i).toNat)
  case atStart => exact ⟨0, by omega, rfl⟩
  case round =>
    obtain ⟨k, hk, rfl⟩ := hrel
    by_cases hlt : k < l.length
    · by_cases hkf : k = front l
      · have hc := h.row_at k hlt true false (by rw [hkf]; exact front_no l (by omega)) 0
        simp only [World.cell?_drewN] at hc
        have HJ := Lib.hid hkf; clear hkf
        go_wp2
        go_ret
        exact ⟨by rw [HJ.out]; rfl, 0, rfl⟩
      · have hc := h.row_at k hlt false true (front_yes l k (by omega)) 0
        simp only [World.cell?_drewN] at hc
        go_wp2
        go_round
        case rel => exact ⟨k + 1, by omega, by go_num⟩
        case measure => simp [intOf]; omega
    · have hkf : k = front l := by omega
      have HJ := Lib.hid hkf; clear hkf
      go_wp2
      go_ret
      exact ⟨by rw [HJ.out]; rfl, 0, rfl⟩

theorem rmod_step (s j n q : Nat) (hq : q = s % n) : (((q : Int) + (j : Int)) % (n : Int)) = (((s + j) % n : Nat) : Int) := by
  subst hq
  rw [show ((s % n : Nat) : Int) + (j : Int) = ((s % n + j : Nat) : Int) from by omega, ← Int.natCast_emod, Nat.mod_add_mod]

set_option maxHeartbeats 800000 in
theorem rnext_at (b a : Nat) (l : List Bool) (s : Int) (d : Nat) (w : World) (h : IsRMap w b a l) (hd : NextAt l s.toNat d) (hs : s ≤ 9223372036854775807) :
    Quiets Tryd.prog 16 #[.pointer (some ⟨b, 0, none⟩), .int .i64 s] w (.int .i64 ((s.toNat + d) % l.length : Nat)) := by
  unfold Quiets
  have h0 := h.h0
  have hl := h.hl
  have hlen : 0 < l.length := by have := hd.lt; omega
  have lne : ((l.length : Int) == 0) = false := by simp; intro h; rw [h] at hlen; simp at hlen
  have hcase : (∃ k : Nat, s = k) ∨ (s < 0 ∧ s.toNat = 0) := by
    rcases Int.lt_or_le s 0 with h | h
    · right; omega
    · left; exact ⟨s.toNat, by omega⟩
  obtain ⟨z, hz⟩ : ∃ z, z = s.toNat := ⟨_, rfl⟩
  rw [← hz] at hd ⊢
  obtain ⟨q, hq⟩ : ∃ q, q = z % l.length := ⟨_, rfl⟩
  have hqlt : q < l.length := by rw [hq]; exact Nat.mod_lt _ hlen
  have hmod : ((if s < 0 then (0 : Int) else s) % (l.length : Int)) = (q : Int) := by
    rw [hq, Int.natCast_emod]
    congr 1
    split <;> omega
  have HD := Lib.hid hd; clear hd
  have HQ := Lib.hid hq; clear hq hz hcase
  have hmt : ((if s < 0 then (0 : Int) else s).tmod (l.length : Int)) = (q : Int) := by
    rw [Int.tmod_eq_emod_of_nonneg (by split <;> omega)]; exact hmod
  rcases Int.lt_or_le s 0 with hs0 | hs0
  all_goals
    first | (rw [if_pos hs0] at hmod hmt) | (rw [if_neg (by omega)] at hmod hmt)
    go_enter Tryd.func16, Tryd.ntmps16
    go_wp2
    go_loopw [5] (fun i wr => ∃ k m : Nat, k ≤ d ∧ i = .int .i64 k ∧ wr = w.drewN m) (fun i _ => l.length - (intOf i).toNat)
    case atStart => exact ⟨0, 0, by omega, rfl, rfl⟩
    case round =>
      obtain ⟨j, m, hj, rfl, rfl⟩ := hrel
      have hjl : j < l.length := by have := HD.out.lt; omega
      have hrd := rmod_step z j l.length q HQ.out
      have hrt : ((q : Int) + (j : Int)).tmod (l.length : Int) = (((z + j) % l.length : Nat) : Int) := by rw [Int.tmod_eq_emod_of_nonneg (by omega)]; exact hrd
      have hwr : IntKind.i64.wrap ((q : Int) + (j : Int)) = (q : Int) + (j : Int) := IntWalk.i64_in _ (by omega)
      obtain ⟨r, hr⟩ : ∃ r, r = (z + j) % l.length := ⟨_, rfl⟩
      rw [← hr] at hrd hrt
      have hrlt : r < l.length := by rw [hr]; exact Nat.mod_lt _ hlen
      by_cases hjd : j = d
      · have hc := h.row_at r hrlt true false (by rw [hr, hjd]; exact HD.out.no) 0
        simp only [World.cell?_drewN] at hc
        have HJ := Lib.hid (show (r : Int) = (((z + d) % l.length : Nat) : Int) by rw [hr, hjd]); clear hjd hr
        go_wp2
        go_quiet (fail)
        go_wp2
        go_ret
        exact ⟨by rw [HJ.out]; rfl, _, rfl⟩
      · have hc := h.row_at r hrlt false true (by rw [hr]; exact HD.out.yes j (by omega)) 0
        simp only [World.cell?_drewN] at hc
        clear hr
        go_wp2
        go_quiet (fail)
        go_wp2
        go_roundw
        case rel => exact ⟨j + 1, _, by omega, by go_num, rfl⟩
        case measure => simp [intOf]; omega

set_option maxHeartbeats 800000 in
theorem rnext_full (b a : Nat) (l : List Bool) (s : Int) (w : World) (h : IsRMap w b a l) (ht : trues l = l.length) (hs : s ≤ 9223372036854775807) :
    Quiets Tryd.prog 16 #[.pointer (some ⟨b, 0, none⟩), .int .i64 s] w (.int .i64 (-1)) := by
  unfold Quiets
  have h0 := h.h0
  have hl := h.hl
  have hall : ∀ k, k < l.length → l.getD k false = true := fun k hk => front_yes l k (by rw [front_full l ht]; exact hk)
  have HA := Lib.hid hall; clear hall ht
  obtain ⟨z, hz⟩ : ∃ z, z = s.toNat := ⟨_, rfl⟩
  obtain ⟨q, hq⟩ : ∃ q, q = z % l.length := ⟨_, rfl⟩
  have hmod : ((if s < 0 then (0 : Int) else s) % (l.length : Int)) = (q : Int) := by
    rw [hq, Int.natCast_emod]
    congr 1
    split <;> omega
  have hqlt : 0 < l.length → q < l.length := fun hlen => by rw [hq]; exact Nat.mod_lt _ hlen
  have HQ := Lib.hid hq; clear hq hz
  have hmt : ((if s < 0 then (0 : Int) else s).tmod (l.length : Int)) = (q : Int) := by
    rw [Int.tmod_eq_emod_of_nonneg (by split <;> omega)]; exact hmod
  rcases Int.lt_or_le s 0 with hs0 | hs0
  all_goals
    first | (rw [if_pos hs0] at hmod hmt) | (rw [if_neg (by omega)] at hmod hmt)
    go_enter Tryd.func16, Tryd.ntmps16
    go_wp2
    go_loopw [5] (fun i wr => ∃ k m : Nat, k ≤ l.length ∧ i = .int .i64 k ∧ wr = w.drewN m) (fun i _ => l.length - (intOf i).toNat)
    case atStart => exact ⟨0, 0, by omega, rfl, rfl⟩
    case round =>
      obtain ⟨j, m, hj, rfl, rfl⟩ := hrel
      by_cases hlt : j < l.length
      · have lne : ((l.length : Int) == 0) = false := by simp; intro h; rw [h] at hlt; simp at hlt
        have hqlt' := hqlt (by omega)
        have hrd := rmod_step z j l.length q HQ.out
        have hrt : ((q : Int) + (j : Int)).tmod (l.length : Int) = (((z + j) % l.length : Nat) : Int) := by rw [Int.tmod_eq_emod_of_nonneg (by omega)]; exact hrd
        have hwr : IntKind.i64.wrap ((q : Int) + (j : Int)) = (q : Int) + (j : Int) := IntWalk.i64_in _ (by omega)
        obtain ⟨r, hr⟩ : ∃ r, r = (z + j) % l.length := ⟨_, rfl⟩
        rw [← hr] at hrd hrt
        have hrlt : r < l.length := by rw [hr]; exact Nat.mod_lt _ (by omega)
        have hc := h.row_at r hrlt false true (HA.out r hrlt) 0
        simp only [World.cell?_drewN] at hc
        clear hr
        go_wp2
        go_quiet (fail)
        go_wp2
        go_roundw
        case rel => exact ⟨j + 1, _, by omega, by go_num, rfl⟩
        case measure => simp [intOf]; omega
      · go_wp2
        go_ret
        exact ⟨rfl, _, rfl⟩
end Go.Proofs.YtplennobcbmccaaDoor
