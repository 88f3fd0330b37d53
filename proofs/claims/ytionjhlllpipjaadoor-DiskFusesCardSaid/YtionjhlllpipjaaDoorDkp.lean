import Derived.Test.YtionjhlllpipjaaDoorDko
import Derived.Test.YtionjhlllpipjaaDoorDkm
/-
  disk: what DiskFuses wants.
-/
namespace Go.Proofs.YtionjhlllpipjaaDoor
open Go.RowKit

section
variable {w : World} {n D R : Nat} {ss : List Sec} {off : Bool} {fuse : Int} {pv : Nat → Value}
set_option maxRecDepth 100000 in
set_option maxHeartbeats 800000 in
theorem sync_fail (E : Nat → Addr) (hE : ErrsAt E w) (h : DkS w n D R ss false 0 pv) : Calls Tryd.prog 15 #[.pointer (some ⟨D, 0, none⟩)] w fun e w' =>
    e = .returned (errV (E 0)) ∧ DkS w' n D R ss true 0 pv ∧ Turn (· = D) w w' := by
  have hc := h.offc
  have hdr := draw_any E hE h
  rw [show drawV E 0 = errV (E 0) from if_pos rfl, show drawO false 0 = true from rfl, show drawF 0 = 0 from rfl] at hdr
  clear h hE
  go_enter Tryd.func15, Tryd.ntmps15
  go_wp2_with (go_at_call 32; refine hdr.mono ?_; rintro e wd ⟨rfl, hd, ht⟩; have HD := Lib.hid hd; have HT := Lib.hid ht; clear hd ht)
  go_ret
  exact ⟨rfl, HD.out, HT.out⟩
end
def fz (x : Int) : Sec := secZ.add (fillL x) (fillL_len x)
/-- k sectors written -/
def fuS (k : Nat) : List Sec := List.replicate k (fz 7) ++ List.replicate (30 - k) secZ
theorem fuS_len (k : Nat) (h : k ≤ 30) : (fuS k).length = 30 := by simp [fuS]; omega
theorem fuS_get (k : Nat) (h : k < 30) : (fuS k)[k]? = some secZ := by
  unfold fuS
  rw [List.getElem?_append_right (by simp)]
  simp only [List.length_replicate, Nat.sub_self]
  rw [List.getElem?_replicate, if_pos (by omega)]
theorem fuS_set (k : Nat) (h : k < 30) : (fuS k).set k (fz 7) = fuS (k + 1) := by
  unfold fuS
  rw [List.set_append_right _ _ (by simp)]
  simp only [List.length_replicate, Nat.sub_self]
  rw [show 30 - k = (30 - (k + 1)) + 1 by omega, List.replicate_succ, List.set_cons_zero, List.replicate_succ' (n := k), List.append_assoc]
  rfl
theorem fuS_small (k : Nat) : ∀ s ∈ fuS k, s.pend.length ≤ 1 := by
  intro s hs
  rcases List.mem_append.1 hs with h | h
  · rw [List.eq_of_mem_replicate h]; exact Nat.le_refl _
  · rw [List.eq_of_mem_replicate h]; exact Nat.zero_le _
/-- a crash that keeps the first pending of each -/
theorem crash_ones (ss : List Sec) (hs : ∀ s ∈ ss, s.pend.length ≤ 1) (m : Nat) : ∀ k, k ≤ m → ∃ c, m - k ≤ c ∧ (crashTo ss (List.replicate m 1) k).2 = List.replicate c 1 ∧
    ∀ i, i < k → (crashTo ss (List.replicate m 1) k).1[i]? = (ss[i]?).map fun s => if s.pend.length = 0 then s else s.settled 1
  | 0, _ => ⟨m, by omega, rfl, fun i h => by omega⟩
  | k + 1, hk => by
    obtain ⟨c, h1, h2, h3⟩ := crash_ones ss hs m k (by omega)
    have hget := crashTo_get ss (List.replicate m 1) k k (Nat.le_refl _)
    cases hq : ss[k]? with
    | none =>
      have e : crashTo ss (List.replicate m 1) (k + 1) = crashTo ss (List.replicate m 1) k := by
        show (match ss[k]? with | none => _ | some s => _) = _
        rw [hq]
      rw [e]
      refine ⟨c, by omega, h2, fun i hi => ?_⟩
      by_cases hik : i = k
      · subst hik
        rw [hget, hq]
        rfl
      · exact h3 i (by omega)
    | some s =>
      by_cases h0 : s.pend.length = 0
      · rw [crashTo_none ss _ k s hq h0]
        refine ⟨c, by omega, h2, fun i hi => ?_⟩
        by_cases hik : i = k
        · subst hik
          rw [hget, hq, Option.map_some, if_pos h0]
        · exact h3 i (by omega)
      · rw [crashTo_some ss _ k s hq h0, h2]
        have hc : 0 < c := by omega
        have hp : s.pend.length = 1 := by have := hs s (List.mem_of_getElem? hq); omega
        refine ⟨c - 1, by omega, by simp, fun i hi => ?_⟩
        obtain ⟨c', rfl⟩ : ∃ c', c = c' + 1 := ⟨c - 1, by omega⟩
        by_cases hik : i = k
        · subst hik
          have hl : i < (crashTo ss (List.replicate m 1) i).1.length := by rw [crashTo_len]; exact (List.getElem?_eq_some_iff.1 hq).1
          rw [List.getElem?_set_self hl, hq, hp, Option.map_some, if_neg h0]
          rfl
        · rw [List.getElem?_set_ne (by omega)]
          exact h3 i (by omega)
end Go.Proofs.YtionjhlllpipjaaDoor
