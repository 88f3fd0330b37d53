import Derived.Test.YtbeeehfaeknhmaaDoorDko
/-
  disk: after a crash each sector is as one of what it held (for DiskKeeps).
-/
namespace Go.Proofs.YtbeeehfaeknhmaaDoor
open Go.RowKit

theorem Sec.settled_none (s : Sec) (h : s.pend.length = 0) : s.settled 0 = s := by
  obtain ⟨d, p, hd, hp⟩ := s
  have : p = [] := List.length_eq_zero_iff.1 h
  subst this
  rfl
theorem crash_each (ss : List Sec) (keep : List Int) : ∀ k i, i < k → ∀ s, ss[i]? = some s → ∃ j, j ≤ s.pend.length ∧ (crashTo ss keep k).1[i]? = some (s.settled j)
  | 0, _, h, _, _ => by omega
  | k + 1, i, h, s, hs => by
    have hget := crashTo_get ss keep k k (Nat.le_refl _)
    by_cases hik : i = k
    · subst hik
      by_cases h0 : s.pend.length = 0
      · rw [crashTo_none ss keep i s hs h0]
        exact ⟨0, by omega, by rw [hget, hs, s.settled_none h0]⟩
      · rw [crashTo_some ss keep i s hs h0]
        have hl : i < (crashTo ss keep i).1.length := by rw [crashTo_len]; exact (List.getElem?_eq_some_iff.1 hs).1
        exact ⟨_, choice_le _ _, List.getElem?_set_self hl⟩
    · obtain ⟨j, hj, e⟩ := crash_each ss keep k i (by omega) s hs
      refine ⟨j, hj, ?_⟩
      cases hq : ss[k]? with
      | none =>
        have e2 : crashTo ss keep (k + 1) = crashTo ss keep k := by
          show (match ss[k]? with | none => _ | some s => _) = _
          rw [hq]
        rw [e2]
        exact e
      | some t =>
        by_cases h0 : t.pend.length = 0
        · rw [crashTo_none ss keep k t hq h0]
          exact e
        · rw [crashTo_some ss keep k t hq h0, List.getElem?_set_ne (by omega)]
          exact e
/-- what a sector holds, the oldest first -/
def Sec.all (s : Sec) : List (List UInt8) := s.dur :: s.pend
theorem Sec.settled_top (s : Sec) (j : Nat) : (s.settled j).top = s.pick j := rfl
theorem Sec.pick_mem (s : Sec) (j : Nat) (h : j ≤ s.pend.length) : s.pick j ∈ s.all := by
  unfold Sec.pick Sec.all
  split
  · exact List.mem_cons_self ..
  · rw [List.getD_eq_getElem?_getD, List.getElem?_eq_getElem (by omega)]
    exact List.mem_cons_of_mem _ (List.getElem_mem _)
theorem Sec.sync_all (s : Sec) : s.sync.all = [s.top] := rfl
theorem Sec.add_all (s : Sec) (B : List UInt8) (hB : B.length = 128) : (s.add B hB).all = s.all ++ [B] := rfl
theorem Sec.top_last (s : Sec) : s.all.getLast? = some s.top := by
  obtain ⟨d, p, hd, hp⟩ := s
  unfold Sec.all Sec.top
  cases h : p.getLast? with
  | none =>
    rw [List.getLast?_eq_none_iff] at h
    subst h
    rfl
  | some q => simp [List.getLast?_cons, h]
end Go.Proofs.YtbeeehfaeknhmaaDoor
