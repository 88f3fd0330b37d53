import Derived.Test.YtionjhlllpipjaaDoorDvf
/-
  The code's disk and the document's: what a sector holds is its versions.
-/
namespace Go.Proofs.YtionjhlllpipjaaDoor
open Go.RowKit

def allS (ss : List Sec) : List (List (List UInt8)) := ss.map Sec.all
theorem allS_len (ss : List Sec) : (allS ss).length = ss.length := by simp [allS]
theorem allS_get (ss : List Sec) (i : Nat) (s : Sec) (h : ss[i]? = some s) : (allS ss)[i]? = some s.all := by unfold allS; rw [List.getElem?_map, h]; rfl
theorem burnL_drawF (f : Int) : burnL f = drawF f := rfl
theorem burnG_drawO (f : Int) : burnG false f = drawO false f := by
  unfold burnG drawO
  by_cases h : f = 0
  · rw [if_pos h, decide_eq_true h]; rfl
  · rw [if_neg h, decide_eq_false h]; rfl
theorem all_last (s : Sec) : s.all[s.all.length - 1]? = some s.top := by
  rw [← List.getLast?_eq_getElem?]
  exact s.top_last
theorem all_sync (s : Sec) : s.sync.all = lastV s.all := by
  rw [Sec.sync_all]
  have hp : 0 < s.all.length := by simp [Sec.all]
  unfold lastV
  refine List.ext_getElem? fun j => ?_
  rcases j with _ | j
  · rw [List.getElem?_drop, Nat.add_zero, all_last]; rfl
  · rw [List.getElem?_eq_none (by simp), List.getElem?_eq_none (by simp; omega)]
theorem allS_sync (ss : List Sec) : allS (ss.map Sec.sync) = (allS ss).map lastV := by
  unfold allS
  rw [List.map_map, List.map_map]
  exact List.map_congr_left fun s _ => all_sync s
theorem allS_add (ss : List Sec) (i : Nat) (s : Sec) (B : List UInt8) (hB : B.length = 128) : allS (ss.set i (s.add B hB)) = (allS ss).set i (s.all ++ [B]) := by
  unfold allS
  rw [List.map_set, Sec.add_all]
theorem all_settled (s : Sec) (j : Nat) (hj : j ≤ s.pend.length) : (s.settled j).all = (s.all.drop j).take 1 := by
  have e : (s.settled j).all = [s.pick j] := rfl
  rw [e]
  refine List.ext_getElem? fun q => ?_
  rcases q with _ | q
  · rw [List.getElem?_take, if_pos (by omega), List.getElem?_drop, Nat.add_zero]
    unfold Sec.pick Sec.all
    rcases j with _ | j
    · rfl
    · rw [if_neg (by omega)]
      simp only [List.getElem?_cons_succ, Nat.add_sub_cancel, List.getElem?_cons_zero, List.getD_eq_getElem?_getD]
      rw [List.getElem?_eq_getElem (by omega)]
      rfl
  · rw [List.getElem?_eq_none (by simp), List.getElem?_eq_none (by simp; omega)]
theorem crash_both (ss : List Sec) (keep : List Int) : ∀ k, allS (crashTo ss keep k).1 = (dcr (allS ss) keep k).1 ∧ (crashTo ss keep k).2 = keep.drop (dcr (allS ss) keep k).2
  | 0 => ⟨rfl, rfl⟩
  | k + 1 => by
    obtain ⟨h1, h2⟩ := crash_both ss keep k
    cases hs : ss[k]? with
    | none =>
      have e1 : crashTo ss keep (k + 1) = crashTo ss keep k := by
        show (match ss[k]? with | none => _ | some s => _) = _
        rw [hs]
      have e2 : dcr (allS ss) keep (k + 1) = dcr (allS ss) keep k := by
        show (match (allS ss)[k]? with | none => _ | some l => _) = _
        rw [show (allS ss)[k]? = none by unfold allS; rw [List.getElem?_map, hs]; rfl]
      rw [e1, e2]
      exact ⟨h1, h2⟩
    | some s =>
      have ha := allS_get ss k s hs
      have hal : s.all.length = s.pend.length + 1 := by simp [Sec.all]
      by_cases h0 : s.pend.length = 0
      · rw [crashTo_none ss keep k s hs h0, dcr_few (allS ss) keep k s.all ha (by omega)]
        exact ⟨h1, h2⟩
      · rw [crashTo_some ss keep k s hs h0, dcr_some (allS ss) keep k s.all ha (by omega)]
        refine ⟨?_, ?_⟩
        · show allS ((crashTo ss keep k).1.set k _) = ((dcr (allS ss) keep k).1.set k _)
          rw [← h1, ← h2, hal, Nat.add_sub_cancel, ← all_settled s _ (choice_le _ _)]
          unfold allS
          rw [List.map_set]
        · show (crashTo ss keep k).2.tail = keep.drop ((dcr (allS ss) keep k).2 + 1)
          rw [h2, List.tail_drop]
theorem durs_both (ss : List Sec) : durs ss = durV (allS ss) := by
  unfold durs durV allS
  rw [List.flatMap_map]
  rfl
theorem allS_new (M : Nat) : allS (List.replicate M secZ) = List.replicate M [zc] := by
  unfold allS
  rw [List.map_replicate]
  rfl
end Go.Proofs.YtionjhlllpipjaaDoor
