import Derived.Test.YtpegihfocnchnaaKf
namespace Go.Proofs.Ytpegihfocnchnaa
open Go.RowKit

theorem Only.setRow {g : Nat} {w w' : World} (h : Only g w w') (cs : Array Value) : Only g w (w'.setRow g cs) := by
  refine h.trans ?_
  unfold World.setRow
  exact ⟨rfl, rfl, rfl, by simp, fun k _ hk => by simp [Array.getElem?_modify, Ne.symm hk]⟩

theorem word_put {w : World} {g : Nat} {s : Nat → BitVec 32} (h : St w g s) (t : Nat → BitVec 32) : St (w.setRow g (arr32 16 t)) g t :=
  rowIs_arr (setRow_heap _ _ _ _ _ _ (rowIs_heap32 h)) (by simp) (fun i hi => arr32_get 16 t i hi)

/-- the bytes written so far -/
def outR (z : Nat → BitVec 32) (k : Nat) : Nat → Value := fun i => if i < k then v8 (bytesOf z i) else .int .u8 0
theorem putB {w : World} {o : Nat} {z : Nat → BitVec 32} {k : Nat} (h : w.rowIs o 42 64 (outR z k)) :
    (w.setCell ⟨o, k, none⟩ (.int .u8 (byt (z (k / 4)) (k % 4)))).rowIs o 42 64 (outR z (k + 1)) := by
  refine (h.set k _).congr fun i hi => ?_
  unfold outR bytesOf byt
  by_cases e : i = k
  · subst e; simp
  · rw [if_neg e]
    by_cases hlt : i < k
    · rw [if_pos hlt, if_pos (by omega)]
    · rw [if_neg hlt, if_neg (by omega)]

end Go.Proofs.Ytpegihfocnchnaa
