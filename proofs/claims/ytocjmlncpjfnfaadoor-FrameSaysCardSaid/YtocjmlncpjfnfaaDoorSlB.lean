import Derived.Test.YtocjmlncpjfnfaaDoorRsq
import Derived.Test.YtocjmlncpjfnfaaDoorAr
import Derived.Test.YtocjmlncpjfnfaaDoorByt
namespace Go.Proofs.YtocjmlncpjfnfaaDoor
open Go.RowKit

theorem ownsRow_via {w w' : World} {base : Nat} {e : TypeId} {size : Nat} {v : Value} {n : Nat} {xs : List Value} (h : w.ownsRow base e size v n xs) (hg : ∀ g, base ≤ g → g < w.heap.size → w'.heap[g]? = w.heap[g]?) : w'.ownsRow base e size v n xs := by
  obtain ⟨h1, h2⟩ := h
  refine ⟨h1, ?_⟩
  rcases h2 with h2 | ⟨g, cap, cur, e1, e2, e3, e4⟩
  · exact .inl h2
  · have hlt : g < w.heap.size := by
      obtain ⟨hl, _⟩ := Array.getElem?_eq_some_iff.1 e3
      exact hl
    exact .inr ⟨g, cap, cur, e1, e2, (hg g e2 hlt).trans e3, e4⟩
theorem ownsRow_form {w : World} {base : Nat} {e : TypeId} {size : Nat} {v : Value} {n : Nat} {xs : List Value} (h : w.ownsRow base e size v n xs) : ∃ A c, v = .slice A n c ∧ (0 < n → n ≤ c) := by
  rcases h.2 with ⟨h1, h2⟩ | ⟨g, cap, cur, e1, _, _, e4, _⟩
  · subst h2; exact ⟨none, 0, h1, by omega⟩
  · exact ⟨_, cap, e1, fun _ => e4⟩
theorem rangeAt_row {w : World} {g : Nat} {t : TypeId} {n : Nat} {f : Nat → BitVec 8} (h : w.rowIs g t n (fun i => v8 (f i))) : w.rangeAt g 0 (arr8 n f).toList := by
  intro j v hv
  have hj : j < n := by
    have := (List.getElem?_eq_some_iff.1 hv).1
    simpa using this
  rw [Nat.zero_add, h.cell hj]
  rw [Array.getElem?_toList, arr8_get n f j hj] at hv
  exact hv
theorem rangeAt_below {w w' : World} {g o : Nat} {cs : List Value} (h : w.rangeAt g o cs) (hb : Below w.heap.size w w') (hg : g < w.heap.size) : w'.rangeAt g o cs := fun j v hv => (hb.cell (p := ⟨g, o + j, none⟩) hg).trans (h j v hv)
theorem SlRead.one_new {W : World} (v : Value) (t : TypeId) : SlRead (W.alloc (.cells #[v] t)) (some ⟨W.heap.size, 0, none⟩) [v] := by
  intro _
  refine ⟨W.heap.size, 0, rfl, by simp, fun j u hj => ?_⟩
  have hj0 : j = 0 := by
    have := (List.getElem?_eq_some_iff.1 hj).1
    simp at this
    omega
  subst hj0
  rw [World.cell?_alloc_new]
  exact hj
def bys (ys : List (BitVec 8)) : List Int := ys.map fun y => n8 y
end Go.Proofs.YtocjmlncpjfnfaaDoor
