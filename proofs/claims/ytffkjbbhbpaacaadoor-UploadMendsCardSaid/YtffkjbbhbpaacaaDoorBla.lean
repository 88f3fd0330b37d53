import Derived.Test.YtffkjbbhbpaacaaDoorTur
import Derived.Test.YtffkjbbhbpaacaaDoorSlB
import Derived.Test.YtffkjbbhbpaacaaDoorErr
import Derived.Test.YtffkjbbhbpaacaaDoorCpy
import Derived.Stop.BytesEq
/-
  What blob's texts say of cells, where there is no blob.
-/
namespace Go.Proofs.YtffkjbbhbpaacaaDoor
open Go.RowKit
theorem cell_heap {W : World} {g i : Nat} {cs : Array Value} {t : TypeId} {v : Value} (h : W.heap[g]? = some (.cells cs t (0, 0))) (hv : cs[i]? = some v) : W.cell? ⟨g, i, none⟩ = some v := by
  have := range_new (W := W) (g := g) (cs := cs.toList) (t := t) (fr := (0, 0)) (by simpa using h) i v (by simpa using hv)
  rwa [Nat.zero_add] at this
theorem thaw_heap {W : World} {g : Nat} {cs : Array Value} {t : TypeId} (h : W.heap[g]? = some (.cells cs t (0, 0))) (k : Nat) : W.frozen? ⟨g, k, none⟩ = false := by simp [World.frozen?, h]
theorem lt_heap {W : World} {g : Nat} {o : Obj} (h : W.heap[g]? = some o) : g < W.heap.size := (Array.getElem?_eq_some_iff.1 h).1
theorem heap_below {W W' : World} {g : Nat} {o : Obj} (h : W.heap[g]? = some o) (hb : Below W.heap.size W W') : W'.heap[g]? = some o := (hb.block g (lt_heap h)).trans h
theorem set_turnH (w : World) (B o : Nat) (u : Value) : Turn (· = B) w (w.setCell ⟨B, o, none⟩ u) := Turn.of_grown (grown_setCell w _ _) (fun _ hk => (Option.some.inj hk).symm)
end Go.Proofs.YtffkjbbhbpaacaaDoor
