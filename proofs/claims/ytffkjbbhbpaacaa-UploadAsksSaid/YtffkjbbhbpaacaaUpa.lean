import Derived.Test.YtffkjbbhbpaacaaSlB
import Derived.Test.YtffkjbbhbpaacaaCpy
import Derived.Test.YtffkjbbhbpaacaaTur
/-
  upload.Up in memory; its pace.
-/
namespace Go.Proofs.Ytffkjbbhbpaacaa
open Go.RowKit

/-- an Up's cells -/
def uv (ph at' a b : Int) : Array Value := #[.int .i64 ph, .int .i64 at', .int .i64 a, .int .i64 b]
theorem uv_size (ph at' a b : Int) : (uv ph at' a b).size = 4 := rfl
theorem uv_one (ph at' a b : Int) : (uv ph at' a b).all (·.oneCell') = true := by kernel_rfl
/-- it lies there -/
def UpH (W : World) (g : Nat) (ph at' a b : Int) : Prop := W.heap[g]? = some (.cells (uv ph at' a b) 30 (0, 0))
theorem cell_heap {W : World} {g i : Nat} {cs : Array Value} {t : TypeId} {v : Value} (h : W.heap[g]? = some (.cells cs t (0, 0))) (hv : cs[i]? = some v) : W.cell? ⟨g, i, none⟩ = some v := by
  have := range_new (W := W) (g := g) (cs := cs.toList) (t := t) (fr := (0, 0)) (by simpa using h) i v (by simpa using hv)
  rwa [Nat.zero_add] at this
theorem thaw_heap {W : World} {g : Nat} {cs : Array Value} {t : TypeId} (h : W.heap[g]? = some (.cells cs t (0, 0))) (k : Nat) : W.frozen? ⟨g, k, none⟩ = false := by simp [World.frozen?, h]
theorem lt_heap {W : World} {g : Nat} {o : Obj} (h : W.heap[g]? = some o) : g < W.heap.size := (Array.getElem?_eq_some_iff.1 h).1
theorem heap_below {W W' : World} {g : Nat} {o : Obj} (h : W.heap[g]? = some o) (hb : Below W.heap.size W W') : W'.heap[g]? = some o := (hb.block g (lt_heap h)).trans h
theorem set_turnH (w : World) (B o : Nat) (u : Value) : Turn (· = B) w (w.setCell ⟨B, o, none⟩ u) := Turn.of_grown (grown_setCell w _ _) (fun _ hk => (Option.some.inj hk).symm)
section
variable {W W' : World} {g : Nat} {ph at' a b : Int}
theorem UpH.lt (h : UpH W g ph at' a b) : g < W.heap.size := lt_heap h
theorem UpH.c0 (h : UpH W g ph at' a b) : W.cell? ⟨g, 0, none⟩ = some (.int .i64 ph) := cell_heap h rfl
theorem UpH.c1 (h : UpH W g ph at' a b) : W.cell? ⟨g, 1, none⟩ = some (.int .i64 at') := cell_heap h rfl
theorem UpH.c2 (h : UpH W g ph at' a b) : W.cell? ⟨g, 2, none⟩ = some (.int .i64 a) := cell_heap h rfl
theorem UpH.c3 (h : UpH W g ph at' a b) : W.cell? ⟨g, 3, none⟩ = some (.int .i64 b) := cell_heap h rfl
theorem UpH.f (h : UpH W g ph at' a b) (i : Nat) : W.frozen? ⟨g, i, none⟩ = false := thaw_heap h i
theorem UpH.below (h : UpH W g ph at' a b) (hb : Below W.heap.size W W') : UpH W' g ph at' a b := heap_below h hb
theorem UpH.turn {F : Nat → Prop} (h : UpH W g ph at' a b) (ht : Turn F W W') (hF : ¬ F g) : UpH W' g ph at' a b := (ht.block g h.lt hF).trans h
theorem UpH.s0 (h : UpH W g ph at' a b) (c : Int) : UpH (W.setCell ⟨g, 0, none⟩ (.int .i64 c)) g c at' a b := heap_setCell_same W g 0 _ _ _ h
theorem UpH.s1 (h : UpH W g ph at' a b) (c : Int) : UpH (W.setCell ⟨g, 1, none⟩ (.int .i64 c)) g ph c a b := heap_setCell_same W g 1 _ _ _ h
theorem UpH.s2 (h : UpH W g ph at' a b) (c : Int) : UpH (W.setCell ⟨g, 2, none⟩ (.int .i64 c)) g ph at' c b := heap_setCell_same W g 2 _ _ _ h
theorem UpH.s3 (h : UpH W g ph at' a b) (c : Int) : UpH (W.setCell ⟨g, 3, none⟩ (.int .i64 c)) g ph at' a c := heap_setCell_same W g 3 _ _ _ h
theorem info_Up (ph at' a b : Int) : (Try.prog.info? 30).map (·.size) = some (uv ph at' a b).size := by kernel_rfl
theorem ready_u (w : World) (h : UpH w g ph at' a b) : Calls Try.prog 10 #[.pointer (some ⟨g, 2, none⟩)] w fun e w' => e = .returned (.bool (b == 0)) ∧ w' = w := by
  have c3 := h.c3
  go_enter Try.func10, Try.ntmps10
  go_wp2_with fail
  go_ret
  exact ⟨rfl, rfl⟩
end
end Go.Proofs.Ytffkjbbhbpaacaa
