import Derived.Test.YtocjmlncpjfnfaaDoorTur
import Derived.Test.YtocjmlncpjfnfaaDoorSlB
import Derived.Test.YtocjmlncpjfnfaaDoorErr
import Derived.Test.YtocjmlncpjfnfaaDoorCpy
import Derived.Stop.BytesEq
/-
  blob: an entry of the store in memory; New.
-/
namespace Go.Proofs.YtocjmlncpjfnfaaDoor
open Go.RowKit
theorem cell_heap {W : World} {g i : Nat} {cs : Array Value} {t : TypeId} {v : Value} (h : W.heap[g]? = some (.cells cs t (0, 0))) (hv : cs[i]? = some v) : W.cell? ⟨g, i, none⟩ = some v := by
  have := range_new (W := W) (g := g) (cs := cs.toList) (t := t) (fr := (0, 0)) (by simpa using h) i v (by simpa using hv)
  rwa [Nat.zero_add] at this
theorem thaw_heap {W : World} {g : Nat} {cs : Array Value} {t : TypeId} (h : W.heap[g]? = some (.cells cs t (0, 0))) (k : Nat) : W.frozen? ⟨g, k, none⟩ = false := by simp [World.frozen?, h]
theorem lt_heap {W : World} {g : Nat} {o : Obj} (h : W.heap[g]? = some o) : g < W.heap.size := (Array.getElem?_eq_some_iff.1 h).1
theorem heap_below {W W' : World} {g : Nat} {o : Obj} (h : W.heap[g]? = some o) (hb : Below W.heap.size W W') : W'.heap[g]? = some o := (hb.block g (lt_heap h)).trans h
theorem set_turnH (w : World) (B o : Nat) (u : Value) : Turn (· = B) w (w.setCell ⟨B, o, none⟩ u) := Turn.of_grown (grown_setCell w _ _) (fun _ hk => (Option.some.inj hk).symm)
/-- an entry's cells: whose, how long, what has come, whether it is whole, since when -/
def enA (f : Nat → BitVec 8) (n : Int) (D : Value) (done : Bool) (idle : Int) : Array Value := (((List.range 32).map fun i => v8 (f i)) ++ [.int .i64 n, D, .bool done, .int .i64 idle]).toArray
/-- it lies there -/
def EnH (W : World) (g : Nat) (f : Nat → BitVec 8) (n : Int) (D : Value) (done : Bool) (idle : Int) : Prop := W.heap[g]? = some (.cells (enA f n D done idle) 109 (0, 0))
theorem en_size (f : Nat → BitVec 8) (n : Int) (D : Value) (done : Bool) (idle : Int) : (enA f n D done idle).size = 36 := by simp [enA]
theorem en_info (f : Nat → BitVec 8) (n : Int) (D : Value) (done : Bool) (idle : Int) : (Tryd.prog.info? 109).map (·.size) = some (enA f n D done idle).size := by rw [en_size]; kernel_rfl
theorem en_one (f : Nat → BitVec 8) (n : Int) (A : Option Addr) (l c : Nat) (done : Bool) (idle : Int) : (enA f n (.slice A l c) done idle).all (·.oneCell') = true := by kernel_rfl
theorem en_set33 (f : Nat → BitVec 8) (n : Int) (D D' : Value) (done : Bool) (idle : Int) : (enA f n D done idle).setIfInBounds 33 D' = enA f n D' done idle := by kernel_rfl
theorem en_set34 (f : Nat → BitVec 8) (n : Int) (D : Value) (done done' : Bool) (idle : Int) : (enA f n D done idle).setIfInBounds 34 (.bool done') = enA f n D done' idle := by kernel_rfl
theorem en_set35 (f : Nat → BitVec 8) (n : Int) (D : Value) (done : Bool) (idle idle' : Int) : (enA f n D done idle).setIfInBounds 35 (.int .i64 idle') = enA f n D done idle' := by kernel_rfl
theorem en_c32 (f : Nat → BitVec 8) (n : Int) (D : Value) (done : Bool) (idle : Int) : (enA f n D done idle)[32]? = some (.int .i64 n) := by kernel_rfl
theorem en_c33 (f : Nat → BitVec 8) (n : Int) (D : Value) (done : Bool) (idle : Int) : (enA f n D done idle)[33]? = some D := by kernel_rfl
theorem en_c34 (f : Nat → BitVec 8) (n : Int) (D : Value) (done : Bool) (idle : Int) : (enA f n D done idle)[34]? = some (.bool done) := by kernel_rfl
theorem en_c35 (f : Nat → BitVec 8) (n : Int) (D : Value) (done : Bool) (idle : Int) : (enA f n D done idle)[35]? = some (.int .i64 idle) := by kernel_rfl
theorem en_build (f : Nat → BitVec 8) (n : Int) (w : World) : (Instr.build 109 #[(0, .agg (arr8 32 f)), (1, .int .i64 n)]).run Tryd.prog w = .ok (.agg (enA f n (.slice none 0 0) false 0)) w := by kernel_rfl
/-- whose it is -/
theorem en_id {W : World} {g : Nat} {f : Nat → BitVec 8} {n : Int} {D : Value} {done : Bool} {idle : Int} (h : EnH W g f n D done idle) : W.rangeAt g 0 (arr8 32 f).toList := by
  intro j v hv
  have hj : j < 32 := by have := (List.getElem?_eq_some_iff.1 hv).1; simpa using this
  have e1 : v = v8 (f j) := by
    have := arr8_get 32 f j hj
    rw [← Array.getElem?_toList, hv] at this
    exact Option.some.inj this
  rw [e1, Nat.zero_add]
  refine cell_heap h ?_
  unfold enA
  simp only [List.getElem?_toArray]
  rw [List.getElem?_append_left (by simpa using hj)]
  simp [hj]
/-- the store's own cells -/
def stA (q l : Int) (V : Value) : Array Value := #[.int .i64 q, .int .i64 l, V]
theorem st_build (q l : Int) (w : World) : (Instr.build 103 #[(0, .int .i64 q), (1, .int .i64 l)]).run Tryd.prog w = .ok (.agg (stA q l (.slice none 0 0))) w := by kernel_rfl
theorem new_b (q l : Int) (h1 : 1 ≤ l) (w : World) : Calls Tryd.prog 25 #[.int .i64 q, .int .i64 l] w fun e w' => e = .returned (.pointer (some ⟨w.heap.size, 0, none⟩)) ∧ w'.heap[w.heap.size]? = some (.cells (stA q l (.slice none 0 0)) 103 (0, 0)) ∧ Below w.heap.size w w' := by
  have hm : ∀ w, (Builtin.max_ #[3, 3] 3 #[.int .i64 l, .int .i64 1]).run Tryd.prog w = .ok (.int .i64 l) w := fun w => by
    rw [run_max_int2]
    congr 2
    split
    · omega
    · rfl
  go_enter Tryd.func25, Tryd.ntmps25
  go_wp2_with (first | (refine wpList_build rfl 103 _ rfl #[(0, .int .i64 q), (1, .int .i64 l)] (by kernel_rfl) (.agg (stA q l (.slice none 0 0))) (fun w => st_build q l w) ?_))
  go_ret
  exact ⟨rfl, heap1_0 w _, below_alc w _⟩
end Go.Proofs.YtocjmlncpjfnfaaDoor
