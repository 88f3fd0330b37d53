import Derived.Test.YtffkjbbhbpaacaaDoorW8
namespace Go.Proofs.YtffkjbbhbpaacaaDoor
open Go.RowKit

/-- an array of bytes as a value's cells -/
def arr8 (n : Nat) (f : Nat → BitVec 8) : Array Value := ((List.range n).map fun i => v8 (f i)).toArray
@[simp] theorem arr8_size (n : Nat) (f : Nat → BitVec 8) : (arr8 n f).size = n := by simp [arr8]
theorem arr8_get (n : Nat) (f : Nat → BitVec 8) (i : Nat) (h : i < n) : (arr8 n f)[i]? = some (v8 (f i)) := by simp [arr8, h]
def arr32 (n : Nat) (f : Nat → BitVec 32) : Array Value := ((List.range n).map fun i => v32 (f i)).toArray
@[simp] theorem arr32_size (n : Nat) (f : Nat → BitVec 32) : (arr32 n f).size = n := by simp [arr32]
theorem arr32_get (n : Nat) (f : Nat → BitVec 32) (i : Nat) (h : i < n) : (arr32 n f)[i]? = some (v32 (f i)) := by simp [arr32, h]

theorem rowIs_arr {w : World} {b : Nat} {t : TypeId} {cs : Array Value} {n : Nat} {f : Nat → Value} (hb : w.heap[b]? = some (.cells cs t (0, 0))) (hn : cs.size = n) (hf : ∀ i, i < n → cs[i]? = some (f i)) : w.rowIs b t n f := ⟨cs, hb, hn, hf⟩

theorem rowIs_heap8 {w : World} {b : Nat} {t : TypeId} {n : Nat} {f : Nat → BitVec 8} (h : w.rowIs b t n (fun i => v8 (f i))) : w.heap[b]? = some (.cells (arr8 n f) t (0, 0)) := by
  obtain ⟨c, hb, hn, hc⟩ := h
  rw [hb]
  have : c = arr8 n f := by
    apply Array.ext
    · simp [hn]
    · intro i h1 h2
      have e1 := hc i (by omega)
      have e2 := arr8_get n f i (by omega)
      rw [Array.getElem?_eq_getElem h1] at e1
      rw [Array.getElem?_eq_getElem h2] at e2
      exact Option.some.inj (e1.trans e2.symm)
  rw [this]
theorem rowIs_heap32 {w : World} {b : Nat} {t : TypeId} {n : Nat} {f : Nat → BitVec 32} (h : w.rowIs b t n (fun i => v32 (f i))) : w.heap[b]? = some (.cells (arr32 n f) t (0, 0)) := by
  obtain ⟨c, hb, hn, hc⟩ := h
  rw [hb]
  have : c = arr32 n f := by
    apply Array.ext
    · simp [hn]
    · intro i h1 h2
      have e1 := hc i (by omega)
      have e2 := arr32_get n f i (by omega)
      rw [Array.getElem?_eq_getElem h1] at e1
      rw [Array.getElem?_eq_getElem h2] at e2
      exact Option.some.inj (e1.trans e2.symm)
  rw [this]
theorem arr8_one (n : Nat) (f : Nat → BitVec 8) : (arr8 n f).all (·.oneCell') = true := by
  rw [Array.all_eq_true_iff_forall_mem]
  intro v hv
  simp [arr8] at hv
  obtain ⟨i, _, rfl⟩ := hv
  rfl
theorem arr32_one (n : Nat) (f : Nat → BitVec 32) : (arr32 n f).all (·.oneCell') = true := by
  rw [Array.all_eq_true_iff_forall_mem]
  intro v hv
  simp [arr32] at hv
  obtain ⟨i, _, rfl⟩ := hv
  rfl

theorem zero_row (n : Nat) : ∀ i, i < n → (Array.replicate n (Value.int IntKind.u32 0))[i]? = some (.int .u32 0) := by
  intro i hi; simp [hi]

end Go.Proofs.YtffkjbbhbpaacaaDoor
