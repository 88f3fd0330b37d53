import Derived.Test.YtffkjbbhbpaacaaDoorKit
import Derived.Deep.Grids
/-
  A slice of bools comes in.
-/
namespace Go.Proofs.YtffkjbbhbpaacaaDoor
open Go.RowKit Go.ChangeShapes Go.WideShapes Go.Deep

section
variable {H : Type} {enc : TypeId × Value → H} {P : Program}
theorem open_bools_rd {t e : TypeId} {w : World} {v : Value} {d : DataW H} {p : List MemPlace} {base : Nat} (ht : P.underlying t = some (.slice e)) (he : P.underlying e = some .bool) (hc : P.cellsOf e = 1)
    (hv : Value.okWide P w .any base t v) (h : DataW.Trod enc P w 0 (fun _ => true) true t v d p) :
    ∃ (A : Option Addr) (bs : List Bool) (cap : Nat), v = .slice A bs.length cap ∧ SlRead w A (bs.map Value.bool) ∧ bs.length ≤ cap ∧ cap ≤ maxLen := by
  obtain ⟨a0, len, cap, rfl⟩ := okWide_slice ht hv
  obtain ⟨fuel, hf⟩ := h
  rcases open_bools ht he hc hf with ⟨hcs, hx⟩ | ⟨a, len', cap', B, hcs, _, hl, hm, hx, hcell⟩
  · simp [Value.cells] at hcs
    obtain ⟨rfl, rfl, rfl⟩ := hcs
    exact ⟨none, [], 0, rfl, fun h => absurd h (by simp), by simp, by simp [maxLen]⟩
  · simp [Value.cells] at hcs
    obtain ⟨rfl, rfl, rfl⟩ := hcs
    have hl2 : ((List.range len).map B).length = len := by simp
    refine ⟨some a, (List.range len).map B, cap, by rw [hl2], ?_, by omega, hm⟩
    intro h0
    have hlen : 0 < len := by simpa using h0
    obtain ⟨b, o, sp⟩ := a
    have h00 : w.cell? ((Addr.mk b o sp).add 0) = some (.bool (B 0)) := hcell 0 (by omega)
    have hsp : sp = none := by
      cases sp with
      | none => rfl
      | some s => simp [World.cell?, Addr.add] at h00; split at h00 <;> simp_all
    subst hsp
    have hblt : b < w.heap.size := by
      have := World.block_lt_of_cell? _ _ h00
      rwa [block_of_add] at this
    refine ⟨b, o, rfl, hblt, fun j u hj => ?_⟩
    have hjl : j < len := by
      have := (List.getElem?_eq_some_iff.1 hj).1
      simpa using this
    have := hcell j (by omega)
    rw [add_eq] at this
    rw [this, ← hj]
    simp [hjl]
end
end Go.Proofs.YtffkjbbhbpaacaaDoor
