import Derived.Test.YtkhbhfnfpognpaaKit
import Derived.Deep.Slices
/-
  A slice of structs of one number comes in.
-/
namespace Go.Proofs.Ytkhbhfnfpognpaa
open Go.RowKit Go.ChangeShapes Go.WideShapes Go.Deep

section
variable {H : Type} {enc : TypeId × Value → H} {P : Program}
theorem open_f1 {t e : TypeId} {f0 : Field} {k : IntKind} {w : World} {v : Value} {d : DataW H} {p : List MemPlace} {base : Nat} (ht : P.underlying t = some (.slice e)) (he : P.underlying e = some (.struct #[f0])) (h0 : P.underlying f0.type = some (.int k)) (hc : P.cellsOf e = 1) (o0 : f0.offset = 0) (c0 : P.cellsOf f0.type = 1)
    (hv : Value.okWide P w .any base t v) (h : DataW.Trod enc P w 0 (fun _ => true) true t v d p) :
    ∃ (A : Option Addr) (xs : List Int) (cap : Nat), v = .slice A xs.length cap ∧ SlRead w A (ints k xs) ∧ (∀ x ∈ xs, (Lit.int k x).wf = true) ∧ xs.length ≤ cap ∧ cap ≤ maxLen := by
  obtain ⟨a0, len, cap, rfl⟩ := okWide_slice ht hv
  obtain ⟨fuel, hf⟩ := h
  rcases open_slice1 ht hc hf with ⟨hcs, hx⟩ | ⟨a, len', cap', m, n, V, D, Pl, hcs, _, hl, hm, hmm, hx, hV⟩
  · simp [Value.cells] at hcs
    obtain ⟨rfl, rfl, rfl⟩ := hcs
    exact ⟨none, [], 0, rfl, fun h => absurd h (by simp [ints]), by simp, by simp, by simp [maxLen]⟩
  · simp [Value.cells] at hcs
    obtain ⟨rfl, rfl, rfl⟩ := hcs
    have hlm : len ≤ m := by rw [hmm]; split <;> omega
    have each : ∀ i, i < len → ∃ z : Int, V i = .int k z ∧ (Lit.int k z).wf = true := fun i hi => by
      obtain ⟨_, h2⟩ := hV i (by omega)
      obtain ⟨xs, n', _, _, _, hxl, hf2⟩ := DataW.trod_struct he h2
      have g := hf2 0 f0 rfl
      simp [o0, c0] at g
      obtain ⟨y, hy⟩ : ∃ y, xs[0]? = some y := ⟨xs[0]'(by rw [hxl]; simp), by simp⟩
      rw [hy] at g
      obtain ⟨z, hz, _, hw⟩ := DataW.trod_int h0 g
      exact ⟨z, by simpa using hz, hw⟩
    refine ⟨some a, (List.range len).map fun i => if h : i < len then (each i h).choose else 0, cap, by simp, ?_, ?_, by simpa using hl, hm⟩
    · intro hn
      have hlen : 0 < len := by simpa [ints] using hn
      obtain ⟨b, o, sp⟩ := a
      have h00 := (hV 0 (by omega)).1
      have hsp : sp = none := by
        cases sp with
        | none => rfl
        | some s => simp [World.cell?, Addr.add] at h00; split at h00 <;> simp_all
      subst hsp
      have hblt : b < w.heap.size := by
        have := World.block_lt_of_cell? _ _ h00
        rwa [block_of_add] at this
      refine ⟨b, o, rfl, hblt, fun j u hj => ?_⟩
      have hjl : j < len := by
        have := (List.getElem?_eq_some_iff.1 hj).1
        simpa [ints] using this
      have h1 := (hV j (by omega)).1
      rw [add_eq] at h1
      rw [h1, ← hj]
      simp [ints, hjl]
      exact (each j hjl).choose_spec.1
    · intro x hx
      obtain ⟨i, hi, rfl⟩ := List.mem_map.1 hx
      have hil := List.mem_range.1 hi
      rw [dif_pos hil]
      exact (each i hil).choose_spec.2
end
end Go.Proofs.Ytkhbhfnfpognpaa
