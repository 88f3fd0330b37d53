import Derived.Test.YtjgjaefbbhffbaaDoorKit
import Derived.Deep.Slices
/-
  A slice of lists of bytes comes in.
-/
namespace Go.Proofs.YtjgjaefbbhffbaaDoor
open Go.RowKit Go.ChangeShapes Go.WideShapes Go.Deep

section
variable {H : Type} {enc : TypeId × Value → H} {P : Program}
/-- lists of bytes as they lie -/
def SsRead (w : World) (A : Option Addr) (len : Nat) (f : Nat → Option Addr × List Int × Nat) : Prop :=
  0 < len → ∃ b o, A = some ⟨b, o, none⟩ ∧ b < w.heap.size ∧ ∀ i, i < len → w.cell? ⟨b, o + i, none⟩ = some (.slice (f i).1 (f i).2.1.length (f i).2.2) ∧ SlRead w (f i).1 (ints .u8 (f i).2.1)
theorem SsRead.below {w w' : World} {A : Option Addr} {len : Nat} {f : Nat → Option Addr × List Int × Nat} (h : SsRead w A len f) (hb : Below w.heap.size w w') : SsRead w' A len f := fun hl => by
  obtain ⟨b, o, e, hlt, hc⟩ := h hl
  exact ⟨b, o, e, Nat.lt_of_lt_of_le hlt hb.size, fun i hi => ⟨(hb.cell (p := ⟨b, _, none⟩) hlt).trans (hc i hi).1, (hc i hi).2.below hb⟩⟩
theorem open_bytes {e t8 : TypeId} {w : World} {fuel : Nat} {cs : List Value} {x : DataW H × List MemPlace} (he : P.underlying e = some (.slice t8)) (h8 : P.underlying t8 = some (.int .u8)) (hC8 : P.cellsOf t8 = 1)
    (htr : DataW.trod enc P w 0 (fun _ => true) true fuel e cs = some x) : ∃ q : Option Addr × List Int × Nat, cs = [.slice q.1 q.2.1.length q.2.2] ∧ SlRead w q.1 (ints .u8 q.2.1) ∧ (∀ x ∈ q.2.1, (Lit.int .u8 x).wf = true) ∧ q.2.1.length ≤ q.2.2 ∧ q.2.2 ≤ maxLen := by
  rcases open_ints he h8 hC8 htr with ⟨hcs, _⟩ | ⟨a, len, cap, zs, hcs, _, hl, hm, hz, _, hcell, hwz⟩
  · exact ⟨(none, [], 0), by simpa using hcs, SlRead.nil_, by simp, by simp, by simp [maxLen]⟩
  · simp only [if_true] at hz
    have hl2 : (zs.take len).length = len := by simp; omega
    refine ⟨(some a, zs.take len, cap), by rw [hcs, hl2], ?_, fun x hx => hwz x (List.mem_of_mem_take hx), by simp only [hl2]; exact hl, hm⟩
    intro h0
    obtain ⟨b, o, sp⟩ := a
    have h00 : w.cell? ((Addr.mk b o sp).add 0) = some (.int .u8 (zs.getD 0 0)) := hcell 0 (by simp at h0; omega)
    have hsp : sp = none := by
      cases sp with
      | none => rfl
      | some s => simp [World.cell?, Addr.add] at h00; split at h00 <;> simp_all
    subst hsp
    have hblt : b < w.heap.size := by
      have := World.block_lt_of_cell? _ _ h00
      rwa [block_of_add] at this
    refine ⟨b, o, rfl, hblt, fun j u hj => ?_⟩
    have hjl : j < (zs.take len).length := by
      have := List.getElem?_eq_some_iff.1 hj
      simpa [ints] using this.1
    have := hcell j (by omega)
    rw [add_eq] at this
    rw [this, ← hj]
    have hj2 : j < zs.length := by omega
    simp [ints, List.getElem?_take, hj2]
    omega
theorem open_sls {t e t8 : TypeId} {w : World} {v : Value} {d : DataW H} {p : List MemPlace} {base : Nat} (ht : P.underlying t = some (.slice e)) (he : P.underlying e = some (.slice t8)) (h8 : P.underlying t8 = some (.int .u8)) (hC1 : P.cellsOf e = 1) (hC8 : P.cellsOf t8 = 1)
    (hv : Value.okWide P w .any base t v) (h : DataW.Trod enc P w 0 (fun _ => true) true t v d p) :
    ∃ (A : Option Addr) (len cap : Nat) (f : Nat → Option Addr × List Int × Nat), v = .slice A len cap ∧ SsRead w A len f ∧ (∀ i, i < len → ∀ x ∈ (f i).2.1, (Lit.int .u8 x).wf = true) ∧ (∀ i, i < len → (f i).2.1.length ≤ maxLen) ∧ len ≤ cap ∧ cap ≤ maxLen := by
  obtain ⟨a0, len, cap, rfl⟩ := okWide_slice ht hv
  obtain ⟨fuel, hf⟩ := h
  rcases open_slice ht hf with ⟨hcs, hx⟩ | ⟨a, len', cap', m, n, D, Pl, hcs, _, hl, hm, hmm, hx, hi⟩
  · simp [Value.cells] at hcs
    obtain ⟨rfl, rfl, rfl⟩ := hcs
    exact ⟨none, 0, 0, fun _ => (none, [], 0), rfl, fun h => absurd h (Nat.lt_irrefl _), fun i hi => absurd hi (Nat.not_lt_zero _), fun i hi => absurd hi (Nat.not_lt_zero _), Nat.le_refl _, by simp [maxLen]⟩
  · simp [Value.cells] at hcs
    obtain ⟨rfl, rfl, rfl⟩ := hcs
    have hlm : len ≤ m := by rw [hmm]; split <;> omega
    have each : ∀ i, i < len → ∃ q : Option Addr × List Int × Nat, w.cell? (a.add i) = some (.slice q.1 q.2.1.length q.2.2) ∧ SlRead w q.1 (ints .u8 q.2.1) ∧ (∀ x ∈ q.2.1, (Lit.int .u8 x).wf = true) ∧ q.2.1.length ≤ q.2.2 ∧ q.2.2 ≤ maxLen := fun i hil => by
      obtain ⟨cs, hc, htr⟩ := hi i (by omega)
      obtain ⟨q, hq, h2⟩ := open_bytes he h8 hC8 htr
      rw [hC1, Nat.mul_one] at hc
      obtain ⟨_, hcl, hat⟩ := World.cells?_some hc
      have h1 := hat 0 (by omega)
      rw [add_of_add, Nat.add_zero, hq] at h1
      exact ⟨q, by simpa using h1, h2⟩
    refine ⟨some a, len, cap, fun i => if h : i < len then (each i h).choose else (none, [], 0), rfl, fun hlen => ?_, fun i hi => ?_, fun i hi => ?_, hl, hm⟩
    · obtain ⟨b, o, sp⟩ := a
      obtain ⟨q0, h00, _⟩ := each 0 hlen
      have hsp : sp = none := by
        cases sp with
        | none => rfl
        | some s => simp [World.cell?, Addr.add] at h00; split at h00 <;> simp_all
      subst hsp
      have hblt : b < w.heap.size := by
        have := World.block_lt_of_cell? _ _ h00
        rwa [block_of_add] at this
      refine ⟨b, o, rfl, hblt, fun i hil => ?_⟩
      have h1 := (each i hil).choose_spec
      simp only [hil, dif_pos]
      exact ⟨(congrArg w.cell? (add_eq b o _).symm).trans h1.1, h1.2.1⟩
    · have h1 := (each i hi).choose_spec
      simp only [hi, dif_pos]
      exact h1.2.2.1
    · have h1 := (each i hi).choose_spec
      simp only [hi, dif_pos]
      exact Nat.le_trans h1.2.2.2.1 h1.2.2.2.2
end
end Go.Proofs.YtjgjaefbbhffbaaDoor
