import Derived.Test.YtjgjaefbbhffbaaDoorKit
import Derived.Deep.Slices
/-
  A slice of structs of whole numbers comes in.
-/
namespace Go.Proofs.YtjgjaefbbhffbaaDoor
open Go.RowKit Go.ChangeShapes Go.WideShapes Go.Deep

section
variable {H : Type} {enc : TypeId × Value → H} {P : Program}
/-- the numbers of a slice of structs: field j of element i is g i j -/
def FiRead (w : World) (A : Option Addr) (len m : Nat) (k : IntKind) (g : Nat → Nat → Int) : Prop :=
  0 < len → ∃ b o, A = some ⟨b, o, none⟩ ∧ b < w.heap.size ∧ ∀ i j, i < len → j < m → w.cell? ⟨b, o + (i * m + j), none⟩ = some (.int k (g i j))
theorem FiRead.below {w w' : World} {A : Option Addr} {len m : Nat} {k : IntKind} {g : Nat → Nat → Int} (h : FiRead w A len m k g) (hb : Below w.heap.size w w') : FiRead w' A len m k g := fun hl => by
  obtain ⟨b, o, e, hlt, hc⟩ := h hl
  exact ⟨b, o, e, Nat.lt_of_lt_of_le hlt hb.size, fun i j hi hj => (hb.cell (p := ⟨b, _, none⟩) hlt).trans (hc i j hi hj)⟩
theorem open_fi {t e : TypeId} {fs : Array Field} {k : IntKind} {w : World} {v : Value} {d : DataW H} {p : List MemPlace} {base : Nat} (ht : P.underlying t = some (.slice e)) (he : P.underlying e = some (.struct fs)) (hC : P.cellsOf e = fs.size) (hpos : 0 < fs.size)
    (hfs : ∀ (j : Nat) (f : Field), fs[j]? = some f → f.offset = j ∧ P.cellsOf f.type = 1 ∧ P.underlying f.type = some (.int k))
    (hv : Value.okWide P w .any base t v) (h : DataW.Trod enc P w 0 (fun _ => true) true t v d p) :
    ∃ (A : Option Addr) (len cap : Nat) (g : Nat → Nat → Int), v = .slice A len cap ∧ FiRead w A len fs.size k g ∧ len ≤ cap ∧ cap ≤ maxLen := by
  obtain ⟨a0, len, cap, rfl⟩ := okWide_slice ht hv
  obtain ⟨fuel, hf⟩ := h
  rcases open_slice ht hf with ⟨hcs, hx⟩ | ⟨a, len', cap', m, n, D, Pl, hcs, _, hl, hm, hmm, hx, hi⟩
  · simp [Value.cells] at hcs
    obtain ⟨rfl, rfl, rfl⟩ := hcs
    exact ⟨none, 0, 0, fun _ _ => 0, rfl, fun h => absurd h (Nat.lt_irrefl _), Nat.le_refl _, by simp [maxLen]⟩
  · simp [Value.cells] at hcs
    obtain ⟨rfl, rfl, rfl⟩ := hcs
    have hlm : len ≤ m := by rw [hmm]; split <;> omega
    have each : ∀ i j, i < len → j < fs.size → ∃ z : Int, w.cell? (a.add (i * fs.size + j)) = some (.int k z) := fun i j hil hj => by
      obtain ⟨cs, hc, htr⟩ := hi i (by omega)
      rw [hC] at hc
      obtain ⟨ys, n', _, _, hlen, hyl, hfj⟩ := DataW.trod_struct he htr
      obtain ⟨_, hcl, hat⟩ := World.cells?_some hc
      obtain ⟨o1, o2, o3⟩ := hfs j fs[j] (by simp [hj])
      have h1 := hfj j fs[j] (by simp [hj])
      rw [o1, o2] at h1
      have hjc : j < cs.length := by omega
      have hone : (cs.drop j).take 1 = [cs[j]] := by
        rw [List.drop_eq_getElem_cons hjc]
        rfl
      rw [hone] at h1
      have hys : ys[j]? = some ys[j] := List.getElem?_eq_getElem (by omega)
      rw [hys] at h1
      obtain ⟨z, hz, _, _⟩ := DataW.trod_int o3 h1
      refine ⟨z, ?_⟩
      have hcell := hat j hj
      rw [Go.Deep.add_add] at hcell
      rw [hcell, List.getElem?_eq_getElem hjc]
      simpa using hz
    refine ⟨some a, len, cap, fun i j => if h : i < len ∧ j < fs.size then (each i j h.1 h.2).choose else 0, rfl, fun hlen => ?_, hl, hm⟩
    obtain ⟨b, o, sp⟩ := a
    obtain ⟨z0, h00⟩ := each 0 0 hlen hpos
    have hsp : sp = none := by
      cases sp with
      | none => rfl
      | some s => simp [World.cell?, Addr.add] at h00; split at h00 <;> simp_all
    subst hsp
    have hblt : b < w.heap.size := by
      have := World.block_lt_of_cell? _ _ h00
      rwa [block_of_add] at this
    refine ⟨b, o, rfl, hblt, fun i j hil hj => ?_⟩
    have h1 := (each i j hil hj).choose_spec
    refine (congrArg w.cell? (add_eq b o _).symm).trans (h1.trans ?_)
    simp [hil, hj]
end
end Go.Proofs.YtjgjaefbbhffbaaDoor
