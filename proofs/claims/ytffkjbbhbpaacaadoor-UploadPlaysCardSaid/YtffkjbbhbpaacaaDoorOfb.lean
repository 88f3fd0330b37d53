import Derived.Test.YtffkjbbhbpaacaaDoorKit
import Derived.Deep.Slices
/-
  A slice of structs of three ints and a bool comes in.
-/
namespace Go.Proofs.YtffkjbbhbpaacaaDoor
open Go.RowKit Go.ChangeShapes Go.WideShapes Go.Deep

section
variable {H : Type} {enc : TypeId × Value → H} {P : Program}
/-- the fields of a slice of structs of three whole numbers and a bool -/
structure FbRead (w : World) (A : Option Addr) (len : Nat) (g : Nat → Nat → Int) (fl : Nat → Bool) : Prop where
  r : 0 < len → ∃ b o, A = some ⟨b, o, none⟩ ∧ b < w.heap.size ∧ (∀ i j, i < len → j < 3 → w.cell? ⟨b, o + (i * 4 + j), none⟩ = some (.int .i64 (g i j))) ∧ ∀ i, i < len → w.cell? ⟨b, o + (i * 4 + 3), none⟩ = some (.bool (fl i))
theorem FbRead.below {w w' : World} {A : Option Addr} {len : Nat} {g : Nat → Nat → Int} {fl : Nat → Bool} (h : FbRead w A len g fl) (hb : Below w.heap.size w w') : FbRead w' A len g fl := ⟨fun hl => by
  obtain ⟨b, o, e, hlt, hc, hd⟩ := h.r hl
  exact ⟨b, o, e, Nat.lt_of_lt_of_le hlt hb.size, fun i j hi hj => (hb.cell (p := ⟨b, _, none⟩) hlt).trans (hc i j hi hj), fun i hi => (hb.cell (p := ⟨b, _, none⟩) hlt).trans (hd i hi)⟩⟩
theorem open_fb {t e ti tb : TypeId} {fs : Array Field} {w : World} {v : Value} {d : DataW H} {p : List MemPlace} {base : Nat} (ht : P.underlying t = some (.slice e)) (he : P.underlying e = some (.struct fs)) (hti : P.underlying ti = some (.int .i64)) (htb : P.underlying tb = some .bool) (hC : P.cellsOf e = 4) (hci : P.cellsOf ti = 1) (hcb : P.cellsOf tb = 1) (hsz : fs.size = 4)
    (hfi : ∀ (j : Nat) (f : Field), j < 3 → fs[j]? = some f → f.offset = j ∧ f.type = ti) (hfb : ∀ f : Field, fs[3]? = some f → f.offset = 3 ∧ f.type = tb)
    (hv : Value.okWide P w .any base t v) (h : DataW.Trod enc P w 0 (fun _ => true) true t v d p) :
    ∃ (A : Option Addr) (len cap : Nat) (g : Nat → Nat → Int) (fl : Nat → Bool), v = .slice A len cap ∧ FbRead w A len g fl ∧ len ≤ cap ∧ cap ≤ maxLen := by
  obtain ⟨a0, len, cap, rfl⟩ := okWide_slice ht hv
  obtain ⟨fuel, hf⟩ := h
  rcases open_slice ht hf with ⟨hcs, hx⟩ | ⟨a, len', cap', m, n, D, Pl, hcs, _, hl, hm, hmm, hx, hi⟩
  · simp [Value.cells] at hcs
    obtain ⟨rfl, rfl, rfl⟩ := hcs
    exact ⟨none, 0, 0, fun _ _ => 0, fun _ => false, rfl, ⟨fun h => absurd h (Nat.lt_irrefl _)⟩, Nat.le_refl _, by simp [maxLen]⟩
  · simp [Value.cells] at hcs
    obtain ⟨rfl, rfl, rfl⟩ := hcs
    have hlm : len ≤ m := by rw [hmm]; split <;> omega
    have each : ∀ i j, i < len → j < 4 → ∃ u : Value, w.cell? (a.add (i * 4 + j)) = some u ∧ (j < 3 → ∃ z : Int, u = .int .i64 z) ∧ (j = 3 → ∃ z : Bool, u = .bool z) := fun i j hil hj => by
      obtain ⟨cs, hc, htr⟩ := hi i (by omega)
      rw [hC] at hc
      obtain ⟨ys, n', _, _, hlen, hyl, hfj⟩ := DataW.trod_struct he htr
      obtain ⟨_, hcl, hat⟩ := World.cells?_some hc
      have h1 := hfj j fs[j] (by simp [hsz, hj])
      have hjc : j < cs.length := by omega
      have hone : (cs.drop j).take 1 = [cs[j]] := by
        rw [List.drop_eq_getElem_cons hjc]
        rfl
      have hys : ys[j]? = some ys[j] := List.getElem?_eq_getElem (by omega)
      have hcell := hat j hj
      rw [Go.Deep.add_add] at hcell
      refine ⟨cs[j], by rw [hcell, List.getElem?_eq_getElem hjc], fun hj3 => ?_, fun hj3 => ?_⟩
      · obtain ⟨o1, o2⟩ := hfi j fs[j] hj3 (by simp [hsz, hj])
        rw [o1, o2, hci, hone, hys] at h1
        obtain ⟨z, hz, _, _⟩ := DataW.trod_int hti h1
        exact ⟨z, by simpa using hz⟩
      · obtain ⟨o1, o2⟩ := hfb fs[j] (by subst hj3; simp [hsz])
        rw [o1, o2, hcb, ← hj3, hone, hys] at h1
        obtain ⟨z, hz, _⟩ := DataW.trod_bool htb h1
        exact ⟨z, by simpa using hz⟩
    have eachI : ∀ i j, i < len → j < 3 → ∃ z : Int, w.cell? (a.add (i * 4 + j)) = some (.int .i64 z) := fun i j hil hj => by
      obtain ⟨u, hu, h1, _⟩ := each i j hil (by omega)
      obtain ⟨z, rfl⟩ := h1 hj
      exact ⟨z, hu⟩
    have eachB : ∀ i, i < len → ∃ z : Bool, w.cell? (a.add (i * 4 + 3)) = some (.bool z) := fun i hil => by
      obtain ⟨u, hu, _, h1⟩ := each i 3 hil (by omega)
      obtain ⟨z, rfl⟩ := h1 rfl
      exact ⟨z, hu⟩
    refine ⟨some a, len, cap, fun i j => if h : i < len ∧ j < 3 then (eachI i j h.1 h.2).choose else 0, fun i => if h : i < len then (eachB i h).choose else false, rfl, ⟨fun hlen => ?_⟩, hl, hm⟩
    obtain ⟨b, o, sp⟩ := a
    obtain ⟨z0, h00⟩ := eachI 0 0 hlen (by omega)
    have hsp : sp = none := by
      cases sp with
      | none => rfl
      | some s => simp [World.cell?, Addr.add] at h00; split at h00 <;> simp_all
    subst hsp
    have hblt : b < w.heap.size := by
      have := World.block_lt_of_cell? _ _ h00
      rwa [block_of_add] at this
    refine ⟨b, o, rfl, hblt, fun i j hil hj => ?_, fun i hil => ?_⟩
    · have h1 := (eachI i j hil hj).choose_spec
      refine (congrArg w.cell? (add_eq b o _).symm).trans (h1.trans ?_)
      simp [hil, hj]
    · have h1 := (eachB i hil).choose_spec
      refine (congrArg w.cell? (add_eq b o _).symm).trans (h1.trans ?_)
      simp [hil]
end
end Go.Proofs.YtffkjbbhbpaacaaDoor
