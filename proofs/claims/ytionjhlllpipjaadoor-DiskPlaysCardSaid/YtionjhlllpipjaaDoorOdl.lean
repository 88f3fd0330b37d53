import Derived.Test.YtionjhlllpipjaaDoorKit
import Derived.Deep.Slices
/-
  A slice of structs of three whole numbers and a slice of whole numbers comes in.
-/
namespace Go.Proofs.YtionjhlllpipjaaDoor
open Go.RowKit Go.ChangeShapes Go.WideShapes Go.Deep

section
variable {H : Type} {enc : TypeId × Value → H} {P : Program}
structure DoV where
  a : Int
  b : Int
  c : Int
  A : Option Addr
  l : List Int
  k : Nat
/-- the things as they lie -/
def DlRead (w : World) (A : Option Addr) (len : Nat) (f : Nat → DoV) : Prop :=
  0 < len → ∃ b o, A = some ⟨b, o, none⟩ ∧ b < w.heap.size ∧ ∀ i, i < len → w.cell? ⟨b, o + i * 4, none⟩ = some (.int .i64 (f i).a) ∧ w.cell? ⟨b, o + i * 4 + 1, none⟩ = some (.int .i64 (f i).b) ∧ w.cell? ⟨b, o + i * 4 + 2, none⟩ = some (.int .i64 (f i).c) ∧ w.cell? ⟨b, o + i * 4 + 3, none⟩ = some (.slice (f i).A (f i).l.length (f i).k) ∧ SlRead w (f i).A (ints .i64 (f i).l)
theorem DlRead.below {w w' : World} {A : Option Addr} {len : Nat} {f : Nat → DoV} (h : DlRead w A len f) (hb : Below w.heap.size w w') : DlRead w' A len f := fun hl => by
  obtain ⟨b, o, e, hlt, hc⟩ := h hl
  refine ⟨b, o, e, Nat.lt_of_lt_of_le hlt hb.size, fun i hi => ?_⟩
  obtain ⟨h0, h1, h2, h3, h4⟩ := hc i hi
  exact ⟨(hb.cell (p := ⟨b, _, none⟩) hlt).trans h0, (hb.cell (p := ⟨b, _, none⟩) hlt).trans h1, (hb.cell (p := ⟨b, _, none⟩) hlt).trans h2, (hb.cell (p := ⟨b, _, none⟩) hlt).trans h3, h4.below hb⟩
theorem open_intsL {e ti : TypeId} {k : IntKind} {w : World} {fuel : Nat} {cs : List Value} {x : DataW H × List MemPlace} (he : P.underlying e = some (.slice ti)) (h8 : P.underlying ti = some (.int k)) (hC8 : P.cellsOf ti = 1)
    (htr : DataW.trod enc P w 0 (fun _ => true) true fuel e cs = some x) : ∃ (A : Option Addr) (l : List Int) (c : Nat), cs = [.slice A l.length c] ∧ SlRead w A (ints k l) ∧ (∀ x ∈ l, (Lit.int k x).wf = true) ∧ l.length ≤ c ∧ c ≤ maxLen := by
  rcases open_ints he h8 hC8 htr with ⟨hcs, _⟩ | ⟨a, len, cap, zs, hcs, _, hl, hm, hz, _, hcell, hwz⟩
  · exact ⟨none, [], 0, by simpa using hcs, SlRead.nil_, by simp, by simp, by simp [maxLen]⟩
  · simp only [if_true] at hz
    have hl2 : (zs.take len).length = len := by simp; omega
    refine ⟨some a, zs.take len, cap, by rw [hcs, hl2], ?_, fun x hx => hwz x (List.mem_of_mem_take hx), by simp only [hl2]; exact hl, hm⟩
    intro h0
    obtain ⟨b, o, sp⟩ := a
    have h00 : w.cell? ((Addr.mk b o sp).add 0) = some (.int k (zs.getD 0 0)) := hcell 0 (by simp at h0; omega)
    have hsp : sp = none := by
      cases sp with
      | none => rfl
      | some s => simp [World.cell?, Addr.add] at h00; split at h00 <;> simp_all
    subst hsp
    have hblt : b < w.heap.size := by
      have := World.block_lt_of_cell? _ _ h00
      rwa [block_of_add] at this
    refine ⟨b, o, rfl, hblt, fun j u hj => ?_⟩
    have hjl : j < (zs.take len).length := by
      have := List.getElem?_eq_some_iff.1 hj
      simpa [ints] using this.1
    have := hcell j (by omega)
    rw [add_eq] at this
    rw [this, ← hj]
    have hj2 : j < zs.length := by omega
    simp [ints, List.getElem?_take, hj2]
    omega
theorem open_dl {t e ti ts : TypeId} {fs : Array Field} {w : World} {v : Value} {d : DataW H} {p : List MemPlace} {base : Nat} (ht : P.underlying t = some (.slice e)) (he : P.underlying e = some (.struct fs)) (hts : P.underlying ts = some (.slice ti)) (hti : P.underlying ti = some (.int .i64)) (hC : P.cellsOf e = 4) (hCi : P.cellsOf ti = 1) (hCs : P.cellsOf ts = 1)
    (f0 : ∃ f, fs[0]? = some f ∧ f.offset = 0 ∧ f.type = ti) (f1 : ∃ f, fs[1]? = some f ∧ f.offset = 1 ∧ f.type = ti) (f2 : ∃ f, fs[2]? = some f ∧ f.offset = 2 ∧ f.type = ti) (f3 : ∃ f, fs[3]? = some f ∧ f.offset = 3 ∧ f.type = ts)
    (hv : Value.okWide P w .any base t v) (h : DataW.Trod enc P w 0 (fun _ => true) true t v d p) :
    ∃ (A : Option Addr) (len cap : Nat) (f : Nat → DoV), v = .slice A len cap ∧ DlRead w A len f ∧ (∀ i, i < len → (Lit.int .i64 (f i).a).wf = true ∧ (Lit.int .i64 (f i).b).wf = true ∧ (Lit.int .i64 (f i).c).wf = true ∧ (∀ x ∈ (f i).l, (Lit.int .i64 x).wf = true) ∧ (f i).l.length ≤ (f i).k ∧ (f i).k ≤ maxLen) ∧ len ≤ cap ∧ cap ≤ maxLen := by
  obtain ⟨a0, len, cap, rfl⟩ := okWide_slice ht hv
  obtain ⟨fuel, hf⟩ := h
  rcases open_slice ht hf with ⟨hcs, hx⟩ | ⟨a, len', cap', m, n, D, Pl, hcs, _, hl, hm, hmm, hx, hi⟩
  · simp [Value.cells] at hcs
    obtain ⟨rfl, rfl, rfl⟩ := hcs
    exact ⟨none, 0, 0, fun _ => ⟨0, 0, 0, none, [], 0⟩, rfl, fun h => absurd h (Nat.lt_irrefl _), fun i hi => absurd hi (Nat.not_lt_zero _), Nat.le_refl _, by simp [maxLen]⟩
  · simp [Value.cells] at hcs
    obtain ⟨rfl, rfl, rfl⟩ := hcs
    have hlm : len ≤ m := by rw [hmm]; split <;> omega
    obtain ⟨g0, e0, o0, t0⟩ := f0
    obtain ⟨g1, e1, o1, t1⟩ := f1
    obtain ⟨g2, e2, o2, t2⟩ := f2
    obtain ⟨g3, e3, o3, t3⟩ := f3
    have each : ∀ i, i < len → ∃ q : DoV, (w.cell? (a.add (i * 4)) = some (.int .i64 q.a) ∧ w.cell? (a.add (i * 4 + 1)) = some (.int .i64 q.b) ∧ w.cell? (a.add (i * 4 + 2)) = some (.int .i64 q.c) ∧ w.cell? (a.add (i * 4 + 3)) = some (.slice q.A q.l.length q.k) ∧ SlRead w q.A (ints .i64 q.l)) ∧
        (Lit.int .i64 q.a).wf = true ∧ (Lit.int .i64 q.b).wf = true ∧ (Lit.int .i64 q.c).wf = true ∧ (∀ x ∈ q.l, (Lit.int .i64 x).wf = true) ∧ q.l.length ≤ q.k ∧ q.k ≤ maxLen := fun i hil => by
      obtain ⟨cs, hc, htr⟩ := hi i (by omega)
      rw [hC] at hc
      obtain ⟨ys, n', _, _, hlen, hyl, hfj⟩ := DataW.trod_struct he htr
      obtain ⟨_, hcl, hat⟩ := World.cells?_some hc
      have b3 : 3 < fs.size := (Array.getElem?_eq_some_iff.1 e3).1
      have y : ∀ j (hj : j < 4), ys[j]? = some (ys[j]'(by omega)) := fun j hj => List.getElem?_eq_getElem (by omega)
      have h0 := hfj 0 g0 e0
      have h1 := hfj 1 g1 e1
      have h2 := hfj 2 g2 e2
      have h3 := hfj 3 g3 e3
      rw [o0, t0, hCi, y 0 (by omega)] at h0
      rw [o1, t1, hCi, y 1 (by omega)] at h1
      rw [o2, t2, hCi, y 2 (by omega)] at h2
      rw [o3, t3, hCs, y 3 (by omega)] at h3
      have one : ∀ j (hj : j < 4), (cs.drop j).take 1 = [cs[j]'(by omega)] := fun j hj => by
        rw [List.drop_eq_getElem_cons (by omega)]
        rfl
      rw [one 0 (by omega)] at h0
      rw [one 1 (by omega)] at h1
      rw [one 2 (by omega)] at h2
      rw [one 3 (by omega)] at h3
      have cell : ∀ j (hj : j < 4), w.cell? (a.add (i * 4 + j)) = some (cs[j]'(by omega)) := fun j hj => by
        have hcell := hat j hj
        rw [Go.Deep.add_add] at hcell
        rw [hcell, List.getElem?_eq_getElem (by omega)]
      obtain ⟨z0, hz0, _, hw0⟩ := DataW.trod_int hti h0
      obtain ⟨z1, hz1, _, hw1⟩ := DataW.trod_int hti h1
      obtain ⟨z2, hz2, _, hw2⟩ := DataW.trod_int hti h2
      obtain ⟨A3, l3, c3, hz3, hr3, hx3, hl3, hm3⟩ := open_intsL hts hti hCi h3
      have k0 := cell 0 (by omega)
      have k1 := cell 1 (by omega)
      have k2 := cell 2 (by omega)
      have k3 := cell 3 (by omega)
      simp only [List.cons.injEq, and_true] at hz0 hz1 hz2 hz3
      rw [hz0] at k0
      rw [hz1] at k1
      rw [hz2] at k2
      rw [hz3] at k3
      exact ⟨⟨z0, z1, z2, A3, l3, c3⟩, ⟨k0, k1, k2, k3, hr3⟩, hw0, hw1, hw2, hx3, hl3, hm3⟩
    refine ⟨some a, len, cap, fun i => if h : i < len then (each i h).choose else ⟨0, 0, 0, none, [], 0⟩, rfl, fun hlen => ?_, fun i hi => ?_, hl, hm⟩
    · obtain ⟨b, o, sp⟩ := a
      obtain ⟨q0, h00, _⟩ := each 0 hlen
      have h00 := h00.1
      have hsp : sp = none := by
        cases sp with
        | none => rfl
        | some s => simp [World.cell?, Addr.add] at h00; split at h00 <;> simp_all
      subst hsp
      have hblt : b < w.heap.size := by
        have := World.block_lt_of_cell? _ _ h00
        rwa [block_of_add] at this
      refine ⟨b, o, rfl, hblt, fun i hil => ?_⟩
      have h1 := (each i hil).choose_spec.1
      simp only [hil, dif_pos]
      have ad : ∀ j, w.cell? ⟨b, o + i * 4 + j, none⟩ = w.cell? ((Addr.mk b o none).add (i * 4 + j)) := fun j => by rw [add_eq, Nat.add_assoc]
      exact ⟨(ad 0).trans h1.1, (ad 1).trans h1.2.1, (ad 2).trans h1.2.2.1, (ad 3).trans h1.2.2.2.1, h1.2.2.2.2⟩
    · have h1 := (each i hi).choose_spec.2
      simp only [hi, dif_pos]
      exact h1
end
end Go.Proofs.YtionjhlllpipjaaDoor
