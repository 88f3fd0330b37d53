import Derived.Test.YtklooieghlnblaaSkr
import Derived.Laws.AppendOwnNone
/-
  skip: the document's Take, Find.
-/
namespace Go.Proofs.Ytklooieghlnblaa
open Go.RowKit

def zeroD : List Value := zeroE
theorem zero_D (i : TypeInfo) (h : Try.prog.info? 56 = some i) : i.zero = some (.agg zeroE.toArray) := by
  have : (Try.prog.info? 56).bind (·.zero) = some (.agg zeroE.toArray) := by kernel_rfl
  rw [h] at this
  exact this
theorem run_app_D (ty : TypeId) (W : World) (base : Nat) (v : Value) (es fs : List Ent) (hown : W.ownsRow base 56 65 v es.length (cells es)) (A : Option Addr) (c : Nat)
    (hA : SlRead W A (cells fs)) (hn : es.length + fs.length ≤ 2000) (hbase : base ≤ W.heap.size) (hne : A = none → c = 0) :
    ∃ v' w', (Builtin.append_ #[27, 27] ty #[v, .slice A fs.length c]).run Try.prog W = .ok v' w' ∧ w'.ownsRow base 56 65 v' (es ++ fs).length (cells (es ++ fs)) ∧ W.grownBy w' v.ownBlock := by
  obtain ⟨i, hi, hz⟩ := Option.map_eq_some_iff.1 offs_E
  simp only [Prod.mk.injEq] at hz
  rcases A with _ | a
  · have hf : fs = [] := by
      rcases fs with _ | ⟨f, fs⟩
      · rfl
      · obtain ⟨b, o, h, _⟩ := hA (by rw [cells_len]; simp)
        cases h
    subst hf
    obtain rfl := hne rfl
    refine ⟨v, W, run_append_owned_none (P := Try.prog) W base 27 ty 56 i 65 Try.underlying27 hi v es.length (cells es) hown, by rw [List.append_nil]; exact hown, ⟨rfl, rfl, rfl, Nat.le_refl _, fun _ _ _ => rfl⟩⟩
  · obtain ⟨v', w', h1, h2, h3, _⟩ := run_append_own (P := Try.prog) W base 27 ty 56 i (.agg zeroE.toArray) 65 68 Try.underlying27 hi (zero_D i hi) hz.1 hz.2 (by show zeroE.length = 65; exact Ent.ce_len _) (by omega) v es.length (cells es) hown a fs.length c (cells fs) (cells_len fs) (by
      intro j u hu
      obtain ⟨b, o, h, _, hc⟩ := hA (by have := (List.getElem?_eq_some_iff.1 hu).1; omega)
      obtain rfl := Option.some.inj h
      rw [Addr.add_lit]
      exact hc j u hu) (cells_one fs) (by unfold maxLen; omega) (by omega) hbase
    exact ⟨v', w', h1, by rw [cells_app, List.length_append]; exact h2, h3⟩
/-- what the document's methods turn: the one cell -/
def DPost (w : World) (B : Nat) (A : Option Addr) (es es' : List Ent) (r : Value) (e : Ending) (w' : World) : Prop :=
  e = .returned r ∧ ∃ A' c', DkAt w' B A' c' es' ∧ Mod B 0 none w w' ∧ ∀ a, A' = some a → 0 < es'.length → w.heap.size ≤ a.block ∨ (A = some a ∧ 0 < es.length)
theorem dk_of {w w1 : World} {B n : Nat} {A : Option Addr} {c : Nat} {es es' : List Ent} (h : DkAt w B A c es) (hb : Below w.heap.size w w1) {A' : Option Addr} {c' : Nat} (hl : n = es'.length) (ho : w1.ownsRow w.heap.size 56 65 (.slice A' n c') n (cells es')) :
    DkAt (w1.setCell ⟨B, 0, none⟩ (.slice A' n c')) B A' c' es' ∧ Mod B 0 none w (w1.setCell ⟨B, 0, none⟩ (.slice A' n c')) ∧ ∀ a, A' = some a → w.heap.size ≤ a.block := by
  subst hl
  obtain ⟨A2, c2, hv, hc1, hc2, hblk⟩ := own_slice ho
  simp only [Value.slice.injEq, true_and] at hv
  obtain ⟨rfl, rfl⟩ := hv
  have hcB : w1.cell? ⟨B, 0, none⟩ = some (.slice A es.length c) := (hb.cell (p := ⟨B, 0, none⟩) h.lt).trans h.cell
  have hg := grown_setCell w1 ⟨B, 0, none⟩ (.slice A' es'.length c')
  refine ⟨⟨World.cell?_setCell_same w1 _ _ hcB, ?_, ?_, ?_, ⟨hc1, hc2⟩, ?_⟩, ⟨hb.os, hb.tape, hb.output, by simpa [World.setCell] using hb.size, ?_, ?_, ?_⟩, fun a ha => (hblk a ha).1⟩
  · rw [frozen_setCell]
    exact (hb.frozen (p := ⟨B, 0, none⟩) h.lt).trans h.frz
  · refine own_read (ho.kept hg (.inr ?_))
    intro e
    rcases A' with _ | a
    · simp [Value.ownBlock] at e
    · have := (hblk a rfl).1
      have hlt := h.lt
      simp [Value.ownBlock] at e
      omega
  · intro a ha _ e
    have := (hblk a ha).1
    have hlt := h.lt
    omega
  · rintro rfl
    rcases ho.2 with ⟨hv, _⟩ | ⟨_, _, _, hv, _⟩
    · simp only [Value.slice.injEq] at hv
      exact hv.2.2
    · cases hv
  · intro k hk h1 _
    rw [Below.heap_setCell _ _ _ _ h1]
    exact hb.block k hk
  · intro j hj
    rw [World.cell?_setCell_other _ _ _ _ (by intro e; cases e; exact hj rfl)]
    exact hb.cell (p := ⟨B, j, none⟩) h.lt
  · intro j
    rw [frozen_setCell]
    exact hb.frozen (p := ⟨B, j, none⟩) h.lt
theorem bsl_zero (w : World) : (Instr.buildSlice 27 0 #[]).run Try.prog w = .ok (.slice (some ⟨w.heap.size, 0, none⟩) 0 0) (w.alloc (.cells #[] 56)) := by kernel_rfl
theorem slD_to (g p n c k : Nat) (hk : k ≤ c) (w : World) : (Instr.sliceAt 27 (.slice (some ⟨g, p, none⟩) n c) none (some (.int .i64 (k : Int))) none).run Try.prog w = .ok (.slice (some ⟨g, p, none⟩) k c) w := by
  have hu := Try.underlying27
  have e2 : Try.prog.elem 27 = 56 := by simp [Program.elem, hu]
  rw [run_sliceAt_slice w _ _ _ _ _ (by rw [e2]; exact hu), run_slice_h w _ _ _ _ (by rw [e2]; exact hu) _ _ (by omega) (by omega)]
  simp only [e2, size_D, Result.andThen, sliced, Int.toNat_natCast, Nat.sub_zero]
  by_cases h0 : c = 0
  · simp [h0]
  · simp [h0, Addr.add_lit]
def frA (g p c k : Nat) : Addr := if c = k then ⟨g, p, none⟩ else ⟨g, p + k * 65, none⟩
theorem slD_from (g p n c k : Nat) (hk : k ≤ n) (w : World) : (Instr.sliceAt 27 (.slice (some ⟨g, p, none⟩) n c) (some (.int .i64 (k : Int))) none none).run Try.prog w = .ok (.slice (some (frA g p c k)) (n - k) (c - k)) w := by
  have hu := Try.underlying27
  have e2 : Try.prog.elem 27 = 56 := by simp [Program.elem, hu]
  rw [run_sliceAt_slice w _ _ _ _ _ (by rw [e2]; exact hu), run_slice_l w _ _ _ _ (by rw [e2]; exact hu) _ _ (by omega) (by omega)]
  simp only [e2, size_D, Result.andThen, sliced, Int.toNat_natCast, frA]
  by_cases h0 : c = k
  · simp [h0]
  · simp [h0, Addr.add_lit]
theorem read_from {w : World} {g p c k : Nat} {es : List Ent} (h : SlRead w (some ⟨g, p, none⟩) (cells es)) (hk : k ≤ es.length) (hc : es.length ≤ c) : SlRead w (some (frA g p c k)) (cells (es.drop k)) := by
  intro hx
  rw [cells_len, List.length_drop] at hx
  obtain ⟨b, o, hb, hlt, hr⟩ := h (by rw [cells_len]; omega)
  cases hb
  refine ⟨g, p + k * 65, by unfold frA; rw [if_neg (by omega)], hlt, fun j u hu => ?_⟩
  rw [cells_drop, List.getElem?_drop] at hu
  have := hr _ u hu
  rw [show p + k * 65 + j = p + (k * 65 + j) by omega]
  exact this
theorem read_to {w : World} {A : Option Addr} {es : List Ent} (k : Nat) (h : SlRead w A (cells es)) : SlRead w A (cells (es.take k)) := by
  intro hx
  rw [cells_take] at hx ⊢
  obtain ⟨b, o, hb, hlt, hr⟩ := h (by rw [List.length_take] at hx; omega)
  refine ⟨b, o, hb, hlt, fun j u hu => hr j u ?_⟩
  rw [List.getElem?_take] at hu
  split at hu
  · exact hu
  · cases hu
end Go.Proofs.Ytklooieghlnblaa
