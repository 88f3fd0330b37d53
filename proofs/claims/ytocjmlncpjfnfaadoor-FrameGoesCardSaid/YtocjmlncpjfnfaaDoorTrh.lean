import Derived.Test.YtocjmlncpjfnfaaDoorTrg
/-
  Try, where what is called turns what was there.
-/
namespace Go.Proofs.YtocjmlncpjfnfaaDoor
open Go.RowKit

/-- all of the first n blocks but S are as they were -/
structure Oth (S n : Nat) (w w' : World) : Prop where
  os : w'.os = w.os
  tape : w'.tape = w.tape
  output : w'.output = w.output
  size : w.heap.size ≤ w'.heap.size
  block : ∀ q, q < n → q ≠ S → w'.heap[q]? = w.heap[q]?
theorem Oth.of {S n : Nat} {w w' : World} (h : Below n w w') : Oth S n w w' := ⟨h.os, h.tape, h.output, h.size, fun q hq _ => h.block q hq⟩
theorem Oth.trans {S n m : Nat} {a b c : World} (h : Oth S n a b) (k : Oth S m b c) (hn : n ≤ m) : Oth S n a c :=
  ⟨k.os.trans h.os, k.tape.trans h.tape, k.output.trans h.output, Nat.le_trans h.size k.size, fun q hq hs => (k.block q (by omega) hs).trans (h.block q hq hs)⟩
theorem Oth.setCell {S n : Nat} {a w : World} (h : Oth S n a w) (p : Addr) (hp : p.block = S ∨ n ≤ p.block) (v : Value) : Oth S n a (w.setCell p v) := by
  refine ⟨h.os, h.tape, h.output, by simpa [World.setCell] using h.size, fun q hq hs => ?_⟩
  rw [Below.heap_setCell _ _ _ _ (by rcases hp with hp | hp <;> omega)]
  exact h.block q hq hs
theorem Oth.below {S n B : Nat} {a w : World} (h : Oth S n a w) (hS : B ≤ S) (hn : B ≤ n) : Below B a w := ⟨h.os, h.tape, h.output, h.size, fun q hq => h.block q (by omega) (by omega)⟩
theorem Oth.cell {S n : Nat} {a w : World} (h : Oth S n a w) {q : Nat} (i : Nat) (h1 : q < n) (h2 : q ≠ S) : w.cell? ⟨q, i, none⟩ = a.cell? ⟨q, i, none⟩ := World.cell?_of_block (h.block q h1 h2)
theorem Oth.frozen {S n : Nat} {a w : World} (h : Oth S n a w) {q : Nat} (h1 : q < n) (h2 : q ≠ S) : w.frozen? ⟨q, 0, none⟩ = a.frozen? ⟨q, 0, none⟩ := by
  have := h.block q h1 h2
  simp only [World.frozen?, this]
theorem tried_size (w : World) : (tried w).heap.size = w.heap.size + 2 := by simp [tried]
theorem Kept.oth {S : Nat} {w w' : World} (hS : S < w.heap.size) (h : Oth S (w.heap.size + 2) (tried w) w') : Kept w.heap.size w' := by
  refine ⟨(h.cell 0 (by omega) (by omega)).trans ?_, (h.frozen (by omega) (by omega)).trans ?_, (h.cell 0 (by omega) (by omega)).trans ?_, (h.frozen (by omega) (by omega)).trans ?_⟩ <;> simp [tried, go_sem]

set_option maxRecDepth 100000 in
set_option maxHeartbeats 800000 in
/-- f falls: what is told of it -/
theorem try_falls2 (k : FuncId) (cap : Array Value) (w : World) (R : Value → TypeId → Value → World → Prop) (u : TypeId) (hk : ∀ args w, (callFunc k args).run Tryd.prog w = .ok (.enter k args) w)
    (hc : Calls Tryd.prog k cap (tried w) fun e w' => ∃ pv rt rp, e = .panicked [entry (.iface u pv)] ∧ Kept w.heap.size w' ∧ w.heap.size + 2 ≤ w'.heap.size ∧ R pv rt rp w')
    (hcaught : ∀ pv rt rp W, R pv rt rp W → Calls Tryd.prog 86 #[.iface u pv] W fun e w' => e = .returned (.iface rt rp) ∧ Below W.heap.size W w') :
    Calls Tryd.prog 66 #[.func (.func k) #[] cap] w fun e w' => ∃ pv rt rp, e = .returned (.iface rt rp) ∧ ∃ W, R pv rt rp W ∧ Oth w.heap.size W.heap.size W w' := by
  unfold tried at hc
  have hmf : ∀ (fn : Fn) (first cap : Array Value) (w : World), (Instr.makeFunc fn first cap).run Tryd.prog w = .ok (.func fn first cap) w := fun _ _ _ _ => rfl
  go_enter_defers Tryd.func66, Tryd.ntmps66
  go_wp2_with fail
  refine hc.mono ?_
  rintro e W ⟨pv, rt, rp, rfl, hK, hsz, hR⟩
  clear hc hk
  go_wp2_with fail
  refine leaves_cons (f := 85) (args := #[.pointer (some ⟨w.heap.size + 1, 0, none⟩), .pointer (some ⟨w.heap.size, 0, none⟩)]) (by simp) (by simp [go_sem]) ?_
  refine (catch_panic ⟨w.heap.size + 1, 0, none⟩ ⟨w.heap.size, 0, none⟩ u rt pv rp [] W (fun w' => w'.cell? ⟨w.heap.size, 0, none⟩ = some (.iface rt rp) ∧ ∃ V, R pv rt rp V ∧ Oth w.heap.size V.heap.size V w') hK.c1 ?_).mono ?_
  · refine (hcaught pv rt rp W hR).mono ?_
    rintro e w' ⟨rfl, hb⟩
    have c0 : w'.cell? ⟨w.heap.size, 0, none⟩ = some .nilIface := (hb.cell (p := ⟨w.heap.size, 0, none⟩) (show w.heap.size < W.heap.size by omega)).trans hK.c0
    have f0 : w'.frozen? ⟨w.heap.size, 0, none⟩ = false := (hb.frozen (p := ⟨w.heap.size, 0, none⟩) (show w.heap.size < W.heap.size by omega)).trans hK.f0
    have hcell : (w'.setCell ⟨w.heap.size, 0, none⟩ (.iface rt rp)).cell? ⟨w.heap.size, 0, none⟩ = some (.iface rt rp) := by simp [go_sem, c0]
    exact ⟨rfl, ⟨_, c0⟩, f0, hcell, W, hR, Oth.setCell (S := w.heap.size) (Oth.of hb) ⟨w.heap.size, 0, none⟩ (.inl rfl) (.iface rt rp)⟩
  rintro e u' w'' ⟨rfl, rfl, hc0, HB⟩
  have HB := Lib.hid HB
  simp [Leaves, settle, results, Tryd.results66, go_sem, hc0]
  exact ⟨pv, rt, rp, ⟨rfl, rfl⟩, HB.out⟩

set_option maxRecDepth 100000 in
set_option maxHeartbeats 800000 in
/-- Try of nothing to call -/
theorem try_nil (E : Nat → Addr) (w : World) (hE : ErrsAt E w) :
    Calls Tryd.prog 66 #[.nilFunc] w fun e w' => e = .returned (errV (E 5)) ∧ Below w.heap.size w w' := by
  have hmf : ∀ (fn : Fn) (first cap : Array Value) (w : World), (Instr.makeFunc fn first cap).run Tryd.prog w = .ok (.func fn first cap) w := fun _ _ _ _ => rfl
  go_enter_defers Tryd.func66, Tryd.ntmps66
  go_wp2_with fail
  have c1 : (tried w).cell? ⟨w.heap.size + 1, 0, none⟩ = some (.bool false) := by simp [tried, go_sem]
  refine leaves_cons (f := 85) (args := #[.pointer (some ⟨w.heap.size + 1, 0, none⟩), .pointer (some ⟨w.heap.size, 0, none⟩)]) (by simp) (by simp [go_sem]) ?_
  refine (catch_panic ⟨w.heap.size + 1, 0, none⟩ ⟨w.heap.size, 0, none⟩ 10 149 (strVal "invalid memory address or nil pointer dereference") (.pointer (some (E 5))) [] (tried w) (fun w' => w'.cell? ⟨w.heap.size, 0, none⟩ = some (errV (E 5)) ∧ Below w.heap.size w w') c1 ?_).mono ?_
  · refine (caught_other E 10 (by decide) _ (tried w) (hE.below (tried_below w))).mono ?_
    rintro e w' ⟨rfl, hb⟩
    have c0 : w'.cell? ⟨w.heap.size, 0, none⟩ = some .nilIface := (hb.cell (p := ⟨w.heap.size, 0, none⟩) (by rw [tried_size]; show w.heap.size < w.heap.size + 2; omega)).trans (by simp [tried, go_sem])
    have f0 : w'.frozen? ⟨w.heap.size, 0, none⟩ = false := (hb.frozen (p := ⟨w.heap.size, 0, none⟩) (by rw [tried_size]; show w.heap.size < w.heap.size + 2; omega)).trans (by simp [tried, go_sem])
    have hcell : (w'.setCell ⟨w.heap.size, 0, none⟩ (errV (E 5))).cell? ⟨w.heap.size, 0, none⟩ = some (errV (E 5)) := by simp [go_sem, c0]
    have hbel : Below w.heap.size w (w'.setCell ⟨w.heap.size, 0, none⟩ (errV (E 5))) := ((tried_below w).trans (hb.mono (by rw [tried_size]; omega))).setCell (p := ⟨w.heap.size, 0, none⟩) (Nat.le_refl _) _
    exact ⟨rfl, ⟨_, c0⟩, f0, hcell, hbel⟩
  rintro e u' w'' ⟨rfl, rfl, hc0, HB⟩
  have HB := Lib.hid HB
  simp [Leaves, settle, results, Tryd.results66, go_sem, hc0]
  exact HB.out
end Go.Proofs.YtocjmlncpjfnfaaDoor
