import Derived.Test.YtffkjbbhbpaacaaDoorCc
/-
  What may be turned: footprints.
-/
namespace Go.Proofs.YtffkjbbhbpaacaaDoor
open Go.RowKit

/-- what may have been turned -/
structure Turn (F : Nat → Prop) (w w' : World) : Prop where
  os : w'.os = w.os
  tape : w'.tape = w.tape
  output : w'.output = w.output
  size : w.heap.size ≤ w'.heap.size
  block : ∀ k, k < w.heap.size → ¬ F k → w'.heap[k]? = w.heap[k]?
theorem Turn.of_below {F : Nat → Prop} {w w' : World} (h : Below w.heap.size w w') : Turn F w w' := ⟨h.os, h.tape, h.output, h.size, fun k hk _ => h.block k hk⟩
theorem Turn.of_grown {F : Nat → Prop} {w w' : World} {row : Option Nat} (h : w.grownBy w' row) (hr : ∀ k, row = some k → F k) : Turn F w w' := ⟨h.os, h.tape, h.output, h.size, fun k hk hF => h.block k hk (fun e => hF (hr k e.symm))⟩
theorem Turn.trans {F G : Nat → Prop} {a b c : World} (h : Turn F a b) (k : Turn G b c) (hG : ∀ q, G q → F q ∨ a.heap.size ≤ q) : Turn F a c :=
  ⟨k.os.trans h.os, k.tape.trans h.tape, k.output.trans h.output, Nat.le_trans h.size k.size, fun q hq hF => (k.block q (Nat.lt_of_lt_of_le hq h.size) (fun hg => (hG q hg).elim hF (fun h2 => by omega))).trans (h.block q hq hF)⟩
theorem Turn.mono {F G : Nat → Prop} {a b : World} (h : Turn F a b) (hF : ∀ q, F q → G q) : Turn G a b := ⟨h.os, h.tape, h.output, h.size, fun k hk hG => h.block k hk (fun hf => hG (hF k hf))⟩
theorem Turn.below {F : Nat → Prop} {a b : World} {n : Nat} {w0 : World} (h : Turn F a b) (h0 : Below n w0 a) (hn : n ≤ a.heap.size) (hF : ∀ q, F q → n ≤ q) : Below n w0 b :=
  h0.trans ⟨h.os, h.tape, h.output, h.size, fun k hk => h.block k (by omega) (fun hf => by have := hF k hf; omega)⟩
theorem Turn.cell {F : Nat → Prop} {a b : World} (h : Turn F a b) {k o : Nat} (hk : k < a.heap.size) (hF : ¬ F k) : b.cell? ⟨k, o, none⟩ = a.cell? ⟨k, o, none⟩ := World.cell?_of_block (h.block k hk hF)
theorem Turn.range {F : Nat → Prop} {a b : World} (h : Turn F a b) {k o : Nat} {cs : List Value} (hr : a.rangeAt k o cs) (hk : k < a.heap.size) (hF : ¬ F k) : b.rangeAt k o cs := fun j v hv => (h.cell hk hF).trans (hr j v hv)
end Go.Proofs.YtffkjbbhbpaacaaDoor
