import Derived.Test.YtffkjbbhbpaacaaGreatDoorCok
/-
  How a function within ends; variables that it turns (as XCol has it, for seats without courierlaw11).
-/
namespace Go.Proofs.YtffkjbbhbpaacaaGreatDoor
open Go.RowKit

theorem EndsAs.fell {E : Nat → Addr} {R : Nat} {A : Option Addr} {xs : List Int} {c lo k : Nat} {z : Int} {e : Ending} {W w : World} (h : FellAt E W k z e w) (hk : k < 19) (hlo : lo ≤ W.heap.size) : EndsAs E R A xs c lo (some (k, z)) e w := by
  obtain ⟨bt, h1, h2, h3, _⟩ := h
  exact .inr ⟨bt, k, z, h1, Nat.le_trans hlo h2, hk, h3, rfl⟩
theorem FellAt.below {E : Nat → Addr} {W w : World} {j : Nat} {z : Int} {e : Ending} (h : FellAt E W j z e w) : Below W.heap.size W w := by
  obtain ⟨_, _, _, _, hb⟩ := h
  exact hb
theorem set_turn (w : World) (B o : Nat) (u : Value) : Turn (· = B) w (w.setCell ⟨B, o, none⟩ u) := Turn.of_grown (grown_setCell w _ _) (fun _ hk => (Option.some.inj hk).symm)
/-- a variable that a function within may turn -/
structure VarS (w : World) (B : Nat) (v : Value) : Prop where
  c : w.cell? ⟨B, 0, none⟩ = some v
  f : w.frozen? ⟨B, 0, none⟩ = false
theorem VarS.lt {w : World} {B : Nat} {v : Value} (h : VarS w B v) : B < w.heap.size := cell_lt h.c
theorem VarS.turn {F : Nat → Prop} {w w' : World} {B : Nat} {v : Value} (h : VarS w B v) (ht : Turn F w w') (hF : ¬ F B) : VarS w' B v := ⟨(ht.cell h.lt hF).trans h.c, (World.frozen?_of_block (ht.block B h.lt hF)).trans h.f⟩
theorem VarS.below {w w' : World} {B : Nat} {v : Value} (h : VarS w B v) (hb : Below w.heap.size w w') : VarS w' B v := h.turn (Turn.of_below (F := fun _ => False) hb) id
theorem VarS.set {w : World} {B : Nat} {v : Value} (h : VarS w B v) (u : Value) : VarS (w.setCell ⟨B, 0, none⟩ u) B u := ⟨World.cell?_setCell_same w _ _ h.c, by rw [frozen_setCell]; exact h.f⟩
theorem Turn.sub {F G : Nat → Prop} {a b : World} (h : Turn F a b) (hF : ∀ q, F q → G q) : Turn G a b := h.mono hF
theorem Turn.and {F : Nat → Prop} {a b c : World} (h : Turn F a b) (h2 : Turn F b c) : Turn F a c := h.trans h2 (fun _ hq => .inl hq)
end Go.Proofs.YtffkjbbhbpaacaaGreatDoor
