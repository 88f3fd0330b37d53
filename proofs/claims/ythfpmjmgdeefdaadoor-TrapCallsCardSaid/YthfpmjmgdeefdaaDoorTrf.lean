import Derived.Test.YthfpmjmgdeefdaaDoorTre
import Derived.Test.YthfpmjmgdeefdaaDoorTrdoor
/-
  TrapCalls: what it says, for every list.
-/
namespace Go.Proofs.YthfpmjmgdeefdaaDoor
open Go.RowKit

set_option maxRecDepth 100000 in
theorem callsIn_any (E : Nat → Addr) (A : Option Addr) (xs : List Int) (cap : Nat) (bl : Nat) (w : World) (hl : w.cell? ⟨bl, 0, none⟩ = some (.slice A xs.length cap)) (hS : SlRead w A (ints .i64 xs)) (hE : ErrsAt E w) (hlen : xs.length ≤ 30) :
    Calls Tryd.prog 14 #[.pointer (some ⟨bl, 0, none⟩)] w fun e w' => e = .returned (.bool true) ∧ Below w.heap.size w w' := by
  go_enter Tryd.func14, Tryd.ntmps14
  go_wp2_with fail
  refine (calls_any E A xs cap w hS hE hlen).mono ?_
  rintro e W1 ⟨rfl, hb1⟩
  go_wp2_with fail
  go_ret
  exact ⟨rfl, hb1⟩

set_option maxRecDepth 100000 in
theorem calls_walk (A : Option Addr) (xs : List Int) (cap : Nat) (w : World) (hS : SlRead w A (ints .i64 xs)) (E : Nat → Addr) (hE : ErrsAt E w) :
    Calls Tryd.prog 5 #[.slice A xs.length cap] w fun e w' => e = .returned (.bool true) ∧ Below w.heap.size w w' := by
  go_enter Tryd.func5, Tryd.ntmps5
  go_wp2_with fail
  have hb0 : Below w.heap.size w (w.alloc (.cells #[.slice A xs.length cap] 33)) := (Below.refl _ _).alloc (Nat.le_refl _) _
  have hc0 : (w.alloc (.cells #[.slice A xs.length cap] 33)).cell? ⟨w.heap.size, 0, none⟩ = some (.slice A xs.length cap) := by simp [go_sem]
  refine (first_any E _ (hE.below hb0)).mono ?_
  rintro e W1 ⟨rfl, hb1⟩
  have hl1 := (World.cell?_of_block (hb1.block w.heap.size (by simp))).trans hc0
  have hB1 := hb0.trans (hb1.mono hb0.size)
  have hS1 := hS.below hB1
  have hE1 := hE.below hB1
  clear hb0 hc0 hb1 hE hS
  have HB := Lib.hid hB1
  have hsz := Lib.hid hB1.size
  clear hB1
  by_cases hn : xs.length ≤ 30
  · go_wp2_with fail
    have hbA : Below W1.heap.size W1 (W1.alloc (.cells #[.bool false] 4)) := (Below.refl _ _).alloc (Nat.le_refl _) _
    refine (calm_any _ _ true _ (fun _ _ => by kernel_rfl) ((callsIn_any E A xs cap w.heap.size _ ((World.cell?_of_block (hbA.block _ (World.block_lt_of_cell? W1 _ hl1))).trans hl1) (hS1.below hbA) (hE1.below hbA) hn).mono ?_)).mono ?_
    · rintro e w' ⟨rfl, hb⟩
      exact ⟨rfl, by simpa using hb⟩
    rintro e W2 ⟨rfl, hb2⟩
    go_wp2_with fail
    go_ret
    exact ⟨rfl, HB.out.trans (hb2.mono hsz.out)⟩
  · go_wp2_with fail
    go_ret
    exact ⟨rfl, HB.out⟩
end Go.Proofs.YthfpmjmgdeefdaaDoor
