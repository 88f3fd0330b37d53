import Derived.Test.YthfpmjmgdeefdaaDoorTrb
/-
  courierlaw2: what comes first.
-/
namespace Go.Proofs.YthfpmjmgdeefdaaDoor
open Go.RowKit

theorem f1_any (w : World) : Calls Tryd.prog 18 #[] w fun e w' => e = .returned (.tuple #[]) ∧ w' = w := by
  go_enter Tryd.func18, Tryd.ntmps18
  go_wp2
  go_end0
  exact ⟨rfl, rfl⟩
theorem f2_any (E : Nat → Addr) (w : World) (h : ErrsAt E w) : Calls Tryd.prog 20 #[] w fun e w' => e = .panicked [entry (thrownV (errV (E 8)))] ∧ w' = w := by
  have c8 : w.cell? ⟨0, 0, none⟩ = some (errV (E 8)) := h.c 8 (by decide)
  go_enter Tryd.func20, Tryd.ntmps20
  go_wp2_with fail
  refine (must_err _ _ _).mono ?_
  rintro e w' ⟨rfl, rfl⟩
  go_wp2
  exact ⟨rfl, rfl, rfl⟩
/-- where nothing was there that has turned: Try's own variables are as they were made -/
theorem Kept.below {w w' : World} (h : Below (w.heap.size + 2) (tried w) w') : Kept w.heap.size w' := by
  have hs : (tried w).heap.size = w.heap.size + 2 := by simp [tried]
  refine ⟨?_, ?_, ?_, ?_⟩
  · rw [h.cell (p := ⟨w.heap.size, 0, none⟩) (show w.heap.size < w.heap.size + 2 by omega)]; simp [tried, go_sem]
  · rw [h.frozen (p := ⟨w.heap.size, 0, none⟩) (show w.heap.size < w.heap.size + 2 by omega)]; simp [tried, go_sem]
  · rw [h.cell (p := ⟨w.heap.size + 1, 0, none⟩) (show w.heap.size + 1 < w.heap.size + 2 by omega)]; simp [tried, go_sem]
  · rw [h.frozen (p := ⟨w.heap.size + 1, 0, none⟩) (show w.heap.size + 1 < w.heap.size + 2 by omega)]; simp [tried, go_sem]
theorem tried_below (w : World) : Below w.heap.size w (tried w) := ((Below.refl _ _).alloc (Nat.le_refl _) _).alloc (by simp) _
/-- Try of what turns nothing that was there, and comes to its end -/
theorem try_calm_below (k : FuncId) (cap : Array Value) (w : World) (hk : ∀ args w, (callFunc k args).run Tryd.prog w = .ok (.enter k args) w)
    (hc : Calls Tryd.prog k cap (tried w) fun e w' => e = .returned (.tuple #[]) ∧ Below (w.heap.size + 2) (tried w) w') :
    Calls Tryd.prog 17 #[.func (.func k) #[] cap] w fun e w' => e = .returned .nilIface ∧ Below w.heap.size w w' := by
  refine (try_calm k cap w (fun W => Below w.heap.size w W) hk (hc.mono ?_)).mono ?_
  · rintro e w' ⟨h1, h2⟩
    exact ⟨h1, Kept.below h2, (tried_below w).trans (h2.mono (by omega))⟩
  · rintro e w' ⟨h1, W, h2, h3⟩
    exact ⟨h1, h2.trans h3⟩
theorem try_falls_below (E : Nat → Addr) (k : FuncId) (cap : Array Value) (w : World) (u rt : TypeId) (pv rp : Value) (hE : ErrsAt E w) (hk : ∀ args w, (callFunc k args).run Tryd.prog w = .ok (.enter k args) w)
    (hc : Calls Tryd.prog k cap (tried w) fun e w' => e = .panicked [entry (.iface u pv)] ∧ Below (w.heap.size + 2) (tried w) w')
    (hcaught : ∀ W, ErrsAt E W → Calls Tryd.prog 34 #[.iface u pv] W fun e w' => e = .returned (.iface rt rp) ∧ Below W.heap.size W w') :
    Calls Tryd.prog 17 #[.func (.func k) #[] cap] w fun e w' => e = .returned (.iface rt rp) ∧ Below w.heap.size w w' := by
  have hs : (tried w).heap.size = w.heap.size + 2 := by simp [tried]
  refine (try_falls k cap w (fun W => Below w.heap.size w W) u rt pv rp hk (hc.mono ?_) (fun W hW => hcaught W (hE.below hW))).mono ?_
  · rintro e w' ⟨h1, h2⟩
    exact ⟨h1, Kept.below h2, by have := h2.size; omega, (tried_below w).trans (h2.mono (by omega))⟩
  · rintro e w' ⟨h1, W, h2, h3⟩
    exact ⟨h1, h2.trans h3⟩
/-- Try of a throw of one of the errors -/
theorem try_must (E : Nat → Addr) (i : Nat) (k : FuncId) (cap : Array Value) (w : World) (hE : ErrsAt E w) (hk : ∀ args w, (callFunc k args).run Tryd.prog w = .ok (.enter k args) w)
    (hc : Calls Tryd.prog k cap (tried w) fun e w' => e = .panicked [entry (thrownV (errV (E i)))] ∧ Below (w.heap.size + 2) (tried w) w') :
    Calls Tryd.prog 17 #[.func (.func k) #[] cap] w fun e w' => e = .returned (errV (E i)) ∧ Below w.heap.size w w' :=
  try_falls_below E k cap w _ _ _ _ hE hk hc fun W _ => caught_thrown _ _ W

set_option maxRecDepth 100000 in
theorem first1_any (E : Nat → Addr) (w : World) (h : ErrsAt E w) : Calls Tryd.prog 16 #[] w fun e w' => e = .returned (.bool true) ∧ Below w.heap.size w w' := by
  go_enter Tryd.func16, Tryd.ntmps16
  go_wp2_with fail
  refine (try_calm_below _ _ _ (fun _ _ => by kernel_rfl) ((f1_any _).mono ?_)).mono ?_
  · rintro e w' ⟨rfl, rfl⟩
    exact ⟨rfl, Below.refl _ _⟩
  rintro e W1 ⟨rfl, hb1⟩
  have hE1 := h.below hb1
  go_wp2_with fail
  refine (try_must E 8 _ _ _ hE1 (fun _ _ => by kernel_rfl) ((f2_any E _ (hE1.below (tried_below _))).mono ?_)).mono ?_
  · rintro e w' ⟨rfl, rfl⟩
    exact ⟨rfl, Below.refl _ _⟩
  rintro e W2 ⟨rfl, hb2⟩
  have hb : Below w.heap.size w W2 := hb1.trans (hb2.mono hb1.size)
  have hE2 := hE1.below hb2
  clear hb1 hb2 hE1 h
  go_wp2_with fail
  refine (is_any E (errV (E 8)) 109 109 (.inr ⟨8, by decide, rfl, rfl⟩) _ hE2).mono ?_
  rintro e W3 ⟨rfl, hb3⟩
  have hb' := hb.trans (hb3.mono hb.size)
  clear hb hb3 hE2
  go_wp2_with fail
  go_ret
  exact ⟨rfl, hb'⟩
theorem first_any (E : Nat → Addr) (w : World) (h : ErrsAt E w) : Calls Tryd.prog 6 #[] w fun e w' => e = .returned (.bool true) ∧ Below w.heap.size w w' := by
  go_enter Tryd.func6, Tryd.ntmps6
  go_wp2_with fail
  refine (calm_any _ _ true _ (fun _ _ => by kernel_rfl) ((first1_any E _ (h.below ((Below.refl _ _).alloc (Nat.le_refl _) _))).mono ?_)).mono ?_
  · rintro e w' ⟨rfl, hb⟩
    exact ⟨rfl, by simpa using hb⟩
  rintro e W1 ⟨rfl, hb1⟩
  go_wp2_with fail
  go_ret
  exact ⟨rfl, hb1⟩
end Go.Proofs.YthfpmjmgdeefdaaDoor
