import Derived.Test.YtocjmlncpjfnfaaDoorTrb
/-
  courierlaw2: what comes first.
-/
namespace Go.Proofs.YtocjmlncpjfnfaaDoor
open Go.RowKit

/-- where nothing was there that has turned: Try's own variables are as they were made -/
theorem Kept.below {w w' : World} (h : Below (w.heap.size + 2) (tried w) w') : Kept w.heap.size w' := by
  have hs : (tried w).heap.size = w.heap.size + 2 := by simp [tried]
  refine ⟨?_, ?_, ?_, ?_⟩
  · rw [h.cell (p := ⟨w.heap.size, 0, none⟩) (show w.heap.size < w.heap.size + 2 by omega)]; simp [tried, go_sem]
  · rw [h.frozen (p := ⟨w.heap.size, 0, none⟩) (show w.heap.size < w.heap.size + 2 by omega)]; simp [tried, go_sem]
  · rw [h.cell (p := ⟨w.heap.size + 1, 0, none⟩) (show w.heap.size + 1 < w.heap.size + 2 by omega)]; simp [tried, go_sem]
  · rw [h.frozen (p := ⟨w.heap.size + 1, 0, none⟩) (show w.heap.size + 1 < w.heap.size + 2 by omega)]; simp [tried, go_sem]
theorem tried_below (w : World) : Below w.heap.size w (tried w) := ((Below.refl _ _).alloc (Nat.le_refl _) _).alloc (by simp) _
/-- Try of what turns nothing that was there, and comes to its end -/
theorem try_calm_below (k : FuncId) (cap : Array Value) (w : World) (hk : ∀ args w, (callFunc k args).run Tryd.prog w = .ok (.enter k args) w)
    (hc : Calls Tryd.prog k cap (tried w) fun e w' => e = .returned (.tuple #[]) ∧ Below (w.heap.size + 2) (tried w) w') :
    Calls Tryd.prog 66 #[.func (.func k) #[] cap] w fun e w' => e = .returned .nilIface ∧ Below w.heap.size w w' := by
  refine (try_calm k cap w (fun W => Below w.heap.size w W) hk (hc.mono ?_)).mono ?_
  · rintro e w' ⟨h1, h2⟩
    exact ⟨h1, Kept.below h2, (tried_below w).trans (h2.mono (by omega))⟩
  · rintro e w' ⟨h1, W, h2, h3⟩
    exact ⟨h1, h2.trans h3⟩
theorem try_falls_below (E : Nat → Addr) (k : FuncId) (cap : Array Value) (w : World) (u rt : TypeId) (pv rp : Value) (hE : ErrsAt E w) (hk : ∀ args w, (callFunc k args).run Tryd.prog w = .ok (.enter k args) w)
    (hc : Calls Tryd.prog k cap (tried w) fun e w' => e = .panicked [entry (.iface u pv)] ∧ Below (w.heap.size + 2) (tried w) w')
    (hcaught : ∀ W, ErrsAt E W → Calls Tryd.prog 86 #[.iface u pv] W fun e w' => e = .returned (.iface rt rp) ∧ Below W.heap.size W w') :
    Calls Tryd.prog 66 #[.func (.func k) #[] cap] w fun e w' => e = .returned (.iface rt rp) ∧ Below w.heap.size w w' := by
  have hs : (tried w).heap.size = w.heap.size + 2 := by simp [tried]
  refine (try_falls k cap w (fun W => Below w.heap.size w W) u rt pv rp hk (hc.mono ?_) (fun W hW => hcaught W (hE.below hW))).mono ?_
  · rintro e w' ⟨h1, h2⟩
    exact ⟨h1, Kept.below h2, by have := h2.size; omega, (tried_below w).trans (h2.mono (by omega))⟩
  · rintro e w' ⟨h1, W, h2, h3⟩
    exact ⟨h1, h2.trans h3⟩
/-- Try of a throw of one of the errors -/
theorem try_must (E : Nat → Addr) (i : Nat) (k : FuncId) (cap : Array Value) (w : World) (hE : ErrsAt E w) (hk : ∀ args w, (callFunc k args).run Tryd.prog w = .ok (.enter k args) w)
    (hc : Calls Tryd.prog k cap (tried w) fun e w' => e = .panicked [entry (thrownV (errV (E i)))] ∧ Below (w.heap.size + 2) (tried w) w') :
    Calls Tryd.prog 66 #[.func (.func k) #[] cap] w fun e w' => e = .returned (errV (E i)) ∧ Below w.heap.size w w' :=
  try_falls_below E k cap w _ _ _ _ hE hk hc fun W _ => caught_thrown _ _ W

end Go.Proofs.YtocjmlncpjfnfaaDoor
