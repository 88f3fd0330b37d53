import Derived.Test.YthfpmjmgdeefdaaDoorErr
import Derived.Defers
import Derived.Recover
import Derived.PanicsStand
import Derived.Laws.NewBlocks
/-
  trap: what is thrown, what is caught.
-/
namespace Go.Proofs.YthfpmjmgdeefdaaDoor
open Go.RowKit

/-- what Must and Fail throw -/
def thrownV (e : Value) : Value := .iface 53 (.agg #[e])
abbrev entry (v : Value) : PanicEntry := { v := v, recovered := false }

theorem must_nil (w : World) : Calls Tryd.prog 21 #[.nilIface] w fun e w' => e = .returned (.tuple #[]) ∧ w' = w := by
  go_enter Tryd.func21, Tryd.ntmps21
  go_wp2
  go_end0
  exact ⟨rfl, rfl⟩
theorem must_err (t : TypeId) (p : Value) (w : World) : Calls Tryd.prog 21 #[.iface t p] w fun e w' => e = .panicked [entry (thrownV (.iface t p))] ∧ w' = w := by
  go_enter Tryd.func21, Tryd.ntmps21
  go_wp2
  exact ⟨rfl, rfl, rfl⟩

theorem caught_thrown (t : TypeId) (p : Value) (w : World) : Calls Tryd.prog 34 #[thrownV (.iface t p)] w fun x w' => x = .returned (.iface t p) ∧ Below w.heap.size w w' := by
  unfold thrownV
  have hta : ∀ W, (Instr.typeAssert (.iface 53 (.agg #[.iface t p])) 20 53 true).run Tryd.prog W = .ok (.tuple #[.agg #[.iface t p], .bool true]) W := fun _ => by kernel_rfl
  go_enter Tryd.func34, Tryd.ntmps34
  go_wp2
  go_ret
  exact ⟨rfl, by go_grown⟩
theorem zero_thrown (W : World) : (zeroValue 53).run Tryd.prog W = .ok (.agg #[.nilIface]) W := by kernel_rfl
theorem assert_other (t : TypeId) (ht : t ≠ 53) (v : Value) (W : World) : (Instr.typeAssert (.iface t v) 20 53 true).run Tryd.prog W = .ok (.tuple #[.agg #[.nilIface], .bool false]) W := by
  unfold Instr.typeAssert
  simp only [Sem.run_bind, run_underlying Tryd.underlying53, Result.andThen_ok]
  rw [if_neg ht]
  simp only [if_true, Sem.run_bind, zero_thrown, Result.andThen_ok]
  rfl
theorem caught_other (E : Nat → Addr) (t : TypeId) (ht : t ≠ 53) (v : Value) (w : World) (h : ErrsAt E w) : Calls Tryd.prog 34 #[.iface t v] w fun x w' => x = .returned (errV (E 5)) ∧ Below w.heap.size w w' := by
  have hlt : 6 < w.heap.size := h.ltG (i := 5) (by decide)
  have c5 : ∀ o, (w.alloc o).cell? ⟨6, 0, none⟩ = some (errV (E 5)) := fun o => (World.cell?_alloc_past _ _ _ hlt).trans (h.c 5 (by decide))
  have hta := assert_other t ht v
  go_enter Tryd.func34, Tryd.ntmps34
  go_wp2
  go_ret
  exact ⟨rfl, by go_grown⟩
end Go.Proofs.YthfpmjmgdeefdaaDoor
