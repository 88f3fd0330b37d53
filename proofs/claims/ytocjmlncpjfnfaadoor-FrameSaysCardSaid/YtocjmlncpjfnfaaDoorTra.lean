import Derived.Test.YtocjmlncpjfnfaaDoorErr
import Derived.Defers
import Derived.Recover
import Derived.PanicsStand
import Derived.Laws.NewBlocks
/-
  trap: what is thrown, what is caught.
-/
namespace Go.Proofs.YtocjmlncpjfnfaaDoor
open Go.RowKit

/-- what Must and Fail throw -/
def thrownV (e : Value) : Value := .iface 129 (.agg #[e])
abbrev entry (v : Value) : PanicEntry := { v := v, recovered := false }

theorem caught_thrown (t : TypeId) (p : Value) (w : World) : Calls Tryd.prog 86 #[thrownV (.iface t p)] w fun x w' => x = .returned (.iface t p) ∧ Below w.heap.size w w' := by
  unfold thrownV
  have hta : ∀ W, (Instr.typeAssert (.iface 129 (.agg #[.iface t p])) 20 129 true).run Tryd.prog W = .ok (.tuple #[.agg #[.iface t p], .bool true]) W := fun _ => by kernel_rfl
  go_enter Tryd.func86, Tryd.ntmps86
  go_wp2
  go_ret
  exact ⟨rfl, by go_grown⟩
theorem zero_thrown (W : World) : (zeroValue 129).run Tryd.prog W = .ok (.agg #[.nilIface]) W := by kernel_rfl
theorem assert_other (t : TypeId) (ht : t ≠ 129) (v : Value) (W : World) : (Instr.typeAssert (.iface t v) 20 129 true).run Tryd.prog W = .ok (.tuple #[.agg #[.nilIface], .bool false]) W := by
  unfold Instr.typeAssert
  simp only [Sem.run_bind, run_underlying Tryd.underlying129, Result.andThen_ok]
  rw [if_neg ht]
  simp only [if_true, Sem.run_bind, zero_thrown, Result.andThen_ok]
  rfl
theorem caught_other (E : Nat → Addr) (t : TypeId) (ht : t ≠ 129) (v : Value) (w : World) (h : ErrsAt E w) : Calls Tryd.prog 86 #[.iface t v] w fun x w' => x = .returned (errV (E 5)) ∧ Below w.heap.size w w' := by
  have hlt : 3 < w.heap.size := h.ltG (i := 5) (by decide)
  have c5 : ∀ o, (w.alloc o).cell? ⟨3, 0, none⟩ = some (errV (E 5)) := fun o => (World.cell?_alloc_past _ _ _ hlt).trans (h.c 5 (by decide))
  have hta := assert_other t ht v
  go_enter Tryd.func86, Tryd.ntmps86
  go_wp2
  go_ret
  exact ⟨rfl, by go_grown⟩
end Go.Proofs.YtocjmlncpjfnfaaDoor
