import Derived.Test.YtffkjbbhbpaacaaDoorSlB
import Derived.Test.YtffkjbbhbpaacaaDoorPads
import Derived.Test.YtffkjbbhbpaacaaDoorRsm
import Derived.StillTailTactics
/-
  Where sha stands: what its texts say of copies.
-/
namespace Go.Proofs.YtffkjbbhbpaacaaDoor
open Go.RowKit
theorem wpStill_sliceAt {P : Program} {ops : Array Oper} {rest : List Oper} {o : Oper} {a : Act} {w : World} {Q : Act → Prop} (hgd : o.guard = none) (t : TypeId) (x : Operand) (lo hi mx : Option Operand) (ho : o.op = .slice t x lo hi mx)
    (va : Value) (vl vh vm : Option Value) (r : Value) (hx : (a.eval x, lo.map a.eval, hi.map a.eval, mx.map a.eval) = (va, vl, vh, vm)) (hr : (Instr.sliceAt t va vl vh vm).run P w = .ok r w)
    (h : wpStill P ops w Q rest (a.put o.dst r)) : wpStill P ops w Q (o :: rest) a := by
  simp only [Prod.mk.injEq] at hx
  refine wpStill_step fun K hK => ?_
  simp only [Region.wanted, hgd, if_true]
  unfold Oper.still execOp
  simp only [ho, hx.1, hx.2.1, hx.2.2.1, hx.2.2.2, Sem.run_bind, Sem.run_pure, hr, Result.andThen_ok]
  exact ⟨rfl, hK _ h⟩
end Go.Proofs.YtffkjbbhbpaacaaDoor
