import Derived.Test.YtffkjbbhbpaacaaDoorHo
import Derived.Test.YtffkjbbhbpaacaaDoorRsq
/-
  A region in the text's order, one line an operation, each run given.
-/
namespace Go.Proofs.YtffkjbbhbpaacaaDoor
open Go.RowKit

section
variable {P : Program} {a : Act} {w w' : World} {o : Oper} {ops : Array Oper} {rest : List Oper} {Q : Exit → Act → World → Prop}
theorem exec_slice {t : TypeId} {x : Operand} {lo hi mx : Option Operand} {vx : Value} {l h m : Option Value} {v' : Value} (ho : o.op = .slice t x lo hi mx)
    (hx : (a.eval x, lo.map a.eval, hi.map a.eval, mx.map a.eval) = (vx, l, h, m)) (hrun : (Instr.sliceAt t vx l h m).run P w = .ok v' w') : (execOp a.eval o).run P w = .ok (.value v') w' := by
  simp only [Prod.mk.injEq] at hx
  unfold execOp
  simp only [ho, hx.1, hx.2.1, hx.2.2.1, hx.2.2.2, Sem.run_bind, hrun]
  rfl
theorem exec_load {t : TypeId} {x : Operand} {vx v' : Value} (ho : o.op = .load t x)
    (hx : a.eval x = vx) (hrun : (Instr.loadAt t vx).run P w = .ok v' w') : (execOp a.eval o).run P w = .ok (.value v') w' := by
  unfold execOp
  simp only [ho, hx, Sem.run_bind, hrun]
  rfl
theorem exec_move {x : Operand} {v : Value} (ho : o.op = .move x) (hx : a.eval x = v) : (execOp a.eval o).run P w = .ok (.value v) w := by
  unfold execOp; simp [ho, hx]
theorem exec_assign {x : Operand} {v : Value} (ho : o.op = .assign x) (hx : a.eval x = v) : (execOp a.eval o).run P w = .ok (.value v) w := by
  unfold execOp; simp [ho, hx]
theorem exec_pick {c x y : Operand} {b : Bool} {v : Value} (ho : o.op = .pick c x y) (hc : a.eval c = .bool b) (hv : (if b then a.eval x else a.eval y) = v) : (execOp a.eval o).run P w = .ok (.value v) w := by
  unfold execOp; simp [ho, hc, asBool, hv]
theorem exec_nil {x : Operand} {p : Addr} (ho : o.op = .nilCheck x) (hx : a.eval x = .pointer (some p)) : (execOp a.eval o).run P w = .ok (.value (.pointer (some p))) w := by
  unfold execOp; simp only [ho, hx]; rfl
theorem exec_field {t : TypeId} {x : Operand} {k : Nat} {vx v : Value} (ho : o.op = .fieldAddr t x k) (hx : a.eval x = vx) (he : (Instr.fieldAt t vx k).run P w = .ok v w) : (execOp a.eval o).run P w = .ok (.value v) w := by
  unfold execOp; simp only [ho, hx, Sem.run_bind, he]; rfl
theorem exec_index {t : TypeId} {x y : Operand} {vx vy v : Value} (ho : o.op = .indexAddr t x y) (hx : (a.eval x, a.eval y) = (vx, vy)) (he : (Instr.indexAt t vx vy).run P w = .ok v w) : (execOp a.eval o).run P w = .ok (.value v) w := by
  simp only [Prod.mk.injEq] at hx
  unfold execOp; simp only [ho, hx.1, hx.2, Sem.run_bind, he]; rfl
theorem exec_bin {op : BinOp} {t : TypeId} {x y : Operand} {r : TypeId} {vx vy v : Value} (ho : o.op = .binOp op t x y r) (hx : (a.eval x, a.eval y) = (vx, vy)) (he : (do eqGuard op t x y vx vy; binOp op t vx vy : Sem Value).run P w = .ok v w) : (execOp a.eval o).run P w = .ok (.value v) w := by
  simp only [Prod.mk.injEq] at hx
  unfold execOp; simp only [ho, hx.1, hx.2]; rw [Sem.run_bind, he]; rfl
theorem exec_eqrow {k : BinOp} {t : TypeId} {x y : Operand} {r : TypeId} {cx cy : Array Value} {b : Bool} (hk : k = .eql ∨ k = .neq) (ho : o.op = .binOp k t x y r) (hx : (a.eval x, a.eval y) = (.agg cx, .agg cy)) (hgd : P.eqGuardType P.depth t = false)
    (he : (Op.equalIn 10000 t (.agg cx) (.agg cy)).run P w = .ok b w) : (execOp a.eval o).run P w = .ok (.value (.bool (if k = .eql then b else !b))) w := by
  simp only [Prod.mk.injEq] at hx
  unfold execOp
  rcases hk with rfl | rfl
  · simp [ho, hx.1, hx.2, eqGuard, hgd, run_eql_struct, he, Result.andThen]
  · simp [ho, hx.1, hx.2, eqGuard, hgd, run_neq_struct, he, Result.andThen]
theorem exec_un {op : UnOp} {t : TypeId} {x : Operand} {vx v : Value} (ho : o.op = .unOp op t x) (hx : a.eval x = vx) (he : (Op.unary op vx).run P w = .ok v w) : (execOp a.eval o).run P w = .ok (.value v) w := by
  unfold execOp; simp only [ho, hx, Sem.run_bind, he]; rfl
theorem exec_cvt {t u : TypeId} {x : Operand} {vx v : Value} (ho : o.op = .convert t u x) (hx : a.eval x = vx) (he : (convert t u vx).run P w = .ok v w') : (execOp a.eval o).run P w = .ok (.value v) w' := by
  unfold execOp; simp only [ho, hx, Sem.run_bind, he]; rfl
theorem exec_len {x : Operand} {t ty : TypeId} {vx v : Value} (ho : o.op = .call { callee := .builtin .len, args := #[x], argTypes := #[t] }) (hty : o.type = ty) (hx : a.eval x = vx)
    (he : (Builtin.len_ #[t] ty #[vx]).run P w = .ok v w) : (execOp a.eval o).run P w = .ok (.value v) w := by
  simp only [execOp, ho, resolve, invoke, builtin, Sem.run_bind, Sem.run_pure, Result.andThen_ok, List.map_toArray, List.map_cons, List.map_nil, hx, hty, he]
theorem exec_build {t : TypeId} {ps : Array (Nat × Operand)} {vs : Array (Nat × Value)} {v : Value} (ho : o.op = .build t ps) (hv : (ps.map fun (i, x) => (i, a.eval x)) = vs) (he : (Instr.build t vs).run P w = .ok v w) : (execOp a.eval o).run P w = .ok (.value v) w := by
  unfold execOp; simp only [ho, hv, Sem.run_bind, he]; rfl
theorem exec_alloc {t : TypeId} {v : Value} (ho : o.op = .alloc t) (he : (Instr.alloc t true (.tuple #[])).run P w = .ok v w') : (execOp a.eval o).run P w = .ok (.value v) w' := by
  unfold execOp; simp only [ho, Sem.run_bind, he]; rfl
theorem put_none (a : Act) (x : Value) : a.put none x = a := rfl
theorem exec_extract {x : Operand} {k : Nat} {vx v : Value} (ho : o.op = .extract x k) (hx : a.eval x = vx) (he : (Instr.extract vx k).run P w = .ok v w) : (execOp a.eval o).run P w = .ok (.value v) w := by
  unfold execOp; simp only [ho, hx, Sem.run_bind, he]; rfl
theorem wpList_skip (hgd : o.guard = none) (w' : World) (hrun : (execOp a.eval o).run P w = .ok .skip w')
    (h : wpList P ops Q rest (a.put o.dst undef) w') : wpList P ops Q (o :: rest) a w :=
  wpList_plain hgd fun K hK => by
    unfold Oper.wp
    rw [hrun, Oper.upon_skip]
    exact hK _ _ h
/-- an operation under a guard -/
theorem wpList_runG (hgd : Region.wanted o (yielded ops a.tmps) = true) (v : Value) (w' : World) (hrun : (execOp a.eval o).run P w = .ok (.value v) w')
    (h : wpList P ops Q rest (a.put o.dst v) w') : wpList P ops Q (o :: rest) a w :=
  BigFrame.wpList_want hgd fun K hK => by
    unfold Oper.wp
    rw [hrun, Oper.upon_value]
    exact hK _ _ h
theorem wpList_off (hgd : Region.wanted o (yielded ops a.tmps) = false) (h : wpList P ops Q rest (a.put o.dst undef) w) : wpList P ops Q (o :: rest) a w :=
  wpList_step fun K hK => by rw [hgd]; exact hK _ _ h
theorem wpList_call (hgd : Region.wanted o (yielded ops a.tmps) = true) (f : FuncId) (xs : Array Operand) (ts : Array TypeId) (args : Array Value) (R : Ending → World → Prop) (ho : o.op = .call { callee := .value (.func f), args := xs, argTypes := ts })
    (hargs : xs.map a.eval = args) (hrun : (callFunc f args).run P w = .ok (.enter f args) w) (hc : Calls P f args w R)
    (h : ∀ e w', R e w' → ∃ v, e = .returned v ∧ wpList P ops Q rest (a.put o.dst v) w') : wpList P ops Q (o :: rest) a w := by
  refine BigFrame.wpList_want hgd fun K hK => ?_
  obtain ⟨op, od, oty, opos, oaf, ogd⟩ := o
  simp only at ho
  subst ho
  simp only [go_sem]
  simp only [Array.empty_append, Array.append_empty, hargs, hrun, Oper.upon_enter]
  refine hc.mono fun e w' hh => ?_
  obtain ⟨v, rfl, hk⟩ := h e w' hh
  exact hK _ _ hk
end
end Go.Proofs.YtffkjbbhbpaacaaDoor
