import Derived.Test.YtffkjbbhbpaacaaDoorHd
/-
  A drawn region, operation by operation: more steps (an operation that comes up alone may turn what it likes).
-/
namespace Go.Proofs.YtffkjbbhbpaacaaDoor
open Go.RowKit

section
variable {P : Program} {md : Region.Mode} {ops : Array Oper} {Q : Exit → Act → World → Prop} {S : World → Prop} {fuel : Nat} {listed : Array Bool} {a : Act} {w : World}

/-- a comparison of two rows -/
theorem held_neq (i : Nat) (t : TypeId) (x y : Operand) (r : TypeId) (dst : Option Tmp) (cx cy : Array Value) (b : Bool) (hi : ops[i]?.map (fun o => (o.op, o.dst, Region.wanted o (yielded ops a.tmps))) = some (.binOp .neq t x y r, dst, true))
    (hx : a.eval x = .agg cx) (hy : a.eval y = .agg cy) (hgd : P.eqGuardType P.depth t = false) (he : ∀ w, (Op.equalIn 10000 t (.agg cx) (.agg cy)).run P w = .ok b w)
    (hs : Region.noSelect ops = true) (hf : Region.free md ops listed i = true) (hr : (Region.ready md ops listed).contains i = true)
    (hQ : ∀ c a v d w, Q (.panic c) (a.put d v) w → Q (.panic c) a w) (hw : S w)
    (h : wpAnyH P md ops Q S fuel (listed.setIfInBounds i true) (a.put dst (.bool (!b))) w) : wpAnyH P md ops Q S (fuel + 1) listed a w :=
  held_any i _ dst _ hi hs hf hr hQ hw (fun oo ho w hw => by
    unfold execOp
    simp [ho, hx, hy, eqGuard, hgd, run_neq_struct, he, Result.andThen]) h
/-- one operation that comes up alone -/
theorem held_run (i : Nat) (op : Op) (ty : TypeId) (dst : Option Tmp) (v : Value) (w' : World) (hi : ops[i]?.map (fun o => (o.op, o.dst, Region.wanted o (yielded ops a.tmps))) = some (op, dst, true)) (hty : ops[i]?.map (·.type) = some ty)
    (hr : Region.ready md ops listed = [i]) (hrun : ∀ o : Oper, o.op = op → o.type = ty → (execOp a.eval o).run P w = .ok (.value v) w') (hS : S w')
    (h : S w' → wpAnyH P md ops Q S fuel (listed.setIfInBounds i true) (a.put dst v) w') : wpAnyH P md ops Q S (fuel + 1) listed a w := by
  obtain ⟨oi, ho, he⟩ := Option.map_eq_some_iff.1 hi
  obtain ⟨oj, hoj, htj⟩ := Option.map_eq_some_iff.1 hty
  obtain rfl := Option.some.inj (ho.symm.trans hoj)
  simp only [Prod.mk.injEq] at he
  refine wpAnyH_ready (rs := [i]) hr (by simp) ?_
  refine AllReadyH.cons ho (fun K hK => ?_) AllReadyH.nil
  rw [if_pos he.2.2]
  unfold Oper.wp
  rw [hrun oi he.1 htj, Oper.upon_value, he.2.1]
  exact hK.out _ _ hS h
theorem held_skip (i : Nat) (op : Op) (dst : Option Tmp) (w' : World) (hi : ops[i]?.map (fun o => (o.op, o.dst, Region.wanted o (yielded ops a.tmps))) = some (op, dst, true))
    (hr : Region.ready md ops listed = [i]) (hrun : ∀ o : Oper, o.op = op → (execOp a.eval o).run P w = .ok .skip w') (hS : S w')
    (h : S w' → wpAnyH P md ops Q S fuel (listed.setIfInBounds i true) (a.put dst undef) w') : wpAnyH P md ops Q S (fuel + 1) listed a w := by
  obtain ⟨oi, ho, he⟩ := Option.map_eq_some_iff.1 hi
  simp only [Prod.mk.injEq] at he
  refine wpAnyH_ready (rs := [i]) hr (by simp) ?_
  refine AllReadyH.cons ho (fun K hK => ?_) AllReadyH.nil
  rw [if_pos he.2.2]
  unfold Oper.wp
  rw [hrun oi he.1, Oper.upon_skip, he.2.1]
  exact hK.out _ _ hS h
/-- an operation that is not wanted -/
theorem held_off (i : Nat) (op : Op) (dst : Option Tmp) (hi : ops[i]?.map (fun o => (o.op, o.dst, Region.wanted o (yielded ops a.tmps))) = some (op, dst, false))
    (hs : Region.noSelect ops = true) (hf : Region.free md ops listed i = true) (hr : (Region.ready md ops listed).contains i = true)
    (hQ : ∀ c a v d w, Q (.panic c) (a.put d v) w → Q (.panic c) a w) (hw : S w)
    (h : wpAnyH P md ops Q S fuel (listed.setIfInBounds i true) (a.put dst undef) w) : wpAnyH P md ops Q S (fuel + 1) listed a w := by
  obtain ⟨oi, ho, he⟩ := Option.map_eq_some_iff.1 hi
  simp only [Prod.mk.injEq] at he
  exact wpAnyH_take ho hs hf hr (fun c a w => hQ c a undef oi.dst w) (.inr ⟨he.2.2, rfl⟩) hw (by rw [he.2.1]; exact h)
theorem held_nil (i : Nat) (x : Operand) (dst : Option Tmp) (p : Addr) (hi : ops[i]?.map (fun o => (o.op, o.dst, Region.wanted o (yielded ops a.tmps))) = some (.nilCheck x, dst, true))
    (hv : a.eval x = .pointer (some p)) (hs : Region.noSelect ops = true) (hf : Region.free md ops listed i = true) (hr : (Region.ready md ops listed).contains i = true)
    (hQ : ∀ c a v d w, Q (.panic c) (a.put d v) w → Q (.panic c) a w) (hw : S w)
    (h : wpAnyH P md ops Q S fuel (listed.setIfInBounds i true) (a.put dst (.pointer (some p))) w) : wpAnyH P md ops Q S (fuel + 1) listed a w :=
  held_any i _ dst _ hi hs hf hr hQ hw (fun o ho w _ => by unfold execOp; simp only [ho, hv]; rfl) h
theorem held_field (i : Nat) (t : TypeId) (x : Operand) (k : Nat) (dst : Option Tmp) (vx v : Value) (hi : ops[i]?.map (fun o => (o.op, o.dst, Region.wanted o (yielded ops a.tmps))) = some (.fieldAddr t x k, dst, true))
    (hv : a.eval x = vx) (he : ∀ w, (Instr.fieldAt t vx k).run P w = .ok v w) (hs : Region.noSelect ops = true) (hf : Region.free md ops listed i = true) (hr : (Region.ready md ops listed).contains i = true)
    (hQ : ∀ c a v d w, Q (.panic c) (a.put d v) w → Q (.panic c) a w) (hw : S w)
    (h : wpAnyH P md ops Q S fuel (listed.setIfInBounds i true) (a.put dst v) w) : wpAnyH P md ops Q S (fuel + 1) listed a w :=
  held_any i _ dst _ hi hs hf hr hQ hw (fun o ho w _ => by unfold execOp; simp only [ho, hv, Sem.run_bind, he w]; rfl) h
theorem held_build (i : Nat) (t : TypeId) (ps : Array (Nat × Operand)) (dst : Option Tmp) (vs : Array (Nat × Value)) (v : Value) (hi : ops[i]?.map (fun o => (o.op, o.dst, Region.wanted o (yielded ops a.tmps))) = some (.build t ps, dst, true))
    (hv : (ps.map fun (i, x) => (i, a.eval x)) = vs) (he : ∀ w, (Instr.build t vs).run P w = .ok v w) (hs : Region.noSelect ops = true) (hf : Region.free md ops listed i = true) (hr : (Region.ready md ops listed).contains i = true)
    (hQ : ∀ c a v d w, Q (.panic c) (a.put d v) w → Q (.panic c) a w) (hw : S w)
    (h : wpAnyH P md ops Q S fuel (listed.setIfInBounds i true) (a.put dst v) w) : wpAnyH P md ops Q S (fuel + 1) listed a w :=
  held_any i _ dst _ hi hs hf hr hQ hw (fun o ho w _ => by unfold execOp; simp only [ho, hv, Sem.run_bind, he w]; rfl) h
theorem exec_append {o : Oper} {s x : Operand} {t tn ty : TypeId} {vs vx v' : Value} {w' : World} (ho : o.op = .call { callee := .builtin .append, args := #[s, x], argTypes := #[t, tn] }) (hty : o.type = ty) (hx : (a.eval s, a.eval x) = (vs, vx))
    (hrun : (Builtin.append_ #[t, tn] ty #[vs, vx]).run P w = .ok v' w') : (execOp a.eval o).run P w = .ok (.value v') w' := by
  simp only [Prod.mk.injEq] at hx
  simp only [execOp, ho, resolve, invoke, builtin, Sem.run_bind, Sem.run_pure, Result.andThen_ok, List.map_toArray, List.map_cons, List.map_nil, hx.1, hx.2, hty, hrun]
theorem exec_bsl {o : Oper} {t : TypeId} {n : Nat} {ps : Array (Nat × Operand)} {vs : Array (Nat × Value)} {v' : Value} {w' : World} (ho : o.op = .buildSlice t n ps) (hx : (ps.map fun (i, x) => (i, a.eval x)) = vs)
    (hrun : (Instr.buildSlice t n vs).run P w = .ok v' w') : (execOp a.eval o).run P w = .ok (.value v') w' := by
  unfold execOp
  simp only [ho, hx, Sem.run_bind, hrun]
  rfl
theorem exec_store {o : Oper} {t : TypeId} {x y : Operand} {vx vy : Value} {w' : World} (ho : o.op = .store t x y) (hx : (a.eval x, a.eval y) = (vx, vy))
    (hrun : (Instr.storeAt t vx vy).run P w = .ok () w') : (execOp a.eval o).run P w = .ok .skip w' := by
  simp only [Prod.mk.injEq] at hx
  unfold execOp
  simp only [ho, hx.1, hx.2, Sem.run_bind, hrun]
  rfl
end
end Go.Proofs.YtffkjbbhbpaacaaDoor
