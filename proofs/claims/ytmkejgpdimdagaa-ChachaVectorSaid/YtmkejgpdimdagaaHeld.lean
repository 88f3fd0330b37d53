import Derived.Test.YtmkejgpdimdagaaRfc
import Derived.Stop.BytesEq
namespace Go.Proofs.Ytmkejgpdimdagaa
open Go.RowKit


theorem arr8_cells (n : Nat) (f : Nat → BitVec 8) : arr8 n f = (((List.range n).map fun i => UInt8.ofBitVec (f i)).map Extern.Stop.cell).toArray := by
  unfold arr8
  rw [List.map_map]
  congr 1

theorem size5 (w : World) : (sizeOf 5).run Try.prog w = .ok 1 w := by
  obtain ⟨i, hi, hz⟩ := Option.map_eq_some_iff.1 (show (Try.prog.info? 5).map (·.size) = some 1 by kernel_rfl)
  simp [sizeOf, typeInfo, hi, hz, Result.andThen]

theorem equal64 (f : Nat → BitVec 8) (w : World) : (Op.equalIn 10000 28 (.agg (arr8 64 f)) (.agg (arr8 64 f))).run Try.prog w = .ok true w := by
  rw [arr8_cells, run_equalIn_bytes w 9998 28 5 64 Try.underlying28 Try.underlying5 size5 _ _ (by simp) (by simp)]
  simp

section
variable {P : Program} {md : Region.Mode} {ops : Array Oper} {Q : Exit → Act → World → Prop} {S : World → Prop} {fuel : Nat} {listed : Array Bool} {a : Act} {w : World}

/-- one operation of a region that draws its order is taken first; all that is reckoned is reckoned by the kernel -/
theorem held_any (i : Nat) (op : Op) (dst : Option Tmp) (v : Value) (hi : ops[i]?.map (fun o => (o.op, o.dst, Region.wanted o (yielded ops a.tmps))) = some (op, dst, true))
    (hs : Region.noSelect ops = true) (hf : Region.free md ops listed i = true) (hr : (Region.ready md ops listed).contains i = true)
    (hQ : ∀ c a v d w, Q (.panic c) (a.put d v) w → Q (.panic c) a w) (hw : S w)
    (hy : ∀ o, o.op = op → ∀ w, S w → (execOp a.eval o).run P w = .ok (.value v) w)
    (h : wpAnyH P md ops Q S fuel (listed.setIfInBounds i true) (a.put dst v) w) : wpAnyH P md ops Q S (fuel + 1) listed a w := by
  obtain ⟨oi, ho, he⟩ := Option.map_eq_some_iff.1 hi
  simp only [Prod.mk.injEq] at he
  exact wpAnyH_take ho hs hf hr (fun c a w => hQ c a v oi.dst w) (.inl ⟨he.2.2, hy oi he.1⟩) hw (by rw [he.2.1]; exact h)

theorem held_move (i : Nat) (x : Operand) (dst : Option Tmp) (v : Value) (hi : ops[i]?.map (fun o => (o.op, o.dst, Region.wanted o (yielded ops a.tmps))) = some (.move x, dst, true))
    (hv : a.eval x = v) (hs : Region.noSelect ops = true) (hf : Region.free md ops listed i = true) (hr : (Region.ready md ops listed).contains i = true)
    (hQ : ∀ c a v d w, Q (.panic c) (a.put d v) w → Q (.panic c) a w) (hw : S w)
    (h : wpAnyH P md ops Q S fuel (listed.setIfInBounds i true) (a.put dst v) w) : wpAnyH P md ops Q S (fuel + 1) listed a w :=
  held_any i _ dst v hi hs hf hr hQ hw (fun o ho w _ => by unfold execOp; simp [ho, hv]) h

theorem held_assign (i : Nat) (x : Operand) (dst : Option Tmp) (v : Value) (hi : ops[i]?.map (fun o => (o.op, o.dst, Region.wanted o (yielded ops a.tmps))) = some (.assign x, dst, true))
    (hv : a.eval x = v) (hs : Region.noSelect ops = true) (hf : Region.free md ops listed i = true) (hr : (Region.ready md ops listed).contains i = true)
    (hQ : ∀ c a v d w, Q (.panic c) (a.put d v) w → Q (.panic c) a w) (hw : S w)
    (h : wpAnyH P md ops Q S fuel (listed.setIfInBounds i true) (a.put dst v) w) : wpAnyH P md ops Q S (fuel + 1) listed a w :=
  held_any i _ dst v hi hs hf hr hQ hw (fun o ho w _ => by unfold execOp; simp [ho, hv]) h

theorem held_pick (i : Nat) (c x y : Operand) (dst : Option Tmp) (b : Bool) (v : Value) (hi : ops[i]?.map (fun o => (o.op, o.dst, Region.wanted o (yielded ops a.tmps))) = some (.pick c x y, dst, true))
    (hc : a.eval c = .bool b) (hv : (if b then a.eval x else a.eval y) = v) (hs : Region.noSelect ops = true) (hf : Region.free md ops listed i = true) (hr : (Region.ready md ops listed).contains i = true)
    (hQ : ∀ c a v d w, Q (.panic c) (a.put d v) w → Q (.panic c) a w) (hw : S w)
    (h : wpAnyH P md ops Q S fuel (listed.setIfInBounds i true) (a.put dst v) w) : wpAnyH P md ops Q S (fuel + 1) listed a w :=
  held_any i _ dst v hi hs hf hr hQ hw (fun o ho w _ => by unfold execOp; simp [ho, hc, asBool, hv]) h

theorem held_load (i : Nat) (ty : TypeId) (x : Operand) (dst : Option Tmp) (b o : Nat) (cs : List Value) (d : TypeDesc) (hi : ops[i]?.map (fun o => (o.op, o.dst, Region.wanted o (yielded ops a.tmps))) = some (.load ty x, dst, true))
    (hx : a.eval x = .pointer (some ⟨b, o, none⟩)) (hS : ∀ w, S w → w.rangeAt b o cs) (hu : P.underlying ty = some d) (hd : d.isRow = true) (hsz : (P.info? ty).map (·.size) = some cs.length)
    (hs : Region.noSelect ops = true) (hf : Region.free md ops listed i = true) (hr : (Region.ready md ops listed).contains i = true)
    (hQ : ∀ c a v d w, Q (.panic c) (a.put d v) w → Q (.panic c) a w) (hw : S w)
    (h : wpAnyH P md ops Q S fuel (listed.setIfInBounds i true) (a.put dst (.agg cs.toArray)) w) : wpAnyH P md ops Q S (fuel + 1) listed a w :=
  held_any i _ dst _ hi hs hf hr hQ hw (fun oo ho w hw => by
    unfold execOp
    simp only [ho, hx, Instr.loadAt, Instr.sureAddr, Sem.run_bind, Sem.run_pure, Result.andThen_ok, run_loadVar_mid w b o ty cs d (hS w hw) hu hd hsz]) h

/-- a comparison of two rows of bytes -/
theorem held_eql (i : Nat) (t : TypeId) (x y : Operand) (r : TypeId) (dst : Option Tmp) (cx cy : Array Value) (b : Bool) (hi : ops[i]?.map (fun o => (o.op, o.dst, Region.wanted o (yielded ops a.tmps))) = some (.binOp .eql t x y r, dst, true))
    (hx : a.eval x = .agg cx) (hy : a.eval y = .agg cy) (hgd : P.eqGuardType P.depth t = false) (he : ∀ w, (Op.equalIn 10000 t (.agg cx) (.agg cy)).run P w = .ok b w)
    (hs : Region.noSelect ops = true) (hf : Region.free md ops listed i = true) (hr : (Region.ready md ops listed).contains i = true)
    (hQ : ∀ c a v d w, Q (.panic c) (a.put d v) w → Q (.panic c) a w) (hw : S w)
    (h : wpAnyH P md ops Q S fuel (listed.setIfInBounds i true) (a.put dst (.bool b)) w) : wpAnyH P md ops Q S (fuel + 1) listed a w :=
  held_any i _ dst _ hi hs hf hr hQ hw (fun oo ho w hw => by
    unfold execOp
    simp [ho, hx, hy, eqGuard, hgd, run_eql_struct, he, Result.andThen]) h

/-- a call that comes up alone -/
theorem held_call (i : Nat) (f : FuncId) (xs : Array Operand) (ts : Array TypeId) (dst : Option Tmp) (args : Array Value) (R : Ending → World → Prop)
    (hi : ops[i]?.map (fun o => (o.op, o.dst, Region.wanted o (yielded ops a.tmps))) = some (.call { callee := .value (.func f), args := xs, argTypes := ts }, dst, true))
    (hr : Region.ready md ops listed = [i]) (hargs : xs.map a.eval = args) (hrun : (callFunc f args).run P w = .ok (.enter f args) w) (hc : Calls P f args w R)
    (h : ∀ e w', R e w' → ∃ v, e = .returned v ∧ S w' ∧ (S w' → wpAnyH P md ops Q S fuel (listed.setIfInBounds i true) (a.put dst v) w')) : wpAnyH P md ops Q S (fuel + 1) listed a w := by
  obtain ⟨oi, ho, he⟩ := Option.map_eq_some_iff.1 hi
  simp only [Prod.mk.injEq] at he
  refine wpAnyH_ready (rs := [i]) hr (by simp) ?_
  refine AllReadyH.cons ho (fun K hK => ?_) AllReadyH.nil
  rw [if_pos he.2.2]
  obtain ⟨op, od, oty, opos, oaf, ogd⟩ := oi
  obtain ⟨he1, he2, he3⟩ := he
  simp only at he1 he2
  subst he1 he2
  simp only [go_sem]
  simp only [Array.empty_append, Array.append_empty, hargs, hrun, Oper.upon_enter]
  refine hc.mono fun e w' hh => ?_
  obtain ⟨v, rfl, hS, hk⟩ := h e w' hh
  exact hK.out _ _ hS hk
end
end Go.Proofs.Ytmkejgpdimdagaa
