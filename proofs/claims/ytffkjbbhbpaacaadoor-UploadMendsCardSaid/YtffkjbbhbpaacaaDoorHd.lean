import Derived.Test.YtffkjbbhbpaacaaDoorKit
import Derived.Stop.BytesEq
import Derived.Deep.MidRow
import Derived.Deep.RegionHeld3
namespace Go.Proofs.YtffkjbbhbpaacaaDoor
open Go.RowKit

section
variable {P : Program} {md : Region.Mode} {ops : Array Oper} {Q : Exit → Act → World → Prop} {S : World → Prop} {fuel : Nat} {listed : Array Bool} {a : Act} {w : World}

/-- one operation of a region that draws its order is taken first; all that is reckoned is reckoned by the kernel -/
theorem held_any (i : Nat) (op : Op) (dst : Option Tmp) (v : Value) (hi : ops[i]?.map (fun o => (o.op, o.dst, Region.wanted o (yielded ops a.tmps))) = some (op, dst, true))
    (hs : Region.noSelect ops = true) (hf : Region.free md ops listed i = true) (hr : (Region.ready md ops listed).contains i = true)
    (hQ : ∀ c a v d w, Q (.panic c) (a.put d v) w → Q (.panic c) a w) (hw : S w)
    (hy : ∀ o, o.op = op → ∀ w, S w → (execOp a.eval o).run P w = .ok (.value v) w)
    (h : wpAnyH P md ops Q S fuel (listed.setIfInBounds i true) (a.put dst v) w) : wpAnyH P md ops Q S (fuel + 1) listed a w := by
  obtain ⟨oi, ho, he⟩ := Option.map_eq_some_iff.1 hi
  simp only [Prod.mk.injEq] at he
  exact wpAnyH_take ho hs hf hr (fun c a w => hQ c a v oi.dst w) (.inl ⟨he.2.2, hy oi he.1⟩) hw (by rw [he.2.1]; exact h)

theorem held_move (i : Nat) (x : Operand) (dst : Option Tmp) (v : Value) (hi : ops[i]?.map (fun o => (o.op, o.dst, Region.wanted o (yielded ops a.tmps))) = some (.move x, dst, true))
    (hv : a.eval x = v) (hs : Region.noSelect ops = true) (hf : Region.free md ops listed i = true) (hr : (Region.ready md ops listed).contains i = true)
    (hQ : ∀ c a v d w, Q (.panic c) (a.put d v) w → Q (.panic c) a w) (hw : S w)
    (h : wpAnyH P md ops Q S fuel (listed.setIfInBounds i true) (a.put dst v) w) : wpAnyH P md ops Q S (fuel + 1) listed a w :=
  held_any i _ dst v hi hs hf hr hQ hw (fun o ho w _ => by unfold execOp; simp [ho, hv]) h

theorem held_assign (i : Nat) (x : Operand) (dst : Option Tmp) (v : Value) (hi : ops[i]?.map (fun o => (o.op, o.dst, Region.wanted o (yielded ops a.tmps))) = some (.assign x, dst, true))
    (hv : a.eval x = v) (hs : Region.noSelect ops = true) (hf : Region.free md ops listed i = true) (hr : (Region.ready md ops listed).contains i = true)
    (hQ : ∀ c a v d w, Q (.panic c) (a.put d v) w → Q (.panic c) a w) (hw : S w)
    (h : wpAnyH P md ops Q S fuel (listed.setIfInBounds i true) (a.put dst v) w) : wpAnyH P md ops Q S (fuel + 1) listed a w :=
  held_any i _ dst v hi hs hf hr hQ hw (fun o ho w _ => by unfold execOp; simp [ho, hv]) h

theorem held_pick (i : Nat) (c x y : Operand) (dst : Option Tmp) (b : Bool) (v : Value) (hi : ops[i]?.map (fun o => (o.op, o.dst, Region.wanted o (yielded ops a.tmps))) = some (.pick c x y, dst, true))
    (hc : a.eval c = .bool b) (hv : (if b then a.eval x else a.eval y) = v) (hs : Region.noSelect ops = true) (hf : Region.free md ops listed i = true) (hr : (Region.ready md ops listed).contains i = true)
    (hQ : ∀ c a v d w, Q (.panic c) (a.put d v) w → Q (.panic c) a w) (hw : S w)
    (h : wpAnyH P md ops Q S fuel (listed.setIfInBounds i true) (a.put dst v) w) : wpAnyH P md ops Q S (fuel + 1) listed a w :=
  held_any i _ dst v hi hs hf hr hQ hw (fun o ho w _ => by unfold execOp; simp [ho, hc, asBool, hv]) h

theorem held_load (i : Nat) (ty : TypeId) (x : Operand) (dst : Option Tmp) (b o : Nat) (cs : List Value) (d : TypeDesc) (hi : ops[i]?.map (fun o => (o.op, o.dst, Region.wanted o (yielded ops a.tmps))) = some (.load ty x, dst, true))
    (hx : a.eval x = .pointer (some ⟨b, o, none⟩)) (hS : ∀ w, S w → w.rangeAt b o cs) (hu : P.underlying ty = some d) (hd : d.isRow = true) (hsz : (P.info? ty).map (·.size) = some cs.length)
    (hs : Region.noSelect ops = true) (hf : Region.free md ops listed i = true) (hr : (Region.ready md ops listed).contains i = true)
    (hQ : ∀ c a v d w, Q (.panic c) (a.put d v) w → Q (.panic c) a w) (hw : S w)
    (h : wpAnyH P md ops Q S fuel (listed.setIfInBounds i true) (a.put dst (.agg cs.toArray)) w) : wpAnyH P md ops Q S (fuel + 1) listed a w :=
  held_any i _ dst _ hi hs hf hr hQ hw (fun oo ho w hw => by
    unfold execOp
    simp only [ho, hx, Instr.loadAt, Instr.sureAddr, Sem.run_bind, Sem.run_pure, Result.andThen_ok, run_loadVar_mid w b o ty cs d (hS w hw) hu hd hsz]) h

/-- a comparison of two rows of bytes -/
theorem held_eql (i : Nat) (t : TypeId) (x y : Operand) (r : TypeId) (dst : Option Tmp) (cx cy : Array Value) (b : Bool) (hi : ops[i]?.map (fun o => (o.op, o.dst, Region.wanted o (yielded ops a.tmps))) = some (.binOp .eql t x y r, dst, true))
    (hx : a.eval x = .agg cx) (hy : a.eval y = .agg cy) (hgd : P.eqGuardType P.depth t = false) (he : ∀ w, (Op.equalIn 10000 t (.agg cx) (.agg cy)).run P w = .ok b w)
    (hs : Region.noSelect ops = true) (hf : Region.free md ops listed i = true) (hr : (Region.ready md ops listed).contains i = true)
    (hQ : ∀ c a v d w, Q (.panic c) (a.put d v) w → Q (.panic c) a w) (hw : S w)
    (h : wpAnyH P md ops Q S fuel (listed.setIfInBounds i true) (a.put dst (.bool b)) w) : wpAnyH P md ops Q S (fuel + 1) listed a w :=
  held_any i _ dst _ hi hs hf hr hQ hw (fun oo ho w hw => by
    unfold execOp
    simp [ho, hx, hy, eqGuard, hgd, run_eql_struct, he, Result.andThen]) h

/-- a call that comes up alone -/
theorem held_call (i : Nat) (f : FuncId) (xs : Array Operand) (ts : Array TypeId) (dst : Option Tmp) (args : Array Value) (R : Ending → World → Prop)
    (hi : ops[i]?.map (fun o => (o.op, o.dst, Region.wanted o (yielded ops a.tmps))) = some (.call { callee := .value (.func f), args := xs, argTypes := ts }, dst, true))
    (hr : Region.ready md ops listed = [i]) (hargs : xs.map a.eval = args) (hrun : (callFunc f args).run P w = .ok (.enter f args) w) (hc : Calls P f args w R)
    (h : ∀ e w', R e w' → ∃ v, e = .returned v ∧ S w' ∧ (S w' → wpAnyH P md ops Q S fuel (listed.setIfInBounds i true) (a.put dst v) w')) : wpAnyH P md ops Q S (fuel + 1) listed a w := by
  obtain ⟨oi, ho, he⟩ := Option.map_eq_some_iff.1 hi
  simp only [Prod.mk.injEq] at he
  refine wpAnyH_ready (rs := [i]) hr (by simp) ?_
  refine AllReadyH.cons ho (fun K hK => ?_) AllReadyH.nil
  rw [if_pos he.2.2]
  obtain ⟨op, od, oty, opos, oaf, ogd⟩ := oi
  obtain ⟨he1, he2, he3⟩ := he
  simp only at he1 he2
  subst he1 he2
  simp only [go_sem]
  simp only [Array.empty_append, Array.append_empty, hargs, hrun, Oper.upon_enter]
  refine hc.mono fun e w' hh => ?_
  obtain ⟨v, rfl, hS, hk⟩ := h e w' hh
  exact hK.out _ _ hS hk

/-- one of the operations that are ready: a call -/
theorem rdy_call {rs : List Nat} (i : Nat) (f : FuncId) (xs : Array Operand) (ts : Array TypeId) (dst : Option Tmp) (args : Array Value) (R : Ending → World → Prop)
    (hi : ops[i]?.map (fun o => (o.op, o.dst, Region.wanted o (yielded ops a.tmps))) = some (.call { callee := .value (.func f), args := xs, argTypes := ts }, dst, true))
    (hargs : xs.map a.eval = args) (hrun : (callFunc f args).run P w = .ok (.enter f args) w) (hc : Calls P f args w R)
    (h : ∀ e w', R e w' → ∃ v, e = .returned v ∧ S w' ∧ (S w' → wpAnyH P md ops Q S fuel (listed.setIfInBounds i true) (a.put dst v) w')) (rest : AllReadyH P md ops Q S fuel listed a w rs) : AllReadyH P md ops Q S fuel listed a w (i :: rs) := by
  obtain ⟨oi, ho, he⟩ := Option.map_eq_some_iff.1 hi
  simp only [Prod.mk.injEq] at he
  refine AllReadyH.cons ho (fun K hK => ?_) rest
  rw [if_pos he.2.2]
  obtain ⟨op, od, oty, opos, oaf, ogd⟩ := oi
  obtain ⟨he1, he2, he3⟩ := he
  simp only at he1 he2
  subst he1 he2
  simp only [go_sem]
  simp only [Array.empty_append, Array.append_empty, hargs, hrun, Oper.upon_enter]
  refine hc.mono fun e w' hh => ?_
  obtain ⟨v, rfl, hS, hk⟩ := h e w' hh
  exact hK.out _ _ hS hk
/-- one of the operations that are ready: a slice of one element, made -/
theorem rdy_bsl {rs : List Nat} (i : Nat) (t e : TypeId) (x : Operand) (dst : Option Tmp) (v : Value)
    (hi : ops[i]?.map (fun o => (o.op, o.dst, Region.wanted o (yielded ops a.tmps))) = some (.buildSlice t 1 #[(0, x)], dst, true))
    (hx : a.eval x = v) (hrun : (Instr.buildSlice t 1 #[(0, v)]).run P w = .ok (.slice (some ⟨w.heap.size, 0, none⟩) 1 1) (w.alloc (.cells #[v] e))) (hS : S (w.alloc (.cells #[v] e)))
    (h : S (w.alloc (.cells #[v] e)) → wpAnyH P md ops Q S fuel (listed.setIfInBounds i true) (a.put dst (.slice (some ⟨w.heap.size, 0, none⟩) 1 1)) (w.alloc (.cells #[v] e))) (rest : AllReadyH P md ops Q S fuel listed a w rs) : AllReadyH P md ops Q S fuel listed a w (i :: rs) := by
  obtain ⟨oi, ho, he⟩ := Option.map_eq_some_iff.1 hi
  simp only [Prod.mk.injEq] at he
  refine AllReadyH.cons ho (fun K hK => ?_) rest
  rw [if_pos he.2.2]
  unfold Oper.wp
  simp [execOp, he.1, hx, hrun, Result.andThen]
  rw [Oper.upon_value, he.2.1]
  exact hK.out _ _ hS h
/-- what is ready comes up, whichever it is -/
theorem held_ready (rs : List Nat) (hr : Region.ready md ops listed = rs) (hne : rs ≠ []) (h : AllReadyH P md ops Q S fuel listed a w rs) : wpAnyH P md ops Q S (fuel + 1) listed a w :=
  wpAnyH_ready (rs := rs) hr hne h

theorem held_slice (i : Nat) (t : TypeId) (x : Operand) (lo hi mx : Option Operand) (dst : Option Tmp) (vx : Value) (l h m : Option Value) (v : Value) (ho : ops[i]?.map (fun o => (o.op, o.dst, Region.wanted o (yielded ops a.tmps))) = some (.slice t x lo hi mx, dst, true))
    (hx : (a.eval x, lo.map a.eval, hi.map a.eval, mx.map a.eval) = (vx, l, h, m)) (he : ∀ w, (Instr.sliceAt t vx l h m).run P w = .ok v w)
    (hs : Region.noSelect ops = true) (hf : Region.free md ops listed i = true) (hr : (Region.ready md ops listed).contains i = true)
    (hQ : ∀ c a v d w, Q (.panic c) (a.put d v) w → Q (.panic c) a w) (hw : S w)
    (h : wpAnyH P md ops Q S fuel (listed.setIfInBounds i true) (a.put dst v) w) : wpAnyH P md ops Q S (fuel + 1) listed a w := by
  simp only [Prod.mk.injEq] at hx
  exact held_any i _ dst _ ho hs hf hr hQ hw (fun oo ho w hw => by
    unfold execOp
    simp [ho, hx.1, hx.2.1, hx.2.2.1, hx.2.2.2, he, Result.andThen]) h

theorem held_min (i : Nat) (x y : Operand) (ts : Array TypeId) (dst : Option Tmp) (n c r : Int) (ho : ops[i]?.map (fun o => (o.op, o.dst, Region.wanted o (yielded ops a.tmps))) = some (.call { callee := .builtin .min, args := #[x, y], argTypes := ts }, dst, true))
    (hx : (a.eval x, a.eval y) = (.int .i64 n, .int .i64 c)) (he : (if c < n then c else n) = r)
    (hs : Region.noSelect ops = true) (hf : Region.free md ops listed i = true) (hr : (Region.ready md ops listed).contains i = true)
    (hQ : ∀ c a v d w, Q (.panic c) (a.put d v) w → Q (.panic c) a w) (hw : S w)
    (h : wpAnyH P md ops Q S fuel (listed.setIfInBounds i true) (a.put dst (.int .i64 r)) w) : wpAnyH P md ops Q S (fuel + 1) listed a w := by
  simp only [Prod.mk.injEq] at hx
  exact held_any i _ dst _ ho hs hf hr hQ hw (fun oo ho w hw => by
    unfold execOp
    simp [ho, hx.1, hx.2, he, resolve, invoke, builtin, run_min_int2, Result.andThen]) h

theorem held_bin (i : Nat) (op : BinOp) (t : TypeId) (x y : Operand) (r : TypeId) (dst : Option Tmp) (vx vy v : Value) (ho : ops[i]?.map (fun o => (o.op, o.dst, Region.wanted o (yielded ops a.tmps))) = some (.binOp op t x y r, dst, true))
    (hx : (a.eval x, a.eval y) = (vx, vy)) (he : ∀ w, (do eqGuard op t x y vx vy; binOp op t vx vy : Sem Value).run P w = .ok v w)
    (hs : Region.noSelect ops = true) (hf : Region.free md ops listed i = true) (hr : (Region.ready md ops listed).contains i = true)
    (hQ : ∀ c a v d w, Q (.panic c) (a.put d v) w → Q (.panic c) a w) (hw : S w)
    (h : wpAnyH P md ops Q S fuel (listed.setIfInBounds i true) (a.put dst v) w) : wpAnyH P md ops Q S (fuel + 1) listed a w := by
  simp only [Prod.mk.injEq] at hx
  exact held_any i _ dst _ ho hs hf hr hQ hw (fun oo ho w hw => by
    have := he w
    unfold execOp
    simp only [ho, hx.1, hx.2]
    rw [Sem.run_bind, this]
    rfl) h

/-- a slice made: it comes up alone -/
theorem held_make (i : Nat) (t e : TypeId) (l c : Operand) (dst : Option Tmp) (n : Nat) (inf : TypeInfo) (z : Value) (ho : ops[i]?.map (fun o => (o.op, o.dst, Region.wanted o (yielded ops a.tmps))) = some (.makeSlice t l c, dst, true))
    (hx : (a.eval l, a.eval c) = (.int .i64 n, .int .i64 n)) (ht : P.underlying t = some (.slice e)) (hi : P.info? e = some inf) (hz : inf.zero = some z) (hsize : inf.size = 1) (hz1 : z.cells = #[z])
    (hbytes : inf.bytes * n ≤ 281474976710656) (h63 : n ≤ 9223372036854775807) (hr : Region.ready md ops listed = [i])
    (hS : S (w.alloc (.cells (madeCells #[z] n) e)))
    (h : S (w.alloc (.cells (madeCells #[z] n) e)) → wpAnyH P md ops Q S fuel (listed.setIfInBounds i true) (a.put dst (.slice (some ⟨w.heap.size, 0, none⟩) n n)) (w.alloc (.cells (madeCells #[z] n) e))) : wpAnyH P md ops Q S (fuel + 1) listed a w := by
  obtain ⟨oi, ho, he⟩ := Option.map_eq_some_iff.1 ho
  simp only [Prod.mk.injEq] at he hx
  refine wpAnyH_ready (rs := [i]) hr (by simp) ?_
  refine AllReadyH.cons ho (fun K hK => ?_) AllReadyH.nil
  rw [if_pos he.2.2]
  have hrun := run_make_row (P := P) t e inf z ht hi hz hsize hz1 .i64 .i64 n hbytes h63 w
  unfold Oper.wp
  simp [execOp, he.1, hx.1, hx.2, hrun, Result.andThen]
  rw [Oper.upon_value, he.2.1]
  exact hK.out _ _ hS h
theorem held_index (i : Nat) (t : TypeId) (x y : Operand) (dst : Option Tmp) (vx vy v : Value) (ho : ops[i]?.map (fun o => (o.op, o.dst, Region.wanted o (yielded ops a.tmps))) = some (.indexAddr t x y, dst, true))
    (hx : (a.eval x, a.eval y) = (vx, vy)) (he : ∀ w, (Instr.indexAt t vx vy).run P w = .ok v w)
    (hs : Region.noSelect ops = true) (hf : Region.free md ops listed i = true) (hr : (Region.ready md ops listed).contains i = true)
    (hQ : ∀ c a v d w, Q (.panic c) (a.put d v) w → Q (.panic c) a w) (hw : S w)
    (h : wpAnyH P md ops Q S fuel (listed.setIfInBounds i true) (a.put dst v) w) : wpAnyH P md ops Q S (fuel + 1) listed a w := by
  simp only [Prod.mk.injEq] at hx
  exact held_any i _ dst _ ho hs hf hr hQ hw (fun oo ho w hw => by
    unfold execOp
    simp [ho, hx.1, hx.2, he, Result.andThen]) h
theorem held_cell (i : Nat) (t : TypeId) (x : Operand) (dst : Option Tmp) (vx v : Value) (ho : ops[i]?.map (fun o => (o.op, o.dst, Region.wanted o (yielded ops a.tmps))) = some (.load t x, dst, true))
    (hx : a.eval x = vx) (he : ∀ w, S w → (Instr.loadAt t vx).run P w = .ok v w)
    (hs : Region.noSelect ops = true) (hf : Region.free md ops listed i = true) (hr : (Region.ready md ops listed).contains i = true)
    (hQ : ∀ c a v d w, Q (.panic c) (a.put d v) w → Q (.panic c) a w) (hw : S w)
    (h : wpAnyH P md ops Q S fuel (listed.setIfInBounds i true) (a.put dst v) w) : wpAnyH P md ops Q S (fuel + 1) listed a w :=
  held_any i _ dst _ ho hs hf hr hQ hw (fun oo ho w hw => by
    unfold execOp
    simp [ho, hx, he w hw, Result.andThen]) h
end
section
variable {P : Program} {t e : TypeId}
theorem sliceAt_h (hu : P.underlying t = some (.slice e)) (hs : (P.info? e).map (·.size) = some 1) (A : Option Addr) (n cap h : Nat) (hh : h ≤ cap) (w : World) :
    (Instr.sliceAt t (.slice A n cap) none (some (.int .i64 (h : Int))) none).run P w = .ok (.slice A h cap) w := by
  have e2 : P.elem t = e := by simp [Program.elem, hu]
  have := run_slice_h (P := P) w t A n cap (by rw [e2]; exact hu) .i64 (h : Int) (by omega) (by omega)
  rw [e2] at this
  obtain ⟨i, hi, hz⟩ := Option.map_eq_some_iff.1 hs
  rw [run_sliceAt_slice (h := by rw [e2]; exact hu), this]
  simp [sizeOf, typeInfo, hi, hz, Result.andThen, sliced]
  intro _
  cases A with
  | none => rfl
  | some a => obtain ⟨b, o, r⟩ := a; cases r <;> simp [Addr.add]
theorem sliceAt_arr (n : Nat) (hu : P.underlying t = some (.array n e)) (hs : (P.info? e).map (·.size) = some 1) (b : Nat) (hn : 0 < n) (w : World) :
    (Instr.sliceAt t (.pointer (some ⟨b, 0, none⟩)) none none none).run P w = .ok (.slice (some ⟨b, 0, none⟩) n n) w := by
  have e1 : P.arrayLen t = n := by simp [Program.arrayLen, hu]
  have e2 : P.elem t = e := by simp [Program.elem, hu]
  have := run_sliceAt_array_all (P := P) w t ⟨b, 0, none⟩ (by rw [e1, e2]; exact hu)
  rw [this, e1, e2]
  obtain ⟨i, hi, hz⟩ := Option.map_eq_some_iff.1 hs
  simp [sizeOf, typeInfo, hi, hz, Result.andThen, slicedAt, show ¬ n = 0 by omega, Addr.add]
theorem sliceAt_arr_h (n : Nat) (hu : P.underlying t = some (.array n e)) (hs : (P.info? e).map (·.size) = some 1) (b h : Nat) (hn : 0 < n) (hh : h ≤ n) (w : World) :
    (Instr.sliceAt t (.pointer (some ⟨b, 0, none⟩)) none (some (.int .i64 (h : Int))) none).run P w = .ok (.slice (some ⟨b, 0, none⟩) h n) w := by
  have e1 : P.arrayLen t = n := by simp [Program.arrayLen, hu]
  have e2 : P.elem t = e := by simp [Program.elem, hu]
  have := run_sliceAt_array_h (P := P) w t ⟨b, 0, none⟩ (by rw [e1, e2]; exact hu) .i64 (h : Int) (by omega) (by rw [e1]; omega)
  rw [this, e1, e2]
  obtain ⟨i, hi, hz⟩ := Option.map_eq_some_iff.1 hs
  simp [sizeOf, typeInfo, hi, hz, Result.andThen, slicedAt, show ¬ n = 0 by omega, Addr.add]
end
end Go.Proofs.YtffkjbbhbpaacaaDoor
