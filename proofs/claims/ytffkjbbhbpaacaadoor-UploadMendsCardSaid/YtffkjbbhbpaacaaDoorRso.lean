/-
  The lines of XRsp, kind by kind.
-/
import Derived.Test.YtffkjbbhbpaacaaDoorRsp
namespace Go.Proofs.YtffkjbbhbpaacaaDoor
open Go.RowKit

/-- the frame that an operation sees -/
def fr (l : List Sp) (anc : List Nat) (a : Act) (v : Nat → Value) : Act := puts (valOf l v) (l.filter fun s' => anc.contains s'.i) a

section
variable {P : Program} {ops : Array Oper} {l : List Sp} {a : Act} {w : World}

theorem Owes.mk_k {i : Nat} {dst : Option Tmp} {anc : List Nat} {x : Value} (h : ∀ (v : Nat → Value) (w' : World), Below w.heap.size w w' → Opens l anc v w' → ∀ o, ops[i]? = some o →
    opDoes P ops o (fr l anc a v) w' fun y w'' => Below w.heap.size w' w'' ∧ Cells w' w'' ∧ y = x) : Owes P ops l a w (Sp.k i dst anc x) :=
  ⟨fun _ _ _ h _ => h, h⟩
theorem Owes.mk_o {i : Nat} {dst : Option Tmp} {anc : List Nat} {says : Value → World → Prop} (hm : ∀ y w1 w2, says y w1 → Cells w1 w2 → says y w2)
    (h : ∀ (v : Nat → Value) (w' : World), Below w.heap.size w w' → Opens l anc v w' → ∀ o, ops[i]? = some o →
    opDoes P ops o (fr l anc a v) w' fun y w'' => Below w.heap.size w' w'' ∧ Cells w' w'' ∧ says y w'') : Owes P ops l a w (Sp.o i dst anc says) :=
  ⟨hm, h⟩

theorem opDoes.value {o : Oper} {a : Act} {w w' : World} {v : Value} {K : Value → World → Prop} (hw : Region.wanted o (yielded ops a.tmps) = true) (hr : (execOp a.eval o).run P w = .ok (.value v) w') (hk : K v w') : opDoes P ops o a w K := by
  unfold opDoes
  rw [if_pos hw, hr]
  exact hk

/-- an operation that only reckons, its value known -/
theorem owes_pure (i : Nat) (dst : Option Tmp) (anc : List Nat) (x : Value) (op : Op) (hop : ∀ v, ops[i]?.map (fun o => (o.op, Region.wanted o (yielded ops (fr l anc a v).tmps))) = some (op, true))
    (hy : ∀ (v : Nat → Value) (w' : World), Below w.heap.size w w' → Opens l anc v w' → ∀ o : Oper, o.op = op → (execOp (fr l anc a v).eval o).run P w' = .ok (.value x) w') : Owes P ops l a w (Sp.k i dst anc x) :=
  .mk_k fun v w' hb ho o hi => by
    have h := hop v
    rw [hi] at h
    simp only [Option.map_some, Option.some.injEq, Prod.mk.injEq] at h
    exact .value h.2 (hy v w' hb ho o h.1) ⟨Below.refl _ _, Cells.refl _, rfl⟩
/-- an operation that only reckons -/
theorem owes_pure_o (i : Nat) (dst : Option Tmp) (anc : List Nat) (says : Value → World → Prop) (op : Op) (hop : ∀ v, ops[i]?.map (fun o => (o.op, Region.wanted o (yielded ops (fr l anc a v).tmps))) = some (op, true))
    (hm : ∀ y w1 w2, says y w1 → Cells w1 w2 → says y w2)
    (hy : ∀ (v : Nat → Value) (w' : World), Below w.heap.size w w' → Opens l anc v w' → ∃ x w'', (∀ o : Oper, o.op = op → (execOp (fr l anc a v).eval o).run P w' = .ok (.value x) w'') ∧ Below w.heap.size w' w'' ∧ Cells w' w'' ∧ says x w'') : Owes P ops l a w (Sp.o i dst anc says) :=
  .mk_o hm fun v w' hb ho o hi => by
    have h := hop v
    rw [hi] at h
    simp only [Option.map_some, Option.some.injEq, Prod.mk.injEq] at h
    obtain ⟨x, w'', h1, h2⟩ := hy v w' hb ho
    exact .value h.2 (h1 o h.1) h2
/-- its guard is false -/
theorem owes_skip (i : Nat) (dst : Option Tmp) (anc : List Nat) (hop : ∀ v, ops[i]?.map (fun o => Region.wanted o (yielded ops (fr l anc a v).tmps)) = some false) : Owes P ops l a w (Sp.k i dst anc undef) :=
  .mk_k fun v w' hb ho o hi => by
    have h := hop v
    rw [hi] at h
    simp only [Option.map_some, Option.some.injEq] at h
    unfold opDoes
    rw [if_neg (by rw [h]; simp)]
    exact ⟨Below.refl _ _, Cells.refl _, rfl⟩

theorem owes_move (i : Nat) (dst : Option Tmp) (anc : List Nat) (x : Value) (y : Operand) (hop : ∀ v, ops[i]?.map (fun o => (o.op, Region.wanted o (yielded ops (fr l anc a v).tmps))) = some (.move y, true))
    (hv : ∀ v, (fr l anc a v).eval y = x) : Owes P ops l a w (Sp.k i dst anc x) :=
  owes_pure i dst anc x _ hop fun v w' _ _ o ho => by unfold execOp; simp [ho, hv v]
theorem owes_assign (i : Nat) (dst : Option Tmp) (anc : List Nat) (x : Value) (y : Operand) (hop : ∀ v, ops[i]?.map (fun o => (o.op, Region.wanted o (yielded ops (fr l anc a v).tmps))) = some (.assign y, true))
    (hv : ∀ v, (fr l anc a v).eval y = x) : Owes P ops l a w (Sp.k i dst anc x) :=
  owes_pure i dst anc x _ hop fun v w' _ _ o ho => by unfold execOp; simp [ho, hv v]
/-- a value that is not known goes on -/
theorem owes_move_o (i : Nat) (dst : Option Tmp) (anc : List Nat) (says : Value → World → Prop) (y : Operand) (j : Nat) (hop : ∀ v, ops[i]?.map (fun o => (o.op, Region.wanted o (yielded ops (fr l anc a v).tmps))) = some (.move y, true))
    (hm : ∀ y w1 w2, says y w1 → Cells w1 w2 → says y w2) (hj : ∀ v, (fr l anc a v).eval y = v j) (hv : ∀ v w', Below w.heap.size w w' → Opens l anc v w' → says (v j) w') : Owes P ops l a w (Sp.o i dst anc says) :=
  owes_pure_o i dst anc says _ hop hm fun v w' hb ho => ⟨(fr l anc a v).eval y, w', fun o h => by unfold execOp; simp [h], Below.refl _ _, Cells.refl _, by rw [hj v]; exact hv v w' hb ho⟩
theorem owes_assign_o (i : Nat) (dst : Option Tmp) (anc : List Nat) (says : Value → World → Prop) (y : Operand) (j : Nat) (hop : ∀ v, ops[i]?.map (fun o => (o.op, Region.wanted o (yielded ops (fr l anc a v).tmps))) = some (.assign y, true))
    (hm : ∀ y w1 w2, says y w1 → Cells w1 w2 → says y w2) (hj : ∀ v, (fr l anc a v).eval y = v j) (hv : ∀ v w', Below w.heap.size w w' → Opens l anc v w' → says (v j) w') : Owes P ops l a w (Sp.o i dst anc says) :=
  owes_pure_o i dst anc says _ hop hm fun v w' hb ho => ⟨(fr l anc a v).eval y, w', fun o h => by unfold execOp; simp [h], Below.refl _ _, Cells.refl _, by rw [hj v]; exact hv v w' hb ho⟩
theorem owes_pick (i : Nat) (dst : Option Tmp) (anc : List Nat) (r : Value) (c x y : Operand) (b : Bool) (hop : ∀ v, ops[i]?.map (fun o => (o.op, Region.wanted o (yielded ops (fr l anc a v).tmps))) = some (.pick c x y, true))
    (hc : ∀ v, (fr l anc a v).eval c = .bool b) (hv : ∀ v, (if b then (fr l anc a v).eval x else (fr l anc a v).eval y) = r) : Owes P ops l a w (Sp.k i dst anc r) :=
  owes_pure i dst anc r _ hop fun v w' _ _ o ho => by unfold execOp; simp [ho, hc v, asBool, hv v]
theorem owes_bin (i : Nat) (dst : Option Tmp) (anc : List Nat) (r : Value) (op : BinOp) (t : TypeId) (x y : Operand) (u : TypeId) (vx vy : Value) (hop : ∀ v, ops[i]?.map (fun o => (o.op, Region.wanted o (yielded ops (fr l anc a v).tmps))) = some (.binOp op t x y u, true))
    (hx : ∀ v, ((fr l anc a v).eval x, (fr l anc a v).eval y) = (vx, vy)) (he : ∀ w, (do eqGuard op t x y vx vy; binOp op t vx vy : Sem Value).run P w = .ok r w) : Owes P ops l a w (Sp.k i dst anc r) :=
  owes_pure i dst anc r _ hop fun v w' _ _ o ho => by
    have hx := hx v
    simp only [Prod.mk.injEq] at hx
    have := he w'
    unfold execOp
    simp only [ho, hx.1, hx.2]
    rw [Sem.run_bind, this]
    rfl
/-- a comparison of two rows of bytes -/
theorem owes_eql (i : Nat) (dst : Option Tmp) (anc : List Nat) (t : TypeId) (x y : Operand) (u : TypeId) (cx cy : Array Value) (b : Bool) (hop : ∀ v, ops[i]?.map (fun o => (o.op, Region.wanted o (yielded ops (fr l anc a v).tmps))) = some (.binOp .eql t x y u, true))
    (hx : ∀ v, ((fr l anc a v).eval x, (fr l anc a v).eval y) = (.agg cx, .agg cy)) (hgd : P.eqGuardType P.depth t = false) (he : ∀ w, (Op.equalIn 10000 t (.agg cx) (.agg cy)).run P w = .ok b w) : Owes P ops l a w (Sp.k i dst anc (.bool b)) :=
  owes_pure i dst anc _ _ hop fun v w' _ _ o ho => by
    have hx := hx v
    simp only [Prod.mk.injEq] at hx
    unfold execOp
    simp [ho, hx.1, hx.2, eqGuard, hgd, run_eql_struct, he, Result.andThen]
theorem owes_neq (i : Nat) (dst : Option Tmp) (anc : List Nat) (t : TypeId) (x y : Operand) (u : TypeId) (cx cy : Array Value) (b : Bool) (hop : ∀ v, ops[i]?.map (fun o => (o.op, Region.wanted o (yielded ops (fr l anc a v).tmps))) = some (.binOp .neq t x y u, true))
    (hx : ∀ v, ((fr l anc a v).eval x, (fr l anc a v).eval y) = (.agg cx, .agg cy)) (hgd : P.eqGuardType P.depth t = false) (he : ∀ w, (Op.equalIn 10000 t (.agg cx) (.agg cy)).run P w = .ok b w) : Owes P ops l a w (Sp.k i dst anc (.bool (!b))) :=
  owes_pure i dst anc _ _ hop fun v w' _ _ o ho => by
    have hx := hx v
    simp only [Prod.mk.injEq] at hx
    unfold execOp
    simp [ho, hx.1, hx.2, eqGuard, hgd, run_neq_struct, he, Result.andThen]
theorem owes_slice (i : Nat) (dst : Option Tmp) (anc : List Nat) (r : Value) (t : TypeId) (x : Operand) (lo hi mx : Option Operand) (vx : Value) (vl vh vm : Option Value) (hop : ∀ v, ops[i]?.map (fun o => (o.op, Region.wanted o (yielded ops (fr l anc a v).tmps))) = some (.slice t x lo hi mx, true))
    (hx : ∀ v, ((fr l anc a v).eval x, lo.map (fr l anc a v).eval, hi.map (fr l anc a v).eval, mx.map (fr l anc a v).eval) = (vx, vl, vh, vm)) (he : ∀ w, (Instr.sliceAt t vx vl vh vm).run P w = .ok r w) : Owes P ops l a w (Sp.k i dst anc r) :=
  owes_pure i dst anc _ _ hop fun v w' _ _ o ho => by
    have hx := hx v
    simp only [Prod.mk.injEq] at hx
    unfold execOp
    simp [ho, hx.1, hx.2.1, hx.2.2.1, hx.2.2.2, he, Result.andThen]
theorem owes_index (i : Nat) (dst : Option Tmp) (anc : List Nat) (r : Value) (t : TypeId) (x y : Operand) (vx vy : Value) (hop : ∀ v, ops[i]?.map (fun o => (o.op, Region.wanted o (yielded ops (fr l anc a v).tmps))) = some (.indexAddr t x y, true))
    (hx : ∀ v, ((fr l anc a v).eval x, (fr l anc a v).eval y) = (vx, vy)) (he : ∀ w, (Instr.indexAt t vx vy).run P w = .ok r w) : Owes P ops l a w (Sp.k i dst anc r) :=
  owes_pure i dst anc _ _ hop fun v w' _ _ o ho => by
    have hx := hx v
    simp only [Prod.mk.injEq] at hx
    unfold execOp
    simp [ho, hx.1, hx.2, he, Result.andThen]
theorem owes_load (i : Nat) (dst : Option Tmp) (anc : List Nat) (r : Value) (t : TypeId) (x : Operand) (vx : Value) (hop : ∀ v, ops[i]?.map (fun o => (o.op, Region.wanted o (yielded ops (fr l anc a v).tmps))) = some (.load t x, true))
    (hx : ∀ v, (fr l anc a v).eval x = vx) (he : ∀ w', Below w.heap.size w w' → (Instr.loadAt t vx).run P w' = .ok r w') : Owes P ops l a w (Sp.k i dst anc r) :=
  owes_pure i dst anc _ _ hop fun v w' hb _ o ho => by
    unfold execOp
    simp [ho, hx v, he w' hb, Result.andThen]
/-- a whole row is read -/
theorem load_row (t : TypeId) (b o : Nat) (cs : List Value) (d : TypeDesc) (hu : P.underlying t = some d) (hd : d.isRow = true) (hsz : (P.info? t).map (·.size) = some cs.length) (w : World) (h : w.rangeAt b o cs) :
    (Instr.loadAt t (.pointer (some ⟨b, o, none⟩))).run P w = .ok (.agg cs.toArray) w := by
  simp only [Instr.loadAt, Instr.sureAddr, Sem.run_bind, Sem.run_pure, Result.andThen_ok, run_loadVar_mid w b o t cs d h hu hd hsz]

/-- a call, its answer known -/
theorem owes_call (i : Nat) (dst : Option Tmp) (anc : List Nat) (r : Value) (f : FuncId) (xs : Array Operand) (ts : Array TypeId) (hop : ∀ v, ops[i]?.map (fun o => (o.op, Region.wanted o (yielded ops (fr l anc a v).tmps))) = some (.call { callee := .value (.func f), args := xs, argTypes := ts }, true))
    (hf : ∀ args w, (callFunc f args).run P w = .ok (.enter f args) w)
    (hc : ∀ v w', Below w.heap.size w w' → Opens l anc v w' → ∃ args, xs.map (fr l anc a v).eval = args ∧ Calls P f args w' fun e w'' => e = .returned r ∧ Below w'.heap.size w' w'') : Owes P ops l a w (Sp.k i dst anc r) :=
  .mk_k fun v w' hb ho o hi => by
    have h := hop v
    rw [hi] at h
    simp only [Option.map_some, Option.some.injEq, Prod.mk.injEq] at h
    obtain ⟨args, hargs, hcall⟩ := hc v w' hb ho
    obtain ⟨op, od, oty, opos, oaf, ogd⟩ := o
    obtain ⟨he1, he2⟩ := h
    simp only at he1
    subst he1
    unfold opDoes
    rw [if_pos he2]
    simp only [go_sem]
    simp only [Array.empty_append, Array.append_empty, hargs, hf args w']
    exact hcall.mono fun e w'' ⟨h1, h2⟩ => ⟨r, h1, h2.mono hb.size, .of_below h2, rfl⟩
/-- a call -/
theorem owes_call_o (i : Nat) (dst : Option Tmp) (anc : List Nat) (says : Value → World → Prop) (f : FuncId) (xs : Array Operand) (ts : Array TypeId) (hop : ∀ v, ops[i]?.map (fun o => (o.op, Region.wanted o (yielded ops (fr l anc a v).tmps))) = some (.call { callee := .value (.func f), args := xs, argTypes := ts }, true))
    (hf : ∀ args w, (callFunc f args).run P w = .ok (.enter f args) w) (hm : ∀ y w1 w2, says y w1 → Cells w1 w2 → says y w2)
    (hc : ∀ v w', Below w.heap.size w w' → Opens l anc v w' → ∃ args, xs.map (fr l anc a v).eval = args ∧ Calls P f args w' fun e w'' => ∃ r, e = .returned r ∧ Below w'.heap.size w' w'' ∧ says r w'') : Owes P ops l a w (Sp.o i dst anc says) :=
  .mk_o hm fun v w' hb ho o hi => by
    have h := hop v
    rw [hi] at h
    simp only [Option.map_some, Option.some.injEq, Prod.mk.injEq] at h
    obtain ⟨args, hargs, hcall⟩ := hc v w' hb ho
    obtain ⟨op, od, oty, opos, oaf, ogd⟩ := o
    obtain ⟨he1, he2⟩ := h
    simp only at he1
    subst he1
    unfold opDoes
    rw [if_pos he2]
    simp only [go_sem]
    simp only [Array.empty_append, Array.append_empty, hargs, hf args w']
    exact hcall.mono fun e w'' ⟨r, h1, h2, h3⟩ => ⟨r, h1, h2.mono hb.size, .of_below h2, h3⟩

/-- a slice, made of its elements -/
theorem owes_bsl (i : Nat) (dst : Option Tmp) (anc : List Nat) (says : Value → World → Prop) (t e : TypeId) (n : Nat) (ps : Array (Nat × Operand)) (vs : Array (Nat × Value)) (cs : Array Value) (hop : ∀ v, ops[i]?.map (fun o => (o.op, Region.wanted o (yielded ops (fr l anc a v).tmps))) = some (.buildSlice t n ps, true))
    (hx : ∀ v, (ps.map fun x => (x.1, (fr l anc a v).eval x.2)) = vs) (he : ∀ w : World, (Instr.buildSlice t n vs).run P w = .ok (.slice (some ⟨w.heap.size, 0, none⟩) n n) (w.alloc (.cells cs e)))
    (hm : ∀ y w1 w2, says y w1 → Cells w1 w2 → says y w2) (hs : ∀ w', Below w.heap.size w w' → says (.slice (some ⟨w'.heap.size, 0, none⟩) n n) (w'.alloc (.cells cs e))) : Owes P ops l a w (Sp.o i dst anc says) :=
  owes_pure_o i dst anc says _ hop hm fun v w' hb _ => ⟨_, _, fun o ho => by
    have hx := hx v
    unfold execOp
    simp only [ho, hx, Sem.run_bind, he w']
    rfl, (Below.refl _ _).alloc hb.size _, .of_below ((Below.refl _ _).alloc (Nat.le_refl _) _), hs w' hb⟩
/-- a conversion that leaves the value as it is (its cells are marked) -/
theorem owes_conv (i : Nat) (dst : Option Tmp) (anc : List Nat) (says : Value → World → Prop) (t u : TypeId) (x : Operand) (hop : ∀ v, ops[i]?.map (fun o => (o.op, Region.wanted o (yielded ops (fr l anc a v).tmps))) = some (.convert t u x, true))
    (hm : ∀ y w1 w2, says y w1 → Cells w1 w2 → says y w2)
    (hs : ∀ v w', Below w.heap.size w w' → Opens l anc v w' → ∃ vx r w'', (fr l anc a v).eval x = vx ∧ (convert t u vx).run P w' = .ok r w'' ∧ Below w.heap.size w' w'' ∧ Cells w' w'' ∧ says r w'') : Owes P ops l a w (Sp.o i dst anc says) :=
  owes_pure_o i dst anc says _ hop hm fun v w' hb ho => by
    obtain ⟨vx, r, w'', h1, h2, h3, h4, h5⟩ := hs v w' hb ho
    refine ⟨r, w'', fun o hop => ?_, h3, h4, h5⟩
    unfold execOp
    simp only [hop, h1, Sem.run_bind, h2]
    rfl
theorem owes_extract (i : Nat) (dst : Option Tmp) (anc : List Nat) (x : Operand) (k : Nat) (vs : Array Value) (r : Value) (hop : ∀ v, ops[i]?.map (fun o => (o.op, Region.wanted o (yielded ops (fr l anc a v).tmps))) = some (.extract x k, true))
    (hv : ∀ v, (fr l anc a v).eval x = .tuple vs) (he : ∀ w, (Instr.extract (.tuple vs) k).run P w = .ok r w) : Owes P ops l a w (Sp.k i dst anc r) :=
  owes_pure i dst anc r _ hop fun v w' _ _ o ho => by unfold execOp; simp only [ho, hv v, Sem.run_bind, he w']; rfl
theorem owes_extract_o (i : Nat) (dst : Option Tmp) (anc : List Nat) (says : Value → World → Prop) (x : Operand) (k : Nat) (hop : ∀ v, ops[i]?.map (fun o => (o.op, Region.wanted o (yielded ops (fr l anc a v).tmps))) = some (.extract x k, true))
    (hm : ∀ y w1 w2, says y w1 → Cells w1 w2 → says y w2)
    (hv : ∀ v w', Below w.heap.size w w' → Opens l anc v w' → ∃ vs r, (fr l anc a v).eval x = .tuple vs ∧ (Instr.extract (.tuple vs) k).run P w' = .ok r w' ∧ says r w') : Owes P ops l a w (Sp.o i dst anc says) :=
  owes_pure_o i dst anc says _ hop hm fun v w' hb ho => by
    obtain ⟨vs, r, h1, h2, h3⟩ := hv v w' hb ho
    exact ⟨r, w', fun o hop => by unfold execOp; simp only [hop, h1, Sem.run_bind, h2]; rfl, Below.refl _ _, Cells.refl _, h3⟩

/-- append, its run known -/
theorem owes_append (i : Nat) (dst : Option Tmp) (anc : List Nat) (says : Value → World → Prop) (x y : Operand) (t u ty : TypeId) (hop : ∀ v, ops[i]?.map (fun o => (o.op, Region.wanted o (yielded ops (fr l anc a v).tmps))) = some (.call { callee := .builtin .append, args := #[x, y], argTypes := #[t, u] }, true)) (hty : ops[i]?.map (·.type) = some ty)
    (hm : ∀ y w1 w2, says y w1 → Cells w1 w2 → says y w2)
    (hs : ∀ v w', Below w.heap.size w w' → Opens l anc v w' → ∃ vx vy r w'', (fr l anc a v).eval x = vx ∧ (fr l anc a v).eval y = vy ∧ (Builtin.append_ #[t, u] ty #[vx, vy]).run P w' = .ok r w'' ∧ Below w'.heap.size w' w'' ∧ says r w'') : Owes P ops l a w (Sp.o i dst anc says) :=
  .mk_o hm fun v w' hb ho o hi => by
    have h := hop v
    rw [hi] at h hty
    simp only [Option.map_some, Option.some.injEq, Prod.mk.injEq] at h hty
    obtain ⟨vx, vy, r, w'', h1, h2, h3, h4, h5⟩ := hs v w' hb ho
    refine .value (v := r) (w' := w'') h.2 ?_ ⟨h4.mono hb.size, .of_below h4, h5⟩
    simp only [execOp, h.1, resolve, invoke, builtin, Sem.run_bind, Sem.run_pure, Result.andThen_ok, List.map_toArray, List.map_cons, List.map_nil, h1, h2, hty, h3]
end
end Go.Proofs.YtffkjbbhbpaacaaDoor
