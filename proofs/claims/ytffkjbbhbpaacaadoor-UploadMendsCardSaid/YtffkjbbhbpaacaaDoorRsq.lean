/-
  XRsp's laws with the frame behind the region as a variable: for the region that a function ends with.
-/
import Derived.Test.YtffkjbbhbpaacaaDoorRso
namespace Go.Proofs.YtffkjbbhbpaacaaDoor
open Go.RowKit
section
variable {P : Program} {ops : Array Oper} {Q : Exit → Act → World → Prop}
theorem wp_region_spec_v {id : Nat} {a : Act} {w : World} (l : List Sp) (hm : P.follows .mixedOrders = true) (hf : fitsB .any ops ops.size l = true)
    (howe : AllSp (Owes P ops l a w.drew) l)
    (h : ∀ (v : Nat → Value) (w' : World) (A : Act), A = putsK v l a → Below w.drew.heap.size w.drew w' → AllSp (fun s => s.hold (v s.i) w') l → Q .normal A w') : (Code.region id ops true).wp P Q a w :=
  wp_region_spec l hm hf howe fun v w' hb hall => h v w' _ rfl hb hall
theorem wp_region_text_v {id : Nat} {a : Act} {w : World} (l : List Sp) (hf : fitsB .any ops ops.size l = true)
    (howe : AllSp (Owes P ops l a w) l)
    (h : ∀ (v : Nat → Value) (w' : World) (A : Act), A = putsK v l a → Below w.heap.size w w' → AllSp (fun s => s.hold (v s.i) w') l → Q .normal A w') : (Code.region id ops false).wp P Q a w :=
  wp_region_text l hf howe fun v w' hb hall => h v w' _ rfl hb hall
theorem owes_cvt {l : List Sp} {a : Act} {w : World} (i : Nat) (dst : Option Tmp) (anc : List Nat) (r : Value) (t u : TypeId) (x : Operand) (vx : Value) (hop : ∀ v, ops[i]?.map (fun o => (o.op, Region.wanted o (yielded ops (fr l anc a v).tmps))) = some (.convert t u x, true))
    (hx : ∀ v, (fr l anc a v).eval x = vx) (he : ∀ w, (convert t u vx).run P w = .ok r w) : Owes P ops l a w (Sp.k i dst anc r) :=
  owes_pure i dst anc r _ hop fun v w' _ _ o ho => by unfold execOp; simp only [ho, hx v, Sem.run_bind, he w']; rfl
theorem owes_idx {l : List Sp} {a : Act} {w : World} (i : Nat) (dst : Option Tmp) (anc : List Nat) (r : Value) (t : TypeId) (x y : Operand) (vx vy : Value) (hop : ∀ v, ops[i]?.map (fun o => (o.op, Region.wanted o (yielded ops (fr l anc a v).tmps))) = some (.index t x y, true))
    (hx : ∀ v, ((fr l anc a v).eval x, (fr l anc a v).eval y) = (vx, vy)) (he : ∀ w, (Instr.index t vx vy).run P w = .ok r w) : Owes P ops l a w (Sp.k i dst anc r) :=
  owes_pure i dst anc r _ hop fun v w' _ _ o ho => by
    have hx := hx v
    simp only [Prod.mk.injEq] at hx
    unfold execOp; simp only [ho, hx.1, hx.2, Sem.run_bind, he w']; rfl
theorem owes_un {l : List Sp} {a : Act} {w : World} (i : Nat) (dst : Option Tmp) (anc : List Nat) (r : Value) (op : UnOp) (t : TypeId) (x : Operand) (vx : Value) (hop : ∀ v, ops[i]?.map (fun o => (o.op, Region.wanted o (yielded ops (fr l anc a v).tmps))) = some (.unOp op t x, true))
    (hx : ∀ v, (fr l anc a v).eval x = vx) (he : ∀ w, (Op.unary op vx).run P w = .ok r w) : Owes P ops l a w (Sp.k i dst anc r) :=
  owes_pure i dst anc r _ hop fun v w' _ _ o ho => by unfold execOp; simp only [ho, hx v, Sem.run_bind, he w']; rfl
/-- a value, built -/
theorem owes_build {l : List Sp} {a : Act} {w : World} (i : Nat) (dst : Option Tmp) (anc : List Nat) (r : Value) (t : TypeId) (ps : Array (Nat × Operand)) (vs : Array (Nat × Value)) (hop : ∀ v, ops[i]?.map (fun o => (o.op, Region.wanted o (yielded ops (fr l anc a v).tmps))) = some (.build t ps, true))
    (hx : ∀ v, (ps.map fun x => (x.1, (fr l anc a v).eval x.2)) = vs) (he : ∀ w, (Instr.build t vs).run P w = .ok r w) : Owes P ops l a w (Sp.k i dst anc r) :=
  owes_pure i dst anc r _ hop fun v w' _ _ o ho => by unfold execOp; simp only [ho, hx v, Sem.run_bind, he w']; rfl
/-! the frame behind a region, laid out: no step of these by computation alone (the kernel would compute the array's size anew at each) -/
theorem put_list (t : List Value) (df : List Deferred) (d : Tmp) (x : Value) : Act.put ⟨t.toArray, df⟩ (some d) x = ⟨(t.set d x).toArray, df⟩ := by
  have : t.toArray.setIfInBounds d x = (t.set d x).toArray := by simp
  unfold Act.put
  simp only [this]
theorem putsL_k (v : Nat → Value) (i : Nat) (d : Tmp) (anc : List Nat) (x : Value) (l : List Sp) (t : List Value) (df : List Deferred) : putsK v (Sp.k i (some d) anc x :: l) ⟨t.toArray, df⟩ = putsK v l ⟨(t.set d x).toArray, df⟩ := by
  rw [putsK_k, put_list]
theorem putsL_o (v : Nat → Value) (i : Nat) (d : Tmp) (anc : List Nat) (says : Value → World → Prop) (l : List Sp) (t : List Value) (df : List Deferred) : putsK v (Sp.o i (some d) anc says :: l) ⟨t.toArray, df⟩ = putsK v l ⟨(t.set d (v i)).toArray, df⟩ := by
  rw [putsK_o, put_list]
theorem putsL_nil (v : Nat → Value) (t : List Value) (df : List Deferred) : putsK v [] ⟨t.toArray, df⟩ = ⟨t.toArray, df⟩ := by
  rw [putsK_nil]
theorem ret_slot {fn : Func} {R : Ending → World → Prop} {a : Act} {w : World} {v : Value} (t : Tmp) (hr : fn.results = #[.tmp t]) (hv : a.tmps.getD t undef = v) (hd : a.defers = []) (h : R (.returned v) w) : bodyPost P fn R .ret a w :=
  bodyPost_ret (v := v) (by rw [results_tmp hr, hv]) hd h
end
end Go.Proofs.YtffkjbbhbpaacaaDoor
