import Derived.Test.YtccchhfcoicgcaaDoorMfst
import Derived.Test.YtccchhfcoicgcaaDoorAzr
namespace Go.Proofs.YtccchhfcoicgcaaDoor
open Go.RowKit

section
variable {P : Program} {md : Region.Mode} {ops : Array Oper} {Q : Exit → Act → World → Prop} {S : World → Prop} {fuel : Nat} {listed : Array Bool} {a : Act} {w : World}
/-- one of the operations that are ready: an append whose run is known -/
theorem rdy_app {rs : List Nat} (i : Nat) (s x : Operand) (t tn ty : TypeId) (dst : Option Tmp) (vs vx v' : Value) (w' : World)
    (hi : ops[i]?.map (fun o => (o.op, o.dst, Region.wanted o (yielded ops a.tmps))) = some (.call { callee := .builtin .append, args := #[s, x], argTypes := #[t, tn] }, dst, true)) (hty : ops[i]?.map (·.type) = some ty)
    (hx : (a.eval s, a.eval x) = (vs, vx)) (hrun : (Builtin.append_ #[t, tn] ty #[vs, vx]).run P w = .ok v' w') (hS : S w')
    (h : S w' → wpAnyH P md ops Q S fuel (listed.setIfInBounds i true) (a.put dst v') w') (rest : AllReadyH P md ops Q S fuel listed a w rs) : AllReadyH P md ops Q S fuel listed a w (i :: rs) := by
  obtain ⟨oi, ho, he⟩ := Option.map_eq_some_iff.1 hi
  obtain ⟨oj, hoj, htj⟩ := Option.map_eq_some_iff.1 hty
  obtain rfl := Option.some.inj (ho.symm.trans hoj)
  simp only [Prod.mk.injEq] at he hx
  refine AllReadyH.cons ho (fun K hK => ?_) rest
  rw [if_pos he.2.2]
  unfold Oper.wp
  simp only [execOp, he.1, resolve, invoke, builtin, Sem.run_bind, Sem.run_pure, Result.andThen_ok, List.map_toArray, List.map_cons, List.map_nil, hx.1, hx.2, htj, hrun]
  rw [Oper.upon_value, he.2.1]
  exact hK.out _ _ hS h
end
theorem own_grown {w w' : World} {base : Nat} {e : TypeId} {v : Value} {n : Nat} {xs : List Value} (h : w.ownsRow base e 1 v n xs) (hb : base ≤ w.heap.size) (hg : w.grownBy w' v.ownBlock) : Below base w w' :=
  (Below.refl _ _).grown hg hb (fun j hj => (h.lt j hj).1)
theorem zeros_bys (ks : List (BitVec 8)) (m : Nat) : ints .u8 (bys ks) ++ List.replicate m (Value.int .u8 0) = ints .u8 (bys (ks ++ List.replicate m 0#8)) := by
  simp [ints, bys]
  right; rfl
theorem msum_sing (g : Nat) (A : Option Addr) (ks : List (BitVec 8)) (ca : Nat) (B : Option Addr) (ys : List (BitVec 8)) (cb : Nat) (w : World) (hA : SlRead w A (ints .u8 (bys ks))) (hca : ks.length ≤ ca) (hla : ks.length ≤ 4611686018427387904)
    (hs : SlRead w (some ⟨g, 0, none⟩) [.slice B ys.length cb]) (hB : SlRead w B (ints .u8 (bys ys))) (hcb : ys.length ≤ cb) (hlb : ys.length ≤ 4611686018427387904) (hk : KAt w) :
    Calls Tryd.prog 16 #[.slice A ks.length ca, .slice (some ⟨g, 0, none⟩) 1 1] w fun e w' => e = .returned (.agg (arr8 32 (macOf ks ys))) ∧ Below w.heap.size w w' := by
  have := msum_any A ks ca (some ⟨g, 0, none⟩) [(B, ys, cb)] 1 w hA hca hla hs (by intro a ha; simp at ha; subst ha; exact ⟨hB, hcb, hlb⟩) (by simp) hk
  rwa [show flat [(B, ys, cb)] = ys by simp [flat]] at this
theorem macOf_long (ks ys : List (BitVec 8)) (h : 64 < ks.length) : macOf (lst 32 (shaOf ks)) ys = macOf ks ys := by
  have e : keyOf (lst 32 (shaOf ks)) = keyOf ks := by
    unfold keyOf
    rw [if_pos h, if_neg (by simp)]
  have e1 : inP (lst 32 (shaOf ks)) = inP ks := by funext i; simp only [inP, e]
  have e2 : outP (lst 32 (shaOf ks)) = outP ks := by funext i; simp only [outP, e]
  simp only [macOf, e1, e2]
theorem macOf_short (ks ys : List (BitVec 8)) (m : Nat) (h : ks.length + m ≤ 64) : macOf (ks ++ List.replicate m 0#8) ys = macOf ks ys := by
  have e1 : keyOf (ks ++ List.replicate m 0#8) = ks ++ List.replicate m 0#8 := by
    unfold keyOf
    rw [if_neg (by simp; omega)]
  have e2 : keyOf ks = ks := by
    unfold keyOf
    rw [if_neg (by omega)]
  have eg : ∀ i, (ks ++ List.replicate m 0#8).getD i 0#8 = ks.getD i 0#8 := by
    intro i
    simp only [List.getD_eq_getElem?_getD]
    by_cases hi : i < ks.length
    · rw [List.getElem?_append_left hi]
    · rw [List.getElem?_append_right (by omega), List.getElem?_eq_none (l := ks) (by omega), List.getElem?_replicate]
      split <;> rfl
  have e3 : inP (ks ++ List.replicate m 0#8) = inP ks := by funext i; simp only [inP, e1, e2, eg]
  have e4 : outP (ks ++ List.replicate m 0#8) = outP ks := by funext i; simp only [outP, e1, e2, eg]
  simp only [macOf, e3, e4]

theorem wpList_append_run_g {P : Program} {w : World} {ops : Array Oper} {rest : List Oper} {o : Oper} {a : Act} {Q : Exit → Act → World → Prop} (hw : Region.wanted o (yielded ops a.tmps) = true) (s x : Operand) (t tn : TypeId)
    (ho : o.op = .call { callee := .builtin .append, args := #[s, x], argTypes := #[t, tn] }) (vs vx : Value) (hs : a.eval s = vs) (hx : a.eval x = vx)
    (v' : Value) (w' : World) (hr : (Builtin.append_ #[t, tn] o.type #[vs, vx]).run P w = .ok v' w') (h : wpList P ops Q rest (a.put o.dst v') w') : wpList P ops Q (o :: rest) a w :=
  BigFrame.wpList_want hw fun _ hK => Lib.wp_append_run w s x t tn ho vs vx hs hx v' w' hr (hK _ _ h)

/-- in the last region -/
structure MkF (w : World) (Ak : Option Addr) (ks : List (BitVec 8)) (B : Option Addr) (ys : List (BitVec 8)) (GA : Option Addr) (hs : List (BitVec 8)) (W : World) : Prop where
  r : SlRead W Ak (ints .u8 (bys ks))
  rb : SlRead W B (ints .u8 (bys ys))
  g : SlRead W GA (ints .u8 (bys hs))
  k : KAt W
  b : Below w.heap.size w W
theorem MkF.below {w : World} {Ak : Option Addr} {ks : List (BitVec 8)} {B : Option Addr} {ys : List (BitVec 8)} {GA : Option Addr} {hs : List (BitVec 8)} {W W' : World} (x : MkF w Ak ks B ys GA hs W) (hb : Below W.heap.size W W') : MkF w Ak ks B ys GA hs W' :=
  ⟨x.r.below hb, x.rb.below hb, x.g.below hb, x.k.below hb, x.b.trans (hb.mono x.b.size)⟩

end Go.Proofs.YtccchhfcoicgcaaDoor
