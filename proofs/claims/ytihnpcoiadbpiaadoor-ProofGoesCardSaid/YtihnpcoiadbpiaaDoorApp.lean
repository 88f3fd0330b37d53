import Derived.Test.YtihnpcoiadbpiaaDoorRsq
import Derived.Test.YtihnpcoiadbpiaaDoorBc
import Derived.Maps.AppendAt
namespace Go.Proofs.YtihnpcoiadbpiaaDoor
open Go.RowKit
def lst (n : Nat) (f : Nat → BitVec 8) : List (BitVec 8) := (List.range n).map f
@[simp] theorem lst_length (n : Nat) (f : Nat → BitVec 8) : (lst n f).length = n := by simp [lst]
theorem lst_get (n : Nat) (f : Nat → BitVec 8) (i : Nat) (h : i < n) : (lst n f)[i]? = some (f i) := by simp [lst, h]
theorem slread_row {w : World} {g : Nat} {t : TypeId} {n : Nat} {f : Nat → BitVec 8} (h : w.rowIs g t n (fun i => v8 (f i))) : SlRead w (some ⟨g, 0, none⟩) (ints .u8 (bys (lst n f))) := by
  intro _
  refine ⟨g, 0, rfl, h.lt, fun j u hj => ?_⟩
  rw [bys_ints] at hj
  have hjn : j < n := by
    have := (List.getElem?_eq_some_iff.1 hj).1
    simpa using this
  rw [Nat.zero_add, h.cell hjn, ← hj]
  simp [lst, hjn]
theorem run_append_none0 {P : Program} (w : World) (base : Nat) (t ty e : TypeId) (i : TypeInfo) (size : Nat) (ht : P.underlying t = some (.slice e)) (hi : P.info? e = some i)
    (v : Value) (n : Nat) (xs : List Value) (hown : w.ownsRow base e size v n xs) (c : Nat) : (Builtin.append_ #[t, t] ty #[v, .slice none 0 c]).run P w = .ok v w := by
  rcases hown.2 with ⟨rfl, rfl⟩ | ⟨g, cap, cur, rfl, _, _, hnc, _⟩
  · simp [Builtin.append_, run_underlying ht, sizeOf, typeInfo, hi, Builtin.lenOf, Builtin.firstCells]
  · simp [Builtin.append_, run_underlying ht, sizeOf, typeInfo, hi, Builtin.lenOf, Builtin.firstCells, hnc, storeCells]

theorem run_many (ty : TypeId) (W : World) (base : Nat) (v : Value) (xs : List (BitVec 8)) (B : Option Addr) (ys : List (BitVec 8)) (cb : Nat)
    (hown : W.ownsRow base 5 1 v xs.length (ints .u8 (bys xs))) (hB : SlRead W B (ints .u8 (bys ys))) (hbase : base ≤ W.heap.size) (hl : xs.length + ys.length ≤ 140737488352000) :
    ∃ v' w', (Builtin.append_ #[70, 70] ty #[v, .slice B ys.length cb]).run Tryd.prog W = .ok v' w' ∧ w'.ownsRow base 5 1 v' (xs ++ ys).length (ints .u8 (bys (xs ++ ys))) ∧ Below base W w' ∧ W.grownBy w' v.ownBlock ∧ (v'.ownBlock = v.ownBlock ∨ v'.ownBlock = some W.heap.size) := by
  obtain ⟨i0, hi, hz0, hz1, hz2⟩ := info_parts Tryd.info5
  have e : ints .u8 (bys xs) ++ ints .u8 (bys ys) = ints .u8 (bys (xs ++ ys)) := by simp [ints, bys]
  cases B with
  | none =>
    have hy : ys = [] := by
      rcases ys with _ | ⟨y, r⟩
      · rfl
      · obtain ⟨b, o', e1, _⟩ := hB (by simp)
        cases e1
    subst hy
    exact ⟨v, W, run_append_none0 W base 70 ty 5 i0 1 Tryd.underlying70 hi v _ _ hown cb, by simpa using hown, Below.refl _ _, ⟨rfl, rfl, rfl, Nat.le_refl _, fun _ _ _ => rfl⟩, .inl rfl⟩
  | some ad =>
    obtain ⟨v', w', hr, h2, h3, _, h5⟩ := run_append_own_at (P := Tryd.prog) W base 70 ty 5 i0 (.int .u8 0) 1 1 Tryd.underlying70 hi hz0 hz1 hz2 rfl (by decide) v _ _ hown ad ys.length cb (ints .u8 (bys ys)) (by simp) (by
      intro j u hu
      have hn : 0 < (ints .u8 (bys ys)).length := by
        have := (List.getElem?_eq_some_iff.1 hu).1
        omega
      obtain ⟨b', o', e1, _, hc⟩ := hB hn
      obtain rfl : ad = ⟨b', o', none⟩ := by simpa using e1
      rw [add_eq]
      exact hc j u hu) (ints_one .u8 _) (by unfold maxLen; omega) (by omega) hbase
    rw [e] at h2
    exact ⟨v', w', hr, by simpa using h2, (Below.refl _ _).grown h3 hbase (fun j hj => (hown.lt j hj).1), h3, h5⟩
section
variable {P : Program} {md : Region.Mode} {ops : Array Oper} {Q : Exit → Act → World → Prop} {S : World → Prop} {fuel : Nat} {listed : Array Bool} {a : Act} {w : World}
theorem rdy_app {rs : List Nat} (i : Nat) (s x : Operand) (t tn ty : TypeId) (dst : Option Tmp) (vs vx v' : Value) (w' : World)
    (hi : ops[i]?.map (fun o => (o.op, o.dst, Region.wanted o (yielded ops a.tmps))) = some (.call { callee := .builtin .append, args := #[s, x], argTypes := #[t, tn] }, dst, true)) (hty : ops[i]?.map (·.type) = some ty)
    (hx : (a.eval s, a.eval x) = (vs, vx)) (hrun : (Builtin.append_ #[t, tn] ty #[vs, vx]).run P w = .ok v' w') (hS : S w')
    (h : S w' → wpAnyH P md ops Q S fuel (listed.setIfInBounds i true) (a.put dst v') w') (rest : AllReadyH P md ops Q S fuel listed a w rs) : AllReadyH P md ops Q S fuel listed a w (i :: rs) := by
  obtain ⟨oi, ho, he⟩ := Option.map_eq_some_iff.1 hi
  obtain ⟨oj, hoj, htj⟩ := Option.map_eq_some_iff.1 hty
  obtain rfl := Option.some.inj (ho.symm.trans hoj)
  simp only [Prod.mk.injEq] at he hx
  refine AllReadyH.cons ho (fun K hK => ?_) rest
  rw [if_pos he.2.2]
  unfold Oper.wp
  simp only [execOp, he.1, resolve, invoke, builtin, Sem.run_bind, Sem.run_pure, Result.andThen_ok, List.map_toArray, List.map_cons, List.map_nil, hx.1, hx.2, htj, hrun]
  rw [Oper.upon_value, he.2.1]
  exact hK.out _ _ hS h
theorem rdy_storeR {rs : List Nat} (i : Nat) (ty : TypeId) (x y : Operand) (g : Nat) (cells : Array Value) (t : TypeId) (old : Array Value)
    (hi : ops[i]?.map (fun o => (o.op, o.dst, Region.wanted o (yielded ops a.tmps))) = some (.store ty x y, none, true)) (hxy : (a.eval x, a.eval y) = (.pointer (some ⟨g, 0, none⟩), .agg cells))
    (hg : w.heap[g]? = some (.cells old t (0, 0))) (hs : (P.info? ty).map (·.size) = some cells.size) (hold : old.size = cells.size) (h1 : cells.all (·.oneCell') = true) (hS : S (w.setRow g cells))
    (h : S (w.setRow g cells) → wpAnyH P md ops Q S fuel (listed.setIfInBounds i true) (a.put none undef) (w.setRow g cells)) (rest : AllReadyH P md ops Q S fuel listed a w rs) : AllReadyH P md ops Q S fuel listed a w (i :: rs) := by
  obtain ⟨oi, ho, he⟩ := Option.map_eq_some_iff.1 hi
  simp only [Prod.mk.injEq] at he hxy
  refine AllReadyH.cons ho (fun K hK => ?_) rest
  rw [if_pos he.2.2]
  refine wp_store_row ty x y he.1 g cells hxy.1 hxy.2 t old hg hs hold h1 ?_
  rw [he.2.1]
  exact hK.out _ _ hS h
end
theorem setRow_ne (w : World) (g : Nat) (cs : Array Value) (b : Nat) (h : b ≠ g) : (w.setRow g cs).heap[b]? = w.heap[b]? := by
  unfold World.setRow
  simp [Array.getElem?_modify, Ne.symm h]

end Go.Proofs.YtihnpcoiadbpiaaDoor
