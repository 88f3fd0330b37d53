import Derived.Test.YtpkajfkdandhoaaPyh
import Derived.Deep.DeepAppendRoom
import Derived.Maps.AppendAt
import Derived.Lib.Hide
/-
  PolyEdges.
-/
namespace Go.Proofs.Ytpkajfkdandhoaa
open Go.RowKit

/-- a row of one's own, and what was there stays -/
structure OwnB (w : World) (B : Nat) (zs : List (BitVec 8)) (v : Value) (W : World) : Prop where
  own : W.ownsRow B 5 1 v zs.length (ints .u8 (bys zs))
  b : Below B w W
  s : B ≤ W.heap.size
theorem run_append_none0 {P : Program} (w : World) (base : Nat) (t ty e : TypeId) (i : TypeInfo) (size : Nat) (ht : P.underlying t = some (.slice e)) (hi : P.info? e = some i)
    (v : Value) (n : Nat) (xs : List Value) (hown : w.ownsRow base e size v n xs) (c : Nat) : (Builtin.append_ #[t, t] ty #[v, .slice none 0 c]).run P w = .ok v w := by
  rcases hown.2 with ⟨rfl, rfl⟩ | ⟨g, cap, cur, rfl, _, _, hnc, _⟩
  · simp [Builtin.append_, run_underlying ht, sizeOf, typeInfo, hi, Builtin.lenOf, Builtin.firstCells]
  · simp [Builtin.append_, run_underlying ht, sizeOf, typeInfo, hi, Builtin.lenOf, Builtin.firstCells, hnc, storeCells]

/-- bytes appended to a row of one's own: where the new row lies, too -/
theorem push_many {ops : Array Oper} {rest : List Oper} {o : Oper} {a : Act} {Q : Exit → Act → World → Prop} (hgd : o.guard = none) (s x : Operand)
    (ho : o.op = .call { callee := .builtin .append, args := #[s, x], argTypes := #[24, 24] }) (W : World) (base : Nat) (v : Value) (xs : List (BitVec 8)) (B : Option Addr) (ys : List (BitVec 8)) (cb : Nat)
    (hs : a.eval s = v) (hx : a.eval x = .slice B ys.length cb) (hown : W.ownsRow base 5 1 v xs.length (ints .u8 (bys xs))) (hB : SlRead W B (ints .u8 (bys ys))) (hbase : base ≤ W.heap.size) (hl : xs.length + ys.length ≤ 140737488352000)
    (h : ∀ v' w', w'.ownsRow base 5 1 v' (xs ++ ys).length (ints .u8 (bys (xs ++ ys))) → Below base W w' → W.grownBy w' v.ownBlock → (v'.ownBlock = v.ownBlock ∨ ∃ g, v'.ownBlock = some g ∧ W.heap.size ≤ g) → wpList Try.prog ops Q rest (a.put o.dst v') w') :
    wpList Try.prog ops Q (o :: rest) a W := by
  obtain ⟨i0, hi, hz0, hz1, hz2⟩ := info_parts Try.info5
  have e : ints .u8 (bys xs) ++ ints .u8 (bys ys) = ints .u8 (bys (xs ++ ys)) := by simp [ints, bys]
  cases B with
  | none =>
    have hy : ys = [] := by
      rcases ys with _ | ⟨y, r⟩
      · rfl
      · obtain ⟨b, o', e1, _⟩ := hB (by simp)
        cases e1
    subst hy
    refine wpList_plain hgd fun K hK => ?_
    have hr := run_append_none0 W base 24 o.type 5 i0 1 Try.underlying24 hi v _ _ hown cb
    unfold Oper.wp execOp
    simp only [List.length_nil] at hx
    simp only [ho, resolve, invoke, builtin, Sem.run_bind, Sem.run_pure, Result.andThen_ok, List.map_toArray, List.map_cons, List.map_nil, hs, hx, hr]
    exact hK _ _ (h v W (by simpa using hown) (Below.refl _ _) ⟨rfl, rfl, rfl, Nat.le_refl _, fun _ _ _ => rfl⟩ (.inl rfl))
  | some ad =>
    refine wpList_append_own_at _ hgd s x 24 ho base 5 i0 (.int .u8 0) 1 1 Try.underlying24 hi hz0 hz1 hz2 rfl (by decide) v _ _ hs hown ad ys.length cb (ints .u8 (bys ys)) hx (by simp) ?_ (ints_one .u8 _) ?_ ?_ hbase ?_
    · intro j u hu
      have hn : 0 < (ints .u8 (bys ys)).length := by
        have := (List.getElem?_eq_some_iff.1 hu).1
        omega
      obtain ⟨b', o', e1, _, hc⟩ := hB hn
      obtain rfl : ad = ⟨b', o', none⟩ := by simpa using e1
      rw [add_eq]
      exact hc j u hu
    · unfold maxLen; omega
    · omega
    · intro v' w2 hown2 hgrow2 _ hat
      rw [e] at hown2
      refine h v' w2 (by simpa using hown2) ((Below.refl _ _).grown hgrow2 hbase (fun j hj => (hown.lt j hj).1)) hgrow2 ?_
      rcases hat with h1 | h1
      · exact .inl h1
      · exact .inr ⟨_, h1, Nat.le_refl _⟩

/-- bytes appended to a row of one's own, as an equation -/
theorem run_manyE (ty : TypeId) (W : World) (base : Nat) (v : Value) (xs : List (BitVec 8)) (B : Option Addr) (ys : List (BitVec 8)) (cb : Nat)
    (hown : W.ownsRow base 5 1 v xs.length (ints .u8 (bys xs))) (hB : SlRead W B (ints .u8 (bys ys))) (hbase : base ≤ W.heap.size) (hl : xs.length + ys.length ≤ 140737488352000) :
    ∃ v' w', (Builtin.append_ #[24, 24] ty #[v, .slice B ys.length cb]).run Try.prog W = .ok v' w' ∧ w'.ownsRow base 5 1 v' (xs ++ ys).length (ints .u8 (bys (xs ++ ys))) ∧ Below base W w' ∧ W.grownBy w' v.ownBlock ∧ (v'.ownBlock = v.ownBlock ∨ v'.ownBlock = some W.heap.size) := by
  obtain ⟨i0, hi, hz0, hz1, hz2⟩ := info_parts Try.info5
  have e : ints .u8 (bys xs) ++ ints .u8 (bys ys) = ints .u8 (bys (xs ++ ys)) := by simp [ints, bys]
  cases B with
  | none =>
    have hy : ys = [] := by
      rcases ys with _ | ⟨y, r⟩
      · rfl
      · obtain ⟨b, o', e1, _⟩ := hB (by simp)
        cases e1
    subst hy
    exact ⟨v, W, run_append_none0 W base 24 ty 5 i0 1 Try.underlying24 hi v _ _ hown cb, by simpa using hown, Below.refl _ _, ⟨rfl, rfl, rfl, Nat.le_refl _, fun _ _ _ => rfl⟩, .inl rfl⟩
  | some ad =>
    obtain ⟨v', w', hr, h2, h3, _, h5⟩ := run_append_own_at (P := Try.prog) W base 24 ty 5 i0 (.int .u8 0) 1 1 Try.underlying24 hi hz0 hz1 hz2 rfl (by decide) v _ _ hown ad ys.length cb (ints .u8 (bys ys)) (by simp) (by
      intro j u hu
      have hn : 0 < (ints .u8 (bys ys)).length := by
        have := (List.getElem?_eq_some_iff.1 hu).1
        omega
      obtain ⟨b', o', e1, _, hc⟩ := hB hn
      obtain rfl : ad = ⟨b', o', none⟩ := by simpa using e1
      rw [add_eq]
      exact hc j u hu) (ints_one .u8 _) (by unfold maxLen; omega) (by omega) hbase
    rw [e] at h2
    exact ⟨v', w', hr, by simpa using h2, (Below.refl _ _).grown h3 hbase (fun j hj => (hown.lt j hj).1), h3, h5⟩
section
variable {P : Program} {md : Region.Mode} {ops : Array Oper} {Q : Exit → Act → World → Prop} {S : World → Prop} {fuel : Nat} {listed : Array Bool} {a : Act} {w : World}
theorem rdy_app {rs : List Nat} (i : Nat) (s x : Operand) (t tn ty : TypeId) (dst : Option Tmp) (vs vx v' : Value) (w' : World)
    (hi : ops[i]?.map (fun o => (o.op, o.dst, Region.wanted o (yielded ops a.tmps))) = some (.call { callee := .builtin .append, args := #[s, x], argTypes := #[t, tn] }, dst, true)) (hty : ops[i]?.map (·.type) = some ty)
    (hx : (a.eval s, a.eval x) = (vs, vx)) (hrun : (Builtin.append_ #[t, tn] ty #[vs, vx]).run P w = .ok v' w') (hS : S w')
    (h : S w' → wpAnyH P md ops Q S fuel (listed.setIfInBounds i true) (a.put dst v') w') (rest : AllReadyH P md ops Q S fuel listed a w rs) : AllReadyH P md ops Q S fuel listed a w (i :: rs) := by
  obtain ⟨oi, ho, he⟩ := Option.map_eq_some_iff.1 hi
  obtain ⟨oj, hoj, htj⟩ := Option.map_eq_some_iff.1 hty
  obtain rfl := Option.some.inj (ho.symm.trans hoj)
  simp only [Prod.mk.injEq] at he hx
  refine AllReadyH.cons ho (fun K hK => ?_) rest
  rw [if_pos he.2.2]
  unfold Oper.wp
  simp only [execOp, he.1, resolve, invoke, builtin, Sem.run_bind, Sem.run_pure, Result.andThen_ok, List.map_toArray, List.map_cons, List.map_nil, hx.1, hx.2, htj, hrun]
  rw [Oper.upon_value, he.2.1]
  exact hK.out _ _ hS h
theorem rdy_storeR {rs : List Nat} (i : Nat) (ty : TypeId) (x y : Operand) (g : Nat) (cells : Array Value) (t : TypeId) (old : Array Value)
    (hi : ops[i]?.map (fun o => (o.op, o.dst, Region.wanted o (yielded ops a.tmps))) = some (.store ty x y, none, true)) (hxy : (a.eval x, a.eval y) = (.pointer (some ⟨g, 0, none⟩), .agg cells))
    (hg : w.heap[g]? = some (.cells old t (0, 0))) (hs : (P.info? ty).map (·.size) = some cells.size) (hold : old.size = cells.size) (h1 : cells.all (·.oneCell') = true) (hS : S (w.setRow g cells))
    (h : S (w.setRow g cells) → wpAnyH P md ops Q S fuel (listed.setIfInBounds i true) (a.put none undef) (w.setRow g cells)) (rest : AllReadyH P md ops Q S fuel listed a w rs) : AllReadyH P md ops Q S fuel listed a w (i :: rs) := by
  obtain ⟨oi, ho, he⟩ := Option.map_eq_some_iff.1 hi
  simp only [Prod.mk.injEq] at he hxy
  refine AllReadyH.cons ho (fun K hK => ?_) rest
  rw [if_pos he.2.2]
  refine wp_store_row ty x y he.1 g cells hxy.1 hxy.2 t old hg hs hold h1 ?_
  rw [he.2.1]
  exact hK.out _ _ hS h
end
/-- a new slice of values -/
def SlV (vs : List Value) (n : Nat) (v : Value) (w : World) : Prop := ∃ g, v = .slice (some ⟨g, 0, none⟩) n n ∧ SlRead w (some ⟨g, 0, none⟩) vs
theorem SlV.mono {vs : List Value} {n : Nat} : ∀ y w1 w2, SlV vs n y w1 → Cells w1 w2 → SlV vs n y w2 := by
  rintro y w1 w2 ⟨g, h1, h3⟩ hb
  exact ⟨g, h1, h3.cells hb⟩
theorem SlRead.new_row {W : World} (cs : Array Value) (t : TypeId) (vs : List Value) (h : vs = cs.toList) : SlRead (W.alloc (.cells cs t)) (some ⟨W.heap.size, 0, none⟩) vs := by
  subst h
  intro _
  refine ⟨W.heap.size, 0, rfl, by simp, fun j u hj => ?_⟩
  rw [Nat.zero_add, World.cell?_alloc_new]
  simpa using hj
theorem bytes_ownE (A : Option Addr) (xs : List (BitVec 8)) (ca : Nat) (w : World) (hA : SlRead w A (ints .u8 (bys xs))) (hx : xs.length ≤ 100000) :
    Calls Try.prog 12 #[.slice A xs.length ca] w fun e w' => ∃ v, e = .returned v ∧ OwnB w w.heap.size xs v w' := by
  have h := bytes_any A (bys xs) ca w hA (by rw [bys_length]; omega)
  rw [bys_length] at h
  exact h.mono fun e w' ⟨v, h1, h2, h3⟩ => ⟨v, h1, h2, h3, h3.size⟩
/-- a byte of one's own row, another -/
theorem own_setE {w : World} {base g cap : Nat} {ds : List (BitVec 8)} (h : w.ownsRow base 5 1 (.slice (some ⟨g, 0, none⟩) ds.length cap) ds.length (ints .u8 (bys ds))) (k : Nat) (y : BitVec 8) :
    (w.setCell ⟨g, k, none⟩ (v8 y)).ownsRow base 5 1 (.slice (some ⟨g, 0, none⟩) (ds.set k y).length cap) (ds.set k y).length (ints .u8 (bys (ds.set k y))) := by
  have h1 := (h.stored k (v8 y)).1
  rw [List.length_set]
  have e : (ints .u8 (bys ds)).set k (v8 y) = ints .u8 (bys (ds.set k y)) := by
    rw [bys_ints, bys_ints, List.map_set]
  rw [e] at h1
  exact h1
def keyE (y : BitVec 8) : Nat → BitVec 8 := fun i => if i = 0 then y else 0#8
def tagE (y : BitVec 8) : Nat → BitVec 8 := fun i => if i = 0 then y else 0#8
def keyF : Nat → BitVec 8 := fun i => if i = 0 then 2#8 else if 16 ≤ i then 255#8 else 0#8
def twoE : List (BitVec 8) := [2#8, 0#8, 0#8, 0#8, 0#8, 0#8, 0#8, 0#8, 0#8, 0#8, 0#8, 0#8, 0#8, 0#8, 0#8, 0#8]
theorem keyF_eq : ∀ i, i < 32 → (if 16 ≤ i ∧ i < 32 then 255#8 else keyE 2#8 i) = keyF i := by decide +kernel
theorem edge0 : ∀ i, i < 16 → polyB (keyE 2#8) (List.replicate 16 255#8) i = tagE 3#8 i := by decide +kernel
theorem edge1 : ∀ i, i < 16 → polyB keyF twoE i = tagE 3#8 i := by decide +kernel
theorem edge2 : ∀ i, i < 16 → polyB (keyE 1#8) (((List.replicate 16 255#8) ++ (240#8 :: List.replicate 15 255#8)) ++ (17#8 :: List.replicate 15 0#8)) i = tagE 5#8 i := by decide +kernel
theorem edge3 : ∀ i, i < 16 → polyB (keyE 1#8) (((List.replicate 16 255#8) ++ (251#8 :: List.replicate 15 254#8)) ++ (List.replicate 16 1#8)) i = tagE 0#8 i := by decide +kernel
theorem arr8_cong (n : Nat) (f g : Nat → BitVec 8) (h : ∀ i, i < n → f i = g i) : arr8 n f = arr8 n g := by
  unfold arr8
  congr 1
  apply List.map_congr_left
  intro i hi
  rw [h i (List.mem_range.1 hi)]
theorem zero32E : ∀ i, i < 32 → (Array.replicate 32 (Value.int IntKind.u8 0))[i]? = some (v8 0#8) := by
  intro i hi; simp [hi]; rfl
theorem a16_loadE {W : World} {b : Nat} {f : Nat → BitVec 8} (h : W.rowIs b 26 16 (fun i => v8 (f i))) : (Instr.loadAt 26 (.pointer (some ⟨b, 0, none⟩))).run Try.prog W = .ok (.agg (arr8 16 f)) W := by
  have := load_row (P := Try.prog) 26 b 0 (arr8 16 f).toList _ Try.underlying26 rfl (by simp only [Array.length_toList, arr8_size]; kernel_rfl) W (rangeAt_row h)
  simpa using this
theorem key_loadE {W : World} {b : Nat} {f : Nat → BitVec 8} (h : W.rowIs b 23 32 (fun i => v8 (f i))) : (Instr.loadAt 23 (.pointer (some ⟨b, 0, none⟩))).run Try.prog W = .ok (.agg (arr8 32 f)) W := by
  have := load_row (P := Try.prog) 23 b 0 (arr8 32 f).toList _ Try.underlying23 rfl (by simp only [Array.length_toList, arr8_size]; kernel_rfl) W (rangeAt_row h)
  simpa using this
theorem rdL {W : World} {g : Nat} {t : TypeId} {n : Nat} {f : Nat → Value} (h : W.rowIs g t n f) (xs : List (BitVec 8)) (hn : xs.length = n) (hx : ∀ i, (hi : i < n) → f i = v8 (xs[i]'(by omega))) : SlRead W (some ⟨g, 0, none⟩) (ints .u8 (bys xs)) := by
  intro _
  refine ⟨g, 0, rfl, h.lt, fun j u hu => ?_⟩
  have hj : j < n := by
    have := (List.getElem?_eq_some_iff.1 hu).1
    simp at this
    omega
  rw [bys_ints] at hu
  have := h.cell hj
  rw [hx j hj] at this
  simp [show j < xs.length by omega] at hu
  rw [Nat.zero_add, this, ← hu]
theorem row16L (a b : BitVec 8) : ∀ i, (hi : i < 16) → (if i = 0 then v8 a else v8 b) = v8 ((a :: List.replicate 15 b)[i]'(by simp; omega)) := by
  intro i hi
  cases i with
  | zero => rfl
  | succ j =>
    rw [if_neg (by omega)]
    show v8 b = v8 ((List.replicate 15 b)[j]'(by simp; omega))
    rw [List.getElem_replicate]
theorem drewAny {C : Nat} {w : World} (h : C ≤ w.heap.size) : Below C w w.drew := (Below.drewNr (w := w) 1).mono h
theorem ownsRow_viaJ {w w' : World} {base : Nat} {e : TypeId} {size : Nat} {v : Value} {n : Nat} {xs : List Value} (h : w.ownsRow base e size v n xs) (hg : ∀ g, v.ownBlock = some g → w'.heap[g]? = w.heap[g]?) : w'.ownsRow base e size v n xs := by
  obtain ⟨h1, h2⟩ := h
  refine ⟨h1, ?_⟩
  rcases h2 with h2 | ⟨g, cap, cur, e1, e2, e3, e4⟩
  · exact .inl h2
  · refine .inr ⟨g, cap, cur, e1, e2, ?_, e4⟩
    rw [hg g (by rw [e1]; rfl)]
    exact e3
/-- the key, and sixteen bytes -/
structure PeF (w : World) (B0 KB : Nat) (kf : Nat → BitVec 8) (AB : Nat) (f : Nat → BitVec 8) (W : World) : Prop where
  k : W.rowIs KB 23 32 (fun i => v8 (kf i))
  a : W.rowIs AB 5 16 (fun i => v8 (f i))
  b : Below B0 w W
  b0k : B0 ≤ KB
  ka : KB < AB
theorem PeF.b0 {w : World} {B0 KB : Nat} {kf : Nat → BitVec 8} {AB : Nat} {f : Nat → BitVec 8} {W : World} (h : PeF w B0 KB kf AB f W) : B0 ≤ W.heap.size := by
  have := h.k.lt
  have := h.b0k
  omega
theorem PeF.next {w : World} {B0 KB : Nat} {kf : Nat → BitVec 8} {AB : Nat} {f : Nat → BitVec 8} {W W' : World} (h : PeF w B0 KB kf AB f W) (hb : Below W.heap.size W W') : PeF w B0 KB kf AB f W' :=
  ⟨h.k.of_block (hb.block _ h.k.lt), h.a.of_block (hb.block _ h.a.lt), h.b.trans (hb.mono h.b0), h.b0k, h.ka⟩
theorem PeF.rd {w : World} {B0 KB : Nat} {kf : Nat → BitVec 8} {AB : Nat} {W : World} (h : PeF w B0 KB kf AB (fun _ => 255#8) W) : SlRead W (some ⟨AB, 0, none⟩) (ints .u8 (bys (List.replicate 16 255#8))) :=
  rdL h.a _ rfl fun i hi => by rw [List.getElem_replicate]
theorem PeF.key1 {w : World} {B0 KB AB : Nat} {f : Nat → BitVec 8} {W : World} (h : PeF w B0 KB (keyE 2#8) AB f W) : PeF w B0 KB (keyE 1#8) AB f (W.setCell ⟨KB, 0, none⟩ (.int .u8 1)) :=
  ⟨(h.k.set 0 (v8 1#8)).congr fun i hi => by unfold keyE; split <;> rfl, h.a.setOther (a := ⟨KB, 0, none⟩) (by have := h.ka; simp only; omega) _, h.b.setCell h.b0k _, h.b0k, h.ka⟩
/-- the key, and bytes in a row of one's own, all of it ahead of C -/
structure EdF (w : World) (B0 KB D C : Nat) (v : Value) (xs : List (BitVec 8)) (W : World) : Prop where
  k : W.rowIs KB 23 32 (fun i => v8 (keyE 1#8 i))
  own : W.ownsRow D 5 1 v xs.length (ints .u8 (bys xs))
  b : Below B0 w W
  b0k : B0 ≤ KB
  kd : KB < D
  dc : D ≤ C
  vc : ∀ j, v.ownBlock = some j → j < C
  cs : C ≤ W.heap.size
theorem EdF.ds {w : World} {B0 KB D C : Nat} {v : Value} {xs : List (BitVec 8)} {W : World} (h : EdF w B0 KB D C v xs W) : D ≤ W.heap.size := Nat.le_trans h.dc h.cs
theorem EdF.later {w : World} {B0 KB D C : Nat} {v : Value} {xs : List (BitVec 8)} {W W' : World} (h : EdF w B0 KB D C v xs W) (hb : Below C W W') : EdF w B0 KB D C v xs W' := by
  have h1 := h.b0k
  have h2 := h.kd
  have h3 := h.dc
  exact ⟨h.k.of_block (hb.block _ (by omega)), ownsRow_viaJ h.own (fun g hg => hb.block g (h.vc g hg)), h.b.trans (hb.mono (by omega)), h1, h2, h3, h.vc, Nat.le_trans h.cs hb.size⟩
theorem EdF.make {w : World} {B0 KB D C : Nat} {v : Value} {xs : List (BitVec 8)} {W : World} (h : EdF w B0 KB D C v xs W) (o : Obj) : EdF w B0 KB D W.heap.size v xs (W.alloc o) := by
  have h1 := h.later ((Below.refl C W).alloc h.cs o)
  exact ⟨h1.k, h1.own, h1.b, h.b0k, h.kd, h.ds, fun j hj => (h.own.lt j hj).2, by simp⟩
theorem EdF.grow {w : World} {B0 KB D C : Nat} {v v' : Value} {xs zs : List (BitVec 8)} {W W' : World} (h : EdF w B0 KB D C v xs W) (hown : W'.ownsRow D 5 1 v' zs.length (ints .u8 (bys zs))) (hb : Below D W W') : EdF w B0 KB D W'.heap.size v' zs W' := by
  have h1 := h.b0k
  have h2 := h.kd
  exact ⟨h.k.of_block (hb.block _ h2), hown, h.b.trans (hb.mono (by omega)), h1, h2, Nat.le_trans h.ds hb.size, fun j hj => (hown.lt j hj).2, Nat.le_refl _⟩

set_option maxRecDepth 100000 in
set_option maxHeartbeats 6400000 in
theorem edges_walk (which : Int) (w : World) :
    Calls Try.prog 4 #[.int .i64 which] w fun e w' => e = .returned (.bool true) ∧ Below w.heap.size w w' := by
  obtain ⟨i0, hi, hz0, hz1, hz2⟩ := info_parts Try.info5
  go_enter Try.func4, Try.ntmps4
  go_wp2_with fail
  refine (first_any w).mono ?_
  rintro e W1 ⟨rfl, hb1⟩
  generalize hB : w.heap.size = B0 at hb1 ⊢
  have HB := Lib.hid hB; clear hB
  have hB1 : B0 ≤ W1.heap.size := by rw [← HB.out]; exact hb1.size
  go_upto_region 5 with (fail)
  refine wp_world (fun W => W.rowIs W1.heap.size 23 32 (fun _ => v8 0#8) ∧ Below B0 w W) ⟨rowIs_new _ _ _ _ _ _ rfl (by simp) zero32E, hb1.alloc hB1 _⟩ ?_
  generalize W1.heap.size = KB at hB1 ⊢
  clear hb1 W1
  rintro W2 ⟨hk, hb⟩
  have ck := hk.cell (i := 0) (by omega)
  have fk := hk.frozen 0
  have HT := Lib.hid (And.intro ((hk.set 0 (v8 2#8)).congr (g := fun i => v8 (keyE 2#8 i)) fun i hi => by unfold keyE; split <;> rfl) (show Below B0 w (W2.setCell ⟨KB, 0, none⟩ (v8 2#8)) from hb.setCell hB1 _))
  clear hk hb
  go_upto_region 6 with (fail)
  obtain ⟨hk, hb⟩ := HT.out
  change (W2.setCell ⟨KB, 0, none⟩ (.int .u8 2)).rowIs _ _ _ _ at hk
  change Below _ _ (W2.setCell ⟨KB, 0, none⟩ (.int .u8 2)) at hb
  generalize (W2.setCell ⟨KB, 0, none⟩ (.int .u8 2)) = W3 at *
  clear HT ck fk W2
  have hKA := hk.lt
  have hB3 : B0 ≤ W3.heap.size := by omega
  go_upto_region 7 with (at_make; refine wpList_make_row _ rfl _ _ 24 rfl 5 i0 (.int .u8 0) Try.underlying24 hi hz0 hz1 rfl .i64 .i64 16 rfl rfl (by rw [hz2]; omega) (by omega) ?_)
  refine wp_world (fun W => W.rowIs W3.heap.size 5 16 (fun _ => v8 0#8) ∧ W.rowIs KB 23 32 (fun i => v8 (keyE 2#8 i)) ∧ Below B0 w W) ⟨(World.rowIs_made W3 (.int .u8 0) 16 5).congr (fun i hi => rfl), hk.alloc _, hb.alloc hB3 _⟩ ?_
  generalize W3.heap.size = AB at hKA ⊢
  clear hk hb hB3 W3
  rintro W4 ⟨hr, hX⟩
  have HK := Lib.hid (And.intro hB1 hKA)
  go_wp2_with fail
  go_loopw [6] (fun i wr => ∃ k : Nat, 0 ≤ k ∧ k ≤ 16 ∧ i = .int .i64 k ∧ wr.rowIs AB 5 16 (fun i => v8 (if i < k then 255#8 else 0#8)) ∧ (fun W => W.rowIs KB 23 32 (fun i => v8 (keyE 2#8 i)) ∧ Below B0 w W) wr) (fun i _ => 16 - (intOf i).toNat)
  case atStart => exact ⟨0, by omega, by omega, rfl, hr.congr fun i hi => by rw [if_neg (by omega)], hX⟩
  clear hr hX
  case round =>
    obtain ⟨k, hlo, hk, rfl, hr, hX⟩ := hrel
    by_cases hlt : k < 16
    · have cg := hr.cell hlt
      have fg := hr.frozen k
      have HT : Hid ((wr.setCell ⟨AB, k, none⟩ (v8 255#8)).rowIs AB 5 16 (fun i => v8 (if i < k + 1 then 255#8 else 0#8)) ∧ (fun W => W.rowIs KB 23 32 (fun i => v8 (keyE 2#8 i)) ∧ Below B0 w W) (wr.setCell ⟨AB, k, none⟩ (v8 255#8))) := Lib.hid ⟨(hr.set k (v8 255#8)).congr fun i hi => by
        by_cases e : i = k
        · subst e; simp
        · rw [if_neg e]
          by_cases e2 : i < k
          · rw [if_pos e2, if_pos (by omega)]
          · rw [if_neg e2, if_neg (by omega)], ⟨hX.1.setOther (a := ⟨AB, k, none⟩) (by simp only; omega) _, hX.2.setCell (by simp only; omega) _⟩⟩
      clear hr hX
      change Hid ((wr.setCell ⟨AB, k, none⟩ (.int .u8 255)).rowIs AB 5 16 (fun i => v8 (if i < k + 1 then 255#8 else 0#8)) ∧ (fun W => W.rowIs KB 23 32 (fun i => v8 (keyE 2#8 i)) ∧ Below B0 w W) (wr.setCell ⟨AB, k, none⟩ (.int .u8 255))) at HT
      go_wp2_with fail
      go_roundw
      case rel => exact ⟨k + 1, by omega, by omega, by go_num, HT.out.1, HT.out.2⟩
      case measure => simp [intOf]; omega
    · obtain rfl : k = 16 := by omega
      clear hlt hk hlo
      have h : PeF w B0 KB (keyE 2#8) AB (fun _ => 255#8) wr := ⟨hX.1, hr.congr fun i hi => by rw [if_pos hi], hX.2, HK.out.1, HK.out.2⟩
      clear hr hX
      obtain ⟨K, hK, hKl⟩ := exists_mod which 4 (by omega)
      have HKK := Lib.hid hK
      clear hK
      go_wp2_with fail
      refine (number_nat which 4 K wr (by omega) HKK.out).mono ?_
      rintro e W5 ⟨rfl, q, rfl⟩
      have hb5 : Below wr.heap.size wr (wr.drewN q) := Below.drewNr q
      generalize wr.drewN q = W5 at hb5 ⊢
      replace h := h.next hb5
      clear hb5 HKK wr
      rcases K with _ | _ | _ | _ | K
      · have hs := psum_any (keyE 2#8) (some ⟨AB, 0, none⟩) (List.replicate 16 255#8) 16 W5 h.rd (by decide) (by decide)
        rw [arr8_cong 16 _ _ edge0, show (List.replicate 16 255#8).length = 16 from rfl] at hs
        have hk := rowIs_heap8 h.k
        have HS := Lib.hid hs
        clear hs
        go_upto_region 14 with (first | (refine wpList_load_row rfl 23 _ rfl _ rfl _ _ _ _ hk Try.underlying23 rfl (by kernel_rfl) ?_) | (go_at_call 9; refine HS.out.mono ?_; rintro e W6 ⟨rfl, hb6⟩) | (refine wpList_store_row rfl 26 _ _ rfl _ _ rfl rfl _ _ (heap_alloc_new _ _) (by kernel_rfl) (by simp) (arr8_one _ _) ?_; rw [alloc_setRow]))
        have hb := h.b.trans (hb6.mono h.b0)
        have hB6 : B0 ≤ W6.heap.size := by rw [← HB.out]; exact hb.size
        refine wp_world (fun W => W.rowIs W6.heap.size 26 16 (fun i => v8 (tagE 3#8 i)) ∧ Below B0 w W) ⟨rowIs_new _ _ _ _ _ _ rfl (by simp) (fun i hi => arr8_get 16 _ i hi), hb.alloc hB6 _⟩ ?_
        generalize W6.heap.size = TB
        clear HS hk h hb hb6 hB6 W5 W6
        rintro W7 ⟨ht, hb⟩
        simp only [Act.put]
        refine wp_region_text [Sp.k 0 (some 36) [] (.bool true),
          Sp.k 1 (some 37) [0] (.bool true),
          Sp.k 2 (some 38) [1] (.agg (arr8 16 (tagE 3#8))),
          Sp.k 3 (some 39) [1] (.agg (arr8 16 (tagE 3#8))),
          Sp.k 4 (some 40) [1, 2, 3] (.bool true),
          Sp.k 5 (some 41) [1, 4] (.bool true),
          Sp.k 6 (some 2) [5] (.bool true)] (by kernel_rfl)
          ⟨owes_move 0 (some 36) [] (.bool true) (Go.Operand.tmp 3) (fun v => by kernel_rfl) (fun v => by kernel_rfl),
          owes_move 1 (some 37) [0] (.bool true) (Go.Operand.tmp 36) (fun v => by kernel_rfl) (fun v => by kernel_rfl),
          owes_load 2 (some 38) [1] (.agg (arr8 16 (tagE 3#8))) 26 (Go.Operand.tmp 7) (.pointer (some ⟨TB, 0, none⟩)) (fun v => by kernel_rfl) (fun v => by kernel_rfl) (fun w' hb => a16_loadE (ht.of_block (hb.block _ ht.lt))),
          owes_build 3 (some 39) [1] (.agg (arr8 16 (tagE 3#8))) 26 #[(0, Go.Operand.const (Go.Value.int Go.IntKind.u8 3))] (#[(0, Go.Value.int Go.IntKind.u8 3)]) (fun v => by kernel_rfl) (fun v => by kernel_rfl) (fun w => by kernel_rfl),
          owes_eql 4 (some 40) [1, 2, 3] 26 (Go.Operand.tmp 38) (Go.Operand.tmp 39) 26 (arr8 16 (tagE 3#8)) (arr8 16 (tagE 3#8)) true (fun v => by kernel_rfl) (fun v => by kernel_rfl) (by kernel_rfl) (equal16 (tagE 3#8)),
          owes_pick 5 (some 41) [1, 4] (.bool true) (Go.Operand.tmp 37) (Go.Operand.tmp 40) (Go.Operand.const (Go.Value.bool false)) true (fun v => by kernel_rfl) (fun v => by kernel_rfl) (fun v => by kernel_rfl),
          owes_assign 6 (some 2) [5] (.bool true) (Go.Operand.tmp 41) (fun v => by kernel_rfl) (fun v => by kernel_rfl), trivial⟩ ?_
        intro v w1 hb1 hall
        clear hall ht
        simp only [putsL_k, putsL_nil, List.set_cons_zero, List.set_cons_succ]
        have hfin := hb.trans (hb1.mono (by rw [← HB.out]; exact hb.size))
        go_wp2_with fail
        go_ret
        rw [HB.out]
        exact ⟨rfl, hfin⟩
      · have hr := h.k
        have hX : Below B0 w W5 := h.b
        have hB0K := h.b0k
        clear h
        go_wp2_with fail
        go_loopw [8] (fun i wr => ∃ k : Nat, 16 ≤ k ∧ k ≤ 32 ∧ i = .int .i64 k ∧ wr.rowIs KB 23 32 (fun i => v8 (if 16 ≤ i ∧ i < k then 255#8 else keyE 2#8 i)) ∧ Below B0 w wr) (fun i _ => 32 - (intOf i).toNat)
        case atStart => exact ⟨16, by omega, by omega, rfl, hr.congr fun i hi => by rw [if_neg (by omega)], hX⟩
        clear hr hX
        case round =>
          obtain ⟨k, hlo, hk, rfl, hr, hX⟩ := hrel
          by_cases hlt : k < 32
          · have cg := hr.cell hlt
            have fg := hr.frozen k
            have HT : Hid ((wr.setCell ⟨KB, k, none⟩ (v8 255#8)).rowIs KB 23 32 (fun i => v8 (if 16 ≤ i ∧ i < k + 1 then 255#8 else keyE 2#8 i)) ∧ Below B0 w (wr.setCell ⟨KB, k, none⟩ (v8 255#8))) := Lib.hid ⟨(hr.set k (v8 255#8)).congr fun i hi => by
              by_cases e : i = k
              · subst e; simp [hlo]
              · rw [if_neg e]
                by_cases e2 : 16 ≤ i ∧ i < k
                · rw [if_pos e2, if_pos (by omega)]
                · rw [if_neg e2, if_neg (by omega)], hX.setCell hB0K _⟩
            clear hr hX
            change Hid ((wr.setCell ⟨KB, k, none⟩ (.int .u8 255)).rowIs KB 23 32 (fun i => v8 (if 16 ≤ i ∧ i < k + 1 then 255#8 else keyE 2#8 i)) ∧ Below B0 w (wr.setCell ⟨KB, k, none⟩ (.int .u8 255))) at HT
            go_wp2_with fail
            go_roundw
            case rel => exact ⟨k + 1, by omega, by omega, by go_num, HT.out.1, HT.out.2⟩
            case measure => simp [intOf]; omega
          · obtain rfl : k = 32 := by omega
            clear hlt hk hlo
            have hk := hr.congr (g := fun i => v8 (keyF i)) fun i hi => by rw [keyF_eq i hi]
            have hb : Below B0 w wr := hX
            have HSM : ∀ (w' : World) (g : Nat), SlRead w' (some ⟨g, 0, none⟩) (ints .u8 (bys twoE)) → Calls Try.prog 9 #[.agg (arr8 32 keyF), .slice (some ⟨g, 0, none⟩) 16 16] w' fun e w'' => e = .returned (.agg (arr8 16 (tagE 3#8))) ∧ Below w'.heap.size w' w'' := fun w' g hS => by
              have hs := psum_any keyF (some ⟨g, 0, none⟩) twoE 16 w' hS (by decide) (by decide)
              rwa [arr8_cong 16 _ _ edge1] at hs
            clear hr hX
            go_upto_region 20 with (fail)
            refine wp_region_text [Sp.k 0 (some 50) [] (.bool true),
              Sp.k 1 (some 51) [0] (.bool true),
              Sp.k 2 (some 52) [1] (.agg (arr8 32 keyF)),
              Sp.o 3 (some 53) [1] (SlV (ints .u8 (bys twoE)) 16),
              Sp.k 4 (some 54) [1, 2, 3] (.agg (arr8 16 (tagE 3#8))),
              Sp.k 5 (some 55) [1] (.agg (arr8 16 (tagE 3#8))),
              Sp.k 6 (some 56) [1, 4, 5] (.bool true),
              Sp.k 7 (some 57) [1, 6] (.bool true),
              Sp.k 8 (some 2) [7] (.bool true)] (by kernel_rfl)
              ⟨owes_move 0 (some 50) [] (.bool true) (Go.Operand.tmp 3) (fun v => by kernel_rfl) (fun v => by kernel_rfl),
              owes_move 1 (some 51) [0] (.bool true) (Go.Operand.tmp 50) (fun v => by kernel_rfl) (fun v => by kernel_rfl),
              owes_load 2 (some 52) [1] (.agg (arr8 32 keyF)) 23 (Go.Operand.tmp 4) (.pointer (some ⟨KB, 0, none⟩)) (fun v => by kernel_rfl) (fun v => by kernel_rfl) (fun w' hb => key_loadE (hk.of_block (hb.block _ hk.lt))),
              owes_bsl 3 (some 53) [1] (SlV (ints .u8 (bys twoE)) 16) 24 5 16 #[(0, Go.Operand.const (Go.Value.int Go.IntKind.u8 2)), (1, Go.Operand.const (Go.Value.int Go.IntKind.u8 0)), (2, Go.Operand.const (Go.Value.int Go.IntKind.u8 0)), (3, Go.Operand.const (Go.Value.int Go.IntKind.u8 0)), (4, Go.Operand.const (Go.Value.int Go.IntKind.u8 0)), (5, Go.Operand.const (Go.Value.int Go.IntKind.u8 0)), (6, Go.Operand.const (Go.Value.int Go.IntKind.u8 0)), (7, Go.Operand.const (Go.Value.int Go.IntKind.u8 0)), (8, Go.Operand.const (Go.Value.int Go.IntKind.u8 0)), (9, Go.Operand.const (Go.Value.int Go.IntKind.u8 0)), (10, Go.Operand.const (Go.Value.int Go.IntKind.u8 0)), (11, Go.Operand.const (Go.Value.int Go.IntKind.u8 0)), (12, Go.Operand.const (Go.Value.int Go.IntKind.u8 0)), (13, Go.Operand.const (Go.Value.int Go.IntKind.u8 0)), (14, Go.Operand.const (Go.Value.int Go.IntKind.u8 0)), (15, Go.Operand.const (Go.Value.int Go.IntKind.u8 0))] (#[(0, Go.Value.int Go.IntKind.u8 2), (1, Go.Value.int Go.IntKind.u8 0), (2, Go.Value.int Go.IntKind.u8 0), (3, Go.Value.int Go.IntKind.u8 0), (4, Go.Value.int Go.IntKind.u8 0), (5, Go.Value.int Go.IntKind.u8 0), (6, Go.Value.int Go.IntKind.u8 0), (7, Go.Value.int Go.IntKind.u8 0), (8, Go.Value.int Go.IntKind.u8 0), (9, Go.Value.int Go.IntKind.u8 0), (10, Go.Value.int Go.IntKind.u8 0), (11, Go.Value.int Go.IntKind.u8 0), (12, Go.Value.int Go.IntKind.u8 0), (13, Go.Value.int Go.IntKind.u8 0), (14, Go.Value.int Go.IntKind.u8 0), (15, Go.Value.int Go.IntKind.u8 0)]) (#[Go.Value.int Go.IntKind.u8 2, Go.Value.int Go.IntKind.u8 0, Go.Value.int Go.IntKind.u8 0, Go.Value.int Go.IntKind.u8 0, Go.Value.int Go.IntKind.u8 0, Go.Value.int Go.IntKind.u8 0, Go.Value.int Go.IntKind.u8 0, Go.Value.int Go.IntKind.u8 0, Go.Value.int Go.IntKind.u8 0, Go.Value.int Go.IntKind.u8 0, Go.Value.int Go.IntKind.u8 0, Go.Value.int Go.IntKind.u8 0, Go.Value.int Go.IntKind.u8 0, Go.Value.int Go.IntKind.u8 0, Go.Value.int Go.IntKind.u8 0, Go.Value.int Go.IntKind.u8 0]) (fun v => by kernel_rfl) (fun v => by kernel_rfl) (fun w => by kernel_rfl) SlV.mono (fun w' hb => ⟨_, rfl, SlRead.new_row _ _ _ rfl⟩),
              owes_call 4 (some 54) [1, 2, 3] (.agg (arr8 16 (tagE 3#8))) 9 #[Go.Operand.tmp 52, Go.Operand.tmp 53] #[23, 24] (fun v => by kernel_rfl) (fun _ _ => by kernel_rfl) (fun v w' hb ho => by
                  obtain ⟨g3, e3, r3⟩ := ho.get 3 _ _ (SlV (ints .u8 (bys twoE)) 16) rfl rfl
                  exact ⟨#[.agg (arr8 32 keyF), .slice (some ⟨g3, 0, none⟩) 16 16], Eq.trans (b := #[.agg (arr8 32 keyF), v 3]) (by kernel_rfl) (by rw [e3]), (HSM w' g3 r3).mono (fun _ _ h => h)⟩),
              owes_build 5 (some 55) [1] (.agg (arr8 16 (tagE 3#8))) 26 #[(0, Go.Operand.const (Go.Value.int Go.IntKind.u8 3))] (#[(0, Go.Value.int Go.IntKind.u8 3)]) (fun v => by kernel_rfl) (fun v => by kernel_rfl) (fun w => by kernel_rfl),
              owes_eql 6 (some 56) [1, 4, 5] 26 (Go.Operand.tmp 54) (Go.Operand.tmp 55) 26 (arr8 16 (tagE 3#8)) (arr8 16 (tagE 3#8)) true (fun v => by kernel_rfl) (fun v => by kernel_rfl) (by kernel_rfl) (equal16 (tagE 3#8)),
              owes_pick 7 (some 57) [1, 6] (.bool true) (Go.Operand.tmp 51) (Go.Operand.tmp 56) (Go.Operand.const (Go.Value.bool false)) true (fun v => by kernel_rfl) (fun v => by kernel_rfl) (fun v => by kernel_rfl),
              owes_assign 8 (some 2) [7] (.bool true) (Go.Operand.tmp 57) (fun v => by kernel_rfl) (fun v => by kernel_rfl), trivial⟩ ?_
            intro v w1 hb1 hall
            clear hall HSM hk
            simp only [putsL_k, putsL_o, putsL_nil, List.set_cons_zero, List.set_cons_succ]
            generalize v 3 = v3
            have hfin := hb.trans (hb1.mono (by rw [← HB.out]; exact hb.size))
            go_wp2_with fail
            go_ret
            rw [HB.out]
            exact ⟨rfl, hfin⟩
      · have ck := h.k.cell (i := 0) (by omega)
        have fk := h.k.frozen 0
        have HT : Hid (PeF w B0 KB (keyE 1#8) AB (fun _ => 255#8) (W5.setCell ⟨KB, 0, none⟩ (.int .u8 1))) := Lib.hid h.key1
        clear h
        go_upto_region 23 with (fail)
        have h := HT.out
        generalize (W5.setCell ⟨KB, 0, none⟩ (.int .u8 1)) = W6 at *
        clear HT ck fk W5
        go_wp2_with fail
        refine (bytes_ownE (some ⟨AB, 0, none⟩) (List.replicate 16 255#8) 16 W6 h.rd (by decide)).mono ?_
        rintro e W7 ⟨vb, rfl, hvb⟩
        have hd1 : EdF w B0 KB W6.heap.size W7.heap.size vb (List.replicate 16 255#8) W7 := ⟨h.k.of_block (hvb.b.block _ h.k.lt), hvb.own, h.b.trans (hvb.b.mono h.b0), h.b0k, h.k.lt, hvb.s, fun j hj => (hvb.own.lt j hj).2, Nat.le_refl _⟩
        have ha := h.rd.below hvb.b
        clear hvb h
        generalize W6.heap.size = D at *
        clear W6
        go_wp2_with fail
        refine (bytes_ownE (some ⟨AB, 0, none⟩) (List.replicate 16 255#8) 16 W7 ha (by decide)).mono ?_
        rintro e W8 ⟨vc, rfl, hvc⟩
        have hd8 := hd1.later hvc.b
        obtain ⟨g, cc, rfl, hgB, hgW⟩ := hvc.own.form (by decide)
        have hoc := hvc.own
        clear ha hvc hd1
        generalize W7.heap.size = C at *
        clear W7
        have c0 : W8.cell? ⟨g, 0, none⟩ = some (v8 255#8) := by rw [hoc.cellAt 0 (by decide)]; rfl
        have f0 := hoc.frozenAt 0
        have hst := SlRead.of_own (own_setE hoc 0 240#8)
        have hd9 := hd8.later (show Below C W8 (W8.setCell ⟨g, 0, none⟩ (v8 240#8)) from (Below.refl C W8).setCell hgB _)
        have HT := Lib.hid (And.intro hd9 hst)
        clear hd8 hd9 hst hoc
        rw [show (List.replicate 16 255#8).length = 16 from rfl]
        go_upto_region 26 with (fail)
        obtain ⟨hd, hSc⟩ := HT.out
        change EdF _ _ _ _ _ _ _ (W8.setCell ⟨g, 0, none⟩ (.int .u8 240)) at hd
        change SlRead (W8.setCell ⟨g, 0, none⟩ (.int .u8 240)) _ (ints .u8 (bys (240#8 :: List.replicate 15 255#8))) at hSc
        generalize (W8.setCell ⟨g, 0, none⟩ (.int .u8 240)) = W9 at *
        clear HT c0 f0 hgB hgW W8
        obtain ⟨Ab, cb, rfl, hcb⟩ := ownsRow_form hd.own
        have hds := hd.ds
        have hown0 := hd.own
        rw [show (List.replicate 16 255#8).length = 16 from rfl]
        go_upto_region 27 with (at_builtin; refine push_many rfl _ _ rfl W9 D (.slice Ab (List.replicate 16 255#8).length cb) (List.replicate 16 255#8) (some ⟨g, 0, none⟩) (240#8 :: List.replicate 15 255#8) cc rfl rfl hown0 hSc hds (by decide) ?_; intro v' W10 hown1 hb1 hg1 hg2; clear hg1 hg2)
        have hd1 : EdF w B0 KB D W10.heap.size v' ((List.replicate 16 255#8) ++ (240#8 :: List.replicate 15 255#8)) W10 := hd.grow hown1 hb1
        clear hd hown0 hown1 hb1 hSc hcb hds
        go_upto_region 28 with (at_make; refine wpList_make_row _ rfl _ _ 24 rfl 5 i0 (.int .u8 0) Try.underlying24 hi hz0 hz1 rfl .i64 .i64 16 rfl rfl (by rw [hz2]; omega) (by omega) ?_)
        have hr1 := (World.rowIs_made W10 (.int .u8 0) 16 5).congr (g := fun _ => v8 0#8) (fun i hi => rfl)
        have hd2 := hd1.make (.cells (madeCells #[.int .u8 0] 16) 5)
        refine wp_world (fun W => W.rowIs W10.heap.size 5 16 (fun _ => v8 0#8) ∧ EdF w B0 KB D W10.heap.size v' ((List.replicate 16 255#8) ++ (240#8 :: List.replicate 15 255#8)) W) ⟨hr1, hd2⟩ ?_
        clear hd1 hd2 hr1
        generalize W10.heap.size = DB
        clear W10
        rintro W11 ⟨hr, hX⟩
        have c0 := hr.cell (i := 0) (by omega)
        have f0 := hr.frozen 0
        have HT := Lib.hid (And.intro (hr.set 0 (v8 17#8)) (hX.later (show Below DB W11 (W11.setCell ⟨DB, 0, none⟩ (v8 17#8)) from (Below.refl DB W11).setCell (Nat.le_refl _) _)))
        clear hr hX
        go_upto_region 29 with (fail)
        obtain ⟨hr, hd⟩ := HT.out
        change (W11.setCell ⟨DB, 0, none⟩ (.int .u8 17)).rowIs _ _ _ _ at hr
        change EdF _ _ _ _ _ _ _ (W11.setCell ⟨DB, 0, none⟩ (.int .u8 17)) at hd
        generalize (W11.setCell ⟨DB, 0, none⟩ (.int .u8 17)) = W at *
        clear HT c0 f0 W11
        have hSd := rdL hr (17#8 :: List.replicate 15 0#8) rfl (row16L 17#8 0#8)
        clear hr
        obtain ⟨Ao, co, rfl, hco⟩ := ownsRow_form hd.own
        have hdV := hd.later (drewAny hd.cs)
        have hSdV : SlRead W.drew (some ⟨DB, 0, none⟩) (ints .u8 (bys (17#8 :: List.replicate 15 0#8))) := hSd.below (Below.drewNr 1)
        obtain ⟨v', w', hrun, hown', hb', hg, hat⟩ := run_manyE 24 W.drew D (.slice Ao ((List.replicate 16 255#8) ++ (240#8 :: List.replicate 15 255#8)).length co) ((List.replicate 16 255#8) ++ (240#8 :: List.replicate 15 255#8)) (some ⟨DB, 0, none⟩) (17#8 :: List.replicate 15 0#8) 16 hdV.own hSdV hdV.ds (by decide)
        rw [show ((List.replicate 16 255#8) ++ (240#8 :: List.replicate 15 255#8)).length = 32 from rfl] at hrun ⊢
        rw [show (17#8 :: List.replicate 15 0#8).length = 16 from rfl] at hrun
        have hkV := hdV.k
        have hKD := hd.kd
        have hBD : B0 ≤ D := Nat.le_of_lt (Nat.lt_of_le_of_lt hd.b0k hKD)
        obtain ⟨Ax, cax, rfl, hcx⟩ := ownsRow_form hown'
        have hSx := SlRead.of_own hown'
        have hbw' : Below B0 w w' := hdV.b.trans (hb'.mono hBD)
        have hsm := psum_any (keyE 1#8) Ax (((List.replicate 16 255#8) ++ (240#8 :: List.replicate 15 255#8)) ++ (17#8 :: List.replicate 15 0#8)) cax w' hSx (hcx (by decide)) (by decide)
        rw [arr8_cong 16 _ _ edge2] at hsm
        rw [show (((List.replicate 16 255#8) ++ (240#8 :: List.replicate 15 255#8)) ++ (17#8 :: List.replicate 15 0#8)).length = 48 from rfl] at hrun hsm
        have HRUN := Lib.hid hrun
        have HSMM := Lib.hid hsm
        clear hown' hcx hat hg hd hSd hSdV hrun hsm hco
        refine wp_region_noPanic ?_
        refine wp_region_held_drew (S := fun W' => Below D W.drew W') (by kernel_rfl) (Below.refl _ _) (fun hHeld => ?_)
        refine held_move 0 (.tmp 3) (some 73) (.bool true) (by kernel_rfl) (by kernel_rfl) (by kernel_rfl) (by kernel_rfl) (by kernel_rfl) (fun _ _ _ _ _ h => h) hHeld ?_
        refine held_move 1 (.tmp 73) (some 74) (.bool true) (by kernel_rfl) (by kernel_rfl) (by kernel_rfl) (by kernel_rfl) (by kernel_rfl) (fun _ _ _ _ _ h => h) hHeld ?_
        refine held_load 2 23 (.tmp 4) (some 75) KB 0 (arr8 32 (keyE 1#8)).toList _ (by kernel_rfl) (by kernel_rfl) (fun w h => rangeAt_row (hkV.of_block (h.block _ hKD))) Try.underlying23 rfl (by simp only [Array.length_toList, arr8_size]; kernel_rfl) (by kernel_rfl) (by kernel_rfl) (by kernel_rfl) (fun _ _ _ _ _ h => h) hHeld ?_
        refine held_move 3 (.tmp 9) (some 76) (.slice Ao 32 co) (by kernel_rfl) (by kernel_rfl) (by kernel_rfl) (by kernel_rfl) (by kernel_rfl) (fun _ _ _ _ _ h => h) hHeld ?_
        refine held_move 4 (.tmp 11) (some 77) (.slice (some ⟨DB, 0, none⟩) 16 16) (by kernel_rfl) (by kernel_rfl) (by kernel_rfl) (by kernel_rfl) (by kernel_rfl) (fun _ _ _ _ _ h => h) hHeld ?_
        refine held_any 7 (Go.Op.build 26 #[(0, Go.Operand.const (Go.Value.int Go.IntKind.u8 5))]) (some 80) (.agg (arr8 16 (tagE 5#8))) (by kernel_rfl) (by kernel_rfl) (by kernel_rfl) (by kernel_rfl) (fun _ _ _ _ _ h => h) hHeld (fun o ho w _ => by unfold execOp; simp only [ho]; kernel_rfl) ?_
        have hDw : D ≤ w'.heap.size := Nat.le_trans hdV.ds hb'.size
        refine held_ready [5] (by kernel_rfl) (by simp) (rdy_app 5 (.tmp 76) (.tmp 77) 24 24 24 (some 78) (.slice Ao 32 co) (.slice (some ⟨DB, 0, none⟩) 16 16) (.slice Ax 48 cax) w' (by kernel_rfl) (by kernel_rfl) (by kernel_rfl) HRUN.out (hHeld.trans hb') ?_ AllReadyH.nil)
        intro hHeld
        refine held_call 6 9 (#[Go.Operand.tmp 75, Go.Operand.tmp 78]) (#[23, 24]) (some 79) #[.agg (arr8 32 (keyE 1#8)), .slice Ax 48 cax] _ (by kernel_rfl) (by kernel_rfl) (by kernel_rfl) (by kernel_rfl) HSMM.out ?_
        rintro e Y1 ⟨rfl, hb1⟩
        refine ⟨_, rfl, hHeld.trans (hb1.mono hDw), fun hHeld => ?_⟩
        refine held_eql 8 26 (.tmp 79) (.tmp 80) 26 (some 81) (arr8 16 (tagE 5#8)) (arr8 16 (tagE 5#8)) true (by kernel_rfl) (by kernel_rfl) (by kernel_rfl) (by kernel_rfl) (equal16 (tagE 5#8)) (by kernel_rfl) (by kernel_rfl) (by kernel_rfl) (fun _ _ _ _ _ h => h) hHeld ?_
        refine held_pick 9 (.tmp 74) (.tmp 81) (.const (.bool false)) (some 82) true (.bool true) (by kernel_rfl) (by kernel_rfl) (by kernel_rfl) (by kernel_rfl) (by kernel_rfl) (by kernel_rfl) (fun _ _ _ _ _ h => h) hHeld ?_
        refine held_assign 10 (.tmp 82) (some 2) (.bool true) (by kernel_rfl) (by kernel_rfl) (by kernel_rfl) (by kernel_rfl) (by kernel_rfl) (fun _ _ _ _ _ h => h) hHeld ?_
        refine wpAnyH_done (by kernel_rfl) ?_ _
        refine NoPanic.normal ?_
        simp only [Act.put, List.setIfInBounds_toArray, List.set_cons_zero, List.set_cons_succ]
        have hfin := hbw'.trans (hb1.mono (Nat.le_trans hBD hDw))
        clear hHeld HSMM HRUN hb' hb1 hbw' hkV hdV hSx
        go_wp2_with fail
        go_ret
        rw [HB.out]
        exact ⟨rfl, hfin⟩
      · have ck := h.k.cell (i := 0) (by omega)
        have fk := h.k.frozen 0
        have HT : Hid (PeF w B0 KB (keyE 1#8) AB (fun _ => 255#8) (W5.setCell ⟨KB, 0, none⟩ (.int .u8 1))) := Lib.hid h.key1
        clear h
        go_upto_region 31 with (fail)
        have h := HT.out
        generalize (W5.setCell ⟨KB, 0, none⟩ (.int .u8 1)) = W6 at *
        clear HT ck fk W5
        go_wp2_with fail
        refine (bytes_ownE (some ⟨AB, 0, none⟩) (List.replicate 16 255#8) 16 W6 h.rd (by decide)).mono ?_
        rintro e W7 ⟨vb, rfl, hvb⟩
        have hd1 : EdF w B0 KB W6.heap.size W7.heap.size vb (List.replicate 16 255#8) W7 := ⟨h.k.of_block (hvb.b.block _ h.k.lt), hvb.own, h.b.trans (hvb.b.mono h.b0), h.b0k, h.k.lt, hvb.s, fun j hj => (hvb.own.lt j hj).2, Nat.le_refl _⟩
        clear hvb h
        generalize W6.heap.size = D at *
        clear W6
        go_upto_region 33 with (at_make; refine wpList_make_row _ rfl _ _ 24 rfl 5 i0 (.int .u8 0) Try.underlying24 hi hz0 hz1 rfl .i64 .i64 16 rfl rfl (by rw [hz2]; omega) (by omega) ?_)
        have hr1 := (World.rowIs_made W7 (.int .u8 0) 16 5).congr (g := fun _ => v8 0#8) (fun i hi => rfl)
        have hd2 := hd1.make (.cells (madeCells #[.int .u8 0] 16) 5)
        refine wp_world (fun W => W.rowIs W7.heap.size 5 16 (fun _ => v8 0#8) ∧ EdF w B0 KB D W7.heap.size vb (List.replicate 16 255#8) W) ⟨hr1, hd2⟩ ?_
        clear hd1 hd2 hr1
        generalize W7.heap.size = g
        clear W7
        rintro W8 ⟨hr, hX⟩
        go_wp2_with fail
        go_loopw [14] (fun i wr => ∃ k : Nat, 0 ≤ k ∧ k ≤ 16 ∧ i = .int .i64 k ∧ wr.rowIs g 5 16 (fun i => v8 (if i < k then 254#8 else 0#8)) ∧ EdF w B0 KB D g vb (List.replicate 16 255#8) wr) (fun i _ => 16 - (intOf i).toNat)
        case atStart => exact ⟨0, by omega, by omega, rfl, hr.congr fun i hi => by rw [if_neg (by omega)], hX⟩
        clear hr hX
        case round =>
          obtain ⟨k, hlo, hk, rfl, hr, hX⟩ := hrel
          by_cases hlt : k < 16
          · have cg := hr.cell hlt
            have fg := hr.frozen k
            have HT : Hid ((wr.setCell ⟨g, k, none⟩ (v8 254#8)).rowIs g 5 16 (fun i => v8 (if i < k + 1 then 254#8 else 0#8)) ∧ EdF w B0 KB D g vb (List.replicate 16 255#8) (wr.setCell ⟨g, k, none⟩ (v8 254#8))) := Lib.hid ⟨(hr.set k (v8 254#8)).congr fun i hi => by
              by_cases e : i = k
              · subst e; simp
              · rw [if_neg e]
                by_cases e2 : i < k
                · rw [if_pos e2, if_pos (by omega)]
                · rw [if_neg e2, if_neg (by omega)], hX.later ((Below.refl g wr).setCell (Nat.le_refl _) _)⟩
            clear hr hX
            change Hid ((wr.setCell ⟨g, k, none⟩ (.int .u8 254)).rowIs g 5 16 (fun i => v8 (if i < k + 1 then 254#8 else 0#8)) ∧ EdF w B0 KB D g vb (List.replicate 16 255#8) (wr.setCell ⟨g, k, none⟩ (.int .u8 254))) at HT
            go_wp2_with fail
            go_roundw
            case rel => exact ⟨k + 1, by omega, by omega, by go_num, HT.out.1, HT.out.2⟩
            case measure => simp [intOf]; omega
          · obtain rfl : k = 16 := by omega
            clear hlt hk hlo
            have c0 := hr.cell (i := 0) (by omega)
            have f0 := hr.frozen 0
            have HT := Lib.hid (And.intro (hr.set 0 (v8 251#8)) (hX.later (show Below g wr (wr.setCell ⟨g, 0, none⟩ (v8 251#8)) from (Below.refl g wr).setCell (Nat.le_refl _) _)))
            clear hr hX
            go_upto_region 38 with (fail)
            obtain ⟨hr, hd⟩ := HT.out
            change (wr.setCell ⟨g, 0, none⟩ (.int .u8 251)).rowIs _ _ _ _ at hr
            change EdF _ _ _ _ _ _ _ (wr.setCell ⟨g, 0, none⟩ (.int .u8 251)) at hd
            generalize (wr.setCell ⟨g, 0, none⟩ (.int .u8 251)) = W9 at *
            clear HT c0 f0 wr
            replace hr := hr.congr (g := fun i => if i = 0 then v8 251#8 else v8 254#8) fun i hi => by rw [if_pos hi]
            have hSc := rdL hr (251#8 :: List.replicate 15 254#8) rfl (row16L 251#8 254#8)
            clear hr
            obtain ⟨Ab, cb, rfl, hcb⟩ := ownsRow_form hd.own
            have hds := hd.ds
            have hown0 := hd.own
            rw [show (List.replicate 16 255#8).length = 16 from rfl]
            go_upto_region 39 with (at_builtin; refine push_many rfl _ _ rfl W9 D (.slice Ab (List.replicate 16 255#8).length cb) (List.replicate 16 255#8) (some ⟨g, 0, none⟩) (251#8 :: List.replicate 15 254#8) 16 rfl rfl hown0 hSc hds (by decide) ?_; intro v' W10 hown1 hb1 hg1 hg2; clear hg1 hg2)
            have hd1 : EdF w B0 KB D W10.heap.size v' ((List.replicate 16 255#8) ++ (251#8 :: List.replicate 15 254#8)) W10 := hd.grow hown1 hb1
            clear hd hown0 hown1 hb1 hSc hcb hds
            go_upto_region 40 with (at_make; refine wpList_make_row _ rfl _ _ 24 rfl 5 i0 (.int .u8 0) Try.underlying24 hi hz0 hz1 rfl .i64 .i64 16 rfl rfl (by rw [hz2]; omega) (by omega) ?_)
            have hr1 := (World.rowIs_made W10 (.int .u8 0) 16 5).congr (g := fun _ => v8 0#8) (fun i hi => rfl)
            have hd2 := hd1.make (.cells (madeCells #[.int .u8 0] 16) 5)
            refine wp_world (fun W => W.rowIs W10.heap.size 5 16 (fun _ => v8 0#8) ∧ EdF w B0 KB D W10.heap.size v' ((List.replicate 16 255#8) ++ (251#8 :: List.replicate 15 254#8)) W) ⟨hr1, hd2⟩ ?_
            clear hd1 hd2 hr1
            generalize W10.heap.size = DB
            clear W10
            rintro W11 ⟨hr, hX⟩
            go_wp2_with fail
            go_loopw [16] (fun i wr => ∃ k : Nat, 0 ≤ k ∧ k ≤ 16 ∧ i = .int .i64 k ∧ wr.rowIs DB 5 16 (fun i => v8 (if i < k then 1#8 else 0#8)) ∧ EdF w B0 KB D DB v' ((List.replicate 16 255#8) ++ (251#8 :: List.replicate 15 254#8)) wr) (fun i _ => 16 - (intOf i).toNat)
            case atStart => exact ⟨0, by omega, by omega, rfl, hr.congr fun i hi => by rw [if_neg (by omega)], hX⟩
            clear hr hX
            case round =>
              obtain ⟨k, hlo, hk, rfl, hr, hX⟩ := hrel
              by_cases hlt : k < 16
              · have cg := hr.cell hlt
                have fg := hr.frozen k
                have HT : Hid ((wr.setCell ⟨DB, k, none⟩ (v8 1#8)).rowIs DB 5 16 (fun i => v8 (if i < k + 1 then 1#8 else 0#8)) ∧ EdF w B0 KB D DB v' ((List.replicate 16 255#8) ++ (251#8 :: List.replicate 15 254#8)) (wr.setCell ⟨DB, k, none⟩ (v8 1#8))) := Lib.hid ⟨(hr.set k (v8 1#8)).congr fun i hi => by
                  by_cases e : i = k
                  · subst e; simp
                  · rw [if_neg e]
                    by_cases e2 : i < k
                    · rw [if_pos e2, if_pos (by omega)]
                    · rw [if_neg e2, if_neg (by omega)], hX.later ((Below.refl DB wr).setCell (Nat.le_refl _) _)⟩
                clear hr hX
                change Hid ((wr.setCell ⟨DB, k, none⟩ (.int .u8 1)).rowIs DB 5 16 (fun i => v8 (if i < k + 1 then 1#8 else 0#8)) ∧ EdF w B0 KB D DB v' ((List.replicate 16 255#8) ++ (251#8 :: List.replicate 15 254#8)) (wr.setCell ⟨DB, k, none⟩ (.int .u8 1))) at HT
                go_wp2_with fail
                go_roundw
                case rel => exact ⟨k + 1, by omega, by omega, by go_num, HT.out.1, HT.out.2⟩
                case measure => simp [intOf]; omega
              · obtain rfl : k = 16 := by omega
                clear hlt hk hlo
                have hSd := rdL hr (List.replicate 16 1#8) rfl (fun i hi => by rw [if_pos hi, List.getElem_replicate])
                have hd := hX
                clear hr hX
                go_upto_region 44 with (fail)
                obtain ⟨Ao, co, rfl, hco⟩ := ownsRow_form hd.own
                have hdV := hd.later (drewAny hd.cs)
                have hSdV : SlRead wr.drew (some ⟨DB, 0, none⟩) (ints .u8 (bys (List.replicate 16 1#8))) := hSd.below (Below.drewNr 1)
                obtain ⟨v', w', hrun, hown', hb', hg, hat⟩ := run_manyE 24 wr.drew D (.slice Ao ((List.replicate 16 255#8) ++ (251#8 :: List.replicate 15 254#8)).length co) ((List.replicate 16 255#8) ++ (251#8 :: List.replicate 15 254#8)) (some ⟨DB, 0, none⟩) (List.replicate 16 1#8) 16 hdV.own hSdV hdV.ds (by decide)
                rw [show ((List.replicate 16 255#8) ++ (251#8 :: List.replicate 15 254#8)).length = 32 from rfl] at hrun ⊢
                rw [show (List.replicate 16 1#8).length = 16 from rfl] at hrun
                have hkV := hdV.k
                have hKD := hd.kd
                have hBD : B0 ≤ D := Nat.le_of_lt (Nat.lt_of_le_of_lt hd.b0k hKD)
                obtain ⟨Ax, cax, rfl, hcx⟩ := ownsRow_form hown'
                have hSx := SlRead.of_own hown'
                have hbw' : Below B0 w w' := hdV.b.trans (hb'.mono hBD)
                have hsm := psum_any (keyE 1#8) Ax (((List.replicate 16 255#8) ++ (251#8 :: List.replicate 15 254#8)) ++ (List.replicate 16 1#8)) cax w' hSx (hcx (by decide)) (by decide)
                rw [arr8_cong 16 _ _ edge3] at hsm
                rw [show (((List.replicate 16 255#8) ++ (251#8 :: List.replicate 15 254#8)) ++ (List.replicate 16 1#8)).length = 48 from rfl] at hrun hsm
                have HRUN := Lib.hid hrun
                have HSMM := Lib.hid hsm
                clear hown' hcx hat hg hd hSd hSdV hrun hsm hco
                refine wp_region_noPanic ?_
                refine wp_region_held_drew (S := fun W' => Below D wr.drew W') (by kernel_rfl) (Below.refl _ _) (fun hHeld => ?_)
                refine held_move 0 (.tmp 3) (some 107) (.bool true) (by kernel_rfl) (by kernel_rfl) (by kernel_rfl) (by kernel_rfl) (by kernel_rfl) (fun _ _ _ _ _ h => h) hHeld ?_
                refine held_move 1 (.tmp 107) (some 108) (.bool true) (by kernel_rfl) (by kernel_rfl) (by kernel_rfl) (by kernel_rfl) (by kernel_rfl) (fun _ _ _ _ _ h => h) hHeld ?_
                refine held_load 2 23 (.tmp 4) (some 109) KB 0 (arr8 32 (keyE 1#8)).toList _ (by kernel_rfl) (by kernel_rfl) (fun w h => rangeAt_row (hkV.of_block (h.block _ hKD))) Try.underlying23 rfl (by simp only [Array.length_toList, arr8_size]; kernel_rfl) (by kernel_rfl) (by kernel_rfl) (by kernel_rfl) (fun _ _ _ _ _ h => h) hHeld ?_
                refine held_move 3 (.tmp 12) (some 110) (.slice Ao 32 co) (by kernel_rfl) (by kernel_rfl) (by kernel_rfl) (by kernel_rfl) (by kernel_rfl) (fun _ _ _ _ _ h => h) hHeld ?_
                refine held_move 4 (.tmp 15) (some 111) (.slice (some ⟨DB, 0, none⟩) 16 16) (by kernel_rfl) (by kernel_rfl) (by kernel_rfl) (by kernel_rfl) (by kernel_rfl) (fun _ _ _ _ _ h => h) hHeld ?_
                refine held_any 7 (Go.Op.build 26 #[]) (some 114) (.agg (arr8 16 (tagE 0#8))) (by kernel_rfl) (by kernel_rfl) (by kernel_rfl) (by kernel_rfl) (fun _ _ _ _ _ h => h) hHeld (fun o ho w _ => by unfold execOp; simp only [ho]; kernel_rfl) ?_
                have hDw : D ≤ w'.heap.size := Nat.le_trans hdV.ds hb'.size
                refine held_ready [5] (by kernel_rfl) (by simp) (rdy_app 5 (.tmp 110) (.tmp 111) 24 24 24 (some 112) (.slice Ao 32 co) (.slice (some ⟨DB, 0, none⟩) 16 16) (.slice Ax 48 cax) w' (by kernel_rfl) (by kernel_rfl) (by kernel_rfl) HRUN.out (hHeld.trans hb') ?_ AllReadyH.nil)
                intro hHeld
                refine held_call 6 9 (#[Go.Operand.tmp 109, Go.Operand.tmp 112]) (#[23, 24]) (some 113) #[.agg (arr8 32 (keyE 1#8)), .slice Ax 48 cax] _ (by kernel_rfl) (by kernel_rfl) (by kernel_rfl) (by kernel_rfl) HSMM.out ?_
                rintro e Y1 ⟨rfl, hb1⟩
                refine ⟨_, rfl, hHeld.trans (hb1.mono hDw), fun hHeld => ?_⟩
                refine held_eql 8 26 (.tmp 113) (.tmp 114) 26 (some 115) (arr8 16 (tagE 0#8)) (arr8 16 (tagE 0#8)) true (by kernel_rfl) (by kernel_rfl) (by kernel_rfl) (by kernel_rfl) (equal16 (tagE 0#8)) (by kernel_rfl) (by kernel_rfl) (by kernel_rfl) (fun _ _ _ _ _ h => h) hHeld ?_
                refine held_pick 9 (.tmp 108) (.tmp 115) (.const (.bool false)) (some 116) true (.bool true) (by kernel_rfl) (by kernel_rfl) (by kernel_rfl) (by kernel_rfl) (by kernel_rfl) (by kernel_rfl) (fun _ _ _ _ _ h => h) hHeld ?_
                refine held_assign 10 (.tmp 116) (some 2) (.bool true) (by kernel_rfl) (by kernel_rfl) (by kernel_rfl) (by kernel_rfl) (by kernel_rfl) (fun _ _ _ _ _ h => h) hHeld ?_
                refine wpAnyH_done (by kernel_rfl) ?_ _
                refine NoPanic.normal ?_
                simp only [Act.put, List.setIfInBounds_toArray, List.set_cons_zero, List.set_cons_succ]
                have hfin := hbw'.trans (hb1.mono (Nat.le_trans hBD hDw))
                clear hHeld HSMM HRUN hb' hb1 hbw' hkV hdV hSx
                go_wp2_with fail
                go_ret
                rw [HB.out]
                exact ⟨rfl, hfin⟩
      · omega
end Go.Proofs.Ytpkajfkdandhoaa
