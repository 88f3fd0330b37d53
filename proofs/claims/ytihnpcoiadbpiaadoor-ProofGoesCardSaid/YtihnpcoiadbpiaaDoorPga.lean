import Derived.Test.YtihnpcoiadbpiaaDoorPfs
namespace Go.Proofs.YtihnpcoiadbpiaaDoor
open Go.RowKit

theorem held_dummy : True := trivial
section
variable {P : Program} {md : Region.Mode} {ops : Array Oper} {Q : Exit → Act → World → Prop} {S : World → Prop} {fuel : Nat} {listed : Array Bool} {a : Act} {w : World}
theorem held_neqG (i : Nat) (t : TypeId) (x y : Operand) (r : TypeId) (dst : Option Tmp) (cx cy : Array Value) (b : Bool) (hi : ops[i]?.map (fun o => (o.op, o.dst, Region.wanted o (yielded ops a.tmps))) = some (.binOp .neq t x y r, dst, true))
    (hx : a.eval x = .agg cx) (hy : a.eval y = .agg cy) (hgd : P.eqGuardType P.depth t = false) (he : ∀ w, (Op.equalIn 10000 t (.agg cx) (.agg cy)).run P w = .ok b w)
    (hs : Region.noSelect ops = true) (hf : Region.free md ops listed i = true) (hr : (Region.ready md ops listed).contains i = true)
    (hQ : ∀ c a v d w, Q (.panic c) (a.put d v) w → Q (.panic c) a w) (hw : S w)
    (h : wpAnyH P md ops Q S fuel (listed.setIfInBounds i true) (a.put dst (.bool !b)) w) : wpAnyH P md ops Q S (fuel + 1) listed a w :=
  held_any i _ dst _ hi hs hf hr hQ hw (fun oo ho w hw => by
    unfold execOp
    simp [ho, hx, hy, eqGuard, hgd, run_neq_struct, he, Result.andThen]) h
theorem held_notG (i : Nat) (t : TypeId) (x : Operand) (dst : Option Tmp) (b : Bool) (hi : ops[i]?.map (fun o => (o.op, o.dst, Region.wanted o (yielded ops a.tmps))) = some (.unOp .not t x, dst, true))
    (hx : a.eval x = .bool b) (hun : ∀ w, (Op.unary .not (.bool b)).run P w = .ok (.bool !b) w) (hs : Region.noSelect ops = true) (hf : Region.free md ops listed i = true) (hr : (Region.ready md ops listed).contains i = true)
    (hQ : ∀ c a v d w, Q (.panic c) (a.put d v) w → Q (.panic c) a w) (hw : S w)
    (h : wpAnyH P md ops Q S fuel (listed.setIfInBounds i true) (a.put dst (.bool !b)) w) : wpAnyH P md ops Q S (fuel + 1) listed a w :=
  held_any i _ dst _ hi hs hf hr hQ hw (fun o ho w _ => by unfold execOp; simp only [ho, hx, Sem.run_bind, hun, Sem.run_pure, Result.andThen_ok]) h
theorem rdy_bslR {rs : List Nat} (i : Nat) (t : TypeId) (n : Nat) (ps : Array (Nat × Operand)) (dst : Option Tmp) (vs : Array (Nat × Value)) (v' : Value) (w' : World)
    (hi : ops[i]?.map (fun o => (o.op, o.dst, Region.wanted o (yielded ops a.tmps))) = some (.buildSlice t n ps, dst, true))
    (hx : (ps.map fun x => (x.1, a.eval x.2)) = vs) (hrun : (Instr.buildSlice t n vs).run P w = .ok v' w') (hS : S w')
    (h : S w' → wpAnyH P md ops Q S fuel (listed.setIfInBounds i true) (a.put dst v') w') (rest : AllReadyH P md ops Q S fuel listed a w rs) : AllReadyH P md ops Q S fuel listed a w (i :: rs) := by
  obtain ⟨oi, ho, he⟩ := Option.map_eq_some_iff.1 hi
  simp only [Prod.mk.injEq] at he
  refine AllReadyH.cons ho (fun K hK => ?_) rest
  rw [if_pos he.2.2]
  unfold Oper.wp
  simp only [execOp, he.1, hx, Sem.run_bind, hrun, Sem.run_pure, Result.andThen_ok]
  rw [Oper.upon_value, he.2.1]
  exact hK.out _ _ hS h
end
theorem region_cutG {P : Program} {c : Code} {Q : Exit → Act → World → Prop} {a : Act} {w : World} (R : Act → Act → World → Prop) (h : c.wp P (fun ex a' w' => ex = .normal ∧ R a a' w') a w) (k : ∀ a' w', R a a' w' → Q .normal a' w') : c.wp P Q a w :=
  wp_mono h fun _ _ _ ⟨h1, h2⟩ => h1 ▸ k _ _ h2
theorem slread_heap {W : World} {g : Nat} {cs : Array Value} {t : TypeId} {fr : Nat × Nat} {vs : List Value} (h : W.heap[g]? = some (.cells cs t fr)) (hv : vs = cs.toList) : SlRead W (some ⟨g, 0, none⟩) vs := by
  subst hv
  refine fun _ => ⟨g, 0, rfl, (Array.getElem?_eq_some_iff.1 h).1, fun j u hj => ?_⟩
  simp only [World.cell?, h, Nat.zero_add]
  simpa using hj
theorem SeqAt.neuG {w : World} {A : Option Addr} {xs : List Int} {cap : Nat} (h : SlRead w A (ints .i64 xs)) : SeqAt (w.alloc (.cells #[.slice A xs.length cap, .int .i64 0] 30)) w.heap.size 0 A xs cap := by
  refine ⟨heap_alloc_new _ _, h.below ((Below.refl _ _).alloc (Nat.le_refl _) _), fun hn b o e => ?_⟩
  obtain ⟨b', o', e', hlt, _⟩ := h (by simpa using hn)
  rw [e] at e'
  injection e' with e'
  injection e' with e1 e2
  omega
theorem n8_natG (x : BitVec 8) : n8 x = (x.toNat : Int) := by
  unfold n8 n32
  simp only [BitVec.toNat_setWidth]
  have := x.isLt
  omega
theorem n8_xorG (x y : BitVec 8) : bits .xor .u8 (n8 x) (n8 y) = n8 (x ^^^ y) := by
  rw [u8_xor _ _ (n8_lo _) (n8_hi _) (n8_lo _) (n8_hi _), n8_natG, n8_natG, n8_natG, BitVec.toNat_xor]
  simp
theorem xor_u8 (t : TypeId) (x y : Operand) (a b : BitVec 8) (w : World) : (do eqGuard .xor t x y (v8 a) (v8 b); binOp .xor t (v8 a) (v8 b) : Sem Value).run Tryd.prog w = .ok (v8 (a ^^^ b)) w := by
  simp [eqGuard, binOp, Op.intBits]
  exact n8_xorG a b
theorem idxa_7 (b : Nat) (w : World) : (Instr.indexAt 24 (.pointer (some ⟨b, 0, none⟩)) (.int .i64 7)).run Tryd.prog w = .ok (.pointer (some ⟨b, 7, none⟩)) w := by kernel_rfl
def badOf (f : Nat → BitVec 8) : Nat → BitVec 8 := fun i => if i = 7 then f 7 ^^^ 1#8 else f i
theorem sl_end (b o : Nat) (w : World) : (Instr.sliceAt 26 (.slice (some ⟨b, o, none⟩) 1 1) (some (.int .i64 1)) none none).run Tryd.prog w = .ok (.slice (some ⟨b, o, none⟩) 0 0) w := by kernel_rfl
/-- a path without its first -/
theorem tail_slice {W : World} {A : Option Addr} {P : List (Nat → BitVec 8)} {c : Nat} (hA : SlRead W A (hcells P)) (h0 : 0 < P.length) (hc : P.length ≤ c) :
    ∃ (AT : Option Addr) (cT : Nat), (∀ w, (Instr.sliceAt 26 (.slice A P.length c) (some (.int .i64 1)) none none).run Tryd.prog w = .ok (.slice AT P.tail.length cT) w) ∧ SlRead W AT (hcells P.tail) := by
  obtain ⟨b, o, rfl, _, _⟩ := hA (by rw [hcells_length]; omega)
  rcases Nat.lt_or_ge 1 c with hc1 | hc1
  · refine ⟨some ⟨b, o + 32 * 1, none⟩, c - 1, fun w => ?_, ?_⟩
    · have h := sl32_l b o P.length c 1 hc1 h0 w
      rw [List.length_tail]
      exact h
    · have h := hA.hdrop 1 h0
      rwa [List.drop_one] at h
  · have hl : P.length = 1 := by omega
    have hcc : c = 1 := by omega
    have ht : P.tail = [] := by
      rcases P with _ | ⟨p, _ | ⟨q, r⟩⟩
      · rfl
      · rfl
      · simp at hl
    subst hcc
    rw [ht, hl]
    exact ⟨some ⟨b, o, none⟩, 0, fun w => sl_end b o w, fun hn => absurd hn (by simp [hcells])⟩
theorem alcB (W : World) (o : Obj) : Below W.heap.size W (W.alloc o) := (Below.refl _ _).alloc (Nat.le_refl _) _
theorem bslr_zero (w : World) : (Instr.buildSlice 26 0 #[]).run Tryd.prog w = .ok (.slice (some ⟨w.heap.size, 0, none⟩) 0 0) (w.alloc (.cells #[] 24)) := by kernel_rfl
theorem bslr_one (f : Nat → BitVec 8) (w : World) : (Instr.buildSlice 26 1 #[(0, .agg (arr8 32 f).toList.toArray)]).run Tryd.prog w = .ok (.slice (some ⟨w.heap.size, 0, none⟩) 1 1) (w.alloc (.cells (arr8 32 f) 24)) := by kernel_rfl
theorem own_zeroG (w : World) : (w.alloc (.cells #[] 24)).ownsRow w.heap.size 24 32 (.slice (some ⟨w.heap.size, 0, none⟩) 0 0) ([] : List (Nat → BitVec 8)).length (hcells []) :=
  ⟨rfl, .inr ⟨w.heap.size, 0, #[], rfl, Nat.le_refl _, by show (w.heap.push _)[w.heap.size]? = _; simp, Nat.le_refl _, by unfold maxLen; omega, rfl, rfl⟩⟩
theorem gt_i64 (t : TypeId) (x y : Operand) (a b : Int) (h : b < a) (w : World) : (do eqGuard .gtr t x y (.int .i64 a) (.int .i64 b); binOp .gtr t (.int .i64 a) (.int .i64 b) : Sem Value).run Tryd.prog w = .ok (.bool true) w := by
  simp [eqGuard, binOp, Op.intCmp, h]
/-- many hashes more -/
theorem run_hmany (ty : TypeId) (W : World) (base : Nat) (v : Value) (gs : List (Nat → BitVec 8)) (A : Option Addr) (hs : List (Nat → BitVec 8)) (c : Nat) (hown : W.ownsRow base 24 32 v gs.length (hcells gs)) (hA : SlRead W A (hcells hs)) (hb : base ≤ W.heap.size) (hl : gs.length + hs.length ≤ 100000) :
    ∃ v' w', (Builtin.append_ #[26, 26] ty #[v, .slice A hs.length c]).run Tryd.prog W = .ok v' w' ∧ w'.ownsRow base 24 32 v' (gs ++ hs).length (hcells (gs ++ hs)) ∧ Below base W w' ∧ W.grownBy w' v.ownBlock := by
  obtain ⟨i0, hi, hz0, hz1, hz2⟩ := info_parts info25
  cases A with
  | none =>
    have hy : hs = [] := by
      rcases hs with _ | ⟨y, r⟩
      · rfl
      · obtain ⟨b, o', e1, _⟩ := hA (by rw [hcells_length]; simp)
        cases e1
    subst hy
    exact ⟨v, W, run_append_none0 W base 26 ty 24 i0 32 Tryd.underlying26 hi v _ _ hown c, by simpa using hown, Below.refl _ _, ⟨rfl, rfl, rfl, Nat.le_refl _, fun _ _ _ => rfl⟩⟩
  | some ad =>
    obtain ⟨v', w', hr, h2, h3, _, _⟩ := run_append_own_at (P := Tryd.prog) W base 26 ty 24 i0 _ 32 32 Tryd.underlying26 hi hz0 hz1 hz2 (by simp [Value.cells]) (by decide) v _ _ hown ad hs.length c (hcells hs) (by rw [hcells_length]; omega) (by
      intro j u hu
      obtain ⟨b', o', e1, _, hcl⟩ := hA (by have := (List.getElem?_eq_some_iff.1 hu).1; omega)
      obtain rfl : ad = ⟨b', o', none⟩ := by simpa using e1
      rw [add_eq]
      exact hcl j u hu) (by
      intro u hu
      obtain ⟨f, _, hu⟩ := List.mem_flatMap.1 hu
      exact encH_one f u hu) (by unfold maxLen; omega) (by omega) hb
    refine ⟨v', w', hr, ?_, (Below.refl _ _).grown h3 hb (fun j hj => (hown.lt j hj).1), h3⟩
    rw [hcells_append]
    simpa using h2
end Go.Proofs.YtihnpcoiadbpiaaDoor
