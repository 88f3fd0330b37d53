import Derived.Test.YtocjmlncpjfnfaaDoorTur
import Derived.Test.YtocjmlncpjfnfaaDoorSlB
import Derived.Maps.AppendAt
/-
  bytes appended; a copy.
-/
namespace Go.Proofs.YtocjmlncpjfnfaaDoor
open Go.RowKit

theorem run_append_noneP {P : Program} (w : World) (base : Nat) (t ty e : TypeId) (i : TypeInfo) (size : Nat) (ht : P.underlying t = some (.slice e)) (hi : P.info? e = some i)
    (v : Value) (n : Nat) (xs : List Value) (hown : w.ownsRow base e size v n xs) (c : Nat) : (Builtin.append_ #[t, t] ty #[v, .slice none 0 c]).run P w = .ok v w := by
  rcases hown.2 with ⟨rfl, rfl⟩ | ⟨g, cap, cur, rfl, _, _, hnc, _⟩
  · simp [Builtin.append_, run_underlying ht, sizeOf, typeInfo, hi, Builtin.lenOf, Builtin.firstCells]
  · simp [Builtin.append_, run_underlying ht, sizeOf, typeInfo, hi, Builtin.lenOf, Builtin.firstCells, hnc, storeCells]
/-- numbers appended to a row of bytes of one's own -/
theorem push_intsP {ops : Array Oper} {rest : List Oper} {o : Oper} {a : Act} {Q : Exit → Act → World → Prop} (hgd : o.guard = none) (s x : Operand)
    (ho : o.op = .call { callee := .builtin .append, args := #[s, x], argTypes := #[25, 25] }) (W : World) (base : Nat) (v : Value) (xs : List Int) (B : Option Addr) (ys : List Int) (m cb : Nat)
    (hs : a.eval s = v) (hx : a.eval x = .slice B m cb) (hm : ys.length = m) (hown : W.ownsRow base 5 1 v xs.length (ints .u8 xs)) (hB : SlRead W B (ints .u8 ys)) (hbase : base ≤ W.heap.size) (hl : xs.length + ys.length ≤ 140737488352000)
    (h : ∀ v' w', w'.ownsRow base 5 1 v' (xs ++ ys).length (ints .u8 (xs ++ ys)) → W.grownBy w' v.ownBlock → (v'.ownBlock = v.ownBlock ∨ ∃ g, v'.ownBlock = some g ∧ W.heap.size ≤ g) → wpList Tryd.prog ops Q rest (a.put o.dst v') w') :
    wpList Tryd.prog ops Q (o :: rest) a W := by
  subst hm
  obtain ⟨i0, hi, hz0, hz1, hz2⟩ := info_parts Tryd.info5
  have e : ints .u8 xs ++ ints .u8 ys = ints .u8 (xs ++ ys) := by simp [ints]
  cases B with
  | none =>
    have hy : ys = [] := by
      rcases ys with _ | ⟨y, r⟩
      · rfl
      · obtain ⟨b, o', e1, _⟩ := hB (by simp)
        cases e1
    subst hy
    refine wpList_plain hgd fun K hK => ?_
    have hr := run_append_noneP W base 25 o.type 5 i0 1 Tryd.underlying25 hi v _ _ hown cb
    unfold Oper.wp execOp
    simp only [List.length_nil] at hx
    simp only [ho, resolve, invoke, builtin, Sem.run_bind, Sem.run_pure, Result.andThen_ok, List.map_toArray, List.map_cons, List.map_nil, hs, hx, hr]
    exact hK _ _ (h v W (by simpa using hown) ⟨rfl, rfl, rfl, Nat.le_refl _, fun _ _ _ => rfl⟩ (.inl rfl))
  | some ad =>
    refine wpList_append_own_at _ hgd s x 25 ho base 5 i0 (.int .u8 0) 1 1 Tryd.underlying25 hi hz0 hz1 hz2 rfl (by decide) v _ _ hs hown ad ys.length cb (ints .u8 ys) hx (by simp) ?_ (ints_one .u8 _) ?_ ?_ hbase ?_
    · intro j u hu
      have hn : 0 < (ints .u8 ys).length := by
        have := (List.getElem?_eq_some_iff.1 hu).1
        omega
      obtain ⟨b', o', e1, _, hc⟩ := hB hn
      obtain rfl : ad = ⟨b', o', none⟩ := by simpa using e1
      rw [add_eq]
      exact hc j u hu
    · unfold maxLen; omega
    · omega
    · intro v' w2 hown2 hgrow2 _ hat
      rw [e] at hown2
      refine h v' w2 (by simpa using hown2) hgrow2 ?_
      rcases hat with h1 | h1
      · exact .inl h1
      · exact .inr ⟨_, h1, Nat.le_refl _⟩

set_option maxRecDepth 100000 in
set_option maxHeartbeats 800000 in
/-- a copy: a row of its own -/
theorem cloneI_p (A : Option Addr) (xs : List Int) (ca : Nat) (w : World) (hA : SlRead w A (ints .u8 xs)) (hl : xs.length ≤ 100000000) :
    Calls Tryd.prog 65 #[.slice A xs.length ca] w fun e w' => ∃ v, e = .returned v ∧ w'.ownsRow w.heap.size 5 1 v xs.length (ints .u8 xs) ∧ Below w.heap.size w w' := by
  cases A with
  | none =>
    have hn : xs = [] := by
      cases xs with
      | nil => rfl
      | cons x r => obtain ⟨b, o, e, _⟩ := hA (by simp [ints]); cases e
    subst hn
    have hc0 : ∀ w : World, (binOp .eql 25 (.slice none 0 ca) (.slice none 0 0)).run Tryd.prog w = .ok (.bool true) w := fun w => Lib.run_eql_slice_nil w 25 5 none 0 ca 0 0 Tryd.underlying25
    go_enter Tryd.func65, Tryd.ntmps65
    go_wp2_with fail
    go_ret
    exact ⟨_, rfl, World.ownsRow_nil _ _ _ _, Below.refl _ _⟩
  | some ad =>
    have hown : (w.alloc (.cells #[] 5)).ownsRow w.heap.size 5 1 (.slice (some ⟨w.heap.size, 0, none⟩) 0 0) ([] : List Int).length (ints .u8 []) := ⟨rfl, .inr ⟨w.heap.size, 0, #[], rfl, Nat.le_refl _, heap_alloc_new _ _, Nat.le_refl _, by unfold maxLen; omega, rfl, rfl⟩⟩
    have hb0 : Below w.heap.size w (w.alloc (.cells #[] 5)) := below_alc w _
    have hA0 := hA.below hb0
    have hc0 : ∀ w : World, (binOp .eql 25 (.slice (some ad) xs.length ca) (.slice none 0 0)).run Tryd.prog w = .ok (.bool false) w := fun w => Lib.run_eql_slice_nil w 25 5 (some ad) xs.length ca 0 0 Tryd.underlying25
    go_enter Tryd.func65, Tryd.ntmps65
    go_wp2_with (at_builtin; refine push_intsP rfl _ _ rfl (w.alloc (.cells #[] 5)) w.heap.size (.slice (some ⟨w.heap.size, 0, none⟩) 0 0) [] (some ad) xs xs.length ca rfl rfl rfl hown hA0 hb0.size (by simp; omega) ?_; intro v' W1 hown1 hg1 hat1; rw [List.nil_append] at hown1; have hfin := Lib.hid (And.intro hown1 (hb0.grown hg1 hb0.size (fun j hj => by cases hj; exact Nat.le_refl _))); clear hown hb0 hA0 hown1 hg1 hat1 hA)
    go_ret
    exact ⟨_, rfl, hfin.out.1, hfin.out.2⟩

end Go.Proofs.YtocjmlncpjfnfaaDoor
