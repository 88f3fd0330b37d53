import Derived.Test.YtffkjbbhbpaacaaDoorTur
import Derived.Test.YtffkjbbhbpaacaaDoorSlB
import Derived.Maps.AppendAt
import Derived.Lib.Hide
import Derived.Test.YtffkjbbhbpaacaaDoorTrh
import Derived.Laws.EntriesVeiled
import Derived.Test.YtffkjbbhbpaacaaDoorIdx
import Derived.Test.YtffkjbbhbpaacaaDoorCpy
/-
  code: a Writer in memory; what is appended; copies.
  code: copies; lists; the document's.
  code: a Reader in memory; Read.
  code: Read; what the laws' read makes of it.
  code: a Reader's need, word.
  code: a Reader's word.
  code: a Reader's methods.
  code: a Reader's List, Bool.
-/
namespace Go.Proofs.YtffkjbbhbpaacaaDoor
open Go.RowKit

theorem run_append_noneA {P : Program} (w : World) (base : Nat) (t ty e : TypeId) (i : TypeInfo) (size : Nat) (ht : P.underlying t = some (.slice e)) (hi : P.info? e = some i)
    (v : Value) (n : Nat) (xs : List Value) (hown : w.ownsRow base e size v n xs) (c : Nat) : (Builtin.append_ #[t, t] ty #[v, .slice none 0 c]).run P w = .ok v w := by
  rcases hown.2 with ⟨rfl, rfl⟩ | ⟨g, cap, cur, rfl, _, _, hnc, _⟩
  · simp [Builtin.append_, run_underlying ht, sizeOf, typeInfo, hi, Builtin.lenOf, Builtin.firstCells]
  · simp [Builtin.append_, run_underlying ht, sizeOf, typeInfo, hi, Builtin.lenOf, Builtin.firstCells, hnc, storeCells]
/-- numbers appended to a row of bytes of one's own -/
theorem push_ints {ops : Array Oper} {rest : List Oper} {o : Oper} {a : Act} {Q : Exit → Act → World → Prop} (hgd : o.guard = none) (s x : Operand)
    (ho : o.op = .call { callee := .builtin .append, args := #[s, x], argTypes := #[25, 25] }) (W : World) (base : Nat) (v : Value) (xs : List Int) (B : Option Addr) (ys : List Int) (m cb : Nat)
    (hs : a.eval s = v) (hx : a.eval x = .slice B m cb) (hm : ys.length = m) (hown : W.ownsRow base 5 1 v xs.length (ints .u8 xs)) (hB : SlRead W B (ints .u8 ys)) (hbase : base ≤ W.heap.size) (hl : xs.length + ys.length ≤ 140737488352000)
    (h : ∀ v' w', w'.ownsRow base 5 1 v' (xs ++ ys).length (ints .u8 (xs ++ ys)) → W.grownBy w' v.ownBlock → (v'.ownBlock = v.ownBlock ∨ ∃ g, v'.ownBlock = some g ∧ W.heap.size ≤ g) → wpList Tryd.prog ops Q rest (a.put o.dst v') w') :
    wpList Tryd.prog ops Q (o :: rest) a W := by
  subst hm
  obtain ⟨i0, hi, hz0, hz1, hz2⟩ := info_parts Tryd.info5
  have e : ints .u8 xs ++ ints .u8 ys = ints .u8 (xs ++ ys) := by simp [ints]
  cases B with
  | none =>
    have hy : ys = [] := by
      rcases ys with _ | ⟨y, r⟩
      · rfl
      · obtain ⟨b, o', e1, _⟩ := hB (by simp)
        cases e1
    subst hy
    refine wpList_plain hgd fun K hK => ?_
    have hr := run_append_noneA W base 25 o.type 5 i0 1 Tryd.underlying25 hi v _ _ hown cb
    unfold Oper.wp execOp
    simp only [List.length_nil] at hx
    simp only [ho, resolve, invoke, builtin, Sem.run_bind, Sem.run_pure, Result.andThen_ok, List.map_toArray, List.map_cons, List.map_nil, hs, hx, hr]
    exact hK _ _ (h v W (by simpa using hown) ⟨rfl, rfl, rfl, Nat.le_refl _, fun _ _ _ => rfl⟩ (.inl rfl))
  | some ad =>
    refine wpList_append_own_at _ hgd s x 25 ho base 5 i0 (.int .u8 0) 1 1 Tryd.underlying25 hi hz0 hz1 hz2 rfl (by decide) v _ _ hs hown ad ys.length cb (ints .u8 ys) hx (by simp) ?_ (ints_one .u8 _) ?_ ?_ hbase ?_
    · intro j u hu
      have hn : 0 < (ints .u8 ys).length := by
        have := (List.getElem?_eq_some_iff.1 hu).1
        omega
      obtain ⟨b', o', e1, _, hc⟩ := hB hn
      obtain rfl : ad = ⟨b', o', none⟩ := by simpa using e1
      rw [add_eq]
      exact hc j u hu
    · unfold maxLen; omega
    · omega
    · intro v' w2 hown2 hgrow2 _ hat
      rw [e] at hown2
      refine h v' w2 (by simpa using hown2) hgrow2 ?_
      rcases hat with h1 | h1
      · exact .inl h1
      · exact .inr ⟨_, h1, Nat.le_refl _⟩

/-- a Writer as it lies: its cell, its row -/
structure WrS (w : World) (n W : Nat) (xs : List Int) (v : Value) : Prop where
  c : w.cell? ⟨W, 0, none⟩ = some v
  f : w.frozen? ⟨W, 0, none⟩ = false
  own : w.ownsRow n 5 1 v xs.length (ints .u8 xs)
  ne : v.ownBlock ≠ some W
  low : n ≤ W
/-- what a Writer may turn -/
def WFoot (W : Nat) (v : Value) (k : Nat) : Prop := k = W ∨ v.ownBlock = some k
theorem WrS.lt {w : World} {n W : Nat} {xs : List Int} {v : Value} (h : WrS w n W xs v) : W < w.heap.size := cell_lt h.c
theorem WrS.ltF {w : World} {n W : Nat} {xs : List Int} {v : Value} (h : WrS w n W xs v) {k : Nat} (hk : WFoot W v k) : n ≤ k ∧ k < w.heap.size := by
  rcases hk with rfl | hk
  · exact ⟨h.low, h.lt⟩
  · exact h.own.lt k hk
theorem WrS.same {w w' : World} {n W : Nat} {xs : List Int} {v : Value} (h : WrS w n W xs v) (hb : ∀ k, WFoot W v k → w'.heap[k]? = w.heap[k]?) : WrS w' n W xs v :=
  ⟨(World.cell?_of_block (hb W (.inl rfl))).trans h.c, (World.frozen?_of_block (hb W (.inl rfl))).trans h.f, own_kept h.own (fun k hk => hb k (.inr hk)), h.ne, h.low⟩
theorem WrS.below {w w' : World} {n W : Nat} {xs : List Int} {v : Value} (h : WrS w n W xs v) (hb : Below w.heap.size w w') : WrS w' n W xs v := h.same fun k hk => hb.block k (h.ltF hk).2
theorem WrS.turn {F : Nat → Prop} {w w' : World} {n W : Nat} {xs : List Int} {v : Value} (h : WrS w n W xs v) (ht : Turn F w w') (hF : ∀ k, WFoot W v k → ¬ F k) : WrS w' n W xs v := h.same fun k hk => ht.block k (h.ltF hk).2 (hF k hk)
theorem WrS.read {w : World} {n W : Nat} {xs : List Int} {v : Value} (h : WrS w n W xs v) : ∃ A c, v = .slice A xs.length c ∧ SlRead w A (ints .u8 xs) := by
  obtain ⟨A, c, rfl, _⟩ := ownsRow_form h.own
  exact ⟨A, c, rfl, SlRead.of_own h.own⟩
/-- behind what is appended -/
def PutP (w : World) (n W : Nat) (zs : List Int) (v : Value) (e : Ending) (w' : World) : Prop :=
  e = .returned (.tuple #[]) ∧ ∃ v', WrS w' n W zs v' ∧ Turn (WFoot W v) w w' ∧ (v'.ownBlock = v.ownBlock ∨ ∃ g, v'.ownBlock = some g ∧ w.heap.size ≤ g)
/-- a row that has grown, stored -/
theorem WrS.grown {w w0 w' : World} {n W : Nat} {xs zs : List Int} {v v' : Value} (h : WrS w n W xs v) (h0 : Below w.heap.size w w0) (hown : w'.ownsRow n 5 1 v' zs.length (ints .u8 zs)) (hg : w0.grownBy w' v.ownBlock)
    (hat : v'.ownBlock = v.ownBlock ∨ ∃ g, v'.ownBlock = some g ∧ w0.heap.size ≤ g) : w'.cell? ⟨W, 0, none⟩ = some v ∧ w'.frozen? ⟨W, 0, none⟩ = false ∧ PutP w n W zs v (.returned (.tuple #[])) (w'.setCell ⟨W, 0, none⟩ v') := by
  have hl := h.lt
  have hs := h0.size
  have hW : w'.heap[W]? = w.heap[W]? := (hg.block W (by omega) (fun e => h.ne e.symm)).trans (h0.block W hl)
  have c := (World.cell?_of_block hW).trans h.c
  have f := (World.frozen?_of_block hW).trans h.f
  have hne : v'.ownBlock ≠ some W := by
    rcases hat with e | ⟨g, e, hge⟩
    · rw [e]; exact h.ne
    · rw [e]; intro e2; cases e2; omega
  refine ⟨c, f, rfl, v', ⟨World.cell?_setCell_same w' _ _ c, by rw [frozen_setCell]; exact f, own_kept hown (fun k hk => Below.heap_setCell _ _ _ _ (fun e => hne (by rw [hk]; exact congrArg some e))), hne, h.low⟩, ?_, ?_⟩
  · refine ((Turn.of_below h0).trans (Turn.of_grown (F := WFoot W v) hg (fun k hk => .inr hk)) (fun q hq => .inl hq)).trans (Turn.of_grown (grown_setCell w' _ _) (F := WFoot W v) (fun k hk => .inl (Option.some.inj hk).symm)) (fun q hq => .inl hq)
  · rcases hat with e | ⟨g, e, hge⟩
    · exact .inl e
    · exact .inr ⟨g, e, by omega⟩

def le4 (n : Int) : List Int := [n % 256, n / 256 % 256, n / 65536 % 256, n / 16777216 % 256]
theorem one_newI {W : World} (x : Int) : SlRead (W.alloc (.cells #[.int .u8 x] 5)) (some ⟨W.heap.size, 0, none⟩) (ints .u8 [x]) := SlRead.one_new _ _
theorem four_new {W : World} (a b c d : Int) : SlRead (W.alloc (.cells #[.int .u8 a, .int .u8 b, .int .u8 c, .int .u8 d] 5)) (some ⟨W.heap.size, 0, none⟩) (ints .u8 [a, b, c, d]) := by
  intro _
  refine ⟨W.heap.size, 0, rfl, by simp, fun j u hj => ?_⟩
  rw [Nat.zero_add, World.cell?_alloc_new]
  simpa [ints] using hj

set_option maxRecDepth 100000 in
set_option maxHeartbeats 800000 in
theorem du8_any (x : Int) (n W : Nat) (xs : List Int) (v : Value) (w : World) (h : WrS w n W xs v) (hn : n ≤ w.heap.size) (hl : xs.length ≤ 1000000) :
    Calls Tryd.prog 52 #[.pointer (some ⟨W, 0, none⟩), .int .i64 x] w (PutP w n W (xs ++ [x % 256]) v) := by
  obtain ⟨A, c, rfl, _⟩ := ownsRow_form h.own
  have hc := h.c
  obtain ⟨zs, hz⟩ : ∃ zs, zs = xs ++ [x % 256] := ⟨_, rfl⟩
  rw [← hz]
  have HZ := Lib.hid hz
  clear hz
  go_enter Tryd.func52, Tryd.ntmps52
  go_wp2_with (at_builtin; refine push_ints rfl _ _ rfl (w.alloc (.cells #[.int .u8 (x % 256)] 5)) n (.slice A xs.length c) xs (some ⟨w.heap.size, 0, none⟩) ([x % 256]) 1 1 rfl rfl rfl (h.own.alloc _) (one_newI _) (by first | omega | (simp; omega)) (by first | omega | (simp; omega; done) | (simp [le4]; omega)) ?_; intro v' w1 hown1 hg1 hat1; rw [← HZ.out] at hown1; obtain ⟨c1, f1, hp⟩ := h.grown (below_alc w _) hown1 hg1 hat1; obtain ⟨A', c', rfl, _⟩ := ownsRow_form hown1; have hp := Lib.hid hp; clear h hown1 hg1 hat1 hc)
  go_end0
  exact hp.out
set_option maxRecDepth 100000 in
set_option maxHeartbeats 800000 in
theorem draw_any (B : Option Addr) (ys : List Int) (cb : Nat) (n W : Nat) (xs : List Int) (v : Value) (w : World) (h : WrS w n W xs v) (hn : n ≤ w.heap.size) (hl : xs.length ≤ 1000000) (hB : SlRead w B (ints .u8 ys)) (hy : ys.length ≤ 1000000) :
    Calls Tryd.prog 53 #[.pointer (some ⟨W, 0, none⟩), .slice B ys.length cb] w (PutP w n W (xs ++ ys) v) := by
  obtain ⟨A, c, rfl, _⟩ := ownsRow_form h.own
  have hc := h.c
  obtain ⟨zs, hz⟩ : ∃ zs, zs = xs ++ ys := ⟨_, rfl⟩
  rw [← hz]
  have HZ := Lib.hid hz
  clear hz
  go_enter Tryd.func53, Tryd.ntmps53
  go_wp2_with (at_builtin; refine push_ints rfl _ _ rfl (w) n (.slice A xs.length c) xs (B) (ys) ys.length cb rfl rfl rfl (h.own) (hB) (by first | omega | (simp; omega)) (by first | omega | (simp; omega; done) | (simp [le4]; omega)) ?_; intro v' w1 hown1 hg1 hat1; rw [← HZ.out] at hown1; obtain ⟨c1, f1, hp⟩ := h.grown (Below.refl _ _) hown1 hg1 hat1; obtain ⟨A', c', rfl, _⟩ := ownsRow_form hown1; have hp := Lib.hid hp; clear h hown1 hg1 hat1 hc)
  go_end0
  exact hp.out
theorem PutP.size {w w' : World} {n W : Nat} {zs : List Int} {v : Value} {e : Ending} (h : PutP w n W zs v e w') : w.heap.size ≤ w'.heap.size := by
  obtain ⟨_, v', _, ht, _⟩ := h
  exact ht.size
theorem SlRead.turn {F : Nat → Prop} {w w' : World} {A : Option Addr} {xs : List Value} (h : SlRead w A xs) (ht : Turn F w w') (hF : 0 < xs.length → ∀ a, A = some a → ¬ F a.block) : SlRead w' A xs := by
  intro h0
  obtain ⟨b, o, rfl, hlt, hc⟩ := h h0
  exact ⟨b, o, rfl, Nat.lt_of_lt_of_le hlt ht.size, fun j u hu => (ht.cell hlt (hF h0 _ rfl)).trans (hc j u hu)⟩
/-- two things appended, one behind the other -/
theorem PutP.then {w w1 w2 : World} {n W : Nat} {ys zs : List Int} {v v1 : Value} {e : Ending} (hs : WrS w1 n W ys v1) (ht : Turn (WFoot W v) w w1) (ha : v1.ownBlock = v.ownBlock ∨ ∃ g, v1.ownBlock = some g ∧ w.heap.size ≤ g) (h : PutP w1 n W zs v1 e w2) : PutP w n W zs v e w2 := by
  obtain ⟨he, v2, h1, h2, h3⟩ := h
  refine ⟨he, v2, h1, ht.trans h2 (fun q hq => ?_), ?_⟩
  · rcases hq with rfl | hq
    · exact .inl (.inl rfl)
    · rcases ha with ha | ⟨g, ha, hg⟩
      · exact .inl (.inr (ha ▸ hq))
      · rw [ha] at hq; cases hq; exact .inr hg
  · rcases h3 with h3 | ⟨g, h3, hg⟩
    · rw [h3]; exact ha
    · exact .inr ⟨g, h3, Nat.le_trans ht.size hg⟩

def lstI (ys : List Int) : List Int := le4 ys.length ++ ys
set_option maxRecDepth 100000 in
set_option maxHeartbeats 800000 in
/-- a copy: a row of its own -/
theorem cloneI_any (A : Option Addr) (xs : List Int) (ca : Nat) (w : World) (hA : SlRead w A (ints .u8 xs)) (hl : xs.length ≤ 100000000) :
    Calls Tryd.prog 56 #[.slice A xs.length ca] w fun e w' => ∃ v, e = .returned v ∧ w'.ownsRow w.heap.size 5 1 v xs.length (ints .u8 xs) ∧ Below w.heap.size w w' := by
  cases A with
  | none =>
    have hn : xs = [] := by
      cases xs with
      | nil => rfl
      | cons x r => obtain ⟨b, o, e, _⟩ := hA (by simp [ints]); cases e
    subst hn
    have hc0 : ∀ w : World, (binOp .eql 25 (.slice none 0 ca) (.slice none 0 0)).run Tryd.prog w = .ok (.bool true) w := fun w => Lib.run_eql_slice_nil w 25 5 none 0 ca 0 0 Tryd.underlying25
    go_enter Tryd.func56, Tryd.ntmps56
    go_wp2_with fail
    go_ret
    exact ⟨_, rfl, World.ownsRow_nil _ _ _ _, Below.refl _ _⟩
  | some ad =>
    have hown : (w.alloc (.cells #[] 5)).ownsRow w.heap.size 5 1 (.slice (some ⟨w.heap.size, 0, none⟩) 0 0) ([] : List Int).length (ints .u8 []) := ⟨rfl, .inr ⟨w.heap.size, 0, #[], rfl, Nat.le_refl _, heap_alloc_new _ _, Nat.le_refl _, by unfold maxLen; omega, rfl, rfl⟩⟩
    have hb0 : Below w.heap.size w (w.alloc (.cells #[] 5)) := below_alc w _
    have hA0 := hA.below hb0
    have hc0 : ∀ w : World, (binOp .eql 25 (.slice (some ad) xs.length ca) (.slice none 0 0)).run Tryd.prog w = .ok (.bool false) w := fun w => Lib.run_eql_slice_nil w 25 5 (some ad) xs.length ca 0 0 Tryd.underlying25
    go_enter Tryd.func56, Tryd.ntmps56
    go_wp2_with (at_builtin; refine push_ints rfl _ _ rfl (w.alloc (.cells #[] 5)) w.heap.size (.slice (some ⟨w.heap.size, 0, none⟩) 0 0) [] (some ad) xs xs.length ca rfl rfl rfl hown hA0 hb0.size (by simp; omega) ?_; intro v' W1 hown1 hg1 hat1; rw [List.nil_append] at hown1; have hfin := Lib.hid (And.intro hown1 (hb0.grown hg1 hb0.size (fun j hj => by cases hj; exact Nat.le_refl _))); clear hown hb0 hA0 hown1 hg1 hat1 hA)
    go_ret
    exact ⟨_, rfl, hfin.out.1, hfin.out.2⟩

set_option maxRecDepth 100000 in
set_option maxHeartbeats 800000 in
theorem put32_any (x : Int) (n : Nat) (xs : List Int) (v : Value) (w : World) (h : w.ownsRow n 5 1 v xs.length (ints .u8 xs)) (hn : n ≤ w.heap.size) (hl : xs.length ≤ 1000000) :
    Calls Tryd.prog 72 #[v, .int .u32 x] w fun e w' => ∃ v', e = .returned v' ∧ w'.ownsRow n 5 1 v' (xs ++ le4 x).length (ints .u8 (xs ++ le4 x)) ∧ ∃ w0, Below w.heap.size w w0 ∧ w0.grownBy w' v.ownBlock ∧ (v'.ownBlock = v.ownBlock ∨ ∃ g, v'.ownBlock = some g ∧ w0.heap.size ≤ g) := by
  obtain ⟨A, c, rfl, _⟩ := ownsRow_form h
  obtain ⟨zs, hz⟩ : ∃ zs, zs = xs ++ le4 x := ⟨_, rfl⟩
  rw [← hz]
  have HZ := Lib.hid hz
  clear hz
  go_enter Tryd.func72, Tryd.ntmps72
  go_wp2_with (at_builtin; refine push_ints rfl _ _ rfl (w.alloc (.cells #[.int .u8 (x % 256), .int .u8 (x / 256 % 256), .int .u8 (x / 65536 % 256), .int .u8 (x / 16777216 % 256)] 5)) n (.slice A xs.length c) xs (some ⟨w.heap.size, 0, none⟩) (le4 x) 4 4 rfl rfl rfl (h.alloc _) (four_new _ _ _ _) (by simp; omega) (by simp [le4]; omega) ?_; intro v' w1 hown1 hg1 hat1; rw [← HZ.out] at hown1; have hfin := Lib.hid (And.intro hown1 (⟨_, below_alc w _, hg1, hat1⟩ : ∃ w0, Below w.heap.size w w0 ∧ w0.grownBy w1 (Value.slice A xs.length c).ownBlock ∧ (v'.ownBlock = (Value.slice A xs.length c).ownBlock ∨ ∃ g, v'.ownBlock = some g ∧ w0.heap.size ≤ g))); clear h hown1 hg1 hat1)
  go_ret
  exact ⟨_, rfl, hfin.out⟩
set_option maxRecDepth 100000 in
set_option maxHeartbeats 800000 in
theorem du32_any (x : Int) (n W : Nat) (xs : List Int) (v : Value) (w : World) (h : WrS w n W xs v) (hn : n ≤ w.heap.size) (hl : xs.length ≤ 1000000) :
    Calls Tryd.prog 54 #[.pointer (some ⟨W, 0, none⟩), .int .u32 x] w (PutP w n W (xs ++ le4 x) v) := by
  obtain ⟨A, c, rfl, _⟩ := ownsRow_form h.own
  have hc := h.c
  have H1 := put32_any x n xs _ w h.own hn hl
  obtain ⟨zs, hz⟩ : ∃ zs, zs = xs ++ le4 x := ⟨_, rfl⟩
  rw [← hz] at H1 ⊢
  clear hz
  go_enter Tryd.func54, Tryd.ntmps54
  go_wp2_with fail
  refine H1.mono ?_
  rintro e w1 ⟨v1, rfl, hown1, w0, hb0, hg1, hat1⟩
  obtain ⟨c1, f1, hp⟩ := h.grown hb0 hown1 hg1 hat1
  obtain ⟨A', c', rfl, _⟩ := ownsRow_form hown1
  have hp := Lib.hid hp
  clear h hown1 hg1 hat1 hc H1 hb0
  go_wp2_with fail
  go_end0
  exact hp.out
set_option maxRecDepth 100000 in
set_option maxHeartbeats 800000 in
theorem dlist_any (B : Option Addr) (ys : List Int) (cb : Nat) (n W : Nat) (xs : List Int) (v : Value) (w : World) (h : WrS w n W xs v) (hn : n ≤ w.heap.size) (hl : xs.length ≤ 900000) (hB : SlRead w B (ints .u8 ys)) (hy : ys.length ≤ 1000000) (hap : 0 < ys.length → ∀ a, B = some a → ¬ WFoot W v a.block) :
    Calls Tryd.prog 55 #[.pointer (some ⟨W, 0, none⟩), .slice B ys.length cb] w (PutP w n W (xs ++ lstI ys) v) := by
  obtain ⟨t, ht⟩ : ∃ t, t = le4 (ys.length : Int) := ⟨_, rfl⟩
  have hq : lstI ys = t ++ ys := by rw [ht]; rfl
  have ht4 : t.length = 4 := by rw [ht]; rfl
  have hm : ((ys.length : Int) % 4294967296) = (ys.length : Int) := by omega
  have H1 : Calls Tryd.prog 54 #[.pointer (some ⟨W, 0, none⟩), .int .u32 (ys.length : Int)] w (PutP w n W (xs ++ t) v) := by rw [ht]; exact du32_any _ n W xs v w h hn (by omega)
  rw [hq, ← List.append_assoc]
  have hl4 : (xs ++ t).length ≤ 1000000 := by simp; omega
  generalize xs ++ t = zs at *
  have HH := Lib.hid h
  clear h hl ht ht4 hq
  go_enter Tryd.func55, Tryd.ntmps55
  go_wp2_with fail
  refine H1.mono ?_
  rintro e w1 ⟨rfl, v1, h1, ht1, ha1⟩
  have hs1 := ht1.size
  have H2 := draw_any B ys cb n W zs v1 w1 h1 (by omega) hl4 (hB.turn ht1 (fun h0 => hap (by simpa using h0))) hy
  have H2 : Calls Tryd.prog 53 #[.pointer (some ⟨W, 0, none⟩), .slice B ys.length cb] w1 (PutP w n W (zs ++ ys) v) := H2.mono fun e w2 hp => PutP.then h1 ht1 ha1 hp
  clear H1 h1 ht1 ha1 hl4
  go_wp2_with fail
  refine H2.mono ?_
  rintro e w2 ⟨rfl, hp⟩
  have hp := Lib.hid hp
  go_wp2_with fail
  go_end0
  exact ⟨rfl, hp.out⟩
/-- a Reader as it lies -/
structure RdS (w : World) (R : Nat) (A : Option Addr) (xs : List Int) (p c : Nat) : Prop where
  c0 : w.cell? ⟨R, 0, none⟩ = some (.slice A xs.length c)
  c1 : w.cell? ⟨R, 1, none⟩ = some (.int .i64 (p : Int))
  f : w.frozen? ⟨R, 1, none⟩ = false
  rd : SlRead w A (ints .u8 xs)
  ap : 0 < xs.length → ∀ a, A = some a → a.block ≠ R
  le : p ≤ xs.length
  cl : xs.length ≤ c
theorem RdS.lt {w : World} {R : Nat} {A : Option Addr} {xs : List Int} {p c : Nat} (h : RdS w R A xs p c) : R < w.heap.size := cell_lt h.c0
theorem RdS.turn {F : Nat → Prop} {w w' : World} {R : Nat} {A : Option Addr} {xs : List Int} {p c : Nat} (h : RdS w R A xs p c) (ht : Turn F w w') (hR : ¬ F R) (hF : ∀ a, A = some a → ¬ F a.block) : RdS w' R A xs p c :=
  ⟨(ht.cell h.lt hR).trans h.c0, (ht.cell h.lt hR).trans h.c1, (World.frozen?_of_block (ht.block R h.lt hR)).trans h.f, h.rd.turn ht (fun _ => hF), h.ap, h.le, h.cl⟩
theorem RdS.turn0 {F : Nat → Prop} {w w' : World} {R : Nat} {A : Option Addr} {xs : List Int} {p c : Nat} (h : RdS w R A xs p c) (ht : Turn F w w') (hR : ¬ F R) (hF : 0 < xs.length → ∀ a, A = some a → ¬ F a.block) : RdS w' R A xs p c :=
  ⟨(ht.cell h.lt hR).trans h.c0, (ht.cell h.lt hR).trans h.c1, (World.frozen?_of_block (ht.block R h.lt hR)).trans h.f, h.rd.turn ht (fun h0 => hF (by simpa using h0)), h.ap, h.le, h.cl⟩
theorem RdS.below {w w' : World} {R : Nat} {A : Option Addr} {xs : List Int} {p c : Nat} (h : RdS w R A xs p c) (hb : Below w.heap.size w w') : RdS w' R A xs p c :=
  h.turn (Turn.of_below (F := fun _ => False) hb) id (fun _ _ => id)
/-- it moves -/
theorem RdS.move {w : World} {R : Nat} {A : Option Addr} {xs : List Int} {p c : Nat} (h : RdS w R A xs p c) (q : Nat) (hq : q ≤ xs.length) : RdS (w.setCell ⟨R, 1, none⟩ (.int .i64 (q : Int))) R A xs q c ∧ Turn (· = R) w (w.setCell ⟨R, 1, none⟩ (.int .i64 (q : Int))) := by
  have ht : Turn (· = R) w (w.setCell ⟨R, 1, none⟩ (.int .i64 (q : Int))) := Turn.of_grown (grown_setCell w _ _) (fun k hk => (Option.some.inj hk).symm)
  exact ⟨⟨by rw [World.cell?_setCell_other _ _ _ _ (by intro e; cases e)]; exact h.c0, World.cell?_setCell_same w _ _ h.c1, by rw [frozen_setCell]; exact h.f, h.rd.turn ht (fun h0 a ha => h.ap (by simpa using h0) a ha), h.ap, hq, h.cl⟩, ht⟩
/-- what Read answers -/
def TellR (E : Nat → Addr) (o : Option (Nat × Int)) (v : Value) (w : World) : Prop :=
  match o with
  | none => v = .nilIface
  | some (k, z) => k < 19 ∧ ∃ bt, v = atV bt ∧ AtAt bt z (errV (E k)) w

/-- behind Try -/
def Tried (E : Nat → Addr) (G : Nat → Prop) (P : Option (Nat × Int) → World → Prop) (R : Nat) (A : Option Addr) (xs : List Int) (c : Nat) (W2 : World) (v : Value) (V : World) : Prop :=
  Turn (fun q => G q ∨ q = R) W2 V ∧
  ((v = .nilIface ∧ ∃ p, RdS V R A xs p c ∧ P (if p < xs.length then some (3, (p : Int)) else none) V) ∨
   ∃ bt k z, v = atV bt ∧ W2.heap.size + 2 ≤ bt ∧ bt < V.heap.size ∧ k < 19 ∧ AtAt bt z (errV (E k)) V ∧ P (some (k, z)) V)

theorem exec_boxR {P : Program} {a : Act} {o : Oper} {t : TypeId} {x : Operand} {w w' : World} {vx v : Value} (ho : o.op = .box t x) (hx : a.eval x = vx) (hr : (Instr.box t vx).run P w = .ok v w') : (execOp a.eval o).run P w = .ok (.value v) w' := by
  unfold execOp; simp only [ho, hx, Sem.run_bind, hr]; rfl
section
variable {P : Program} {md : Region.Mode} {ops : Array Oper} {Q : Exit → Act → World → Prop} {S : World → Prop} {fuel : Nat} {listed : Array Bool} {a : Act} {w : World}
/-- a call that comes up alone, and falls -/
theorem held_fall (i : Nat) (f : FuncId) (xs : Array Operand) (ts : Array TypeId) (dst : Option Tmp) (args : Array Value) (R : Ending → World → Prop)
    (hi : ops[i]?.map (fun o => (o.op, o.dst, Region.wanted o (yielded ops a.tmps))) = some (.call { callee := .value (.func f), args := xs, argTypes := ts }, dst, true))
    (hr : Region.ready md ops listed = [i]) (hargs : xs.map a.eval = args) (hrun : (callFunc f args).run P w = .ok (.enter f args) w) (hc : Calls P f args w R)
    (h : ∀ e w', R e w' → ∃ ps, e = .panicked ps ∧ Q (.panic ps) a w') : wpAnyH P md ops Q S (fuel + 1) listed a w := by
  obtain ⟨oi, ho, he⟩ := Option.map_eq_some_iff.1 hi
  simp only [Prod.mk.injEq] at he
  refine wpAnyH_ready (rs := [i]) hr (by simp) ?_
  refine AllReadyH.cons ho (fun K hK => ?_) AllReadyH.nil
  rw [if_pos he.2.2]
  obtain ⟨op, od, oty, opos, oaf, ogd⟩ := oi
  obtain ⟨he1, he2, he3⟩ := he
  simp only at he1 he2
  subst he1 he2
  simp only [go_sem]
  simp only [Array.empty_append, Array.append_empty, hargs, hrun, Oper.upon_enter]
  refine hc.mono fun e w' hh => ?_
  obtain ⟨ps, rfl, hq⟩ := h e w' hh
  exact hq
end
section
variable {w : World} {R : Nat} {A : Option Addr} {xs : List Int} {p c : Nat} {E : Nat → Addr}
end
def Byts (xs : List Int) : Prop := ∀ x ∈ xs, 0 ≤ x ∧ x < 256
def byteI (xs : List Int) (p : Nat) : Int := xs.getD p 0
theorem Byts.at_ {xs : List Int} (h : Byts xs) (p : Nat) : 0 ≤ byteI xs p ∧ byteI xs p < 256 := by
  unfold byteI
  by_cases hp : p < xs.length
  · have := h _ (List.getElem_mem hp)
    simpa [List.getD, hp] using this
  · simp [List.getD, hp]
theorem byteI_get {xs : List Int} {p : Nat} (hp : p < xs.length) : xs[p]? = some (byteI xs p) := by
  unfold byteI
  simp [List.getD, hp]
def wordI (xs : List Int) (p : Nat) : Int := byteI xs p + byteI xs (p + 1) * 256 + byteI xs (p + 2) * 65536 + byteI xs (p + 3) * 16777216
theorem or_low (a b : Nat) (k : Nat) (ha : a < 2 ^ k) : a ||| b * 2 ^ k = a + b * 2 ^ k := by
  rw [Nat.or_comm, ← Nat.shiftLeft_eq, ← Nat.shiftLeft_add_eq_or_of_lt ha b]; omega
theorem or4 (a b c d : Int) (ha : 0 ≤ a ∧ a < 256) (hb : 0 ≤ b ∧ b < 256) (hc : 0 ≤ c ∧ c < 256) (hd : 0 ≤ d ∧ d < 256) :
    bits .or .u32 (bits .or .u32 (bits .or .u32 a (b * 256)) (c * 65536)) (d * 16777216) = a + b * 256 + c * 65536 + d * 16777216 := by
  obtain ⟨a, rfl⟩ := Int.eq_ofNat_of_zero_le ha.1
  obtain ⟨b, rfl⟩ := Int.eq_ofNat_of_zero_le hb.1
  obtain ⟨c, rfl⟩ := Int.eq_ofNat_of_zero_le hc.1
  obtain ⟨d, rfl⟩ := Int.eq_ofNat_of_zero_le hd.1
  have h1 : bits .or .u32 (a : Int) ((b : Int) * 256) = ((a + b * 256 : Nat) : Int) := by
    rw [show ((b : Int) * 256) = ((b * 256 : Nat) : Int) by simp, u32_or_nat _ _ (by omega) (by omega), or_low a b 8 (by omega)]
  have h2 : bits .or .u32 ((a + b * 256 : Nat) : Int) ((c : Int) * 65536) = ((a + b * 256 + c * 65536 : Nat) : Int) := by
    rw [show ((c : Int) * 65536) = ((c * 65536 : Nat) : Int) by simp, u32_or_nat _ _ (by omega) (by omega), or_low _ c 16 (by omega)]
  have h3 : bits .or .u32 ((a + b * 256 + c * 65536 : Nat) : Int) ((d : Int) * 16777216) = ((a + b * 256 + c * 65536 + d * 16777216 : Nat) : Int) := by
    rw [show ((d : Int) * 16777216) = ((d * 16777216 : Nat) : Int) by simp, u32_or_nat _ _ (by omega) (by omega), or_low _ d 24 (by omega)]
  rw [h1, h2, h3]
  simp
theorem sliceAt_l0 {P : Program} {t e : TypeId} (hu : P.underlying t = some (.slice e)) (hs : (P.info? e).map (·.size) = some 1) (A : Option Addr) (n cap l : Nat) (h1 : l ≤ n) (w : World) :
    (Instr.sliceAt t (.slice A n cap) (some (.int .i64 (l : Int))) none none).run P w = .ok (.slice (cutA A l cap) (n - l) (cap - l)) w := by
  have e2 : P.elem t = e := by simp [Program.elem, hu]
  rw [run_sliceAt_slice (h := by rw [e2]; exact hu)]
  exact slice_sl_l hu hs A n cap l _ rfl h1 w
theorem sliceAt_lh0 {P : Program} {t e : TypeId} (hu : P.underlying t = some (.slice e)) (hs : (P.info? e).map (·.size) = some 1) (b o n cap l m : Nat) (hm : l + m ≤ n) (hc : n ≤ cap) (h0 : l < n) (w : World) :
    (Instr.sliceAt t (.slice (some ⟨b, o, none⟩) n cap) (some (.int .i64 (l : Int))) (some (.int .i64 ((l : Int) + m))) none).run P w = .ok (.slice (some ⟨b, o + l, none⟩) m (cap - l)) w := by
  have e2 : P.elem t = e := by simp [Program.elem, hu]
  rw [run_sliceAt_slice (h := by rw [e2]; exact hu)]
  exact slice_sl_lh hu hs b o n cap l m hm hc h0 w
section
variable {w : World} {R : Nat} {A : Option Addr} {xs : List Int} {p c : Nat} {E : Nat → Addr}
theorem RdS.cells {w : World} {R : Nat} {A : Option Addr} {xs : List Int} {p c : Nat} (h : RdS w R A xs p c) (h0 : 0 < xs.length) : ∃ b o, A = some ⟨b, o, none⟩ ∧ b < w.heap.size ∧ b ≠ R ∧ ∀ j, j < xs.length → w.cell? ⟨b, o + j, none⟩ = some (.int .u8 (byteI xs j)) := by
  obtain ⟨b, o, rfl, hlt, hc⟩ := h.rd (by simpa using h0)
  exact ⟨b, o, rfl, hlt, h.ap h0 _ rfl, fun j hj => hc j _ (ints_get .u8 xs j _ (byteI_get hj))⟩
end
section
variable {w : World} {R : Nat} {A : Option Addr} {xs : List Int} {p c : Nat} {E : Nat → Addr}
theorem sliceAt_lhA {P : Program} {t e : TypeId} (hu : P.underlying t = some (.slice e)) (hs : (P.info? e).map (·.size) = some 1) (A : Option Addr) (n cap l m : Nat) (hm : l + m ≤ cap) (w : World) :
    (Instr.sliceAt t (.slice A n cap) (some (.int .i64 (l : Int))) (some (.int .i64 ((l : Int) + m))) none).run P w = .ok (.slice (cutA A l cap) m (cap - l)) w := by
  have e2 : P.elem t = e := by simp [Program.elem, hu]
  rw [run_sliceAt_slice (h := by rw [e2]; exact hu), run_slice_lh (P := P) w t A n cap (by rw [e2]; exact hu) .i64 .i64 (l : Int) ((l : Int) + m) (by omega) (by omega) (by omega), e2]
  obtain ⟨i, hi, hz⟩ := Option.map_eq_some_iff.1 hs
  have h1 : ((l : Int) + m).toNat = l + m := by omega
  have h3 : l + m - l = m := by omega
  simp [sizeOf, typeInfo, hi, hz, Result.andThen, sliced, h1, h3, cutA]
theorem SlRead.take {w : World} {A : Option Addr} {k : IntKind} {xs : List Int} (h : SlRead w A (ints k xs)) (n : Nat) : SlRead w A (ints k (xs.take n)) := by
  intro hn
  have hn2 : 0 < xs.length := by simp at hn; omega
  obtain ⟨b, o, rfl, hlt, hc⟩ := h (by simpa using hn2)
  refine ⟨b, o, rfl, hlt, fun j u hu => hc j u ?_⟩
  have hj := (List.getElem?_eq_some_iff.1 hu).1
  rw [← hu]
  unfold ints at hj ⊢
  rw [List.map_take, List.getElem?_take, if_pos (by simp at hj; omega)]
/-- a cut of what is read -/
theorem cut_read {w : World} {A : Option Addr} {xs : List Int} {c : Nat} (rd : SlRead w A (ints .u8 xs)) (cl : xs.length ≤ c) (p n : Nat) (hp : p + n ≤ xs.length) :
    (∀ w, (Instr.sliceAt 25 (.slice A xs.length c) (some (.int .i64 (p : Int))) (some (.int .i64 ((p : Int) + n))) none).run Tryd.prog w = .ok (.slice (cutA A p c) n (c - p)) w) ∧ SlRead w (cutA A p c) (ints .u8 ((xs.drop p).take n)) := by
  refine ⟨fun w => sliceAt_lhA (P := Tryd.prog) Tryd.underlying25 (by kernel_rfl) A xs.length c p n (by omega) w, ?_⟩
  refine (rd.cut p (cutA A p c) (fun hpl b o e => ?_)).take n
  subst e
  exact cutA_some hpl cl
end
theorem Byts.word {xs : List Int} (h : Byts xs) (p : Nat) : 0 ≤ wordI xs p ∧ wordI xs p < 4294967296 := by
  have h0 := h.at_ p
  have h1 := h.at_ (p + 1)
  have h2 := h.at_ (p + 2)
  have h3 := h.at_ (p + 3)
  unfold wordI
  omega
section
variable {w : World} {R : Nat} {A : Option Addr} {xs : List Int} {p c : Nat} {E : Nat → Addr}
end
end Go.Proofs.YtffkjbbhbpaacaaDoor
