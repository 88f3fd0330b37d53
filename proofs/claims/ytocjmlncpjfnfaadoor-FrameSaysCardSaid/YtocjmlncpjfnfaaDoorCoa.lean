import Derived.Test.YtocjmlncpjfnfaaDoorTur
import Derived.Test.YtocjmlncpjfnfaaDoorSlB
import Derived.Maps.AppendAt
/-
  code: a Writer in memory; what is appended; copies.
-/
namespace Go.Proofs.YtocjmlncpjfnfaaDoor
open Go.RowKit

theorem run_append_noneA {P : Program} (w : World) (base : Nat) (t ty e : TypeId) (i : TypeInfo) (size : Nat) (ht : P.underlying t = some (.slice e)) (hi : P.info? e = some i)
    (v : Value) (n : Nat) (xs : List Value) (hown : w.ownsRow base e size v n xs) (c : Nat) : (Builtin.append_ #[t, t] ty #[v, .slice none 0 c]).run P w = .ok v w := by
  rcases hown.2 with ⟨rfl, rfl⟩ | ⟨g, cap, cur, rfl, _, _, hnc, _⟩
  · simp [Builtin.append_, run_underlying ht, sizeOf, typeInfo, hi, Builtin.lenOf, Builtin.firstCells]
  · simp [Builtin.append_, run_underlying ht, sizeOf, typeInfo, hi, Builtin.lenOf, Builtin.firstCells, hnc, storeCells]
/-- numbers appended to a row of bytes of one's own -/
theorem push_ints {ops : Array Oper} {rest : List Oper} {o : Oper} {a : Act} {Q : Exit → Act → World → Prop} (hgd : o.guard = none) (s x : Operand)
    (ho : o.op = .call { callee := .builtin .append, args := #[s, x], argTypes := #[25, 25] }) (W : World) (base : Nat) (v : Value) (xs : List Int) (B : Option Addr) (ys : List Int) (m cb : Nat)
    (hs : a.eval s = v) (hx : a.eval x = .slice B m cb) (hm : ys.length = m) (hown : W.ownsRow base 5 1 v xs.length (ints .u8 xs)) (hB : SlRead W B (ints .u8 ys)) (hbase : base ≤ W.heap.size) (hl : xs.length + ys.length ≤ 140737488352000)
    (h : ∀ v' w', w'.ownsRow base 5 1 v' (xs ++ ys).length (ints .u8 (xs ++ ys)) → W.grownBy w' v.ownBlock → (v'.ownBlock = v.ownBlock ∨ ∃ g, v'.ownBlock = some g ∧ W.heap.size ≤ g) → wpList Tryd.prog ops Q rest (a.put o.dst v') w') :
    wpList Tryd.prog ops Q (o :: rest) a W := by
  subst hm
  obtain ⟨i0, hi, hz0, hz1, hz2⟩ := info_parts Tryd.info5
  have e : ints .u8 xs ++ ints .u8 ys = ints .u8 (xs ++ ys) := by simp [ints]
  cases B with
  | none =>
    have hy : ys = [] := by
      rcases ys with _ | ⟨y, r⟩
      · rfl
      · obtain ⟨b, o', e1, _⟩ := hB (by simp)
        cases e1
    subst hy
    refine wpList_plain hgd fun K hK => ?_
    have hr := run_append_noneA W base 25 o.type 5 i0 1 Tryd.underlying25 hi v _ _ hown cb
    unfold Oper.wp execOp
    simp only [List.length_nil] at hx
    simp only [ho, resolve, invoke, builtin, Sem.run_bind, Sem.run_pure, Result.andThen_ok, List.map_toArray, List.map_cons, List.map_nil, hs, hx, hr]
    exact hK _ _ (h v W (by simpa using hown) ⟨rfl, rfl, rfl, Nat.le_refl _, fun _ _ _ => rfl⟩ (.inl rfl))
  | some ad =>
    refine wpList_append_own_at _ hgd s x 25 ho base 5 i0 (.int .u8 0) 1 1 Tryd.underlying25 hi hz0 hz1 hz2 rfl (by decide) v _ _ hs hown ad ys.length cb (ints .u8 ys) hx (by simp) ?_ (ints_one .u8 _) ?_ ?_ hbase ?_
    · intro j u hu
      have hn : 0 < (ints .u8 ys).length := by
        have := (List.getElem?_eq_some_iff.1 hu).1
        omega
      obtain ⟨b', o', e1, _, hc⟩ := hB hn
      obtain rfl : ad = ⟨b', o', none⟩ := by simpa using e1
      rw [add_eq]
      exact hc j u hu
    · unfold maxLen; omega
    · omega
    · intro v' w2 hown2 hgrow2 _ hat
      rw [e] at hown2
      refine h v' w2 (by simpa using hown2) hgrow2 ?_
      rcases hat with h1 | h1
      · exact .inl h1
      · exact .inr ⟨_, h1, Nat.le_refl _⟩

/-- a Writer as it lies: its cell, its row -/
structure WrS (w : World) (n W : Nat) (xs : List Int) (v : Value) : Prop where
  c : w.cell? ⟨W, 0, none⟩ = some v
  f : w.frozen? ⟨W, 0, none⟩ = false
  own : w.ownsRow n 5 1 v xs.length (ints .u8 xs)
  ne : v.ownBlock ≠ some W
  low : n ≤ W
/-- what a Writer may turn -/
def WFoot (W : Nat) (v : Value) (k : Nat) : Prop := k = W ∨ v.ownBlock = some k
theorem WrS.lt {w : World} {n W : Nat} {xs : List Int} {v : Value} (h : WrS w n W xs v) : W < w.heap.size := cell_lt h.c
theorem WrS.ltF {w : World} {n W : Nat} {xs : List Int} {v : Value} (h : WrS w n W xs v) {k : Nat} (hk : WFoot W v k) : n ≤ k ∧ k < w.heap.size := by
  rcases hk with rfl | hk
  · exact ⟨h.low, h.lt⟩
  · exact h.own.lt k hk
theorem WrS.same {w w' : World} {n W : Nat} {xs : List Int} {v : Value} (h : WrS w n W xs v) (hb : ∀ k, WFoot W v k → w'.heap[k]? = w.heap[k]?) : WrS w' n W xs v :=
  ⟨(World.cell?_of_block (hb W (.inl rfl))).trans h.c, (World.frozen?_of_block (hb W (.inl rfl))).trans h.f, own_kept h.own (fun k hk => hb k (.inr hk)), h.ne, h.low⟩
theorem WrS.below {w w' : World} {n W : Nat} {xs : List Int} {v : Value} (h : WrS w n W xs v) (hb : Below w.heap.size w w') : WrS w' n W xs v := h.same fun k hk => hb.block k (h.ltF hk).2
theorem WrS.turn {F : Nat → Prop} {w w' : World} {n W : Nat} {xs : List Int} {v : Value} (h : WrS w n W xs v) (ht : Turn F w w') (hF : ∀ k, WFoot W v k → ¬ F k) : WrS w' n W xs v := h.same fun k hk => ht.block k (h.ltF hk).2 (hF k hk)
theorem WrS.read {w : World} {n W : Nat} {xs : List Int} {v : Value} (h : WrS w n W xs v) : ∃ A c, v = .slice A xs.length c ∧ SlRead w A (ints .u8 xs) := by
  obtain ⟨A, c, rfl, _⟩ := ownsRow_form h.own
  exact ⟨A, c, rfl, SlRead.of_own h.own⟩
/-- behind what is appended -/
def PutP (w : World) (n W : Nat) (zs : List Int) (v : Value) (e : Ending) (w' : World) : Prop :=
  e = .returned (.tuple #[]) ∧ ∃ v', WrS w' n W zs v' ∧ Turn (WFoot W v) w w' ∧ (v'.ownBlock = v.ownBlock ∨ ∃ g, v'.ownBlock = some g ∧ w.heap.size ≤ g)
/-- a row that has grown, stored -/
theorem WrS.grown {w w0 w' : World} {n W : Nat} {xs zs : List Int} {v v' : Value} (h : WrS w n W xs v) (h0 : Below w.heap.size w w0) (hown : w'.ownsRow n 5 1 v' zs.length (ints .u8 zs)) (hg : w0.grownBy w' v.ownBlock)
    (hat : v'.ownBlock = v.ownBlock ∨ ∃ g, v'.ownBlock = some g ∧ w0.heap.size ≤ g) : w'.cell? ⟨W, 0, none⟩ = some v ∧ w'.frozen? ⟨W, 0, none⟩ = false ∧ PutP w n W zs v (.returned (.tuple #[])) (w'.setCell ⟨W, 0, none⟩ v') := by
  have hl := h.lt
  have hs := h0.size
  have hW : w'.heap[W]? = w.heap[W]? := (hg.block W (by omega) (fun e => h.ne e.symm)).trans (h0.block W hl)
  have c := (World.cell?_of_block hW).trans h.c
  have f := (World.frozen?_of_block hW).trans h.f
  have hne : v'.ownBlock ≠ some W := by
    rcases hat with e | ⟨g, e, hge⟩
    · rw [e]; exact h.ne
    · rw [e]; intro e2; cases e2; omega
  refine ⟨c, f, rfl, v', ⟨World.cell?_setCell_same w' _ _ c, by rw [frozen_setCell]; exact f, own_kept hown (fun k hk => Below.heap_setCell _ _ _ _ (fun e => hne (by rw [hk]; exact congrArg some e))), hne, h.low⟩, ?_, ?_⟩
  · refine ((Turn.of_below h0).trans (Turn.of_grown (F := WFoot W v) hg (fun k hk => .inr hk)) (fun q hq => .inl hq)).trans (Turn.of_grown (grown_setCell w' _ _) (F := WFoot W v) (fun k hk => .inl (Option.some.inj hk).symm)) (fun q hq => .inl hq)
  · rcases hat with e | ⟨g, e, hge⟩
    · exact .inl e
    · exact .inr ⟨g, e, by omega⟩

def le4 (n : Int) : List Int := [n % 256, n / 256 % 256, n / 65536 % 256, n / 16777216 % 256]
theorem one_newI {W : World} (x : Int) : SlRead (W.alloc (.cells #[.int .u8 x] 5)) (some ⟨W.heap.size, 0, none⟩) (ints .u8 [x]) := SlRead.one_new _ _
theorem four_new {W : World} (a b c d : Int) : SlRead (W.alloc (.cells #[.int .u8 a, .int .u8 b, .int .u8 c, .int .u8 d] 5)) (some ⟨W.heap.size, 0, none⟩) (ints .u8 [a, b, c, d]) := by
  intro _
  refine ⟨W.heap.size, 0, rfl, by simp, fun j u hj => ?_⟩
  rw [Nat.zero_add, World.cell?_alloc_new]
  simpa [ints] using hj

set_option maxRecDepth 100000 in
set_option maxHeartbeats 800000 in
theorem wu8_any (x : Int) (n W : Nat) (xs : List Int) (v : Value) (w : World) (h : WrS w n W xs v) (hn : n ≤ w.heap.size) (hl : xs.length ≤ 1000000) :
    Calls Tryd.prog 36 #[.pointer (some ⟨W, 0, none⟩), .int .i64 x] w (PutP w n W (xs ++ [x % 256]) v) := by
  obtain ⟨A, c, rfl, _⟩ := ownsRow_form h.own
  have hc := h.c
  obtain ⟨zs, hz⟩ : ∃ zs, zs = xs ++ [x % 256] := ⟨_, rfl⟩
  rw [← hz]
  have HZ := Lib.hid hz
  clear hz
  go_enter Tryd.func36, Tryd.ntmps36
  go_wp2_with (at_builtin; refine push_ints rfl _ _ rfl (w.alloc (.cells #[.int .u8 (x % 256)] 5)) n (.slice A xs.length c) xs (some ⟨w.heap.size, 0, none⟩) ([x % 256]) 1 1 rfl rfl rfl (h.own.alloc _) (one_newI _) (by first | omega | (simp; omega)) (by first | omega | (simp; omega; done) | (simp [le4]; omega)) ?_; intro v' w1 hown1 hg1 hat1; rw [← HZ.out] at hown1; obtain ⟨c1, f1, hp⟩ := h.grown (below_alc w _) hown1 hg1 hat1; obtain ⟨A', c', rfl, _⟩ := ownsRow_form hown1; have hp := Lib.hid hp; clear h hown1 hg1 hat1 hc)
  go_end0
  exact hp.out
set_option maxRecDepth 100000 in
set_option maxHeartbeats 800000 in
theorem wu32_any (x : Int) (n W : Nat) (xs : List Int) (v : Value) (w : World) (h : WrS w n W xs v) (hn : n ≤ w.heap.size) (hl : xs.length ≤ 1000000) :
    Calls Tryd.prog 38 #[.pointer (some ⟨W, 0, none⟩), .int .u32 x] w (PutP w n W (xs ++ le4 x) v) := by
  obtain ⟨A, c, rfl, _⟩ := ownsRow_form h.own
  have hc := h.c
  obtain ⟨zs, hz⟩ : ∃ zs, zs = xs ++ le4 x := ⟨_, rfl⟩
  rw [← hz]
  have HZ := Lib.hid hz
  clear hz
  go_enter Tryd.func38, Tryd.ntmps38
  go_wp2_with (at_builtin; refine push_ints rfl _ _ rfl (w.alloc (.cells #[.int .u8 (x % 256), .int .u8 (x / 256 % 256), .int .u8 (x / 65536 % 256), .int .u8 (x / 16777216 % 256)] 5)) n (.slice A xs.length c) xs (some ⟨w.heap.size, 0, none⟩) (le4 x) 4 4 rfl rfl rfl (h.own.alloc _) (four_new _ _ _ _) (by first | omega | (simp; omega)) (by first | omega | (simp; omega; done) | (simp [le4]; omega)) ?_; intro v' w1 hown1 hg1 hat1; rw [← HZ.out] at hown1; obtain ⟨c1, f1, hp⟩ := h.grown (below_alc w _) hown1 hg1 hat1; obtain ⟨A', c', rfl, _⟩ := ownsRow_form hown1; have hp := Lib.hid hp; clear h hown1 hg1 hat1 hc)
  go_end0
  exact hp.out
set_option maxRecDepth 100000 in
set_option maxHeartbeats 800000 in
theorem wraw_any (B : Option Addr) (ys : List Int) (cb : Nat) (n W : Nat) (xs : List Int) (v : Value) (w : World) (h : WrS w n W xs v) (hn : n ≤ w.heap.size) (hl : xs.length ≤ 1000000) (hB : SlRead w B (ints .u8 ys)) (hy : ys.length ≤ 1000000) :
    Calls Tryd.prog 37 #[.pointer (some ⟨W, 0, none⟩), .slice B ys.length cb] w (PutP w n W (xs ++ ys) v) := by
  obtain ⟨A, c, rfl, _⟩ := ownsRow_form h.own
  have hc := h.c
  obtain ⟨zs, hz⟩ : ∃ zs, zs = xs ++ ys := ⟨_, rfl⟩
  rw [← hz]
  have HZ := Lib.hid hz
  clear hz
  go_enter Tryd.func37, Tryd.ntmps37
  go_wp2_with (at_builtin; refine push_ints rfl _ _ rfl (w) n (.slice A xs.length c) xs (B) (ys) ys.length cb rfl rfl rfl (h.own) (hB) (by first | omega | (simp; omega)) (by first | omega | (simp; omega; done) | (simp [le4]; omega)) ?_; intro v' w1 hown1 hg1 hat1; rw [← HZ.out] at hown1; obtain ⟨c1, f1, hp⟩ := h.grown (Below.refl _ _) hown1 hg1 hat1; obtain ⟨A', c', rfl, _⟩ := ownsRow_form hown1; have hp := Lib.hid hp; clear h hown1 hg1 hat1 hc)
  go_end0
  exact hp.out
set_option maxRecDepth 100000 in
set_option maxHeartbeats 800000 in
theorem du8_any (x : Int) (n W : Nat) (xs : List Int) (v : Value) (w : World) (h : WrS w n W xs v) (hn : n ≤ w.heap.size) (hl : xs.length ≤ 1000000) :
    Calls Tryd.prog 32 #[.pointer (some ⟨W, 0, none⟩), .int .i64 x] w (PutP w n W (xs ++ [x % 256]) v) := by
  obtain ⟨A, c, rfl, _⟩ := ownsRow_form h.own
  have hc := h.c
  obtain ⟨zs, hz⟩ : ∃ zs, zs = xs ++ [x % 256] := ⟨_, rfl⟩
  rw [← hz]
  have HZ := Lib.hid hz
  clear hz
  go_enter Tryd.func32, Tryd.ntmps32
  go_wp2_with (at_builtin; refine push_ints rfl _ _ rfl (w.alloc (.cells #[.int .u8 (x % 256)] 5)) n (.slice A xs.length c) xs (some ⟨w.heap.size, 0, none⟩) ([x % 256]) 1 1 rfl rfl rfl (h.own.alloc _) (one_newI _) (by first | omega | (simp; omega)) (by first | omega | (simp; omega; done) | (simp [le4]; omega)) ?_; intro v' w1 hown1 hg1 hat1; rw [← HZ.out] at hown1; obtain ⟨c1, f1, hp⟩ := h.grown (below_alc w _) hown1 hg1 hat1; obtain ⟨A', c', rfl, _⟩ := ownsRow_form hown1; have hp := Lib.hid hp; clear h hown1 hg1 hat1 hc)
  go_end0
  exact hp.out
set_option maxRecDepth 100000 in
set_option maxHeartbeats 800000 in
theorem draw_any (B : Option Addr) (ys : List Int) (cb : Nat) (n W : Nat) (xs : List Int) (v : Value) (w : World) (h : WrS w n W xs v) (hn : n ≤ w.heap.size) (hl : xs.length ≤ 1000000) (hB : SlRead w B (ints .u8 ys)) (hy : ys.length ≤ 1000000) :
    Calls Tryd.prog 33 #[.pointer (some ⟨W, 0, none⟩), .slice B ys.length cb] w (PutP w n W (xs ++ ys) v) := by
  obtain ⟨A, c, rfl, _⟩ := ownsRow_form h.own
  have hc := h.c
  obtain ⟨zs, hz⟩ : ∃ zs, zs = xs ++ ys := ⟨_, rfl⟩
  rw [← hz]
  have HZ := Lib.hid hz
  clear hz
  go_enter Tryd.func33, Tryd.ntmps33
  go_wp2_with (at_builtin; refine push_ints rfl _ _ rfl (w) n (.slice A xs.length c) xs (B) (ys) ys.length cb rfl rfl rfl (h.own) (hB) (by first | omega | (simp; omega)) (by first | omega | (simp; omega; done) | (simp [le4]; omega)) ?_; intro v' w1 hown1 hg1 hat1; rw [← HZ.out] at hown1; obtain ⟨c1, f1, hp⟩ := h.grown (Below.refl _ _) hown1 hg1 hat1; obtain ⟨A', c', rfl, _⟩ := ownsRow_form hown1; have hp := Lib.hid hp; clear h hown1 hg1 hat1 hc)
  go_end0
  exact hp.out
end Go.Proofs.YtocjmlncpjfnfaaDoor
