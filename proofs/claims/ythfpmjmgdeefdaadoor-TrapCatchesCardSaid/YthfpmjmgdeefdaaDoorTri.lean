import Derived.Test.YthfpmjmgdeefdaaDoorTrh
/-
  TrapDeep: one within another.
-/
namespace Go.Proofs.YthfpmjmgdeefdaaDoor
open Go.RowKit

/-- nested's variables -/
structure NS (E : Nat → Addr) (w0 : World) (B : Nat) (deep z : Int) (again : Bool) (i s : Nat) (W : World) : Prop where
  dp : W.cell? ⟨B, 0, none⟩ = some (.int .i64 deep)
  at_ : W.cell? ⟨B + 1, 0, none⟩ = some (.int .i64 z)
  ag : W.cell? ⟨B + 2, 0, none⟩ = some (.bool again)
  er : W.cell? ⟨B + 3, 0, none⟩ = some (errV (E i))
  st : W.cell? ⟨B + 4, 0, none⟩ = some (.int .i64 (s : Int))
  sf : W.frozen? ⟨B + 4, 0, none⟩ = false
  fn : W.cell? ⟨B + 5, 0, none⟩ = some (.func (.func 29) #[] #[.pointer (some ⟨B + 1, 0, none⟩), .pointer (some ⟨B + 3, 0, none⟩), .pointer (some ⟨B + 5, 0, none⟩), .pointer (some ⟨B + 4, 0, none⟩), .pointer (some ⟨B + 2, 0, none⟩)])
  lt : B + 5 < W.heap.size
  b : Below B w0 W
section
variable {E : Nat → Addr} {w0 : World} {B : Nat} {deep z : Int} {again : Bool} {i s n : Nat} {W W' : World}
theorem NS.below (h : NS E w0 B deep z again i s W) (hn : B + 6 ≤ n) (hb : Below n W W') : NS E w0 B deep z again i s W' :=
  ⟨(World.cell?_of_block (hb.block _ (show B < n by omega))).trans h.dp, (World.cell?_of_block (hb.block _ (show B + 1 < n by omega))).trans h.at_, (World.cell?_of_block (hb.block _ (show B + 2 < n by omega))).trans h.ag, (World.cell?_of_block (hb.block _ (show B + 3 < n by omega))).trans h.er, (World.cell?_of_block (hb.block _ (show B + 4 < n by omega))).trans h.st, (hb.frozen (p := ⟨B + 4, 0, none⟩) (show B + 4 < n by omega)).trans h.sf, (World.cell?_of_block (hb.block _ (show B + 5 < n by omega))).trans h.fn, Nat.lt_of_lt_of_le h.lt hb.size, h.b.trans (hb.mono (by omega))⟩
theorem NS.oth {S : Nat} (h : NS E w0 B deep z again i s W) (hS : B + 6 ≤ S) (hn : B + 6 ≤ n) (hb : Oth S n W W') : NS E w0 B deep z again i s W' :=
  h.below (Nat.le_refl (B + 6)) (hb.below (by omega) (by omega))
theorem NS.step (h : NS E w0 B deep z again i s W) : NS E w0 B deep z again i (s + 1) (W.setCell ⟨B + 4, 0, none⟩ (.int .i64 ((s : Int) + 1))) := by
  have hb : Oth (B + 4) W.heap.size W (W.setCell ⟨B + 4, 0, none⟩ (.int .i64 ((s : Int) + 1))) := Oth.setCell (S := B + 4) (Oth.of (Below.refl _ _)) ⟨B + 4, 0, none⟩ (.inl rfl) _
  have hl := h.lt
  have c := fun q h1 h2 => hb.cell (q := q) 0 h1 h2
  exact ⟨(c _ (by omega) (by omega)).trans h.dp, (c _ (by omega) (by omega)).trans h.at_, (c _ (by omega) (by omega)).trans h.ag, (c _ (by omega) (by omega)).trans h.er, by have := h.st; simp [go_sem, this], by have := h.sf; simpa [go_sem] using this, (c _ (by omega) (by omega)).trans h.fn, Nat.lt_of_lt_of_le h.lt hb.size, h.b.trans (hb.below (by omega) (by omega))⟩
end
/-- where in(k) falls -/
def Falls (E : Nat → Addr) (w0 : World) (B : Nat) (deep z : Int) (again : Bool) (i k : Nat) : Prop :=
  ∀ s W, s + k ≤ 1000 → NS E w0 B deep z again i s W → Calls Tryd.prog 29 #[.int .i64 (k : Int), .pointer (some ⟨B + 1, 0, none⟩), .pointer (some ⟨B + 3, 0, none⟩), .pointer (some ⟨B + 5, 0, none⟩), .pointer (some ⟨B + 4, 0, none⟩), .pointer (some ⟨B + 2, 0, none⟩)] W fun e W' =>
    ∃ b, W.heap.size ≤ b ∧ e = .panicked [entry (thrownV (atV b))] ∧ AtAt b z (errV (E i)) W' ∧ NS E w0 B deep z again i (s + k) W' ∧ Oth (B + 4) W.heap.size W W'
/-- where in(k) comes to its end -/
def Ends (E : Nat → Addr) (w0 : World) (B : Nat) (deep z : Int) (again : Bool) (i k : Nat) : Prop :=
  ∀ s W, s + k ≤ 1000 → NS E w0 B deep z again i s W → Calls Tryd.prog 29 #[.int .i64 (k : Int), .pointer (some ⟨B + 1, 0, none⟩), .pointer (some ⟨B + 3, 0, none⟩), .pointer (some ⟨B + 5, 0, none⟩), .pointer (some ⟨B + 4, 0, none⟩), .pointer (some ⟨B + 2, 0, none⟩)] W fun e W' =>
    e = .returned (.tuple #[]) ∧ NS E w0 B deep z again i (s + k) W' ∧ Oth (B + 4) W.heap.size W W'

set_option maxRecDepth 100000 in
theorem falls_zero (E : Nat → Addr) (w0 : World) (B : Nat) (deep z : Int) (again : Bool) (i : Nat) : Falls E w0 B deep z again i 0 := by
  intro s W _ hN
  have hl := hN.lt
  have hb : ∀ c1 c2, Below W.heap.size W ((W.alloc c1).alloc c2) := fun c1 c2 => ((Below.refl _ _).alloc (Nat.le_refl _) _).alloc (by simp) _
  have ca := (hN.below (by omega) ((Below.refl W.heap.size W).alloc (Nat.le_refl _) (.cells #[.int .i64 0] 3))).at_
  have ce := (hN.below (by omega) ((Below.refl W.heap.size W).alloc (Nat.le_refl _) (.cells #[.int .i64 0] 3))).er
  go_enter Tryd.func29, Tryd.ntmps29
  go_wp2_with fail
  refine (fail_any z (E i) _).mono ?_
  rintro e W1 ⟨rfl, rfl⟩
  go_wp2_with fail
  refine ⟨rfl, W.heap.size + 1, by omega, rfl, by simpa using AtAt.new (W.alloc (.cells #[.int .i64 0] 3)) z (errV (E i)), hN.below (by omega) (hb _ _), Oth.of (hb _ _)⟩

set_option maxRecDepth 100000 in
/-- the closure around in(k) -/
theorem clo_falls {E : Nat → Addr} {w0 : World} {B : Nat} {deep z : Int} {again : Bool} {i k : Nat} (h : Falls E w0 B deep z again i k) (s kb : Nat) (W : World) (hs : s + k ≤ 1000) (hN : NS E w0 B deep z again i s W) (hk : W.cell? ⟨kb, 0, none⟩ = some (.int .i64 ((k : Int) + 1))) :
    Calls Tryd.prog 30 #[.pointer (some ⟨B + 5, 0, none⟩), .pointer (some ⟨kb, 0, none⟩)] W fun e W' =>
      ∃ b, W.heap.size ≤ b ∧ e = .panicked [entry (thrownV (atV b))] ∧ AtAt b z (errV (E i)) W' ∧ NS E w0 B deep z again i (s + k) W' ∧ Oth (B + 4) W.heap.size W W' := by
  have hf := hN.fn
  have hcf : ∀ args w, (callFunc 29 args).run Tryd.prog w = .ok (.enter 29 args) w := fun _ _ => by kernel_rfl
  have hsub : wrap64 ((k : Int) + 1 - 1) = (k : Int) := by rw [Int.add_sub_cancel]; unfold wrap64; omega
  go_enter Tryd.func30, Tryd.ntmps30
  go_wp2_with fail
  refine (h s W hs hN).mono ?_
  rintro e W' ⟨b, h1, rfl, h2, h3, h4⟩
  go_wp2_with fail
  exact ⟨rfl, b, h1, rfl, h2, h3, h4⟩
set_option maxRecDepth 100000 in
theorem clo_ends {E : Nat → Addr} {w0 : World} {B : Nat} {deep z : Int} {again : Bool} {i k : Nat} (h : Ends E w0 B deep z again i k) (s kb : Nat) (W : World) (hs : s + k ≤ 1000) (hN : NS E w0 B deep z again i s W) (hk : W.cell? ⟨kb, 0, none⟩ = some (.int .i64 ((k : Int) + 1))) :
    Calls Tryd.prog 30 #[.pointer (some ⟨B + 5, 0, none⟩), .pointer (some ⟨kb, 0, none⟩)] W fun e W' =>
      e = .returned (.tuple #[]) ∧ NS E w0 B deep z again i (s + k) W' ∧ Oth (B + 4) W.heap.size W W' := by
  have hf := hN.fn
  have hcf : ∀ args w, (callFunc 29 args).run Tryd.prog w = .ok (.enter 29 args) w := fun _ _ => by kernel_rfl
  have hsub : wrap64 ((k : Int) + 1 - 1) = (k : Int) := by rw [Int.add_sub_cancel]; unfold wrap64; omega
  go_enter Tryd.func30, Tryd.ntmps30
  go_wp2_with fail
  refine (h s W hs hN).mono ?_
  rintro e W' ⟨rfl, h3, h4⟩
  go_wp2_with fail
  go_end0
  exact ⟨rfl, h3, h4⟩

/-- Try around the closure -/
theorem tri_falls {E : Nat → Addr} {w0 : World} {B : Nat} {deep z : Int} {again : Bool} {i : Nat} (f : FuncId) (cap : Array Value) (t : Nat) (W : World) (hl : B + 6 ≤ W.heap.size) (hk : ∀ args w, (callFunc f args).run Tryd.prog w = .ok (.enter f args) w)
    (h : Calls Tryd.prog f cap (tried W) fun e W' => ∃ b, (tried W).heap.size ≤ b ∧ e = .panicked [entry (thrownV (atV b))] ∧ AtAt b z (errV (E i)) W' ∧ NS E w0 B deep z again i t W' ∧ Oth (B + 4) (tried W).heap.size (tried W) W') :
    Calls Tryd.prog 17 #[.func (.func f) #[] cap] W fun e W' => ∃ b, W.heap.size ≤ b ∧ e = .returned (atV b) ∧ AtAt b z (errV (E i)) W' ∧ NS E w0 B deep z again i t W' ∧ Oth (B + 4) W.heap.size W W' := by
  have hts := tried_size W
  refine (try_falls2 f cap W (fun pv rt rp V => ∃ b, (tried W).heap.size ≤ b ∧ pv = .agg #[atV b] ∧ rt = 41 ∧ rp = .pointer (some ⟨b, 0, none⟩) ∧ AtAt b z (errV (E i)) V ∧ NS E w0 B deep z again i t V ∧ Oth (B + 4) (tried W).heap.size (tried W) V) 53 hk (h.mono ?_) ?_).mono ?_
  · rintro e V ⟨b, h1, rfl, h2, h3, h4⟩
    exact ⟨_, _, _, rfl, Kept.oth (S := B + 4) (by omega) (by rw [← hts]; exact h4), by have := h4.size; omega, b, h1, rfl, rfl, rfl, h2, h3, h4⟩
  · rintro pv rt rp V ⟨b, h1, rfl, rfl, rfl, _⟩
    exact caught_thrown _ _ V
  · rintro e W' ⟨pv, rt, rp, rfl, V, ⟨b, h1, rfl, rfl, rfl, h2, h3, h4⟩, h5⟩
    have hV := h4.size
    have hbl : b < V.heap.size := World.block_lt_of_cell? V _ h2.p
    refine ⟨b, by omega, rfl, ⟨(h5.cell 0 hbl (by omega)).trans h2.p, (h5.cell 1 hbl (by omega)).trans h2.e⟩, h3.oth (S := W.heap.size) hl (by omega) h5, ?_⟩
    refine ⟨?_, ?_, ?_, by have := h5.size; omega, fun q hq hs => ?_⟩
    · exact h5.os.trans (h4.os.trans (tried_below W).os)
    · exact h5.tape.trans (h4.tape.trans (tried_below W).tape)
    · exact h5.output.trans (h4.output.trans (tried_below W).output)
    · exact (h5.block q (by omega) (by omega)).trans ((h4.block q (by omega) hs).trans ((tried_below W).block q hq))
theorem tri_ends {E : Nat → Addr} {w0 : World} {B : Nat} {deep z : Int} {again : Bool} {i : Nat} (f : FuncId) (cap : Array Value) (t : Nat) (W : World) (hl : B + 6 ≤ W.heap.size) (hk : ∀ args w, (callFunc f args).run Tryd.prog w = .ok (.enter f args) w)
    (h : Calls Tryd.prog f cap (tried W) fun e W' => e = .returned (.tuple #[]) ∧ NS E w0 B deep z again i t W' ∧ Oth (B + 4) (tried W).heap.size (tried W) W') :
    Calls Tryd.prog 17 #[.func (.func f) #[] cap] W fun e W' => e = .returned .nilIface ∧ NS E w0 B deep z again i t W' ∧ Oth (B + 4) W.heap.size W W' := by
  have hts := tried_size W
  refine (try_calm f cap W (fun V => NS E w0 B deep z again i t V ∧ Oth (B + 4) (tried W).heap.size (tried W) V) hk (h.mono ?_)).mono ?_
  · rintro e V ⟨rfl, h3, h4⟩
    exact ⟨rfl, Kept.oth (S := B + 4) (by omega) (by rw [← hts]; exact h4), h3, h4⟩
  · rintro e W' ⟨rfl, V, ⟨h3, h4⟩, h5⟩
    exact ⟨rfl, h3.below hl h5, ((Oth.of (tried_below W)).trans h4 (by omega)).trans (Oth.of h5) (Nat.le_refl _)⟩

/-- behind Try: one more step, and all that was there stays -/
structure Aft (E : Nat → Addr) (w0 : World) (B : Nat) (deep z : Int) (again : Bool) (i t : Nat) (W W2 W3 : World) : Prop where
  n : NS E w0 B deep z again i (t + 1) W3
  o : Oth (B + 4) W.heap.size W W3
  a : ∀ b, W.heap.size ≤ b → AtAt b z (errV (E i)) W2 → AtAt b z (errV (E i)) W3
theorem Aft.mk' {E : Nat → Addr} {w0 : World} {B : Nat} {deep z : Int} {again : Bool} {i t : Nat} {W W1 W2 : World} (hl : B + 5 < W.heap.size) (hb : Below W.heap.size W W1) (h : NS E w0 B deep z again i t W2) (ho : Oth (B + 4) W1.heap.size W1 W2) :
    Aft E w0 B deep z again i t W W2 (W2.setCell ⟨B + 4, 0, none⟩ (.int .i64 ((t : Int) + 1))) := by
  have h3 : Oth (B + 4) W2.heap.size W2 (W2.setCell ⟨B + 4, 0, none⟩ (.int .i64 ((t : Int) + 1))) := Oth.setCell (S := B + 4) (Oth.of (Below.refl _ _)) ⟨B + 4, 0, none⟩ (.inl rfl) _
  refine ⟨h.step, ((Oth.of hb).trans ho hb.size).trans h3 (by have := ho.size; have := hb.size; omega), fun b h1 h2 => ?_⟩
  have hbl : b < W2.heap.size := World.block_lt_of_cell? W2 _ h2.p
  exact ⟨(h3.cell 0 hbl (by omega)).trans h2.p, (h3.cell 1 hbl (by omega)).trans h2.e⟩

set_option maxRecDepth 100000 in
theorem falls_succ {E : Nat → Addr} {w0 : World} {B : Nat} {deep z : Int} {i k : Nat} (h : Falls E w0 B deep z true i k) : Falls E w0 B deep z true i (k + 1) := by
  intro s W hs hN
  rw [show (((k + 1 : Nat)) : Int) = (k : Int) + 1 by simp]
  have hd : ((k : Int) + 1 == 0) = false := by simp; omega
  have hl := hN.lt
  have hb1 : Below W.heap.size W (W.alloc (.cells #[.int .i64 ((k : Int) + 1)] 3)) := (Below.refl _ _).alloc (Nat.le_refl _) _
  have hk1 : (W.alloc (.cells #[.int .i64 ((k : Int) + 1)] 3)).cell? ⟨W.heap.size, 0, none⟩ = some (.int .i64 ((k : Int) + 1)) := by simp [go_sem]
  have hN1 := hN.below (by omega) hb1
  have hz1 : W.heap.size < (W.alloc (.cells #[.int .i64 ((k : Int) + 1)] 3)).heap.size := by simp
  have hmf : ∀ (fn : Fn) (first cap : Array Value) (w : World), (Instr.makeFunc fn first cap).run Tryd.prog w = .ok (.func fn first cap) w := fun _ _ _ _ => rfl
  have hT := tri_falls 30 #[.pointer (some ⟨B + 5, 0, none⟩), .pointer (some ⟨W.heap.size, 0, none⟩)] (s + k) _ (by omega) (fun _ _ => by kernel_rfl)
    (clo_falls h s W.heap.size (tried (W.alloc (.cells #[.int .i64 ((k : Int) + 1)] 3))) (by omega) (hN1.below (by omega) (tried_below _)) ((World.cell?_of_block ((tried_below _).block _ hz1)).trans hk1))
  obtain ⟨t, ht⟩ : ∃ t, t = s + k := ⟨_, rfl⟩
  rw [show s + (k + 1) = t + 1 by omega]
  rw [← ht] at hT
  have ht9 : t ≤ 1000 := by omega
  clear hk1 hN1 hN h
  go_enter Tryd.func29, Tryd.ntmps29
  go_wp2_with fail
  refine hT.mono ?_
  rintro e W2 ⟨b, h1, rfl, h2, h3, h4⟩
  have HA := Lib.hid (Aft.mk' hl hb1 h3 h4)
  have hbz : W.heap.size ≤ b := by omega
  have c4 := h3.st
  have f4 := h3.sf
  have c2 := h3.ag
  clear hT h3 h4 h1 hb1 hz1 ht hd hs
  go_wp2_with fail
  refine (must_err _ _ _).mono ?_
  rintro e W3 ⟨rfl, rfl⟩
  go_wp2_with fail
  exact ⟨rfl, b, hbz, rfl, HA.out.a b hbz h2, HA.out.n, HA.out.o⟩
theorem falls_again {E : Nat → Addr} {w0 : World} {B : Nat} {deep z : Int} {i : Nat} : ∀ k, Falls E w0 B deep z true i k
  | 0 => falls_zero _ _ _ _ _ _ _
  | k + 1 => falls_succ (falls_again k)

set_option maxRecDepth 100000 in
theorem ends_succ {E : Nat → Addr} {w0 : World} {B : Nat} {deep z : Int} {i k : Nat} (h : k = 0 ∨ Ends E w0 B deep z false i k) : Ends E w0 B deep z false i (k + 1) := by
  intro s W hs hN
  rw [show (((k + 1 : Nat)) : Int) = (k : Int) + 1 by simp]
  have hd : ((k : Int) + 1 == 0) = false := by simp; omega
  have hl := hN.lt
  have hb1 : Below W.heap.size W (W.alloc (.cells #[.int .i64 ((k : Int) + 1)] 3)) := (Below.refl _ _).alloc (Nat.le_refl _) _
  have hk1 : (W.alloc (.cells #[.int .i64 ((k : Int) + 1)] 3)).cell? ⟨W.heap.size, 0, none⟩ = some (.int .i64 ((k : Int) + 1)) := by simp [go_sem]
  have hN1 := hN.below (by omega) hb1
  have hz1 : W.heap.size < (W.alloc (.cells #[.int .i64 ((k : Int) + 1)] 3)).heap.size := by simp
  have hmf : ∀ (fn : Fn) (first cap : Array Value) (w : World), (Instr.makeFunc fn first cap).run Tryd.prog w = .ok (.func fn first cap) w := fun _ _ _ _ => rfl
  have hT : Calls Tryd.prog 17 #[.func (.func 30) #[] #[.pointer (some ⟨B + 5, 0, none⟩), .pointer (some ⟨W.heap.size, 0, none⟩)]] (W.alloc (.cells #[.int .i64 ((k : Int) + 1)] 3)) fun e W' => (∃ v, e = .returned v) ∧ NS E w0 B deep z false i (s + k) W' ∧ Oth (B + 4) (W.alloc (.cells #[.int .i64 ((k : Int) + 1)] 3)).heap.size (W.alloc (.cells #[.int .i64 ((k : Int) + 1)] 3)) W' := by
    rcases h with rfl | h
    · exact (tri_falls 30 #[.pointer (some ⟨B + 5, 0, none⟩), .pointer (some ⟨W.heap.size, 0, none⟩)] (s + 0) _ (by omega) (fun _ _ => by kernel_rfl)
        (clo_falls (falls_zero E w0 B deep z false i) s W.heap.size (tried (W.alloc (.cells #[.int .i64 (((0 : Nat) : Int) + 1)] 3))) (by omega) (hN1.below (by omega) (tried_below _)) ((World.cell?_of_block ((tried_below _).block _ hz1)).trans hk1))).mono fun e W' ⟨b, _, h2, _, h4, h5⟩ => ⟨⟨_, h2⟩, h4, h5⟩
    · exact (tri_ends 30 #[.pointer (some ⟨B + 5, 0, none⟩), .pointer (some ⟨W.heap.size, 0, none⟩)] (s + k) _ (by omega) (fun _ _ => by kernel_rfl)
        (clo_ends h s W.heap.size (tried (W.alloc (.cells #[.int .i64 ((k : Int) + 1)] 3))) (by omega) (hN1.below (by omega) (tried_below _)) ((World.cell?_of_block ((tried_below _).block _ hz1)).trans hk1))).mono fun e W' ⟨h2, h4, h5⟩ => ⟨⟨_, h2⟩, h4, h5⟩
  obtain ⟨t, ht⟩ : ∃ t, t = s + k := ⟨_, rfl⟩
  rw [show s + (k + 1) = t + 1 by omega]
  rw [← ht] at hT
  have ht9 : t ≤ 1000 := by omega
  clear hk1 hN1 hN h
  go_enter Tryd.func29, Tryd.ntmps29
  go_wp2_with fail
  refine hT.mono ?_
  rintro e W2 ⟨⟨v, rfl⟩, h3, h4⟩
  have HA := Lib.hid (Aft.mk' hl hb1 h3 h4)
  have c4 := h3.st
  have f4 := h3.sf
  have c2 := h3.ag
  clear hT h3 h4 hb1 hz1 ht hd hs
  go_wp2_with fail
  go_end0
  exact ⟨rfl, HA.out.n, HA.out.o⟩
theorem ends_all {E : Nat → Addr} {w0 : World} {B : Nat} {deep z : Int} {i : Nat} : ∀ k, Ends E w0 B deep z false i (k + 1)
  | 0 => ends_succ (.inl rfl)
  | k + 1 => ends_succ (.inr (ends_all k))
end Go.Proofs.YthfpmjmgdeefdaaDoor
