import Derived.Test.YtocjmlncpjfnfaaDoorTrd
/-
  An error with its place: what is thrown, what it is as plain data.
-/
namespace Go.Proofs.YtocjmlncpjfnfaaDoor
open Go.RowKit

abbrev atV (b : Nat) : Value := .iface 92 (.pointer (some ⟨b, 0, none⟩))
/-- an At as it lies -/
structure AtAt (b : Nat) (z : Int) (e : Value) (W : World) : Prop where
  p : W.cell? ⟨b, 0, none⟩ = some (.int .i64 z)
  e : W.cell? ⟨b, 1, none⟩ = some e
theorem AtAt.below {b : Nat} {z : Int} {e : Value} {W W' : World} (h : AtAt b z e W) (hb : Below W.heap.size W W') : AtAt b z e W' :=
  ⟨(World.cell?_of_block (hb.block _ (World.block_lt_of_cell? W _ h.p))).trans h.p, (World.cell?_of_block (hb.block _ (World.block_lt_of_cell? W _ h.e))).trans h.e⟩
theorem AtAt.new (W : World) (z : Int) (e : Value) : AtAt W.heap.size z e (W.alloc (.cells #[.int .i64 z, e] 96)) := ⟨by simp [go_sem], by simp [go_sem]⟩

theorem drB {w w' : World} (h : Below w.drew.heap.size w.drew w') : Below w.heap.size w w' := (Below.drewNr (w := w) 1).trans h
theorem fail_any (z : Int) (a : Addr) (w : World) : Calls Tryd.prog 70 #[.int .i64 z, errV a] w fun e w' => e = .panicked [entry (thrownV (atV w.heap.size))] ∧ w' = w.alloc (.cells #[.int .i64 z, errV a] 96) := by
  go_enter Tryd.func70, Tryd.ntmps70
  go_wp2
  exact ⟨rfl, rfl, rfl⟩
theorem failn_any (E : Nat → Addr) (z : Int) (w : World) (h : ErrsAt E w) : Calls Tryd.prog 70 #[.int .i64 z, .nilIface] w fun e w' => e = .panicked [entry (thrownV (atV w.heap.size))] ∧ w' = w.alloc (.cells #[.int .i64 z, errV (E 5)] 96) := by
  have c5 := h.c 5 (by decide)
  have c5 : w.cell? ⟨3, 0, none⟩ = some (errV (E 5)) := c5
  go_enter Tryd.func70, Tryd.ntmps70
  go_wp2
  exact ⟨rfl, rfl, rfl⟩
theorem placed_any (c z : Int) (w : World) (hc : c ≠ 0) : Calls Tryd.prog 22 #[.int .i64 c, .int .i64 z] w fun e w' => e = .returned (.agg (frow c true z)) ∧ Below w.heap.size w w' := by
  have hc0 : (c == 0) = false := by simpa using hc
  have hr := heap_alloc_new w (.cells #[.int .i64 0, .bool false, .int .i64 0] 42)
  have hb0 : Below w.heap.size w (w.alloc (.cells #[.int .i64 0, .bool false, .int .i64 0] 42)) := (Below.refl _ _).alloc (Nat.le_refl _) _
  go_enter Tryd.func22, Tryd.ntmps22
  go_wp2_with (refine wpList_store_row rfl 42 _ _ rfl _ (frow c true z) rfl rfl _ _ hr (by kernel_rfl) rfl (frow_one _ _ _) ?_)
  refine bodyPost_ret (results_cell_row rfl _ _ _ _ _ _ _ rfl (setRow_heap _ _ _ _ _ _ hr) Tryd.underlying42 rfl (by kernel_rfl)) rfl ?_
  exact ⟨rfl, below_setRow hb0 (Nat.le_refl _) _⟩

section
variable {P : Program} {ops : Array Oper} {l : List Sp} {a : Act} {w : World}
theorem owes_nil (i : Nat) (dst : Option Tmp) (anc : List Nat) (x : Operand) (p : Addr) (hop : ∀ v, ops[i]?.map (fun o => (o.op, Region.wanted o (yielded ops (fr l anc a v).tmps))) = some (.nilCheck x, true))
    (hx : ∀ v, (fr l anc a v).eval x = .pointer (some p)) : Owes P ops l a w (Sp.k i dst anc (.pointer (some p))) :=
  owes_pure i dst anc _ _ hop fun v w' _ _ o ho => by unfold execOp; simp only [ho, hx v]; rfl
theorem owes_field (i : Nat) (dst : Option Tmp) (anc : List Nat) (r : Value) (t : TypeId) (x : Operand) (k : Nat) (vx : Value) (hop : ∀ v, ops[i]?.map (fun o => (o.op, Region.wanted o (yielded ops (fr l anc a v).tmps))) = some (.fieldAddr t x k, true))
    (hx : ∀ v, (fr l anc a v).eval x = vx) (he : ∀ w, (Instr.fieldAt t vx k).run P w = .ok r w) : Owes P ops l a w (Sp.k i dst anc r) :=
  owes_pure i dst anc r _ hop fun v w' _ _ o ho => by unfold execOp; simp only [ho, hx v, Sem.run_bind, he w']; rfl
end
theorem load_er (a : Addr) (v : Value) (w : World) (h : w.cell? a = some v) : (Instr.loadAt 38 (.pointer (some a))).run Tryd.prog w = .ok v w := by
  have h2 := Tryd.underlying38
  go_simp
theorem load_it (a : Addr) (v : Value) (w : World) (h : w.cell? a = some v) : (Instr.loadAt 3 (.pointer (some a))).run Tryd.prog w = .ok v w := by
  have h2 := Tryd.underlying3
  go_simp

theorem assert_at (b : Nat) (w : World) : (Instr.typeAssert (atV b) 38 92 true).run Tryd.prog w = .ok (.tuple #[.pointer (some ⟨b, 0, none⟩), .bool true]) w := by kernel_rfl
set_option maxRecDepth 100000 in
theorem faulta_any (E : Nat → Addr) (b k : Nat) (z : Int) (hk : k < 19) (w0 : World) (h : ErrsAt E w0) (hr : AtAt b z (errV (E k)) w0) : Calls Tryd.prog 21 #[atV b] w0 fun e w' => e = .returned (.agg (frow (101 + (k : Int)) true z)) ∧ Below w0.heap.size w0 w' := by
  have has := assert_at b
  have hb0 : Below w0.heap.size w0 (w0.alloc (.cells #[.int .i64 0, .bool false, .int .i64 0] 42)) := (Below.refl _ _).alloc (Nat.le_refl _) _
  have hr0 := heap_alloc_new w0 (.cells #[.int .i64 0, .bool false, .int .i64 0] 42)
  have hp1 := (hr.below hb0).p
  have he1 := (hr.below hb0).e
  go_enter Tryd.func21, Tryd.ntmps21
  go_upto_region 8 with (fail)
  refine wp_world (fun W => AtAt b z (errV (E k)) W ∧ ErrsAt E W ∧ W.heap[w0.heap.size]? = some (.cells #[.int .i64 0, .bool false, .int .i64 0] 42 (0, 0)) ∧ Below w0.heap.size w0 W) ⟨hr.below hb0, h.below hb0, hr0, hb0⟩ ?_
  clear hp1 he1 hr0 hb0 h hr has
  generalize hB0 : w0.heap.size = B at *
  have HB0 := Lib.hid hB0
  clear hB0
  rintro w ⟨hr, hE, hR, hB⟩
  have HB := Lib.hid hB
  clear hB
  have hBl : B < w.heap.size := (Array.getElem?_eq_some_iff.1 hR).1
  refine wp_region_spec_tail 10 [Sp.k 0 (some 28) [] (.pointer (some ⟨b, 0, none⟩)),
    Sp.k 1 (some 29) [0] (.pointer (some ⟨b, 0, none⟩)),
    Sp.k 2 (some 30) [1] (.pointer (some ⟨b, 1, none⟩)),
    Sp.k 3 (some 31) [2] (errV (E k)),
    Sp.k 4 (some 32) [3] (.int .i64 (101 + (k : Int))),
    Sp.k 5 (some 33) [] (.pointer (some ⟨b, 0, none⟩)),
    Sp.k 6 (some 34) [5] (.pointer (some ⟨b, 0, none⟩)),
    Sp.k 7 (some 35) [6] (.pointer (some ⟨b, 0, none⟩)),
    Sp.k 8 (some 36) [7] (.int .i64 z),
    Sp.k 9 (some 37) [4, 8] (.agg (frow (101 + (k : Int)) true z))] (by kernel_rfl) (by kernel_rfl)
    ⟨owes_move 0 (some 28) [] (.pointer (some ⟨b, 0, none⟩)) (Go.Operand.tmp 3) (fun v => by kernel_rfl) (fun v => by kernel_rfl),
    owes_nil 1 (some 29) [0] (Go.Operand.tmp 28) _ (fun v => by kernel_rfl) (fun v => by kernel_rfl),
    owes_field 2 (some 30) [1] (.pointer (some ⟨b, 1, none⟩)) 96 (Go.Operand.tmp 29) 1 (.pointer (some ⟨b, 0, none⟩)) (fun v => by kernel_rfl) (fun v => by kernel_rfl) (fun w => by kernel_rfl),
    owes_load 3 (some 31) [2] (errV (E k)) 38 (Go.Operand.tmp 30) (.pointer (some ⟨b, 1, none⟩)) (fun v => by kernel_rfl) (fun v => by kernel_rfl) (fun w' hb => load_er _ _ w' (hr.below (drB hb)).e),
    owes_call 4 (some 32) [3] (.int .i64 (101 + (k : Int))) 59 #[Go.Operand.tmp 31] #[38] (fun v => by kernel_rfl) (fun _ _ => by kernel_rfl) (fun v w' hb ho => by
        exact ⟨#[errV (E k)], by kernel_rfl, (sentinel_any E k hk w' (hE.below (drB hb))).mono (fun _ _ h => h)⟩),
    owes_move 5 (some 33) [] (.pointer (some ⟨b, 0, none⟩)) (Go.Operand.tmp 3) (fun v => by kernel_rfl) (fun v => by kernel_rfl),
    owes_nil 6 (some 34) [5] (Go.Operand.tmp 33) _ (fun v => by kernel_rfl) (fun v => by kernel_rfl),
    owes_field 7 (some 35) [6] (.pointer (some ⟨b, 0, none⟩)) 96 (Go.Operand.tmp 34) 0 (.pointer (some ⟨b, 0, none⟩)) (fun v => by kernel_rfl) (fun v => by kernel_rfl) (fun w => by kernel_rfl),
    owes_load 8 (some 36) [7] (.int .i64 z) 3 (Go.Operand.tmp 35) (.pointer (some ⟨b, 0, none⟩)) (fun v => by kernel_rfl) (fun v => by kernel_rfl) (fun w' hb => load_it _ _ w' (hr.below (drB hb)).p),
    owes_call 9 (some 37) [4, 8] (.agg (frow (101 + (k : Int)) true z)) 22 #[Go.Operand.tmp 32, Go.Operand.tmp 36] #[3, 3] (fun v => by kernel_rfl) (fun _ _ => by kernel_rfl) (fun v w' hb ho => by
        exact ⟨#[.int .i64 (101 + (k : Int)), .int .i64 z], by kernel_rfl, (placed_any (101 + (k : Int)) z w' (by omega)).mono (fun _ _ h => h)⟩), trivial⟩ ?_
  intro v w' hb ho
  replace hb := drB hb
  have hR' := (hb.block _ hBl).trans hR
  have HB' := Lib.hid (HB.out.trans (hb.mono (by have := hBl; omega)))
  clear HB hR ho
  simp only [putsL_k, putsL_nil, List.set_cons_zero, List.set_cons_succ]
  simp only [List.drop_succ_cons, List.drop_zero]
  go_wp2_with (refine wpList_store_row rfl 42 _ _ rfl _ (frow (101 + (k : Int)) true z) rfl rfl _ _ hR' (by kernel_rfl) rfl (frow_one _ _ _) ?_)
  refine bodyPost_ret (results_cell_row rfl _ _ _ _ _ _ _ rfl (setRow_heap _ _ _ _ _ _ hR') Tryd.underlying42 rfl (by kernel_rfl)) rfl ?_
  refine ⟨rfl, ?_⟩
  rw [HB0.out]
  exact below_setRow HB'.out (Nat.le_refl _) _

structure SameT (w : World) (B : Nat) (r : Array Value) (W : World) : Prop where
  r : W.rangeAt B 0 r.toList
  lt : B < W.heap.size
  b : Below w.heap.size w W
theorem SameT.below {w : World} {B : Nat} {d : Array Value} {W W' : World} (x : SameT w B d W) (hb : Below W.heap.size W W') : SameT w B d W' :=
  ⟨rangeAt_below x.r hb x.lt, Nat.lt_of_lt_of_le x.lt hb.size, x.b.trans (hb.mono x.b.size)⟩
set_option maxRecDepth 100000 in
/-- Same, where it is known what Fault answers -/
theorem sameG (v : Value) (c x d y : Int) (p q : Bool) (w : World) (hF : ∀ W, Below w.heap.size w W → Calls Tryd.prog 21 #[v] W fun e w' => e = .returned (.agg (frow c p x)) ∧ Below W.heap.size W w') :
    Calls Tryd.prog 19 #[v, .agg (frow d q y)] w fun e w' => e = .returned (.bool (decide (c = d ∧ p = q ∧ x = y))) ∧ Below w.heap.size w w' := by
  go_enter Tryd.func19, Tryd.ntmps19
  go_upto_region 1 with (fail)
  have iF : (Tryd.prog.info? 42).map (·.size) = some (frow d q y).toList.length := by kernel_rfl
  have hb0 : Below w.heap.size w (w.alloc (.cells (frow d q y) 42)) := (Below.refl _ _).alloc (Nat.le_refl _) _
  have hr0 : (w.alloc (.cells (frow d q y) 42)).rangeAt w.heap.size 0 (frow d q y).toList := by
    intro j u hj
    rw [Nat.zero_add, World.cell?_alloc_new]
    simpa using hj
  refine wp_world (fun W => W.rangeAt w.heap.size 0 (frow d q y).toList ∧ w.heap.size < W.heap.size ∧ Below w.heap.size w W) ⟨hr0, by simp, hb0⟩ ?_
  clear hr0 hb0
  rintro W ⟨h1, h2, h4⟩
  refine wp_region_noPanic ?_
  refine wp_region_held_drew (S := SameT w w.heap.size (frow d q y)) (by kernel_rfl) ⟨h1, h2, h4.drew⟩ (fun hHeld => ?_)
  refine held_move 0 (.tmp 0) (some 5) (v) (by kernel_rfl) (by kernel_rfl) (by kernel_rfl) (by kernel_rfl) (by kernel_rfl) (fun _ _ _ _ _ h => h) hHeld ?_
  refine held_load 2 42 (.tmp 3) (some 7) w.heap.size 0 (frow d q y).toList _ (by kernel_rfl) (by kernel_rfl) (fun w h => h.r) Tryd.underlying42 rfl iF (by kernel_rfl) (by kernel_rfl) (by kernel_rfl) (fun _ _ _ _ _ h => h) hHeld ?_
  refine held_call 1 21 #[.tmp 5] #[38] (some 6) #[v] _ (by kernel_rfl) (by kernel_rfl) (by kernel_rfl) (by kernel_rfl) (hF _ hHeld.b) ?_
  rintro e Y1 ⟨rfl, hbY1⟩
  refine ⟨_, rfl, hHeld.below hbY1, fun hHeld => ?_⟩
  refine held_call 3 56 #[.tmp 6, .tmp 7] #[42, 42] (some 8) #[.agg (frow c p x), .agg (frow d q y).toList.toArray] _ (by kernel_rfl) (by kernel_rfl) (by kernel_rfl) (by kernel_rfl) (sameFault_any c d p q x y Y1) ?_
  rintro e Y2 ⟨rfl, hbY2⟩
  refine ⟨_, rfl, hHeld.below hbY2, fun hHeld => ?_⟩
  refine held_assign 4 (.tmp 8) (some 4) (.bool (decide (c = d ∧ p = q ∧ x = y))) (by kernel_rfl) (by kernel_rfl) (by kernel_rfl) (by kernel_rfl) (by kernel_rfl) (fun _ _ _ _ _ h => h) hHeld ?_
  refine wpAnyH_done (by kernel_rfl) ?_ _
  refine NoPanic.normal ?_
  simp only [Act.put, List.setIfInBounds_toArray, List.set_cons_zero, List.set_cons_succ]
  go_wp2_with fail
  go_ret
  exact ⟨rfl, hHeld.b⟩
/-- an At of one of the errors is what is asked for -/
theorem same_at (E : Nat → Addr) (b k : Nat) (z : Int) (hk : k < 19) (w : World) (h : ErrsAt E w) (hr : AtAt b z (errV (E k)) w) :
    Calls Tryd.prog 19 #[atV b, .agg (frow (101 + (k : Int)) true z)] w fun e w' => e = .returned (.bool true) ∧ Below w.heap.size w w' :=
  (sameG (atV b) (101 + (k : Int)) z (101 + (k : Int)) z true true w (fun W hb => faulta_any E b k z hk W (h.below hb) (hr.below hb))).mono fun _ _ ⟨h1, h2⟩ => ⟨by simpa using h1, h2⟩
end Go.Proofs.YtocjmlncpjfnfaaDoor
