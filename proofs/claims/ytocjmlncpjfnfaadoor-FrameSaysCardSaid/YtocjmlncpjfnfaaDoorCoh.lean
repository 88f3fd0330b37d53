import Derived.Test.YtocjmlncpjfnfaaDoorCod
import Derived.Test.YtocjmlncpjfnfaaDoorIdx
/-
  code: a Reader's need, word.
-/
namespace Go.Proofs.YtocjmlncpjfnfaaDoor
open Go.RowKit

section
variable {P : Program} {md : Region.Mode} {ops : Array Oper} {Q : Exit → Act → World → Prop} {S : World → Prop} {fuel : Nat} {listed : Array Bool} {a : Act} {w : World}
/-- a call that comes up alone, and falls -/
theorem held_fall (i : Nat) (f : FuncId) (xs : Array Operand) (ts : Array TypeId) (dst : Option Tmp) (args : Array Value) (R : Ending → World → Prop)
    (hi : ops[i]?.map (fun o => (o.op, o.dst, Region.wanted o (yielded ops a.tmps))) = some (.call { callee := .value (.func f), args := xs, argTypes := ts }, dst, true))
    (hr : Region.ready md ops listed = [i]) (hargs : xs.map a.eval = args) (hrun : (callFunc f args).run P w = .ok (.enter f args) w) (hc : Calls P f args w R)
    (h : ∀ e w', R e w' → ∃ ps, e = .panicked ps ∧ Q (.panic ps) a w') : wpAnyH P md ops Q S (fuel + 1) listed a w := by
  obtain ⟨oi, ho, he⟩ := Option.map_eq_some_iff.1 hi
  simp only [Prod.mk.injEq] at he
  refine wpAnyH_ready (rs := [i]) hr (by simp) ?_
  refine AllReadyH.cons ho (fun K hK => ?_) AllReadyH.nil
  rw [if_pos he.2.2]
  obtain ⟨op, od, oty, opos, oaf, ogd⟩ := oi
  obtain ⟨he1, he2, he3⟩ := he
  simp only at he1 he2
  subst he1 he2
  simp only [go_sem]
  simp only [Array.empty_append, Array.append_empty, hargs, hrun, Oper.upon_enter]
  refine hc.mono fun e w' hh => ?_
  obtain ⟨ps, rfl, hq⟩ := h e w' hh
  exact hq
end
/-- it falls, with a place: nothing that was there has turned -/
def FellAt (E : Nat → Addr) (w : World) (k : Nat) (z : Int) (e : Ending) (w' : World) : Prop :=
  ∃ bt, e = .panicked [entry (thrownV (atV bt))] ∧ w.heap.size ≤ bt ∧ AtAt bt z (errV (E k)) w' ∧ Below w.heap.size w w'
theorem FellAt.of {E : Nat → Addr} {w W : World} (k : Nat) (z : Int) (h : Below w.heap.size w W) : FellAt E w k z (.panicked [entry (thrownV (atV W.heap.size))]) (W.alloc (.cells #[.int .i64 z, errV (E k)] 96)) :=
  ⟨_, rfl, h.size, AtAt.new _ _ _, h.alloc h.size _⟩
theorem FellAt.before {E : Nat → Addr} {w W w' : World} {k : Nat} {z : Int} {e : Ending} (hb : Below w.heap.size w W) (h : FellAt E W k z e w') : FellAt E w k z e w' := by
  obtain ⟨bt, h1, h2, h3, h4⟩ := h
  exact ⟨bt, h1, Nat.le_trans hb.size h2, h3, hb.trans (h4.mono hb.size)⟩

section
variable {w : World} {R : Nat} {A : Option Addr} {xs : List Int} {p c : Nat} {E : Nat → Addr}
set_option maxRecDepth 100000 in
set_option maxHeartbeats 800000 in
theorem need_ok (h : RdS w R A xs p c) (hl : xs.length ≤ 100000) (n : Int) (hn : n ≤ (xs.length : Int) - p) : Calls Tryd.prog 71 #[.pointer (some ⟨R, 0, none⟩), .int .i64 n] w fun e w' => e = .returned (.tuple #[]) ∧ Below w.heap.size w w' := by
  have c0 := h.c0
  have c1 := h.c1
  have hle := h.le
  clear h
  go_enter Tryd.func71, Tryd.ntmps71
  go_wp2_with fail
  go_quiet (fail)
  go_wp2_with fail
  go_end0
  exact ⟨rfl, Below.drewNr _⟩
set_option maxRecDepth 100000 in
set_option maxHeartbeats 800000 in
theorem need_no (h : RdS w R A xs p c) (hE : ErrsAt E w) (hl : xs.length ≤ 100000) (n : Int) (hn : (xs.length : Int) - p < n) : Calls Tryd.prog 71 #[.pointer (some ⟨R, 0, none⟩), .int .i64 n] w (FellAt E w 2 p) := by
  have c0 := h.c0
  have c1 := h.c1
  have hle := h.le
  have hlt := h.lt
  have hk := hE.c 2 (by decide)
  clear h hE
  go_enter Tryd.func71, Tryd.ntmps71
  go_wp2_with fail
  go_quiet (fail)
  go_upto_region 1 with (fail)
  refine wp_world (fun V => Below w.heap.size w V) (Below.drewNr _) ?_
  intro U hU
  have hR1 := (hU.cell (p := ⟨R, 1, none⟩) hlt).trans c1
  have hEk : U.cell? ⟨7, 0, none⟩ = some (errV (E 2)) := (hU.cell (p := ⟨7, 0, none⟩) (cell_lt hk)).trans hk
  have hRl := cell_lt hR1
  have hEl := cell_lt hEk
  refine wp_region_held_drew (S := fun V => Below U.heap.size U V) (by kernel_rfl) (Below.drewNr (w := U) 1) (fun hHeld => ?_)
  refine held_move 0 (Go.Operand.tmp 0) (some 16) (.pointer (some ⟨R, 0, none⟩)) (by kernel_rfl) (by kernel_rfl) (by kernel_rfl) (by kernel_rfl) (by kernel_rfl) (fun _ _ _ d _ h => by cases d <;> exact h) hHeld ?_
  refine held_nil 1 (Go.Operand.tmp 16) (some 17) ⟨R, 0, none⟩ (by kernel_rfl) (by kernel_rfl) (by kernel_rfl) (by kernel_rfl) (by kernel_rfl) (fun _ _ _ d _ h => by cases d <;> exact h) hHeld ?_
  refine held_field 2 113 (Go.Operand.tmp 17) 1 (some 18) (.pointer (some ⟨R, 0, none⟩)) (.pointer (some ⟨R, 1, none⟩)) (by kernel_rfl) (by kernel_rfl) (fun w => by kernel_rfl) (by kernel_rfl) (by kernel_rfl) (by kernel_rfl) (fun _ _ _ d _ h => by cases d <;> exact h) hHeld ?_
  refine held_cell 3 3 (Go.Operand.tmp 18) (some 19) (.pointer (some ⟨R, 1, none⟩)) (.int .i64 (p : Int)) (by kernel_rfl) (by kernel_rfl) (fun V hV => load_i64 R 1 V _ ((hV.cell (p := ⟨R, 1, none⟩) hRl).trans hR1)) (by kernel_rfl) (by kernel_rfl) (by kernel_rfl) (fun _ _ _ d _ h => by cases d <;> exact h) hHeld ?_
  refine held_cell 4 38 (Go.Operand.global 7) (some 20) (.pointer (some ⟨7, 0, none⟩)) (errV (E 2)) (by kernel_rfl) (by kernel_rfl) (fun V hV => load_err 7 0 V _ ((hV.cell (p := ⟨7, 0, none⟩) hEl).trans hEk)) (by kernel_rfl) (by kernel_rfl) (by kernel_rfl) (fun _ _ _ d _ h => by cases d <;> exact h) hHeld ?_
  refine held_fall 5 70 #[Go.Operand.tmp 19, Go.Operand.tmp 20] #[3, 38] (some 21) #[.int .i64 (p : Int), errV (E 2)] _ (by kernel_rfl) (by kernel_rfl) (by kernel_rfl) (by kernel_rfl) (fail_any (p : Int) (E 2) _) ?_
  rintro e V ⟨rfl, rfl⟩
  refine ⟨_, rfl, ?_⟩
  exact ⟨rfl, FellAt.of 2 p (hU.trans (hHeld.mono hU.size))⟩
end
end Go.Proofs.YtocjmlncpjfnfaaDoor
