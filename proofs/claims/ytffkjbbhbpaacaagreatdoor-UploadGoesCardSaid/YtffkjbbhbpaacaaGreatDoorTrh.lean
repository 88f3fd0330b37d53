import Derived.Test.YtffkjbbhbpaacaaGreatDoorErr
import Derived.Defers
import Derived.Recover
import Derived.PanicsStand
import Derived.Laws.NewBlocks
import Derived.Test.YtffkjbbhbpaacaaGreatDoorIdx
/-
  trap: what is thrown, what is caught.
  trap.Try.
  courierlaw2: what comes first.
  courierlaw2: errors by their numbers; TrapCalls.
  An error with its place: what is thrown, what it is as plain data.
  Try, where what is called turns what was there.
-/
namespace Go.Proofs.YtffkjbbhbpaacaaGreatDoor
open Go.RowKit

/-- what Must and Fail throw -/
def thrownV (e : Value) : Value := .iface 114 (.agg #[e])
abbrev entry (v : Value) : PanicEntry := { v := v, recovered := false }

theorem caught_thrown (t : TypeId) (p : Value) (w : World) : Calls Tryz.prog 67 #[thrownV (.iface t p)] w fun x w' => x = .returned (.iface t p) ∧ Below w.heap.size w w' := by
  unfold thrownV
  have hta : ∀ W, (Instr.typeAssert (.iface 114 (.agg #[.iface t p])) 20 114 true).run Tryz.prog W = .ok (.tuple #[.agg #[.iface t p], .bool true]) W := fun _ => by kernel_rfl
  go_enter Tryz.func67, Tryz.ntmps67
  go_wp2
  go_ret
  exact ⟨rfl, by go_grown⟩
theorem zero_thrown (W : World) : (zeroValue 114).run Tryz.prog W = .ok (.agg #[.nilIface]) W := by kernel_rfl
theorem assert_other (t : TypeId) (ht : t ≠ 114) (v : Value) (W : World) : (Instr.typeAssert (.iface t v) 20 114 true).run Tryz.prog W = .ok (.tuple #[.agg #[.nilIface], .bool false]) W := by
  unfold Instr.typeAssert
  simp only [Sem.run_bind, run_underlying Tryz.underlying114, Result.andThen_ok]
  rw [if_neg ht]
  simp only [if_true, Sem.run_bind, zero_thrown, Result.andThen_ok]
  rfl
theorem caught_other (E : Nat → Addr) (t : TypeId) (ht : t ≠ 114) (v : Value) (w : World) (h : ErrsAt E w) : Calls Tryz.prog 67 #[.iface t v] w fun x w' => x = .returned (errV (E 5)) ∧ Below w.heap.size w w' := by
  have hlt : 5 < w.heap.size := h.ltG (i := 5) (by decide)
  have c5 : ∀ o, (w.alloc o).cell? ⟨5, 0, none⟩ = some (errV (E 5)) := fun o => (World.cell?_alloc_past _ _ _ hlt).trans (h.c 5 (by decide))
  have hta := assert_other t ht v
  go_enter Tryz.func67, Tryz.ntmps67
  go_wp2
  go_ret
  exact ⟨rfl, by go_grown⟩
theorem catch_idle (p q : Addr) (w : World) (hp : w.cell? p = some (.bool true)) :
    CallsD Tryz.prog 66 #[.pointer (some p), .pointer (some q)] .returning w fun e u' w' => e = .returned (.tuple #[]) ∧ u' = .returning ∧ w' = w := by
  refine callsD_of_wpS Tryz.func66 rfl fun c₀ cs hu => ?_
  apply wpS_seq
  apply wpS_region
  simp [wpOpsS, go_sem, hp, Tryz.ntmps66, Exit.thenS]
  refine wpS_cond (t := false) (by simp [Act.eval, Array.replicate]) ?_
  simp only [Bool.false_eq_true, if_false]
  refine wpS_of_wp (wp_skip ?_)
  cases c₀
  simp_all [bodyPostS, results, Tryz.results66]

theorem catch_panic (p q : Addr) (u rt : TypeId) (pv rp : Value) (older : List PanicEntry) (w : World) (R : World → Prop) (hp : w.cell? p = some (.bool false))
    (hc : Calls Tryz.prog 67 #[.iface u pv] w fun e w' => e = .returned (.iface rt rp) ∧ (∃ z, w'.cell? q = some z) ∧ w'.frozen? q = false ∧ R (w'.setCell q (.iface rt rp))) :
    CallsD Tryz.prog 66 #[.pointer (some p), .pointer (some q)] (.panicking (entry (.iface u pv) :: older)) w fun e u' w' =>
      e = .returned (.tuple #[]) ∧ u' = .panicking ({ v := .iface u pv, recovered := true } :: older) ∧ R w' := by
  refine callsD_of_wpS Tryz.func66 rfl fun c₀ cs hu => ?_
  apply wpS_seq
  apply wpS_region
  simp [wpOpsS, go_sem, hp, Tryz.ntmps66, Exit.thenS]
  refine wpS_cond (t := true) (by simp [Act.eval, Array.replicate]) ?_
  simp only [if_true]
  apply wpS_region
  simp [wpOpsS, go_sem, recoverD, hu]
  refine hc.mono ?_
  rintro e w' ⟨rfl, ⟨z, hz⟩, hf, hR⟩
  simp [go_sem, hz, hf, bodyPostS, results, Tryz.results66, hR]

/-- Try's own two variables, where f has come to its end or has fallen: as they were made -/
structure Kept (B : Nat) (w' : World) : Prop where
  c0 : w'.cell? ⟨B, 0, none⟩ = some .nilIface
  f0 : w'.frozen? ⟨B, 0, none⟩ = false
  c1 : w'.cell? ⟨B + 1, 0, none⟩ = some (.bool false)
  f1 : w'.frozen? ⟨B + 1, 0, none⟩ = false
/-- the world in which f is called -/
def tried (w : World) : World := (w.alloc (.cells #[.nilIface] 46)).alloc (.cells #[.bool false] 4)

set_option maxRecDepth 100000 in
set_option maxHeartbeats 800000 in
/-- f comes to its end -/
theorem try_calm (k : FuncId) (cap : Array Value) (w : World) (R : World → Prop) (hk : ∀ args w, (callFunc k args).run Tryz.prog w = .ok (.enter k args) w)
    (hc : Calls Tryz.prog k cap (tried w) fun e w' => e = .returned (.tuple #[]) ∧ Kept w.heap.size w' ∧ R w') :
    Calls Tryz.prog 45 #[.func (.func k) #[] cap] w fun e w' => e = .returned .nilIface ∧ ∃ W, R W ∧ Below w.heap.size W w' := by
  unfold tried at hc
  have hmf : ∀ (fn : Fn) (first cap : Array Value) (w : World), (Instr.makeFunc fn first cap).run Tryz.prog w = .ok (.func fn first cap) w := fun _ _ _ _ => rfl
  go_enter_defers Tryz.func45, Tryz.ntmps45
  go_wp2_with fail
  refine hc.mono ?_
  rintro e W ⟨rfl, hK, hR⟩
  have c0 := hK.c0
  have f0 := hK.f0
  have c1 := hK.c1
  have f1 := hK.f1
  have hb : Below w.heap.size W ((W.setCell ⟨w.heap.size + 1, 0, none⟩ (.bool true)).setCell ⟨w.heap.size, 0, none⟩ .nilIface) := (Below.refl w.heap.size W |>.setCell (by simp) _).setCell (by simp) _
  clear hc hk
  go_wp2_with fail
  refine leaves_cons (f := 66) (args := #[.pointer (some ⟨w.heap.size + 1, 0, none⟩), .pointer (some ⟨w.heap.size, 0, none⟩)]) (by simp) (by simp [go_sem]) ?_
  refine (catch_idle ⟨w.heap.size + 1, 0, none⟩ ⟨w.heap.size, 0, none⟩ _ ?_).mono ?_
  · simp [go_sem, c1]
  rintro e u' w'' ⟨rfl, rfl, rfl⟩
  have hc0 : ((W.setCell ⟨w.heap.size + 1, 0, none⟩ (.bool true)).setCell ⟨w.heap.size, 0, none⟩ .nilIface).cell? ⟨w.heap.size, 0, none⟩ = some .nilIface := by simp [go_sem, c0]
  have HB := Lib.hid (⟨W, hR, hb⟩ : ∃ V, R V ∧ Below w.heap.size V ((W.setCell ⟨w.heap.size + 1, 0, none⟩ (.bool true)).setCell ⟨w.heap.size, 0, none⟩ .nilIface))
  clear hb hR
  generalize (W.setCell ⟨w.heap.size + 1, 0, none⟩ (.bool true)).setCell ⟨w.heap.size, 0, none⟩ .nilIface = W2 at *
  simp [Leaves, settle, results, Tryz.results45, go_sem, hc0]
  exact HB.out

set_option maxRecDepth 100000 in
set_option maxHeartbeats 800000 in
/-- f falls: what is told of it -/
theorem try_falls (k : FuncId) (cap : Array Value) (w : World) (R : World → Prop) (u rt : TypeId) (pv rp : Value) (hk : ∀ args w, (callFunc k args).run Tryz.prog w = .ok (.enter k args) w)
    (hc : Calls Tryz.prog k cap (tried w) fun e w' => e = .panicked [entry (.iface u pv)] ∧ Kept w.heap.size w' ∧ w.heap.size + 2 ≤ w'.heap.size ∧ R w')
    (hcaught : ∀ W, R W → Calls Tryz.prog 67 #[.iface u pv] W fun e w' => e = .returned (.iface rt rp) ∧ Below W.heap.size W w') :
    Calls Tryz.prog 45 #[.func (.func k) #[] cap] w fun e w' => e = .returned (.iface rt rp) ∧ ∃ W, R W ∧ Below w.heap.size W w' := by
  unfold tried at hc
  have hmf : ∀ (fn : Fn) (first cap : Array Value) (w : World), (Instr.makeFunc fn first cap).run Tryz.prog w = .ok (.func fn first cap) w := fun _ _ _ _ => rfl
  go_enter_defers Tryz.func45, Tryz.ntmps45
  go_wp2_with fail
  refine hc.mono ?_
  rintro e W ⟨rfl, hK, hsz, hR⟩
  clear hc hk
  go_wp2_with fail
  refine leaves_cons (f := 66) (args := #[.pointer (some ⟨w.heap.size + 1, 0, none⟩), .pointer (some ⟨w.heap.size, 0, none⟩)]) (by simp) (by simp [go_sem]) ?_
  refine (catch_panic ⟨w.heap.size + 1, 0, none⟩ ⟨w.heap.size, 0, none⟩ u rt pv rp [] W (fun w' => w'.cell? ⟨w.heap.size, 0, none⟩ = some (.iface rt rp) ∧ ∃ V, R V ∧ Below w.heap.size V w') hK.c1 ?_).mono ?_
  · refine (hcaught W hR).mono ?_
    rintro e w' ⟨rfl, hb⟩
    have c0 : w'.cell? ⟨w.heap.size, 0, none⟩ = some .nilIface := (hb.cell (p := ⟨w.heap.size, 0, none⟩) (show w.heap.size < W.heap.size by omega)).trans hK.c0
    have f0 : w'.frozen? ⟨w.heap.size, 0, none⟩ = false := (hb.frozen (p := ⟨w.heap.size, 0, none⟩) (show w.heap.size < W.heap.size by omega)).trans hK.f0
    have hcell : (w'.setCell ⟨w.heap.size, 0, none⟩ (.iface rt rp)).cell? ⟨w.heap.size, 0, none⟩ = some (.iface rt rp) := by simp [go_sem, c0]
    have hbel : Below w.heap.size W (w'.setCell ⟨w.heap.size, 0, none⟩ (.iface rt rp)) := (hb.mono (show w.heap.size ≤ W.heap.size by omega)).setCell (p := ⟨w.heap.size, 0, none⟩) (Nat.le_refl _) _
    exact ⟨rfl, ⟨_, c0⟩, f0, hcell, W, hR, hbel⟩
  rintro e u' w'' ⟨rfl, rfl, hc0, HB⟩
  have HB := Lib.hid HB
  simp [Leaves, settle, results, Tryz.results45, go_sem, hc0]
  exact HB.out

/-- where nothing was there that has turned: Try's own variables are as they were made -/
theorem Kept.below {w w' : World} (h : Below (w.heap.size + 2) (tried w) w') : Kept w.heap.size w' := by
  have hs : (tried w).heap.size = w.heap.size + 2 := by simp [tried]
  refine ⟨?_, ?_, ?_, ?_⟩
  · rw [h.cell (p := ⟨w.heap.size, 0, none⟩) (show w.heap.size < w.heap.size + 2 by omega)]; simp [tried, go_sem]
  · rw [h.frozen (p := ⟨w.heap.size, 0, none⟩) (show w.heap.size < w.heap.size + 2 by omega)]; simp [tried, go_sem]
  · rw [h.cell (p := ⟨w.heap.size + 1, 0, none⟩) (show w.heap.size + 1 < w.heap.size + 2 by omega)]; simp [tried, go_sem]
  · rw [h.frozen (p := ⟨w.heap.size + 1, 0, none⟩) (show w.heap.size + 1 < w.heap.size + 2 by omega)]; simp [tried, go_sem]
theorem tried_below (w : World) : Below w.heap.size w (tried w) := ((Below.refl _ _).alloc (Nat.le_refl _) _).alloc (by simp) _
/-- Try of what turns nothing that was there, and comes to its end -/
theorem try_calm_below (k : FuncId) (cap : Array Value) (w : World) (hk : ∀ args w, (callFunc k args).run Tryz.prog w = .ok (.enter k args) w)
    (hc : Calls Tryz.prog k cap (tried w) fun e w' => e = .returned (.tuple #[]) ∧ Below (w.heap.size + 2) (tried w) w') :
    Calls Tryz.prog 45 #[.func (.func k) #[] cap] w fun e w' => e = .returned .nilIface ∧ Below w.heap.size w w' := by
  refine (try_calm k cap w (fun W => Below w.heap.size w W) hk (hc.mono ?_)).mono ?_
  · rintro e w' ⟨h1, h2⟩
    exact ⟨h1, Kept.below h2, (tried_below w).trans (h2.mono (by omega))⟩
  · rintro e w' ⟨h1, W, h2, h3⟩
    exact ⟨h1, h2.trans h3⟩
theorem try_falls_below (E : Nat → Addr) (k : FuncId) (cap : Array Value) (w : World) (u rt : TypeId) (pv rp : Value) (hE : ErrsAt E w) (hk : ∀ args w, (callFunc k args).run Tryz.prog w = .ok (.enter k args) w)
    (hc : Calls Tryz.prog k cap (tried w) fun e w' => e = .panicked [entry (.iface u pv)] ∧ Below (w.heap.size + 2) (tried w) w')
    (hcaught : ∀ W, ErrsAt E W → Calls Tryz.prog 67 #[.iface u pv] W fun e w' => e = .returned (.iface rt rp) ∧ Below W.heap.size W w') :
    Calls Tryz.prog 45 #[.func (.func k) #[] cap] w fun e w' => e = .returned (.iface rt rp) ∧ Below w.heap.size w w' := by
  have hs : (tried w).heap.size = w.heap.size + 2 := by simp [tried]
  refine (try_falls k cap w (fun W => Below w.heap.size w W) u rt pv rp hk (hc.mono ?_) (fun W hW => hcaught W (hE.below hW))).mono ?_
  · rintro e w' ⟨h1, h2⟩
    exact ⟨h1, Kept.below h2, by have := h2.size; omega, (tried_below w).trans (h2.mono (by omega))⟩
  · rintro e w' ⟨h1, W, h2, h3⟩
    exact ⟨h1, h2.trans h3⟩
/-- Try of a throw of one of the errors -/
theorem try_must (E : Nat → Addr) (i : Nat) (k : FuncId) (cap : Array Value) (w : World) (hE : ErrsAt E w) (hk : ∀ args w, (callFunc k args).run Tryz.prog w = .ok (.enter k args) w)
    (hc : Calls Tryz.prog k cap (tried w) fun e w' => e = .panicked [entry (thrownV (errV (E i)))] ∧ Below (w.heap.size + 2) (tried w) w') :
    Calls Tryz.prog 45 #[.func (.func k) #[] cap] w fun e w' => e = .returned (errV (E i)) ∧ Below w.heap.size w w' :=
  try_falls_below E k cap w _ _ _ _ hE hk hc fun W _ => caught_thrown _ _ W

def eidx (j : Nat) : Nat := [0, 1, 2, 3, 4, 5, 6, 8, 9, 13].getD j 0
def errL (E : Nat → Addr) : List Value := [errV (E 0), errV (E 1), errV (E 2), errV (E 3), errV (E 4), errV (E 5), errV (E 6), errV (E 8), errV (E 9), errV (E 13)]
def codL : List Value := [.int .i64 101, .int .i64 102, .int .i64 103, .int .i64 104, .int .i64 105, .int .i64 106, .int .i64 107, .int .i64 109, .int .i64 110, .int .i64 114]
theorem errL_get (E : Nat → Addr) (j : Nat) (h : j < 10) : (errL E)[j]? = some (errV (E (eidx j))) := by
  rcases j with _ | _ | _ | _ | _ | _ | _ | _ | _ | _ | j
  all_goals first | rfl | omega
theorem codL_get (j : Nat) (h : j < 10) : codL[j]? = some (.int .i64 (101 + (eidx j : Int))) := by
  rcases j with _ | _ | _ | _ | _ | _ | _ | _ | _ | _ | j
  all_goals first | rfl | omega
theorem eidx_lt (j : Nat) : eidx j < 19 := by
  unfold eidx
  rcases j with _ | _ | _ | _ | _ | _ | _ | _ | _ | _ | j
  all_goals simp
/-- what errs answers -/
def ErrsPost (E : Nat → Addr) (n : Int) (w : World) (e : Ending) (w' : World) : Prop := e = .returned (.tuple #[errV (E (eidx (n % 10).toNat)), .int .i64 (101 + (eidx (n % 10).toNat : Int))]) ∧ Below w.heap.size w w'

/-- what TrapCalls' closure sees: the list, the place, the error -/
structure CallAt (A : Option Addr) (n c bl bi be : Nat) (k : Nat) (x : Int) (ev : Value) (w : World) : Prop where
  l : w.cell? ⟨bl, 0, none⟩ = some (.slice A n c)
  i : w.cell? ⟨bi, 0, none⟩ = some (.int .i64 k)
  e : w.cell? ⟨be, 0, none⟩ = some ev
  x : ∃ b o, A = some ⟨b, o, none⟩ ∧ w.cell? ⟨b, o + k, none⟩ = some (.int .i64 x)
  k : k < n
theorem CallAt.below {A : Option Addr} {n c bl bi be k : Nat} {x : Int} {ev : Value} {w w' : World} (h : CallAt A n c bl bi be k x ev w) (hb : Below w.heap.size w w') : CallAt A n c bl bi be k x ev w' := by
  obtain ⟨b, o, h1, h2⟩ := h.x
  exact ⟨(World.cell?_of_block (hb.block _ (World.block_lt_of_cell? w _ h.l))).trans h.l, (World.cell?_of_block (hb.block _ (World.block_lt_of_cell? w _ h.i))).trans h.i, (World.cell?_of_block (hb.block _ (World.block_lt_of_cell? w _ h.e))).trans h.e, ⟨b, o, h1, (World.cell?_of_block (hb.block _ (World.block_lt_of_cell? w _ h2))).trans h2⟩, h.k⟩
abbrev atV (b : Nat) : Value := .iface 99 (.pointer (some ⟨b, 0, none⟩))
/-- an At as it lies -/
structure AtAt (b : Nat) (z : Int) (e : Value) (W : World) : Prop where
  p : W.cell? ⟨b, 0, none⟩ = some (.int .i64 z)
  e : W.cell? ⟨b, 1, none⟩ = some e
theorem AtAt.below {b : Nat} {z : Int} {e : Value} {W W' : World} (h : AtAt b z e W) (hb : Below W.heap.size W W') : AtAt b z e W' :=
  ⟨(World.cell?_of_block (hb.block _ (World.block_lt_of_cell? W _ h.p))).trans h.p, (World.cell?_of_block (hb.block _ (World.block_lt_of_cell? W _ h.e))).trans h.e⟩
theorem AtAt.new (W : World) (z : Int) (e : Value) : AtAt W.heap.size z e (W.alloc (.cells #[.int .i64 z, e] 101)) := ⟨by simp [go_sem], by simp [go_sem]⟩

theorem drB {w w' : World} (h : Below w.drew.heap.size w.drew w') : Below w.heap.size w w' := (Below.drewNr (w := w) 1).trans h
theorem fail_any (z : Int) (a : Addr) (w : World) : Calls Tryz.prog 49 #[.int .i64 z, errV a] w fun e w' => e = .panicked [entry (thrownV (atV w.heap.size))] ∧ w' = w.alloc (.cells #[.int .i64 z, errV a] 101) := by
  go_enter Tryz.func49, Tryz.ntmps49
  go_wp2
  exact ⟨rfl, rfl, rfl⟩
theorem failn_any (E : Nat → Addr) (z : Int) (w : World) (h : ErrsAt E w) : Calls Tryz.prog 49 #[.int .i64 z, .nilIface] w fun e w' => e = .panicked [entry (thrownV (atV w.heap.size))] ∧ w' = w.alloc (.cells #[.int .i64 z, errV (E 5)] 101) := by
  have c5 := h.c 5 (by decide)
  have c5 : w.cell? ⟨5, 0, none⟩ = some (errV (E 5)) := c5
  go_enter Tryz.func49, Tryz.ntmps49
  go_wp2
  exact ⟨rfl, rfl, rfl⟩
theorem placed_any (c z : Int) (w : World) (hc : c ≠ 0) : Calls Tryz.prog 71 #[.int .i64 c, .int .i64 z] w fun e w' => e = .returned (.agg (frow c true z)) ∧ Below w.heap.size w w' := by
  have hc0 : (c == 0) = false := by simpa using hc
  have hr := heap_alloc_new w (.cells #[.int .i64 0, .bool false, .int .i64 0] 76)
  have hb0 : Below w.heap.size w (w.alloc (.cells #[.int .i64 0, .bool false, .int .i64 0] 76)) := (Below.refl _ _).alloc (Nat.le_refl _) _
  go_enter Tryz.func71, Tryz.ntmps71
  go_wp2_with (refine wpList_store_row rfl 76 _ _ rfl _ (frow c true z) rfl rfl _ _ hr (by kernel_rfl) rfl (frow_one _ _ _) ?_)
  refine bodyPost_ret (results_cell_row rfl _ _ _ _ _ _ _ rfl (setRow_heap _ _ _ _ _ _ hr) Tryz.underlying76 rfl (by kernel_rfl)) rfl ?_
  exact ⟨rfl, below_setRow hb0 (Nat.le_refl _) _⟩

section
variable {P : Program} {ops : Array Oper} {l : List Sp} {a : Act} {w : World}
theorem owes_nil (i : Nat) (dst : Option Tmp) (anc : List Nat) (x : Operand) (p : Addr) (hop : ∀ v, ops[i]?.map (fun o => (o.op, Region.wanted o (yielded ops (fr l anc a v).tmps))) = some (.nilCheck x, true))
    (hx : ∀ v, (fr l anc a v).eval x = .pointer (some p)) : Owes P ops l a w (Sp.k i dst anc (.pointer (some p))) :=
  owes_pure i dst anc _ _ hop fun v w' _ _ o ho => by unfold execOp; simp only [ho, hx v]; rfl
theorem owes_field (i : Nat) (dst : Option Tmp) (anc : List Nat) (r : Value) (t : TypeId) (x : Operand) (k : Nat) (vx : Value) (hop : ∀ v, ops[i]?.map (fun o => (o.op, Region.wanted o (yielded ops (fr l anc a v).tmps))) = some (.fieldAddr t x k, true))
    (hx : ∀ v, (fr l anc a v).eval x = vx) (he : ∀ w, (Instr.fieldAt t vx k).run P w = .ok r w) : Owes P ops l a w (Sp.k i dst anc r) :=
  owes_pure i dst anc r _ hop fun v w' _ _ o ho => by unfold execOp; simp only [ho, hx v, Sem.run_bind, he w']; rfl
end
theorem load_er (a : Addr) (v : Value) (w : World) (h : w.cell? a = some v) : (Instr.loadAt 46 (.pointer (some a))).run Tryz.prog w = .ok v w := by
  have h2 := Tryz.underlying46
  go_simp
theorem load_it (a : Addr) (v : Value) (w : World) (h : w.cell? a = some v) : (Instr.loadAt 3 (.pointer (some a))).run Tryz.prog w = .ok v w := by
  have h2 := Tryz.underlying3
  go_simp

theorem assert_at (b : Nat) (w : World) : (Instr.typeAssert (atV b) 46 99 true).run Tryz.prog w = .ok (.tuple #[.pointer (some ⟨b, 0, none⟩), .bool true]) w := by kernel_rfl
structure SameT (w : World) (B : Nat) (r : Array Value) (W : World) : Prop where
  r : W.rangeAt B 0 r.toList
  lt : B < W.heap.size
  b : Below w.heap.size w W
theorem SameT.below {w : World} {B : Nat} {d : Array Value} {W W' : World} (x : SameT w B d W) (hb : Below W.heap.size W W') : SameT w B d W' :=
  ⟨rangeAt_below x.r hb x.lt, Nat.lt_of_lt_of_le x.lt hb.size, x.b.trans (hb.mono x.b.size)⟩
/-- all of the first n blocks but S are as they were -/
structure Oth (S n : Nat) (w w' : World) : Prop where
  os : w'.os = w.os
  tape : w'.tape = w.tape
  output : w'.output = w.output
  size : w.heap.size ≤ w'.heap.size
  block : ∀ q, q < n → q ≠ S → w'.heap[q]? = w.heap[q]?
theorem Oth.of {S n : Nat} {w w' : World} (h : Below n w w') : Oth S n w w' := ⟨h.os, h.tape, h.output, h.size, fun q hq _ => h.block q hq⟩
theorem Oth.trans {S n m : Nat} {a b c : World} (h : Oth S n a b) (k : Oth S m b c) (hn : n ≤ m) : Oth S n a c :=
  ⟨k.os.trans h.os, k.tape.trans h.tape, k.output.trans h.output, Nat.le_trans h.size k.size, fun q hq hs => (k.block q (by omega) hs).trans (h.block q hq hs)⟩
theorem Oth.setCell {S n : Nat} {a w : World} (h : Oth S n a w) (p : Addr) (hp : p.block = S ∨ n ≤ p.block) (v : Value) : Oth S n a (w.setCell p v) := by
  refine ⟨h.os, h.tape, h.output, by simpa [World.setCell] using h.size, fun q hq hs => ?_⟩
  rw [Below.heap_setCell _ _ _ _ (by rcases hp with hp | hp <;> omega)]
  exact h.block q hq hs
theorem Oth.below {S n B : Nat} {a w : World} (h : Oth S n a w) (hS : B ≤ S) (hn : B ≤ n) : Below B a w := ⟨h.os, h.tape, h.output, h.size, fun q hq => h.block q (by omega) (by omega)⟩
theorem Oth.cell {S n : Nat} {a w : World} (h : Oth S n a w) {q : Nat} (i : Nat) (h1 : q < n) (h2 : q ≠ S) : w.cell? ⟨q, i, none⟩ = a.cell? ⟨q, i, none⟩ := World.cell?_of_block (h.block q h1 h2)
theorem Oth.frozen {S n : Nat} {a w : World} (h : Oth S n a w) {q : Nat} (h1 : q < n) (h2 : q ≠ S) : w.frozen? ⟨q, 0, none⟩ = a.frozen? ⟨q, 0, none⟩ := by
  have := h.block q h1 h2
  simp only [World.frozen?, this]
theorem tried_size (w : World) : (tried w).heap.size = w.heap.size + 2 := by simp [tried]
theorem Kept.oth {S : Nat} {w w' : World} (hS : S < w.heap.size) (h : Oth S (w.heap.size + 2) (tried w) w') : Kept w.heap.size w' := by
  refine ⟨(h.cell 0 (by omega) (by omega)).trans ?_, (h.frozen (by omega) (by omega)).trans ?_, (h.cell 0 (by omega) (by omega)).trans ?_, (h.frozen (by omega) (by omega)).trans ?_⟩ <;> simp [tried, go_sem]

set_option maxRecDepth 100000 in
set_option maxHeartbeats 800000 in
/-- f falls: what is told of it -/
theorem try_falls2 (k : FuncId) (cap : Array Value) (w : World) (R : Value → TypeId → Value → World → Prop) (u : TypeId) (hk : ∀ args w, (callFunc k args).run Tryz.prog w = .ok (.enter k args) w)
    (hc : Calls Tryz.prog k cap (tried w) fun e w' => ∃ pv rt rp, e = .panicked [entry (.iface u pv)] ∧ Kept w.heap.size w' ∧ w.heap.size + 2 ≤ w'.heap.size ∧ R pv rt rp w')
    (hcaught : ∀ pv rt rp W, R pv rt rp W → Calls Tryz.prog 67 #[.iface u pv] W fun e w' => e = .returned (.iface rt rp) ∧ Below W.heap.size W w') :
    Calls Tryz.prog 45 #[.func (.func k) #[] cap] w fun e w' => ∃ pv rt rp, e = .returned (.iface rt rp) ∧ ∃ W, R pv rt rp W ∧ Oth w.heap.size W.heap.size W w' := by
  unfold tried at hc
  have hmf : ∀ (fn : Fn) (first cap : Array Value) (w : World), (Instr.makeFunc fn first cap).run Tryz.prog w = .ok (.func fn first cap) w := fun _ _ _ _ => rfl
  go_enter_defers Tryz.func45, Tryz.ntmps45
  go_wp2_with fail
  refine hc.mono ?_
  rintro e W ⟨pv, rt, rp, rfl, hK, hsz, hR⟩
  clear hc hk
  go_wp2_with fail
  refine leaves_cons (f := 66) (args := #[.pointer (some ⟨w.heap.size + 1, 0, none⟩), .pointer (some ⟨w.heap.size, 0, none⟩)]) (by simp) (by simp [go_sem]) ?_
  refine (catch_panic ⟨w.heap.size + 1, 0, none⟩ ⟨w.heap.size, 0, none⟩ u rt pv rp [] W (fun w' => w'.cell? ⟨w.heap.size, 0, none⟩ = some (.iface rt rp) ∧ ∃ V, R pv rt rp V ∧ Oth w.heap.size V.heap.size V w') hK.c1 ?_).mono ?_
  · refine (hcaught pv rt rp W hR).mono ?_
    rintro e w' ⟨rfl, hb⟩
    have c0 : w'.cell? ⟨w.heap.size, 0, none⟩ = some .nilIface := (hb.cell (p := ⟨w.heap.size, 0, none⟩) (show w.heap.size < W.heap.size by omega)).trans hK.c0
    have f0 : w'.frozen? ⟨w.heap.size, 0, none⟩ = false := (hb.frozen (p := ⟨w.heap.size, 0, none⟩) (show w.heap.size < W.heap.size by omega)).trans hK.f0
    have hcell : (w'.setCell ⟨w.heap.size, 0, none⟩ (.iface rt rp)).cell? ⟨w.heap.size, 0, none⟩ = some (.iface rt rp) := by simp [go_sem, c0]
    exact ⟨rfl, ⟨_, c0⟩, f0, hcell, W, hR, Oth.setCell (S := w.heap.size) (Oth.of hb) ⟨w.heap.size, 0, none⟩ (.inl rfl) (.iface rt rp)⟩
  rintro e u' w'' ⟨rfl, rfl, hc0, HB⟩
  have HB := Lib.hid HB
  simp [Leaves, settle, results, Tryz.results45, go_sem, hc0]
  exact ⟨pv, rt, rp, ⟨rfl, rfl⟩, HB.out⟩

set_option maxRecDepth 100000 in
set_option maxHeartbeats 800000 in
/-- Try of nothing to call -/
theorem try_nil (E : Nat → Addr) (w : World) (hE : ErrsAt E w) :
    Calls Tryz.prog 45 #[.nilFunc] w fun e w' => e = .returned (errV (E 5)) ∧ Below w.heap.size w w' := by
  have hmf : ∀ (fn : Fn) (first cap : Array Value) (w : World), (Instr.makeFunc fn first cap).run Tryz.prog w = .ok (.func fn first cap) w := fun _ _ _ _ => rfl
  go_enter_defers Tryz.func45, Tryz.ntmps45
  go_wp2_with fail
  have c1 : (tried w).cell? ⟨w.heap.size + 1, 0, none⟩ = some (.bool false) := by simp [tried, go_sem]
  refine leaves_cons (f := 66) (args := #[.pointer (some ⟨w.heap.size + 1, 0, none⟩), .pointer (some ⟨w.heap.size, 0, none⟩)]) (by simp) (by simp [go_sem]) ?_
  refine (catch_panic ⟨w.heap.size + 1, 0, none⟩ ⟨w.heap.size, 0, none⟩ 10 140 (strVal "invalid memory address or nil pointer dereference") (.pointer (some (E 5))) [] (tried w) (fun w' => w'.cell? ⟨w.heap.size, 0, none⟩ = some (errV (E 5)) ∧ Below w.heap.size w w') c1 ?_).mono ?_
  · refine (caught_other E 10 (by decide) _ (tried w) (hE.below (tried_below w))).mono ?_
    rintro e w' ⟨rfl, hb⟩
    have c0 : w'.cell? ⟨w.heap.size, 0, none⟩ = some .nilIface := (hb.cell (p := ⟨w.heap.size, 0, none⟩) (by rw [tried_size]; show w.heap.size < w.heap.size + 2; omega)).trans (by simp [tried, go_sem])
    have f0 : w'.frozen? ⟨w.heap.size, 0, none⟩ = false := (hb.frozen (p := ⟨w.heap.size, 0, none⟩) (by rw [tried_size]; show w.heap.size < w.heap.size + 2; omega)).trans (by simp [tried, go_sem])
    have hcell : (w'.setCell ⟨w.heap.size, 0, none⟩ (errV (E 5))).cell? ⟨w.heap.size, 0, none⟩ = some (errV (E 5)) := by simp [go_sem, c0]
    have hbel : Below w.heap.size w (w'.setCell ⟨w.heap.size, 0, none⟩ (errV (E 5))) := ((tried_below w).trans (hb.mono (by rw [tried_size]; omega))).setCell (p := ⟨w.heap.size, 0, none⟩) (Nat.le_refl _) _
    exact ⟨rfl, ⟨_, c0⟩, f0, hcell, hbel⟩
  rintro e u' w'' ⟨rfl, rfl, hc0, HB⟩
  have HB := Lib.hid HB
  simp [Leaves, settle, results, Tryz.results45, go_sem, hc0]
  exact HB.out
end Go.Proofs.YtffkjbbhbpaacaaGreatDoor
