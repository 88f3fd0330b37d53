import Derived.Test.YtocjmlncpjfnfaaDoorErr
import Derived.Defers
import Derived.Recover
import Derived.PanicsStand
import Derived.Laws.NewBlocks
import Derived.Test.YtocjmlncpjfnfaaDoorIdx
/-
  trap: what is thrown, what is caught.
  trap.Try.
  courierlaw2: what comes first.
  courierlaw2: errors by their numbers; TrapCalls.
-/
namespace Go.Proofs.YtocjmlncpjfnfaaDoor
open Go.RowKit

/-- what Must and Fail throw -/
def thrownV (e : Value) : Value := .iface 129 (.agg #[e])
abbrev entry (v : Value) : PanicEntry := { v := v, recovered := false }

theorem caught_thrown (t : TypeId) (p : Value) (w : World) : Calls Tryd.prog 86 #[thrownV (.iface t p)] w fun x w' => x = .returned (.iface t p) ∧ Below w.heap.size w w' := by
  unfold thrownV
  have hta : ∀ W, (Instr.typeAssert (.iface 129 (.agg #[.iface t p])) 20 129 true).run Tryd.prog W = .ok (.tuple #[.agg #[.iface t p], .bool true]) W := fun _ => by kernel_rfl
  go_enter Tryd.func86, Tryd.ntmps86
  go_wp2
  go_ret
  exact ⟨rfl, by go_grown⟩
theorem zero_thrown (W : World) : (zeroValue 129).run Tryd.prog W = .ok (.agg #[.nilIface]) W := by kernel_rfl
theorem assert_other (t : TypeId) (ht : t ≠ 129) (v : Value) (W : World) : (Instr.typeAssert (.iface t v) 20 129 true).run Tryd.prog W = .ok (.tuple #[.agg #[.nilIface], .bool false]) W := by
  unfold Instr.typeAssert
  simp only [Sem.run_bind, run_underlying Tryd.underlying129, Result.andThen_ok]
  rw [if_neg ht]
  simp only [if_true, Sem.run_bind, zero_thrown, Result.andThen_ok]
  rfl
theorem caught_other (E : Nat → Addr) (t : TypeId) (ht : t ≠ 129) (v : Value) (w : World) (h : ErrsAt E w) : Calls Tryd.prog 86 #[.iface t v] w fun x w' => x = .returned (errV (E 5)) ∧ Below w.heap.size w w' := by
  have hlt : 3 < w.heap.size := h.ltG (i := 5) (by decide)
  have c5 : ∀ o, (w.alloc o).cell? ⟨3, 0, none⟩ = some (errV (E 5)) := fun o => (World.cell?_alloc_past _ _ _ hlt).trans (h.c 5 (by decide))
  have hta := assert_other t ht v
  go_enter Tryd.func86, Tryd.ntmps86
  go_wp2
  go_ret
  exact ⟨rfl, by go_grown⟩
theorem catch_idle (p q : Addr) (w : World) (hp : w.cell? p = some (.bool true)) :
    CallsD Tryd.prog 85 #[.pointer (some p), .pointer (some q)] .returning w fun e u' w' => e = .returned (.tuple #[]) ∧ u' = .returning ∧ w' = w := by
  refine callsD_of_wpS Tryd.func85 rfl fun c₀ cs hu => ?_
  apply wpS_seq
  apply wpS_region
  simp [wpOpsS, go_sem, hp, Tryd.ntmps85, Exit.thenS]
  refine wpS_cond (t := false) (by simp [Act.eval, Array.replicate]) ?_
  simp only [Bool.false_eq_true, if_false]
  refine wpS_of_wp (wp_skip ?_)
  cases c₀
  simp_all [bodyPostS, results, Tryd.results85]

theorem catch_panic (p q : Addr) (u rt : TypeId) (pv rp : Value) (older : List PanicEntry) (w : World) (R : World → Prop) (hp : w.cell? p = some (.bool false))
    (hc : Calls Tryd.prog 86 #[.iface u pv] w fun e w' => e = .returned (.iface rt rp) ∧ (∃ z, w'.cell? q = some z) ∧ w'.frozen? q = false ∧ R (w'.setCell q (.iface rt rp))) :
    CallsD Tryd.prog 85 #[.pointer (some p), .pointer (some q)] (.panicking (entry (.iface u pv) :: older)) w fun e u' w' =>
      e = .returned (.tuple #[]) ∧ u' = .panicking ({ v := .iface u pv, recovered := true } :: older) ∧ R w' := by
  refine callsD_of_wpS Tryd.func85 rfl fun c₀ cs hu => ?_
  apply wpS_seq
  apply wpS_region
  simp [wpOpsS, go_sem, hp, Tryd.ntmps85, Exit.thenS]
  refine wpS_cond (t := true) (by simp [Act.eval, Array.replicate]) ?_
  simp only [if_true]
  apply wpS_region
  simp [wpOpsS, go_sem, recoverD, hu]
  refine hc.mono ?_
  rintro e w' ⟨rfl, ⟨z, hz⟩, hf, hR⟩
  simp [go_sem, hz, hf, bodyPostS, results, Tryd.results85, hR]

/-- Try's own two variables, where f has come to its end or has fallen: as they were made -/
structure Kept (B : Nat) (w' : World) : Prop where
  c0 : w'.cell? ⟨B, 0, none⟩ = some .nilIface
  f0 : w'.frozen? ⟨B, 0, none⟩ = false
  c1 : w'.cell? ⟨B + 1, 0, none⟩ = some (.bool false)
  f1 : w'.frozen? ⟨B + 1, 0, none⟩ = false
/-- the world in which f is called -/
def tried (w : World) : World := (w.alloc (.cells #[.nilIface] 38)).alloc (.cells #[.bool false] 4)

set_option maxRecDepth 100000 in
set_option maxHeartbeats 800000 in
/-- f comes to its end -/
theorem try_calm (k : FuncId) (cap : Array Value) (w : World) (R : World → Prop) (hk : ∀ args w, (callFunc k args).run Tryd.prog w = .ok (.enter k args) w)
    (hc : Calls Tryd.prog k cap (tried w) fun e w' => e = .returned (.tuple #[]) ∧ Kept w.heap.size w' ∧ R w') :
    Calls Tryd.prog 66 #[.func (.func k) #[] cap] w fun e w' => e = .returned .nilIface ∧ ∃ W, R W ∧ Below w.heap.size W w' := by
  unfold tried at hc
  have hmf : ∀ (fn : Fn) (first cap : Array Value) (w : World), (Instr.makeFunc fn first cap).run Tryd.prog w = .ok (.func fn first cap) w := fun _ _ _ _ => rfl
  go_enter_defers Tryd.func66, Tryd.ntmps66
  go_wp2_with fail
  refine hc.mono ?_
  rintro e W ⟨rfl, hK, hR⟩
  have c0 := hK.c0
  have f0 := hK.f0
  have c1 := hK.c1
  have f1 := hK.f1
  have hb : Below w.heap.size W ((W.setCell ⟨w.heap.size + 1, 0, none⟩ (.bool true)).setCell ⟨w.heap.size, 0, none⟩ .nilIface) := (Below.refl w.heap.size W |>.setCell (by simp) _).setCell (by simp) _
  clear hc hk
  go_wp2_with fail
  refine leaves_cons (f := 85) (args := #[.pointer (some ⟨w.heap.size + 1, 0, none⟩), .pointer (some ⟨w.heap.size, 0, none⟩)]) (by simp) (by simp [go_sem]) ?_
  refine (catch_idle ⟨w.heap.size + 1, 0, none⟩ ⟨w.heap.size, 0, none⟩ _ ?_).mono ?_
  · simp [go_sem, c1]
  rintro e u' w'' ⟨rfl, rfl, rfl⟩
  have hc0 : ((W.setCell ⟨w.heap.size + 1, 0, none⟩ (.bool true)).setCell ⟨w.heap.size, 0, none⟩ .nilIface).cell? ⟨w.heap.size, 0, none⟩ = some .nilIface := by simp [go_sem, c0]
  have HB := Lib.hid (⟨W, hR, hb⟩ : ∃ V, R V ∧ Below w.heap.size V ((W.setCell ⟨w.heap.size + 1, 0, none⟩ (.bool true)).setCell ⟨w.heap.size, 0, none⟩ .nilIface))
  clear hb hR
  generalize (W.setCell ⟨w.heap.size + 1, 0, none⟩ (.bool true)).setCell ⟨w.heap.size, 0, none⟩ .nilIface = W2 at *
  simp [Leaves, settle, results, Tryd.results66, go_sem, hc0]
  exact HB.out

set_option maxRecDepth 100000 in
set_option maxHeartbeats 800000 in
/-- f falls: what is told of it -/
theorem try_falls (k : FuncId) (cap : Array Value) (w : World) (R : World → Prop) (u rt : TypeId) (pv rp : Value) (hk : ∀ args w, (callFunc k args).run Tryd.prog w = .ok (.enter k args) w)
    (hc : Calls Tryd.prog k cap (tried w) fun e w' => e = .panicked [entry (.iface u pv)] ∧ Kept w.heap.size w' ∧ w.heap.size + 2 ≤ w'.heap.size ∧ R w')
    (hcaught : ∀ W, R W → Calls Tryd.prog 86 #[.iface u pv] W fun e w' => e = .returned (.iface rt rp) ∧ Below W.heap.size W w') :
    Calls Tryd.prog 66 #[.func (.func k) #[] cap] w fun e w' => e = .returned (.iface rt rp) ∧ ∃ W, R W ∧ Below w.heap.size W w' := by
  unfold tried at hc
  have hmf : ∀ (fn : Fn) (first cap : Array Value) (w : World), (Instr.makeFunc fn first cap).run Tryd.prog w = .ok (.func fn first cap) w := fun _ _ _ _ => rfl
  go_enter_defers Tryd.func66, Tryd.ntmps66
  go_wp2_with fail
  refine hc.mono ?_
  rintro e W ⟨rfl, hK, hsz, hR⟩
  clear hc hk
  go_wp2_with fail
  refine leaves_cons (f := 85) (args := #[.pointer (some ⟨w.heap.size + 1, 0, none⟩), .pointer (some ⟨w.heap.size, 0, none⟩)]) (by simp) (by simp [go_sem]) ?_
  refine (catch_panic ⟨w.heap.size + 1, 0, none⟩ ⟨w.heap.size, 0, none⟩ u rt pv rp [] W (fun w' => w'.cell? ⟨w.heap.size, 0, none⟩ = some (.iface rt rp) ∧ ∃ V, R V ∧ Below w.heap.size V w') hK.c1 ?_).mono ?_
  · refine (hcaught W hR).mono ?_
    rintro e w' ⟨rfl, hb⟩
    have c0 : w'.cell? ⟨w.heap.size, 0, none⟩ = some .nilIface := (hb.cell (p := ⟨w.heap.size, 0, none⟩) (show w.heap.size < W.heap.size by omega)).trans hK.c0
    have f0 : w'.frozen? ⟨w.heap.size, 0, none⟩ = false := (hb.frozen (p := ⟨w.heap.size, 0, none⟩) (show w.heap.size < W.heap.size by omega)).trans hK.f0
    have hcell : (w'.setCell ⟨w.heap.size, 0, none⟩ (.iface rt rp)).cell? ⟨w.heap.size, 0, none⟩ = some (.iface rt rp) := by simp [go_sem, c0]
    have hbel : Below w.heap.size W (w'.setCell ⟨w.heap.size, 0, none⟩ (.iface rt rp)) := (hb.mono (show w.heap.size ≤ W.heap.size by omega)).setCell (p := ⟨w.heap.size, 0, none⟩) (Nat.le_refl _) _
    exact ⟨rfl, ⟨_, c0⟩, f0, hcell, W, hR, hbel⟩
  rintro e u' w'' ⟨rfl, rfl, hc0, HB⟩
  have HB := Lib.hid HB
  simp [Leaves, settle, results, Tryd.results66, go_sem, hc0]
  exact HB.out

/-- where nothing was there that has turned: Try's own variables are as they were made -/
theorem Kept.below {w w' : World} (h : Below (w.heap.size + 2) (tried w) w') : Kept w.heap.size w' := by
  have hs : (tried w).heap.size = w.heap.size + 2 := by simp [tried]
  refine ⟨?_, ?_, ?_, ?_⟩
  · rw [h.cell (p := ⟨w.heap.size, 0, none⟩) (show w.heap.size < w.heap.size + 2 by omega)]; simp [tried, go_sem]
  · rw [h.frozen (p := ⟨w.heap.size, 0, none⟩) (show w.heap.size < w.heap.size + 2 by omega)]; simp [tried, go_sem]
  · rw [h.cell (p := ⟨w.heap.size + 1, 0, none⟩) (show w.heap.size + 1 < w.heap.size + 2 by omega)]; simp [tried, go_sem]
  · rw [h.frozen (p := ⟨w.heap.size + 1, 0, none⟩) (show w.heap.size + 1 < w.heap.size + 2 by omega)]; simp [tried, go_sem]
theorem tried_below (w : World) : Below w.heap.size w (tried w) := ((Below.refl _ _).alloc (Nat.le_refl _) _).alloc (by simp) _
/-- Try of what turns nothing that was there, and comes to its end -/
theorem try_calm_below (k : FuncId) (cap : Array Value) (w : World) (hk : ∀ args w, (callFunc k args).run Tryd.prog w = .ok (.enter k args) w)
    (hc : Calls Tryd.prog k cap (tried w) fun e w' => e = .returned (.tuple #[]) ∧ Below (w.heap.size + 2) (tried w) w') :
    Calls Tryd.prog 66 #[.func (.func k) #[] cap] w fun e w' => e = .returned .nilIface ∧ Below w.heap.size w w' := by
  refine (try_calm k cap w (fun W => Below w.heap.size w W) hk (hc.mono ?_)).mono ?_
  · rintro e w' ⟨h1, h2⟩
    exact ⟨h1, Kept.below h2, (tried_below w).trans (h2.mono (by omega))⟩
  · rintro e w' ⟨h1, W, h2, h3⟩
    exact ⟨h1, h2.trans h3⟩
theorem try_falls_below (E : Nat → Addr) (k : FuncId) (cap : Array Value) (w : World) (u rt : TypeId) (pv rp : Value) (hE : ErrsAt E w) (hk : ∀ args w, (callFunc k args).run Tryd.prog w = .ok (.enter k args) w)
    (hc : Calls Tryd.prog k cap (tried w) fun e w' => e = .panicked [entry (.iface u pv)] ∧ Below (w.heap.size + 2) (tried w) w')
    (hcaught : ∀ W, ErrsAt E W → Calls Tryd.prog 86 #[.iface u pv] W fun e w' => e = .returned (.iface rt rp) ∧ Below W.heap.size W w') :
    Calls Tryd.prog 66 #[.func (.func k) #[] cap] w fun e w' => e = .returned (.iface rt rp) ∧ Below w.heap.size w w' := by
  have hs : (tried w).heap.size = w.heap.size + 2 := by simp [tried]
  refine (try_falls k cap w (fun W => Below w.heap.size w W) u rt pv rp hk (hc.mono ?_) (fun W hW => hcaught W (hE.below hW))).mono ?_
  · rintro e w' ⟨h1, h2⟩
    exact ⟨h1, Kept.below h2, by have := h2.size; omega, (tried_below w).trans (h2.mono (by omega))⟩
  · rintro e w' ⟨h1, W, h2, h3⟩
    exact ⟨h1, h2.trans h3⟩
/-- Try of a throw of one of the errors -/
theorem try_must (E : Nat → Addr) (i : Nat) (k : FuncId) (cap : Array Value) (w : World) (hE : ErrsAt E w) (hk : ∀ args w, (callFunc k args).run Tryd.prog w = .ok (.enter k args) w)
    (hc : Calls Tryd.prog k cap (tried w) fun e w' => e = .panicked [entry (thrownV (errV (E i)))] ∧ Below (w.heap.size + 2) (tried w) w') :
    Calls Tryd.prog 66 #[.func (.func k) #[] cap] w fun e w' => e = .returned (errV (E i)) ∧ Below w.heap.size w w' :=
  try_falls_below E k cap w _ _ _ _ hE hk hc fun W _ => caught_thrown _ _ W

def eidx (j : Nat) : Nat := [0, 1, 2, 3, 4, 5, 6, 8, 9, 13].getD j 0
def errL (E : Nat → Addr) : List Value := [errV (E 0), errV (E 1), errV (E 2), errV (E 3), errV (E 4), errV (E 5), errV (E 6), errV (E 8), errV (E 9), errV (E 13)]
def codL : List Value := [.int .i64 101, .int .i64 102, .int .i64 103, .int .i64 104, .int .i64 105, .int .i64 106, .int .i64 107, .int .i64 109, .int .i64 110, .int .i64 114]
theorem errL_get (E : Nat → Addr) (j : Nat) (h : j < 10) : (errL E)[j]? = some (errV (E (eidx j))) := by
  rcases j with _ | _ | _ | _ | _ | _ | _ | _ | _ | _ | j
  all_goals first | rfl | omega
theorem codL_get (j : Nat) (h : j < 10) : codL[j]? = some (.int .i64 (101 + (eidx j : Int))) := by
  rcases j with _ | _ | _ | _ | _ | _ | _ | _ | _ | _ | j
  all_goals first | rfl | omega
theorem eidx_lt (j : Nat) : eidx j < 19 := by
  unfold eidx
  rcases j with _ | _ | _ | _ | _ | _ | _ | _ | _ | _ | j
  all_goals simp
/-- what errs answers -/
def ErrsPost (E : Nat → Addr) (n : Int) (w : World) (e : Ending) (w' : World) : Prop := e = .returned (.tuple #[errV (E (eidx (n % 10).toNat)), .int .i64 (101 + (eidx (n % 10).toNat : Int))]) ∧ Below w.heap.size w w'

/-- what TrapCalls' closure sees: the list, the place, the error -/
structure CallAt (A : Option Addr) (n c bl bi be : Nat) (k : Nat) (x : Int) (ev : Value) (w : World) : Prop where
  l : w.cell? ⟨bl, 0, none⟩ = some (.slice A n c)
  i : w.cell? ⟨bi, 0, none⟩ = some (.int .i64 k)
  e : w.cell? ⟨be, 0, none⟩ = some ev
  x : ∃ b o, A = some ⟨b, o, none⟩ ∧ w.cell? ⟨b, o + k, none⟩ = some (.int .i64 x)
  k : k < n
theorem CallAt.below {A : Option Addr} {n c bl bi be k : Nat} {x : Int} {ev : Value} {w w' : World} (h : CallAt A n c bl bi be k x ev w) (hb : Below w.heap.size w w') : CallAt A n c bl bi be k x ev w' := by
  obtain ⟨b, o, h1, h2⟩ := h.x
  exact ⟨(World.cell?_of_block (hb.block _ (World.block_lt_of_cell? w _ h.l))).trans h.l, (World.cell?_of_block (hb.block _ (World.block_lt_of_cell? w _ h.i))).trans h.i, (World.cell?_of_block (hb.block _ (World.block_lt_of_cell? w _ h.e))).trans h.e, ⟨b, o, h1, (World.cell?_of_block (hb.block _ (World.block_lt_of_cell? w _ h2))).trans h2⟩, h.k⟩
end Go.Proofs.YtocjmlncpjfnfaaDoor
