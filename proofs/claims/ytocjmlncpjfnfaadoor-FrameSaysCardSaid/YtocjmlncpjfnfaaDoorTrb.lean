import Derived.Test.YtocjmlncpjfnfaaDoorTra
/-
  trap.Try.
-/
namespace Go.Proofs.YtocjmlncpjfnfaaDoor
open Go.RowKit

theorem catch_idle (p q : Addr) (w : World) (hp : w.cell? p = some (.bool true)) :
    CallsD Tryd.prog 85 #[.pointer (some p), .pointer (some q)] .returning w fun e u' w' => e = .returned (.tuple #[]) ∧ u' = .returning ∧ w' = w := by
  refine callsD_of_wpS Tryd.func85 rfl fun c₀ cs hu => ?_
  apply wpS_seq
  apply wpS_region
  simp [wpOpsS, go_sem, hp, Tryd.ntmps85, Exit.thenS]
  refine wpS_cond (t := false) (by simp [Act.eval, Array.replicate]) ?_
  simp only [Bool.false_eq_true, if_false]
  refine wpS_of_wp (wp_skip ?_)
  cases c₀
  simp_all [bodyPostS, results, Tryd.results85]

theorem catch_panic (p q : Addr) (u rt : TypeId) (pv rp : Value) (older : List PanicEntry) (w : World) (R : World → Prop) (hp : w.cell? p = some (.bool false))
    (hc : Calls Tryd.prog 86 #[.iface u pv] w fun e w' => e = .returned (.iface rt rp) ∧ (∃ z, w'.cell? q = some z) ∧ w'.frozen? q = false ∧ R (w'.setCell q (.iface rt rp))) :
    CallsD Tryd.prog 85 #[.pointer (some p), .pointer (some q)] (.panicking (entry (.iface u pv) :: older)) w fun e u' w' =>
      e = .returned (.tuple #[]) ∧ u' = .panicking ({ v := .iface u pv, recovered := true } :: older) ∧ R w' := by
  refine callsD_of_wpS Tryd.func85 rfl fun c₀ cs hu => ?_
  apply wpS_seq
  apply wpS_region
  simp [wpOpsS, go_sem, hp, Tryd.ntmps85, Exit.thenS]
  refine wpS_cond (t := true) (by simp [Act.eval, Array.replicate]) ?_
  simp only [if_true]
  apply wpS_region
  simp [wpOpsS, go_sem, recoverD, hu]
  refine hc.mono ?_
  rintro e w' ⟨rfl, ⟨z, hz⟩, hf, hR⟩
  simp [go_sem, hz, hf, bodyPostS, results, Tryd.results85, hR]

/-- Try's own two variables, where f has come to its end or has fallen: as they were made -/
structure Kept (B : Nat) (w' : World) : Prop where
  c0 : w'.cell? ⟨B, 0, none⟩ = some .nilIface
  f0 : w'.frozen? ⟨B, 0, none⟩ = false
  c1 : w'.cell? ⟨B + 1, 0, none⟩ = some (.bool false)
  f1 : w'.frozen? ⟨B + 1, 0, none⟩ = false
/-- the world in which f is called -/
def tried (w : World) : World := (w.alloc (.cells #[.nilIface] 38)).alloc (.cells #[.bool false] 4)

set_option maxRecDepth 100000 in
set_option maxHeartbeats 800000 in
/-- f comes to its end -/
theorem try_calm (k : FuncId) (cap : Array Value) (w : World) (R : World → Prop) (hk : ∀ args w, (callFunc k args).run Tryd.prog w = .ok (.enter k args) w)
    (hc : Calls Tryd.prog k cap (tried w) fun e w' => e = .returned (.tuple #[]) ∧ Kept w.heap.size w' ∧ R w') :
    Calls Tryd.prog 66 #[.func (.func k) #[] cap] w fun e w' => e = .returned .nilIface ∧ ∃ W, R W ∧ Below w.heap.size W w' := by
  unfold tried at hc
  have hmf : ∀ (fn : Fn) (first cap : Array Value) (w : World), (Instr.makeFunc fn first cap).run Tryd.prog w = .ok (.func fn first cap) w := fun _ _ _ _ => rfl
  go_enter_defers Tryd.func66, Tryd.ntmps66
  go_wp2_with fail
  refine hc.mono ?_
  rintro e W ⟨rfl, hK, hR⟩
  have c0 := hK.c0
  have f0 := hK.f0
  have c1 := hK.c1
  have f1 := hK.f1
  have hb : Below w.heap.size W ((W.setCell ⟨w.heap.size + 1, 0, none⟩ (.bool true)).setCell ⟨w.heap.size, 0, none⟩ .nilIface) := (Below.refl w.heap.size W |>.setCell (by simp) _).setCell (by simp) _
  clear hc hk
  go_wp2_with fail
  refine leaves_cons (f := 85) (args := #[.pointer (some ⟨w.heap.size + 1, 0, none⟩), .pointer (some ⟨w.heap.size, 0, none⟩)]) (by simp) (by simp [go_sem]) ?_
  refine (catch_idle ⟨w.heap.size + 1, 0, none⟩ ⟨w.heap.size, 0, none⟩ _ ?_).mono ?_
  · simp [go_sem, c1]
  rintro e u' w'' ⟨rfl, rfl, rfl⟩
  have hc0 : ((W.setCell ⟨w.heap.size + 1, 0, none⟩ (.bool true)).setCell ⟨w.heap.size, 0, none⟩ .nilIface).cell? ⟨w.heap.size, 0, none⟩ = some .nilIface := by simp [go_sem, c0]
  have HB := Lib.hid (⟨W, hR, hb⟩ : ∃ V, R V ∧ Below w.heap.size V ((W.setCell ⟨w.heap.size + 1, 0, none⟩ (.bool true)).setCell ⟨w.heap.size, 0, none⟩ .nilIface))
  clear hb hR
  generalize (W.setCell ⟨w.heap.size + 1, 0, none⟩ (.bool true)).setCell ⟨w.heap.size, 0, none⟩ .nilIface = W2 at *
  simp [Leaves, settle, results, Tryd.results66, go_sem, hc0]
  exact HB.out

set_option maxRecDepth 100000 in
set_option maxHeartbeats 800000 in
/-- f falls: what is told of it -/
theorem try_falls (k : FuncId) (cap : Array Value) (w : World) (R : World → Prop) (u rt : TypeId) (pv rp : Value) (hk : ∀ args w, (callFunc k args).run Tryd.prog w = .ok (.enter k args) w)
    (hc : Calls Tryd.prog k cap (tried w) fun e w' => e = .panicked [entry (.iface u pv)] ∧ Kept w.heap.size w' ∧ w.heap.size + 2 ≤ w'.heap.size ∧ R w')
    (hcaught : ∀ W, R W → Calls Tryd.prog 86 #[.iface u pv] W fun e w' => e = .returned (.iface rt rp) ∧ Below W.heap.size W w') :
    Calls Tryd.prog 66 #[.func (.func k) #[] cap] w fun e w' => e = .returned (.iface rt rp) ∧ ∃ W, R W ∧ Below w.heap.size W w' := by
  unfold tried at hc
  have hmf : ∀ (fn : Fn) (first cap : Array Value) (w : World), (Instr.makeFunc fn first cap).run Tryd.prog w = .ok (.func fn first cap) w := fun _ _ _ _ => rfl
  go_enter_defers Tryd.func66, Tryd.ntmps66
  go_wp2_with fail
  refine hc.mono ?_
  rintro e W ⟨rfl, hK, hsz, hR⟩
  clear hc hk
  go_wp2_with fail
  refine leaves_cons (f := 85) (args := #[.pointer (some ⟨w.heap.size + 1, 0, none⟩), .pointer (some ⟨w.heap.size, 0, none⟩)]) (by simp) (by simp [go_sem]) ?_
  refine (catch_panic ⟨w.heap.size + 1, 0, none⟩ ⟨w.heap.size, 0, none⟩ u rt pv rp [] W (fun w' => w'.cell? ⟨w.heap.size, 0, none⟩ = some (.iface rt rp) ∧ ∃ V, R V ∧ Below w.heap.size V w') hK.c1 ?_).mono ?_
  · refine (hcaught W hR).mono ?_
    rintro e w' ⟨rfl, hb⟩
    have c0 : w'.cell? ⟨w.heap.size, 0, none⟩ = some .nilIface := (hb.cell (p := ⟨w.heap.size, 0, none⟩) (show w.heap.size < W.heap.size by omega)).trans hK.c0
    have f0 : w'.frozen? ⟨w.heap.size, 0, none⟩ = false := (hb.frozen (p := ⟨w.heap.size, 0, none⟩) (show w.heap.size < W.heap.size by omega)).trans hK.f0
    have hcell : (w'.setCell ⟨w.heap.size, 0, none⟩ (.iface rt rp)).cell? ⟨w.heap.size, 0, none⟩ = some (.iface rt rp) := by simp [go_sem, c0]
    have hbel : Below w.heap.size W (w'.setCell ⟨w.heap.size, 0, none⟩ (.iface rt rp)) := (hb.mono (show w.heap.size ≤ W.heap.size by omega)).setCell (p := ⟨w.heap.size, 0, none⟩) (Nat.le_refl _) _
    exact ⟨rfl, ⟨_, c0⟩, f0, hcell, W, hR, hbel⟩
  rintro e u' w'' ⟨rfl, rfl, hc0, HB⟩
  have HB := Lib.hid HB
  simp [Leaves, settle, results, Tryd.results66, go_sem, hc0]
  exact HB.out

end Go.Proofs.YtocjmlncpjfnfaaDoor
