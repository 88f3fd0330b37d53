import Derived.Test.YtocjmlncpjfnfaaDoorCob
import Derived.Test.YtocjmlncpjfnfaaDoorTrh
import Derived.Laws.EntriesVeiled
/-
  code: a Reader in memory; Read.
-/
namespace Go.Proofs.YtocjmlncpjfnfaaDoor
open Go.RowKit

set_option maxRecDepth 100000 in
set_option maxHeartbeats 1600000 in
/-- Try of what ends, or falls by what was thrown -/
theorem try_both (k : FuncId) (cap : Array Value) (w : World) (R1 : World → Prop) (R2 : TypeId → Value → World → Prop) (hk : ∀ args w, (callFunc k args).run Tryd.prog w = .ok (.enter k args) w)
    (hc : Calls Tryd.prog k cap (tried w) fun e w' => Kept w.heap.size w' ∧ w.heap.size + 2 ≤ w'.heap.size ∧ ((e = .returned (.tuple #[]) ∧ R1 w') ∨ ∃ rt rp, e = .panicked [entry (thrownV (.iface rt rp))] ∧ R2 rt rp w')) :
    Calls Tryd.prog 66 #[.func (.func k) #[] cap] w fun e w' => ∃ v W, e = .returned v ∧ ((v = .nilIface ∧ R1 W) ∨ ∃ rt rp, v = .iface rt rp ∧ R2 rt rp W) ∧ w.heap.size + 2 ≤ W.heap.size ∧ Turn (fun q => q = w.heap.size ∨ q = w.heap.size + 1) W w' := by
  unfold tried at hc
  have hmf : ∀ (fn : Fn) (first cap : Array Value) (w : World), (Instr.makeFunc fn first cap).run Tryd.prog w = .ok (.func fn first cap) w := fun _ _ _ _ => rfl
  go_enter_defers Tryd.func66, Tryd.ntmps66
  go_wp2_with fail
  refine hc.mono ?_
  rintro e W ⟨hK, hsz, ⟨rfl, hR⟩ | ⟨rt, rp, rfl, hR⟩⟩
  · clear hc hk
    have c0 := hK.c0
    have f0 := hK.f0
    have c1 := hK.c1
    have f1 := hK.f1
    have hb : Turn (fun q => q = w.heap.size ∨ q = w.heap.size + 1) W ((W.setCell ⟨w.heap.size + 1, 0, none⟩ (.bool true)).setCell ⟨w.heap.size, 0, none⟩ .nilIface) := (Turn.of_grown (grown_setCell W ⟨w.heap.size + 1, 0, none⟩ (.bool true)) (fun k hk => .inr (Option.some.inj hk).symm)).trans (Turn.of_grown (F := fun q => q = w.heap.size ∨ q = w.heap.size + 1) (grown_setCell _ ⟨w.heap.size, 0, none⟩ .nilIface) (fun k hk => .inl (Option.some.inj hk).symm)) (fun _ h => .inl h)
    go_wp2_with fail
    refine leaves_cons (f := 85) (args := #[.pointer (some ⟨w.heap.size + 1, 0, none⟩), .pointer (some ⟨w.heap.size, 0, none⟩)]) (by simp) (by simp [go_sem]) ?_
    refine (catch_idle ⟨w.heap.size + 1, 0, none⟩ ⟨w.heap.size, 0, none⟩ _ ?_).mono ?_
    · simp [go_sem, c1]
    rintro e u' w'' ⟨rfl, rfl, rfl⟩
    have hc0 : ((W.setCell ⟨w.heap.size + 1, 0, none⟩ (.bool true)).setCell ⟨w.heap.size, 0, none⟩ .nilIface).cell? ⟨w.heap.size, 0, none⟩ = some .nilIface := by simp [go_sem, c0]
    have HB := Lib.hid (And.intro hR (And.intro hsz hb))
    clear hb hR
    generalize (W.setCell ⟨w.heap.size + 1, 0, none⟩ (.bool true)).setCell ⟨w.heap.size, 0, none⟩ .nilIface = W2 at *
    simp [Leaves, settle, results, Tryd.results66, go_sem, hc0]
    exact ⟨W, HB.out.1, HB.out.2⟩
  · clear hc hk
    go_wp2_with fail
    refine leaves_cons (f := 85) (args := #[.pointer (some ⟨w.heap.size + 1, 0, none⟩), .pointer (some ⟨w.heap.size, 0, none⟩)]) (by simp) (by simp [go_sem]) ?_
    refine (catch_panic ⟨w.heap.size + 1, 0, none⟩ ⟨w.heap.size, 0, none⟩ _ rt _ rp [] W (fun w' => w'.cell? ⟨w.heap.size, 0, none⟩ = some (.iface rt rp) ∧ Turn (fun q => q = w.heap.size ∨ q = w.heap.size + 1) W w') hK.c1 ?_).mono ?_
    · refine (caught_thrown rt rp W).mono ?_
      rintro e w' ⟨rfl, hb⟩
      have c0 : w'.cell? ⟨w.heap.size, 0, none⟩ = some .nilIface := (hb.cell (p := ⟨w.heap.size, 0, none⟩) (show w.heap.size < W.heap.size by omega)).trans hK.c0
      have f0 : w'.frozen? ⟨w.heap.size, 0, none⟩ = false := (hb.frozen (p := ⟨w.heap.size, 0, none⟩) (show w.heap.size < W.heap.size by omega)).trans hK.f0
      have hcell : (w'.setCell ⟨w.heap.size, 0, none⟩ (.iface rt rp)).cell? ⟨w.heap.size, 0, none⟩ = some (.iface rt rp) := by simp [go_sem, c0]
      exact ⟨rfl, ⟨_, c0⟩, f0, hcell, (Turn.of_below hb).trans (Turn.of_grown (F := fun q => q = w.heap.size ∨ q = w.heap.size + 1) (grown_setCell _ ⟨w.heap.size, 0, none⟩ _) (fun k hk => .inl (Option.some.inj hk).symm)) (fun _ h => .inl h)⟩
    rintro e u' w'' ⟨rfl, rfl, hc0, HB⟩
    have HB := Lib.hid (And.intro hR (And.intro hsz HB))
    simp [Leaves, settle, results, Tryd.results66, go_sem, hc0]
    exact ⟨W, ⟨rt, rp, ⟨rfl, rfl⟩, HB.out.1⟩, HB.out.2⟩

/-- a Reader as it lies -/
structure RdS (w : World) (R : Nat) (A : Option Addr) (xs : List Int) (p c : Nat) : Prop where
  c0 : w.cell? ⟨R, 0, none⟩ = some (.slice A xs.length c)
  c1 : w.cell? ⟨R, 1, none⟩ = some (.int .i64 (p : Int))
  f : w.frozen? ⟨R, 1, none⟩ = false
  rd : SlRead w A (ints .u8 xs)
  ap : 0 < xs.length → ∀ a, A = some a → a.block ≠ R
  le : p ≤ xs.length
  cl : xs.length ≤ c
theorem RdS.lt {w : World} {R : Nat} {A : Option Addr} {xs : List Int} {p c : Nat} (h : RdS w R A xs p c) : R < w.heap.size := cell_lt h.c0
theorem RdS.turn {F : Nat → Prop} {w w' : World} {R : Nat} {A : Option Addr} {xs : List Int} {p c : Nat} (h : RdS w R A xs p c) (ht : Turn F w w') (hR : ¬ F R) (hF : ∀ a, A = some a → ¬ F a.block) : RdS w' R A xs p c :=
  ⟨(ht.cell h.lt hR).trans h.c0, (ht.cell h.lt hR).trans h.c1, (World.frozen?_of_block (ht.block R h.lt hR)).trans h.f, h.rd.turn ht (fun _ => hF), h.ap, h.le, h.cl⟩
theorem RdS.turn0 {F : Nat → Prop} {w w' : World} {R : Nat} {A : Option Addr} {xs : List Int} {p c : Nat} (h : RdS w R A xs p c) (ht : Turn F w w') (hR : ¬ F R) (hF : 0 < xs.length → ∀ a, A = some a → ¬ F a.block) : RdS w' R A xs p c :=
  ⟨(ht.cell h.lt hR).trans h.c0, (ht.cell h.lt hR).trans h.c1, (World.frozen?_of_block (ht.block R h.lt hR)).trans h.f, h.rd.turn ht (fun h0 => hF (by simpa using h0)), h.ap, h.le, h.cl⟩
theorem RdS.below {w w' : World} {R : Nat} {A : Option Addr} {xs : List Int} {p c : Nat} (h : RdS w R A xs p c) (hb : Below w.heap.size w w') : RdS w' R A xs p c :=
  h.turn (Turn.of_below (F := fun _ => False) hb) id (fun _ _ => id)
/-- it moves -/
theorem RdS.move {w : World} {R : Nat} {A : Option Addr} {xs : List Int} {p c : Nat} (h : RdS w R A xs p c) (q : Nat) (hq : q ≤ xs.length) : RdS (w.setCell ⟨R, 1, none⟩ (.int .i64 (q : Int))) R A xs q c ∧ Turn (· = R) w (w.setCell ⟨R, 1, none⟩ (.int .i64 (q : Int))) := by
  have ht : Turn (· = R) w (w.setCell ⟨R, 1, none⟩ (.int .i64 (q : Int))) := Turn.of_grown (grown_setCell w _ _) (fun k hk => (Option.some.inj hk).symm)
  exact ⟨⟨by rw [World.cell?_setCell_other _ _ _ _ (by intro e; cases e)]; exact h.c0, World.cell?_setCell_same w _ _ h.c1, by rw [frozen_setCell]; exact h.f, h.rd.turn ht (fun h0 a ha => h.ap (by simpa using h0) a ha), h.ap, hq, h.cl⟩, ht⟩
/-- how f ends: what is then told -/
def EndsAs (E : Nat → Addr) (R : Nat) (A : Option Addr) (xs : List Int) (c lo : Nat) (o : Option (Nat × Int)) (e : Ending) (w : World) : Prop :=
  (e = .returned (.tuple #[]) ∧ ∃ p, RdS w R A xs p c ∧ o = if p < xs.length then some (3, (p : Int)) else none) ∨
  ∃ bt k z, e = .panicked [entry (thrownV (atV bt))] ∧ lo ≤ bt ∧ k < 19 ∧ AtAt bt z (errV (E k)) w ∧ o = some (k, z)
/-- what Read answers -/
def TellR (E : Nat → Addr) (o : Option (Nat × Int)) (v : Value) (w : World) : Prop :=
  match o with
  | none => v = .nilIface
  | some (k, z) => k < 19 ∧ ∃ bt, v = atV bt ∧ AtAt bt z (errV (E k)) w

set_option maxRecDepth 100000 in
theorem read1_any (k : FuncId) (cap : Array Value) (F C R : Nat) (w : World) (X : Ending → World → Prop) (hF : w.cell? ⟨F, 0, none⟩ = some (.func (.func k) #[] cap)) (hC : w.cell? ⟨C, 0, none⟩ = some (.pointer (some ⟨R, 0, none⟩)))
    (hk : ∀ args w, (callFunc k args).run Tryd.prog w = .ok (.enter k args) w) (hf : Calls Tryd.prog k (#[.pointer (some ⟨R, 0, none⟩)] ++ cap) w fun e w' => (e = .returned (.tuple #[]) ∨ ∃ ps, e = .panicked ps) ∧ X e w') :
    Calls Tryd.prog 67 #[.pointer (some ⟨F, 0, none⟩), .pointer (some ⟨C, 0, none⟩)] w X := by
  go_enter Tryd.func67, Tryd.ntmps67
  go_wp2_with fail
  refine hf.mono ?_
  rintro e w1 ⟨rfl | ⟨ps, rfl⟩, hX⟩
  · have hX := Lib.hid hX
    go_wp2_with fail
    go_end0
    exact hX.out
  · have hX := Lib.hid hX
    go_wp2_with fail
    exact ⟨rfl, hX.out⟩
end Go.Proofs.YtocjmlncpjfnfaaDoor
