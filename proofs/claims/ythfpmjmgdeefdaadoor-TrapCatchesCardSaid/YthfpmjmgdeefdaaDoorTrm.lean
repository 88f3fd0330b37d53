import Derived.Test.YthfpmjmgdeefdaaDoorTrl
import Derived.Test.YthfpmjmgdeefdaaDoorTrdoor
/-
  TrapCatches: what Try tells.
-/
namespace Go.Proofs.YthfpmjmgdeefdaaDoor
open Go.RowKit

set_option maxRecDepth 100000 in
set_option maxHeartbeats 800000 in
/-- f falls: what is told of it -/
theorem try_falls3 (k : FuncId) (cap : Array Value) (w : World) (R : TypeId → Value → TypeId → Value → World → Prop) (hk : ∀ args w, (callFunc k args).run Tryd.prog w = .ok (.enter k args) w)
    (hc : Calls Tryd.prog k cap (tried w) fun e w' => ∃ u pv rt rp, e = .panicked [entry (.iface u pv)] ∧ Kept w.heap.size w' ∧ w.heap.size + 2 ≤ w'.heap.size ∧ R u pv rt rp w')
    (hcaught : ∀ u pv rt rp W, R u pv rt rp W → Calls Tryd.prog 34 #[.iface u pv] W fun e w' => e = .returned (.iface rt rp) ∧ Below W.heap.size W w') :
    Calls Tryd.prog 17 #[.func (.func k) #[] cap] w fun e w' => ∃ u pv rt rp, e = .returned (.iface rt rp) ∧ ∃ W, R u pv rt rp W ∧ Oth w.heap.size W.heap.size W w' := by
  unfold tried at hc
  have hmf : ∀ (fn : Fn) (first cap : Array Value) (w : World), (Instr.makeFunc fn first cap).run Tryd.prog w = .ok (.func fn first cap) w := fun _ _ _ _ => rfl
  go_enter_defers Tryd.func17, Tryd.ntmps17
  go_wp2_with fail
  refine hc.mono ?_
  rintro e W ⟨u, pv, rt, rp, rfl, hK, hsz, hR⟩
  clear hc hk
  go_wp2_with fail
  refine leaves_cons (f := 33) (args := #[.pointer (some ⟨w.heap.size + 1, 0, none⟩), .pointer (some ⟨w.heap.size, 0, none⟩)]) (by simp) (by simp [go_sem]) ?_
  refine (catch_panic ⟨w.heap.size + 1, 0, none⟩ ⟨w.heap.size, 0, none⟩ u rt pv rp [] W (fun w' => w'.cell? ⟨w.heap.size, 0, none⟩ = some (.iface rt rp) ∧ ∃ V, R u pv rt rp V ∧ Oth w.heap.size V.heap.size V w') hK.c1 ?_).mono ?_
  · refine (hcaught u pv rt rp W hR).mono ?_
    rintro e w' ⟨rfl, hb⟩
    have c0 : w'.cell? ⟨w.heap.size, 0, none⟩ = some .nilIface := (hb.cell (p := ⟨w.heap.size, 0, none⟩) (show w.heap.size < W.heap.size by omega)).trans hK.c0
    have f0 : w'.frozen? ⟨w.heap.size, 0, none⟩ = false := (hb.frozen (p := ⟨w.heap.size, 0, none⟩) (show w.heap.size < W.heap.size by omega)).trans hK.f0
    have hcell : (w'.setCell ⟨w.heap.size, 0, none⟩ (.iface rt rp)).cell? ⟨w.heap.size, 0, none⟩ = some (.iface rt rp) := by simp [go_sem, c0]
    exact ⟨rfl, ⟨_, c0⟩, f0, hcell, W, hR, Oth.setCell (S := w.heap.size) (Oth.of hb) ⟨w.heap.size, 0, none⟩ (.inl rfl) (.iface rt rp)⟩
  rintro e u' w'' ⟨rfl, rfl, hc0, HB⟩
  have HB := Lib.hid HB
  simp [Leaves, settle, results, Tryd.results17, go_sem, hc0]
  exact ⟨u, pv, rt, rp, ⟨rfl, rfl⟩, HB.out⟩


theorem told_any {E : Nat → Addr} {lo : Nat} {c : Int} {pl : Bool} {x : Int} {v : Value} {W : World} (hE : ErrsAt E W) (h : Got E lo c pl x v W) :
    ∀ W', Below W.heap.size W W' → Calls Tryd.prog 36 #[v] W' fun e w' => e = .returned (.agg (frow c pl x)) ∧ Below W'.heap.size W' w' := by
  intro W' hb
  rcases h with ⟨b, j, _, hj, rfl, ha, rfl, rfl⟩ | ⟨j, hj, rfl, rfl, rfl, rfl⟩
  · exact faulta_any E b j x hj W' (hE.below hb) (ha.below hb)
  · exact faulte_any E j hj W' (hE.below hb)

def caps (B : Nat) : Array Value := #[.pointer (some ⟨B + 2, 0, none⟩), .pointer (some ⟨B + 5, 0, none⟩), .pointer (some ⟨B, 0, none⟩), .pointer (some ⟨B + 1, 0, none⟩), .pointer (some ⟨B + 4, 0, none⟩), .pointer (some ⟨B + 3, 0, none⟩)]
theorem tryC_any (E : Nat → Addr) (w0 : World) (B h : Nat) (z : Int) (p q i : Nat) (W : World) (hh : h < 9) (hp : p ≤ 50) (hq : q ≤ 50) (hi : i < 19) (hC : CV E w0 B h z p q i 0 W) (HE : ∀ V, Below B w0 V → ErrsAt E V) :
    Calls Tryd.prog 17 #[.func (.func 23) #[] (caps B)] W fun e W' => ∃ v, e = .returned v ∧ CV E w0 B h z p q i (wantD h p q) W' ∧
      ∀ V, Below W'.heap.size W' V → Calls Tryd.prog 36 #[v] V fun e w' => e = .returned (.agg (frow (wantC h i) (wantP h) (if wantP h then z else 0))) ∧ Below V.heap.size V w' := by
  have hts := tried_size W
  have hl := hC.lt
  have hin := in_any E w0 B h z p q i (tried W) hh hp hq hi (hC.below hC.lt (tried_below W)) HE
  by_cases h2 : h = 2
  · subst h2
    refine (try_calm 23 (caps B) W (fun V => CV E w0 B 2 z p q i (wantD 2 p q) V) (fun _ _ => by kernel_rfl) (hin.mono ?_)).mono ?_
    · rintro e V ⟨h1, h3, h4 | h4⟩
      · exact ⟨h4.2, Kept.oth (S := B + 5) (by omega) (by rw [← hts]; exact h3), h1⟩
      · exact absurd rfl h4.1
    · rintro e W' ⟨rfl, V, h1, h3⟩
      exact ⟨_, rfl, h1.below hl h3, fun V _ => faultn_any V⟩
  · refine (try_falls3 23 (caps B) W (fun u pv rt rp V => CV E w0 B h z p q i (wantD h p q) V ∧ W.heap.size + 2 ≤ V.heap.size ∧ Got E (tried W).heap.size (wantC h i) (wantP h) (if wantP h then z else 0) (.iface rt rp) V ∧ ∀ V, ErrsAt E V → Calls Tryd.prog 34 #[.iface u pv] V fun e w' => e = .returned (.iface rt rp) ∧ Below V.heap.size V w') (fun _ _ => by kernel_rfl) (hin.mono ?_) ?_).mono ?_
    · rintro e V ⟨h1, h3, h4 | ⟨_, u, pv, rt, rp, rfl, h4, h5⟩⟩
      · exact absurd h4.1 h2
      · have hs := h3.size
        exact ⟨u, pv, rt, rp, rfl, Kept.oth (S := B + 5) (by omega) (by rw [← hts]; exact h3), by omega, h1, by omega, h4, h5⟩
    · rintro u pv rt rp V ⟨h1, h3, h4, h5⟩
      exact h5 V (HE V h1.b)
    · rintro e W' ⟨u, pv, rt, rp, rfl, V, ⟨h1, h3, h4, _⟩, h5⟩
      have h6 : CV E w0 B h z p q i (wantD h p q) W' := h1.below (Nat.le_refl (B + 6)) (h5.below (by omega) (by omega))
      refine ⟨_, rfl, h6, told_any (lo := W.heap.size) (HE W' h6.b) ?_⟩
      rcases h4 with ⟨b, j, hb, hj, e1, ha, e2, e3⟩ | h4
      · have hbl : b < V.heap.size := World.block_lt_of_cell? V _ ha.p
        exact .inl ⟨b, j, by omega, hj, e1, ⟨(h5.cell 0 hbl (by omega)).trans ha.p, (h5.cell 1 hbl (by omega)).trans ha.e⟩, e2, e3⟩
      · exact .inr h4
end Go.Proofs.YthfpmjmgdeefdaaDoor
