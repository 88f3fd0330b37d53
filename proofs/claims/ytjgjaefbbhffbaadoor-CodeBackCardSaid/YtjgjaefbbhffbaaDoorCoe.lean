import Derived.Test.YtjgjaefbbhffbaaDoorCod
/-
  code: the laws' read.
-/
namespace Go.Proofs.YtjgjaefbbhffbaaDoor
open Go.RowKit

theorem lread_idle (p : Addr) (w : World) :
    CallsD Tryd.prog 47 #[.pointer (some p)] .returning w fun e u' w' => e = .returned (.tuple #[]) ∧ u' = .returning ∧ w' = w := by
  refine callsD_of_wpS Tryd.func47 rfl fun c₀ cs hu => ?_
  apply wpS_seq
  apply wpS_region
  simp [wpOpsS, go_sem, recoverD, hu, Tryd.ntmps47, Exit.thenS]
  refine wpS_cond (t := false) (by simp [Act.eval, Array.replicate]) ?_
  simp only [Bool.false_eq_true, if_false]
  refine wpS_of_wp (wp_skip ?_)
  cases c₀
  simp_all [bodyPostS, results, Tryd.results47]
set_option maxRecDepth 100000 in
set_option maxHeartbeats 800000 in
theorem lread0_any (S V : Value) (w : World) (X : Value → World → Prop)
    (hc : Calls Tryd.prog 48 #[S, V] (w.alloc (.cells #[.nilIface] 46)) fun e w' => ∃ v, e = .returned v ∧ (v = .nilIface ∨ ∃ t p, v = .iface t p) ∧ w'.cell? ⟨w.heap.size, 0, none⟩ = some .nilIface ∧ w'.frozen? ⟨w.heap.size, 0, none⟩ = false ∧ X v (w'.setCell ⟨w.heap.size, 0, none⟩ v)) :
    Calls Tryd.prog 21 #[S, V] w fun e w' => ∃ v, e = .returned v ∧ X v w' := by
  have hmf : ∀ (fn : Fn) (first cap : Array Value) (w : World), (Instr.makeFunc fn first cap).run Tryd.prog w = .ok (.func fn first cap) w := fun _ _ _ _ => rfl
  go_enter_defers Tryd.func21, Tryd.ntmps21
  go_wp2_with fail
  refine hc.mono ?_
  rintro e W ⟨v, rfl, hv, c0, f0, hX⟩
  have HB := Lib.hid hX
  clear hc hX
  rcases hv with rfl | ⟨t, p, rfl⟩
  all_goals
    go_wp2_with fail
    refine leaves_cons (f := 47) (args := #[.pointer (some ⟨w.heap.size, 0, none⟩)]) (by simp) (by simp [go_sem]) ?_
    refine (lread_idle ⟨w.heap.size, 0, none⟩ _).mono ?_
    rintro e u' w'' ⟨rfl, rfl, rfl⟩
  · have hc0 : (W.setCell ⟨w.heap.size, 0, none⟩ .nilIface).cell? ⟨w.heap.size, 0, none⟩ = some .nilIface := by simp [go_sem, c0]
    generalize W.setCell ⟨w.heap.size, 0, none⟩ .nilIface = W2 at *
    simp [Leaves, settle, results, Tryd.results21, go_sem, hc0]
    exact HB.out
  · have hc0 : (W.setCell ⟨w.heap.size, 0, none⟩ (.iface t p)).cell? ⟨w.heap.size, 0, none⟩ = some (.iface t p) := by simp [go_sem, c0]
    generalize W.setCell ⟨w.heap.size, 0, none⟩ (.iface t p) = W2 at *
    simp [Leaves, settle, results, Tryd.results21, go_sem, hc0]
    exact HB.out

/-- read: what f makes of the Reader, what is told -/
theorem lread_any (E : Nat → Addr) (k : FuncId) (cap : Array Value) (A : Option Addr) (xs : List Int) (ca : Nat) (w : World) (G : Nat → Prop) (P : Option (Nat × Int) → World → Prop)
    (hk : ∀ args w, (callFunc k args).run Tryd.prog w = .ok (.enter k args) w) (hA : SlRead w A (ints .u8 xs)) (hl : xs.length ≤ 100000)
    (hT : 0 < xs.length → w.cell? ⟨4, 0, none⟩ = some (errV (E 3))) (hTG : ¬ G 4) (hG : ∀ q, G q → q < w.heap.size)
    (hP : ∀ o W W', P o W → w.heap.size ≤ W.heap.size → Turn (fun q => w.heap.size ≤ q) W W' → P o W')
    (hf : ∀ w1 R A1 c1, Below w.heap.size w w1 → RdS w1 R A1 xs 0 c1 → w.heap.size ≤ R → (∀ a, A1 = some a → w.heap.size ≤ a.block) →
      Calls Tryd.prog k (#[.pointer (some ⟨R, 0, none⟩)] ++ cap) w1 fun e w2 => ∃ o, Turn (fun q => G q ∨ q = R) w1 w2 ∧ EndsAs E R A1 xs c1 w1.heap.size o e w2 ∧ P o w2) :
    Calls Tryd.prog 21 #[.slice A xs.length ca, .func (.func k) #[] cap] w fun e w' => ∃ v, e = .returned v ∧ ∃ o, TellR E o v w' ∧ P o w' ∧ Turn G w w' := by
  have hb := below_alc w (.cells #[.nilIface] 46)
  have hs : (w.alloc (.cells #[.nilIface] 46)).heap.size = w.heap.size + 1 := by simp
  have hc0 : (w.alloc (.cells #[.nilIface] 46)).cell? ⟨w.heap.size, 0, none⟩ = some .nilIface := by simp [go_sem]
  have hf0 : (w.alloc (.cells #[.nilIface] 46)).frozen? ⟨w.heap.size, 0, none⟩ = false := by simp [go_sem]
  refine lread0_any _ _ w (fun v w' => ∃ o, TellR E o v w' ∧ P o w' ∧ Turn G w w') ?_
  generalize w.alloc (.cells #[.nilIface] 46) = W at *
  have hGw : ¬ G w.heap.size := fun h => by have := hG _ h; omega
  refine (cread_any E k cap A xs ca W G P hk (hA.below hb) hl (fun h0 => (hb.cell (p := ⟨4, 0, none⟩) (cell_lt (hT h0))).trans (hT h0)) hTG (fun q hq => by have := hG q hq; omega)
    (fun o V V' hp hs2 ht => hP o V V' hp (by omega) (ht.mono (fun q hq => by omega))) (fun w1 R A1 c1 hb1 hr hR hA1 => hf w1 R A1 c1 (hb.trans (hb1.mono (by omega))) hr (by omega) (fun a ha => by have := hA1 a ha; omega))).mono ?_
  rintro e V ⟨o, v, rfl, htell, hp, ht⟩
  have hc : V.cell? ⟨w.heap.size, 0, none⟩ = some .nilIface := (ht.cell (by omega) hGw).trans hc0
  have hset : Turn (· = w.heap.size) V (V.setCell ⟨w.heap.size, 0, none⟩ v) := Turn.of_grown (grown_setCell V _ _) (fun k hk => (Option.some.inj hk).symm)
  have hsv := ht.size
  refine ⟨v, rfl, ?_, hc, (World.frozen?_of_block (ht.block w.heap.size (by omega) hGw)).trans hf0, o, ?_, hP o V _ hp (by omega) (hset.mono (fun q hq => by omega)), ?_⟩
  · cases o with
    | none => exact .inl htell
    | some kz => obtain ⟨_, bt, rfl, _⟩ := htell; exact .inr ⟨_, _, rfl⟩
  · cases o with
    | none => exact htell
    | some kz =>
      obtain ⟨h1, bt, rfl, hat⟩ := htell
      have hne : ¬ bt = w.heap.size := fun h => by
        have h2 := hat.p
        rw [h, hc] at h2
        cases h2
      exact ⟨h1, bt, rfl, (hset.cell (cell_lt hat.p) hne).trans hat.p, (hset.cell (cell_lt hat.p) hne).trans hat.e⟩
  · have h1 : Turn (fun q => G q ∨ w.heap.size ≤ q) w V := ((Turn.of_below (F := fun q => G q ∨ w.heap.size ≤ q) hb).trans ht (fun q hq => .inl (.inl hq)))
    have h2 := h1.trans hset (fun q hq => .inr (by omega))
    exact ⟨h2.os, h2.tape, h2.output, h2.size, fun q hq hF => h2.block q hq (fun hh => by
      rcases hh with hh | hh
      · exact hF hh
      · omega)⟩

/-- nothing to read, nothing read -/
theorem first1_any (v : Value) (w : World) : Calls Tryd.prog 44 #[v] w fun e w' => e = .returned (.tuple #[]) ∧ w' = w := by
  go_enter Tryd.func44, Tryd.ntmps44
  go_wp2
  go_end0
  exact ⟨rfl, rfl⟩
theorem read_first (w : World) : Calls Tryd.prog 21 #[.slice none 0 0, .func (.func 44) #[] #[]] w fun e w' => e = .returned .nilIface ∧ Below w.heap.size w w' := by
  refine (lread_any (fun _ => ⟨0, 0, none⟩) 44 #[] none [] 0 w (fun _ => False) (fun o _ => o = none) (fun _ _ => by kernel_rfl) SlRead.nil_ (by simp) (fun h => absurd h (by simp)) id (fun _ h => h.elim) (fun _ _ _ h _ _ => h) ?_).mono ?_
  · intro w1 R A1 c1 _ hr _ _
    refine (first1_any _ w1).mono ?_
    rintro e w2 ⟨rfl, rfl⟩
    exact ⟨none, Turn.of_below (Below.refl _ _), .inl ⟨rfl, 0, hr, rfl⟩, rfl⟩
  · rintro e w' ⟨v, rfl, o, h1, rfl, h3⟩
    exact ⟨by rw [show v = .nilIface from h1], h3.os, h3.tape, h3.output, h3.size, fun q hq => h3.block q hq id⟩
end Go.Proofs.YtjgjaefbbhffbaaDoor
