import Derived.Test.YtffkjbbhbpaacaaDoorHq
/-
  A drawn region whose last operations come behind all others, cut in two: the first part, in whatever order; then the last ones, in the text's.
-/
namespace Go.Proofs.YtffkjbbhbpaacaaDoor
open Go.RowKit

section
variable {P : Program} {ops : Array Oper} {Q : Exit → Act → World → Prop} {md : Region.Mode}

def cutB (md : Region.Mode) (ops : Array Oper) (m : Nat) : Bool :=
  decide (m ≤ ops.size) && ((List.range ops.size).all fun t => match ops[t]? with
    | none => false
    | some o => (o.after.all fun e => !Region.binds md e || decide (e.on < t)) && (decide (m ≤ t) || match o.guard with | none => true | some (g, _) => decide (g < m)) &&
      (decide (t < m) || (List.range t).all fun j => o.after.any fun e => Region.binds md e && (e.on == j || (decide (m ≤ e.on) && decide (j < e.on)))))
structure CutP (md : Region.Mode) (ops : Array Oper) (m : Nat) : Prop where
  le : m ≤ ops.size
  low : ∀ t o, ops[t]? = some o → ∀ e ∈ o.after, Region.binds md e = true → e.on < t
  grd : ∀ t o, t < m → ops[t]? = some o → ∀ g b, o.guard = some (g, b) → g < m
  tail : ∀ t o, m ≤ t → ops[t]? = some o → ∀ j, j < t → ∃ e ∈ o.after, Region.binds md e = true ∧ (e.on = j ∨ (m ≤ e.on ∧ j < e.on))
theorem cut_of {m : Nat} (h : cutB md ops m = true) : CutP md ops m := by
  simp only [cutB, Bool.and_eq_true, decide_eq_true_eq, List.all_eq_true, List.mem_range] at h
  obtain ⟨h1, h2⟩ := h
  have h3 : ∀ t o, ops[t]? = some o → (o.after.all fun e => !Region.binds md e || decide (e.on < t)) = true ∧ (decide (m ≤ t) || match o.guard with | none => true | some (g, _) => decide (g < m)) = true ∧
      (decide (t < m) || (List.range t).all fun j => o.after.any fun e => Region.binds md e && (e.on == j || (decide (m ≤ e.on) && decide (j < e.on)))) = true := fun t o ho => by
    have := h2 t (Array.getElem?_eq_some_iff.1 ho).1
    simp only [ho, Bool.and_eq_true] at this
    exact ⟨this.1.1, this.1.2, this.2⟩
  refine ⟨h1, fun t o ho e he hb => ?_, fun t o hm ho g b hg => ?_, fun t o hm ho j hj => ?_⟩
  · have := (h3 t o ho).1
    rw [Array.all_eq_true_iff_forall_mem] at this
    have := this e he
    simpa [hb] using this
  · have := (h3 t o ho).2.1
    rw [hg] at this
    simp only [Bool.or_eq_true, decide_eq_true_eq] at this
    omega
  · have := (h3 t o ho).2.2
    simp only [Bool.or_eq_true, decide_eq_true_eq, List.all_eq_true, List.mem_range] at this
    rcases this with h | h
    · omega
    · have := h j hj
      rw [Array.any_eq_true] at this
      obtain ⟨i, hi, he⟩ := this
      simp only [Bool.and_eq_true, Bool.or_eq_true, beq_iff_eq, decide_eq_true_eq] at he
      exact ⟨_, Array.getElem_mem hi, he.1, he.2⟩
def heads (ops : Array Oper) (m : Nat) : Array Oper := (ops.toList.take m).toArray
theorem heads_get {m t : Nat} (h : t < m) : (heads ops m)[t]? = ops[t]? := by
  unfold heads
  rw [List.getElem?_toArray, List.getElem?_take, if_pos h, Array.getElem?_toList]
theorem heads_none {m t : Nat} (h : m ≤ t) : (heads ops m)[t]? = none := by
  unfold heads
  rw [List.getElem?_toArray, List.getElem?_take, if_neg (by omega)]
/-- the first part ends so, and no other way -/
def Heads (N : Act → World → Prop) : Exit → Act → World → Prop
  | .normal, a, w => N a w
  | _, _, _ => False
theorem upon_then {o : Oper} {a : Act} {w : World} {K : Act → World → Prop} {N : Act → World → Prop} (h : o.wp P a w K (Heads N)) : o.wp P a w K Q := by
  unfold Oper.wp at *
  generalize (execOp a.eval o).run P w = r at *
  cases r with
  | ok n w' =>
    cases n <;> simp only [Oper.upon] at h ⊢ <;>
      first
        | exact h
        | exact Calls.mono h (fun e w'' he => by cases e <;> first | exact he | exact (he : False).elim | exact (let ⟨_, _, hf⟩ := he; (hf : False).elim))
        | exact (h : False).elim
  | halt x w' => cases x <;> simp only [Oper.upon] at h ⊢ <;> first | exact h | exact (h : False).elim
theorem wpOp_cut {m i : Nat} (hc : CutP md ops m) (hi : i < m) {a : Act} {w : World} {K : Act → World → Prop} {N : Act → World → Prop} (h : wpOp P (heads ops m) (Heads N) i K a w) : wpOp P ops Q i K a w := by
  unfold wpOp at *
  rw [heads_get hi] at h
  cases ho : ops[i]? with
  | none => simpa [ho] using h
  | some o =>
    simp only [ho] at h ⊢
    have hw : Region.wanted o (yielded (heads ops m) a.tmps) = Region.wanted o (yielded ops a.tmps) := by
      unfold Region.wanted
      cases hg : o.guard with
      | none => rfl
      | some gw =>
        obtain ⟨g, b⟩ := gw
        have := hc.grd i o hi ho g b hg
        simp only [yielded, heads_get this]
    rw [hw] at h
    split
    · rename_i hx
      rw [if_pos hx] at h
      rcases h with h | ⟨h1, h2⟩
      · exact .inl (upon_then h)
      · exact (let ⟨_, _, hf⟩ := h2; (hf : False).elim)
    · rename_i hx
      rw [if_neg hx] at h
      exact h
theorem tail_seq {m : Nat} (hf : CutP md ops m) : ∀ (r k : Nat), k + r = ops.size → m ≤ k → ∀ (fuel : Nat) (listed : Array Bool) (a : Act) (w : World), r ≤ fuel → listed.size = ops.size → (∀ i, i < ops.size → listed.getD i true = decide (i < k)) →
    wpOps P ops Q (List.range' k r) a w → wpAny P md ops Q fuel listed a w := by
  intro r
  induction r with
  | zero =>
    intro k hk hm fuel listed a w _ _ hL h
    have hr : Region.ready md ops listed = [] := by
      refine List.eq_nil_iff_forall_not_mem.2 fun i hi => ?_
      obtain ⟨h0, o, ho, _⟩ := mem_ready.1 hi
      have hil := (Array.getElem?_eq_some_iff.1 ho).1
      rw [hL _ hil] at h0
      simp at h0
      omega
    cases fuel with
    | zero => exact ⟨hr, h⟩
    | succ f => exact ⟨fun _ => h, by rw [hr]; simp⟩
  | succ r ih =>
    intro k hk hm fuel listed a w hfu hsz hL h
    obtain ⟨f, rfl⟩ : ∃ f, fuel = f + 1 := ⟨fuel - 1, by omega⟩
    obtain ⟨o, ho⟩ : ∃ o, ops[k]? = some o := ⟨ops[k]'(by omega), Array.getElem?_eq_getElem (by omega)⟩
    have hin : k ∈ Region.ready md ops listed := mem_ready.2 ⟨by rw [hL _ (by omega)]; simp, o, ho, fun e he hb => by
      have hel := hf.low k o ho e he hb
      have := hL e.on (by omega)
      simp only [Array.getD_eq_getD_getElem?] at this ⊢
      rcases hg : listed[e.on]? with _ | b
      · have := Array.getElem?_eq_none_iff.1 hg
        omega
      · rw [hg] at this; simpa [hel] using this⟩
    refine ⟨fun hr => (by rw [hr] at hin; cases hin), fun i hi => ?_⟩
    obtain ⟨h0, o', ho', haft⟩ := mem_ready.1 hi
    have hil := (Array.getElem?_eq_some_iff.1 ho').1
    have hik : i = k := by
      rw [hL _ hil] at h0
      simp at h0
      rcases Nat.lt_or_ge k i with hlt | hge
      · obtain ⟨e, he, hb, hor⟩ := hf.tail i o' (by omega) ho' k hlt
        have h1 := haft e he hb
        have h2 : e.on < k := by
          rcases Nat.lt_or_ge e.on ops.size with h' | h'
          · have h3 := hL e.on h'
            simp only [Array.getD_eq_getD_getElem?] at h1 h3
            rcases hg : listed[e.on]? with _ | b
            · rw [hg] at h1; simp at h1
            · rw [hg] at h1 h3; simp at h1 h3; rw [h1] at h3; simpa using h3.symm
          · simp only [Array.getD_eq_getD_getElem?] at h1
            rw [Array.getElem?_eq_none (by omega)] at h1
            cases h1
        rcases hor with h4 | h4
        · omega
        · omega
      · omega
    subst hik
    rw [List.range'_succ, wpOps_cons] at h
    refine wpOp_mono (fun a' w' h' => ih (i + 1) (by omega) (by omega) f _ a' w' (by omega) (by simpa using hsz) (fun j hj => ?_) h') h
    by_cases e : i = j
    · subst e; simp [hsz, hil]
    · rw [getD_set_ne true e, hL j hj]
      simp
      omega
theorem getD_flip {l : Array Bool} {j : Nat} (h : j < l.size) : l.getD j false = l.getD j true := by
  simp [Array.getD_eq_getD_getElem?, h]
theorem wpAny_cut {m : Nat} (hc : CutP md ops m) : ∀ (f : Nat) (lh l : Array Bool) (a : Act) (w : World), lh.size = m → l.size = ops.size → (∀ i, i < m → lh.getD i true = l.getD i true) → (∀ i, m ≤ i → i < ops.size → l.getD i true = false) →
    wpAny P md (heads ops m) (Heads (fun a w => wpOps P ops Q (List.range' m (ops.size - m)) a w)) f lh a w → wpAny P md ops Q (f + (ops.size - m)) l a w := by
  have hcle := hc.le
  have hall : ∀ (lh l : Array Bool), lh.size = m → l.size = ops.size → (∀ i, i < m → lh.getD i true = l.getD i true) → (∀ i, m ≤ i → i < ops.size → l.getD i true = false) → Region.ready md (heads ops m) lh = [] → ∀ i, i < ops.size → l.getD i true = decide (i < m) := by
    intro lh l h1 h2 h3 h4 hr
    have key : ∀ i, i < m → lh.getD i true = true := by
      intro i
      induction i using Nat.strongRecOn with
      | ind i ih =>
        intro hi
        rcases hb : lh.getD i true with _ | _
        · exfalso
          obtain ⟨o, ho⟩ : ∃ o, ops[i]? = some o := ⟨ops[i]'(by omega), Array.getElem?_eq_getElem (by omega)⟩
          have : i ∈ Region.ready md (heads ops m) lh := mem_ready.2 ⟨hb, o, by rw [heads_get hi]; exact ho, fun e he hbd => by
            have hlt := hc.low i o ho e he hbd
            rw [getD_flip (by omega)]
            exact ih e.on hlt (by omega)⟩
          rw [hr] at this
          cases this
        · rfl
    intro i hi
    by_cases him : i < m
    · rw [← h3 i him, key i him]; simp [him]
    · rw [h4 i (by omega) hi]; simp [him]
  intro f
  induction f with
  | zero =>
    intro lh l a w h1 h2 h3 h4 ⟨hr, hq⟩
    rw [Nat.zero_add]
    exact tail_seq hc (ops.size - m) m (by omega) (Nat.le_refl _) _ l a w (Nat.le_refl _) h2 (hall lh l h1 h2 h3 h4 hr) hq
  | succ f ih =>
    intro lh l a w h1 h2 h3 h4 ⟨hq, hs⟩
    by_cases hr : Region.ready md (heads ops m) lh = []
    · exact tail_seq hc (ops.size - m) m (by omega) (Nat.le_refl _) _ l a w (by omega) h2 (hall lh l h1 h2 h3 h4 hr) (hq hr)
    · rw [show f + 1 + (ops.size - m) = (f + (ops.size - m)) + 1 by omega]
      have hsub : ∀ i ∈ Region.ready md ops l, i < m ∧ i ∈ Region.ready md (heads ops m) lh := by
        intro i hi
        obtain ⟨h0, o, ho, haft⟩ := mem_ready.1 hi
        have hil := (Array.getElem?_eq_some_iff.1 ho).1
        by_cases him : i < m
        · refine ⟨him, mem_ready.2 ⟨by rw [h3 i him]; exact h0, o, by rw [heads_get him]; exact ho, fun e he hb => ?_⟩⟩
          have hlt := hc.low i o ho e he hb
          have := haft e he hb
          rw [getD_flip (by omega)] at this ⊢
          rw [h3 _ (by omega)]
          exact this
        · exfalso
          refine hr (List.eq_nil_iff_forall_not_mem.2 fun j hj => ?_)
          obtain ⟨k0, o2, ho2, _⟩ := mem_ready.1 hj
          have hjm : j < m := by
            rcases Nat.lt_or_ge j m with h | h
            · exact h
            · rw [heads_none h] at ho2; cases ho2
          obtain ⟨e, he, hb, hor⟩ := hc.tail i o (by omega) ho j (by omega)
          have hl := haft e he hb
          rcases hor with h5 | ⟨h5, h6⟩
          · rw [h5, getD_flip (by omega), ← h3 j hjm, k0] at hl
            cases hl
          · rcases Nat.lt_or_ge e.on ops.size with h7 | h7
            · rw [getD_flip (by omega), h4 _ h5 h7] at hl
              cases hl
            · simp [Array.getD_eq_getD_getElem?, Array.getElem?_eq_none (show l.size ≤ e.on by omega)] at hl
      refine ⟨fun h => ?_, fun i hi => ?_⟩
      · exfalso
        refine hr (List.eq_nil_iff_forall_not_mem.2 fun j hj => ?_)
        obtain ⟨k0, o2, ho2, haft⟩ := mem_ready.1 hj
        have hjm : j < m := by
          rcases Nat.lt_or_ge j m with h | h
          · exact h
          · rw [heads_none h] at ho2; cases ho2
        rw [heads_get hjm] at ho2
        have : j ∈ Region.ready md ops l := mem_ready.2 ⟨by rw [← h3 j hjm]; exact k0, o2, ho2, fun e he hb => by
          have hlt := hc.low j o2 ho2 e he hb
          have := haft e he hb
          rw [getD_flip (by omega)] at this ⊢
          rw [← h3 _ (by omega)]
          exact this⟩
        rw [h] at this
        cases this
      · obtain ⟨him, hin⟩ := hsub i hi
        refine wpOp_mono (fun a' w' h' => ih _ _ a' w' (by simpa using h1) (by simpa using h2) (fun j hj => ?_) (fun j hj hjs => ?_) h') (wpOp_cut hc him (hs i hin))
        · by_cases e : i = j
          · subst e
            simp [h1, h2, him, show i < ops.size by omega]
          · rw [getD_set_ne true e, getD_set_ne true e, h3 j hj]
        · rw [getD_set_ne true (by omega), h4 j hj hjs]
/-- the region, cut at m -/
theorem wp_region_held_cut {S : World → Prop} {id : Nat} {a : Act} {w : World} (m : Nat) (hm : P.follows .mixedOrders = true) (hc : cutB .any ops m = true) (hS : S w.drew)
    (h : S w.drew → wpAnyH P .any (heads ops m) (Heads (fun a w => wpList P ops Q (ops.toList.drop m) a w)) S m (Array.replicate m false) a w.drew) : (Code.region id ops true).wp P Q a w := by
  have hcp := cut_of hc
  have hle := hcp.le
  refine wp_region_any hm ?_
  have e : (fun (a : Act) (w : World) => wpList P ops Q (ops.toList.drop m) a w) = (fun a w => wpOps P ops Q (List.range' m (ops.size - m)) a w) := by
    funext a w
    rw [← wpOps_eq_wpList (ops.toList.drop m) m (by intro j; simp)]
    simp
  have h2 := wpAny_of_held _ _ _ _ (h hS)
  rw [e] at h2
  have h3 := wpAny_cut hcp m (Array.replicate m false) (Array.replicate ops.size false) a w.drew (by simp) (by simp) (fun i hi => by simp [hi, show i < ops.size by omega]) (fun i _ hi => by simp [hi]) h2
  rw [show m + (ops.size - m) = ops.size by omega] at h3
  exact h3
end
end Go.Proofs.YtffkjbbhbpaacaaDoor
