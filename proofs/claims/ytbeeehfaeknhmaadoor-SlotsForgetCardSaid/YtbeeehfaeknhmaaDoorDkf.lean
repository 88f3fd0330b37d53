import Derived.Test.YtbeeehfaeknhmaaDoorDke
/-
  disk: one sector turned; settle.
-/
namespace Go.Proofs.YtbeeehfaeknhmaaDoor
open Go.RowKit

def pvSet (pv : Nat → Value) (i : Nat) (v : Value) : Nat → Value := fun j => if j = i then v else pv j
section
variable {w w' : World} {n D R : Nat} {ss : List Sec} {off : Bool} {fuse : Int} {pv : Nat → Value}
theorem DkS.sec (h : DkS w n D R ss off fuse pv) (i : Nat) (s s' : Sec) (hs : ss[i]? = some s) (v : Value)
    (hR : ∀ o, (o < i * 129 ∨ i * 129 + 129 ≤ o) → w'.cell? ⟨R, o, none⟩ = w.cell? ⟨R, o, none⟩) (hf : ∀ o, w'.frozen? ⟨R, o, none⟩ = false)
    (hd : w'.rangeAt R (i * 129) (bcells s'.dur)) (hp : w'.cell? ⟨R, i * 129 + 128, none⟩ = some v) (ho : w'.ownsRow n 90 128 v s'.pend.length (conts s'.pend))
    (hrow : ∀ k, k ≠ R → k < w.heap.size → (pv i).ownBlock ≠ some k → w'.heap[k]? = w.heap[k]?) (hnew : ∀ g, v.ownBlock = some g → (pv i).ownBlock = some g ∨ w.heap.size ≤ g) :
    DkS w' n D R (ss.set i s') off fuse (pvSet pv i v) := by
  have hi := (List.getElem?_eq_some_iff.1 hs).1
  have hD : w'.heap[D]? = w.heap[D]? := hrow D h.ne h.ltD (fun e => (h.sep i hi D e).1 rfl)
  have hc : ∀ j t, (ss.set i s')[j]? = some t → (j = i ∧ t = s') ∨ (j ≠ i ∧ ss[j]? = some t) := fun j t ht => by
    rw [List.getElem?_set] at ht
    split at ht
    · rename_i e
      subst e
      exact .inl ⟨rfl, (Option.some.inj ht).symm⟩
    · rename_i e
      exact .inr ⟨fun e2 => e e2.symm, ht⟩
  have hu : pvSet pv i v i = v := if_pos rfl
  have hv : ∀ j, j ≠ i → pvSet pv i v j = pv j := fun j hj => if_neg hj
  refine ⟨?_, (World.cell?_of_block hD).trans h.offc, (World.cell?_of_block hD).trans h.fusc, fun o => ⟨(World.frozen?_of_block hD).trans (h.frz o).1, hf o⟩, ?_, ?_, ?_, h.ne, ?_, h.low, by rw [List.length_set]; exact h.len, h.fz⟩
  · rw [World.cell?_of_block hD, List.length_set]
    exact h.hdr
  · intro j t ht q u hq
    rcases hc j t ht with ⟨rfl, rfl⟩ | ⟨hj, ht'⟩
    · exact hd q u hq
    · have hl := (List.getElem?_eq_some_iff.1 hq).1
      rw [bcells_len, t.hd] at hl
      rw [hR _ (by omega)]
      exact h.dur j t ht' q u hq
  · intro j t ht
    rcases hc j t ht with ⟨rfl, rfl⟩ | ⟨hj, ht'⟩
    · rw [hu]; exact hp
    · rw [hv j hj, hR _ (by omega)]
      exact h.pnd j t ht'
  · intro j t ht
    rcases hc j t ht with ⟨rfl, rfl⟩ | ⟨hj, ht'⟩
    · rw [hu]; exact ho
    · rw [hv j hj]
      have hjl := (List.getElem?_eq_some_iff.1 ht').1
      exact own_kept (h.own j t ht') fun k hk => hrow k (h.sep j hjl k hk).2.1 ((h.own j t ht').lt k hk).2 (fun e => (h.sep j hjl k hk).2.2 i hi (fun e2 => hj e2.symm) e)
  · intro j hj g hg
    rw [List.length_set] at hj
    by_cases hji : j = i
    · subst hji
      rw [hu] at hg
      rcases hnew g hg with h1 | h1
      · obtain ⟨a, b, c⟩ := h.sep j hj g h1
        exact ⟨a, b, fun q hq hne => by rw [List.length_set] at hq; rw [hv q hne]; exact c q hq hne⟩
      · refine ⟨fun e => ?_, fun e => ?_, fun q hq hne e => ?_⟩
        · have := h.ltD; omega
        · have := h.ltR; omega
        · rw [List.length_set] at hq
          rw [hv q hne] at e
          have := ((h.own q ss[q] (List.getElem?_eq_getElem hq)).lt g e).2
          omega
    · rw [hv j hji] at hg
      obtain ⟨a, b, c⟩ := h.sep j hj g hg
      refine ⟨a, b, fun q hq hne => ?_⟩
      rw [List.length_set] at hq
      by_cases hqi : q = i
      · subst hqi
        rw [hu]
        intro e
        rcases hnew g e with h1 | h1
        · exact c q hq hne h1
        · have := ((h.own j ss[j] (List.getElem?_eq_getElem hj)).lt g hg).2
          omega
      · rw [hv q hqi]
        exact c q hq hne
theorem bcells_there (h : DkS w n D R ss off fuse pv) (i : Nat) (s : Sec) (hs : ss[i]? = some s) : w.there R (i * 129) 128 := fun j hj => by
  have e := h.dur i s hs j (bcells s.dur)[j]! (by
    rw [List.getElem!_eq_getElem?_getD, List.getElem?_eq_getElem (by rw [bcells_len, s.hd]; exact hj)]
    rfl)
  exact ⟨by rw [e]; rfl, (h.frz _).2⟩
/-- settled -/
theorem DkS.settled (h : DkS w n D R ss off fuse pv) (i : Nat) (s : Sec) (hs : ss[i]? = some s) (c : List UInt8) (hc : c.length = 128) :
    DkS ((w.setCells R (i * 129) (bcells c)).setCell ⟨R, i * 129 + 128, none⟩ (.slice none 0 0)) n D R (ss.set i ⟨c, [], hc, by simp⟩) off fuse (pvSet pv i (.slice none 0 0)) ∧ Turn (· = R) w ((w.setCells R (i * 129) (bcells c)).setCell ⟨R, i * 129 + 128, none⟩ (.slice none 0 0)) := by
  have ht := bcells_there h i s hs
  have hl : (bcells c).length = 128 := by rw [bcells_len, hc]
  have hblk : ∀ k, k ≠ R → k < w.heap.size → ((w.setCells R (i * 129) (bcells c)).setCell ⟨R, i * 129 + 128, none⟩ (.slice none 0 0)).heap[k]? = w.heap[k]? := fun k hk hks =>
    (Below.heap_setCell _ _ _ _ hk).trans ((grown_setCells w R _ _).block k hks (fun e => hk (Option.some.inj e)))
  refine ⟨h.sec i s _ hs _ ?_ ?_ ?_ ?_ ?_ (fun k hk hks _ => hblk k hk hks) (fun g hg => by cases hg), ?_⟩
  · intro o ho
    rw [World.cell?_setCell_other _ _ _ _ (by intro e; cases e; omega)]
    exact World.cell?_setCells_out R _ _ _ _ (fun _ _ => by rw [hl]; show o < _ ∨ _ ≤ o; omega)
  · intro o
    rw [frozen_setCell, World.frozen?_setCells]
    exact (h.frz o).2
  · intro j u hu
    have hj := (List.getElem?_eq_some_iff.1 hu).1
    rw [hl] at hj
    rw [World.cell?_setCell_other _ _ _ _ (by intro e; have e2 := congrArg Addr.off e; simp only at e2; omega)]
    exact World.rangeAt_setCells_same w R _ _ (by rw [hl]; exact ht) j u hu
  · refine World.cell?_setCell_same _ _ _ (u := pv i) ?_
    rw [World.cell?_setCells_out R _ _ _ _ (fun _ _ => by rw [hl]; right; exact Nat.le_refl _)]
    exact h.pnd i s hs
  · exact ⟨rfl, .inl ⟨rfl, rfl⟩⟩
  · exact Turn.of_grown (grown_trans (grown_setCells w R (i * 129) (bcells c)) (grown_setCell _ _ _)) (fun k hk => (Option.some.inj hk).symm)
set_option maxRecDepth 100000 in
set_option maxHeartbeats 800000 in
theorem settle_any (h : DkS w n D R ss off fuse pv) (i : Nat) (s : Sec) (hs : ss[i]? = some s) (c : List UInt8) (hc : c.length = 128) :
    Calls Tryd.prog 48 #[.pointer (some ⟨R, i * 129, none⟩), .agg (bcells c).toArray] w fun e w' => e = .returned (.tuple #[]) ∧ DkS w' n D R (ss.set i ⟨c, [], hc, by simp⟩) off fuse (pvSet pv i (.slice none 0 0)) ∧ Turn (· = R) w w' := by
  have hb := below_alc w (.cells (bcells c).toArray 90)
  have h0 := h.below hb
  have hr0 := heap1_0 w (.cells (bcells c).toArray 90)
  have HS := Lib.hid (h0.settled i s hs c hc)
  have HB := Lib.hid hb
  have ht := bcells_there h0 i s hs
  have hA := Lib.hid (bcells_all c)
  have hT : Hid ((bcells c).length = 128) := by rw [bcells_len]; exact hc
  have hp := (World.cell?_setCells_out R (bcells c) (i * 129) (w.alloc (.cells (bcells c).toArray 90)) ⟨R, i * 129 + 128, none⟩ (fun _ _ => by rw [hT.out]; right; exact Nat.le_refl _)).trans (h0.pnd i s hs)
  have hf : ((w.alloc (.cells (bcells c).toArray 90)).setCells R (i * 129) (bcells c)).frozen? ⟨R, i * 129 + 128, none⟩ = false := by
    rw [World.frozen?_setCells]
    exact (h0.frz _).2
  have h1 := one_pend
  have hR := h.ltR
  clear h h0 hb
  generalize bcells c = C at *
  go_enter Tryd.func48, Tryd.ntmps48
  go_wp2_with (first | (refine wpList_load_row rfl 90 _ rfl w.heap.size rfl _ _ _ _ hr0 Tryd.underlying90 rfl (by rw [List.size_toArray, hT.out]; exact info_C) ?_) | (refine wpList_store_mid rfl 90 _ _ rfl R (i * 129) C.toArray rfl rfl (by rw [List.size_toArray, hT.out]; exact ht) (by rw [List.size_toArray, hT.out]; exact info_C) hA.out ?_))
  go_end0
  exact ⟨rfl, HS.out.1, (Turn.of_below HB.out).trans HS.out.2 (fun q hq => .inl hq)⟩
end
end Go.Proofs.YtbeeehfaeknhmaaDoor
