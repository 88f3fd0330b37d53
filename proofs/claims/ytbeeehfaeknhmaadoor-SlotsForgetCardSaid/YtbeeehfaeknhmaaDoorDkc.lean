import Derived.Test.YtbeeehfaeknhmaaDoorDkb
/-
  disk: a sector's content.
-/
namespace Go.Proofs.YtbeeehfaeknhmaaDoor
open Go.RowKit

def zc : List UInt8 := List.replicate 128 0
theorem zc_len : zc.length = 128 := by simp [zc]
theorem zc_cells : bcells zc = List.replicate 128 (.int .u8 0) := by simp [bcells, zc, cellB]
theorem info_C : (Tryd.prog.info? 90).map (·.size) = some 128 := by kernel_rfl
theorem size_C (w : World) : (sizeOf 90).run Tryd.prog w = .ok 128 w := by kernel_rfl
theorem size_S (w : World) : (sizeOf 93).run Tryd.prog w = .ok 129 w := by kernel_rfl
theorem zero_C (w : World) : (zeroValue 90).run Tryd.prog w = .ok (.agg (bcells zc).toArray) w := by
  rw [zc_cells]
  kernel_rfl
theorem agg_pend (w : World) : (isAgg 91).run Tryd.prog w = .ok false w := by kernel_rfl
theorem agg_secs (w : World) : (isAgg 70).run Tryd.prog w = .ok false w := by kernel_rfl
theorem one_pend (w : World) : (sizeOf 91).run Tryd.prog w = .ok 1 w := by kernel_rfl
theorem idx_C (g c n i : Nat) (hi : i < n) (w : World) : (Instr.indexAt 91 (.slice (some ⟨g, 0, none⟩) n c) (.int .i64 (i : Int))).run Tryd.prog w = .ok (.pointer (some ⟨g, i * 128, none⟩)) w := by
  have e := idx_slice 91 90 128 Tryd.underlying91 size_C g 0 n c i hi w
  rw [Nat.zero_add] at e
  exact e
theorem idx_S (g c n i : Nat) (hi : i < n) (w : World) : (Instr.indexAt 70 (.slice (some ⟨g, 0, none⟩) n c) (.int .i64 (i : Int))).run Tryd.prog w = .ok (.pointer (some ⟨g, i * 129, none⟩)) w := by
  have e := idx_slice 70 93 129 Tryd.underlying70 size_S g 0 n c i hi w
  rw [Nat.zero_add] at e
  exact e
theorem own_cells {w : World} {base n size : Nat} {e : TypeId} {v : Value} {xs : List Value} (h : w.ownsRow base e size v n xs) : (n = 0 ∧ v = .slice none 0 0 ∧ xs = []) ∨ ∃ g c, v = .slice (some ⟨g, 0, none⟩) n c ∧ base ≤ g ∧ g < w.heap.size ∧ w.rangeAt g 0 xs ∧ n ≤ 9223372036854775807 := by
  obtain ⟨h0, h1⟩ := h
  rcases h1 with ⟨e1, e2⟩ | ⟨g, c, cur, e1, e2, e3, e4, e5, e6, e7⟩
  · left
    subst e2
    exact ⟨rfl, e1, List.length_eq_zero_iff.1 (by omega)⟩
  · right
    refine ⟨g, c, e1, e2, (Array.getElem?_eq_some_iff.1 e3).1, fun j v hv => ?_, by unfold maxLen at e5; omega⟩
    rw [← e7] at hv
    rw [List.getElem?_take] at hv
    split at hv
    · unfold World.cell?
      simp only [e3, Nat.zero_add]
      simpa using hv
    · simp at hv
/-- the content of a sector, loaded -/
theorem rng_sub {w : World} {g o : Nat} {xs : List Value} (h : w.rangeAt g o xs) (j : Nat) (ys : List Value) (hy : ∀ i v, ys[i]? = some v → xs[j + i]? = some v) : w.rangeAt g (o + j) ys := fun i v hv => by
  rw [Nat.add_assoc]
  exact h _ v (hy i v hv)
section
variable {w : World} {n D R : Nat} {ss : List Sec} {off : Bool} {fuse : Int} {pv : Nat → Value}
set_option maxRecDepth 100000 in
set_option maxHeartbeats 800000 in
theorem last_any (h : DkS w n D R ss off fuse pv) (i : Nat) (s : Sec) (hs : ss[i]? = some s) : Calls Tryd.prog 56 #[.pointer (some ⟨R, i * 129, none⟩)] w fun e w' => e = .returned (.agg (bcells s.top).toArray) ∧ Below w.heap.size w w' := by
  have h0 := h.below (below_alc w (.cells (bcells zc).toArray 90))
  have hb := below_alc w (.cells (bcells zc).toArray 90)
  have hr0 := heap1_0 w (.cells (bcells zc).toArray 90)
  have hd := h0.dur i s hs
  have hp := h0.pnd i s hs
  have ho := h0.own i s hs
  have h1 := agg_pend
  have hzs : (bcells zc).toArray.size = 128 := by simp [bcells_len, zc_len]
  have hzC := zero_C
  generalize (bcells zc).toArray = Z at *
  have hA := Lib.hid (bcells_all s.top)
  have hT : Hid ((bcells s.top).length = 128) := by rw [bcells_len]; exact s.top_len
  rcases own_cells ho with ⟨e1, e2, _⟩ | ⟨g, c, e2, _, hg, hr, hsm⟩
  · rw [e2] at hp
    have ht : bcells s.dur = bcells s.top := by unfold Sec.top; rw [List.length_eq_zero_iff.1 e1]; rfl
    rw [ht] at hd
    generalize bcells s.top = C at hd hA hT ⊢
    have HA := hA
    clear ho h h0 hs ht e1 e2
    go_enter Tryd.func56, Tryd.ntmps56
    go_wp2_with (first | (refine wpList_allocV rfl 90 rfl Z hzC ?_) | (refine wpList_load_mid rfl 90 _ rfl R (i * 129) rfl _ _ hd Tryd.underlying90 rfl (by rw [hT.out]; exact info_C) ?_) | (refine wpList_store_row rfl 90 _ _ rfl w.heap.size _ rfl rfl _ _ hr0 (by rw [List.size_toArray, hT.out]; exact info_C) (hzs.trans (by rw [List.size_toArray, hT.out])) HA.out ?_))
    refine bodyPost_ret (results_cell_row rfl _ _ _ _ _ _ _ rfl (setRow_heap _ _ _ _ _ _ hr0) Tryd.underlying90 rfl (by rw [List.size_toArray, hT.out]; exact info_C)) rfl ?_
    exact ⟨rfl, setRow_below hb _ (Nat.le_refl _) _⟩
  · rw [e2] at hp
    rcases Nat.eq_zero_or_pos s.pend.length with hk | hk
    · have ht : bcells s.dur = bcells s.top := by unfold Sec.top; rw [List.length_eq_zero_iff.1 hk]; rfl
      rw [ht] at hd
      rw [hk] at hp
      generalize bcells s.top = C at hd hA hT ⊢
      have HA := hA
      clear ho h h0 hs ht e2 hk hr
      go_enter Tryd.func56, Tryd.ntmps56
      go_wp2_with (first | (refine wpList_allocV rfl 90 rfl Z hzC ?_) | (refine wpList_load_mid rfl 90 _ rfl R (i * 129) rfl _ _ hd Tryd.underlying90 rfl (by rw [hT.out]; exact info_C) ?_) | (refine wpList_store_row rfl 90 _ _ rfl w.heap.size _ rfl rfl _ _ hr0 (by rw [List.size_toArray, hT.out]; exact info_C) (hzs.trans (by rw [List.size_toArray, hT.out])) HA.out ?_))
      refine bodyPost_ret (results_cell_row rfl _ _ _ _ _ _ _ rfl (setRow_heap _ _ _ _ _ _ hr0) Tryd.underlying90 rfl (by rw [List.size_toArray, hT.out]; exact info_C)) rfl ?_
      exact ⟨rfl, setRow_below hb _ (Nat.le_refl _) _⟩
    · have hl : s.pend[s.pend.length - 1]? = some s.top := by
        unfold Sec.top
        rw [List.getLast?_eq_getElem?]
        rw [List.getElem?_eq_getElem (by omega)]
      have hq := rng_sub hr ((s.pend.length - 1) * 128) (bcells s.top) (fun j v hv => conts_get s.pend s.hp _ _ hl j v hv)
      rw [Nat.zero_add] at hq
      have hi : ∀ w, (Instr.indexAt 91 (.slice (some ⟨g, 0, none⟩) s.pend.length c) (.int .i64 ((s.pend.length : Int) - 1))).run Tryd.prog w = .ok (.pointer (some ⟨g, (s.pend.length - 1) * 128, none⟩)) w := fun w => by
        rw [show ((s.pend.length : Int) - 1) = ((s.pend.length - 1 : Nat) : Int) by omega]
        exact idx_C g c _ _ (by omega) w
      generalize bcells s.top = C at hq hA hT ⊢
      have HA := hA
      generalize hkk : s.pend.length = k at hp hi hk hq hsm
      clear ho h h0 hs e2 hr hl hd hkk
      go_enter Tryd.func56, Tryd.ntmps56
      go_wp2_with (first | (refine wpList_allocV rfl 90 rfl Z hzC ?_) | (refine wpList_load_mid rfl 90 _ rfl g ((k - 1) * 128) rfl _ _ hq Tryd.underlying90 rfl (by rw [hT.out]; exact info_C) ?_) | (refine wpList_store_row rfl 90 _ _ rfl w.heap.size _ rfl rfl _ _ hr0 (by rw [List.size_toArray, hT.out]; exact info_C) (hzs.trans (by rw [List.size_toArray, hT.out])) HA.out ?_))
      refine bodyPost_ret (results_cell_row rfl _ _ _ _ _ _ _ rfl (setRow_heap _ _ _ _ _ _ hr0) Tryd.underlying90 rfl (by rw [List.size_toArray, hT.out]; exact info_C)) rfl ?_
      exact ⟨rfl, setRow_below hb _ (Nat.le_refl _) _⟩
end
end Go.Proofs.YtbeeehfaeknhmaaDoor
