import Derived.Test.YtccchhfcoicgcaaDoorDer
namespace Go.Proofs.YtccchhfcoicgcaaDoor
open Go.RowKit

section
variable {P : Program} {md : Region.Mode} {ops : Array Oper} {Q : Exit → Act → World → Prop} {S : World → Prop} {fuel : Nat} {listed : Array Bool} {a : Act} {w : World}
theorem rdy_storeR {rs : List Nat} (i : Nat) (ty : TypeId) (x y : Operand) (g : Nat) (cells : Array Value) (t : TypeId) (old : Array Value)
    (hi : ops[i]?.map (fun o => (o.op, o.dst, Region.wanted o (yielded ops a.tmps))) = some (.store ty x y, none, true)) (hxy : (a.eval x, a.eval y) = (.pointer (some ⟨g, 0, none⟩), .agg cells))
    (hg : w.heap[g]? = some (.cells old t (0, 0))) (hs : (P.info? ty).map (·.size) = some cells.size) (hold : old.size = cells.size) (h1 : cells.all (·.oneCell') = true) (hS : S (w.setRow g cells))
    (h : S (w.setRow g cells) → wpAnyH P md ops Q S fuel (listed.setIfInBounds i true) (a.put none undef) (w.setRow g cells)) (rest : AllReadyH P md ops Q S fuel listed a w rs) : AllReadyH P md ops Q S fuel listed a w (i :: rs) := by
  obtain ⟨oi, ho, he⟩ := Option.map_eq_some_iff.1 hi
  simp only [Prod.mk.injEq] at he hxy
  refine AllReadyH.cons ho (fun K hK => ?_) rest
  rw [if_pos he.2.2]
  refine wp_store_row ty x y he.1 g cells hxy.1 hxy.2 t old hg hs hold h1 ?_
  rw [he.2.1]
  exact hK.out _ _ hS h
end
theorem setRow_ne (w : World) (g : Nat) (cs : Array Value) (b : Nat) (h : b ≠ g) : (w.setRow g cs).heap[b]? = w.heap[b]? := by
  unfold World.setRow
  simp [Array.getElem?_modify, Ne.symm h]

structure StS (w : World) (B G G2 : Nat) (F F' : Nat → BitVec 8) (W : World) : Prop where
  g : W.rangeAt G 0 (arr8 32 F).toList
  h : W.rangeAt G2 0 (arr8 32 F').toList
  x : ∃ o, W.heap[B + 1]? = some (.cells o 23 (0, 0)) ∧ o.size = 32
  y : ∃ o, W.heap[B + 2]? = some (.cells o 23 (0, 0)) ∧ o.size = 32
  b : Below B w W
theorem StS.set {w : World} {B G G2 : Nat} {F F' : Nat → BitVec 8} {W : World} (h : StS w B G G2 F F' W) (h1 : B + 2 < G) (h2 : B + 2 < G2) (g : Nat) (hg : g = B + 1 ∨ g = B + 2) (f : Nat → BitVec 8) : StS w B G G2 F F' (W.setRow g (arr8 32 f)) := by
  obtain ⟨ox, hx, hx'⟩ := h.x
  obtain ⟨oy, hy, hy'⟩ := h.y
  refine ⟨fun j v hv => ?_, fun j v hv => ?_, ?_, ?_, below_setRow h.b (by omega) _⟩
  · rw [World.cell?_of_block (setRow_ne W g _ G (by omega))]; exact h.g j v hv
  · rw [World.cell?_of_block (setRow_ne W g _ G2 (by omega))]; exact h.h j v hv
  · rcases hg with rfl | rfl
    · exact ⟨_, setRow_heap _ _ _ _ _ _ hx, by simp⟩
    · exact ⟨ox, (setRow_ne W _ _ _ (by omega)).trans hx, hx'⟩
  · rcases hg with rfl | rfl
    · exact ⟨oy, (setRow_ne W _ _ _ (by omega)).trans hy, hy'⟩
    · exact ⟨_, setRow_heap _ _ _ _ _ _ hy, by simp⟩

set_option maxRecDepth 100000 in
set_option maxHeartbeats 1600000 in
theorem step_any (c : Nat → BitVec 8) (w : World) (hk : KAt w) :
    Calls Tryd.prog 9 #[.agg (arr8 32 c)] w fun e w' => e = .returned (.tuple #[.agg (arr8 32 (macOf (lst 32 c) [2#8])), .agg (arr8 32 (macOf (lst 32 c) [1#8]))]) ∧ Below w.heap.size w w' := by
  go_enter Tryd.func9, Tryd.ntmps9
  go_upto_region 1 with (fail)
  refine wp_world (fun W => Below w.heap.size w W ∧ W.rowIs w.heap.size 23 32 (fun i => v8 (c i)) ∧ W.rowIs (w.heap.size + 1) 23 32 (fun _ => .int .u8 0) ∧ W.rowIs (w.heap.size + 2) 23 32 (fun _ => .int .u8 0)) ?_ ?_
  · refine ⟨by go_grown, ?_, ?_, ?_⟩
    · exact ((rowIs_new w (arr8 32 c) 23 w.heap.size 32 _ rfl (by simp) (fun i hi => arr8_get 32 c i hi)).alloc _).alloc _
    · exact (rowIs_new (w.alloc _) (Array.replicate 32 (.int .u8 0)) 23 (w.heap.size + 1) 32 (fun _ => .int .u8 0) (by simp) (by simp) (fun i hi => by simp [hi])).alloc _
    · exact rowIs_new ((w.alloc _).alloc _) (Array.replicate 32 (.int .u8 0)) 23 (w.heap.size + 2) 32 (fun _ => .int .u8 0) (by simp) (by simp) (fun i hi => by simp [hi])
  rintro W ⟨hb, hc, hx, hy⟩
  have hkW := hk.below hb
  clear hk
  generalize hB : w.heap.size = B at *
  have HB := Lib.hid hB; clear hB
  have hslB := fun w' => sliceAt_arr (P := Tryd.prog) 32 Tryd.underlying23 (show (Tryd.prog.info? 5).map (·.size) = some 1 by kernel_rfl) B (by omega) w'
  have alc : ∀ (W : World) (o : Obj), Below W.heap.size W (W.alloc o) := fun W o => (Below.refl _ _).alloc (Nat.le_refl _) _
  have sum1 : ∀ (W : World) (z : BitVec 8), KAt W → SlRead W (some ⟨B, 0, none⟩) (ints .u8 (bys (lst 32 c))) →
      Calls Tryd.prog 16 #[.slice (some ⟨B, 0, none⟩) 32 32, .slice (some ⟨W.heap.size + 1, 0, none⟩) 1 1] ((W.alloc (.cells #[.int .u8 (n8 z)] 5)).alloc (.cells #[.slice (some ⟨W.heap.size, 0, none⟩) 1 1] 33)) fun e w' => e = .returned (.agg (arr8 32 (macOf (lst 32 c) [z]))) ∧ Below W.heap.size W w' := by
    intro W z hkW hcW
    have h := msum_one (some ⟨B, 0, none⟩) (lst 32 c) 32 (some ⟨W.heap.size, 0, none⟩) [z] 1 (W.alloc (.cells #[.int .u8 (n8 z)] 5)) (hcW.below (alc _ _)) (by simp) (by simp) (SlRead.one_new _ _) (by simp) (by simp) (hkW.below (alc _ _))
    rw [lst_length, show (W.alloc (.cells #[.int .u8 (n8 z)] 5)).heap.size = W.heap.size + 1 by simp] at h
    refine h.mono ?_
    rintro e w' ⟨rfl, hb⟩
    exact ⟨rfl, (alc W _).trans (hb.mono (by omega))⟩
  have hcS := slread_row hc
  go_wp2_with fail
  refine (sum1 W 2#8 hkW hcS).mono ?_
  rintro e W2 ⟨rfl, hb2⟩
  have hc2 := hcS.below hb2
  have hk2 := hkW.below hb2
  have hx2 := hx.of_block (hb2.block _ hx.lt)
  have hy2 := hy.of_block (hb2.block _ hy.lt)
  have hG1 := hy2.lt
  have hbb := hb.trans (hb2.mono (by have := hc.lt; omega))
  clear hb2 hkW hx hy hb hcS hc
  generalize hF : macOf (lst 32 c) [2#8] = F at *
  have HF := Lib.hid hF; clear hF
  go_upto_region 2 with (refine wpList_store_row rfl 31 _ _ rfl _ _ rfl rfl _ _ (heap_alloc_new _ _) (by kernel_rfl) (by simp) (arr8_one _ _) ?_; rw [alloc_setRow])
  generalize hG : W2.heap.size = G at *
  have hg3 : (W2.alloc (.cells (arr8 32 F) 31)).rowIs G 31 32 (fun i => v8 (F i)) := rowIs_new _ _ _ _ _ _ hG.symm (by simp) (fun i hi => arr8_get 32 _ i hi)
  have hb3 := alc W2 (.cells (arr8 32 F) 31)
  generalize W2.alloc (.cells (arr8 32 F) 31) = W3 at *
  have hc3 := hc2.below hb3
  have hk3 := hk2.below hb3
  have hx3 := hx2.of_block (hb3.block _ hx2.lt)
  have hy3 := hy2.of_block (hb3.block _ hy2.lt)
  have hb3' := hbb.trans (hb3.mono (by have := hx2.lt; omega))
  clear hc2 hk2 hx2 hy2 hbb hb3 hG
  go_wp2_with fail
  refine (sum1 W3 1#8 hk3 hc3).mono ?_
  rintro e W4 ⟨rfl, hb4⟩
  have hx4 := hx3.of_block (hb4.block _ hx3.lt)
  have hy4 := hy3.of_block (hb4.block _ hy3.lt)
  have hg4 := hg3.of_block (hb4.block _ hg3.lt)
  have hb4' := hb3'.trans (hb4.mono (by have := hx3.lt; omega))
  clear hb4 hc3 hk3 hx3 hy3 hb3' hg3 sum1
  generalize hF' : macOf (lst 32 c) [1#8] = F' at *
  have HF' := Lib.hid hF'; clear hF'
  go_upto_region 3 with (refine wpList_store_row rfl 31 _ _ rfl _ _ rfl rfl _ _ (heap_alloc_new _ _) (by kernel_rfl) (by simp) (arr8_one _ _) ?_; rw [alloc_setRow])
  generalize hG2 : W4.heap.size = G2 at *
  have hh5 : (W4.alloc (.cells (arr8 32 F') 31)).rowIs G2 31 32 (fun i => v8 (F' i)) := rowIs_new _ _ _ _ _ _ hG2.symm (by simp) (fun i hi => arr8_get 32 _ i hi)
  have hb5 := alc W4 (.cells (arr8 32 F') 31)
  generalize W4.alloc (.cells (arr8 32 F') 31) = W5 at *
  have hx5 := hx4.of_block (hb5.block _ hx4.lt)
  have hy5 := hy4.of_block (hb5.block _ hy4.lt)
  have hg5 := hg4.of_block (hb5.block _ hg4.lt)
  have hb5' := hb4'.trans (hb5.mono (by have := hx4.lt; omega))
  have hgG2 : G < G2 := by rw [← hG2]; exact hg4.lt
  clear hx4 hy4 hg4 hb4' hb5 hG2
  obtain ⟨ox, hx1, hx2, _⟩ := hx5
  obtain ⟨oy, hy1, hy2, _⟩ := hy5
  have iH : (Tryd.prog.info? 31).map (·.size) = some (arr8 32 F).toList.length := by simp only [Array.length_toList, arr8_size]; kernel_rfl
  have iH2 : (Tryd.prog.info? 31).map (·.size) = some (arr8 32 F').toList.length := by simp only [Array.length_toList, arr8_size]; kernel_rfl
  have rg5 := rangeAt_row hg5
  have rh5 := rangeAt_row hh5
  clear hg5 hh5
  refine wp_region_noPanic ?_
  refine wp_region_held_drew (S := StS w B G G2 F F') (by kernel_rfl) ⟨rg5, rh5, ⟨ox, hx1, hx2⟩, ⟨oy, hy1, hy2⟩, hb5'.drew⟩ (fun hHeld => ?_)
  clear rg5 rh5 hx1 hy1 hb5'
  refine held_load 0 31 (.tmp 4) (some 14) G 0 (arr8 32 F).toList _ (by kernel_rfl) (by kernel_rfl) (fun w h => h.g) Tryd.underlying31 rfl iH (by kernel_rfl) (by kernel_rfl) (by kernel_rfl) (fun _ _ _ _ _ h => h) hHeld ?_
  refine held_load 1 31 (.tmp 5) (some 15) G2 0 (arr8 32 F').toList _ (by kernel_rfl) (by kernel_rfl) (fun w h => h.h) Tryd.underlying31 rfl iH2 (by kernel_rfl) (by kernel_rfl) (by kernel_rfl) (fun _ _ _ _ _ h => h) hHeld ?_
  obtain ⟨ox, ex, lx⟩ := hHeld.x
  refine held_ready [2] (by kernel_rfl) (by simp) (rdy_storeR 2 23 (.tmp 2) (.tmp 14) (B + 1) (arr8 32 F) 23 ox (by kernel_rfl) (by kernel_rfl) ex (by kernel_rfl) (by rw [lx, arr8_size]) (arr8_one _ _) (hHeld.set hG1 (by omega) (B + 1) (by omega) F) ?_ AllReadyH.nil)
  intro hHeld
  have hrx := setRow_heap W5.drew (B + 1) _ (arr8 32 F) _ _ ex
  obtain ⟨oy, ey, ly⟩ := hHeld.y
  refine held_ready [3] (by kernel_rfl) (by simp) (rdy_storeR 3 23 (.tmp 3) (.tmp 15) (B + 2) (arr8 32 F') 23 oy (by kernel_rfl) (by kernel_rfl) ey (by kernel_rfl) (by rw [ly, arr8_size]) (arr8_one _ _) (hHeld.set hG1 (by omega) (B + 2) (by omega) F') ?_ AllReadyH.nil)
  intro hHeld
  have hrx := (setRow_ne (W5.drew.setRow (B + 1) (arr8 32 F)) (B + 2) (arr8 32 F') (B + 1) (by omega)).trans hrx
  have hry := setRow_heap (W5.drew.setRow (B + 1) (arr8 32 F)) (B + 2) _ (arr8 32 F') _ _ ey
  refine wpAnyH_done (by kernel_rfl) ?_ _
  refine NoPanic.normal ?_
  simp only [Act.put, List.setIfInBounds_toArray, List.set_cons_zero, List.set_cons_succ]
  go_wp2_with fail
  refine bodyPost_ret (results_two_rows rfl _ _ _ _ _ _ _ _ _ _ _ rfl hrx rfl hry Tryd.underlying23 rfl (by kernel_rfl) (by kernel_rfl)) rfl ?_
  rw [HB.out, HF.out, HF'.out]
  exact ⟨rfl, hHeld.b⟩
end Go.Proofs.YtccchhfcoicgcaaDoor
