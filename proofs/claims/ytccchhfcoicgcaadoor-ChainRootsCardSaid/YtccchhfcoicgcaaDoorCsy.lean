import Derived.Test.YtccchhfcoicgcaaDoorCdr
import Derived.Test.YtccchhfcoicgcaaDoorCfs
import Derived.Test.YtccchhfcoicgcaaDoorCdw
import Derived.Test.YtccchhfcoicgcaaDoorRsq
namespace Go.Proofs.YtccchhfcoicgcaaDoor
open Go.RowKit

theorem key_load {W : World} {b : Nat} {f : Nat → BitVec 8} (h : W.rowIs b 23 32 (fun i => v8 (f i))) : (Instr.loadAt 23 (.pointer (some ⟨b, 0, none⟩))).run Tryd.prog W = .ok (.agg (arr8 32 f)) W := by
  have := load_row (P := Tryd.prog) 23 b 0 (arr8 32 f).toList _ Tryd.underlying23 rfl (by simp only [Array.length_toList, arr8_size]; kernel_rfl) W (rangeAt_row h)
  simpa using this
structure CRow (S0 X4 X5 X6 X7 : Nat) (w0 : World) (sd FA FB FE FG : Nat → BitVec 8) (w : World) : Prop where
  k : KAt w
  b : Below S0 w0 w
  e : w.rowIs (S0 + 2) 23 32 (fun i => v8 (sd i))
  a4 : w.rowIs X4 23 32 (fun i => v8 (FA i))
  b4 : w.rowIs (X4 + 1) 23 32 (fun i => v8 (FB i))
  a5 : w.rowIs X5 23 32 (fun i => v8 (FA i))
  b5 : w.rowIs (X5 + 1) 23 32 (fun i => v8 (FB i))
  a6 : w.rowIs X6 23 32 (fun i => v8 (FE i))
  b6 : w.rowIs (X6 + 1) 23 32 (fun i => v8 (FG i))
  a7 : w.rowIs X7 23 32 (fun i => v8 (FE i))
  b7 : w.rowIs (X7 + 1) 23 32 (fun i => v8 (FG i))

set_option maxRecDepth 100000 in
set_option maxHeartbeats 1600000 in
theorem csay_walk (r s sd : Nat → BitVec 8) (N : BitVec 32) (w : World) (hk : KAt w) :
    Calls Tryd.prog 3 #[.agg (arr8 32 r), .agg (arr8 32 s), .agg (arr8 32 sd), .int .u32 (n32 N)] w fun e w' => e = .returned (.bool true) ∧ Below w.heap.size w w' := by
  have alc : ∀ (W : World) (o : Obj), Below W.heap.size W (W.alloc o) := fun W o => (Below.refl _ _).alloc (Nat.le_refl _) _
  go_enter Tryd.func3, Tryd.ntmps3
  go_upto_region 1 with (fail)
  refine wp_world (fun W => Below w.heap.size w W ∧ W.rowIs w.heap.size 23 32 (fun i => v8 (r i)) ∧ W.rowIs (w.heap.size + 1) 23 32 (fun i => v8 (s i)) ∧ W.rowIs (w.heap.size + 2) 23 32 (fun i => v8 (sd i))) ?_ ?_
  · refine ⟨by go_grown, ?_, ?_, ?_⟩
    · exact ((rowIs_new w (arr8 32 r) 23 w.heap.size 32 _ rfl (by simp) (fun i hi => arr8_get 32 r i hi)).alloc _).alloc _
    · exact (rowIs_new (w.alloc _) (arr8 32 s) 23 (w.heap.size + 1) 32 _ (by simp) (by simp) (fun i hi => arr8_get 32 s i hi)).alloc _
    · exact rowIs_new ((w.alloc _).alloc _) (arr8 32 sd) 23 (w.heap.size + 2) 32 _ (by simp) (by simp) (fun i hi => arr8_get 32 sd i hi)
  rintro W0 ⟨hb0, hr0, hs0, he0⟩
  have hk0 := hk.below hb0
  clear hk
  generalize hS0 : w.heap.size = S0 at *
  have HS0 := Lib.hid hS0; clear hS0
  go_wp2_with fail
  refine (first_any W0 hk0).mono ?_
  rintro e W1 ⟨rfl, hb1⟩
  have hr1 := hr0.of_block (hb1.block _ hr0.lt)
  have hs1 := hs0.of_block (hb1.block _ hs0.lt)
  have he1 := he0.of_block (hb1.block _ he0.lt)
  have hk1 := hk0.below hb1
  have hB1 : Below S0 w W1 := hb0.trans (hb1.mono (by have := hr0.lt; omega))
  clear hr0 hs0 he0 hk0 hb0 hb1
  go_wp2_with (first | (refine wpList_load_row rfl 23 (.tmp 4) rfl S0 rfl _ _ _ _ (rowIs_heap8 hr1) Tryd.underlying23 rfl (by kernel_rfl) ?_) | (refine wpList_load_row rfl 23 (.tmp 5) rfl (S0 + 1) rfl _ _ _ _ (rowIs_heap8 hs1) Tryd.underlying23 rfl (by kernel_rfl) ?_))
  refine (root_any r s W1 hk1).mono ?_
  rintro e W2 ⟨rfl, hb2⟩
  have hr2 := hr1.of_block (hb2.block _ hr1.lt)
  have hs2 := hs1.of_block (hb2.block _ hs1.lt)
  have he2 := he1.of_block (hb2.block _ he1.lt)
  have hk2 := hk1.below hb2
  have hB2 : Below S0 w W2 := hB1.trans (hb2.mono (by have := he1.lt; omega))
  clear hr1 hs1 he1 hk1 hB1 hb2
  generalize hFA : rootA r s = FA at *
  generalize hFB : rootB r s = FB at *
  have HFA := Lib.hid hFA; have HFB := Lib.hid hFB; clear hFA hFB

  have hA1 : ∀ z z', ((W2.alloc z).alloc z').heap[W2.heap.size]? = some z := fun z z' => (heap_alloc_old _ _ (by simp)).trans (heap_alloc_new _ _)
  have hA2 : ∀ z z', ((W2.alloc z).alloc z').heap[W2.heap.size + 1]? = some z' := fun z z' => by
    have := heap_alloc_new (W2.alloc z) z'
    rwa [show (W2.alloc z).heap.size = W2.heap.size + 1 by simp] at this
  have hS2 : (((W2.alloc (.cells (Array.replicate 32 (.int .u8 0)) 23)).alloc (.cells (Array.replicate 32 (.int .u8 0)) 23)).setRow W2.heap.size (arr8 32 FA)).heap[W2.heap.size + 1]? = some (.cells (Array.replicate 32 (.int .u8 0)) 23 (0, 0)) := (setRow_ne _ W2.heap.size _ (W2.heap.size + 1) (by omega)).trans (hA2 _ _)
  go_upto_region 5 with (first | (refine wpList_alloc_z rfl 23 rfl (Array.replicate 32 (.int .u8 0)) (fun _ => by kernel_rfl) ?_; try rw [show (W2.alloc (.cells (Array.replicate 32 (.int .u8 0)) 23)).heap.size = W2.heap.size + 1 by simp]) | (refine wpList_store_row rfl 23 (.tmp 10) (.tmp 25) rfl W2.heap.size (arr8 32 FA) rfl rfl _ _ (hA1 _ _) (by kernel_rfl) (by simp) (arr8_one _ _) ?_) | (refine wpList_store_row rfl 23 (.tmp 11) (.tmp 26) rfl (W2.heap.size + 1) (arr8 32 FB) rfl rfl _ _ hS2 (by kernel_rfl) (by simp) (arr8_one _ _) ?_))
  refine wp_world (fun W' => Below W2.heap.size W2 W' ∧ W'.rowIs W2.heap.size 23 32 (fun i => v8 (FA i)) ∧ W'.rowIs (W2.heap.size + 1) 23 32 (fun i => v8 (FB i))) ?_ ?_
  · refine ⟨below_setRow (below_setRow ((alc W2 _).alloc (by simp) _) (Nat.le_refl _) _) (by omega) _, ?_, ?_⟩
    · exact rowIs_arr ((setRow_ne _ (W2.heap.size + 1) _ W2.heap.size (by omega)).trans (setRow_heap _ _ _ _ _ _ (hA1 _ _))) (by simp) (fun i hi => arr8_get 32 FA i hi)
    · exact rowIs_arr (setRow_heap _ _ _ _ _ _ hS2) (by simp) (fun i hi => arr8_get 32 FB i hi)
  clear hA1 hA2 hS2
  rintro W3 ⟨hb3, ha43, hb43⟩
  have hr3 := hr2.of_block (hb3.block _ hr2.lt)
  have hs3 := hs2.of_block (hb3.block _ hs2.lt)
  have he3 := he2.of_block (hb3.block _ he2.lt)
  have hk3 := hk2.below hb3
  have hB3 : Below S0 w W3 := hB2.trans (hb3.mono (by have := he2.lt; omega))
  clear hr2 hs2 he2 hk2 hB2 hb3
  generalize W2.heap.size = X4 at *
  go_wp2_with (first | (refine wpList_load_row rfl 23 (.tmp 4) rfl S0 rfl _ _ _ _ (rowIs_heap8 hr3) Tryd.underlying23 rfl (by kernel_rfl) ?_) | (refine wpList_load_row rfl 23 (.tmp 5) rfl (S0 + 1) rfl _ _ _ _ (rowIs_heap8 hs3) Tryd.underlying23 rfl (by kernel_rfl) ?_))
  refine (droot_any r s W3).mono ?_
  rintro e W4 ⟨rfl, hb4⟩
  have hr4 := hr3.of_block (hb4.block _ hr3.lt)
  have hs4 := hs3.of_block (hb4.block _ hs3.lt)
  have he4 := he3.of_block (hb4.block _ he3.lt)
  have ha44 := ha43.of_block (hb4.block _ ha43.lt)
  have hb44 := hb43.of_block (hb4.block _ hb43.lt)
  have hk4 := hk3.below hb4
  have hB4 : Below S0 w W4 := hB3.trans (hb4.mono (by have := he3.lt; omega))
  clear hr3 hs3 he3 ha43 hb43 hk3 hB3 hb4
  rw [HFA.out, HFB.out]

  have hA1 : ∀ z z', ((W4.alloc z).alloc z').heap[W4.heap.size]? = some z := fun z z' => (heap_alloc_old _ _ (by simp)).trans (heap_alloc_new _ _)
  have hA2 : ∀ z z', ((W4.alloc z).alloc z').heap[W4.heap.size + 1]? = some z' := fun z z' => by
    have := heap_alloc_new (W4.alloc z) z'
    rwa [show (W4.alloc z).heap.size = W4.heap.size + 1 by simp] at this
  have hS2 : (((W4.alloc (.cells (Array.replicate 32 (.int .u8 0)) 23)).alloc (.cells (Array.replicate 32 (.int .u8 0)) 23)).setRow W4.heap.size (arr8 32 FA)).heap[W4.heap.size + 1]? = some (.cells (Array.replicate 32 (.int .u8 0)) 23 (0, 0)) := (setRow_ne _ W4.heap.size _ (W4.heap.size + 1) (by omega)).trans (hA2 _ _)
  go_upto_region 6 with (first | (refine wpList_alloc_z rfl 23 rfl (Array.replicate 32 (.int .u8 0)) (fun _ => by kernel_rfl) ?_; try rw [show (W4.alloc (.cells (Array.replicate 32 (.int .u8 0)) 23)).heap.size = W4.heap.size + 1 by simp]) | (refine wpList_store_row rfl 23 (.tmp 12) (.tmp 31) rfl W4.heap.size (arr8 32 FA) rfl rfl _ _ (hA1 _ _) (by kernel_rfl) (by simp) (arr8_one _ _) ?_) | (refine wpList_store_row rfl 23 (.tmp 13) (.tmp 32) rfl (W4.heap.size + 1) (arr8 32 FB) rfl rfl _ _ hS2 (by kernel_rfl) (by simp) (arr8_one _ _) ?_))
  refine wp_world (fun W' => Below W4.heap.size W4 W' ∧ W'.rowIs W4.heap.size 23 32 (fun i => v8 (FA i)) ∧ W'.rowIs (W4.heap.size + 1) 23 32 (fun i => v8 (FB i))) ?_ ?_
  · refine ⟨below_setRow (below_setRow ((alc W4 _).alloc (by simp) _) (Nat.le_refl _) _) (by omega) _, ?_, ?_⟩
    · exact rowIs_arr ((setRow_ne _ (W4.heap.size + 1) _ W4.heap.size (by omega)).trans (setRow_heap _ _ _ _ _ _ (hA1 _ _))) (by simp) (fun i hi => arr8_get 32 FA i hi)
    · exact rowIs_arr (setRow_heap _ _ _ _ _ _ hS2) (by simp) (fun i hi => arr8_get 32 FB i hi)
  clear hA1 hA2 hS2
  rintro W5 ⟨hb5, ha55, hb55⟩
  have hr5 := hr4.of_block (hb5.block _ hr4.lt)
  have hs5 := hs4.of_block (hb5.block _ hs4.lt)
  have he5 := he4.of_block (hb5.block _ he4.lt)
  have ha45 := ha44.of_block (hb5.block _ ha44.lt)
  have hb45 := hb44.of_block (hb5.block _ hb44.lt)
  have hk5 := hk4.below hb5
  have hB5 : Below S0 w W5 := hB4.trans (hb5.mono (by have := he4.lt; omega))
  clear hr4 hs4 he4 ha44 hb44 hk4 hB4 hb5
  generalize W4.heap.size = X5 at *
  clear hr5 hs5
  go_wp2_with (first | (refine wpList_load_row rfl 23 (.tmp 6) rfl (S0 + 2) rfl _ _ _ _ (rowIs_heap8 he5) Tryd.underlying23 rfl (by kernel_rfl) ?_))
  refine (step_any sd W5 hk5).mono ?_
  rintro e W6 ⟨rfl, hb6⟩
  have he6 := he5.of_block (hb6.block _ he5.lt)
  have ha46 := ha45.of_block (hb6.block _ ha45.lt)
  have hb46 := hb45.of_block (hb6.block _ hb45.lt)
  have ha56 := ha55.of_block (hb6.block _ ha55.lt)
  have hb56 := hb55.of_block (hb6.block _ hb55.lt)
  have hk6 := hk5.below hb6
  have hB6 : Below S0 w W6 := hB5.trans (hb6.mono (by have := he5.lt; omega))
  clear he5 ha45 hb45 ha55 hb55 hk5 hB5 hb6
  generalize hFE : macOf (lst 32 sd) [2#8] = FE at *
  generalize hFG : macOf (lst 32 sd) [1#8] = FG at *
  have HFE := Lib.hid hFE; have HFG := Lib.hid hFG; clear hFE hFG

  have hA1 : ∀ z z', ((W6.alloc z).alloc z').heap[W6.heap.size]? = some z := fun z z' => (heap_alloc_old _ _ (by simp)).trans (heap_alloc_new _ _)
  have hA2 : ∀ z z', ((W6.alloc z).alloc z').heap[W6.heap.size + 1]? = some z' := fun z z' => by
    have := heap_alloc_new (W6.alloc z) z'
    rwa [show (W6.alloc z).heap.size = W6.heap.size + 1 by simp] at this
  have hS2 : (((W6.alloc (.cells (Array.replicate 32 (.int .u8 0)) 23)).alloc (.cells (Array.replicate 32 (.int .u8 0)) 23)).setRow W6.heap.size (arr8 32 FE)).heap[W6.heap.size + 1]? = some (.cells (Array.replicate 32 (.int .u8 0)) 23 (0, 0)) := (setRow_ne _ W6.heap.size _ (W6.heap.size + 1) (by omega)).trans (hA2 _ _)
  go_upto_region 7 with (first | (refine wpList_alloc_z rfl 23 rfl (Array.replicate 32 (.int .u8 0)) (fun _ => by kernel_rfl) ?_; try rw [show (W6.alloc (.cells (Array.replicate 32 (.int .u8 0)) 23)).heap.size = W6.heap.size + 1 by simp]) | (refine wpList_store_row rfl 23 (.tmp 14) (.tmp 36) rfl W6.heap.size (arr8 32 FE) rfl rfl _ _ (hA1 _ _) (by kernel_rfl) (by simp) (arr8_one _ _) ?_) | (refine wpList_store_row rfl 23 (.tmp 15) (.tmp 37) rfl (W6.heap.size + 1) (arr8 32 FG) rfl rfl _ _ hS2 (by kernel_rfl) (by simp) (arr8_one _ _) ?_))
  refine wp_world (fun W' => Below W6.heap.size W6 W' ∧ W'.rowIs W6.heap.size 23 32 (fun i => v8 (FE i)) ∧ W'.rowIs (W6.heap.size + 1) 23 32 (fun i => v8 (FG i))) ?_ ?_
  · refine ⟨below_setRow (below_setRow ((alc W6 _).alloc (by simp) _) (Nat.le_refl _) _) (by omega) _, ?_, ?_⟩
    · exact rowIs_arr ((setRow_ne _ (W6.heap.size + 1) _ W6.heap.size (by omega)).trans (setRow_heap _ _ _ _ _ _ (hA1 _ _))) (by simp) (fun i hi => arr8_get 32 FE i hi)
    · exact rowIs_arr (setRow_heap _ _ _ _ _ _ hS2) (by simp) (fun i hi => arr8_get 32 FG i hi)
  clear hA1 hA2 hS2
  rintro W7 ⟨hb7, ha67, hb67⟩
  have he7 := he6.of_block (hb7.block _ he6.lt)
  have ha47 := ha46.of_block (hb7.block _ ha46.lt)
  have hb47 := hb46.of_block (hb7.block _ hb46.lt)
  have ha57 := ha56.of_block (hb7.block _ ha56.lt)
  have hb57 := hb56.of_block (hb7.block _ hb56.lt)
  have hk7 := hk6.below hb7
  have hB7 : Below S0 w W7 := hB6.trans (hb7.mono (by have := he6.lt; omega))
  clear he6 ha46 hb46 ha56 hb56 hk6 hB6 hb7
  generalize W6.heap.size = X6 at *
  go_wp2_with (first | (refine wpList_load_row rfl 23 (.tmp 6) rfl (S0 + 2) rfl _ _ _ _ (rowIs_heap8 he7) Tryd.underlying23 rfl (by kernel_rfl) ?_))
  refine (dstep_any sd W7).mono ?_
  rintro e W8 ⟨rfl, hb8⟩
  have he8 := he7.of_block (hb8.block _ he7.lt)
  have ha48 := ha47.of_block (hb8.block _ ha47.lt)
  have hb48 := hb47.of_block (hb8.block _ hb47.lt)
  have ha58 := ha57.of_block (hb8.block _ ha57.lt)
  have hb58 := hb57.of_block (hb8.block _ hb57.lt)
  have ha68 := ha67.of_block (hb8.block _ ha67.lt)
  have hb68 := hb67.of_block (hb8.block _ hb67.lt)
  have hk8 := hk7.below hb8
  have hB8 : Below S0 w W8 := hB7.trans (hb8.mono (by have := he7.lt; omega))
  clear he7 ha47 hb47 ha57 hb57 ha67 hb67 hk7 hB7 hb8
  rw [HFE.out, HFG.out]

  have hA1 : ∀ z z', ((W8.alloc z).alloc z').heap[W8.heap.size]? = some z := fun z z' => (heap_alloc_old _ _ (by simp)).trans (heap_alloc_new _ _)
  have hA2 : ∀ z z', ((W8.alloc z).alloc z').heap[W8.heap.size + 1]? = some z' := fun z z' => by
    have := heap_alloc_new (W8.alloc z) z'
    rwa [show (W8.alloc z).heap.size = W8.heap.size + 1 by simp] at this
  have hS2 : (((W8.alloc (.cells (Array.replicate 32 (.int .u8 0)) 23)).alloc (.cells (Array.replicate 32 (.int .u8 0)) 23)).setRow W8.heap.size (arr8 32 FE)).heap[W8.heap.size + 1]? = some (.cells (Array.replicate 32 (.int .u8 0)) 23 (0, 0)) := (setRow_ne _ W8.heap.size _ (W8.heap.size + 1) (by omega)).trans (hA2 _ _)
  go_upto_region 8 with (first | (refine wpList_alloc_z rfl 23 rfl (Array.replicate 32 (.int .u8 0)) (fun _ => by kernel_rfl) ?_; try rw [show (W8.alloc (.cells (Array.replicate 32 (.int .u8 0)) 23)).heap.size = W8.heap.size + 1 by simp]) | (refine wpList_store_row rfl 23 (.tmp 16) (.tmp 41) rfl W8.heap.size (arr8 32 FE) rfl rfl _ _ (hA1 _ _) (by kernel_rfl) (by simp) (arr8_one _ _) ?_) | (refine wpList_store_row rfl 23 (.tmp 17) (.tmp 42) rfl (W8.heap.size + 1) (arr8 32 FG) rfl rfl _ _ hS2 (by kernel_rfl) (by simp) (arr8_one _ _) ?_))
  refine wp_world (fun W' => Below W8.heap.size W8 W' ∧ W'.rowIs W8.heap.size 23 32 (fun i => v8 (FE i)) ∧ W'.rowIs (W8.heap.size + 1) 23 32 (fun i => v8 (FG i))) ?_ ?_
  · refine ⟨below_setRow (below_setRow ((alc W8 _).alloc (by simp) _) (Nat.le_refl _) _) (by omega) _, ?_, ?_⟩
    · exact rowIs_arr ((setRow_ne _ (W8.heap.size + 1) _ W8.heap.size (by omega)).trans (setRow_heap _ _ _ _ _ _ (hA1 _ _))) (by simp) (fun i hi => arr8_get 32 FE i hi)
    · exact rowIs_arr (setRow_heap _ _ _ _ _ _ hS2) (by simp) (fun i hi => arr8_get 32 FG i hi)
  clear hA1 hA2 hS2
  rintro W9 ⟨hb9, ha79, hb79⟩
  have he9 := he8.of_block (hb9.block _ he8.lt)
  have ha49 := ha48.of_block (hb9.block _ ha48.lt)
  have hb49 := hb48.of_block (hb9.block _ hb48.lt)
  have ha59 := ha58.of_block (hb9.block _ ha58.lt)
  have hb59 := hb58.of_block (hb9.block _ hb58.lt)
  have ha69 := ha68.of_block (hb9.block _ ha68.lt)
  have hb69 := hb68.of_block (hb9.block _ hb68.lt)
  have hk9 := hk8.below hb9
  have hB9 : Below S0 w W9 := hB8.trans (hb9.mono (by have := he8.lt; omega))
  clear he8 ha48 hb48 ha58 hb58 ha68 hb68 hk8 hB8 hb9
  generalize W8.heap.size = X7 at *
  have HC : ∀ w', Below W9.drew.heap.size W9.drew w' → CRow S0 X4 X5 X6 X7 w sd FA FB FE FG w' := by
    intro w' hb
    have hb1 : Below W9.heap.size W9 w' := (Below.drewNr (w := W9) 1).trans hb
    exact ⟨hk9.below hb1, hB9.trans (hb1.mono (by have := he9.lt; omega)), he9.of_block (hb1.block _ he9.lt), ha49.of_block (hb1.block _ ha49.lt), hb49.of_block (hb1.block _ hb49.lt), ha59.of_block (hb1.block _ ha59.lt), hb59.of_block (hb1.block _ hb59.lt), ha69.of_block (hb1.block _ ha69.lt), hb69.of_block (hb1.block _ hb69.lt), ha79.of_block (hb1.block _ ha79.lt), hb79.of_block (hb1.block _ hb79.lt)⟩
  have HDR : ∀ w', Below W9.drew.heap.size W9.drew w' → Calls Tryd.prog 11 #[.agg (arr8 32 sd), .int .u32 (n32 N)] w' fun e w'' => e = .returned (.agg (arr8 32 (macOf (lst 32 sd) (drawB N)))) ∧ Below w'.heap.size w' w'' := fun w' hb => draw_any sd N w' (HC w' hb).k
  have HDD : ∀ w', Calls Tryd.prog 12 #[.agg (arr8 32 sd), .int .u32 (n32 N)] w' fun e w'' => e = .returned (.agg (arr8 32 (macOf (lst 32 sd) (drawB N)))) ∧ Below w'.heap.size w' w'' := fun w' => ddraw_any sd N w'
  generalize macOf (lst 32 sd) (drawB N) = FD at *
  clear he9 ha49 hb49 ha59 hb59 ha69 hb69 ha79 hb79 hk9 hB9
  refine wp_region_spec_v [Sp.k 0 (some 43) [] (.bool true),
    Sp.k 1 (some 44) [0] (.bool true),
    Sp.k 2 (some 45) [1] (.agg (arr8 32 FA)),
    Sp.k 3 (some 46) [1] (.agg (arr8 32 FA)),
    Sp.k 4 (some 47) [1, 2, 3] (.bool true),
    Sp.k 5 (some 48) [1, 4] (.bool true),
    Sp.k 6 (some 49) [5] (.bool true),
    Sp.k 7 (some 50) [6] (.agg (arr8 32 FB)),
    Sp.k 8 (some 51) [6] (.agg (arr8 32 FB)),
    Sp.k 9 (some 52) [6, 7, 8] (.bool true),
    Sp.k 10 (some 53) [6, 9] (.bool true),
    Sp.k 11 (some 54) [10] (.bool true),
    Sp.k 12 (some 55) [11] (.agg (arr8 32 FE)),
    Sp.k 13 (some 56) [11] (.agg (arr8 32 FE)),
    Sp.k 14 (some 57) [11, 12, 13] (.bool true),
    Sp.k 15 (some 58) [11, 14] (.bool true),
    Sp.k 16 (some 59) [15] (.bool true),
    Sp.k 17 (some 60) [16] (.agg (arr8 32 FG)),
    Sp.k 18 (some 61) [16] (.agg (arr8 32 FG)),
    Sp.k 19 (some 62) [16, 17, 18] (.bool true),
    Sp.k 20 (some 63) [16, 19] (.bool true),
    Sp.k 21 (some 64) [20] (.bool true),
    Sp.k 22 (some 65) [21] (.agg (arr8 32 sd)),
    Sp.k 23 (some 66) [21] (.int .u32 (n32 N)),
    Sp.k 24 (some 67) [21, 22, 23] (.agg (arr8 32 FD)),
    Sp.k 25 (some 68) [21] (.agg (arr8 32 sd)),
    Sp.k 26 (some 69) [21] (.int .u32 (n32 N)),
    Sp.k 27 (some 70) [21, 25, 26] (.agg (arr8 32 FD)),
    Sp.k 28 (some 71) [21, 24, 27] (.bool true),
    Sp.k 29 (some 72) [21, 28] (.bool true),
    Sp.k 30 (some 8) [29] (.bool true)] (by kernel_rfl) (by kernel_rfl)
    ⟨owes_move 0 (some 43) [] (.bool true) (Go.Operand.tmp 9) (fun v => by kernel_rfl) (fun v => by kernel_rfl),
    owes_move 1 (some 44) [0] (.bool true) (Go.Operand.tmp 43) (fun v => by kernel_rfl) (fun v => by kernel_rfl),
    owes_load 2 (some 45) [1] (.agg (arr8 32 FA)) 23 (Go.Operand.tmp 10) (.pointer (some ⟨X4, 0, none⟩)) (fun v => by kernel_rfl) (fun v => by kernel_rfl) (fun w' hb => key_load (HC w' hb).a4),
    owes_load 3 (some 46) [1] (.agg (arr8 32 FA)) 23 (Go.Operand.tmp 12) (.pointer (some ⟨X5, 0, none⟩)) (fun v => by kernel_rfl) (fun v => by kernel_rfl) (fun w' hb => key_load (HC w' hb).a5),
    owes_eql 4 (some 47) [1, 2, 3] 23 (Go.Operand.tmp 45) (Go.Operand.tmp 46) 23 (arr8 32 FA) (arr8 32 FA) true (fun v => by kernel_rfl) (fun v => by kernel_rfl) (by kernel_rfl) (equalK FA),
    owes_pick 5 (some 48) [1, 4] (.bool true) (Go.Operand.tmp 44) (Go.Operand.tmp 47) (Go.Operand.const (Go.Value.bool false)) true (fun v => by kernel_rfl) (fun v => by kernel_rfl) (fun v => by kernel_rfl),
    owes_move 6 (some 49) [5] (.bool true) (Go.Operand.tmp 48) (fun v => by kernel_rfl) (fun v => by kernel_rfl),
    owes_load 7 (some 50) [6] (.agg (arr8 32 FB)) 23 (Go.Operand.tmp 11) (.pointer (some ⟨X4 + 1, 0, none⟩)) (fun v => by kernel_rfl) (fun v => by kernel_rfl) (fun w' hb => key_load (HC w' hb).b4),
    owes_load 8 (some 51) [6] (.agg (arr8 32 FB)) 23 (Go.Operand.tmp 13) (.pointer (some ⟨X5 + 1, 0, none⟩)) (fun v => by kernel_rfl) (fun v => by kernel_rfl) (fun w' hb => key_load (HC w' hb).b5),
    owes_eql 9 (some 52) [6, 7, 8] 23 (Go.Operand.tmp 50) (Go.Operand.tmp 51) 23 (arr8 32 FB) (arr8 32 FB) true (fun v => by kernel_rfl) (fun v => by kernel_rfl) (by kernel_rfl) (equalK FB),
    owes_pick 10 (some 53) [6, 9] (.bool true) (Go.Operand.tmp 49) (Go.Operand.tmp 52) (Go.Operand.const (Go.Value.bool false)) true (fun v => by kernel_rfl) (fun v => by kernel_rfl) (fun v => by kernel_rfl),
    owes_move 11 (some 54) [10] (.bool true) (Go.Operand.tmp 53) (fun v => by kernel_rfl) (fun v => by kernel_rfl),
    owes_load 12 (some 55) [11] (.agg (arr8 32 FE)) 23 (Go.Operand.tmp 14) (.pointer (some ⟨X6, 0, none⟩)) (fun v => by kernel_rfl) (fun v => by kernel_rfl) (fun w' hb => key_load (HC w' hb).a6),
    owes_load 13 (some 56) [11] (.agg (arr8 32 FE)) 23 (Go.Operand.tmp 16) (.pointer (some ⟨X7, 0, none⟩)) (fun v => by kernel_rfl) (fun v => by kernel_rfl) (fun w' hb => key_load (HC w' hb).a7),
    owes_eql 14 (some 57) [11, 12, 13] 23 (Go.Operand.tmp 55) (Go.Operand.tmp 56) 23 (arr8 32 FE) (arr8 32 FE) true (fun v => by kernel_rfl) (fun v => by kernel_rfl) (by kernel_rfl) (equalK FE),
    owes_pick 15 (some 58) [11, 14] (.bool true) (Go.Operand.tmp 54) (Go.Operand.tmp 57) (Go.Operand.const (Go.Value.bool false)) true (fun v => by kernel_rfl) (fun v => by kernel_rfl) (fun v => by kernel_rfl),
    owes_move 16 (some 59) [15] (.bool true) (Go.Operand.tmp 58) (fun v => by kernel_rfl) (fun v => by kernel_rfl),
    owes_load 17 (some 60) [16] (.agg (arr8 32 FG)) 23 (Go.Operand.tmp 15) (.pointer (some ⟨X6 + 1, 0, none⟩)) (fun v => by kernel_rfl) (fun v => by kernel_rfl) (fun w' hb => key_load (HC w' hb).b6),
    owes_load 18 (some 61) [16] (.agg (arr8 32 FG)) 23 (Go.Operand.tmp 17) (.pointer (some ⟨X7 + 1, 0, none⟩)) (fun v => by kernel_rfl) (fun v => by kernel_rfl) (fun w' hb => key_load (HC w' hb).b7),
    owes_eql 19 (some 62) [16, 17, 18] 23 (Go.Operand.tmp 60) (Go.Operand.tmp 61) 23 (arr8 32 FG) (arr8 32 FG) true (fun v => by kernel_rfl) (fun v => by kernel_rfl) (by kernel_rfl) (equalK FG),
    owes_pick 20 (some 63) [16, 19] (.bool true) (Go.Operand.tmp 59) (Go.Operand.tmp 62) (Go.Operand.const (Go.Value.bool false)) true (fun v => by kernel_rfl) (fun v => by kernel_rfl) (fun v => by kernel_rfl),
    owes_move 21 (some 64) [20] (.bool true) (Go.Operand.tmp 63) (fun v => by kernel_rfl) (fun v => by kernel_rfl),
    owes_load 22 (some 65) [21] (.agg (arr8 32 sd)) 23 (Go.Operand.tmp 6) (.pointer (some ⟨S0 + 2, 0, none⟩)) (fun v => by kernel_rfl) (fun v => by kernel_rfl) (fun w' hb => key_load (HC w' hb).e),
    owes_move 23 (some 66) [21] (.int .u32 (n32 N)) (Go.Operand.tmp 3) (fun v => by kernel_rfl) (fun v => by kernel_rfl),
    owes_call 24 (some 67) [21, 22, 23] (.agg (arr8 32 FD)) 11 #[Go.Operand.tmp 65, Go.Operand.tmp 66] #[23, 24] (fun v => by kernel_rfl) (fun _ _ => by kernel_rfl) (fun v w' hb ho => by
        exact ⟨#[.agg (arr8 32 sd), .int .u32 (n32 N)], by kernel_rfl, (HDR w' hb).mono (fun _ _ h => h)⟩),
    owes_load 25 (some 68) [21] (.agg (arr8 32 sd)) 23 (Go.Operand.tmp 6) (.pointer (some ⟨S0 + 2, 0, none⟩)) (fun v => by kernel_rfl) (fun v => by kernel_rfl) (fun w' hb => key_load (HC w' hb).e),
    owes_move 26 (some 69) [21] (.int .u32 (n32 N)) (Go.Operand.tmp 3) (fun v => by kernel_rfl) (fun v => by kernel_rfl),
    owes_call 27 (some 70) [21, 25, 26] (.agg (arr8 32 FD)) 12 #[Go.Operand.tmp 68, Go.Operand.tmp 69] #[23, 24] (fun v => by kernel_rfl) (fun _ _ => by kernel_rfl) (fun v w' hb ho => by
        exact ⟨#[.agg (arr8 32 sd), .int .u32 (n32 N)], by kernel_rfl, (HDD w').mono (fun _ _ h => h)⟩),
    owes_eql 28 (some 71) [21, 24, 27] 23 (Go.Operand.tmp 67) (Go.Operand.tmp 70) 23 (arr8 32 FD) (arr8 32 FD) true (fun v => by kernel_rfl) (fun v => by kernel_rfl) (by kernel_rfl) (equalK FD),
    owes_pick 29 (some 72) [21, 28] (.bool true) (Go.Operand.tmp 64) (Go.Operand.tmp 71) (Go.Operand.const (Go.Value.bool false)) true (fun v => by kernel_rfl) (fun v => by kernel_rfl) (fun v => by kernel_rfl),
    owes_assign 30 (some 8) [29] (.bool true) (Go.Operand.tmp 72) (fun v => by kernel_rfl) (fun v => by kernel_rfl), trivial⟩ ?_
  intro v w' A hA hb hall
  have hbe := (HC w' hb).b
  have h8 : A.tmps.getD 8 undef = .bool true := by rw [hA]; kernel_rfl
  have hd8 : A.defers = [] := by rw [hA]; kernel_rfl
  clear hall HC HDR HDD hb hA
  go_wp2_with fail
  rw [HS0.out]
  exact ret_slot 8 rfl h8 hd8 ⟨rfl, hbe⟩
end Go.Proofs.YtccchhfcoicgcaaDoor
