import Derived.Test.YtmbfjnbanlhjpaaDoorShl
namespace Go.Proofs.YtmbfjnbanlhjpaaDoor
open Go.RowKit

theorem sha_e0 : shaOf [] 0 = 227#8 := by decide +kernel
theorem sha_e1 : shaOf [] 1 = 176#8 := by decide +kernel
theorem sha_e31 : shaOf [] 31 = 85#8 := by decide +kernel

set_option maxRecDepth 100000 in
set_option maxHeartbeats 800000 in
theorem first_any (w : World) (hk : KAt w) :
    Calls Tryd.prog 7 #[] w fun e w' => e = .returned (.bool true) ∧ Below w.heap.size w w' := by
  go_enter Tryd.func7, Tryd.ntmps7
  go_wp2_with fail
  refine (suml_any none [] 0 w (by intro h; simp at h) (by simp) (by simp) hk).mono ?_
  rintro e W ⟨rfl, hb⟩
  rw [show flat [] = [] from rfl]
  go_upto_region 2 with (first | (refine wpList_store_row rfl 26 _ _ rfl _ _ rfl rfl _ _ (heap_alloc_new _ _) (by kernel_rfl) (by simp) (arr8_one _ _) ?_; rw [alloc_setRow]))
  have hr : (W.alloc (.cells (arr8 32 (shaOf [])) 26)).rowIs W.heap.size 26 32 (fun i => v8 (shaOf [] i)) := rowIs_new _ _ _ _ _ _ rfl (by simp) (fun i hi => arr8_get 32 _ i hi)
  have hbl := hb.alloc hb.size (.cells (arr8 32 (shaOf [])) 26)
  generalize W.alloc (.cells (arr8 32 (shaOf [])) 26) = W2 at *
  have c0 := hr.cell (i := 0) (by omega)
  have c1 := hr.cell (i := 1) (by omega)
  have c31 := hr.cell (i := 31) (by omega)
  rw [sha_e0] at c0
  rw [sha_e1] at c1
  rw [sha_e31] at c31
  change W2.cell? _ = some (.int .u8 227) at c0
  change W2.cell? _ = some (.int .u8 176) at c1
  change W2.cell? _ = some (.int .u8 85) at c31
  clear hr
  go_wp2_with fail
  go_ret
  exact ⟨rfl, hbl⟩
end Go.Proofs.YtmbfjnbanlhjpaaDoor
