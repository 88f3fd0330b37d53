import Derived.Test.YtffkjbbhbpaacaaDoorUph
import Derived.Stop.BytesEq
/-
  courierlaw24.first.
-/
namespace Go.Proofs.YtffkjbbhbpaacaaDoor
open Go.RowKit
theorem arr8_cellsQ (n : Nat) (f : Nat → BitVec 8) : arr8 n f = (((List.range n).map fun i => UInt8.ofBitVec (f i)).map Extern.Stop.cell).toArray := by
  unfold arr8
  rw [List.map_map]
  congr 1
theorem size_u8Q (w : World) : (sizeOf 5).run Tryd.prog w = .ok 1 w := by kernel_rfl
theorem equalHs (f : Nat → BitVec 8) (w : World) : (Op.equalIn 10000 37 (.agg (arr8 32 f)) (.agg (arr8 32 f))).run Tryd.prog w = .ok true w := by
  rw [arr8_cellsQ, run_equalIn_bytes w 9998 37 5 32 Tryd.underlying37 Tryd.underlying5 size_u8Q _ _ (by simp) (by simp)]
  simp
def oneF (x : BitVec 8) : Nat → BitVec 8 := fun i => if i = 0 then x else 0#8
theorem hs_build (w : World) : (Instr.build 37 #[(0, .int .u8 1)]).run Tryd.prog w = .ok (.agg (arr8 32 (oneF 1#8))) w := by kernel_rfl
set_option maxRecDepth 100000 in
set_option maxHeartbeats 1600000 in
theorem first_any (w : World) : Calls Tryd.prog 6 #[] w fun e w' => e = .returned (.bool true) ∧ Below w.heap.size w w' := by
  obtain ⟨n0, hn0⟩ : ∃ n, n = w.heap.size := ⟨_, rfl⟩
  try rw [← hn0]
  have hb : Below n0 w w := by rw [hn0]; exact Below.refl _ _
  have hs : n0 ≤ w.heap.size := by rw [hn0]; exact Nat.le_refl _
  clear hn0
  go_enter Tryd.func6, Tryd.ntmps6
  go_upto_region 2 with (fail)
  have o_U : n0 ≤ w.heap.size := hs
  refine wp_world (fun W => Below n0 w W ∧ n0 ≤ W.heap.size ∧ W.heap[w.heap.size]? = some (.cells (uv 0 0 0 0) 31 (0, 0))) ⟨hb.trans ((below_alc w _).mono hs), Nat.le_trans hs (below_alc w _).size, heap1_0 _ _⟩ ?_
  clear hb hs  
  rintro W1 ⟨hb, hs, h_U⟩
  generalize w.heap.size = U at *
  have hbx := below_alc W1 (.cells #[.int .u8 5] 5)
  have hak := ask_0 (W1.alloc (.cells #[.int .u8 5] 5)) (UpH.below h_U hbx) (oneF 1#8) (some ⟨W1.heap.size, 0, none⟩) 1 1 rfl rfl
  go_upto_region 3 with (first | (refine wpList_build rfl 37 _ rfl #[(0, .int .u8 1)] (by kernel_rfl) (.agg (arr8 32 (oneF 1#8))) (fun w => hs_build w) ?_) | (go_at_call 9; refine hak.mono ?_; rintro e V1 ⟨rfl, hbq0⟩; have hbq : Below W1.heap.size W1 V1 := hbx.trans (hbq0.mono hbx.size); clear hbq0 hbx hak; replace h_U := heap_below h_U hbq; replace hb := hb.trans (hbq.mono hs); replace hs := Nat.le_trans hs hbq.size; clear hbq) | (refine wpList_store_row rfl 40 _ _ rfl V1.heap.size (rqA 5 (oneF 1#8) 0 0 (.slice none 0 0)) rfl rfl _ _ (heap1_0 _ _) (rq_info _ _ _ _ _) (by kernel_rfl) (rq_one _ _ _ _ _ _ _) ?_; rw [alloc_setRow]))
  have l_U_R : U < V1.heap.size := lt_heap h_U
  have o_R : n0 ≤ V1.heap.size := hs
  refine wp_world (fun W => Below n0 w W ∧ n0 ≤ W.heap.size ∧ W.heap[U]? = some (.cells (uv 0 0 0 0) 31 (0, 0)) ∧ W.heap[V1.heap.size]? = some (.cells (rqA 5 (oneF 1#8) 0 0 (.slice none 0 0)) 40 (0, 0))) ⟨hb.trans ((below_alc V1 _).mono hs), Nat.le_trans hs (below_alc V1 _).size, heap_below h_U (below_alc V1 _), heap1_0 _ _⟩ ?_
  clear hb hs h_U 
  rintro W2 ⟨hb, hs, h_U, h_R⟩
  generalize V1.heap.size = R at *
  refine wp_region_lit ?_
  try simp only [put_list, List.set_cons_zero, List.set_cons_succ]
  refine wpList_run (by kernel_rfl) (.bool true) (W2) (exec_move rfl (by kernel_rfl)) ?_
  try simp only [put_list, List.set_cons_zero, List.set_cons_succ]
  refine wpList_run (by kernel_rfl) (.bool true) (W2) (exec_move rfl (by kernel_rfl)) ?_
  try simp only [put_list, List.set_cons_zero, List.set_cons_succ]
  refine wpList_runG (by kernel_rfl) (.pointer (some ⟨R, 0, none⟩)) (W2) (exec_field (vx := .pointer (some ⟨R, 0, none⟩)) rfl (by kernel_rfl) (by kernel_rfl)) ?_
  try simp only [put_list, List.set_cons_zero, List.set_cons_succ]
  refine wpList_runG (by kernel_rfl) (.int .i64 5) (W2) (exec_load (vx := .pointer (some ⟨R, 0, none⟩)) rfl (by kernel_rfl) (load_i64 R 0 W2 _ (cell_heap h_R rfl))) ?_
  try simp only [put_list, List.set_cons_zero, List.set_cons_succ]
  refine wpList_runG (by kernel_rfl) (.bool true) (W2) (exec_bin (vx := .int .i64 5) (vy := Go.Value.int Go.IntKind.i64 5) rfl (by kernel_rfl) (by kernel_rfl)) ?_
  try simp only [put_list, List.set_cons_zero, List.set_cons_succ]
  refine wpList_run (by kernel_rfl) (.bool true) (W2) (exec_pick (b := true) rfl (by kernel_rfl) (by kernel_rfl)) ?_
  try simp only [put_list, List.set_cons_zero, List.set_cons_succ]
  refine wpList_run (by kernel_rfl) (.bool true) (W2) (exec_move rfl (by kernel_rfl)) ?_
  try simp only [put_list, List.set_cons_zero, List.set_cons_succ]
  refine wpList_runG (by kernel_rfl) (.pointer (some ⟨R, 1, none⟩)) (W2) (exec_field (vx := .pointer (some ⟨R, 0, none⟩)) rfl (by kernel_rfl) (by kernel_rfl)) ?_
  try simp only [put_list, List.set_cons_zero, List.set_cons_succ]
  refine wpList_runG (by kernel_rfl) (.agg (arr8 32 (oneF 1#8))) (W2) (exec_load (vx := .pointer (some ⟨R, 1, none⟩)) rfl (by kernel_rfl) (load_rowQ W2 R _ (rq_blob h_R))) ?_
  try simp only [put_list, List.set_cons_zero, List.set_cons_succ]
  refine wpList_runG (by kernel_rfl) (.agg (arr8 32 (oneF 1#8))) (W2) (exec_build (vs := #[(0, Go.Value.int Go.IntKind.u8 1)]) rfl (by kernel_rfl) (hs_build W2)) ?_
  try simp only [put_list, List.set_cons_zero, List.set_cons_succ]
  refine wpList_runG (by kernel_rfl) (.bool true) (W2) (exec_eqrow (cx := arr8 32 (oneF 1#8)) (cy := arr8 32 (oneF 1#8)) (b := true) (.inl rfl) rfl (by kernel_rfl) (by kernel_rfl) (equalHs _ W2)) ?_
  try simp only [put_list, List.set_cons_zero, List.set_cons_succ]
  refine wpList_run (by kernel_rfl) (.bool true) (W2) (exec_pick (b := true) rfl (by kernel_rfl) (by kernel_rfl)) ?_
  try simp only [put_list, List.set_cons_zero, List.set_cons_succ]
  refine wpList_run (by kernel_rfl) (.bool true) (W2) (exec_assign rfl (by kernel_rfl)) ?_
  refine wpList_nil ?_
  simp only [put_list, List.set_cons_zero]
  go_wp2_with fail
  go_ret
  exact ⟨rfl, hb⟩
end Go.Proofs.YtffkjbbhbpaacaaDoor
