import Derived.Test.YtffkjbbhbpaacaaDoorFrm
import Derived.Test.YtffkjbbhbpaacaaDoorUpa
import Derived.Test.YtffkjbbhbpaacaaDoorFil
import Derived.Test.YtffkjbbhbpaacaaDoorCpy
/-
  upload.Up's Ask, but for the phase Put.
  upload.part; Ask in the phase Put.
-/
namespace Go.Proofs.YtffkjbbhbpaacaaDoor
open Go.RowKit

/-- a request's cells -/
theorem rq_build1 (f : Nat → BitVec 8) (w : World) : (Instr.build 40 #[(1, .agg (arr8 32 f))]).run Tryd.prog w = .ok (.agg (rqA 0 f 0 0 (.slice none 0 0))) w := by kernel_rfl
theorem info_Hs (f : Nat → BitVec 8) : (Tryd.prog.info? 37).map (·.size) = some (arr8 32 f).size := by rw [arr8_size]; kernel_rfl
section
variable {W W' : World} {g : Nat} {ph at' a b : Int}
set_option maxRecDepth 100000 in
set_option maxHeartbeats 800000 in
theorem ask_wait (w : World) (h : UpH w g ph at' a b) (f : Nat → BitVec 8) (Bl : Option Addr) (nb cb : Nat) (hb0 : b ≠ 0) : Calls Tryd.prog 9 #[.pointer (some ⟨g, 0, none⟩), .agg (arr8 32 f), .slice Bl nb cb] w fun e w' => e = .returned (.tuple #[.agg (rqA 0 zf 0 0 (.slice none 0 0)), .bool false]) ∧ Below w.heap.size w w' := by
  obtain ⟨n0, hn0⟩ : ∃ n, n = w.heap.size := ⟨_, rfl⟩
  try rw [← hn0]
  have hb : Below n0 w w := by rw [hn0]; exact Below.refl _ _
  have hs : n0 ≤ w.heap.size := by rw [hn0]; exact Nat.le_refl _
  clear hn0
  have h_g : w.heap[g]? = some (.cells (uv ph at' a b) 31 (0, 0)) := h
  clear h
  go_enter Tryd.func9, Tryd.ntmps9
  go_upto_region 1 with (fail)
  have l_g_X : g < w.heap.size := lt_heap h_g
  have l_g_O : g < w.heap.size + 1 := by omega
  have o_X : n0 ≤ w.heap.size := hs
  have o_O : n0 ≤ w.heap.size + 1 := by omega
  have l_X_O : w.heap.size < w.heap.size + 1 := by omega
  refine wp_world (fun W => Below n0 w W ∧ n0 ≤ W.heap.size ∧ W.heap[g]? = some (.cells (uv ph at' a b) 31 (0, 0)) ∧ W.heap[w.heap.size]? = some (.cells (arr8 32 f) 37 (0, 0)) ∧ W.heap[w.heap.size + 1]? = some (.cells (rqA 0 zf 0 0 (.slice none 0 0)) 40 (0, 0))) ⟨(hb.trans ((below_alc w _).mono hs)).trans ((below_alc _ _).mono (Nat.le_trans hs (below_alc w _).size)), Nat.le_trans (Nat.le_trans hs (below_alc w _).size) (below_alc _ _).size, heap_below (heap_below h_g (below_alc w _)) (below_alc _ _), heap2_0 _ _ _, heap2_1 _ _ _⟩ ?_
  clear hb hs h_g 
  rintro W1 ⟨hb, hs, h_g, h_X, h_O⟩
  generalize w.heap.size = X at *
  generalize X + 1 = O at *
  have hrd := ready_u W1 h_g
  rw [show (b == 0) = false from by simpa using hb0] at hrd
  go_wp2_with (first | (go_at_call 29; refine hrd.mono ?_; rintro e W1 ⟨rfl, rfl⟩; clear hrd) | (refine wpList_build rfl 40 _ rfl #[] (by kernel_rfl) (.agg (rqA 0 zf 0 0 (.slice none 0 0))) (fun w => rq_build0 w) ?_) | (refine wpList_store_row rfl 40 _ _ rfl O (rqA 0 zf 0 0 (.slice none 0 0)) rfl rfl _ _ h_O (rq_info _ _ _ _ _) (rq_szs _ _ _ _ _ _ _ _ _ _) (rq_one _ _ _ _ _ _ _) ?_))
  refine bodyPost_ret (results_row_tmp rfl _ _ O _ (rqA 0 zf 0 0 (.slice none 0 0)) _ _ rfl (setRow_heap _ _ _ _ _ _ h_O) _ rfl Tryd.underlying40 rfl (rq_info _ _ _ _ _)) rfl ?_
  exact ⟨rfl, below_setRow hb o_O _⟩
set_option maxRecDepth 100000 in
set_option maxHeartbeats 800000 in
theorem ask_0 (w : World) (h : UpH w g ph at' a b) (f : Nat → BitVec 8) (Bl : Option Addr) (nb cb : Nat) (hb0 : b = 0) (hp : ph = 0) : Calls Tryd.prog 9 #[.pointer (some ⟨g, 0, none⟩), .agg (arr8 32 f), .slice Bl nb cb] w fun e w' => e = .returned (.tuple #[.agg (rqA 5 f 0 0 (.slice none 0 0)), .bool true]) ∧ Below w.heap.size w w' := by
  obtain ⟨n0, hn0⟩ : ∃ n, n = w.heap.size := ⟨_, rfl⟩
  try rw [← hn0]
  have hb : Below n0 w w := by rw [hn0]; exact Below.refl _ _
  have hs : n0 ≤ w.heap.size := by rw [hn0]; exact Nat.le_refl _
  clear hn0
  have h_g : w.heap[g]? = some (.cells (uv ph at' a b) 31 (0, 0)) := h
  clear h
  go_enter Tryd.func9, Tryd.ntmps9
  go_upto_region 1 with (fail)
  have l_g_X : g < w.heap.size := lt_heap h_g
  have l_g_O : g < w.heap.size + 1 := by omega
  have o_X : n0 ≤ w.heap.size := hs
  have o_O : n0 ≤ w.heap.size + 1 := by omega
  have l_X_O : w.heap.size < w.heap.size + 1 := by omega
  refine wp_world (fun W => Below n0 w W ∧ n0 ≤ W.heap.size ∧ W.heap[g]? = some (.cells (uv ph at' a b) 31 (0, 0)) ∧ W.heap[w.heap.size]? = some (.cells (arr8 32 f) 37 (0, 0)) ∧ W.heap[w.heap.size + 1]? = some (.cells (rqA 0 zf 0 0 (.slice none 0 0)) 40 (0, 0))) ⟨(hb.trans ((below_alc w _).mono hs)).trans ((below_alc _ _).mono (Nat.le_trans hs (below_alc w _).size)), Nat.le_trans (Nat.le_trans hs (below_alc w _).size) (below_alc _ _).size, heap_below (heap_below h_g (below_alc w _)) (below_alc _ _), heap2_0 _ _ _, heap2_1 _ _ _⟩ ?_
  clear hb hs h_g 
  rintro W1 ⟨hb, hs, h_g, h_X, h_O⟩
  generalize w.heap.size = X at *
  generalize X + 1 = O at *
  subst hp
  have hrd := ready_u W1 h_g
  rw [show (b == 0) = true from by simpa using hb0] at hrd
  go_upto_region 4 with (first | (go_at_call 29; refine hrd.mono ?_; rintro e W1 ⟨rfl, rfl⟩; clear hrd) | (refine wpList_load_row rfl 37 _ rfl X rfl _ _ _ _ h_X Tryd.underlying37 rfl (info_Hs f) ?_) | (refine wpList_build rfl 40 _ rfl #[(1, .agg (arr8 32 f))] (by kernel_rfl) (.agg (rqA 0 f 0 0 (.slice none 0 0))) (fun w => rq_build1 f w) ?_) | (refine wpList_store_row rfl 40 _ _ rfl W1.heap.size (rqA 0 f 0 0 (.slice none 0 0)) rfl rfl _ _ (heap1_0 _ _) (rq_info _ _ _ _ _) (by kernel_rfl) (rq_one _ _ _ _ _ _ _) ?_; rw [alloc_setRow]))
  have l_g_N : g < W1.heap.size := lt_heap h_g
  have l_X_N : X < W1.heap.size := lt_heap h_X
  have l_O_N : O < W1.heap.size := lt_heap h_O
  have o_N : n0 ≤ W1.heap.size := hs
  refine wp_world (fun W => Below n0 w W ∧ n0 ≤ W.heap.size ∧ W.heap[g]? = some (.cells (uv 0 at' a b) 31 (0, 0)) ∧ W.heap[X]? = some (.cells (arr8 32 f) 37 (0, 0)) ∧ W.heap[O]? = some (.cells (rqA 0 zf 0 0 (.slice none 0 0)) 40 (0, 0)) ∧ W.heap[W1.heap.size]? = some (.cells (rqA 0 f 0 0 (.slice none 0 0)) 40 (0, 0))) ⟨hb.trans ((below_alc W1 _).mono hs), Nat.le_trans hs (below_alc W1 _).size, heap_below h_g (below_alc W1 _), heap_below h_X (below_alc W1 _), heap_below h_O (below_alc W1 _), heap1_0 _ _⟩ ?_
  clear hb hs h_g h_X h_O 
  rintro W2 ⟨hb, hs, h_g, h_X, h_O, h_N⟩
  generalize W1.heap.size = N at *
  have c0 : W2.cell? ⟨g, 0, none⟩ = some (.int .i64 0) := cell_heap h_g rfl
  have q0 : W2.cell? ⟨N, 0, none⟩ = some (.int .i64 0) := cell_heap h_N (rq_c0 _ _ _ _ _)
  have f0 := thaw_heap h_N 0
  go_upto_region 19 with (fail)
  refine wp_world (fun W => Below n0 w W ∧ n0 ≤ W.heap.size ∧ W.heap[g]? = some (.cells (uv 0 at' a b) 31 (0, 0)) ∧ W.heap[X]? = some (.cells (arr8 32 f) 37 (0, 0)) ∧ W.heap[O]? = some (.cells (rqA 0 zf 0 0 (.slice none 0 0)) 40 (0, 0)) ∧ W.heap[N]? = some (.cells (rqA 5 f 0 0 (.slice none 0 0)) 40 (0, 0))) ⟨(set_turnH W2 N 0 _).below hb hs (fun q e => by rw [e]; exact o_N), by rw [heap_size_setCellQ]; exact hs, (heap_setCell_other W2 ⟨N, 0, none⟩ g _ (by show g ≠ N; omega)).trans h_g, (heap_setCell_other W2 ⟨N, 0, none⟩ X _ (by show X ≠ N; omega)).trans h_X, (heap_setCell_other W2 ⟨N, 0, none⟩ O _ (by show O ≠ N; omega)).trans h_O, (by rw [← rq_set0 0 5]; exact heap_setCell_same W2 N 0 _ _ _ h_N)⟩ ?_
  clear hb hs h_g h_X h_O h_N q0 f0 c0 
  rintro W3 ⟨hb, hs, h_g, h_X, h_O, h_N⟩
  go_wp2_with (first | (refine wpList_load_row rfl 40 _ rfl N rfl _ _ _ _ h_N Tryd.underlying40 rfl (rq_info _ _ _ _ _) ?_) | (refine wpList_store_row rfl 40 _ _ rfl O (rqA 5 f 0 0 (.slice none 0 0)) rfl rfl _ _ h_O (rq_info _ _ _ _ _) (rq_szs _ _ _ _ _ _ _ _ _ _) (rq_one _ _ _ _ _ _ _) ?_))
  refine bodyPost_ret (results_row_tmp rfl _ _ O _ (rqA 5 f 0 0 (.slice none 0 0)) _ _ rfl (setRow_heap _ _ _ _ _ _ h_O) _ rfl Tryd.underlying40 rfl (rq_info _ _ _ _ _)) rfl ?_
  exact ⟨rfl, below_setRow hb o_O _⟩
set_option maxRecDepth 100000 in
set_option maxHeartbeats 800000 in
theorem ask_3 (w : World) (h : UpH w g ph at' a b) (f : Nat → BitVec 8) (Bl : Option Addr) (nb cb : Nat) (hb0 : b = 0) (hp : ph = 3) : Calls Tryd.prog 9 #[.pointer (some ⟨g, 0, none⟩), .agg (arr8 32 f), .slice Bl nb cb] w fun e w' => e = .returned (.tuple #[.agg (rqA 3 f 0 0 (.slice none 0 0)), .bool true]) ∧ Below w.heap.size w w' := by
  obtain ⟨n0, hn0⟩ : ∃ n, n = w.heap.size := ⟨_, rfl⟩
  try rw [← hn0]
  have hb : Below n0 w w := by rw [hn0]; exact Below.refl _ _
  have hs : n0 ≤ w.heap.size := by rw [hn0]; exact Nat.le_refl _
  clear hn0
  have h_g : w.heap[g]? = some (.cells (uv ph at' a b) 31 (0, 0)) := h
  clear h
  go_enter Tryd.func9, Tryd.ntmps9
  go_upto_region 1 with (fail)
  have l_g_X : g < w.heap.size := lt_heap h_g
  have l_g_O : g < w.heap.size + 1 := by omega
  have o_X : n0 ≤ w.heap.size := hs
  have o_O : n0 ≤ w.heap.size + 1 := by omega
  have l_X_O : w.heap.size < w.heap.size + 1 := by omega
  refine wp_world (fun W => Below n0 w W ∧ n0 ≤ W.heap.size ∧ W.heap[g]? = some (.cells (uv ph at' a b) 31 (0, 0)) ∧ W.heap[w.heap.size]? = some (.cells (arr8 32 f) 37 (0, 0)) ∧ W.heap[w.heap.size + 1]? = some (.cells (rqA 0 zf 0 0 (.slice none 0 0)) 40 (0, 0))) ⟨(hb.trans ((below_alc w _).mono hs)).trans ((below_alc _ _).mono (Nat.le_trans hs (below_alc w _).size)), Nat.le_trans (Nat.le_trans hs (below_alc w _).size) (below_alc _ _).size, heap_below (heap_below h_g (below_alc w _)) (below_alc _ _), heap2_0 _ _ _, heap2_1 _ _ _⟩ ?_
  clear hb hs h_g 
  rintro W1 ⟨hb, hs, h_g, h_X, h_O⟩
  generalize w.heap.size = X at *
  generalize X + 1 = O at *
  subst hp
  have hrd := ready_u W1 h_g
  rw [show (b == 0) = true from by simpa using hb0] at hrd
  go_upto_region 4 with (first | (go_at_call 29; refine hrd.mono ?_; rintro e W1 ⟨rfl, rfl⟩; clear hrd) | (refine wpList_load_row rfl 37 _ rfl X rfl _ _ _ _ h_X Tryd.underlying37 rfl (info_Hs f) ?_) | (refine wpList_build rfl 40 _ rfl #[(1, .agg (arr8 32 f))] (by kernel_rfl) (.agg (rqA 0 f 0 0 (.slice none 0 0))) (fun w => rq_build1 f w) ?_) | (refine wpList_store_row rfl 40 _ _ rfl W1.heap.size (rqA 0 f 0 0 (.slice none 0 0)) rfl rfl _ _ (heap1_0 _ _) (rq_info _ _ _ _ _) (by kernel_rfl) (rq_one _ _ _ _ _ _ _) ?_; rw [alloc_setRow]))
  have l_g_N : g < W1.heap.size := lt_heap h_g
  have l_X_N : X < W1.heap.size := lt_heap h_X
  have l_O_N : O < W1.heap.size := lt_heap h_O
  have o_N : n0 ≤ W1.heap.size := hs
  refine wp_world (fun W => Below n0 w W ∧ n0 ≤ W.heap.size ∧ W.heap[g]? = some (.cells (uv 3 at' a b) 31 (0, 0)) ∧ W.heap[X]? = some (.cells (arr8 32 f) 37 (0, 0)) ∧ W.heap[O]? = some (.cells (rqA 0 zf 0 0 (.slice none 0 0)) 40 (0, 0)) ∧ W.heap[W1.heap.size]? = some (.cells (rqA 0 f 0 0 (.slice none 0 0)) 40 (0, 0))) ⟨hb.trans ((below_alc W1 _).mono hs), Nat.le_trans hs (below_alc W1 _).size, heap_below h_g (below_alc W1 _), heap_below h_X (below_alc W1 _), heap_below h_O (below_alc W1 _), heap1_0 _ _⟩ ?_
  clear hb hs h_g h_X h_O 
  rintro W2 ⟨hb, hs, h_g, h_X, h_O, h_N⟩
  generalize W1.heap.size = N at *
  have c0 : W2.cell? ⟨g, 0, none⟩ = some (.int .i64 3) := cell_heap h_g rfl
  have q0 : W2.cell? ⟨N, 0, none⟩ = some (.int .i64 0) := cell_heap h_N (rq_c0 _ _ _ _ _)
  have f0 := thaw_heap h_N 0
  go_upto_region 19 with (fail)
  refine wp_world (fun W => Below n0 w W ∧ n0 ≤ W.heap.size ∧ W.heap[g]? = some (.cells (uv 3 at' a b) 31 (0, 0)) ∧ W.heap[X]? = some (.cells (arr8 32 f) 37 (0, 0)) ∧ W.heap[O]? = some (.cells (rqA 0 zf 0 0 (.slice none 0 0)) 40 (0, 0)) ∧ W.heap[N]? = some (.cells (rqA 3 f 0 0 (.slice none 0 0)) 40 (0, 0))) ⟨(set_turnH W2 N 0 _).below hb hs (fun q e => by rw [e]; exact o_N), by rw [heap_size_setCellQ]; exact hs, (heap_setCell_other W2 ⟨N, 0, none⟩ g _ (by show g ≠ N; omega)).trans h_g, (heap_setCell_other W2 ⟨N, 0, none⟩ X _ (by show X ≠ N; omega)).trans h_X, (heap_setCell_other W2 ⟨N, 0, none⟩ O _ (by show O ≠ N; omega)).trans h_O, (by rw [← rq_set0 0 3]; exact heap_setCell_same W2 N 0 _ _ _ h_N)⟩ ?_
  clear hb hs h_g h_X h_O h_N q0 f0 c0 
  rintro W3 ⟨hb, hs, h_g, h_X, h_O, h_N⟩
  go_wp2_with (first | (refine wpList_load_row rfl 40 _ rfl N rfl _ _ _ _ h_N Tryd.underlying40 rfl (rq_info _ _ _ _ _) ?_) | (refine wpList_store_row rfl 40 _ _ rfl O (rqA 3 f 0 0 (.slice none 0 0)) rfl rfl _ _ h_O (rq_info _ _ _ _ _) (rq_szs _ _ _ _ _ _ _ _ _ _) (rq_one _ _ _ _ _ _ _) ?_))
  refine bodyPost_ret (results_row_tmp rfl _ _ O _ (rqA 3 f 0 0 (.slice none 0 0)) _ _ rfl (setRow_heap _ _ _ _ _ _ h_O) _ rfl Tryd.underlying40 rfl (rq_info _ _ _ _ _)) rfl ?_
  exact ⟨rfl, below_setRow hb o_O _⟩
set_option maxRecDepth 100000 in
set_option maxHeartbeats 800000 in
theorem ask_4 (w : World) (h : UpH w g ph at' a b) (f : Nat → BitVec 8) (Bl : Option Addr) (nb cb : Nat) (hb0 : b = 0) (hp : ph = 4) : Calls Tryd.prog 9 #[.pointer (some ⟨g, 0, none⟩), .agg (arr8 32 f), .slice Bl nb cb] w fun e w' => e = .returned (.tuple #[.agg (rqA 6 f 0 0 (.slice none 0 0)), .bool true]) ∧ Below w.heap.size w w' := by
  obtain ⟨n0, hn0⟩ : ∃ n, n = w.heap.size := ⟨_, rfl⟩
  try rw [← hn0]
  have hb : Below n0 w w := by rw [hn0]; exact Below.refl _ _
  have hs : n0 ≤ w.heap.size := by rw [hn0]; exact Nat.le_refl _
  clear hn0
  have h_g : w.heap[g]? = some (.cells (uv ph at' a b) 31 (0, 0)) := h
  clear h
  go_enter Tryd.func9, Tryd.ntmps9
  go_upto_region 1 with (fail)
  have l_g_X : g < w.heap.size := lt_heap h_g
  have l_g_O : g < w.heap.size + 1 := by omega
  have o_X : n0 ≤ w.heap.size := hs
  have o_O : n0 ≤ w.heap.size + 1 := by omega
  have l_X_O : w.heap.size < w.heap.size + 1 := by omega
  refine wp_world (fun W => Below n0 w W ∧ n0 ≤ W.heap.size ∧ W.heap[g]? = some (.cells (uv ph at' a b) 31 (0, 0)) ∧ W.heap[w.heap.size]? = some (.cells (arr8 32 f) 37 (0, 0)) ∧ W.heap[w.heap.size + 1]? = some (.cells (rqA 0 zf 0 0 (.slice none 0 0)) 40 (0, 0))) ⟨(hb.trans ((below_alc w _).mono hs)).trans ((below_alc _ _).mono (Nat.le_trans hs (below_alc w _).size)), Nat.le_trans (Nat.le_trans hs (below_alc w _).size) (below_alc _ _).size, heap_below (heap_below h_g (below_alc w _)) (below_alc _ _), heap2_0 _ _ _, heap2_1 _ _ _⟩ ?_
  clear hb hs h_g 
  rintro W1 ⟨hb, hs, h_g, h_X, h_O⟩
  generalize w.heap.size = X at *
  generalize X + 1 = O at *
  subst hp
  have hrd := ready_u W1 h_g
  rw [show (b == 0) = true from by simpa using hb0] at hrd
  go_upto_region 4 with (first | (go_at_call 29; refine hrd.mono ?_; rintro e W1 ⟨rfl, rfl⟩; clear hrd) | (refine wpList_load_row rfl 37 _ rfl X rfl _ _ _ _ h_X Tryd.underlying37 rfl (info_Hs f) ?_) | (refine wpList_build rfl 40 _ rfl #[(1, .agg (arr8 32 f))] (by kernel_rfl) (.agg (rqA 0 f 0 0 (.slice none 0 0))) (fun w => rq_build1 f w) ?_) | (refine wpList_store_row rfl 40 _ _ rfl W1.heap.size (rqA 0 f 0 0 (.slice none 0 0)) rfl rfl _ _ (heap1_0 _ _) (rq_info _ _ _ _ _) (by kernel_rfl) (rq_one _ _ _ _ _ _ _) ?_; rw [alloc_setRow]))
  have l_g_N : g < W1.heap.size := lt_heap h_g
  have l_X_N : X < W1.heap.size := lt_heap h_X
  have l_O_N : O < W1.heap.size := lt_heap h_O
  have o_N : n0 ≤ W1.heap.size := hs
  refine wp_world (fun W => Below n0 w W ∧ n0 ≤ W.heap.size ∧ W.heap[g]? = some (.cells (uv 4 at' a b) 31 (0, 0)) ∧ W.heap[X]? = some (.cells (arr8 32 f) 37 (0, 0)) ∧ W.heap[O]? = some (.cells (rqA 0 zf 0 0 (.slice none 0 0)) 40 (0, 0)) ∧ W.heap[W1.heap.size]? = some (.cells (rqA 0 f 0 0 (.slice none 0 0)) 40 (0, 0))) ⟨hb.trans ((below_alc W1 _).mono hs), Nat.le_trans hs (below_alc W1 _).size, heap_below h_g (below_alc W1 _), heap_below h_X (below_alc W1 _), heap_below h_O (below_alc W1 _), heap1_0 _ _⟩ ?_
  clear hb hs h_g h_X h_O 
  rintro W2 ⟨hb, hs, h_g, h_X, h_O, h_N⟩
  generalize W1.heap.size = N at *
  have c0 : W2.cell? ⟨g, 0, none⟩ = some (.int .i64 4) := cell_heap h_g rfl
  have q0 : W2.cell? ⟨N, 0, none⟩ = some (.int .i64 0) := cell_heap h_N (rq_c0 _ _ _ _ _)
  have f0 := thaw_heap h_N 0
  go_upto_region 19 with (fail)
  refine wp_world (fun W => Below n0 w W ∧ n0 ≤ W.heap.size ∧ W.heap[g]? = some (.cells (uv 4 at' a b) 31 (0, 0)) ∧ W.heap[X]? = some (.cells (arr8 32 f) 37 (0, 0)) ∧ W.heap[O]? = some (.cells (rqA 0 zf 0 0 (.slice none 0 0)) 40 (0, 0)) ∧ W.heap[N]? = some (.cells (rqA 6 f 0 0 (.slice none 0 0)) 40 (0, 0))) ⟨(set_turnH W2 N 0 _).below hb hs (fun q e => by rw [e]; exact o_N), by rw [heap_size_setCellQ]; exact hs, (heap_setCell_other W2 ⟨N, 0, none⟩ g _ (by show g ≠ N; omega)).trans h_g, (heap_setCell_other W2 ⟨N, 0, none⟩ X _ (by show X ≠ N; omega)).trans h_X, (heap_setCell_other W2 ⟨N, 0, none⟩ O _ (by show O ≠ N; omega)).trans h_O, (by rw [← rq_set0 0 6]; exact heap_setCell_same W2 N 0 _ _ _ h_N)⟩ ?_
  clear hb hs h_g h_X h_O h_N q0 f0 c0 
  rintro W3 ⟨hb, hs, h_g, h_X, h_O, h_N⟩
  go_wp2_with (first | (refine wpList_load_row rfl 40 _ rfl N rfl _ _ _ _ h_N Tryd.underlying40 rfl (rq_info _ _ _ _ _) ?_) | (refine wpList_store_row rfl 40 _ _ rfl O (rqA 6 f 0 0 (.slice none 0 0)) rfl rfl _ _ h_O (rq_info _ _ _ _ _) (rq_szs _ _ _ _ _ _ _ _ _ _) (rq_one _ _ _ _ _ _ _) ?_))
  refine bodyPost_ret (results_row_tmp rfl _ _ O _ (rqA 6 f 0 0 (.slice none 0 0)) _ _ rfl (setRow_heap _ _ _ _ _ _ h_O) _ rfl Tryd.underlying40 rfl (rq_info _ _ _ _ _)) rfl ?_
  exact ⟨rfl, below_setRow hb o_O _⟩
set_option maxRecDepth 100000 in
set_option maxHeartbeats 800000 in
theorem ask_1 (w : World) (h : UpH w g ph at' a b) (f : Nat → BitVec 8) (Bl : Option Addr) (nb cb : Nat) (hb0 : b = 0) (hp : ph = 1) (hnb : nb < 4294967296) : Calls Tryd.prog 9 #[.pointer (some ⟨g, 0, none⟩), .agg (arr8 32 f), .slice Bl nb cb] w fun e w' => e = .returned (.tuple #[.agg (rqA 1 f 0 (nb : Int) (.slice none 0 0)), .bool true]) ∧ Below w.heap.size w w' := by
  obtain ⟨n0, hn0⟩ : ∃ n, n = w.heap.size := ⟨_, rfl⟩
  try rw [← hn0]
  have hb : Below n0 w w := by rw [hn0]; exact Below.refl _ _
  have hs : n0 ≤ w.heap.size := by rw [hn0]; exact Nat.le_refl _
  clear hn0
  have h_g : w.heap[g]? = some (.cells (uv ph at' a b) 31 (0, 0)) := h
  clear h
  go_enter Tryd.func9, Tryd.ntmps9
  go_upto_region 1 with (fail)
  have l_g_X : g < w.heap.size := lt_heap h_g
  have l_g_O : g < w.heap.size + 1 := by omega
  have o_X : n0 ≤ w.heap.size := hs
  have o_O : n0 ≤ w.heap.size + 1 := by omega
  have l_X_O : w.heap.size < w.heap.size + 1 := by omega
  refine wp_world (fun W => Below n0 w W ∧ n0 ≤ W.heap.size ∧ W.heap[g]? = some (.cells (uv ph at' a b) 31 (0, 0)) ∧ W.heap[w.heap.size]? = some (.cells (arr8 32 f) 37 (0, 0)) ∧ W.heap[w.heap.size + 1]? = some (.cells (rqA 0 zf 0 0 (.slice none 0 0)) 40 (0, 0))) ⟨(hb.trans ((below_alc w _).mono hs)).trans ((below_alc _ _).mono (Nat.le_trans hs (below_alc w _).size)), Nat.le_trans (Nat.le_trans hs (below_alc w _).size) (below_alc _ _).size, heap_below (heap_below h_g (below_alc w _)) (below_alc _ _), heap2_0 _ _ _, heap2_1 _ _ _⟩ ?_
  clear hb hs h_g 
  rintro W1 ⟨hb, hs, h_g, h_X, h_O⟩
  generalize w.heap.size = X at *
  generalize X + 1 = O at *
  subst hp
  have hrd := ready_u W1 h_g
  rw [show (b == 0) = true from by simpa using hb0] at hrd
  go_upto_region 4 with (first | (go_at_call 29; refine hrd.mono ?_; rintro e W1 ⟨rfl, rfl⟩; clear hrd) | (refine wpList_load_row rfl 37 _ rfl X rfl _ _ _ _ h_X Tryd.underlying37 rfl (info_Hs f) ?_) | (refine wpList_build rfl 40 _ rfl #[(1, .agg (arr8 32 f))] (by kernel_rfl) (.agg (rqA 0 f 0 0 (.slice none 0 0))) (fun w => rq_build1 f w) ?_) | (refine wpList_store_row rfl 40 _ _ rfl W1.heap.size (rqA 0 f 0 0 (.slice none 0 0)) rfl rfl _ _ (heap1_0 _ _) (rq_info _ _ _ _ _) (by kernel_rfl) (rq_one _ _ _ _ _ _ _) ?_; rw [alloc_setRow]))
  have l_g_N : g < W1.heap.size := lt_heap h_g
  have l_X_N : X < W1.heap.size := lt_heap h_X
  have l_O_N : O < W1.heap.size := lt_heap h_O
  have o_N : n0 ≤ W1.heap.size := hs
  refine wp_world (fun W => Below n0 w W ∧ n0 ≤ W.heap.size ∧ W.heap[g]? = some (.cells (uv 1 at' a b) 31 (0, 0)) ∧ W.heap[X]? = some (.cells (arr8 32 f) 37 (0, 0)) ∧ W.heap[O]? = some (.cells (rqA 0 zf 0 0 (.slice none 0 0)) 40 (0, 0)) ∧ W.heap[W1.heap.size]? = some (.cells (rqA 0 f 0 0 (.slice none 0 0)) 40 (0, 0))) ⟨hb.trans ((below_alc W1 _).mono hs), Nat.le_trans hs (below_alc W1 _).size, heap_below h_g (below_alc W1 _), heap_below h_X (below_alc W1 _), heap_below h_O (below_alc W1 _), heap1_0 _ _⟩ ?_
  clear hb hs h_g h_X h_O 
  rintro W2 ⟨hb, hs, h_g, h_X, h_O, h_N⟩
  generalize W1.heap.size = N at *
  have c0 : W2.cell? ⟨g, 0, none⟩ = some (.int .i64 1) := cell_heap h_g rfl
  have q0 : W2.cell? ⟨N, 0, none⟩ = some (.int .i64 0) := cell_heap h_N (rq_c0 _ _ _ _ _)
  have f0 := thaw_heap h_N 0
  go_upto_region 10 with (fail)
  refine wp_world (fun W => Below n0 w W ∧ n0 ≤ W.heap.size ∧ W.heap[g]? = some (.cells (uv 1 at' a b) 31 (0, 0)) ∧ W.heap[X]? = some (.cells (arr8 32 f) 37 (0, 0)) ∧ W.heap[O]? = some (.cells (rqA 0 zf 0 0 (.slice none 0 0)) 40 (0, 0)) ∧ W.heap[N]? = some (.cells (rqA 1 f 0 0 (.slice none 0 0)) 40 (0, 0))) ⟨(set_turnH W2 N 0 _).below hb hs (fun q e => by rw [e]; exact o_N), by rw [heap_size_setCellQ]; exact hs, (heap_setCell_other W2 ⟨N, 0, none⟩ g _ (by show g ≠ N; omega)).trans h_g, (heap_setCell_other W2 ⟨N, 0, none⟩ X _ (by show X ≠ N; omega)).trans h_X, (heap_setCell_other W2 ⟨N, 0, none⟩ O _ (by show O ≠ N; omega)).trans h_O, (by rw [← rq_set0 0 1]; exact heap_setCell_same W2 N 0 _ _ _ h_N)⟩ ?_
  clear hb hs h_g h_X h_O h_N q0 f0 c0 
  rintro W3 ⟨hb, hs, h_g, h_X, h_O, h_N⟩
  have q4 : W3.cell? ⟨N, 34, none⟩ = some (.int .u32 0) := cell_heap h_N (rq_c34 _ _ _ _ _)
  have f4 := thaw_heap h_N 34
  go_upto_region 19 with (fail)
  trace_state
  refine wp_world (fun W => Below n0 w W ∧ n0 ≤ W.heap.size ∧ W.heap[g]? = some (.cells (uv 1 at' a b) 31 (0, 0)) ∧ W.heap[X]? = some (.cells (arr8 32 f) 37 (0, 0)) ∧ W.heap[O]? = some (.cells (rqA 0 zf 0 0 (.slice none 0 0)) 40 (0, 0)) ∧ W.heap[N]? = some (.cells (rqA 1 f 0 (nb : Int) (.slice none 0 0)) 40 (0, 0))) ⟨(set_turnH W3 N 34 _).below hb hs (fun q e => by rw [e]; exact o_N), by rw [heap_size_setCellQ]; exact hs, (heap_setCell_other W3 ⟨N, 34, none⟩ g _ (by show g ≠ N; omega)).trans h_g, (heap_setCell_other W3 ⟨N, 34, none⟩ X _ (by show X ≠ N; omega)).trans h_X, (heap_setCell_other W3 ⟨N, 34, none⟩ O _ (by show O ≠ N; omega)).trans h_O, (by rw [← rq_set34 1 f 0 0 (nb : Int)]; exact heap_setCell_same W3 N 34 _ _ _ h_N)⟩ ?_
  clear hb hs h_g h_X h_O h_N q4 f4 
  rintro W4 ⟨hb, hs, h_g, h_X, h_O, h_N⟩
  go_wp2_with (first | (refine wpList_load_row rfl 40 _ rfl N rfl _ _ _ _ h_N Tryd.underlying40 rfl (rq_info _ _ _ _ _) ?_) | (refine wpList_store_row rfl 40 _ _ rfl O (rqA 1 f 0 (nb : Int) (.slice none 0 0)) rfl rfl _ _ h_O (rq_info _ _ _ _ _) (rq_szs _ _ _ _ _ _ _ _ _ _) (rq_one _ _ _ _ _ _ _) ?_))
  refine bodyPost_ret (results_row_tmp rfl _ _ O _ (rqA 1 f 0 (nb : Int) (.slice none 0 0)) _ _ rfl (setRow_heap _ _ _ _ _ _ h_O) _ rfl Tryd.underlying40 rfl (rq_info _ _ _ _ _)) rfl ?_
  exact ⟨rfl, below_setRow hb o_O _⟩
end
theorem sliceAt_hk {P : Program} {t e : TypeId} (hu : P.underlying t = some (.slice e)) (hs : (P.info? e).map (·.size) = some 1) (kk : IntKind) (A : Option Addr) (n cap k : Nat) (z : Int) (hz : z = k) (hk : k ≤ cap) (w : World) :
    (Instr.sliceAt t (.slice A n cap) none (some (.int kk z)) none).run P w = .ok (.slice A k cap) w := by
  subst hz
  have e2 : P.elem t = e := by simp [Program.elem, hu]
  rw [run_sliceAt_slice (h := by rw [e2]; exact hu), run_slice_h (P := P) w t A n cap (by rw [e2]; exact hu) kk (k : Int) (by omega) (by omega), e2]
  obtain ⟨i, hi, hz⟩ := Option.map_eq_some_iff.1 hs
  cases A <;> simp [sizeOf, typeInfo, hi, hz, Result.andThen, sliced, Addr.add]
theorem slread_dropQ {k : IntKind} {w : World} {A : Option Addr} {l : List Int} (h : SlRead w A (ints k l)) (c cap : Nat) (hc : l.length ≤ cap) : SlRead w (cutA A c cap) (ints k (l.drop c)) := by
  intro hn
  have hlt : c < l.length := by simp [ints] at hn; omega
  obtain ⟨b, o, e, hl, hcell⟩ := h (by simp [ints]; omega)
  subst e
  refine ⟨b, o + c, cutA_some hlt hc, hl, fun j u hj => ?_⟩
  have hj2 : (ints k l)[c + j]? = some u := by
    rw [← hj]
    simp [ints, List.getElem?_drop]
  have := hcell (c + j) u hj2
  rwa [Nat.add_assoc]
theorem min_200 (a : Nat) (w : World) : (Builtin.min_ #[3, 3] 3 #[.int .i64 (a : Int), .int .i64 200]).run Tryd.prog w = .ok (.int .i64 ((min a 200 : Nat) : Int)) w := by
  have h : (if (200 : Int) < (a : Int) then (200 : Int) else (a : Int)) = ((min a 200 : Nat) : Int) := by
    rcases Nat.lt_or_ge 200 a with h | h
    · rw [if_pos (by omega), Nat.min_eq_right (by omega)]; rfl
    · rw [if_neg (by omega), Nat.min_eq_left h]
  rw [run_min_int2, h]
set_option maxRecDepth 100000 in
set_option maxHeartbeats 800000 in
theorem part_no (A : Option Addr) (nb cb : Nat) (z : Int) (hz : z < 0 ∨ (nb : Int) < z) (w : World) : Calls Tryd.prog 30 #[.slice A nb cb, .int .i64 z] w fun e w' => e = .returned (.slice none 0 0) ∧ Below w.heap.size w w' := by
  go_enter Tryd.func30, Tryd.ntmps30
  by_cases h0 : z < 0
  · clear hz
    go_wp2_with fail
    go_ret
    exact ⟨rfl, Below.refl _ _⟩
  · have h1 : (nb : Int) < z := by omega
    clear hz
    go_wp2_with fail
    go_ret
    exact ⟨rfl, Below.refl _ _⟩
set_option maxRecDepth 100000 in
set_option maxHeartbeats 800000 in
theorem part_yes (A : Option Addr) (xs : List Int) (nb cb k : Nat) (hnb : nb = xs.length) (hk : k ≤ nb) (hcb : nb ≤ cb) (hb9 : nb ≤ 900) (w : World) (hA : SlRead w A (ints .u8 xs)) : Calls Tryd.prog 30 #[.slice A nb cb, .int .i64 (k : Int)] w fun e w' => ∃ v, e = .returned v ∧ w'.ownsRow w.heap.size 5 1 v (min (nb - k) 200) (ints .u8 ((xs.drop k).take (min (nb - k) 200))) ∧ Below w.heap.size w w' := by
  have h0 : ¬ (k : Int) < 0 := by omega
  have h1 : ¬ (nb : Int) < (k : Int) := by omega
  have hs1 := sliceAt_l0 (P := Tryd.prog) Tryd.underlying25 (show (Tryd.prog.info? 5).map (·.size) = some 1 by kernel_rfl) A nb cb k hk
  have hmn := min_200 (nb - k)
  obtain ⟨m, hm⟩ : ∃ m, m = min (nb - k) 200 := ⟨_, rfl⟩
  rw [← hm] at hmn ⊢
  have hs2 := sliceAt_hk (P := Tryd.prog) Tryd.underlying25 (show (Tryd.prog.info? 5).map (·.size) = some 1 by kernel_rfl) .i64 (cutA A k cb) (nb - k) (cb - k) m (m : Int) rfl (by omega)
  have hrd := (slread_dropQ hA k cb (by omega)).take m
  have hln : ((xs.drop k).take m).length = m := by rw [List.length_take, List.length_drop, ← hnb]; omega
  have hcl := cloneI_any (cutA A k cb) ((xs.drop k).take m) (cb - k) w hrd (by omega)
  rw [hln] at hcl
  have HM := Lib.hid (And.intro hm (And.intro hnb (And.intro hk (And.intro hcb hb9))))
  obtain ⟨r, hr⟩ : ∃ r, r = nb - k := ⟨_, rfl⟩
  rw [← hr] at hs1 hs2 hmn
  clear hm hnb hk hcb hb9 hA hrd hln hr
  go_enter Tryd.func30, Tryd.ntmps30
  go_wp2_with (go_at_call 56; refine hcl.mono ?_; rintro e w1 ⟨v, rfl, ho, hb⟩; have H1 := Lib.hid (And.intro ho hb); clear ho hb hcl)
  go_ret
  exact ⟨_, rfl, H1.out⟩
theorem set_turnRowQ (w : World) (g : Nat) (cs : Array Value) : Turn (· = g) w (w.setRow g cs) := ⟨rfl, rfl, rfl, by simp [World.setRow], fun k _ hne => setRow_other w g k cs hne⟩
theorem slread_turnQ {F : Nat → Prop} {w w' : World} {A : Option Addr} {xs : List Value} (h : SlRead w A xs) (ht : Turn F w w') (hF : ∀ a, A = some a → ¬ F a.block) : SlRead w' A xs := by
  intro hn
  obtain ⟨b, o, rfl, hlt, hc⟩ := h hn
  exact ⟨b, o, rfl, Nat.lt_of_lt_of_le hlt ht.size, fun j u hj => (ht.cell (o := o + j) hlt (hF _ rfl)).trans (hc j u hj)⟩
set_option maxRecDepth 100000 in
set_option maxHeartbeats 800000 in
theorem ask_2 (w : World) (g : Nat) (at' a b : Int) (h : UpH w g 2 at' a b) (f : Nat → BitVec 8) (Bl : Option Addr) (nb cb : Nat) (ys : List Int) (hb0 : b = 0) (hat : 0 ≤ at' ∧ at' < 4294967296)
    (hp : ∀ W, Below w.heap.size w W → Calls Tryd.prog 30 #[.slice Bl nb cb, .int .i64 at'] W fun e W' => ∃ A l c, e = .returned (.slice A l c) ∧ l = ys.length ∧ SlRead W' A (ints .u8 ys) ∧ (∀ x, A = some x → W.heap.size ≤ x.block) ∧ Below W.heap.size W W') :
    Calls Tryd.prog 9 #[.pointer (some ⟨g, 0, none⟩), .agg (arr8 32 f), .slice Bl nb cb] w fun e w' => ∃ A l c, e = .returned (.tuple #[.agg (rqA 2 f at' 0 (.slice A l c)), .bool true]) ∧ l = ys.length ∧ SlRead w' A (ints .u8 ys) ∧ Below w.heap.size w w' := by
  have HP0 := Lib.hid hp
  clear hp
  obtain ⟨n0, hn0⟩ : ∃ n, n = w.heap.size := ⟨_, rfl⟩
  try rw [← hn0]
  have hb : Below n0 w w := by rw [hn0]; exact Below.refl _ _
  have hs : n0 ≤ w.heap.size := by rw [hn0]; exact Nat.le_refl _
  rw [← hn0] at HP0
  clear hn0
  have h_g : w.heap[g]? = some (.cells (uv 2 at' a b) 31 (0, 0)) := h
  clear h
  go_enter Tryd.func9, Tryd.ntmps9
  go_upto_region 1 with (fail)
  have l_g_X : g < w.heap.size := lt_heap h_g
  have l_g_O : g < w.heap.size + 1 := by omega
  have o_X : n0 ≤ w.heap.size := hs
  have o_O : n0 ≤ w.heap.size + 1 := by omega
  have l_X_O : w.heap.size < w.heap.size + 1 := by omega
  refine wp_world (fun W => Below n0 w W ∧ n0 ≤ W.heap.size ∧ W.heap[g]? = some (.cells (uv 2 at' a b) 31 (0, 0)) ∧ W.heap[w.heap.size]? = some (.cells (arr8 32 f) 37 (0, 0)) ∧ W.heap[w.heap.size + 1]? = some (.cells (rqA 0 zf 0 0 (.slice none 0 0)) 40 (0, 0))) ⟨(hb.trans ((below_alc w _).mono hs)).trans ((below_alc _ _).mono (Nat.le_trans hs (below_alc w _).size)), Nat.le_trans (Nat.le_trans hs (below_alc w _).size) (below_alc _ _).size, heap_below (heap_below h_g (below_alc w _)) (below_alc _ _), heap2_0 _ _ _, heap2_1 _ _ _⟩ ?_
  clear hb hs h_g 
  rintro W1 ⟨hb, hs, h_g, h_X, h_O⟩
  generalize w.heap.size = X at *
  generalize X + 1 = O at *
  have hrd := ready_u W1 h_g
  rw [show (b == 0) = true from by simpa using hb0] at hrd
  go_upto_region 4 with (first | (go_at_call 29; refine hrd.mono ?_; rintro e W1 ⟨rfl, rfl⟩; clear hrd) | (refine wpList_load_row rfl 37 _ rfl X rfl _ _ _ _ h_X Tryd.underlying37 rfl (info_Hs f) ?_) | (refine wpList_build rfl 40 _ rfl #[(1, .agg (arr8 32 f))] (by kernel_rfl) (.agg (rqA 0 f 0 0 (.slice none 0 0))) (fun w => rq_build1 f w) ?_) | (refine wpList_store_row rfl 40 _ _ rfl W1.heap.size (rqA 0 f 0 0 (.slice none 0 0)) rfl rfl _ _ (heap1_0 _ _) (rq_info _ _ _ _ _) (by kernel_rfl) (rq_one _ _ _ _ _ _ _) ?_; rw [alloc_setRow]))
  have l_g_N : g < W1.heap.size := lt_heap h_g
  have l_X_N : X < W1.heap.size := lt_heap h_X
  have l_O_N : O < W1.heap.size := lt_heap h_O
  have o_N : n0 ≤ W1.heap.size := hs
  refine wp_world (fun W => Below n0 w W ∧ n0 ≤ W.heap.size ∧ W.heap[g]? = some (.cells (uv 2 at' a b) 31 (0, 0)) ∧ W.heap[X]? = some (.cells (arr8 32 f) 37 (0, 0)) ∧ W.heap[O]? = some (.cells (rqA 0 zf 0 0 (.slice none 0 0)) 40 (0, 0)) ∧ W.heap[W1.heap.size]? = some (.cells (rqA 0 f 0 0 (.slice none 0 0)) 40 (0, 0))) ⟨hb.trans ((below_alc W1 _).mono hs), Nat.le_trans hs (below_alc W1 _).size, heap_below h_g (below_alc W1 _), heap_below h_X (below_alc W1 _), heap_below h_O (below_alc W1 _), heap1_0 _ _⟩ ?_
  clear hb hs h_g h_X h_O 
  rintro W2 ⟨hb, hs, h_g, h_X, h_O, h_N⟩
  generalize W1.heap.size = N at *
  have c0 : W2.cell? ⟨g, 0, none⟩ = some (.int .i64 2) := cell_heap h_g rfl
  have q0 : W2.cell? ⟨N, 0, none⟩ = some (.int .i64 0) := cell_heap h_N (rq_c0 _ _ _ _ _)
  have f0 := thaw_heap h_N 0
  go_upto_region 13 with (fail)
  refine wp_world (fun W => Below n0 w W ∧ n0 ≤ W.heap.size ∧ W.heap[g]? = some (.cells (uv 2 at' a b) 31 (0, 0)) ∧ W.heap[X]? = some (.cells (arr8 32 f) 37 (0, 0)) ∧ W.heap[O]? = some (.cells (rqA 0 zf 0 0 (.slice none 0 0)) 40 (0, 0)) ∧ W.heap[N]? = some (.cells (rqA 2 f 0 0 (.slice none 0 0)) 40 (0, 0))) ⟨(set_turnH W2 N 0 _).below hb hs (fun q e => by rw [e]; exact o_N), by rw [heap_size_setCellQ]; exact hs, (heap_setCell_other W2 ⟨N, 0, none⟩ g _ (by show g ≠ N; omega)).trans h_g, (heap_setCell_other W2 ⟨N, 0, none⟩ X _ (by show X ≠ N; omega)).trans h_X, (heap_setCell_other W2 ⟨N, 0, none⟩ O _ (by show O ≠ N; omega)).trans h_O, (by rw [← rq_set0 0 2]; exact heap_setCell_same W2 N 0 _ _ _ h_N)⟩ ?_
  clear hb hs h_g h_X h_O h_N q0 f0 c0 
  rintro W3 ⟨hb, hs, h_g, h_X, h_O, h_N⟩
  have c1 : W3.cell? ⟨g, 1, none⟩ = some (.int .i64 at') := cell_heap h_g rfl
  have q3 : W3.cell? ⟨N, 33, none⟩ = some (.int .u32 0) := cell_heap h_N (rq_c33 _ _ _ _ _)
  have f3 := thaw_heap h_N 33
  go_upto_region 14 with (fail)
  refine wp_world (fun W => Below n0 w W ∧ n0 ≤ W.heap.size ∧ W.heap[g]? = some (.cells (uv 2 at' a b) 31 (0, 0)) ∧ W.heap[X]? = some (.cells (arr8 32 f) 37 (0, 0)) ∧ W.heap[O]? = some (.cells (rqA 0 zf 0 0 (.slice none 0 0)) 40 (0, 0)) ∧ W.heap[N]? = some (.cells (rqA 2 f at' 0 (.slice none 0 0)) 40 (0, 0))) ⟨(set_turnH W3 N 33 _).below hb hs (fun q e => by rw [e]; exact o_N), by rw [heap_size_setCellQ]; exact hs, (heap_setCell_other W3 ⟨N, 33, none⟩ g _ (by show g ≠ N; omega)).trans h_g, (heap_setCell_other W3 ⟨N, 33, none⟩ X _ (by show X ≠ N; omega)).trans h_X, (heap_setCell_other W3 ⟨N, 33, none⟩ O _ (by show O ≠ N; omega)).trans h_O, (by rw [← rq_set33 2 f 0 at']; exact heap_setCell_same W3 N 33 _ _ _ h_N)⟩ ?_
  clear hb hs h_g h_X h_O h_N q3 f3 c1 
  rintro W4 ⟨hb, hs, h_g, h_X, h_O, h_N⟩
  have c1 : W4.cell? ⟨g, 1, none⟩ = some (.int .i64 at') := cell_heap h_g rfl
  have hpc := HP0.out W4 hb
  have hNlt := lt_heap h_N
  have hOlt := lt_heap h_O
  clear hat
  go_upto_region 19 with (go_at_call 30; refine hpc.mono ?_; rintro e V ⟨A, l, c, rfl, hl, hr, hlo, hbV⟩; have HLl := Lib.hid hl; clear hl hpc c1; replace h_g := heap_below h_g hbV; replace h_X := heap_below h_X hbV; replace h_O := heap_below h_O hbV; replace h_N := heap_below h_N hbV; replace hb := hb.trans (hbV.mono hs); replace hs := Nat.le_trans hs hbV.size; clear hbV; have q5 : V.cell? ⟨N, 35, none⟩ = some (.slice none 0 0) := cell_heap h_N (rq_c35 _ _ _ _ _); have f5 := thaw_heap h_N 35)
  refine wp_world (fun W => Below n0 w W ∧ n0 ≤ W.heap.size ∧ W.heap[g]? = some (.cells (uv 2 at' a b) 31 (0, 0)) ∧ W.heap[X]? = some (.cells (arr8 32 f) 37 (0, 0)) ∧ W.heap[O]? = some (.cells (rqA 0 zf 0 0 (.slice none 0 0)) 40 (0, 0)) ∧ W.heap[N]? = some (.cells (rqA 2 f at' 0 (.slice A l c)) 40 (0, 0)) ∧ SlRead W A (ints .u8 ys)) ⟨(set_turnH V N 35 _).below hb hs (fun q e => by rw [e]; exact o_N), by rw [heap_size_setCellQ]; exact hs, (heap_setCell_other V ⟨N, 35, none⟩ g _ (by show g ≠ N; omega)).trans h_g, (heap_setCell_other V ⟨N, 35, none⟩ X _ (by show X ≠ N; omega)).trans h_X, (heap_setCell_other V ⟨N, 35, none⟩ O _ (by show O ≠ N; omega)).trans h_O, (by rw [← rq_set35 2 f at' 0 (.slice none 0 0)]; exact heap_setCell_same V N 35 _ _ _ h_N), slread_turnQ hr (set_turnH V N 35 _) (fun x e hx => by have := hlo x e; have hx2 : x.block = N := hx; omega)⟩ ?_
  clear hb hs h_g h_X h_O h_N q5 f5 hr 
  rintro W5 ⟨hb, hs, h_g, h_X, h_O, h_N, hr⟩
  have hr3 := slread_turnQ hr (set_turnRowQ W5 O (rqA 2 f at' 0 (.slice A l c))) (fun x e hx => by have := hlo x e; have hx2 : x.block = O := hx; omega)
  clear hr
  go_wp2_with (first | (refine wpList_load_row rfl 40 _ rfl N rfl _ _ _ _ h_N Tryd.underlying40 rfl (rq_info _ _ _ _ _) ?_) | (refine wpList_store_row rfl 40 _ _ rfl O (rqA 2 f at' 0 (.slice A l c)) rfl rfl _ _ h_O (rq_info _ _ _ _ _) (rq_szs _ _ _ _ _ _ _ _ _ _) (rq_one _ _ _ _ _ _ _) ?_))
  refine bodyPost_ret (results_row_tmp rfl _ _ O _ (rqA 2 f at' 0 (.slice A l c)) _ _ rfl (setRow_heap _ _ _ _ _ _ h_O) _ rfl Tryd.underlying40 rfl (rq_info _ _ _ _ _)) rfl ?_
  exact ⟨A, l, c, rfl, HLl.out, hr3, below_setRow hb o_O _⟩
set_option maxRecDepth 100000 in
set_option maxHeartbeats 800000 in
theorem ask_off (w : World) (g : Nat) (ph at' a b : Int) (h : UpH w g ph at' a b) (f : Nat → BitVec 8) (Bl : Option Addr) (nb cb : Nat) (hb0 : b = 0) (hp : ph < 0 ∨ 5 ≤ ph) : Calls Tryd.prog 9 #[.pointer (some ⟨g, 0, none⟩), .agg (arr8 32 f), .slice Bl nb cb] w fun e w' => e = .returned (.tuple #[.agg (rqA 0 zf 0 0 (.slice none 0 0)), .bool false]) ∧ Below w.heap.size w w' := by
  obtain ⟨n0, hn0⟩ : ∃ n, n = w.heap.size := ⟨_, rfl⟩
  try rw [← hn0]
  have hb : Below n0 w w := by rw [hn0]; exact Below.refl _ _
  have hs : n0 ≤ w.heap.size := by rw [hn0]; exact Nat.le_refl _
  clear hn0
  have h_g : w.heap[g]? = some (.cells (uv ph at' a b) 31 (0, 0)) := h
  clear h
  go_enter Tryd.func9, Tryd.ntmps9
  go_upto_region 1 with (fail)
  have l_g_X : g < w.heap.size := lt_heap h_g
  have l_g_O : g < w.heap.size + 1 := by omega
  have o_X : n0 ≤ w.heap.size := hs
  have o_O : n0 ≤ w.heap.size + 1 := by omega
  have l_X_O : w.heap.size < w.heap.size + 1 := by omega
  refine wp_world (fun W => Below n0 w W ∧ n0 ≤ W.heap.size ∧ W.heap[g]? = some (.cells (uv ph at' a b) 31 (0, 0)) ∧ W.heap[w.heap.size]? = some (.cells (arr8 32 f) 37 (0, 0)) ∧ W.heap[w.heap.size + 1]? = some (.cells (rqA 0 zf 0 0 (.slice none 0 0)) 40 (0, 0))) ⟨(hb.trans ((below_alc w _).mono hs)).trans ((below_alc _ _).mono (Nat.le_trans hs (below_alc w _).size)), Nat.le_trans (Nat.le_trans hs (below_alc w _).size) (below_alc _ _).size, heap_below (heap_below h_g (below_alc w _)) (below_alc _ _), heap2_0 _ _ _, heap2_1 _ _ _⟩ ?_
  clear hb hs h_g 
  rintro W1 ⟨hb, hs, h_g, h_X, h_O⟩
  generalize w.heap.size = X at *
  generalize X + 1 = O at *
  have p0 : (ph == 0) = false := by simp; omega
  have p1 : (ph == 1) = false := by simp; omega
  have p2 : (ph == 2) = false := by simp; omega
  have p3 : (ph == 3) = false := by simp; omega
  have p4 : (ph == 4) = false := by simp; omega
  clear hp
  have hrd := ready_u W1 h_g
  rw [show (b == 0) = true from by simpa using hb0] at hrd
  go_upto_region 4 with (first | (go_at_call 29; refine hrd.mono ?_; rintro e W1 ⟨rfl, rfl⟩; clear hrd) | (refine wpList_load_row rfl 37 _ rfl X rfl _ _ _ _ h_X Tryd.underlying37 rfl (info_Hs f) ?_) | (refine wpList_build rfl 40 _ rfl #[(1, .agg (arr8 32 f))] (by kernel_rfl) (.agg (rqA 0 f 0 0 (.slice none 0 0))) (fun w => rq_build1 f w) ?_) | (refine wpList_store_row rfl 40 _ _ rfl W1.heap.size (rqA 0 f 0 0 (.slice none 0 0)) rfl rfl _ _ (heap1_0 _ _) (rq_info _ _ _ _ _) (by kernel_rfl) (rq_one _ _ _ _ _ _ _) ?_; rw [alloc_setRow]))
  have l_g_N : g < W1.heap.size := lt_heap h_g
  have l_X_N : X < W1.heap.size := lt_heap h_X
  have l_O_N : O < W1.heap.size := lt_heap h_O
  have o_N : n0 ≤ W1.heap.size := hs
  refine wp_world (fun W => Below n0 w W ∧ n0 ≤ W.heap.size ∧ W.heap[g]? = some (.cells (uv ph at' a b) 31 (0, 0)) ∧ W.heap[X]? = some (.cells (arr8 32 f) 37 (0, 0)) ∧ W.heap[O]? = some (.cells (rqA 0 zf 0 0 (.slice none 0 0)) 40 (0, 0)) ∧ W.heap[W1.heap.size]? = some (.cells (rqA 0 f 0 0 (.slice none 0 0)) 40 (0, 0))) ⟨hb.trans ((below_alc W1 _).mono hs), Nat.le_trans hs (below_alc W1 _).size, heap_below h_g (below_alc W1 _), heap_below h_X (below_alc W1 _), heap_below h_O (below_alc W1 _), heap1_0 _ _⟩ ?_
  clear hb hs h_g h_X h_O 
  rintro W2 ⟨hb, hs, h_g, h_X, h_O, h_N⟩
  generalize W1.heap.size = N at *
  have c0 : W2.cell? ⟨g, 0, none⟩ = some (.int .i64 ph) := cell_heap h_g rfl
  go_wp2_with (first | (refine wpList_build rfl 40 _ rfl #[] (by kernel_rfl) (.agg (rqA 0 zf 0 0 (.slice none 0 0))) (fun w => rq_build0 w) ?_) | (refine wpList_store_row rfl 40 _ _ rfl O (rqA 0 zf 0 0 (.slice none 0 0)) rfl rfl _ _ h_O (rq_info _ _ _ _ _) (rq_szs _ _ _ _ _ _ _ _ _ _) (rq_one _ _ _ _ _ _ _) ?_))
  refine bodyPost_ret (results_row_tmp rfl _ _ O _ (rqA 0 zf 0 0 (.slice none 0 0)) _ _ rfl (setRow_heap _ _ _ _ _ _ h_O) _ rfl Tryd.underlying40 rfl (rq_info _ _ _ _ _)) rfl ?_
  exact ⟨rfl, below_setRow hb o_O _⟩
end Go.Proofs.YtffkjbbhbpaacaaDoor
