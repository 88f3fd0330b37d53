import Derived.Test.YtffkjbbhbpaacaaDoorUpa
/-
  upload.Up's Ask, but for the phase Put.
-/
namespace Go.Proofs.YtffkjbbhbpaacaaDoor
open Go.RowKit
theorem heap_size_setCellQ (w : World) (a : Addr) (v : Value) : (w.setCell a v).heap.size = w.heap.size := by simp [World.setCell]
/-- a request's cells -/
def rqA (op : Int) (f : Nat → BitVec 8) (off n : Int) (D : Value) : Array Value := ((.int .i64 op :: (List.range 32).map fun i => v8 (f i)) ++ [.int .u32 off, .int .u32 n, D]).toArray
def zf : Nat → BitVec 8 := fun _ => 0#8
theorem rq_size (op : Int) (f : Nat → BitVec 8) (off n : Int) (D : Value) : (rqA op f off n D).size = 36 := by simp [rqA]
theorem rq_szs (op op' : Int) (f f' : Nat → BitVec 8) (off off' n n' : Int) (D D' : Value) : (rqA op f off n D).size = (rqA op' f' off' n' D').size := by rw [rq_size, rq_size]
theorem rq_info (op : Int) (f : Nat → BitVec 8) (off n : Int) (D : Value) : (Tryd.prog.info? 40).map (·.size) = some (rqA op f off n D).size := by rw [rq_size]; kernel_rfl
theorem rq_one (op : Int) (f : Nat → BitVec 8) (off n : Int) (A : Option Addr) (l c : Nat) : (rqA op f off n (.slice A l c)).all (·.oneCell') = true := by kernel_rfl
theorem rq_set0 (op op' : Int) (f : Nat → BitVec 8) (off n : Int) (D : Value) : (rqA op f off n D).setIfInBounds 0 (.int .i64 op') = rqA op' f off n D := by simp [rqA]
theorem rq_set33 (op : Int) (f : Nat → BitVec 8) (off off' n : Int) (D : Value) : (rqA op f off n D).setIfInBounds 33 (.int .u32 off') = rqA op f off' n D := by kernel_rfl
theorem rq_set34 (op : Int) (f : Nat → BitVec 8) (off n n' : Int) (D : Value) : (rqA op f off n D).setIfInBounds 34 (.int .u32 n') = rqA op f off n' D := by kernel_rfl
theorem rq_set35 (op : Int) (f : Nat → BitVec 8) (off n : Int) (D D' : Value) : (rqA op f off n D).setIfInBounds 35 D' = rqA op f off n D' := by kernel_rfl
theorem rq_build0 (w : World) : (Instr.build 40 #[]).run Tryd.prog w = .ok (.agg (rqA 0 zf 0 0 (.slice none 0 0))) w := by kernel_rfl
theorem rq_build1 (f : Nat → BitVec 8) (w : World) : (Instr.build 40 #[(1, .agg (arr8 32 f))]).run Tryd.prog w = .ok (.agg (rqA 0 f 0 0 (.slice none 0 0))) w := by kernel_rfl
theorem rq_c0 (op : Int) (f : Nat → BitVec 8) (off n : Int) (D : Value) : (rqA op f off n D)[0]? = some (.int .i64 op) := by simp [rqA]
theorem rq_c33 (op : Int) (f : Nat → BitVec 8) (off n : Int) (D : Value) : (rqA op f off n D)[33]? = some (.int .u32 off) := by kernel_rfl
theorem rq_c34 (op : Int) (f : Nat → BitVec 8) (off n : Int) (D : Value) : (rqA op f off n D)[34]? = some (.int .u32 n) := by kernel_rfl
theorem rq_c35 (op : Int) (f : Nat → BitVec 8) (off n : Int) (D : Value) : (rqA op f off n D)[35]? = some D := by kernel_rfl
theorem info_Hs (f : Nat → BitVec 8) : (Tryd.prog.info? 37).map (·.size) = some (arr8 32 f).size := by rw [arr8_size]; kernel_rfl
section
variable {W W' : World} {g : Nat} {ph at' a b : Int}
set_option maxRecDepth 100000 in
set_option maxHeartbeats 800000 in
theorem ask_wait (w : World) (h : UpH w g ph at' a b) (f : Nat → BitVec 8) (Bl : Option Addr) (nb cb : Nat) (hb0 : b ≠ 0) : Calls Tryd.prog 9 #[.pointer (some ⟨g, 0, none⟩), .agg (arr8 32 f), .slice Bl nb cb] w fun e w' => e = .returned (.tuple #[.agg (rqA 0 zf 0 0 (.slice none 0 0)), .bool false]) ∧ Below w.heap.size w w' := by
  obtain ⟨n0, hn0⟩ : ∃ n, n = w.heap.size := ⟨_, rfl⟩
  try rw [← hn0]
  have hb : Below n0 w w := by rw [hn0]; exact Below.refl _ _
  have hs : n0 ≤ w.heap.size := by rw [hn0]; exact Nat.le_refl _
  clear hn0
  have h_g : w.heap[g]? = some (.cells (uv ph at' a b) 31 (0, 0)) := h
  clear h
  go_enter Tryd.func9, Tryd.ntmps9
  go_upto_region 1 with (fail)
  have l_g_X : g < w.heap.size := lt_heap h_g
  have l_g_O : g < w.heap.size + 1 := by omega
  have o_X : n0 ≤ w.heap.size := hs
  have o_O : n0 ≤ w.heap.size + 1 := by omega
  have l_X_O : w.heap.size < w.heap.size + 1 := by omega
  refine wp_world (fun W => Below n0 w W ∧ n0 ≤ W.heap.size ∧ W.heap[g]? = some (.cells (uv ph at' a b) 31 (0, 0)) ∧ W.heap[w.heap.size]? = some (.cells (arr8 32 f) 37 (0, 0)) ∧ W.heap[w.heap.size + 1]? = some (.cells (rqA 0 zf 0 0 (.slice none 0 0)) 40 (0, 0))) ⟨(hb.trans ((below_alc w _).mono hs)).trans ((below_alc _ _).mono (Nat.le_trans hs (below_alc w _).size)), Nat.le_trans (Nat.le_trans hs (below_alc w _).size) (below_alc _ _).size, heap_below (heap_below h_g (below_alc w _)) (below_alc _ _), heap2_0 _ _ _, heap2_1 _ _ _⟩ ?_
  clear hb hs h_g
  rintro W1 ⟨hb, hs, h_g, h_X, h_O⟩
  generalize w.heap.size = X at *
  generalize X + 1 = O at *
  have hrd := ready_u W1 h_g
  rw [show (b == 0) = false from by simpa using hb0] at hrd
  go_wp2_with (first | (go_at_call 29; refine hrd.mono ?_; rintro e W1 ⟨rfl, rfl⟩; clear hrd) | (refine wpList_build rfl 40 _ rfl #[] (by kernel_rfl) (.agg (rqA 0 zf 0 0 (.slice none 0 0))) (fun w => rq_build0 w) ?_) | (refine wpList_store_row rfl 40 _ _ rfl O (rqA 0 zf 0 0 (.slice none 0 0)) rfl rfl _ _ h_O (rq_info _ _ _ _ _) (rq_szs _ _ _ _ _ _ _ _ _ _) (rq_one _ _ _ _ _ _ _) ?_))
  refine bodyPost_ret (results_row_tmp rfl _ _ O _ (rqA 0 zf 0 0 (.slice none 0 0)) _ _ rfl (setRow_heap _ _ _ _ _ _ h_O) _ rfl Tryd.underlying40 rfl (rq_info _ _ _ _ _)) rfl ?_
  exact ⟨rfl, below_setRow hb o_O _⟩
set_option maxRecDepth 100000 in
set_option maxHeartbeats 800000 in
theorem ask_0 (w : World) (h : UpH w g ph at' a b) (f : Nat → BitVec 8) (Bl : Option Addr) (nb cb : Nat) (hb0 : b = 0) (hp : ph = 0) : Calls Tryd.prog 9 #[.pointer (some ⟨g, 0, none⟩), .agg (arr8 32 f), .slice Bl nb cb] w fun e w' => e = .returned (.tuple #[.agg (rqA 5 f 0 0 (.slice none 0 0)), .bool true]) ∧ Below w.heap.size w w' := by
  obtain ⟨n0, hn0⟩ : ∃ n, n = w.heap.size := ⟨_, rfl⟩
  try rw [← hn0]
  have hb : Below n0 w w := by rw [hn0]; exact Below.refl _ _
  have hs : n0 ≤ w.heap.size := by rw [hn0]; exact Nat.le_refl _
  clear hn0
  have h_g : w.heap[g]? = some (.cells (uv ph at' a b) 31 (0, 0)) := h
  clear h
  go_enter Tryd.func9, Tryd.ntmps9
  go_upto_region 1 with (fail)
  have l_g_X : g < w.heap.size := lt_heap h_g
  have l_g_O : g < w.heap.size + 1 := by omega
  have o_X : n0 ≤ w.heap.size := hs
  have o_O : n0 ≤ w.heap.size + 1 := by omega
  have l_X_O : w.heap.size < w.heap.size + 1 := by omega
  refine wp_world (fun W => Below n0 w W ∧ n0 ≤ W.heap.size ∧ W.heap[g]? = some (.cells (uv ph at' a b) 31 (0, 0)) ∧ W.heap[w.heap.size]? = some (.cells (arr8 32 f) 37 (0, 0)) ∧ W.heap[w.heap.size + 1]? = some (.cells (rqA 0 zf 0 0 (.slice none 0 0)) 40 (0, 0))) ⟨(hb.trans ((below_alc w _).mono hs)).trans ((below_alc _ _).mono (Nat.le_trans hs (below_alc w _).size)), Nat.le_trans (Nat.le_trans hs (below_alc w _).size) (below_alc _ _).size, heap_below (heap_below h_g (below_alc w _)) (below_alc _ _), heap2_0 _ _ _, heap2_1 _ _ _⟩ ?_
  clear hb hs h_g
  rintro W1 ⟨hb, hs, h_g, h_X, h_O⟩
  generalize w.heap.size = X at *
  generalize X + 1 = O at *
  subst hp
  have hrd := ready_u W1 h_g
  rw [show (b == 0) = true from by simpa using hb0] at hrd
  go_upto_region 4 with (first | (go_at_call 29; refine hrd.mono ?_; rintro e W1 ⟨rfl, rfl⟩; clear hrd) | (refine wpList_load_row rfl 37 _ rfl X rfl _ _ _ _ h_X Tryd.underlying37 rfl (info_Hs f) ?_) | (refine wpList_build rfl 40 _ rfl #[(1, .agg (arr8 32 f))] (by kernel_rfl) (.agg (rqA 0 f 0 0 (.slice none 0 0))) (fun w => rq_build1 f w) ?_) | (refine wpList_store_row rfl 40 _ _ rfl W1.heap.size (rqA 0 f 0 0 (.slice none 0 0)) rfl rfl _ _ (heap1_0 _ _) (rq_info _ _ _ _ _) (by kernel_rfl) (rq_one _ _ _ _ _ _ _) ?_; rw [alloc_setRow]))
  have l_g_N : g < W1.heap.size := lt_heap h_g
  have l_X_N : X < W1.heap.size := lt_heap h_X
  have l_O_N : O < W1.heap.size := lt_heap h_O
  have o_N : n0 ≤ W1.heap.size := hs
  refine wp_world (fun W => Below n0 w W ∧ n0 ≤ W.heap.size ∧ W.heap[g]? = some (.cells (uv 0 at' a b) 31 (0, 0)) ∧ W.heap[X]? = some (.cells (arr8 32 f) 37 (0, 0)) ∧ W.heap[O]? = some (.cells (rqA 0 zf 0 0 (.slice none 0 0)) 40 (0, 0)) ∧ W.heap[W1.heap.size]? = some (.cells (rqA 0 f 0 0 (.slice none 0 0)) 40 (0, 0))) ⟨hb.trans ((below_alc W1 _).mono hs), Nat.le_trans hs (below_alc W1 _).size, heap_below h_g (below_alc W1 _), heap_below h_X (below_alc W1 _), heap_below h_O (below_alc W1 _), heap1_0 _ _⟩ ?_
  clear hb hs h_g h_X h_O 
  rintro W2 ⟨hb, hs, h_g, h_X, h_O, h_N⟩
  generalize W1.heap.size = N at *
  have c0 : W2.cell? ⟨g, 0, none⟩ = some (.int .i64 0) := cell_heap h_g rfl
  have q0 : W2.cell? ⟨N, 0, none⟩ = some (.int .i64 0) := cell_heap h_N (rq_c0 _ _ _ _ _)
  have f0 := thaw_heap h_N 0
  go_upto_region 19 with (fail)
  refine wp_world (fun W => Below n0 w W ∧ n0 ≤ W.heap.size ∧ W.heap[g]? = some (.cells (uv 0 at' a b) 31 (0, 0)) ∧ W.heap[X]? = some (.cells (arr8 32 f) 37 (0, 0)) ∧ W.heap[O]? = some (.cells (rqA 0 zf 0 0 (.slice none 0 0)) 40 (0, 0)) ∧ W.heap[N]? = some (.cells (rqA 5 f 0 0 (.slice none 0 0)) 40 (0, 0))) ⟨(set_turnH W2 N 0 _).below hb hs (fun q e => by rw [e]; exact o_N), by rw [heap_size_setCellQ]; exact hs, (heap_setCell_other W2 ⟨N, 0, none⟩ g _ (by show g ≠ N; omega)).trans h_g, (heap_setCell_other W2 ⟨N, 0, none⟩ X _ (by show X ≠ N; omega)).trans h_X, (heap_setCell_other W2 ⟨N, 0, none⟩ O _ (by show O ≠ N; omega)).trans h_O, (by rw [← rq_set0 0 5]; exact heap_setCell_same W2 N 0 _ _ _ h_N)⟩ ?_
  clear hb hs h_g h_X h_O h_N q0 f0 c0 
  rintro W3 ⟨hb, hs, h_g, h_X, h_O, h_N⟩
  go_wp2_with (first | (refine wpList_load_row rfl 40 _ rfl N rfl _ _ _ _ h_N Tryd.underlying40 rfl (rq_info _ _ _ _ _) ?_) | (refine wpList_store_row rfl 40 _ _ rfl O (rqA 5 f 0 0 (.slice none 0 0)) rfl rfl _ _ h_O (rq_info _ _ _ _ _) (rq_szs _ _ _ _ _ _ _ _ _ _) (rq_one _ _ _ _ _ _ _) ?_))
  refine bodyPost_ret (results_row_tmp rfl _ _ O _ (rqA 5 f 0 0 (.slice none 0 0)) _ _ rfl (setRow_heap _ _ _ _ _ _ h_O) _ rfl Tryd.underlying40 rfl (rq_info _ _ _ _ _)) rfl ?_
  exact ⟨rfl, below_setRow hb o_O _⟩
set_option maxRecDepth 100000 in
set_option maxHeartbeats 800000 in
theorem ask_3 (w : World) (h : UpH w g ph at' a b) (f : Nat → BitVec 8) (Bl : Option Addr) (nb cb : Nat) (hb0 : b = 0) (hp : ph = 3) : Calls Tryd.prog 9 #[.pointer (some ⟨g, 0, none⟩), .agg (arr8 32 f), .slice Bl nb cb] w fun e w' => e = .returned (.tuple #[.agg (rqA 3 f 0 0 (.slice none 0 0)), .bool true]) ∧ Below w.heap.size w w' := by
  obtain ⟨n0, hn0⟩ : ∃ n, n = w.heap.size := ⟨_, rfl⟩
  try rw [← hn0]
  have hb : Below n0 w w := by rw [hn0]; exact Below.refl _ _
  have hs : n0 ≤ w.heap.size := by rw [hn0]; exact Nat.le_refl _
  clear hn0
  have h_g : w.heap[g]? = some (.cells (uv ph at' a b) 31 (0, 0)) := h
  clear h
  go_enter Tryd.func9, Tryd.ntmps9
  go_upto_region 1 with (fail)
  have l_g_X : g < w.heap.size := lt_heap h_g
  have l_g_O : g < w.heap.size + 1 := by omega
  have o_X : n0 ≤ w.heap.size := hs
  have o_O : n0 ≤ w.heap.size + 1 := by omega
  have l_X_O : w.heap.size < w.heap.size + 1 := by omega
  refine wp_world (fun W => Below n0 w W ∧ n0 ≤ W.heap.size ∧ W.heap[g]? = some (.cells (uv ph at' a b) 31 (0, 0)) ∧ W.heap[w.heap.size]? = some (.cells (arr8 32 f) 37 (0, 0)) ∧ W.heap[w.heap.size + 1]? = some (.cells (rqA 0 zf 0 0 (.slice none 0 0)) 40 (0, 0))) ⟨(hb.trans ((below_alc w _).mono hs)).trans ((below_alc _ _).mono (Nat.le_trans hs (below_alc w _).size)), Nat.le_trans (Nat.le_trans hs (below_alc w _).size) (below_alc _ _).size, heap_below (heap_below h_g (below_alc w _)) (below_alc _ _), heap2_0 _ _ _, heap2_1 _ _ _⟩ ?_
  clear hb hs h_g
  rintro W1 ⟨hb, hs, h_g, h_X, h_O⟩
  generalize w.heap.size = X at *
  generalize X + 1 = O at *
  subst hp
  have hrd := ready_u W1 h_g
  rw [show (b == 0) = true from by simpa using hb0] at hrd
  go_upto_region 4 with (first | (go_at_call 29; refine hrd.mono ?_; rintro e W1 ⟨rfl, rfl⟩; clear hrd) | (refine wpList_load_row rfl 37 _ rfl X rfl _ _ _ _ h_X Tryd.underlying37 rfl (info_Hs f) ?_) | (refine wpList_build rfl 40 _ rfl #[(1, .agg (arr8 32 f))] (by kernel_rfl) (.agg (rqA 0 f 0 0 (.slice none 0 0))) (fun w => rq_build1 f w) ?_) | (refine wpList_store_row rfl 40 _ _ rfl W1.heap.size (rqA 0 f 0 0 (.slice none 0 0)) rfl rfl _ _ (heap1_0 _ _) (rq_info _ _ _ _ _) (by kernel_rfl) (rq_one _ _ _ _ _ _ _) ?_; rw [alloc_setRow]))
  have l_g_N : g < W1.heap.size := lt_heap h_g
  have l_X_N : X < W1.heap.size := lt_heap h_X
  have l_O_N : O < W1.heap.size := lt_heap h_O
  have o_N : n0 ≤ W1.heap.size := hs
  refine wp_world (fun W => Below n0 w W ∧ n0 ≤ W.heap.size ∧ W.heap[g]? = some (.cells (uv 3 at' a b) 31 (0, 0)) ∧ W.heap[X]? = some (.cells (arr8 32 f) 37 (0, 0)) ∧ W.heap[O]? = some (.cells (rqA 0 zf 0 0 (.slice none 0 0)) 40 (0, 0)) ∧ W.heap[W1.heap.size]? = some (.cells (rqA 0 f 0 0 (.slice none 0 0)) 40 (0, 0))) ⟨hb.trans ((below_alc W1 _).mono hs), Nat.le_trans hs (below_alc W1 _).size, heap_below h_g (below_alc W1 _), heap_below h_X (below_alc W1 _), heap_below h_O (below_alc W1 _), heap1_0 _ _⟩ ?_
  clear hb hs h_g h_X h_O 
  rintro W2 ⟨hb, hs, h_g, h_X, h_O, h_N⟩
  generalize W1.heap.size = N at *
  have c0 : W2.cell? ⟨g, 0, none⟩ = some (.int .i64 3) := cell_heap h_g rfl
  have q0 : W2.cell? ⟨N, 0, none⟩ = some (.int .i64 0) := cell_heap h_N (rq_c0 _ _ _ _ _)
  have f0 := thaw_heap h_N 0
  go_upto_region 19 with (fail)
  refine wp_world (fun W => Below n0 w W ∧ n0 ≤ W.heap.size ∧ W.heap[g]? = some (.cells (uv 3 at' a b) 31 (0, 0)) ∧ W.heap[X]? = some (.cells (arr8 32 f) 37 (0, 0)) ∧ W.heap[O]? = some (.cells (rqA 0 zf 0 0 (.slice none 0 0)) 40 (0, 0)) ∧ W.heap[N]? = some (.cells (rqA 3 f 0 0 (.slice none 0 0)) 40 (0, 0))) ⟨(set_turnH W2 N 0 _).below hb hs (fun q e => by rw [e]; exact o_N), by rw [heap_size_setCellQ]; exact hs, (heap_setCell_other W2 ⟨N, 0, none⟩ g _ (by show g ≠ N; omega)).trans h_g, (heap_setCell_other W2 ⟨N, 0, none⟩ X _ (by show X ≠ N; omega)).trans h_X, (heap_setCell_other W2 ⟨N, 0, none⟩ O _ (by show O ≠ N; omega)).trans h_O, (by rw [← rq_set0 0 3]; exact heap_setCell_same W2 N 0 _ _ _ h_N)⟩ ?_
  clear hb hs h_g h_X h_O h_N q0 f0 c0 
  rintro W3 ⟨hb, hs, h_g, h_X, h_O, h_N⟩
  go_wp2_with (first | (refine wpList_load_row rfl 40 _ rfl N rfl _ _ _ _ h_N Tryd.underlying40 rfl (rq_info _ _ _ _ _) ?_) | (refine wpList_store_row rfl 40 _ _ rfl O (rqA 3 f 0 0 (.slice none 0 0)) rfl rfl _ _ h_O (rq_info _ _ _ _ _) (rq_szs _ _ _ _ _ _ _ _ _ _) (rq_one _ _ _ _ _ _ _) ?_))
  refine bodyPost_ret (results_row_tmp rfl _ _ O _ (rqA 3 f 0 0 (.slice none 0 0)) _ _ rfl (setRow_heap _ _ _ _ _ _ h_O) _ rfl Tryd.underlying40 rfl (rq_info _ _ _ _ _)) rfl ?_
  exact ⟨rfl, below_setRow hb o_O _⟩
set_option maxRecDepth 100000 in
set_option maxHeartbeats 800000 in
theorem ask_4 (w : World) (h : UpH w g ph at' a b) (f : Nat → BitVec 8) (Bl : Option Addr) (nb cb : Nat) (hb0 : b = 0) (hp : ph = 4) : Calls Tryd.prog 9 #[.pointer (some ⟨g, 0, none⟩), .agg (arr8 32 f), .slice Bl nb cb] w fun e w' => e = .returned (.tuple #[.agg (rqA 6 f 0 0 (.slice none 0 0)), .bool true]) ∧ Below w.heap.size w w' := by
  obtain ⟨n0, hn0⟩ : ∃ n, n = w.heap.size := ⟨_, rfl⟩
  try rw [← hn0]
  have hb : Below n0 w w := by rw [hn0]; exact Below.refl _ _
  have hs : n0 ≤ w.heap.size := by rw [hn0]; exact Nat.le_refl _
  clear hn0
  have h_g : w.heap[g]? = some (.cells (uv ph at' a b) 31 (0, 0)) := h
  clear h
  go_enter Tryd.func9, Tryd.ntmps9
  go_upto_region 1 with (fail)
  have l_g_X : g < w.heap.size := lt_heap h_g
  have l_g_O : g < w.heap.size + 1 := by omega
  have o_X : n0 ≤ w.heap.size := hs
  have o_O : n0 ≤ w.heap.size + 1 := by omega
  have l_X_O : w.heap.size < w.heap.size + 1 := by omega
  refine wp_world (fun W => Below n0 w W ∧ n0 ≤ W.heap.size ∧ W.heap[g]? = some (.cells (uv ph at' a b) 31 (0, 0)) ∧ W.heap[w.heap.size]? = some (.cells (arr8 32 f) 37 (0, 0)) ∧ W.heap[w.heap.size + 1]? = some (.cells (rqA 0 zf 0 0 (.slice none 0 0)) 40 (0, 0))) ⟨(hb.trans ((below_alc w _).mono hs)).trans ((below_alc _ _).mono (Nat.le_trans hs (below_alc w _).size)), Nat.le_trans (Nat.le_trans hs (below_alc w _).size) (below_alc _ _).size, heap_below (heap_below h_g (below_alc w _)) (below_alc _ _), heap2_0 _ _ _, heap2_1 _ _ _⟩ ?_
  clear hb hs h_g
  rintro W1 ⟨hb, hs, h_g, h_X, h_O⟩
  generalize w.heap.size = X at *
  generalize X + 1 = O at *
  subst hp
  have hrd := ready_u W1 h_g
  rw [show (b == 0) = true from by simpa using hb0] at hrd
  go_upto_region 4 with (first | (go_at_call 29; refine hrd.mono ?_; rintro e W1 ⟨rfl, rfl⟩; clear hrd) | (refine wpList_load_row rfl 37 _ rfl X rfl _ _ _ _ h_X Tryd.underlying37 rfl (info_Hs f) ?_) | (refine wpList_build rfl 40 _ rfl #[(1, .agg (arr8 32 f))] (by kernel_rfl) (.agg (rqA 0 f 0 0 (.slice none 0 0))) (fun w => rq_build1 f w) ?_) | (refine wpList_store_row rfl 40 _ _ rfl W1.heap.size (rqA 0 f 0 0 (.slice none 0 0)) rfl rfl _ _ (heap1_0 _ _) (rq_info _ _ _ _ _) (by kernel_rfl) (rq_one _ _ _ _ _ _ _) ?_; rw [alloc_setRow]))
  have l_g_N : g < W1.heap.size := lt_heap h_g
  have l_X_N : X < W1.heap.size := lt_heap h_X
  have l_O_N : O < W1.heap.size := lt_heap h_O
  have o_N : n0 ≤ W1.heap.size := hs
  refine wp_world (fun W => Below n0 w W ∧ n0 ≤ W.heap.size ∧ W.heap[g]? = some (.cells (uv 4 at' a b) 31 (0, 0)) ∧ W.heap[X]? = some (.cells (arr8 32 f) 37 (0, 0)) ∧ W.heap[O]? = some (.cells (rqA 0 zf 0 0 (.slice none 0 0)) 40 (0, 0)) ∧ W.heap[W1.heap.size]? = some (.cells (rqA 0 f 0 0 (.slice none 0 0)) 40 (0, 0))) ⟨hb.trans ((below_alc W1 _).mono hs), Nat.le_trans hs (below_alc W1 _).size, heap_below h_g (below_alc W1 _), heap_below h_X (below_alc W1 _), heap_below h_O (below_alc W1 _), heap1_0 _ _⟩ ?_
  clear hb hs h_g h_X h_O 
  rintro W2 ⟨hb, hs, h_g, h_X, h_O, h_N⟩
  generalize W1.heap.size = N at *
  have c0 : W2.cell? ⟨g, 0, none⟩ = some (.int .i64 4) := cell_heap h_g rfl
  have q0 : W2.cell? ⟨N, 0, none⟩ = some (.int .i64 0) := cell_heap h_N (rq_c0 _ _ _ _ _)
  have f0 := thaw_heap h_N 0
  go_upto_region 19 with (fail)
  refine wp_world (fun W => Below n0 w W ∧ n0 ≤ W.heap.size ∧ W.heap[g]? = some (.cells (uv 4 at' a b) 31 (0, 0)) ∧ W.heap[X]? = some (.cells (arr8 32 f) 37 (0, 0)) ∧ W.heap[O]? = some (.cells (rqA 0 zf 0 0 (.slice none 0 0)) 40 (0, 0)) ∧ W.heap[N]? = some (.cells (rqA 6 f 0 0 (.slice none 0 0)) 40 (0, 0))) ⟨(set_turnH W2 N 0 _).below hb hs (fun q e => by rw [e]; exact o_N), by rw [heap_size_setCellQ]; exact hs, (heap_setCell_other W2 ⟨N, 0, none⟩ g _ (by show g ≠ N; omega)).trans h_g, (heap_setCell_other W2 ⟨N, 0, none⟩ X _ (by show X ≠ N; omega)).trans h_X, (heap_setCell_other W2 ⟨N, 0, none⟩ O _ (by show O ≠ N; omega)).trans h_O, (by rw [← rq_set0 0 6]; exact heap_setCell_same W2 N 0 _ _ _ h_N)⟩ ?_
  clear hb hs h_g h_X h_O h_N q0 f0 c0 
  rintro W3 ⟨hb, hs, h_g, h_X, h_O, h_N⟩
  go_wp2_with (first | (refine wpList_load_row rfl 40 _ rfl N rfl _ _ _ _ h_N Tryd.underlying40 rfl (rq_info _ _ _ _ _) ?_) | (refine wpList_store_row rfl 40 _ _ rfl O (rqA 6 f 0 0 (.slice none 0 0)) rfl rfl _ _ h_O (rq_info _ _ _ _ _) (rq_szs _ _ _ _ _ _ _ _ _ _) (rq_one _ _ _ _ _ _ _) ?_))
  refine bodyPost_ret (results_row_tmp rfl _ _ O _ (rqA 6 f 0 0 (.slice none 0 0)) _ _ rfl (setRow_heap _ _ _ _ _ _ h_O) _ rfl Tryd.underlying40 rfl (rq_info _ _ _ _ _)) rfl ?_
  exact ⟨rfl, below_setRow hb o_O _⟩
set_option maxRecDepth 100000 in
set_option maxHeartbeats 800000 in
theorem ask_1 (w : World) (h : UpH w g ph at' a b) (f : Nat → BitVec 8) (Bl : Option Addr) (nb cb : Nat) (hb0 : b = 0) (hp : ph = 1) (hnb : nb < 4294967296) : Calls Tryd.prog 9 #[.pointer (some ⟨g, 0, none⟩), .agg (arr8 32 f), .slice Bl nb cb] w fun e w' => e = .returned (.tuple #[.agg (rqA 1 f 0 (nb : Int) (.slice none 0 0)), .bool true]) ∧ Below w.heap.size w w' := by
  obtain ⟨n0, hn0⟩ : ∃ n, n = w.heap.size := ⟨_, rfl⟩
  try rw [← hn0]
  have hb : Below n0 w w := by rw [hn0]; exact Below.refl _ _
  have hs : n0 ≤ w.heap.size := by rw [hn0]; exact Nat.le_refl _
  clear hn0
  have h_g : w.heap[g]? = some (.cells (uv ph at' a b) 31 (0, 0)) := h
  clear h
  go_enter Tryd.func9, Tryd.ntmps9
  go_upto_region 1 with (fail)
  have l_g_X : g < w.heap.size := lt_heap h_g
  have l_g_O : g < w.heap.size + 1 := by omega
  have o_X : n0 ≤ w.heap.size := hs
  have o_O : n0 ≤ w.heap.size + 1 := by omega
  have l_X_O : w.heap.size < w.heap.size + 1 := by omega
  refine wp_world (fun W => Below n0 w W ∧ n0 ≤ W.heap.size ∧ W.heap[g]? = some (.cells (uv ph at' a b) 31 (0, 0)) ∧ W.heap[w.heap.size]? = some (.cells (arr8 32 f) 37 (0, 0)) ∧ W.heap[w.heap.size + 1]? = some (.cells (rqA 0 zf 0 0 (.slice none 0 0)) 40 (0, 0))) ⟨(hb.trans ((below_alc w _).mono hs)).trans ((below_alc _ _).mono (Nat.le_trans hs (below_alc w _).size)), Nat.le_trans (Nat.le_trans hs (below_alc w _).size) (below_alc _ _).size, heap_below (heap_below h_g (below_alc w _)) (below_alc _ _), heap2_0 _ _ _, heap2_1 _ _ _⟩ ?_
  clear hb hs h_g
  rintro W1 ⟨hb, hs, h_g, h_X, h_O⟩
  generalize w.heap.size = X at *
  generalize X + 1 = O at *
  subst hp
  have hrd := ready_u W1 h_g
  rw [show (b == 0) = true from by simpa using hb0] at hrd
  go_upto_region 4 with (first | (go_at_call 29; refine hrd.mono ?_; rintro e W1 ⟨rfl, rfl⟩; clear hrd) | (refine wpList_load_row rfl 37 _ rfl X rfl _ _ _ _ h_X Tryd.underlying37 rfl (info_Hs f) ?_) | (refine wpList_build rfl 40 _ rfl #[(1, .agg (arr8 32 f))] (by kernel_rfl) (.agg (rqA 0 f 0 0 (.slice none 0 0))) (fun w => rq_build1 f w) ?_) | (refine wpList_store_row rfl 40 _ _ rfl W1.heap.size (rqA 0 f 0 0 (.slice none 0 0)) rfl rfl _ _ (heap1_0 _ _) (rq_info _ _ _ _ _) (by kernel_rfl) (rq_one _ _ _ _ _ _ _) ?_; rw [alloc_setRow]))
  have l_g_N : g < W1.heap.size := lt_heap h_g
  have l_X_N : X < W1.heap.size := lt_heap h_X
  have l_O_N : O < W1.heap.size := lt_heap h_O
  have o_N : n0 ≤ W1.heap.size := hs
  refine wp_world (fun W => Below n0 w W ∧ n0 ≤ W.heap.size ∧ W.heap[g]? = some (.cells (uv 1 at' a b) 31 (0, 0)) ∧ W.heap[X]? = some (.cells (arr8 32 f) 37 (0, 0)) ∧ W.heap[O]? = some (.cells (rqA 0 zf 0 0 (.slice none 0 0)) 40 (0, 0)) ∧ W.heap[W1.heap.size]? = some (.cells (rqA 0 f 0 0 (.slice none 0 0)) 40 (0, 0))) ⟨hb.trans ((below_alc W1 _).mono hs), Nat.le_trans hs (below_alc W1 _).size, heap_below h_g (below_alc W1 _), heap_below h_X (below_alc W1 _), heap_below h_O (below_alc W1 _), heap1_0 _ _⟩ ?_
  clear hb hs h_g h_X h_O 
  rintro W2 ⟨hb, hs, h_g, h_X, h_O, h_N⟩
  generalize W1.heap.size = N at *
  have c0 : W2.cell? ⟨g, 0, none⟩ = some (.int .i64 1) := cell_heap h_g rfl
  have q0 : W2.cell? ⟨N, 0, none⟩ = some (.int .i64 0) := cell_heap h_N (rq_c0 _ _ _ _ _)
  have f0 := thaw_heap h_N 0
  go_upto_region 10 with (fail)
  refine wp_world (fun W => Below n0 w W ∧ n0 ≤ W.heap.size ∧ W.heap[g]? = some (.cells (uv 1 at' a b) 31 (0, 0)) ∧ W.heap[X]? = some (.cells (arr8 32 f) 37 (0, 0)) ∧ W.heap[O]? = some (.cells (rqA 0 zf 0 0 (.slice none 0 0)) 40 (0, 0)) ∧ W.heap[N]? = some (.cells (rqA 1 f 0 0 (.slice none 0 0)) 40 (0, 0))) ⟨(set_turnH W2 N 0 _).below hb hs (fun q e => by rw [e]; exact o_N), by rw [heap_size_setCellQ]; exact hs, (heap_setCell_other W2 ⟨N, 0, none⟩ g _ (by show g ≠ N; omega)).trans h_g, (heap_setCell_other W2 ⟨N, 0, none⟩ X _ (by show X ≠ N; omega)).trans h_X, (heap_setCell_other W2 ⟨N, 0, none⟩ O _ (by show O ≠ N; omega)).trans h_O, (by rw [← rq_set0 0 1]; exact heap_setCell_same W2 N 0 _ _ _ h_N)⟩ ?_
  clear hb hs h_g h_X h_O h_N q0 f0 c0 
  rintro W3 ⟨hb, hs, h_g, h_X, h_O, h_N⟩
  have q4 : W3.cell? ⟨N, 34, none⟩ = some (.int .u32 0) := cell_heap h_N (rq_c34 _ _ _ _ _)
  have f4 := thaw_heap h_N 34
  go_upto_region 19 with (fail)
  trace_state
  refine wp_world (fun W => Below n0 w W ∧ n0 ≤ W.heap.size ∧ W.heap[g]? = some (.cells (uv 1 at' a b) 31 (0, 0)) ∧ W.heap[X]? = some (.cells (arr8 32 f) 37 (0, 0)) ∧ W.heap[O]? = some (.cells (rqA 0 zf 0 0 (.slice none 0 0)) 40 (0, 0)) ∧ W.heap[N]? = some (.cells (rqA 1 f 0 (nb : Int) (.slice none 0 0)) 40 (0, 0))) ⟨(set_turnH W3 N 34 _).below hb hs (fun q e => by rw [e]; exact o_N), by rw [heap_size_setCellQ]; exact hs, (heap_setCell_other W3 ⟨N, 34, none⟩ g _ (by show g ≠ N; omega)).trans h_g, (heap_setCell_other W3 ⟨N, 34, none⟩ X _ (by show X ≠ N; omega)).trans h_X, (heap_setCell_other W3 ⟨N, 34, none⟩ O _ (by show O ≠ N; omega)).trans h_O, (by rw [← rq_set34 1 f 0 0 (nb : Int)]; exact heap_setCell_same W3 N 34 _ _ _ h_N)⟩ ?_
  clear hb hs h_g h_X h_O h_N q4 f4 
  rintro W4 ⟨hb, hs, h_g, h_X, h_O, h_N⟩
  go_wp2_with (first | (refine wpList_load_row rfl 40 _ rfl N rfl _ _ _ _ h_N Tryd.underlying40 rfl (rq_info _ _ _ _ _) ?_) | (refine wpList_store_row rfl 40 _ _ rfl O (rqA 1 f 0 (nb : Int) (.slice none 0 0)) rfl rfl _ _ h_O (rq_info _ _ _ _ _) (rq_szs _ _ _ _ _ _ _ _ _ _) (rq_one _ _ _ _ _ _ _) ?_))
  refine bodyPost_ret (results_row_tmp rfl _ _ O _ (rqA 1 f 0 (nb : Int) (.slice none 0 0)) _ _ rfl (setRow_heap _ _ _ _ _ _ h_O) _ rfl Tryd.underlying40 rfl (rq_info _ _ _ _ _)) rfl ?_
  exact ⟨rfl, below_setRow hb o_O _⟩
end
end Go.Proofs.YtffkjbbhbpaacaaDoor
