import Derived.Test.YtffkjbbhbpaacaaDoorUpa
/-
  upload.Up's ways on.
-/
namespace Go.Proofs.YtffkjbbhbpaacaaDoor
open Go.RowKit
theorem heap_size_setCell (w : World) (a : Addr) (v : Value) : (w.setCell a v).heap.size = w.heap.size := by simp [World.setCell]
section
variable {W W' : World} {g : Nat} {ph at' a b : Int}
set_option maxRecDepth 100000 in
theorem to_u (w : World) (h : UpH w g ph at' a b) (p : Int) : Calls Tryd.prog 74 #[.pointer (some ⟨g, 0, none⟩), .int .i64 p] w fun e w' => e = .returned (.tuple #[.agg (uv p at' a b), .bool true]) ∧ Below w.heap.size w w' := by
  obtain ⟨n0, hn0⟩ : ∃ n, n = w.heap.size := ⟨_, rfl⟩
  try rw [← hn0]
  have hb : Below n0 w w := by rw [hn0]; exact Below.refl _ _
  have hs : n0 ≤ w.heap.size := by rw [hn0]; exact Nat.le_refl _
  clear hn0
  have h_g : w.heap[g]? = some (.cells (uv ph at' a b) 31 (0, 0)) := h
  clear h
  go_enter Tryd.func74, Tryd.ntmps74
  go_upto_region 1 with (fail)
  have l_g_O : g < w.heap.size := lt_heap h_g
  have o_O : n0 ≤ w.heap.size := hs
  refine wp_world (fun W => Below n0 w W ∧ n0 ≤ W.heap.size ∧ W.heap[g]? = some (.cells (uv ph at' a b) 31 (0, 0)) ∧ W.heap[w.heap.size]? = some (.cells (uv 0 0 0 0) 31 (0, 0))) ⟨hb.trans ((below_alc w _).mono hs), Nat.le_trans hs (below_alc w _).size, heap_below h_g (below_alc w _), heap1_0 _ _⟩ ?_
  clear hb hs h_g 
  rintro W1 ⟨hb, hs, h_g, h_O⟩
  generalize w.heap.size = O at *
  go_upto_region 2 with (first | (refine wpList_load_row rfl 31 _ rfl g rfl _ _ _ _ h_g Tryd.underlying31 rfl (info_Up _ _ _ _) ?_) | (refine wpList_store_row rfl 31 _ _ rfl W1.heap.size (uv ph at' a b) rfl rfl _ _ (heap1_0 _ _) (by kernel_rfl) rfl (uv_one _ _ _ _) ?_; rw [alloc_setRow]))
  have l_g_N : g < W1.heap.size := lt_heap h_g
  have l_O_N : O < W1.heap.size := lt_heap h_O
  have o_N : n0 ≤ W1.heap.size := hs
  refine wp_world (fun W => Below n0 w W ∧ n0 ≤ W.heap.size ∧ W.heap[g]? = some (.cells (uv ph at' a b) 31 (0, 0)) ∧ W.heap[O]? = some (.cells (uv 0 0 0 0) 31 (0, 0)) ∧ W.heap[W1.heap.size]? = some (.cells (uv ph at' a b) 31 (0, 0))) ⟨hb.trans ((below_alc W1 _).mono hs), Nat.le_trans hs (below_alc W1 _).size, heap_below h_g (below_alc W1 _), heap_below h_O (below_alc W1 _), heap1_0 _ _⟩ ?_
  clear hb hs h_g h_O 
  rintro W2 ⟨hb, hs, h_g, h_O, h_N⟩
  generalize W1.heap.size = N at *
  have c0 := cell_heap (i := 0) h_N rfl
  have f0 := thaw_heap h_N 0
  go_upto_region 3 with (fail)
  refine wp_world (fun W => Below n0 w W ∧ n0 ≤ W.heap.size ∧ W.heap[g]? = some (.cells (uv ph at' a b) 31 (0, 0)) ∧ W.heap[O]? = some (.cells (uv 0 0 0 0) 31 (0, 0)) ∧ W.heap[N]? = some (.cells (uv p at' a b) 31 (0, 0))) ⟨(set_turnH W2 N 0 _).below hb hs (fun q e => by rw [e]; exact o_N), by rw [heap_size_setCell]; exact hs, (heap_setCell_other W2 ⟨N, 0, none⟩ g _ (by show g ≠ N; omega)).trans h_g, (heap_setCell_other W2 ⟨N, 0, none⟩ O _ (by show O ≠ N; omega)).trans h_O, heap_setCell_same W2 N 0 _ _ _ h_N⟩ ?_
  clear hb hs h_g h_O h_N c0 f0 
  rintro W3 ⟨hb, hs, h_g, h_O, h_N⟩
  go_wp2_with (first | (refine wpList_load_row rfl 31 _ rfl N rfl _ _ _ _ h_N Tryd.underlying31 rfl (info_Up _ _ _ _) ?_) | (refine wpList_store_row rfl 31 _ _ rfl O (uv p at' a b) rfl rfl _ _ h_O (by kernel_rfl) rfl (uv_one _ _ _ _) ?_))
  refine bodyPost_ret (results_row_tmp rfl _ _ O _ (uv p at' a b) _ _ rfl (setRow_heap _ _ _ _ _ _ h_O) _ rfl Tryd.underlying31 rfl (info_Up _ _ _ _)) rfl ?_
  exact ⟨rfl, below_setRow hb o_O _⟩
set_option maxRecDepth 100000 in
theorem filled_no (w : World) (h : UpH w g ph at' a b) (n t : Int) (hn : 0 ≤ n ∧ n < 4294967296) (ht : t < n) : Calls Tryd.prog 75 #[.pointer (some ⟨g, 0, none⟩), .int .u32 n, .int .i64 t] w fun e w' => e = .returned (.tuple #[.agg (uv 0 0 0 0), .bool false]) ∧ Below w.heap.size w w' := by
  have hcv : (wrap64 n) = n := by unfold wrap64; omega
  clear hn
  obtain ⟨n0, hn0⟩ : ∃ n, n = w.heap.size := ⟨_, rfl⟩
  try rw [← hn0]
  have hb : Below n0 w w := by rw [hn0]; exact Below.refl _ _
  have hs : n0 ≤ w.heap.size := by rw [hn0]; exact Nat.le_refl _
  clear hn0
  have h_g : w.heap[g]? = some (.cells (uv ph at' a b) 31 (0, 0)) := h
  clear h
  go_enter Tryd.func75, Tryd.ntmps75
  go_upto_region 1 with (fail)
  have l_g_O : g < w.heap.size := lt_heap h_g
  have o_O : n0 ≤ w.heap.size := hs
  refine wp_world (fun W => Below n0 w W ∧ n0 ≤ W.heap.size ∧ W.heap[g]? = some (.cells (uv ph at' a b) 31 (0, 0)) ∧ W.heap[w.heap.size]? = some (.cells (uv 0 0 0 0) 31 (0, 0))) ⟨hb.trans ((below_alc w _).mono hs), Nat.le_trans hs (below_alc w _).size, heap_below h_g (below_alc w _), heap1_0 _ _⟩ ?_
  clear hb hs h_g 
  rintro W1 ⟨hb, hs, h_g, h_O⟩
  generalize w.heap.size = O at *
  go_wp2_with (first | (refine wpList_build rfl 31 _ rfl #[] (by kernel_rfl) (.agg (uv 0 0 0 0)) (fun _ => by kernel_rfl) ?_) | (refine wpList_store_row rfl 31 _ _ rfl O (uv 0 0 0 0) rfl rfl _ _ h_O (by kernel_rfl) rfl (uv_one _ _ _ _) ?_))
  refine bodyPost_ret (results_row_tmp rfl _ _ O _ (uv 0 0 0 0) _ _ rfl (setRow_heap _ _ _ _ _ _ h_O) _ rfl Tryd.underlying31 rfl (info_Up _ _ _ _)) rfl ?_
  exact ⟨rfl, below_setRow hb o_O _⟩
set_option maxRecDepth 100000 in
theorem filled_yes (w : World) (h : UpH w g ph at' a b) (n t : Int) (hn : 0 ≤ n ∧ n < 4294967296) (ht : ¬ t < n) (p : Int) (hp : p = if n = t then 3 else 2) : Calls Tryd.prog 75 #[.pointer (some ⟨g, 0, none⟩), .int .u32 n, .int .i64 t] w fun e w' => e = .returned (.tuple #[.agg (uv p n a b), .bool true]) ∧ Below w.heap.size w w' := by
  have hcv : (wrap64 n) = n := by unfold wrap64; omega
  clear hn
  obtain ⟨n0, hn0⟩ : ∃ n, n = w.heap.size := ⟨_, rfl⟩
  try rw [← hn0]
  have hb : Below n0 w w := by rw [hn0]; exact Below.refl _ _
  have hs : n0 ≤ w.heap.size := by rw [hn0]; exact Nat.le_refl _
  clear hn0
  have h_g : w.heap[g]? = some (.cells (uv ph at' a b) 31 (0, 0)) := h
  clear h
  go_enter Tryd.func75, Tryd.ntmps75
  go_upto_region 1 with (fail)
  have l_g_O : g < w.heap.size := lt_heap h_g
  have o_O : n0 ≤ w.heap.size := hs
  refine wp_world (fun W => Below n0 w W ∧ n0 ≤ W.heap.size ∧ W.heap[g]? = some (.cells (uv ph at' a b) 31 (0, 0)) ∧ W.heap[w.heap.size]? = some (.cells (uv 0 0 0 0) 31 (0, 0))) ⟨hb.trans ((below_alc w _).mono hs), Nat.le_trans hs (below_alc w _).size, heap_below h_g (below_alc w _), heap1_0 _ _⟩ ?_
  clear hb hs h_g 
  rintro W1 ⟨hb, hs, h_g, h_O⟩
  generalize w.heap.size = O at *
  go_upto_region 4 with (first | (refine wpList_load_row rfl 31 _ rfl g rfl _ _ _ _ h_g Tryd.underlying31 rfl (info_Up _ _ _ _) ?_) | (refine wpList_store_row rfl 31 _ _ rfl W1.heap.size (uv ph at' a b) rfl rfl _ _ (heap1_0 _ _) (by kernel_rfl) rfl (uv_one _ _ _ _) ?_; rw [alloc_setRow]))
  have l_g_N : g < W1.heap.size := lt_heap h_g
  have l_O_N : O < W1.heap.size := lt_heap h_O
  have o_N : n0 ≤ W1.heap.size := hs
  refine wp_world (fun W => Below n0 w W ∧ n0 ≤ W.heap.size ∧ W.heap[g]? = some (.cells (uv ph at' a b) 31 (0, 0)) ∧ W.heap[O]? = some (.cells (uv 0 0 0 0) 31 (0, 0)) ∧ W.heap[W1.heap.size]? = some (.cells (uv ph at' a b) 31 (0, 0))) ⟨hb.trans ((below_alc W1 _).mono hs), Nat.le_trans hs (below_alc W1 _).size, heap_below h_g (below_alc W1 _), heap_below h_O (below_alc W1 _), heap1_0 _ _⟩ ?_
  clear hb hs h_g h_O 
  rintro W2 ⟨hb, hs, h_g, h_O, h_N⟩
  generalize W1.heap.size = N at *
  have c1 := cell_heap (i := 1) h_N rfl
  have f1 := thaw_heap h_N 1
  go_upto_region 5 with (fail)
  refine wp_world (fun W => Below n0 w W ∧ n0 ≤ W.heap.size ∧ W.heap[g]? = some (.cells (uv ph at' a b) 31 (0, 0)) ∧ W.heap[O]? = some (.cells (uv 0 0 0 0) 31 (0, 0)) ∧ W.heap[N]? = some (.cells (uv ph n a b) 31 (0, 0))) ⟨(set_turnH W2 N 1 _).below hb hs (fun q e => by rw [e]; exact o_N), by rw [heap_size_setCell]; exact hs, (heap_setCell_other W2 ⟨N, 1, none⟩ g _ (by show g ≠ N; omega)).trans h_g, (heap_setCell_other W2 ⟨N, 1, none⟩ O _ (by show O ≠ N; omega)).trans h_O, heap_setCell_same W2 N 1 _ _ _ h_N⟩ ?_
  clear hb hs h_g h_O h_N c1 f1 
  rintro W3 ⟨hb, hs, h_g, h_O, h_N⟩
  have c0 := cell_heap (i := 0) h_N rfl
  have f0 := thaw_heap h_N 0
  go_upto_region 6 with (fail)
  refine wp_world (fun W => Below n0 w W ∧ n0 ≤ W.heap.size ∧ W.heap[g]? = some (.cells (uv ph at' a b) 31 (0, 0)) ∧ W.heap[O]? = some (.cells (uv 0 0 0 0) 31 (0, 0)) ∧ W.heap[N]? = some (.cells (uv 2 n a b) 31 (0, 0))) ⟨(set_turnH W3 N 0 _).below hb hs (fun q e => by rw [e]; exact o_N), by rw [heap_size_setCell]; exact hs, (heap_setCell_other W3 ⟨N, 0, none⟩ g _ (by show g ≠ N; omega)).trans h_g, (heap_setCell_other W3 ⟨N, 0, none⟩ O _ (by show O ≠ N; omega)).trans h_O, heap_setCell_same W3 N 0 _ _ _ h_N⟩ ?_
  clear hb hs h_g h_O h_N c0 f0 
  rintro W4 ⟨hb, hs, h_g, h_O, h_N⟩
  have c1 : W4.cell? ⟨N, 1, none⟩ = some (.int .i64 n) := cell_heap h_N rfl
  clear ht
  by_cases e : n = t
  · skip
    subst e
    rw [if_pos rfl] at hp
    subst hp
    have c0 := cell_heap (i := 0) h_N rfl
    have f0 := thaw_heap h_N 0
    go_upto_region 8 with (fail)
    refine wp_world (fun W => Below n0 w W ∧ n0 ≤ W.heap.size ∧ W.heap[g]? = some (.cells (uv ph at' a b) 31 (0, 0)) ∧ W.heap[O]? = some (.cells (uv 0 0 0 0) 31 (0, 0)) ∧ W.heap[N]? = some (.cells (uv 3 n a b) 31 (0, 0))) ⟨(set_turnH W4 N 0 _).below hb hs (fun q e => by rw [e]; exact o_N), by rw [heap_size_setCell]; exact hs, (heap_setCell_other W4 ⟨N, 0, none⟩ g _ (by show g ≠ N; omega)).trans h_g, (heap_setCell_other W4 ⟨N, 0, none⟩ O _ (by show O ≠ N; omega)).trans h_O, heap_setCell_same W4 N 0 _ _ _ h_N⟩ ?_
    clear hb hs h_g h_O h_N c0 f0 c1 
    rintro W5 ⟨hb, hs, h_g, h_O, h_N⟩
    go_wp2_with (first | (refine wpList_load_row rfl 31 _ rfl N rfl _ _ _ _ h_N Tryd.underlying31 rfl (info_Up _ _ _ _) ?_) | (refine wpList_store_row rfl 31 _ _ rfl O (uv 3 n a b) rfl rfl _ _ h_O (by kernel_rfl) rfl (uv_one _ _ _ _) ?_))
    refine bodyPost_ret (results_row_tmp rfl _ _ O _ (uv 3 n a b) _ _ rfl (setRow_heap _ _ _ _ _ _ h_O) _ rfl Tryd.underlying31 rfl (info_Up _ _ _ _)) rfl ?_
    exact ⟨rfl, below_setRow hb o_O _⟩
  · skip
    rw [if_neg e] at hp
    subst hp
    have e2 : (n == t) = false := by simpa using e
    clear e
    go_wp2_with (first | (refine wpList_load_row rfl 31 _ rfl N rfl _ _ _ _ h_N Tryd.underlying31 rfl (info_Up _ _ _ _) ?_) | (refine wpList_store_row rfl 31 _ _ rfl O (uv 2 n a b) rfl rfl _ _ h_O (by kernel_rfl) rfl (uv_one _ _ _ _) ?_))
    refine bodyPost_ret (results_row_tmp rfl _ _ O _ (uv 2 n a b) _ _ rfl (setRow_heap _ _ _ _ _ _ h_O) _ rfl Tryd.underlying31 rfl (info_Up _ _ _ _)) rfl ?_
    exact ⟨rfl, below_setRow hb o_O _⟩
end
end Go.Proofs.YtffkjbbhbpaacaaDoor
