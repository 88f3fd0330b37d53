import Derived.Test.YtffkjbbhbpaacaaDoorUpa
import Derived.Test.YtffkjbbhbpaacaaDoorUcd
/-
  upload.Up's ways on.
  upload.Up's after*.
  upload.Up's after and Answer, but for the phase Stat.
-/
namespace Go.Proofs.YtffkjbbhbpaacaaDoor
open Go.RowKit

theorem heap_size_setCell (w : World) (a : Addr) (v : Value) : (w.setCell a v).heap.size = w.heap.size := by simp [World.setCell]
section
variable {W W' : World} {g : Nat} {ph at' a b : Int}
set_option maxRecDepth 100000 in
theorem to_u (w : World) (h : UpH w g ph at' a b) (p : Int) : Calls Tryd.prog 74 #[.pointer (some ⟨g, 0, none⟩), .int .i64 p] w fun e w' => e = .returned (.tuple #[.agg (uv p at' a b), .bool true]) ∧ Below w.heap.size w w' := by
  obtain ⟨n0, hn0⟩ : ∃ n, n = w.heap.size := ⟨_, rfl⟩
  try rw [← hn0]
  have hb : Below n0 w w := by rw [hn0]; exact Below.refl _ _
  have hs : n0 ≤ w.heap.size := by rw [hn0]; exact Nat.le_refl _
  clear hn0
  have h_g : w.heap[g]? = some (.cells (uv ph at' a b) 31 (0, 0)) := h
  clear h
  go_enter Tryd.func74, Tryd.ntmps74
  go_upto_region 1 with (fail)
  have l_g_O : g < w.heap.size := lt_heap h_g
  have o_O : n0 ≤ w.heap.size := hs
  refine wp_world (fun W => Below n0 w W ∧ n0 ≤ W.heap.size ∧ W.heap[g]? = some (.cells (uv ph at' a b) 31 (0, 0)) ∧ W.heap[w.heap.size]? = some (.cells (uv 0 0 0 0) 31 (0, 0))) ⟨hb.trans ((below_alc w _).mono hs), Nat.le_trans hs (below_alc w _).size, heap_below h_g (below_alc w _), heap1_0 _ _⟩ ?_
  clear hb hs h_g 
  rintro W1 ⟨hb, hs, h_g, h_O⟩
  generalize w.heap.size = O at *
  go_upto_region 2 with (first | (refine wpList_load_row rfl 31 _ rfl g rfl _ _ _ _ h_g Tryd.underlying31 rfl (info_Up _ _ _ _) ?_) | (refine wpList_store_row rfl 31 _ _ rfl W1.heap.size (uv ph at' a b) rfl rfl _ _ (heap1_0 _ _) (by kernel_rfl) rfl (uv_one _ _ _ _) ?_; rw [alloc_setRow]))
  have l_g_N : g < W1.heap.size := lt_heap h_g
  have l_O_N : O < W1.heap.size := lt_heap h_O
  have o_N : n0 ≤ W1.heap.size := hs
  refine wp_world (fun W => Below n0 w W ∧ n0 ≤ W.heap.size ∧ W.heap[g]? = some (.cells (uv ph at' a b) 31 (0, 0)) ∧ W.heap[O]? = some (.cells (uv 0 0 0 0) 31 (0, 0)) ∧ W.heap[W1.heap.size]? = some (.cells (uv ph at' a b) 31 (0, 0))) ⟨hb.trans ((below_alc W1 _).mono hs), Nat.le_trans hs (below_alc W1 _).size, heap_below h_g (below_alc W1 _), heap_below h_O (below_alc W1 _), heap1_0 _ _⟩ ?_
  clear hb hs h_g h_O 
  rintro W2 ⟨hb, hs, h_g, h_O, h_N⟩
  generalize W1.heap.size = N at *
  have c0 := cell_heap (i := 0) h_N rfl
  have f0 := thaw_heap h_N 0
  go_upto_region 3 with (fail)
  refine wp_world (fun W => Below n0 w W ∧ n0 ≤ W.heap.size ∧ W.heap[g]? = some (.cells (uv ph at' a b) 31 (0, 0)) ∧ W.heap[O]? = some (.cells (uv 0 0 0 0) 31 (0, 0)) ∧ W.heap[N]? = some (.cells (uv p at' a b) 31 (0, 0))) ⟨(set_turnH W2 N 0 _).below hb hs (fun q e => by rw [e]; exact o_N), by rw [heap_size_setCell]; exact hs, (heap_setCell_other W2 ⟨N, 0, none⟩ g _ (by show g ≠ N; omega)).trans h_g, (heap_setCell_other W2 ⟨N, 0, none⟩ O _ (by show O ≠ N; omega)).trans h_O, heap_setCell_same W2 N 0 _ _ _ h_N⟩ ?_
  clear hb hs h_g h_O h_N c0 f0 
  rintro W3 ⟨hb, hs, h_g, h_O, h_N⟩
  go_wp2_with (first | (refine wpList_load_row rfl 31 _ rfl N rfl _ _ _ _ h_N Tryd.underlying31 rfl (info_Up _ _ _ _) ?_) | (refine wpList_store_row rfl 31 _ _ rfl O (uv p at' a b) rfl rfl _ _ h_O (by kernel_rfl) rfl (uv_one _ _ _ _) ?_))
  refine bodyPost_ret (results_row_tmp rfl _ _ O _ (uv p at' a b) _ _ rfl (setRow_heap _ _ _ _ _ _ h_O) _ rfl Tryd.underlying31 rfl (info_Up _ _ _ _)) rfl ?_
  exact ⟨rfl, below_setRow hb o_O _⟩
set_option maxRecDepth 100000 in
theorem filled_no (w : World) (h : UpH w g ph at' a b) (n t : Int) (hn : 0 ≤ n ∧ n < 4294967296) (ht : t < n) : Calls Tryd.prog 75 #[.pointer (some ⟨g, 0, none⟩), .int .u32 n, .int .i64 t] w fun e w' => e = .returned (.tuple #[.agg (uv 0 0 0 0), .bool false]) ∧ Below w.heap.size w w' := by
  have hcv : (wrap64 n) = n := by unfold wrap64; omega
  clear hn
  obtain ⟨n0, hn0⟩ : ∃ n, n = w.heap.size := ⟨_, rfl⟩
  try rw [← hn0]
  have hb : Below n0 w w := by rw [hn0]; exact Below.refl _ _
  have hs : n0 ≤ w.heap.size := by rw [hn0]; exact Nat.le_refl _
  clear hn0
  have h_g : w.heap[g]? = some (.cells (uv ph at' a b) 31 (0, 0)) := h
  clear h
  go_enter Tryd.func75, Tryd.ntmps75
  go_upto_region 1 with (fail)
  have l_g_O : g < w.heap.size := lt_heap h_g
  have o_O : n0 ≤ w.heap.size := hs
  refine wp_world (fun W => Below n0 w W ∧ n0 ≤ W.heap.size ∧ W.heap[g]? = some (.cells (uv ph at' a b) 31 (0, 0)) ∧ W.heap[w.heap.size]? = some (.cells (uv 0 0 0 0) 31 (0, 0))) ⟨hb.trans ((below_alc w _).mono hs), Nat.le_trans hs (below_alc w _).size, heap_below h_g (below_alc w _), heap1_0 _ _⟩ ?_
  clear hb hs h_g 
  rintro W1 ⟨hb, hs, h_g, h_O⟩
  generalize w.heap.size = O at *
  go_wp2_with (first | (refine wpList_build rfl 31 _ rfl #[] (by kernel_rfl) (.agg (uv 0 0 0 0)) (fun _ => by kernel_rfl) ?_) | (refine wpList_store_row rfl 31 _ _ rfl O (uv 0 0 0 0) rfl rfl _ _ h_O (by kernel_rfl) rfl (uv_one _ _ _ _) ?_))
  refine bodyPost_ret (results_row_tmp rfl _ _ O _ (uv 0 0 0 0) _ _ rfl (setRow_heap _ _ _ _ _ _ h_O) _ rfl Tryd.underlying31 rfl (info_Up _ _ _ _)) rfl ?_
  exact ⟨rfl, below_setRow hb o_O _⟩
set_option maxRecDepth 100000 in
theorem filled_yes (w : World) (h : UpH w g ph at' a b) (n t : Int) (hn : 0 ≤ n ∧ n < 4294967296) (ht : ¬ t < n) (p : Int) (hp : p = if n = t then 3 else 2) : Calls Tryd.prog 75 #[.pointer (some ⟨g, 0, none⟩), .int .u32 n, .int .i64 t] w fun e w' => e = .returned (.tuple #[.agg (uv p n a b), .bool true]) ∧ Below w.heap.size w w' := by
  have hcv : (wrap64 n) = n := by unfold wrap64; omega
  clear hn
  obtain ⟨n0, hn0⟩ : ∃ n, n = w.heap.size := ⟨_, rfl⟩
  try rw [← hn0]
  have hb : Below n0 w w := by rw [hn0]; exact Below.refl _ _
  have hs : n0 ≤ w.heap.size := by rw [hn0]; exact Nat.le_refl _
  clear hn0
  have h_g : w.heap[g]? = some (.cells (uv ph at' a b) 31 (0, 0)) := h
  clear h
  go_enter Tryd.func75, Tryd.ntmps75
  go_upto_region 1 with (fail)
  have l_g_O : g < w.heap.size := lt_heap h_g
  have o_O : n0 ≤ w.heap.size := hs
  refine wp_world (fun W => Below n0 w W ∧ n0 ≤ W.heap.size ∧ W.heap[g]? = some (.cells (uv ph at' a b) 31 (0, 0)) ∧ W.heap[w.heap.size]? = some (.cells (uv 0 0 0 0) 31 (0, 0))) ⟨hb.trans ((below_alc w _).mono hs), Nat.le_trans hs (below_alc w _).size, heap_below h_g (below_alc w _), heap1_0 _ _⟩ ?_
  clear hb hs h_g 
  rintro W1 ⟨hb, hs, h_g, h_O⟩
  generalize w.heap.size = O at *
  go_upto_region 4 with (first | (refine wpList_load_row rfl 31 _ rfl g rfl _ _ _ _ h_g Tryd.underlying31 rfl (info_Up _ _ _ _) ?_) | (refine wpList_store_row rfl 31 _ _ rfl W1.heap.size (uv ph at' a b) rfl rfl _ _ (heap1_0 _ _) (by kernel_rfl) rfl (uv_one _ _ _ _) ?_; rw [alloc_setRow]))
  have l_g_N : g < W1.heap.size := lt_heap h_g
  have l_O_N : O < W1.heap.size := lt_heap h_O
  have o_N : n0 ≤ W1.heap.size := hs
  refine wp_world (fun W => Below n0 w W ∧ n0 ≤ W.heap.size ∧ W.heap[g]? = some (.cells (uv ph at' a b) 31 (0, 0)) ∧ W.heap[O]? = some (.cells (uv 0 0 0 0) 31 (0, 0)) ∧ W.heap[W1.heap.size]? = some (.cells (uv ph at' a b) 31 (0, 0))) ⟨hb.trans ((below_alc W1 _).mono hs), Nat.le_trans hs (below_alc W1 _).size, heap_below h_g (below_alc W1 _), heap_below h_O (below_alc W1 _), heap1_0 _ _⟩ ?_
  clear hb hs h_g h_O 
  rintro W2 ⟨hb, hs, h_g, h_O, h_N⟩
  generalize W1.heap.size = N at *
  have c1 := cell_heap (i := 1) h_N rfl
  have f1 := thaw_heap h_N 1
  go_upto_region 5 with (fail)
  refine wp_world (fun W => Below n0 w W ∧ n0 ≤ W.heap.size ∧ W.heap[g]? = some (.cells (uv ph at' a b) 31 (0, 0)) ∧ W.heap[O]? = some (.cells (uv 0 0 0 0) 31 (0, 0)) ∧ W.heap[N]? = some (.cells (uv ph n a b) 31 (0, 0))) ⟨(set_turnH W2 N 1 _).below hb hs (fun q e => by rw [e]; exact o_N), by rw [heap_size_setCell]; exact hs, (heap_setCell_other W2 ⟨N, 1, none⟩ g _ (by show g ≠ N; omega)).trans h_g, (heap_setCell_other W2 ⟨N, 1, none⟩ O _ (by show O ≠ N; omega)).trans h_O, heap_setCell_same W2 N 1 _ _ _ h_N⟩ ?_
  clear hb hs h_g h_O h_N c1 f1 
  rintro W3 ⟨hb, hs, h_g, h_O, h_N⟩
  have c0 := cell_heap (i := 0) h_N rfl
  have f0 := thaw_heap h_N 0
  go_upto_region 6 with (fail)
  refine wp_world (fun W => Below n0 w W ∧ n0 ≤ W.heap.size ∧ W.heap[g]? = some (.cells (uv ph at' a b) 31 (0, 0)) ∧ W.heap[O]? = some (.cells (uv 0 0 0 0) 31 (0, 0)) ∧ W.heap[N]? = some (.cells (uv 2 n a b) 31 (0, 0))) ⟨(set_turnH W3 N 0 _).below hb hs (fun q e => by rw [e]; exact o_N), by rw [heap_size_setCell]; exact hs, (heap_setCell_other W3 ⟨N, 0, none⟩ g _ (by show g ≠ N; omega)).trans h_g, (heap_setCell_other W3 ⟨N, 0, none⟩ O _ (by show O ≠ N; omega)).trans h_O, heap_setCell_same W3 N 0 _ _ _ h_N⟩ ?_
  clear hb hs h_g h_O h_N c0 f0 
  rintro W4 ⟨hb, hs, h_g, h_O, h_N⟩
  have c1 : W4.cell? ⟨N, 1, none⟩ = some (.int .i64 n) := cell_heap h_N rfl
  clear ht
  by_cases e : n = t
  · skip
    subst e
    rw [if_pos rfl] at hp
    subst hp
    have c0 := cell_heap (i := 0) h_N rfl
    have f0 := thaw_heap h_N 0
    go_upto_region 8 with (fail)
    refine wp_world (fun W => Below n0 w W ∧ n0 ≤ W.heap.size ∧ W.heap[g]? = some (.cells (uv ph at' a b) 31 (0, 0)) ∧ W.heap[O]? = some (.cells (uv 0 0 0 0) 31 (0, 0)) ∧ W.heap[N]? = some (.cells (uv 3 n a b) 31 (0, 0))) ⟨(set_turnH W4 N 0 _).below hb hs (fun q e => by rw [e]; exact o_N), by rw [heap_size_setCell]; exact hs, (heap_setCell_other W4 ⟨N, 0, none⟩ g _ (by show g ≠ N; omega)).trans h_g, (heap_setCell_other W4 ⟨N, 0, none⟩ O _ (by show O ≠ N; omega)).trans h_O, heap_setCell_same W4 N 0 _ _ _ h_N⟩ ?_
    clear hb hs h_g h_O h_N c0 f0 c1 
    rintro W5 ⟨hb, hs, h_g, h_O, h_N⟩
    go_wp2_with (first | (refine wpList_load_row rfl 31 _ rfl N rfl _ _ _ _ h_N Tryd.underlying31 rfl (info_Up _ _ _ _) ?_) | (refine wpList_store_row rfl 31 _ _ rfl O (uv 3 n a b) rfl rfl _ _ h_O (by kernel_rfl) rfl (uv_one _ _ _ _) ?_))
    refine bodyPost_ret (results_row_tmp rfl _ _ O _ (uv 3 n a b) _ _ rfl (setRow_heap _ _ _ _ _ _ h_O) _ rfl Tryd.underlying31 rfl (info_Up _ _ _ _)) rfl ?_
    exact ⟨rfl, below_setRow hb o_O _⟩
  · skip
    rw [if_neg e] at hp
    subst hp
    have e2 : (n == t) = false := by simpa using e
    clear e
    go_wp2_with (first | (refine wpList_load_row rfl 31 _ rfl N rfl _ _ _ _ h_N Tryd.underlying31 rfl (info_Up _ _ _ _) ?_) | (refine wpList_store_row rfl 31 _ _ rfl O (uv 2 n a b) rfl rfl _ _ h_O (by kernel_rfl) rfl (uv_one _ _ _ _) ?_))
    refine bodyPost_ret (results_row_tmp rfl _ _ O _ (uv 2 n a b) _ _ rfl (setRow_heap _ _ _ _ _ _ h_O) _ rfl Tryd.underlying31 rfl (info_Up _ _ _ _)) rfl ?_
    exact ⟨rfl, below_setRow hb o_O _⟩
end
/-- a response's cells -/
abbrev rv (code n : Int) (D : Value) : Array Value := #[.int .i64 code, .int .u32 n, D]
/-- an Up as it is led on, or not -/
def upR (a b : Int) : Option (Int × Int) → Value
  | none => .tuple #[.agg (uv 0 0 0 0), .bool false]
  | some (p, q) => .tuple #[.agg (uv p q a b), .bool true]
def fillN (n t : Int) : Option (Int × Int) := if t < n then none else some (if n = t then 3 else 2, n)
def nStat (at' t code n : Int) (d : Bool) : Option (Int × Int) := if code = 0 then (if d = true then some (5, at') else fillN n t) else if code = 14 then some (1, at') else none
def nOpen (at' code : Int) : Option (Int × Int) := if code = 0 then some (2, 0) else if code = 15 then some (0, at') else none
def nPut (at' t code n : Int) : Option (Int × Int) := if code = 0 then fillN n t else if code = 14 then some (1, at') else if code = 17 then some (0, at') else if code = 2 then some (0, at') else none
def nCommit (at' code : Int) : Option (Int × Int) := if code = 0 then some (5, at') else if code = 16 then some (4, at') else if code = 14 then some (1, at') else if code = 17 then some (0, at') else none
def nDelete (at' code : Int) : Option (Int × Int) := if code = 0 then some (1, at') else if code = 14 then some (1, at') else none
section
variable {W W' : World} {g : Nat} {ph at' a b : Int}
set_option maxRecDepth 100000 in
set_option maxHeartbeats 800000 in
theorem afteropen_u (E : Nat → Addr) (w : World) (hE : ErrsAt E w) (h : UpH w g ph at' a b) (code n : Int) (D : Value) (r : Value) (hr : r = upR a b (nOpen at' code)) : Calls Tryd.prog 58 #[.pointer (some ⟨g, 0, none⟩), .agg (rv code n D)] w fun e w' => e = .returned r ∧ Below w.heap.size w w' := by
  obtain ⟨n0, hn0⟩ : ∃ n, n = w.heap.size := ⟨_, rfl⟩
  try rw [← hn0]
  have hb : Below n0 w w := by rw [hn0]; exact Below.refl _ _
  have hs : n0 ≤ w.heap.size := by rw [hn0]; exact Nat.le_refl _
  have HE : Hid (∀ W, Below n0 w W → ErrsAt E W) := Lib.hid (fun W hb => hE.below (by rw [hn0] at hb; exact hb))
  clear hn0
  have h_g : w.heap[g]? = some (.cells (uv ph at' a b) 31 (0, 0)) := h
  clear h hE
  go_enter Tryd.func58, Tryd.ntmps58
  go_upto_region 1 with (fail)
  have l_g_X : g < w.heap.size := lt_heap h_g
  have l_g_O : g < w.heap.size + 1 := by omega
  have o_X : n0 ≤ w.heap.size := hs
  have o_O : n0 ≤ w.heap.size + 1 := by omega
  have l_X_O : w.heap.size < w.heap.size + 1 := by omega
  refine wp_world (fun W => Below n0 w W ∧ n0 ≤ W.heap.size ∧ W.heap[g]? = some (.cells (uv ph at' a b) 31 (0, 0)) ∧ W.heap[w.heap.size]? = some (.cells (rv code n D) 47 (0, 0)) ∧ W.heap[w.heap.size + 1]? = some (.cells (uv 0 0 0 0) 31 (0, 0))) ⟨(hb.trans ((below_alc w _).mono hs)).trans ((below_alc _ _).mono (Nat.le_trans hs (below_alc w _).size)), Nat.le_trans (Nat.le_trans hs (below_alc w _).size) (below_alc _ _).size, heap_below (heap_below h_g (below_alc w _)) (below_alc _ _), heap2_0 _ _ _, heap2_1 _ _ _⟩ ?_
  clear hb hs h_g 
  rintro W1 ⟨hb, hs, h_g, h_X, h_O⟩
  generalize w.heap.size = X at *
  generalize X + 1 = O at *
  have c0 : W1.cell? ⟨X, 0, none⟩ = some (.int .i64 code) := cell_heap h_X rfl
  by_cases e0 : code = 0
  · subst e0
    have hr1 : nOpen at' 0 = some (2, 0) := by simp [nOpen]
    rw [hr1] at hr
    subst hr
    clear hr1
    go_upto_region 4 with (first | (go_at_call 74; refine (to_u W1 h_g 2).mono ?_; rintro e V1 ⟨rfl, hbV1⟩; replace h_g := heap_below h_g hbV1; replace h_X := heap_below h_X hbV1; replace h_O := heap_below h_O hbV1; replace hb := hb.trans (hbV1.mono hs); replace hs := Nat.le_trans hs hbV1.size; clear hbV1) | (refine wpList_store_row rfl 31 _ _ rfl V1.heap.size (uv 2 at' a b) rfl rfl _ _ (heap1_0 _ _) (by kernel_rfl) rfl (uv_one _ _ _ _) ?_; rw [alloc_setRow]))
    have l_g_N : g < V1.heap.size := lt_heap h_g
    have l_X_N : X < V1.heap.size := lt_heap h_X
    have l_O_N : O < V1.heap.size := lt_heap h_O
    have o_N : n0 ≤ V1.heap.size := hs
    refine wp_world (fun W => Below n0 w W ∧ n0 ≤ W.heap.size ∧ W.heap[g]? = some (.cells (uv ph at' a b) 31 (0, 0)) ∧ W.heap[X]? = some (.cells (rv 0 n D) 47 (0, 0)) ∧ W.heap[O]? = some (.cells (uv 0 0 0 0) 31 (0, 0)) ∧ W.heap[V1.heap.size]? = some (.cells (uv 2 at' a b) 31 (0, 0))) ⟨hb.trans ((below_alc V1 _).mono hs), Nat.le_trans hs (below_alc V1 _).size, heap_below h_g (below_alc V1 _), heap_below h_X (below_alc V1 _), heap_below h_O (below_alc V1 _), heap1_0 _ _⟩ ?_
    clear hb hs h_g h_X h_O 
    rintro W2 ⟨hb, hs, h_g, h_X, h_O, h_N⟩
    generalize V1.heap.size = N at *
    have c1 : W2.cell? ⟨N, 1, none⟩ = some (.int .i64 at') := cell_heap h_N rfl
    have f1 := thaw_heap h_N 1
    go_upto_region 5 with (fail)
    refine wp_world (fun W => Below n0 w W ∧ n0 ≤ W.heap.size ∧ W.heap[g]? = some (.cells (uv ph at' a b) 31 (0, 0)) ∧ W.heap[X]? = some (.cells (rv 0 n D) 47 (0, 0)) ∧ W.heap[O]? = some (.cells (uv 0 0 0 0) 31 (0, 0)) ∧ W.heap[N]? = some (.cells (uv 2 0 a b) 31 (0, 0))) ⟨(set_turnH W2 N 1 _).below hb hs (fun q e => by rw [e]; exact o_N), by rw [heap_size_setCell]; exact hs, (heap_setCell_other W2 ⟨N, 1, none⟩ g _ (by show g ≠ N; omega)).trans h_g, (heap_setCell_other W2 ⟨N, 1, none⟩ X _ (by show X ≠ N; omega)).trans h_X, (heap_setCell_other W2 ⟨N, 1, none⟩ O _ (by show O ≠ N; omega)).trans h_O, heap_setCell_same W2 N 1 _ _ _ h_N⟩ ?_
    clear hb hs h_g h_X h_O h_N c1 f1 
    rintro W3 ⟨hb, hs, h_g, h_X, h_O, h_N⟩
    go_wp2_with (first | (refine wpList_load_row rfl 31 _ rfl N rfl _ _ _ _ h_N Tryd.underlying31 rfl (info_Up _ _ _ _) ?_) | (refine wpList_store_row rfl 31 _ _ rfl O (uv 2 0 a b) rfl rfl _ _ h_O (by kernel_rfl) rfl (uv_one _ _ _ _) ?_))
    refine bodyPost_ret (results_row_tmp rfl _ _ O _ (uv 2 0 a b) _ _ rfl (setRow_heap _ _ _ _ _ _ h_O) _ rfl Tryd.underlying31 rfl (info_Up _ _ _ _)) rfl ?_
    exact ⟨rfl, below_setRow hb o_O _⟩
  · have d0 : (code == 0) = false := by simpa using e0
    go_upto_region 6 with (fail)
    try clear c0
    have g14 : W1.cell? ⟨14, 0, none⟩ = some (errV (E 14)) := (HE.out W1 hb).c 14 (by decide)
    have hcd := code_e E 14 (by decide) W1 (HE.out W1 hb)
    rw [show ((14 : Nat) : Int) + 1 = 15 from rfl] at hcd
    by_cases e15 : code = 15
    · subst e15
      have hr1 : nOpen at' 15 = some (0, at') := by simp [nOpen, e0]
      rw [hr1] at hr
      subst hr
      clear hr1
      go_wp2_with (first | (go_at_call 16; refine hcd.mono ?_; rintro e V2 ⟨rfl, hbV2⟩; clear hcd g14; replace h_g := heap_below h_g hbV2; replace h_X := heap_below h_X hbV2; replace h_O := heap_below h_O hbV2; replace hb := hb.trans (hbV2.mono hs); replace hs := Nat.le_trans hs hbV2.size; clear hbV2) | (go_at_call 74; refine (to_u V2 h_g 0).mono ?_; rintro e V3 ⟨rfl, hbV3⟩; replace h_g := heap_below h_g hbV3; replace h_X := heap_below h_X hbV3; replace h_O := heap_below h_O hbV3; replace hb := hb.trans (hbV3.mono hs); replace hs := Nat.le_trans hs hbV3.size; clear hbV3) | (refine wpList_store_row rfl 31 _ _ rfl O (uv 0 at' a b) rfl rfl _ _ h_O (by kernel_rfl) rfl (uv_one _ _ _ _) ?_))
      refine bodyPost_ret (results_row_tmp rfl _ _ O _ (uv 0 at' a b) _ _ rfl (setRow_heap _ _ _ _ _ _ h_O) _ rfl Tryd.underlying31 rfl (info_Up _ _ _ _)) rfl ?_
      exact ⟨rfl, below_setRow hb o_O _⟩
    · have d15 : (code == 15) = false := by simpa using e15
      have hr1 : nOpen at' code = none := by simp [nOpen, e0, e15]
      rw [hr1] at hr
      subst hr
      clear hr1
      go_wp2_with (first | (go_at_call 16; refine hcd.mono ?_; rintro e V4 ⟨rfl, hbV4⟩; clear hcd g14; replace h_g := heap_below h_g hbV4; replace h_X := heap_below h_X hbV4; replace h_O := heap_below h_O hbV4; replace hb := hb.trans (hbV4.mono hs); replace hs := Nat.le_trans hs hbV4.size; clear hbV4) | (refine wpList_build rfl 31 _ rfl #[] (by kernel_rfl) (.agg (uv 0 0 0 0)) (fun _ => by kernel_rfl) ?_) | (refine wpList_store_row rfl 31 _ _ rfl O (uv 0 0 0 0) rfl rfl _ _ h_O (by kernel_rfl) rfl (uv_one _ _ _ _) ?_))
      refine bodyPost_ret (results_row_tmp rfl _ _ O _ (uv 0 0 0 0) _ _ rfl (setRow_heap _ _ _ _ _ _ h_O) _ rfl Tryd.underlying31 rfl (info_Up _ _ _ _)) rfl ?_
      exact ⟨rfl, below_setRow hb o_O _⟩
set_option maxRecDepth 100000 in
set_option maxHeartbeats 800000 in
theorem afterput_u (E : Nat → Addr) (w : World) (hE : ErrsAt E w) (h : UpH w g ph at' a b) (code n : Int) (D : Value) (t : Int) (hn : 0 ≤ n ∧ n < 4294967296) (r : Value) (hr : r = upR a b (nPut at' t code n)) : Calls Tryd.prog 59 #[.pointer (some ⟨g, 0, none⟩), .int .i64 t, .agg (rv code n D)] w fun e w' => e = .returned r ∧ Below w.heap.size w w' := by
  obtain ⟨n0, hn0⟩ : ∃ n, n = w.heap.size := ⟨_, rfl⟩
  try rw [← hn0]
  have hb : Below n0 w w := by rw [hn0]; exact Below.refl _ _
  have hs : n0 ≤ w.heap.size := by rw [hn0]; exact Nat.le_refl _
  have HE : Hid (∀ W, Below n0 w W → ErrsAt E W) := Lib.hid (fun W hb => hE.below (by rw [hn0] at hb; exact hb))
  clear hn0
  have h_g : w.heap[g]? = some (.cells (uv ph at' a b) 31 (0, 0)) := h
  clear h hE
  go_enter Tryd.func59, Tryd.ntmps59
  go_upto_region 1 with (fail)
  have l_g_X : g < w.heap.size := lt_heap h_g
  have l_g_O : g < w.heap.size + 1 := by omega
  have o_X : n0 ≤ w.heap.size := hs
  have o_O : n0 ≤ w.heap.size + 1 := by omega
  have l_X_O : w.heap.size < w.heap.size + 1 := by omega
  refine wp_world (fun W => Below n0 w W ∧ n0 ≤ W.heap.size ∧ W.heap[g]? = some (.cells (uv ph at' a b) 31 (0, 0)) ∧ W.heap[w.heap.size]? = some (.cells (rv code n D) 47 (0, 0)) ∧ W.heap[w.heap.size + 1]? = some (.cells (uv 0 0 0 0) 31 (0, 0))) ⟨(hb.trans ((below_alc w _).mono hs)).trans ((below_alc _ _).mono (Nat.le_trans hs (below_alc w _).size)), Nat.le_trans (Nat.le_trans hs (below_alc w _).size) (below_alc _ _).size, heap_below (heap_below h_g (below_alc w _)) (below_alc _ _), heap2_0 _ _ _, heap2_1 _ _ _⟩ ?_
  clear hb hs h_g 
  rintro W1 ⟨hb, hs, h_g, h_X, h_O⟩
  generalize w.heap.size = X at *
  generalize X + 1 = O at *
  have c0 : W1.cell? ⟨X, 0, none⟩ = some (.int .i64 code) := cell_heap h_X rfl
  by_cases e0 : code = 0
  · subst e0
    have cn : W1.cell? ⟨X, 1, none⟩ = some (.int .u32 n) := cell_heap h_X rfl
    by_cases ht : t < n
    · have hr1 : nPut at' t 0 n = none := by simp [nPut, fillN, ht]
      rw [hr1] at hr
      subst hr
      clear hr1
      go_wp2_with (first | (go_at_call 75; refine (filled_no W1 h_g n t hn ht).mono ?_; rintro e V5 ⟨rfl, hbV5⟩; replace h_g := heap_below h_g hbV5; replace h_X := heap_below h_X hbV5; replace h_O := heap_below h_O hbV5; replace hb := hb.trans (hbV5.mono hs); replace hs := Nat.le_trans hs hbV5.size; clear hbV5) | (refine wpList_store_row rfl 31 _ _ rfl O (uv 0 0 0 0) rfl rfl _ _ h_O (by kernel_rfl) rfl (uv_one _ _ _ _) ?_))
      refine bodyPost_ret (results_row_tmp rfl _ _ O _ (uv 0 0 0 0) _ _ rfl (setRow_heap _ _ _ _ _ _ h_O) _ rfl Tryd.underlying31 rfl (info_Up _ _ _ _)) rfl ?_
      exact ⟨rfl, below_setRow hb o_O _⟩
    · obtain ⟨p, hp⟩ : ∃ p : Int, p = if n = t then 3 else 2 := ⟨_, rfl⟩
      have hr1 : nPut at' t 0 n = some (p, n) := by simp [nPut, fillN, ht, hp]
      rw [hr1] at hr
      subst hr
      clear hr1
      have HP := Lib.hid hp
      clear hp
      go_wp2_with (first | (go_at_call 75; refine (filled_yes W1 h_g n t hn ht p HP.out).mono ?_; rintro e V6 ⟨rfl, hbV6⟩; replace h_g := heap_below h_g hbV6; replace h_X := heap_below h_X hbV6; replace h_O := heap_below h_O hbV6; replace hb := hb.trans (hbV6.mono hs); replace hs := Nat.le_trans hs hbV6.size; clear hbV6) | (refine wpList_store_row rfl 31 _ _ rfl O (uv p n a b) rfl rfl _ _ h_O (by kernel_rfl) rfl (uv_one _ _ _ _) ?_))
      refine bodyPost_ret (results_row_tmp rfl _ _ O _ (uv p n a b) _ _ rfl (setRow_heap _ _ _ _ _ _ h_O) _ rfl Tryd.underlying31 rfl (info_Up _ _ _ _)) rfl ?_
      exact ⟨rfl, below_setRow hb o_O _⟩
  · have d0 : (code == 0) = false := by simpa using e0
    go_upto_region 4 with (fail)
    try clear c0
    have g13 : W1.cell? ⟨13, 0, none⟩ = some (errV (E 13)) := (HE.out W1 hb).c 13 (by decide)
    have hcd := code_e E 13 (by decide) W1 (HE.out W1 hb)
    rw [show ((13 : Nat) : Int) + 1 = 14 from rfl] at hcd
    by_cases e14 : code = 14
    · subst e14
      have hr1 : nPut at' t 14 n = some (1, at') := by simp [nPut, e0]
      rw [hr1] at hr
      subst hr
      clear hr1
      go_wp2_with (first | (go_at_call 16; refine hcd.mono ?_; rintro e V7 ⟨rfl, hbV7⟩; clear hcd g13; replace h_g := heap_below h_g hbV7; replace h_X := heap_below h_X hbV7; replace h_O := heap_below h_O hbV7; replace hb := hb.trans (hbV7.mono hs); replace hs := Nat.le_trans hs hbV7.size; clear hbV7) | (go_at_call 74; refine (to_u V7 h_g 1).mono ?_; rintro e V8 ⟨rfl, hbV8⟩; replace h_g := heap_below h_g hbV8; replace h_X := heap_below h_X hbV8; replace h_O := heap_below h_O hbV8; replace hb := hb.trans (hbV8.mono hs); replace hs := Nat.le_trans hs hbV8.size; clear hbV8) | (refine wpList_store_row rfl 31 _ _ rfl O (uv 1 at' a b) rfl rfl _ _ h_O (by kernel_rfl) rfl (uv_one _ _ _ _) ?_))
      refine bodyPost_ret (results_row_tmp rfl _ _ O _ (uv 1 at' a b) _ _ rfl (setRow_heap _ _ _ _ _ _ h_O) _ rfl Tryd.underlying31 rfl (info_Up _ _ _ _)) rfl ?_
      exact ⟨rfl, below_setRow hb o_O _⟩
    · have d14 : (code == 14) = false := by simpa using e14
      go_upto_region 6 with (first | (go_at_call 16; refine hcd.mono ?_; rintro e V9 ⟨rfl, hbV9⟩; clear hcd g13; replace h_g := heap_below h_g hbV9; replace h_X := heap_below h_X hbV9; replace h_O := heap_below h_O hbV9; replace hb := hb.trans (hbV9.mono hs); replace hs := Nat.le_trans hs hbV9.size; clear hbV9))
      try clear c0
      have g16 : V9.cell? ⟨16, 0, none⟩ = some (errV (E 16)) := (HE.out V9 hb).c 16 (by decide)
      have hcd := code_e E 16 (by decide) V9 (HE.out V9 hb)
      rw [show ((16 : Nat) : Int) + 1 = 17 from rfl] at hcd
      by_cases e17 : code = 17
      · subst e17
        have hr1 : nPut at' t 17 n = some (0, at') := by simp [nPut, e0, e14]
        rw [hr1] at hr
        subst hr
        clear hr1
        go_wp2_with (first | (go_at_call 16; refine hcd.mono ?_; rintro e V10 ⟨rfl, hbV10⟩; clear hcd g16; replace h_g := heap_below h_g hbV10; replace h_X := heap_below h_X hbV10; replace h_O := heap_below h_O hbV10; replace hb := hb.trans (hbV10.mono hs); replace hs := Nat.le_trans hs hbV10.size; clear hbV10) | (go_at_call 74; refine (to_u V10 h_g 0).mono ?_; rintro e V11 ⟨rfl, hbV11⟩; replace h_g := heap_below h_g hbV11; replace h_X := heap_below h_X hbV11; replace h_O := heap_below h_O hbV11; replace hb := hb.trans (hbV11.mono hs); replace hs := Nat.le_trans hs hbV11.size; clear hbV11) | (refine wpList_store_row rfl 31 _ _ rfl O (uv 0 at' a b) rfl rfl _ _ h_O (by kernel_rfl) rfl (uv_one _ _ _ _) ?_))
        refine bodyPost_ret (results_row_tmp rfl _ _ O _ (uv 0 at' a b) _ _ rfl (setRow_heap _ _ _ _ _ _ h_O) _ rfl Tryd.underlying31 rfl (info_Up _ _ _ _)) rfl ?_
        exact ⟨rfl, below_setRow hb o_O _⟩
      · have d17 : (code == 17) = false := by simpa using e17
        go_upto_region 7 with (first | (go_at_call 16; refine hcd.mono ?_; rintro e V12 ⟨rfl, hbV12⟩; clear hcd g16; replace h_g := heap_below h_g hbV12; replace h_X := heap_below h_X hbV12; replace h_O := heap_below h_O hbV12; replace hb := hb.trans (hbV12.mono hs); replace hs := Nat.le_trans hs hbV12.size; clear hbV12))
        try clear c0
        have g1 : V12.cell? ⟨1, 0, none⟩ = some (errV (E 1)) := (HE.out V12 hb).c 1 (by decide)
        have hcd := code_e E 1 (by decide) V12 (HE.out V12 hb)
        rw [show ((1 : Nat) : Int) + 1 = 2 from rfl] at hcd
        by_cases e2 : code = 2
        · subst e2
          have hr1 : nPut at' t 2 n = some (0, at') := by simp [nPut, e0, e14, e17]
          rw [hr1] at hr
          subst hr
          clear hr1
          go_wp2_with (first | (go_at_call 16; refine hcd.mono ?_; rintro e V13 ⟨rfl, hbV13⟩; clear hcd g1; replace h_g := heap_below h_g hbV13; replace h_X := heap_below h_X hbV13; replace h_O := heap_below h_O hbV13; replace hb := hb.trans (hbV13.mono hs); replace hs := Nat.le_trans hs hbV13.size; clear hbV13) | (go_at_call 74; refine (to_u V13 h_g 0).mono ?_; rintro e V14 ⟨rfl, hbV14⟩; replace h_g := heap_below h_g hbV14; replace h_X := heap_below h_X hbV14; replace h_O := heap_below h_O hbV14; replace hb := hb.trans (hbV14.mono hs); replace hs := Nat.le_trans hs hbV14.size; clear hbV14) | (refine wpList_store_row rfl 31 _ _ rfl O (uv 0 at' a b) rfl rfl _ _ h_O (by kernel_rfl) rfl (uv_one _ _ _ _) ?_))
          refine bodyPost_ret (results_row_tmp rfl _ _ O _ (uv 0 at' a b) _ _ rfl (setRow_heap _ _ _ _ _ _ h_O) _ rfl Tryd.underlying31 rfl (info_Up _ _ _ _)) rfl ?_
          exact ⟨rfl, below_setRow hb o_O _⟩
        · have d2 : (code == 2) = false := by simpa using e2
          have hr1 : nPut at' t code n = none := by simp [nPut, e0, e14, e17, e2]
          rw [hr1] at hr
          subst hr
          clear hr1
          go_wp2_with (first | (go_at_call 16; refine hcd.mono ?_; rintro e V15 ⟨rfl, hbV15⟩; clear hcd g1; replace h_g := heap_below h_g hbV15; replace h_X := heap_below h_X hbV15; replace h_O := heap_below h_O hbV15; replace hb := hb.trans (hbV15.mono hs); replace hs := Nat.le_trans hs hbV15.size; clear hbV15) | (refine wpList_build rfl 31 _ rfl #[] (by kernel_rfl) (.agg (uv 0 0 0 0)) (fun _ => by kernel_rfl) ?_) | (refine wpList_store_row rfl 31 _ _ rfl O (uv 0 0 0 0) rfl rfl _ _ h_O (by kernel_rfl) rfl (uv_one _ _ _ _) ?_))
          refine bodyPost_ret (results_row_tmp rfl _ _ O _ (uv 0 0 0 0) _ _ rfl (setRow_heap _ _ _ _ _ _ h_O) _ rfl Tryd.underlying31 rfl (info_Up _ _ _ _)) rfl ?_
          exact ⟨rfl, below_setRow hb o_O _⟩
set_option maxRecDepth 100000 in
set_option maxHeartbeats 800000 in
theorem aftercommit_u (E : Nat → Addr) (w : World) (hE : ErrsAt E w) (h : UpH w g ph at' a b) (code n : Int) (D : Value) (r : Value) (hr : r = upR a b (nCommit at' code)) : Calls Tryd.prog 60 #[.pointer (some ⟨g, 0, none⟩), .agg (rv code n D)] w fun e w' => e = .returned r ∧ Below w.heap.size w w' := by
  obtain ⟨n0, hn0⟩ : ∃ n, n = w.heap.size := ⟨_, rfl⟩
  try rw [← hn0]
  have hb : Below n0 w w := by rw [hn0]; exact Below.refl _ _
  have hs : n0 ≤ w.heap.size := by rw [hn0]; exact Nat.le_refl _
  have HE : Hid (∀ W, Below n0 w W → ErrsAt E W) := Lib.hid (fun W hb => hE.below (by rw [hn0] at hb; exact hb))
  clear hn0
  have h_g : w.heap[g]? = some (.cells (uv ph at' a b) 31 (0, 0)) := h
  clear h hE
  go_enter Tryd.func60, Tryd.ntmps60
  go_upto_region 1 with (fail)
  have l_g_X : g < w.heap.size := lt_heap h_g
  have l_g_O : g < w.heap.size + 1 := by omega
  have o_X : n0 ≤ w.heap.size := hs
  have o_O : n0 ≤ w.heap.size + 1 := by omega
  have l_X_O : w.heap.size < w.heap.size + 1 := by omega
  refine wp_world (fun W => Below n0 w W ∧ n0 ≤ W.heap.size ∧ W.heap[g]? = some (.cells (uv ph at' a b) 31 (0, 0)) ∧ W.heap[w.heap.size]? = some (.cells (rv code n D) 47 (0, 0)) ∧ W.heap[w.heap.size + 1]? = some (.cells (uv 0 0 0 0) 31 (0, 0))) ⟨(hb.trans ((below_alc w _).mono hs)).trans ((below_alc _ _).mono (Nat.le_trans hs (below_alc w _).size)), Nat.le_trans (Nat.le_trans hs (below_alc w _).size) (below_alc _ _).size, heap_below (heap_below h_g (below_alc w _)) (below_alc _ _), heap2_0 _ _ _, heap2_1 _ _ _⟩ ?_
  clear hb hs h_g 
  rintro W1 ⟨hb, hs, h_g, h_X, h_O⟩
  generalize w.heap.size = X at *
  generalize X + 1 = O at *
  have c0 : W1.cell? ⟨X, 0, none⟩ = some (.int .i64 code) := cell_heap h_X rfl
  by_cases e0 : code = 0
  · subst e0
    have hr1 : nCommit at' 0 = some (5, at') := by simp [nCommit]
    rw [hr1] at hr
    subst hr
    clear hr1
    go_wp2_with (first | (go_at_call 74; refine (to_u W1 h_g 5).mono ?_; rintro e V16 ⟨rfl, hbV16⟩; replace h_g := heap_below h_g hbV16; replace h_X := heap_below h_X hbV16; replace h_O := heap_below h_O hbV16; replace hb := hb.trans (hbV16.mono hs); replace hs := Nat.le_trans hs hbV16.size; clear hbV16) | (refine wpList_store_row rfl 31 _ _ rfl O (uv 5 at' a b) rfl rfl _ _ h_O (by kernel_rfl) rfl (uv_one _ _ _ _) ?_))
    refine bodyPost_ret (results_row_tmp rfl _ _ O _ (uv 5 at' a b) _ _ rfl (setRow_heap _ _ _ _ _ _ h_O) _ rfl Tryd.underlying31 rfl (info_Up _ _ _ _)) rfl ?_
    exact ⟨rfl, below_setRow hb o_O _⟩
  · have d0 : (code == 0) = false := by simpa using e0
    go_upto_region 4 with (fail)
    try clear c0
    have g15 : W1.cell? ⟨15, 0, none⟩ = some (errV (E 15)) := (HE.out W1 hb).c 15 (by decide)
    have hcd := code_e E 15 (by decide) W1 (HE.out W1 hb)
    rw [show ((15 : Nat) : Int) + 1 = 16 from rfl] at hcd
    by_cases e16 : code = 16
    · subst e16
      have hr1 : nCommit at' 16 = some (4, at') := by simp [nCommit, e0]
      rw [hr1] at hr
      subst hr
      clear hr1
      go_wp2_with (first | (go_at_call 16; refine hcd.mono ?_; rintro e V17 ⟨rfl, hbV17⟩; clear hcd g15; replace h_g := heap_below h_g hbV17; replace h_X := heap_below h_X hbV17; replace h_O := heap_below h_O hbV17; replace hb := hb.trans (hbV17.mono hs); replace hs := Nat.le_trans hs hbV17.size; clear hbV17) | (go_at_call 74; refine (to_u V17 h_g 4).mono ?_; rintro e V18 ⟨rfl, hbV18⟩; replace h_g := heap_below h_g hbV18; replace h_X := heap_below h_X hbV18; replace h_O := heap_below h_O hbV18; replace hb := hb.trans (hbV18.mono hs); replace hs := Nat.le_trans hs hbV18.size; clear hbV18) | (refine wpList_store_row rfl 31 _ _ rfl O (uv 4 at' a b) rfl rfl _ _ h_O (by kernel_rfl) rfl (uv_one _ _ _ _) ?_))
      refine bodyPost_ret (results_row_tmp rfl _ _ O _ (uv 4 at' a b) _ _ rfl (setRow_heap _ _ _ _ _ _ h_O) _ rfl Tryd.underlying31 rfl (info_Up _ _ _ _)) rfl ?_
      exact ⟨rfl, below_setRow hb o_O _⟩
    · have d16 : (code == 16) = false := by simpa using e16
      go_upto_region 6 with (first | (go_at_call 16; refine hcd.mono ?_; rintro e V19 ⟨rfl, hbV19⟩; clear hcd g15; replace h_g := heap_below h_g hbV19; replace h_X := heap_below h_X hbV19; replace h_O := heap_below h_O hbV19; replace hb := hb.trans (hbV19.mono hs); replace hs := Nat.le_trans hs hbV19.size; clear hbV19))
      try clear c0
      have g13 : V19.cell? ⟨13, 0, none⟩ = some (errV (E 13)) := (HE.out V19 hb).c 13 (by decide)
      have hcd := code_e E 13 (by decide) V19 (HE.out V19 hb)
      rw [show ((13 : Nat) : Int) + 1 = 14 from rfl] at hcd
      by_cases e14 : code = 14
      · subst e14
        have hr1 : nCommit at' 14 = some (1, at') := by simp [nCommit, e0, e16]
        rw [hr1] at hr
        subst hr
        clear hr1
        go_wp2_with (first | (go_at_call 16; refine hcd.mono ?_; rintro e V20 ⟨rfl, hbV20⟩; clear hcd g13; replace h_g := heap_below h_g hbV20; replace h_X := heap_below h_X hbV20; replace h_O := heap_below h_O hbV20; replace hb := hb.trans (hbV20.mono hs); replace hs := Nat.le_trans hs hbV20.size; clear hbV20) | (go_at_call 74; refine (to_u V20 h_g 1).mono ?_; rintro e V21 ⟨rfl, hbV21⟩; replace h_g := heap_below h_g hbV21; replace h_X := heap_below h_X hbV21; replace h_O := heap_below h_O hbV21; replace hb := hb.trans (hbV21.mono hs); replace hs := Nat.le_trans hs hbV21.size; clear hbV21) | (refine wpList_store_row rfl 31 _ _ rfl O (uv 1 at' a b) rfl rfl _ _ h_O (by kernel_rfl) rfl (uv_one _ _ _ _) ?_))
        refine bodyPost_ret (results_row_tmp rfl _ _ O _ (uv 1 at' a b) _ _ rfl (setRow_heap _ _ _ _ _ _ h_O) _ rfl Tryd.underlying31 rfl (info_Up _ _ _ _)) rfl ?_
        exact ⟨rfl, below_setRow hb o_O _⟩
      · have d14 : (code == 14) = false := by simpa using e14
        go_upto_region 8 with (first | (go_at_call 16; refine hcd.mono ?_; rintro e V22 ⟨rfl, hbV22⟩; clear hcd g13; replace h_g := heap_below h_g hbV22; replace h_X := heap_below h_X hbV22; replace h_O := heap_below h_O hbV22; replace hb := hb.trans (hbV22.mono hs); replace hs := Nat.le_trans hs hbV22.size; clear hbV22))
        try clear c0
        have g16 : V22.cell? ⟨16, 0, none⟩ = some (errV (E 16)) := (HE.out V22 hb).c 16 (by decide)
        have hcd := code_e E 16 (by decide) V22 (HE.out V22 hb)
        rw [show ((16 : Nat) : Int) + 1 = 17 from rfl] at hcd
        by_cases e17 : code = 17
        · subst e17
          have hr1 : nCommit at' 17 = some (0, at') := by simp [nCommit, e0, e16, e14]
          rw [hr1] at hr
          subst hr
          clear hr1
          go_wp2_with (first | (go_at_call 16; refine hcd.mono ?_; rintro e V23 ⟨rfl, hbV23⟩; clear hcd g16; replace h_g := heap_below h_g hbV23; replace h_X := heap_below h_X hbV23; replace h_O := heap_below h_O hbV23; replace hb := hb.trans (hbV23.mono hs); replace hs := Nat.le_trans hs hbV23.size; clear hbV23) | (go_at_call 74; refine (to_u V23 h_g 0).mono ?_; rintro e V24 ⟨rfl, hbV24⟩; replace h_g := heap_below h_g hbV24; replace h_X := heap_below h_X hbV24; replace h_O := heap_below h_O hbV24; replace hb := hb.trans (hbV24.mono hs); replace hs := Nat.le_trans hs hbV24.size; clear hbV24) | (refine wpList_store_row rfl 31 _ _ rfl O (uv 0 at' a b) rfl rfl _ _ h_O (by kernel_rfl) rfl (uv_one _ _ _ _) ?_))
          refine bodyPost_ret (results_row_tmp rfl _ _ O _ (uv 0 at' a b) _ _ rfl (setRow_heap _ _ _ _ _ _ h_O) _ rfl Tryd.underlying31 rfl (info_Up _ _ _ _)) rfl ?_
          exact ⟨rfl, below_setRow hb o_O _⟩
        · have d17 : (code == 17) = false := by simpa using e17
          have hr1 : nCommit at' code = none := by simp [nCommit, e0, e16, e14, e17]
          rw [hr1] at hr
          subst hr
          clear hr1
          go_wp2_with (first | (go_at_call 16; refine hcd.mono ?_; rintro e V25 ⟨rfl, hbV25⟩; clear hcd g16; replace h_g := heap_below h_g hbV25; replace h_X := heap_below h_X hbV25; replace h_O := heap_below h_O hbV25; replace hb := hb.trans (hbV25.mono hs); replace hs := Nat.le_trans hs hbV25.size; clear hbV25) | (refine wpList_build rfl 31 _ rfl #[] (by kernel_rfl) (.agg (uv 0 0 0 0)) (fun _ => by kernel_rfl) ?_) | (refine wpList_store_row rfl 31 _ _ rfl O (uv 0 0 0 0) rfl rfl _ _ h_O (by kernel_rfl) rfl (uv_one _ _ _ _) ?_))
          refine bodyPost_ret (results_row_tmp rfl _ _ O _ (uv 0 0 0 0) _ _ rfl (setRow_heap _ _ _ _ _ _ h_O) _ rfl Tryd.underlying31 rfl (info_Up _ _ _ _)) rfl ?_
          exact ⟨rfl, below_setRow hb o_O _⟩
set_option maxRecDepth 100000 in
set_option maxHeartbeats 800000 in
theorem afterdelete_u (E : Nat → Addr) (w : World) (hE : ErrsAt E w) (h : UpH w g ph at' a b) (code n : Int) (D : Value) (r : Value) (hr : r = upR a b (nDelete at' code)) : Calls Tryd.prog 61 #[.pointer (some ⟨g, 0, none⟩), .agg (rv code n D)] w fun e w' => e = .returned r ∧ Below w.heap.size w w' := by
  obtain ⟨n0, hn0⟩ : ∃ n, n = w.heap.size := ⟨_, rfl⟩
  try rw [← hn0]
  have hb : Below n0 w w := by rw [hn0]; exact Below.refl _ _
  have hs : n0 ≤ w.heap.size := by rw [hn0]; exact Nat.le_refl _
  have HE : Hid (∀ W, Below n0 w W → ErrsAt E W) := Lib.hid (fun W hb => hE.below (by rw [hn0] at hb; exact hb))
  clear hn0
  have h_g : w.heap[g]? = some (.cells (uv ph at' a b) 31 (0, 0)) := h
  clear h hE
  go_enter Tryd.func61, Tryd.ntmps61
  go_upto_region 1 with (fail)
  have l_g_X : g < w.heap.size := lt_heap h_g
  have l_g_O : g < w.heap.size + 1 := by omega
  have o_X : n0 ≤ w.heap.size := hs
  have o_O : n0 ≤ w.heap.size + 1 := by omega
  have l_X_O : w.heap.size < w.heap.size + 1 := by omega
  refine wp_world (fun W => Below n0 w W ∧ n0 ≤ W.heap.size ∧ W.heap[g]? = some (.cells (uv ph at' a b) 31 (0, 0)) ∧ W.heap[w.heap.size]? = some (.cells (rv code n D) 47 (0, 0)) ∧ W.heap[w.heap.size + 1]? = some (.cells (uv 0 0 0 0) 31 (0, 0))) ⟨(hb.trans ((below_alc w _).mono hs)).trans ((below_alc _ _).mono (Nat.le_trans hs (below_alc w _).size)), Nat.le_trans (Nat.le_trans hs (below_alc w _).size) (below_alc _ _).size, heap_below (heap_below h_g (below_alc w _)) (below_alc _ _), heap2_0 _ _ _, heap2_1 _ _ _⟩ ?_
  clear hb hs h_g 
  rintro W1 ⟨hb, hs, h_g, h_X, h_O⟩
  generalize w.heap.size = X at *
  generalize X + 1 = O at *
  have c0 : W1.cell? ⟨X, 0, none⟩ = some (.int .i64 code) := cell_heap h_X rfl
  by_cases e0 : code = 0
  · subst e0
    have hr1 : nDelete at' 0 = some (1, at') := by simp [nDelete]
    rw [hr1] at hr
    subst hr
    clear hr1
    go_wp2_with (first | (go_at_call 74; refine (to_u W1 h_g 1).mono ?_; rintro e V26 ⟨rfl, hbV26⟩; replace h_g := heap_below h_g hbV26; replace h_X := heap_below h_X hbV26; replace h_O := heap_below h_O hbV26; replace hb := hb.trans (hbV26.mono hs); replace hs := Nat.le_trans hs hbV26.size; clear hbV26) | (refine wpList_store_row rfl 31 _ _ rfl O (uv 1 at' a b) rfl rfl _ _ h_O (by kernel_rfl) rfl (uv_one _ _ _ _) ?_))
    refine bodyPost_ret (results_row_tmp rfl _ _ O _ (uv 1 at' a b) _ _ rfl (setRow_heap _ _ _ _ _ _ h_O) _ rfl Tryd.underlying31 rfl (info_Up _ _ _ _)) rfl ?_
    exact ⟨rfl, below_setRow hb o_O _⟩
  · have d0 : (code == 0) = false := by simpa using e0
    go_upto_region 3 with (fail)
    try clear c0
    have g13 : W1.cell? ⟨13, 0, none⟩ = some (errV (E 13)) := (HE.out W1 hb).c 13 (by decide)
    have hcd := code_e E 13 (by decide) W1 (HE.out W1 hb)
    rw [show ((13 : Nat) : Int) + 1 = 14 from rfl] at hcd
    by_cases e14 : code = 14
    · subst e14
      have hr1 : nDelete at' 14 = some (1, at') := by simp [nDelete, e0]
      rw [hr1] at hr
      subst hr
      clear hr1
      go_wp2_with (first | (go_at_call 16; refine hcd.mono ?_; rintro e V27 ⟨rfl, hbV27⟩; clear hcd g13; replace h_g := heap_below h_g hbV27; replace h_X := heap_below h_X hbV27; replace h_O := heap_below h_O hbV27; replace hb := hb.trans (hbV27.mono hs); replace hs := Nat.le_trans hs hbV27.size; clear hbV27) | (go_at_call 74; refine (to_u V27 h_g 1).mono ?_; rintro e V28 ⟨rfl, hbV28⟩; replace h_g := heap_below h_g hbV28; replace h_X := heap_below h_X hbV28; replace h_O := heap_below h_O hbV28; replace hb := hb.trans (hbV28.mono hs); replace hs := Nat.le_trans hs hbV28.size; clear hbV28) | (refine wpList_store_row rfl 31 _ _ rfl O (uv 1 at' a b) rfl rfl _ _ h_O (by kernel_rfl) rfl (uv_one _ _ _ _) ?_))
      refine bodyPost_ret (results_row_tmp rfl _ _ O _ (uv 1 at' a b) _ _ rfl (setRow_heap _ _ _ _ _ _ h_O) _ rfl Tryd.underlying31 rfl (info_Up _ _ _ _)) rfl ?_
      exact ⟨rfl, below_setRow hb o_O _⟩
    · have d14 : (code == 14) = false := by simpa using e14
      have hr1 : nDelete at' code = none := by simp [nDelete, e0, e14]
      rw [hr1] at hr
      subst hr
      clear hr1
      go_wp2_with (first | (go_at_call 16; refine hcd.mono ?_; rintro e V29 ⟨rfl, hbV29⟩; clear hcd g13; replace h_g := heap_below h_g hbV29; replace h_X := heap_below h_X hbV29; replace h_O := heap_below h_O hbV29; replace hb := hb.trans (hbV29.mono hs); replace hs := Nat.le_trans hs hbV29.size; clear hbV29) | (refine wpList_build rfl 31 _ rfl #[] (by kernel_rfl) (.agg (uv 0 0 0 0)) (fun _ => by kernel_rfl) ?_) | (refine wpList_store_row rfl 31 _ _ rfl O (uv 0 0 0 0) rfl rfl _ _ h_O (by kernel_rfl) rfl (uv_one _ _ _ _) ?_))
      refine bodyPost_ret (results_row_tmp rfl _ _ O _ (uv 0 0 0 0) _ _ rfl (setRow_heap _ _ _ _ _ _ h_O) _ rfl Tryd.underlying31 rfl (info_Up _ _ _ _)) rfl ?_
      exact ⟨rfl, below_setRow hb o_O _⟩
end
def upA (a b : Int) : Option (Int × Int) → Array Value
  | none => uv 0 0 0 0
  | some (p, q) => uv p q a b
theorem upR_eq (a b : Int) (X : Option (Int × Int)) : upR a b X = .tuple #[.agg (upA a b X), .bool X.isSome] := by rcases X with _ | ⟨p, q⟩ <;> rfl
theorem upA_one (a b : Int) (X : Option (Int × Int)) : (upA a b X).all (·.oneCell') = true := by rcases X with _ | ⟨p, q⟩ <;> kernel_rfl
theorem upA_size (a b : Int) (X : Option (Int × Int)) : (uv 0 0 0 0).size = (upA a b X).size := by rcases X with _ | ⟨p, q⟩ <;> rfl
theorem info_UpA (a b : Int) (X : Option (Int × Int)) : (Tryd.prog.info? 31).map (·.size) = some (upA a b X).size := by rcases X with _ | ⟨p, q⟩ <;> kernel_rfl
theorem info_Rv (code n : Int) (D : Value) : (Tryd.prog.info? 47).map (·.size) = some (rv code n D).size := by kernel_rfl
def nAfter (ph at' t code n : Int) : Option (Int × Int) := if ph = 1 then nOpen at' code else if ph = 2 then nPut at' t code n else if ph = 3 then nCommit at' code else nDelete at' code
theorem set_turnRow (w : World) (g : Nat) (cs : Array Value) : Turn (· = g) w (w.setRow g cs) := ⟨rfl, rfl, rfl, by simp [World.setRow], fun k _ hne => setRow_other w g k cs hne⟩
section
variable {W W' : World} {g : Nat} {ph at' a b : Int}
set_option maxRecDepth 100000 in
set_option maxHeartbeats 800000 in
theorem after_u (E : Nat → Addr) (w : World) (hE : ErrsAt E w) (h : UpH w g ph at' a b) (hph : 1 ≤ ph ∧ ph < 5) (code n : Int) (D : Value) (t : Int) (hn : 0 ≤ n ∧ n < 4294967296) (X0 : Option (Int × Int)) (hr : X0 = nAfter ph at' t code n) : Calls Tryd.prog 33 #[.pointer (some ⟨g, 0, none⟩), .int .i64 t, .agg (rv code n D)] w fun e w' => e = .returned (upR a b X0) ∧ Below w.heap.size w w' := by
  rw [upR_eq]
  obtain ⟨n0, hn0⟩ : ∃ n, n = w.heap.size := ⟨_, rfl⟩
  try rw [← hn0]
  have hb : Below n0 w w := by rw [hn0]; exact Below.refl _ _
  have hs : n0 ≤ w.heap.size := by rw [hn0]; exact Nat.le_refl _
  have HE : Hid (∀ W, Below n0 w W → ErrsAt E W) := Lib.hid (fun W hb => hE.below (by rw [hn0] at hb; exact hb))
  clear hn0
  have h_g : w.heap[g]? = some (.cells (uv ph at' a b) 31 (0, 0)) := h
  clear h hE
  go_enter Tryd.func33, Tryd.ntmps33
  go_upto_region 1 with (fail)
  have l_g_X : g < w.heap.size := lt_heap h_g
  have l_g_O : g < w.heap.size + 1 := by omega
  have o_X : n0 ≤ w.heap.size := hs
  have o_O : n0 ≤ w.heap.size + 1 := by omega
  have l_X_O : w.heap.size < w.heap.size + 1 := by omega
  refine wp_world (fun W => Below n0 w W ∧ n0 ≤ W.heap.size ∧ W.heap[g]? = some (.cells (uv ph at' a b) 31 (0, 0)) ∧ W.heap[w.heap.size]? = some (.cells (rv code n D) 47 (0, 0)) ∧ W.heap[w.heap.size + 1]? = some (.cells (uv 0 0 0 0) 31 (0, 0))) ⟨(hb.trans ((below_alc w _).mono hs)).trans ((below_alc _ _).mono (Nat.le_trans hs (below_alc w _).size)), Nat.le_trans (Nat.le_trans hs (below_alc w _).size) (below_alc _ _).size, heap_below (heap_below h_g (below_alc w _)) (below_alc _ _), heap2_0 _ _ _, heap2_1 _ _ _⟩ ?_
  clear hb hs h_g 
  rintro W1 ⟨hb, hs, h_g, h_X, h_O⟩
  generalize w.heap.size = X at *
  generalize X + 1 = O at *
  by_cases e1 : ph = 1
  · subst e1
    have hr1 : nAfter 1 at' t code n = nOpen at' code := by unfold nAfter; rfl
    rw [hr1, ] at hr
    clear hr1
    have hcl := afteropen_u E W1 (HE.out W1 hb) h_g code n D _ rfl
    rw [← hr, upR_eq] at hcl
    have HR := Lib.hid hr
    clear hr
    have c0 : W1.cell? ⟨g, 0, none⟩ = some (.int .i64 1) := cell_heap h_g rfl
    go_wp2_with (first | (refine wpList_load_row rfl 47 _ rfl X rfl _ _ _ _ h_X Tryd.underlying47 rfl (info_Rv _ _ _) ?_) | (go_at_call 58; refine hcl.mono ?_; rintro e V1 ⟨rfl, hbV1⟩; clear hcl c0; replace h_g := heap_below h_g hbV1; replace h_X := heap_below h_X hbV1; replace h_O := heap_below h_O hbV1; replace hb := hb.trans (hbV1.mono hs); replace hs := Nat.le_trans hs hbV1.size; clear hbV1) | (refine wpList_store_row rfl 31 _ _ rfl O (upA a b X0) rfl rfl _ _ h_O (info_UpA _ _ _) (upA_size _ _ _) (upA_one _ _ _) ?_))
    refine bodyPost_ret (results_row_tmp rfl _ _ O _ (upA a b X0) _ _ rfl (setRow_heap _ _ _ _ _ _ h_O) _ rfl Tryd.underlying31 rfl (info_UpA _ _ _)) rfl ?_
    exact ⟨rfl, below_setRow hb o_O _⟩
  · by_cases e2 : ph = 2
    · subst e2
      have hr1 : nAfter 2 at' t code n = nPut at' t code n := by unfold nAfter; rfl
      rw [hr1, ] at hr
      clear hr1
      have hcl := afterput_u E W1 (HE.out W1 hb) h_g code n D t hn _ rfl
      rw [← hr, upR_eq] at hcl
      have HR := Lib.hid hr
      clear hr
      have c0 : W1.cell? ⟨g, 0, none⟩ = some (.int .i64 2) := cell_heap h_g rfl
      go_wp2_with (first | (refine wpList_load_row rfl 47 _ rfl X rfl _ _ _ _ h_X Tryd.underlying47 rfl (info_Rv _ _ _) ?_) | (go_at_call 59; refine hcl.mono ?_; rintro e V2 ⟨rfl, hbV2⟩; clear hcl c0; replace h_g := heap_below h_g hbV2; replace h_X := heap_below h_X hbV2; replace h_O := heap_below h_O hbV2; replace hb := hb.trans (hbV2.mono hs); replace hs := Nat.le_trans hs hbV2.size; clear hbV2) | (refine wpList_store_row rfl 31 _ _ rfl O (upA a b X0) rfl rfl _ _ h_O (info_UpA _ _ _) (upA_size _ _ _) (upA_one _ _ _) ?_))
      refine bodyPost_ret (results_row_tmp rfl _ _ O _ (upA a b X0) _ _ rfl (setRow_heap _ _ _ _ _ _ h_O) _ rfl Tryd.underlying31 rfl (info_UpA _ _ _)) rfl ?_
      exact ⟨rfl, below_setRow hb o_O _⟩
    · by_cases e3 : ph = 3
      · subst e3
        have hr1 : nAfter 3 at' t code n = nCommit at' code := by unfold nAfter; rfl
        rw [hr1, ] at hr
        clear hr1
        have hcl := aftercommit_u E W1 (HE.out W1 hb) h_g code n D _ rfl
        rw [← hr, upR_eq] at hcl
        have HR := Lib.hid hr
        clear hr
        have c0 : W1.cell? ⟨g, 0, none⟩ = some (.int .i64 3) := cell_heap h_g rfl
        go_wp2_with (first | (refine wpList_load_row rfl 47 _ rfl X rfl _ _ _ _ h_X Tryd.underlying47 rfl (info_Rv _ _ _) ?_) | (go_at_call 60; refine hcl.mono ?_; rintro e V3 ⟨rfl, hbV3⟩; clear hcl c0; replace h_g := heap_below h_g hbV3; replace h_X := heap_below h_X hbV3; replace h_O := heap_below h_O hbV3; replace hb := hb.trans (hbV3.mono hs); replace hs := Nat.le_trans hs hbV3.size; clear hbV3) | (refine wpList_store_row rfl 31 _ _ rfl O (upA a b X0) rfl rfl _ _ h_O (info_UpA _ _ _) (upA_size _ _ _) (upA_one _ _ _) ?_))
        refine bodyPost_ret (results_row_tmp rfl _ _ O _ (upA a b X0) _ _ rfl (setRow_heap _ _ _ _ _ _ h_O) _ rfl Tryd.underlying31 rfl (info_UpA _ _ _)) rfl ?_
        exact ⟨rfl, below_setRow hb o_O _⟩
      · obtain rfl : ph = 4 := by omega
        have hr1 : nAfter 4 at' t code n = nDelete at' code := by unfold nAfter; rfl
        rw [hr1, ] at hr
        clear hr1
        have hcl := afterdelete_u E W1 (HE.out W1 hb) h_g code n D _ rfl
        rw [← hr, upR_eq] at hcl
        have HR := Lib.hid hr
        clear hr
        have c0 : W1.cell? ⟨g, 0, none⟩ = some (.int .i64 4) := cell_heap h_g rfl
        go_wp2_with (first | (refine wpList_load_row rfl 47 _ rfl X rfl _ _ _ _ h_X Tryd.underlying47 rfl (info_Rv _ _ _) ?_) | (go_at_call 61; refine hcl.mono ?_; rintro e V4 ⟨rfl, hbV4⟩; clear hcl c0; replace h_g := heap_below h_g hbV4; replace h_X := heap_below h_X hbV4; replace h_O := heap_below h_O hbV4; replace hb := hb.trans (hbV4.mono hs); replace hs := Nat.le_trans hs hbV4.size; clear hbV4) | (refine wpList_store_row rfl 31 _ _ rfl O (upA a b X0) rfl rfl _ _ h_O (info_UpA _ _ _) (upA_size _ _ _) (upA_one _ _ _) ?_))
        refine bodyPost_ret (results_row_tmp rfl _ _ O _ (upA a b X0) _ _ rfl (setRow_heap _ _ _ _ _ _ h_O) _ rfl Tryd.underlying31 rfl (info_UpA _ _ _)) rfl ?_
        exact ⟨rfl, below_setRow hb o_O _⟩
set_option maxRecDepth 100000 in
set_option maxHeartbeats 800000 in
theorem answer_no (E : Nat → Addr) (w : World) (hE : ErrsAt E w) (h : UpH w g ph at' a b) (hph : 0 ≤ ph ∧ ph < 5) (code n : Int) (D : Value) (t : Int) (ha : -1000000 ≤ a ∧ a ≤ 1000000) (haf : ∀ W, Below w.heap.size w W → UpH W g ph at' a b → Calls Tryd.prog 33 #[.pointer (some ⟨g, 0, none⟩), .int .i64 t, .agg (rv code n D)] W fun e w' => e = .returned (upR a b (none)) ∧ Below W.heap.size W w') : Calls Tryd.prog 14 #[.pointer (some ⟨g, 0, none⟩), .int .i64 t, .agg (rv code n D)] w fun e w' => e = .returned (.bool (decide (10 < a + 1))) ∧ UpH w' g ph at' (a + 1) (delayN (a + 1)) ∧ Turn (· = g) w w' := by
  obtain ⟨n0, hn0⟩ : ∃ n, n = w.heap.size := ⟨_, rfl⟩
  try rw [← hn0]
  have hb : Below n0 w w := by rw [hn0]; exact Below.refl _ _
  have hs : n0 ≤ w.heap.size := by rw [hn0]; exact Nat.le_refl _
  have HE : Hid (∀ W, Below n0 w W → ErrsAt E W ∧ Turn (· = g) w W) := Lib.hid (fun W hb => ⟨hE.below (by rw [hn0] at hb; exact hb), Turn.of_below (by rw [hn0] at hb; exact hb)⟩)
  have HA := Lib.hid haf
  rw [← hn0] at HA
  clear haf
  clear hn0
  have h_g : w.heap[g]? = some (.cells (uv ph at' a b) 31 (0, 0)) := h
  clear h hE
  have d0 : ¬ ph < 0 := by omega
  have d5 : ¬ 5 ≤ ph := by omega
  have d6 : ph < 5 := by omega
  clear hph
  go_enter Tryd.func14, Tryd.ntmps14
  go_upto_region 1 with (fail)
  have l_g_X : g < w.heap.size := lt_heap h_g
  have o_X : n0 ≤ w.heap.size := hs
  refine wp_world (fun W => Below n0 w W ∧ n0 ≤ W.heap.size ∧ W.heap[g]? = some (.cells (uv ph at' a b) 31 (0, 0)) ∧ W.heap[w.heap.size]? = some (.cells (rv code n D) 47 (0, 0))) ⟨hb.trans ((below_alc w _).mono hs), Nat.le_trans hs (below_alc w _).size, heap_below h_g (below_alc w _), heap1_0 _ _⟩ ?_
  clear hb hs h_g 
  rintro W1 ⟨hb, hs, h_g, h_X⟩
  generalize w.heap.size = X at *
  have c0 : W1.cell? ⟨g, 0, none⟩ = some (.int .i64 ph) := cell_heap h_g rfl
  have hcl := HA.out W1 hb h_g
  go_upto_region 4 with (first | (refine wpList_load_row rfl 47 _ rfl X rfl _ _ _ _ h_X Tryd.underlying47 rfl (info_Rv _ _ _) ?_) | (go_at_call 33; refine hcl.mono ?_; rintro e V5 ⟨rfl, hbV5⟩; clear hcl c0; replace h_g := heap_below h_g hbV5; replace h_X := heap_below h_X hbV5; replace hb := hb.trans (hbV5.mono hs); replace hs := Nat.le_trans hs hbV5.size; clear hbV5; simp only [upR]) | (refine wpList_store_row rfl 31 _ _ rfl V5.heap.size (uv 0 0 0 0) rfl rfl _ _ (heap1_0 _ _) (by kernel_rfl) rfl (uv_one _ _ _ _) ?_; rw [alloc_setRow]))
  have l_g_N : g < V5.heap.size := lt_heap h_g
  have l_X_N : X < V5.heap.size := lt_heap h_X
  have o_N : n0 ≤ V5.heap.size := hs
  refine wp_world (fun W => Below n0 w W ∧ n0 ≤ W.heap.size ∧ W.heap[g]? = some (.cells (uv ph at' a b) 31 (0, 0)) ∧ W.heap[X]? = some (.cells (rv code n D) 47 (0, 0)) ∧ W.heap[V5.heap.size]? = some (.cells (uv 0 0 0 0) 31 (0, 0))) ⟨hb.trans ((below_alc V5 _).mono hs), Nat.le_trans hs (below_alc V5 _).size, heap_below h_g (below_alc V5 _), heap_below h_X (below_alc V5 _), heap1_0 _ _⟩ ?_
  clear hb hs h_g h_X 
  rintro W2 ⟨hb, hs, h_g, h_X, h_N⟩
  generalize V5.heap.size = N at *
  have hfa := fail_u W2 h_g ha
  have HB := Lib.hid (HE.out W2 hb).2
  go_wp2_with (go_at_call 34; refine hfa.mono ?_; rintro e Wz ⟨rfl, hz1, hz2⟩; have HZ := Lib.hid (And.intro hz1 (HB.out.trans hz2 (fun q hq => .inl hq))); clear hz1 hz2 hfa)
  go_ret
  exact ⟨rfl, HZ.out⟩
set_option maxRecDepth 100000 in
set_option maxHeartbeats 800000 in
theorem answer_yes (E : Nat → Addr) (w : World) (hE : ErrsAt E w) (h : UpH w g ph at' a b) (hph : 0 ≤ ph ∧ ph < 5) (code n : Int) (D : Value) (t : Int) (p q : Int) (haf : ∀ W, Below w.heap.size w W → UpH W g ph at' a b → Calls Tryd.prog 33 #[.pointer (some ⟨g, 0, none⟩), .int .i64 t, .agg (rv code n D)] W fun e w' => e = .returned (upR a b (some (p, q))) ∧ Below W.heap.size W w') : Calls Tryd.prog 14 #[.pointer (some ⟨g, 0, none⟩), .int .i64 t, .agg (rv code n D)] w fun e w' => e = .returned (.bool false) ∧ UpH w' g p q 0 0 ∧ Turn (· = g) w w' := by
  obtain ⟨n0, hn0⟩ : ∃ n, n = w.heap.size := ⟨_, rfl⟩
  try rw [← hn0]
  have hb : Below n0 w w := by rw [hn0]; exact Below.refl _ _
  have hs : n0 ≤ w.heap.size := by rw [hn0]; exact Nat.le_refl _
  have HE : Hid (∀ W, Below n0 w W → ErrsAt E W ∧ Turn (· = g) w W) := Lib.hid (fun W hb => ⟨hE.below (by rw [hn0] at hb; exact hb), Turn.of_below (by rw [hn0] at hb; exact hb)⟩)
  have HA := Lib.hid haf
  rw [← hn0] at HA
  clear haf
  clear hn0
  have h_g : w.heap[g]? = some (.cells (uv ph at' a b) 31 (0, 0)) := h
  clear h hE
  have d0 : ¬ ph < 0 := by omega
  have d5 : ¬ 5 ≤ ph := by omega
  have d6 : ph < 5 := by omega
  clear hph
  go_enter Tryd.func14, Tryd.ntmps14
  go_upto_region 1 with (fail)
  have l_g_X : g < w.heap.size := lt_heap h_g
  have o_X : n0 ≤ w.heap.size := hs
  refine wp_world (fun W => Below n0 w W ∧ n0 ≤ W.heap.size ∧ W.heap[g]? = some (.cells (uv ph at' a b) 31 (0, 0)) ∧ W.heap[w.heap.size]? = some (.cells (rv code n D) 47 (0, 0))) ⟨hb.trans ((below_alc w _).mono hs), Nat.le_trans hs (below_alc w _).size, heap_below h_g (below_alc w _), heap1_0 _ _⟩ ?_
  clear hb hs h_g 
  rintro W1 ⟨hb, hs, h_g, h_X⟩
  generalize w.heap.size = X at *
  have c0 : W1.cell? ⟨g, 0, none⟩ = some (.int .i64 ph) := cell_heap h_g rfl
  have hcl := HA.out W1 hb h_g
  go_upto_region 4 with (first | (refine wpList_load_row rfl 47 _ rfl X rfl _ _ _ _ h_X Tryd.underlying47 rfl (info_Rv _ _ _) ?_) | (go_at_call 33; refine hcl.mono ?_; rintro e V6 ⟨rfl, hbV6⟩; clear hcl c0; replace h_g := heap_below h_g hbV6; replace h_X := heap_below h_X hbV6; replace hb := hb.trans (hbV6.mono hs); replace hs := Nat.le_trans hs hbV6.size; clear hbV6; simp only [upR]) | (refine wpList_store_row rfl 31 _ _ rfl V6.heap.size (uv p q a b) rfl rfl _ _ (heap1_0 _ _) (by kernel_rfl) rfl (uv_one _ _ _ _) ?_; rw [alloc_setRow]))
  have l_g_N : g < V6.heap.size := lt_heap h_g
  have l_X_N : X < V6.heap.size := lt_heap h_X
  have o_N : n0 ≤ V6.heap.size := hs
  refine wp_world (fun W => Below n0 w W ∧ n0 ≤ W.heap.size ∧ W.heap[g]? = some (.cells (uv ph at' a b) 31 (0, 0)) ∧ W.heap[X]? = some (.cells (rv code n D) 47 (0, 0)) ∧ W.heap[V6.heap.size]? = some (.cells (uv p q a b) 31 (0, 0))) ⟨hb.trans ((below_alc V6 _).mono hs), Nat.le_trans hs (below_alc V6 _).size, heap_below h_g (below_alc V6 _), heap_below h_X (below_alc V6 _), heap1_0 _ _⟩ ?_
  clear hb hs h_g h_X 
  rintro W2 ⟨hb, hs, h_g, h_X, h_N⟩
  generalize V6.heap.size = N at *
  have hgo := good_u W2 h_N
  go_upto_region 7 with (go_at_call 35; refine hgo.mono ?_; rintro e Wy ⟨rfl, hy1, hy2⟩; clear hgo)
  have h_g2 := (hy2.block g (lt_heap h_g) (by omega)).trans h_g
  have hb2 : Below n0 w Wy := hy2.below hb hs (fun q e => by rw [e]; exact o_N)
  have HB := Lib.hid (And.intro (HE.out Wy hb2).2 h_g2)
  clear hb hs h_g h_X h_N hy2 hb2
  go_wp2_with (first | (refine wpList_load_row rfl 31 _ rfl N rfl _ _ _ _ hy1 Tryd.underlying31 rfl (info_Up _ _ _ _) ?_) | (refine wpList_store_row rfl 31 _ _ rfl g (uv p q 0 0) rfl rfl _ _ h_g2 (by kernel_rfl) rfl (uv_one _ _ _ _) ?_))
  go_ret
  exact ⟨rfl, setRow_heap _ _ _ _ _ _ HB.out.2, HB.out.1.trans (set_turnRow Wy g _) (fun q hq => .inl hq)⟩
end
end Go.Proofs.YtffkjbbhbpaacaaDoor
