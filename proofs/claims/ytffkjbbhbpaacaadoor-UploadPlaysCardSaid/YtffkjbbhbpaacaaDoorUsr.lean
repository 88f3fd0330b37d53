import Derived.Test.YtffkjbbhbpaacaaDoorUds
/-
  SameRequest of one and the same.
-/
namespace Go.Proofs.YtffkjbbhbpaacaaDoor
open Go.RowKit
theorem eq_iq (t : TypeId) (x y : Operand) (a : Int) (w : World) : (do eqGuard .eql t x y (.int .i64 a) (.int .i64 a); binOp .eql t (.int .i64 a) (.int .i64 a) : Sem Value).run Tryd.prog w = .ok (.bool true) w := by
  simp [eqGuard, binOp, Op.intCmp]
theorem eq_uq (t : TypeId) (x y : Operand) (a : Int) (w : World) : (do eqGuard .eql t x y (.int .u32 a) (.int .u32 a); binOp .eql t (.int .u32 a) (.int .u32 a) : Sem Value).run Tryd.prog w = .ok (.bool true) w := by
  simp [eqGuard, binOp, Op.intCmp]
set_option maxRecDepth 100000 in
set_option maxHeartbeats 1600000 in
theorem samereq_any (op : Int) (f : Nat → BitVec 8) (off n : Int) (A B : Option Addr) (l c c' : Nat) (ys : List Int) (w : World) (hA : SlRead w A (ints .u8 ys)) (hB : SlRead w B (ints .u8 ys)) (hl : l = ys.length) (h9 : l ≤ 900) :
    Calls Tryd.prog 11 #[.agg (rqA op f off n (.slice A l c)), .agg (rqA op f off n (.slice B l c'))] w fun e w' => e = .returned (.bool true) ∧ Below w.heap.size w w' := by
  have hsm0 : ∀ W, Below w.heap.size w W → Calls Tryd.prog 32 #[.slice A l c, .slice B l c'] W fun e w'' => e = .returned (.bool true) ∧ Below W.heap.size W w'' := fun W hb => by
    have q := sameBytes_any A B ys ys c c' W (hA.below hb) (hB.below hb) (by omega) (by omega)
    rw [← hl, decide_eq_true (rfl : ys = ys)] at q
    refine q.mono ?_
    rintro e w'' ⟨rfl, k', rfl⟩
    exact ⟨rfl, Below.drewNr k'⟩
  clear hA hB hl h9
  obtain ⟨n0, hn0⟩ : ∃ n, n = w.heap.size := ⟨_, rfl⟩
  try rw [← hn0]
  have hb : Below n0 w w := by rw [hn0]; exact Below.refl _ _
  have hs : n0 ≤ w.heap.size := by rw [hn0]; exact Nat.le_refl _
  rw [← hn0] at hsm0
  clear hn0
  go_enter Tryd.func11, Tryd.ntmps11
  go_upto_region 1 with (fail)
  have o_X : n0 ≤ w.heap.size := hs
  have o_Y : n0 ≤ w.heap.size + 1 := by omega
  have l_X_Y : w.heap.size < w.heap.size + 1 := by omega
  refine wp_world (fun W => Below n0 w W ∧ n0 ≤ W.heap.size ∧ W.heap[w.heap.size]? = some (.cells (rqA op f off n (.slice A l c)) 40 (0, 0)) ∧ W.heap[w.heap.size + 1]? = some (.cells (rqA op f off n (.slice B l c')) 40 (0, 0))) ⟨(hb.trans ((below_alc w _).mono hs)).trans ((below_alc _ _).mono (Nat.le_trans hs (below_alc w _).size)), Nat.le_trans (Nat.le_trans hs (below_alc w _).size) (below_alc _ _).size, heap2_0 _ _ _, heap2_1 _ _ _⟩ ?_
  clear hb hs 
  rintro W1 ⟨hb, hs, h_X, h_Y⟩
  generalize w.heap.size = X at *
  generalize X + 1 = Y at *
  have hsm := hsm0 W1 hb
  clear hsm0
  refine wp_region_lit ?_
  refine wpList_run (by kernel_rfl) (.pointer (some ⟨X, 0, none⟩)) (W1) (exec_field (vx := .pointer (some ⟨X, 0, none⟩)) rfl (by kernel_rfl) (by kernel_rfl)) ?_
  refine wpList_run (by kernel_rfl) (.int .i64 op) (W1) (exec_load (vx := .pointer (some ⟨X, 0, none⟩)) rfl (by kernel_rfl) (load_i64 X 0 W1 _ (cell_heap h_X (rq_c0 _ _ _ _ _)))) ?_
  refine wpList_run (by kernel_rfl) (.pointer (some ⟨Y, 0, none⟩)) (W1) (exec_field (vx := .pointer (some ⟨Y, 0, none⟩)) rfl (by kernel_rfl) (by kernel_rfl)) ?_
  refine wpList_run (by kernel_rfl) (.int .i64 op) (W1) (exec_load (vx := .pointer (some ⟨Y, 0, none⟩)) rfl (by kernel_rfl) (load_i64 Y 0 W1 _ (cell_heap h_Y (rq_c0 _ _ _ _ _)))) ?_
  refine wpList_run (by kernel_rfl) (.bool true) (W1) (exec_bin (vx := .int .i64 op) (vy := .int .i64 op) rfl (by kernel_rfl) (eq_iq _ _ _ op W1)) ?_
  try simp only [put_list, List.set_cons_zero, List.set_cons_succ]
  refine wpList_run (by kernel_rfl) (.bool true) (W1) (exec_move rfl (by kernel_rfl)) ?_
  refine wpList_runG (by kernel_rfl) (.pointer (some ⟨X, 1, none⟩)) (W1) (exec_field (vx := .pointer (some ⟨X, 0, none⟩)) rfl (by kernel_rfl) (by kernel_rfl)) ?_
  refine wpList_runG (by kernel_rfl) (.agg (arr8 32 f)) (W1) (exec_load (vx := .pointer (some ⟨X, 1, none⟩)) rfl (by kernel_rfl) (load_rowQ W1 X f (rq_blob h_X))) ?_
  refine wpList_runG (by kernel_rfl) (.pointer (some ⟨Y, 1, none⟩)) (W1) (exec_field (vx := .pointer (some ⟨Y, 0, none⟩)) rfl (by kernel_rfl) (by kernel_rfl)) ?_
  refine wpList_runG (by kernel_rfl) (.agg (arr8 32 f)) (W1) (exec_load (vx := .pointer (some ⟨Y, 1, none⟩)) rfl (by kernel_rfl) (load_rowQ W1 Y f (rq_blob h_Y))) ?_
  refine wpList_runG (by kernel_rfl) (.bool true) (W1) (exec_eqrow (cx := arr8 32 f) (cy := arr8 32 f) (b := true) (.inl rfl) rfl (by kernel_rfl) (by kernel_rfl) (equalHs f W1)) ?_
  try simp only [put_list, List.set_cons_zero, List.set_cons_succ]
  refine wpList_run (by kernel_rfl) (.bool true) (W1) (exec_pick (b := true) rfl (by kernel_rfl) (by kernel_rfl)) ?_
  refine wpList_run (by kernel_rfl) (.bool true) (W1) (exec_move rfl (by kernel_rfl)) ?_
  refine wpList_runG (by kernel_rfl) (.pointer (some ⟨X, 33, none⟩)) (W1) (exec_field (vx := .pointer (some ⟨X, 0, none⟩)) rfl (by kernel_rfl) (by kernel_rfl)) ?_
  refine wpList_runG (by kernel_rfl) (.int .u32 off) (W1) (exec_load (vx := .pointer (some ⟨X, 33, none⟩)) rfl (by kernel_rfl) (load_u32Q X 33 W1 _ (cell_heap h_X (rq_c33 _ _ _ _ _)))) ?_
  refine wpList_runG (by kernel_rfl) (.pointer (some ⟨Y, 33, none⟩)) (W1) (exec_field (vx := .pointer (some ⟨Y, 0, none⟩)) rfl (by kernel_rfl) (by kernel_rfl)) ?_
  refine wpList_runG (by kernel_rfl) (.int .u32 off) (W1) (exec_load (vx := .pointer (some ⟨Y, 33, none⟩)) rfl (by kernel_rfl) (load_u32Q Y 33 W1 _ (cell_heap h_Y (rq_c33 _ _ _ _ _)))) ?_
  try simp only [put_list, List.set_cons_zero, List.set_cons_succ]
  refine wpList_runG (by kernel_rfl) (.bool true) (W1) (exec_bin (vx := .int .u32 off) (vy := .int .u32 off) rfl (by kernel_rfl) (eq_uq _ _ _ off W1)) ?_
  refine wpList_run (by kernel_rfl) (.bool true) (W1) (exec_pick (b := true) rfl (by kernel_rfl) (by kernel_rfl)) ?_
  refine wpList_run (by kernel_rfl) (.bool true) (W1) (exec_move rfl (by kernel_rfl)) ?_
  refine wpList_runG (by kernel_rfl) (.pointer (some ⟨X, 34, none⟩)) (W1) (exec_field (vx := .pointer (some ⟨X, 0, none⟩)) rfl (by kernel_rfl) (by kernel_rfl)) ?_
  refine wpList_runG (by kernel_rfl) (.int .u32 n) (W1) (exec_load (vx := .pointer (some ⟨X, 34, none⟩)) rfl (by kernel_rfl) (load_u32Q X 34 W1 _ (cell_heap h_X (rq_c34 _ _ _ _ _)))) ?_
  refine wpList_runG (by kernel_rfl) (.pointer (some ⟨Y, 34, none⟩)) (W1) (exec_field (vx := .pointer (some ⟨Y, 0, none⟩)) rfl (by kernel_rfl) (by kernel_rfl)) ?_
  try simp only [put_list, List.set_cons_zero, List.set_cons_succ]
  refine wpList_runG (by kernel_rfl) (.int .u32 n) (W1) (exec_load (vx := .pointer (some ⟨Y, 34, none⟩)) rfl (by kernel_rfl) (load_u32Q Y 34 W1 _ (cell_heap h_Y (rq_c34 _ _ _ _ _)))) ?_
  refine wpList_runG (by kernel_rfl) (.bool true) (W1) (exec_bin (vx := .int .u32 n) (vy := .int .u32 n) rfl (by kernel_rfl) (eq_uq _ _ _ n W1)) ?_
  refine wpList_run (by kernel_rfl) (.bool true) (W1) (exec_pick (b := true) rfl (by kernel_rfl) (by kernel_rfl)) ?_
  refine wpList_run (by kernel_rfl) (.bool true) (W1) (exec_move rfl (by kernel_rfl)) ?_
  refine wpList_runG (by kernel_rfl) (.pointer (some ⟨X, 35, none⟩)) (W1) (exec_field (vx := .pointer (some ⟨X, 0, none⟩)) rfl (by kernel_rfl) (by kernel_rfl)) ?_
  refine wpList_runG (by kernel_rfl) (.slice A l c) (W1) (exec_load (vx := .pointer (some ⟨X, 35, none⟩)) rfl (by kernel_rfl) (load_slice X 35 W1 25 (fun w => by kernel_rfl) _ (cell_heap h_X (rq_c35 _ _ _ _ _)))) ?_
  try simp only [put_list, List.set_cons_zero, List.set_cons_succ]
  refine wpList_runG (by kernel_rfl) (.pointer (some ⟨Y, 35, none⟩)) (W1) (exec_field (vx := .pointer (some ⟨Y, 0, none⟩)) rfl (by kernel_rfl) (by kernel_rfl)) ?_
  refine wpList_runG (by kernel_rfl) (.slice B l c') (W1) (exec_load (vx := .pointer (some ⟨Y, 35, none⟩)) rfl (by kernel_rfl) (load_slice Y 35 W1 25 (fun w => by kernel_rfl) _ (cell_heap h_Y (rq_c35 _ _ _ _ _)))) ?_
  refine wpList_call (by kernel_rfl) 32 #[Go.Operand.tmp 33, Go.Operand.tmp 35] #[25, 25] #[.slice A l c, .slice B l c'] _ rfl (by kernel_rfl) (by kernel_rfl) (hsm) ?_
  rintro e V ⟨rfl, hbV⟩
  refine ⟨_, rfl, ?_⟩
  refine wpList_run (by kernel_rfl) (.bool true) (V) (exec_pick (b := true) rfl (by kernel_rfl) (by kernel_rfl)) ?_
  refine wpList_run (by kernel_rfl) (.bool true) (V) (exec_assign rfl (by kernel_rfl)) ?_
  refine wpList_nil ?_
  simp only [put_list, List.set_cons_zero, List.set_cons_succ]
  go_wp2_with fail
  go_ret
  exact ⟨rfl, hb.trans (hbV.mono hs)⟩
end Go.Proofs.YtffkjbbhbpaacaaDoor
