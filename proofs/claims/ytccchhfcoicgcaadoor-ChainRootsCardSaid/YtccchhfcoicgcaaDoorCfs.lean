import Derived.Test.YtccchhfcoicgcaaDoorCrt
namespace Go.Proofs.YtccchhfcoicgcaaDoor
open Go.RowKit

def zz : Nat → BitVec 8 := fun _ => 0#8
theorem root_z : rootA zz zz 0 ≠ 0#8 ∧ rootA zz zz 0 ≠ rootB zz zz 0 := by decide +kernel
theorem agg_ne (f g : Nat → BitVec 8) (h : f 0 ≠ g 0) (w : World) : (Op.equalIn 10000 23 (.agg (arr8 32 f)) (.agg (arr8 32 g))).run Tryd.prog w = .ok false w := by
  rw [arr8_cells, arr8_cells, run_equalIn_bytes w 9998 23 5 32 Tryd.underlying23 Tryd.underlying5 size_u8 _ _ (by simp) (by simp)]
  have hne : ¬ (List.map (fun i => UInt8.ofBitVec (f i)) (List.range 32) = List.map (fun i => UInt8.ofBitVec (g i)) (List.range 32)) := fun e => by
    have h2 := congrArg (fun l => l[0]?) e
    simp at h2
    exact h h2
  rw [beq_false_of_ne hne]
theorem equalK (f : Nat → BitVec 8) (w : World) : (Op.equalIn 10000 23 (.agg (arr8 32 f)) (.agg (arr8 32 f))).run Tryd.prog w = .ok true w := by
  rw [arr8_cells, run_equalIn_bytes w 9998 23 5 32 Tryd.underlying23 Tryd.underlying5 size_u8 _ _ (by simp) (by simp)]
  simp

theorem wpList_neq_row {P : Program} {ops : Array Oper} {rest : List Oper} {o : Oper} {a : Act} {w : World} {Q : Exit → Act → World → Prop} (hw : Region.wanted o (yielded ops a.tmps) = true) (t t2 : TypeId) (x y : Operand) (ho : o.op = .binOp .neq t x y t2)
    (cx cy : Array Value) (hx : a.eval x = .agg cx) (hy : a.eval y = .agg cy) (b : Bool) (hgd : P.eqGuardType P.depth t = false) (he : ∀ w, (Op.equalIn 10000 t (.agg cx) (.agg cy)).run P w = .ok b w)
    (h : wpList P ops Q rest (a.put o.dst (.bool (!b))) w) : wpList P ops Q (o :: rest) a w :=
  BigFrame.wpList_want hw fun _ hK => by
    unfold Oper.wp execOp
    simp [ho, hx, hy, eqGuard, hgd, run_neq_struct, he, Result.andThen]
    exact hK _ _ h

set_option maxRecDepth 100000 in
set_option maxHeartbeats 1600000 in
theorem first_any (w : World) (hk : KAt w) :
    Calls Tryd.prog 6 #[] w fun e w' => e = .returned (.bool true) ∧ Below w.heap.size w w' := by
  have hz : Value.agg (Array.replicate 32 (.int .u8 0)) = .agg (arr8 32 zz) := by rfl
  go_enter Tryd.func6, Tryd.ntmps6
  go_wp2_with (refine wpList_build rfl 23 _ rfl #[] (by kernel_rfl) (.agg (arr8 32 zz)) (fun _ => by kernel_rfl) ?_)
  refine (root_any zz zz w hk).mono ?_
  rintro e W ⟨rfl, hb⟩
  have h0 := root_z.1
  have h1 := root_z.2
  generalize rootA zz zz = FA at *
  generalize rootB zz zz = FB at *
  have hA1 : ∀ z z', ((W.alloc z).alloc z').heap[W.heap.size]? = some z := fun z z' => (heap_alloc_old _ _ (by simp)).trans (heap_alloc_new _ _)
  have hA2 : ∀ z z', ((W.alloc z).alloc z').heap[W.heap.size + 1]? = some z' := fun z z' => by
    have := heap_alloc_new (W.alloc z) z'
    rwa [show (W.alloc z).heap.size = W.heap.size + 1 by simp] at this
  have hS2 : (((W.alloc (.cells (Array.replicate 32 (.int .u8 0)) 23)).alloc (.cells (Array.replicate 32 (.int .u8 0)) 23)).setRow W.heap.size (arr8 32 FA)).heap[W.heap.size + 1]? = some (.cells (Array.replicate 32 (.int .u8 0)) 23 (0, 0)) := (setRow_ne _ W.heap.size _ (W.heap.size + 1) (by omega)).trans (hA2 _ _)
  go_upto_region 2 with (first | (refine wpList_alloc_z rfl 23 rfl (Array.replicate 32 (.int .u8 0)) (fun _ => by kernel_rfl) ?_; try rw [show (W.alloc (.cells (Array.replicate 32 (.int .u8 0)) 23)).heap.size = W.heap.size + 1 by simp]) | (refine wpList_store_row rfl 23 (.tmp 1) (.tmp 7) rfl W.heap.size (arr8 32 FA) rfl rfl _ _ (hA1 _ _) (by kernel_rfl) (by simp) (arr8_one _ _) ?_) | (refine wpList_store_row rfl 23 (.tmp 2) (.tmp 8) rfl (W.heap.size + 1) (arr8 32 FB) rfl rfl _ _ hS2 (by kernel_rfl) (by simp) (arr8_one _ _) ?_))
  refine wp_world (fun W' => Below w.heap.size w W' ∧ W'.heap[W.heap.size]? = some (.cells (arr8 32 FA) 23 (0, 0)) ∧ W'.heap[W.heap.size + 1]? = some (.cells (arr8 32 FB) 23 (0, 0))) ?_ ?_
  · refine ⟨below_setRow (below_setRow ((hb.alloc hb.size _).alloc (Nat.le_trans hb.size (by simp)) _) hb.size _) (Nat.le_trans hb.size (by omega)) _, ?_, ?_⟩
    · exact (setRow_ne _ (W.heap.size + 1) _ W.heap.size (by omega)).trans (setRow_heap _ _ _ _ _ _ (hA1 _ _))
    · exact setRow_heap _ _ _ _ _ _ ((setRow_ne _ W.heap.size _ (W.heap.size + 1) (by omega)).trans (hA2 _ _))
  clear hb hA1 hA2 hS2
  rintro W' ⟨hb, hx, hy⟩
  have hn1 := agg_ne FA zz h0
  have hn2 := agg_ne FA FB h1
  generalize W.heap.size = O at *
  go_wp2_with (first | (refine wpList_build rfl 23 _ rfl #[] (by kernel_rfl) (.agg (arr8 32 zz)) (fun _ => by kernel_rfl) ?_) | (refine wpList_load_row_g (by kernel_rfl) 23 (.tmp 1) rfl O rfl _ _ _ _ hx Tryd.underlying23 rfl (by kernel_rfl) ?_) | (refine wpList_load_row_g (by kernel_rfl) 23 (.tmp 2) rfl (O + 1) rfl _ _ _ _ hy Tryd.underlying23 rfl (by kernel_rfl) ?_) | (refine wpList_neq_row (by kernel_rfl) 23 23 (.tmp 9) (.tmp 10) rfl (arr8 32 FA) (arr8 32 zz) rfl rfl false (by kernel_rfl) hn1 ?_) | (refine wpList_neq_row (by kernel_rfl) 23 23 (.tmp 13) (.tmp 14) rfl (arr8 32 FA) (arr8 32 FB) rfl rfl false (by kernel_rfl) hn2 ?_))
  go_ret
  exact ⟨rfl, hb⟩
end Go.Proofs.YtccchhfcoicgcaaDoor
