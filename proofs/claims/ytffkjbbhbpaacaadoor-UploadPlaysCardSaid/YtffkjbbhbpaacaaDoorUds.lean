import Derived.Test.YtffkjbbhbpaacaaDoorUda
import Derived.Test.YtffkjbbhbpaacaaDoorUff
import Derived.Test.YtffkjbbhbpaacaaDoorUph
import Derived.IntWalk
/-
  the document's Ask; what is asked, compared.
-/
namespace Go.Proofs.YtffkjbbhbpaacaaDoor
open Go.RowKit
section
variable {P : Program} {ops : Array Oper} {l : List Sp} {a : Act} {w : World}
theorem owes_lenB (i : Nat) (dst : Option Tmp) (anc : List Nat) (r : Value) (x : Operand) (t ty : TypeId) (vx : Value) (hop : ∀ v, ops[i]?.map (fun o => (o.op, Region.wanted o (yielded ops (fr l anc a v).tmps))) = some (.call { callee := .builtin .len, args := #[x], argTypes := #[t] }, true)) (hty : ops[i]?.map (·.type) = some ty)
    (hx : ∀ v, (fr l anc a v).eval x = vx) (he : ∀ w, (Builtin.len_ #[t] ty #[vx]).run P w = .ok r w) : Owes P ops l a w (Sp.k i dst anc r) :=
  .mk_k fun v w' hb ho o hi => by
    have h := hop v
    rw [hi] at h hty
    simp only [Option.map_some, Option.some.injEq, Prod.mk.injEq] at h hty
    refine .value (v := r) (w' := w') h.2 ?_ ⟨Below.refl _ _, Cells.refl _, rfl⟩
    simp only [execOp, h.1, resolve, invoke, builtin, Sem.run_bind, Sem.run_pure, Result.andThen_ok, List.map_toArray, List.map_cons, List.map_nil, hx v, hty, he w']
theorem owes_nil (i : Nat) (dst : Option Tmp) (anc : List Nat) (x : Operand) (p : Addr) (hop : ∀ v, ops[i]?.map (fun o => (o.op, Region.wanted o (yielded ops (fr l anc a v).tmps))) = some (.nilCheck x, true))
    (hx : ∀ v, (fr l anc a v).eval x = .pointer (some p)) : Owes P ops l a w (Sp.k i dst anc (.pointer (some p))) :=
  owes_pure i dst anc _ _ hop fun v w' _ _ o ho => by unfold execOp; simp only [ho, hx v]; rfl
theorem owes_field (i : Nat) (dst : Option Tmp) (anc : List Nat) (r : Value) (t : TypeId) (x : Operand) (k : Nat) (vx : Value) (hop : ∀ v, ops[i]?.map (fun o => (o.op, Region.wanted o (yielded ops (fr l anc a v).tmps))) = some (.fieldAddr t x k, true))
    (hx : ∀ v, (fr l anc a v).eval x = vx) (he : ∀ w, (Instr.fieldAt t vx k).run P w = .ok r w) : Owes P ops l a w (Sp.k i dst anc r) :=
  owes_pure i dst anc r _ hop fun v w' _ _ o ho => by unfold execOp; simp only [ho, hx v, Sem.run_bind, he w']; rfl
end
def prt (xs : List Int) (a : Nat) : List Int := if xs.length < a then [] else (xs.drop a).take (min (xs.length - a) 200)
theorem prt_min (xs : List Int) (a S : Nat) (h : S = xs.length) : (xs.drop (min a S)).take (min (S - min a S) 200) = prt xs a := by
  subst h
  unfold prt
  by_cases h : xs.length < a
  · have e1 : min a xs.length = xs.length := Nat.min_eq_right (by omega)
    rw [if_pos h, e1]; simp
  · have e1 : min a xs.length = a := Nat.min_eq_left (by omega)
    rw [if_neg h, e1]
theorem part_any (A : Option Addr) (xs : List Int) (S cb a : Nat) (hS : S = xs.length) (hc : S ≤ cb) (h9 : S ≤ 900) (w : World) (hA : SlRead w A (ints .u8 xs)) : Calls Tryd.prog 30 #[.slice A S cb, .int .i64 (a : Int)] w fun e W' => ∃ A l c, e = .returned (.slice A l c) ∧ l = (prt xs a).length ∧ SlRead W' A (ints .u8 (prt xs a)) ∧ (∀ x, A = some x → w.heap.size ≤ x.block) ∧ Below w.heap.size w W' := by
  by_cases h : xs.length < a
  · refine (part_no A S cb (a : Int) (.inr (by omega)) w).mono ?_
    rintro e w' ⟨rfl, hb⟩
    have e : prt xs a = [] := if_pos h
    rw [e]
    exact ⟨none, 0, 0, rfl, rfl, fun h => absurd h (by simp [ints]), (fun x hx => by cases hx), hb⟩
  · refine (part_yes A xs S cb a hS (by omega) hc h9 w hA).mono ?_
    rintro e w' ⟨v, rfl, ho, hb⟩
    have e : prt xs a = (xs.drop a).take (min (S - a) 200) := by rw [hS]; exact if_neg h
    obtain ⟨A2, c, rfl, _, _, hlo⟩ := own_slice ho
    rw [e]
    refine ⟨A2, _, c, rfl, ?_, SlRead.of_own ho, fun x hx => (hlo x hx).1, hb⟩
    rw [List.length_take, List.length_drop, ← hS]
    omega
theorem min_nn (a b : Nat) (w : World) : (Builtin.min_ #[3, 3] 3 #[.int .i64 (a : Int), .int .i64 (b : Int)]).run Tryd.prog w = .ok (.int .i64 ((min a b : Nat) : Int)) w := by
  have h : (if (b : Int) < (a : Int) then (b : Int) else (a : Int)) = ((min a b : Nat) : Int) := by
    rcases Nat.lt_or_ge b a with h | h
    · rw [if_pos (by omega), Nat.min_eq_right (by omega)]
    · rw [if_neg (by omega), Nat.min_eq_left h]
  rw [run_min_int2, h]
theorem min_fm (fr S : Nat) (hf : fr ≤ S) (w : World) : (Builtin.min_ #[3, 3] 3 #[.int .i64 ((fr : Int) + 200), .int .i64 (S : Int)]).run Tryd.prog w = .ok (.int .i64 ((fr : Int) + ((min (S - fr) 200 : Nat) : Int))) w := by
  have h : (if (S : Int) < (fr : Int) + 200 then (S : Int) else (fr : Int) + 200) = (fr : Int) + ((min (S - fr) 200 : Nat) : Int) := by
    rcases Nat.lt_or_ge S (fr + 200) with h | h
    · rw [if_pos (by omega), Nat.min_eq_left (by omega)]; omega
    · rw [if_neg (by omega), Nat.min_eq_right (by omega)]; rfl
  rw [run_min_int2, h]
theorem load_u32Q (b o : Nat) (w : World) (z : Int) (h : w.cell? ⟨b, o, none⟩ = some (.int .u32 z)) : (Instr.loadAt 38 (.pointer (some ⟨b, o, none⟩))).run Tryd.prog w = .ok (.int .u32 z) w := load_slice b o w 38 (fun w => by kernel_rfl) _ h
theorem cvt_u32i (a : Nat) (h : a < 4294967296) (w : World) : (convert 38 3 (.int .u32 (a : Int))).run Tryd.prog w = .ok (.int .i64 (a : Int)) w := by
  have h1 := Tryd.underlying38
  have h2 := Tryd.underlying3
  have hw : IntKind.i64.wrap (a : Int) = (a : Int) := IntWalk.i64_in _ (by omega)
  simp [convert, run_underlying h1, run_underlying h2, Conv.intToInt, hw]
theorem eq_ii (t : TypeId) (x y : Operand) (a : Int) (w : World) : (do eqGuard .eql t x y (.int .i64 a) (.int .i64 a); binOp .eql t (.int .i64 a) (.int .i64 a) : Sem Value).run Tryd.prog w = .ok (.bool true) w := by
  simp [eqGuard, binOp, Op.intCmp]
theorem add_200 (fr : Nat) (h : fr < 600) (t : TypeId) (x y : Operand) (w : World) : (do eqGuard .add t x y (.int .i64 (fr : Int)) (.int .i64 200); binOp .add t (.int .i64 (fr : Int)) (.int .i64 200) : Sem Value).run Tryd.prog w = .ok (.int .i64 ((fr : Int) + 200)) w := by
  have hw : IntKind.i64.wrap ((fr : Int) + 200) = (fr : Int) + 200 := IntWalk.i64_in _ (by omega)
  simp [eqGuard, binOp, Op.intArith, hw]

theorem sub_iq (t : TypeId) (x y : Operand) (n k : Nat) (h : k < n) (h9 : n ≤ 900) (w : World) : (do eqGuard .sub t x y (.int .i64 (n : Int)) (.int .i64 (k : Int)); binOp .sub t (.int .i64 (n : Int)) (.int .i64 (k : Int)) : Sem Value).run Tryd.prog w = .ok (.int .i64 ((n : Int) - (k : Int))) w := by
  have hw : IntKind.i64.wrap ((n : Int) - (k : Int)) = (n : Int) - (k : Int) := IntWalk.i64_in _ (by omega)
  simp [eqGuard, binOp, Op.intArith, hw]
theorem add_iq (t : TypeId) (x y : Operand) (n k : Nat) (h9 : n + k ≤ 2000) (w : World) : (do eqGuard .add t x y (.int .i64 (n : Int)) (.int .i64 (k : Int)); binOp .add t (.int .i64 (n : Int)) (.int .i64 (k : Int)) : Sem Value).run Tryd.prog w = .ok (.int .i64 ((n : Int) + (k : Int))) w := by
  have hw : IntKind.i64.wrap ((n : Int) + (k : Int)) = (n : Int) + (k : Int) := IntWalk.i64_in _ (by omega)
  simp [eqGuard, binOp, Op.intArith, hw]
def OwnQ (n1 : Nat) (m : Nat) (ys : List Int) (v : Value) (W : World) : Prop := ∃ A c, v = .slice A m c ∧ SlRead W A (ints .u8 ys) ∧ ∀ x, A = some x → n1 ≤ x.block
theorem OwnQ.mono {n1 m : Nat} {ys : List Int} : ∀ y w1 w2, OwnQ n1 m ys y w1 → Cells w1 w2 → OwnQ n1 m ys y w2 := fun _ _ _ ⟨A, c, e, r, h⟩ hc => ⟨A, c, e, r.cells hc, h⟩
section
variable {W W' : World} {g : Nat} {ph at' a b : Int}
set_option maxRecDepth 100000 in
set_option maxHeartbeats 800000 in
theorem dask_none (w : World) (h : DpH w g ph at' a b) (f : Nat → BitVec 8) (Bl : Option Addr) (nb cb : Nat) (hno : b ≠ 0 ∨ ph < 0 ∨ 5 ≤ ph) : Calls Tryd.prog 10 #[.pointer (some ⟨g, 0, none⟩), .agg (arr8 32 f), .slice Bl nb cb] w fun e w' => e = .returned (.tuple #[.agg (rqA 0 zf 0 0 (.slice none 0 0)), .bool false]) ∧ Below w.heap.size w w' := by
  obtain ⟨n0, hn0⟩ : ∃ n, n = w.heap.size := ⟨_, rfl⟩
  try rw [← hn0]
  have hb : Below n0 w w := by rw [hn0]; exact Below.refl _ _
  have hs : n0 ≤ w.heap.size := by rw [hn0]; exact Nat.le_refl _
  clear hn0
  have h_g : w.heap[g]? = some (.cells (uv ph at' a b) 35 (0, 0)) := h
  clear h
  go_enter Tryd.func10, Tryd.ntmps10
  go_upto_region 1 with (fail)
  have l_g_X : g < w.heap.size := lt_heap h_g
  have l_g_O : g < w.heap.size + 1 := by omega
  have o_X : n0 ≤ w.heap.size := hs
  have o_O : n0 ≤ w.heap.size + 1 := by omega
  have l_X_O : w.heap.size < w.heap.size + 1 := by omega
  refine wp_world (fun W => Below n0 w W ∧ n0 ≤ W.heap.size ∧ W.heap[g]? = some (.cells (uv ph at' a b) 35 (0, 0)) ∧ W.heap[w.heap.size]? = some (.cells (arr8 32 f) 37 (0, 0)) ∧ W.heap[w.heap.size + 1]? = some (.cells (rqA 0 zf 0 0 (.slice none 0 0)) 40 (0, 0))) ⟨(hb.trans ((below_alc w _).mono hs)).trans ((below_alc _ _).mono (Nat.le_trans hs (below_alc w _).size)), Nat.le_trans (Nat.le_trans hs (below_alc w _).size) (below_alc _ _).size, heap_below (heap_below h_g (below_alc w _)) (below_alc _ _), heap2_0 _ _ _, heap2_1 _ _ _⟩ ?_
  clear hb hs h_g
  rintro W1 ⟨hb, hs, h_g, h_X, h_O⟩
  generalize w.heap.size = X at *
  generalize X + 1 = O at *
  have c0 : W1.cell? ⟨g, 0, none⟩ = some (.int .i64 ph) := cell_heap h_g rfl
  have c3 : W1.cell? ⟨g, 3, none⟩ = some (.int .i64 b) := cell_heap h_g rfl
  by_cases d0 : ph < 0
  · clear hno
    go_wp2_with (first | (refine wpList_build rfl 40 _ rfl #[] (by kernel_rfl) (.agg (rqA 0 zf 0 0 (.slice none 0 0))) (fun w => rq_build0 w) ?_) | (refine wpList_store_row rfl 40 _ _ rfl O (rqA 0 zf 0 0 (.slice none 0 0)) rfl rfl _ _ h_O (rq_info _ _ _ _ _) (rq_szs _ _ _ _ _ _ _ _ _ _) (rq_one _ _ _ _ _ _ _) ?_))
    refine bodyPost_ret (results_row_tmp rfl _ _ O _ (rqA 0 zf 0 0 (.slice none 0 0)) _ _ rfl (setRow_heap _ _ _ _ _ _ h_O) _ rfl Tryd.underlying40 rfl (rq_info _ _ _ _ _)) rfl ?_
    exact ⟨rfl, below_setRow hb o_O _⟩
  · by_cases d5 : 5 ≤ ph
    · clear hno
      go_wp2_with (first | (refine wpList_build rfl 40 _ rfl #[] (by kernel_rfl) (.agg (rqA 0 zf 0 0 (.slice none 0 0))) (fun w => rq_build0 w) ?_) | (refine wpList_store_row rfl 40 _ _ rfl O (rqA 0 zf 0 0 (.slice none 0 0)) rfl rfl _ _ h_O (rq_info _ _ _ _ _) (rq_szs _ _ _ _ _ _ _ _ _ _) (rq_one _ _ _ _ _ _ _) ?_))
      refine bodyPost_ret (results_row_tmp rfl _ _ O _ (rqA 0 zf 0 0 (.slice none 0 0)) _ _ rfl (setRow_heap _ _ _ _ _ _ h_O) _ rfl Tryd.underlying40 rfl (rq_info _ _ _ _ _)) rfl ?_
      exact ⟨rfl, below_setRow hb o_O _⟩
    · have hb1 : (b == 0) = false := by simp; omega
      have hb2 : ¬ b = 0 := by omega
      have d6 : ph < 5 := by omega
      clear hno
      go_wp2_with (first | (refine wpList_build rfl 40 _ rfl #[] (by kernel_rfl) (.agg (rqA 0 zf 0 0 (.slice none 0 0))) (fun w => rq_build0 w) ?_) | (refine wpList_store_row rfl 40 _ _ rfl O (rqA 0 zf 0 0 (.slice none 0 0)) rfl rfl _ _ h_O (rq_info _ _ _ _ _) (rq_szs _ _ _ _ _ _ _ _ _ _) (rq_one _ _ _ _ _ _ _) ?_))
      refine bodyPost_ret (results_row_tmp rfl _ _ O _ (rqA 0 zf 0 0 (.slice none 0 0)) _ _ rfl (setRow_heap _ _ _ _ _ _ h_O) _ rfl Tryd.underlying40 rfl (rq_info _ _ _ _ _)) rfl ?_
      exact ⟨rfl, below_setRow hb o_O _⟩
set_option maxRecDepth 100000 in
set_option maxHeartbeats 800000 in
theorem dask_0 (w : World) (h : DpH w g 0 at' a b) (f : Nat → BitVec 8) (Bl : Option Addr) (nb cb : Nat) (hb0 : b = 0) : Calls Tryd.prog 10 #[.pointer (some ⟨g, 0, none⟩), .agg (arr8 32 f), .slice Bl nb cb] w fun e w' => e = .returned (.tuple #[.agg (rqA 5 f 0 0 (.slice none 0 0)), .bool true]) ∧ Below w.heap.size w w' := by
  obtain ⟨n0, hn0⟩ : ∃ n, n = w.heap.size := ⟨_, rfl⟩
  try rw [← hn0]
  have hb : Below n0 w w := by rw [hn0]; exact Below.refl _ _
  have hs : n0 ≤ w.heap.size := by rw [hn0]; exact Nat.le_refl _
  clear hn0
  have h_g : w.heap[g]? = some (.cells (uv 0 at' a b) 35 (0, 0)) := h
  clear h
  go_enter Tryd.func10, Tryd.ntmps10
  go_upto_region 1 with (fail)
  have l_g_X : g < w.heap.size := lt_heap h_g
  have l_g_O : g < w.heap.size + 1 := by omega
  have o_X : n0 ≤ w.heap.size := hs
  have o_O : n0 ≤ w.heap.size + 1 := by omega
  have l_X_O : w.heap.size < w.heap.size + 1 := by omega
  refine wp_world (fun W => Below n0 w W ∧ n0 ≤ W.heap.size ∧ W.heap[g]? = some (.cells (uv 0 at' a b) 35 (0, 0)) ∧ W.heap[w.heap.size]? = some (.cells (arr8 32 f) 37 (0, 0)) ∧ W.heap[w.heap.size + 1]? = some (.cells (rqA 0 zf 0 0 (.slice none 0 0)) 40 (0, 0))) ⟨(hb.trans ((below_alc w _).mono hs)).trans ((below_alc _ _).mono (Nat.le_trans hs (below_alc w _).size)), Nat.le_trans (Nat.le_trans hs (below_alc w _).size) (below_alc _ _).size, heap_below (heap_below h_g (below_alc w _)) (below_alc _ _), heap2_0 _ _ _, heap2_1 _ _ _⟩ ?_
  clear hb hs h_g
  rintro W1 ⟨hb, hs, h_g, h_X, h_O⟩
  generalize w.heap.size = X at *
  generalize X + 1 = O at *
  subst hb0
  have c0 : W1.cell? ⟨g, 0, none⟩ = some (.int .i64 0) := cell_heap h_g rfl
  have c3 : W1.cell? ⟨g, 3, none⟩ = some (.int .i64 0) := cell_heap h_g rfl
  go_upto_region 4 with (first | (refine wpList_load_row rfl 37 _ rfl X rfl _ _ _ _ h_X Tryd.underlying37 rfl (info_Hs f) ?_) | (refine wpList_build rfl 40 _ rfl #[(1, .agg (arr8 32 f))] (by kernel_rfl) (.agg (rqA 0 f 0 0 (.slice none 0 0))) (fun w => rq_build1 f w) ?_) | (refine wpList_store_row rfl 40 _ _ rfl W1.heap.size (rqA 0 f 0 0 (.slice none 0 0)) rfl rfl _ _ (heap1_0 _ _) (rq_info _ _ _ _ _) (by kernel_rfl) (rq_one _ _ _ _ _ _ _) ?_; rw [alloc_setRow]))
  clear c0 c3
  have l_g_N : g < W1.heap.size := lt_heap h_g
  have l_X_N : X < W1.heap.size := lt_heap h_X
  have l_O_N : O < W1.heap.size := lt_heap h_O
  have o_N : n0 ≤ W1.heap.size := hs
  refine wp_world (fun W => Below n0 w W ∧ n0 ≤ W.heap.size ∧ W.heap[g]? = some (.cells (uv 0 at' a 0) 35 (0, 0)) ∧ W.heap[X]? = some (.cells (arr8 32 f) 37 (0, 0)) ∧ W.heap[O]? = some (.cells (rqA 0 zf 0 0 (.slice none 0 0)) 40 (0, 0)) ∧ W.heap[W1.heap.size]? = some (.cells (rqA 0 f 0 0 (.slice none 0 0)) 40 (0, 0))) ⟨hb.trans ((below_alc W1 _).mono hs), Nat.le_trans hs (below_alc W1 _).size, heap_below h_g (below_alc W1 _), heap_below h_X (below_alc W1 _), heap_below h_O (below_alc W1 _), heap1_0 _ _⟩ ?_
  clear hb hs h_g h_X h_O 
  rintro W2 ⟨hb, hs, h_g, h_X, h_O, h_N⟩
  generalize W1.heap.size = N at *
  have c0 : W2.cell? ⟨g, 0, none⟩ = some (.int .i64 0) := cell_heap h_g rfl
  have q0 : W2.cell? ⟨N, 0, none⟩ = some (.int .i64 0) := cell_heap h_N (rq_c0 _ _ _ _ _)
  have f0 := thaw_heap h_N 0
  go_upto_region 19 with (fail)
  refine wp_world (fun W => Below n0 w W ∧ n0 ≤ W.heap.size ∧ W.heap[g]? = some (.cells (uv 0 at' a 0) 35 (0, 0)) ∧ W.heap[X]? = some (.cells (arr8 32 f) 37 (0, 0)) ∧ W.heap[O]? = some (.cells (rqA 0 zf 0 0 (.slice none 0 0)) 40 (0, 0)) ∧ W.heap[N]? = some (.cells (rqA 5 f 0 0 (.slice none 0 0)) 40 (0, 0))) ⟨(set_turnH W2 N 0 _).below hb hs (fun q e => by rw [e]; exact o_N), by rw [heap_size_setCellQ]; exact hs, (heap_setCell_other W2 ⟨N, 0, none⟩ g _ (by show g ≠ N; omega)).trans h_g, (heap_setCell_other W2 ⟨N, 0, none⟩ X _ (by show X ≠ N; omega)).trans h_X, (heap_setCell_other W2 ⟨N, 0, none⟩ O _ (by show O ≠ N; omega)).trans h_O, (by rw [← rq_set0 0 5]; exact heap_setCell_same W2 N 0 _ _ _ h_N)⟩ ?_
  clear hb hs h_g h_X h_O h_N q0 f0 c0 
  rintro W3 ⟨hb, hs, h_g, h_X, h_O, h_N⟩
  go_wp2_with (first | (refine wpList_load_row rfl 40 _ rfl N rfl _ _ _ _ h_N Tryd.underlying40 rfl (rq_info _ _ _ _ _) ?_) | (refine wpList_store_row rfl 40 _ _ rfl O (rqA 5 f 0 0 (.slice none 0 0)) rfl rfl _ _ h_O (rq_info _ _ _ _ _) (rq_szs _ _ _ _ _ _ _ _ _ _) (rq_one _ _ _ _ _ _ _) ?_))
  refine bodyPost_ret (results_row_tmp rfl _ _ O _ (rqA 5 f 0 0 (.slice none 0 0)) _ _ rfl (setRow_heap _ _ _ _ _ _ h_O) _ rfl Tryd.underlying40 rfl (rq_info _ _ _ _ _)) rfl ?_
  exact ⟨rfl, below_setRow hb o_O _⟩
set_option maxRecDepth 100000 in
set_option maxHeartbeats 800000 in
theorem dask_3 (w : World) (h : DpH w g 3 at' a b) (f : Nat → BitVec 8) (Bl : Option Addr) (nb cb : Nat) (hb0 : b = 0) : Calls Tryd.prog 10 #[.pointer (some ⟨g, 0, none⟩), .agg (arr8 32 f), .slice Bl nb cb] w fun e w' => e = .returned (.tuple #[.agg (rqA 3 f 0 0 (.slice none 0 0)), .bool true]) ∧ Below w.heap.size w w' := by
  obtain ⟨n0, hn0⟩ : ∃ n, n = w.heap.size := ⟨_, rfl⟩
  try rw [← hn0]
  have hb : Below n0 w w := by rw [hn0]; exact Below.refl _ _
  have hs : n0 ≤ w.heap.size := by rw [hn0]; exact Nat.le_refl _
  clear hn0
  have h_g : w.heap[g]? = some (.cells (uv 3 at' a b) 35 (0, 0)) := h
  clear h
  go_enter Tryd.func10, Tryd.ntmps10
  go_upto_region 1 with (fail)
  have l_g_X : g < w.heap.size := lt_heap h_g
  have l_g_O : g < w.heap.size + 1 := by omega
  have o_X : n0 ≤ w.heap.size := hs
  have o_O : n0 ≤ w.heap.size + 1 := by omega
  have l_X_O : w.heap.size < w.heap.size + 1 := by omega
  refine wp_world (fun W => Below n0 w W ∧ n0 ≤ W.heap.size ∧ W.heap[g]? = some (.cells (uv 3 at' a b) 35 (0, 0)) ∧ W.heap[w.heap.size]? = some (.cells (arr8 32 f) 37 (0, 0)) ∧ W.heap[w.heap.size + 1]? = some (.cells (rqA 0 zf 0 0 (.slice none 0 0)) 40 (0, 0))) ⟨(hb.trans ((below_alc w _).mono hs)).trans ((below_alc _ _).mono (Nat.le_trans hs (below_alc w _).size)), Nat.le_trans (Nat.le_trans hs (below_alc w _).size) (below_alc _ _).size, heap_below (heap_below h_g (below_alc w _)) (below_alc _ _), heap2_0 _ _ _, heap2_1 _ _ _⟩ ?_
  clear hb hs h_g
  rintro W1 ⟨hb, hs, h_g, h_X, h_O⟩
  generalize w.heap.size = X at *
  generalize X + 1 = O at *
  subst hb0
  have c0 : W1.cell? ⟨g, 0, none⟩ = some (.int .i64 3) := cell_heap h_g rfl
  have c3 : W1.cell? ⟨g, 3, none⟩ = some (.int .i64 0) := cell_heap h_g rfl
  go_upto_region 4 with (first | (refine wpList_load_row rfl 37 _ rfl X rfl _ _ _ _ h_X Tryd.underlying37 rfl (info_Hs f) ?_) | (refine wpList_build rfl 40 _ rfl #[(1, .agg (arr8 32 f))] (by kernel_rfl) (.agg (rqA 0 f 0 0 (.slice none 0 0))) (fun w => rq_build1 f w) ?_) | (refine wpList_store_row rfl 40 _ _ rfl W1.heap.size (rqA 0 f 0 0 (.slice none 0 0)) rfl rfl _ _ (heap1_0 _ _) (rq_info _ _ _ _ _) (by kernel_rfl) (rq_one _ _ _ _ _ _ _) ?_; rw [alloc_setRow]))
  clear c0 c3
  have l_g_N : g < W1.heap.size := lt_heap h_g
  have l_X_N : X < W1.heap.size := lt_heap h_X
  have l_O_N : O < W1.heap.size := lt_heap h_O
  have o_N : n0 ≤ W1.heap.size := hs
  refine wp_world (fun W => Below n0 w W ∧ n0 ≤ W.heap.size ∧ W.heap[g]? = some (.cells (uv 3 at' a 0) 35 (0, 0)) ∧ W.heap[X]? = some (.cells (arr8 32 f) 37 (0, 0)) ∧ W.heap[O]? = some (.cells (rqA 0 zf 0 0 (.slice none 0 0)) 40 (0, 0)) ∧ W.heap[W1.heap.size]? = some (.cells (rqA 0 f 0 0 (.slice none 0 0)) 40 (0, 0))) ⟨hb.trans ((below_alc W1 _).mono hs), Nat.le_trans hs (below_alc W1 _).size, heap_below h_g (below_alc W1 _), heap_below h_X (below_alc W1 _), heap_below h_O (below_alc W1 _), heap1_0 _ _⟩ ?_
  clear hb hs h_g h_X h_O 
  rintro W2 ⟨hb, hs, h_g, h_X, h_O, h_N⟩
  generalize W1.heap.size = N at *
  have c0 : W2.cell? ⟨g, 0, none⟩ = some (.int .i64 3) := cell_heap h_g rfl
  have q0 : W2.cell? ⟨N, 0, none⟩ = some (.int .i64 0) := cell_heap h_N (rq_c0 _ _ _ _ _)
  have f0 := thaw_heap h_N 0
  go_upto_region 19 with (fail)
  refine wp_world (fun W => Below n0 w W ∧ n0 ≤ W.heap.size ∧ W.heap[g]? = some (.cells (uv 3 at' a 0) 35 (0, 0)) ∧ W.heap[X]? = some (.cells (arr8 32 f) 37 (0, 0)) ∧ W.heap[O]? = some (.cells (rqA 0 zf 0 0 (.slice none 0 0)) 40 (0, 0)) ∧ W.heap[N]? = some (.cells (rqA 3 f 0 0 (.slice none 0 0)) 40 (0, 0))) ⟨(set_turnH W2 N 0 _).below hb hs (fun q e => by rw [e]; exact o_N), by rw [heap_size_setCellQ]; exact hs, (heap_setCell_other W2 ⟨N, 0, none⟩ g _ (by show g ≠ N; omega)).trans h_g, (heap_setCell_other W2 ⟨N, 0, none⟩ X _ (by show X ≠ N; omega)).trans h_X, (heap_setCell_other W2 ⟨N, 0, none⟩ O _ (by show O ≠ N; omega)).trans h_O, (by rw [← rq_set0 0 3]; exact heap_setCell_same W2 N 0 _ _ _ h_N)⟩ ?_
  clear hb hs h_g h_X h_O h_N q0 f0 c0 
  rintro W3 ⟨hb, hs, h_g, h_X, h_O, h_N⟩
  go_wp2_with (first | (refine wpList_load_row rfl 40 _ rfl N rfl _ _ _ _ h_N Tryd.underlying40 rfl (rq_info _ _ _ _ _) ?_) | (refine wpList_store_row rfl 40 _ _ rfl O (rqA 3 f 0 0 (.slice none 0 0)) rfl rfl _ _ h_O (rq_info _ _ _ _ _) (rq_szs _ _ _ _ _ _ _ _ _ _) (rq_one _ _ _ _ _ _ _) ?_))
  refine bodyPost_ret (results_row_tmp rfl _ _ O _ (rqA 3 f 0 0 (.slice none 0 0)) _ _ rfl (setRow_heap _ _ _ _ _ _ h_O) _ rfl Tryd.underlying40 rfl (rq_info _ _ _ _ _)) rfl ?_
  exact ⟨rfl, below_setRow hb o_O _⟩
set_option maxRecDepth 100000 in
set_option maxHeartbeats 800000 in
theorem dask_4 (w : World) (h : DpH w g 4 at' a b) (f : Nat → BitVec 8) (Bl : Option Addr) (nb cb : Nat) (hb0 : b = 0) : Calls Tryd.prog 10 #[.pointer (some ⟨g, 0, none⟩), .agg (arr8 32 f), .slice Bl nb cb] w fun e w' => e = .returned (.tuple #[.agg (rqA 6 f 0 0 (.slice none 0 0)), .bool true]) ∧ Below w.heap.size w w' := by
  obtain ⟨n0, hn0⟩ : ∃ n, n = w.heap.size := ⟨_, rfl⟩
  try rw [← hn0]
  have hb : Below n0 w w := by rw [hn0]; exact Below.refl _ _
  have hs : n0 ≤ w.heap.size := by rw [hn0]; exact Nat.le_refl _
  clear hn0
  have h_g : w.heap[g]? = some (.cells (uv 4 at' a b) 35 (0, 0)) := h
  clear h
  go_enter Tryd.func10, Tryd.ntmps10
  go_upto_region 1 with (fail)
  have l_g_X : g < w.heap.size := lt_heap h_g
  have l_g_O : g < w.heap.size + 1 := by omega
  have o_X : n0 ≤ w.heap.size := hs
  have o_O : n0 ≤ w.heap.size + 1 := by omega
  have l_X_O : w.heap.size < w.heap.size + 1 := by omega
  refine wp_world (fun W => Below n0 w W ∧ n0 ≤ W.heap.size ∧ W.heap[g]? = some (.cells (uv 4 at' a b) 35 (0, 0)) ∧ W.heap[w.heap.size]? = some (.cells (arr8 32 f) 37 (0, 0)) ∧ W.heap[w.heap.size + 1]? = some (.cells (rqA 0 zf 0 0 (.slice none 0 0)) 40 (0, 0))) ⟨(hb.trans ((below_alc w _).mono hs)).trans ((below_alc _ _).mono (Nat.le_trans hs (below_alc w _).size)), Nat.le_trans (Nat.le_trans hs (below_alc w _).size) (below_alc _ _).size, heap_below (heap_below h_g (below_alc w _)) (below_alc _ _), heap2_0 _ _ _, heap2_1 _ _ _⟩ ?_
  clear hb hs h_g
  rintro W1 ⟨hb, hs, h_g, h_X, h_O⟩
  generalize w.heap.size = X at *
  generalize X + 1 = O at *
  subst hb0
  have c0 : W1.cell? ⟨g, 0, none⟩ = some (.int .i64 4) := cell_heap h_g rfl
  have c3 : W1.cell? ⟨g, 3, none⟩ = some (.int .i64 0) := cell_heap h_g rfl
  go_upto_region 4 with (first | (refine wpList_load_row rfl 37 _ rfl X rfl _ _ _ _ h_X Tryd.underlying37 rfl (info_Hs f) ?_) | (refine wpList_build rfl 40 _ rfl #[(1, .agg (arr8 32 f))] (by kernel_rfl) (.agg (rqA 0 f 0 0 (.slice none 0 0))) (fun w => rq_build1 f w) ?_) | (refine wpList_store_row rfl 40 _ _ rfl W1.heap.size (rqA 0 f 0 0 (.slice none 0 0)) rfl rfl _ _ (heap1_0 _ _) (rq_info _ _ _ _ _) (by kernel_rfl) (rq_one _ _ _ _ _ _ _) ?_; rw [alloc_setRow]))
  clear c0 c3
  have l_g_N : g < W1.heap.size := lt_heap h_g
  have l_X_N : X < W1.heap.size := lt_heap h_X
  have l_O_N : O < W1.heap.size := lt_heap h_O
  have o_N : n0 ≤ W1.heap.size := hs
  refine wp_world (fun W => Below n0 w W ∧ n0 ≤ W.heap.size ∧ W.heap[g]? = some (.cells (uv 4 at' a 0) 35 (0, 0)) ∧ W.heap[X]? = some (.cells (arr8 32 f) 37 (0, 0)) ∧ W.heap[O]? = some (.cells (rqA 0 zf 0 0 (.slice none 0 0)) 40 (0, 0)) ∧ W.heap[W1.heap.size]? = some (.cells (rqA 0 f 0 0 (.slice none 0 0)) 40 (0, 0))) ⟨hb.trans ((below_alc W1 _).mono hs), Nat.le_trans hs (below_alc W1 _).size, heap_below h_g (below_alc W1 _), heap_below h_X (below_alc W1 _), heap_below h_O (below_alc W1 _), heap1_0 _ _⟩ ?_
  clear hb hs h_g h_X h_O 
  rintro W2 ⟨hb, hs, h_g, h_X, h_O, h_N⟩
  generalize W1.heap.size = N at *
  have c0 : W2.cell? ⟨g, 0, none⟩ = some (.int .i64 4) := cell_heap h_g rfl
  have q0 : W2.cell? ⟨N, 0, none⟩ = some (.int .i64 0) := cell_heap h_N (rq_c0 _ _ _ _ _)
  have f0 := thaw_heap h_N 0
  go_upto_region 19 with (fail)
  refine wp_world (fun W => Below n0 w W ∧ n0 ≤ W.heap.size ∧ W.heap[g]? = some (.cells (uv 4 at' a 0) 35 (0, 0)) ∧ W.heap[X]? = some (.cells (arr8 32 f) 37 (0, 0)) ∧ W.heap[O]? = some (.cells (rqA 0 zf 0 0 (.slice none 0 0)) 40 (0, 0)) ∧ W.heap[N]? = some (.cells (rqA 6 f 0 0 (.slice none 0 0)) 40 (0, 0))) ⟨(set_turnH W2 N 0 _).below hb hs (fun q e => by rw [e]; exact o_N), by rw [heap_size_setCellQ]; exact hs, (heap_setCell_other W2 ⟨N, 0, none⟩ g _ (by show g ≠ N; omega)).trans h_g, (heap_setCell_other W2 ⟨N, 0, none⟩ X _ (by show X ≠ N; omega)).trans h_X, (heap_setCell_other W2 ⟨N, 0, none⟩ O _ (by show O ≠ N; omega)).trans h_O, (by rw [← rq_set0 0 6]; exact heap_setCell_same W2 N 0 _ _ _ h_N)⟩ ?_
  clear hb hs h_g h_X h_O h_N q0 f0 c0 
  rintro W3 ⟨hb, hs, h_g, h_X, h_O, h_N⟩
  go_wp2_with (first | (refine wpList_load_row rfl 40 _ rfl N rfl _ _ _ _ h_N Tryd.underlying40 rfl (rq_info _ _ _ _ _) ?_) | (refine wpList_store_row rfl 40 _ _ rfl O (rqA 6 f 0 0 (.slice none 0 0)) rfl rfl _ _ h_O (rq_info _ _ _ _ _) (rq_szs _ _ _ _ _ _ _ _ _ _) (rq_one _ _ _ _ _ _ _) ?_))
  refine bodyPost_ret (results_row_tmp rfl _ _ O _ (rqA 6 f 0 0 (.slice none 0 0)) _ _ rfl (setRow_heap _ _ _ _ _ _ h_O) _ rfl Tryd.underlying40 rfl (rq_info _ _ _ _ _)) rfl ?_
  exact ⟨rfl, below_setRow hb o_O _⟩
set_option maxRecDepth 100000 in
set_option maxHeartbeats 800000 in
theorem dask_1 (w : World) (h : DpH w g 1 at' a b) (f : Nat → BitVec 8) (Bl : Option Addr) (nb cb : Nat) (hb0 : b = 0) (hnb : nb < 4294967296) : Calls Tryd.prog 10 #[.pointer (some ⟨g, 0, none⟩), .agg (arr8 32 f), .slice Bl nb cb] w fun e w' => e = .returned (.tuple #[.agg (rqA 1 f 0 (nb : Int) (.slice none 0 0)), .bool true]) ∧ Below w.heap.size w w' := by
  obtain ⟨n0, hn0⟩ : ∃ n, n = w.heap.size := ⟨_, rfl⟩
  try rw [← hn0]
  have hb : Below n0 w w := by rw [hn0]; exact Below.refl _ _
  have hs : n0 ≤ w.heap.size := by rw [hn0]; exact Nat.le_refl _
  clear hn0
  have h_g : w.heap[g]? = some (.cells (uv 1 at' a b) 35 (0, 0)) := h
  clear h
  go_enter Tryd.func10, Tryd.ntmps10
  go_upto_region 1 with (fail)
  have l_g_X : g < w.heap.size := lt_heap h_g
  have l_g_O : g < w.heap.size + 1 := by omega
  have o_X : n0 ≤ w.heap.size := hs
  have o_O : n0 ≤ w.heap.size + 1 := by omega
  have l_X_O : w.heap.size < w.heap.size + 1 := by omega
  refine wp_world (fun W => Below n0 w W ∧ n0 ≤ W.heap.size ∧ W.heap[g]? = some (.cells (uv 1 at' a b) 35 (0, 0)) ∧ W.heap[w.heap.size]? = some (.cells (arr8 32 f) 37 (0, 0)) ∧ W.heap[w.heap.size + 1]? = some (.cells (rqA 0 zf 0 0 (.slice none 0 0)) 40 (0, 0))) ⟨(hb.trans ((below_alc w _).mono hs)).trans ((below_alc _ _).mono (Nat.le_trans hs (below_alc w _).size)), Nat.le_trans (Nat.le_trans hs (below_alc w _).size) (below_alc _ _).size, heap_below (heap_below h_g (below_alc w _)) (below_alc _ _), heap2_0 _ _ _, heap2_1 _ _ _⟩ ?_
  clear hb hs h_g
  rintro W1 ⟨hb, hs, h_g, h_X, h_O⟩
  generalize w.heap.size = X at *
  generalize X + 1 = O at *
  subst hb0
  have c0 : W1.cell? ⟨g, 0, none⟩ = some (.int .i64 1) := cell_heap h_g rfl
  have c3 : W1.cell? ⟨g, 3, none⟩ = some (.int .i64 0) := cell_heap h_g rfl
  go_upto_region 4 with (first | (refine wpList_load_row rfl 37 _ rfl X rfl _ _ _ _ h_X Tryd.underlying37 rfl (info_Hs f) ?_) | (refine wpList_build rfl 40 _ rfl #[(1, .agg (arr8 32 f))] (by kernel_rfl) (.agg (rqA 0 f 0 0 (.slice none 0 0))) (fun w => rq_build1 f w) ?_) | (refine wpList_store_row rfl 40 _ _ rfl W1.heap.size (rqA 0 f 0 0 (.slice none 0 0)) rfl rfl _ _ (heap1_0 _ _) (rq_info _ _ _ _ _) (by kernel_rfl) (rq_one _ _ _ _ _ _ _) ?_; rw [alloc_setRow]))
  clear c0 c3
  have l_g_N : g < W1.heap.size := lt_heap h_g
  have l_X_N : X < W1.heap.size := lt_heap h_X
  have l_O_N : O < W1.heap.size := lt_heap h_O
  have o_N : n0 ≤ W1.heap.size := hs
  refine wp_world (fun W => Below n0 w W ∧ n0 ≤ W.heap.size ∧ W.heap[g]? = some (.cells (uv 1 at' a 0) 35 (0, 0)) ∧ W.heap[X]? = some (.cells (arr8 32 f) 37 (0, 0)) ∧ W.heap[O]? = some (.cells (rqA 0 zf 0 0 (.slice none 0 0)) 40 (0, 0)) ∧ W.heap[W1.heap.size]? = some (.cells (rqA 0 f 0 0 (.slice none 0 0)) 40 (0, 0))) ⟨hb.trans ((below_alc W1 _).mono hs), Nat.le_trans hs (below_alc W1 _).size, heap_below h_g (below_alc W1 _), heap_below h_X (below_alc W1 _), heap_below h_O (below_alc W1 _), heap1_0 _ _⟩ ?_
  clear hb hs h_g h_X h_O 
  rintro W2 ⟨hb, hs, h_g, h_X, h_O, h_N⟩
  generalize W1.heap.size = N at *
  have c0 : W2.cell? ⟨g, 0, none⟩ = some (.int .i64 1) := cell_heap h_g rfl
  have q0 : W2.cell? ⟨N, 0, none⟩ = some (.int .i64 0) := cell_heap h_N (rq_c0 _ _ _ _ _)
  have f0 := thaw_heap h_N 0
  go_upto_region 9 with (fail)
  refine wp_world (fun W => Below n0 w W ∧ n0 ≤ W.heap.size ∧ W.heap[g]? = some (.cells (uv 1 at' a 0) 35 (0, 0)) ∧ W.heap[X]? = some (.cells (arr8 32 f) 37 (0, 0)) ∧ W.heap[O]? = some (.cells (rqA 0 zf 0 0 (.slice none 0 0)) 40 (0, 0)) ∧ W.heap[N]? = some (.cells (rqA 1 f 0 0 (.slice none 0 0)) 40 (0, 0))) ⟨(set_turnH W2 N 0 _).below hb hs (fun q e => by rw [e]; exact o_N), by rw [heap_size_setCellQ]; exact hs, (heap_setCell_other W2 ⟨N, 0, none⟩ g _ (by show g ≠ N; omega)).trans h_g, (heap_setCell_other W2 ⟨N, 0, none⟩ X _ (by show X ≠ N; omega)).trans h_X, (heap_setCell_other W2 ⟨N, 0, none⟩ O _ (by show O ≠ N; omega)).trans h_O, (by rw [← rq_set0 0 1]; exact heap_setCell_same W2 N 0 _ _ _ h_N)⟩ ?_
  clear hb hs h_g h_X h_O h_N q0 f0 c0 
  rintro W3 ⟨hb, hs, h_g, h_X, h_O, h_N⟩
  have q4 : W3.cell? ⟨N, 34, none⟩ = some (.int .u32 0) := cell_heap h_N (rq_c34 _ _ _ _ _)
  have f4 := thaw_heap h_N 34
  go_upto_region 19 with (fail)
  refine wp_world (fun W => Below n0 w W ∧ n0 ≤ W.heap.size ∧ W.heap[g]? = some (.cells (uv 1 at' a 0) 35 (0, 0)) ∧ W.heap[X]? = some (.cells (arr8 32 f) 37 (0, 0)) ∧ W.heap[O]? = some (.cells (rqA 0 zf 0 0 (.slice none 0 0)) 40 (0, 0)) ∧ W.heap[N]? = some (.cells (rqA 1 f 0 (nb : Int) (.slice none 0 0)) 40 (0, 0))) ⟨(set_turnH W3 N 34 _).below hb hs (fun q e => by rw [e]; exact o_N), by rw [heap_size_setCellQ]; exact hs, (heap_setCell_other W3 ⟨N, 34, none⟩ g _ (by show g ≠ N; omega)).trans h_g, (heap_setCell_other W3 ⟨N, 34, none⟩ X _ (by show X ≠ N; omega)).trans h_X, (heap_setCell_other W3 ⟨N, 34, none⟩ O _ (by show O ≠ N; omega)).trans h_O, (by rw [← rq_set34 1 f 0 0 (nb : Int)]; exact heap_setCell_same W3 N 34 _ _ _ h_N)⟩ ?_
  clear hb hs h_g h_X h_O h_N q4 f4 
  rintro W4 ⟨hb, hs, h_g, h_X, h_O, h_N⟩
  go_wp2_with (first | (refine wpList_load_row rfl 40 _ rfl N rfl _ _ _ _ h_N Tryd.underlying40 rfl (rq_info _ _ _ _ _) ?_) | (refine wpList_store_row rfl 40 _ _ rfl O (rqA 1 f 0 (nb : Int) (.slice none 0 0)) rfl rfl _ _ h_O (rq_info _ _ _ _ _) (rq_szs _ _ _ _ _ _ _ _ _ _) (rq_one _ _ _ _ _ _ _) ?_))
  refine bodyPost_ret (results_row_tmp rfl _ _ O _ (rqA 1 f 0 (nb : Int) (.slice none 0 0)) _ _ rfl (setRow_heap _ _ _ _ _ _ h_O) _ rfl Tryd.underlying40 rfl (rq_info _ _ _ _ _)) rfl ?_
  exact ⟨rfl, below_setRow hb o_O _⟩
set_option maxRecDepth 100000 in
set_option maxHeartbeats 800000 in
theorem dask_2_no (w : World) (h : DpH w g 2 at' a b) (f : Nat → BitVec 8) (Bl : Option Addr) (nb cb : Nat) (hb0 : b = 0) (k : Nat) (hk : at' = (k : Int)) (hk9 : k < 4294967296) (hkn : nb ≤ k) : Calls Tryd.prog 10 #[.pointer (some ⟨g, 0, none⟩), .agg (arr8 32 f), .slice Bl nb cb] w fun e w' => e = .returned (.tuple #[.agg (rqA 2 f at' 0 (.slice none 0 0)), .bool true]) ∧ Below w.heap.size w w' := by
  obtain ⟨n0, hn0⟩ : ∃ n, n = w.heap.size := ⟨_, rfl⟩
  try rw [← hn0]
  have hb : Below n0 w w := by rw [hn0]; exact Below.refl _ _
  have hs : n0 ≤ w.heap.size := by rw [hn0]; exact Nat.le_refl _
  clear hn0
  have h_g : w.heap[g]? = some (.cells (uv 2 at' a b) 35 (0, 0)) := h
  clear h
  go_enter Tryd.func10, Tryd.ntmps10
  go_upto_region 1 with (fail)
  have l_g_X : g < w.heap.size := lt_heap h_g
  have l_g_O : g < w.heap.size + 1 := by omega
  have o_X : n0 ≤ w.heap.size := hs
  have o_O : n0 ≤ w.heap.size + 1 := by omega
  have l_X_O : w.heap.size < w.heap.size + 1 := by omega
  refine wp_world (fun W => Below n0 w W ∧ n0 ≤ W.heap.size ∧ W.heap[g]? = some (.cells (uv 2 at' a b) 35 (0, 0)) ∧ W.heap[w.heap.size]? = some (.cells (arr8 32 f) 37 (0, 0)) ∧ W.heap[w.heap.size + 1]? = some (.cells (rqA 0 zf 0 0 (.slice none 0 0)) 40 (0, 0))) ⟨(hb.trans ((below_alc w _).mono hs)).trans ((below_alc _ _).mono (Nat.le_trans hs (below_alc w _).size)), Nat.le_trans (Nat.le_trans hs (below_alc w _).size) (below_alc _ _).size, heap_below (heap_below h_g (below_alc w _)) (below_alc _ _), heap2_0 _ _ _, heap2_1 _ _ _⟩ ?_
  clear hb hs h_g
  rintro W1 ⟨hb, hs, h_g, h_X, h_O⟩
  generalize w.heap.size = X at *
  generalize X + 1 = O at *
  subst hk
  subst hb0
  have c0 : W1.cell? ⟨g, 0, none⟩ = some (.int .i64 2) := cell_heap h_g rfl
  have c3 : W1.cell? ⟨g, 3, none⟩ = some (.int .i64 0) := cell_heap h_g rfl
  go_upto_region 4 with (first | (refine wpList_load_row rfl 37 _ rfl X rfl _ _ _ _ h_X Tryd.underlying37 rfl (info_Hs f) ?_) | (refine wpList_build rfl 40 _ rfl #[(1, .agg (arr8 32 f))] (by kernel_rfl) (.agg (rqA 0 f 0 0 (.slice none 0 0))) (fun w => rq_build1 f w) ?_) | (refine wpList_store_row rfl 40 _ _ rfl W1.heap.size (rqA 0 f 0 0 (.slice none 0 0)) rfl rfl _ _ (heap1_0 _ _) (rq_info _ _ _ _ _) (by kernel_rfl) (rq_one _ _ _ _ _ _ _) ?_; rw [alloc_setRow]))
  clear c0 c3
  have l_g_N : g < W1.heap.size := lt_heap h_g
  have l_X_N : X < W1.heap.size := lt_heap h_X
  have l_O_N : O < W1.heap.size := lt_heap h_O
  have o_N : n0 ≤ W1.heap.size := hs
  refine wp_world (fun W => Below n0 w W ∧ n0 ≤ W.heap.size ∧ W.heap[g]? = some (.cells (uv 2 (k : Int) a 0) 35 (0, 0)) ∧ W.heap[X]? = some (.cells (arr8 32 f) 37 (0, 0)) ∧ W.heap[O]? = some (.cells (rqA 0 zf 0 0 (.slice none 0 0)) 40 (0, 0)) ∧ W.heap[W1.heap.size]? = some (.cells (rqA 0 f 0 0 (.slice none 0 0)) 40 (0, 0))) ⟨hb.trans ((below_alc W1 _).mono hs), Nat.le_trans hs (below_alc W1 _).size, heap_below h_g (below_alc W1 _), heap_below h_X (below_alc W1 _), heap_below h_O (below_alc W1 _), heap1_0 _ _⟩ ?_
  clear hb hs h_g h_X h_O 
  rintro W2 ⟨hb, hs, h_g, h_X, h_O, h_N⟩
  generalize W1.heap.size = N at *
  have c0 : W2.cell? ⟨g, 0, none⟩ = some (.int .i64 2) := cell_heap h_g rfl
  have q0 : W2.cell? ⟨N, 0, none⟩ = some (.int .i64 0) := cell_heap h_N (rq_c0 _ _ _ _ _)
  have f0 := thaw_heap h_N 0
  go_upto_region 12 with (fail)
  refine wp_world (fun W => Below n0 w W ∧ n0 ≤ W.heap.size ∧ W.heap[g]? = some (.cells (uv 2 (k : Int) a 0) 35 (0, 0)) ∧ W.heap[X]? = some (.cells (arr8 32 f) 37 (0, 0)) ∧ W.heap[O]? = some (.cells (rqA 0 zf 0 0 (.slice none 0 0)) 40 (0, 0)) ∧ W.heap[N]? = some (.cells (rqA 2 f 0 0 (.slice none 0 0)) 40 (0, 0))) ⟨(set_turnH W2 N 0 _).below hb hs (fun q e => by rw [e]; exact o_N), by rw [heap_size_setCellQ]; exact hs, (heap_setCell_other W2 ⟨N, 0, none⟩ g _ (by show g ≠ N; omega)).trans h_g, (heap_setCell_other W2 ⟨N, 0, none⟩ X _ (by show X ≠ N; omega)).trans h_X, (heap_setCell_other W2 ⟨N, 0, none⟩ O _ (by show O ≠ N; omega)).trans h_O, (by rw [← rq_set0 0 2]; exact heap_setCell_same W2 N 0 _ _ _ h_N)⟩ ?_
  clear hb hs h_g h_X h_O h_N q0 f0 c0 
  rintro W3 ⟨hb, hs, h_g, h_X, h_O, h_N⟩
  have c1 : W3.cell? ⟨g, 1, none⟩ = some (.int .i64 (k : Int)) := cell_heap h_g rfl
  have q3 : W3.cell? ⟨N, 33, none⟩ = some (.int .u32 0) := cell_heap h_N (rq_c33 _ _ _ _ _)
  have f3 := thaw_heap h_N 33
  go_upto_region 13 with (fail)
  refine wp_world (fun W => Below n0 w W ∧ n0 ≤ W.heap.size ∧ W.heap[g]? = some (.cells (uv 2 (k : Int) a 0) 35 (0, 0)) ∧ W.heap[X]? = some (.cells (arr8 32 f) 37 (0, 0)) ∧ W.heap[O]? = some (.cells (rqA 0 zf 0 0 (.slice none 0 0)) 40 (0, 0)) ∧ W.heap[N]? = some (.cells (rqA 2 f (k : Int) 0 (.slice none 0 0)) 40 (0, 0))) ⟨(set_turnH W3 N 33 _).below hb hs (fun q e => by rw [e]; exact o_N), by rw [heap_size_setCellQ]; exact hs, (heap_setCell_other W3 ⟨N, 33, none⟩ g _ (by show g ≠ N; omega)).trans h_g, (heap_setCell_other W3 ⟨N, 33, none⟩ X _ (by show X ≠ N; omega)).trans h_X, (heap_setCell_other W3 ⟨N, 33, none⟩ O _ (by show O ≠ N; omega)).trans h_O, (by rw [← rq_set33 2 f 0 (k : Int)]; exact heap_setCell_same W3 N 33 _ _ _ h_N)⟩ ?_
  clear hb hs h_g h_X h_O h_N q3 f3 c1 
  rintro W4 ⟨hb, hs, h_g, h_X, h_O, h_N⟩
  have c1 : W4.cell? ⟨g, 1, none⟩ = some (.int .i64 (k : Int)) := cell_heap h_g rfl
  have z0 : (0 : Int) ≤ (k : Int) := by omega
  have z1 : ¬ (k : Int) < (nb : Int) := by omega
  clear hkn hk9
  go_wp2_with (first | (refine wpList_load_row rfl 40 _ rfl N rfl _ _ _ _ h_N Tryd.underlying40 rfl (rq_info _ _ _ _ _) ?_) | (refine wpList_store_row rfl 40 _ _ rfl O (rqA 2 f (k : Int) 0 (.slice none 0 0)) rfl rfl _ _ h_O (rq_info _ _ _ _ _) (rq_szs _ _ _ _ _ _ _ _ _ _) (rq_one _ _ _ _ _ _ _) ?_))
  refine bodyPost_ret (results_row_tmp rfl _ _ O _ (rqA 2 f (k : Int) 0 (.slice none 0 0)) _ _ rfl (setRow_heap _ _ _ _ _ _ h_O) _ rfl Tryd.underlying40 rfl (rq_info _ _ _ _ _)) rfl ?_
  exact ⟨rfl, below_setRow hb o_O _⟩
set_option maxRecDepth 100000 in
set_option maxHeartbeats 800000 in
theorem dask_2_yes (w : World) (h : DpH w g 2 at' a b) (f : Nat → BitVec 8) (Bl : Option Addr) (nb cb : Nat) (hb0 : b = 0) (k : Nat) (hk : at' = (k : Int)) (hk9 : k < 4294967296) (xs : List Int) (hnb : nb = xs.length) (hkn : k < nb) (hcb : nb ≤ cb) (hb9 : nb ≤ 900) (hB : SlRead w Bl (ints .u8 xs)) : Calls Tryd.prog 10 #[.pointer (some ⟨g, 0, none⟩), .agg (arr8 32 f), .slice Bl nb cb] w fun e w' => ∃ A l c, e = .returned (.tuple #[.agg (rqA 2 f at' 0 (.slice A l c)), .bool true]) ∧ l = (prt xs k).length ∧ SlRead w' A (ints .u8 (prt xs k)) ∧ Below w.heap.size w w' := by
  obtain ⟨n0, hn0⟩ : ∃ n, n = w.heap.size := ⟨_, rfl⟩
  try rw [← hn0]
  have hb : Below n0 w w := by rw [hn0]; exact Below.refl _ _
  have hs : n0 ≤ w.heap.size := by rw [hn0]; exact Nat.le_refl _
  clear hn0
  have h_g : w.heap[g]? = some (.cells (uv 2 at' a b) 35 (0, 0)) := h
  clear h
  go_enter Tryd.func10, Tryd.ntmps10
  go_upto_region 1 with (fail)
  have l_g_X : g < w.heap.size := lt_heap h_g
  have l_g_O : g < w.heap.size + 1 := by omega
  have o_X : n0 ≤ w.heap.size := hs
  have o_O : n0 ≤ w.heap.size + 1 := by omega
  have l_X_O : w.heap.size < w.heap.size + 1 := by omega
  refine wp_world (fun W => Below n0 w W ∧ n0 ≤ W.heap.size ∧ SlRead W Bl (ints .u8 xs) ∧ W.heap[g]? = some (.cells (uv 2 at' a b) 35 (0, 0)) ∧ W.heap[w.heap.size]? = some (.cells (arr8 32 f) 37 (0, 0)) ∧ W.heap[w.heap.size + 1]? = some (.cells (rqA 0 zf 0 0 (.slice none 0 0)) 40 (0, 0))) ⟨(hb.trans ((below_alc w _).mono hs)).trans ((below_alc _ _).mono (Nat.le_trans hs (below_alc w _).size)), Nat.le_trans (Nat.le_trans hs (below_alc w _).size) (below_alc _ _).size, (hB.below (below_alc w _)).below (below_alc _ _), heap_below (heap_below h_g (below_alc w _)) (below_alc _ _), heap2_0 _ _ _, heap2_1 _ _ _⟩ ?_
  clear hb hs h_g
  rintro W1 ⟨hb, hs, hB1, h_g, h_X, h_O⟩
  generalize w.heap.size = X at *
  generalize X + 1 = O at *
  clear hB
  subst hk
  have HNB := Lib.hid hnb
  clear hnb
  subst hb0
  have c0 : W1.cell? ⟨g, 0, none⟩ = some (.int .i64 2) := cell_heap h_g rfl
  have c3 : W1.cell? ⟨g, 3, none⟩ = some (.int .i64 0) := cell_heap h_g rfl
  go_upto_region 4 with (first | (refine wpList_load_row rfl 37 _ rfl X rfl _ _ _ _ h_X Tryd.underlying37 rfl (info_Hs f) ?_) | (refine wpList_build rfl 40 _ rfl #[(1, .agg (arr8 32 f))] (by kernel_rfl) (.agg (rqA 0 f 0 0 (.slice none 0 0))) (fun w => rq_build1 f w) ?_) | (refine wpList_store_row rfl 40 _ _ rfl W1.heap.size (rqA 0 f 0 0 (.slice none 0 0)) rfl rfl _ _ (heap1_0 _ _) (rq_info _ _ _ _ _) (by kernel_rfl) (rq_one _ _ _ _ _ _ _) ?_; rw [alloc_setRow]))
  clear c0 c3
  have hBl : ∀ x, Bl = some x → 0 < xs.length → x.block < W1.heap.size := fun x e h0 => by
    obtain ⟨b', o', e', hl, _⟩ := hB1 (by simpa [ints] using h0)
    rw [e] at e'
    cases e'
    exact hl
  have l_g_N : g < W1.heap.size := lt_heap h_g
  have l_X_N : X < W1.heap.size := lt_heap h_X
  have l_O_N : O < W1.heap.size := lt_heap h_O
  have o_N : n0 ≤ W1.heap.size := hs
  refine wp_world (fun W => Below n0 w W ∧ n0 ≤ W.heap.size ∧ W.heap[g]? = some (.cells (uv 2 (k : Int) a 0) 35 (0, 0)) ∧ W.heap[X]? = some (.cells (arr8 32 f) 37 (0, 0)) ∧ W.heap[O]? = some (.cells (rqA 0 zf 0 0 (.slice none 0 0)) 40 (0, 0)) ∧ W.heap[W1.heap.size]? = some (.cells (rqA 0 f 0 0 (.slice none 0 0)) 40 (0, 0)) ∧ SlRead W Bl (ints .u8 xs)) ⟨hb.trans ((below_alc W1 _).mono hs), Nat.le_trans hs (below_alc W1 _).size, heap_below h_g (below_alc W1 _), heap_below h_X (below_alc W1 _), heap_below h_O (below_alc W1 _), heap1_0 _ _, hB1.below (below_alc W1 _)⟩ ?_
  clear hb hs h_g h_X h_O hB1
  rintro W2 ⟨hb, hs, h_g, h_X, h_O, h_N, hB1⟩
  generalize W1.heap.size = N at *
  have c0 : W2.cell? ⟨g, 0, none⟩ = some (.int .i64 2) := cell_heap h_g rfl
  have q0 : W2.cell? ⟨N, 0, none⟩ = some (.int .i64 0) := cell_heap h_N (rq_c0 _ _ _ _ _)
  have f0 := thaw_heap h_N 0
  go_upto_region 12 with (fail)
  refine wp_world (fun W => Below n0 w W ∧ n0 ≤ W.heap.size ∧ W.heap[g]? = some (.cells (uv 2 (k : Int) a 0) 35 (0, 0)) ∧ W.heap[X]? = some (.cells (arr8 32 f) 37 (0, 0)) ∧ W.heap[O]? = some (.cells (rqA 0 zf 0 0 (.slice none 0 0)) 40 (0, 0)) ∧ W.heap[N]? = some (.cells (rqA 2 f 0 0 (.slice none 0 0)) 40 (0, 0)) ∧ SlRead W Bl (ints .u8 xs)) ⟨(set_turnH W2 N 0 _).below hb hs (fun q e => by rw [e]; exact o_N), by rw [heap_size_setCellQ]; exact hs, (heap_setCell_other W2 ⟨N, 0, none⟩ g _ (by show g ≠ N; omega)).trans h_g, (heap_setCell_other W2 ⟨N, 0, none⟩ X _ (by show X ≠ N; omega)).trans h_X, (heap_setCell_other W2 ⟨N, 0, none⟩ O _ (by show O ≠ N; omega)).trans h_O, (by rw [← rq_set0 0 2]; exact heap_setCell_same W2 N 0 _ _ _ h_N), slread_turnQ hB1 (set_turnH W2 N 0 _) (fun x e hx => by have h1 := hBl x e (by have := HNB.out; omega); have hx2 : x.block = N := hx; omega)⟩ ?_
  clear hb hs h_g h_X h_O h_N q0 f0 c0 hB1
  rintro W3 ⟨hb, hs, h_g, h_X, h_O, h_N, hB1⟩
  have c1 : W3.cell? ⟨g, 1, none⟩ = some (.int .i64 (k : Int)) := cell_heap h_g rfl
  have q3 : W3.cell? ⟨N, 33, none⟩ = some (.int .u32 0) := cell_heap h_N (rq_c33 _ _ _ _ _)
  have f3 := thaw_heap h_N 33
  go_upto_region 13 with (fail)
  refine wp_world (fun W => Below n0 w W ∧ n0 ≤ W.heap.size ∧ W.heap[g]? = some (.cells (uv 2 (k : Int) a 0) 35 (0, 0)) ∧ W.heap[X]? = some (.cells (arr8 32 f) 37 (0, 0)) ∧ W.heap[O]? = some (.cells (rqA 0 zf 0 0 (.slice none 0 0)) 40 (0, 0)) ∧ W.heap[N]? = some (.cells (rqA 2 f (k : Int) 0 (.slice none 0 0)) 40 (0, 0)) ∧ SlRead W Bl (ints .u8 xs)) ⟨(set_turnH W3 N 33 _).below hb hs (fun q e => by rw [e]; exact o_N), by rw [heap_size_setCellQ]; exact hs, (heap_setCell_other W3 ⟨N, 33, none⟩ g _ (by show g ≠ N; omega)).trans h_g, (heap_setCell_other W3 ⟨N, 33, none⟩ X _ (by show X ≠ N; omega)).trans h_X, (heap_setCell_other W3 ⟨N, 33, none⟩ O _ (by show O ≠ N; omega)).trans h_O, (by rw [← rq_set33 2 f 0 (k : Int)]; exact heap_setCell_same W3 N 33 _ _ _ h_N), slread_turnQ hB1 (set_turnH W3 N 33 _) (fun x e hx => by have h1 := hBl x e (by have := HNB.out; omega); have hx2 : x.block = N := hx; omega)⟩ ?_
  clear hb hs h_g h_X h_O h_N q3 f3 c1 hB1
  rintro W4 ⟨hb, hs, h_g, h_X, h_O, h_N, hB1⟩
  have c1 : W4.cell? ⟨g, 1, none⟩ = some (.int .i64 (k : Int)) := cell_heap h_g rfl
  have z0 : (0 : Int) ≤ (k : Int) := by omega
  have z1 : (k : Int) < (nb : Int) := by omega
  go_upto_region 14 with (fail)
  have hnb := HNB.out
  obtain ⟨mm, hmm⟩ : ∃ n, n = min (nb - k) 200 := ⟨_, rfl⟩
  have hle : k + mm ≤ cb := by omega
  have hyl : ((xs.drop k).take mm).length = mm := by rw [List.length_take, List.length_drop]; omega
  have hye : (xs.drop k).take mm = prt xs k := by unfold prt; rw [if_neg (by omega), hmm, hnb]
  have hsl := sliceAt_lhA (P := Tryd.prog) Tryd.underlying25 (show (Tryd.prog.info? 5).map (·.size) = some 1 by kernel_rfl) Bl nb cb k mm hle
  have hmin : ∀ w, (Builtin.min_ #[3, 3] 3 #[.int .i64 200, .int .i64 ((nb : Int) - (k : Int))]).run Tryd.prog w = .ok (.int .i64 (mm : Int)) w := fun w => by
    have e : (if (nb : Int) - (k : Int) < (200 : Int) then (nb : Int) - (k : Int) else (200 : Int)) = (mm : Int) := by rw [hmm]; split <;> omega
    rw [run_min_int2, e]
  have hNlt := lt_heap h_N
  have hOlt := lt_heap h_O
  have hby : ∀ w', Below W4.heap.size W4 w' → Calls Tryd.prog 31 #[.slice (cutA Bl k cb) mm (cb - k)] w' fun e w'' => ∃ r, e = .returned r ∧ Below w'.heap.size w' w'' ∧ OwnQ W4.heap.size mm ((xs.drop k).take mm) r w'' := fun w' hb' => by
    have q := bytes_any (cutA Bl k cb) ((xs.drop k).take mm) (cb - k) w' ((slread_dropQ (hB1.below hb') k cb (by omega)).take mm) (by omega)
    rw [hyl] at q
    refine q.mono ?_
    rintro e w'' ⟨v, rfl, ho, hb2⟩
    obtain ⟨A, c, rfl, _, _, hlo⟩ := own_slice ho
    exact ⟨_, rfl, hb2, A, c, rfl, SlRead.of_own ho, fun x hx => Nat.le_trans hb'.size (hlo x hx).1⟩
  have HY := Lib.hid (And.intro hyl hye)
  have hc900 : k < 900 := by omega
  have hm9 : mm ≤ 200 := by rw [hmm]; exact Nat.min_le_right _ _
  clear hmm hyl hye
  refine wp_region_spec_tail 21 [Sp.k 0 (some 69) [] (.slice Bl nb cb),
    Sp.k 1 (some 70) [] (.pointer (some ⟨g, 0, none⟩)),
    Sp.k 2 (some 71) [1] (.pointer (some ⟨g, 0, none⟩)),
    Sp.k 3 (some 72) [1, 2] (.pointer (some ⟨g, 1, none⟩)),
    Sp.k 4 (some 73) [1, 2, 3] (.int .i64 (k : Int)),
    Sp.k 5 (some 74) [] (.pointer (some ⟨g, 0, none⟩)),
    Sp.k 6 (some 75) [5] (.pointer (some ⟨g, 0, none⟩)),
    Sp.k 7 (some 76) [5, 6] (.pointer (some ⟨g, 1, none⟩)),
    Sp.k 8 (some 77) [5, 6, 7] (.int .i64 (k : Int)),
    Sp.k 9 (some 78) [] (.slice Bl nb cb),
    Sp.k 10 (some 79) [9] (.int .i64 (nb : Int)),
    Sp.k 11 (some 80) [] (.pointer (some ⟨g, 0, none⟩)),
    Sp.k 12 (some 81) [11] (.pointer (some ⟨g, 0, none⟩)),
    Sp.k 13 (some 82) [11, 12] (.pointer (some ⟨g, 1, none⟩)),
    Sp.k 14 (some 83) [11, 12, 13] (.int .i64 (k : Int)),
    Sp.k 15 (some 84) [9, 10, 11, 12, 13, 14] (.int .i64 ((nb : Int) - (k : Int))),
    Sp.k 16 (some 85) [9, 10, 11, 12, 13, 14, 15] (.int .i64 (mm : Int)),
    Sp.k 17 (some 86) [5, 6, 7, 8, 9, 10, 11, 12, 13, 14, 15, 16] (.int .i64 ((k : Int) + (mm : Int))),
    Sp.k 18 (some 87) [0, 1, 2, 3, 4, 5, 6, 7, 8, 9, 10, 11, 12, 13, 14, 15, 16, 17] (.slice (cutA Bl k cb) mm (cb - k)),
    Sp.o 19 (some 88) [0, 1, 2, 3, 4, 5, 6, 7, 8, 9, 10, 11, 12, 13, 14, 15, 16, 17, 18] (OwnQ W4.heap.size mm ((xs.drop k).take mm)),
    Sp.k 20 (some 89) [0, 1, 2, 3, 4, 5, 6, 7, 8, 9, 10, 11, 12, 13, 14, 15, 16, 17, 18, 19] (.pointer (some ⟨N, 35, none⟩))] (by kernel_rfl) (by kernel_rfl)
    ⟨owes_move 0 (some 69) [] (.slice Bl nb cb) (Go.Operand.tmp 2) (fun v => by kernel_rfl) (fun v => by kernel_rfl),
    owes_move 1 (some 70) [] (.pointer (some ⟨g, 0, none⟩)) (Go.Operand.tmp 0) (fun v => by kernel_rfl) (fun v => by kernel_rfl),
    owes_nil 2 (some 71) [1] (Go.Operand.tmp 70) _ (fun v => by kernel_rfl) (fun v => by kernel_rfl),
    owes_field 3 (some 72) [1, 2] (.pointer (some ⟨g, 1, none⟩)) 35 (Go.Operand.tmp 71) 1 (.pointer (some ⟨g, 0, none⟩)) (fun v => by kernel_rfl) (fun v => by kernel_rfl) (fun w => by kernel_rfl),
    owes_load 4 (some 73) [1, 2, 3] (.int .i64 (k : Int)) 3 (Go.Operand.tmp 72) (.pointer (some ⟨g, 1, none⟩)) (fun v => by kernel_rfl) (fun v => by kernel_rfl) (fun w' hb' => load_i64 g 1 w' _ ((((Below.drewNr (w := W4) 1).trans hb').cell (p := ⟨g, 1, none⟩) (lt_heap h_g)).trans c1)),
    owes_move 5 (some 74) [] (.pointer (some ⟨g, 0, none⟩)) (Go.Operand.tmp 0) (fun v => by kernel_rfl) (fun v => by kernel_rfl),
    owes_nil 6 (some 75) [5] (Go.Operand.tmp 74) _ (fun v => by kernel_rfl) (fun v => by kernel_rfl),
    owes_field 7 (some 76) [5, 6] (.pointer (some ⟨g, 1, none⟩)) 35 (Go.Operand.tmp 75) 1 (.pointer (some ⟨g, 0, none⟩)) (fun v => by kernel_rfl) (fun v => by kernel_rfl) (fun w => by kernel_rfl),
    owes_load 8 (some 77) [5, 6, 7] (.int .i64 (k : Int)) 3 (Go.Operand.tmp 76) (.pointer (some ⟨g, 1, none⟩)) (fun v => by kernel_rfl) (fun v => by kernel_rfl) (fun w' hb' => load_i64 g 1 w' _ ((((Below.drewNr (w := W4) 1).trans hb').cell (p := ⟨g, 1, none⟩) (lt_heap h_g)).trans c1)),
    owes_move 9 (some 78) [] (.slice Bl nb cb) (Go.Operand.tmp 2) (fun v => by kernel_rfl) (fun v => by kernel_rfl),
    owes_lenB 10 (some 79) [9] (.int .i64 (nb : Int)) (.tmp 78) 25 3 (.slice Bl nb cb) (fun v => by kernel_rfl) (by kernel_rfl) (fun v => by kernel_rfl) (fun w => by kernel_rfl),
    owes_move 11 (some 80) [] (.pointer (some ⟨g, 0, none⟩)) (Go.Operand.tmp 0) (fun v => by kernel_rfl) (fun v => by kernel_rfl),
    owes_nil 12 (some 81) [11] (Go.Operand.tmp 80) _ (fun v => by kernel_rfl) (fun v => by kernel_rfl),
    owes_field 13 (some 82) [11, 12] (.pointer (some ⟨g, 1, none⟩)) 35 (Go.Operand.tmp 81) 1 (.pointer (some ⟨g, 0, none⟩)) (fun v => by kernel_rfl) (fun v => by kernel_rfl) (fun w => by kernel_rfl),
    owes_load 14 (some 83) [11, 12, 13] (.int .i64 (k : Int)) 3 (Go.Operand.tmp 82) (.pointer (some ⟨g, 1, none⟩)) (fun v => by kernel_rfl) (fun v => by kernel_rfl) (fun w' hb' => load_i64 g 1 w' _ ((((Below.drewNr (w := W4) 1).trans hb').cell (p := ⟨g, 1, none⟩) (lt_heap h_g)).trans c1)),
    owes_bin 15 (some 84) [9, 10, 11, 12, 13, 14] (.int .i64 ((nb : Int) - (k : Int))) Go.BinOp.sub 3 (Go.Operand.tmp 79) (Go.Operand.tmp 83) 3 (.int .i64 (nb : Int)) (.int .i64 (k : Int)) (fun v => by kernel_rfl) (fun v => by kernel_rfl) (fun w => sub_iq _ _ _ nb k hkn (by omega) w),
    owes_min 16 (some 85) [9, 10, 11, 12, 13, 14, 15] (.int .i64 (mm : Int)) (.const (.int .i64 200)) (.tmp 84) 3 3 3 (.int .i64 200) (.int .i64 ((nb : Int) - (k : Int))) (fun v => by kernel_rfl) (by kernel_rfl) (fun v => by kernel_rfl) hmin,
    owes_bin 17 (some 86) [5, 6, 7, 8, 9, 10, 11, 12, 13, 14, 15, 16] (.int .i64 ((k : Int) + (mm : Int))) Go.BinOp.add 3 (Go.Operand.tmp 77) (Go.Operand.tmp 85) 3 (.int .i64 (k : Int)) (.int .i64 (mm : Int)) (fun v => by kernel_rfl) (fun v => by kernel_rfl) (fun w => add_iq _ _ _ k mm (by omega) w),
    owes_slice 18 (some 87) [0, 1, 2, 3, 4, 5, 6, 7, 8, 9, 10, 11, 12, 13, 14, 15, 16, 17] (.slice (cutA Bl k cb) mm (cb - k)) 25 (Go.Operand.tmp 69) (some (Go.Operand.tmp 73)) (some (Go.Operand.tmp 86)) none (.slice Bl nb cb) (some (.int .i64 (k : Int))) (some (.int .i64 ((k : Int) + (mm : Int)))) none (fun v => by kernel_rfl) (fun v => by kernel_rfl) (fun w => hsl w),
    owes_call_o 19 (some 88) [0, 1, 2, 3, 4, 5, 6, 7, 8, 9, 10, 11, 12, 13, 14, 15, 16, 17, 18] (OwnQ W4.heap.size mm ((xs.drop k).take mm)) 31 #[Go.Operand.tmp 87] #[25] (fun v => by kernel_rfl) (fun _ _ => by kernel_rfl) OwnQ.mono (fun v w' hb ho => by
        exact ⟨#[.slice (cutA Bl k cb) mm (cb - k)], by kernel_rfl, (hby w' ((Below.drewNr (w := W4) 1).trans hb)).mono (fun _ _ h => h)⟩),
    owes_field 20 (some 89) [0, 1, 2, 3, 4, 5, 6, 7, 8, 9, 10, 11, 12, 13, 14, 15, 16, 17, 18, 19] (.pointer (some ⟨N, 35, none⟩)) 40 (Go.Operand.tmp 8) 4 (.pointer (some ⟨N, 0, none⟩)) (fun v => by kernel_rfl) (fun v => by kernel_rfl) (fun w => by kernel_rfl), trivial⟩ ?_
  intro v V hbV hall
  obtain ⟨A, c, e19, hr, hlo⟩ := hall.open_ 19 _ _ (OwnQ W4.heap.size mm ((xs.drop k).take mm)) rfl
  clear hall
  simp only [putsL_k, putsL_o, putsL_nil, List.set_cons_zero, List.set_cons_succ]
  rw [e19]
  clear hnb
  replace hbV := (Below.drewNr (w := W4) 1).trans hbV
  clear e19 c1 hby hmin hsl z0 z1
  replace h_g := heap_below h_g hbV
  replace h_X := heap_below h_X hbV
  replace h_O := heap_below h_O hbV
  replace h_N := heap_below h_N hbV
  replace hB1 := hB1.below hbV
  replace hb := hb.trans (hbV.mono hs)
  replace hs := Nat.le_trans hs hbV.size
  clear hbV 
  have q5 : V.cell? ⟨N, 35, none⟩ = some (.slice none 0 0) := cell_heap h_N (rq_c35 _ _ _ _ _)
  have f5 := thaw_heap h_N 35
  go_upto_region 19 with (fail)
  refine wp_world (fun W => Below n0 w W ∧ n0 ≤ W.heap.size ∧ W.heap[g]? = some (.cells (uv 2 (k : Int) a 0) 35 (0, 0)) ∧ W.heap[X]? = some (.cells (arr8 32 f) 37 (0, 0)) ∧ W.heap[O]? = some (.cells (rqA 0 zf 0 0 (.slice none 0 0)) 40 (0, 0)) ∧ W.heap[N]? = some (.cells (rqA 2 f (k : Int) 0 (.slice A mm c)) 40 (0, 0)) ∧ SlRead W A (ints .u8 ((xs.drop k).take mm))) ⟨(set_turnH V N 35 _).below hb hs (fun q e => by rw [e]; exact o_N), by rw [heap_size_setCellQ]; exact hs, (heap_setCell_other V ⟨N, 35, none⟩ g _ (by show g ≠ N; omega)).trans h_g, (heap_setCell_other V ⟨N, 35, none⟩ X _ (by show X ≠ N; omega)).trans h_X, (heap_setCell_other V ⟨N, 35, none⟩ O _ (by show O ≠ N; omega)).trans h_O, (by rw [← rq_set35 2 f (k : Int) 0 (.slice none 0 0)]; exact heap_setCell_same V N 35 _ _ _ h_N), slread_turnQ hr (set_turnH V N 35 _) (fun x e hx => by have := hlo x e; have hx2 : x.block = N := hx; omega)⟩ ?_
  clear hb hs h_g h_X h_O h_N q5 f5 hr hB1 
  rintro W5 ⟨hb, hs, h_g, h_X, h_O, h_N, hr⟩
  have hr3 := slread_turnQ hr (set_turnRowQ W5 O (rqA 2 f (k : Int) 0 (.slice A mm c))) (fun x e hx => by have := hlo x e; have hx2 : x.block = O := hx; omega)
  clear hr
  go_wp2_with (first | (refine wpList_load_row rfl 40 _ rfl N rfl _ _ _ _ h_N Tryd.underlying40 rfl (rq_info _ _ _ _ _) ?_) | (refine wpList_store_row rfl 40 _ _ rfl O (rqA 2 f (k : Int) 0 (.slice A mm c)) rfl rfl _ _ h_O (rq_info _ _ _ _ _) (rq_szs _ _ _ _ _ _ _ _ _ _) (rq_one _ _ _ _ _ _ _) ?_))
  refine bodyPost_ret (results_row_tmp rfl _ _ O _ (rqA 2 f (k : Int) 0 (.slice A mm c)) _ _ rfl (setRow_heap _ _ _ _ _ _ h_O) _ rfl Tryd.underlying40 rfl (rq_info _ _ _ _ _)) rfl ?_
  rw [HY.out.2] at hr3
  exact ⟨A, mm, c, rfl, by rw [← HY.out.2, HY.out.1], hr3, below_setRow hb o_O _⟩
end
end Go.Proofs.YtffkjbbhbpaacaaDoor
