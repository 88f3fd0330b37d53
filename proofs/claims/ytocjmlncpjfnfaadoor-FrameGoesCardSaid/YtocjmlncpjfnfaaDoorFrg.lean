import Derived.Test.YtocjmlncpjfnfaaDoorFrf
import Derived.Stop.BytesEq
/-
  frame: SameRequest, SameResponse of one and the same; what is told, compared.
-/
namespace Go.Proofs.YtocjmlncpjfnfaaDoor
open Go.RowKit
theorem arr8_cellsQ (n : Nat) (f : Nat → BitVec 8) : arr8 n f = (((List.range n).map fun i => UInt8.ofBitVec (f i)).map Extern.Stop.cell).toArray := by
  unfold arr8
  rw [List.map_map]
  congr 1
theorem size_u8Q (w : World) : (sizeOf 5).run Tryd.prog w = .ok 1 w := by kernel_rfl
theorem equalHs (f : Nat → BitVec 8) (w : World) : (Op.equalIn 10000 23 (.agg (arr8 32 f)) (.agg (arr8 32 f))).run Tryd.prog w = .ok true w := by
  rw [arr8_cellsQ, run_equalIn_bytes w 9998 23 5 32 Tryd.underlying23 Tryd.underlying5 size_u8Q _ _ (by simp) (by simp)]
  simp
theorem load_u32Q (b o : Nat) (w : World) (v : Value) (h : w.cell? ⟨b, o, none⟩ = some v) : (Instr.loadAt 24 (.pointer (some ⟨b, o, none⟩))).run Tryd.prog w = .ok v w := load_slice b o w 24 (fun w => by kernel_rfl) _ h
theorem eq_iq (t : TypeId) (x y : Operand) (a : Int) (w : World) : (do eqGuard .eql t x y (.int .i64 a) (.int .i64 a); binOp .eql t (.int .i64 a) (.int .i64 a) : Sem Value).run Tryd.prog w = .ok (.bool true) w := by
  simp [eqGuard, binOp, Op.intCmp]
theorem eq_uq (t : TypeId) (x y : Operand) (a : Int) (w : World) : (do eqGuard .eql t x y (.int .u32 a) (.int .u32 a); binOp .eql t (.int .u32 a) (.int .u32 a) : Sem Value).run Tryd.prog w = .ok (.bool true) w := by
  simp [eqGuard, binOp, Op.intCmp]
set_option maxRecDepth 100000 in
set_option maxHeartbeats 1600000 in
theorem samereq_any (op : Int) (f : Nat → BitVec 8) (off n : Int) (A B : Option Addr) (l c c' : Nat) (ys : List Int) (w : World) (hA : SlRead w A (ints .u8 ys)) (hB : SlRead w B (ints .u8 ys)) (hl : l = ys.length) (h9 : l ≤ 900) :
    Calls Tryd.prog 18 #[.agg (rqA op f off n (.slice A l c)), .agg (rqA op f off n (.slice B l c'))] w fun e w' => e = .returned (.bool true) ∧ Below w.heap.size w w' := by
  have hsm0 : ∀ W, Below w.heap.size w W → Calls Tryd.prog 9 #[.slice A l c, .slice B l c'] W fun e w'' => e = .returned (.bool true) ∧ Below W.heap.size W w'' := fun W hb => by
    have q := sameBytes_any A B ys ys c c' W (hA.below hb) (hB.below hb) (by omega) (by omega)
    rw [← hl, decide_eq_true (rfl : ys = ys)] at q
    refine q.mono ?_
    rintro e w'' ⟨rfl, k', rfl⟩
    exact ⟨rfl, Below.drewNr k'⟩
  clear hA hB hl h9
  obtain ⟨n0, hn0⟩ : ∃ n, n = w.heap.size := ⟨_, rfl⟩
  try rw [← hn0]
  have hb : Below n0 w w := by rw [hn0]; exact Below.refl _ _
  have hs : n0 ≤ w.heap.size := by rw [hn0]; exact Nat.le_refl _
  rw [← hn0] at hsm0
  clear hn0
  go_enter Tryd.func18, Tryd.ntmps18
  go_upto_region 1 with (fail)
  have o_X : n0 ≤ w.heap.size := hs
  have o_Y : n0 ≤ w.heap.size + 1 := by omega
  have l_X_Y : w.heap.size < w.heap.size + 1 := by omega
  refine wp_world (fun W => Below n0 w W ∧ n0 ≤ W.heap.size ∧ W.heap[w.heap.size]? = some (.cells (rqA op f off n (.slice A l c)) 27 (0, 0)) ∧ W.heap[w.heap.size + 1]? = some (.cells (rqA op f off n (.slice B l c')) 27 (0, 0))) ⟨(hb.trans ((below_alc w _).mono hs)).trans ((below_alc _ _).mono (Nat.le_trans hs (below_alc w _).size)), Nat.le_trans (Nat.le_trans hs (below_alc w _).size) (below_alc _ _).size, heap2_0 _ _ _, heap2_1 _ _ _⟩ ?_
  clear hb hs 
  rintro W1 ⟨hb, hs, h_X, h_Y⟩
  generalize w.heap.size = X at *
  generalize X + 1 = Y at *
  have hsm := hsm0 W1 hb
  clear hsm0
  refine wp_region_lit ?_
  refine wpList_run (by kernel_rfl) (.pointer (some ⟨X, 0, none⟩)) (W1) (exec_field (vx := .pointer (some ⟨X, 0, none⟩)) rfl (by kernel_rfl) (by kernel_rfl)) ?_
  refine wpList_run (by kernel_rfl) (.int .i64 op) (W1) (exec_load (vx := .pointer (some ⟨X, 0, none⟩)) rfl (by kernel_rfl) (load_i64 X 0 W1 _ (cell_heap h_X (rq_c0 _ _ _ _ _)))) ?_
  refine wpList_run (by kernel_rfl) (.pointer (some ⟨Y, 0, none⟩)) (W1) (exec_field (vx := .pointer (some ⟨Y, 0, none⟩)) rfl (by kernel_rfl) (by kernel_rfl)) ?_
  refine wpList_run (by kernel_rfl) (.int .i64 op) (W1) (exec_load (vx := .pointer (some ⟨Y, 0, none⟩)) rfl (by kernel_rfl) (load_i64 Y 0 W1 _ (cell_heap h_Y (rq_c0 _ _ _ _ _)))) ?_
  refine wpList_run (by kernel_rfl) (.bool true) (W1) (exec_bin (vx := .int .i64 op) (vy := .int .i64 op) rfl (by kernel_rfl) (eq_iq _ _ _ op W1)) ?_
  try simp only [put_list, List.set_cons_zero, List.set_cons_succ]
  refine wpList_run (by kernel_rfl) (.bool true) (W1) (exec_move rfl (by kernel_rfl)) ?_
  refine wpList_runG (by kernel_rfl) (.pointer (some ⟨X, 1, none⟩)) (W1) (exec_field (vx := .pointer (some ⟨X, 0, none⟩)) rfl (by kernel_rfl) (by kernel_rfl)) ?_
  refine wpList_runG (by kernel_rfl) (.agg (arr8 32 f)) (W1) (exec_load (vx := .pointer (some ⟨X, 1, none⟩)) rfl (by kernel_rfl) (load_rowQ W1 X f (rq_blob h_X))) ?_
  refine wpList_runG (by kernel_rfl) (.pointer (some ⟨Y, 1, none⟩)) (W1) (exec_field (vx := .pointer (some ⟨Y, 0, none⟩)) rfl (by kernel_rfl) (by kernel_rfl)) ?_
  refine wpList_runG (by kernel_rfl) (.agg (arr8 32 f)) (W1) (exec_load (vx := .pointer (some ⟨Y, 1, none⟩)) rfl (by kernel_rfl) (load_rowQ W1 Y f (rq_blob h_Y))) ?_
  refine wpList_runG (by kernel_rfl) (.bool true) (W1) (exec_eqrow (cx := arr8 32 f) (cy := arr8 32 f) (b := true) (.inl rfl) rfl (by kernel_rfl) (by kernel_rfl) (equalHs f W1)) ?_
  try simp only [put_list, List.set_cons_zero, List.set_cons_succ]
  refine wpList_run (by kernel_rfl) (.bool true) (W1) (exec_pick (b := true) rfl (by kernel_rfl) (by kernel_rfl)) ?_
  refine wpList_run (by kernel_rfl) (.bool true) (W1) (exec_move rfl (by kernel_rfl)) ?_
  refine wpList_runG (by kernel_rfl) (.pointer (some ⟨X, 33, none⟩)) (W1) (exec_field (vx := .pointer (some ⟨X, 0, none⟩)) rfl (by kernel_rfl) (by kernel_rfl)) ?_
  refine wpList_runG (by kernel_rfl) (.int .u32 off) (W1) (exec_load (vx := .pointer (some ⟨X, 33, none⟩)) rfl (by kernel_rfl) (load_u32Q X 33 W1 _ (cell_heap h_X (rq_c33 _ _ _ _ _)))) ?_
  refine wpList_runG (by kernel_rfl) (.pointer (some ⟨Y, 33, none⟩)) (W1) (exec_field (vx := .pointer (some ⟨Y, 0, none⟩)) rfl (by kernel_rfl) (by kernel_rfl)) ?_
  refine wpList_runG (by kernel_rfl) (.int .u32 off) (W1) (exec_load (vx := .pointer (some ⟨Y, 33, none⟩)) rfl (by kernel_rfl) (load_u32Q Y 33 W1 _ (cell_heap h_Y (rq_c33 _ _ _ _ _)))) ?_
  try simp only [put_list, List.set_cons_zero, List.set_cons_succ]
  refine wpList_runG (by kernel_rfl) (.bool true) (W1) (exec_bin (vx := .int .u32 off) (vy := .int .u32 off) rfl (by kernel_rfl) (eq_uq _ _ _ off W1)) ?_
  refine wpList_run (by kernel_rfl) (.bool true) (W1) (exec_pick (b := true) rfl (by kernel_rfl) (by kernel_rfl)) ?_
  refine wpList_run (by kernel_rfl) (.bool true) (W1) (exec_move rfl (by kernel_rfl)) ?_
  refine wpList_runG (by kernel_rfl) (.pointer (some ⟨X, 34, none⟩)) (W1) (exec_field (vx := .pointer (some ⟨X, 0, none⟩)) rfl (by kernel_rfl) (by kernel_rfl)) ?_
  refine wpList_runG (by kernel_rfl) (.int .u32 n) (W1) (exec_load (vx := .pointer (some ⟨X, 34, none⟩)) rfl (by kernel_rfl) (load_u32Q X 34 W1 _ (cell_heap h_X (rq_c34 _ _ _ _ _)))) ?_
  refine wpList_runG (by kernel_rfl) (.pointer (some ⟨Y, 34, none⟩)) (W1) (exec_field (vx := .pointer (some ⟨Y, 0, none⟩)) rfl (by kernel_rfl) (by kernel_rfl)) ?_
  try simp only [put_list, List.set_cons_zero, List.set_cons_succ]
  refine wpList_runG (by kernel_rfl) (.int .u32 n) (W1) (exec_load (vx := .pointer (some ⟨Y, 34, none⟩)) rfl (by kernel_rfl) (load_u32Q Y 34 W1 _ (cell_heap h_Y (rq_c34 _ _ _ _ _)))) ?_
  refine wpList_runG (by kernel_rfl) (.bool true) (W1) (exec_bin (vx := .int .u32 n) (vy := .int .u32 n) rfl (by kernel_rfl) (eq_uq _ _ _ n W1)) ?_
  refine wpList_run (by kernel_rfl) (.bool true) (W1) (exec_pick (b := true) rfl (by kernel_rfl) (by kernel_rfl)) ?_
  refine wpList_run (by kernel_rfl) (.bool true) (W1) (exec_move rfl (by kernel_rfl)) ?_
  refine wpList_runG (by kernel_rfl) (.pointer (some ⟨X, 35, none⟩)) (W1) (exec_field (vx := .pointer (some ⟨X, 0, none⟩)) rfl (by kernel_rfl) (by kernel_rfl)) ?_
  refine wpList_runG (by kernel_rfl) (.slice A l c) (W1) (exec_load (vx := .pointer (some ⟨X, 35, none⟩)) rfl (by kernel_rfl) (load_slice X 35 W1 25 (fun w => by kernel_rfl) _ (cell_heap h_X (rq_c35 _ _ _ _ _)))) ?_
  try simp only [put_list, List.set_cons_zero, List.set_cons_succ]
  refine wpList_runG (by kernel_rfl) (.pointer (some ⟨Y, 35, none⟩)) (W1) (exec_field (vx := .pointer (some ⟨Y, 0, none⟩)) rfl (by kernel_rfl) (by kernel_rfl)) ?_
  refine wpList_runG (by kernel_rfl) (.slice B l c') (W1) (exec_load (vx := .pointer (some ⟨Y, 35, none⟩)) rfl (by kernel_rfl) (load_slice Y 35 W1 25 (fun w => by kernel_rfl) _ (cell_heap h_Y (rq_c35 _ _ _ _ _)))) ?_
  refine wpList_call (by kernel_rfl) 9 #[Go.Operand.tmp 33, Go.Operand.tmp 35] #[25, 25] #[.slice A l c, .slice B l c'] _ rfl (by kernel_rfl) (by kernel_rfl) (hsm) ?_
  rintro e V ⟨rfl, hbV⟩
  refine ⟨_, rfl, ?_⟩
  refine wpList_run (by kernel_rfl) (.bool true) (V) (exec_pick (b := true) rfl (by kernel_rfl) (by kernel_rfl)) ?_
  refine wpList_run (by kernel_rfl) (.bool true) (V) (exec_assign rfl (by kernel_rfl)) ?_
  refine wpList_nil ?_
  simp only [put_list, List.set_cons_zero, List.set_cons_succ]
  go_wp2_with fail
  go_ret
  exact ⟨rfl, hb.trans (hbV.mono hs)⟩
set_option maxRecDepth 100000 in
set_option maxHeartbeats 1600000 in
theorem sameresp_any (code n : Int) (A B : Option Addr) (l c c' : Nat) (ys : List Int) (w : World) (hA : SlRead w A (ints .u8 ys)) (hB : SlRead w B (ints .u8 ys)) (hl : l = ys.length) (h9 : l ≤ 900) :
    Calls Tryd.prog 20 #[.agg (rsA code n (.slice A l c)), .agg (rsA code n (.slice B l c'))] w fun e w' => e = .returned (.bool true) ∧ Below w.heap.size w w' := by
  have hsm0 : ∀ W, Below w.heap.size w W → Calls Tryd.prog 9 #[.slice A l c, .slice B l c'] W fun e w'' => e = .returned (.bool true) ∧ Below W.heap.size W w'' := fun W hb => by
    have q := sameBytes_any A B ys ys c c' W (hA.below hb) (hB.below hb) (by omega) (by omega)
    rw [← hl, decide_eq_true (rfl : ys = ys)] at q
    refine q.mono ?_
    rintro e w'' ⟨rfl, k', rfl⟩
    exact ⟨rfl, Below.drewNr k'⟩
  clear hA hB hl h9
  obtain ⟨n0, hn0⟩ : ∃ n, n = w.heap.size := ⟨_, rfl⟩
  try rw [← hn0]
  have hb : Below n0 w w := by rw [hn0]; exact Below.refl _ _
  have hs : n0 ≤ w.heap.size := by rw [hn0]; exact Nat.le_refl _
  rw [← hn0] at hsm0
  clear hn0
  go_enter Tryd.func20, Tryd.ntmps20
  go_upto_region 1 with (fail)
  have o_X : n0 ≤ w.heap.size := hs
  have o_Y : n0 ≤ w.heap.size + 1 := by omega
  have l_X_Y : w.heap.size < w.heap.size + 1 := by omega
  refine wp_world (fun W => Below n0 w W ∧ n0 ≤ W.heap.size ∧ W.heap[w.heap.size]? = some (.cells (rsA code n (.slice A l c)) 29 (0, 0)) ∧ W.heap[w.heap.size + 1]? = some (.cells (rsA code n (.slice B l c')) 29 (0, 0))) ⟨(hb.trans ((below_alc w _).mono hs)).trans ((below_alc _ _).mono (Nat.le_trans hs (below_alc w _).size)), Nat.le_trans (Nat.le_trans hs (below_alc w _).size) (below_alc _ _).size, heap2_0 _ _ _, heap2_1 _ _ _⟩ ?_
  clear hb hs 
  rintro W1 ⟨hb, hs, h_X, h_Y⟩
  generalize w.heap.size = X at *
  generalize X + 1 = Y at *
  have hsm := hsm0 W1 hb
  clear hsm0
  refine wp_region_lit ?_
  refine wpList_run (by kernel_rfl) (.pointer (some ⟨X, 0, none⟩)) (W1) (exec_field (vx := .pointer (some ⟨X, 0, none⟩)) rfl (by kernel_rfl) (by kernel_rfl)) ?_
  refine wpList_run (by kernel_rfl) (.int .i64 code) (W1) (exec_load (vx := .pointer (some ⟨X, 0, none⟩)) rfl (by kernel_rfl) (load_i64 X 0 W1 _ (cell_heap h_X (rs_c0 _ _ _)))) ?_
  refine wpList_run (by kernel_rfl) (.pointer (some ⟨Y, 0, none⟩)) (W1) (exec_field (vx := .pointer (some ⟨Y, 0, none⟩)) rfl (by kernel_rfl) (by kernel_rfl)) ?_
  refine wpList_run (by kernel_rfl) (.int .i64 code) (W1) (exec_load (vx := .pointer (some ⟨Y, 0, none⟩)) rfl (by kernel_rfl) (load_i64 Y 0 W1 _ (cell_heap h_Y (rs_c0 _ _ _)))) ?_
  refine wpList_run (by kernel_rfl) (.bool true) (W1) (exec_bin (vx := .int .i64 code) (vy := .int .i64 code) rfl (by kernel_rfl) (eq_iq _ _ _ code W1)) ?_
  try simp only [put_list, List.set_cons_zero, List.set_cons_succ]
  refine wpList_run (by kernel_rfl) (.bool true) (W1) (exec_move rfl (by kernel_rfl)) ?_
  refine wpList_runG (by kernel_rfl) (.pointer (some ⟨X, 1, none⟩)) (W1) (exec_field (vx := .pointer (some ⟨X, 0, none⟩)) rfl (by kernel_rfl) (by kernel_rfl)) ?_
  refine wpList_runG (by kernel_rfl) (.int .u32 n) (W1) (exec_load (vx := .pointer (some ⟨X, 1, none⟩)) rfl (by kernel_rfl) (load_u32Q X 1 W1 _ (cell_heap h_X (rs_c1 _ _ _)))) ?_
  refine wpList_runG (by kernel_rfl) (.pointer (some ⟨Y, 1, none⟩)) (W1) (exec_field (vx := .pointer (some ⟨Y, 0, none⟩)) rfl (by kernel_rfl) (by kernel_rfl)) ?_
  refine wpList_runG (by kernel_rfl) (.int .u32 n) (W1) (exec_load (vx := .pointer (some ⟨Y, 1, none⟩)) rfl (by kernel_rfl) (load_u32Q Y 1 W1 _ (cell_heap h_Y (rs_c1 _ _ _)))) ?_
  refine wpList_runG (by kernel_rfl) (.bool true) (W1) (exec_bin (vx := .int .u32 n) (vy := .int .u32 n) rfl (by kernel_rfl) (eq_uq _ _ _ n W1)) ?_
  try simp only [put_list, List.set_cons_zero, List.set_cons_succ]
  refine wpList_run (by kernel_rfl) (.bool true) (W1) (exec_pick (b := true) rfl (by kernel_rfl) (by kernel_rfl)) ?_
  refine wpList_run (by kernel_rfl) (.bool true) (W1) (exec_move rfl (by kernel_rfl)) ?_
  refine wpList_runG (by kernel_rfl) (.pointer (some ⟨X, 2, none⟩)) (W1) (exec_field (vx := .pointer (some ⟨X, 0, none⟩)) rfl (by kernel_rfl) (by kernel_rfl)) ?_
  refine wpList_runG (by kernel_rfl) (.slice A l c) (W1) (exec_load (vx := .pointer (some ⟨X, 2, none⟩)) rfl (by kernel_rfl) (load_slice X 2 W1 25 (fun w => by kernel_rfl) _ (cell_heap h_X (rs_c2 _ _ _)))) ?_
  refine wpList_runG (by kernel_rfl) (.pointer (some ⟨Y, 2, none⟩)) (W1) (exec_field (vx := .pointer (some ⟨Y, 0, none⟩)) rfl (by kernel_rfl) (by kernel_rfl)) ?_
  refine wpList_runG (by kernel_rfl) (.slice B l c') (W1) (exec_load (vx := .pointer (some ⟨Y, 2, none⟩)) rfl (by kernel_rfl) (load_slice Y 2 W1 25 (fun w => by kernel_rfl) _ (cell_heap h_Y (rs_c2 _ _ _)))) ?_
  refine wpList_call (by kernel_rfl) 9 #[Go.Operand.tmp 19, Go.Operand.tmp 21] #[25, 25] #[.slice A l c, .slice B l c'] _ rfl (by kernel_rfl) (by kernel_rfl) (hsm) ?_
  rintro e V ⟨rfl, hbV⟩
  refine ⟨_, rfl, ?_⟩
  try simp only [put_list, List.set_cons_zero, List.set_cons_succ]
  refine wpList_run (by kernel_rfl) (.bool true) (V) (exec_pick (b := true) rfl (by kernel_rfl) (by kernel_rfl)) ?_
  refine wpList_run (by kernel_rfl) (.bool true) (V) (exec_assign rfl (by kernel_rfl)) ?_
  refine wpList_nil ?_
  simp only [put_list, List.set_cons_zero, List.set_cons_succ]
  go_wp2_with fail
  go_ret
  exact ⟨rfl, hb.trans (hbV.mono hs)⟩
theorem TellR.below {E : Nat → Addr} {o : Option (Nat × Int)} {v : Value} {w w' : World} (h : TellR E o v w) (hb : Below w.heap.size w w') : TellR E o v w' := by
  rcases o with _ | ⟨k, z⟩
  · exact h
  · obtain ⟨hk, bt, e, ha⟩ := h
    exact ⟨hk, bt, e, ha.below hb⟩
theorem same_tell (E : Nat → Addr) (o : Option (Nat × Int)) (v : Value) (w : World) (hE : ErrsAt E w) (h : TellR E o v w) : Calls Tryd.prog 19 #[v, .agg (fltR o)] w fun e w' => e = .returned (.bool true) ∧ Below w.heap.size w w' := by
  rcases o with _ | ⟨k, z⟩
  · obtain rfl : v = .nilIface := h
    exact same_any E .nilIface 0 0 (.inl ⟨rfl, rfl⟩) w hE
  · obtain ⟨hk, bt, rfl, ha⟩ := h
    exact same_at E bt k z hk w hE ha
theorem same_eqH (A B : Option Addr) (xs : List Int) (ca cb : Nat) (w : World) (hA : SlRead w A (ints .u8 xs)) (hB : SlRead w B (ints .u8 xs)) (hx : xs.length ≤ 100000000) :
    Quiets Tryd.prog 9 #[.slice A xs.length ca, .slice B xs.length cb] w (.bool true) := by
  have h := sameBytes_any A B xs xs ca cb w hA hB (by omega) (by omega)
  rw [show decide (xs = xs) = true by simp] at h
  exact h
theorem own_form {w : World} {base n : Nat} {v : Value} {ys : List Int} (h : w.ownsRow base 5 1 v n (ints .u8 ys)) (hn : ys.length = n) : ∃ A c, v = .slice A ys.length c ∧ SlRead w A (ints .u8 ys) ∧ ys.length ≤ c ∧ ∀ a, A = some a → base ≤ a.block := by
  obtain ⟨A, c, rfl, h1, _, h2⟩ := own_slice h
  subst hn
  exact ⟨A, c, rfl, SlRead.of_own h, h1, fun a ha => (h2 a ha).1⟩
/-- both have read the same request: it is the same, and what is told is the same -/
theorem both_req {xs : List Int} {a b : Nat} {r1 r2 : Array Value} {w : World} (h1 : RqP xs a r1 w) (h2 : RqP xs b r2 w) (hl : xs.length ≤ 900) :
    Calls Tryd.prog 18 #[.agg r1, .agg r2] w fun e w' => e = .returned (.bool true) ∧ Below w.heap.size w w' := by
  rcases h1 with ⟨ho, D1, rfl, hw1⟩ | ⟨ho, rfl⟩
  · rcases h2 with ⟨_, D2, rfl, hw2⟩ | ⟨ho2, _⟩
    · obtain ⟨A, c, rfl, hA, _⟩ := own_form hw1 (by simp)
      obtain ⟨B, c2, rfl, hB, _⟩ := own_form hw2 (by simp)
      exact samereq_any _ _ _ _ A B _ c c2 (xs.drop 45) w hA hB rfl (by simp; omega)
    · exact absurd ho ho2
  · rcases h2 with ⟨ho2, _⟩ | ⟨_, rfl⟩
    · exact absurd ho2 ho
    · exact samereq_any 0 zf 0 0 none none 0 0 0 [] w SlRead.nil_ SlRead.nil_ rfl (by omega)
theorem both_rsp {xs : List Int} {a b : Nat} {r1 r2 : Array Value} {w : World} (h1 : RsP xs a r1 w) (h2 : RsP xs b r2 w) (hl : xs.length ≤ 900) :
    Calls Tryd.prog 20 #[.agg r1, .agg r2] w fun e w' => e = .returned (.bool true) ∧ Below w.heap.size w w' := by
  rcases h1 with ⟨ho, D1, rfl, hw1⟩ | ⟨ho, rfl⟩
  · rcases h2 with ⟨_, D2, rfl, hw2⟩ | ⟨ho2, _⟩
    · obtain ⟨A, c, rfl, hA, _⟩ := own_form hw1 (by simp)
      obtain ⟨B, c2, rfl, hB, _⟩ := own_form hw2 (by simp)
      exact sameresp_any _ _ A B _ c c2 (xs.drop 9) w hA hB rfl (by simp; omega)
    · exact absurd ho ho2
  · rcases h2 with ⟨ho2, _⟩ | ⟨_, rfl⟩
    · exact absurd ho2 ho
    · exact sameresp_any 0 0 none none 0 0 0 [] w SlRead.nil_ SlRead.nil_ rfl (by omega)
theorem RqP.below {xs : List Int} {a : Nat} {r : Array Value} {w w' : World} (h : RqP xs a r w) (hb : Below w.heap.size w w') : RqP xs a r w' := by
  rcases h with ⟨ho, D, hr, hw⟩ | h
  · exact .inl ⟨ho, D, hr, own_kept hw fun k hk => hb.block k (own_lowlt hw hk).2⟩
  · exact .inr h
theorem RsP.below {xs : List Int} {a : Nat} {r : Array Value} {w w' : World} (h : RsP xs a r w) (hb : Below w.heap.size w w') : RsP xs a r w' := by
  rcases h with ⟨ho, D, hr, hw⟩ | h
  · exact .inl ⟨ho, D, hr, own_kept hw fun k hk => hb.block k (own_lowlt hw hk).2⟩
  · exact .inr h
theorem RqP.form {xs : List Int} {a : Nat} {r : Array Value} {w : World} (h : RqP xs a r w) : ∃ op f off n A l c, r = rqA op f off n (.slice A l c) := by
  rcases h with ⟨_, D, rfl, hw⟩ | ⟨_, rfl⟩
  · obtain ⟨A, c, rfl, _⟩ := own_form hw (by simp)
    exact ⟨_, _, _, _, _, _, _, rfl⟩
  · exact ⟨_, _, _, _, _, _, _, rfl⟩
theorem RsP.form {xs : List Int} {a : Nat} {r : Array Value} {w : World} (h : RsP xs a r w) : ∃ code n A l c, r = rsA code n (.slice A l c) := by
  rcases h with ⟨_, D, rfl, hw⟩ | ⟨_, rfl⟩
  · obtain ⟨A, c, rfl, _⟩ := own_form hw (by simp)
    exact ⟨_, _, _, _, _, rfl⟩
  · exact ⟨_, _, _, _, _, rfl⟩
end Go.Proofs.YtocjmlncpjfnfaaDoor
