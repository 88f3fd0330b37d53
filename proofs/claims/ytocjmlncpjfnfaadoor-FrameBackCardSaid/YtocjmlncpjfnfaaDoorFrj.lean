import Derived.Test.YtocjmlncpjfnfaaDoorFri
/-
  FrameBack: the walk.
-/
namespace Go.Proofs.YtocjmlncpjfnfaaDoor
open Go.RowKit
set_option maxRecDepth 100000 in
set_option maxHeartbeats 6400000 in
theorem fback_walk (E : Nat → Addr) (op code : Int) (f : Nat → BitVec 8) (off n : Int) (A : Option Addr) (ys : List Int) (l c : Nat) (cut : Int) (w : World) (hE : ErrsAt E w) (hA : SlRead w A (ints .u8 ys)) (hy : Byts ys) (hyl : ys.length = l) (hf : 0 ≤ off ∧ off < 4294967296) (hn : 0 ≤ n ∧ n < 4294967296) :
    Calls Tryd.prog 4 #[.int .i64 op, .int .i64 code, .agg (arr8 32 f), .int .u32 off, .int .u32 n, .slice A l c, .int .i64 cut] w fun e w' => e = .returned (.bool true) ∧ Below w.heap.size w w' := by
  obtain ⟨o6, ho6⟩ : ∃ z, op % 6 = z := ⟨_, rfl⟩
  obtain ⟨o2, ho2⟩ : ∃ z, op % 200 = z := ⟨_, rfl⟩
  obtain ⟨c20, hc20⟩ : ∃ z, code % 20 = z := ⟨_, rfl⟩
  obtain ⟨c2, hc2⟩ : ∃ z, code % 200 = z := ⟨_, rfl⟩
  have r6 : 0 ≤ o6 ∧ o6 < 6 := by omega
  have r2 : 0 ≤ o2 ∧ o2 < 200 := by omega
  have s6 : 0 ≤ c20 ∧ c20 < 20 := by omega
  have s2 : 0 ≤ c2 ∧ c2 < 200 := by omega
  have HN6 := fun w => num_b op 6 o6 w (by omega) ho6
  have HN2 := fun w => num_b op 200 o2 w (by omega) ho2
  have HC6 := fun w => num_b code 20 c20 w (by omega) hc20
  have HC2 := fun w => num_b code 200 c2 w (by omega) hc2
  clear ho6 ho2 hc20 hc2
  have HY := Lib.hid hy
  have HF := Lib.hid (And.intro hf hn)
  clear hy hf hn
  obtain ⟨n0, hn0⟩ : ∃ n, n = w.heap.size := ⟨_, rfl⟩
  try rw [← hn0]
  have hb : Below n0 w w := by rw [hn0]; exact Below.refl _ _
  have hs : n0 ≤ w.heap.size := by rw [hn0]; exact Nat.le_refl _
  have HE0 := Lib.hid (fun (V : World) (h : Below n0 w V) => hE.below (by rw [← hn0]; exact h))
  have HA0 := Lib.hid (fun (V : World) (h : Below n0 w V) => hA.below (by rw [← hn0]; exact h))
  clear hn0
  go_enter Tryd.func4, Tryd.ntmps4
  go_upto_region 1 with (fail)
  have o_B : n0 ≤ w.heap.size := hs
  refine wp_world (fun W => Below n0 w W ∧ n0 ≤ W.heap.size ∧ W.heap[w.heap.size]? = some (.cells (arr8 32 f) 23 (0, 0)) ∧ ErrsAt E W ∧ SlRead W A (ints .u8 ys)) ⟨hb.trans ((below_alc w _).mono hs), Nat.le_trans hs (below_alc w _).size, heap1_0 _ _, hE.below (below_alc w _), hA.below (below_alc w _)⟩ ?_
  clear hb hs  hE hA
  rintro W1 ⟨hb, hs, h_B, hE, hA⟩
  generalize w.heap.size = B at *
  have HC := ffirst_any E W1 hE
  go_wp2_with fail
  refine HC.mono ?_
  rintro e N1 ⟨rfl, hbN⟩
  replace h_B := heap_below h_B hbN
  replace hE := hE.below hbN
  replace hA := hA.below hbN
  replace hb := hb.trans (hbN.mono hs)
  replace hs := Nat.le_trans hs hbN.size
  clear hbN HC
  by_cases h200 : 200 < l
  · have hb' := Lib.hid hb
    have h201 : (200 : Int) < (l : Int) := by omega
    clear h200
    go_wp2_with fail
    go_ret
    exact ⟨rfl, hb'.out⟩
  have h201 : ¬ (200 : Int) < (l : Int) := by omega
  go_upto_region 6 with (fail)
  refine region_cutG (fun a a' w' => ∃ Q, a' = (((((((((a.put (some 43) (.int .i64 op)).put (some 44) (.int .i64 o6)).put (some 45) (.int .i64 (1 + o6))).put (some 46) (.agg (arr8 32 f))).put (some 47) (.int .u32 off)).put (some 48) (.int .u32 n)).put (some 49) (.slice A l c)).put (some 50) (.agg (rqA (1 + o6) f off n (.slice A l c)))).put (some 16) (.pointer (some ⟨Q, 0, none⟩))) ∧ Below N1.heap.size N1 w' ∧ w'.heap[Q]? = some (.cells (rqA (1 + o6) f off n (.slice A l c)) 27 (0, 0)) ∧ N1.heap.size ≤ Q) ?_ ?_
  · skip
    refine wp_region_noPanic ?_
    refine wp_region_held_drew (S := fun W => Below N1.drew.heap.size N1.drew W) (by kernel_rfl) (Below.refl _ _) (fun hHeld => ?_)
    have hWD : Below N1.heap.size N1 N1.drew := Below.drewNr (w := N1) 1
    generalize N1.drew = WD at *
    refine held_move 0 (Go.Operand.tmp 0) (some 43) (.int .i64 op) (by kernel_rfl) (by kernel_rfl) (by kernel_rfl) (by kernel_rfl) (by kernel_rfl) (fun _ _ _ _ _ h => h) hHeld ?_
    refine held_load 3 23 (Go.Operand.tmp 9) (some 46) (B) (0) ((arr8 32 f).toList) _ (by kernel_rfl) (by kernel_rfl) (fun w h => range_new (heap_below (heap_below h_B hWD) h)) Tryd.underlying23 rfl (by simp only [Array.length_toList, arr8_size]; kernel_rfl) (by kernel_rfl) (by kernel_rfl) (by kernel_rfl) (fun _ _ _ _ _ h => h) hHeld ?_
    refine held_move 4 (Go.Operand.tmp 3) (some 47) (.int .u32 off) (by kernel_rfl) (by kernel_rfl) (by kernel_rfl) (by kernel_rfl) (by kernel_rfl) (fun _ _ _ _ _ h => h) hHeld ?_
    refine held_move 5 (Go.Operand.tmp 4) (some 48) (.int .u32 n) (by kernel_rfl) (by kernel_rfl) (by kernel_rfl) (by kernel_rfl) (by kernel_rfl) (fun _ _ _ _ _ h => h) hHeld ?_
    refine held_move 6 (Go.Operand.tmp 5) (some 49) (.slice A l c) (by kernel_rfl) (by kernel_rfl) (by kernel_rfl) (by kernel_rfl) (by kernel_rfl) (fun _ _ _ _ _ h => h) hHeld ?_
    refine held_ready [1, 8] (by kernel_rfl) (by simp) (rdy_call 1 13 #[Go.Operand.tmp 43, Go.Operand.const (Go.Value.int Go.IntKind.i64 6)] #[3, 3] (some 44) #[.int .i64 op, .int .i64 6] _ (by kernel_rfl) (by kernel_rfl) (by kernel_rfl) (HN6 WD) ?_ (rdy_run 8 (.alloc 27) 0 (some 16) (.pointer (some ⟨WD.heap.size, 0, none⟩)) (WD.alloc (.cells (rqA 0 zf 0 0 (.slice none 0 0)) 27)) (by kernel_rfl) (by kernel_rfl) (fun o ho _ => exec_allocQ ho) (below_alc WD _) ?_ AllReadyH.nil))
    · rintro e WN ⟨rfl, hbN⟩
      refine ⟨_, rfl, hbN, fun hHeld => ?_⟩
      refine held_bin 2 Go.BinOp.add 3 (Go.Operand.const (Go.Value.int Go.IntKind.i64 1)) (Go.Operand.tmp 44) 3 (some 45) (Go.Value.int Go.IntKind.i64 1) (.int .i64 o6) (.int .i64 (1 + o6)) (by kernel_rfl) (by kernel_rfl) (fun w => add_int _ _ _ w _ _ _ rfl (by omega) (by omega)) (by kernel_rfl) (by kernel_rfl) (by kernel_rfl) (fun _ _ _ _ _ h => h) hHeld ?_
      refine held_build 7 27 #[(0, Go.Operand.tmp 45), (1, Go.Operand.tmp 46), (2, Go.Operand.tmp 47), (3, Go.Operand.tmp 48), (4, Go.Operand.tmp 49)] (some 50) #[(0, .int .i64 (1 + o6)), (1, .agg (arr8 32 f)), (2, .int .u32 off), (3, .int .u32 n), (4, .slice A l c)] (.agg (rqA (1 + o6) f off n (.slice A l c))) (by kernel_rfl) (by kernel_rfl) (fun w => rq_build5 _ _ _ _ _ _ _ w) (by kernel_rfl) (by kernel_rfl) (by kernel_rfl) (fun _ _ _ _ _ h => h) hHeld ?_
      refine held_run 8 (Go.Op.alloc 27) 0 (some 16) (.pointer (some ⟨WN.heap.size, 0, none⟩)) (WN.alloc (.cells (rqA 0 zf 0 0 (.slice none 0 0)) 27)) (by kernel_rfl) (by kernel_rfl) (by kernel_rfl) (fun o ho ht => exec_allocQ ho) (hHeld.trans ((below_alc WN _).mono hHeld.size)) ?_
      intro hHeld
      refine held_skip 9 (Go.Op.store 27 (Go.Operand.tmp 16) (Go.Operand.tmp 50)) none ((WN.alloc (.cells (rqA 0 zf 0 0 (.slice none 0 0)) 27)).setRow WN.heap.size (rqA (1 + o6) f off n (.slice A l c))) (by kernel_rfl) (by kernel_rfl) (fun o ho => exec_store (vx := .pointer (some ⟨WN.heap.size, 0, none⟩)) (vy := .agg (rqA (1 + o6) f off n (.slice A l c))) ho (by kernel_rfl) (store_rowR 27 (WN.alloc (.cells (rqA 0 zf 0 0 (.slice none 0 0)) 27)) WN.heap.size (rqA (1 + o6) f off n (.slice A l c)) _ (heap1_0 WN _) (rq_info _ _ _ _ _) (rq_szs _ _ _ _ _ _ _ _ _ _) (rq_one _ _ _ _ _ _ _))) (below_setRow hHeld hbN.size _) ?_
      intro hHeld
      refine wpAnyH_done (by kernel_rfl) ?_ _
      refine NoPanic.normal ?_
      try simp only [Act.put, List.setIfInBounds_toArray, List.set_cons_zero, List.set_cons_succ]
      refine ⟨by trivial, WN.heap.size, ?_, hWD.trans (hHeld.mono hWD.size), setRow_heap _ _ _ _ _ _ (heap1_0 WN _), Nat.le_trans hWD.size hbN.size⟩
      simp only [put_list, List.set_cons_zero, List.set_cons_succ]
    · intro hHeld
      refine held_call 1 13 #[Go.Operand.tmp 43, Go.Operand.const (Go.Value.int Go.IntKind.i64 6)] #[3, 3] (some 44) #[.int .i64 op, Go.Value.int Go.IntKind.i64 6] _ (by kernel_rfl) (by kernel_rfl) (by kernel_rfl) (by kernel_rfl) (HN6 (WD.alloc (.cells (rqA 0 zf 0 0 (.slice none 0 0)) 27))) ?_
      rintro e WN ⟨rfl, hbN⟩
      have hbN2 := hHeld.trans (hbN.mono hHeld.size)
      have hgN := heap_below (heap1_0 WD (.cells (rqA 0 zf 0 0 (.slice none 0 0)) 27)) hbN
      refine ⟨_, rfl, hbN2, fun hHeld => ?_⟩
      refine held_bin 2 Go.BinOp.add 3 (Go.Operand.const (Go.Value.int Go.IntKind.i64 1)) (Go.Operand.tmp 44) 3 (some 45) (Go.Value.int Go.IntKind.i64 1) (.int .i64 o6) (.int .i64 (1 + o6)) (by kernel_rfl) (by kernel_rfl) (fun w => add_int _ _ _ w _ _ _ rfl (by omega) (by omega)) (by kernel_rfl) (by kernel_rfl) (by kernel_rfl) (fun _ _ _ _ _ h => h) hHeld ?_
      refine held_build 7 27 #[(0, Go.Operand.tmp 45), (1, Go.Operand.tmp 46), (2, Go.Operand.tmp 47), (3, Go.Operand.tmp 48), (4, Go.Operand.tmp 49)] (some 50) #[(0, .int .i64 (1 + o6)), (1, .agg (arr8 32 f)), (2, .int .u32 off), (3, .int .u32 n), (4, .slice A l c)] (.agg (rqA (1 + o6) f off n (.slice A l c))) (by kernel_rfl) (by kernel_rfl) (fun w => rq_build5 _ _ _ _ _ _ _ w) (by kernel_rfl) (by kernel_rfl) (by kernel_rfl) (fun _ _ _ _ _ h => h) hHeld ?_
      refine held_skip 9 (Go.Op.store 27 (Go.Operand.tmp 16) (Go.Operand.tmp 50)) none (WN.setRow WD.heap.size (rqA (1 + o6) f off n (.slice A l c))) (by kernel_rfl) (by kernel_rfl) (fun o ho => exec_store (vx := .pointer (some ⟨WD.heap.size, 0, none⟩)) (vy := .agg (rqA (1 + o6) f off n (.slice A l c))) ho (by kernel_rfl) (store_rowR 27 WN WD.heap.size (rqA (1 + o6) f off n (.slice A l c)) _ hgN (rq_info _ _ _ _ _) (rq_szs _ _ _ _ _ _ _ _ _ _) (rq_one _ _ _ _ _ _ _))) (below_setRow hHeld (Nat.le_refl _) _) ?_
      intro hHeld
      refine wpAnyH_done (by kernel_rfl) ?_ _
      refine NoPanic.normal ?_
      try simp only [Act.put, List.setIfInBounds_toArray, List.set_cons_zero, List.set_cons_succ]
      refine ⟨by trivial, WD.heap.size, ?_, hWD.trans (hHeld.mono hWD.size), setRow_heap _ _ _ _ _ _ hgN, hWD.size⟩
      simp only [put_list, List.set_cons_zero, List.set_cons_succ]
  rintro a' N0 ⟨Q, rfl, hbN, h_Q, hQl⟩
  have l_B_Q : B < Q := Nat.lt_of_lt_of_le (lt_heap h_B) hQl
  have o_Q : n0 ≤ Q := Nat.le_trans hs hQl
  clear hQl
  replace h_B := heap_below h_B hbN
  replace hE := hE.below hbN
  replace hA := hA.below hbN
  replace hb := hb.trans (hbN.mono hs)
  replace hs := Nat.le_trans hs hbN.size
  clear hbN HN6
  simp only [put_list, List.set_cons_zero, List.set_cons_succ]
  have HC := HC6 N0
  go_wp2_with fail
  refine HC.mono ?_
  rintro e N2 ⟨rfl, hbN⟩
  replace h_B := heap_below h_B hbN
  replace h_Q := heap_below h_Q hbN
  replace hE := hE.below hbN
  replace hA := hA.below hbN
  replace hb := hb.trans (hbN.mono hs)
  replace hs := Nat.le_trans hs hbN.size
  clear hbN HC HC6
  go_upto_region 8 with (first | (refine wpList_build rfl 29 _ rfl #[(0, .int .i64 c20), (1, .int .u32 n), (2, .slice A l c)] (by kernel_rfl) (.agg (rsA c20 n (.slice A l c))) (fun w => rs_build3 _ _ _ _ _ w) ?_) | (refine wpList_store_row rfl 29 _ _ rfl N2.heap.size (rsA c20 n (.slice A l c)) rfl rfl _ _ (heap1_0 _ _) (rs_info _ _ _) (by kernel_rfl) (rs_one _ _ _ _ _) ?_; rw [alloc_setRow]))
  have l_B_R : B < N2.heap.size := lt_heap h_B
  have l_Q_R : Q < N2.heap.size := lt_heap h_Q
  have o_R : n0 ≤ N2.heap.size := hs
  refine wp_world (fun W => Below n0 w W ∧ n0 ≤ W.heap.size ∧ W.heap[B]? = some (.cells (arr8 32 f) 23 (0, 0)) ∧ W.heap[Q]? = some (.cells ((rqA (1 + o6) f off n (.slice A l c))) 27 (0, 0)) ∧ W.heap[N2.heap.size]? = some (.cells (rsA c20 n (.slice A l c)) 29 (0, 0)) ∧ ErrsAt E W ∧ SlRead W A (ints .u8 ys)) ⟨hb.trans ((below_alc N2 _).mono hs), Nat.le_trans hs (below_alc N2 _).size, heap_below h_B (below_alc N2 _), heap_below h_Q (below_alc N2 _), heap1_0 _ _, hE.below (below_alc N2 _), hA.below (below_alc N2 _)⟩ ?_
  clear hb hs h_B h_Q hE hA
  rintro W2 ⟨hb, hs, h_B, h_Q, h_R, hE, hA⟩
  generalize N2.heap.size = R at *
  obtain ⟨L1, hL1⟩ : ∃ L, 45 + ys.length = L := ⟨_, rfl⟩
  obtain ⟨L2, hL2⟩ : ∃ L, 9 + ys.length = L := ⟨_, rfl⟩
  have HL := Lib.hid (And.intro hyl (And.intro hL1 hL2))
  have hLi : (L1 : Int) = 45 + l ∧ (L2 : Int) = 9 + l := by omega
  have HLI := Lib.hid hLi
  clear hyl hL1 hL2 hLi
  have HC := req_w (1 + o6) f off n A ys l c L1 W2 hA HL.out.1 HL.out.2.1 (by omega)
  go_wp2_with (refine wpList_load_row rfl 27 _ rfl Q rfl _ _ _ _ h_Q Tryd.underlying27 rfl (rq_info _ _ _ _ _) ?_)
  refine HC.mono ?_
  rintro e N3 ⟨Ab, cb, rfl, hAb, hcb, _, hbN⟩
  replace h_B := heap_below h_B hbN
  replace h_Q := heap_below h_Q hbN
  replace h_R := heap_below h_R hbN
  replace hE := hE.below hbN
  replace hA := hA.below hbN
  replace hb := hb.trans (hbN.mono hs)
  replace hs := Nat.le_trans hs hbN.size
  clear hbN HC
  have HCB := Lib.hid hcb
  clear hcb
  have HC := rsp_w c20 n A ys l c L2 N3 hA HL.out.1 HL.out.2.2 (by omega)
  go_wp2_with (refine wpList_load_row rfl 29 _ rfl R rfl _ _ _ _ h_R Tryd.underlying29 rfl (rs_info _ _ _) ?_)
  refine HC.mono ?_
  rintro e N4 ⟨Ac, cc, rfl, hAc, hcc, _, hbN⟩
  replace h_B := heap_below h_B hbN
  replace h_Q := heap_below h_Q hbN
  replace h_R := heap_below h_R hbN
  replace hE := hE.below hbN
  replace hA := hA.below hbN
  replace hAb := hAb.below hbN
  replace hb := hb.trans (hbN.mono hs)
  replace hs := Nat.le_trans hs hbN.size
  clear hbN HC
  have HCC := Lib.hid hcc
  clear hcc
  have HC := req_yes E Ab (1 + o6) f off n ys L1 l cb N4 hAb HL.out.2.1 HL.out.1 HY.out (by omega) hE (by omega) HF.out.1 HF.out.2
  go_wp2_with fail
  refine HC.mono ?_
  rintro e N5 ⟨Bx, cx, rfl, hBx, _, _, hbN⟩
  replace h_B := heap_below h_B hbN
  replace h_Q := heap_below h_Q hbN
  replace h_R := heap_below h_R hbN
  replace hE := hE.below hbN
  replace hA := hA.below hbN
  replace hAb := hAb.below hbN
  replace hAc := hAc.below hbN
  replace hb := hb.trans (hbN.mono hs)
  replace hs := Nat.le_trans hs hbN.size
  clear hbN HC
  go_upto_region 11 with (refine wpList_store_row rfl 27 _ _ rfl N5.heap.size (rqA (1 + o6) f off n (.slice Bx l cx)) rfl rfl _ _ (heap1_0 _ _) (rq_info _ _ _ _ _) (by kernel_rfl) (rq_one _ _ _ _ _ _ _) ?_; rw [alloc_setRow])
  have l_B_X : B < N5.heap.size := lt_heap h_B
  have l_Q_X : Q < N5.heap.size := lt_heap h_Q
  have l_R_X : R < N5.heap.size := lt_heap h_R
  have o_X : n0 ≤ N5.heap.size := hs
  refine wp_world (fun W => Below n0 w W ∧ n0 ≤ W.heap.size ∧ W.heap[B]? = some (.cells (arr8 32 f) 23 (0, 0)) ∧ W.heap[Q]? = some (.cells ((rqA (1 + o6) f off n (.slice A l c))) 27 (0, 0)) ∧ W.heap[R]? = some (.cells (rsA c20 n (.slice A l c)) 29 (0, 0)) ∧ W.heap[N5.heap.size]? = some (.cells (rqA (1 + o6) f off n (.slice Bx l cx)) 27 (0, 0)) ∧ ErrsAt E W ∧ SlRead W A (ints .u8 ys) ∧ SlRead W Ab (ints .u8 (rqB (1 + o6) f off n ys)) ∧ SlRead W Ac (ints .u8 (rsB c20 n ys)) ∧ SlRead W Bx (ints .u8 ys)) ⟨hb.trans ((below_alc N5 _).mono hs), Nat.le_trans hs (below_alc N5 _).size, heap_below h_B (below_alc N5 _), heap_below h_Q (below_alc N5 _), heap_below h_R (below_alc N5 _), heap1_0 _ _, hE.below (below_alc N5 _), hA.below (below_alc N5 _), hAb.below (below_alc N5 _), hAc.below (below_alc N5 _), hBx.below (below_alc N5 _)⟩ ?_
  clear hb hs h_B h_Q h_R hE hA hAb hAc hBx
  rintro W3 ⟨hb, hs, h_B, h_Q, h_R, h_X, hE, hA, hAb, hAc, hBx⟩
  generalize N5.heap.size = X at *
  have HC := rsp_yes E Ac c20 n ys L2 l cc W3 hAc HL.out.2.2 HL.out.1 HY.out (by omega) hE (by omega) HF.out.2
  go_wp2_with fail
  refine HC.mono ?_
  rintro e N6 ⟨By, cy, rfl, hBy, _, _, hbN⟩
  replace h_B := heap_below h_B hbN
  replace h_Q := heap_below h_Q hbN
  replace h_R := heap_below h_R hbN
  replace h_X := heap_below h_X hbN
  replace hE := hE.below hbN
  replace hA := hA.below hbN
  replace hAb := hAb.below hbN
  replace hAc := hAc.below hbN
  replace hBx := hBx.below hbN
  replace hb := hb.trans (hbN.mono hs)
  replace hs := Nat.le_trans hs hbN.size
  clear hbN HC
  go_upto_region 12 with (refine wpList_store_row rfl 29 _ _ rfl N6.heap.size (rsA c20 n (.slice By l cy)) rfl rfl _ _ (heap1_0 _ _) (rs_info _ _ _) (by kernel_rfl) (rs_one _ _ _ _ _) ?_; rw [alloc_setRow])
  have l_B_Y : B < N6.heap.size := lt_heap h_B
  have l_Q_Y : Q < N6.heap.size := lt_heap h_Q
  have l_R_Y : R < N6.heap.size := lt_heap h_R
  have l_X_Y : X < N6.heap.size := lt_heap h_X
  have o_Y : n0 ≤ N6.heap.size := hs
  refine wp_world (fun W => Below n0 w W ∧ n0 ≤ W.heap.size ∧ W.heap[B]? = some (.cells (arr8 32 f) 23 (0, 0)) ∧ W.heap[Q]? = some (.cells ((rqA (1 + o6) f off n (.slice A l c))) 27 (0, 0)) ∧ W.heap[R]? = some (.cells (rsA c20 n (.slice A l c)) 29 (0, 0)) ∧ W.heap[X]? = some (.cells (rqA (1 + o6) f off n (.slice Bx l cx)) 27 (0, 0)) ∧ W.heap[N6.heap.size]? = some (.cells (rsA c20 n (.slice By l cy)) 29 (0, 0)) ∧ ErrsAt E W ∧ SlRead W A (ints .u8 ys) ∧ SlRead W Ab (ints .u8 (rqB (1 + o6) f off n ys)) ∧ SlRead W Ac (ints .u8 (rsB c20 n ys)) ∧ SlRead W Bx (ints .u8 ys) ∧ SlRead W By (ints .u8 ys)) ⟨hb.trans ((below_alc N6 _).mono hs), Nat.le_trans hs (below_alc N6 _).size, heap_below h_B (below_alc N6 _), heap_below h_Q (below_alc N6 _), heap_below h_R (below_alc N6 _), heap_below h_X (below_alc N6 _), heap1_0 _ _, hE.below (below_alc N6 _), hA.below (below_alc N6 _), hAb.below (below_alc N6 _), hAc.below (below_alc N6 _), hBx.below (below_alc N6 _), hBy.below (below_alc N6 _)⟩ ?_
  clear hb hs h_B h_Q h_R h_X hE hA hAb hAc hBx hBy
  rintro W4 ⟨hb, hs, h_B, h_Q, h_R, h_X, h_Y, hE, hA, hAb, hAc, hBx, hBy⟩
  generalize N6.heap.size = Y at *
  go_upto_region 12 with (fail)
  refine wp_region_lit ?_
  try simp only [put_list, List.set_cons_zero, List.set_cons_succ]
  refine wpList_run (by kernel_rfl) (.nilIface) (W4) (exec_move rfl (by kernel_rfl)) ?_
  try simp only [put_list, List.set_cons_zero, List.set_cons_succ]
  refine wpList_run (by kernel_rfl) (.bool false) (W4) (exec_bin (vx := .nilIface) (vy := Go.Value.nilIface) rfl (by kernel_rfl) (by kernel_rfl)) ?_
  try simp only [put_list, List.set_cons_zero, List.set_cons_succ]
  refine wpList_run (by kernel_rfl) (.bool false) (W4) (exec_move rfl (by kernel_rfl)) ?_
  try simp only [put_list, List.set_cons_zero, List.set_cons_succ]
  refine wpList_runG (by kernel_rfl) (.nilIface) (W4) (exec_move rfl (by kernel_rfl)) ?_
  try simp only [put_list, List.set_cons_zero, List.set_cons_succ]
  refine wpList_runG (by kernel_rfl) (.bool false) (W4) (exec_bin (vx := .nilIface) (vy := Go.Value.nilIface) rfl (by kernel_rfl) (by kernel_rfl)) ?_
  try simp only [put_list, List.set_cons_zero, List.set_cons_succ]
  refine wpList_run (by kernel_rfl) (.bool false) (W4) (exec_pick (b := false) rfl (by kernel_rfl) (by kernel_rfl)) ?_
  try simp only [put_list, List.set_cons_zero, List.set_cons_succ]
  refine wpList_run (by kernel_rfl) (.bool false) (W4) (exec_move rfl (by kernel_rfl)) ?_
  try simp only [put_list, List.set_cons_zero, List.set_cons_succ]
  refine wpList_runG (by kernel_rfl) (.agg (rqA (1 + o6) f off n (.slice Bx l cx))) (W4) (exec_load (vx := .pointer (some ⟨X, 0, none⟩)) rfl (by kernel_rfl) (ld_q X (rqA (1 + o6) f off n (.slice Bx l cx)) W4 (rq_info _ _ _ _ _) h_X)) ?_
  try simp only [put_list, List.set_cons_zero, List.set_cons_succ]
  refine wpList_runG (by kernel_rfl) (.agg (rqA (1 + o6) f off n (.slice A l c))) (W4) (exec_load (vx := .pointer (some ⟨Q, 0, none⟩)) rfl (by kernel_rfl) (ld_q Q (rqA (1 + o6) f off n (.slice A l c)) W4 (rq_info _ _ _ _ _) h_Q)) ?_
  refine wpList_call (by kernel_rfl) 18 #[Go.Operand.tmp 77, Go.Operand.tmp 78] #[27, 27] #[.agg (rqA (1 + o6) f off n (.slice Bx l cx)), .agg (rqA (1 + o6) f off n (.slice A l c))] _ rfl (by kernel_rfl) (by kernel_rfl) (samereq_any (1 + o6) f off n Bx A l cx c ys W4 hBx hA HL.out.1.symm (by omega)) ?_
  rintro e VV ⟨rfl, hbN⟩
  replace h_B := heap_below h_B hbN; replace h_Q := heap_below h_Q hbN; replace h_R := heap_below h_R hbN; replace h_X := heap_below h_X hbN; replace h_Y := heap_below h_Y hbN; replace hE := hE.below hbN; replace hA := hA.below hbN; replace hAb := hAb.below hbN; replace hAc := hAc.below hbN; replace hBx := hBx.below hbN; replace hBy := hBy.below hbN; replace hb := hb.trans (hbN.mono hs); replace hs := Nat.le_trans hs hbN.size; clear hbN
  refine ⟨_, rfl, ?_⟩
  try simp only [put_list, List.set_cons_zero, List.set_cons_succ]
  refine wpList_runG (by kernel_rfl) (.bool false) (VV) (exec_un (vx := .bool true) rfl (by kernel_rfl) (by kernel_rfl)) ?_
  try simp only [put_list, List.set_cons_zero, List.set_cons_succ]
  refine wpList_run (by kernel_rfl) (.bool false) (VV) (exec_pick (b := false) rfl (by kernel_rfl) (by kernel_rfl)) ?_
  try simp only [put_list, List.set_cons_zero, List.set_cons_succ]
  refine wpList_run (by kernel_rfl) (.bool false) (VV) (exec_move rfl (by kernel_rfl)) ?_
  try simp only [put_list, List.set_cons_zero, List.set_cons_succ]
  refine wpList_runG (by kernel_rfl) (.agg (rsA c20 n (.slice By l cy))) (VV) (exec_load (vx := .pointer (some ⟨Y, 0, none⟩)) rfl (by kernel_rfl) (ld_s Y (rsA c20 n (.slice By l cy)) VV (rs_info _ _ _) h_Y)) ?_
  try simp only [put_list, List.set_cons_zero, List.set_cons_succ]
  refine wpList_runG (by kernel_rfl) (.agg (rsA c20 n (.slice A l c))) (VV) (exec_load (vx := .pointer (some ⟨R, 0, none⟩)) rfl (by kernel_rfl) (ld_s R (rsA c20 n (.slice A l c)) VV (rs_info _ _ _) h_R)) ?_
  refine wpList_call (by kernel_rfl) 20 #[Go.Operand.tmp 83, Go.Operand.tmp 84] #[29, 29] #[.agg (rsA c20 n (.slice By l cy)), .agg (rsA c20 n (.slice A l c))] _ rfl (by kernel_rfl) (by kernel_rfl) (sameresp_any c20 n By A l cy c ys VV hBy hA HL.out.1.symm (by omega)) ?_
  rintro e VW ⟨rfl, hbN⟩
  replace h_B := heap_below h_B hbN; replace h_Q := heap_below h_Q hbN; replace h_R := heap_below h_R hbN; replace h_X := heap_below h_X hbN; replace h_Y := heap_below h_Y hbN; replace hE := hE.below hbN; replace hA := hA.below hbN; replace hAb := hAb.below hbN; replace hAc := hAc.below hbN; replace hBx := hBx.below hbN; replace hBy := hBy.below hbN; replace hb := hb.trans (hbN.mono hs); replace hs := Nat.le_trans hs hbN.size; clear hbN
  refine ⟨_, rfl, ?_⟩
  try simp only [put_list, List.set_cons_zero, List.set_cons_succ]
  refine wpList_runG (by kernel_rfl) (.bool false) (VW) (exec_un (vx := .bool true) rfl (by kernel_rfl) (by kernel_rfl)) ?_
  try simp only [put_list, List.set_cons_zero, List.set_cons_succ]
  refine wpList_run (by kernel_rfl) (.bool false) (VW) (exec_pick (b := false) rfl (by kernel_rfl) (by kernel_rfl)) ?_
  try simp only [put_list, List.set_cons_zero, List.set_cons_succ]
  refine wpList_run (by kernel_rfl) (.bool false) (VW) (exec_move rfl (by kernel_rfl)) ?_
  try simp only [put_list, List.set_cons_zero, List.set_cons_succ]
  refine wpList_runG (by kernel_rfl) (.slice Ab L1 cb) (VW) (exec_move rfl (by kernel_rfl)) ?_
  try simp only [put_list, List.set_cons_zero, List.set_cons_succ]
  refine wpList_runG (by kernel_rfl) (.int .i64 (L1 : Int)) (VW) (exec_len (x := Go.Operand.tmp 89) (t := 25) (ty := 3) (vx := .slice Ab L1 cb) (by kernel_rfl) (by kernel_rfl) (by kernel_rfl) (by kernel_rfl)) ?_
  try simp only [put_list, List.set_cons_zero, List.set_cons_succ]
  refine wpList_runG (by kernel_rfl) (.slice A l c) (VW) (exec_move rfl (by kernel_rfl)) ?_
  try simp only [put_list, List.set_cons_zero, List.set_cons_succ]
  refine wpList_runG (by kernel_rfl) (.int .i64 (l : Int)) (VW) (exec_len (x := Go.Operand.tmp 91) (t := 25) (ty := 3) (vx := .slice A l c) (by kernel_rfl) (by kernel_rfl) (by kernel_rfl) (by kernel_rfl)) ?_
  try simp only [put_list, List.set_cons_zero, List.set_cons_succ]
  refine wpList_runG (by kernel_rfl) (.int .i64 (L1 : Int)) (VW) (exec_bin (vx := Go.Value.int Go.IntKind.i64 45) (vy := .int .i64 (l : Int)) rfl (by kernel_rfl) (add_int _ _ _ VW _ _ _ HLI.out.1.symm (by omega) (by have := HLI.out; omega))) ?_
  try simp only [put_list, List.set_cons_zero, List.set_cons_succ]
  refine wpList_runG (by kernel_rfl) (.bool false) (VW) (exec_bin (vx := .int .i64 (L1 : Int)) (vy := .int .i64 (L1 : Int)) rfl (by kernel_rfl) (neq_int _ _ _ VW _ _ _ false (by simp))) ?_
  try simp only [put_list, List.set_cons_zero, List.set_cons_succ]
  refine wpList_run (by kernel_rfl) (.bool false) (VW) (exec_pick (b := false) rfl (by kernel_rfl) (by kernel_rfl)) ?_
  try simp only [put_list, List.set_cons_zero, List.set_cons_succ]
  refine wpList_run (by kernel_rfl) (.bool false) (VW) (exec_move rfl (by kernel_rfl)) ?_
  try simp only [put_list, List.set_cons_zero, List.set_cons_succ]
  refine wpList_runG (by kernel_rfl) (.slice Ac L2 cc) (VW) (exec_move rfl (by kernel_rfl)) ?_
  try simp only [put_list, List.set_cons_zero, List.set_cons_succ]
  refine wpList_runG (by kernel_rfl) (.int .i64 (L2 : Int)) (VW) (exec_len (x := Go.Operand.tmp 97) (t := 25) (ty := 3) (vx := .slice Ac L2 cc) (by kernel_rfl) (by kernel_rfl) (by kernel_rfl) (by kernel_rfl)) ?_
  try simp only [put_list, List.set_cons_zero, List.set_cons_succ]
  refine wpList_runG (by kernel_rfl) (.slice A l c) (VW) (exec_move rfl (by kernel_rfl)) ?_
  try simp only [put_list, List.set_cons_zero, List.set_cons_succ]
  refine wpList_runG (by kernel_rfl) (.int .i64 (l : Int)) (VW) (exec_len (x := Go.Operand.tmp 99) (t := 25) (ty := 3) (vx := .slice A l c) (by kernel_rfl) (by kernel_rfl) (by kernel_rfl) (by kernel_rfl)) ?_
  try simp only [put_list, List.set_cons_zero, List.set_cons_succ]
  refine wpList_runG (by kernel_rfl) (.int .i64 (L2 : Int)) (VW) (exec_bin (vx := Go.Value.int Go.IntKind.i64 9) (vy := .int .i64 (l : Int)) rfl (by kernel_rfl) (add_int _ _ _ VW _ _ _ HLI.out.2.symm (by omega) (by have := HLI.out; omega))) ?_
  try simp only [put_list, List.set_cons_zero, List.set_cons_succ]
  refine wpList_runG (by kernel_rfl) (.bool false) (VW) (exec_bin (vx := .int .i64 (L2 : Int)) (vy := .int .i64 (L2 : Int)) rfl (by kernel_rfl) (neq_int _ _ _ VW _ _ _ false (by simp))) ?_
  try simp only [put_list, List.set_cons_zero, List.set_cons_succ]
  refine wpList_run (by kernel_rfl) (.bool false) (VW) (exec_pick (b := false) rfl (by kernel_rfl) (by kernel_rfl)) ?_
  refine wpList_nil ?_
  simp only [put_list, List.set_cons_zero, List.set_cons_succ]
  clear h_X h_Y hBx hBy h_B l_B_Q
  obtain ⟨k1, hk1⟩ : ∃ k : Nat, cut % (L1 : Int) = k := ⟨(cut % (L1 : Int)).toNat, by have := Int.emod_nonneg cut (show (L1 : Int) ≠ 0 by have := HLI.out; omega); omega⟩
  have hk1l : (k1 : Int) < L1 := by rw [← hk1]; exact Int.emod_lt_of_pos cut (by have := HLI.out; omega)
  obtain ⟨k2, hk2⟩ : ∃ k : Nat, cut % (L2 : Int) = k := ⟨(cut % (L2 : Int)).toNat, by have := Int.emod_nonneg cut (show (L2 : Int) ≠ 0 by have := HLI.out; omega); omega⟩
  have hk2l : (k2 : Int) < L2 := by rw [← hk2]; exact Int.emod_lt_of_pos cut (by have := HLI.out; omega)
  have HK1 := fun w => num_b cut L1 k1 w (by have := HLI.out; omega) hk1
  have HK2 := fun w => num_b cut L2 k2 w (by have := HLI.out; omega) hk2
  have hs1 : ∀ w, (Instr.sliceAt 25 (.slice Ab L1 cb) none (some (.int .i64 (k1 : Int))) none).run Tryd.prog w = .ok (.slice Ab k1 cb) w := fun w => sliceAt_h (P := Tryd.prog) Tryd.underlying25 (by kernel_rfl) Ab L1 cb k1 (by have := HCB.out; omega) w
  have hs2 : ∀ w, (Instr.sliceAt 25 (.slice Ac L2 cc) none (some (.int .i64 (k2 : Int))) none).run Tryd.prog w = .ok (.slice Ac k2 cc) w := fun w => sliceAt_h (P := Tryd.prog) Tryd.underlying25 (by kernel_rfl) Ac L2 cc k2 (by have := HCC.out; omega) w
  obtain ⟨z1, hz1⟩ := reqO_cut (1 + o6) f off n ys k1 (by omega) (by have := HL.out.1; omega) (by have := HL.out.2.1; omega)
  obtain ⟨z2, hz2⟩ := rspO_cut c20 n ys k2 (by omega) (by have := HL.out.1; omega) (by have := HL.out.2.2; omega)
  have HKK := Lib.hid (And.intro hk1l hk2l)
  have HZ1 := Lib.hid hz1
  have HZ2 := Lib.hid hz2
  clear hk1 hk2 hk1l hk2l hz1 hz2
  have HC := HK1 VW
  go_wp2_with fail
  refine HC.mono ?_
  rintro e N7 ⟨rfl, hbN⟩
  replace h_Q := heap_below h_Q hbN
  replace h_R := heap_below h_R hbN
  replace hE := hE.below hbN
  replace hA := hA.below hbN
  replace hAb := hAb.below hbN
  replace hAc := hAc.below hbN
  replace hb := hb.trans (hbN.mono hs)
  replace hs := Nat.le_trans hs hbN.size
  clear hbN HC HK1
  have HC := req_no E Ab ((rqB (1 + o6) f off n ys).take k1) k1 cb N7 (hAb.take k1) (by rw [List.length_take, rqB_len]; have := HKK.out; have := HL.out; omega) ((rqB_byts HY.out).cut k1) (by have := HKK.out; have := HLI.out; omega) hE 2 z1 HZ1.out
  go_wp2_with fail
  refine HC.mono ?_
  rintro e N8 ⟨b1, rfl, hat1, hbN⟩
  replace h_Q := heap_below h_Q hbN
  replace h_R := heap_below h_R hbN
  replace hE := hE.below hbN
  replace hA := hA.below hbN
  replace hAb := hAb.below hbN
  replace hAc := hAc.below hbN
  replace hb := hb.trans (hbN.mono hs)
  replace hs := Nat.le_trans hs hbN.size
  clear hbN HC hs1
  go_upto_region 15 with (refine wpList_store_row rfl 27 _ _ rfl N8.heap.size (rqA 0 zf 0 0 (.slice none 0 0)) rfl rfl _ _ (heap1_0 _ _) (rq_info _ _ _ _ _) (by kernel_rfl) (rq_one _ _ _ _ _ _ _) ?_; rw [alloc_setRow])
  have l_Q_G1 : Q < N8.heap.size := lt_heap h_Q
  have l_R_G1 : R < N8.heap.size := lt_heap h_R
  have o_G1 : n0 ≤ N8.heap.size := hs
  refine wp_world (fun W => Below n0 w W ∧ n0 ≤ W.heap.size ∧ W.heap[Q]? = some (.cells ((rqA (1 + o6) f off n (.slice A l c))) 27 (0, 0)) ∧ W.heap[R]? = some (.cells (rsA c20 n (.slice A l c)) 29 (0, 0)) ∧ W.heap[N8.heap.size]? = some (.cells (rqA 0 zf 0 0 (.slice none 0 0)) 27 (0, 0)) ∧ ErrsAt E W ∧ SlRead W A (ints .u8 ys) ∧ SlRead W Ab (ints .u8 (rqB (1 + o6) f off n ys)) ∧ SlRead W Ac (ints .u8 (rsB c20 n ys)) ∧ AtAt b1 z1 (errV (E 2)) W) ⟨hb.trans ((below_alc N8 _).mono hs), Nat.le_trans hs (below_alc N8 _).size, heap_below h_Q (below_alc N8 _), heap_below h_R (below_alc N8 _), heap1_0 _ _, hE.below (below_alc N8 _), hA.below (below_alc N8 _), hAb.below (below_alc N8 _), hAc.below (below_alc N8 _), hat1.below (below_alc N8 _)⟩ ?_
  clear hb hs h_Q h_R hE hA hAb hAc hat1
  rintro W5 ⟨hb, hs, h_Q, h_R, h_G1, hE, hA, hAb, hAc, hat1⟩
  generalize N8.heap.size = G1 at *
  clear h_G1
  have HC := HK2 W5
  go_wp2_with fail
  refine HC.mono ?_
  rintro e N9 ⟨rfl, hbN⟩
  replace h_Q := heap_below h_Q hbN
  replace h_R := heap_below h_R hbN
  replace hE := hE.below hbN
  replace hA := hA.below hbN
  replace hAb := hAb.below hbN
  replace hAc := hAc.below hbN
  replace hat1 := hat1.below hbN
  replace hb := hb.trans (hbN.mono hs)
  replace hs := Nat.le_trans hs hbN.size
  clear hbN HC HK2
  have HC := rsp_no E Ac ((rsB c20 n ys).take k2) k2 cc N9 (hAc.take k2) (by rw [List.length_take, rsB_len]; have := HKK.out; have := HL.out; omega) ((rsB_byts HY.out).cut k2) (by have := HKK.out; have := HLI.out; omega) hE 2 z2 HZ2.out
  go_wp2_with fail
  refine HC.mono ?_
  rintro e N10 ⟨b2, rfl, hat2, hbN⟩
  replace h_Q := heap_below h_Q hbN
  replace h_R := heap_below h_R hbN
  replace hE := hE.below hbN
  replace hA := hA.below hbN
  replace hAb := hAb.below hbN
  replace hAc := hAc.below hbN
  replace hat1 := hat1.below hbN
  replace hb := hb.trans (hbN.mono hs)
  replace hs := Nat.le_trans hs hbN.size
  clear hbN HC hs2
  go_upto_region 16 with (refine wpList_store_row rfl 29 _ _ rfl N10.heap.size (rsA 0 0 (.slice none 0 0)) rfl rfl _ _ (heap1_0 _ _) (rs_info _ _ _) (by kernel_rfl) (rs_one _ _ _ _ _) ?_; rw [alloc_setRow])
  have l_Q_G2 : Q < N10.heap.size := lt_heap h_Q
  have l_R_G2 : R < N10.heap.size := lt_heap h_R
  have o_G2 : n0 ≤ N10.heap.size := hs
  refine wp_world (fun W => Below n0 w W ∧ n0 ≤ W.heap.size ∧ W.heap[Q]? = some (.cells ((rqA (1 + o6) f off n (.slice A l c))) 27 (0, 0)) ∧ W.heap[R]? = some (.cells (rsA c20 n (.slice A l c)) 29 (0, 0)) ∧ W.heap[N10.heap.size]? = some (.cells (rsA 0 0 (.slice none 0 0)) 29 (0, 0)) ∧ ErrsAt E W ∧ SlRead W A (ints .u8 ys) ∧ SlRead W Ab (ints .u8 (rqB (1 + o6) f off n ys)) ∧ SlRead W Ac (ints .u8 (rsB c20 n ys)) ∧ AtAt b1 z1 (errV (E 2)) W ∧ AtAt b2 z2 (errV (E 2)) W) ⟨hb.trans ((below_alc N10 _).mono hs), Nat.le_trans hs (below_alc N10 _).size, heap_below h_Q (below_alc N10 _), heap_below h_R (below_alc N10 _), heap1_0 _ _, hE.below (below_alc N10 _), hA.below (below_alc N10 _), hAb.below (below_alc N10 _), hAc.below (below_alc N10 _), hat1.below (below_alc N10 _), hat2.below (below_alc N10 _)⟩ ?_
  clear hb hs h_Q h_R hE hA hAb hAc hat1 hat2
  rintro W6 ⟨hb, hs, h_Q, h_R, h_G2, hE, hA, hAb, hAc, hat1, hat2⟩
  generalize N10.heap.size = G2 at *
  clear h_G2
  obtain ⟨xs1, hxs1⟩ : ∃ xs, xs = rqB (1 + o6) f off n ys := ⟨_, rfl⟩
  have hxl : xs1.length = L1 := by rw [hxs1, rqB_len]; exact HL.out.2.1
  have HX1 := Lib.hid (And.intro hxs1 hxl)
  have hAb1 := hAb
  rw [← hxs1] at hAb1
  have HC := bytes_any Ab xs1 cb W6 hAb1 (by rw [hxl]; have := HLI.out; omega)
  rw [hxl] at HC
  clear hxs1 hxl hAb1
  go_wp2_with fail
  refine HC.mono ?_
  rintro e N11 ⟨vb, rfl, hob, hbN⟩
  obtain ⟨A3, c3, rfl, _, _, _⟩ := own_slice hob
  have hlo3 : ∀ g, (Value.slice A3 L1 c3).ownBlock = some g → W6.heap.size ≤ g := fun g hg => (own_lowlt hob hg).1
  obtain ⟨xs2, hxs2⟩ : ∃ xs, xs = xs1 ++ [1] := ⟨_, rfl⟩
  have hx2l : xs2.length = L1 + 1 := by rw [hxs2]; simp [HX1.out.2]
  have hob1 : N11.ownsRow W6.heap.size 5 1 (.slice A3 L1 c3) xs1.length (ints .u8 xs1) := by rw [HX1.out.2]; exact hob
  have HX2 := Lib.hid hx2l
  have HXS2 := Lib.hid hxs2
  clear hob HC hx2l hxs2
  go_wp2_with (at_builtin; refine push_ints rfl _ _ rfl (N11.alloc (.cells #[.int .u8 1] 5)) W6.heap.size (.slice A3 L1 c3) xs1 (some ⟨N11.heap.size, 0, none⟩) [1] 1 1 rfl rfl rfl (hob1.alloc _) (one_newI _) (Nat.le_trans hbN.size (by simp)) (by rw [HX1.out.2]; simp; have := HLI.out; omega) ?_; intro v3 WA hown3 hg3 hat3; rw [← HXS2.out, HX2.out] at hown3; obtain ⟨A4, c4, rfl, _⟩ := ownsRow_form hown3)
  have htA := put_turnF (N := W6.heap.size) hlo3 (below_alc N11 _) hg3
  have hbA := htA.below hbN hbN.size (fun q hq => hq)
  have hA4 := SlRead.of_own hown3
  clear htA hob1 hlo3 hg3 hat3 hown3 hbN
  replace h_Q := heap_below h_Q hbA
  replace h_R := heap_below h_R hbA
  replace hE := hE.below hbA
  replace hA := hA.below hbA
  replace hAb := hAb.below hbA
  replace hAc := hAc.below hbA
  replace hat1 := hat1.below hbA
  replace hat2 := hat2.below hbA
  replace hb := hb.trans (hbA.mono hs)
  replace hs := Nat.le_trans hs hbA.size
  clear hbA 
  have HC := req_no E A4 xs2 (L1 + 1) c4 WA hA4 HX2.out (by rw [HXS2.out, HX1.out.1]; exact (rqB_byts HY.out).app (fun x hx => by rw [List.mem_singleton.1 hx]; omega)) (by have := HLI.out; omega) hE 3 (L1 : Int) (by rw [HXS2.out, HX1.out.1, reqO_more _ _ _ _ _ _ (by omega) (by have := HL.out.1; omega), HL.out.2.1])
  go_wp2_with fail
  refine HC.mono ?_
  rintro e N12 ⟨b3, rfl, hat3, hbN⟩
  replace h_Q := heap_below h_Q hbN
  replace h_R := heap_below h_R hbN
  replace hE := hE.below hbN
  replace hA := hA.below hbN
  replace hAb := hAb.below hbN
  replace hAc := hAc.below hbN
  replace hat1 := hat1.below hbN
  replace hat2 := hat2.below hbN
  replace hb := hb.trans (hbN.mono hs)
  replace hs := Nat.le_trans hs hbN.size
  clear hbN HC hA4
  go_upto_region 17 with (refine wpList_store_row rfl 27 _ _ rfl N12.heap.size (rqA 0 zf 0 0 (.slice none 0 0)) rfl rfl _ _ (heap1_0 _ _) (rq_info _ _ _ _ _) (by kernel_rfl) (rq_one _ _ _ _ _ _ _) ?_; rw [alloc_setRow])
  have l_Q_G3 : Q < N12.heap.size := lt_heap h_Q
  have l_R_G3 : R < N12.heap.size := lt_heap h_R
  have o_G3 : n0 ≤ N12.heap.size := hs
  refine wp_world (fun W => Below n0 w W ∧ n0 ≤ W.heap.size ∧ W.heap[Q]? = some (.cells ((rqA (1 + o6) f off n (.slice A l c))) 27 (0, 0)) ∧ W.heap[R]? = some (.cells (rsA c20 n (.slice A l c)) 29 (0, 0)) ∧ W.heap[N12.heap.size]? = some (.cells (rqA 0 zf 0 0 (.slice none 0 0)) 27 (0, 0)) ∧ ErrsAt E W ∧ SlRead W A (ints .u8 ys) ∧ SlRead W Ab (ints .u8 (rqB (1 + o6) f off n ys)) ∧ SlRead W Ac (ints .u8 (rsB c20 n ys)) ∧ AtAt b1 z1 (errV (E 2)) W ∧ AtAt b2 z2 (errV (E 2)) W ∧ AtAt b3 (L1 : Int) (errV (E 3)) W) ⟨hb.trans ((below_alc N12 _).mono hs), Nat.le_trans hs (below_alc N12 _).size, heap_below h_Q (below_alc N12 _), heap_below h_R (below_alc N12 _), heap1_0 _ _, hE.below (below_alc N12 _), hA.below (below_alc N12 _), hAb.below (below_alc N12 _), hAc.below (below_alc N12 _), hat1.below (below_alc N12 _), hat2.below (below_alc N12 _), hat3.below (below_alc N12 _)⟩ ?_
  clear hb hs h_Q h_R hE hA hAb hAc hat1 hat2 hat3
  rintro W7 ⟨hb, hs, h_Q, h_R, h_G3, hE, hA, hAb, hAc, hat1, hat2, hat3⟩
  generalize N12.heap.size = G3 at *
  clear h_G3
  clear hAb hAc
  have HC := HN2 W7
  go_wp2_with fail
  refine HC.mono ?_
  rintro e N13 ⟨rfl, hbN⟩
  replace h_Q := heap_below h_Q hbN
  replace h_R := heap_below h_R hbN
  replace hE := hE.below hbN
  replace hA := hA.below hbN
  replace hat1 := hat1.below hbN
  replace hat2 := hat2.below hbN
  replace hat3 := hat3.below hbN
  replace hb := hb.trans (hbN.mono hs)
  replace hs := Nat.le_trans hs hbN.size
  clear hbN HC HN2
  have cc := cell_heap h_Q (rq_c0 _ _ _ _ _)
  have ff := thaw_heap h_Q 0
  go_upto_region 18 with (fail)
  refine wp_world (fun W => Below n0 w W ∧ n0 ≤ W.heap.size ∧ W.heap[Q]? = some (.cells (rqA (7 + o2) f off n (.slice A l c)) 27 (0, 0)) ∧ W.heap[R]? = some (.cells (rsA c20 n (.slice A l c)) 29 (0, 0)) ∧ ErrsAt E W ∧ SlRead W A (ints .u8 ys) ∧ AtAt b1 z1 (errV (E 2)) W ∧ AtAt b2 z2 (errV (E 2)) W ∧ AtAt b3 (L1 : Int) (errV (E 3)) W) ⟨(set_turnH N13 Q 0 _).below hb hs (fun q e => by rw [e]; exact o_Q), by rw [heap_size_setCell]; exact hs, (by rw [← rq_set0 (1 + o6) (7 + o2) f off n (.slice A l c)]; exact heap_setCell_same N13 Q 0 _ _ _ h_Q), (heap_setCell_other N13 ⟨Q, 0, none⟩ R _ (by show R ≠ Q; omega)).trans h_R, (HE0.out _ ((set_turnH N13 Q 0 _).below hb hs (fun q e => by rw [e]; exact o_Q))), (HA0.out _ ((set_turnH N13 Q 0 _).below hb hs (fun q e => by rw [e]; exact o_Q))), (at_set hat1 (at_neQ hat1 h_Q) 0 _), (at_set hat2 (at_neQ hat2 h_Q) 0 _), (at_set hat3 (at_neQ hat3 h_Q) 0 _)⟩ ?_
  clear hb hs h_Q h_R cc ff hE hA hat1 hat2 hat3
  rintro W8 ⟨hb, hs, h_Q, h_R, hE, hA, hat1, hat2, hat3⟩
  have HC := req_w (7 + o2) f off n A ys l c L1 W8 hA HL.out.1 HL.out.2.1 (by omega)
  go_wp2_with (refine wpList_load_row rfl 27 _ rfl Q rfl _ _ _ _ h_Q Tryd.underlying27 rfl (rq_info _ _ _ _ _) ?_)
  refine HC.mono ?_
  rintro e N14 ⟨A5, c5, rfl, hA5, _, _, hbN⟩
  replace h_Q := heap_below h_Q hbN
  replace h_R := heap_below h_R hbN
  replace hE := hE.below hbN
  replace hA := hA.below hbN
  replace hat1 := hat1.below hbN
  replace hat2 := hat2.below hbN
  replace hat3 := hat3.below hbN
  replace hb := hb.trans (hbN.mono hs)
  replace hs := Nat.le_trans hs hbN.size
  clear hbN HC
  have HC := req_no E A5 (rqB (7 + o2) f off n ys) L1 c5 N14 hA5 (by rw [rqB_len]; exact HL.out.2.1) (rqB_byts HY.out) (by have := HLI.out; omega) hE 4 0 (reqO_form _ _ _ _ _ (by omega))
  go_wp2_with fail
  refine HC.mono ?_
  rintro e N15 ⟨b4, rfl, hat4, hbN⟩
  replace h_Q := heap_below h_Q hbN
  replace h_R := heap_below h_R hbN
  replace hE := hE.below hbN
  replace hA := hA.below hbN
  replace hat1 := hat1.below hbN
  replace hat2 := hat2.below hbN
  replace hat3 := hat3.below hbN
  replace hb := hb.trans (hbN.mono hs)
  replace hs := Nat.le_trans hs hbN.size
  clear hbN HC hA5
  go_upto_region 19 with (refine wpList_store_row rfl 27 _ _ rfl N15.heap.size (rqA 0 zf 0 0 (.slice none 0 0)) rfl rfl _ _ (heap1_0 _ _) (rq_info _ _ _ _ _) (by kernel_rfl) (rq_one _ _ _ _ _ _ _) ?_; rw [alloc_setRow])
  have l_Q_G4 : Q < N15.heap.size := lt_heap h_Q
  have l_R_G4 : R < N15.heap.size := lt_heap h_R
  have o_G4 : n0 ≤ N15.heap.size := hs
  refine wp_world (fun W => Below n0 w W ∧ n0 ≤ W.heap.size ∧ W.heap[Q]? = some (.cells (rqA (7 + o2) f off n (.slice A l c)) 27 (0, 0)) ∧ W.heap[R]? = some (.cells (rsA c20 n (.slice A l c)) 29 (0, 0)) ∧ W.heap[N15.heap.size]? = some (.cells (rqA 0 zf 0 0 (.slice none 0 0)) 27 (0, 0)) ∧ ErrsAt E W ∧ SlRead W A (ints .u8 ys) ∧ AtAt b1 z1 (errV (E 2)) W ∧ AtAt b2 z2 (errV (E 2)) W ∧ AtAt b3 (L1 : Int) (errV (E 3)) W ∧ AtAt b4 0 (errV (E 4)) W) ⟨hb.trans ((below_alc N15 _).mono hs), Nat.le_trans hs (below_alc N15 _).size, heap_below h_Q (below_alc N15 _), heap_below h_R (below_alc N15 _), heap1_0 _ _, hE.below (below_alc N15 _), hA.below (below_alc N15 _), hat1.below (below_alc N15 _), hat2.below (below_alc N15 _), hat3.below (below_alc N15 _), hat4.below (below_alc N15 _)⟩ ?_
  clear hb hs h_Q h_R hE hA hat1 hat2 hat3 hat4
  rintro W9 ⟨hb, hs, h_Q, h_R, h_G4, hE, hA, hat1, hat2, hat3, hat4⟩
  generalize N15.heap.size = G4 at *
  clear h_G4
  clear h_Q
  have HC := HC2 W9
  go_wp2_with fail
  refine HC.mono ?_
  rintro e N16 ⟨rfl, hbN⟩
  replace h_R := heap_below h_R hbN
  replace hE := hE.below hbN
  replace hA := hA.below hbN
  replace hat1 := hat1.below hbN
  replace hat2 := hat2.below hbN
  replace hat3 := hat3.below hbN
  replace hat4 := hat4.below hbN
  replace hb := hb.trans (hbN.mono hs)
  replace hs := Nat.le_trans hs hbN.size
  clear hbN HC HC2
  have cc := cell_heap h_R (rs_c0 _ _ _)
  have ff := thaw_heap h_R 0
  go_upto_region 20 with (fail)
  refine wp_world (fun W => Below n0 w W ∧ n0 ≤ W.heap.size ∧ W.heap[R]? = some (.cells (rsA (20 + c2) n (.slice A l c)) 29 (0, 0)) ∧ ErrsAt E W ∧ SlRead W A (ints .u8 ys) ∧ AtAt b1 z1 (errV (E 2)) W ∧ AtAt b2 z2 (errV (E 2)) W ∧ AtAt b3 (L1 : Int) (errV (E 3)) W ∧ AtAt b4 0 (errV (E 4)) W) ⟨(set_turnH N16 R 0 _).below hb hs (fun q e => by rw [e]; exact o_R), by rw [heap_size_setCell]; exact hs, (by rw [← rs_set0 c20 (20 + c2) n (.slice A l c)]; exact heap_setCell_same N16 R 0 _ _ _ h_R), (HE0.out _ ((set_turnH N16 R 0 _).below hb hs (fun q e => by rw [e]; exact o_R))), (HA0.out _ ((set_turnH N16 R 0 _).below hb hs (fun q e => by rw [e]; exact o_R))), (at_set hat1 (at_neR hat1 h_R) 0 _), (at_set hat2 (at_neR hat2 h_R) 0 _), (at_set hat3 (at_neR hat3 h_R) 0 _), (at_set hat4 (at_neR hat4 h_R) 0 _)⟩ ?_
  clear hb hs h_R cc ff hE hA hat1 hat2 hat3 hat4
  rintro W10 ⟨hb, hs, h_R, hE, hA, hat1, hat2, hat3, hat4⟩
  have HC := rsp_w (20 + c2) n A ys l c L2 W10 hA HL.out.1 HL.out.2.2 (by omega)
  go_wp2_with (refine wpList_load_row rfl 29 _ rfl R rfl _ _ _ _ h_R Tryd.underlying29 rfl (rs_info _ _ _) ?_)
  refine HC.mono ?_
  rintro e N17 ⟨A6, c6, rfl, hA6, _, _, hbN⟩
  replace h_R := heap_below h_R hbN
  replace hE := hE.below hbN
  replace hA := hA.below hbN
  replace hat1 := hat1.below hbN
  replace hat2 := hat2.below hbN
  replace hat3 := hat3.below hbN
  replace hat4 := hat4.below hbN
  replace hb := hb.trans (hbN.mono hs)
  replace hs := Nat.le_trans hs hbN.size
  clear hbN HC
  have HC := rsp_no E A6 (rsB (20 + c2) n ys) L2 c6 N17 hA6 (by rw [rsB_len]; exact HL.out.2.2) (rsB_byts HY.out) (by have := HLI.out; omega) hE 4 0 (rspO_form _ _ _ (by omega))
  go_wp2_with fail
  refine HC.mono ?_
  rintro e N18 ⟨b5, rfl, hat5, hbN⟩
  replace h_R := heap_below h_R hbN
  replace hE := hE.below hbN
  replace hA := hA.below hbN
  replace hat1 := hat1.below hbN
  replace hat2 := hat2.below hbN
  replace hat3 := hat3.below hbN
  replace hat4 := hat4.below hbN
  replace hb := hb.trans (hbN.mono hs)
  replace hs := Nat.le_trans hs hbN.size
  clear hbN HC hA6
  go_upto_region 21 with (refine wpList_store_row rfl 29 _ _ rfl N18.heap.size (rsA 0 0 (.slice none 0 0)) rfl rfl _ _ (heap1_0 _ _) (rs_info _ _ _) (by kernel_rfl) (rs_one _ _ _ _ _) ?_; rw [alloc_setRow])
  have l_R_G5 : R < N18.heap.size := lt_heap h_R
  have o_G5 : n0 ≤ N18.heap.size := hs
  refine wp_world (fun W => Below n0 w W ∧ n0 ≤ W.heap.size ∧ W.heap[R]? = some (.cells (rsA (20 + c2) n (.slice A l c)) 29 (0, 0)) ∧ W.heap[N18.heap.size]? = some (.cells (rsA 0 0 (.slice none 0 0)) 29 (0, 0)) ∧ ErrsAt E W ∧ SlRead W A (ints .u8 ys) ∧ AtAt b1 z1 (errV (E 2)) W ∧ AtAt b2 z2 (errV (E 2)) W ∧ AtAt b3 (L1 : Int) (errV (E 3)) W ∧ AtAt b4 0 (errV (E 4)) W ∧ AtAt b5 0 (errV (E 4)) W) ⟨hb.trans ((below_alc N18 _).mono hs), Nat.le_trans hs (below_alc N18 _).size, heap_below h_R (below_alc N18 _), heap1_0 _ _, hE.below (below_alc N18 _), hA.below (below_alc N18 _), hat1.below (below_alc N18 _), hat2.below (below_alc N18 _), hat3.below (below_alc N18 _), hat4.below (below_alc N18 _), hat5.below (below_alc N18 _)⟩ ?_
  clear hb hs h_R hE hA hat1 hat2 hat3 hat4 hat5
  rintro W11 ⟨hb, hs, h_R, h_G5, hE, hA, hat1, hat2, hat3, hat4, hat5⟩
  generalize N18.heap.size = G5 at *
  clear h_G5
  have cc := cell_heap h_R (rs_c0 _ _ _)
  have ff := thaw_heap h_R 0
  go_upto_region 22 with (fail)
  refine wp_world (fun W => Below n0 w W ∧ n0 ≤ W.heap.size ∧ W.heap[R]? = some (.cells (rsA 0 n (.slice A l c)) 29 (0, 0)) ∧ ErrsAt E W ∧ SlRead W A (ints .u8 ys) ∧ AtAt b1 z1 (errV (E 2)) W ∧ AtAt b2 z2 (errV (E 2)) W ∧ AtAt b3 (L1 : Int) (errV (E 3)) W ∧ AtAt b4 0 (errV (E 4)) W ∧ AtAt b5 0 (errV (E 4)) W) ⟨(set_turnH W11 R 0 _).below hb hs (fun q e => by rw [e]; exact o_R), by rw [heap_size_setCell]; exact hs, (by rw [← rs_set0 (20 + c2) 0 n (.slice A l c)]; exact heap_setCell_same W11 R 0 _ _ _ h_R), (HE0.out _ ((set_turnH W11 R 0 _).below hb hs (fun q e => by rw [e]; exact o_R))), (HA0.out _ ((set_turnH W11 R 0 _).below hb hs (fun q e => by rw [e]; exact o_R))), (at_set hat1 (at_neR hat1 h_R) 0 _), (at_set hat2 (at_neR hat2 h_R) 0 _), (at_set hat3 (at_neR hat3 h_R) 0 _), (at_set hat4 (at_neR hat4 h_R) 0 _), (at_set hat5 (at_neR hat5 h_R) 0 _)⟩ ?_
  clear hb hs h_R cc ff hE hA hat1 hat2 hat3 hat4 hat5
  rintro W12 ⟨hb, hs, h_R, hE, hA, hat1, hat2, hat3, hat4, hat5⟩
  have hmk : (Instr.makeSlice 25 (.int .i64 201) (.int .i64 201)).run Tryd.prog W12 = .ok (.slice (some ⟨W12.heap.size, 0, none⟩) 201 201) (W12.alloc (.cells (madeCells #[.int .u8 0] 201) 5)) := run_make_row' (P := Tryd.prog) 25 5 (.int .u8 0) 1 Tryd.underlying25 Tryd.info5 rfl .i64 .i64 201 (by omega) (by omega) W12
  rw [made_201] at hmk
  obtain ⟨WM, hWM⟩ : ∃ V, V = W12.alloc (.cells (ints .u8 (List.replicate 201 0)).toArray 5) := ⟨_, rfl⟩
  rw [← hWM] at hmk
  have hbM : Below W12.heap.size W12 WM := by rw [hWM]; exact below_alc _ _
  have hzz : WM.heap[W12.heap.size]? = some (.cells (ints .u8 (List.replicate 201 0)).toArray 5 (0, 0)) := by rw [hWM]; exact heap1_0 _ _
  obtain ⟨ZZ, hZZ⟩ : ∃ Z, Z = W12.heap.size := ⟨_, rfl⟩
  rw [← hZZ] at hmk hzz
  have hRZ : R ≠ ZZ := by have := lt_heap h_R; omega
  clear hWM hZZ
  have cc := cell_heap (heap_below h_R hbM) (rs_c2 _ _ _)
  have ff := thaw_heap (heap_below h_R hbM) 2
  go_upto_region 23 with (fail)
  replace h_R := heap_below h_R hbM
  replace hE := hE.below hbM
  replace hA := hA.below hbM
  replace hat1 := hat1.below hbM
  replace hat2 := hat2.below hbM
  replace hat3 := hat3.below hbM
  replace hat4 := hat4.below hbM
  replace hat5 := hat5.below hbM
  replace hb := hb.trans (hbM.mono hs)
  replace hs := Nat.le_trans hs hbM.size
  clear hbM hmk
  have h_ZZ := hzz
  clear hzz
  have hZR : ZZ ≠ R := hRZ.symm
  refine wp_world (fun W => Below n0 w W ∧ n0 ≤ W.heap.size ∧ W.heap[R]? = some (.cells (rsA 0 n (.slice (some ⟨ZZ, 0, none⟩) 201 201)) 29 (0, 0)) ∧ W.heap[ZZ]? = some (.cells ((ints .u8 (List.replicate 201 0)).toArray) 5 (0, 0)) ∧ ErrsAt E W ∧ SlRead W A (ints .u8 ys) ∧ AtAt b1 z1 (errV (E 2)) W ∧ AtAt b2 z2 (errV (E 2)) W ∧ AtAt b3 (L1 : Int) (errV (E 3)) W ∧ AtAt b4 0 (errV (E 4)) W ∧ AtAt b5 0 (errV (E 4)) W) ⟨(set_turnH WM R 2 _).below hb hs (fun q e => by rw [e]; exact o_R), by rw [heap_size_setCell]; exact hs, (by rw [← rs_set2 0 n (.slice A l c) (.slice (some ⟨ZZ, 0, none⟩) 201 201)]; exact heap_setCell_same WM R 2 _ _ _ h_R), (heap_setCell_other WM ⟨R, 2, none⟩ ZZ _ (by show ZZ ≠ R; omega)).trans h_ZZ, (HE0.out _ ((set_turnH WM R 2 _).below hb hs (fun q e => by rw [e]; exact o_R))), (HA0.out _ ((set_turnH WM R 2 _).below hb hs (fun q e => by rw [e]; exact o_R))), (at_set hat1 (at_neR hat1 h_R) 2 _), (at_set hat2 (at_neR hat2 h_R) 2 _), (at_set hat3 (at_neR hat3 h_R) 2 _), (at_set hat4 (at_neR hat4 h_R) 2 _), (at_set hat5 (at_neR hat5 h_R) 2 _)⟩ ?_
  clear hb hs h_R h_ZZ cc ff hE hA hat1 hat2 hat3 hat4 hat5
  rintro W13 ⟨hb, hs, h_R, h_ZZ, hE, hA, hat1, hat2, hat3, hat4, hat5⟩
  have hAz : SlRead W13 (some ⟨ZZ, 0, none⟩) (ints .u8 (List.replicate 201 0)) := fun _ => ⟨ZZ, 0, rfl, lt_heap h_ZZ, fun j u hu => by have := range_new h_ZZ j u hu; exact this⟩
  have HC := rsp_w 0 n (some ⟨ZZ, 0, none⟩) (List.replicate 201 0) 201 201 210 W13 hAz rfl rfl (by omega)
  go_wp2_with (refine wpList_load_row rfl 29 _ rfl R rfl _ _ _ _ h_R Tryd.underlying29 rfl (rs_info _ _ _) ?_)
  refine HC.mono ?_
  rintro e N19 ⟨A7, c7, rfl, hA7, _, _, hbN⟩
  replace h_R := heap_below h_R hbN
  replace h_ZZ := heap_below h_ZZ hbN
  replace hE := hE.below hbN
  replace hA := hA.below hbN
  replace hat1 := hat1.below hbN
  replace hat2 := hat2.below hbN
  replace hat3 := hat3.below hbN
  replace hat4 := hat4.below hbN
  replace hat5 := hat5.below hbN
  replace hb := hb.trans (hbN.mono hs)
  replace hs := Nat.le_trans hs hbN.size
  clear hbN HC hAz
  have HC := rsp_no E A7 (rsB 0 n (List.replicate 201 0)) 210 c7 N19 hA7 (by rw [rsB_len]; rfl) (rsB_byts (zeros_byts 201)) (by omega) hE 1 5 (rspO_big _ _ _ (by omega) (by simp) (by simp))
  go_wp2_with fail
  refine HC.mono ?_
  rintro e N20 ⟨b6, rfl, hat6, hbN⟩
  replace h_R := heap_below h_R hbN
  replace h_ZZ := heap_below h_ZZ hbN
  replace hE := hE.below hbN
  replace hA := hA.below hbN
  replace hat1 := hat1.below hbN
  replace hat2 := hat2.below hbN
  replace hat3 := hat3.below hbN
  replace hat4 := hat4.below hbN
  replace hat5 := hat5.below hbN
  replace hb := hb.trans (hbN.mono hs)
  replace hs := Nat.le_trans hs hbN.size
  clear hbN HC hA7
  go_upto_region 24 with (refine wpList_store_row rfl 29 _ _ rfl N20.heap.size (rsA 0 0 (.slice none 0 0)) rfl rfl _ _ (heap1_0 _ _) (rs_info _ _ _) (by kernel_rfl) (rs_one _ _ _ _ _) ?_; rw [alloc_setRow])
  have l_R_G6 : R < N20.heap.size := lt_heap h_R
  have l_ZZ_G6 : ZZ < N20.heap.size := lt_heap h_ZZ
  have o_G6 : n0 ≤ N20.heap.size := hs
  refine wp_world (fun W => Below n0 w W ∧ n0 ≤ W.heap.size ∧ W.heap[R]? = some (.cells (rsA 0 n (.slice (some ⟨ZZ, 0, none⟩) 201 201)) 29 (0, 0)) ∧ W.heap[ZZ]? = some (.cells ((ints .u8 (List.replicate 201 0)).toArray) 5 (0, 0)) ∧ W.heap[N20.heap.size]? = some (.cells (rsA 0 0 (.slice none 0 0)) 29 (0, 0)) ∧ ErrsAt E W ∧ SlRead W A (ints .u8 ys) ∧ AtAt b1 z1 (errV (E 2)) W ∧ AtAt b2 z2 (errV (E 2)) W ∧ AtAt b3 (L1 : Int) (errV (E 3)) W ∧ AtAt b4 0 (errV (E 4)) W ∧ AtAt b5 0 (errV (E 4)) W ∧ AtAt b6 5 (errV (E 1)) W) ⟨hb.trans ((below_alc N20 _).mono hs), Nat.le_trans hs (below_alc N20 _).size, heap_below h_R (below_alc N20 _), heap_below h_ZZ (below_alc N20 _), heap1_0 _ _, hE.below (below_alc N20 _), hA.below (below_alc N20 _), hat1.below (below_alc N20 _), hat2.below (below_alc N20 _), hat3.below (below_alc N20 _), hat4.below (below_alc N20 _), hat5.below (below_alc N20 _), hat6.below (below_alc N20 _)⟩ ?_
  clear hb hs h_R h_ZZ hE hA hat1 hat2 hat3 hat4 hat5 hat6
  rintro W14 ⟨hb, hs, h_R, h_ZZ, h_G6, hE, hA, hat1, hat2, hat3, hat4, hat5, hat6⟩
  generalize N20.heap.size = G6 at *
  clear h_G6
  clear h_R
  clear h_ZZ
  have hfd : ∀ (z : Int) (w : World), (Instr.field 42 (.agg #[.int .i64 103, .bool true, .int .i64 z]) 0).run Tryd.prog w = .ok (.int .i64 103) w := fun _ _ => by kernel_rfl
  have HC := fault_at3 E b1 z1 W14 hE hat1
  go_wp2_with fail
  refine HC.mono ?_
  rintro e N21 ⟨rfl, hbN⟩
  replace hE := hE.below hbN
  replace hA := hA.below hbN
  replace hat1 := hat1.below hbN
  replace hat2 := hat2.below hbN
  replace hat3 := hat3.below hbN
  replace hat4 := hat4.below hbN
  replace hat5 := hat5.below hbN
  replace hat6 := hat6.below hbN
  replace hb := hb.trans (hbN.mono hs)
  replace hs := Nat.le_trans hs hbN.size
  clear hbN HC
  have HC := fault_at3 E b2 z2 N21 hE hat2
  go_wp2_with fail
  refine HC.mono ?_
  rintro e N22 ⟨rfl, hbN⟩
  replace hE := hE.below hbN
  replace hA := hA.below hbN
  replace hat1 := hat1.below hbN
  replace hat2 := hat2.below hbN
  replace hat3 := hat3.below hbN
  replace hat4 := hat4.below hbN
  replace hat5 := hat5.below hbN
  replace hat6 := hat6.below hbN
  replace hb := hb.trans (hbN.mono hs)
  replace hs := Nat.le_trans hs hbN.size
  clear hbN HC
  have HC := placed_any 104 (L1 : Int) N22 (by decide)
  go_wp2_with fail
  refine HC.mono ?_
  rintro e N23 ⟨rfl, hbN⟩
  replace hE := hE.below hbN
  replace hA := hA.below hbN
  replace hat1 := hat1.below hbN
  replace hat2 := hat2.below hbN
  replace hat3 := hat3.below hbN
  replace hat4 := hat4.below hbN
  replace hat5 := hat5.below hbN
  replace hat6 := hat6.below hbN
  replace hb := hb.trans (hbN.mono hs)
  replace hs := Nat.le_trans hs hbN.size
  clear hbN HC
  have HC := same_at E b3 3 (L1 : Int) (by decide) N23 hE hat3
  go_wp2_with fail
  refine HC.mono ?_
  rintro e N24 ⟨rfl, hbN⟩
  replace hE := hE.below hbN
  replace hA := hA.below hbN
  replace hat1 := hat1.below hbN
  replace hat2 := hat2.below hbN
  replace hat3 := hat3.below hbN
  replace hat4 := hat4.below hbN
  replace hat5 := hat5.below hbN
  replace hat6 := hat6.below hbN
  replace hb := hb.trans (hbN.mono hs)
  replace hs := Nat.le_trans hs hbN.size
  clear hbN HC
  have HC := placed_any 105 0 N24 (by decide)
  go_wp2_with fail
  refine HC.mono ?_
  rintro e N25 ⟨rfl, hbN⟩
  replace hE := hE.below hbN
  replace hA := hA.below hbN
  replace hat1 := hat1.below hbN
  replace hat2 := hat2.below hbN
  replace hat3 := hat3.below hbN
  replace hat4 := hat4.below hbN
  replace hat5 := hat5.below hbN
  replace hat6 := hat6.below hbN
  replace hb := hb.trans (hbN.mono hs)
  replace hs := Nat.le_trans hs hbN.size
  clear hbN HC
  have HC := same_at E b4 4 0 (by decide) N25 hE hat4
  go_wp2_with fail
  refine HC.mono ?_
  rintro e N26 ⟨rfl, hbN⟩
  replace hE := hE.below hbN
  replace hA := hA.below hbN
  replace hat1 := hat1.below hbN
  replace hat2 := hat2.below hbN
  replace hat3 := hat3.below hbN
  replace hat4 := hat4.below hbN
  replace hat5 := hat5.below hbN
  replace hat6 := hat6.below hbN
  replace hb := hb.trans (hbN.mono hs)
  replace hs := Nat.le_trans hs hbN.size
  clear hbN HC
  have HC := placed_any 105 0 N26 (by decide)
  go_wp2_with fail
  refine HC.mono ?_
  rintro e N27 ⟨rfl, hbN⟩
  replace hE := hE.below hbN
  replace hA := hA.below hbN
  replace hat1 := hat1.below hbN
  replace hat2 := hat2.below hbN
  replace hat3 := hat3.below hbN
  replace hat4 := hat4.below hbN
  replace hat5 := hat5.below hbN
  replace hat6 := hat6.below hbN
  replace hb := hb.trans (hbN.mono hs)
  replace hs := Nat.le_trans hs hbN.size
  clear hbN HC
  have HC := same_at E b5 4 0 (by decide) N27 hE hat5
  go_wp2_with fail
  refine HC.mono ?_
  rintro e N28 ⟨rfl, hbN⟩
  replace hE := hE.below hbN
  replace hA := hA.below hbN
  replace hat1 := hat1.below hbN
  replace hat2 := hat2.below hbN
  replace hat3 := hat3.below hbN
  replace hat4 := hat4.below hbN
  replace hat5 := hat5.below hbN
  replace hat6 := hat6.below hbN
  replace hb := hb.trans (hbN.mono hs)
  replace hs := Nat.le_trans hs hbN.size
  clear hbN HC
  have HC := placed_any 102 5 N28 (by decide)
  go_wp2_with fail
  refine HC.mono ?_
  rintro e N29 ⟨rfl, hbN⟩
  replace hE := hE.below hbN
  replace hA := hA.below hbN
  replace hat1 := hat1.below hbN
  replace hat2 := hat2.below hbN
  replace hat3 := hat3.below hbN
  replace hat4 := hat4.below hbN
  replace hat5 := hat5.below hbN
  replace hat6 := hat6.below hbN
  replace hb := hb.trans (hbN.mono hs)
  replace hs := Nat.le_trans hs hbN.size
  clear hbN HC
  have HC := same_at E b6 1 5 (by decide) N29 hE hat6
  go_wp2_with fail
  refine HC.mono ?_
  rintro e N30 ⟨rfl, hbN⟩
  replace hE := hE.below hbN
  replace hA := hA.below hbN
  replace hat1 := hat1.below hbN
  replace hat2 := hat2.below hbN
  replace hat3 := hat3.below hbN
  replace hat4 := hat4.below hbN
  replace hat5 := hat5.below hbN
  replace hat6 := hat6.below hbN
  replace hb := hb.trans (hbN.mono hs)
  replace hs := Nat.le_trans hs hbN.size
  clear hbN HC
  go_wp2_with fail
  go_ret
  exact ⟨rfl, hb⟩
end Go.Proofs.YtocjmlncpjfnfaaDoor
