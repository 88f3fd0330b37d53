import Derived.Test.YtffkjbbhbpaacaaDoorUpd
/-
  the program's after in the phase Stat.
-/
namespace Go.Proofs.YtffkjbbhbpaacaaDoor
open Go.RowKit
/-- what Stat's answer tells: [1] or [0] -/
def DatF (w : World) (D : Value) (d : Bool) : Prop := ∃ b o c, D = .slice (some ⟨b, o, none⟩) 1 c ∧ w.cell? ⟨b, o, none⟩ = some (.int .u8 (if d then 1 else 0))
theorem DatF.below {w w' : World} {D : Value} {d : Bool} (h : DatF w D d) (hb : Below w.heap.size w w') : DatF w' D d := by
  obtain ⟨b, o, c, e, hc⟩ := h
  exact ⟨b, o, c, e, (hb.cell (p := ⟨b, o, none⟩) (World.block_lt_of_cell? _ _ hc)).trans hc⟩
theorem str_eqU (t : TypeId) (x y : Operand) (a b : List UInt8) (w : World) : (do eqGuard .eql t x y (.string ⟨a.toArray⟩) (.string ⟨b.toArray⟩); binOp .eql t (.string ⟨a.toArray⟩) (.string ⟨b.toArray⟩) : Sem Value).run Tryd.prog w = .ok (.bool (decide (a = b))) w := by
  have e : (a == b) = decide (a = b) := by by_cases h : a = b <;> simp [h]
  simp [eqGuard, binOp_string_eql, e]
theorem conv_oneD (h o c : Nat) (x : UInt8) (w : World) (hc : w.cell? ⟨h, o, none⟩ = some (Extern.Stop.cell x)) : (convert 25 9 (.slice (some ⟨h, o, none⟩) 1 c)).run Tryd.prog w = .ok (.string ⟨[x].toArray⟩) w :=
  run_convert_bytes_back (P := Tryd.prog) w 25 9 5 ⟨h, o, none⟩ c [x] Tryd.underlying25 Tryd.underlying5 Tryd.underlying9 (fun j hj => by have h0 : j = 0 := (by simpa using hj); subst h0; rw [add_eq]; exact hc)
set_option maxRecDepth 100000 in
theorem equal_0U (b o c h : Nat) (w : World) (ha : w.cell? ⟨b, o, none⟩ = some (.int .u8 0)) (hc : w.cell? ⟨h, 0, none⟩ = some (.int .u8 1)) : Calls Tryd.prog 73 #[.slice (some ⟨b, o, none⟩) 1 c, .slice (some ⟨h, 0, none⟩) 1 1] w fun e w' => e = .returned (.bool false) ∧ w' = w := by
  have hca := conv_oneD b o c 0 w ha
  have hcb := conv_oneD h 0 1 1 w hc
  go_enter Tryd.func73, Tryd.ntmps73
  go_upto_region 1 with (fail)
  refine wp_region_lit ?_
  try simp only [put_list, List.set_cons_zero, List.set_cons_succ]
  refine wpList_run (by kernel_rfl) (.slice (some ⟨b, o, none⟩) 1 c) (w) (exec_move rfl (by kernel_rfl)) ?_
  try simp only [put_list, List.set_cons_zero, List.set_cons_succ]
  refine wpList_run (by kernel_rfl) (.string ⟨[(0 : UInt8)].toArray⟩) (w) (exec_cvt (vx := .slice (some ⟨b, o, none⟩) 1 c) rfl (by kernel_rfl) (hca)) ?_
  try simp only [put_list, List.set_cons_zero, List.set_cons_succ]
  refine wpList_run (by kernel_rfl) (.slice (some ⟨h, 0, none⟩) 1 1) (w) (exec_move rfl (by kernel_rfl)) ?_
  try simp only [put_list, List.set_cons_zero, List.set_cons_succ]
  refine wpList_run (by kernel_rfl) (.string ⟨[(1 : UInt8)].toArray⟩) (w) (exec_cvt (vx := .slice (some ⟨h, 0, none⟩) 1 1) rfl (by kernel_rfl) (hcb)) ?_
  try simp only [put_list, List.set_cons_zero, List.set_cons_succ]
  refine wpList_run (by kernel_rfl) (.bool (decide ([(0 : UInt8)] = [1]))) (w) (exec_bin (vx := .string ⟨[(0 : UInt8)].toArray⟩) (vy := .string ⟨[(1 : UInt8)].toArray⟩) rfl (by kernel_rfl) (str_eqU _ _ _ [(0 : UInt8)] [1] w)) ?_
  try simp only [put_list, List.set_cons_zero, List.set_cons_succ]
  refine wpList_run (by kernel_rfl) (.bool (decide ([(0 : UInt8)] = [1]))) (w) (exec_assign rfl (by kernel_rfl)) ?_
  refine wpList_nil ?_
  simp only [put_list, List.set_cons_zero, List.set_cons_succ]
  go_wp2_with fail
  go_ret
  exact ⟨rfl, rfl⟩
set_option maxRecDepth 100000 in
theorem equal_1U (b o c h : Nat) (w : World) (ha : w.cell? ⟨b, o, none⟩ = some (.int .u8 1)) (hc : w.cell? ⟨h, 0, none⟩ = some (.int .u8 1)) : Calls Tryd.prog 73 #[.slice (some ⟨b, o, none⟩) 1 c, .slice (some ⟨h, 0, none⟩) 1 1] w fun e w' => e = .returned (.bool true) ∧ w' = w := by
  have hca := conv_oneD b o c 1 w ha
  have hcb := conv_oneD h 0 1 1 w hc
  go_enter Tryd.func73, Tryd.ntmps73
  go_upto_region 1 with (fail)
  refine wp_region_lit ?_
  try simp only [put_list, List.set_cons_zero, List.set_cons_succ]
  refine wpList_run (by kernel_rfl) (.slice (some ⟨b, o, none⟩) 1 c) (w) (exec_move rfl (by kernel_rfl)) ?_
  try simp only [put_list, List.set_cons_zero, List.set_cons_succ]
  refine wpList_run (by kernel_rfl) (.string ⟨[(1 : UInt8)].toArray⟩) (w) (exec_cvt (vx := .slice (some ⟨b, o, none⟩) 1 c) rfl (by kernel_rfl) (hca)) ?_
  try simp only [put_list, List.set_cons_zero, List.set_cons_succ]
  refine wpList_run (by kernel_rfl) (.slice (some ⟨h, 0, none⟩) 1 1) (w) (exec_move rfl (by kernel_rfl)) ?_
  try simp only [put_list, List.set_cons_zero, List.set_cons_succ]
  refine wpList_run (by kernel_rfl) (.string ⟨[(1 : UInt8)].toArray⟩) (w) (exec_cvt (vx := .slice (some ⟨h, 0, none⟩) 1 1) rfl (by kernel_rfl) (hcb)) ?_
  try simp only [put_list, List.set_cons_zero, List.set_cons_succ]
  refine wpList_run (by kernel_rfl) (.bool (decide ([(1 : UInt8)] = [1]))) (w) (exec_bin (vx := .string ⟨[(1 : UInt8)].toArray⟩) (vy := .string ⟨[(1 : UInt8)].toArray⟩) rfl (by kernel_rfl) (str_eqU _ _ _ [(1 : UInt8)] [1] w)) ?_
  try simp only [put_list, List.set_cons_zero, List.set_cons_succ]
  refine wpList_run (by kernel_rfl) (.bool (decide ([(1 : UInt8)] = [1]))) (w) (exec_assign rfl (by kernel_rfl)) ?_
  refine wpList_nil ?_
  simp only [put_list, List.set_cons_zero, List.set_cons_succ]
  go_wp2_with fail
  go_ret
  exact ⟨rfl, rfl⟩
section
variable {W W' : World} {g : Nat} {ph at' a b : Int}
set_option maxRecDepth 100000 in
set_option maxHeartbeats 800000 in
theorem afterstat_u (E : Nat → Addr) (w : World) (hE : ErrsAt E w) (h : UpH w g ph at' a b) (code n : Int) (D : Value) (t : Int) (hn : 0 ≤ n ∧ n < 4294967296) (d : Bool) (hD0 : code = 0 → DatF w D d) (r : Value) (hr : r = upR a b (nStat at' t code n d)) : Calls Tryd.prog 57 #[.pointer (some ⟨g, 0, none⟩), .int .i64 t, .agg (rv code n D)] w fun e w' => e = .returned r ∧ Below w.heap.size w w' := by
  obtain ⟨n0, hn0⟩ : ∃ n, n = w.heap.size := ⟨_, rfl⟩
  try rw [← hn0]
  have hb : Below n0 w w := by rw [hn0]; exact Below.refl _ _
  have hs : n0 ≤ w.heap.size := by rw [hn0]; exact Nat.le_refl _
  have HE : Hid (∀ W, Below n0 w W → ErrsAt E W) := Lib.hid (fun W hb => hE.below (by rw [hn0] at hb; exact hb))
  clear hn0
  have h_g : w.heap[g]? = some (.cells (uv ph at' a b) 31 (0, 0)) := h
  clear h hE
  go_enter Tryd.func57, Tryd.ntmps57
  go_upto_region 1 with (fail)
  have l_g_X : g < w.heap.size := lt_heap h_g
  have l_g_O : g < w.heap.size + 1 := by omega
  have o_X : n0 ≤ w.heap.size := hs
  have o_O : n0 ≤ w.heap.size + 1 := by omega
  have l_X_O : w.heap.size < w.heap.size + 1 := by omega
  refine wp_world (fun W => Below n0 w W ∧ n0 ≤ W.heap.size ∧ (code = 0 → DatF W D d) ∧ W.heap[g]? = some (.cells (uv ph at' a b) 31 (0, 0)) ∧ W.heap[w.heap.size]? = some (.cells (rv code n D) 47 (0, 0)) ∧ W.heap[w.heap.size + 1]? = some (.cells (uv 0 0 0 0) 31 (0, 0))) ⟨(hb.trans ((below_alc w _).mono hs)).trans ((below_alc _ _).mono (Nat.le_trans hs (below_alc w _).size)), Nat.le_trans (Nat.le_trans hs (below_alc w _).size) (below_alc _ _).size, fun e => ((hD0 e).below (below_alc w _)).below (below_alc _ _), heap_below (heap_below h_g (below_alc w _)) (below_alc _ _), heap2_0 _ _ _, heap2_1 _ _ _⟩ ?_
  clear hb hs h_g 
  rintro W1 ⟨hb, hs, hD, h_g, h_X, h_O⟩
  generalize w.heap.size = X at *
  clear hD0
  generalize X + 1 = O at *
  have c0 : W1.cell? ⟨X, 0, none⟩ = some (.int .i64 code) := cell_heap h_X rfl
  by_cases e0 : code = 0
  · subst e0
    replace h_X : W1.heap[X]? = some (.cells (rv 0 n D) 47 (0, 0)) := h_X
    go_upto_region 3 with (fail)
    obtain ⟨xb, xo, xc, rfl, hG⟩ := hD rfl
    rcases d with _ | _
    · have cD : W1.cell? ⟨X, 2, none⟩ = some (.slice (some ⟨xb, xo, none⟩) 1 xc) := cell_heap h_X rfl
      have hbx := below_alc W1 (.cells #[.int .u8 1] 5)
      have hnw : (W1.alloc (.cells #[.int .u8 1] 5)).cell? ⟨W1.heap.size, 0, none⟩ = some (.int .u8 1) := cell_heap (heap1_0 W1 _) rfl
      have heq := equal_0U xb xo xc W1.heap.size (W1.alloc (.cells #[.int .u8 1] 5)) ((hbx.cell (p := ⟨xb, xo, none⟩) (cell_lt hG)).trans hG) hnw
      clear hG hD
      go_upto_region 5 with (go_at_call 73; refine heq.mono ?_; rintro e Wx ⟨rfl, rfl⟩; clear heq hnw)
      replace h_g := heap_below h_g hbx
      replace h_X := heap_below h_X hbx
      replace h_O := heap_below h_O hbx
      replace hb := hb.trans (hbx.mono hs)
      replace hs := Nat.le_trans hs hbx.size
      clear hbx cD
      generalize W1.alloc (.cells #[.int .u8 1] 5) = V1 at *
      have cn : V1.cell? ⟨X, 1, none⟩ = some (.int .u32 n) := cell_heap h_X rfl
      by_cases ht : t < n
      · have hr1 : nStat at' t 0 n false = none := by simp [nStat, fillN, ht]
        rw [hr1] at hr
        subst hr
        clear hr1
        go_wp2_with (first | (go_at_call 75; refine (filled_no V1 h_g n t hn ht).mono ?_; rintro e V3 ⟨rfl, hbV3⟩; replace h_g := heap_below h_g hbV3; replace h_X := heap_below h_X hbV3; replace h_O := heap_below h_O hbV3; replace hb := hb.trans (hbV3.mono hs); replace hs := Nat.le_trans hs hbV3.size; clear hbV3) | (refine wpList_store_row rfl 31 _ _ rfl O (uv 0 0 0 0) rfl rfl _ _ h_O (by kernel_rfl) rfl (uv_one _ _ _ _) ?_))
        refine bodyPost_ret (results_row_tmp rfl _ _ O _ (uv 0 0 0 0) _ _ rfl (setRow_heap _ _ _ _ _ _ h_O) _ rfl Tryd.underlying31 rfl (info_Up _ _ _ _)) rfl ?_
        exact ⟨rfl, below_setRow hb o_O _⟩
      · obtain ⟨p, hp⟩ : ∃ p : Int, p = if n = t then 3 else 2 := ⟨_, rfl⟩
        have hr1 : nStat at' t 0 n false = some (p, n) := by simp [nStat, fillN, ht, hp]
        rw [hr1] at hr
        subst hr
        clear hr1
        have HP := Lib.hid hp
        clear hp
        go_wp2_with (first | (go_at_call 75; refine (filled_yes V1 h_g n t hn ht p HP.out).mono ?_; rintro e V4 ⟨rfl, hbV4⟩; replace h_g := heap_below h_g hbV4; replace h_X := heap_below h_X hbV4; replace h_O := heap_below h_O hbV4; replace hb := hb.trans (hbV4.mono hs); replace hs := Nat.le_trans hs hbV4.size; clear hbV4) | (refine wpList_store_row rfl 31 _ _ rfl O (uv p n a b) rfl rfl _ _ h_O (by kernel_rfl) rfl (uv_one _ _ _ _) ?_))
        refine bodyPost_ret (results_row_tmp rfl _ _ O _ (uv p n a b) _ _ rfl (setRow_heap _ _ _ _ _ _ h_O) _ rfl Tryd.underlying31 rfl (info_Up _ _ _ _)) rfl ?_
        exact ⟨rfl, below_setRow hb o_O _⟩
    · have cD : W1.cell? ⟨X, 2, none⟩ = some (.slice (some ⟨xb, xo, none⟩) 1 xc) := cell_heap h_X rfl
      have hbx := below_alc W1 (.cells #[.int .u8 1] 5)
      have hnw : (W1.alloc (.cells #[.int .u8 1] 5)).cell? ⟨W1.heap.size, 0, none⟩ = some (.int .u8 1) := cell_heap (heap1_0 W1 _) rfl
      have heq := equal_1U xb xo xc W1.heap.size (W1.alloc (.cells #[.int .u8 1] 5)) ((hbx.cell (p := ⟨xb, xo, none⟩) (cell_lt hG)).trans hG) hnw
      clear hG hD
      go_upto_region 4 with (go_at_call 73; refine heq.mono ?_; rintro e Wx ⟨rfl, rfl⟩; clear heq hnw)
      replace h_g := heap_below h_g hbx
      replace h_X := heap_below h_X hbx
      replace h_O := heap_below h_O hbx
      replace hb := hb.trans (hbx.mono hs)
      replace hs := Nat.le_trans hs hbx.size
      clear hbx cD
      generalize W1.alloc (.cells #[.int .u8 1] 5) = V2 at *
      have hr1 : nStat at' t 0 n true = some (5, at') := by simp [nStat]
      rw [hr1] at hr
      subst hr
      clear hr1
      go_wp2_with (first | (go_at_call 74; refine (to_u V2 h_g 5).mono ?_; rintro e V5 ⟨rfl, hbV5⟩; replace h_g := heap_below h_g hbV5; replace h_X := heap_below h_X hbV5; replace h_O := heap_below h_O hbV5; replace hb := hb.trans (hbV5.mono hs); replace hs := Nat.le_trans hs hbV5.size; clear hbV5) | (refine wpList_store_row rfl 31 _ _ rfl O (uv 5 at' a b) rfl rfl _ _ h_O (by kernel_rfl) rfl (uv_one _ _ _ _) ?_))
      refine bodyPost_ret (results_row_tmp rfl _ _ O _ (uv 5 at' a b) _ _ rfl (setRow_heap _ _ _ _ _ _ h_O) _ rfl Tryd.underlying31 rfl (info_Up _ _ _ _)) rfl ?_
      exact ⟨rfl, below_setRow hb o_O _⟩
  · have d0 : (code == 0) = false := by simpa using e0
    go_upto_region 6 with (fail)
    try clear c0
    have g13 : W1.cell? ⟨13, 0, none⟩ = some (errV (E 13)) := (HE.out W1 hb).c 13 (by decide)
    have hcd := code_e E 13 (by decide) W1 (HE.out W1 hb)
    rw [show ((13 : Nat) : Int) + 1 = 14 from rfl] at hcd
    by_cases e14 : code = 14
    · subst e14
      have hr1 : nStat at' t 14 n d = some (1, at') := by simp [nStat, e0]
      rw [hr1] at hr
      subst hr
      clear hr1
      go_wp2_with (first | (go_at_call 16; refine hcd.mono ?_; rintro e V6 ⟨rfl, hbV6⟩; clear hcd g13; replace h_g := heap_below h_g hbV6; replace h_X := heap_below h_X hbV6; replace h_O := heap_below h_O hbV6; replace hb := hb.trans (hbV6.mono hs); replace hs := Nat.le_trans hs hbV6.size; clear hbV6) | (go_at_call 74; refine (to_u V6 h_g 1).mono ?_; rintro e V7 ⟨rfl, hbV7⟩; replace h_g := heap_below h_g hbV7; replace h_X := heap_below h_X hbV7; replace h_O := heap_below h_O hbV7; replace hb := hb.trans (hbV7.mono hs); replace hs := Nat.le_trans hs hbV7.size; clear hbV7) | (refine wpList_store_row rfl 31 _ _ rfl O (uv 1 at' a b) rfl rfl _ _ h_O (by kernel_rfl) rfl (uv_one _ _ _ _) ?_))
      refine bodyPost_ret (results_row_tmp rfl _ _ O _ (uv 1 at' a b) _ _ rfl (setRow_heap _ _ _ _ _ _ h_O) _ rfl Tryd.underlying31 rfl (info_Up _ _ _ _)) rfl ?_
      exact ⟨rfl, below_setRow hb o_O _⟩
    · have d14 : (code == 14) = false := by simpa using e14
      have hr1 : nStat at' t code n d = none := by simp [nStat, e0, e14]
      rw [hr1] at hr
      subst hr
      clear hr1
      go_wp2_with (first | (go_at_call 16; refine hcd.mono ?_; rintro e V8 ⟨rfl, hbV8⟩; clear hcd g13; replace h_g := heap_below h_g hbV8; replace h_X := heap_below h_X hbV8; replace h_O := heap_below h_O hbV8; replace hb := hb.trans (hbV8.mono hs); replace hs := Nat.le_trans hs hbV8.size; clear hbV8) | (refine wpList_build rfl 31 _ rfl #[] (by kernel_rfl) (.agg (uv 0 0 0 0)) (fun _ => by kernel_rfl) ?_) | (refine wpList_store_row rfl 31 _ _ rfl O (uv 0 0 0 0) rfl rfl _ _ h_O (by kernel_rfl) rfl (uv_one _ _ _ _) ?_))
      refine bodyPost_ret (results_row_tmp rfl _ _ O _ (uv 0 0 0 0) _ _ rfl (setRow_heap _ _ _ _ _ _ h_O) _ rfl Tryd.underlying31 rfl (info_Up _ _ _ _)) rfl ?_
      exact ⟨rfl, below_setRow hb o_O _⟩
set_option maxRecDepth 100000 in
set_option maxHeartbeats 800000 in
theorem after0_u (E : Nat → Addr) (w : World) (hE : ErrsAt E w) (h : UpH w g 0 at' a b) (code n : Int) (D : Value) (t : Int) (hn : 0 ≤ n ∧ n < 4294967296) (d : Bool) (hD0 : code = 0 → DatF w D d) (X0 : Option (Int × Int)) (hr : X0 = nStat at' t code n d) : Calls Tryd.prog 33 #[.pointer (some ⟨g, 0, none⟩), .int .i64 t, .agg (rv code n D)] w fun e w' => e = .returned (upR a b X0) ∧ Below w.heap.size w w' := by
  rw [upR_eq]
  obtain ⟨n0, hn0⟩ : ∃ n, n = w.heap.size := ⟨_, rfl⟩
  try rw [← hn0]
  have hb : Below n0 w w := by rw [hn0]; exact Below.refl _ _
  have hs : n0 ≤ w.heap.size := by rw [hn0]; exact Nat.le_refl _
  have HE : Hid (∀ W, Below n0 w W → ErrsAt E W ∧ (code = 0 → DatF W D d)) := Lib.hid (fun W hb => ⟨hE.below (by rw [hn0] at hb; exact hb), fun e => (hD0 e).below (by rw [hn0] at hb; exact hb)⟩)
  clear hn0
  have h_g : w.heap[g]? = some (.cells (uv 0 at' a b) 31 (0, 0)) := h
  clear h hE hD0
  go_enter Tryd.func33, Tryd.ntmps33
  go_upto_region 1 with (fail)
  have l_g_X : g < w.heap.size := lt_heap h_g
  have l_g_O : g < w.heap.size + 1 := by omega
  have o_X : n0 ≤ w.heap.size := hs
  have o_O : n0 ≤ w.heap.size + 1 := by omega
  have l_X_O : w.heap.size < w.heap.size + 1 := by omega
  refine wp_world (fun W => Below n0 w W ∧ n0 ≤ W.heap.size ∧ W.heap[g]? = some (.cells (uv 0 at' a b) 31 (0, 0)) ∧ W.heap[w.heap.size]? = some (.cells (rv code n D) 47 (0, 0)) ∧ W.heap[w.heap.size + 1]? = some (.cells (uv 0 0 0 0) 31 (0, 0))) ⟨(hb.trans ((below_alc w _).mono hs)).trans ((below_alc _ _).mono (Nat.le_trans hs (below_alc w _).size)), Nat.le_trans (Nat.le_trans hs (below_alc w _).size) (below_alc _ _).size, heap_below (heap_below h_g (below_alc w _)) (below_alc _ _), heap2_0 _ _ _, heap2_1 _ _ _⟩ ?_
  clear hb hs h_g 
  rintro W1 ⟨hb, hs, h_g, h_X, h_O⟩
  generalize w.heap.size = X at *
  generalize X + 1 = O at *
  have hcl := afterstat_u E W1 (HE.out W1 hb).1 h_g code n D t hn d (HE.out W1 hb).2 _ rfl
  rw [← hr, upR_eq] at hcl
  have HR := Lib.hid hr
  clear hr
  have c0 : W1.cell? ⟨g, 0, none⟩ = some (.int .i64 0) := cell_heap h_g rfl
  go_wp2_with (first | (refine wpList_load_row rfl 47 _ rfl X rfl _ _ _ _ h_X Tryd.underlying47 rfl (info_Rv _ _ _) ?_) | (go_at_call 57; refine hcl.mono ?_; rintro e V9 ⟨rfl, hbV9⟩; clear hcl c0; replace h_g := heap_below h_g hbV9; replace h_X := heap_below h_X hbV9; replace h_O := heap_below h_O hbV9; replace hb := hb.trans (hbV9.mono hs); replace hs := Nat.le_trans hs hbV9.size; clear hbV9) | (refine wpList_store_row rfl 31 _ _ rfl O (upA a b X0) rfl rfl _ _ h_O (info_UpA _ _ _) (upA_size _ _ _) (upA_one _ _ _) ?_))
  refine bodyPost_ret (results_row_tmp rfl _ _ O _ (upA a b X0) _ _ rfl (setRow_heap _ _ _ _ _ _ h_O) _ rfl Tryd.underlying31 rfl (info_UpA _ _ _)) rfl ?_
  exact ⟨rfl, below_setRow hb o_O _⟩
end
end Go.Proofs.YtffkjbbhbpaacaaDoor
