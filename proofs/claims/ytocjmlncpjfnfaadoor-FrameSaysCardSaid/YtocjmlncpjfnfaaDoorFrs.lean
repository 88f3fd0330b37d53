import Derived.Test.YtocjmlncpjfnfaaDoorFrt
/-
  FrameSays: the walk.
-/
namespace Go.Proofs.YtocjmlncpjfnfaaDoor
open Go.RowKit
set_option maxRecDepth 100000 in
set_option maxHeartbeats 12800000 in
theorem fsays_walk (E : Nat → Addr) (op off n : Int) (f : Nat → BitVec 8) (Aq : Option Addr) (yq : List Int) (lq cq : Nat) (code n2 : Int) (Ar : Option Addr) (yr : List Int) (lr cr : Nat) (Ab : Option Addr) (xb : List Int) (lb cb : Nat) (at0 b : Int) (cut : Bool) (w : World)
    (hE : ErrsAt E w) (hAq : SlRead w Aq (ints .u8 yq)) (hyq : Byts yq) (hlq : yq.length = lq) (hAr : SlRead w Ar (ints .u8 yr)) (hyr : Byts yr) (hlr : yr.length = lr) (hAb : SlRead w Ab (ints .u8 xb)) (hxb : Byts xb) (hlb : xb.length = lb) (hcb : lb ≤ cb) (hb8 : 0 ≤ b ∧ b < 256) :
    Calls Tryd.prog 3 #[.agg (rqA op f off n (.slice Aq lq cq)), .agg (rsA code n2 (.slice Ar lr cr)), .slice Ab lb cb, .int .i64 at0, .int .u8 b, .bool cut] w fun e w' => e = .returned (.bool true) ∧ Below w.heap.size w w' := by
  have HY := Lib.hid (And.intro hyq (And.intro hyr hxb))
  have HLN := Lib.hid (And.intro hlq (And.intro hlr (And.intro hlb hcb)))
  have HB8 := Lib.hid hb8
  obtain ⟨L1, hL1⟩ : ∃ L, 45 + yq.length = L := ⟨_, rfl⟩
  obtain ⟨L2, hL2⟩ : ∃ L, 9 + yr.length = L := ⟨_, rfl⟩
  have hLi : L1 = 45 + lq ∧ L2 = 9 + lr := by omega
  have HL := Lib.hid (And.intro hL1 hL2)
  have HLI := Lib.hid hLi
  have hAlt : (0 < yq.length → ∀ a, Aq = some a → a.block < w.heap.size) ∧ (0 < yr.length → ∀ a, Ar = some a → a.block < w.heap.size) ∧ (0 < xb.length → ∀ a, Ab = some a → a.block < w.heap.size) := ⟨sl_lt hAq, sl_lt hAr, sl_lt hAb⟩
  clear hyq hyr hxb hlq hlr hlb hcb hL1 hL2 hLi hb8
  obtain ⟨n0, hn0⟩ : ∃ n, n = w.heap.size := ⟨_, rfl⟩
  try rw [← hn0]
  have hb : Below n0 w w := by rw [hn0]; exact Below.refl _ _
  have hs : n0 ≤ w.heap.size := by rw [hn0]; exact Nat.le_refl _
  have HE0 := Lib.hid (fun (V : World) (h : Below n0 w V) => hE.below (by rw [← hn0]; exact h))
  have HA0 := Lib.hid (fun (V : World) (h : Below n0 w V) => hAb.below (by rw [← hn0]; exact h))
  clear hAlt
  clear hn0
  go_enter Tryd.func3, Tryd.ntmps3
  go_upto_region 1 with (fail)
  have o_Q : n0 ≤ w.heap.size := hs
  have o_R : n0 ≤ w.heap.size + 1 := by omega
  have l_Q_R : w.heap.size < w.heap.size + 1 := by omega
  refine wp_world (fun W => Below n0 w W ∧ n0 ≤ W.heap.size ∧ W.heap[w.heap.size]? = some (.cells (rqA op f off n (.slice Aq lq cq)) 27 (0, 0)) ∧ W.heap[w.heap.size + 1]? = some (.cells (rsA code n2 (.slice Ar lr cr)) 29 (0, 0)) ∧ ErrsAt E W ∧ SlRead W Aq (ints .u8 yq) ∧ SlRead W Ar (ints .u8 yr) ∧ SlRead W Ab (ints .u8 xb)) ⟨(hb.trans ((below_alc w _).mono hs)).trans ((below_alc _ _).mono (Nat.le_trans hs (below_alc w _).size)), Nat.le_trans (Nat.le_trans hs (below_alc w _).size) (below_alc _ _).size, heap2_0 _ _ _, heap2_1 _ _ _, (hE.below (below_alc w _)).below (below_alc _ _), (hAq.below (below_alc w _)).below (below_alc _ _), (hAr.below (below_alc w _)).below (below_alc _ _), (hAb.below (below_alc w _)).below (below_alc _ _)⟩ ?_
  clear hb hs  hE hAq hAr hAb
  rintro W1 ⟨hb, hs, h_Q, h_R, hE, hAq, hAr, hAb⟩
  generalize w.heap.size = Q at *
  generalize Q + 1 = R at *
  have HC := ffirst_any E W1 hE
  go_wp2_with fail
  refine HC.mono ?_
  rintro e N1 ⟨rfl, hbN⟩
  replace h_Q := heap_below h_Q hbN
  replace h_R := heap_below h_R hbN
  replace hE := hE.below hbN
  replace hAq := hAq.below hbN
  replace hAr := hAr.below hbN
  replace hAb := hAb.below hbN
  replace hb := hb.trans (hbN.mono hs)
  replace hs := Nat.le_trans hs hbN.size
  clear hbN HC
  have cq35 := cell_heap h_Q (rq_c35 _ _ _ _ _)
  have cr2 := cell_heap h_R (rs_c2 _ _ _)
  have HB0 := Lib.hid hb
  by_cases k1 : 300 < lb
  · have k1' : (300 : Int) < (lb : Int) := by omega
    clear k1
    go_wp2_with fail
    go_ret
    exact ⟨rfl, HB0.out⟩
  have k1' : ¬ (300 : Int) < (lb : Int) := by omega
  by_cases k2 : 220 < lq
  · have k2' : (220 : Int) < (lq : Int) := by omega
    clear k2
    go_wp2_with fail
    go_ret
    exact ⟨rfl, HB0.out⟩
  have k2' : ¬ (220 : Int) < (lq : Int) := by omega
  by_cases k3 : 220 < lr
  · have k3' : (220 : Int) < (lr : Int) := by omega
    clear k3
    go_wp2_with fail
    go_ret
    exact ⟨rfl, HB0.out⟩
  have k3' : ¬ (220 : Int) < (lr : Int) := by omega
  go_upto_region 6 with (fail)
  have HK := Lib.hid (And.intro k1 (And.intro k2 k3))
  clear k1 k2 k3 k1' k2' k3' cq35 cr2 HB0
  have HC := dreq_w op f off n Aq yq lq cq L1 N1 hAq HLN.out.1 HL.out.1 (by have := HK.out; omega)
  go_wp2_with (refine wpList_load_row rfl 27 _ rfl Q rfl _ _ _ _ h_Q Tryd.underlying27 rfl (rq_info _ _ _ _ _) ?_)
  refine HC.mono ?_
  rintro e N2 ⟨Ax, cx, rfl, hAx, hcx, hbN⟩
  replace h_Q := heap_below h_Q hbN
  replace h_R := heap_below h_R hbN
  replace hE := hE.below hbN
  replace hAq := hAq.below hbN
  replace hAr := hAr.below hbN
  replace hAb := hAb.below hbN
  replace hb := hb.trans (hbN.mono hs)
  replace hs := Nat.le_trans hs hbN.size
  clear hbN HC
  have HCX := Lib.hid hcx
  clear hcx
  have HC := drsp_w code n2 Ar yr lr cr L2 N2 hAr HLN.out.2.1 HL.out.2 (by have := HK.out; omega)
  go_wp2_with (refine wpList_load_row rfl 29 _ rfl R rfl _ _ _ _ h_R Tryd.underlying29 rfl (rs_info _ _ _) ?_)
  refine HC.mono ?_
  rintro e N3 ⟨Ay, cy, rfl, hAy, hcy, hbN⟩
  replace h_Q := heap_below h_Q hbN
  replace h_R := heap_below h_R hbN
  replace hE := hE.below hbN
  replace hAq := hAq.below hbN
  replace hAr := hAr.below hbN
  replace hAb := hAb.below hbN
  replace hAx := hAx.below hbN
  replace hb := hb.trans (hbN.mono hs)
  replace hs := Nat.le_trans hs hbN.size
  clear hbN HC
  have HCY := Lib.hid hcy
  clear hcy
  go_upto_region 8 with (fail)
  refine wp_region_lit ?_
  try simp only [put_list, List.set_cons_zero, List.set_cons_succ]
  refine wpList_run (by kernel_rfl) (.agg (rqA op f off n (.slice Aq lq cq))) (N3) (exec_load (vx := .pointer (some ⟨Q, 0, none⟩)) rfl (by kernel_rfl) (ld_q Q (rqA op f off n (.slice Aq lq cq)) N3 (rq_info _ _ _ _ _) h_Q)) ?_
  refine wpList_call (by kernel_rfl) 10 #[Go.Operand.tmp 53] #[27] #[.agg (rqA op f off n (.slice Aq lq cq))] _ rfl (by kernel_rfl) (by kernel_rfl) (req_w op f off n Aq yq lq cq L1 N3 hAq HLN.out.1 HL.out.1 (by have := HK.out; omega)) ?_
  rintro e T1 ⟨Az, cz, rfl, hAz, _, _, hbN⟩
  replace h_Q := heap_below h_Q hbN; replace h_R := heap_below h_R hbN; replace hE := hE.below hbN; replace hAq := hAq.below hbN; replace hAr := hAr.below hbN; replace hAb := hAb.below hbN; replace hAx := hAx.below hbN; replace hAy := hAy.below hbN; replace hb := hb.trans (hbN.mono hs); replace hs := Nat.le_trans hs hbN.size; clear hbN
  refine ⟨_, rfl, ?_⟩
  try simp only [put_list, List.set_cons_zero, List.set_cons_succ]
  refine wpList_run (by kernel_rfl) (.slice Ax L1 cx) (T1) (exec_move rfl (by kernel_rfl)) ?_
  refine wpList_call (by kernel_rfl) 9 #[Go.Operand.tmp 54, Go.Operand.tmp 55] #[25, 25] #[.slice Az L1 cz, .slice Ax L1 cx] _ rfl (by kernel_rfl) (by kernel_rfl) (same_b Az Ax (rqB op f off n yq) L1 cz cx T1 hAz hAx (by rw [rqB_len]; exact HL.out.1) (by have := HLI.out; have := HK.out; omega)) ?_
  rintro e T2 ⟨rfl, hbN⟩
  replace h_Q := heap_below h_Q hbN; replace h_R := heap_below h_R hbN; replace hE := hE.below hbN; replace hAq := hAq.below hbN; replace hAr := hAr.below hbN; replace hAb := hAb.below hbN; replace hAx := hAx.below hbN; replace hAy := hAy.below hbN; replace hb := hb.trans (hbN.mono hs); replace hs := Nat.le_trans hs hbN.size; clear hbN
  refine ⟨_, rfl, ?_⟩
  try simp only [put_list, List.set_cons_zero, List.set_cons_succ]
  refine wpList_run (by kernel_rfl) (.bool false) (T2) (exec_un (vx := .bool true) rfl (by kernel_rfl) (by kernel_rfl)) ?_
  try simp only [put_list, List.set_cons_zero, List.set_cons_succ]
  refine wpList_run (by kernel_rfl) (.bool false) (T2) (exec_move rfl (by kernel_rfl)) ?_
  try simp only [put_list, List.set_cons_zero, List.set_cons_succ]
  refine wpList_runG (by kernel_rfl) (.agg (rsA code n2 (.slice Ar lr cr))) (T2) (exec_load (vx := .pointer (some ⟨R, 0, none⟩)) rfl (by kernel_rfl) (ld_s R (rsA code n2 (.slice Ar lr cr)) T2 (rs_info _ _ _) h_R)) ?_
  refine wpList_call (by kernel_rfl) 11 #[Go.Operand.tmp 59] #[29] #[.agg (rsA code n2 (.slice Ar lr cr))] _ rfl (by kernel_rfl) (by kernel_rfl) (rsp_w code n2 Ar yr lr cr L2 T2 hAr HLN.out.2.1 HL.out.2 (by have := HK.out; omega)) ?_
  rintro e T3 ⟨Ah, ch, rfl, hAh, _, _, hbN⟩
  replace h_Q := heap_below h_Q hbN; replace h_R := heap_below h_R hbN; replace hE := hE.below hbN; replace hAq := hAq.below hbN; replace hAr := hAr.below hbN; replace hAb := hAb.below hbN; replace hAx := hAx.below hbN; replace hAy := hAy.below hbN; replace hb := hb.trans (hbN.mono hs); replace hs := Nat.le_trans hs hbN.size; clear hbN
  refine ⟨_, rfl, ?_⟩
  try simp only [put_list, List.set_cons_zero, List.set_cons_succ]
  refine wpList_runG (by kernel_rfl) (.slice Ay L2 cy) (T3) (exec_move rfl (by kernel_rfl)) ?_
  refine wpList_call (by kernel_rfl) 9 #[Go.Operand.tmp 60, Go.Operand.tmp 61] #[25, 25] #[.slice Ah L2 ch, .slice Ay L2 cy] _ rfl (by kernel_rfl) (by kernel_rfl) (same_b Ah Ay (rsB code n2 yr) L2 ch cy T3 hAh hAy (by rw [rsB_len]; exact HL.out.2) (by have := HLI.out; have := HK.out; omega)) ?_
  rintro e T4 ⟨rfl, hbN⟩
  replace h_Q := heap_below h_Q hbN; replace h_R := heap_below h_R hbN; replace hE := hE.below hbN; replace hAq := hAq.below hbN; replace hAr := hAr.below hbN; replace hAb := hAb.below hbN; replace hAx := hAx.below hbN; replace hAy := hAy.below hbN; replace hb := hb.trans (hbN.mono hs); replace hs := Nat.le_trans hs hbN.size; clear hbN
  refine ⟨_, rfl, ?_⟩
  try simp only [put_list, List.set_cons_zero, List.set_cons_succ]
  refine wpList_runG (by kernel_rfl) (.bool false) (T4) (exec_un (vx := .bool true) rfl (by kernel_rfl) (by kernel_rfl)) ?_
  try simp only [put_list, List.set_cons_zero, List.set_cons_succ]
  refine wpList_run (by kernel_rfl) (.bool false) (T4) (exec_pick (b := false) rfl (by kernel_rfl) (by kernel_rfl)) ?_
  refine wpList_nil ?_
  simp only [put_list, List.set_cons_zero, List.set_cons_succ]
  clear hAz hAh
  clear h_Q h_R hAq hAr
  obtain ⟨xx, hxx⟩ : ∃ xs, xs = rqB op f off n yq := ⟨_, rfl⟩
  obtain ⟨xy, hxy⟩ : ∃ xs, xs = rsB code n2 yr := ⟨_, rfl⟩
  rw [← hxx] at hAx
  rw [← hxy] at hAy
  have hxxl : xx.length = L1 := by rw [hxx, rqB_len]; exact HL.out.1
  have hxyl : xy.length = L2 := by rw [hxy, rsB_len]; exact HL.out.2
  have hbx : Byts xx := by rw [hxx]; exact rqB_byts HY.out.1
  have hby : Byts xy := by rw [hxy]; exact rsB_byts HY.out.2.1
  have HX := Lib.hid (And.intro hxxl hbx)
  have HXY := Lib.hid (And.intro hxyl hby)
  clear hxx hxy hxxl hxyl hbx hby
  obtain ⟨S1, hS1⟩ : ∃ S, S = T4.heap.size := ⟨_, rfl⟩
  have hxl : ∀ a, Ax = some a → a.block < S1 := fun a ha => by rw [hS1]; exact sl_lt hAx (by rw [HX.out.1]; have := HLI.out; omega) a ha
  have hyl : ∀ a, Ay = some a → a.block < S1 := fun a ha => by rw [hS1]; exact sl_lt hAy (by rw [HXY.out.1]; have := HLI.out; omega) a ha
  have hS1n : n0 ≤ S1 := by rw [hS1]; exact hs
  have HC := copy_b Ax xx L1 cx T4 hAx HX.out.1 (by have := HLI.out; have := HK.out; omega) (by have := HLI.out; omega)
  go_wp2_with fail
  refine HC.mono ?_
  rintro e N4 ⟨gc, cc, rfl, hoc, hgc, hgcl, hcc, hbN⟩
  replace hE := hE.below hbN
  replace hAb := hAb.below hbN
  replace hAx := hAx.below hbN
  replace hAy := hAy.below hbN
  replace hb := hb.trans (hbN.mono hs)
  replace hs := Nat.le_trans hs hbN.size
  clear hbN HC
  rw [← hS1] at hoc hgc
  clear hS1
  obtain ⟨S2, hS2⟩ : ∃ S, S = N4.heap.size := ⟨_, rfl⟩
  rw [← hS2] at hgcl
  have HC := copy_b Ay xy L2 cy N4 hAy HXY.out.1 (by have := HLI.out; have := HK.out; omega) (by have := HLI.out; omega)
  go_wp2_with fail
  refine HC.mono ?_
  rintro e N5 ⟨gd, cd, rfl, hod, hgd, _, hcd, hbN⟩
  rw [← hS2] at hod hgd
  have hoc := own_kept hoc (fun k hk => hbN.block k (own_lowlt hoc hk).2)
  replace hE := hE.below hbN
  replace hAb := hAb.below hbN
  replace hAx := hAx.below hbN
  replace hAy := hAy.below hbN
  replace hb := hb.trans (hbN.mono hs)
  replace hs := Nat.le_trans hs hbN.size
  clear hbN HC hS2
  obtain ⟨i1, hi1⟩ : ∃ k : Nat, at0 % (L1 : Int) = k := ⟨(at0 % (L1 : Int)).toNat, by have := Int.emod_nonneg at0 (show (L1 : Int) ≠ 0 by have := HLI.out; omega); omega⟩
  have hi1l : i1 < L1 := by have := Int.emod_lt_of_pos at0 (show 0 < (L1 : Int) by have := HLI.out; omega); omega
  have HC := num_b at0 L1 i1 N5 (by have := HLI.out; have := HK.out; omega) hi1
  clear hi1
  go_wp2_with fail
  refine HC.mono ?_
  rintro e N6 ⟨rfl, hbN⟩
  replace hoc := own_kept hoc (fun k hk => hbN.block k (own_lowlt hoc hk).2)
  replace hod := own_kept hod (fun k hk => hbN.block k (own_lowlt hod hk).2)
  replace hE := hE.below hbN
  replace hAb := hAb.below hbN
  replace hAx := hAx.below hbN
  replace hAy := hAy.below hbN
  replace hb := hb.trans (hbN.mono hs)
  replace hs := Nat.le_trans hs hbN.size
  clear hbN HC
  obtain ⟨i2, hi2⟩ : ∃ k : Nat, at0 % (L2 : Int) = k := ⟨(at0 % (L2 : Int)).toNat, by have := Int.emod_nonneg at0 (show (L2 : Int) ≠ 0 by have := HLI.out; omega); omega⟩
  have hi2l : i2 < L2 := by have := Int.emod_lt_of_pos at0 (show 0 < (L2 : Int) by have := HLI.out; omega); omega
  have HC := num_b at0 L2 i2 N6 (by have := HLI.out; have := HK.out; omega) hi2
  clear hi2
  go_wp2_with fail
  refine HC.mono ?_
  rintro e N7 ⟨rfl, hbN⟩
  replace hoc := own_kept hoc (fun k hk => hbN.block k (own_lowlt hoc hk).2)
  replace hod := own_kept hod (fun k hk => hbN.block k (own_lowlt hod hk).2)
  replace hE := hE.below hbN
  replace hAb := hAb.below hbN
  replace hAx := hAx.below hbN
  replace hAy := hAy.below hbN
  replace hb := hb.trans (hbN.mono hs)
  replace hs := Nat.le_trans hs hbN.size
  clear hbN HC
  obtain ⟨x, hxk⟩ : ∃ x, xx[i1]? = some x := ⟨xx[i1]'(by rw [HX.out.1]; omega), List.getElem?_eq_getElem _⟩
  have hxr : 0 ≤ x ∧ x < 256 := HX.out.2 x (List.mem_of_getElem? hxk)
  have cc1 : N7.cell? ⟨gc, i1, none⟩ = some (.int .u8 x) := by rw [hoc.cellAt i1 (by omega)]; exact ints_get .u8 xx i1 x hxk
  have fc1 := hoc.frozenAt i1
  obtain ⟨z, hz⟩ : ∃ z, z = bits .xor .u8 x b := ⟨_, rfl⟩
  have hzr : 0 ≤ z ∧ z < 256 := by rw [hz]; exact xor_rg x b hxr HB8.out
  have hst := (hoc.stored i1 (.int .u8 z)).1
  have hset : (ints .u8 xx).set i1 (.int .u8 z) = ints .u8 (xx.set i1 z) := by unfold ints; rw [List.map_set]
  rw [hset] at hst
  have hii : (i1 : Int) < (L1 : Int) := by omega
  have hT := set_turnH N7 gc i1 (.int .u8 z)
  obtain ⟨WS, hWS⟩ : ∃ V, V = N7.setCell ⟨gc, i1, none⟩ (.int .u8 z) := ⟨_, rfl⟩
  have hWS2 : N7.setCell ⟨gc, i1, none⟩ (.int .u8 (bits .xor .u8 x b)) = WS := by rw [hWS, hz]
  rw [← hWS] at hst hT
  clear hset hz hxk hxr hWS
  go_upto_region 15 with (fail)

  have HZxc := Lib.hid (And.intro (show (xx.set i1 z).length = L1 by rw [List.length_set]; exact HX.out.1) (HX.out.2.set i1 z hzr))
  obtain ⟨xc, hxc⟩ : ∃ xs, xs = xx.set i1 z := ⟨_, rfl⟩
  rw [← hxc] at hst HZxc
  refine wp_world (fun W => Below n0 w W ∧ n0 ≤ W.heap.size ∧ ErrsAt E W ∧ SlRead W Ab (ints .u8 xb) ∧ SlRead W Ax (ints .u8 xx) ∧ SlRead W Ay (ints .u8 xy) ∧ W.ownsRow S1 5 1 (.slice (some ⟨gc, 0, none⟩) L1 cc) L1 (ints .u8 xc) ∧ W.ownsRow S2 5 1 (.slice (some ⟨gd, 0, none⟩) L2 cd) L2 (ints .u8 xy)) ?_ ?_
  · have hbS : Below n0 w WS := hT.below hb hs (fun q e => by omega)
    exact ⟨hbS, Nat.le_trans hs hT.size, HE0.out _ hbS, HA0.out _ hbS, hAx.turn hT (fun _ a ha e => by have := hxl a ha; omega), hAy.turn hT (fun _ a ha e => by have := hyl a ha; omega), hst, own_kept hod (fun k hk => hT.block k (own_lowlt hod hk).2 (fun e => by have : gd = k := (by simpa [Value.ownBlock] using hk); omega))⟩
  clear hb hs hE hAb hAx hAy hoc hod hst hT hWS2 cc1 fc1 hxc hzr hii
  rintro N8 ⟨hb, hs, hE, hAb, hAx, hAy, hoc, hod⟩
  obtain ⟨x, hxk⟩ : ∃ x, xy[i2]? = some x := ⟨xy[i2]'(by rw [HXY.out.1]; omega), List.getElem?_eq_getElem _⟩
  have hxr : 0 ≤ x ∧ x < 256 := HXY.out.2 x (List.mem_of_getElem? hxk)
  have cc1 : N8.cell? ⟨gd, i2, none⟩ = some (.int .u8 x) := by rw [hod.cellAt i2 (by omega)]; exact ints_get .u8 xy i2 x hxk
  have fc1 := hod.frozenAt i2
  obtain ⟨z, hz⟩ : ∃ z, z = bits .xor .u8 x b := ⟨_, rfl⟩
  have hzr : 0 ≤ z ∧ z < 256 := by rw [hz]; exact xor_rg x b hxr HB8.out
  have hst := (hod.stored i2 (.int .u8 z)).1
  have hset : (ints .u8 xy).set i2 (.int .u8 z) = ints .u8 (xy.set i2 z) := by unfold ints; rw [List.map_set]
  rw [hset] at hst
  have hii : (i2 : Int) < (L2 : Int) := by omega
  have hT := set_turnH N8 gd i2 (.int .u8 z)
  obtain ⟨WS, hWS⟩ : ∃ V, V = N8.setCell ⟨gd, i2, none⟩ (.int .u8 z) := ⟨_, rfl⟩
  have hWS2 : N8.setCell ⟨gd, i2, none⟩ (.int .u8 (bits .xor .u8 x b)) = WS := by rw [hWS, hz]
  rw [← hWS] at hst hT
  clear hset hz hxk hxr hWS
  go_upto_region 16 with (fail)

  have HZxd := Lib.hid (And.intro (show (xy.set i2 z).length = L2 by rw [List.length_set]; exact HXY.out.1) (HXY.out.2.set i2 z hzr))
  obtain ⟨xd, hxd⟩ : ∃ xs, xs = xy.set i2 z := ⟨_, rfl⟩
  rw [← hxd] at hst HZxd
  refine wp_world (fun W => Below n0 w W ∧ n0 ≤ W.heap.size ∧ ErrsAt E W ∧ SlRead W Ab (ints .u8 xb) ∧ SlRead W Ax (ints .u8 xx) ∧ SlRead W Ay (ints .u8 xy) ∧ W.ownsRow S1 5 1 (.slice (some ⟨gc, 0, none⟩) L1 cc) L1 (ints .u8 xc) ∧ W.ownsRow S2 5 1 (.slice (some ⟨gd, 0, none⟩) L2 cd) L2 (ints .u8 xd)) ?_ ?_
  · have hbS : Below n0 w WS := hT.below hb hs (fun q e => by omega)
    exact ⟨hbS, Nat.le_trans hs hT.size, HE0.out _ hbS, HA0.out _ hbS, hAx.turn hT (fun _ a ha e => by have := hxl a ha; omega), hAy.turn hT (fun _ a ha e => by have := hyl a ha; omega), own_kept hoc (fun k hk => hT.block k (own_lowlt hoc hk).2 (fun e => by have : gc = k := (by simpa [Value.ownBlock] using hk); omega)), hst⟩
  clear hb hs hE hAb hAx hAy hoc hod hst hT hWS2 cc1 fc1 hxd hzr hii
  rintro N9 ⟨hb, hs, hE, hAb, hAx, hAy, hoc, hod⟩
  have hAc := SlRead.of_own hoc
  have hAd := SlRead.of_own hod
  have HC1 := Lib.hid (And.intro hi1l (And.intro hi2l (And.intro hcc hcd)))
  clear hoc hod hgc hgcl hgd hxl hyl hi1l hi2l hcc hcd
  rcases cut with _ | _
  · obtain ⟨WC, hWC⟩ : ∃ V, V = N9 := ⟨_, rfl⟩
    rw [← hWC] at hb hs hE hAb hAx hAy hAc hAd ⊢
    clear hWC
    have HCC := Lib.hid (And.intro HZxc.out.1 (And.intro HZxc.out.2 (And.intro (show L1 ≤ 300 by have := HK.out; have := HLI.out; omega) HC1.out.2.2.1)))
    have HDD := Lib.hid (And.intro HZxd.out.1 (And.intro HZxd.out.2 (And.intro (show L2 ≤ 300 by have := HK.out; have := HLI.out; omega) HC1.out.2.2.2)))
    have HFV : FiveS (WC.alloc (.cells #[.slice Ab lb cb, .slice Ax L1 cx, .slice Ay L2 cy, .slice (some ⟨gc, 0, none⟩) L1 cc, .slice (some ⟨gd, 0, none⟩) L2 cd] 25)) WC.heap.size := fun i hi => by
      have hbb := below_alc WC (.cells #[.slice Ab lb cb, .slice Ax L1 cx, .slice Ay L2 cy, .slice (some ⟨gc, 0, none⟩) L1 cc, .slice (some ⟨gd, 0, none⟩) L2 cd] 25)
      have hcell : ∀ (j : Nat) (v : Value), (#[.slice Ab lb cb, .slice Ax L1 cx, .slice Ay L2 cy, .slice (some ⟨gc, 0, none⟩) L1 cc, .slice (some ⟨gd, 0, none⟩) L2 cd] : Array Value)[j]? = some v → (WC.alloc (.cells #[.slice Ab lb cb, .slice Ax L1 cx, .slice Ay L2 cy, .slice (some ⟨gc, 0, none⟩) L1 cc, .slice (some ⟨gd, 0, none⟩) L2 cd] 25)).cell? ⟨WC.heap.size, j, none⟩ = some v := fun j v hv => cell_heap (heap1_0 _ _) hv
      have hk := HK.out
      have hli := HLI.out
      obtain rfl | rfl | rfl | rfl | rfl : i = 0 ∨ i = 1 ∨ i = 2 ∨ i = 3 ∨ i = 4 := by omega
      · exact ⟨Ab, xb, lb, cb, hcell 0 _ rfl, HLN.out.2.2.1, hAb.below hbb, HY.out.2.2, by omega, HLN.out.2.2.2⟩
      · exact ⟨Ax, xx, L1, cx, hcell 1 _ rfl, HX.out.1, hAx.below hbb, HX.out.2, by omega, HCX.out⟩
      · exact ⟨Ay, xy, L2, cy, hcell 2 _ rfl, HXY.out.1, hAy.below hbb, HXY.out.2, by omega, HCY.out⟩
      · exact ⟨(some ⟨gc, 0, none⟩), xc, L1, cc, hcell 3 _ rfl, HCC.out.1, hAc.below hbb, HCC.out.2.1, HCC.out.2.2.1, HCC.out.2.2.2⟩
      · exact ⟨(some ⟨gd, 0, none⟩), xd, L2, cd, hcell 4 _ rfl, HDD.out.1, hAd.below hbb, HDD.out.2.1, HDD.out.2.2.1, HDD.out.2.2.2⟩
    have HFV := Lib.hid HFV
    clear hAb hAx hAy hAc hAd
    go_upto_region 21 with (fail)
    obtain ⟨G, hG⟩ : ∃ G, G = WC.heap.size := ⟨_, rfl⟩
    refine wp_world (fun W => Below n0 w W ∧ n0 ≤ W.heap.size ∧ ErrsAt E W ∧ FiveS W G) ⟨hb.trans ((below_alc WC _).mono hs), Nat.le_trans hs (below_alc WC _).size, hE.below (below_alc WC _), by rw [hG]; exact HFV.out⟩ ?_
    rw [← hG]
    clear hb hs hE HFV hG
    rintro WD ⟨hb, hs, hE, hFV⟩
    go_loopw [21] (fun i wr => ∃ k : Nat, k ≤ 5 ∧ i = .int .i64 (k : Int) ∧ Below n0 w wr ∧ n0 ≤ wr.heap.size ∧ ErrsAt E wr ∧ FiveS wr G) (fun i _ => 5 - (intOf i).toNat)
    case atStart => exact ⟨0, by omega, rfl, hb, hs, hE, hFV⟩
    clear hb hs hE hFV
    case round =>
      obtain ⟨k, hk, rfl, hb, hs, hE, hFV⟩ := hrel
      by_cases hlt : k < 5
      · have hk5 : (k : Int) < 5 := by omega
        have hix := fun w => idx_5 G k hlt w
        obtain ⟨A, xs, l, c, hcell, hxl, hA, hx, hl3, hlc⟩ := hFV k hlt
        have HFV := Lib.hid hFV
        clear hFV
        have hFW := HFV.out
        clear HFV
        have HXL := Lib.hid (And.intro hxl (And.intro hx (And.intro hl3 hlc)))
        clear hxl hx hl3 hlc
        obtain ⟨fc1, fp1, fz1, hf1⟩ := flt_form (reqO xs)
        have HF1 := Lib.hid hf1
        obtain ⟨fc2, fp2, fz2, hf2⟩ := flt_form (rspO xs)
        have HF2 := Lib.hid hf2
        clear hf1 hf2
        go_upto_region 23 with (fail)
        refine wp_region_lit ?_
        try simp only [put_list, List.set_cons_zero, List.set_cons_succ]
        refine wpList_run (by kernel_rfl) (.slice (some ⟨G, 0, none⟩) 5 5) (wr) (exec_move rfl (by kernel_rfl)) ?_
        try simp only [put_list, List.set_cons_zero, List.set_cons_succ]
        refine wpList_run (by kernel_rfl) (.int .i64 (k : Int)) (wr) (exec_move rfl (by kernel_rfl)) ?_
        try simp only [put_list, List.set_cons_zero, List.set_cons_succ]
        refine wpList_run (by kernel_rfl) (.pointer (some ⟨G, k, none⟩)) (wr) (exec_index (vx := .slice (some ⟨G, 0, none⟩) 5 5) (vy := .int .i64 (k : Int)) rfl (by kernel_rfl) (hix wr)) ?_
        try simp only [put_list, List.set_cons_zero, List.set_cons_succ]
        refine wpList_run (by kernel_rfl) (.slice A l c) (wr) (exec_load (vx := .pointer (some ⟨G, k, none⟩)) rfl (by kernel_rfl) (load_slice G k wr 25 (fun w => by kernel_rfl) _ hcell)) ?_
        refine wpList_call (by kernel_rfl) 14 #[Go.Operand.tmp 118] #[25] #[.slice A l c] _ rfl (by kernel_rfl) (by kernel_rfl) (req_r E A xs l c wr hA HXL.out.1 HXL.out.2.1 (by have := HXL.out; omega) hE) ?_
        rintro e M1 ⟨o1, f1, a1, b1, B1, l1, c1, u1, rfl, hp1, ht1, hbN⟩
        replace hcell := (hbN.cell (p := ⟨G, k, none⟩) (cell_lt hcell)).trans hcell; replace hE := hE.below hbN; replace hA := hA.below hbN; replace hFW := hFW.below hbN; replace hb := hb.trans (hbN.mono hs); replace hs := Nat.le_trans hs hbN.size; clear hbN
        refine ⟨_, rfl, ?_⟩
        try simp only [put_list, List.set_cons_zero, List.set_cons_succ]
        refine wpList_run (by kernel_rfl) (.tuple #[.agg (rqA o1 f1 a1 b1 (.slice B1 l1 c1)), u1]) (M1) (exec_move rfl (by kernel_rfl)) ?_
        try simp only [put_list, List.set_cons_zero, List.set_cons_succ]
        refine wpList_run (by kernel_rfl) (.agg (rqA o1 f1 a1 b1 (.slice B1 l1 c1))) (M1) (exec_extract (vx := .tuple #[.agg (rqA o1 f1 a1 b1 (.slice B1 l1 c1)), u1]) rfl (by kernel_rfl) (by kernel_rfl)) ?_
        try simp only [put_list, List.set_cons_zero, List.set_cons_succ]
        refine wpList_run (by kernel_rfl) (u1) (M1) (exec_extract (vx := .tuple #[.agg (rqA o1 f1 a1 b1 (.slice B1 l1 c1)), u1]) rfl (by kernel_rfl) (by kernel_rfl)) ?_
        try simp only [put_list, List.set_cons_zero, List.set_cons_succ]
        refine wpList_allocV (by kernel_rfl) 27 (by kernel_rfl) (rqA 0 zf 0 0 (.slice none 0 0)) (fun _ => by kernel_rfl) ?_
        try simp only [put_list, List.set_cons_zero, List.set_cons_succ]
        refine wpList_store_row (by kernel_rfl) 27 (Go.Operand.tmp 22) (Go.Operand.tmp 120) (by kernel_rfl) M1.heap.size (rqA o1 f1 a1 b1 (.slice B1 l1 c1)) (by kernel_rfl) (by kernel_rfl) _ _ (heap_alloc_new _ _) (rq_info _ _ _ _ _) (by kernel_rfl) (rq_one _ _ _ _ _ _ _) ?_
        rw [alloc_setRow]
        simp only [put_none]
        try simp only [put_list, List.set_cons_zero, List.set_cons_succ]
        refine wpList_run (by kernel_rfl) (u1) ((M1.alloc (.cells (rqA o1 f1 a1 b1 (.slice B1 l1 c1)) 27))) (exec_assign rfl (by kernel_rfl)) ?_
        refine wpList_nil ?_
        simp only [put_list, List.set_cons_zero, List.set_cons_succ]
        have hcb2 := below_alc M1 (.cells (rqA o1 f1 a1 b1 (.slice B1 l1 c1)) 27)
        have hcell2 := (hcb2.cell (p := ⟨G, k, none⟩) (cell_lt hcell)).trans hcell
        obtain ⟨WZ, hWZ⟩ : ∃ V, V = M1.alloc (.cells (rqA o1 f1 a1 b1 (.slice B1 l1 c1)) 27) := ⟨_, rfl⟩
        rw [← hWZ] at hcell2 hcb2 ⊢
        have h_P1 : WZ.heap[M1.heap.size]? = some (.cells (rqA o1 f1 a1 b1 (.slice B1 l1 c1)) 27 (0, 0)) := by rw [hWZ]; exact heap1_0 _ _
        clear hWZ hcell
        have hcell := hcell2
        clear hcell2
        obtain ⟨P1, hnm⟩ : ∃ H, H = M1.heap.size := ⟨_, rfl⟩
        rw [← hnm] at h_P1 ⊢
        clear hnm
        replace hE := hE.below hcb2
        replace hA := hA.below hcb2
        replace hFW := hFW.below hcb2
        replace hp1 := hp1.below hcb2
        replace ht1 := ht1.below hcb2
        replace hb := hb.trans (hcb2.mono hs)
        replace hs := Nat.le_trans hs hcb2.size
        clear hcb2 
        generalize WZ = Z101 at *
        go_upto_region 24 with (fail)
        refine wp_region_lit ?_
        try simp only [put_list, List.set_cons_zero, List.set_cons_succ]
        refine wpList_run (by kernel_rfl) (.slice (some ⟨G, 0, none⟩) 5 5) (Z101) (exec_move rfl (by kernel_rfl)) ?_
        try simp only [put_list, List.set_cons_zero, List.set_cons_succ]
        refine wpList_run (by kernel_rfl) (.int .i64 (k : Int)) (Z101) (exec_move rfl (by kernel_rfl)) ?_
        try simp only [put_list, List.set_cons_zero, List.set_cons_succ]
        refine wpList_run (by kernel_rfl) (.pointer (some ⟨G, k, none⟩)) (Z101) (exec_index (vx := .slice (some ⟨G, 0, none⟩) 5 5) (vy := .int .i64 (k : Int)) rfl (by kernel_rfl) (hix Z101)) ?_
        try simp only [put_list, List.set_cons_zero, List.set_cons_succ]
        refine wpList_run (by kernel_rfl) (.slice A l c) (Z101) (exec_load (vx := .pointer (some ⟨G, k, none⟩)) rfl (by kernel_rfl) (load_slice G k Z101 25 (fun w => by kernel_rfl) _ hcell)) ?_
        refine wpList_call (by kernel_rfl) 15 #[Go.Operand.tmp 126] #[25] #[.slice A l c] _ rfl (by kernel_rfl) (by kernel_rfl) (dreq_r A xs l c Z101 hA HXL.out.1 HXL.out.2.2.2 HXL.out.2.1 (by have := HXL.out; omega)) ?_
        rintro e M2 ⟨o2, f2, a2, b2, B2, l2, c2, rfl, hp2, hbN⟩
        replace hcell := (hbN.cell (p := ⟨G, k, none⟩) (cell_lt hcell)).trans hcell; replace h_P1 := heap_below h_P1 hbN; replace hE := hE.below hbN; replace hA := hA.below hbN; replace hFW := hFW.below hbN; replace hp1 := hp1.below hbN; replace ht1 := ht1.below hbN; replace hb := hb.trans (hbN.mono hs); replace hs := Nat.le_trans hs hbN.size; clear hbN
        rw [HF1.out]
        refine ⟨_, rfl, ?_⟩
        try simp only [put_list, List.set_cons_zero, List.set_cons_succ]
        refine wpList_run (by kernel_rfl) (.tuple #[.agg (rqA o2 f2 a2 b2 (.slice B2 l2 c2)), .agg (frow fc1 fp1 fz1)]) (M2) (exec_move rfl (by kernel_rfl)) ?_
        try simp only [put_list, List.set_cons_zero, List.set_cons_succ]
        refine wpList_run (by kernel_rfl) (.agg (rqA o2 f2 a2 b2 (.slice B2 l2 c2))) (M2) (exec_extract (vx := .tuple #[.agg (rqA o2 f2 a2 b2 (.slice B2 l2 c2)), .agg (frow fc1 fp1 fz1)]) rfl (by kernel_rfl) (by kernel_rfl)) ?_
        try simp only [put_list, List.set_cons_zero, List.set_cons_succ]
        refine wpList_run (by kernel_rfl) (.agg (frow fc1 fp1 fz1)) (M2) (exec_extract (vx := .tuple #[.agg (rqA o2 f2 a2 b2 (.slice B2 l2 c2)), .agg (frow fc1 fp1 fz1)]) rfl (by kernel_rfl) (by kernel_rfl)) ?_
        obtain ⟨WY, hWY⟩ : ∃ V, V = M2.alloc (.cells (rqA 0 zf 0 0 (.slice none 0 0)) 27) := ⟨_, rfl⟩
        obtain ⟨WX, hWX⟩ : ∃ V, V = WY.alloc (.cells (frow 0 false 0) 42) := ⟨_, rfl⟩
        obtain ⟨P2, hP2⟩ : ∃ P, P = M2.heap.size := ⟨_, rfl⟩
        obtain ⟨K2, hK2⟩ : ∃ P, P = WY.heap.size := ⟨_, rfl⟩
        have hlt2 : P2 < K2 := by rw [hK2, hWY, hP2]; simp
        have hrA : WX.heap[P2]? = some (.cells (rqA 0 zf 0 0 (.slice none 0 0)) 27 (0, 0)) := by rw [hWX, hWY, hP2]; exact heap2_0 _ _ _
        have hrB : WX.heap[K2]? = some (.cells (frow 0 false 0) 42 (0, 0)) := by rw [hWX, hK2]; exact heap1_0 _ _
        have hbX : Below M2.heap.size M2 WX := by rw [hWX, hWY]; exact (below_alc _ _).alloc (by simp) _
        try simp only [put_list, List.set_cons_zero, List.set_cons_succ]
        refine wpList_allocV (by kernel_rfl) 27 (by kernel_rfl) (rqA 0 zf 0 0 (.slice none 0 0)) (fun _ => by kernel_rfl) ?_
        rw [← hWY, ← hP2]
        try simp only [put_list, List.set_cons_zero, List.set_cons_succ]
        refine wpList_allocV (by kernel_rfl) 42 (by kernel_rfl) (frow 0 false 0) (fun _ => by kernel_rfl) ?_
        rw [← hWX, ← hK2]
        try simp only [put_list, List.set_cons_zero, List.set_cons_succ]
        refine wpList_store_row (by kernel_rfl) 27 (Go.Operand.tmp 24) (Go.Operand.tmp 128) (by kernel_rfl) P2 (rqA o2 f2 a2 b2 (.slice B2 l2 c2)) (by kernel_rfl) (by kernel_rfl) _ _ hrA (rq_info _ _ _ _ _) (rq_szs _ _ _ _ _ _ _ _ _ _) (rq_one _ _ _ _ _ _ _) ?_
        simp only [put_none]
        refine wpList_store_row (by kernel_rfl) 42 (Go.Operand.tmp 25) (Go.Operand.tmp 129) (by kernel_rfl) K2 (frow fc1 fp1 fz1) (by kernel_rfl) (by kernel_rfl) _ _ ((setRow_other _ P2 K2 _ (by omega)).trans hrB) (by kernel_rfl) rfl (frow_one _ _ _) ?_
        refine wpList_nil ?_
        simp only [put_none]
        go_upto_region 25 with (fail)
        refine wp_world (fun W => Below n0 w W ∧ n0 ≤ W.heap.size ∧ W.cell? ⟨G, k, none⟩ = some (.slice A l c) ∧ W.heap[P1]? = some (.cells (rqA o1 f1 a1 b1 (.slice B1 l1 c1)) 27 (0, 0)) ∧ ErrsAt E W ∧ SlRead W A (ints .u8 xs) ∧ FiveS W G ∧ RqP xs 0 (rqA o1 f1 a1 b1 (.slice B1 l1 c1)) W ∧ TellR E (reqO xs) u1 W ∧ RqP xs 0 (rqA o2 f2 a2 b2 (.slice B2 l2 c2)) W ∧ W.heap[P2]? = some (.cells (rqA o2 f2 a2 b2 (.slice B2 l2 c2)) 27 (0, 0)) ∧ W.heap[K2]? = some (.cells (frow fc1 fp1 fz1) 42 (0, 0))) ?_ ?_
        · have hbT : Below M2.heap.size M2 ((WX.setRow P2 (rqA o2 f2 a2 b2 (.slice B2 l2 c2))).setRow K2 (frow fc1 fp1 fz1)) := setRow_below (setRow_below hbX P2 (by rw [hP2]; exact Nat.le_refl _) _) K2 (by omega) _
          exact ⟨hb.trans (hbT.mono hs), Nat.le_trans hs hbT.size, (hbT.cell (p := ⟨G, k, none⟩) (cell_lt hcell)).trans hcell, heap_below h_P1 hbT, hE.below hbT, hA.below hbT, hFW.below hbT, hp1.below hbT, ht1.below hbT, hp2.below hbT, (setRow_other _ _ _ _ (by omega)).trans (setRow_heap _ _ _ _ _ _ hrA), setRow_heap _ _ _ _ _ _ ((setRow_other _ _ _ _ (by omega)).trans hrB)⟩
        clear hWX hWY hP2 hK2 hrA hrB hbX hlt2 hb hs hcell h_P1 hE hA hFW hp1 ht1 hp2
        rintro Z102 ⟨hb, hs, hcell, h_P1, hE, hA, hFW, hp1, ht1, hp2, h_P2, h_K2⟩
        go_upto_region 25 with (fail)
        refine wp_region_lit ?_
        try simp only [put_list, List.set_cons_zero, List.set_cons_succ]
        refine wpList_run (by kernel_rfl) (.slice (some ⟨G, 0, none⟩) 5 5) (Z102) (exec_move rfl (by kernel_rfl)) ?_
        try simp only [put_list, List.set_cons_zero, List.set_cons_succ]
        refine wpList_run (by kernel_rfl) (.int .i64 (k : Int)) (Z102) (exec_move rfl (by kernel_rfl)) ?_
        try simp only [put_list, List.set_cons_zero, List.set_cons_succ]
        refine wpList_run (by kernel_rfl) (.pointer (some ⟨G, k, none⟩)) (Z102) (exec_index (vx := .slice (some ⟨G, 0, none⟩) 5 5) (vy := .int .i64 (k : Int)) rfl (by kernel_rfl) (hix Z102)) ?_
        try simp only [put_list, List.set_cons_zero, List.set_cons_succ]
        refine wpList_run (by kernel_rfl) (.slice A l c) (Z102) (exec_load (vx := .pointer (some ⟨G, k, none⟩)) rfl (by kernel_rfl) (load_slice G k Z102 25 (fun w => by kernel_rfl) _ hcell)) ?_
        refine wpList_call (by kernel_rfl) 16 #[Go.Operand.tmp 134] #[25] #[.slice A l c] _ rfl (by kernel_rfl) (by kernel_rfl) (rsp_r E A xs l c Z102 hA HXL.out.1 HXL.out.2.1 (by have := HXL.out; omega) hE) ?_
        rintro e M3 ⟨o3, a3, B3, l3, c3, u3, rfl, hp3, ht3, hbN⟩
        replace hcell := (hbN.cell (p := ⟨G, k, none⟩) (cell_lt hcell)).trans hcell; replace h_P1 := heap_below h_P1 hbN; replace h_P2 := heap_below h_P2 hbN; replace h_K2 := heap_below h_K2 hbN; replace hE := hE.below hbN; replace hA := hA.below hbN; replace hFW := hFW.below hbN; replace hp1 := hp1.below hbN; replace ht1 := ht1.below hbN; replace hp2 := hp2.below hbN; replace hb := hb.trans (hbN.mono hs); replace hs := Nat.le_trans hs hbN.size; clear hbN
        refine ⟨_, rfl, ?_⟩
        try simp only [put_list, List.set_cons_zero, List.set_cons_succ]
        refine wpList_run (by kernel_rfl) (.tuple #[.agg (rsA o3 a3 (.slice B3 l3 c3)), u3]) (M3) (exec_move rfl (by kernel_rfl)) ?_
        try simp only [put_list, List.set_cons_zero, List.set_cons_succ]
        refine wpList_run (by kernel_rfl) (.agg (rsA o3 a3 (.slice B3 l3 c3))) (M3) (exec_extract (vx := .tuple #[.agg (rsA o3 a3 (.slice B3 l3 c3)), u3]) rfl (by kernel_rfl) (by kernel_rfl)) ?_
        try simp only [put_list, List.set_cons_zero, List.set_cons_succ]
        refine wpList_run (by kernel_rfl) (u3) (M3) (exec_extract (vx := .tuple #[.agg (rsA o3 a3 (.slice B3 l3 c3)), u3]) rfl (by kernel_rfl) (by kernel_rfl)) ?_
        try simp only [put_list, List.set_cons_zero, List.set_cons_succ]
        refine wpList_allocV (by kernel_rfl) 29 (by kernel_rfl) (rsA 0 0 (.slice none 0 0)) (fun _ => by kernel_rfl) ?_
        try simp only [put_list, List.set_cons_zero, List.set_cons_succ]
        refine wpList_store_row (by kernel_rfl) 29 (Go.Operand.tmp 26) (Go.Operand.tmp 136) (by kernel_rfl) M3.heap.size (rsA o3 a3 (.slice B3 l3 c3)) (by kernel_rfl) (by kernel_rfl) _ _ (heap_alloc_new _ _) (rs_info _ _ _) (by kernel_rfl) (rs_one _ _ _ _ _) ?_
        rw [alloc_setRow]
        simp only [put_none]
        try simp only [put_list, List.set_cons_zero, List.set_cons_succ]
        refine wpList_run (by kernel_rfl) (u3) ((M3.alloc (.cells (rsA o3 a3 (.slice B3 l3 c3)) 29))) (exec_assign rfl (by kernel_rfl)) ?_
        refine wpList_nil ?_
        simp only [put_list, List.set_cons_zero, List.set_cons_succ]
        have hcb2 := below_alc M3 (.cells (rsA o3 a3 (.slice B3 l3 c3)) 29)
        have hcell2 := (hcb2.cell (p := ⟨G, k, none⟩) (cell_lt hcell)).trans hcell
        obtain ⟨WZ, hWZ⟩ : ∃ V, V = M3.alloc (.cells (rsA o3 a3 (.slice B3 l3 c3)) 29) := ⟨_, rfl⟩
        rw [← hWZ] at hcell2 hcb2 ⊢
        have h_P3 : WZ.heap[M3.heap.size]? = some (.cells (rsA o3 a3 (.slice B3 l3 c3)) 29 (0, 0)) := by rw [hWZ]; exact heap1_0 _ _
        clear hWZ hcell
        have hcell := hcell2
        clear hcell2
        obtain ⟨P3, hnm⟩ : ∃ H, H = M3.heap.size := ⟨_, rfl⟩
        rw [← hnm] at h_P3 ⊢
        clear hnm
        replace h_P1 := heap_below h_P1 hcb2
        replace h_P2 := heap_below h_P2 hcb2
        replace h_K2 := heap_below h_K2 hcb2
        replace hE := hE.below hcb2
        replace hA := hA.below hcb2
        replace hFW := hFW.below hcb2
        replace hp1 := hp1.below hcb2
        replace ht1 := ht1.below hcb2
        replace hp2 := hp2.below hcb2
        replace hp3 := hp3.below hcb2
        replace ht3 := ht3.below hcb2
        replace hb := hb.trans (hcb2.mono hs)
        replace hs := Nat.le_trans hs hcb2.size
        clear hcb2 
        generalize WZ = Z103 at *
        go_upto_region 26 with (fail)
        refine wp_region_lit ?_
        try simp only [put_list, List.set_cons_zero, List.set_cons_succ]
        refine wpList_run (by kernel_rfl) (.slice (some ⟨G, 0, none⟩) 5 5) (Z103) (exec_move rfl (by kernel_rfl)) ?_
        try simp only [put_list, List.set_cons_zero, List.set_cons_succ]
        refine wpList_run (by kernel_rfl) (.int .i64 (k : Int)) (Z103) (exec_move rfl (by kernel_rfl)) ?_
        try simp only [put_list, List.set_cons_zero, List.set_cons_succ]
        refine wpList_run (by kernel_rfl) (.pointer (some ⟨G, k, none⟩)) (Z103) (exec_index (vx := .slice (some ⟨G, 0, none⟩) 5 5) (vy := .int .i64 (k : Int)) rfl (by kernel_rfl) (hix Z103)) ?_
        try simp only [put_list, List.set_cons_zero, List.set_cons_succ]
        refine wpList_run (by kernel_rfl) (.slice A l c) (Z103) (exec_load (vx := .pointer (some ⟨G, k, none⟩)) rfl (by kernel_rfl) (load_slice G k Z103 25 (fun w => by kernel_rfl) _ hcell)) ?_
        refine wpList_call (by kernel_rfl) 17 #[Go.Operand.tmp 142] #[25] #[.slice A l c] _ rfl (by kernel_rfl) (by kernel_rfl) (drsp_r A xs l c Z103 hA HXL.out.1 HXL.out.2.2.2 HXL.out.2.1 (by have := HXL.out; omega)) ?_
        rintro e M4 ⟨o4, a4, B4, l4, c4, rfl, hp4, hbN⟩
        replace hcell := (hbN.cell (p := ⟨G, k, none⟩) (cell_lt hcell)).trans hcell; replace h_P1 := heap_below h_P1 hbN; replace h_P2 := heap_below h_P2 hbN; replace h_K2 := heap_below h_K2 hbN; replace h_P3 := heap_below h_P3 hbN; replace hE := hE.below hbN; replace hA := hA.below hbN; replace hFW := hFW.below hbN; replace hp1 := hp1.below hbN; replace ht1 := ht1.below hbN; replace hp2 := hp2.below hbN; replace hp3 := hp3.below hbN; replace ht3 := ht3.below hbN; replace hb := hb.trans (hbN.mono hs); replace hs := Nat.le_trans hs hbN.size; clear hbN
        rw [HF2.out]
        refine ⟨_, rfl, ?_⟩
        try simp only [put_list, List.set_cons_zero, List.set_cons_succ]
        refine wpList_run (by kernel_rfl) (.tuple #[.agg (rsA o4 a4 (.slice B4 l4 c4)), .agg (frow fc2 fp2 fz2)]) (M4) (exec_move rfl (by kernel_rfl)) ?_
        try simp only [put_list, List.set_cons_zero, List.set_cons_succ]
        refine wpList_run (by kernel_rfl) (.agg (rsA o4 a4 (.slice B4 l4 c4))) (M4) (exec_extract (vx := .tuple #[.agg (rsA o4 a4 (.slice B4 l4 c4)), .agg (frow fc2 fp2 fz2)]) rfl (by kernel_rfl) (by kernel_rfl)) ?_
        try simp only [put_list, List.set_cons_zero, List.set_cons_succ]
        refine wpList_run (by kernel_rfl) (.agg (frow fc2 fp2 fz2)) (M4) (exec_extract (vx := .tuple #[.agg (rsA o4 a4 (.slice B4 l4 c4)), .agg (frow fc2 fp2 fz2)]) rfl (by kernel_rfl) (by kernel_rfl)) ?_
        obtain ⟨WY, hWY⟩ : ∃ V, V = M4.alloc (.cells (rsA 0 0 (.slice none 0 0)) 29) := ⟨_, rfl⟩
        obtain ⟨WX, hWX⟩ : ∃ V, V = WY.alloc (.cells (frow 0 false 0) 42) := ⟨_, rfl⟩
        obtain ⟨P4, hP4⟩ : ∃ P, P = M4.heap.size := ⟨_, rfl⟩
        obtain ⟨K4, hK4⟩ : ∃ P, P = WY.heap.size := ⟨_, rfl⟩
        have hlt2 : P4 < K4 := by rw [hK4, hWY, hP4]; simp
        have hrA : WX.heap[P4]? = some (.cells (rsA 0 0 (.slice none 0 0)) 29 (0, 0)) := by rw [hWX, hWY, hP4]; exact heap2_0 _ _ _
        have hrB : WX.heap[K4]? = some (.cells (frow 0 false 0) 42 (0, 0)) := by rw [hWX, hK4]; exact heap1_0 _ _
        have hbX : Below M4.heap.size M4 WX := by rw [hWX, hWY]; exact (below_alc _ _).alloc (by simp) _
        try simp only [put_list, List.set_cons_zero, List.set_cons_succ]
        refine wpList_allocV (by kernel_rfl) 29 (by kernel_rfl) (rsA 0 0 (.slice none 0 0)) (fun _ => by kernel_rfl) ?_
        rw [← hWY, ← hP4]
        try simp only [put_list, List.set_cons_zero, List.set_cons_succ]
        refine wpList_allocV (by kernel_rfl) 42 (by kernel_rfl) (frow 0 false 0) (fun _ => by kernel_rfl) ?_
        rw [← hWX, ← hK4]
        try simp only [put_list, List.set_cons_zero, List.set_cons_succ]
        refine wpList_store_row (by kernel_rfl) 29 (Go.Operand.tmp 28) (Go.Operand.tmp 144) (by kernel_rfl) P4 (rsA o4 a4 (.slice B4 l4 c4)) (by kernel_rfl) (by kernel_rfl) _ _ hrA (rs_info _ _ _) (rfl) (rs_one _ _ _ _ _) ?_
        simp only [put_none]
        refine wpList_store_row (by kernel_rfl) 42 (Go.Operand.tmp 29) (Go.Operand.tmp 145) (by kernel_rfl) K4 (frow fc2 fp2 fz2) (by kernel_rfl) (by kernel_rfl) _ _ ((setRow_other _ P4 K4 _ (by omega)).trans hrB) (by kernel_rfl) rfl (frow_one _ _ _) ?_
        refine wpList_nil ?_
        simp only [put_none]
        go_upto_region 27 with (fail)
        refine wp_world (fun W => Below n0 w W ∧ n0 ≤ W.heap.size ∧ W.cell? ⟨G, k, none⟩ = some (.slice A l c) ∧ W.heap[P1]? = some (.cells (rqA o1 f1 a1 b1 (.slice B1 l1 c1)) 27 (0, 0)) ∧ W.heap[P2]? = some (.cells (rqA o2 f2 a2 b2 (.slice B2 l2 c2)) 27 (0, 0)) ∧ W.heap[K2]? = some (.cells (frow fc1 fp1 fz1) 42 (0, 0)) ∧ W.heap[P3]? = some (.cells (rsA o3 a3 (.slice B3 l3 c3)) 29 (0, 0)) ∧ ErrsAt E W ∧ SlRead W A (ints .u8 xs) ∧ FiveS W G ∧ RqP xs 0 (rqA o1 f1 a1 b1 (.slice B1 l1 c1)) W ∧ TellR E (reqO xs) u1 W ∧ RqP xs 0 (rqA o2 f2 a2 b2 (.slice B2 l2 c2)) W ∧ RsP xs 0 (rsA o3 a3 (.slice B3 l3 c3)) W ∧ TellR E (rspO xs) u3 W ∧ RsP xs 0 (rsA o4 a4 (.slice B4 l4 c4)) W ∧ W.heap[P4]? = some (.cells (rsA o4 a4 (.slice B4 l4 c4)) 29 (0, 0)) ∧ W.heap[K4]? = some (.cells (frow fc2 fp2 fz2) 42 (0, 0))) ?_ ?_
        · have hbT : Below M4.heap.size M4 ((WX.setRow P4 (rsA o4 a4 (.slice B4 l4 c4))).setRow K4 (frow fc2 fp2 fz2)) := setRow_below (setRow_below hbX P4 (by rw [hP4]; exact Nat.le_refl _) _) K4 (by omega) _
          exact ⟨hb.trans (hbT.mono hs), Nat.le_trans hs hbT.size, (hbT.cell (p := ⟨G, k, none⟩) (cell_lt hcell)).trans hcell, heap_below h_P1 hbT, heap_below h_P2 hbT, heap_below h_K2 hbT, heap_below h_P3 hbT, hE.below hbT, hA.below hbT, hFW.below hbT, hp1.below hbT, ht1.below hbT, hp2.below hbT, hp3.below hbT, ht3.below hbT, hp4.below hbT, (setRow_other _ _ _ _ (by omega)).trans (setRow_heap _ _ _ _ _ _ hrA), setRow_heap _ _ _ _ _ _ ((setRow_other _ _ _ _ (by omega)).trans hrB)⟩
        clear hWX hWY hP4 hK4 hrA hrB hbX hlt2 hb hs hcell h_P1 h_P2 h_K2 h_P3 hE hA hFW hp1 ht1 hp2 hp3 ht3 hp4
        rintro Z104 ⟨hb, hs, hcell, h_P1, h_P2, h_K2, h_P3, hE, hA, hFW, hp1, ht1, hp2, hp3, ht3, hp4, h_P4, h_K4⟩
        go_upto_region 27 with (fail)
        refine wp_region_lit ?_
        try simp only [put_list, List.set_cons_zero, List.set_cons_succ]
        refine wpList_run (by kernel_rfl) (.agg (rqA o1 f1 a1 b1 (.slice B1 l1 c1))) (Z104) (exec_load (vx := .pointer (some ⟨P1, 0, none⟩)) rfl (by kernel_rfl) (ld_q P1 (rqA o1 f1 a1 b1 (.slice B1 l1 c1)) Z104 (rq_info _ _ _ _ _) h_P1)) ?_
        try simp only [put_list, List.set_cons_zero, List.set_cons_succ]
        refine wpList_run (by kernel_rfl) (.agg (rqA o2 f2 a2 b2 (.slice B2 l2 c2))) (Z104) (exec_load (vx := .pointer (some ⟨P2, 0, none⟩)) rfl (by kernel_rfl) (ld_q P2 (rqA o2 f2 a2 b2 (.slice B2 l2 c2)) Z104 (rq_info _ _ _ _ _) h_P2)) ?_
        refine wpList_call (by kernel_rfl) 18 #[Go.Operand.tmp 146, Go.Operand.tmp 147] #[27, 27] #[.agg (rqA o1 f1 a1 b1 (.slice B1 l1 c1)), .agg (rqA o2 f2 a2 b2 (.slice B2 l2 c2))] _ rfl (by kernel_rfl) (by kernel_rfl) (both_req hp1 hp2 (by rw [HXL.out.1]; have := HXL.out; omega)) ?_
        rintro e V1 ⟨rfl, hbN⟩
        replace hcell := (hbN.cell (p := ⟨G, k, none⟩) (cell_lt hcell)).trans hcell; replace h_P1 := heap_below h_P1 hbN; replace h_P2 := heap_below h_P2 hbN; replace h_K2 := heap_below h_K2 hbN; replace h_P3 := heap_below h_P3 hbN; replace h_P4 := heap_below h_P4 hbN; replace h_K4 := heap_below h_K4 hbN; replace hE := hE.below hbN; replace hA := hA.below hbN; replace hFW := hFW.below hbN; replace hp1 := hp1.below hbN; replace ht1 := ht1.below hbN; replace hp2 := hp2.below hbN; replace hp3 := hp3.below hbN; replace ht3 := ht3.below hbN; replace hp4 := hp4.below hbN; replace hb := hb.trans (hbN.mono hs); replace hs := Nat.le_trans hs hbN.size; clear hbN
        refine ⟨_, rfl, ?_⟩
        try simp only [put_list, List.set_cons_zero, List.set_cons_succ]
        refine wpList_run (by kernel_rfl) (.bool false) (V1) (exec_un (vx := .bool true) rfl (by kernel_rfl) (by kernel_rfl)) ?_
        try simp only [put_list, List.set_cons_zero, List.set_cons_succ]
        refine wpList_run (by kernel_rfl) (.bool false) (V1) (exec_move rfl (by kernel_rfl)) ?_
        try simp only [put_list, List.set_cons_zero, List.set_cons_succ]
        refine wpList_runG (by kernel_rfl) (u1) (V1) (exec_move rfl (by kernel_rfl)) ?_
        try simp only [put_list, List.set_cons_zero, List.set_cons_succ]
        refine wpList_runG (by kernel_rfl) (.agg (frow fc1 fp1 fz1)) (V1) (exec_load (vx := .pointer (some ⟨K2, 0, none⟩)) rfl (by kernel_rfl) (ld_f K2 fc1 fp1 fz1 V1 h_K2)) ?_
        refine wpList_call (by kernel_rfl) 19 #[Go.Operand.tmp 151, Go.Operand.tmp 152] #[38, 42] #[u1, .agg (frow fc1 fp1 fz1)] _ rfl (by kernel_rfl) (by kernel_rfl) ((by rw [← HF1.out]; exact same_tell E (reqO xs) u1 V1 hE ht1)) ?_
        rintro e V2 ⟨rfl, hbN⟩
        replace hcell := (hbN.cell (p := ⟨G, k, none⟩) (cell_lt hcell)).trans hcell; replace h_P1 := heap_below h_P1 hbN; replace h_P2 := heap_below h_P2 hbN; replace h_K2 := heap_below h_K2 hbN; replace h_P3 := heap_below h_P3 hbN; replace h_P4 := heap_below h_P4 hbN; replace h_K4 := heap_below h_K4 hbN; replace hE := hE.below hbN; replace hA := hA.below hbN; replace hFW := hFW.below hbN; replace hp1 := hp1.below hbN; replace ht1 := ht1.below hbN; replace hp2 := hp2.below hbN; replace hp3 := hp3.below hbN; replace ht3 := ht3.below hbN; replace hp4 := hp4.below hbN; replace hb := hb.trans (hbN.mono hs); replace hs := Nat.le_trans hs hbN.size; clear hbN
        refine ⟨_, rfl, ?_⟩
        try simp only [put_list, List.set_cons_zero, List.set_cons_succ]
        refine wpList_runG (by kernel_rfl) (.bool false) (V2) (exec_un (vx := .bool true) rfl (by kernel_rfl) (by kernel_rfl)) ?_
        try simp only [put_list, List.set_cons_zero, List.set_cons_succ]
        refine wpList_run (by kernel_rfl) (.bool false) (V2) (exec_pick (b := false) rfl (by kernel_rfl) (by kernel_rfl)) ?_
        try simp only [put_list, List.set_cons_zero, List.set_cons_succ]
        refine wpList_run (by kernel_rfl) (.bool false) (V2) (exec_move rfl (by kernel_rfl)) ?_
        try simp only [put_list, List.set_cons_zero, List.set_cons_succ]
        refine wpList_runG (by kernel_rfl) (.agg (rsA o3 a3 (.slice B3 l3 c3))) (V2) (exec_load (vx := .pointer (some ⟨P3, 0, none⟩)) rfl (by kernel_rfl) (ld_s P3 (rsA o3 a3 (.slice B3 l3 c3)) V2 (rs_info _ _ _) h_P3)) ?_
        try simp only [put_list, List.set_cons_zero, List.set_cons_succ]
        refine wpList_runG (by kernel_rfl) (.agg (rsA o4 a4 (.slice B4 l4 c4))) (V2) (exec_load (vx := .pointer (some ⟨P4, 0, none⟩)) rfl (by kernel_rfl) (ld_s P4 (rsA o4 a4 (.slice B4 l4 c4)) V2 (rs_info _ _ _) h_P4)) ?_
        refine wpList_call (by kernel_rfl) 20 #[Go.Operand.tmp 157, Go.Operand.tmp 158] #[29, 29] #[.agg (rsA o3 a3 (.slice B3 l3 c3)), .agg (rsA o4 a4 (.slice B4 l4 c4))] _ rfl (by kernel_rfl) (by kernel_rfl) (both_rsp hp3 hp4 (by rw [HXL.out.1]; have := HXL.out; omega)) ?_
        rintro e V3 ⟨rfl, hbN⟩
        replace hcell := (hbN.cell (p := ⟨G, k, none⟩) (cell_lt hcell)).trans hcell; replace h_P1 := heap_below h_P1 hbN; replace h_P2 := heap_below h_P2 hbN; replace h_K2 := heap_below h_K2 hbN; replace h_P3 := heap_below h_P3 hbN; replace h_P4 := heap_below h_P4 hbN; replace h_K4 := heap_below h_K4 hbN; replace hE := hE.below hbN; replace hA := hA.below hbN; replace hFW := hFW.below hbN; replace hp1 := hp1.below hbN; replace ht1 := ht1.below hbN; replace hp2 := hp2.below hbN; replace hp3 := hp3.below hbN; replace ht3 := ht3.below hbN; replace hp4 := hp4.below hbN; replace hb := hb.trans (hbN.mono hs); replace hs := Nat.le_trans hs hbN.size; clear hbN
        refine ⟨_, rfl, ?_⟩
        try simp only [put_list, List.set_cons_zero, List.set_cons_succ]
        refine wpList_runG (by kernel_rfl) (.bool false) (V3) (exec_un (vx := .bool true) rfl (by kernel_rfl) (by kernel_rfl)) ?_
        try simp only [put_list, List.set_cons_zero, List.set_cons_succ]
        refine wpList_run (by kernel_rfl) (.bool false) (V3) (exec_pick (b := false) rfl (by kernel_rfl) (by kernel_rfl)) ?_
        try simp only [put_list, List.set_cons_zero, List.set_cons_succ]
        refine wpList_run (by kernel_rfl) (.bool false) (V3) (exec_move rfl (by kernel_rfl)) ?_
        try simp only [put_list, List.set_cons_zero, List.set_cons_succ]
        refine wpList_runG (by kernel_rfl) (u3) (V3) (exec_move rfl (by kernel_rfl)) ?_
        try simp only [put_list, List.set_cons_zero, List.set_cons_succ]
        refine wpList_runG (by kernel_rfl) (.agg (frow fc2 fp2 fz2)) (V3) (exec_load (vx := .pointer (some ⟨K4, 0, none⟩)) rfl (by kernel_rfl) (ld_f K4 fc2 fp2 fz2 V3 h_K4)) ?_
        refine wpList_call (by kernel_rfl) 19 #[Go.Operand.tmp 163, Go.Operand.tmp 164] #[38, 42] #[u3, .agg (frow fc2 fp2 fz2)] _ rfl (by kernel_rfl) (by kernel_rfl) ((by rw [← HF2.out]; exact same_tell E (rspO xs) u3 V3 hE ht3)) ?_
        rintro e V4 ⟨rfl, hbN⟩
        replace hcell := (hbN.cell (p := ⟨G, k, none⟩) (cell_lt hcell)).trans hcell; replace h_P1 := heap_below h_P1 hbN; replace h_P2 := heap_below h_P2 hbN; replace h_K2 := heap_below h_K2 hbN; replace h_P3 := heap_below h_P3 hbN; replace h_P4 := heap_below h_P4 hbN; replace h_K4 := heap_below h_K4 hbN; replace hE := hE.below hbN; replace hA := hA.below hbN; replace hFW := hFW.below hbN; replace hp1 := hp1.below hbN; replace ht1 := ht1.below hbN; replace hp2 := hp2.below hbN; replace hp3 := hp3.below hbN; replace ht3 := ht3.below hbN; replace hp4 := hp4.below hbN; replace hb := hb.trans (hbN.mono hs); replace hs := Nat.le_trans hs hbN.size; clear hbN
        refine ⟨_, rfl, ?_⟩
        try simp only [put_list, List.set_cons_zero, List.set_cons_succ]
        refine wpList_runG (by kernel_rfl) (.bool false) (V4) (exec_un (vx := .bool true) rfl (by kernel_rfl) (by kernel_rfl)) ?_
        try simp only [put_list, List.set_cons_zero, List.set_cons_succ]
        refine wpList_run (by kernel_rfl) (.bool false) (V4) (exec_pick (b := false) rfl (by kernel_rfl) (by kernel_rfl)) ?_
        refine wpList_nil ?_
        simp only [put_list, List.set_cons_zero, List.set_cons_succ]
        have hww : wrap64 ((k : Int) + 1) = (k : Int) + 1 := by unfold wrap64; omega
        have HR := Lib.hid (And.intro hb (And.intro hs (And.intro hE hFW)))
        have HW := Lib.hid (And.intro hww hlt)
        clear hb hs hE hFW hp1 hp2 hp3 hp4 ht1 ht3 hA hcell h_P1 h_P2 h_P3 h_P4 h_K2 h_K4 hix hk5 hlt hk hww
        go_upto_region 22 with (fail)
        refine wp_region_lit ?_
        try simp only [put_list, List.set_cons_zero, List.set_cons_succ]
        refine wpList_run (by kernel_rfl) (.int .i64 (k : Int)) (V4) (exec_move rfl (by kernel_rfl)) ?_
        try simp only [put_list, List.set_cons_zero, List.set_cons_succ]
        refine wpList_run (by kernel_rfl) (.int .i64 ((k : Int) + 1)) (V4) (exec_bin (vx := .int .i64 (k : Int)) (vy := Go.Value.int Go.IntKind.i64 1) rfl (by kernel_rfl) (add_int _ _ _ V4 _ _ _ rfl (by omega) (by have := HW.out.2; omega))) ?_
        try simp only [put_list, List.set_cons_zero, List.set_cons_succ]
        refine wpList_run (by kernel_rfl) (.int .i64 ((k : Int) + 1)) (V4) (exec_assign rfl (by kernel_rfl)) ?_
        refine wpList_nil ?_
        simp only [put_list, List.set_cons_zero, List.set_cons_succ]
        have hlt := HW.out.2
        go_wp2_with fail
        refine ⟨⟨k + 1, by omega, by go_num, HR.out⟩, ?_⟩
        simp [intOf] <;> omega
      · obtain rfl : k = 5 := by omega
        have HR := Lib.hid hb
        clear hb hs hE hFV
        go_wp2_with fail
        go_ret
        exact ⟨rfl, HR.out⟩
  · obtain ⟨WC, hWC⟩ : ∃ V, V = N9 := ⟨_, rfl⟩
    rw [← hWC] at hb hs hE hAb hAx hAy hAc hAd ⊢
    clear hWC
    have hs1 : ∀ w, (Instr.sliceAt 25 (.slice (some ⟨gc, 0, none⟩) L1 cc) none (some (.int .i64 (i1 : Int))) none).run Tryd.prog w = .ok (.slice (some ⟨gc, 0, none⟩) i1 cc) w := fun w => sliceAt_h (P := Tryd.prog) Tryd.underlying25 (by kernel_rfl) _ L1 cc i1 (by have := HC1.out; omega) w
    have hs2 : ∀ w, (Instr.sliceAt 25 (.slice (some ⟨gd, 0, none⟩) L2 cd) none (some (.int .i64 (i2 : Int))) none).run Tryd.prog w = .ok (.slice (some ⟨gd, 0, none⟩) i2 cd) w := fun w => sliceAt_h (P := Tryd.prog) Tryd.underlying25 (by kernel_rfl) _ L2 cd i2 (by have := HC1.out; omega) w
    have HCC := Lib.hid (And.intro (show (xc.take i1).length = i1 by rw [List.length_take, HZxc.out.1]; have := HC1.out; omega) (And.intro (HZxc.out.2.cut i1) (And.intro (show i1 ≤ 300 by have := HK.out; have := HLI.out; have := HC1.out; omega) (show i1 ≤ cc by have := HC1.out; omega))))
    have HDD := Lib.hid (And.intro (show (xd.take i2).length = i2 by rw [List.length_take, HZxd.out.1]; have := HC1.out; omega) (And.intro (HZxd.out.2.cut i2) (And.intro (show i2 ≤ 300 by have := HK.out; have := HLI.out; have := HC1.out; omega) (show i2 ≤ cd by have := HC1.out; omega))))
    replace hAc := hAc.take i1
    replace hAd := hAd.take i2
    have HFV : FiveS (WC.alloc (.cells #[.slice Ab lb cb, .slice Ax L1 cx, .slice Ay L2 cy, .slice (some ⟨gc, 0, none⟩) i1 cc, .slice (some ⟨gd, 0, none⟩) i2 cd] 25)) WC.heap.size := fun i hi => by
      have hbb := below_alc WC (.cells #[.slice Ab lb cb, .slice Ax L1 cx, .slice Ay L2 cy, .slice (some ⟨gc, 0, none⟩) i1 cc, .slice (some ⟨gd, 0, none⟩) i2 cd] 25)
      have hcell : ∀ (j : Nat) (v : Value), (#[.slice Ab lb cb, .slice Ax L1 cx, .slice Ay L2 cy, .slice (some ⟨gc, 0, none⟩) i1 cc, .slice (some ⟨gd, 0, none⟩) i2 cd] : Array Value)[j]? = some v → (WC.alloc (.cells #[.slice Ab lb cb, .slice Ax L1 cx, .slice Ay L2 cy, .slice (some ⟨gc, 0, none⟩) i1 cc, .slice (some ⟨gd, 0, none⟩) i2 cd] 25)).cell? ⟨WC.heap.size, j, none⟩ = some v := fun j v hv => cell_heap (heap1_0 _ _) hv
      have hk := HK.out
      have hli := HLI.out
      obtain rfl | rfl | rfl | rfl | rfl : i = 0 ∨ i = 1 ∨ i = 2 ∨ i = 3 ∨ i = 4 := by omega
      · exact ⟨Ab, xb, lb, cb, hcell 0 _ rfl, HLN.out.2.2.1, hAb.below hbb, HY.out.2.2, by omega, HLN.out.2.2.2⟩
      · exact ⟨Ax, xx, L1, cx, hcell 1 _ rfl, HX.out.1, hAx.below hbb, HX.out.2, by omega, HCX.out⟩
      · exact ⟨Ay, xy, L2, cy, hcell 2 _ rfl, HXY.out.1, hAy.below hbb, HXY.out.2, by omega, HCY.out⟩
      · exact ⟨(some ⟨gc, 0, none⟩), (xc.take i1), i1, cc, hcell 3 _ rfl, HCC.out.1, hAc.below hbb, HCC.out.2.1, HCC.out.2.2.1, HCC.out.2.2.2⟩
      · exact ⟨(some ⟨gd, 0, none⟩), (xd.take i2), i2, cd, hcell 4 _ rfl, HDD.out.1, hAd.below hbb, HDD.out.2.1, HDD.out.2.2.1, HDD.out.2.2.2⟩
    have HFV := Lib.hid HFV
    clear hAb hAx hAy hAc hAd
    go_upto_region 21 with (fail)
    obtain ⟨G, hG⟩ : ∃ G, G = WC.heap.size := ⟨_, rfl⟩
    refine wp_world (fun W => Below n0 w W ∧ n0 ≤ W.heap.size ∧ ErrsAt E W ∧ FiveS W G) ⟨hb.trans ((below_alc WC _).mono hs), Nat.le_trans hs (below_alc WC _).size, hE.below (below_alc WC _), by rw [hG]; exact HFV.out⟩ ?_
    rw [← hG]
    clear hb hs hE HFV hG
    rintro WD ⟨hb, hs, hE, hFV⟩
    go_loopw [21] (fun i wr => ∃ k : Nat, k ≤ 5 ∧ i = .int .i64 (k : Int) ∧ Below n0 w wr ∧ n0 ≤ wr.heap.size ∧ ErrsAt E wr ∧ FiveS wr G) (fun i _ => 5 - (intOf i).toNat)
    case atStart => exact ⟨0, by omega, rfl, hb, hs, hE, hFV⟩
    clear hb hs hE hFV
    case round =>
      obtain ⟨k, hk, rfl, hb, hs, hE, hFV⟩ := hrel
      by_cases hlt : k < 5
      · have hk5 : (k : Int) < 5 := by omega
        have hix := fun w => idx_5 G k hlt w
        obtain ⟨A, xs, l, c, hcell, hxl, hA, hx, hl3, hlc⟩ := hFV k hlt
        have HFV := Lib.hid hFV
        clear hFV
        have hFW := HFV.out
        clear HFV
        have HXL := Lib.hid (And.intro hxl (And.intro hx (And.intro hl3 hlc)))
        clear hxl hx hl3 hlc
        obtain ⟨fc1, fp1, fz1, hf1⟩ := flt_form (reqO xs)
        have HF1 := Lib.hid hf1
        obtain ⟨fc2, fp2, fz2, hf2⟩ := flt_form (rspO xs)
        have HF2 := Lib.hid hf2
        clear hf1 hf2
        go_upto_region 23 with (fail)
        refine wp_region_lit ?_
        try simp only [put_list, List.set_cons_zero, List.set_cons_succ]
        refine wpList_run (by kernel_rfl) (.slice (some ⟨G, 0, none⟩) 5 5) (wr) (exec_move rfl (by kernel_rfl)) ?_
        try simp only [put_list, List.set_cons_zero, List.set_cons_succ]
        refine wpList_run (by kernel_rfl) (.int .i64 (k : Int)) (wr) (exec_move rfl (by kernel_rfl)) ?_
        try simp only [put_list, List.set_cons_zero, List.set_cons_succ]
        refine wpList_run (by kernel_rfl) (.pointer (some ⟨G, k, none⟩)) (wr) (exec_index (vx := .slice (some ⟨G, 0, none⟩) 5 5) (vy := .int .i64 (k : Int)) rfl (by kernel_rfl) (hix wr)) ?_
        try simp only [put_list, List.set_cons_zero, List.set_cons_succ]
        refine wpList_run (by kernel_rfl) (.slice A l c) (wr) (exec_load (vx := .pointer (some ⟨G, k, none⟩)) rfl (by kernel_rfl) (load_slice G k wr 25 (fun w => by kernel_rfl) _ hcell)) ?_
        refine wpList_call (by kernel_rfl) 14 #[Go.Operand.tmp 118] #[25] #[.slice A l c] _ rfl (by kernel_rfl) (by kernel_rfl) (req_r E A xs l c wr hA HXL.out.1 HXL.out.2.1 (by have := HXL.out; omega) hE) ?_
        rintro e M1 ⟨o1, f1, a1, b1, B1, l1, c1, u1, rfl, hp1, ht1, hbN⟩
        replace hcell := (hbN.cell (p := ⟨G, k, none⟩) (cell_lt hcell)).trans hcell; replace hE := hE.below hbN; replace hA := hA.below hbN; replace hFW := hFW.below hbN; replace hb := hb.trans (hbN.mono hs); replace hs := Nat.le_trans hs hbN.size; clear hbN
        refine ⟨_, rfl, ?_⟩
        try simp only [put_list, List.set_cons_zero, List.set_cons_succ]
        refine wpList_run (by kernel_rfl) (.tuple #[.agg (rqA o1 f1 a1 b1 (.slice B1 l1 c1)), u1]) (M1) (exec_move rfl (by kernel_rfl)) ?_
        try simp only [put_list, List.set_cons_zero, List.set_cons_succ]
        refine wpList_run (by kernel_rfl) (.agg (rqA o1 f1 a1 b1 (.slice B1 l1 c1))) (M1) (exec_extract (vx := .tuple #[.agg (rqA o1 f1 a1 b1 (.slice B1 l1 c1)), u1]) rfl (by kernel_rfl) (by kernel_rfl)) ?_
        try simp only [put_list, List.set_cons_zero, List.set_cons_succ]
        refine wpList_run (by kernel_rfl) (u1) (M1) (exec_extract (vx := .tuple #[.agg (rqA o1 f1 a1 b1 (.slice B1 l1 c1)), u1]) rfl (by kernel_rfl) (by kernel_rfl)) ?_
        try simp only [put_list, List.set_cons_zero, List.set_cons_succ]
        refine wpList_allocV (by kernel_rfl) 27 (by kernel_rfl) (rqA 0 zf 0 0 (.slice none 0 0)) (fun _ => by kernel_rfl) ?_
        try simp only [put_list, List.set_cons_zero, List.set_cons_succ]
        refine wpList_store_row (by kernel_rfl) 27 (Go.Operand.tmp 22) (Go.Operand.tmp 120) (by kernel_rfl) M1.heap.size (rqA o1 f1 a1 b1 (.slice B1 l1 c1)) (by kernel_rfl) (by kernel_rfl) _ _ (heap_alloc_new _ _) (rq_info _ _ _ _ _) (by kernel_rfl) (rq_one _ _ _ _ _ _ _) ?_
        rw [alloc_setRow]
        simp only [put_none]
        try simp only [put_list, List.set_cons_zero, List.set_cons_succ]
        refine wpList_run (by kernel_rfl) (u1) ((M1.alloc (.cells (rqA o1 f1 a1 b1 (.slice B1 l1 c1)) 27))) (exec_assign rfl (by kernel_rfl)) ?_
        refine wpList_nil ?_
        simp only [put_list, List.set_cons_zero, List.set_cons_succ]
        have hcb2 := below_alc M1 (.cells (rqA o1 f1 a1 b1 (.slice B1 l1 c1)) 27)
        have hcell2 := (hcb2.cell (p := ⟨G, k, none⟩) (cell_lt hcell)).trans hcell
        obtain ⟨WZ, hWZ⟩ : ∃ V, V = M1.alloc (.cells (rqA o1 f1 a1 b1 (.slice B1 l1 c1)) 27) := ⟨_, rfl⟩
        rw [← hWZ] at hcell2 hcb2 ⊢
        have h_P1 : WZ.heap[M1.heap.size]? = some (.cells (rqA o1 f1 a1 b1 (.slice B1 l1 c1)) 27 (0, 0)) := by rw [hWZ]; exact heap1_0 _ _
        clear hWZ hcell
        have hcell := hcell2
        clear hcell2
        obtain ⟨P1, hnm⟩ : ∃ H, H = M1.heap.size := ⟨_, rfl⟩
        rw [← hnm] at h_P1 ⊢
        clear hnm
        replace hE := hE.below hcb2
        replace hA := hA.below hcb2
        replace hFW := hFW.below hcb2
        replace hp1 := hp1.below hcb2
        replace ht1 := ht1.below hcb2
        replace hb := hb.trans (hcb2.mono hs)
        replace hs := Nat.le_trans hs hcb2.size
        clear hcb2 
        generalize WZ = Z101 at *
        go_upto_region 24 with (fail)
        refine wp_region_lit ?_
        try simp only [put_list, List.set_cons_zero, List.set_cons_succ]
        refine wpList_run (by kernel_rfl) (.slice (some ⟨G, 0, none⟩) 5 5) (Z101) (exec_move rfl (by kernel_rfl)) ?_
        try simp only [put_list, List.set_cons_zero, List.set_cons_succ]
        refine wpList_run (by kernel_rfl) (.int .i64 (k : Int)) (Z101) (exec_move rfl (by kernel_rfl)) ?_
        try simp only [put_list, List.set_cons_zero, List.set_cons_succ]
        refine wpList_run (by kernel_rfl) (.pointer (some ⟨G, k, none⟩)) (Z101) (exec_index (vx := .slice (some ⟨G, 0, none⟩) 5 5) (vy := .int .i64 (k : Int)) rfl (by kernel_rfl) (hix Z101)) ?_
        try simp only [put_list, List.set_cons_zero, List.set_cons_succ]
        refine wpList_run (by kernel_rfl) (.slice A l c) (Z101) (exec_load (vx := .pointer (some ⟨G, k, none⟩)) rfl (by kernel_rfl) (load_slice G k Z101 25 (fun w => by kernel_rfl) _ hcell)) ?_
        refine wpList_call (by kernel_rfl) 15 #[Go.Operand.tmp 126] #[25] #[.slice A l c] _ rfl (by kernel_rfl) (by kernel_rfl) (dreq_r A xs l c Z101 hA HXL.out.1 HXL.out.2.2.2 HXL.out.2.1 (by have := HXL.out; omega)) ?_
        rintro e M2 ⟨o2, f2, a2, b2, B2, l2, c2, rfl, hp2, hbN⟩
        replace hcell := (hbN.cell (p := ⟨G, k, none⟩) (cell_lt hcell)).trans hcell; replace h_P1 := heap_below h_P1 hbN; replace hE := hE.below hbN; replace hA := hA.below hbN; replace hFW := hFW.below hbN; replace hp1 := hp1.below hbN; replace ht1 := ht1.below hbN; replace hb := hb.trans (hbN.mono hs); replace hs := Nat.le_trans hs hbN.size; clear hbN
        rw [HF1.out]
        refine ⟨_, rfl, ?_⟩
        try simp only [put_list, List.set_cons_zero, List.set_cons_succ]
        refine wpList_run (by kernel_rfl) (.tuple #[.agg (rqA o2 f2 a2 b2 (.slice B2 l2 c2)), .agg (frow fc1 fp1 fz1)]) (M2) (exec_move rfl (by kernel_rfl)) ?_
        try simp only [put_list, List.set_cons_zero, List.set_cons_succ]
        refine wpList_run (by kernel_rfl) (.agg (rqA o2 f2 a2 b2 (.slice B2 l2 c2))) (M2) (exec_extract (vx := .tuple #[.agg (rqA o2 f2 a2 b2 (.slice B2 l2 c2)), .agg (frow fc1 fp1 fz1)]) rfl (by kernel_rfl) (by kernel_rfl)) ?_
        try simp only [put_list, List.set_cons_zero, List.set_cons_succ]
        refine wpList_run (by kernel_rfl) (.agg (frow fc1 fp1 fz1)) (M2) (exec_extract (vx := .tuple #[.agg (rqA o2 f2 a2 b2 (.slice B2 l2 c2)), .agg (frow fc1 fp1 fz1)]) rfl (by kernel_rfl) (by kernel_rfl)) ?_
        obtain ⟨WY, hWY⟩ : ∃ V, V = M2.alloc (.cells (rqA 0 zf 0 0 (.slice none 0 0)) 27) := ⟨_, rfl⟩
        obtain ⟨WX, hWX⟩ : ∃ V, V = WY.alloc (.cells (frow 0 false 0) 42) := ⟨_, rfl⟩
        obtain ⟨P2, hP2⟩ : ∃ P, P = M2.heap.size := ⟨_, rfl⟩
        obtain ⟨K2, hK2⟩ : ∃ P, P = WY.heap.size := ⟨_, rfl⟩
        have hlt2 : P2 < K2 := by rw [hK2, hWY, hP2]; simp
        have hrA : WX.heap[P2]? = some (.cells (rqA 0 zf 0 0 (.slice none 0 0)) 27 (0, 0)) := by rw [hWX, hWY, hP2]; exact heap2_0 _ _ _
        have hrB : WX.heap[K2]? = some (.cells (frow 0 false 0) 42 (0, 0)) := by rw [hWX, hK2]; exact heap1_0 _ _
        have hbX : Below M2.heap.size M2 WX := by rw [hWX, hWY]; exact (below_alc _ _).alloc (by simp) _
        try simp only [put_list, List.set_cons_zero, List.set_cons_succ]
        refine wpList_allocV (by kernel_rfl) 27 (by kernel_rfl) (rqA 0 zf 0 0 (.slice none 0 0)) (fun _ => by kernel_rfl) ?_
        rw [← hWY, ← hP2]
        try simp only [put_list, List.set_cons_zero, List.set_cons_succ]
        refine wpList_allocV (by kernel_rfl) 42 (by kernel_rfl) (frow 0 false 0) (fun _ => by kernel_rfl) ?_
        rw [← hWX, ← hK2]
        try simp only [put_list, List.set_cons_zero, List.set_cons_succ]
        refine wpList_store_row (by kernel_rfl) 27 (Go.Operand.tmp 24) (Go.Operand.tmp 128) (by kernel_rfl) P2 (rqA o2 f2 a2 b2 (.slice B2 l2 c2)) (by kernel_rfl) (by kernel_rfl) _ _ hrA (rq_info _ _ _ _ _) (rq_szs _ _ _ _ _ _ _ _ _ _) (rq_one _ _ _ _ _ _ _) ?_
        simp only [put_none]
        refine wpList_store_row (by kernel_rfl) 42 (Go.Operand.tmp 25) (Go.Operand.tmp 129) (by kernel_rfl) K2 (frow fc1 fp1 fz1) (by kernel_rfl) (by kernel_rfl) _ _ ((setRow_other _ P2 K2 _ (by omega)).trans hrB) (by kernel_rfl) rfl (frow_one _ _ _) ?_
        refine wpList_nil ?_
        simp only [put_none]
        go_upto_region 25 with (fail)
        refine wp_world (fun W => Below n0 w W ∧ n0 ≤ W.heap.size ∧ W.cell? ⟨G, k, none⟩ = some (.slice A l c) ∧ W.heap[P1]? = some (.cells (rqA o1 f1 a1 b1 (.slice B1 l1 c1)) 27 (0, 0)) ∧ ErrsAt E W ∧ SlRead W A (ints .u8 xs) ∧ FiveS W G ∧ RqP xs 0 (rqA o1 f1 a1 b1 (.slice B1 l1 c1)) W ∧ TellR E (reqO xs) u1 W ∧ RqP xs 0 (rqA o2 f2 a2 b2 (.slice B2 l2 c2)) W ∧ W.heap[P2]? = some (.cells (rqA o2 f2 a2 b2 (.slice B2 l2 c2)) 27 (0, 0)) ∧ W.heap[K2]? = some (.cells (frow fc1 fp1 fz1) 42 (0, 0))) ?_ ?_
        · have hbT : Below M2.heap.size M2 ((WX.setRow P2 (rqA o2 f2 a2 b2 (.slice B2 l2 c2))).setRow K2 (frow fc1 fp1 fz1)) := setRow_below (setRow_below hbX P2 (by rw [hP2]; exact Nat.le_refl _) _) K2 (by omega) _
          exact ⟨hb.trans (hbT.mono hs), Nat.le_trans hs hbT.size, (hbT.cell (p := ⟨G, k, none⟩) (cell_lt hcell)).trans hcell, heap_below h_P1 hbT, hE.below hbT, hA.below hbT, hFW.below hbT, hp1.below hbT, ht1.below hbT, hp2.below hbT, (setRow_other _ _ _ _ (by omega)).trans (setRow_heap _ _ _ _ _ _ hrA), setRow_heap _ _ _ _ _ _ ((setRow_other _ _ _ _ (by omega)).trans hrB)⟩
        clear hWX hWY hP2 hK2 hrA hrB hbX hlt2 hb hs hcell h_P1 hE hA hFW hp1 ht1 hp2
        rintro Z102 ⟨hb, hs, hcell, h_P1, hE, hA, hFW, hp1, ht1, hp2, h_P2, h_K2⟩
        go_upto_region 25 with (fail)
        refine wp_region_lit ?_
        try simp only [put_list, List.set_cons_zero, List.set_cons_succ]
        refine wpList_run (by kernel_rfl) (.slice (some ⟨G, 0, none⟩) 5 5) (Z102) (exec_move rfl (by kernel_rfl)) ?_
        try simp only [put_list, List.set_cons_zero, List.set_cons_succ]
        refine wpList_run (by kernel_rfl) (.int .i64 (k : Int)) (Z102) (exec_move rfl (by kernel_rfl)) ?_
        try simp only [put_list, List.set_cons_zero, List.set_cons_succ]
        refine wpList_run (by kernel_rfl) (.pointer (some ⟨G, k, none⟩)) (Z102) (exec_index (vx := .slice (some ⟨G, 0, none⟩) 5 5) (vy := .int .i64 (k : Int)) rfl (by kernel_rfl) (hix Z102)) ?_
        try simp only [put_list, List.set_cons_zero, List.set_cons_succ]
        refine wpList_run (by kernel_rfl) (.slice A l c) (Z102) (exec_load (vx := .pointer (some ⟨G, k, none⟩)) rfl (by kernel_rfl) (load_slice G k Z102 25 (fun w => by kernel_rfl) _ hcell)) ?_
        refine wpList_call (by kernel_rfl) 16 #[Go.Operand.tmp 134] #[25] #[.slice A l c] _ rfl (by kernel_rfl) (by kernel_rfl) (rsp_r E A xs l c Z102 hA HXL.out.1 HXL.out.2.1 (by have := HXL.out; omega) hE) ?_
        rintro e M3 ⟨o3, a3, B3, l3, c3, u3, rfl, hp3, ht3, hbN⟩
        replace hcell := (hbN.cell (p := ⟨G, k, none⟩) (cell_lt hcell)).trans hcell; replace h_P1 := heap_below h_P1 hbN; replace h_P2 := heap_below h_P2 hbN; replace h_K2 := heap_below h_K2 hbN; replace hE := hE.below hbN; replace hA := hA.below hbN; replace hFW := hFW.below hbN; replace hp1 := hp1.below hbN; replace ht1 := ht1.below hbN; replace hp2 := hp2.below hbN; replace hb := hb.trans (hbN.mono hs); replace hs := Nat.le_trans hs hbN.size; clear hbN
        refine ⟨_, rfl, ?_⟩
        try simp only [put_list, List.set_cons_zero, List.set_cons_succ]
        refine wpList_run (by kernel_rfl) (.tuple #[.agg (rsA o3 a3 (.slice B3 l3 c3)), u3]) (M3) (exec_move rfl (by kernel_rfl)) ?_
        try simp only [put_list, List.set_cons_zero, List.set_cons_succ]
        refine wpList_run (by kernel_rfl) (.agg (rsA o3 a3 (.slice B3 l3 c3))) (M3) (exec_extract (vx := .tuple #[.agg (rsA o3 a3 (.slice B3 l3 c3)), u3]) rfl (by kernel_rfl) (by kernel_rfl)) ?_
        try simp only [put_list, List.set_cons_zero, List.set_cons_succ]
        refine wpList_run (by kernel_rfl) (u3) (M3) (exec_extract (vx := .tuple #[.agg (rsA o3 a3 (.slice B3 l3 c3)), u3]) rfl (by kernel_rfl) (by kernel_rfl)) ?_
        try simp only [put_list, List.set_cons_zero, List.set_cons_succ]
        refine wpList_allocV (by kernel_rfl) 29 (by kernel_rfl) (rsA 0 0 (.slice none 0 0)) (fun _ => by kernel_rfl) ?_
        try simp only [put_list, List.set_cons_zero, List.set_cons_succ]
        refine wpList_store_row (by kernel_rfl) 29 (Go.Operand.tmp 26) (Go.Operand.tmp 136) (by kernel_rfl) M3.heap.size (rsA o3 a3 (.slice B3 l3 c3)) (by kernel_rfl) (by kernel_rfl) _ _ (heap_alloc_new _ _) (rs_info _ _ _) (by kernel_rfl) (rs_one _ _ _ _ _) ?_
        rw [alloc_setRow]
        simp only [put_none]
        try simp only [put_list, List.set_cons_zero, List.set_cons_succ]
        refine wpList_run (by kernel_rfl) (u3) ((M3.alloc (.cells (rsA o3 a3 (.slice B3 l3 c3)) 29))) (exec_assign rfl (by kernel_rfl)) ?_
        refine wpList_nil ?_
        simp only [put_list, List.set_cons_zero, List.set_cons_succ]
        have hcb2 := below_alc M3 (.cells (rsA o3 a3 (.slice B3 l3 c3)) 29)
        have hcell2 := (hcb2.cell (p := ⟨G, k, none⟩) (cell_lt hcell)).trans hcell
        obtain ⟨WZ, hWZ⟩ : ∃ V, V = M3.alloc (.cells (rsA o3 a3 (.slice B3 l3 c3)) 29) := ⟨_, rfl⟩
        rw [← hWZ] at hcell2 hcb2 ⊢
        have h_P3 : WZ.heap[M3.heap.size]? = some (.cells (rsA o3 a3 (.slice B3 l3 c3)) 29 (0, 0)) := by rw [hWZ]; exact heap1_0 _ _
        clear hWZ hcell
        have hcell := hcell2
        clear hcell2
        obtain ⟨P3, hnm⟩ : ∃ H, H = M3.heap.size := ⟨_, rfl⟩
        rw [← hnm] at h_P3 ⊢
        clear hnm
        replace h_P1 := heap_below h_P1 hcb2
        replace h_P2 := heap_below h_P2 hcb2
        replace h_K2 := heap_below h_K2 hcb2
        replace hE := hE.below hcb2
        replace hA := hA.below hcb2
        replace hFW := hFW.below hcb2
        replace hp1 := hp1.below hcb2
        replace ht1 := ht1.below hcb2
        replace hp2 := hp2.below hcb2
        replace hp3 := hp3.below hcb2
        replace ht3 := ht3.below hcb2
        replace hb := hb.trans (hcb2.mono hs)
        replace hs := Nat.le_trans hs hcb2.size
        clear hcb2 
        generalize WZ = Z103 at *
        go_upto_region 26 with (fail)
        refine wp_region_lit ?_
        try simp only [put_list, List.set_cons_zero, List.set_cons_succ]
        refine wpList_run (by kernel_rfl) (.slice (some ⟨G, 0, none⟩) 5 5) (Z103) (exec_move rfl (by kernel_rfl)) ?_
        try simp only [put_list, List.set_cons_zero, List.set_cons_succ]
        refine wpList_run (by kernel_rfl) (.int .i64 (k : Int)) (Z103) (exec_move rfl (by kernel_rfl)) ?_
        try simp only [put_list, List.set_cons_zero, List.set_cons_succ]
        refine wpList_run (by kernel_rfl) (.pointer (some ⟨G, k, none⟩)) (Z103) (exec_index (vx := .slice (some ⟨G, 0, none⟩) 5 5) (vy := .int .i64 (k : Int)) rfl (by kernel_rfl) (hix Z103)) ?_
        try simp only [put_list, List.set_cons_zero, List.set_cons_succ]
        refine wpList_run (by kernel_rfl) (.slice A l c) (Z103) (exec_load (vx := .pointer (some ⟨G, k, none⟩)) rfl (by kernel_rfl) (load_slice G k Z103 25 (fun w => by kernel_rfl) _ hcell)) ?_
        refine wpList_call (by kernel_rfl) 17 #[Go.Operand.tmp 142] #[25] #[.slice A l c] _ rfl (by kernel_rfl) (by kernel_rfl) (drsp_r A xs l c Z103 hA HXL.out.1 HXL.out.2.2.2 HXL.out.2.1 (by have := HXL.out; omega)) ?_
        rintro e M4 ⟨o4, a4, B4, l4, c4, rfl, hp4, hbN⟩
        replace hcell := (hbN.cell (p := ⟨G, k, none⟩) (cell_lt hcell)).trans hcell; replace h_P1 := heap_below h_P1 hbN; replace h_P2 := heap_below h_P2 hbN; replace h_K2 := heap_below h_K2 hbN; replace h_P3 := heap_below h_P3 hbN; replace hE := hE.below hbN; replace hA := hA.below hbN; replace hFW := hFW.below hbN; replace hp1 := hp1.below hbN; replace ht1 := ht1.below hbN; replace hp2 := hp2.below hbN; replace hp3 := hp3.below hbN; replace ht3 := ht3.below hbN; replace hb := hb.trans (hbN.mono hs); replace hs := Nat.le_trans hs hbN.size; clear hbN
        rw [HF2.out]
        refine ⟨_, rfl, ?_⟩
        try simp only [put_list, List.set_cons_zero, List.set_cons_succ]
        refine wpList_run (by kernel_rfl) (.tuple #[.agg (rsA o4 a4 (.slice B4 l4 c4)), .agg (frow fc2 fp2 fz2)]) (M4) (exec_move rfl (by kernel_rfl)) ?_
        try simp only [put_list, List.set_cons_zero, List.set_cons_succ]
        refine wpList_run (by kernel_rfl) (.agg (rsA o4 a4 (.slice B4 l4 c4))) (M4) (exec_extract (vx := .tuple #[.agg (rsA o4 a4 (.slice B4 l4 c4)), .agg (frow fc2 fp2 fz2)]) rfl (by kernel_rfl) (by kernel_rfl)) ?_
        try simp only [put_list, List.set_cons_zero, List.set_cons_succ]
        refine wpList_run (by kernel_rfl) (.agg (frow fc2 fp2 fz2)) (M4) (exec_extract (vx := .tuple #[.agg (rsA o4 a4 (.slice B4 l4 c4)), .agg (frow fc2 fp2 fz2)]) rfl (by kernel_rfl) (by kernel_rfl)) ?_
        obtain ⟨WY, hWY⟩ : ∃ V, V = M4.alloc (.cells (rsA 0 0 (.slice none 0 0)) 29) := ⟨_, rfl⟩
        obtain ⟨WX, hWX⟩ : ∃ V, V = WY.alloc (.cells (frow 0 false 0) 42) := ⟨_, rfl⟩
        obtain ⟨P4, hP4⟩ : ∃ P, P = M4.heap.size := ⟨_, rfl⟩
        obtain ⟨K4, hK4⟩ : ∃ P, P = WY.heap.size := ⟨_, rfl⟩
        have hlt2 : P4 < K4 := by rw [hK4, hWY, hP4]; simp
        have hrA : WX.heap[P4]? = some (.cells (rsA 0 0 (.slice none 0 0)) 29 (0, 0)) := by rw [hWX, hWY, hP4]; exact heap2_0 _ _ _
        have hrB : WX.heap[K4]? = some (.cells (frow 0 false 0) 42 (0, 0)) := by rw [hWX, hK4]; exact heap1_0 _ _
        have hbX : Below M4.heap.size M4 WX := by rw [hWX, hWY]; exact (below_alc _ _).alloc (by simp) _
        try simp only [put_list, List.set_cons_zero, List.set_cons_succ]
        refine wpList_allocV (by kernel_rfl) 29 (by kernel_rfl) (rsA 0 0 (.slice none 0 0)) (fun _ => by kernel_rfl) ?_
        rw [← hWY, ← hP4]
        try simp only [put_list, List.set_cons_zero, List.set_cons_succ]
        refine wpList_allocV (by kernel_rfl) 42 (by kernel_rfl) (frow 0 false 0) (fun _ => by kernel_rfl) ?_
        rw [← hWX, ← hK4]
        try simp only [put_list, List.set_cons_zero, List.set_cons_succ]
        refine wpList_store_row (by kernel_rfl) 29 (Go.Operand.tmp 28) (Go.Operand.tmp 144) (by kernel_rfl) P4 (rsA o4 a4 (.slice B4 l4 c4)) (by kernel_rfl) (by kernel_rfl) _ _ hrA (rs_info _ _ _) (rfl) (rs_one _ _ _ _ _) ?_
        simp only [put_none]
        refine wpList_store_row (by kernel_rfl) 42 (Go.Operand.tmp 29) (Go.Operand.tmp 145) (by kernel_rfl) K4 (frow fc2 fp2 fz2) (by kernel_rfl) (by kernel_rfl) _ _ ((setRow_other _ P4 K4 _ (by omega)).trans hrB) (by kernel_rfl) rfl (frow_one _ _ _) ?_
        refine wpList_nil ?_
        simp only [put_none]
        go_upto_region 27 with (fail)
        refine wp_world (fun W => Below n0 w W ∧ n0 ≤ W.heap.size ∧ W.cell? ⟨G, k, none⟩ = some (.slice A l c) ∧ W.heap[P1]? = some (.cells (rqA o1 f1 a1 b1 (.slice B1 l1 c1)) 27 (0, 0)) ∧ W.heap[P2]? = some (.cells (rqA o2 f2 a2 b2 (.slice B2 l2 c2)) 27 (0, 0)) ∧ W.heap[K2]? = some (.cells (frow fc1 fp1 fz1) 42 (0, 0)) ∧ W.heap[P3]? = some (.cells (rsA o3 a3 (.slice B3 l3 c3)) 29 (0, 0)) ∧ ErrsAt E W ∧ SlRead W A (ints .u8 xs) ∧ FiveS W G ∧ RqP xs 0 (rqA o1 f1 a1 b1 (.slice B1 l1 c1)) W ∧ TellR E (reqO xs) u1 W ∧ RqP xs 0 (rqA o2 f2 a2 b2 (.slice B2 l2 c2)) W ∧ RsP xs 0 (rsA o3 a3 (.slice B3 l3 c3)) W ∧ TellR E (rspO xs) u3 W ∧ RsP xs 0 (rsA o4 a4 (.slice B4 l4 c4)) W ∧ W.heap[P4]? = some (.cells (rsA o4 a4 (.slice B4 l4 c4)) 29 (0, 0)) ∧ W.heap[K4]? = some (.cells (frow fc2 fp2 fz2) 42 (0, 0))) ?_ ?_
        · have hbT : Below M4.heap.size M4 ((WX.setRow P4 (rsA o4 a4 (.slice B4 l4 c4))).setRow K4 (frow fc2 fp2 fz2)) := setRow_below (setRow_below hbX P4 (by rw [hP4]; exact Nat.le_refl _) _) K4 (by omega) _
          exact ⟨hb.trans (hbT.mono hs), Nat.le_trans hs hbT.size, (hbT.cell (p := ⟨G, k, none⟩) (cell_lt hcell)).trans hcell, heap_below h_P1 hbT, heap_below h_P2 hbT, heap_below h_K2 hbT, heap_below h_P3 hbT, hE.below hbT, hA.below hbT, hFW.below hbT, hp1.below hbT, ht1.below hbT, hp2.below hbT, hp3.below hbT, ht3.below hbT, hp4.below hbT, (setRow_other _ _ _ _ (by omega)).trans (setRow_heap _ _ _ _ _ _ hrA), setRow_heap _ _ _ _ _ _ ((setRow_other _ _ _ _ (by omega)).trans hrB)⟩
        clear hWX hWY hP4 hK4 hrA hrB hbX hlt2 hb hs hcell h_P1 h_P2 h_K2 h_P3 hE hA hFW hp1 ht1 hp2 hp3 ht3 hp4
        rintro Z104 ⟨hb, hs, hcell, h_P1, h_P2, h_K2, h_P3, hE, hA, hFW, hp1, ht1, hp2, hp3, ht3, hp4, h_P4, h_K4⟩
        go_upto_region 27 with (fail)
        refine wp_region_lit ?_
        try simp only [put_list, List.set_cons_zero, List.set_cons_succ]
        refine wpList_run (by kernel_rfl) (.agg (rqA o1 f1 a1 b1 (.slice B1 l1 c1))) (Z104) (exec_load (vx := .pointer (some ⟨P1, 0, none⟩)) rfl (by kernel_rfl) (ld_q P1 (rqA o1 f1 a1 b1 (.slice B1 l1 c1)) Z104 (rq_info _ _ _ _ _) h_P1)) ?_
        try simp only [put_list, List.set_cons_zero, List.set_cons_succ]
        refine wpList_run (by kernel_rfl) (.agg (rqA o2 f2 a2 b2 (.slice B2 l2 c2))) (Z104) (exec_load (vx := .pointer (some ⟨P2, 0, none⟩)) rfl (by kernel_rfl) (ld_q P2 (rqA o2 f2 a2 b2 (.slice B2 l2 c2)) Z104 (rq_info _ _ _ _ _) h_P2)) ?_
        refine wpList_call (by kernel_rfl) 18 #[Go.Operand.tmp 146, Go.Operand.tmp 147] #[27, 27] #[.agg (rqA o1 f1 a1 b1 (.slice B1 l1 c1)), .agg (rqA o2 f2 a2 b2 (.slice B2 l2 c2))] _ rfl (by kernel_rfl) (by kernel_rfl) (both_req hp1 hp2 (by rw [HXL.out.1]; have := HXL.out; omega)) ?_
        rintro e V1 ⟨rfl, hbN⟩
        replace hcell := (hbN.cell (p := ⟨G, k, none⟩) (cell_lt hcell)).trans hcell; replace h_P1 := heap_below h_P1 hbN; replace h_P2 := heap_below h_P2 hbN; replace h_K2 := heap_below h_K2 hbN; replace h_P3 := heap_below h_P3 hbN; replace h_P4 := heap_below h_P4 hbN; replace h_K4 := heap_below h_K4 hbN; replace hE := hE.below hbN; replace hA := hA.below hbN; replace hFW := hFW.below hbN; replace hp1 := hp1.below hbN; replace ht1 := ht1.below hbN; replace hp2 := hp2.below hbN; replace hp3 := hp3.below hbN; replace ht3 := ht3.below hbN; replace hp4 := hp4.below hbN; replace hb := hb.trans (hbN.mono hs); replace hs := Nat.le_trans hs hbN.size; clear hbN
        refine ⟨_, rfl, ?_⟩
        try simp only [put_list, List.set_cons_zero, List.set_cons_succ]
        refine wpList_run (by kernel_rfl) (.bool false) (V1) (exec_un (vx := .bool true) rfl (by kernel_rfl) (by kernel_rfl)) ?_
        try simp only [put_list, List.set_cons_zero, List.set_cons_succ]
        refine wpList_run (by kernel_rfl) (.bool false) (V1) (exec_move rfl (by kernel_rfl)) ?_
        try simp only [put_list, List.set_cons_zero, List.set_cons_succ]
        refine wpList_runG (by kernel_rfl) (u1) (V1) (exec_move rfl (by kernel_rfl)) ?_
        try simp only [put_list, List.set_cons_zero, List.set_cons_succ]
        refine wpList_runG (by kernel_rfl) (.agg (frow fc1 fp1 fz1)) (V1) (exec_load (vx := .pointer (some ⟨K2, 0, none⟩)) rfl (by kernel_rfl) (ld_f K2 fc1 fp1 fz1 V1 h_K2)) ?_
        refine wpList_call (by kernel_rfl) 19 #[Go.Operand.tmp 151, Go.Operand.tmp 152] #[38, 42] #[u1, .agg (frow fc1 fp1 fz1)] _ rfl (by kernel_rfl) (by kernel_rfl) ((by rw [← HF1.out]; exact same_tell E (reqO xs) u1 V1 hE ht1)) ?_
        rintro e V2 ⟨rfl, hbN⟩
        replace hcell := (hbN.cell (p := ⟨G, k, none⟩) (cell_lt hcell)).trans hcell; replace h_P1 := heap_below h_P1 hbN; replace h_P2 := heap_below h_P2 hbN; replace h_K2 := heap_below h_K2 hbN; replace h_P3 := heap_below h_P3 hbN; replace h_P4 := heap_below h_P4 hbN; replace h_K4 := heap_below h_K4 hbN; replace hE := hE.below hbN; replace hA := hA.below hbN; replace hFW := hFW.below hbN; replace hp1 := hp1.below hbN; replace ht1 := ht1.below hbN; replace hp2 := hp2.below hbN; replace hp3 := hp3.below hbN; replace ht3 := ht3.below hbN; replace hp4 := hp4.below hbN; replace hb := hb.trans (hbN.mono hs); replace hs := Nat.le_trans hs hbN.size; clear hbN
        refine ⟨_, rfl, ?_⟩
        try simp only [put_list, List.set_cons_zero, List.set_cons_succ]
        refine wpList_runG (by kernel_rfl) (.bool false) (V2) (exec_un (vx := .bool true) rfl (by kernel_rfl) (by kernel_rfl)) ?_
        try simp only [put_list, List.set_cons_zero, List.set_cons_succ]
        refine wpList_run (by kernel_rfl) (.bool false) (V2) (exec_pick (b := false) rfl (by kernel_rfl) (by kernel_rfl)) ?_
        try simp only [put_list, List.set_cons_zero, List.set_cons_succ]
        refine wpList_run (by kernel_rfl) (.bool false) (V2) (exec_move rfl (by kernel_rfl)) ?_
        try simp only [put_list, List.set_cons_zero, List.set_cons_succ]
        refine wpList_runG (by kernel_rfl) (.agg (rsA o3 a3 (.slice B3 l3 c3))) (V2) (exec_load (vx := .pointer (some ⟨P3, 0, none⟩)) rfl (by kernel_rfl) (ld_s P3 (rsA o3 a3 (.slice B3 l3 c3)) V2 (rs_info _ _ _) h_P3)) ?_
        try simp only [put_list, List.set_cons_zero, List.set_cons_succ]
        refine wpList_runG (by kernel_rfl) (.agg (rsA o4 a4 (.slice B4 l4 c4))) (V2) (exec_load (vx := .pointer (some ⟨P4, 0, none⟩)) rfl (by kernel_rfl) (ld_s P4 (rsA o4 a4 (.slice B4 l4 c4)) V2 (rs_info _ _ _) h_P4)) ?_
        refine wpList_call (by kernel_rfl) 20 #[Go.Operand.tmp 157, Go.Operand.tmp 158] #[29, 29] #[.agg (rsA o3 a3 (.slice B3 l3 c3)), .agg (rsA o4 a4 (.slice B4 l4 c4))] _ rfl (by kernel_rfl) (by kernel_rfl) (both_rsp hp3 hp4 (by rw [HXL.out.1]; have := HXL.out; omega)) ?_
        rintro e V3 ⟨rfl, hbN⟩
        replace hcell := (hbN.cell (p := ⟨G, k, none⟩) (cell_lt hcell)).trans hcell; replace h_P1 := heap_below h_P1 hbN; replace h_P2 := heap_below h_P2 hbN; replace h_K2 := heap_below h_K2 hbN; replace h_P3 := heap_below h_P3 hbN; replace h_P4 := heap_below h_P4 hbN; replace h_K4 := heap_below h_K4 hbN; replace hE := hE.below hbN; replace hA := hA.below hbN; replace hFW := hFW.below hbN; replace hp1 := hp1.below hbN; replace ht1 := ht1.below hbN; replace hp2 := hp2.below hbN; replace hp3 := hp3.below hbN; replace ht3 := ht3.below hbN; replace hp4 := hp4.below hbN; replace hb := hb.trans (hbN.mono hs); replace hs := Nat.le_trans hs hbN.size; clear hbN
        refine ⟨_, rfl, ?_⟩
        try simp only [put_list, List.set_cons_zero, List.set_cons_succ]
        refine wpList_runG (by kernel_rfl) (.bool false) (V3) (exec_un (vx := .bool true) rfl (by kernel_rfl) (by kernel_rfl)) ?_
        try simp only [put_list, List.set_cons_zero, List.set_cons_succ]
        refine wpList_run (by kernel_rfl) (.bool false) (V3) (exec_pick (b := false) rfl (by kernel_rfl) (by kernel_rfl)) ?_
        try simp only [put_list, List.set_cons_zero, List.set_cons_succ]
        refine wpList_run (by kernel_rfl) (.bool false) (V3) (exec_move rfl (by kernel_rfl)) ?_
        try simp only [put_list, List.set_cons_zero, List.set_cons_succ]
        refine wpList_runG (by kernel_rfl) (u3) (V3) (exec_move rfl (by kernel_rfl)) ?_
        try simp only [put_list, List.set_cons_zero, List.set_cons_succ]
        refine wpList_runG (by kernel_rfl) (.agg (frow fc2 fp2 fz2)) (V3) (exec_load (vx := .pointer (some ⟨K4, 0, none⟩)) rfl (by kernel_rfl) (ld_f K4 fc2 fp2 fz2 V3 h_K4)) ?_
        refine wpList_call (by kernel_rfl) 19 #[Go.Operand.tmp 163, Go.Operand.tmp 164] #[38, 42] #[u3, .agg (frow fc2 fp2 fz2)] _ rfl (by kernel_rfl) (by kernel_rfl) ((by rw [← HF2.out]; exact same_tell E (rspO xs) u3 V3 hE ht3)) ?_
        rintro e V4 ⟨rfl, hbN⟩
        replace hcell := (hbN.cell (p := ⟨G, k, none⟩) (cell_lt hcell)).trans hcell; replace h_P1 := heap_below h_P1 hbN; replace h_P2 := heap_below h_P2 hbN; replace h_K2 := heap_below h_K2 hbN; replace h_P3 := heap_below h_P3 hbN; replace h_P4 := heap_below h_P4 hbN; replace h_K4 := heap_below h_K4 hbN; replace hE := hE.below hbN; replace hA := hA.below hbN; replace hFW := hFW.below hbN; replace hp1 := hp1.below hbN; replace ht1 := ht1.below hbN; replace hp2 := hp2.below hbN; replace hp3 := hp3.below hbN; replace ht3 := ht3.below hbN; replace hp4 := hp4.below hbN; replace hb := hb.trans (hbN.mono hs); replace hs := Nat.le_trans hs hbN.size; clear hbN
        refine ⟨_, rfl, ?_⟩
        try simp only [put_list, List.set_cons_zero, List.set_cons_succ]
        refine wpList_runG (by kernel_rfl) (.bool false) (V4) (exec_un (vx := .bool true) rfl (by kernel_rfl) (by kernel_rfl)) ?_
        try simp only [put_list, List.set_cons_zero, List.set_cons_succ]
        refine wpList_run (by kernel_rfl) (.bool false) (V4) (exec_pick (b := false) rfl (by kernel_rfl) (by kernel_rfl)) ?_
        refine wpList_nil ?_
        simp only [put_list, List.set_cons_zero, List.set_cons_succ]
        have hww : wrap64 ((k : Int) + 1) = (k : Int) + 1 := by unfold wrap64; omega
        have HR := Lib.hid (And.intro hb (And.intro hs (And.intro hE hFW)))
        have HW := Lib.hid (And.intro hww hlt)
        clear hb hs hE hFW hp1 hp2 hp3 hp4 ht1 ht3 hA hcell h_P1 h_P2 h_P3 h_P4 h_K2 h_K4 hix hk5 hlt hk hww
        go_upto_region 22 with (fail)
        refine wp_region_lit ?_
        try simp only [put_list, List.set_cons_zero, List.set_cons_succ]
        refine wpList_run (by kernel_rfl) (.int .i64 (k : Int)) (V4) (exec_move rfl (by kernel_rfl)) ?_
        try simp only [put_list, List.set_cons_zero, List.set_cons_succ]
        refine wpList_run (by kernel_rfl) (.int .i64 ((k : Int) + 1)) (V4) (exec_bin (vx := .int .i64 (k : Int)) (vy := Go.Value.int Go.IntKind.i64 1) rfl (by kernel_rfl) (add_int _ _ _ V4 _ _ _ rfl (by omega) (by have := HW.out.2; omega))) ?_
        try simp only [put_list, List.set_cons_zero, List.set_cons_succ]
        refine wpList_run (by kernel_rfl) (.int .i64 ((k : Int) + 1)) (V4) (exec_assign rfl (by kernel_rfl)) ?_
        refine wpList_nil ?_
        simp only [put_list, List.set_cons_zero, List.set_cons_succ]
        have hlt := HW.out.2
        go_wp2_with fail
        refine ⟨⟨k + 1, by omega, by go_num, HR.out⟩, ?_⟩
        simp [intOf] <;> omega
      · obtain rfl : k = 5 := by omega
        have HR := Lib.hid hb
        clear hb hs hE hFV
        go_wp2_with fail
        go_ret
        exact ⟨rfl, HR.out⟩
end Go.Proofs.YtocjmlncpjfnfaaDoor
