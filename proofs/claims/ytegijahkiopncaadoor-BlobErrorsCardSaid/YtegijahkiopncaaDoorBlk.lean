import Derived.Test.YtegijahkiopncaaDoorBlj
/-
  courierlaw20: BlobErrors.
-/
namespace Go.Proofs.YtegijahkiopncaaDoor
open Go.RowKit
theorem find_one (e : Be) (k : Nat → BitVec 8) (h : Be.is k e = true) : [e].findIdx? (Be.is k) = some 0 := by simp [List.findIdx?_cons, h]
theorem find_no (e : Be) (k : Nat → BitVec 8) (h : Be.is k e = false) : [e].findIdx? (Be.is k) = none := by simp [List.findIdx?_cons, h]
theorem sum_nil : sumN [] = 0 := rfl
theorem sum_one (e : Be) : sumN [e] = e.n := by simp [sumN]
theorem arr8_all {n : Nat} {f : Nat → BitVec 8} : (arr8 n f).all (·.oneCell') = true := by simp [arr8, v8, Value.oneCell']
theorem neg_i (a : Int) (h1 : -9223372036854775808 ≤ -a) (h2 : -a ≤ 9223372036854775807) (w : World) : (Op.unary .neg (.int .i64 a)).run Tryd.prog w = .ok (.int .i64 (-a)) w := by
  have hw : IntKind.i64.wrap (-a) = -a := IntWalk.i64_in _ (by omega)
  simp [Op.unary, Op.intArith, hw]
theorem eql_i (t : TypeId) (x y : Operand) (a : Int) (w : World) : (do eqGuard .eql t x y (.int .i64 a) (.int .i64 a); binOp .eql t (.int .i64 a) (.int .i64 a) : Sem Value).run Tryd.prog w = .ok (.bool true) w := by
  simp [eqGuard, binOp, Op.intCmp]
theorem exec_ext0 {P : Program} {a : Act} {o : Oper} {x : Operand} {v u : Value} {w : World} (ho : o.op = .extract x 0) (hx : a.eval x = .tuple #[v, u]) : (execOp a.eval o).run P w = .ok (.value v) w := by
  unfold execOp
  simp [ho, hx, Instr.extract, Result.andThen]
theorem exec_ext1 {P : Program} {a : Act} {o : Oper} {x : Operand} {v u : Value} {w : World} (ho : o.op = .extract x 1) (hx : a.eval x = .tuple #[v, u]) : (execOp a.eval o).run P w = .ok (.value u) w := by
  unfold execOp
  simp [ho, hx, Instr.extract, Result.andThen]
theorem Sto.drewN {E : Nat → Addr} {w0 W : World} {S : Nat} {q l : Int} {V : Value} {es : List Be} (h : Sto E w0 W S q l V es) (m : Nat) : Sto E w0 (W.drewN m) S q l V es := h.keep (below_drewN h.be m) (fun _ _ => rfl)
theorem Sto.drew {E : Nat → Addr} {w0 W : World} {S : Nat} {q l : Int} {V : Value} {es : List Be} (h : Sto E w0 W S q l V es) : Sto E w0 W.drew S q l V es := h.keep h.be.drew (fun _ _ => rfl)
theorem used_one {E : Nat → Addr} {w0 W : World} {S : Nat} {q l : Int} {V : Value} {e : Be} (h : Sto E w0 W S q l V [e]) (hn : 0 ≤ e.n ∧ e.n ≤ 30000) : Calls Tryd.prog 20 #[.pointer (some ⟨S, 0, none⟩)] W fun r W' => r = .returned (.int .i64 e.n) ∧ W' = W := by
  have := s_used h (by simp) (few_one hn)
  rwa [sum_one] at this
set_option maxRecDepth 100000 in
set_option maxHeartbeats 4000000 in
theorem errors_walk (E : Nat → Addr) (n off which : Int) (w : World) (hE : ErrsAt E w) : Calls Tryd.prog 6 #[.int .i64 n, .int .i64 off, .int .i64 which] w fun e w' => e = .returned (.bool true) ∧ Below w.heap.size w w' := by
  have hfi := first_b E w hE
  have hnu := fun W => number_any n 100 W (by omega)
  have hmu := fun W => number_any off 1000 W (by omega)
  obtain ⟨p, hp⟩ : ∃ p, p = n % 100 := ⟨_, rfl⟩
  obtain ⟨t, ht⟩ : ∃ t, t = off % 1000 := ⟨_, rfl⟩
  have hp1 : 0 ≤ p ∧ p < 100 := by omega
  have ht1 : 0 ≤ t ∧ t < 1000 := by omega
  rw [← hp] at hnu
  rw [← ht] at hmu
  obtain ⟨zN, hzN⟩ : ∃ z, z = p + 1 := ⟨_, rfl⟩
  obtain ⟨zO, hzO⟩ : ∃ z, z = t + 1 := ⟨_, rfl⟩
  have hw1 : wrap64 (p + 1) = zN := by rw [hzN]; unfold wrap64; omega
  have hw2 : wrap64 (t + 1) = zO := by rw [hzO]; unfold wrap64; omega
  have hzn : 1 ≤ zN ∧ zN ≤ 100 := by omega
  have hzo : 1 ≤ zO ∧ zO ≤ 1000 := by omega
  clear hp ht hp1 ht1 hzN hzO
  have HZ := Lib.hid (And.intro hzn hzo)
  have HE := Lib.hid hE
  clear hE hzn hzo
  go_enter Tryd.func6, Tryd.ntmps6
  go_upto_region 6 with (first | (go_at_call 8; refine hfi.mono ?_; rintro e w1 ⟨rfl, hb1⟩; have HB1 := Lib.hid hb1; clear hb1 hfi) | (go_at_call 10; refine (hnu _).mono ?_; rintro e w2 ⟨rfl, q2, rfl⟩; clear hnu) | (go_at_call 10; refine (hmu _).mono ?_; rintro e w3 ⟨rfl, q3, rfl⟩; clear hmu))
  have hbW : Below w.heap.size w (w1.drewN (q2 + q3)) := HB1.out.trans ((Below.drewNr (q2 + q3)).mono HB1.out.size)
  refine wp_world (fun W => Below w.heap.size w W) hbW ?_
  clear hbW HB1
  intro W1 hb1
  have hE1 := HE.out.below hb1
  have hnew := s_new (q := 1073741824) (l := 3) hE1 (by decide)
  obtain ⟨S, hSe⟩ : ∃ S, S = W1.heap.size := ⟨_, rfl⟩
  rw [← hSe] at hnew
  clear hSe hE1
  go_upto_region 7 with (go_at_call 11; refine hnew.mono ?_; rintro r W2 ⟨rfl, hS⟩; clear hnew)
  clear hw1 hw2
  refine wp_region_lit ?_
  try simp only [put_list, List.set_cons_zero, List.set_cons_succ]
  refine wpList_run (by kernel_rfl) (.agg (arr8 32 k1)) (W2) (exec_build (vs := #[(0, Go.Value.int Go.IntKind.u8 1)]) rfl (by kernel_rfl) (by kernel_rfl)) ?_
  try simp only [put_list, List.set_cons_zero, List.set_cons_succ]
  refine wpList_allocV (by kernel_rfl) 26 (by kernel_rfl) (arr8 32 k0) (fun _ => by kernel_rfl) ?_
  refine wpList_store_row (by kernel_rfl) 26 (Go.Operand.tmp 9) (Go.Operand.tmp 29) (by kernel_rfl) W2.heap.size (arr8 32 k1) (by kernel_rfl) (by kernel_rfl) _ _ (heap_alloc_new _ _) (by rw [arr8_size]; kernel_rfl) (by rw [arr8_size, arr8_size]) (arr8_all) ?_
  rw [alloc_setRow]
  refine wpList_nil ?_
  simp only [put_list, put_none, List.set_cons_zero, List.set_cons_succ]
  go_upto_region 8 with (fail)
  obtain ⟨X, hXe⟩ : ∃ X, X = W2.heap.size := ⟨_, rfl⟩
  rw [← hXe]
  refine wp_world (fun W => Sto E W1 W S 1073741824 3 (.slice none 0 0) [] ∧ W.heap[X]? = some (.cells (arr8 32 k1) 26 (0, 0))) ⟨hS.below (below_alc W2 _), by rw [hXe]; exact heap1_0 W2 _⟩ ?_
  clear hS hXe
  rintro W3 ⟨hS, hX⟩
  clear W2
  obtain ⟨hzn, hzo⟩ := HZ.out
  refine wp_region_lit ?_
  try simp only [put_list, List.set_cons_zero, List.set_cons_succ]
  refine wpList_run (by kernel_rfl) (.pointer (some ⟨S, 0, none⟩)) (W3) (exec_move rfl (by kernel_rfl)) ?_
  try simp only [put_list, List.set_cons_zero, List.set_cons_succ]
  refine wpList_run (by kernel_rfl) (.bool false) (W3) (exec_bin (vx := .pointer (some ⟨S, 0, none⟩)) (vy := Go.Value.pointer none) rfl (by kernel_rfl) (by kernel_rfl)) ?_
  try simp only [put_list, List.set_cons_zero, List.set_cons_succ]
  refine wpList_run (by kernel_rfl) (.bool false) (W3) (exec_move rfl (by kernel_rfl)) ?_
  try simp only [put_list, List.set_cons_zero, List.set_cons_succ]
  refine wpList_runG (by kernel_rfl) (.pointer (some ⟨S, 0, none⟩)) (W3) (exec_move rfl (by kernel_rfl)) ?_
  try simp only [put_list, List.set_cons_zero, List.set_cons_succ]
  refine wpList_runG (by kernel_rfl) (.agg (arr8 32 k1)) (W3) (exec_load (vx := .pointer (some ⟨X, 0, none⟩)) rfl (by kernel_rfl) (load_idB W3 X k1 (range_new (cs := (arr8 32 k1).toList) (by simpa using hX)))) ?_
  try simp only [put_list, List.set_cons_zero, List.set_cons_succ]
  refine wpList_runG (by kernel_rfl) (.int .i64 zO) (W3) (exec_move rfl (by kernel_rfl)) ?_
  try simp only [put_list, List.set_cons_zero, List.set_cons_succ]
  refine wpList_runG (by kernel_rfl) (.int .i64 (-zO)) (W3) (exec_un (vx := .int .i64 zO) rfl (by kernel_rfl) (neg_i _ (by omega) (by omega) _)) ?_
  try simp only [put_list, List.set_cons_zero, List.set_cons_succ]
  refine wpList_runG (by kernel_rfl) (.int .i64 (-zO + 1)) (W3) (exec_bin (vx := .int .i64 (-zO)) (vy := Go.Value.int Go.IntKind.i64 1) rfl (by kernel_rfl) (add_i _ _ _ _ _ (by omega) (by omega) _)) ?_
  refine wpList_call (by kernel_rfl) 12 #[Go.Operand.tmp 33, Go.Operand.tmp 34, Go.Operand.tmp 37] #[30, 26, 3] #[.pointer (some ⟨S, 0, none⟩), .agg (arr8 32 k1), .int .i64 (-zO + 1)] _ rfl (by kernel_rfl) (by kernel_rfl) (s_range hS k1 (-zO + 1) (.inl (by omega))) ?_
  rintro r W4 ⟨rfl, hS2, ht⟩
  replace hX := id_stays hS ht hX
  clear hS ht
  have hS := hS2
  clear hS2
  refine ⟨_, rfl, ?_⟩
  refine wpList_call (by kernel_rfl) 13 #[Go.Operand.tmp 38, Go.Operand.const (Go.Value.int Go.IntKind.i64 102)] #[33, 3] #[errV (E 1), Go.Value.int Go.IntKind.i64 102] _ rfl (by kernel_rfl) (by kernel_rfl) (is_yes E 1 (by decide) W4 hS.errs) ?_
  rintro r W5 ⟨rfl, hb⟩
  replace hX := heap_below hX hb
  have hS2 := hS.below hb
  clear hS hb
  have hS := hS2
  clear hS2
  refine ⟨_, rfl, ?_⟩
  try simp only [put_list, List.set_cons_zero, List.set_cons_succ]
  refine wpList_runG (by kernel_rfl) (.bool false) (W5) (exec_un (vx := .bool true) rfl (by kernel_rfl) (by kernel_rfl)) ?_
  try simp only [put_list, List.set_cons_zero, List.set_cons_succ]
  refine wpList_run (by kernel_rfl) (.bool false) (W5) (exec_pick (b := false) rfl (by kernel_rfl) (by kernel_rfl)) ?_
  try simp only [put_list, List.set_cons_zero, List.set_cons_succ]
  refine wpList_run (by kernel_rfl) (.bool false) (W5) (exec_move rfl (by kernel_rfl)) ?_
  try simp only [put_list, List.set_cons_zero, List.set_cons_succ]
  refine wpList_runG (by kernel_rfl) (.pointer (some ⟨S, 0, none⟩)) (W5) (exec_move rfl (by kernel_rfl)) ?_
  try simp only [put_list, List.set_cons_zero, List.set_cons_succ]
  refine wpList_runG (by kernel_rfl) (.agg (arr8 32 k1)) (W5) (exec_load (vx := .pointer (some ⟨X, 0, none⟩)) rfl (by kernel_rfl) (load_idB W5 X k1 (range_new (cs := (arr8 32 k1).toList) (by simpa using hX)))) ?_
  try simp only [put_list, List.set_cons_zero, List.set_cons_succ]
  refine wpList_runG (by kernel_rfl) (.int .i64 zO) (W5) (exec_move rfl (by kernel_rfl)) ?_
  try simp only [put_list, List.set_cons_zero, List.set_cons_succ]
  refine wpList_runG (by kernel_rfl) (.int .i64 (30000 + zO)) (W5) (exec_bin (vx := Go.Value.int Go.IntKind.i64 30000) (vy := .int .i64 zO) rfl (by kernel_rfl) (add_i _ _ _ _ _ (by omega) (by omega) _)) ?_
  refine wpList_call (by kernel_rfl) 12 #[Go.Operand.tmp 43, Go.Operand.tmp 44, Go.Operand.tmp 46] #[30, 26, 3] #[.pointer (some ⟨S, 0, none⟩), .agg (arr8 32 k1), .int .i64 (30000 + zO)] _ rfl (by kernel_rfl) (by kernel_rfl) (s_range hS k1 (30000 + zO) (.inr (by omega))) ?_
  rintro r W6 ⟨rfl, hS2, ht⟩
  replace hX := id_stays hS ht hX
  clear hS ht
  have hS := hS2
  clear hS2
  refine ⟨_, rfl, ?_⟩
  refine wpList_call (by kernel_rfl) 13 #[Go.Operand.tmp 47, Go.Operand.const (Go.Value.int Go.IntKind.i64 102)] #[33, 3] #[errV (E 1), Go.Value.int Go.IntKind.i64 102] _ rfl (by kernel_rfl) (by kernel_rfl) (is_yes E 1 (by decide) W6 hS.errs) ?_
  rintro r W7 ⟨rfl, hb⟩
  replace hX := heap_below hX hb
  have hS2 := hS.below hb
  clear hS hb
  have hS := hS2
  clear hS2
  refine ⟨_, rfl, ?_⟩
  try simp only [put_list, List.set_cons_zero, List.set_cons_succ]
  refine wpList_runG (by kernel_rfl) (.bool false) (W7) (exec_un (vx := .bool true) rfl (by kernel_rfl) (by kernel_rfl)) ?_
  try simp only [put_list, List.set_cons_zero, List.set_cons_succ]
  refine wpList_run (by kernel_rfl) (.bool false) (W7) (exec_pick (b := false) rfl (by kernel_rfl) (by kernel_rfl)) ?_
  try simp only [put_list, List.set_cons_zero, List.set_cons_succ]
  refine wpList_run (by kernel_rfl) (.bool false) (W7) (exec_move rfl (by kernel_rfl)) ?_
  try simp only [put_list, List.set_cons_zero, List.set_cons_succ]
  refine wpList_runG (by kernel_rfl) (.pointer (some ⟨S, 0, none⟩)) (W7) (exec_move rfl (by kernel_rfl)) ?_
  try simp only [put_list, List.set_cons_zero, List.set_cons_succ]
  refine wpList_runG (by kernel_rfl) (.agg (arr8 32 k1)) (W7) (exec_load (vx := .pointer (some ⟨X, 0, none⟩)) rfl (by kernel_rfl) (load_idB W7 X k1 (range_new (cs := (arr8 32 k1).toList) (by simpa using hX)))) ?_
  try simp only [put_list, List.set_cons_zero, List.set_cons_succ]
  refine wpList_runG (by kernel_rfl) (.int .i64 zN) (W7) (exec_move rfl (by kernel_rfl)) ?_
  refine wpList_call (by kernel_rfl) 12 #[Go.Operand.tmp 52, Go.Operand.tmp 53, Go.Operand.tmp 54] #[30, 26, 3] #[.pointer (some ⟨S, 0, none⟩), .agg (arr8 32 k1), .int .i64 zN] _ rfl (by kernel_rfl) (by kernel_rfl) (s_ok hS k1 zN (by omega) (by omega) (by simp) few_nil rfl (by rw [sum_nil]; omega)) ?_
  rintro r W8 ⟨rfl, V8, g, _, hS2, ht, _⟩
  replace hX := id_stays hS ht hX
  clear hS ht
  have hS : Sto E W1 W8 S 1073741824 3 V8 [⟨g, k1, zN, .slice none 0 0, [], false, 0⟩] := hS2
  clear hS2
  refine ⟨_, rfl, ?_⟩
  try simp only [put_list, List.set_cons_zero, List.set_cons_succ]
  refine wpList_runG (by kernel_rfl) (.bool false) (W8) (exec_bin (vx := .nilIface) (vy := Go.Value.nilIface) rfl (by kernel_rfl) (by kernel_rfl)) ?_
  try simp only [put_list, List.set_cons_zero, List.set_cons_succ]
  refine wpList_run (by kernel_rfl) (.bool false) (W8) (exec_pick (b := false) rfl (by kernel_rfl) (by kernel_rfl)) ?_
  refine wpList_nil ?_
  simp only [put_list, List.set_cons_zero, List.set_cons_succ]
  obtain ⟨K, hK, hK4⟩ := exists_mod which 4 (by omega)
  go_upto_region 11 with (fail)
  obtain rfl | rfl | rfl | rfl : K = 0 ∨ K = 1 ∨ K = 2 ∨ K = 3 := by omega
  · have hnw := fun W => number_nat which 4 0 W (by omega) hK
    go_upto_region 22 with (first | (refine wpList_load_row rfl 26 _ rfl X rfl _ _ _ _ hX Tryd.underlying26 rfl (by rw [arr8_size]; kernel_rfl) ?_) | (go_at_call 10; refine (hnw _).mono ?_; rintro r W9 ⟨rfl, q9, rfl⟩; clear hnw; replace hX : (W8.drewN q9).heap[X]? = _ := hX; have hS2 := hS.drewN q9; clear hS; have hS := hS2; clear hS2; generalize W8.drewN q9 = W9 at *) | (go_at_call 14; refine (s_putE hS k1 (-zO) none 0 0 (by simp) (find_one _ _ (is_self _)) rfl rfl (by constructor <;> simp <;> omega) (by simp; omega) (.inl (by omega))).mono ?_; rintro r W10 ⟨rfl, hS2, ht⟩; replace hX := id_stays hS ht hX; clear hS ht; have hS := hS2; clear hS2))
    obtain ⟨D, hD⟩ : ∃ D : Value, D = .slice none 0 0 := ⟨_, rfl⟩
    replace hS : Sto E W1 W10 S 1073741824 3 V8 [⟨g, k1, zN, D, [], false, 0⟩] := by rw [hD]; exact hS
    clear hD
    go_upto_region 23 with (first | (refine wpList_load_row rfl 26 _ rfl X rfl _ _ _ _ hX Tryd.underlying26 rfl (by rw [arr8_size]; kernel_rfl) ?_) | (go_at_call 17; refine (s_stat hS k1 (by simp) (find_one _ _ (is_self _)) rfl).mono ?_; rintro r Wx ⟨rfl, hS2, ht⟩; replace hX := id_stays hS ht hX; clear hS ht; have hS := hS2; clear hS2))
    replace hS : Sto E W1 Wx S 1073741824 3 V8 [⟨g, k1, zN, D, [], false, 0⟩] := hS
    go_upto_region 24 with (first | (refine wpList_build rfl 26 _ rfl #[(0, .int .u8 2)] (by kernel_rfl) (.agg (arr8 32 k2)) (fun w => by kernel_rfl) ?_) | (go_at_call 14; refine (s_putN hS k2 0 none 0 0 (by simp) (find_no _ _ (is_k12 _ rfl))).mono ?_; rintro r Wy ⟨rfl, hS2, ht⟩; replace hX := id_stays hS ht hX; clear hS ht; have hS := hS2; clear hS2))
    go_upto_region 25 with (first | (refine wpList_build rfl 26 _ rfl #[(0, .int .u8 2)] (by kernel_rfl) (.agg (arr8 32 k2)) (fun w => by kernel_rfl) ?_) | (go_at_call 17; refine (s_statN hS k2 (by simp) (find_no _ _ (is_k12 _ rfl))).mono ?_; rintro r Wa ⟨rfl, hS2, ht⟩; replace hX := id_stays hS ht hX; clear hS ht; have hS := hS2; clear hS2))
    refine wp_region_lit ?_
    try simp only [put_list, List.set_cons_zero, List.set_cons_succ]
    refine wpList_run (by kernel_rfl) (.bool true) (Wa) (exec_move rfl (by kernel_rfl)) ?_
    try simp only [put_list, List.set_cons_zero, List.set_cons_succ]
    refine wpList_run (by kernel_rfl) (.bool true) (Wa) (exec_move rfl (by kernel_rfl)) ?_
    try simp only [put_list, List.set_cons_zero, List.set_cons_succ]
    refine wpList_runG (by kernel_rfl) (errV (E 1)) (Wa) (exec_move rfl (by kernel_rfl)) ?_
    refine wpList_call (by kernel_rfl) 13 #[Go.Operand.tmp 122, Go.Operand.const (Go.Value.int Go.IntKind.i64 102)] #[33, 3] #[errV (E 1), Go.Value.int Go.IntKind.i64 102] _ rfl (by kernel_rfl) (by kernel_rfl) (is_yes E 1 (by decide) Wa hS.errs) ?_
    rintro r Wb ⟨rfl, hb⟩
    have hS2 := hS.below hb
    clear hS hb
    have hS := hS2
    clear hS2
    refine ⟨_, rfl, ?_⟩
    try simp only [put_list, List.set_cons_zero, List.set_cons_succ]
    refine wpList_run (by kernel_rfl) (.bool true) (Wb) (exec_pick (b := true) rfl (by kernel_rfl) (by kernel_rfl)) ?_
    try simp only [put_list, List.set_cons_zero, List.set_cons_succ]
    refine wpList_run (by kernel_rfl) (.bool true) (Wb) (exec_move rfl (by kernel_rfl)) ?_
    try simp only [put_list, List.set_cons_zero, List.set_cons_succ]
    refine wpList_runG (by kernel_rfl) (.int .i64 0) (Wb) (exec_move rfl (by kernel_rfl)) ?_
    try simp only [put_list, List.set_cons_zero, List.set_cons_succ]
    refine wpList_runG (by kernel_rfl) (.bool true) (Wb) (exec_bin (vx := .int .i64 0) (vy := Go.Value.int Go.IntKind.i64 0) rfl (by kernel_rfl) (by kernel_rfl)) ?_
    try simp only [put_list, List.set_cons_zero, List.set_cons_succ]
    refine wpList_run (by kernel_rfl) (.bool true) (Wb) (exec_pick (b := true) rfl (by kernel_rfl) (by kernel_rfl)) ?_
    try simp only [put_list, List.set_cons_zero, List.set_cons_succ]
    refine wpList_run (by kernel_rfl) (.bool true) (Wb) (exec_move rfl (by kernel_rfl)) ?_
    try simp only [put_list, List.set_cons_zero, List.set_cons_succ]
    refine wpList_runG (by kernel_rfl) (.bool false) (Wb) (exec_move rfl (by kernel_rfl)) ?_
    try simp only [put_list, List.set_cons_zero, List.set_cons_succ]
    refine wpList_runG (by kernel_rfl) (.bool true) (Wb) (exec_un (vx := .bool false) rfl (by kernel_rfl) (by kernel_rfl)) ?_
    try simp only [put_list, List.set_cons_zero, List.set_cons_succ]
    refine wpList_run (by kernel_rfl) (.bool true) (Wb) (exec_pick (b := true) rfl (by kernel_rfl) (by kernel_rfl)) ?_
    try simp only [put_list, List.set_cons_zero, List.set_cons_succ]
    refine wpList_run (by kernel_rfl) (.bool true) (Wb) (exec_move rfl (by kernel_rfl)) ?_
    try simp only [put_list, List.set_cons_zero, List.set_cons_succ]
    refine wpList_runG (by kernel_rfl) (.nilIface) (Wb) (exec_move rfl (by kernel_rfl)) ?_
    try simp only [put_list, List.set_cons_zero, List.set_cons_succ]
    refine wpList_runG (by kernel_rfl) (.bool true) (Wb) (exec_bin (vx := .nilIface) (vy := Go.Value.nilIface) rfl (by kernel_rfl) (by kernel_rfl)) ?_
    try simp only [put_list, List.set_cons_zero, List.set_cons_succ]
    refine wpList_run (by kernel_rfl) (.bool true) (Wb) (exec_pick (b := true) rfl (by kernel_rfl) (by kernel_rfl)) ?_
    try simp only [put_list, List.set_cons_zero, List.set_cons_succ]
    refine wpList_run (by kernel_rfl) (.bool true) (Wb) (exec_move rfl (by kernel_rfl)) ?_
    try simp only [put_list, List.set_cons_zero, List.set_cons_succ]
    refine wpList_runG (by kernel_rfl) (errV (E 13)) (Wb) (exec_move rfl (by kernel_rfl)) ?_
    refine wpList_call (by kernel_rfl) 13 #[Go.Operand.tmp 138, Go.Operand.const (Go.Value.int Go.IntKind.i64 114)] #[33, 3] #[errV (E 13), Go.Value.int Go.IntKind.i64 114] _ rfl (by kernel_rfl) (by kernel_rfl) (is_yes E 13 (by decide) Wb hS.errs) ?_
    rintro r Wc ⟨rfl, hb⟩
    have hS2 := hS.below hb
    clear hS hb
    have hS := hS2
    clear hS2
    refine ⟨_, rfl, ?_⟩
    try simp only [put_list, List.set_cons_zero, List.set_cons_succ]
    refine wpList_run (by kernel_rfl) (.bool true) (Wc) (exec_pick (b := true) rfl (by kernel_rfl) (by kernel_rfl)) ?_
    try simp only [put_list, List.set_cons_zero, List.set_cons_succ]
    refine wpList_run (by kernel_rfl) (.bool true) (Wc) (exec_move rfl (by kernel_rfl)) ?_
    try simp only [put_list, List.set_cons_zero, List.set_cons_succ]
    refine wpList_runG (by kernel_rfl) (errV (E 13)) (Wc) (exec_move rfl (by kernel_rfl)) ?_
    refine wpList_call (by kernel_rfl) 13 #[Go.Operand.tmp 142, Go.Operand.const (Go.Value.int Go.IntKind.i64 114)] #[33, 3] #[errV (E 13), Go.Value.int Go.IntKind.i64 114] _ rfl (by kernel_rfl) (by kernel_rfl) (is_yes E 13 (by decide) Wc hS.errs) ?_
    rintro r Wd ⟨rfl, hb⟩
    have hS2 := hS.below hb
    clear hS hb
    have hS := hS2
    clear hS2
    refine ⟨_, rfl, ?_⟩
    try simp only [put_list, List.set_cons_zero, List.set_cons_succ]
    refine wpList_run (by kernel_rfl) (.bool true) (Wd) (exec_pick (b := true) rfl (by kernel_rfl) (by kernel_rfl)) ?_
    try simp only [put_list, List.set_cons_zero, List.set_cons_succ]
    refine wpList_run (by kernel_rfl) (.bool true) (Wd) (exec_move rfl (by kernel_rfl)) ?_
    try simp only [put_list, List.set_cons_zero, List.set_cons_succ]
    refine wpList_runG (by kernel_rfl) (.pointer (some ⟨S, 0, none⟩)) (Wd) (exec_move rfl (by kernel_rfl)) ?_
    try simp only [put_list, List.set_cons_zero, List.set_cons_succ]
    refine wpList_runG (by kernel_rfl) (.agg (arr8 32 k2)) (Wd) (exec_build (vs := #[(0, Go.Value.int Go.IntKind.u8 2)]) rfl (by kernel_rfl) (by kernel_rfl)) ?_
    refine wpList_call (by kernel_rfl) 16 #[Go.Operand.tmp 146, Go.Operand.tmp 147] #[30, 26] #[.pointer (some ⟨S, 0, none⟩), .agg (arr8 32 k2)] _ rfl (by kernel_rfl) (by kernel_rfl) (s_commitN hS k2 (by simp) (find_no _ _ (is_k12 _ rfl))) ?_
    rintro r We ⟨rfl, hS2, _⟩
    clear hS
    have hS := hS2
    clear hS2
    refine ⟨_, rfl, ?_⟩
    refine wpList_call (by kernel_rfl) 13 #[Go.Operand.tmp 148, Go.Operand.const (Go.Value.int Go.IntKind.i64 114)] #[33, 3] #[errV (E 13), Go.Value.int Go.IntKind.i64 114] _ rfl (by kernel_rfl) (by kernel_rfl) (is_yes E 13 (by decide) We hS.errs) ?_
    rintro r Wf ⟨rfl, hb⟩
    have hS2 := hS.below hb
    clear hS hb
    have hS := hS2
    clear hS2
    refine ⟨_, rfl, ?_⟩
    try simp only [put_list, List.set_cons_zero, List.set_cons_succ]
    refine wpList_run (by kernel_rfl) (.bool true) (Wf) (exec_pick (b := true) rfl (by kernel_rfl) (by kernel_rfl)) ?_
    try simp only [put_list, List.set_cons_zero, List.set_cons_succ]
    refine wpList_run (by kernel_rfl) (.bool true) (Wf) (exec_move rfl (by kernel_rfl)) ?_
    try simp only [put_list, List.set_cons_zero, List.set_cons_succ]
    refine wpList_runG (by kernel_rfl) (.pointer (some ⟨S, 0, none⟩)) (Wf) (exec_move rfl (by kernel_rfl)) ?_
    refine wpList_call (by kernel_rfl) 20 #[Go.Operand.tmp 152] #[30] #[.pointer (some ⟨S, 0, none⟩)] _ rfl (by kernel_rfl) (by kernel_rfl) (used_one hS (by constructor <;> simp <;> omega)) ?_
    rintro r Y ⟨rfl, hY⟩
    obtain rfl := hY.symm
    clear hY
    refine ⟨_, rfl, ?_⟩
    try simp only [put_list, List.set_cons_zero, List.set_cons_succ]
    refine wpList_runG (by kernel_rfl) (.int .i64 zN) (Wf) (exec_move rfl (by kernel_rfl)) ?_
    try simp only [put_list, List.set_cons_zero, List.set_cons_succ]
    refine wpList_runG (by kernel_rfl) (.bool true) (Wf) (exec_bin (vx := .int .i64 zN) (vy := .int .i64 zN) rfl (by kernel_rfl) (eql_i _ _ _ _ _)) ?_
    try simp only [put_list, List.set_cons_zero, List.set_cons_succ]
    refine wpList_run (by kernel_rfl) (.bool true) (Wf) (exec_pick (b := true) rfl (by kernel_rfl) (by kernel_rfl)) ?_
    try simp only [put_list, List.set_cons_zero, List.set_cons_succ]
    refine wpList_run (by kernel_rfl) (.bool true) (Wf) (exec_assign rfl (by kernel_rfl)) ?_
    refine wpList_nil ?_
    simp only [put_list, List.set_cons_zero, List.set_cons_succ]
    go_wp2_with fail
    go_ret
    exact ⟨rfl, hb1.trans (hS.be.mono hb1.size)⟩
  · have hnw := fun W => number_nat which 4 1 W (by omega) hK
    go_upto_region 22 with (first | (refine wpList_load_row rfl 26 _ rfl X rfl _ _ _ _ hX Tryd.underlying26 rfl (by rw [arr8_size]; kernel_rfl) ?_) | (go_at_call 10; refine (hnw _).mono ?_; rintro r W9 ⟨rfl, q9, rfl⟩; clear hnw; replace hX : (W8.drewN q9).heap[X]? = _ := hX; have hS2 := hS.drewN q9; clear hS; have hS := hS2; clear hS2; generalize W8.drewN q9 = W9 at *) | (go_at_call 14; refine (s_putE hS k1 zO none 0 0 (by simp) (find_one _ _ (is_self _)) rfl rfl (by constructor <;> simp <;> omega) (by simp; omega) (.inr (.inl (by simp; omega)))).mono ?_; rintro r W10 ⟨rfl, hS2, ht⟩; replace hX := id_stays hS ht hX; clear hS ht; have hS := hS2; clear hS2))
    obtain ⟨D, hD⟩ : ∃ D : Value, D = .slice none 0 0 := ⟨_, rfl⟩
    replace hS : Sto E W1 W10 S 1073741824 3 V8 [⟨g, k1, zN, D, [], false, 0⟩] := by rw [hD]; exact hS
    clear hD
    go_upto_region 23 with (first | (refine wpList_load_row rfl 26 _ rfl X rfl _ _ _ _ hX Tryd.underlying26 rfl (by rw [arr8_size]; kernel_rfl) ?_) | (go_at_call 17; refine (s_stat hS k1 (by simp) (find_one _ _ (is_self _)) rfl).mono ?_; rintro r Wx ⟨rfl, hS2, ht⟩; replace hX := id_stays hS ht hX; clear hS ht; have hS := hS2; clear hS2))
    replace hS : Sto E W1 Wx S 1073741824 3 V8 [⟨g, k1, zN, D, [], false, 0⟩] := hS
    go_upto_region 24 with (first | (refine wpList_build rfl 26 _ rfl #[(0, .int .u8 2)] (by kernel_rfl) (.agg (arr8 32 k2)) (fun w => by kernel_rfl) ?_) | (go_at_call 14; refine (s_putN hS k2 0 none 0 0 (by simp) (find_no _ _ (is_k12 _ rfl))).mono ?_; rintro r Wy ⟨rfl, hS2, ht⟩; replace hX := id_stays hS ht hX; clear hS ht; have hS := hS2; clear hS2))
    go_upto_region 25 with (first | (refine wpList_build rfl 26 _ rfl #[(0, .int .u8 2)] (by kernel_rfl) (.agg (arr8 32 k2)) (fun w => by kernel_rfl) ?_) | (go_at_call 17; refine (s_statN hS k2 (by simp) (find_no _ _ (is_k12 _ rfl))).mono ?_; rintro r Wa ⟨rfl, hS2, ht⟩; replace hX := id_stays hS ht hX; clear hS ht; have hS := hS2; clear hS2))
    refine wp_region_lit ?_
    try simp only [put_list, List.set_cons_zero, List.set_cons_succ]
    refine wpList_run (by kernel_rfl) (.bool true) (Wa) (exec_move rfl (by kernel_rfl)) ?_
    try simp only [put_list, List.set_cons_zero, List.set_cons_succ]
    refine wpList_run (by kernel_rfl) (.bool true) (Wa) (exec_move rfl (by kernel_rfl)) ?_
    try simp only [put_list, List.set_cons_zero, List.set_cons_succ]
    refine wpList_runG (by kernel_rfl) (errV (E 1)) (Wa) (exec_move rfl (by kernel_rfl)) ?_
    refine wpList_call (by kernel_rfl) 13 #[Go.Operand.tmp 122, Go.Operand.const (Go.Value.int Go.IntKind.i64 102)] #[33, 3] #[errV (E 1), Go.Value.int Go.IntKind.i64 102] _ rfl (by kernel_rfl) (by kernel_rfl) (is_yes E 1 (by decide) Wa hS.errs) ?_
    rintro r Wb ⟨rfl, hb⟩
    have hS2 := hS.below hb
    clear hS hb
    have hS := hS2
    clear hS2
    refine ⟨_, rfl, ?_⟩
    try simp only [put_list, List.set_cons_zero, List.set_cons_succ]
    refine wpList_run (by kernel_rfl) (.bool true) (Wb) (exec_pick (b := true) rfl (by kernel_rfl) (by kernel_rfl)) ?_
    try simp only [put_list, List.set_cons_zero, List.set_cons_succ]
    refine wpList_run (by kernel_rfl) (.bool true) (Wb) (exec_move rfl (by kernel_rfl)) ?_
    try simp only [put_list, List.set_cons_zero, List.set_cons_succ]
    refine wpList_runG (by kernel_rfl) (.int .i64 0) (Wb) (exec_move rfl (by kernel_rfl)) ?_
    try simp only [put_list, List.set_cons_zero, List.set_cons_succ]
    refine wpList_runG (by kernel_rfl) (.bool true) (Wb) (exec_bin (vx := .int .i64 0) (vy := Go.Value.int Go.IntKind.i64 0) rfl (by kernel_rfl) (by kernel_rfl)) ?_
    try simp only [put_list, List.set_cons_zero, List.set_cons_succ]
    refine wpList_run (by kernel_rfl) (.bool true) (Wb) (exec_pick (b := true) rfl (by kernel_rfl) (by kernel_rfl)) ?_
    try simp only [put_list, List.set_cons_zero, List.set_cons_succ]
    refine wpList_run (by kernel_rfl) (.bool true) (Wb) (exec_move rfl (by kernel_rfl)) ?_
    try simp only [put_list, List.set_cons_zero, List.set_cons_succ]
    refine wpList_runG (by kernel_rfl) (.bool false) (Wb) (exec_move rfl (by kernel_rfl)) ?_
    try simp only [put_list, List.set_cons_zero, List.set_cons_succ]
    refine wpList_runG (by kernel_rfl) (.bool true) (Wb) (exec_un (vx := .bool false) rfl (by kernel_rfl) (by kernel_rfl)) ?_
    try simp only [put_list, List.set_cons_zero, List.set_cons_succ]
    refine wpList_run (by kernel_rfl) (.bool true) (Wb) (exec_pick (b := true) rfl (by kernel_rfl) (by kernel_rfl)) ?_
    try simp only [put_list, List.set_cons_zero, List.set_cons_succ]
    refine wpList_run (by kernel_rfl) (.bool true) (Wb) (exec_move rfl (by kernel_rfl)) ?_
    try simp only [put_list, List.set_cons_zero, List.set_cons_succ]
    refine wpList_runG (by kernel_rfl) (.nilIface) (Wb) (exec_move rfl (by kernel_rfl)) ?_
    try simp only [put_list, List.set_cons_zero, List.set_cons_succ]
    refine wpList_runG (by kernel_rfl) (.bool true) (Wb) (exec_bin (vx := .nilIface) (vy := Go.Value.nilIface) rfl (by kernel_rfl) (by kernel_rfl)) ?_
    try simp only [put_list, List.set_cons_zero, List.set_cons_succ]
    refine wpList_run (by kernel_rfl) (.bool true) (Wb) (exec_pick (b := true) rfl (by kernel_rfl) (by kernel_rfl)) ?_
    try simp only [put_list, List.set_cons_zero, List.set_cons_succ]
    refine wpList_run (by kernel_rfl) (.bool true) (Wb) (exec_move rfl (by kernel_rfl)) ?_
    try simp only [put_list, List.set_cons_zero, List.set_cons_succ]
    refine wpList_runG (by kernel_rfl) (errV (E 13)) (Wb) (exec_move rfl (by kernel_rfl)) ?_
    refine wpList_call (by kernel_rfl) 13 #[Go.Operand.tmp 138, Go.Operand.const (Go.Value.int Go.IntKind.i64 114)] #[33, 3] #[errV (E 13), Go.Value.int Go.IntKind.i64 114] _ rfl (by kernel_rfl) (by kernel_rfl) (is_yes E 13 (by decide) Wb hS.errs) ?_
    rintro r Wc ⟨rfl, hb⟩
    have hS2 := hS.below hb
    clear hS hb
    have hS := hS2
    clear hS2
    refine ⟨_, rfl, ?_⟩
    try simp only [put_list, List.set_cons_zero, List.set_cons_succ]
    refine wpList_run (by kernel_rfl) (.bool true) (Wc) (exec_pick (b := true) rfl (by kernel_rfl) (by kernel_rfl)) ?_
    try simp only [put_list, List.set_cons_zero, List.set_cons_succ]
    refine wpList_run (by kernel_rfl) (.bool true) (Wc) (exec_move rfl (by kernel_rfl)) ?_
    try simp only [put_list, List.set_cons_zero, List.set_cons_succ]
    refine wpList_runG (by kernel_rfl) (errV (E 13)) (Wc) (exec_move rfl (by kernel_rfl)) ?_
    refine wpList_call (by kernel_rfl) 13 #[Go.Operand.tmp 142, Go.Operand.const (Go.Value.int Go.IntKind.i64 114)] #[33, 3] #[errV (E 13), Go.Value.int Go.IntKind.i64 114] _ rfl (by kernel_rfl) (by kernel_rfl) (is_yes E 13 (by decide) Wc hS.errs) ?_
    rintro r Wd ⟨rfl, hb⟩
    have hS2 := hS.below hb
    clear hS hb
    have hS := hS2
    clear hS2
    refine ⟨_, rfl, ?_⟩
    try simp only [put_list, List.set_cons_zero, List.set_cons_succ]
    refine wpList_run (by kernel_rfl) (.bool true) (Wd) (exec_pick (b := true) rfl (by kernel_rfl) (by kernel_rfl)) ?_
    try simp only [put_list, List.set_cons_zero, List.set_cons_succ]
    refine wpList_run (by kernel_rfl) (.bool true) (Wd) (exec_move rfl (by kernel_rfl)) ?_
    try simp only [put_list, List.set_cons_zero, List.set_cons_succ]
    refine wpList_runG (by kernel_rfl) (.pointer (some ⟨S, 0, none⟩)) (Wd) (exec_move rfl (by kernel_rfl)) ?_
    try simp only [put_list, List.set_cons_zero, List.set_cons_succ]
    refine wpList_runG (by kernel_rfl) (.agg (arr8 32 k2)) (Wd) (exec_build (vs := #[(0, Go.Value.int Go.IntKind.u8 2)]) rfl (by kernel_rfl) (by kernel_rfl)) ?_
    refine wpList_call (by kernel_rfl) 16 #[Go.Operand.tmp 146, Go.Operand.tmp 147] #[30, 26] #[.pointer (some ⟨S, 0, none⟩), .agg (arr8 32 k2)] _ rfl (by kernel_rfl) (by kernel_rfl) (s_commitN hS k2 (by simp) (find_no _ _ (is_k12 _ rfl))) ?_
    rintro r We ⟨rfl, hS2, _⟩
    clear hS
    have hS := hS2
    clear hS2
    refine ⟨_, rfl, ?_⟩
    refine wpList_call (by kernel_rfl) 13 #[Go.Operand.tmp 148, Go.Operand.const (Go.Value.int Go.IntKind.i64 114)] #[33, 3] #[errV (E 13), Go.Value.int Go.IntKind.i64 114] _ rfl (by kernel_rfl) (by kernel_rfl) (is_yes E 13 (by decide) We hS.errs) ?_
    rintro r Wf ⟨rfl, hb⟩
    have hS2 := hS.below hb
    clear hS hb
    have hS := hS2
    clear hS2
    refine ⟨_, rfl, ?_⟩
    try simp only [put_list, List.set_cons_zero, List.set_cons_succ]
    refine wpList_run (by kernel_rfl) (.bool true) (Wf) (exec_pick (b := true) rfl (by kernel_rfl) (by kernel_rfl)) ?_
    try simp only [put_list, List.set_cons_zero, List.set_cons_succ]
    refine wpList_run (by kernel_rfl) (.bool true) (Wf) (exec_move rfl (by kernel_rfl)) ?_
    try simp only [put_list, List.set_cons_zero, List.set_cons_succ]
    refine wpList_runG (by kernel_rfl) (.pointer (some ⟨S, 0, none⟩)) (Wf) (exec_move rfl (by kernel_rfl)) ?_
    refine wpList_call (by kernel_rfl) 20 #[Go.Operand.tmp 152] #[30] #[.pointer (some ⟨S, 0, none⟩)] _ rfl (by kernel_rfl) (by kernel_rfl) (used_one hS (by constructor <;> simp <;> omega)) ?_
    rintro r Y ⟨rfl, hY⟩
    obtain rfl := hY.symm
    clear hY
    refine ⟨_, rfl, ?_⟩
    try simp only [put_list, List.set_cons_zero, List.set_cons_succ]
    refine wpList_runG (by kernel_rfl) (.int .i64 zN) (Wf) (exec_move rfl (by kernel_rfl)) ?_
    try simp only [put_list, List.set_cons_zero, List.set_cons_succ]
    refine wpList_runG (by kernel_rfl) (.bool true) (Wf) (exec_bin (vx := .int .i64 zN) (vy := .int .i64 zN) rfl (by kernel_rfl) (eql_i _ _ _ _ _)) ?_
    try simp only [put_list, List.set_cons_zero, List.set_cons_succ]
    refine wpList_run (by kernel_rfl) (.bool true) (Wf) (exec_pick (b := true) rfl (by kernel_rfl) (by kernel_rfl)) ?_
    try simp only [put_list, List.set_cons_zero, List.set_cons_succ]
    refine wpList_run (by kernel_rfl) (.bool true) (Wf) (exec_assign rfl (by kernel_rfl)) ?_
    refine wpList_nil ?_
    simp only [put_list, List.set_cons_zero, List.set_cons_succ]
    go_wp2_with fail
    go_ret
    exact ⟨rfl, hb1.trans (hS.be.mono hb1.size)⟩
  · have hnw := fun W => number_nat which 4 2 W (by omega) hK
    go_upto_region 21 with (go_at_call 10; refine (hnw _).mono ?_; rintro r W9 ⟨rfl, q9, rfl⟩; clear hnw; replace hX : (W8.drewN q9).heap[X]? = _ := hX; have hS2 := hS.drewN q9; clear hS; have hS := hS2; clear hS2; generalize W8.drewN q9 = W9 at *)
    clear W8
    rename World => W8
    obtain ⟨M, hM⟩ : ∃ M : Nat, (M : Int) = zN + zO := ⟨(zN + zO).toNat, by omega⟩
    have HM := Lib.hid hM
    refine wp_region_noPanic ?_
    refine wp_region_held_drew (S := fun W => Sto E W1 W S 1073741824 3 V8 [⟨g, k1, zN, .slice none 0 0, [], false, 0⟩] ∧ W.heap[X]? = some (.cells (arr8 32 k1) 26 (0, 0))) (by kernel_rfl) (⟨hS.drew, hX⟩) (fun hHeld => ?_)
    refine held_move 0 (Go.Operand.tmp 8) (some 91) (.pointer (some ⟨S, 0, none⟩)) (by kernel_rfl) (by kernel_rfl) (by kernel_rfl) (by kernel_rfl) (by kernel_rfl) (fun _ _ _ _ _ h => h) hHeld ?_
    refine held_cell 1 26 (Go.Operand.tmp 9) (some 92) (.pointer (some ⟨X, 0, none⟩)) (.agg (arr8 32 k1)) (by kernel_rfl) (by kernel_rfl) (fun W hw => load_idB W X k1 (range_new (cs := (arr8 32 k1).toList) (by simpa using hw.2))) (by kernel_rfl) (by kernel_rfl) (by kernel_rfl) (fun _ _ _ _ _ h => h) hHeld ?_
    refine held_move 2 (Go.Operand.tmp 0) (some 93) (.int .i64 zN) (by kernel_rfl) (by kernel_rfl) (by kernel_rfl) (by kernel_rfl) (by kernel_rfl) (fun _ _ _ _ _ h => h) hHeld ?_
    refine held_move 3 (Go.Operand.tmp 1) (some 94) (.int .i64 zO) (by kernel_rfl) (by kernel_rfl) (by kernel_rfl) (by kernel_rfl) (by kernel_rfl) (fun _ _ _ _ _ h => h) hHeld ?_
    refine held_bin 4 Go.BinOp.add 3 (Go.Operand.tmp 93) (Go.Operand.tmp 94) 3 (some 95) (.int .i64 zN) (.int .i64 zO) (.int .i64 (M : Int)) (by kernel_rfl) (by kernel_rfl) (fun w => by rw [HM.out]; exact add_i _ _ _ _ _ (by omega) (by omega) w) (by kernel_rfl) (by kernel_rfl) (by kernel_rfl) (fun _ _ _ _ _ h => h) hHeld ?_
    obtain ⟨i0, hi0, hz0, hz1, hz2⟩ := info_parts Tryd.info5
    refine held_make 5 24 5 (.tmp 95) (.tmp 95) (some 96) M i0 (.int .u8 0) (by kernel_rfl) (by kernel_rfl) Tryd.underlying24 hi0 hz0 hz1 rfl (by rw [hz2]; omega) (by omega) (by kernel_rfl) ⟨hHeld.1.below (below_alc _ _), heap_below hHeld.2 (below_alc _ _)⟩ ?_
    intro hHeld
    refine held_call 6 14 #[Go.Operand.tmp 91, Go.Operand.tmp 92, Go.Operand.const (Go.Value.int Go.IntKind.i64 0), Go.Operand.tmp 96] #[30, 26, 3, 24] (some 97) #[.pointer (some ⟨S, 0, none⟩), .agg (arr8 32 k1), Go.Value.int Go.IntKind.i64 0, .slice (some ⟨W8.heap.size, 0, none⟩) M M] _ (by kernel_rfl) (by kernel_rfl) (by kernel_rfl) (by kernel_rfl) (s_putE hHeld.1 k1 0 (some ⟨W8.heap.size, 0, none⟩) M M (by simp) (find_one _ _ (is_self _)) rfl rfl (by constructor <;> simp <;> omega) (by simp; omega) (.inr (.inr (by simp; omega)))) ?_
    rintro r W9 ⟨rfl, hS2, ht⟩
    refine ⟨_, rfl, ⟨hS2, id_stays hHeld.1 ht hHeld.2⟩, fun hHeld => ?_⟩
    refine held_move 7 (Go.Operand.tmp 97) (some 90) (.tuple #[.int .i64 0, errV (E 1)]) (by kernel_rfl) (by kernel_rfl) (by kernel_rfl) (by kernel_rfl) (by kernel_rfl) (fun _ _ _ _ _ h => h) hHeld ?_
    refine held_any 8 (Go.Op.extract (Go.Operand.tmp 90) 0) (some 98) (.int .i64 0) (by kernel_rfl) (by kernel_rfl) (by kernel_rfl) (by kernel_rfl) (fun _ _ _ _ _ h => h) hHeld (fun o ho w hw => exec_ext0 (v := .int .i64 0) (u := errV (E 1)) ho (by kernel_rfl)) ?_
    refine held_any 9 (Go.Op.extract (Go.Operand.tmp 90) 1) (some 99) (errV (E 1)) (by kernel_rfl) (by kernel_rfl) (by kernel_rfl) (by kernel_rfl) (fun _ _ _ _ _ h => h) hHeld (fun o ho w hw => exec_ext1 (v := .int .i64 0) (u := errV (E 1)) ho (by kernel_rfl)) ?_
    refine held_assign 10 (Go.Operand.tmp 99) (some 10) (errV (E 1)) (by kernel_rfl) (by kernel_rfl) (by kernel_rfl) (by kernel_rfl) (by kernel_rfl) (fun _ _ _ _ _ h => h) hHeld ?_
    refine wpAnyH_done (by kernel_rfl) ?_ _
    refine NoPanic.normal ?_
    try simp only [Act.put, List.setIfInBounds_toArray, List.set_cons_zero, List.set_cons_succ]
    obtain ⟨hS, hX⟩ := hHeld
    clear hHeld
    obtain ⟨D, hD⟩ : ∃ D : Value, D = .slice none 0 0 := ⟨_, rfl⟩
    replace hS : Sto E W1 W9 S 1073741824 3 V8 [⟨g, k1, zN, D, [], false, 0⟩] := by rw [hD]; exact hS
    clear hD
    go_upto_region 23 with (first | (refine wpList_load_row rfl 26 _ rfl X rfl _ _ _ _ hX Tryd.underlying26 rfl (by rw [arr8_size]; kernel_rfl) ?_) | (go_at_call 17; refine (s_stat hS k1 (by simp) (find_one _ _ (is_self _)) rfl).mono ?_; rintro r Wx ⟨rfl, hS2, ht⟩; replace hX := id_stays hS ht hX; clear hS ht; have hS := hS2; clear hS2))
    replace hS : Sto E W1 Wx S 1073741824 3 V8 [⟨g, k1, zN, D, [], false, 0⟩] := hS
    go_upto_region 24 with (first | (refine wpList_build rfl 26 _ rfl #[(0, .int .u8 2)] (by kernel_rfl) (.agg (arr8 32 k2)) (fun w => by kernel_rfl) ?_) | (go_at_call 14; refine (s_putN hS k2 0 none 0 0 (by simp) (find_no _ _ (is_k12 _ rfl))).mono ?_; rintro r Wy ⟨rfl, hS2, ht⟩; replace hX := id_stays hS ht hX; clear hS ht; have hS := hS2; clear hS2))
    go_upto_region 25 with (first | (refine wpList_build rfl 26 _ rfl #[(0, .int .u8 2)] (by kernel_rfl) (.agg (arr8 32 k2)) (fun w => by kernel_rfl) ?_) | (go_at_call 17; refine (s_statN hS k2 (by simp) (find_no _ _ (is_k12 _ rfl))).mono ?_; rintro r Wa ⟨rfl, hS2, ht⟩; replace hX := id_stays hS ht hX; clear hS ht; have hS := hS2; clear hS2))
    refine wp_region_lit ?_
    try simp only [put_list, List.set_cons_zero, List.set_cons_succ]
    refine wpList_run (by kernel_rfl) (.bool true) (Wa) (exec_move rfl (by kernel_rfl)) ?_
    try simp only [put_list, List.set_cons_zero, List.set_cons_succ]
    refine wpList_run (by kernel_rfl) (.bool true) (Wa) (exec_move rfl (by kernel_rfl)) ?_
    try simp only [put_list, List.set_cons_zero, List.set_cons_succ]
    refine wpList_runG (by kernel_rfl) (errV (E 1)) (Wa) (exec_move rfl (by kernel_rfl)) ?_
    refine wpList_call (by kernel_rfl) 13 #[Go.Operand.tmp 122, Go.Operand.const (Go.Value.int Go.IntKind.i64 102)] #[33, 3] #[errV (E 1), Go.Value.int Go.IntKind.i64 102] _ rfl (by kernel_rfl) (by kernel_rfl) (is_yes E 1 (by decide) Wa hS.errs) ?_
    rintro r Wb ⟨rfl, hb⟩
    have hS2 := hS.below hb
    clear hS hb
    have hS := hS2
    clear hS2
    refine ⟨_, rfl, ?_⟩
    try simp only [put_list, List.set_cons_zero, List.set_cons_succ]
    refine wpList_run (by kernel_rfl) (.bool true) (Wb) (exec_pick (b := true) rfl (by kernel_rfl) (by kernel_rfl)) ?_
    try simp only [put_list, List.set_cons_zero, List.set_cons_succ]
    refine wpList_run (by kernel_rfl) (.bool true) (Wb) (exec_move rfl (by kernel_rfl)) ?_
    try simp only [put_list, List.set_cons_zero, List.set_cons_succ]
    refine wpList_runG (by kernel_rfl) (.int .i64 0) (Wb) (exec_move rfl (by kernel_rfl)) ?_
    try simp only [put_list, List.set_cons_zero, List.set_cons_succ]
    refine wpList_runG (by kernel_rfl) (.bool true) (Wb) (exec_bin (vx := .int .i64 0) (vy := Go.Value.int Go.IntKind.i64 0) rfl (by kernel_rfl) (by kernel_rfl)) ?_
    try simp only [put_list, List.set_cons_zero, List.set_cons_succ]
    refine wpList_run (by kernel_rfl) (.bool true) (Wb) (exec_pick (b := true) rfl (by kernel_rfl) (by kernel_rfl)) ?_
    try simp only [put_list, List.set_cons_zero, List.set_cons_succ]
    refine wpList_run (by kernel_rfl) (.bool true) (Wb) (exec_move rfl (by kernel_rfl)) ?_
    try simp only [put_list, List.set_cons_zero, List.set_cons_succ]
    refine wpList_runG (by kernel_rfl) (.bool false) (Wb) (exec_move rfl (by kernel_rfl)) ?_
    try simp only [put_list, List.set_cons_zero, List.set_cons_succ]
    refine wpList_runG (by kernel_rfl) (.bool true) (Wb) (exec_un (vx := .bool false) rfl (by kernel_rfl) (by kernel_rfl)) ?_
    try simp only [put_list, List.set_cons_zero, List.set_cons_succ]
    refine wpList_run (by kernel_rfl) (.bool true) (Wb) (exec_pick (b := true) rfl (by kernel_rfl) (by kernel_rfl)) ?_
    try simp only [put_list, List.set_cons_zero, List.set_cons_succ]
    refine wpList_run (by kernel_rfl) (.bool true) (Wb) (exec_move rfl (by kernel_rfl)) ?_
    try simp only [put_list, List.set_cons_zero, List.set_cons_succ]
    refine wpList_runG (by kernel_rfl) (.nilIface) (Wb) (exec_move rfl (by kernel_rfl)) ?_
    try simp only [put_list, List.set_cons_zero, List.set_cons_succ]
    refine wpList_runG (by kernel_rfl) (.bool true) (Wb) (exec_bin (vx := .nilIface) (vy := Go.Value.nilIface) rfl (by kernel_rfl) (by kernel_rfl)) ?_
    try simp only [put_list, List.set_cons_zero, List.set_cons_succ]
    refine wpList_run (by kernel_rfl) (.bool true) (Wb) (exec_pick (b := true) rfl (by kernel_rfl) (by kernel_rfl)) ?_
    try simp only [put_list, List.set_cons_zero, List.set_cons_succ]
    refine wpList_run (by kernel_rfl) (.bool true) (Wb) (exec_move rfl (by kernel_rfl)) ?_
    try simp only [put_list, List.set_cons_zero, List.set_cons_succ]
    refine wpList_runG (by kernel_rfl) (errV (E 13)) (Wb) (exec_move rfl (by kernel_rfl)) ?_
    refine wpList_call (by kernel_rfl) 13 #[Go.Operand.tmp 138, Go.Operand.const (Go.Value.int Go.IntKind.i64 114)] #[33, 3] #[errV (E 13), Go.Value.int Go.IntKind.i64 114] _ rfl (by kernel_rfl) (by kernel_rfl) (is_yes E 13 (by decide) Wb hS.errs) ?_
    rintro r Wc ⟨rfl, hb⟩
    have hS2 := hS.below hb
    clear hS hb
    have hS := hS2
    clear hS2
    refine ⟨_, rfl, ?_⟩
    try simp only [put_list, List.set_cons_zero, List.set_cons_succ]
    refine wpList_run (by kernel_rfl) (.bool true) (Wc) (exec_pick (b := true) rfl (by kernel_rfl) (by kernel_rfl)) ?_
    try simp only [put_list, List.set_cons_zero, List.set_cons_succ]
    refine wpList_run (by kernel_rfl) (.bool true) (Wc) (exec_move rfl (by kernel_rfl)) ?_
    try simp only [put_list, List.set_cons_zero, List.set_cons_succ]
    refine wpList_runG (by kernel_rfl) (errV (E 13)) (Wc) (exec_move rfl (by kernel_rfl)) ?_
    refine wpList_call (by kernel_rfl) 13 #[Go.Operand.tmp 142, Go.Operand.const (Go.Value.int Go.IntKind.i64 114)] #[33, 3] #[errV (E 13), Go.Value.int Go.IntKind.i64 114] _ rfl (by kernel_rfl) (by kernel_rfl) (is_yes E 13 (by decide) Wc hS.errs) ?_
    rintro r Wd ⟨rfl, hb⟩
    have hS2 := hS.below hb
    clear hS hb
    have hS := hS2
    clear hS2
    refine ⟨_, rfl, ?_⟩
    try simp only [put_list, List.set_cons_zero, List.set_cons_succ]
    refine wpList_run (by kernel_rfl) (.bool true) (Wd) (exec_pick (b := true) rfl (by kernel_rfl) (by kernel_rfl)) ?_
    try simp only [put_list, List.set_cons_zero, List.set_cons_succ]
    refine wpList_run (by kernel_rfl) (.bool true) (Wd) (exec_move rfl (by kernel_rfl)) ?_
    try simp only [put_list, List.set_cons_zero, List.set_cons_succ]
    refine wpList_runG (by kernel_rfl) (.pointer (some ⟨S, 0, none⟩)) (Wd) (exec_move rfl (by kernel_rfl)) ?_
    try simp only [put_list, List.set_cons_zero, List.set_cons_succ]
    refine wpList_runG (by kernel_rfl) (.agg (arr8 32 k2)) (Wd) (exec_build (vs := #[(0, Go.Value.int Go.IntKind.u8 2)]) rfl (by kernel_rfl) (by kernel_rfl)) ?_
    refine wpList_call (by kernel_rfl) 16 #[Go.Operand.tmp 146, Go.Operand.tmp 147] #[30, 26] #[.pointer (some ⟨S, 0, none⟩), .agg (arr8 32 k2)] _ rfl (by kernel_rfl) (by kernel_rfl) (s_commitN hS k2 (by simp) (find_no _ _ (is_k12 _ rfl))) ?_
    rintro r We ⟨rfl, hS2, _⟩
    clear hS
    have hS := hS2
    clear hS2
    refine ⟨_, rfl, ?_⟩
    refine wpList_call (by kernel_rfl) 13 #[Go.Operand.tmp 148, Go.Operand.const (Go.Value.int Go.IntKind.i64 114)] #[33, 3] #[errV (E 13), Go.Value.int Go.IntKind.i64 114] _ rfl (by kernel_rfl) (by kernel_rfl) (is_yes E 13 (by decide) We hS.errs) ?_
    rintro r Wf ⟨rfl, hb⟩
    have hS2 := hS.below hb
    clear hS hb
    have hS := hS2
    clear hS2
    refine ⟨_, rfl, ?_⟩
    try simp only [put_list, List.set_cons_zero, List.set_cons_succ]
    refine wpList_run (by kernel_rfl) (.bool true) (Wf) (exec_pick (b := true) rfl (by kernel_rfl) (by kernel_rfl)) ?_
    try simp only [put_list, List.set_cons_zero, List.set_cons_succ]
    refine wpList_run (by kernel_rfl) (.bool true) (Wf) (exec_move rfl (by kernel_rfl)) ?_
    try simp only [put_list, List.set_cons_zero, List.set_cons_succ]
    refine wpList_runG (by kernel_rfl) (.pointer (some ⟨S, 0, none⟩)) (Wf) (exec_move rfl (by kernel_rfl)) ?_
    refine wpList_call (by kernel_rfl) 20 #[Go.Operand.tmp 152] #[30] #[.pointer (some ⟨S, 0, none⟩)] _ rfl (by kernel_rfl) (by kernel_rfl) (used_one hS (by constructor <;> simp <;> omega)) ?_
    rintro r Y ⟨rfl, hY⟩
    obtain rfl := hY.symm
    clear hY
    refine ⟨_, rfl, ?_⟩
    try simp only [put_list, List.set_cons_zero, List.set_cons_succ]
    refine wpList_runG (by kernel_rfl) (.int .i64 zN) (Wf) (exec_move rfl (by kernel_rfl)) ?_
    try simp only [put_list, List.set_cons_zero, List.set_cons_succ]
    refine wpList_runG (by kernel_rfl) (.bool true) (Wf) (exec_bin (vx := .int .i64 zN) (vy := .int .i64 zN) rfl (by kernel_rfl) (eql_i _ _ _ _ _)) ?_
    try simp only [put_list, List.set_cons_zero, List.set_cons_succ]
    refine wpList_run (by kernel_rfl) (.bool true) (Wf) (exec_pick (b := true) rfl (by kernel_rfl) (by kernel_rfl)) ?_
    try simp only [put_list, List.set_cons_zero, List.set_cons_succ]
    refine wpList_run (by kernel_rfl) (.bool true) (Wf) (exec_assign rfl (by kernel_rfl)) ?_
    refine wpList_nil ?_
    simp only [put_list, List.set_cons_zero, List.set_cons_succ]
    go_wp2_with fail
    go_ret
    exact ⟨rfl, hb1.trans (hS.be.mono hb1.size)⟩
  · have hnw := fun W => number_nat which 4 3 W (by omega) hK
    have hE1 : True := trivial
    go_upto_region 13 with (first | (refine wpList_load_row rfl 26 _ rfl X rfl _ _ _ _ hX Tryd.underlying26 rfl (by rw [arr8_size]; kernel_rfl) ?_) | (go_at_call 10; refine (hnw _).mono ?_; rintro r W9 ⟨rfl, q9, rfl⟩; clear hnw; replace hX : (W8.drewN q9).heap[X]? = _ := hX; have hS2 := hS.drewN q9; clear hS; have hS := hS2; clear hS2; generalize W8.drewN q9 = W9 at *) | (go_at_call 14; refine (s_put hS k1 none [] 0 0 0 rfl (Nat.le_refl _) (fun h => absurd h (by simp [ints])) (fun b o h => by cases h) (by simp) (find_one _ _ (is_self _)) rfl rfl (by simp) (by simp; omega) (by constructor <;> simp <;> omega) (by simp; omega)).mono ?_; rintro r W10 ⟨rfl, D, hS2, ht, _⟩; replace hX := id_stays hS ht hX; clear hS ht; have hS := hS2; clear hS2))
    replace hS : Sto E W1 W10 S 1073741824 3 V8 [⟨g, k1, zN, D, [], false, 0⟩] := hS
    have he := hS.errs.c 1 (by decide)
    simp only [gE] at he
    go_upto_region 23 with (first | (refine wpList_load_row rfl 26 _ rfl X rfl _ _ _ _ hX Tryd.underlying26 rfl (by rw [arr8_size]; kernel_rfl) ?_) | (go_at_call 17; refine (s_stat hS k1 (by simp) (find_one _ _ (is_self _)) rfl).mono ?_; rintro r Wx ⟨rfl, hS2, ht⟩; replace hX := id_stays hS ht hX; clear hS ht; have hS := hS2; clear hS2))
    replace hS : Sto E W1 Wx S 1073741824 3 V8 [⟨g, k1, zN, D, [], false, 0⟩] := hS
    go_upto_region 24 with (first | (refine wpList_build rfl 26 _ rfl #[(0, .int .u8 2)] (by kernel_rfl) (.agg (arr8 32 k2)) (fun w => by kernel_rfl) ?_) | (go_at_call 14; refine (s_putN hS k2 0 none 0 0 (by simp) (find_no _ _ (is_k12 _ rfl))).mono ?_; rintro r Wy ⟨rfl, hS2, ht⟩; replace hX := id_stays hS ht hX; clear hS ht; have hS := hS2; clear hS2))
    go_upto_region 25 with (first | (refine wpList_build rfl 26 _ rfl #[(0, .int .u8 2)] (by kernel_rfl) (.agg (arr8 32 k2)) (fun w => by kernel_rfl) ?_) | (go_at_call 17; refine (s_statN hS k2 (by simp) (find_no _ _ (is_k12 _ rfl))).mono ?_; rintro r Wa ⟨rfl, hS2, ht⟩; replace hX := id_stays hS ht hX; clear hS ht; have hS := hS2; clear hS2))
    refine wp_region_lit ?_
    try simp only [put_list, List.set_cons_zero, List.set_cons_succ]
    refine wpList_run (by kernel_rfl) (.bool true) (Wa) (exec_move rfl (by kernel_rfl)) ?_
    try simp only [put_list, List.set_cons_zero, List.set_cons_succ]
    refine wpList_run (by kernel_rfl) (.bool true) (Wa) (exec_move rfl (by kernel_rfl)) ?_
    try simp only [put_list, List.set_cons_zero, List.set_cons_succ]
    refine wpList_runG (by kernel_rfl) (errV (E 1)) (Wa) (exec_move rfl (by kernel_rfl)) ?_
    refine wpList_call (by kernel_rfl) 13 #[Go.Operand.tmp 122, Go.Operand.const (Go.Value.int Go.IntKind.i64 102)] #[33, 3] #[errV (E 1), Go.Value.int Go.IntKind.i64 102] _ rfl (by kernel_rfl) (by kernel_rfl) (is_yes E 1 (by decide) Wa hS.errs) ?_
    rintro r Wb ⟨rfl, hb⟩
    have hS2 := hS.below hb
    clear hS hb
    have hS := hS2
    clear hS2
    refine ⟨_, rfl, ?_⟩
    try simp only [put_list, List.set_cons_zero, List.set_cons_succ]
    refine wpList_run (by kernel_rfl) (.bool true) (Wb) (exec_pick (b := true) rfl (by kernel_rfl) (by kernel_rfl)) ?_
    try simp only [put_list, List.set_cons_zero, List.set_cons_succ]
    refine wpList_run (by kernel_rfl) (.bool true) (Wb) (exec_move rfl (by kernel_rfl)) ?_
    try simp only [put_list, List.set_cons_zero, List.set_cons_succ]
    refine wpList_runG (by kernel_rfl) (.int .i64 0) (Wb) (exec_move rfl (by kernel_rfl)) ?_
    try simp only [put_list, List.set_cons_zero, List.set_cons_succ]
    refine wpList_runG (by kernel_rfl) (.bool true) (Wb) (exec_bin (vx := .int .i64 0) (vy := Go.Value.int Go.IntKind.i64 0) rfl (by kernel_rfl) (by kernel_rfl)) ?_
    try simp only [put_list, List.set_cons_zero, List.set_cons_succ]
    refine wpList_run (by kernel_rfl) (.bool true) (Wb) (exec_pick (b := true) rfl (by kernel_rfl) (by kernel_rfl)) ?_
    try simp only [put_list, List.set_cons_zero, List.set_cons_succ]
    refine wpList_run (by kernel_rfl) (.bool true) (Wb) (exec_move rfl (by kernel_rfl)) ?_
    try simp only [put_list, List.set_cons_zero, List.set_cons_succ]
    refine wpList_runG (by kernel_rfl) (.bool false) (Wb) (exec_move rfl (by kernel_rfl)) ?_
    try simp only [put_list, List.set_cons_zero, List.set_cons_succ]
    refine wpList_runG (by kernel_rfl) (.bool true) (Wb) (exec_un (vx := .bool false) rfl (by kernel_rfl) (by kernel_rfl)) ?_
    try simp only [put_list, List.set_cons_zero, List.set_cons_succ]
    refine wpList_run (by kernel_rfl) (.bool true) (Wb) (exec_pick (b := true) rfl (by kernel_rfl) (by kernel_rfl)) ?_
    try simp only [put_list, List.set_cons_zero, List.set_cons_succ]
    refine wpList_run (by kernel_rfl) (.bool true) (Wb) (exec_move rfl (by kernel_rfl)) ?_
    try simp only [put_list, List.set_cons_zero, List.set_cons_succ]
    refine wpList_runG (by kernel_rfl) (.nilIface) (Wb) (exec_move rfl (by kernel_rfl)) ?_
    try simp only [put_list, List.set_cons_zero, List.set_cons_succ]
    refine wpList_runG (by kernel_rfl) (.bool true) (Wb) (exec_bin (vx := .nilIface) (vy := Go.Value.nilIface) rfl (by kernel_rfl) (by kernel_rfl)) ?_
    try simp only [put_list, List.set_cons_zero, List.set_cons_succ]
    refine wpList_run (by kernel_rfl) (.bool true) (Wb) (exec_pick (b := true) rfl (by kernel_rfl) (by kernel_rfl)) ?_
    try simp only [put_list, List.set_cons_zero, List.set_cons_succ]
    refine wpList_run (by kernel_rfl) (.bool true) (Wb) (exec_move rfl (by kernel_rfl)) ?_
    try simp only [put_list, List.set_cons_zero, List.set_cons_succ]
    refine wpList_runG (by kernel_rfl) (errV (E 13)) (Wb) (exec_move rfl (by kernel_rfl)) ?_
    refine wpList_call (by kernel_rfl) 13 #[Go.Operand.tmp 138, Go.Operand.const (Go.Value.int Go.IntKind.i64 114)] #[33, 3] #[errV (E 13), Go.Value.int Go.IntKind.i64 114] _ rfl (by kernel_rfl) (by kernel_rfl) (is_yes E 13 (by decide) Wb hS.errs) ?_
    rintro r Wc ⟨rfl, hb⟩
    have hS2 := hS.below hb
    clear hS hb
    have hS := hS2
    clear hS2
    refine ⟨_, rfl, ?_⟩
    try simp only [put_list, List.set_cons_zero, List.set_cons_succ]
    refine wpList_run (by kernel_rfl) (.bool true) (Wc) (exec_pick (b := true) rfl (by kernel_rfl) (by kernel_rfl)) ?_
    try simp only [put_list, List.set_cons_zero, List.set_cons_succ]
    refine wpList_run (by kernel_rfl) (.bool true) (Wc) (exec_move rfl (by kernel_rfl)) ?_
    try simp only [put_list, List.set_cons_zero, List.set_cons_succ]
    refine wpList_runG (by kernel_rfl) (errV (E 13)) (Wc) (exec_move rfl (by kernel_rfl)) ?_
    refine wpList_call (by kernel_rfl) 13 #[Go.Operand.tmp 142, Go.Operand.const (Go.Value.int Go.IntKind.i64 114)] #[33, 3] #[errV (E 13), Go.Value.int Go.IntKind.i64 114] _ rfl (by kernel_rfl) (by kernel_rfl) (is_yes E 13 (by decide) Wc hS.errs) ?_
    rintro r Wd ⟨rfl, hb⟩
    have hS2 := hS.below hb
    clear hS hb
    have hS := hS2
    clear hS2
    refine ⟨_, rfl, ?_⟩
    try simp only [put_list, List.set_cons_zero, List.set_cons_succ]
    refine wpList_run (by kernel_rfl) (.bool true) (Wd) (exec_pick (b := true) rfl (by kernel_rfl) (by kernel_rfl)) ?_
    try simp only [put_list, List.set_cons_zero, List.set_cons_succ]
    refine wpList_run (by kernel_rfl) (.bool true) (Wd) (exec_move rfl (by kernel_rfl)) ?_
    try simp only [put_list, List.set_cons_zero, List.set_cons_succ]
    refine wpList_runG (by kernel_rfl) (.pointer (some ⟨S, 0, none⟩)) (Wd) (exec_move rfl (by kernel_rfl)) ?_
    try simp only [put_list, List.set_cons_zero, List.set_cons_succ]
    refine wpList_runG (by kernel_rfl) (.agg (arr8 32 k2)) (Wd) (exec_build (vs := #[(0, Go.Value.int Go.IntKind.u8 2)]) rfl (by kernel_rfl) (by kernel_rfl)) ?_
    refine wpList_call (by kernel_rfl) 16 #[Go.Operand.tmp 146, Go.Operand.tmp 147] #[30, 26] #[.pointer (some ⟨S, 0, none⟩), .agg (arr8 32 k2)] _ rfl (by kernel_rfl) (by kernel_rfl) (s_commitN hS k2 (by simp) (find_no _ _ (is_k12 _ rfl))) ?_
    rintro r We ⟨rfl, hS2, _⟩
    clear hS
    have hS := hS2
    clear hS2
    refine ⟨_, rfl, ?_⟩
    refine wpList_call (by kernel_rfl) 13 #[Go.Operand.tmp 148, Go.Operand.const (Go.Value.int Go.IntKind.i64 114)] #[33, 3] #[errV (E 13), Go.Value.int Go.IntKind.i64 114] _ rfl (by kernel_rfl) (by kernel_rfl) (is_yes E 13 (by decide) We hS.errs) ?_
    rintro r Wf ⟨rfl, hb⟩
    have hS2 := hS.below hb
    clear hS hb
    have hS := hS2
    clear hS2
    refine ⟨_, rfl, ?_⟩
    try simp only [put_list, List.set_cons_zero, List.set_cons_succ]
    refine wpList_run (by kernel_rfl) (.bool true) (Wf) (exec_pick (b := true) rfl (by kernel_rfl) (by kernel_rfl)) ?_
    try simp only [put_list, List.set_cons_zero, List.set_cons_succ]
    refine wpList_run (by kernel_rfl) (.bool true) (Wf) (exec_move rfl (by kernel_rfl)) ?_
    try simp only [put_list, List.set_cons_zero, List.set_cons_succ]
    refine wpList_runG (by kernel_rfl) (.pointer (some ⟨S, 0, none⟩)) (Wf) (exec_move rfl (by kernel_rfl)) ?_
    refine wpList_call (by kernel_rfl) 20 #[Go.Operand.tmp 152] #[30] #[.pointer (some ⟨S, 0, none⟩)] _ rfl (by kernel_rfl) (by kernel_rfl) (used_one hS (by constructor <;> simp <;> omega)) ?_
    rintro r Y ⟨rfl, hY⟩
    obtain rfl := hY.symm
    clear hY
    refine ⟨_, rfl, ?_⟩
    try simp only [put_list, List.set_cons_zero, List.set_cons_succ]
    refine wpList_runG (by kernel_rfl) (.int .i64 zN) (Wf) (exec_move rfl (by kernel_rfl)) ?_
    try simp only [put_list, List.set_cons_zero, List.set_cons_succ]
    refine wpList_runG (by kernel_rfl) (.bool true) (Wf) (exec_bin (vx := .int .i64 zN) (vy := .int .i64 zN) rfl (by kernel_rfl) (eql_i _ _ _ _ _)) ?_
    try simp only [put_list, List.set_cons_zero, List.set_cons_succ]
    refine wpList_run (by kernel_rfl) (.bool true) (Wf) (exec_pick (b := true) rfl (by kernel_rfl) (by kernel_rfl)) ?_
    try simp only [put_list, List.set_cons_zero, List.set_cons_succ]
    refine wpList_run (by kernel_rfl) (.bool true) (Wf) (exec_assign rfl (by kernel_rfl)) ?_
    refine wpList_nil ?_
    simp only [put_list, List.set_cons_zero, List.set_cons_succ]
    go_wp2_with fail
    go_ret
    exact ⟨rfl, hb1.trans (hS.be.mono hb1.size)⟩
end Go.Proofs.YtegijahkiopncaaDoor
