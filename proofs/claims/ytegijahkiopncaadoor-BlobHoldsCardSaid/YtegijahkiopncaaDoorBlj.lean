import Derived.Test.YtegijahkiopncaaDoorBli
import Derived.Test.YtegijahkiopncaaDoorNum
/-
  courierlaw20.first; BlobErrors.
-/
namespace Go.Proofs.YtegijahkiopncaaDoor
open Go.RowKit
def k0 : Nat → BitVec 8 := fun _ => 0#8
def k1 : Nat → BitVec 8 := fun i => if i = 0 then 1#8 else 0#8
def k2 : Nat → BitVec 8 := fun i => if i = 0 then 2#8 else 0#8
theorem few_nil : Few [] := ⟨by decide, fun i e h => by simp at h⟩
theorem few_one {e : Be} (h : 0 ≤ e.n ∧ e.n ≤ 30000) : Few [e] := ⟨by simp, fun i x hx => by
  rcases i with _ | i
  · obtain rfl := Option.some.inj hx
    exact h
  · simp at hx⟩
theorem is_yes (E : Nat → Addr) (i : Nat) (hi : i < 19) (W : World) (hE : ErrsAt E W) : Calls Tryd.prog 13 #[errV (E i), .int .i64 (101 + (i : Int))] W fun r w' => r = .returned (.bool true) ∧ Below W.heap.size W w' := by
  refine (is_any E (errV (E i)) (101 + (i : Int)) (101 + (i : Int)) (.inr ⟨i, hi, rfl, rfl⟩) W hE).mono ?_
  rintro r w' ⟨rfl, h⟩
  exact ⟨by simp, h⟩
theorem idl_ne {f k : Nat → BitVec 8} {i : Nat} (hi : i < 32) (h : f i ≠ k i) : (idl f == idl k) = false := by
  rw [beq_eq_false_iff_ne]
  intro e
  have : (idl f)[i]? = (idl k)[i]? := by rw [e]
  simp [idl, hi] at this
  exact h this
theorem is_self (e : Be) : Be.is e.f e = true := by simp [Be.is]
theorem is_k12 (e : Be) (h : e.f = k1) : Be.is k2 e = false := by
  unfold Be.is
  rw [h]
  exact idl_ne (i := 0) (by decide) (by decide)
theorem find_one (e : Be) (k : Nat → BitVec 8) (h : Be.is k e = true) : [e].findIdx? (Be.is k) = some 0 := by simp [List.findIdx?_cons, h]
theorem find_no (e : Be) (k : Nat → BitVec 8) (h : Be.is k e = false) : [e].findIdx? (Be.is k) = none := by simp [List.findIdx?_cons, h]
theorem sum_nil : sumN [] = 0 := rfl
theorem sum_one (e : Be) : sumN [e] = e.n := by simp [sumN]
theorem arr8_all {n : Nat} {f : Nat → BitVec 8} : (arr8 n f).all (·.oneCell') = true := by simp [arr8, v8, Value.oneCell']
theorem neg_i (a : Int) (h1 : -9223372036854775808 ≤ -a) (h2 : -a ≤ 9223372036854775807) (w : World) : (Op.unary .neg (.int .i64 a)).run Tryd.prog w = .ok (.int .i64 (-a)) w := by
  have hw : IntKind.i64.wrap (-a) = -a := IntWalk.i64_in _ (by omega)
  simp [Op.unary, Op.intArith, hw]
theorem eql_i (t : TypeId) (x y : Operand) (a : Int) (w : World) : (do eqGuard .eql t x y (.int .i64 a) (.int .i64 a); binOp .eql t (.int .i64 a) (.int .i64 a) : Sem Value).run Tryd.prog w = .ok (.bool true) w := by
  simp [eqGuard, binOp, Op.intCmp]
theorem exec_ext0 {P : Program} {a : Act} {o : Oper} {x : Operand} {v u : Value} {w : World} (ho : o.op = .extract x 0) (hx : a.eval x = .tuple #[v, u]) : (execOp a.eval o).run P w = .ok (.value v) w := by
  unfold execOp
  simp [ho, hx, Instr.extract]
theorem exec_ext1 {P : Program} {a : Act} {o : Oper} {x : Operand} {v u : Value} {w : World} (ho : o.op = .extract x 1) (hx : a.eval x = .tuple #[v, u]) : (execOp a.eval o).run P w = .ok (.value u) w := by
  unfold execOp
  simp [ho, hx, Instr.extract]
theorem Sto.drewN {E : Nat → Addr} {w0 W : World} {S : Nat} {q l : Int} {V : Value} {es : List Be} (h : Sto E w0 W S q l V es) (m : Nat) : Sto E w0 (W.drewN m) S q l V es := h.keep (below_drewN h.be m) (fun _ _ => rfl)
theorem Sto.drew {E : Nat → Addr} {w0 W : World} {S : Nat} {q l : Int} {V : Value} {es : List Be} (h : Sto E w0 W S q l V es) : Sto E w0 W.drew S q l V es := h.keep h.be.drew (fun _ _ => rfl)
theorem used_one {E : Nat → Addr} {w0 W : World} {S : Nat} {q l : Int} {V : Value} {e : Be} (h : Sto E w0 W S q l V [e]) (hn : 0 ≤ e.n ∧ e.n ≤ 30000) : Calls Tryd.prog 20 #[.pointer (some ⟨S, 0, none⟩)] W fun r W' => r = .returned (.int .i64 e.n) ∧ W' = W := by
  have := s_used h (by simp) (few_one hn)
  rwa [sum_one] at this
set_option maxRecDepth 100000 in
set_option maxHeartbeats 1600000 in
theorem first_b (E : Nat → Addr) (w : World) (hE : ErrsAt E w) : Calls Tryd.prog 8 #[] w fun e w' => e = .returned (.bool true) ∧ Below w.heap.size w w' := by
  obtain ⟨S, hSe⟩ : ∃ S, S = w.heap.size := ⟨_, rfl⟩
  have HS := Lib.hid hSe
  have hnew := s_new (q := 100) (l := 5) hE (by decide)
  rw [← hSe] at hnew
  clear hSe hE
  go_enter Tryd.func8, Tryd.ntmps8
  go_upto_region 4 with (go_at_call 11; refine hnew.mono ?_; rintro r W1 ⟨rfl, hS1⟩)
  have hget := s_getN hS1 k0 0 1 (by decide) rfl
  clear hS1 hnew
  go_upto_region 5 with (first | (refine wpList_build rfl 26 _ rfl #[] (by kernel_rfl) (.agg (arr8 32 k0)) (fun w => by kernel_rfl) ?_) | (go_at_call 15; refine hget.mono ?_; rintro r W2 ⟨rfl, hS, _⟩; clear hget))
  refine wp_region_lit ?_
  try simp only [put_list, List.set_cons_zero, List.set_cons_succ]
  refine wpList_run (by kernel_rfl) (errV (E 13)) (W2) (exec_move rfl (by kernel_rfl)) ?_
  refine wpList_call (by kernel_rfl) 13 #[Go.Operand.tmp 13, Go.Operand.const (Go.Value.int Go.IntKind.i64 114)] #[33, 3] #[errV (E 13), Go.Value.int Go.IntKind.i64 114] _ rfl (by kernel_rfl) (by kernel_rfl) (is_yes E 13 (by decide) W2 hS.errs) ?_
  rintro r W3 ⟨rfl, hb3⟩
  have hS3 := hS.below hb3
  clear hS
  refine ⟨_, rfl, ?_⟩
  try simp only [put_list, List.set_cons_zero, List.set_cons_succ]
  refine wpList_run (by kernel_rfl) (.bool true) (W3) (exec_move rfl (by kernel_rfl)) ?_
  try simp only [put_list, List.set_cons_zero, List.set_cons_succ]
  refine wpList_runG (by kernel_rfl) (.pointer (some ⟨S, 0, none⟩)) (W3) (exec_move rfl (by kernel_rfl)) ?_
  try simp only [put_list, List.set_cons_zero, List.set_cons_succ]
  refine wpList_runG (by kernel_rfl) (.agg (arr8 32 k1)) (W3) (exec_build (vs := #[(0, Go.Value.int Go.IntKind.u8 1)]) rfl (by kernel_rfl) (by kernel_rfl)) ?_
  refine wpList_call (by kernel_rfl) 12 #[Go.Operand.tmp 16, Go.Operand.tmp 17, Go.Operand.const (Go.Value.int Go.IntKind.i64 50)] #[30, 26, 3] #[.pointer (some ⟨S, 0, none⟩), .agg (arr8 32 k1), Go.Value.int Go.IntKind.i64 50] _ rfl (by kernel_rfl) (by kernel_rfl) (s_ok hS3 k1 50 (by decide) (by decide) (by decide) few_nil rfl (by decide)) ?_
  rintro r W4 ⟨rfl, V4, g4, hg4, hS4, _, _⟩
  clear hS3
  refine ⟨_, rfl, ?_⟩
  try simp only [put_list, List.set_cons_zero, List.set_cons_succ]
  refine wpList_runG (by kernel_rfl) (.bool true) (W4) (exec_bin (vx := .nilIface) (vy := Go.Value.nilIface) rfl (by kernel_rfl) (by kernel_rfl)) ?_
  try simp only [put_list, List.set_cons_zero, List.set_cons_succ]
  refine wpList_run (by kernel_rfl) (.bool true) (W4) (exec_pick (b := true) rfl (by kernel_rfl) (by kernel_rfl)) ?_
  try simp only [put_list, List.set_cons_zero, List.set_cons_succ]
  refine wpList_run (by kernel_rfl) (.bool true) (W4) (exec_move rfl (by kernel_rfl)) ?_
  try simp only [put_list, List.set_cons_zero, List.set_cons_succ]
  refine wpList_runG (by kernel_rfl) (.pointer (some ⟨S, 0, none⟩)) (W4) (exec_move rfl (by kernel_rfl)) ?_
  refine wpList_call (by kernel_rfl) 20 #[Go.Operand.tmp 22] #[30] #[.pointer (some ⟨S, 0, none⟩)] _ rfl (by kernel_rfl) (by kernel_rfl) (s_used hS4 (by simp) (few_one (by simp))) ?_
  rintro r Y ⟨rfl, hY⟩
  obtain rfl := hY.symm
  clear hY
  refine ⟨_, rfl, ?_⟩
  try simp only [put_list, List.set_cons_zero, List.set_cons_succ]
  refine wpList_runG (by kernel_rfl) (.bool true) (W4) (exec_bin (vx := .int .i64 50) (vy := Go.Value.int Go.IntKind.i64 50) rfl (by kernel_rfl) (by kernel_rfl)) ?_
  try simp only [put_list, List.set_cons_zero, List.set_cons_succ]
  refine wpList_run (by kernel_rfl) (.bool true) (W4) (exec_pick (b := true) rfl (by kernel_rfl) (by kernel_rfl)) ?_
  try simp only [put_list, List.set_cons_zero, List.set_cons_succ]
  refine wpList_run (by kernel_rfl) (.bool true) (W4) (exec_assign rfl (by kernel_rfl)) ?_
  refine wpList_nil ?_
  simp only [put_list, List.set_cons_zero]
  go_wp2_with fail
  go_ret
  exact ⟨rfl, hS4.be⟩
end Go.Proofs.YtegijahkiopncaaDoor
