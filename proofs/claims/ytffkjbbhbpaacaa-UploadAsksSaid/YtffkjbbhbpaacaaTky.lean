import Derived.Test.YtffkjbbhbpaacaaFil
import Derived.Test.YtffkjbbhbpaacaaIdx
namespace Go.Proofs.Ytffkjbbhbpaacaa
open Go.RowKit
theorem cvt_u64 (x : Nat) (h : x < 18446744073709551616) (w : World) : (convert 3 43 (.int .i64 x)).run Try.prog w = .ok (.int .u64 x) w := by
  have h1 := Try.underlying3
  have h2 := Try.underlying43
  have hw : IntKind.u64.wrap (x : Int) = (x : Int) := by rw [IntKind.wrap_u64]; omega
  simp [convert, run_underlying h1, run_underlying h2, Conv.intToInt, hw]

section
variable {P : Program} {ops : Array Oper} {l : List Sp} {a : Act} {w : World}
theorem owes_bin_o (i : Nat) (dst : Option Tmp) (anc : List Nat) (says : Value → World → Prop) (op : BinOp) (t : TypeId) (x y : Operand) (u : TypeId) (hop : ∀ v, ops[i]?.map (fun o => (o.op, Region.wanted o (yielded ops (fr l anc a v).tmps))) = some (.binOp op t x y u, true))
    (hm : ∀ y w1 w2, says y w1 → Cells w1 w2 → says y w2)
    (h : ∀ v w', Below w.heap.size w w' → Opens l anc v w' → ∃ vx vy r, (fr l anc a v).eval x = vx ∧ (fr l anc a v).eval y = vy ∧ (∀ w, (do eqGuard op t x y vx vy; binOp op t vx vy : Sem Value).run P w = .ok r w) ∧ ∀ w, says r w) : Owes P ops l a w (Sp.o i dst anc says) :=
  owes_pure_o i dst anc says _ hop hm fun v w' hb ho => by
    obtain ⟨vx, vy, r, h1, h2, h3, h4⟩ := h v w' hb ho
    refine ⟨r, w', fun o ho => ?_, Below.refl _ _, Cells.refl _, h4 w'⟩
    have := h3 w'
    unfold execOp
    simp only [ho, h1, h2]
    rw [Sem.run_bind, this]
    rfl
theorem owes_cvt_o (i : Nat) (dst : Option Tmp) (anc : List Nat) (says : Value → World → Prop) (t u : TypeId) (x : Operand) (hop : ∀ v, ops[i]?.map (fun o => (o.op, Region.wanted o (yielded ops (fr l anc a v).tmps))) = some (.convert t u x, true))
    (hm : ∀ y w1 w2, says y w1 → Cells w1 w2 → says y w2)
    (h : ∀ v w', Below w.heap.size w w' → Opens l anc v w' → ∃ vx r, (fr l anc a v).eval x = vx ∧ (∀ w, (convert t u vx).run P w = .ok r w) ∧ ∀ w, says r w) : Owes P ops l a w (Sp.o i dst anc says) :=
  owes_pure_o i dst anc says _ hop hm fun v w' hb ho => by
    obtain ⟨vx, r, h1, h3, h4⟩ := h v w' hb ho
    refine ⟨r, w', fun o ho => ?_, Below.refl _ _, Cells.refl _, h4 w'⟩
    unfold execOp
    simp only [ho, h1, Sem.run_bind, h3 w']
    rfl
end
def IsU8 (v : Value) (_ : World) : Prop := ∃ x, v = v8 x
def IsI64 (v : Value) (_ : World) : Prop := ∃ x : Int, v = .int .i64 x
theorem wrap_v8 (z : Int) {w : World} : IsU8 (.int .u8 (IntKind.u8.wrap z)) w := by
  refine ⟨BitVec.ofInt 8 z, ?_⟩
  have h := BitVec.toNat_ofInt (n := 8) z
  unfold v8
  have : n8 (BitVec.ofInt 8 z) = IntKind.u8.wrap z := by
    unfold n8
    rw [IntKind.wrap_u8]
    show (((BitVec.ofInt 8 z).toNat : Nat) : Int) = _
    rw [h]
    omega
  rw [this]
def SomeKey (w : World) (e : Ending) (w' : World) : Prop := ∃ f : Nat → BitVec 8, e = .returned (.agg (arr8 32 f)) ∧ Below w.heap.size w w'
theorem shr_i64 (t : TypeId) (x y : Operand) (n : Int) (c : Nat) (w : World) : (do eqGuard .shr t x y (.int .i64 n) (.int .u64 (c : Int)); binOp .shr t (.int .i64 n) (.int .u64 (c : Int)) : Sem Value).run Try.prog w = .ok (.int .i64 (n.fdiv (2 ^ min c 64))) w := by
  have h0 : ¬ ((c : Int) < 0) := by omega
  simp [eqGuard, binOp, Op.shift, h0, IntKind.bits]
theorem cvt_i64_u8 (x : Int) (w : World) : (convert 3 5 (.int .i64 x)).run Try.prog w = .ok (.int .u8 (IntKind.u8.wrap x)) w := by
  have h1 := Try.underlying3
  have h2 := Try.underlying5
  simp [convert, run_underlying h1, run_underlying h2, Conv.intToInt]
theorem add_u8 (t : TypeId) (x y : Operand) (a b : BitVec 8) (w : World) : (do eqGuard .add t x y (v8 a) (v8 b); binOp .add t (v8 a) (v8 b) : Sem Value).run Try.prog w = .ok (.int .u8 (IntKind.u8.wrap (n8 a + n8 b))) w := by
  simp [eqGuard, binOp, Op.intArith]
theorem mul_i64 (t : TypeId) (x y : Operand) (a b c : Int) (h : a * b = c) (h1 : -9223372036854775808 ≤ c) (h2 : c ≤ 9223372036854775807) (w : World) : (do eqGuard .mul t x y (.int .i64 a) (.int .i64 b); binOp .mul t (.int .i64 a) (.int .i64 b) : Sem Value).run Try.prog w = .ok (.int .i64 c) w := by
  have hw : IntKind.i64.wrap (a * b) = c := by rw [h]; exact IntWalk.i64_in _ (by omega)
  simp [eqGuard, binOp, Op.intArith, hw]
theorem rem_i64 (t : TypeId) (x y : Operand) (a b : Nat) (hb : 0 < b) (h2 : a ≤ 9223372036854775807) (w : World) : (do eqGuard .rem t x y (.int .i64 (a : Int)) (.int .i64 (b : Int)); binOp .rem t (.int .i64 (a : Int)) (.int .i64 (b : Int)) : Sem Value).run Try.prog w = .ok (.int .i64 ((a % b : Nat) : Int)) w := by
  have hm : ((a : Int).tmod (b : Int)) = ((a % b : Nat) : Int) := by rw [Int.tmod_eq_emod_of_nonneg (by omega)]; simp
  have hl : a % b ≤ a := Nat.mod_le _ _
  have hw : IntKind.i64.wrap (((a % b : Nat) : Int)) = ((a % b : Nat) : Int) := IntWalk.i64_in _ (by omega)
  have hb1 : ¬ b = 0 := by omega
  simp [eqGuard, binOp, Op.intDiv, hb1, hm]
  try exact hw

set_option maxRecDepth 100000 in
set_option maxHeartbeats 800000 in
theorem key_any (n : Int) (w : World) :
    Calls Try.prog 7 #[.int .i64 n] w (SomeKey w) := by
  have z32 : ∀ i, i < 32 → (Array.replicate 32 (Value.int IntKind.u8 0))[i]? = some (v8 0#8) := fun i hi => by simp [hi]; rfl
  go_enter Try.func7, Try.ntmps7
  go_upto_region 2 with (fail)
  refine wp_world (fun W => Below w.heap.size w W ∧ W.rowIs w.heap.size 33 32 (fun _ => v8 0#8) ∧ W.rowIs (w.heap.size + 1) 33 32 (fun _ => v8 0#8)) ?_ ?_
  · refine ⟨by go_grown, ?_, ?_⟩
    · exact (rowIs_new w (Array.replicate 32 (.int .u8 0)) 33 w.heap.size 32 (fun _ => v8 0#8) rfl (by simp) z32).alloc _
    · exact rowIs_new (w.alloc _) (Array.replicate 32 (.int .u8 0)) 33 (w.heap.size + 1) 32 (fun _ => v8 0#8) (by simp) (by simp) z32
  rintro W ⟨hb, h2, h3⟩
  clear z32
  generalize hB : w.heap.size = B at *
  have HB := Lib.hid hB; clear hB
  obtain ⟨X, hX⟩ : ∃ X, X = B + 1 := ⟨_, rfl⟩
  rw [← hX] at h3 ⊢
  have hXB : B < X := by omega
  have HX := Lib.hid hX; clear hX
  go_wp2_with fail
  go_loopw [4] (fun i wr => ∃ (k : Nat) (f : Nat → BitVec 8), k ≤ 32 ∧ i = .int .i64 k ∧ Below B w wr ∧ wr.rowIs B 33 32 (fun _ => v8 0#8) ∧ wr.rowIs X 33 32 (fun i => v8 (f i))) (fun i _ => 32 - (intOf i).toNat)
  case atStart => exact ⟨0, fun _ => 0#8, by omega, rfl, hb, h2, h3⟩
  clear hb h2 h3
  case round =>
    obtain ⟨k, f, hk, rfl, hb, h2, h3⟩ := hrel
    by_cases hlt : k < 32
    · have hk0 : (k : Int) < 32 := by omega
      go_upto_region 5 with (fail)
      refine wp_region_text_tail 13 [Sp.k 0 (some 9) [] (.int .i64 k),
        Sp.k 1 (some 10) [] (.int .i64 n),
        Sp.k 2 (some 11) [] (.int .i64 k),
        Sp.k 3 (some 12) [2] (.int .i64 ((k % 8 : Nat) : Int)),
        Sp.k 4 (some 13) [3] (.int .i64 ((k % 8 * 4 : Nat) : Int)),
        Sp.k 5 (some 14) [4] (.int .u64 ((k % 8 * 4 : Nat) : Int)),
        Sp.o 6 (some 15) [1, 5] IsI64,
        Sp.o 7 (some 16) [6] IsU8,
        Sp.k 8 (some 17) [] (.int .i64 k),
        Sp.k 9 (some 18) [8] (.int .i64 ((17 * k : Nat) : Int)),
        Sp.o 10 (some 19) [9] IsU8,
        Sp.o 11 (some 20) [7, 10] IsU8,
        Sp.k 12 (some 21) [0] (.pointer (some ⟨X, k, none⟩))] (by kernel_rfl)
        ⟨owes_move 0 (some 9) [] (.int .i64 k) (Go.Operand.tmp 4) (fun v => by kernel_rfl) (fun v => by kernel_rfl),
        owes_move 1 (some 10) [] (.int .i64 n) (Go.Operand.tmp 0) (fun v => by kernel_rfl) (fun v => by kernel_rfl),
        owes_move 2 (some 11) [] (.int .i64 k) (Go.Operand.tmp 4) (fun v => by kernel_rfl) (fun v => by kernel_rfl),
        owes_bin 3 (some 12) [2] (.int .i64 ((k % 8 : Nat) : Int)) Go.BinOp.rem 3 (Go.Operand.tmp 11) (Go.Operand.const (Go.Value.int Go.IntKind.i64 8)) 3 (.int .i64 k) (Go.Value.int Go.IntKind.i64 8) (fun v => by kernel_rfl) (fun v => by kernel_rfl) (rem_i64 _ _ _ k 8 (by omega) (by omega)),
        owes_bin 4 (some 13) [3] (.int .i64 ((k % 8 * 4 : Nat) : Int)) Go.BinOp.mul 3 (Go.Operand.tmp 12) (Go.Operand.const (Go.Value.int Go.IntKind.i64 4)) 3 (.int .i64 ((k % 8 : Nat) : Int)) (Go.Value.int Go.IntKind.i64 4) (fun v => by kernel_rfl) (fun v => by kernel_rfl) (mul_i64 _ _ _ _ _ _ (by omega) (by omega) (by omega)),
        owes_cvt 5 (some 14) [4] (.int .u64 ((k % 8 * 4 : Nat) : Int)) 3 43 (Go.Operand.tmp 13) (.int .i64 ((k % 8 * 4 : Nat) : Int)) (fun v => by kernel_rfl) (fun v => by kernel_rfl) (cvt_u64 _ (by omega)),
        owes_bin_o 6 (some 15) [1, 5] IsI64 .shr 3 (.tmp 10) (.tmp 14) 43 (fun v => by kernel_rfl) (fun _ _ _ h _ => h) (fun v w' hb ho => by
            skip
            exact ⟨.int .i64 n, .int .u64 ((k % 8 * 4 : Nat) : Int), _, by kernel_rfl, by kernel_rfl, shr_i64 _ _ _ _ _, fun _ => ⟨_, rfl⟩⟩),
        owes_cvt_o 7 (some 16) [6] IsU8 3 5 (.tmp 15) (fun v => by kernel_rfl) (fun _ _ _ h _ => h) (fun v w' hb ho => by
            obtain ⟨x6, e6⟩ := ho.get 6 _ _ IsI64 rfl rfl
            exact ⟨.int .i64 x6, _, Eq.trans (b := v 6) (by kernel_rfl) e6, cvt_i64_u8 _, fun _ => wrap_v8 _⟩),
        owes_move 8 (some 17) [] (.int .i64 k) (Go.Operand.tmp 4) (fun v => by kernel_rfl) (fun v => by kernel_rfl),
        owes_bin 9 (some 18) [8] (.int .i64 ((17 * k : Nat) : Int)) Go.BinOp.mul 3 (Go.Operand.const (Go.Value.int Go.IntKind.i64 17)) (Go.Operand.tmp 17) 3 (Go.Value.int Go.IntKind.i64 17) (.int .i64 k) (fun v => by kernel_rfl) (fun v => by kernel_rfl) (mul_i64 _ _ _ _ _ _ (by omega) (by omega) (by omega)),
        owes_cvt_o 10 (some 19) [9] IsU8 3 5 (.tmp 18) (fun v => by kernel_rfl) (fun _ _ _ h _ => h) (fun v w' hb ho => by
            skip
            exact ⟨.int .i64 ((17 * k : Nat) : Int), _, by kernel_rfl, cvt_i64_u8 _, fun _ => wrap_v8 _⟩),
        owes_bin_o 11 (some 20) [7, 10] IsU8 .add 5 (.tmp 16) (.tmp 19) 5 (fun v => by kernel_rfl) (fun _ _ _ h _ => h) (fun v w' hb ho => by
            obtain ⟨x7, e7⟩ := ho.get 7 _ _ IsU8 rfl rfl
            obtain ⟨x10, e10⟩ := ho.get 10 _ _ IsU8 rfl rfl
            exact ⟨v8 x7, v8 x10, _, Eq.trans (b := v 7) (by kernel_rfl) e7, Eq.trans (b := v 10) (by kernel_rfl) e10, add_u8 _ _ _ _ _, fun _ => wrap_v8 _⟩),
        owes_index 12 (some 21) [0] (.pointer (some ⟨X, k, none⟩)) 33 (Go.Operand.tmp 3) (Go.Operand.tmp 9) (.pointer (some ⟨X, 0, none⟩)) (.int .i64 k) (fun v => by kernel_rfl) (fun v => by kernel_rfl) (idx_arr (P := Try.prog) 32 Try.underlying33 (show (Try.prog.info? 5).map (·.size) = some 1 by kernel_rfl) X k hlt), trivial⟩ ?_
      intro v w' hb' hall
      obtain ⟨x, e11⟩ := hall.open_ 11 _ _ IsU8 rfl
      clear hall
      simp only [putsL_k, putsL_o, putsL_nil, List.set_cons_zero, List.set_cons_succ]
      simp only [List.drop_succ_cons, List.drop_zero]
      rw [e11]
      have h2' := h2.of_block (hb'.block _ h2.lt)
      have h3' := h3.of_block (hb'.block _ h3.lt)
      have hbb := hb.trans (hb'.mono (show B ≤ wr.heap.size by have := h2.lt; omega))
      clear hb hb' h2 h3 e11
      have c1 := h3'.cell (i := k) hlt
      have f1 := h3'.frozen k
      go_wp2_with fail
      go_roundw
      case rel =>
        refine ⟨k + 1, fun i => if i = k then x else f i, by omega, by go_num, hbb.setCell (show B ≤ X by omega) _, h2'.setOther (show B ≠ X by omega) _, ?_⟩
        exact (h3'.set k _).congr fun j _ => by show (if j = k then v8 x else v8 (f j)) = v8 (if j = k then x else f j); split <;> rfl
      case measure => simp [intOf]; omega
    · have hk32 : k = 32 := by omega
      subst hk32
      have hdk : decide (((32 : Nat) : Int) < 32) = false := by decide
      have hh3 := rowIs_heap8 h3
      obtain ⟨o2, hx1, hx2, _⟩ := h2
      have hbs := below_setRow (g := B) hb (Nat.le_refl _) (arr8 32 f)
      clear hb h3
      go_wp2_with (first | (refine wpList_load_row rfl 33 (.tmp 3) rfl X rfl _ _ _ _ hh3 Try.underlying33 rfl (by kernel_rfl) ?_) | (refine wpList_store_row rfl 33 _ _ rfl B (arr8 32 f) rfl rfl _ _ hx1 (by kernel_rfl) (by simpa using hx2) (arr8_one _ _) ?_))
      refine bodyPost_ret (results_cell_row rfl _ _ _ _ _ _ _ rfl (setRow_heap _ _ _ _ _ _ hx1) Try.underlying33 rfl (by kernel_rfl)) rfl ?_
      exact ⟨f, rfl, by rw [HB.out]; exact hbs⟩
end Go.Proofs.Ytffkjbbhbpaacaa
