import Derived.Test.YtffkjbbhbpaacaaDoorCb
/-
  Numbers, bools, bytes: what single operations yield.
-/
namespace Go.Proofs.YtffkjbbhbpaacaaDoor
open Go.RowKit

section
variable {P : Program} (t : TypeId) (x y : Operand) (w : World)
theorem lss_i64 (a b : Int) : (do eqGuard .lss t x y (.int .i64 a) (.int .i64 b); binOp .lss t (.int .i64 a) (.int .i64 b) : Sem Value).run P w = .ok (.bool (decide (a < b))) w := by simp [eqGuard, binOp, Op.intCmp]
theorem gtr_i64 (a b : Int) : (do eqGuard .gtr t x y (.int .i64 a) (.int .i64 b); binOp .gtr t (.int .i64 a) (.int .i64 b) : Sem Value).run P w = .ok (.bool (decide (b < a))) w := by simp [eqGuard, binOp, Op.intCmp]
theorem geq_i64 (a b : Int) : (do eqGuard .geq t x y (.int .i64 a) (.int .i64 b); binOp .geq t (.int .i64 a) (.int .i64 b) : Sem Value).run P w = .ok (.bool (decide (b ≤ a))) w := by simp [eqGuard, binOp, Op.intCmp]
theorem leq_i64 (a b : Int) : (do eqGuard .leq t x y (.int .i64 a) (.int .i64 b); binOp .leq t (.int .i64 a) (.int .i64 b) : Sem Value).run P w = .ok (.bool (decide (a ≤ b))) w := by simp [eqGuard, binOp, Op.intCmp]
theorem eql_int (k : IntKind) (a b : Int) (c : Bool) (h : decide (a = b) = c) : (do eqGuard .eql t x y (.int k a) (.int k b); binOp .eql t (.int k a) (.int k b) : Sem Value).run P w = .ok (.bool c) w := by
  subst h
  by_cases e : a = b <;> simp [eqGuard, binOp, Op.intCmp, e]
theorem neq_int (k : IntKind) (a b : Int) (c : Bool) (h : decide (a = b) = !c) : (do eqGuard .neq t x y (.int k a) (.int k b); binOp .neq t (.int k a) (.int k b) : Sem Value).run P w = .ok (.bool c) w := by
  obtain rfl : c = !decide (a = b) := by cases c <;> simp_all
  by_cases e : a = b <;> simp [eqGuard, binOp, Op.intCmp, e]
theorem add_int (a b c : Int) (h : a + b = c) (h1 : -9223372036854775808 ≤ c) (h2 : c ≤ 9223372036854775807) : (do eqGuard .add t x y (.int .i64 a) (.int .i64 b); binOp .add t (.int .i64 a) (.int .i64 b) : Sem Value).run P w = .ok (.int .i64 c) w := by
  have e : IntKind.i64.wrap (a + b) = c := by rw [h]; exact IntWalk.i64_in _ (by omega)
  simp [eqGuard, binOp, Op.intArith, e]
theorem sub_int (a b c : Int) (h : a - b = c) (h1 : -9223372036854775808 ≤ c) (h2 : c ≤ 9223372036854775807) : (do eqGuard .sub t x y (.int .i64 a) (.int .i64 b); binOp .sub t (.int .i64 a) (.int .i64 b) : Sem Value).run P w = .ok (.int .i64 c) w := by
  have e : IntKind.i64.wrap (a - b) = c := by rw [h]; exact IntWalk.i64_in _ (by omega)
  simp [eqGuard, binOp, Op.intArith, e]
theorem mul_int (a b c : Int) (h : a * b = c) (h1 : -9223372036854775808 ≤ c) (h2 : c ≤ 9223372036854775807) : (do eqGuard .mul t x y (.int .i64 a) (.int .i64 b); binOp .mul t (.int .i64 a) (.int .i64 b) : Sem Value).run P w = .ok (.int .i64 c) w := by
  have e : IntKind.i64.wrap (a * b) = c := by rw [h]; exact IntWalk.i64_in _ (by omega)
  simp [eqGuard, binOp, Op.intArith, e]
end
section
variable (b o : Nat) (w : World)
theorem load_i64 (v : Value) (h : w.cell? ⟨b, o, none⟩ = some v) : (Instr.loadAt 3 (.pointer (some ⟨b, o, none⟩))).run Tryd.prog w = .ok v w := by
  have h2 := Tryd.underlying3
  go_simp
theorem load_u8 (v : Value) (h : w.cell? ⟨b, o, none⟩ = some v) : (Instr.loadAt 5 (.pointer (some ⟨b, o, none⟩))).run Tryd.prog w = .ok v w := by
  have h2 := Tryd.underlying5
  go_simp
theorem load_bool (v : Value) (h : w.cell? ⟨b, o, none⟩ = some v) : (Instr.loadAt 4 (.pointer (some ⟨b, o, none⟩))).run Tryd.prog w = .ok v w := by
  have h2 := Tryd.underlying4
  go_simp
theorem load_err (v : Value) (h : w.cell? ⟨b, o, none⟩ = some v) : (Instr.loadAt 80 (.pointer (some ⟨b, o, none⟩))).run Tryd.prog w = .ok v w := by
  have h2 := Tryd.underlying80
  go_simp
theorem load_slice (t : TypeId) (ha : ∀ w, (isAgg t).run Tryd.prog w = .ok false w) (v : Value) (h : w.cell? ⟨b, o, none⟩ = some v) : (Instr.loadAt t (.pointer (some ⟨b, o, none⟩))).run Tryd.prog w = .ok v w := by
  have h2 := ha
  go_simp
variable {u : Value} (h : w.cell? ⟨b, o, none⟩ = some u) (hf : w.frozen? ⟨b, o, none⟩ = false)
include h hf
theorem store_i64 (x : Int) : (Instr.storeAt 3 (.pointer (some ⟨b, o, none⟩)) (.int .i64 x)).run Tryd.prog w = .ok () (w.setCell ⟨b, o, none⟩ (.int .i64 x)) := by
  have h2 := Tryd.underlying3
  go_simp
theorem store_bool (x : Bool) : (Instr.storeAt 4 (.pointer (some ⟨b, o, none⟩)) (.bool x)).run Tryd.prog w = .ok () (w.setCell ⟨b, o, none⟩ (.bool x)) := by
  have h2 := Tryd.underlying4
  go_simp
theorem store_u8 (x : UInt8) : (Instr.storeAt 5 (.pointer (some ⟨b, o, none⟩)) (cellB x)).run Tryd.prog w = .ok () (w.setCell ⟨b, o, none⟩ (cellB x)) := by
  have h2 := Tryd.underlying5
  unfold cellB
  go_simp
theorem store_slice (t : TypeId) (ha : ∀ w, (sizeOf t).run Tryd.prog w = .ok 1 w) (A : Option Addr) (n c : Nat) : (Instr.storeAt t (.pointer (some ⟨b, o, none⟩)) (.slice A n c)).run Tryd.prog w = .ok () (w.setCell ⟨b, o, none⟩ (.slice A n c)) := by
  have h2 := ha
  go_simp
end
theorem idx_slice (t e : TypeId) (s : Nat) (ht : Tryd.prog.underlying t = some (.slice e)) (hs : ∀ w, (sizeOf e).run Tryd.prog w = .ok s w) (b o n c i : Nat) (hi : i < n) (w : World) : (Instr.indexAt t (.slice (some ⟨b, o, none⟩) n c) (.int .i64 (i : Int))).run Tryd.prog w = .ok (.pointer (some ⟨b, o + i * s, none⟩)) w := by
  have e2 : Tryd.prog.elem t = e := by simp [Program.elem, ht]
  rw [run_indexAt_slice (h := by rw [e2]; exact ht), if_pos (by omega)]
  simp only [e2, hs, Result.andThen, Int.toNat_natCast, Addr.add_lit]
theorem len_slice (t e ty : TypeId) (ht : Tryd.prog.underlying t = some (.slice e)) (A : Option Addr) (n c : Nat) (w : World) : (Builtin.len_ #[t] ty #[.slice A n c]).run Tryd.prog w = .ok (.int .i64 (n : Int)) w := by
  have h2 := ht
  go_simp
set_option maxRecDepth 100000 in
theorem cvt_u8 (x : Int) (w : World) : (convert 3 5 (.int .i64 x)).run Tryd.prog w = .ok (cellB (UInt8.ofNat (x % 256).toNat)) w := by
  have hb : 0 ≤ x % 256 ∧ x % 256 < 256 := ⟨Int.emod_nonneg _ (by omega), Int.emod_lt_of_pos _ (by omega)⟩
  have e : cellB (UInt8.ofNat (x % 256).toNat) = .int .u8 (IntKind.u8.wrap x) := by
    unfold cellB
    rw [IntKind.wrap_u8, UInt8.toNat_ofNat']
    congr 1
    omega
  rw [e]
  have h1 := Tryd.underlying3
  have h2 := Tryd.underlying5
  simp [convert, run_underlying h1, run_underlying h2, Conv.intToInt]
end Go.Proofs.YtffkjbbhbpaacaaDoor
