/-
  Addresses of elements, and what stands there.
-/
import Derived.Test.YtffkjbbhbpaacaaDoorRsq
import Derived.Test.YtffkjbbhbpaacaaDoorSlB
import Derived.IntWalk
namespace Go.Proofs.YtffkjbbhbpaacaaDoor
open Go.RowKit
section
variable {P : Program} {t e : TypeId}
theorem idx_arr (n : Nat) (hu : P.underlying t = some (.array n e)) (hs : (P.info? e).map (·.size) = some 1) (b k : Nat) (h : k < n) (w : World) :
    (Instr.indexAt t (.pointer (some ⟨b, 0, none⟩)) (.int .i64 k)).run P w = .ok (.pointer (some ⟨b, k, none⟩)) w := by
  have e1 : P.arrayLen t = n := by simp [Program.arrayLen, hu]
  have e2 : P.elem t = e := by simp [Program.elem, hu]
  obtain ⟨i, hi, hz⟩ := Option.map_eq_some_iff.1 hs
  rw [run_indexAt_array (h := by rw [e1, e2]; exact hu)]
  simp [e1, e2, sizeOf, typeInfo, hi, hz, Result.andThen, h, Addr.add]
  intro hk; omega
theorem idx_sl (hu : P.underlying t = some (.slice e)) (hs : (P.info? e).map (·.size) = some 1) (b o n c k : Nat) (h : k < n) (w : World) :
    (Instr.indexAt t (.slice (some ⟨b, o, none⟩) n c) (.int .i64 k)).run P w = .ok (.pointer (some ⟨b, o + k, none⟩)) w := by
  have e2 : P.elem t = e := by simp [Program.elem, hu]
  obtain ⟨i, hi, hz⟩ := Option.map_eq_some_iff.1 hs
  rw [run_indexAt_slice (h := by rw [e2]; exact hu)]
  simp [e2, sizeOf, typeInfo, hi, hz, Result.andThen, h, Addr.add]
end
theorem load_u8' (b o : Nat) (v : Value) (w : World) (h : w.cell? ⟨b, o, none⟩ = some v) : (Instr.loadAt 5 (.pointer (some ⟨b, o, none⟩))).run Tryd.prog w = .ok v w := by
  have h2 := Tryd.underlying5
  go_simp
theorem eq_v8 (t : TypeId) (x y : Operand) (a : BitVec 8) (w : World) : (do eqGuard .eql t x y (v8 a) (v8 a); binOp .eql t (v8 a) (v8 a) : Sem Value).run Tryd.prog w = .ok (.bool true) w := by
  simp [eqGuard, binOp, Op.intCmp]
theorem neq_v8 (t : TypeId) (x y : Operand) (a : BitVec 8) (w : World) : (do eqGuard .neq t x y (v8 a) (v8 a); binOp .neq t (v8 a) (v8 a) : Sem Value).run Tryd.prog w = .ok (.bool false) w := by
  simp [eqGuard, binOp, Op.intCmp]
theorem eq_i64 (t : TypeId) (x y : Operand) (a b : Int) (w : World) : (do eqGuard .eql t x y (.int .i64 a) (.int .i64 b); binOp .eql t (.int .i64 a) (.int .i64 b) : Sem Value).run Tryd.prog w = .ok (.bool (a == b)) w := by
  simp [eqGuard, binOp, Op.intCmp]
theorem lt_i64 (t : TypeId) (x y : Operand) (a b : Int) (w : World) : (do eqGuard .lss t x y (.int .i64 a) (.int .i64 b); binOp .lss t (.int .i64 a) (.int .i64 b) : Sem Value).run Tryd.prog w = .ok (.bool (decide (a < b))) w := by
  simp [eqGuard, binOp, Op.intCmp]
theorem add_i64 (t : TypeId) (x y : Operand) (a b c : Int) (h : a + b = c) (h1 : -9223372036854775808 ≤ c) (h2 : c ≤ 9223372036854775807) (w : World) : (do eqGuard .add t x y (.int .i64 a) (.int .i64 b); binOp .add t (.int .i64 a) (.int .i64 b) : Sem Value).run Tryd.prog w = .ok (.int .i64 c) w := by
  have hw : IntKind.i64.wrap (a + b) = c := by rw [h]; exact IntWalk.i64_in _ (by omega)
  simp [eqGuard, binOp, Op.intArith, hw]
end Go.Proofs.YtffkjbbhbpaacaaDoor
