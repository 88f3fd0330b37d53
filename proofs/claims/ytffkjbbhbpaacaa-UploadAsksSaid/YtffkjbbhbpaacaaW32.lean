import Derived.Test.YtffkjbbhbpaacaaNum
import Derived.Test.YtffkjbbhbpaacaaByt
namespace Go.Proofs.Ytffkjbbhbpaacaa
open Go.RowKit

/-- a word of 32 bits as a number; closed to simp -/
def n32 (x : BitVec 32) : Int := (x.toNat : Int)
abbrev v32 (x : BitVec 32) : Value := .int .u32 (n32 x)

theorem n32_add (x y : BitVec 32) : (n32 x + n32 y) % 4294967296 = n32 (x + y) := by
  unfold n32; rw [BitVec.toNat_add]; omega
theorem n32_xor (x y : BitVec 32) : bits .xor .u32 (n32 x) (n32 y) = n32 (x ^^^ y) := by
  unfold n32; rw [u32_xor_nat _ _ x.isLt y.isLt, BitVec.toNat_xor]
theorem n32_or (x y : BitVec 32) : bits .or .u32 (n32 x) (n32 y) = n32 (x ||| y) := by
  unfold n32; rw [u32_or_nat _ _ x.isLt y.isLt, BitVec.toNat_or]
theorem n32_shl (x : BitVec 32) (k : Nat) : n32 x * (2 ^ k : Nat) % 4294967296 = n32 (x <<< k) := by
  unfold n32; rw [BitVec.toNat_shiftLeft, Nat.shiftLeft_eq]; omega
theorem n32_shr (x : BitVec 32) (k : Nat) : n32 x / (2 ^ k : Nat) = n32 (x >>> k) := by
  unfold n32; rw [BitVec.toNat_ushiftRight, Nat.shiftRight_eq_div_pow]; omega
theorem ret_int {k : IntKind} {a b : Int} (h : a = b) : Ending.returned (.int k a) = .returned (.int k b) := by rw [h]
theorem n32_lo (x : BitVec 32) : 0 ≤ n32 x := by unfold n32; omega
theorem n32_hi (x : BitVec 32) : n32 x < 4294967296 := by have := x.isLt; unfold n32; omega


end Go.Proofs.Ytffkjbbhbpaacaa
