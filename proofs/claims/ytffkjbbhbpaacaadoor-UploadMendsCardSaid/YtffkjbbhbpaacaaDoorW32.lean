import Derived.Test.YtffkjbbhbpaacaaDoorNum
import Derived.Test.YtffkjbbhbpaacaaDoorByt
namespace Go.Proofs.YtffkjbbhbpaacaaDoor
open Go.RowKit

/-- a word of 32 bits as a number; closed to simp -/
def n32 (x : BitVec 32) : Int := (x.toNat : Int)
abbrev v32 (x : BitVec 32) : Value := .int .u32 (n32 x)

theorem n32_add (x y : BitVec 32) : (n32 x + n32 y) % 4294967296 = n32 (x + y) := by
  unfold n32; rw [BitVec.toNat_add]; omega
theorem n32_xor (x y : BitVec 32) : bits .xor .u32 (n32 x) (n32 y) = n32 (x ^^^ y) := by
  unfold n32; rw [u32_xor_nat _ _ x.isLt y.isLt, BitVec.toNat_xor]
theorem n32_or (x y : BitVec 32) : bits .or .u32 (n32 x) (n32 y) = n32 (x ||| y) := by
  unfold n32; rw [u32_or_nat _ _ x.isLt y.isLt, BitVec.toNat_or]
theorem n32_shl (x : BitVec 32) (k : Nat) : n32 x * (2 ^ k : Nat) % 4294967296 = n32 (x <<< k) := by
  unfold n32; rw [BitVec.toNat_shiftLeft, Nat.shiftLeft_eq]; omega
theorem n32_shr (x : BitVec 32) (k : Nat) : n32 x / (2 ^ k : Nat) = n32 (x >>> k) := by
  unfold n32; rw [BitVec.toNat_ushiftRight, Nat.shiftRight_eq_div_pow]; omega
theorem ret_int {k : IntKind} {a b : Int} (h : a = b) : Ending.returned (.int k a) = .returned (.int k b) := by rw [h]
theorem n32_lo (x : BitVec 32) : 0 ≤ n32 x := by unfold n32; omega
theorem n32_hi (x : BitVec 32) : n32 x < 4294967296 := by have := x.isLt; unfold n32; omega


set_option maxHeartbeats 400000 in
theorem dr_2 (x : BitVec 32) (w : World) : Calls Tryd.prog 66 #[v32 x, .int .u64 2] w fun e w' => e = .returned (v32 (x.rotateRight 2)) ∧ w' = w := by
  have h2 := n32_or
  have h3 : ∀ x : BitVec 32, (n32 x * (1073741824 : Int)) % (4294967296 : Int) = n32 (x <<< 30) := fun x => n32_shl x 30
  have h4 : ∀ x : BitVec 32, n32 x / (4 : Int) = n32 (x >>> 2) := fun x => n32_shr x 2
  have h5 : x >>> 2 ||| x <<< 30 = x.rotateRight 2 := by rw [BitVec.rotateRight_def]
  go_enter Tryd.func66, Tryd.ntmps66
  go_wp2
  go_ret
  exact ⟨rfl, rfl⟩

set_option maxHeartbeats 400000 in
theorem dr_6 (x : BitVec 32) (w : World) : Calls Tryd.prog 66 #[v32 x, .int .u64 6] w fun e w' => e = .returned (v32 (x.rotateRight 6)) ∧ w' = w := by
  have h2 := n32_or
  have h3 : ∀ x : BitVec 32, (n32 x * (67108864 : Int)) % (4294967296 : Int) = n32 (x <<< 26) := fun x => n32_shl x 26
  have h4 : ∀ x : BitVec 32, n32 x / (64 : Int) = n32 (x >>> 6) := fun x => n32_shr x 6
  have h5 : x >>> 6 ||| x <<< 26 = x.rotateRight 6 := by rw [BitVec.rotateRight_def]
  go_enter Tryd.func66, Tryd.ntmps66
  go_wp2
  go_ret
  exact ⟨rfl, rfl⟩

set_option maxHeartbeats 400000 in
theorem dr_7 (x : BitVec 32) (w : World) : Calls Tryd.prog 66 #[v32 x, .int .u64 7] w fun e w' => e = .returned (v32 (x.rotateRight 7)) ∧ w' = w := by
  have h2 := n32_or
  have h3 : ∀ x : BitVec 32, (n32 x * (33554432 : Int)) % (4294967296 : Int) = n32 (x <<< 25) := fun x => n32_shl x 25
  have h4 : ∀ x : BitVec 32, n32 x / (128 : Int) = n32 (x >>> 7) := fun x => n32_shr x 7
  have h5 : x >>> 7 ||| x <<< 25 = x.rotateRight 7 := by rw [BitVec.rotateRight_def]
  go_enter Tryd.func66, Tryd.ntmps66
  go_wp2
  go_ret
  exact ⟨rfl, rfl⟩

set_option maxHeartbeats 400000 in
theorem dr_11 (x : BitVec 32) (w : World) : Calls Tryd.prog 66 #[v32 x, .int .u64 11] w fun e w' => e = .returned (v32 (x.rotateRight 11)) ∧ w' = w := by
  have h2 := n32_or
  have h3 : ∀ x : BitVec 32, (n32 x * (2097152 : Int)) % (4294967296 : Int) = n32 (x <<< 21) := fun x => n32_shl x 21
  have h4 : ∀ x : BitVec 32, n32 x / (2048 : Int) = n32 (x >>> 11) := fun x => n32_shr x 11
  have h5 : x >>> 11 ||| x <<< 21 = x.rotateRight 11 := by rw [BitVec.rotateRight_def]
  go_enter Tryd.func66, Tryd.ntmps66
  go_wp2
  go_ret
  exact ⟨rfl, rfl⟩

set_option maxHeartbeats 400000 in
theorem dr_13 (x : BitVec 32) (w : World) : Calls Tryd.prog 66 #[v32 x, .int .u64 13] w fun e w' => e = .returned (v32 (x.rotateRight 13)) ∧ w' = w := by
  have h2 := n32_or
  have h3 : ∀ x : BitVec 32, (n32 x * (524288 : Int)) % (4294967296 : Int) = n32 (x <<< 19) := fun x => n32_shl x 19
  have h4 : ∀ x : BitVec 32, n32 x / (8192 : Int) = n32 (x >>> 13) := fun x => n32_shr x 13
  have h5 : x >>> 13 ||| x <<< 19 = x.rotateRight 13 := by rw [BitVec.rotateRight_def]
  go_enter Tryd.func66, Tryd.ntmps66
  go_wp2
  go_ret
  exact ⟨rfl, rfl⟩

set_option maxHeartbeats 400000 in
theorem dr_17 (x : BitVec 32) (w : World) : Calls Tryd.prog 66 #[v32 x, .int .u64 17] w fun e w' => e = .returned (v32 (x.rotateRight 17)) ∧ w' = w := by
  have h2 := n32_or
  have h3 : ∀ x : BitVec 32, (n32 x * (32768 : Int)) % (4294967296 : Int) = n32 (x <<< 15) := fun x => n32_shl x 15
  have h4 : ∀ x : BitVec 32, n32 x / (131072 : Int) = n32 (x >>> 17) := fun x => n32_shr x 17
  have h5 : x >>> 17 ||| x <<< 15 = x.rotateRight 17 := by rw [BitVec.rotateRight_def]
  go_enter Tryd.func66, Tryd.ntmps66
  go_wp2
  go_ret
  exact ⟨rfl, rfl⟩

set_option maxHeartbeats 400000 in
theorem dr_18 (x : BitVec 32) (w : World) : Calls Tryd.prog 66 #[v32 x, .int .u64 18] w fun e w' => e = .returned (v32 (x.rotateRight 18)) ∧ w' = w := by
  have h2 := n32_or
  have h3 : ∀ x : BitVec 32, (n32 x * (16384 : Int)) % (4294967296 : Int) = n32 (x <<< 14) := fun x => n32_shl x 14
  have h4 : ∀ x : BitVec 32, n32 x / (262144 : Int) = n32 (x >>> 18) := fun x => n32_shr x 18
  have h5 : x >>> 18 ||| x <<< 14 = x.rotateRight 18 := by rw [BitVec.rotateRight_def]
  go_enter Tryd.func66, Tryd.ntmps66
  go_wp2
  go_ret
  exact ⟨rfl, rfl⟩

set_option maxHeartbeats 400000 in
theorem dr_19 (x : BitVec 32) (w : World) : Calls Tryd.prog 66 #[v32 x, .int .u64 19] w fun e w' => e = .returned (v32 (x.rotateRight 19)) ∧ w' = w := by
  have h2 := n32_or
  have h3 : ∀ x : BitVec 32, (n32 x * (8192 : Int)) % (4294967296 : Int) = n32 (x <<< 13) := fun x => n32_shl x 13
  have h4 : ∀ x : BitVec 32, n32 x / (524288 : Int) = n32 (x >>> 19) := fun x => n32_shr x 19
  have h5 : x >>> 19 ||| x <<< 13 = x.rotateRight 19 := by rw [BitVec.rotateRight_def]
  go_enter Tryd.func66, Tryd.ntmps66
  go_wp2
  go_ret
  exact ⟨rfl, rfl⟩

set_option maxHeartbeats 400000 in
theorem dr_22 (x : BitVec 32) (w : World) : Calls Tryd.prog 66 #[v32 x, .int .u64 22] w fun e w' => e = .returned (v32 (x.rotateRight 22)) ∧ w' = w := by
  have h2 := n32_or
  have h3 : ∀ x : BitVec 32, (n32 x * (1024 : Int)) % (4294967296 : Int) = n32 (x <<< 10) := fun x => n32_shl x 10
  have h4 : ∀ x : BitVec 32, n32 x / (4194304 : Int) = n32 (x >>> 22) := fun x => n32_shr x 22
  have h5 : x >>> 22 ||| x <<< 10 = x.rotateRight 22 := by rw [BitVec.rotateRight_def]
  go_enter Tryd.func66, Tryd.ntmps66
  go_wp2
  go_ret
  exact ⟨rfl, rfl⟩

set_option maxHeartbeats 400000 in
theorem dr_25 (x : BitVec 32) (w : World) : Calls Tryd.prog 66 #[v32 x, .int .u64 25] w fun e w' => e = .returned (v32 (x.rotateRight 25)) ∧ w' = w := by
  have h2 := n32_or
  have h3 : ∀ x : BitVec 32, (n32 x * (128 : Int)) % (4294967296 : Int) = n32 (x <<< 7) := fun x => n32_shl x 7
  have h4 : ∀ x : BitVec 32, n32 x / (33554432 : Int) = n32 (x >>> 25) := fun x => n32_shr x 25
  have h5 : x >>> 25 ||| x <<< 7 = x.rotateRight 25 := by rw [BitVec.rotateRight_def]
  go_enter Tryd.func66, Tryd.ntmps66
  go_wp2
  go_ret
  exact ⟨rfl, rfl⟩
end Go.Proofs.YtffkjbbhbpaacaaDoor
