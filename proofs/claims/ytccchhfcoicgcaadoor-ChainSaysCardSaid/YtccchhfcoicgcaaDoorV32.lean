import Derived.Test.YtccchhfcoicgcaaDoorCsy
namespace Go.Proofs.YtccchhfcoicgcaaDoor
open Go.RowKit
theorem n32_of (z : Int) (h0 : 0 ≤ z) (h1 : z < 4294967296) : n32 (BitVec.ofInt 32 z) = z := by
  unfold n32
  rw [BitVec.toNat_ofInt]
  omega
theorem wf_u32 {z : Int} (h : (Lit.int .u32 z).wf = true) : 0 ≤ z ∧ z < 4294967296 := by
  simp [Lit.wf, IntKind.min, IntKind.max, IntKind.bits, IntKind.signed] at h
  omega
theorem v32_of (z : Int) (hw : (Lit.int .u32 z).wf = true) : ∃ x : BitVec 32, z = n32 x :=
  ⟨BitVec.ofInt 32 z, (n32_of z (wf_u32 hw).1 (wf_u32 hw).2).symm⟩
end Go.Proofs.YtccchhfcoicgcaaDoor
