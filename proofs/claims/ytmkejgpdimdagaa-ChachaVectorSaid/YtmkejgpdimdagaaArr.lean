import Derived.Test.YtmkejgpdimdagaaChc
namespace Go.Proofs.Ytmkejgpdimdagaa
open Go.RowKit

theorem n8_of (z : Int) (h0 : 0 ≤ z) (h1 : z < 256) : n8 (BitVec.ofInt 8 z) = z := by
  unfold n8 n32
  rw [BitVec.toNat_setWidth, BitVec.toNat_ofInt]
  omega
theorem n32_of (z : Int) (h0 : 0 ≤ z) (h1 : z < 4294967296) : n32 (BitVec.ofInt 32 z) = z := by
  unfold n32
  rw [BitVec.toNat_ofInt]
  omega
theorem wf_u8 {z : Int} (h : (Lit.int .u8 z).wf = true) : 0 ≤ z ∧ z < 256 := by
  simp [Lit.wf, IntKind.min, IntKind.max, IntKind.bits, IntKind.signed] at h
  omega
theorem wf_u32 {z : Int} (h : (Lit.int .u32 z).wf = true) : 0 ≤ z ∧ z < 4294967296 := by
  simp [Lit.wf, IntKind.min, IntKind.max, IntKind.bits, IntKind.signed] at h
  omega
theorem arr8_of (xs : List Int) (n : Nat) (hn : xs.length = n) (hw : ∀ x ∈ xs, (Lit.int .u8 x).wf = true) : ∃ f : Nat → BitVec 8, (ints .u8 xs).toArray = arr8 n f := by
  refine ⟨fun i => BitVec.ofInt 8 (xs.getD i 0), ?_⟩
  apply Array.ext
  · simp [hn]
  · intro i h1 h2
    have hi : i < xs.length := by simpa using h1
    have hz := wf_u8 (hw _ (List.getElem_mem hi))
    have e2 := arr8_get n (fun i => BitVec.ofInt 8 (xs.getD i 0)) i (by omega)
    rw [Array.getElem?_eq_getElem h2] at e2
    rw [Option.some.inj e2]
    have : xs.getD i 0 = xs[i] := by simp [hi]
    unfold v8
    rw [this, n8_of _ hz.1 hz.2]
    simp [ints]
theorem v32_of (z : Int) (hw : (Lit.int .u32 z).wf = true) : ∃ x : BitVec 32, z = n32 x :=
  ⟨BitVec.ofInt 32 z, (n32_of z (wf_u32 hw).1 (wf_u32 hw).2).symm⟩
end Go.Proofs.Ytmkejgpdimdagaa
