import Derived.Test.YtffkjbbhbpaacaaDoorTurn
namespace Go.Proofs.YtffkjbbhbpaacaaDoor
open Go.RowKit

/-- a byte as a number -/
abbrev n8 (x : BitVec 8) : Int := n32 (x.setWidth 32)
abbrev v8 (x : BitVec 8) : Value := .int .u8 (n8 x)
theorem n8_hi (x : BitVec 8) : n8 x < 256 := by
  have := x.isLt
  unfold n8 n32
  simp only [BitVec.toNat_setWidth]
  omega
theorem n8_lo (x : BitVec 8) : 0 ≤ n8 x := n32_lo _

theorem n8_shl8 (x : BitVec 8) : n8 x * (256 : Int) = n32 (x.setWidth 32 <<< 8) := by
  have h := n32_shl (x.setWidth 32) 8
  rw [show ((2 ^ 8 : Nat) : Int) = 256 from rfl] at h
  have h1 := n8_hi x
  have h2 := n8_lo x
  rw [← h]
  exact (Int.emod_eq_of_lt (by omega) (by omega)).symm
theorem n8_shl16 (x : BitVec 8) : n8 x * (65536 : Int) = n32 (x.setWidth 32 <<< 16) := by
  have h := n32_shl (x.setWidth 32) 16
  rw [show ((2 ^ 16 : Nat) : Int) = 65536 from rfl] at h
  have h1 := n8_hi x
  have h2 := n8_lo x
  rw [← h]
  exact (Int.emod_eq_of_lt (by omega) (by omega)).symm
theorem n8_shl24 (x : BitVec 8) : n8 x * (16777216 : Int) = n32 (x.setWidth 32 <<< 24) := by
  have h := n32_shl (x.setWidth 32) 24
  rw [show ((2 ^ 24 : Nat) : Int) = 16777216 from rfl] at h
  have h1 := n8_hi x
  have h2 := n8_lo x
  rw [← h]
  exact (Int.emod_eq_of_lt (by omega) (by omega)).symm


/-- a word, the greatest byte first -/
def wordB (x y z u : BitVec 8) : BitVec 32 := x.setWidth 32 <<< 24 ||| y.setWidth 32 <<< 16 ||| z.setWidth 32 <<< 8 ||| u.setWidth 32

section
variable {P : Program} {t e : TypeId} {n : Nat}
/-- a slice of an array that lies in the midst of a block -/
theorem slice_mid_lh (hu : P.underlying t = some (.array n e)) (hs : (P.info? e).map (·.size) = some 1) (b o : Nat) (kl kh : IntKind) (l h : Int) (h0 : 0 ≤ l) (h1 : l ≤ h) (h2 : h ≤ n) (h3 : l < n) (w : World) :
    (Instr.sliceAt t (.pointer (some ⟨b, o, none⟩)) (some (.int kl l)) (some (.int kh h)) none).run P w = .ok (.slice (some ⟨b, o + l.toNat, none⟩) (h.toNat - l.toNat) (n - l.toNat)) w := by
  have e1 : P.arrayLen t = n := by simp [Program.arrayLen, hu]
  have e2 : P.elem t = e := by simp [Program.elem, hu]
  have := run_sliceAt_array_lh (P := P) w t ⟨b, o, none⟩ (by rw [e1, e2]; exact hu) kl kh l h h0 h1 (by rw [e1]; exact h2)
  rw [this, e1, e2]
  obtain ⟨i, hi, hz⟩ := Option.map_eq_some_iff.1 hs
  have hne : n ≠ l.toNat := by omega
  simp [sizeOf, typeInfo, hi, hz, Result.andThen, slicedAt, hne, Addr.add]
end

/-- a digest's block: the state, the block's bytes, how many are filled, how many came in all -/
structure HashAt (w : World) (b : Nat) (s : Nat → BitVec 32) (m : Nat → BitVec 8) (used total : Int) : Prop where
  s : ∀ i, i < 8 → w.cell? ⟨b, i, none⟩ = some (v32 (s i))
  m : ∀ i, i < 64 → w.cell? ⟨b, 8 + i, none⟩ = some (v8 (m i))
  u : w.cell? ⟨b, 72, none⟩ = some (.int .i64 used)
  t : w.cell? ⟨b, 73, none⟩ = some (.int .u64 total)
end Go.Proofs.YtffkjbbhbpaacaaDoor
