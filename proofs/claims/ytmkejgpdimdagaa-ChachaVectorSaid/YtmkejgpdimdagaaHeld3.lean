import Derived.Test.YtmkejgpdimdagaaHeld2
namespace Go.Proofs.Ytmkejgpdimdagaa
open Go.RowKit
section
variable {P : Program} {t e : TypeId}
theorem sliceAt_h (hu : P.underlying t = some (.slice e)) (hs : (P.info? e).map (·.size) = some 1) (A : Option Addr) (n cap h : Nat) (hh : h ≤ cap) (w : World) :
    (Instr.sliceAt t (.slice A n cap) none (some (.int .i64 (h : Int))) none).run P w = .ok (.slice A h cap) w := by
  have e2 : P.elem t = e := by simp [Program.elem, hu]
  have := run_slice_h (P := P) w t A n cap (by rw [e2]; exact hu) .i64 (h : Int) (by omega) (by omega)
  rw [e2] at this
  obtain ⟨i, hi, hz⟩ := Option.map_eq_some_iff.1 hs
  rw [run_sliceAt_slice (h := by rw [e2]; exact hu), this]
  simp [sizeOf, typeInfo, hi, hz, Result.andThen, sliced]
  intro _
  cases A with
  | none => rfl
  | some a => obtain ⟨b, o, r⟩ := a; cases r <;> simp [Addr.add]
theorem sliceAt_lh (hu : P.underlying t = some (.slice e)) (hs : (P.info? e).map (·.size) = some 1) (A : Option Addr) (n cap l h : Nat) (hl : l ≤ h) (hh : h ≤ cap) (w : World) :
    (Instr.sliceAt t (.slice A n cap) (some (.int .i64 (l : Int))) (some (.int .i64 (h : Int))) none).run P w = .ok (.slice (cutA A l cap) (h - l) (cap - l)) w := by
  have e2 : P.elem t = e := by simp [Program.elem, hu]
  have := run_slice_lh (P := P) w t A n cap (by rw [e2]; exact hu) .i64 .i64 (l : Int) (h : Int) (by omega) (by omega) (by omega)
  rw [e2] at this
  obtain ⟨i, hi, hz⟩ := Option.map_eq_some_iff.1 hs
  rw [run_sliceAt_slice (h := by rw [e2]; exact hu), this]
  simp [sizeOf, typeInfo, hi, hz, Result.andThen, sliced, cutA]
theorem sliceAt_arr (n : Nat) (hu : P.underlying t = some (.array n e)) (hs : (P.info? e).map (·.size) = some 1) (b : Nat) (hn : 0 < n) (w : World) :
    (Instr.sliceAt t (.pointer (some ⟨b, 0, none⟩)) none none none).run P w = .ok (.slice (some ⟨b, 0, none⟩) n n) w := by
  have e1 : P.arrayLen t = n := by simp [Program.arrayLen, hu]
  have e2 : P.elem t = e := by simp [Program.elem, hu]
  have := run_sliceAt_array_all (P := P) w t ⟨b, 0, none⟩ (by rw [e1, e2]; exact hu)
  rw [this, e1, e2]
  obtain ⟨i, hi, hz⟩ := Option.map_eq_some_iff.1 hs
  simp [sizeOf, typeInfo, hi, hz, Result.andThen, slicedAt, show ¬ n = 0 by omega, Addr.add]
theorem sliceAt_arr_h (n : Nat) (hu : P.underlying t = some (.array n e)) (hs : (P.info? e).map (·.size) = some 1) (b h : Nat) (hn : 0 < n) (hh : h ≤ n) (w : World) :
    (Instr.sliceAt t (.pointer (some ⟨b, 0, none⟩)) none (some (.int .i64 (h : Int))) none).run P w = .ok (.slice (some ⟨b, 0, none⟩) h n) w := by
  have e1 : P.arrayLen t = n := by simp [Program.arrayLen, hu]
  have e2 : P.elem t = e := by simp [Program.elem, hu]
  have := run_sliceAt_array_h (P := P) w t ⟨b, 0, none⟩ (by rw [e1, e2]; exact hu) .i64 (h : Int) (by omega) (by rw [e1]; omega)
  rw [this, e1, e2]
  obtain ⟨i, hi, hz⟩ := Option.map_eq_some_iff.1 hs
  simp [sizeOf, typeInfo, hi, hz, Result.andThen, slicedAt, show ¬ n = 0 by omega, Addr.add]
end
end Go.Proofs.Ytmkejgpdimdagaa
