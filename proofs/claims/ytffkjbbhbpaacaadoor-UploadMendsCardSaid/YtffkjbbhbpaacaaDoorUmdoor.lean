import Derived.Test.YtffkjbbhbpaacaaDoorUmw
import Derived.Test.YtffkjbbhbpaacaaDoorRows
import Derived.ProofKit
import Derived.LaidMore
import Derived.OpenShut
import Derived.Stop.Joined
import Derived.LaidSub
namespace Go.Proofs.YtffkjbbhbpaacaaDoor
open Go.ChangeShapes Go.WideShapes Go.ChangeAt Go.WideElems Go.RowKit

def laidV {H : Type} : List (String × DataW H) := [("courier/api.ErrOff", Rows.laid_courier_api_ErrOff), ("courier/api.ErrRange", Rows.laid_courier_api_ErrRange), ("courier/api.ErrShort", Rows.laid_courier_api_ErrShort), ("courier/api.ErrTrail", Rows.laid_courier_api_ErrTrail), ("courier/api.ErrForm", Rows.laid_courier_api_ErrForm), ("courier/api.ErrPanic", Rows.laid_courier_api_ErrPanic), ("courier/api.ErrFull", Rows.laid_courier_api_ErrFull), ("courier/api.ErrStore", Rows.laid_courier_api_ErrStore), ("courier/api.ErrTag", Rows.laid_courier_api_ErrTag), ("courier/api.ErrGap", Rows.laid_courier_api_ErrGap), ("courier/api.ErrOld", Rows.laid_courier_api_ErrOld), ("courier/api.ErrKey", Rows.laid_courier_api_ErrKey), ("courier/api.ErrRoot", Rows.laid_courier_api_ErrRoot), ("courier/api.ErrNone", Rows.laid_courier_api_ErrNone), ("courier/api.ErrOpen", Rows.laid_courier_api_ErrOpen), ("courier/api.ErrDigest", Rows.laid_courier_api_ErrDigest), ("courier/api.ErrState", Rows.laid_courier_api_ErrState), ("courier/api.ErrLimit", Rows.laid_courier_api_ErrLimit), ("courier/api.ErrClosed", Rows.laid_courier_api_ErrClosed)]
/-- the door's own heap meets the condition -/
theorem door_met (os : Os) (args : Array Value) : laidMetH Tryd.prog laidV ((World.doorLaid Tryd.prog 400 os).forCall (fun _ _ => 0) ⟨#[], args, []⟩).memory :=
  laidMetH_of_parts3 (fuel := 8) (laidMet_of_run' 8 (by kernel_rfl) (by kernel_rfl)) (by kernel_rfl) (by kernel_rfl)

theorem errs_laid {W : World} (h : laidMetH Tryd.prog laidV W) : ∃ E, ErrsAt E W :=
  errs_of_laid h fun i hi => match i, hi with
    | 0, _ => rfl
    | 1, _ => rfl
    | 2, _ => rfl
    | 3, _ => rfl
    | 4, _ => rfl
    | 5, _ => rfl
    | 6, _ => rfl
    | 7, _ => rfl
    | 8, _ => rfl
    | 9, _ => rfl
    | 10, _ => rfl
    | 11, _ => rfl
    | 12, _ => rfl
    | 13, _ => rfl
    | 14, _ => rfl
    | 15, _ => rfl
    | 16, _ => rfl
    | 17, _ => rfl
    | 18, _ => rfl
    | (n + 19), h => absurd h (by omega)


theorem wf_u8 {z : Int} (h : (Lit.int .u8 z).wf = true) : 0 ≤ z ∧ z < 256 := by
  simp [Lit.wf, IntKind.min, IntKind.max, IntKind.bits, IntKind.signed] at h
  omega
theorem v8_of (z : Int) (hw : (Lit.int .u8 z).wf = true) : ∃ x : BitVec 8, z = n8 x := by
  obtain ⟨h0, h1⟩ := wf_u8 hw
  refine ⟨BitVec.ofNat 8 z.toNat, ?_⟩
  unfold n8 n32
  simp only [BitVec.toNat_setWidth, BitVec.toNat_ofNat]
  omega
theorem bys_of (xs : List Int) (hw : ∀ x ∈ xs, (Lit.int .u8 x).wf = true) : ∃ ys, xs = bys ys := by
  induction xs with
  | nil => exact ⟨[], rfl⟩
  | cons a r ih =>
    obtain ⟨ys, rfl⟩ := ih fun x hx => hw x (by simp [hx])
    obtain ⟨y, rfl⟩ := v8_of a (hw a (by simp))
    exact ⟨y :: ys, rfl⟩
theorem n8_of (z : Int) (h0 : 0 ≤ z) (h1 : z < 256) : n8 (BitVec.ofInt 8 z) = z := by
  unfold n8 n32
  rw [BitVec.toNat_setWidth, BitVec.toNat_ofInt]
  omega
theorem arr8_of (xs : List Int) (n : Nat) (hn : xs.length = n) (hw : ∀ x ∈ xs, (Lit.int .u8 x).wf = true) : ∃ f : Nat → BitVec 8, (ints .u8 xs).toArray = arr8 n f := by
  refine ⟨fun i => BitVec.ofInt 8 (xs.getD i 0), ?_⟩
  apply Array.ext
  · simp [hn]
  · intro i h1 h2
    have hi : i < xs.length := by simpa using h1
    have hz := wf_u8 (hw _ (List.getElem_mem hi))
    have e2 := arr8_get n (fun i => BitVec.ofInt 8 (xs.getD i 0)) i (by omega)
    rw [Array.getElem?_eq_getElem h2] at e2
    rw [Option.some.inj e2]
    have : xs.getD i 0 = xs[i] := by simp [hi]
    unfold v8
    rw [this, n8_of _ hz.1 hz.2]
    simp [ints]
theorem n32_of (z : Int) (h0 : 0 ≤ z) (h1 : z < 4294967296) : n32 (BitVec.ofInt 32 z) = z := by
  unfold n32
  rw [BitVec.toNat_ofInt]
  omega
theorem wf_u32 {z : Int} (h : (Lit.int .u32 z).wf = true) : 0 ≤ z ∧ z < 4294967296 := by
  simp [Lit.wf, IntKind.min, IntKind.max, IntKind.bits, IntKind.signed] at h
  omega
theorem v32_of (z : Int) (hw : (Lit.int .u32 z).wf = true) : ∃ x : BitVec 32, z = n32 x :=
  ⟨BitVec.ofInt 32 z, (n32_of z (wf_u32 hw).1 (wf_u32 hw).2).symm⟩
end Go.Proofs.YtffkjbbhbpaacaaDoor
