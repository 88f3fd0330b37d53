import Derived.Test.YtpegihfocnchnaaKi
import Derived.Deep.RegionHeld3
import Derived.Deep.AppendLies
import Derived.Deep.Onto
namespace Go.Proofs.Ytpegihfocnchnaa
open Go.RowKit

def zf : Nat → BitVec 8 := fun _ => 0#8

theorem own_keep {w w' : World} {base : Nat} {e : TypeId} {size : Nat} {v : Value} {n : Nat} {xs : List Value} (h : w.ownsRow base e size v n xs) (hk : ∀ g, base ≤ g → g < w.heap.size → w'.heap[g]? = w.heap[g]?) : w'.ownsRow base e size v n xs := by
  refine ⟨h.1, ?_⟩
  rcases h.2 with hn | ⟨g, cap, cur, hv, hb, hg, rest⟩
  · exact .inl hn
  · refine .inr ⟨g, cap, cur, hv, hb, ?_, rest⟩
    rw [hk g hb (Array.getElem?_eq_some_iff.1 hg).1, hg]

/-- the parameters' boxes and the block's row -/
structure RxAt (w : World) (B : Nat) (key non : Nat → BitVec 8) (z : Nat → BitVec 8) (W : World) : Prop where
  k : W.rowIs B 31 32 (fun i => v8 (key i))
  nn : W.rowIs (B + 1) 36 12 (fun i => v8 (non i))
  r : W.rowIs (B + 1 + 1) 42 64 (fun i => v8 (z i))
  b : Below B w W
theorem RxAt.below {w : World} {B : Nat} {key non z : Nat → BitVec 8} {W W' : World} (h : RxAt w B key non z W) (hb : Below (B + 1 + 1 + 1) W W') : RxAt w B key non z W' :=
  ⟨h.k.of_block (hb.block _ (by omega)), h.nn.of_block (hb.block _ (by omega)), h.r.of_block (hb.block _ (by omega)), h.b.trans (hb.mono (by omega))⟩

theorem put8 {w : World} {g : Nat} {s : Nat → BitVec 8} (h : w.rowIs g 42 64 (fun i => v8 (s i))) (t : Nat → BitVec 8) : (w.setRow g (arr8 64 t)).rowIs g 42 64 (fun i => v8 (t i)) :=
  rowIs_arr (setRow_heap _ _ _ _ _ _ (rowIs_heap8 h)) (by simp) (fun i hi => arr8_get 64 t i hi)

end Go.Proofs.Ytpegihfocnchnaa
