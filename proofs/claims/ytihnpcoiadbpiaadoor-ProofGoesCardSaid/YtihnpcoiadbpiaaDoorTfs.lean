import Derived.Test.YtihnpcoiadbpiaaDoorTrd
import Derived.Test.YtihnpcoiadbpiaaDoorEq
namespace Go.Proofs.YtihnpcoiadbpiaaDoor
open Go.RowKit

def five : Nat → BitVec 8 := fun i => if i = 0 then 5#8 else 0#8
def zz : Nat → BitVec 8 := fun _ => 0#8
theorem hash_ne (f g : Nat → BitVec 8) (h : f 0 ≠ g 0) (w : World) : (Op.equalIn 10000 24 (.agg (arr8 32 f)) (.agg (arr8 32 g))).run Tryd.prog w = .ok false w := by
  rw [arr8_cells, arr8_cells, run_equalIn_bytes w 9998 24 5 32 Tryd.underlying24 Tryd.underlying5 size_u8 _ _ (by simp) (by simp)]
  have hne : ¬ (List.map (fun i => UInt8.ofBitVec (f i)) (List.range 32) = List.map (fun i => UInt8.ofBitVec (g i)) (List.range 32)) := fun e => by
    have h2 := congrArg (fun l => l[0]?) e
    simp at h2
    exact h h2
  rw [beq_false_of_ne hne]
theorem leaf0 : shaOf [0#8] 0 ≠ zz 0 := by decide +kernel
end Go.Proofs.YtihnpcoiadbpiaaDoor
