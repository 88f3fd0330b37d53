import Derived.Test.YtklooieghlnblaaKit
namespace Go.Proofs.Ytklooieghlnblaa
open Go.RowKit

def SameTo (xs ys : List Int) (k : Nat) : Prop := ∀ j, j < k → xs[j]? = ys[j]?

theorem Try.info5 : (Try.prog.info? 5).map (fun i => (i.zero, i.size, i.bytes)) = some (some (.int .u8 0), 1, 1) := by kernel_rfl

/-- what a copy of bytes leaves: new memory that is its own -/
def CopyAt (w : World) (xs : List Int) (k : Nat) (v : Value) (wr : World) : Prop :=
  wr.ownsRow w.heap.size 5 1 v k (ints .u8 (xs.take k)) ∧ Below w.heap.size w wr

end Go.Proofs.Ytklooieghlnblaa
