import Derived.Test.YtffkjbbhbpaacaaDoorW32
namespace Go.Proofs.YtffkjbbhbpaacaaDoor
open Go.RowKit

/-- three rotations of a word -/
def big_e (x : BitVec 32) : BitVec 32 := x.rotateRight 6 ^^^ x.rotateRight 11 ^^^ x.rotateRight 25
/-- three rotations of a word -/
def big_a (x : BitVec 32) : BitVec 32 := x.rotateRight 2 ^^^ x.rotateRight 13 ^^^ x.rotateRight 22
end Go.Proofs.YtffkjbbhbpaacaaDoor
