import Derived.Test.YtegijahkiopncaaDoorSl
/-
  Where sha stands: what XSl says.
-/
namespace Go.Proofs.YtegijahkiopncaaDoor
end Go.Proofs.YtegijahkiopncaaDoor
