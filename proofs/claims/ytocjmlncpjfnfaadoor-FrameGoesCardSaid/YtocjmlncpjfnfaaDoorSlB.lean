import Derived.Test.YtocjmlncpjfnfaaDoorSl
/-
  Where sha stands: what XSl says.
-/
namespace Go.Proofs.YtocjmlncpjfnfaaDoor
end Go.Proofs.YtocjmlncpjfnfaaDoor
