import Derived.Test.YtffkjbbhbpaacaaDoorPads
/-
  Where sha stands: what XSl says.
-/
namespace Go.Proofs.YtffkjbbhbpaacaaDoor
end Go.Proofs.YtffkjbbhbpaacaaDoor
