import Derived.Test.YtffkjbbhbpaacaaGreatDoorPads
/-
  Where sha stands: what XSl says.
-/
namespace Go.Proofs.YtffkjbbhbpaacaaGreatDoor
end Go.Proofs.YtffkjbbhbpaacaaGreatDoor
