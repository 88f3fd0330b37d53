import Derived.Test.YtccchhfcoicgcaaDoorDer
namespace Go.Proofs.YtccchhfcoicgcaaDoor
open Go.RowKit

end Go.Proofs.YtccchhfcoicgcaaDoor
