/- The reference's greatest common divisor of two numbers below 2^256, the second not 0. Conditions: as said. -/
import Derived.Test.YtpmndopcemdniaaDoorGcd
namespace Go.Proofs.YtpmndopcemdniaaDoor
open Go.RowKit

end Go.Proofs.YtpmndopcemdniaaDoor
