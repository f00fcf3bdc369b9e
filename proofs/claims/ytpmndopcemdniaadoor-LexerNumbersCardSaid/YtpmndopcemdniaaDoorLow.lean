/- The reference's lowest: a fraction of two numbers below 2^250 with a sign. Conditions: the denominator is not 0. -/
import Derived.Test.YtpmndopcemdniaaDoorGcd0
import Derived.Test.YtpmndopcemdniaaDoorNOver
import Derived.Test.YtpmndopcemdniaaDoorRefS
namespace Go.Proofs.YtpmndopcemdniaaDoor
open Go.RowKit

end Go.Proofs.YtpmndopcemdniaaDoor
