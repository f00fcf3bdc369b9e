/- The reference's numbers below 2^256: from a word, product, comparison, half. Conditions: the product is below 2^256. -/
import Derived.Test.YtpmndopcemdniaaDoorNat
import Derived.Test.YtpmndopcemdniaaDoorNMath2
namespace Go.Proofs.YtpmndopcemdniaaDoor
open Go.RowKit

end Go.Proofs.YtpmndopcemdniaaDoor
