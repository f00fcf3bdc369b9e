/- Contracts of ValidMatcher and its reference. Conditions: none. -/
import Derived.Test.YtpmndopcemdniaaDoorLValue
namespace Go.Proofs.YtpmndopcemdniaaDoor
open Go.RowKit

/-- What lay below lies on behind a further call. -/
theorem below_st {w w1 w2 : World} (h : Below w.heap.size w w1) (k : Below w1.heap.size w1 w2) : Below w.heap.size w w2 := h.trans (k.mono h.size)

end Go.Proofs.YtpmndopcemdniaaDoor
