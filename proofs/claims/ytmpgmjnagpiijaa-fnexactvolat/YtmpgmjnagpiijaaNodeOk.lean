/- Contracts for impl.NodeOk, spec.NodeOk, spec.l5Count. Conditions: at most 1100000 sets and keys. -/
import Derived.Test.YtmpgmjnagpiijaaNodePure
import Derived.Test.YtmpgmjnagpiijaaKSetOk
namespace Go.Proofs.Ytmpgmjnagpiijaa
open Go.RowKit
set_option maxRecDepth 100000
set_option linter.unusedSimpArgs false
set_option linter.unusedVariables false

end Go.Proofs.Ytmpgmjnagpiijaa
