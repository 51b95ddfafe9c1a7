/- What the tree functions answer, as functions on lists; impl.SpotOf, spec.SpotOf, impl.TreeNew, spec.TreeNew; the walk of FnExactSpotOf. No condition. -/
import Derived.Test.YtmpgmjnagpiijaaNodePure
import Derived.Test.YtmpgmjnagpiijaaNodeIKeys
import Derived.Test.YtmpgmjnagpiijaaTree
namespace Go.Proofs.Ytmpgmjnagpiijaa
open Go.RowKit
set_option maxRecDepth 100000
set_option linter.unusedSimpArgs false
set_option linter.unusedVariables false

def spotI (b a : Int) : Int := wrap64 (wrap64 (64 * b) + a)
end Go.Proofs.Ytmpgmjnagpiijaa
