/- Contracts for impl.AgesOk and spec.AgesOk, joined. -/
import Derived.Test.YtjnecehogebjkaaAgeOkI
import Derived.Test.YtjnecehogebjkaaAgeOkS
namespace Go.Proofs.Ytjnecehogebjkaa
open Go.RowKit
set_option maxRecDepth 100000
set_option linter.unusedSimpArgs false
set_option linter.unusedVariables false

end Go.Proofs.Ytjnecehogebjkaa
