/- What the tree functions answer, as functions on lists; impl.SpotOf, spec.SpotOf, impl.TreeNew, spec.TreeNew; the walk of FnExactSpotOf. No condition. -/
import Derived.Test.YtkcafbdlealbpaaGreatNodePure
import Derived.Test.YtkcafbdlealbpaaGreatNodeIKeys
import Derived.Test.YtkcafbdlealbpaaGreatTree
namespace Go.Proofs.YtkcafbdlealbpaaGreat
open Go.RowKit
set_option maxRecDepth 100000
set_option linter.unusedSimpArgs false
set_option linter.unusedVariables false

def spotI (b a : Int) : Int := wrap64 (wrap64 (64 * b) + a)
theorem specSpotOf_any (b a : Int) (w : World) : Calls Tryz.prog 28 #[.int .i64 b, .int .i64 a] w fun e w' => e = .returned (.int .i64 (spotI b a)) ∧ w = w' := by
  unfold spotI
  go_enter Tryz.func28, Tryz.ntmps28
  go_wp2
  go_ret
  exact ⟨rfl, rfl⟩
theorem implSpotOf_any (b a : Int) (w : World) : Calls Tryz.prog 27 #[.int .i64 b, .int .i64 a] w fun e w' => e = .returned (.int .i64 (spotI b a)) ∧ w = w' := by
  unfold spotI
  go_enter Tryz.func27, Tryz.ntmps27
  go_wp2
  go_ret
  exact ⟨rfl, rfl⟩
end Go.Proofs.YtkcafbdlealbpaaGreat
