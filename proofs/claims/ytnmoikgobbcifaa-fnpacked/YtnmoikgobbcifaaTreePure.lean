/- What the tree functions answer, as functions on lists; impl.SpotOf, spec.SpotOf, impl.TreeNew, spec.TreeNew; the walk of FnExactSpotOf. No condition. -/
import Derived.Test.YtnmoikgobbcifaaNodePure
import Derived.Test.YtnmoikgobbcifaaNodeIKeys
import Derived.Test.YtnmoikgobbcifaaTree
namespace Go.Proofs.Ytnmoikgobbcifaa
open Go.RowKit
set_option maxRecDepth 100000
set_option linter.unusedSimpArgs false
set_option linter.unusedVariables false

def spotI (b a : Int) : Int := wrap64 (wrap64 (64 * b) + a)
theorem specSpotOf_any (b a : Int) (w : World) : Calls Try.prog 20 #[.int .i64 b, .int .i64 a] w fun e w' => e = .returned (.int .i64 (spotI b a)) ∧ w = w' := by
  unfold spotI
  go_enter Try.func20, Try.ntmps20
  go_wp2
  go_ret
  exact ⟨rfl, rfl⟩
theorem implSpotOf_any (b a : Int) (w : World) : Calls Try.prog 21 #[.int .i64 b, .int .i64 a] w fun e w' => e = .returned (.int .i64 (spotI b a)) ∧ w = w' := by
  unfold spotI
  go_enter Try.func21, Try.ntmps21
  go_wp2
  go_ret
  exact ⟨rfl, rfl⟩
theorem exactSpotOf_walk (p q : Int) (w : World) (_ : (Lit.int .i64 p).wf = true) (_ : (Lit.int .i64 q).wf = true) : Calls Try.prog 4 #[.int .i64 p, .int .i64 q] w fun e w' => e = .returned (.bool true) ∧ Below w.heap.size w w' := by
  have hne : (spotI p q != spotI p q) = false := by simp
  go_enter Try.func4, Try.ntmps4
  go_wp2_with fail
  refine (specSpotOf_any p q _).mono ?_
  rintro e w1 ⟨rfl, rfl⟩
  go_wp2_with fail
  refine (implSpotOf_any p q _).mono ?_
  rintro e w1 ⟨rfl, rfl⟩
  generalize spotI p q = x at *
  go_wp2
  go_ret
  exact ⟨rfl, Below.refl _ _⟩
end Go.Proofs.Ytnmoikgobbcifaa
