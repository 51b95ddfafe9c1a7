/- The size of a node as the exact laws take it. Conditions: none beyond the law's own. -/
import Derived.Test.YtncjedbdkanleaaNodeLaw
import Derived.Test.YtncjedbdkanleaaExDrop
import Derived.Test.YtncjedbdkanleaaNodeIKeys
namespace Go.Proofs.Ytncjedbdkanleaa
open Go.RowKit
set_option maxRecDepth 100000
set_option linter.unusedSimpArgs false
set_option linter.unusedVariables false
theorem szN_small (v : Value) (ns : List (List KeyD)) (w : World) (hv : Reads w w.heap.size v (setsA ns)) (hn : ns.length + sumN ns ≤ 1048576) : Calls Try.prog 34 #[.agg #[v], .int .i64 1048576] w fun e w' => (∃ q : Int, e = .returned (.int .i64 q) ∧ 0 ≤ q) ∧ Below w.heap.size w w' := by
  refine (szNode_any v ns w hv 1048576 (by omega) (by omega)).mono ?_
  rintro r w1 ⟨b, h | h⟩
  · omega
  · exact ⟨⟨_, h.1, by omega⟩, b⟩
theorem szN_big (v : Value) (ns : List (List KeyD)) (w : World) (hv : Reads w w.heap.size v (setsA ns)) (hn : 1048576 < ns.length + sumN ns) : Calls Try.prog 34 #[.agg #[v], .int .i64 1048576] w fun e w' => e = .returned (.int .i64 (-1)) ∧ Below w.heap.size w w' := by
  refine (szNode_any v ns w hv 1048576 (by omega) (by omega)).mono ?_
  rintro r w1 ⟨b, h | h⟩
  · exact ⟨h.1, b⟩
  · omega
end Go.Proofs.Ytncjedbdkanleaa
