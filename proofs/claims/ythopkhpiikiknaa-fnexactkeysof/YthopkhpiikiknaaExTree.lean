/- The size of a tree as the exact laws take it. Conditions: none beyond the law's own. -/
import Derived.Test.YthopkhpiikiknaaTreeMark
namespace Go.Proofs.Ythopkhpiikiknaa
open Go.RowKit
set_option maxRecDepth 100000
set_option linter.unusedSimpArgs false
set_option linter.unusedVariables false
theorem szT_small (vl vn : Value) (lo : List Int) (ts : List NodeD) (w : World) (hl : Reads w w.heap.size vl (intsD lo)) (hv : Reads w w.heap.size vn (nodesA ts)) (hn : lo.length + (ts.length + sumT ts) ≤ 1048576) : Calls Try.prog 25 #[.agg #[vl, vn], .int .i64 1048576] w fun e w' => (∃ q : Int, e = .returned (.int .i64 q) ∧ 0 ≤ q) ∧ Below w.heap.size w w' := by
  refine (szTree_any vl vn lo ts w hl hv).mono ?_
  rintro r w1 ⟨⟨q, h1, h2, _⟩ | ⟨_, h⟩, b⟩
  · exact ⟨⟨q, h1, h2⟩, b⟩
  · omega
theorem szT_big (vl vn : Value) (lo : List Int) (ts : List NodeD) (w : World) (hl : Reads w w.heap.size vl (intsD lo)) (hv : Reads w w.heap.size vn (nodesA ts)) (hn : 1048576 < lo.length + (ts.length + sumT ts)) : Calls Try.prog 25 #[.agg #[vl, vn], .int .i64 1048576] w fun e w' => e = .returned (.int .i64 (-1)) ∧ Below w.heap.size w w' := by
  refine (szTree_any vl vn lo ts w hl hv).mono ?_
  rintro r w1 ⟨⟨q, h1, h2, _⟩ | ⟨h, _⟩, b⟩
  · omega
  · exact ⟨h, b⟩
end Go.Proofs.Ythopkhpiikiknaa
