/- Contracts for impl.cellOk, impl.CellsOk and spec.CellsOk. Conditions: at most 2^21 cells. -/
import Derived.Test.YtmpgmjnagpiijaaCelFind
namespace Go.Proofs.Ytmpgmjnagpiijaa
open Go.RowKit
set_option maxRecDepth 100000
set_option linter.unusedSimpArgs false
set_option linter.unusedVariables false

theorem cellsOk_all {l : List CelD} (h : l.all okC = true) : celsOkB l = decide (l.length = 24) := by
  unfold celsOkB
  rw [h, Bool.true_and]
theorem cellsOk_miss {l : List CelD} {k : Nat} (h : k < l.length) (hp : okC l[k] = false) : celsOkB l = false := by
  unfold celsOkB
  rw [all_miss h hp, Bool.false_and]
theorem okC_parts (x : CelD) {q1 q2 q3 : Bool} (h1 : (decide (0 ≤ x.a) && decide (x.a ≤ 999)) = q1) (h2 : wordB x.c = q2) (h3 : (x.b || x.c == 0) = q3) : okC x = (q1 && q2 && q3) := by
  unfold okC
  rw [h1, h2, h3]
end Go.Proofs.Ytmpgmjnagpiijaa
