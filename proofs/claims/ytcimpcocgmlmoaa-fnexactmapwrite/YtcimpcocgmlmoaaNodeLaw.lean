/- Contracts for nodes in the laws: laws.eqNode finds two that read alike equal, laws.markNode writes marks, laws.heldNode finds them; a node that comes in as an argument is opened. Conditions: at most 1100000 sets and keys. -/
import Derived.Test.YtcimpcocgmlmoaaNode
import Derived.StillTailTactics
namespace Go.Proofs.Ytcimpcocgmlmoaa
open Go.RowKit Go.ChangeShapes Go.WideShapes Go.Deep
set_option maxRecDepth 100000
set_option linter.unusedSimpArgs false
set_option linter.unusedVariables false

def mN (k : Int) (l : List KeyD) : List KeyD := mkL mK sK k l l.length
def sN (l : List KeyD) : Nat := l.length * 5
theorem mN_len (k : Int) (l : List KeyD) : (mN k l).length = l.length := mkL_length _ _ _ _ _
theorem totN (ns : List (List KeyD)) (i : Nat) : totL sN ns i = sumN (ns.take i) * 5 := by
  induction i generalizing ns with
  | zero => simp [totL, sumN]
  | succ i ih =>
    cases ns with
    | nil => simp [totL, sumN]
    | cons a ns => simp only [totL, ih, sN, List.take_succ_cons, sumN_cons]; omega
end Go.Proofs.Ytcimpcocgmlmoaa
