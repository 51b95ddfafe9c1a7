/-
  No cell of these rows narrows 'for every input' (looked for: loops, veiled, ifaces, maps, wideKeys, modest, calm, conditions, laid).
  DERIVED. THE GIVEN ROWS OF THIS SEAT. 8 by the template 'for every input the law returns true; each argument reads behind the call as it read before'; 0 by the template 'total and deterministic' (their statements: YtjnecehogebjkaaTotals.lean).
  GIVEN WITH THE SEED: the statements are not yours to turn. If you find one false, say at which input.
  Laid BY PROGRAM, IN A SANDBOX (cutbox-rows.mjs): the forced cells as the released guide's own fill.sh prints them over the translation 36777158922fcaca… (all of the seat's roots in one cut). By AI agents, Wed Nov 11 2026. No macro, syntax, notation, axiom, sorry.
-/
import Derived.Test.YtjnecehogebjkaaChecked
import GoSem.Claim
import GoSem.ClaimJoined
import GoSem.ClaimMapViews
import Derived.JoinedTies
import Derived.KernelRfl
namespace Go.Proofs.Ytjnecehogebjkaa
/- THE CELL 'sum', in the pinned program and in every row, IS THE sha256 OF THE DUMP (.gsa) THAT YtjnecehogebjkaaProg.lean LOADS. Nothing in Lean hashes anything: it is a label: what it is worth is what the hold of that sum in a sandbox is worth. -/
noncomputable def Try.pinned : Pinned := { name := "ytjnecehogebjkaa", sum := "36777158922fcaca2ec7f3cff5ac9ed6ffb49378a016217ed99812beff9b7fd4", checked := Try.checked }
namespace Rows
def none {H : Type} : Left H := { results := [], args := [] }

/-- 'laws.FnAges': WHATEVER THE INPUT: true; the input reads as it did. -/
def fnAgesSpec : ChangeSpec := { name := "fnAges", fn := fun _ => fun
  | [d] => { results := [.lit (.bool true)], args := [d] }
  | _ => none }
def fnAgesRow : OpenClaim := { program := "ytjnecehogebjkaa", sum := "36777158922fcaca2ec7f3cff5ac9ed6ffb49378a016217ed99812beff9b7fd4", func := "loop.example/g00467/laws.FnAges", spec := "fnAges", unfollowed := true, recurses := true, apart := false }
def FnAgesSaid : Prop := fnAgesRow.holds Try.pinned (OpenSpec.ofChange fnAgesSpec)

/-- ITS FALSE NEIGHBOUR: 'it returns false'. Refute it at one input. -/
def fnAgesWrong : ChangeSpec := { name := "fnAges", fn := fun _ => fun
  | [d] => { results := [.lit (.bool false)], args := [d] }
  | _ => none }
def FnAgesWrongFalsely : Prop := fnAgesRow.holds Try.pinned (OpenSpec.ofChange fnAgesWrong)

/-- 'laws.FnCuts': WHATEVER THE INPUT: true; the input reads as it did. -/
def fnCutsSpec : ChangeSpec := { name := "fnCuts", fn := fun _ => fun
  | [d] => { results := [.lit (.bool true)], args := [d] }
  | _ => none }
def fnCutsRow : OpenClaim := { program := "ytjnecehogebjkaa", sum := "36777158922fcaca2ec7f3cff5ac9ed6ffb49378a016217ed99812beff9b7fd4", func := "loop.example/g00467/laws.FnCuts", spec := "fnCuts", unfollowed := true, recurses := true, apart := false }
def FnCutsSaid : Prop := fnCutsRow.holds Try.pinned (OpenSpec.ofChange fnCutsSpec)

/-- ITS FALSE NEIGHBOUR: 'it returns false'. Refute it at one input. -/
def fnCutsWrong : ChangeSpec := { name := "fnCuts", fn := fun _ => fun
  | [d] => { results := [.lit (.bool false)], args := [d] }
  | _ => none }
def FnCutsWrongFalsely : Prop := fnCutsRow.holds Try.pinned (OpenSpec.ofChange fnCutsWrong)

/-- 'laws.FnExactAgesOk': WHATEVER THE INPUT: true; the input reads as it did. -/
def fnExactAgesOkSpec : ChangeSpec := { name := "fnExactAgesOk", fn := fun _ => fun
  | [d] => { results := [.lit (.bool true)], args := [d] }
  | _ => none }
def fnExactAgesOkRow : OpenClaim := { program := "ytjnecehogebjkaa", sum := "36777158922fcaca2ec7f3cff5ac9ed6ffb49378a016217ed99812beff9b7fd4", func := "loop.example/g00467/laws.FnExactAgesOk", spec := "fnExactAgesOk", unfollowed := true, recurses := true, apart := false }
def FnExactAgesOkSaid : Prop := fnExactAgesOkRow.holds Try.pinned (OpenSpec.ofChange fnExactAgesOkSpec)

/-- ITS FALSE NEIGHBOUR: 'it returns false'. Refute it at one input. -/
def fnExactAgesOkWrong : ChangeSpec := { name := "fnExactAgesOk", fn := fun _ => fun
  | [d] => { results := [.lit (.bool false)], args := [d] }
  | _ => none }
def FnExactAgesOkWrongFalsely : Prop := fnExactAgesOkRow.holds Try.pinned (OpenSpec.ofChange fnExactAgesOkWrong)

/-- 'laws.FnExactAgeAt': WHATEVER THE INPUT: true; the input reads as it did. -/
def fnExactAgeAtSpec : ChangeSpec := { name := "fnExactAgeAt", fn := fun _ => fun
  | [d1, d2] => { results := [.lit (.bool true)], args := [d1, d2] }
  | _ => none }
def fnExactAgeAtRow : OpenClaim := { program := "ytjnecehogebjkaa", sum := "36777158922fcaca2ec7f3cff5ac9ed6ffb49378a016217ed99812beff9b7fd4", func := "loop.example/g00467/laws.FnExactAgeAt", spec := "fnExactAgeAt", apart := false }
def FnExactAgeAtSaid : Prop := fnExactAgeAtRow.holds Try.pinned (OpenSpec.ofChange fnExactAgeAtSpec)

/-- ITS FALSE NEIGHBOUR: 'it returns false'. Refute it at one input. -/
def fnExactAgeAtWrong : ChangeSpec := { name := "fnExactAgeAt", fn := fun _ => fun
  | [d1, d2] => { results := [.lit (.bool false)], args := [d1, d2] }
  | _ => none }
def FnExactAgeAtWrongFalsely : Prop := fnExactAgeAtRow.holds Try.pinned (OpenSpec.ofChange fnExactAgeAtWrong)

/-- 'laws.FnExactIsFrom': WHATEVER THE INPUT: true; the input reads as it did. -/
def fnExactIsFromSpec : ChangeSpec := { name := "fnExactIsFrom", fn := fun _ => fun
  | [d1, d2, d3] => { results := [.lit (.bool true)], args := [d1, d2, d3] }
  | _ => none }
def fnExactIsFromRow : OpenClaim := { program := "ytjnecehogebjkaa", sum := "36777158922fcaca2ec7f3cff5ac9ed6ffb49378a016217ed99812beff9b7fd4", func := "loop.example/g00467/laws.FnExactIsFrom", spec := "fnExactIsFrom", apart := false }
def FnExactIsFromSaid : Prop := fnExactIsFromRow.holds Try.pinned (OpenSpec.ofChange fnExactIsFromSpec)

/-- ITS FALSE NEIGHBOUR: 'it returns false'. Refute it at one input. -/
def fnExactIsFromWrong : ChangeSpec := { name := "fnExactIsFrom", fn := fun _ => fun
  | [d1, d2, d3] => { results := [.lit (.bool false)], args := [d1, d2, d3] }
  | _ => none }
def FnExactIsFromWrongFalsely : Prop := fnExactIsFromRow.holds Try.pinned (OpenSpec.ofChange fnExactIsFromWrong)

/-- 'laws.FnExactKidsOf': WHATEVER THE INPUT: true; the input reads as it did. -/
def fnExactKidsOfSpec : ChangeSpec := { name := "fnExactKidsOf", fn := fun _ => fun
  | [d1, d2] => { results := [.lit (.bool true)], args := [d1, d2] }
  | _ => none }
def fnExactKidsOfRow : OpenClaim := { program := "ytjnecehogebjkaa", sum := "36777158922fcaca2ec7f3cff5ac9ed6ffb49378a016217ed99812beff9b7fd4", func := "loop.example/g00467/laws.FnExactKidsOf", spec := "fnExactKidsOf", apart := false }
def FnExactKidsOfSaid : Prop := fnExactKidsOfRow.holds Try.pinned (OpenSpec.ofChange fnExactKidsOfSpec)

/-- ITS FALSE NEIGHBOUR: 'it returns false'. Refute it at one input. -/
def fnExactKidsOfWrong : ChangeSpec := { name := "fnExactKidsOf", fn := fun _ => fun
  | [d1, d2] => { results := [.lit (.bool false)], args := [d1, d2] }
  | _ => none }
def FnExactKidsOfWrongFalsely : Prop := fnExactKidsOfRow.holds Try.pinned (OpenSpec.ofChange fnExactKidsOfWrong)

/-- 'laws.FnExactNewAge': WHATEVER THE INPUT: true; the input reads as it did. -/
def fnExactNewAgeSpec : ChangeSpec := { name := "fnExactNewAge", fn := fun _ => fun
  | [d1, d2, d3] => { results := [.lit (.bool true)], args := [d1, d2, d3] }
  | _ => none }
def fnExactNewAgeRow : OpenClaim := { program := "ytjnecehogebjkaa", sum := "36777158922fcaca2ec7f3cff5ac9ed6ffb49378a016217ed99812beff9b7fd4", func := "loop.example/g00467/laws.FnExactNewAge", spec := "fnExactNewAge", unfollowed := true, recurses := true, apart := false }
def FnExactNewAgeSaid : Prop := fnExactNewAgeRow.holds Try.pinned (OpenSpec.ofChange fnExactNewAgeSpec)

/-- ITS FALSE NEIGHBOUR: 'it returns false'. Refute it at one input. -/
def fnExactNewAgeWrong : ChangeSpec := { name := "fnExactNewAge", fn := fun _ => fun
  | [d1, d2, d3] => { results := [.lit (.bool false)], args := [d1, d2, d3] }
  | _ => none }
def FnExactNewAgeWrongFalsely : Prop := fnExactNewAgeRow.holds Try.pinned (OpenSpec.ofChange fnExactNewAgeWrong)

/-- 'laws.FnExactCutAge': WHATEVER THE INPUT: true; the input reads as it did. -/
def fnExactCutAgeSpec : ChangeSpec := { name := "fnExactCutAge", fn := fun _ => fun
  | [d1, d2] => { results := [.lit (.bool true)], args := [d1, d2] }
  | _ => none }
def fnExactCutAgeRow : OpenClaim := { program := "ytjnecehogebjkaa", sum := "36777158922fcaca2ec7f3cff5ac9ed6ffb49378a016217ed99812beff9b7fd4", func := "loop.example/g00467/laws.FnExactCutAge", spec := "fnExactCutAge", unfollowed := true, recurses := true, apart := false }
def FnExactCutAgeSaid : Prop := fnExactCutAgeRow.holds Try.pinned (OpenSpec.ofChange fnExactCutAgeSpec)

/-- ITS FALSE NEIGHBOUR: 'it returns false'. Refute it at one input. -/
def fnExactCutAgeWrong : ChangeSpec := { name := "fnExactCutAge", fn := fun _ => fun
  | [d1, d2] => { results := [.lit (.bool false)], args := [d1, d2] }
  | _ => none }
def FnExactCutAgeWrongFalsely : Prop := fnExactCutAgeRow.holds Try.pinned (OpenSpec.ofChange fnExactCutAgeWrong)

/- THE SECOND FORM. 'bulk': how many values and letters a reading holds, each counted each time it is reached (what is shared counts as often as it is met; a slice's spare places count too). A statement '..UptoSaid' is the law's where the arguments, and the package variables that the reading takes, are together of bulk at most 1048576: NARROWER than '..Said'. Prove '..Said' where nothing that the law and all that it calls make is longer than what came in: it says more and counts as full. Else prove '..UptoSaid'. A law counts once. -/
mutual
def uptoBulk {H : Type} : DataW H → Nat
  | .lit (.string bytes) => bytes.length + 1
  | .lit _ => 1
  | .nil => 1
  | .ptr d => uptoBulk d + 1
  | .slice elems spare => uptoBulkAll elems + uptoBulkAll spare + 1
  | .agg parts => uptoBulkAll parts + 1
  | .iface _ d => uptoBulk d + 1
  | .map entries => uptoBulkEntries entries + 1
  | .held _ => 1
def uptoBulkAll {H : Type} : List (DataW H) → Nat
  | [] => 0
  | d :: r => uptoBulk d + uptoBulkAll r
def uptoBulkEntries {H : Type} : List (Lit × DataW H) → Nat
  | [] => 0
  | x :: r => uptoBulkEntry x + uptoBulkEntries r
def uptoBulkEntry {H : Type} : Lit × DataW H → Nat
  | (.string bytes, d) => bytes.length + uptoBulk d + 1
  | (_, d) => uptoBulk d + 1
 end
def uptoSmall : (H : Type) → List (DataW H) → Bool := fun _ ds => decide (uptoBulkAll ds ≤ 1048576)
def OpenSpec.upto (s : _root_.Go.ChangeSpec) : _root_.Go.OpenSpec := { _root_.Go.OpenSpec.ofChange s with cond := some uptoSmall }

/-- 'laws.FnAges', WHERE WHAT IT READS IS OF BULK AT MOST 1048576: true; the input reads as it did. -/
def fnAgesUptoRow : OpenClaim := { program := "ytjnecehogebjkaa", sum := "36777158922fcaca2ec7f3cff5ac9ed6ffb49378a016217ed99812beff9b7fd4", func := "loop.example/g00467/laws.FnAges", spec := "fnAges", unfollowed := true, recurses := true, apart := false, narrowed := true }
def FnAgesUptoSaid : Prop := fnAgesUptoRow.holds Try.pinned (OpenSpec.upto fnAgesSpec)

/-- 'laws.FnCuts', WHERE WHAT IT READS IS OF BULK AT MOST 1048576: true; the input reads as it did. -/
def fnCutsUptoRow : OpenClaim := { program := "ytjnecehogebjkaa", sum := "36777158922fcaca2ec7f3cff5ac9ed6ffb49378a016217ed99812beff9b7fd4", func := "loop.example/g00467/laws.FnCuts", spec := "fnCuts", unfollowed := true, recurses := true, apart := false, narrowed := true }
def FnCutsUptoSaid : Prop := fnCutsUptoRow.holds Try.pinned (OpenSpec.upto fnCutsSpec)

/-- 'laws.FnExactAgesOk', WHERE WHAT IT READS IS OF BULK AT MOST 1048576: true; the input reads as it did. -/
def fnExactAgesOkUptoRow : OpenClaim := { program := "ytjnecehogebjkaa", sum := "36777158922fcaca2ec7f3cff5ac9ed6ffb49378a016217ed99812beff9b7fd4", func := "loop.example/g00467/laws.FnExactAgesOk", spec := "fnExactAgesOk", unfollowed := true, recurses := true, apart := false, narrowed := true }
def FnExactAgesOkUptoSaid : Prop := fnExactAgesOkUptoRow.holds Try.pinned (OpenSpec.upto fnExactAgesOkSpec)

/-- 'laws.FnExactAgeAt', WHERE WHAT IT READS IS OF BULK AT MOST 1048576: true; the input reads as it did. -/
def fnExactAgeAtUptoRow : OpenClaim := { program := "ytjnecehogebjkaa", sum := "36777158922fcaca2ec7f3cff5ac9ed6ffb49378a016217ed99812beff9b7fd4", func := "loop.example/g00467/laws.FnExactAgeAt", spec := "fnExactAgeAt", apart := false, narrowed := true }
def FnExactAgeAtUptoSaid : Prop := fnExactAgeAtUptoRow.holds Try.pinned (OpenSpec.upto fnExactAgeAtSpec)

/-- 'laws.FnExactIsFrom', WHERE WHAT IT READS IS OF BULK AT MOST 1048576: true; the input reads as it did. -/
def fnExactIsFromUptoRow : OpenClaim := { program := "ytjnecehogebjkaa", sum := "36777158922fcaca2ec7f3cff5ac9ed6ffb49378a016217ed99812beff9b7fd4", func := "loop.example/g00467/laws.FnExactIsFrom", spec := "fnExactIsFrom", apart := false, narrowed := true }
def FnExactIsFromUptoSaid : Prop := fnExactIsFromUptoRow.holds Try.pinned (OpenSpec.upto fnExactIsFromSpec)

/-- 'laws.FnExactKidsOf', WHERE WHAT IT READS IS OF BULK AT MOST 1048576: true; the input reads as it did. -/
def fnExactKidsOfUptoRow : OpenClaim := { program := "ytjnecehogebjkaa", sum := "36777158922fcaca2ec7f3cff5ac9ed6ffb49378a016217ed99812beff9b7fd4", func := "loop.example/g00467/laws.FnExactKidsOf", spec := "fnExactKidsOf", apart := false, narrowed := true }
def FnExactKidsOfUptoSaid : Prop := fnExactKidsOfUptoRow.holds Try.pinned (OpenSpec.upto fnExactKidsOfSpec)

/-- 'laws.FnExactNewAge', WHERE WHAT IT READS IS OF BULK AT MOST 1048576: true; the input reads as it did. -/
def fnExactNewAgeUptoRow : OpenClaim := { program := "ytjnecehogebjkaa", sum := "36777158922fcaca2ec7f3cff5ac9ed6ffb49378a016217ed99812beff9b7fd4", func := "loop.example/g00467/laws.FnExactNewAge", spec := "fnExactNewAge", unfollowed := true, recurses := true, apart := false, narrowed := true }
def FnExactNewAgeUptoSaid : Prop := fnExactNewAgeUptoRow.holds Try.pinned (OpenSpec.upto fnExactNewAgeSpec)

/-- 'laws.FnExactCutAge', WHERE WHAT IT READS IS OF BULK AT MOST 1048576: true; the input reads as it did. -/
def fnExactCutAgeUptoRow : OpenClaim := { program := "ytjnecehogebjkaa", sum := "36777158922fcaca2ec7f3cff5ac9ed6ffb49378a016217ed99812beff9b7fd4", func := "loop.example/g00467/laws.FnExactCutAge", spec := "fnExactCutAge", unfollowed := true, recurses := true, apart := false, narrowed := true }
def FnExactCutAgeUptoSaid : Prop := fnExactCutAgeUptoRow.holds Try.pinned (OpenSpec.upto fnExactCutAgeSpec)

end Rows
end Go.Proofs.Ytjnecehogebjkaa
