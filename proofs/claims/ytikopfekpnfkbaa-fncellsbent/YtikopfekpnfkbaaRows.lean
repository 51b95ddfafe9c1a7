/-
  No cell of these rows narrows 'for every input' (looked for: loops, veiled, ifaces, maps, wideKeys, modest, calm, conditions, laid).
  DERIVED. THE GIVEN ROWS OF THIS SEAT. 8 by the template 'for every input the law returns true; each argument reads behind the call as it read before'; 0 by the template 'total and deterministic' (their statements: YtikopfekpnfkbaaTotals.lean).
  GIVEN WITH THE SEED: the statements are not yours to turn. If you find one false, say at which input.
  Laid BY PROGRAM, IN A SANDBOX (cutbox-rows.mjs): the forced cells as the released guide's own fill.sh prints them over the translation ef6fb82ffc0b71b9… (all of the seat's roots in one cut). By AI agents, Wed Nov 11 2026. No macro, syntax, notation, axiom, sorry.
-/
import Derived.Test.YtikopfekpnfkbaaChecked
import GoSem.Claim
import GoSem.ClaimJoined
import GoSem.ClaimMapViews
import Derived.JoinedTies
import Derived.KernelRfl
namespace Go.Proofs.Ytikopfekpnfkbaa
/- THE CELL 'sum', in the pinned program and in every row, IS THE sha256 OF THE DUMP (.gsa) THAT YtikopfekpnfkbaaProg.lean LOADS. Nothing in Lean hashes anything: it is a label: what it is worth is what the hold of that sum in a sandbox is worth. -/
noncomputable def Try.pinned : Pinned := { name := "ytikopfekpnfkbaa", sum := "ef6fb82ffc0b71b916f31295bc0fb34bcc4db0a74867d35d88f489c089544a12", checked := Try.checked }
namespace Rows
def none {H : Type} : Left H := { results := [], args := [] }

/-- 'laws.FnCells': WHATEVER THE INPUT: true; the input reads as it did. -/
def fnCellsSpec : ChangeSpec := { name := "fnCells", fn := fun _ => fun
  | [d] => { results := [.lit (.bool true)], args := [d] }
  | _ => none }
def fnCellsRow : OpenClaim := { program := "ytikopfekpnfkbaa", sum := "ef6fb82ffc0b71b916f31295bc0fb34bcc4db0a74867d35d88f489c089544a12", func := "loop.example/g00467/laws.FnCells", spec := "fnCells", unfollowed := true, recurses := true, apart := false }
def FnCellsSaid : Prop := fnCellsRow.holds Try.pinned (OpenSpec.ofChange fnCellsSpec)

/-- ITS FALSE NEIGHBOUR: 'it returns false'. Refute it at one input. -/
def fnCellsWrong : ChangeSpec := { name := "fnCells", fn := fun _ => fun
  | [d] => { results := [.lit (.bool false)], args := [d] }
  | _ => none }
def FnCellsWrongFalsely : Prop := fnCellsRow.holds Try.pinned (OpenSpec.ofChange fnCellsWrong)

/-- 'laws.FnCellsBent': WHATEVER THE INPUT: true; the input reads as it did. -/
def fnCellsBentSpec : ChangeSpec := { name := "fnCellsBent", fn := fun _ => fun
  | [d] => { results := [.lit (.bool true)], args := [d] }
  | _ => none }
def fnCellsBentRow : OpenClaim := { program := "ytikopfekpnfkbaa", sum := "ef6fb82ffc0b71b916f31295bc0fb34bcc4db0a74867d35d88f489c089544a12", func := "loop.example/g00467/laws.FnCellsBent", spec := "fnCellsBent", apart := false }
def FnCellsBentSaid : Prop := fnCellsBentRow.holds Try.pinned (OpenSpec.ofChange fnCellsBentSpec)

/-- ITS FALSE NEIGHBOUR: 'it returns false'. Refute it at one input. -/
def fnCellsBentWrong : ChangeSpec := { name := "fnCellsBent", fn := fun _ => fun
  | [d] => { results := [.lit (.bool false)], args := [d] }
  | _ => none }
def FnCellsBentWrongFalsely : Prop := fnCellsBentRow.holds Try.pinned (OpenSpec.ofChange fnCellsBentWrong)

/-- 'laws.FnExactCellsNew': WHATEVER THE INPUT: true; the input reads as it did. -/
def fnExactCellsNewSpec : ChangeSpec := { name := "fnExactCellsNew", fn := fun _ => fun
  | [] => { results := [.lit (.bool true)], args := [] }
  | _ => none }
def fnExactCellsNewRow : OpenClaim := { program := "ytikopfekpnfkbaa", sum := "ef6fb82ffc0b71b916f31295bc0fb34bcc4db0a74867d35d88f489c089544a12", func := "loop.example/g00467/laws.FnExactCellsNew", spec := "fnExactCellsNew", apart := false }
def FnExactCellsNewSaid : Prop := fnExactCellsNewRow.holds Try.pinned (OpenSpec.ofChange fnExactCellsNewSpec)

/-- ITS FALSE NEIGHBOUR: 'it returns false'. Refute it at one input. -/
def fnExactCellsNewWrong : ChangeSpec := { name := "fnExactCellsNew", fn := fun _ => fun
  | [] => { results := [.lit (.bool false)], args := [] }
  | _ => none }
def FnExactCellsNewWrongFalsely : Prop := fnExactCellsNewRow.holds Try.pinned (OpenSpec.ofChange fnExactCellsNewWrong)

/-- 'laws.FnExactCellsOk': WHATEVER THE INPUT: true; the input reads as it did. -/
def fnExactCellsOkSpec : ChangeSpec := { name := "fnExactCellsOk", fn := fun _ => fun
  | [d] => { results := [.lit (.bool true)], args := [d] }
  | _ => none }
def fnExactCellsOkRow : OpenClaim := { program := "ytikopfekpnfkbaa", sum := "ef6fb82ffc0b71b916f31295bc0fb34bcc4db0a74867d35d88f489c089544a12", func := "loop.example/g00467/laws.FnExactCellsOk", spec := "fnExactCellsOk", apart := false }
def FnExactCellsOkSaid : Prop := fnExactCellsOkRow.holds Try.pinned (OpenSpec.ofChange fnExactCellsOkSpec)

/-- ITS FALSE NEIGHBOUR: 'it returns false'. Refute it at one input. -/
def fnExactCellsOkWrong : ChangeSpec := { name := "fnExactCellsOk", fn := fun _ => fun
  | [d] => { results := [.lit (.bool false)], args := [d] }
  | _ => none }
def FnExactCellsOkWrongFalsely : Prop := fnExactCellsOkRow.holds Try.pinned (OpenSpec.ofChange fnExactCellsOkWrong)

/-- 'laws.FnExactTakeCell': WHATEVER THE INPUT: true; the input reads as it did. -/
def fnExactTakeCellSpec : ChangeSpec := { name := "fnExactTakeCell", fn := fun _ => fun
  | [d1, d2] => { results := [.lit (.bool true)], args := [d1, d2] }
  | _ => none }
def fnExactTakeCellRow : OpenClaim := { program := "ytikopfekpnfkbaa", sum := "ef6fb82ffc0b71b916f31295bc0fb34bcc4db0a74867d35d88f489c089544a12", func := "loop.example/g00467/laws.FnExactTakeCell", spec := "fnExactTakeCell", unfollowed := true, recurses := true, apart := false }
def FnExactTakeCellSaid : Prop := fnExactTakeCellRow.holds Try.pinned (OpenSpec.ofChange fnExactTakeCellSpec)

/-- ITS FALSE NEIGHBOUR: 'it returns false'. Refute it at one input. -/
def fnExactTakeCellWrong : ChangeSpec := { name := "fnExactTakeCell", fn := fun _ => fun
  | [d1, d2] => { results := [.lit (.bool false)], args := [d1, d2] }
  | _ => none }
def FnExactTakeCellWrongFalsely : Prop := fnExactTakeCellRow.holds Try.pinned (OpenSpec.ofChange fnExactTakeCellWrong)

/-- 'laws.FnExactFreeCell': WHATEVER THE INPUT: true; the input reads as it did. -/
def fnExactFreeCellSpec : ChangeSpec := { name := "fnExactFreeCell", fn := fun _ => fun
  | [d1, d2] => { results := [.lit (.bool true)], args := [d1, d2] }
  | _ => none }
def fnExactFreeCellRow : OpenClaim := { program := "ytikopfekpnfkbaa", sum := "ef6fb82ffc0b71b916f31295bc0fb34bcc4db0a74867d35d88f489c089544a12", func := "loop.example/g00467/laws.FnExactFreeCell", spec := "fnExactFreeCell", apart := false }
def FnExactFreeCellSaid : Prop := fnExactFreeCellRow.holds Try.pinned (OpenSpec.ofChange fnExactFreeCellSpec)

/-- ITS FALSE NEIGHBOUR: 'it returns false'. Refute it at one input. -/
def fnExactFreeCellWrong : ChangeSpec := { name := "fnExactFreeCell", fn := fun _ => fun
  | [d1, d2] => { results := [.lit (.bool false)], args := [d1, d2] }
  | _ => none }
def FnExactFreeCellWrongFalsely : Prop := fnExactFreeCellRow.holds Try.pinned (OpenSpec.ofChange fnExactFreeCellWrong)

/-- 'laws.FnExactCellAt': WHATEVER THE INPUT: true; the input reads as it did. -/
def fnExactCellAtSpec : ChangeSpec := { name := "fnExactCellAt", fn := fun _ => fun
  | [d1, d2, d3] => { results := [.lit (.bool true)], args := [d1, d2, d3] }
  | _ => none }
def fnExactCellAtRow : OpenClaim := { program := "ytikopfekpnfkbaa", sum := "ef6fb82ffc0b71b916f31295bc0fb34bcc4db0a74867d35d88f489c089544a12", func := "loop.example/g00467/laws.FnExactCellAt", spec := "fnExactCellAt", apart := false }
def FnExactCellAtSaid : Prop := fnExactCellAtRow.holds Try.pinned (OpenSpec.ofChange fnExactCellAtSpec)

/-- ITS FALSE NEIGHBOUR: 'it returns false'. Refute it at one input. -/
def fnExactCellAtWrong : ChangeSpec := { name := "fnExactCellAt", fn := fun _ => fun
  | [d1, d2, d3] => { results := [.lit (.bool false)], args := [d1, d2, d3] }
  | _ => none }
def FnExactCellAtWrongFalsely : Prop := fnExactCellAtRow.holds Try.pinned (OpenSpec.ofChange fnExactCellAtWrong)

/-- 'laws.FnExactUsedCells': WHATEVER THE INPUT: true; the input reads as it did. -/
def fnExactUsedCellsSpec : ChangeSpec := { name := "fnExactUsedCells", fn := fun _ => fun
  | [d] => { results := [.lit (.bool true)], args := [d] }
  | _ => none }
def fnExactUsedCellsRow : OpenClaim := { program := "ytikopfekpnfkbaa", sum := "ef6fb82ffc0b71b916f31295bc0fb34bcc4db0a74867d35d88f489c089544a12", func := "loop.example/g00467/laws.FnExactUsedCells", spec := "fnExactUsedCells", apart := false }
def FnExactUsedCellsSaid : Prop := fnExactUsedCellsRow.holds Try.pinned (OpenSpec.ofChange fnExactUsedCellsSpec)

/-- ITS FALSE NEIGHBOUR: 'it returns false'. Refute it at one input. -/
def fnExactUsedCellsWrong : ChangeSpec := { name := "fnExactUsedCells", fn := fun _ => fun
  | [d] => { results := [.lit (.bool false)], args := [d] }
  | _ => none }
def FnExactUsedCellsWrongFalsely : Prop := fnExactUsedCellsRow.holds Try.pinned (OpenSpec.ofChange fnExactUsedCellsWrong)

/- THE SECOND FORM. 'bulk': how many values and letters a reading holds, each counted each time it is reached (what is shared counts as often as it is met; a slice's spare places count too). A statement '..UptoSaid' is the law's where the arguments, and the package variables that the reading takes, are together of bulk at most 1048576: NARROWER than '..Said'. Prove '..Said' where nothing that the law and all that it calls make is longer than what came in: it says more and counts as full. Else prove '..UptoSaid'. A law counts once. -/
mutual
def uptoBulk {H : Type} : DataW H → Nat
  | .lit (.string bytes) => bytes.length + 1
  | .lit _ => 1
  | .nil => 1
  | .ptr d => uptoBulk d + 1
  | .slice elems spare => uptoBulkAll elems + uptoBulkAll spare + 1
  | .agg parts => uptoBulkAll parts + 1
  | .iface _ d => uptoBulk d + 1
  | .map entries => uptoBulkEntries entries + 1
  | .held _ => 1
def uptoBulkAll {H : Type} : List (DataW H) → Nat
  | [] => 0
  | d :: r => uptoBulk d + uptoBulkAll r
def uptoBulkEntries {H : Type} : List (Lit × DataW H) → Nat
  | [] => 0
  | x :: r => uptoBulkEntry x + uptoBulkEntries r
def uptoBulkEntry {H : Type} : Lit × DataW H → Nat
  | (.string bytes, d) => bytes.length + uptoBulk d + 1
  | (_, d) => uptoBulk d + 1
 end
def uptoSmall : (H : Type) → List (DataW H) → Bool := fun _ ds => decide (uptoBulkAll ds ≤ 1048576)
def OpenSpec.upto (s : _root_.Go.ChangeSpec) : _root_.Go.OpenSpec := { _root_.Go.OpenSpec.ofChange s with cond := some uptoSmall }

/-- 'laws.FnCells', WHERE WHAT IT READS IS OF BULK AT MOST 1048576: true; the input reads as it did. -/
def fnCellsUptoRow : OpenClaim := { program := "ytikopfekpnfkbaa", sum := "ef6fb82ffc0b71b916f31295bc0fb34bcc4db0a74867d35d88f489c089544a12", func := "loop.example/g00467/laws.FnCells", spec := "fnCells", unfollowed := true, recurses := true, apart := false, narrowed := true }
def FnCellsUptoSaid : Prop := fnCellsUptoRow.holds Try.pinned (OpenSpec.upto fnCellsSpec)

/-- 'laws.FnCellsBent', WHERE WHAT IT READS IS OF BULK AT MOST 1048576: true; the input reads as it did. -/
def fnCellsBentUptoRow : OpenClaim := { program := "ytikopfekpnfkbaa", sum := "ef6fb82ffc0b71b916f31295bc0fb34bcc4db0a74867d35d88f489c089544a12", func := "loop.example/g00467/laws.FnCellsBent", spec := "fnCellsBent", apart := false, narrowed := true }
def FnCellsBentUptoSaid : Prop := fnCellsBentUptoRow.holds Try.pinned (OpenSpec.upto fnCellsBentSpec)

/-- 'laws.FnExactCellsNew', WHERE WHAT IT READS IS OF BULK AT MOST 1048576: true; the input reads as it did. -/
def fnExactCellsNewUptoRow : OpenClaim := { program := "ytikopfekpnfkbaa", sum := "ef6fb82ffc0b71b916f31295bc0fb34bcc4db0a74867d35d88f489c089544a12", func := "loop.example/g00467/laws.FnExactCellsNew", spec := "fnExactCellsNew", apart := false, narrowed := true }
def FnExactCellsNewUptoSaid : Prop := fnExactCellsNewUptoRow.holds Try.pinned (OpenSpec.upto fnExactCellsNewSpec)

/-- 'laws.FnExactCellsOk', WHERE WHAT IT READS IS OF BULK AT MOST 1048576: true; the input reads as it did. -/
def fnExactCellsOkUptoRow : OpenClaim := { program := "ytikopfekpnfkbaa", sum := "ef6fb82ffc0b71b916f31295bc0fb34bcc4db0a74867d35d88f489c089544a12", func := "loop.example/g00467/laws.FnExactCellsOk", spec := "fnExactCellsOk", apart := false, narrowed := true }
def FnExactCellsOkUptoSaid : Prop := fnExactCellsOkUptoRow.holds Try.pinned (OpenSpec.upto fnExactCellsOkSpec)

/-- 'laws.FnExactTakeCell', WHERE WHAT IT READS IS OF BULK AT MOST 1048576: true; the input reads as it did. -/
def fnExactTakeCellUptoRow : OpenClaim := { program := "ytikopfekpnfkbaa", sum := "ef6fb82ffc0b71b916f31295bc0fb34bcc4db0a74867d35d88f489c089544a12", func := "loop.example/g00467/laws.FnExactTakeCell", spec := "fnExactTakeCell", unfollowed := true, recurses := true, apart := false, narrowed := true }
def FnExactTakeCellUptoSaid : Prop := fnExactTakeCellUptoRow.holds Try.pinned (OpenSpec.upto fnExactTakeCellSpec)

/-- 'laws.FnExactFreeCell', WHERE WHAT IT READS IS OF BULK AT MOST 1048576: true; the input reads as it did. -/
def fnExactFreeCellUptoRow : OpenClaim := { program := "ytikopfekpnfkbaa", sum := "ef6fb82ffc0b71b916f31295bc0fb34bcc4db0a74867d35d88f489c089544a12", func := "loop.example/g00467/laws.FnExactFreeCell", spec := "fnExactFreeCell", apart := false, narrowed := true }
def FnExactFreeCellUptoSaid : Prop := fnExactFreeCellUptoRow.holds Try.pinned (OpenSpec.upto fnExactFreeCellSpec)

/-- 'laws.FnExactCellAt', WHERE WHAT IT READS IS OF BULK AT MOST 1048576: true; the input reads as it did. -/
def fnExactCellAtUptoRow : OpenClaim := { program := "ytikopfekpnfkbaa", sum := "ef6fb82ffc0b71b916f31295bc0fb34bcc4db0a74867d35d88f489c089544a12", func := "loop.example/g00467/laws.FnExactCellAt", spec := "fnExactCellAt", apart := false, narrowed := true }
def FnExactCellAtUptoSaid : Prop := fnExactCellAtUptoRow.holds Try.pinned (OpenSpec.upto fnExactCellAtSpec)

/-- 'laws.FnExactUsedCells', WHERE WHAT IT READS IS OF BULK AT MOST 1048576: true; the input reads as it did. -/
def fnExactUsedCellsUptoRow : OpenClaim := { program := "ytikopfekpnfkbaa", sum := "ef6fb82ffc0b71b916f31295bc0fb34bcc4db0a74867d35d88f489c089544a12", func := "loop.example/g00467/laws.FnExactUsedCells", spec := "fnExactUsedCells", apart := false, narrowed := true }
def FnExactUsedCellsUptoSaid : Prop := fnExactUsedCellsUptoRow.holds Try.pinned (OpenSpec.upto fnExactUsedCellsSpec)

end Rows
end Go.Proofs.Ytikopfekpnfkbaa
