/-
  No cell of these rows narrows 'for every input' (looked for: loops, veiled, ifaces, maps, wideKeys, modest, calm, conditions, laid).
  DERIVED. THE GIVEN ROWS OF THIS SEAT. 3 by the template 'for every input the law returns true; each argument reads behind the call as it read before'; 0 by the template 'total and deterministic' (their statements: YtpfepcjbhchpcaaGreatTotals.lean).
  GIVEN WITH THE SEED: the statements are not yours to turn. If you find one false, say at which input.
  Laid BY PROGRAM, IN A SANDBOX (cutbox-rows.mjs): the forced cells as the released guide's own fill.sh prints them over the translation 5f94545bab173c6d… (all of the seat's roots in one cut). By AI agents, Wed Nov 11 2026. No macro, syntax, notation, axiom, sorry.
-/
import Derived.Test.YtpfepcjbhchpcaaGreatChecked
import GoSem.Claim
import GoSem.ClaimJoined
import GoSem.ClaimMapViews
import Derived.JoinedTies
import Derived.KernelRfl
namespace Go.Proofs.YtpfepcjbhchpcaaGreat
/- THE CELL 'sum', in the pinned program and in every row, IS THE sha256 OF THE DUMP (.gsa) THAT YtpfepcjbhchpcaaGreatProg.lean LOADS. Nothing in Lean hashes anything: it is a label: what it is worth is what the hold of that sum in a sandbox is worth. -/
noncomputable def Tryz.pinned : Pinned := { name := "ytpfepcjbhchpcaagreat", sum := "5f94545bab173c6d0f4a1d2850dd37c4f11c0650827ce175b93097f33bd66304", checked := Tryz.checked }
namespace Rows
def none {H : Type} : Left H := { results := [], args := [] }

/-- 'laws.FnExactNextStep': WHATEVER THE INPUT: true; the input reads as it did. -/
def fnExactNextStepSpec : ChangeSpec := { name := "fnExactNextStep", fn := fun _ => fun
  | [d] => { results := [.lit (.bool true)], args := [d] }
  | _ => none }
def fnExactNextStepRow : OpenClaim := { program := "ytpfepcjbhchpcaagreat", sum := "5f94545bab173c6d0f4a1d2850dd37c4f11c0650827ce175b93097f33bd66304", func := "loop.example/g00467/laws.FnExactNextStep", spec := "fnExactNextStep", unfollowed := true, recurses := true, apart := false }
def FnExactNextStepSaid : Prop := fnExactNextStepRow.holds Tryz.pinned (OpenSpec.ofChange fnExactNextStepSpec)

/-- ITS FALSE NEIGHBOUR: 'it returns false'. Refute it at one input. -/
def fnExactNextStepWrong : ChangeSpec := { name := "fnExactNextStep", fn := fun _ => fun
  | [d] => { results := [.lit (.bool false)], args := [d] }
  | _ => none }
def FnExactNextStepWrongFalsely : Prop := fnExactNextStepRow.holds Tryz.pinned (OpenSpec.ofChange fnExactNextStepWrong)

/-- 'laws.FnExactPruneStep': WHATEVER THE INPUT: true; the input reads as it did. -/
def fnExactPruneStepSpec : ChangeSpec := { name := "fnExactPruneStep", fn := fun _ => fun
  | [d] => { results := [.lit (.bool true)], args := [d] }
  | _ => none }
def fnExactPruneStepRow : OpenClaim := { program := "ytpfepcjbhchpcaagreat", sum := "5f94545bab173c6d0f4a1d2850dd37c4f11c0650827ce175b93097f33bd66304", func := "loop.example/g00467/laws.FnExactPruneStep", spec := "fnExactPruneStep", unfollowed := true, recurses := true, apart := false }
def FnExactPruneStepSaid : Prop := fnExactPruneStepRow.holds Tryz.pinned (OpenSpec.ofChange fnExactPruneStepSpec)

/-- ITS FALSE NEIGHBOUR: 'it returns false'. Refute it at one input. -/
def fnExactPruneStepWrong : ChangeSpec := { name := "fnExactPruneStep", fn := fun _ => fun
  | [d] => { results := [.lit (.bool false)], args := [d] }
  | _ => none }
def FnExactPruneStepWrongFalsely : Prop := fnExactPruneStepRow.holds Tryz.pinned (OpenSpec.ofChange fnExactPruneStepWrong)

/-- 'laws.FnExactPruneAll': WHATEVER THE INPUT: true; the input reads as it did. -/
def fnExactPruneAllSpec : ChangeSpec := { name := "fnExactPruneAll", fn := fun _ => fun
  | [d] => { results := [.lit (.bool true)], args := [d] }
  | _ => none }
def fnExactPruneAllRow : OpenClaim := { program := "ytpfepcjbhchpcaagreat", sum := "5f94545bab173c6d0f4a1d2850dd37c4f11c0650827ce175b93097f33bd66304", func := "loop.example/g00467/laws.FnExactPruneAll", spec := "fnExactPruneAll", unfollowed := true, recurses := true, apart := false }
def FnExactPruneAllSaid : Prop := fnExactPruneAllRow.holds Tryz.pinned (OpenSpec.ofChange fnExactPruneAllSpec)

/-- ITS FALSE NEIGHBOUR: 'it returns false'. Refute it at one input. -/
def fnExactPruneAllWrong : ChangeSpec := { name := "fnExactPruneAll", fn := fun _ => fun
  | [d] => { results := [.lit (.bool false)], args := [d] }
  | _ => none }
def FnExactPruneAllWrongFalsely : Prop := fnExactPruneAllRow.holds Tryz.pinned (OpenSpec.ofChange fnExactPruneAllWrong)

/- THE SECOND FORM. 'bulk': how many values and letters a reading holds, each counted each time it is reached (what is shared counts as often as it is met; a slice's spare places count too). A statement '..UptoSaid' is the law's where the arguments, and the package variables that the reading takes, are together of bulk at most 1048576: NARROWER than '..Said'. Prove '..Said' where nothing that the law and all that it calls make is longer than what came in: it says more and counts as full. Else prove '..UptoSaid'. A law counts once. -/
mutual
def uptoBulk {H : Type} : DataW H → Nat
  | .lit (.string bytes) => bytes.length + 1
  | .lit _ => 1
  | .nil => 1
  | .ptr d => uptoBulk d + 1
  | .slice elems spare => uptoBulkAll elems + uptoBulkAll spare + 1
  | .agg parts => uptoBulkAll parts + 1
  | .iface _ d => uptoBulk d + 1
  | .map entries => uptoBulkEntries entries + 1
  | .held _ => 1
def uptoBulkAll {H : Type} : List (DataW H) → Nat
  | [] => 0
  | d :: r => uptoBulk d + uptoBulkAll r
def uptoBulkEntries {H : Type} : List (Lit × DataW H) → Nat
  | [] => 0
  | x :: r => uptoBulkEntry x + uptoBulkEntries r
def uptoBulkEntry {H : Type} : Lit × DataW H → Nat
  | (.string bytes, d) => bytes.length + uptoBulk d + 1
  | (_, d) => uptoBulk d + 1
 end
def uptoSmall : (H : Type) → List (DataW H) → Bool := fun _ ds => decide (uptoBulkAll ds ≤ 1048576)
def OpenSpec.upto (s : _root_.Go.ChangeSpec) : _root_.Go.OpenSpec := { _root_.Go.OpenSpec.ofChange s with cond := some uptoSmall }

/-- 'laws.FnExactNextStep', WHERE WHAT IT READS IS OF BULK AT MOST 1048576: true; the input reads as it did. -/
def fnExactNextStepUptoRow : OpenClaim := { program := "ytpfepcjbhchpcaagreat", sum := "5f94545bab173c6d0f4a1d2850dd37c4f11c0650827ce175b93097f33bd66304", func := "loop.example/g00467/laws.FnExactNextStep", spec := "fnExactNextStep", unfollowed := true, recurses := true, apart := false, narrowed := true }
def FnExactNextStepUptoSaid : Prop := fnExactNextStepUptoRow.holds Tryz.pinned (OpenSpec.upto fnExactNextStepSpec)

/-- 'laws.FnExactPruneStep', WHERE WHAT IT READS IS OF BULK AT MOST 1048576: true; the input reads as it did. -/
def fnExactPruneStepUptoRow : OpenClaim := { program := "ytpfepcjbhchpcaagreat", sum := "5f94545bab173c6d0f4a1d2850dd37c4f11c0650827ce175b93097f33bd66304", func := "loop.example/g00467/laws.FnExactPruneStep", spec := "fnExactPruneStep", unfollowed := true, recurses := true, apart := false, narrowed := true }
def FnExactPruneStepUptoSaid : Prop := fnExactPruneStepUptoRow.holds Tryz.pinned (OpenSpec.upto fnExactPruneStepSpec)

/-- 'laws.FnExactPruneAll', WHERE WHAT IT READS IS OF BULK AT MOST 1048576: true; the input reads as it did. -/
def fnExactPruneAllUptoRow : OpenClaim := { program := "ytpfepcjbhchpcaagreat", sum := "5f94545bab173c6d0f4a1d2850dd37c4f11c0650827ce175b93097f33bd66304", func := "loop.example/g00467/laws.FnExactPruneAll", spec := "fnExactPruneAll", unfollowed := true, recurses := true, apart := false, narrowed := true }
def FnExactPruneAllUptoSaid : Prop := fnExactPruneAllUptoRow.holds Tryz.pinned (OpenSpec.upto fnExactPruneAllSpec)

end Rows
end Go.Proofs.YtpfepcjbhchpcaaGreat
