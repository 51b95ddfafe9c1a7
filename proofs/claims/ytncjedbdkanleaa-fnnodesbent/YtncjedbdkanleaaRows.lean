/-
  No cell of these rows narrows 'for every input' (looked for: loops, veiled, ifaces, maps, wideKeys, modest, calm, conditions, laid).
  DERIVED. THE GIVEN ROWS OF THIS SEAT. 8 by the template 'for every input the law returns true; each argument reads behind the call as it read before'; 0 by the template 'total and deterministic' (their statements: YtncjedbdkanleaaTotals.lean).
  GIVEN WITH THE SEED: the statements are not yours to turn. If you find one false, say at which input.
  Laid BY PROGRAM, IN A SANDBOX (cutbox-rows.mjs): the forced cells as the released guide's own fill.sh prints them over the translation 332e0bd8151d8189… (all of the seat's roots in one cut). By AI agents, Wed Nov 11 2026. No macro, syntax, notation, axiom, sorry.
-/
import Derived.Test.YtncjedbdkanleaaChecked
import GoSem.Claim
import GoSem.ClaimJoined
import GoSem.ClaimMapViews
import Derived.JoinedTies
import Derived.KernelRfl
namespace Go.Proofs.Ytncjedbdkanleaa
/- THE CELL 'sum', in the pinned program and in every row, IS THE sha256 OF THE DUMP (.gsa) THAT YtncjedbdkanleaaProg.lean LOADS. Nothing in Lean hashes anything: it is a label: what it is worth is what the hold of that sum in a sandbox is worth. -/
noncomputable def Try.pinned : Pinned := { name := "ytncjedbdkanleaa", sum := "332e0bd8151d8189bc55e19f6146f5b666b086caf1ad74f98a26e3a351d79edb", checked := Try.checked }
namespace Rows
def none {H : Type} : Left H := { results := [], args := [] }

/-- 'laws.FnNodes': WHATEVER THE INPUT: true; the input reads as it did. -/
def fnNodesSpec : ChangeSpec := { name := "fnNodes", fn := fun _ => fun
  | [d] => { results := [.lit (.bool true)], args := [d] }
  | _ => none }
def fnNodesRow : OpenClaim := { program := "ytncjedbdkanleaa", sum := "332e0bd8151d8189bc55e19f6146f5b666b086caf1ad74f98a26e3a351d79edb", func := "loop.example/g00467/laws.FnNodes", spec := "fnNodes", unfollowed := true, recurses := true, apart := false }
def FnNodesSaid : Prop := fnNodesRow.holds Try.pinned (OpenSpec.ofChange fnNodesSpec)

/-- ITS FALSE NEIGHBOUR: 'it returns false'. Refute it at one input. -/
def fnNodesWrong : ChangeSpec := { name := "fnNodes", fn := fun _ => fun
  | [d] => { results := [.lit (.bool false)], args := [d] }
  | _ => none }
def FnNodesWrongFalsely : Prop := fnNodesRow.holds Try.pinned (OpenSpec.ofChange fnNodesWrong)

/-- 'laws.FnNodesBent': WHATEVER THE INPUT: true; the input reads as it did. -/
def fnNodesBentSpec : ChangeSpec := { name := "fnNodesBent", fn := fun _ => fun
  | [d] => { results := [.lit (.bool true)], args := [d] }
  | _ => none }
def fnNodesBentRow : OpenClaim := { program := "ytncjedbdkanleaa", sum := "332e0bd8151d8189bc55e19f6146f5b666b086caf1ad74f98a26e3a351d79edb", func := "loop.example/g00467/laws.FnNodesBent", spec := "fnNodesBent", unfollowed := true, recurses := true, apart := false }
def FnNodesBentSaid : Prop := fnNodesBentRow.holds Try.pinned (OpenSpec.ofChange fnNodesBentSpec)

/-- ITS FALSE NEIGHBOUR: 'it returns false'. Refute it at one input. -/
def fnNodesBentWrong : ChangeSpec := { name := "fnNodesBent", fn := fun _ => fun
  | [d] => { results := [.lit (.bool false)], args := [d] }
  | _ => none }
def FnNodesBentWrongFalsely : Prop := fnNodesBentRow.holds Try.pinned (OpenSpec.ofChange fnNodesBentWrong)

/-- 'laws.FnExactNodeOk': WHATEVER THE INPUT: true; the input reads as it did. -/
def fnExactNodeOkSpec : ChangeSpec := { name := "fnExactNodeOk", fn := fun _ => fun
  | [d] => { results := [.lit (.bool true)], args := [d] }
  | _ => none }
def fnExactNodeOkRow : OpenClaim := { program := "ytncjedbdkanleaa", sum := "332e0bd8151d8189bc55e19f6146f5b666b086caf1ad74f98a26e3a351d79edb", func := "loop.example/g00467/laws.FnExactNodeOk", spec := "fnExactNodeOk", unfollowed := true, recurses := true, apart := false }
def FnExactNodeOkSaid : Prop := fnExactNodeOkRow.holds Try.pinned (OpenSpec.ofChange fnExactNodeOkSpec)

/-- ITS FALSE NEIGHBOUR: 'it returns false'. Refute it at one input. -/
def fnExactNodeOkWrong : ChangeSpec := { name := "fnExactNodeOk", fn := fun _ => fun
  | [d] => { results := [.lit (.bool false)], args := [d] }
  | _ => none }
def FnExactNodeOkWrongFalsely : Prop := fnExactNodeOkRow.holds Try.pinned (OpenSpec.ofChange fnExactNodeOkWrong)

/-- 'laws.FnExactNodeAt': WHATEVER THE INPUT: true; the input reads as it did. -/
def fnExactNodeAtSpec : ChangeSpec := { name := "fnExactNodeAt", fn := fun _ => fun
  | [d1, d2, d3] => { results := [.lit (.bool true)], args := [d1, d2, d3] }
  | _ => none }
def fnExactNodeAtRow : OpenClaim := { program := "ytncjedbdkanleaa", sum := "332e0bd8151d8189bc55e19f6146f5b666b086caf1ad74f98a26e3a351d79edb", func := "loop.example/g00467/laws.FnExactNodeAt", spec := "fnExactNodeAt", unfollowed := true, recurses := true, apart := false }
def FnExactNodeAtSaid : Prop := fnExactNodeAtRow.holds Try.pinned (OpenSpec.ofChange fnExactNodeAtSpec)

/-- ITS FALSE NEIGHBOUR: 'it returns false'. Refute it at one input. -/
def fnExactNodeAtWrong : ChangeSpec := { name := "fnExactNodeAt", fn := fun _ => fun
  | [d1, d2, d3] => { results := [.lit (.bool false)], args := [d1, d2, d3] }
  | _ => none }
def FnExactNodeAtWrongFalsely : Prop := fnExactNodeAtRow.holds Try.pinned (OpenSpec.ofChange fnExactNodeAtWrong)

/-- 'laws.FnExactNodeKeys': WHATEVER THE INPUT: true; the input reads as it did. -/
def fnExactNodeKeysSpec : ChangeSpec := { name := "fnExactNodeKeys", fn := fun _ => fun
  | [d] => { results := [.lit (.bool true)], args := [d] }
  | _ => none }
def fnExactNodeKeysRow : OpenClaim := { program := "ytncjedbdkanleaa", sum := "332e0bd8151d8189bc55e19f6146f5b666b086caf1ad74f98a26e3a351d79edb", func := "loop.example/g00467/laws.FnExactNodeKeys", spec := "fnExactNodeKeys", unfollowed := true, recurses := true, apart := false }
def FnExactNodeKeysSaid : Prop := fnExactNodeKeysRow.holds Try.pinned (OpenSpec.ofChange fnExactNodeKeysSpec)

/-- ITS FALSE NEIGHBOUR: 'it returns false'. Refute it at one input. -/
def fnExactNodeKeysWrong : ChangeSpec := { name := "fnExactNodeKeys", fn := fun _ => fun
  | [d] => { results := [.lit (.bool false)], args := [d] }
  | _ => none }
def FnExactNodeKeysWrongFalsely : Prop := fnExactNodeKeysRow.holds Try.pinned (OpenSpec.ofChange fnExactNodeKeysWrong)

/-- 'laws.FnExactNodePut': WHATEVER THE INPUT: true; the input reads as it did. -/
def fnExactNodePutSpec : ChangeSpec := { name := "fnExactNodePut", fn := fun _ => fun
  | [d1, d2] => { results := [.lit (.bool true)], args := [d1, d2] }
  | _ => none }
def fnExactNodePutRow : OpenClaim := { program := "ytncjedbdkanleaa", sum := "332e0bd8151d8189bc55e19f6146f5b666b086caf1ad74f98a26e3a351d79edb", func := "loop.example/g00467/laws.FnExactNodePut", spec := "fnExactNodePut", unfollowed := true, recurses := true, apart := false }
def FnExactNodePutSaid : Prop := fnExactNodePutRow.holds Try.pinned (OpenSpec.ofChange fnExactNodePutSpec)

/-- ITS FALSE NEIGHBOUR: 'it returns false'. Refute it at one input. -/
def fnExactNodePutWrong : ChangeSpec := { name := "fnExactNodePut", fn := fun _ => fun
  | [d1, d2] => { results := [.lit (.bool false)], args := [d1, d2] }
  | _ => none }
def FnExactNodePutWrongFalsely : Prop := fnExactNodePutRow.holds Try.pinned (OpenSpec.ofChange fnExactNodePutWrong)

/-- 'laws.FnExactNodeNew': WHATEVER THE INPUT: true; the input reads as it did. -/
def fnExactNodeNewSpec : ChangeSpec := { name := "fnExactNodeNew", fn := fun _ => fun
  | [d] => { results := [.lit (.bool true)], args := [d] }
  | _ => none }
def fnExactNodeNewRow : OpenClaim := { program := "ytncjedbdkanleaa", sum := "332e0bd8151d8189bc55e19f6146f5b666b086caf1ad74f98a26e3a351d79edb", func := "loop.example/g00467/laws.FnExactNodeNew", spec := "fnExactNodeNew", apart := false }
def FnExactNodeNewSaid : Prop := fnExactNodeNewRow.holds Try.pinned (OpenSpec.ofChange fnExactNodeNewSpec)

/-- ITS FALSE NEIGHBOUR: 'it returns false'. Refute it at one input. -/
def fnExactNodeNewWrong : ChangeSpec := { name := "fnExactNodeNew", fn := fun _ => fun
  | [d] => { results := [.lit (.bool false)], args := [d] }
  | _ => none }
def FnExactNodeNewWrongFalsely : Prop := fnExactNodeNewRow.holds Try.pinned (OpenSpec.ofChange fnExactNodeNewWrong)

/-- 'laws.FnExactNodePack': WHATEVER THE INPUT: true; the input reads as it did. -/
def fnExactNodePackSpec : ChangeSpec := { name := "fnExactNodePack", fn := fun _ => fun
  | [d] => { results := [.lit (.bool true)], args := [d] }
  | _ => none }
def fnExactNodePackRow : OpenClaim := { program := "ytncjedbdkanleaa", sum := "332e0bd8151d8189bc55e19f6146f5b666b086caf1ad74f98a26e3a351d79edb", func := "loop.example/g00467/laws.FnExactNodePack", spec := "fnExactNodePack", unfollowed := true, recurses := true, apart := false }
def FnExactNodePackSaid : Prop := fnExactNodePackRow.holds Try.pinned (OpenSpec.ofChange fnExactNodePackSpec)

/-- ITS FALSE NEIGHBOUR: 'it returns false'. Refute it at one input. -/
def fnExactNodePackWrong : ChangeSpec := { name := "fnExactNodePack", fn := fun _ => fun
  | [d] => { results := [.lit (.bool false)], args := [d] }
  | _ => none }
def FnExactNodePackWrongFalsely : Prop := fnExactNodePackRow.holds Try.pinned (OpenSpec.ofChange fnExactNodePackWrong)

/- THE SECOND FORM. 'bulk': how many values and letters a reading holds, each counted each time it is reached (what is shared counts as often as it is met; a slice's spare places count too). A statement '..UptoSaid' is the law's where the arguments, and the package variables that the reading takes, are together of bulk at most 1048576: NARROWER than '..Said'. Prove '..Said' where nothing that the law and all that it calls make is longer than what came in: it says more and counts as full. Else prove '..UptoSaid'. A law counts once. -/
mutual
def uptoBulk {H : Type} : DataW H → Nat
  | .lit (.string bytes) => bytes.length + 1
  | .lit _ => 1
  | .nil => 1
  | .ptr d => uptoBulk d + 1
  | .slice elems spare => uptoBulkAll elems + uptoBulkAll spare + 1
  | .agg parts => uptoBulkAll parts + 1
  | .iface _ d => uptoBulk d + 1
  | .map entries => uptoBulkEntries entries + 1
  | .held _ => 1
def uptoBulkAll {H : Type} : List (DataW H) → Nat
  | [] => 0
  | d :: r => uptoBulk d + uptoBulkAll r
def uptoBulkEntries {H : Type} : List (Lit × DataW H) → Nat
  | [] => 0
  | x :: r => uptoBulkEntry x + uptoBulkEntries r
def uptoBulkEntry {H : Type} : Lit × DataW H → Nat
  | (.string bytes, d) => bytes.length + uptoBulk d + 1
  | (_, d) => uptoBulk d + 1
 end
def uptoSmall : (H : Type) → List (DataW H) → Bool := fun _ ds => decide (uptoBulkAll ds ≤ 1048576)
def OpenSpec.upto (s : _root_.Go.ChangeSpec) : _root_.Go.OpenSpec := { _root_.Go.OpenSpec.ofChange s with cond := some uptoSmall }

/-- 'laws.FnNodes', WHERE WHAT IT READS IS OF BULK AT MOST 1048576: true; the input reads as it did. -/
def fnNodesUptoRow : OpenClaim := { program := "ytncjedbdkanleaa", sum := "332e0bd8151d8189bc55e19f6146f5b666b086caf1ad74f98a26e3a351d79edb", func := "loop.example/g00467/laws.FnNodes", spec := "fnNodes", unfollowed := true, recurses := true, apart := false, narrowed := true }
def FnNodesUptoSaid : Prop := fnNodesUptoRow.holds Try.pinned (OpenSpec.upto fnNodesSpec)

/-- 'laws.FnNodesBent', WHERE WHAT IT READS IS OF BULK AT MOST 1048576: true; the input reads as it did. -/
def fnNodesBentUptoRow : OpenClaim := { program := "ytncjedbdkanleaa", sum := "332e0bd8151d8189bc55e19f6146f5b666b086caf1ad74f98a26e3a351d79edb", func := "loop.example/g00467/laws.FnNodesBent", spec := "fnNodesBent", unfollowed := true, recurses := true, apart := false, narrowed := true }
def FnNodesBentUptoSaid : Prop := fnNodesBentUptoRow.holds Try.pinned (OpenSpec.upto fnNodesBentSpec)

/-- 'laws.FnExactNodeOk', WHERE WHAT IT READS IS OF BULK AT MOST 1048576: true; the input reads as it did. -/
def fnExactNodeOkUptoRow : OpenClaim := { program := "ytncjedbdkanleaa", sum := "332e0bd8151d8189bc55e19f6146f5b666b086caf1ad74f98a26e3a351d79edb", func := "loop.example/g00467/laws.FnExactNodeOk", spec := "fnExactNodeOk", unfollowed := true, recurses := true, apart := false, narrowed := true }
def FnExactNodeOkUptoSaid : Prop := fnExactNodeOkUptoRow.holds Try.pinned (OpenSpec.upto fnExactNodeOkSpec)

/-- 'laws.FnExactNodeAt', WHERE WHAT IT READS IS OF BULK AT MOST 1048576: true; the input reads as it did. -/
def fnExactNodeAtUptoRow : OpenClaim := { program := "ytncjedbdkanleaa", sum := "332e0bd8151d8189bc55e19f6146f5b666b086caf1ad74f98a26e3a351d79edb", func := "loop.example/g00467/laws.FnExactNodeAt", spec := "fnExactNodeAt", unfollowed := true, recurses := true, apart := false, narrowed := true }
def FnExactNodeAtUptoSaid : Prop := fnExactNodeAtUptoRow.holds Try.pinned (OpenSpec.upto fnExactNodeAtSpec)

/-- 'laws.FnExactNodeKeys', WHERE WHAT IT READS IS OF BULK AT MOST 1048576: true; the input reads as it did. -/
def fnExactNodeKeysUptoRow : OpenClaim := { program := "ytncjedbdkanleaa", sum := "332e0bd8151d8189bc55e19f6146f5b666b086caf1ad74f98a26e3a351d79edb", func := "loop.example/g00467/laws.FnExactNodeKeys", spec := "fnExactNodeKeys", unfollowed := true, recurses := true, apart := false, narrowed := true }
def FnExactNodeKeysUptoSaid : Prop := fnExactNodeKeysUptoRow.holds Try.pinned (OpenSpec.upto fnExactNodeKeysSpec)

/-- 'laws.FnExactNodePut', WHERE WHAT IT READS IS OF BULK AT MOST 1048576: true; the input reads as it did. -/
def fnExactNodePutUptoRow : OpenClaim := { program := "ytncjedbdkanleaa", sum := "332e0bd8151d8189bc55e19f6146f5b666b086caf1ad74f98a26e3a351d79edb", func := "loop.example/g00467/laws.FnExactNodePut", spec := "fnExactNodePut", unfollowed := true, recurses := true, apart := false, narrowed := true }
def FnExactNodePutUptoSaid : Prop := fnExactNodePutUptoRow.holds Try.pinned (OpenSpec.upto fnExactNodePutSpec)

/-- 'laws.FnExactNodeNew', WHERE WHAT IT READS IS OF BULK AT MOST 1048576: true; the input reads as it did. -/
def fnExactNodeNewUptoRow : OpenClaim := { program := "ytncjedbdkanleaa", sum := "332e0bd8151d8189bc55e19f6146f5b666b086caf1ad74f98a26e3a351d79edb", func := "loop.example/g00467/laws.FnExactNodeNew", spec := "fnExactNodeNew", apart := false, narrowed := true }
def FnExactNodeNewUptoSaid : Prop := fnExactNodeNewUptoRow.holds Try.pinned (OpenSpec.upto fnExactNodeNewSpec)

/-- 'laws.FnExactNodePack', WHERE WHAT IT READS IS OF BULK AT MOST 1048576: true; the input reads as it did. -/
def fnExactNodePackUptoRow : OpenClaim := { program := "ytncjedbdkanleaa", sum := "332e0bd8151d8189bc55e19f6146f5b666b086caf1ad74f98a26e3a351d79edb", func := "loop.example/g00467/laws.FnExactNodePack", spec := "fnExactNodePack", unfollowed := true, recurses := true, apart := false, narrowed := true }
def FnExactNodePackUptoSaid : Prop := fnExactNodePackUptoRow.holds Try.pinned (OpenSpec.upto fnExactNodePackSpec)

end Rows
end Go.Proofs.Ytncjedbdkanleaa
