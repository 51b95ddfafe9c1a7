/- The keys of a block, as a plain function. No condition: plain lemmas. -/
import Derived.Test.YthopkhpiikiknaaTreeKeys
namespace Go.Proofs.Ythopkhpiikiknaa
open Go.RowKit
set_option maxRecDepth 100000
set_option linter.unusedSimpArgs false
set_option linter.unusedVariables false

/-- The keys of a block. -/
def keysOfK (ts : List NodeD) (p : Int) : List KeyD := (treeKeysK ts).filter (fun k => k.a == p)
theorem keysOf_len (ts : List NodeD) (p : Int) : (keysOfK ts p).length ≤ sumT ts := Nat.le_trans (List.length_filter_le _ _) (treeKeys_len ts)
theorem keysOf_mem {ts : List NodeD} {p : Int} {k : KeyD} : k ∈ keysOfK ts p ↔ k ∈ treeKeysK ts ∧ k.a = p := by
  unfold keysOfK
  rw [List.mem_filter]
  simp
end Go.Proofs.Ythopkhpiikiknaa
