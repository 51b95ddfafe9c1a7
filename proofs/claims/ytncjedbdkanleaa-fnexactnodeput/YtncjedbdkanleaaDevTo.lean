/- Contracts for copying a device out of the arguments: laws.toByteSS, toWr, toWrS, toDev return a value of new memory that reads alike. Conditions: no slice holds more than 2^20 elements. -/
import Derived.Test.YtncjedbdkanleaaDevD
import Derived.StillTailTactics
namespace Go.Proofs.Ytncjedbdkanleaa
open Go.RowKit
set_option maxRecDepth 100000
set_option linter.unusedSimpArgs false
set_option linter.unusedVariables false

theorem bs_info : (Try.prog.info? 22).map (fun i => (i.zero, i.size, i.bytes)) = some (some (.slice none 0 0), 1, 24) := by kernel_rfl
theorem size_made1 (z : Value) (n : Nat) : (madeCells #[z] n).size = n * 1 := by simp [size_madeCells]
def NewV (w : World) (c : Dat) (e : Ending) (w' : World) : Prop := ∃ v, e = .returned v ∧ Owns w' (fun b => w.heap.size ≤ b) v c ∧ Below w.heap.size w w'
def NewWr (w : World) (n : Int) (l : List UInt8) (e : Ending) (w' : World) : Prop := ∃ v, e = .returned (.agg #[.int .i64 n, v]) ∧ Owns w' (fun b => w.heap.size ≤ b) v (bytesD l) ∧ Below w.heap.size w w'
end Go.Proofs.Ytncjedbdkanleaa
