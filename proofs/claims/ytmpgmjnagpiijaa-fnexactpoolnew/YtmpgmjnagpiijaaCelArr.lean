/- Contracts for impl.cellsOf and impl.CellsNew: cells in an array. Conditions: a list of 24 cells. -/
import Derived.Test.YtmpgmjnagpiijaaCelOk
import Derived.Test.YtmpgmjnagpiijaaArr
namespace Go.Proofs.Ytmpgmjnagpiijaa
open Go.RowKit
set_option maxRecDepth 100000
set_option linter.unusedSimpArgs false
set_option linter.unusedVariables false

def noCells : List CelD := List.replicate 24 ⟨0, false, 0⟩
def zeroA : Array Value := (celvl noCells).toArray
theorem arr_info : (Try.prog.info? 92).map (fun i => (i.zero, i.size)) = some (some (.agg zeroA), 72) := by kernel_rfl
theorem arr_size {c : Array Value} (h : c.size = 72) : (Try.prog.info? 92).map (·.size) = some c.size := by rw [h]; exact (zero_of_info arr_info).2
theorem cel_size : (Try.prog.info? 90).map (·.size) = some 3 := by kernel_rfl
theorem zeroA_size : zeroA.size = 72 := by kernel_rfl
theorem celvl_size {l : List CelD} (h : l.length = 24) : (celvl l).toArray.size = 72 := by simp [celvl_len, h]
theorem celvl_all (l : List CelD) : (celvl l).toArray.all (·.oneCell') = true := all_oneCell_toArray (celvl_cells l)
end Go.Proofs.Ytmpgmjnagpiijaa
