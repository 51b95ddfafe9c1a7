/- Contracts for slices.Clone and slices.IndexFunc at cells, impl.unusedCell, TakeCell, FreeCell, CellsNew, and spec.l9Copy, TakeCell, FreeCell, CellsNew. Conditions: at most 2^21 cells. -/
import Derived.Test.YtmpgmjnagpiijaaCelArr
import Derived.Test.YtmpgmjnagpiijaaCellLaw
namespace Go.Proofs.Ytmpgmjnagpiijaa
open Go.RowKit
set_option maxRecDepth 100000
set_option linter.unusedSimpArgs false
set_option linter.unusedVariables false

/-- What lies in blocks from p to q, its own. -/
abbrev OwnQ (w : World) (p q : Nat) (v : Value) (c : Dat) : Prop := Owns w (fun b => p ≤ b ∧ b < q) v c
theorem RowCel.ownR {w : World} {base : Nat} {v : Value} {l : List CelD} (h : RowCel w base v l) : OwnQ w base w.heap.size v (celsT 90 l) := h.owns.lt
/-- A call leaves cells in memory of its own: in a row or in an array. -/
def NewCe (w : World) (l : List CelD) (e : Ending) (w' : World) : Prop := ∃ v t, e = .returned v ∧ OwnQ w' w.heap.size w'.heap.size v (celsT t l) ∧ Below w.heap.size w w'
/-- A call leaves cells in memory of its own, and an index and a bool. -/
def NewCeB (w : World) (l : List CelD) (n : Int) (b : Bool) (e : Ending) (w' : World) : Prop := ∃ v t, e = .returned (.tuple #[v, .int .i64 n, .bool b]) ∧ OwnQ w' w.heap.size w'.heap.size v (celsT t l) ∧ Below w.heap.size w w'
theorem RwCel.arr {w : World} {g : Nat} {t : TypeId} {l : List CelD} (h : w.heap[g]? = some (.cells (celvl l).toArray t (0, 0))) (hl : l.length = 24) : RwCel t w g 24 l :=
  ⟨_, h, celvl_size hl, by rw [List.toList_toArray, List.take_of_length_le (by rw [celvl_len]; omega)]⟩
theorem RwCel.ownQ {w : World} {g p : Nat} {t : TypeId} {l : List CelD} (h : RwCel t w g 24 l) (hl : l.length = 24) (hp : p ≤ g) : OwnQ w p w.heap.size (.slice (some ⟨g, 0, none⟩) 24 24) (celsT t l) := by
  have h1 := h.owns (S := fun b => p ≤ b ∧ b < w.heap.size) ⟨hp, Rw.lt h⟩ (by omega) (by unfold maxLen; omega)
  rw [hl] at h1
  exact h1
/-- The place of the first cell that is not used, or -1. -/
def idleK (l : List CelD) : Int := if idleI l < l.length then (idleI l : Int) else -1
theorem implCellsNew_any (w : World) : Calls Try.prog 23 #[] w (NewCe w noCells) := by
  have hz := (zero_of_info arr_info).1
  have HQ := Lib.hid (al1 w (.cells zeroA 92))
  have HB := Lib.hid (bal1 w (.cells zeroA 92))
  go_enter Try.func23, Try.ntmps23
  go_wp2
  go_ret
  exact ⟨_, _, rfl, (RwCel.arr HQ.out rfl).ownQ rfl (Nat.le_refl _), HB.out⟩
theorem specCellsNew_any (w : World) : Calls Try.prog 21 #[] w (NewCe w noCells) := by
  have hm : madeCells #[.int .i64 0, .bool false, .int .i64 0] (24 * 3) = zeroA := by kernel_rfl
  have hmk : (Instr.makeSlice 27 (.int .i64 24) (.int .i64 24)).run Try.prog w = .ok (.slice (some ⟨w.heap.size, 0, none⟩) 24 24) (w.alloc (.cells zeroA 90)) := by
    have h := run_makeCel 24 24 (Nat.le_refl _) (by omega) w
    rw [hm] at h
    exact h
  have HQ := Lib.hid (al1 w (.cells zeroA 90))
  have HB := Lib.hid (bal1 w (.cells zeroA 90))
  clear hm
  go_enter Try.func21, Try.ntmps21
  go_wp2
  go_ret
  exact ⟨_, _, rfl, (RwCel.arr HQ.out rfl).ownQ rfl (Nat.le_refl _), HB.out⟩
end Go.Proofs.Ytmpgmjnagpiijaa
