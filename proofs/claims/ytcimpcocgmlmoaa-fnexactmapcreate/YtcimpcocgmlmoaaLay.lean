/- Cells laid over a row, one after another. No condition: plain lemmas. -/
import Derived.Test.YtcimpcocgmlmoaaMem
import Derived.Lib.SliceRun
namespace Go.Proofs.Ytcimpcocgmlmoaa
open Go.RowKit
set_option maxRecDepth 100000
set_option linter.unusedSimpArgs false
set_option linter.unusedVariables false

def layA : Array Value → Nat → List Value → Array Value
  | a, _, [] => a
  | a, o, v :: r => layA (a.setIfInBounds o v) (o + 1) r
theorem layA_size (vs : List Value) : ∀ (a : Array Value) (o : Nat), (layA a o vs).size = a.size := by
  induction vs with
  | nil => intro a o; rfl
  | cons v r ih => intro a o; rw [layA, ih]; simp
theorem layA_list (vs : List Value) : ∀ (a : Array Value) (o : Nat), o + vs.length ≤ a.size → (layA a o vs).toList = a.toList.take o ++ (vs ++ a.toList.drop (o + vs.length)) := by
  induction vs with
  | nil => intro a o h; simp [layA]
  | cons v r ih =>
    intro a o h
    simp only [List.length_cons] at h
    rw [layA, ih _ _ (by simp; omega), Array.toList_setIfInBounds, List.take_succ_eq_append_getElem (by simp; omega), List.take_set_of_le (Nat.le_refl _), List.getElem_set_self, List.drop_set_of_lt (by omega)]
    simp only [List.length_cons, List.append_assoc, List.singleton_append, List.cons_append, List.nil_append]
    rw [show o + 1 + r.length = o + (r.length + 1) by omega]
theorem heap_lay (g : Nat) (t : TypeId) (vs : List Value) : ∀ (w : World) (a : Array Value) (o : Nat), w.heap[g]? = some (.cells a t (0, 0)) → (w.setCells g o vs).heap[g]? = some (.cells (layA a o vs) t (0, 0)) := by
  induction vs with
  | nil => intro w a o h; exact h
  | cons v r ih => intro w a o h; exact ih _ _ _ (heap_setCell_same w g o a _ _ h)
theorem below_lay {B g : Nat} (hg : B ≤ g) (vs : List Value) : ∀ (a w : World) (o : Nat), Below B a w → Below B a (w.setCells g o vs) := by
  induction vs with
  | nil => intro a w o h; exact h
  | cons v r ih => intro a w o h; exact ih _ _ _ (h.setCell (p := ⟨g, o, none⟩) hg _)
end Go.Proofs.Ytcimpcocgmlmoaa
