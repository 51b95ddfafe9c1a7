/- Contracts for keys: laws.toKey, laws.eqKey, impl.targetOk, impl.KeyOk, spec.KeyOk, impl.LessKey, spec.LessKey, impl.positionOf, impl.SameSpot and spec.SameSpot return what the plain functions below say, for every argument, and make new memory alone. No condition. -/
import Derived.Test.YtcimpcocgmlmoaaNames
import Derived.Test.YtcimpcocgmlmoaaMem
import Derived.Deep.RegionHeld3
namespace Go.Proofs.Ytcimpcocgmlmoaa
open Go.RowKit
set_option maxRecDepth 100000
set_option linter.unusedSimpArgs false
set_option linter.unusedVariables false

/-- A key as a value. -/
def keyV (a b c d e : Int) : Value := .agg #[.int .i64 a, .int .i64 b, .int .i64 c, .int .i64 d, .int .i64 e]
def tgtB (c d e : Int) : Bool := if c = 1 then decide (0 ≤ d) && decide (d ≤ 23) && decide (0 ≤ e) && decide (e ≤ 999) else if c = 0 ∨ c = 2 then decide (d = 0) && decide (e = 0) else false
def keyOkB (a b c d e : Int) : Bool := decide (0 ≤ a) && decide (a ≤ 15) && decide (1 ≤ b) && decide (b ≤ 60) && tgtB c d e
def lessB (a b a' b' : Int) : Bool := if a = a' then decide (b < b') else decide (a < a')
def spotB (a b a' b' : Int) : Bool := decide (a = a') && decide (b = b')
theorem box5 {w : World} {p : Nat} {a b c d e : Value} {t : TypeId} (h : w.heap[p]? = some (.cells #[a, b, c, d, e] t (0, 0))) : w.cell? ⟨p, 0, none⟩ = some a ∧ w.cell? ⟨p, 1, none⟩ = some b ∧ w.cell? ⟨p, 2, none⟩ = some c ∧ w.cell? ⟨p, 3, none⟩ = some d ∧ w.cell? ⟨p, 4, none⟩ = some e ∧ ∀ o, w.frozen? ⟨p, o, none⟩ = false :=
  ⟨by rw [cell_of_row w p 0 _ _ _ h]; rfl, by rw [cell_of_row w p 1 _ _ _ h]; rfl, by rw [cell_of_row w p 2 _ _ _ h]; rfl, by rw [cell_of_row w p 3 _ _ _ h]; rfl, by rw [cell_of_row w p 4 _ _ _ h]; rfl, fun o => frozen_of_row w p o _ _ h⟩
def SaysK (w : World) (a b c d e : Int) (r : Ending) (w' : World) : Prop := r = .returned (keyV a b c d e) ∧ Below w.heap.size w w'
def SaysBool (w : World) (b : Bool) (r : Ending) (w' : World) : Prop := r = .returned (.bool b) ∧ Below w.heap.size w w'

theorem keyOk_out {a b c d e : Int} (h : inB a 0 15 = false ∨ inB b 1 60 = false ∨ inB c 0 2 = false) : keyOkB a b c d e = false := by
  have h2 : ¬ (0 ≤ a ∧ a ≤ 15 ∧ 1 ≤ b ∧ b ≤ 60 ∧ 0 ≤ c ∧ c ≤ 2) := by
    intro k
    simp [inB] at h
    omega
  cases hk : keyOkB a b c d e with
  | false => rfl
  | true =>
    refine absurd ?_ h2
    have ht : tgtB c d e = true → 0 ≤ c ∧ c ≤ 2 := by
      unfold tgtB
      split
      · omega
      · split
        · omega
        · intro h; cases h
    simp only [keyOkB, Bool.and_eq_true, decide_eq_true_eq] at hk
    obtain ⟨⟨⟨⟨x1, x2⟩, x3⟩, x4⟩, x5⟩ := hk
    exact ⟨x1, x2, x3, x4, ht x5⟩
theorem keyOk_data {a b d e : Int} (h1 : inB a 0 15 = true) (h2 : inB b 1 60 = true) : keyOkB a b 1 d e = (inB d 0 23 && inB e 0 999) := by
  simp [inB] at h1 h2
  simp [keyOkB, tgtB, inB, h1, h2, Bool.and_assoc]
theorem keyOk_rest {a b c d e : Int} (h1 : inB a 0 15 = true) (h2 : inB b 1 60 = true) (h3 : inB c 0 2 = true) (h4 : c ≠ 1) : keyOkB a b c d e = (decide (d = 0) && decide (e = 0)) := by
  simp [inB] at h1 h2 h3
  rw [keyOkB, tgtB, if_neg h4, if_pos (by omega)]
  simp [h1, h2]
end Go.Proofs.Ytcimpcocgmlmoaa
