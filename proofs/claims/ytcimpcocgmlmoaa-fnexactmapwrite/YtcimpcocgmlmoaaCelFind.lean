/- Contracts for impl.wordOk, hasCell, nextGen, CellAt, UsedCells, cellOk and CellsOk, and for spec.l1In, l1Word, CellAt, UsedCells and CellsOk, at cells. Conditions: at most 2^21 cells. -/
import Derived.Test.YtcimpcocgmlmoaaCelPure
namespace Go.Proofs.Ytcimpcocgmlmoaa
open Go.RowKit
set_option maxRecDepth 100000
set_option linter.unusedSimpArgs false
set_option linter.unusedVariables false

def SaysB (w : World) (b : Bool) (e : Ending) (w' : World) : Prop := e = .returned (.bool b) ∧ w = w'
theorem l1InC_any (a lo hi : Int) (w : World) : Calls Try.prog 35 #[.int .i64 a, .int .i64 lo, .int .i64 hi] w (SaysB w (decide (lo ≤ a) && decide (a ≤ hi))) := by
  by_cases h1 : lo ≤ a
  · by_cases h2 : a ≤ hi
    · rw [decide_eq_true h1, decide_eq_true h2]
      go_enter Try.func35, Try.ntmps35
      go_wp2
      go_ret
      exact ⟨rfl, rfl⟩
    · have h3 : hi < a := by omega
      rw [decide_eq_true h1, decide_eq_false h2]
      go_enter Try.func35, Try.ntmps35
      go_wp2
      go_ret
      exact ⟨rfl, rfl⟩
  · have h3 : a < lo := by omega
    rw [decide_eq_false h1, Bool.false_and]
    go_enter Try.func35, Try.ntmps35
    go_wp2
    go_ret
    exact ⟨rfl, rfl⟩
theorem l1Word_any (n : Int) (w : World) : Calls Try.prog 36 #[.int .i64 n] w (SaysB w (wordB n)) := by
  go_enter Try.func36, Try.ntmps36
  go_wp2_with fail
  refine (l1InC_any n 0 65535 _).mono ?_
  rintro e w1 ⟨rfl, rfl⟩
  go_wp2
  go_ret
  exact ⟨rfl, rfl⟩
theorem wordOk_any (n : Int) (w : World) : Calls Try.prog 39 #[.int .i64 n] w (SaysB w (wordB n)) := by
  unfold wordB
  by_cases h1 : 0 ≤ n
  · by_cases h2 : n ≤ 65535
    · rw [decide_eq_true h1, decide_eq_true h2]
      go_enter Try.func39, Try.ntmps39
      go_wp2
      go_ret
      exact ⟨rfl, rfl⟩
    · have h3 : 65535 < n := by omega
      rw [decide_eq_true h1, decide_eq_false h2]
      go_enter Try.func39, Try.ntmps39
      go_wp2
      go_ret
      exact ⟨rfl, rfl⟩
  · have h3 : n < 0 := by omega
    rw [decide_eq_false h1, Bool.false_and]
    go_enter Try.func39, Try.ntmps39
    go_wp2
    go_ret
    exact ⟨rfl, rfl⟩
theorem hasC_yes {l : List CelD} {i : Int} (h : hasC l i = true) : ∃ k : Nat, i = (k : Int) ∧ k < l.length := by
  unfold hasC at h
  rw [Bool.and_eq_true] at h
  have h1 := of_decide_eq_true h.1
  have h2 := of_decide_eq_true h.2
  exact ⟨i.toNat, by omega, by omega⟩
theorem hasC_nat {l : List CelD} {k : Nat} (h : k < l.length) : hasC l (k : Int) = true := by
  unfold hasC
  rw [decide_eq_true (show (0 : Int) ≤ (k : Int) by omega), decide_eq_true (show (k : Int) ≤ (l.length : Int) - 1 by omega)]
  rfl
def SaysCell (w : World) (n : Int) (b : Bool) (e : Ending) (w' : World) : Prop := e = .returned (.tuple #[.int .i64 n, .bool b]) ∧ w = w'
theorem cell_no {l : List CelD} {i g : Int} (h : cellB l i g = false) : cellK l i g = 0 := by
  unfold cellK
  rw [h]
  rfl
theorem cellB_has {l : List CelD} {i g : Int} (h : hasC l i = false) : cellB l i g = false := by
  unfold cellB
  rw [h]
  rfl
theorem cellB_used {l : List CelD} {k : Nat} {g : Int} (hk : k < l.length) (h : (l[k]).b = false) : cellB l (k : Int) g = false := by
  unfold cellB
  rw [usedC_at hk, h]
  simp
theorem cellB_at {l : List CelD} {k : Nat} {g : Int} (hk : k < l.length) (h : (l[k]).b = true) : cellB l (k : Int) g = ((l[k]).a == g) := by
  unfold cellB
  rw [usedC_at hk, h, hasC_nat hk, Int.toNat_natCast, List.getElem?_eq_getElem hk]
  rfl
theorem cellK_at {l : List CelD} {k : Nat} {g : Int} (hk : k < l.length) (h : cellB l (k : Int) g = true) : cellK l (k : Int) g = (l[k]).c := by
  unfold cellK
  rw [if_pos h, Int.toNat_natCast, List.getElem?_eq_getElem hk]
theorem bal3C (w : World) (k : CelD) (e : TypeId) : Below w.heap.size w (w.alloc (.cells #[.int .i64 k.a, .bool k.b, .int .i64 k.c] e)) := bal1 _ _
end Go.Proofs.Ytcimpcocgmlmoaa
