/- Contracts for spec.l1In, impl.hasSec, impl.DevOk and spec.DevOk: both DevOk return okD of the device. Conditions: no slice of the device holds more than 2^20 elements. -/
import Derived.Test.YtncjedbdkanleaaDevD
import Derived.IntWalk
namespace Go.Proofs.Ytncjedbdkanleaa
open Go.RowKit
set_option maxRecDepth 100000
set_option linter.unusedSimpArgs false
set_option linter.unusedVariables false

def secOk (l : List UInt8) : Bool := decide (l.length ≤ 80)
def wrOk (n : Nat) (p : Int × List UInt8) : Bool := decide (0 ≤ p.1) && decide (p.1 < n) && decide (p.2.length ≤ 80)
def okD (d : DevD) : Bool := decide (1 ≤ d.secs.length) && decide (d.secs.length ≤ 60) && decide (d.cache.length ≤ 60) && d.secs.all secOk && d.cache.all (wrOk d.secs.length) && decide (-1 ≤ d.fuse) && decide (d.fuse ≤ 1000)
theorem okD_iff (d : DevD) : okD d = true ↔ 1 ≤ d.secs.length ∧ d.secs.length ≤ 60 ∧ d.cache.length ≤ 60 ∧ (∀ l ∈ d.secs, l.length ≤ 80) ∧ (∀ p ∈ d.cache, 0 ≤ p.1 ∧ p.1 < d.secs.length ∧ p.2.length ≤ 80) ∧ -1 ≤ d.fuse ∧ d.fuse ≤ 1000 := by
  simp [okD, secOk, wrOk, and_assoc]
theorem okD_no {d : DevD} (h : ¬ (1 ≤ d.secs.length ∧ d.secs.length ≤ 60 ∧ d.cache.length ≤ 60 ∧ (∀ l ∈ d.secs, l.length ≤ 80) ∧ (∀ p ∈ d.cache, 0 ≤ p.1 ∧ p.1 < d.secs.length ∧ p.2.length ≤ 80) ∧ -1 ≤ d.fuse ∧ d.fuse ≤ 1000)) : okD d = false := by
  rw [← okD_iff] at h; simpa using h

theorem l1In_yes (a lo hi : Int) (w : World) (h1 : lo ≤ a) (h2 : a ≤ hi) : Calls Try.prog 99 #[.int .i64 a, .int .i64 lo, .int .i64 hi] w fun e w' => e = .returned (.bool true) ∧ w = w' := by
  go_enter Try.func99, Try.ntmps99
  go_wp2
  go_ret
  exact ⟨rfl, rfl⟩
theorem l1In_no (a lo hi : Int) (w : World) (h : a < lo ∨ hi < a) : Calls Try.prog 99 #[.int .i64 a, .int .i64 lo, .int .i64 hi] w fun e w' => e = .returned (.bool false) ∧ w = w' := by
  by_cases h1 : lo ≤ a
  · have h2 : hi < a := by omega
    clear h
    have d2 : decide (a ≤ hi) = false := decide_eq_false (by omega)
    go_enter Try.func99, Try.ntmps99
    go_wp2
    go_ret
    exact ⟨rfl, rfl⟩
  · have d1 : decide (lo ≤ a) = false := decide_eq_false (by omega)
    clear h
    go_enter Try.func99, Try.ntmps99
    go_wp2
    go_ret
    exact ⟨rfl, rfl⟩
theorem quiet_same {P : Program} {f : FuncId} {args : Array Value} {w : World} {n : Nat} {v : Value}
    (h : Calls P f args (w.drewN n) fun e w' => e = .returned v ∧ w.drewN n = w') : Calls P f args (w.drewN n) fun e w'' => e = .returned v ∧ ∃ m, w'' = w.drewN m :=
  h.mono fun _ _ ⟨he, hm⟩ => ⟨he, n, hm.symm⟩
def SaysB (w : World) (b : Bool) (e : Ending) (w' : World) : Prop := e = .returned (.bool b) ∧ Below w.heap.size w w'
theorem all_step {α : Type} {P : α → Prop} {ls : List α} {k : Nat} (hk : k < ls.length) (h : ∀ l ∈ ls.take k, P l) (h2 : P ls[k]) : ∀ l ∈ ls.take (k + 1), P l := by
  intro l hl
  rw [List.take_succ_eq_append_getElem hk, List.mem_append] at hl
  rcases hl with hl | hl
  · exact h l hl
  · simp at hl; subst hl; exact h2
theorem all_done {α : Type} {P : α → Prop} {ls : List α} {k : Nat} (hk : ¬ k < ls.length) (h : ∀ l ∈ ls.take k, P l) : ∀ l ∈ ls, P l := by
  rw [List.take_of_length_le (by omega)] at h; exact h
def WOk (n : Nat) (p : Int × List UInt8) : Prop := 0 ≤ p.1 ∧ p.1 < n ∧ p.2.length ≤ 80
def SOk (l : List UInt8) : Prop := l.length ≤ 80
end Go.Proofs.Ytncjedbdkanleaa
