/- The walk of FnExactDrop: at every argument the call returns true and writes nothing that was there. No condition. -/
import Derived.Test.YthopkhpiikiknaaKSetDrop
import Derived.Test.YthopkhpiikiknaaKSetMark
namespace Go.Proofs.Ythopkhpiikiknaa
open Go.RowKit
set_option maxRecDepth 100000
set_option linter.unusedSimpArgs false
set_option linter.unusedVariables false

/-- What lies in blocks from p to q, its own. -/
abbrev OwnR (w : World) (p q : Nat) (v : Value) (c : Dat) : Prop := Owns w (fun b => p ≤ b ∧ b < q) v c
theorem RowK.ownR {w : World} {base : Nat} {v : Value} {l : List KeyD} (h : RowK w base v l) : OwnR w base w.heap.size v (keysD l) := h.owns.lt
theorem sz_small (A : Option Addr) (n c : Nat) (w : World) (hn : n ≤ 1048576) (m : Int) (h1 : (n : Int) ≤ m) (h2 : m ≤ 1048576) : Calls Try.prog 132 #[.slice A n c, .int .i64 m] w fun e w' => e = .returned (.int .i64 (m - n)) ∧ w = w' := by
  refine (szKeyS_any A n c m w (by unfold maxLen; omega) (by omega) h2).mono ?_
  rintro r w1 ⟨rfl, h | h⟩
  · omega
  · exact ⟨h.1, rfl⟩
theorem sz_big (A : Option Addr) (n c : Nat) (w : World) (hn : n ≤ maxLen) (m : Int) (h1 : m < (n : Int)) (h0 : 0 ≤ m) (h2 : m ≤ 1048576) : Calls Try.prog 132 #[.slice A n c, .int .i64 m] w fun e w' => e = .returned (.int .i64 (-1)) ∧ w = w' := by
  refine (szKeyS_any A n c m w hn h0 h2).mono ?_
  rintro r w1 ⟨rfl, h | h⟩
  · exact ⟨h.1, rfl⟩
  · omega
end Go.Proofs.Ythopkhpiikiknaa
