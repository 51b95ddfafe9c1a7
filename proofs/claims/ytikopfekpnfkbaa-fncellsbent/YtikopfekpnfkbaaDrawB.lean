/- Contracts of laws.big and laws.at. Conditions: the code has at most 2^20 bytes. -/
import Derived.Test.YtikopfekpnfkbaaDrawA
namespace Go.Proofs.Ytikopfekpnfkbaa
open Go.RowKit
set_option maxRecDepth 100000
set_option linter.unusedSimpArgs false
set_option linter.unusedVariables false

theorem below_of_only {w w1 w2 : World} {p : Nat} (hb : Below w.heap.size w w1) (hg : w1.grownBy w2 (some p)) (hp : w.heap.size ≤ p) : Below w.heap.size w w2 :=
  hb.grown hg hb.size (fun k hk => by injection hk with hk; omega)
theorem big_any (A : Option Addr) (cap n : Nat) (w : World) : Calls Try.prog 11 #[.slice A n cap] w fun e w' => e = .returned (.bool (decide ((1048576 : Int) < (n : Int)))) ∧ w = w' := by
  go_enter Try.func11, Try.ntmps11
  go_wp2
  go_ret
  exact ⟨rfl, rfl⟩
def AnAt (w : World) (e : Ending) (w' : World) : Prop := ∃ x : Nat, x ≤ 255 ∧ e = .returned (.int .i64 (x : Int)) ∧ w = w'
def atOf (l : List UInt8) (i : Nat) : Nat := if h : i < l.length then l[i].toNat else (i * 31 + l.length * 7) % 256
theorem atOf_le (l : List UInt8) (i : Nat) : atOf l i ≤ 255 := by
  unfold atOf; split
  · have := UInt8.toNat_lt (l[i]'(by assumption)); omega
  · omega
end Go.Proofs.Ytikopfekpnfkbaa
