/- Pieces of the walks of the exact laws on lists of Maps. No condition. -/
import Derived.Test.YtcimpcocgmlmoaaMapLaw
namespace Go.Proofs.Ytcimpcocgmlmoaa
open Go.RowKit
set_option maxRecDepth 100000
set_option linter.unusedSimpArgs false
set_option linter.unusedVariables false

/-- What lies in blocks from p to q, its own. -/
abbrev OwnR (w : World) (p q : Nat) (v : Value) (c : Dat) : Prop := Owns w (fun b => p ≤ b ∧ b < q) v c
theorem Owns.ownR {w : World} {p : Nat} {v : Value} {c : Dat} (h : Owns w (fun b => p ≤ b) v c) : OwnR w p w.heap.size v c := h.lt
def cntM (l : List MapD) : Nat := l.length + sumM l
theorem cntM_small {l : List MapD} (h : cntM l ≤ 1048576) : SmallM l := by
  unfold cntM at h
  exact ⟨by omega, by omega, fun k hk => by have := sumM_mem hk; omega⟩
theorem szM_small (v : Value) (l : List MapD) (m : Int) (w : World) (hv : Reads w w.heap.size v (mapsT 52 l)) (hs : ∀ k ∈ l, k.a.size ≤ maxLen) (hn : ((cntM l : Nat) : Int) ≤ m) (h2 : m ≤ 1048576) :
    Calls Try.prog 15 #[v, .int .i64 m] w fun e w' => e = .returned (.int .i64 (m - (cntM l : Nat))) ∧ Below w.heap.size w w' := by
  unfold cntM at *
  refine (szMapS_any v l m w hv hs (by omega) h2).mono ?_
  rintro r w1 ⟨b, h | h⟩
  · omega
  · exact ⟨h.1, b⟩
theorem szM_big (v : Value) (l : List MapD) (m : Int) (w : World) (hv : Reads w w.heap.size v (mapsT 52 l)) (hs : ∀ k ∈ l, k.a.size ≤ maxLen) (hn : m < ((cntM l : Nat) : Int)) (h0 : 0 ≤ m) (h2 : m ≤ 1048576) :
    Calls Try.prog 15 #[v, .int .i64 m] w fun e w' => e = .returned (.int .i64 (-1)) ∧ Below w.heap.size w w' := by
  unfold cntM at *
  refine (szMapS_any v l m w hv hs h0 h2).mono ?_
  rintro r w1 ⟨b, h | h⟩
  · exact ⟨h.1, b⟩
  · omega
end Go.Proofs.Ytcimpcocgmlmoaa
