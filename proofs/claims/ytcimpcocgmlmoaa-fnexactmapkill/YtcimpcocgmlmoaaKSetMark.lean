/- Contracts for marks in a list of keys: laws.markKeyS writes marks into every field, laws.heldKeyS finds them. Conditions: at most 2^21 keys. -/
import Derived.Test.YtcimpcocgmlmoaaKSetLaw
namespace Go.Proofs.Ytcimpcocgmlmoaa
open Go.RowKit
set_option maxRecDepth 100000
set_option linter.unusedSimpArgs false
set_option linter.unusedVariables false

def mK (k : Int) (_ : KeyD) : KeyD := ⟨k, k + 1, k + 1 + 1, k + 1 + 1 + 1, k + 1 + 1 + 1 + 1⟩
def sK (_ : KeyD) : Nat := 5
theorem totK (l : List KeyD) (i : Nat) (h : i ≤ l.length) : totL sK l i = i * 5 := by
  induction i with
  | zero => cases l <;> rfl
  | succ i ih => rw [totL_succ sK l i (by omega), ih (by omega)]; simp [sK, Nat.add_mul]
theorem kvl_cons (k : KeyD) (l : List KeyD) : kvl (k :: l) = kX k ++ kvl l := rfl
theorem kvl_set (l : List KeyD) (i : Nat) (k : KeyD) (h : i < l.length) : kvl (l.set i k) = (((((kvl l).set (i * 5) (.int .i64 k.a)).set (i * 5 + 1) (.int .i64 k.b)).set (i * 5 + 2) (.int .i64 k.c)).set (i * 5 + 3) (.int .i64 k.d)).set (i * 5 + 4) (.int .i64 k.e) := by
  induction l generalizing i with
  | nil => simp at h
  | cons x l ih =>
    cases i with
    | zero => simp [kvl_cons, kX]
    | succ i =>
      have h := ih i (by simpa using h)
      rw [List.set_cons_succ, kvl_cons, h, kvl_cons, show (i + 1) * 5 = i * 5 + 1 + 1 + 1 + 1 + 1 by omega]
      simp [kX]
theorem o5 {S : Nat → Prop} {w w1 : World} {g i : Nat} {u1 u2 u3 u4 u5 : Value} (h : Only S w w1) (hg : S g) : Only S w (((((w1.setCell ⟨g, i, none⟩ u1).setCell ⟨g, i + 1, none⟩ u2).setCell ⟨g, i + 2, none⟩ u3).setCell ⟨g, i + 3, none⟩ u4).setCell ⟨g, i + 4, none⟩ u5) :=
  ((((h.setCell hg _).setCell hg _).setCell hg _).setCell hg _).setCell hg _
end Go.Proofs.Ytcimpcocgmlmoaa
