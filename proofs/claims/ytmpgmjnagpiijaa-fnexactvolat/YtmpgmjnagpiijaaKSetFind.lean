/- Contracts for the generic sorted set at keys: its methods find and placeOf; impl.SetAt and impl.SetOk. Conditions: at most 2^21 keys. -/
import Derived.Test.YtmpgmjnagpiijaaKSetImpl
namespace Go.Proofs.Ytmpgmjnagpiijaa
open Go.RowKit
set_option maxRecDepth 100000
set_option linter.unusedSimpArgs false
set_option linter.unusedVariables false

def zK : KeyD := ⟨0, 0, 0, 0, 0⟩
def SaysFind (w : World) (o : Option KeyD) (e : Ending) (w' : World) : Prop := e = .returned (.tuple #[(o.getD zK).v, .bool o.isSome]) ∧ Below w.heap.size w w'
theorem find_step {l : List KeyD} {k : Nat} {p : KeyD → Bool} (h : k < l.length) (hp : p l[k] = false) (hf : (l.drop k).find? p = l.find? p) : (l.drop (k + 1)).find? p = l.find? p := by
  rw [drop_at h, List.find?_cons, hp] at hf
  exact hf
theorem find_hit {l : List KeyD} {k : Nat} {p : KeyD → Bool} (h : k < l.length) (hp : p l[k] = true) (hf : (l.drop k).find? p = l.find? p) : l.find? p = some l[k] := by
  rw [drop_at h, List.find?_cons, hp] at hf
  exact hf.symm
theorem below_keep3 {w W w' : World} {p : Nat} {o : Obj} (q : W.heap[p]? = some o) (h : Below W.heap.size W w') : w'.heap[p]? = some o := box_on q h
theorem b5' {B : Nat} {w w1 : World} {g : Nat} {u1 u2 u3 u4 u5 : Value} (h : Below B w w1) (hg : B ≤ g) : Below B w (((((w1.setCell ⟨g, 0, none⟩ u1).setCell ⟨g, 1, none⟩ u2).setCell ⟨g, 2, none⟩ u3).setCell ⟨g, 3, none⟩ u4).setCell ⟨g, 4, none⟩ u5) :=
  ((((h.setCell (p := ⟨g, 0, none⟩) hg _).setCell (p := ⟨g, 1, none⟩) hg _).setCell (p := ⟨g, 2, none⟩) hg _).setCell (p := ⟨g, 3, none⟩) hg _).setCell (p := ⟨g, 4, none⟩) hg _
theorem spot_flip (b a : Int) : (fun y : KeyD => spotK ⟨b, a, 0, 0, 0⟩ y) = (fun y => spotB y.a y.b b a) := by
  funext y
  exact spot_comm ⟨b, a, 0, 0, 0⟩ y
end Go.Proofs.Ytmpgmjnagpiijaa
