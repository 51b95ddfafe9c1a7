/- A key that comes in as an argument is opened to five ints; impl.SameSpot; the walks of FnExactKeyOk, FnExactLessKey and FnExactSameSpot: at every argument the call returns true and writes nothing that was there. No condition. -/
import Derived.Test.YtcimpcocgmlmoaaKeys
import Derived.Test.YtcimpcocgmlmoaaOpens
import Derived.Deep.RegionHeld3
import Derived.Deep.DeepCutAuto
namespace Go.Proofs.Ytcimpcocgmlmoaa
open Go.RowKit Go.ChangeShapes Go.WideShapes Go.Deep
set_option maxRecDepth 100000
set_option linter.unusedSimpArgs false
set_option linter.unusedVariables false

structure KeyD where
  (a b c d e : Int)
def KeyIs (v : Value) (k : KeyD) : Prop := v = keyV k.a k.b k.c k.d k.e
/-- What the two boxes of a pair of keys hold, cell by cell. -/
theorem keys_held {w W : World} {p q : Nat} {a b c d e a' b' c' d' e' : Value} {t : TypeId} (hp : w.heap[p]? = some (.cells #[a, b, c, d, e] t (0, 0))) (hq : w.heap[q]? = some (.cells #[a', b', c', d', e'] t (0, 0))) (hb : Below w.heap.size w W) :
    W.cell? ⟨p, 0, none⟩ = some a ∧ W.cell? ⟨p, 1, none⟩ = some b ∧ W.cell? ⟨p, 2, none⟩ = some c ∧ W.cell? ⟨p, 3, none⟩ = some d ∧ W.cell? ⟨p, 4, none⟩ = some e ∧ W.cell? ⟨q, 0, none⟩ = some a' ∧ W.cell? ⟨q, 1, none⟩ = some b' ∧ W.cell? ⟨q, 2, none⟩ = some c' ∧ W.cell? ⟨q, 3, none⟩ = some d' ∧ W.cell? ⟨q, 4, none⟩ = some e' := by
  obtain ⟨x0, x1, x2, x3, x4, _⟩ := box5 (box_on hp hb)
  obtain ⟨y0, y1, y2, y3, y4, _⟩ := box5 (box_on hq hb)
  exact ⟨x0, x1, x2, x3, x4, y0, y1, y2, y3, y4⟩
theorem Below.drew1 (w : World) : Below w.heap.size w w.drew := ⟨rfl, rfl, rfl, Nat.le_refl _, fun _ _ => rfl⟩
end Go.Proofs.Ytcimpcocgmlmoaa
