/- Contracts for lists of keys in the laws: laws.toKeyS copies one, laws.szKeyS counts, laws.eqKeyS finds two that read alike equal, laws.markKeyS writes marks, laws.heldKeyS finds them; a list of keys that comes in as an argument is opened. Conditions: at most 2^20 keys. -/
import Derived.Test.YtcimpcocgmlmoaaKSet
import Derived.Deep.RegionHeld3
import Derived.Deep.DeepCutAuto
namespace Go.Proofs.Ytcimpcocgmlmoaa
open Go.RowKit Go.ChangeShapes Go.WideShapes Go.Deep
set_option maxRecDepth 100000
set_option linter.unusedSimpArgs false
set_option linter.unusedVariables false

theorem RowV.key {w : World} {g n j : Nat} {e : TypeId} {l : List KeyD} (h : RowV w g (n * 5) e (kvl l)) (hj : l.length = j) (hk : j < n) (k : KeyD) :
    RowV (((((w.setCell ⟨g, j * 5, none⟩ (.int .i64 k.a)).setCell ⟨g, j * 5 + 1, none⟩ (.int .i64 k.b)).setCell ⟨g, j * 5 + 2, none⟩ (.int .i64 k.c)).setCell ⟨g, j * 5 + 3, none⟩ (.int .i64 k.d)).setCell ⟨g, j * 5 + 4, none⟩ (.int .i64 k.e)) g (n * 5) e (kvl (l ++ [k])) := by
  have hl := kvl_len l
  rw [hj] at hl
  have h1 := h.step (by omega) (.int .i64 k.a)
  have h2 := h1.step (by simp; omega) (.int .i64 k.b)
  have h3 := h2.step (by simp; omega) (.int .i64 k.c)
  have h4 := h3.step (by simp; omega) (.int .i64 k.d)
  have h5 := h4.step (by simp; omega) (.int .i64 k.e)
  simp only [List.length_append, List.length_singleton, hl, List.append_assoc] at h5
  rw [kvl_append, kvl_one]
  exact h5
theorem b5 {w w1 : World} {g i : Nat} {u1 u2 u3 u4 u5 : Value} {B : Nat} (h : Below B w w1) (hg : B ≤ g) : Below B w (((((w1.setCell ⟨g, i, none⟩ u1).setCell ⟨g, i + 1, none⟩ u2).setCell ⟨g, i + 2, none⟩ u3).setCell ⟨g, i + 3, none⟩ u4).setCell ⟨g, i + 4, none⟩ u5) :=
  ((((h.setCell (p := ⟨g, i, none⟩) hg _).setCell (p := ⟨g, i + 1, none⟩) hg _).setCell (p := ⟨g, i + 2, none⟩) hg _).setCell (p := ⟨g, i + 3, none⟩) hg _).setCell (p := ⟨g, i + 4, none⟩) hg _
theorem Five.on {w w' : World} {b o : Nat} {k : KeyD} (h : Five w b o k) (hlt : b < w.heap.size) (hb : Below w.heap.size w w') : Five w' b o k := h.keep (hb.block b hlt)
theorem Five.and {w : World} {b o : Nat} {k : KeyD} (h : Five w b o k) {P : Prop} (p : P) : w.cell? ⟨b, o, none⟩ = some (.int .i64 (k).a) ∧ w.cell? ⟨b, o + 1, none⟩ = some (.int .i64 (k).b) ∧ w.cell? ⟨b, o + 2, none⟩ = some (.int .i64 (k).c) ∧ w.cell? ⟨b, o + 3, none⟩ = some (.int .i64 (k).d) ∧ w.cell? ⟨b, o + 4, none⟩ = some (.int .i64 (k).e) ∧ P := ⟨h.1, h.2.1, h.2.2.1, h.2.2.2.1, h.2.2.2.2, p⟩
end Go.Proofs.Ytcimpcocgmlmoaa
