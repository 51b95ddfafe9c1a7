/- Contracts for lists of Cells in the laws: laws.toCellS copies one, laws.szCellS counts, laws.eqCellS finds two that read alike equal, laws.markCellS writes marks, laws.heldCellS finds them. Conditions: at most 2^20 of them. -/
import Derived.Test.YtcimpcocgmlmoaaCell
namespace Go.Proofs.Ytcimpcocgmlmoaa
open Go.RowKit
set_option maxRecDepth 100000
set_option linter.unusedSimpArgs false
set_option linter.unusedVariables false

theorem RowV.cel {w : World} {g n j : Nat} {e : TypeId} {l : List CelD} (h : RowV w g (n * 3) e (celvl l)) (hj : l.length = j) (hk : j < n) (k : CelD) :
    RowV (((w.setCell ⟨g, j * 3, none⟩ (.int .i64 k.a)).setCell ⟨g, j * 3 + 1, none⟩ (.bool k.b)).setCell ⟨g, j * 3 + 2, none⟩ (.int .i64 k.c)) g (n * 3) e (celvl (l ++ [k])) := by
  have hl := celvl_len l
  rw [hj] at hl
  have h1 := h.step (by omega) (.int .i64 k.a)
  have h2 := h1.step (by simp; omega) (.bool k.b)
  have h3 := h2.step (by simp; omega) (.int .i64 k.c)
  simp only [List.length_append, List.length_singleton, hl, List.append_assoc] at h3
  rw [celvl_append, celvl_one]
  exact h3
theorem bsCel {w w1 : World} {g i : Nat} {u1 u2 u3 : Value} {B : Nat} (h : Below B w w1) (hg : B ≤ g) : Below B w (((w1.setCell ⟨g, i, none⟩ u1).setCell ⟨g, i + 1, none⟩ u2).setCell ⟨g, i + 2, none⟩ u3) :=
  ((h.setCell (p := ⟨g, i, none⟩) hg _).setCell (p := ⟨g, i + 1, none⟩) hg _).setCell (p := ⟨g, i + 2, none⟩) hg _
theorem CelF.and {w : World} {b o : Nat} {k : CelD} (h : CelF w b o k) {P : Prop} (p : P) : w.cell? ⟨b, o, none⟩ = some (.int .i64 k.a) ∧ w.cell? ⟨b, o + 1, none⟩ = some (.bool k.b) ∧ w.cell? ⟨b, o + 2, none⟩ = some (.int .i64 k.c) ∧ P := ⟨h.1, h.2.1, h.2.2, p⟩
def mCel (k : Int) (_ : CelD) : CelD := ⟨k, ((k + 1).tmod 3 == 0), k + 1 + 1⟩
def sCel (_ : CelD) : Nat := 3
theorem totCel (l : List CelD) (i : Nat) (h : i ≤ l.length) : totL sCel l i = i * 3 := by
  induction i with
  | zero => cases l <;> rfl
  | succ i ih => rw [totL_succ sCel l i (by omega), ih (by omega)]; simp [sCel, Nat.add_mul]
theorem celvl_set (l : List CelD) (i : Nat) (k : CelD) (h : i < l.length) : celvl (l.set i k) = (((celvl l).set (i * 3) (.int .i64 k.a)).set (i * 3 + 1) (.bool k.b)).set (i * 3 + 2) (.int .i64 k.c) := by
  induction l generalizing i with
  | nil => simp at h
  | cons x l ih =>
    cases i with
    | zero => simp [celvl_cons, celX]
    | succ i =>
      have h := ih i (by simpa using h)
      rw [List.set_cons_succ, celvl_cons, h, celvl_cons, show (i + 1) * 3 = i * 3 + 1 + 1 + 1 by omega]
      simp [celX]
/-- Block g of w holds the list in a row of room for cap. -/
def RwCel (t : TypeId) (w : World) (g cap : Nat) (l : List CelD) : Prop := Rw w g t 3 l.length cap (celvl l)
theorem RwCel.cs {t : TypeId} {w : World} {g cap : Nat} {l : List CelD} (h : RwCel t w g cap l) {i : Nat} (hi : i < l.length) : ∀ j, j < 3 → ∃ v, w.cell? ⟨g, i * 3 + j, none⟩ = some v := by
  intro j hj
  have hl := celvl_len l
  exact ⟨_, Rw.cell h (i := i * 3 + j) (by omega)⟩
theorem RwCel.set {t : TypeId} {w : World} {g cap : Nat} {l : List CelD} (h : RwCel t w g cap l) {i : Nat} (hi : i < l.length) (k : CelD) : RwCel t (((w.setCell ⟨g, i * 3, none⟩ (.int .i64 k.a)).setCell ⟨g, i * 3 + 1, none⟩ (.bool k.b)).setCell ⟨g, i * 3 + 2, none⟩ (.int .i64 k.c)) g cap (l.set i k) := by
  have h5 := ((Rw.set h (i * 3) (.int .i64 k.a)).set (i * 3 + 1) (.bool k.b)).set (i * 3 + 2) (.int .i64 k.c)
  unfold RwCel
  rw [List.length_set, celvl_set l i k hi]
  exact h5
theorem RwCel.owns {t : TypeId} {w : World} {S : Nat → Prop} {g cap : Nat} {l : List CelD} (h : RwCel t w g cap l) (hS : S g) (hn : l.length ≤ cap) (hc : cap ≤ maxLen) : Owns w S (.slice (some ⟨g, 0, none⟩) l.length cap) (celsT t l) :=
  Rw.owns h hS (by rw [celC_map]; exact lits_own _ _ _) hn hc (cels_len l)
theorem Owns.rwCel {t : TypeId} {w : World} {S : Nat → Prop} {v : Value} {l : List CelD} (h : Owns w S v (celsT t l)) : (v = .slice none 0 0 ∧ l = []) ∨ ∃ g cap, v = .slice (some ⟨g, 0, none⟩) l.length cap ∧ S g ∧ RwCel t w g cap l ∧ l.length ≤ cap ∧ cap ≤ maxLen := by
  rcases h.rw' with ⟨rfl, h, _⟩ | ⟨g, cap, xs, rfl, hS, hR, hn, hc, hl, hx, ho⟩
  · exact .inl ⟨rfl, List.length_eq_zero_iff.1 h⟩
  · have hr := ho.reads
    rw [celC_map] at hr
    have : xs = celvl l := lit_reads (by rw [hr.1]; simp) hr.2
    subst this
    exact .inr ⟨g, cap, rfl, hS, hR, hn, hc⟩
def MarkedCel (t : TypeId) (w : World) (S : Nat → Prop) (v : Value) (k : Int) (l : List CelD) (e : Ending) (w' : World) : Prop := e = .returned (.int .i64 (k + (l.length * 3 : Nat))) ∧ Owns w' S v (celsT t (mkL mCel sCel k l l.length)) ∧ Only S w w'
theorem osCel {S : Nat → Prop} {w w1 : World} {g i : Nat} {u1 u2 u3 : Value} (h : Only S w w1) (hg : S g) : Only S w (((w1.setCell ⟨g, i, none⟩ u1).setCell ⟨g, i + 1, none⟩ u2).setCell ⟨g, i + 2, none⟩ u3) :=
  ((h.setCell hg _).setCell hg _).setCell hg _
end Go.Proofs.Ytcimpcocgmlmoaa
