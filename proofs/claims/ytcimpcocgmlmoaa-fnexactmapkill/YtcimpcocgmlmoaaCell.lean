/- Cells: how lists of them lie in memory, how they are read, owned, made and appended to; a list that comes in as an argument is opened. Conditions: at most 2^20 of them (making), 2^30 (appending). -/
import Derived.Test.YtcimpcocgmlmoaaKSetMark
import Derived.Test.YtcimpcocgmlmoaaTreeMark
namespace Go.Proofs.Ytcimpcocgmlmoaa
open Go.RowKit Go.ChangeShapes Go.WideShapes Go.Deep
set_option maxRecDepth 100000
set_option linter.unusedSimpArgs false
set_option linter.unusedVariables false

structure CelD where
  (a : Int) (b : Bool) (c : Int)
  deriving DecidableEq
def CelD.v (k : CelD) : Value := .agg #[.int .i64 k.a, .bool k.b, .int .i64 k.c]
def celC (k : CelD) : List Dat := [.lit (.int .i64 k.a), .lit (.bool k.b), .lit (.int .i64 k.c)]
def celX (k : CelD) : List Value := [.int .i64 k.a, .bool k.b, .int .i64 k.c]
theorem celC_len (k : CelD) : (celC k).length = 3 := rfl
/-- Cells in a block that was made for a row of type t: a row of cells, or an array of them. -/
def celsT (t : TypeId) (l : List CelD) : Dat := .row t 3 l.length (l.flatMap celC)
def celvl (l : List CelD) : List Value := l.flatMap celX
theorem celvl_cons (k : CelD) (l : List CelD) : celvl (k :: l) = celX k ++ celvl l := rfl
theorem celvl_len (l : List CelD) : (celvl l).length = l.length * 3 := by
  induction l with
  | nil => rfl
  | cons k l ih =>
    rw [celvl_cons, List.length_append, ih]
    simp [celX, Nat.add_mul]; omega
theorem celvl_append (l m : List CelD) : celvl (l ++ m) = celvl l ++ celvl m := by simp [celvl]
theorem celvl_one (k : CelD) : celvl [k] = celX k := by simp [celvl]
theorem celvl_cells (l : List CelD) : ∀ u ∈ celvl l, u.oneCell' = true := by
  intro u hu
  simp only [celvl, List.mem_flatMap, celX] at hu
  obtain ⟨k, _, hk⟩ := hu
  simp at hk
  rcases hk with rfl | rfl | rfl <;> rfl
theorem cels_len (l : List CelD) : (l.flatMap celC).length = l.length * 3 := flat_len celC 3 l celC_len
theorem celC_map (l : List CelD) : l.flatMap celC = (celvl l).map Dat.lit := by
  induction l with
  | nil => rfl
  | cons k l ih =>
    rw [celvl_cons, List.map_append, ← ih]
    rfl
theorem cel_drop {l : List CelD} {k : Nat} (h : k < l.length) : l.drop k = l[k] :: l.drop (k + 1) := List.drop_eq_getElem_cons h
/-- The cells from place o of block b on hold the datum k. -/
abbrev CelF (w : World) (b o : Nat) (k : CelD) : Prop := w.cell? ⟨b, o, none⟩ = some (.int .i64 k.a) ∧ w.cell? ⟨b, o + 1, none⟩ = some (.bool k.b) ∧ w.cell? ⟨b, o + 2, none⟩ = some (.int .i64 k.c)
theorem CelF.keep {w w' : World} {b o : Nat} {k : CelD} (h : CelF w b o k) (hb : w'.heap[b]? = w.heap[b]?) : CelF w' b o k :=
  ⟨(World.cell?_of_block (a := ⟨b, o, none⟩) hb).trans h.1, (World.cell?_of_block (a := ⟨b, o + 1, none⟩) hb).trans h.2.1, (World.cell?_of_block (a := ⟨b, o + 2, none⟩) hb).trans h.2.2⟩
theorem CelF.on {w w' : World} {b o : Nat} {k : CelD} (h : CelF w b o k) (hlt : b < w.heap.size) (hb : Below w.heap.size w w') : CelF w' b o k := h.keep (hb.block b hlt)
theorem Reads.cels {w : World} {B : Nat} {A : Option Addr} {e n cap : Nat} {l : List CelD} (h : Reads w B (.slice A n cap) (.row e 3 l.length (l.flatMap celC))) {i : Nat} (hi : i < l.length) :
    ∃ b off, A = some ⟨b, off, none⟩ ∧ b < B ∧ ∀ k (hk : k < l.length), CelF w b (off + k * 3) l[k] := by
  obtain ⟨A', cap', hv, hn, hc, hl, _, k⟩ := h.row'
  cases hv
  rcases k with h | ⟨b, off, xs, rfl, hb, hx, hcell, hr⟩
  · have := congrArg List.length h
    rw [cels_len] at this; simp only [List.length_nil] at this; omega
  · refine ⟨b, off, rfl, hb, fun k hk => ?_⟩
    rw [cels_len] at hx
    have get : ∀ j, j < 3 → ∃ x c, w.cell? ⟨b, off + (k * 3 + j), none⟩ = some x ∧ (celC l[k])[j]? = some c ∧ Reads w B x c := by
      intro j hj
      have hlt := flat_lt (z := 3) hk hj
      have h1 := hr (k * 3 + j) (by omega) (by rw [cels_len]; omega)
      have h2 := hcell (k * 3 + j) (by omega)
      have h3 := flat_get celC 3 l celC_len k j hk hj
      rw [List.getElem?_eq_getElem (by rw [cels_len]; omega)] at h3
      exact ⟨_, _, h2, h3.symm, h1⟩
    obtain ⟨x0, c0, a0, b0, r0⟩ := get 0 (by omega)
    obtain ⟨x1, c1, a1, b1, r1⟩ := get 1 (by omega)
    obtain ⟨x2, c2, a2, b2, r2⟩ := get 2 (by omega)
    simp [celC] at b0 b1 b2
    subst b0 b1 b2
    cases r0
    cases r1
    cases r2
    exact ⟨a0, a1, a2⟩
theorem Reads.shapeCel {w : World} {B : Nat} {v : Value} {e : TypeId} {l : List CelD} (h : Reads w B v (.row e 3 l.length (l.flatMap celC))) : ∃ A cap, v = .slice A l.length cap ∧ l.length ≤ cap ∧ cap ≤ maxLen := by
  obtain ⟨A, cap, hv, hn, hc, _⟩ := h.row'
  exact ⟨A, cap, hv, hn, hc⟩
theorem Reads.atCel {w : World} {B : Nat} {A : Option Addr} {e n cap : Nat} {l : List CelD} (h : Reads w B (.slice A n cap) (.row e 3 l.length (l.flatMap celC))) : At w A (celvl l) := by
  obtain ⟨A', cap', hv, hn, hc, hl, _, k⟩ := h.row'
  cases hv
  rcases k with h | ⟨b, off, xs, rfl, hb, hx, hcell, hr⟩
  · left
    have := congrArg List.length h
    rw [cels_len] at this
    exact List.length_eq_zero_iff.1 (by rw [celvl_len]; simpa using this)
  · right
    refine ⟨b, off, rfl, ?_⟩
    have : xs = celvl l := lit_reads (by rw [hx, cels_len, celvl_len]) (by rw [← celC_map]; exact hr)
    subst this
    exact hcell
theorem Reads.retype {w : World} {B : Nat} {v : Value} {t : TypeId} {l : List CelD} (h : Reads w B v (celsT t l)) (u : TypeId) : Reads w B v (celsT u l) := by
  obtain ⟨A, cap, rfl, hn, hc, hl, _, k⟩ := h.row'
  rcases k with h | ⟨b, off, xs, rfl, hb, hx, hcell, hr⟩
  · exact Reads.ofBytes (xs := []) hn hc hl (by omega) (.inl h)
  · exact .row b off _ cap u 3 xs _ hb hn hc hl hx hcell hr
theorem At.cel (w : World) (k : CelD) (e : TypeId) : At (w.alloc (.cells #[.int .i64 k.a, .bool k.b, .int .i64 k.c] e)) (some ⟨w.heap.size, 0, none⟩) (celvl [k]) := by
  refine .inr ⟨w.heap.size, 0, rfl, fun i hi => ?_⟩
  rw [cell_of_row _ _ _ _ _ _ (heap_alloc_new w _)]
  simp only [celvl_one, celX, List.length_cons, List.length_nil] at hi ⊢
  match i, hi with
  | 0, _ => rfl
  | 1, _ => rfl
  | 2, _ => rfl
end Go.Proofs.Ytcimpcocgmlmoaa
