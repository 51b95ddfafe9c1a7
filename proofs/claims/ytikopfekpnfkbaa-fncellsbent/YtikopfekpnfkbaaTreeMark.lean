/- Contracts for trees in the laws: laws.markTree writes marks, laws.heldTree finds them. Conditions: at most 1100000 bounds, nodes, sets and keys. -/
import Derived.Test.YtikopfekpnfkbaaTreeLaw
namespace Go.Proofs.Ytikopfekpnfkbaa
open Go.RowKit Go.ChangeShapes Go.WideShapes Go.Deep
set_option maxRecDepth 100000
set_option linter.unusedSimpArgs false
set_option linter.unusedVariables false

def mI (k : Int) (_ : Int) : Int := k
def sI (_ : Int) : Nat := 1
def mNd (k : Int) (ns : NodeD) : NodeD := mkL mN sN k ns ns.length
def sNd (ns : NodeD) : Nat := sumN ns * 5
def mkI (k : Int) (l : List Int) : List Int := mkL mI sI k l l.length
def mkT (k : Int) (ts : List NodeD) : List NodeD := mkL mNd sNd k ts ts.length
theorem mNd_len (k : Int) (ns : NodeD) : (mNd k ns).length = ns.length := mkL_length _ _ _ _ _
theorem totI (l : List Int) (i : Nat) (h : i ≤ l.length) : totL sI l i = i := by
  induction l generalizing i with
  | nil => simp at h; subst h; rfl
  | cons a l ih =>
    cases i with
    | zero => rfl
    | succ i => simp only [totL, sI]; rw [ih i (by simpa using h)]; omega
theorem totT (ts : List NodeD) (i : Nat) : totL sNd ts i ≤ sumT ts * 5 := by
  induction ts generalizing i with
  | nil => cases i <;> simp [totL]
  | cons a ts ih =>
    cases i with
    | zero => simp [totL]
    | succ i => have := ih i; simp only [totL, sNd, sumT_cons]; omega
def RwC (w : World) (g : Nat) (e : TypeId) (n : Nat) (xs : List Value) : Prop := ∃ cur : Array Value, w.heap[g]? = some (.cells cur e (0, 0)) ∧ n ≤ cur.size ∧ cur.toList.take n = xs
theorem RwC.set {w : World} {g : Nat} {e : TypeId} {n : Nat} {xs : List Value} (h : RwC w g e n xs) (i : Nat) (u : Value) : RwC (w.setCell ⟨g, i, none⟩ u) g e n (xs.set i u) := by
  obtain ⟨cur, hg, hs, hx⟩ := h
  refine ⟨cur.setIfInBounds i u, heap_setCell_same w g i cur _ _ hg, by simpa using hs, ?_⟩
  rw [Array.toList_setIfInBounds, ← hx, List.take_set]
theorem RwC.cell {w : World} {g : Nat} {e : TypeId} {n : Nat} {xs : List Value} (h : RwC w g e n xs) {i : Nat} (hi : i < xs.length) : w.cell? ⟨g, i, none⟩ = some xs[i] := by
  obtain ⟨cur, hg, hs, hx⟩ := h
  rw [cell_of_row w g i cur _ _ hg]
  subst hx
  simp at hi ⊢
theorem RwC.frozen {w : World} {g : Nat} {e : TypeId} {n : Nat} {xs : List Value} (h : RwC w g e n xs) (k : Nat) : w.frozen? ⟨g, k, none⟩ = false := by
  obtain ⟨cur, hg, _⟩ := h
  exact frozen_of_row w g k cur _ hg
theorem lits_eq {w : World} {B : Nat} {xs : List Value} {l : List Int} (h : ReadsL w B xs (l.map fun n => .lit (iV n))) : xs = l.map iV := by
  refine List.ext_getElem (by rw [h.1]; simp) (fun i h1 h2 => ?_)
  have := h.2 i h1 (by rw [← h.1]; exact h1)
  simp only [List.getElem_map] at this ⊢
  generalize xs[i] = x at this
  cases this
  rfl
def markEnd (k : Int) (lo : List Int) (ts : List NodeD) : Int := k + (lo.length : Nat) + (totL sNd ts ts.length : Nat)
theorem markEnd_le {k : Int} {lo : List Int} {ts : List NodeD} (hs : SmallT lo ts) (h0 : 0 ≤ k) (h1 : k ≤ 274877906944) : 0 ≤ markEnd k lo ts ∧ markEnd k lo ts ≤ 549755813888 := by
  have := totT ts ts.length
  have := hs.1
  have := hs.2.2
  unfold markEnd
  omega
end Go.Proofs.Ytikopfekpnfkbaa
