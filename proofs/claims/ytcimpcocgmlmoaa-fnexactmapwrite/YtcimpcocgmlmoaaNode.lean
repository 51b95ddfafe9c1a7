/- Nodes as data: a list of sets of keys; how it lies in memory; contracts for nodes in the laws: laws.szNode counts, toNode copies, eqNode finds two that read alike equal; a node that comes in as an argument is opened. Conditions: at most 1100000 sets and keys. -/
import Derived.Test.YtcimpcocgmlmoaaKSetMark
namespace Go.Proofs.Ytcimpcocgmlmoaa
open Go.RowKit Go.ChangeShapes Go.WideShapes Go.Deep
set_option maxRecDepth 100000
set_option linter.unusedSimpArgs false
set_option linter.unusedVariables false

/-- How many keys the sets hold. -/
def sumN (ns : List (List KeyD)) : Nat := (ns.map List.length).sum
theorem sumN_nil : sumN [] = 0 := rfl
theorem sumN_cons (l : List KeyD) (ns : List (List KeyD)) : sumN (l :: ns) = l.length + sumN ns := by simp [sumN]
theorem sumN_append (a b : List (List KeyD)) : sumN (a ++ b) = sumN a + sumN b := by simp [sumN]
theorem sumN_mem {l : List KeyD} {ns : List (List KeyD)} (h : l ∈ ns) : l.length ≤ sumN ns := by
  induction ns with
  | nil => simp at h
  | cons a ns ih =>
    rw [sumN_cons]
    rcases List.mem_cons.1 h with rfl | h
    · omega
    · have := ih h; omega
theorem sumN_take {ns : List (List KeyD)} {k : Nat} (h : k < ns.length) : sumN (ns.take (k + 1)) = sumN (ns.take k) + (ns[k]).length := by
  rw [List.take_succ_eq_append_getElem h, sumN_append, sumN_cons, sumN_nil]; omega
theorem sumN_take_le (ns : List (List KeyD)) (k : Nat) : sumN (ns.take k) ≤ sumN ns := by
  have h := sumN_append (ns.take k) (ns.drop k)
  rw [List.take_append_drop] at h
  omega
def SmallN (ns : List (List KeyD)) : Prop := ns.length ≤ 1100000 ∧ sumN ns ≤ 1100000
theorem SmallN.at {ns : List (List KeyD)} (h : SmallN ns) {k : Nat} (hk : k < ns.length) : (ns[k]).length ≤ 1100000 := Nat.le_trans (sumN_mem (List.getElem_mem hk)) h.2
/-- A row of sets, its elements one by one. -/
theorem Reads.set {w : World} {B : Nat} {A : Option Addr} {e e2 n cap : Nat} {ns : List (List KeyD)} (h : Reads w B (.slice A n cap) (.row e 1 ns.length (ns.map fun l => .row e2 5 l.length (l.flatMap kC)))) {i : Nat} (hi : i < ns.length) :
    ∃ b off, A = some ⟨b, off, none⟩ ∧ b < B ∧ ∀ k (hk : k < ns.length), ∃ A2 c2, w.cell? ⟨b, off + k, none⟩ = some (.slice A2 (ns[k]).length c2) ∧ (ns[k]).length ≤ c2 ∧ c2 ≤ maxLen ∧ Reads w B (.slice A2 (ns[k]).length c2) (.row e2 5 (ns[k]).length ((ns[k]).flatMap kC)) := by
  obtain ⟨A', cap', hv, hn, hc, hl, _, k⟩ := h.row'
  cases hv
  rcases k with h | ⟨b, off, xs, rfl, hb, hx, hcell, hr⟩
  · simp at h; subst h; simp at hi
  · refine ⟨b, off, rfl, hb, fun k hk => ?_⟩
    have hx' : xs.length = ns.length := by simpa using hx
    have h1 := hr k (by omega) (by simpa using hk)
    rw [List.getElem_map] at h1
    have h2 := hcell k (by omega)
    generalize xs[k] = x at h1 h2
    obtain ⟨A2, c2, rfl, h3, h4⟩ := h1.shapeK
    exact ⟨A2, c2, h2, h3, h4, h1⟩
theorem Reads.lenN {w : World} {B : Nat} {v : Value} {e z n : Nat} {cs : List Dat} (h : Reads w B v (.row e z n cs)) : ∃ A cap, v = .slice A n cap ∧ n ≤ cap ∧ cap ≤ maxLen := by
  obtain ⟨A, cap, hv, hn, hc, _⟩ := h.row'
  exact ⟨A, cap, hv, hn, hc⟩
theorem box1N {w : World} {p : Nat} {a : Value} {t : TypeId} (h : w.heap[p]? = some (.cells #[a] t (0, 0))) : w.cell? ⟨p, 0, none⟩ = some a ∧ ∀ o, w.frozen? ⟨p, o, none⟩ = false :=
  ⟨by rw [cell_of_row w p 0 _ _ _ h]; rfl, fun o => frozen_of_row w p o _ _ h⟩
theorem made1N (z : Value) (n : Nat) : (madeCells #[z] n).size = n * 1 := by simp [size_madeCells]
end Go.Proofs.Ytcimpcocgmlmoaa
