/- A row under slices.DeleteFunc, as lists; 'clear' on keys. No condition: plain lemmas. -/
import Derived.Test.YthopkhpiikiknaaSeeKeysP
import Derived.Test.YthopkhpiikiknaaLay
namespace Go.Proofs.Ythopkhpiikiknaa
open Go.RowKit
set_option maxRecDepth 100000
set_option linter.unusedSimpArgs false
set_option linter.unusedVariables false

/-- The first i hold what was kept of the first j of l; from j on nothing has turned. -/
structure DelIn (q : KeyD → Bool) (l m : List KeyD) (i j : Nat) : Prop where
  len : m.length = l.length
  jl : j ≤ l.length
  ij : i < j
  kept : m.take i = (l.take j).filter q
  rest : m.drop j = l.drop j
theorem all_kept {q : KeyD → Bool} {l : List KeyD} (h : ∀ j (hj : j < l.length), q l[j] = true) : l.filter q = l := by
  rw [List.filter_eq_self]
  intro x hx
  obtain ⟨j, hj, rfl⟩ := List.mem_iff_getElem.1 hx
  exact h j hj
theorem DelIn.start {q : KeyD → Bool} {l : List KeyD} {n : Nat} (hn : n < l.length) (h1 : q l[n] = false) (h2 : ∀ j (hj : j < n), q (l[j]'(by omega)) = true) : DelIn q l l n (n + 1) := by
  refine ⟨rfl, hn, Nat.lt_succ_self _, ?_, rfl⟩
  rw [List.take_succ_eq_append_getElem hn, List.filter_append]
  have e : (l.take n).filter q = l.take n := all_kept (fun j hj => by
    rw [List.getElem_take]
    rw [List.length_take] at hj
    exact h2 j (by omega))
  rw [e]
  simp [h1]
theorem DelIn.at {q : KeyD → Bool} {l m : List KeyD} {i j : Nat} (h : DelIn q l m i j) (hj : j < l.length) : m[j]'(by rw [h.len]; exact hj) = l[j] := by
  have h1 := h.rest
  have h2 : (m.drop j)[0]? = (l.drop j)[0]? := by rw [h1]
  rw [List.getElem?_drop, List.getElem?_drop, Nat.add_zero, List.getElem?_eq_getElem hj, List.getElem?_eq_getElem (by rw [h.len]; exact hj)] at h2
  exact Option.some.inj h2
theorem DelIn.drop {q : KeyD → Bool} {l m : List KeyD} {i j : Nat} (h : DelIn q l m i j) (hj : j < l.length) (hq : q l[j] = false) : DelIn q l m i (j + 1) := by
  refine ⟨h.len, hj, Nat.lt_succ_of_lt h.ij, ?_, ?_⟩
  · rw [h.kept, List.take_succ_eq_append_getElem hj, List.filter_append]
    simp [hq]
  · rw [← List.drop_drop, h.rest, List.drop_drop]
theorem DelIn.keep {q : KeyD → Bool} {l m : List KeyD} {i j : Nat} (h : DelIn q l m i j) (hj : j < l.length) (hq : q l[j] = true) : DelIn q l (m.set i l[j]) (i + 1) (j + 1) := by
  have hl := h.len
  have hij := h.ij
  refine ⟨by rw [List.length_set]; exact hl, hj, by omega, ?_, ?_⟩
  · rw [List.take_succ_eq_append_getElem (by rw [List.length_set]; omega), List.take_set_of_le (Nat.le_refl _), List.getElem_set_self, h.kept, List.take_succ_eq_append_getElem hj, List.filter_append]
    simp [hq]
  · rw [List.drop_set_of_lt (by omega), ← List.drop_drop, h.rest, List.drop_drop]
theorem DelIn.done {q : KeyD → Bool} {l m : List KeyD} {i j : Nat} (h : DelIn q l m i j) (hj : ¬ j < l.length) : m.take i = l.filter q ∧ i = (l.filter q).length ∧ i < l.length := by
  have hl := h.len
  have hij := h.ij
  have h1 := h.kept
  rw [show l.take j = l from List.take_of_length_le (by omega)] at h1
  refine ⟨h1, ?_, by have := h.jl; omega⟩
  rw [← h1, List.length_take]
  have := h.jl
  omega
theorem zero_cells (zero : Array Value) (n : Nat) : (Builtin.zeroCells zero n).toList.length = n * zero.size ∧ ((∀ v ∈ zero.toList, v.oneCell' = true) → ∀ v ∈ (Builtin.zeroCells zero n).toList, v.oneCell' = true) := by
  refine ⟨by simp [Builtin.zeroCells], fun h v hv => ?_⟩
  simp only [Builtin.zeroCells, Array.toList_map, Array.toList_range, List.mem_map, List.mem_range] at hv
  obtain ⟨i, hi, rfl⟩ := hv
  have hp : 0 < zero.size := by
    rcases Nat.eq_zero_or_pos zero.size with h0 | h0
    · rw [h0] at hi; simp at hi
    · exact h0
  have hlt := Nat.mod_lt i hp
  rw [getElem!_pos zero _ hlt]
  exact h _ (by simp)
/-- clear of n keys: nothing but the cells of these n turns. -/
theorem clear_keys (W : World) (g o n : Nat) (cur : Array Value) (e : TypeId) (hh : W.heap[g]? = some (.cells cur e (0, 0))) (hn : 0 < n) (ho : o + n * 5 ≤ cur.size) :
    ∃ zs : List Value, zs.length = n * 5 ∧ ∀ ty c, (Builtin.clear_ #[36] ty #[.slice (some ⟨g, o, none⟩) n c]).run Try.prog W = .ok (.tuple #[]) (W.setCells g o zs) := by
  obtain ⟨i, hi, h0, h1, h2⟩ := info_parts key_info
  obtain ⟨z1, z2⟩ := zero_cells (Value.agg #[.int .i64 0, .int .i64 0, .int .i64 0, .int .i64 0, .int .i64 0]).cells n
  have hcl : (Value.agg #[.int .i64 0, .int .i64 0, .int .i64 0, .int .i64 0, .int .i64 0]).cells = #[.int .i64 0, .int .i64 0, .int .i64 0, .int .i64 0, .int .i64 0] := by kernel_rfl
  refine ⟨(Builtin.zeroCells (Value.agg #[.int .i64 0, .int .i64 0, .int .i64 0, .int .i64 0, .int .i64 0]).cells n).toList, by rw [z1, hcl]; rfl, fun ty c => ?_⟩
  have hst := run_storeCells_cells (P := Try.prog) g o (Builtin.zeroCells (Value.agg #[.int .i64 0, .int .i64 0, .int .i64 0, .int .i64 0, .int .i64 0]).cells n).toList 0 W (fun j hj => by
    rw [z1, hcl] at hj
    have hj2 : j < n * 5 := hj
    rw [cell_of_row W g _ cur e (0, 0) hh, Array.getElem?_eq_getElem (by omega)]; rfl) (fun j hj => frozen_of_row W g _ cur e hh) (z2 (by rw [hcl]; intro v hv; simp at hv; subst hv; rfl))
  simp only [Nat.add_zero] at hst
  obtain ⟨m, rfl⟩ : ∃ m, n = m + 1 := ⟨n - 1, by omega⟩
  simp [Builtin.clear_, run_underlying Try.underlying36, zeroValue, typeInfo, hi, h0, hst]
end Go.Proofs.Ythopkhpiikiknaa
