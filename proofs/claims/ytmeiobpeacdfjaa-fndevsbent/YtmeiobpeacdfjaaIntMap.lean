/- Maps with int keys of the call's own, told by the list of their keys: look up, store under a new key, delete. No condition: plain laws. -/
import Derived.Test.YtmeiobpeacdfjaaMem
namespace Go.Proofs.Ytmeiobpeacdfjaa
open Go.RowKit
set_option maxRecDepth 100000
set_option linter.unusedSimpArgs false
set_option linter.unusedVariables false

/-- Block b is a map with the keys L, in the order in which they were stored; under i lies val i. -/
def MapIs (w : World) (b : Nat) (L : List Nat) (val : Nat → Value) : Prop := ∃ es clock, w.heap[b]? = some (.map es clock) ∧ es.toList.map (fun e => (e.key, e.val)) = L.map (fun (i : Nat) => (Value.int .i64 (i : Int), val i))
theorem MapIs.keep {w w' : World} {b : Nat} {L : List Nat} {val : Nat → Value} (h : MapIs w b L val) (hk : w'.heap[b]? = w.heap[b]?) : MapIs w' b L val := by
  obtain ⟨es, c, hb, r⟩ := h
  exact ⟨es, c, hk.trans hb, r⟩
theorem MapIs.lt {w : World} {b : Nat} {L : List Nat} {val : Nat → Value} (h : MapIs w b L val) : b < w.heap.size := by
  obtain ⟨es, c, hb, r⟩ := h
  exact (Array.getElem?_eq_some_iff.1 hb).1
theorem MapIs.on {w w' : World} {b : Nat} {L : List Nat} {val : Nat → Value} (h : MapIs w b L val) (hb : Below w.heap.size w w') : MapIs w' b L val := h.keep (hb.block b h.lt)
theorem find_lem (val : Nat → Value) (k : Nat) : ∀ (L : List Nat) (es : List MapEntry) (i0 : Nat), es.map (fun e => (e.key, e.val)) = L.map (fun (i : Nat) => (Value.int .i64 (i : Int), val i)) →
    Instr.findNow (.int .i64) (.int .i64 (k : Int)) es i0 = some (if k ∈ L then some (i0 + L.idxOf k, val k) else none)
  | [], es, i0, h => by
    have : es = [] := by simpa using h
    subst this; simp [Instr.findNow]
  | j :: L, [], i0, h => by simp at h
  | j :: L, e :: es, i0, h => by
    simp only [List.map_cons, List.cons.injEq, Prod.mk.injEq] at h
    obtain ⟨⟨h1, h2⟩, h3⟩ := h
    have ih := find_lem val k L es (i0 + 1) h3
    simp only [Instr.findNow, h1, h2, Instr.sameNow]
    by_cases hkj : k = j
    · subst hkj; simp
    · have : ((k : Int) == (j : Int)) = false := by simp; omega
      have hjk : ¬ j = k := fun h => hkj h.symm
      simp only [this, if_true, ih, List.mem_cons, hkj, false_or, List.idxOf_cons]
      by_cases hm : k ∈ L
      · have hbeq : (j == k) = false := by simpa using hjk
        simp [hm, hbeq]; omega
      · simp [hm]
section
variable {P : Program} {w : World} {t k e b : Nat} {L : List Nat} {val : Nat → Value}
theorem run_checkKey (hk : P.underlying k = some (.int .i64)) (em : Bool) (x : Int) : (Instr.checkKey em 10000 k (.int .i64 x)).run P w = .ok () w := by
  unfold Instr.checkKey
  simp [run_underlying hk]
theorem run_findKey (hk : P.underlying k = some (.int .i64)) {es : Array MapEntry} (hes : es.toList.map (fun e => (e.key, e.val)) = L.map (fun (i : Nat) => (Value.int .i64 (i : Int), val i))) (i : Nat) :
    (Instr.findKey k (.int .i64 (i : Int)) es.toList).run P w = .ok (if i ∈ L then some (L.idxOf i, val i) else none) w := by
  simp [Instr.findKey, run_underlying hk, find_lem val i L es.toList 0 hes]
theorem run_getMap {es : Array MapEntry} {c : Nat} (h : w.heap[b]? = some (.map es c)) : (getObj b).run P w = .ok (.map es c) w := by
  simp [getObj, Sem.run, h]
theorem run_look (ht : P.underlying t = some (.map k e)) (hk : P.underlying k = some (.int .i64)) (h : MapIs w b L val) (i : Nat) (hin : i ∈ L) :
    (Instr.lookup t (.map (some b)) (.int .i64 (i : Int)) true).run P w = .ok (.tuple #[val i, .bool true]) w := by
  obtain ⟨es, c, hb, hes⟩ := h
  simp [Instr.lookup, run_underlying ht, run_getMap hb, run_checkKey hk, run_findKey hk hes, hin]
theorem run_look_no (ht : P.underlying t = some (.map k e)) (hk : P.underlying k = some (.int .i64)) {z : Value} (hz : (zeroValue e).run P w = .ok z w) (h : MapIs w b L val) (i : Nat) (hin : i ∉ L) :
    (Instr.lookup t (.map (some b)) (.int .i64 (i : Int)) true).run P w = .ok (.tuple #[z, .bool false]) w := by
  obtain ⟨es, c, hb, hes⟩ := h
  simp [Instr.lookup, run_underlying ht, run_getMap hb, run_checkKey hk, run_findKey hk hes, hin, hz]
/-- The world in which block b holds o. -/
def putB (w : World) (b : Nat) (o : Obj) : World := { w with heap := w.heap.setIfInBounds b o }
theorem putB_grown (w : World) (b : Nat) (o : Obj) : w.grownBy (putB w b o) (some b) :=
  ⟨rfl, rfl, rfl, by simp [putB], fun i _ hne => by
    have h : b ≠ i := fun h => hne (congrArg some h.symm)
    simp [putB, Array.getElem?_setIfInBounds_ne h]⟩
theorem run_setMap {es : Array MapEntry} {c : Nat} (h : w.heap[b]? = some (.map es c)) (o : Obj) : (setObj b o).run P w = .ok () (putB w b o) := by
  simp [setObj, Sem.run, h, putB]
theorem erase_map {α β : Type} (f : α → β) (l : List α) (n : Nat) : (l.eraseIdx n).map f = (l.map f).eraseIdx n := by
  induction l generalizing n with
  | nil => rfl
  | cons a l ih => cases n with
    | zero => rfl
    | succ n => simp [ih]
theorem run_del (ht : P.underlying t = some (.map k e)) (hk : P.underlying k = some (.int .i64)) (h : MapIs w b L val) (i : Nat) (ty k' : Nat) :
    ∃ w', (Builtin.delete_ #[t, k'] ty #[.map (some b), .int .i64 (i : Int)]).run P w = .ok (.tuple #[]) w' ∧ MapIs w' b (L.erase i) val ∧ w.grownBy w' (some b) := by
  obtain ⟨es, c, hb, hes⟩ := h
  have hlt := (Array.getElem?_eq_some_iff.1 hb).1
  by_cases hin : i ∈ L
  · refine ⟨putB w b (.map (es.eraseIdxIfInBounds (L.idxOf i)) c), ?_, ⟨es.eraseIdxIfInBounds (L.idxOf i), c, by simp [putB, hlt], ?_⟩, putB_grown _ _ _⟩
    · simp [Builtin.delete_, run_underlying ht, run_getMap hb, run_checkKey hk, run_findKey hk hes, hin, run_setMap hb]
    · have hl : es.toList.length = L.length := by simpa using congrArg List.length hes
      have hi := List.idxOf_lt_length_of_mem hin
      have : (es.eraseIdxIfInBounds (L.idxOf i)).toList = es.toList.eraseIdx (L.idxOf i) := by
        rw [Array.eraseIdxIfInBounds, dif_pos (by rw [← Array.length_toList]; omega), Array.toList_eraseIdx]
      rw [this, erase_map, hes, ← erase_map, ← List.erase_eq_eraseIdx_of_idxOf rfl]
  · refine ⟨putB w b (.map es c), ?_, ⟨es, c, by simp [putB, hlt], by rw [List.erase_of_not_mem hin]; exact hes⟩, putB_grown _ _ _⟩
    simp [Builtin.delete_, run_underlying ht, run_getMap hb, run_checkKey hk, run_findKey hk hes, hin, run_setMap hb]
theorem run_upd (ht : P.underlying t = some (.map k e)) (hk : P.underlying k = some (.int .i64)) (h : MapIs w b L val) (i : Nat) (hin : i ∉ L) :
    ∃ w', (Instr.mapUpdate t (.map (some b)) (.int .i64 (i : Int)) (val i)).run P w = .ok () w' ∧ MapIs w' b (L ++ [i]) val ∧ w.grownBy w' (some b) := by
  obtain ⟨es, c, hb, hes⟩ := h
  have hlt := (Array.getElem?_eq_some_iff.1 hb).1
  refine ⟨putB w b (.map (es.push { key := .int .i64 (i : Int), val := val i, born := c }) (c + 1)), ?_, ⟨es.push { key := .int .i64 (i : Int), val := val i, born := c }, c + 1, by simp [putB, hlt], by simp [hes]⟩, putB_grown _ _ _⟩
  simp [Instr.mapUpdate, run_underlying ht, run_getMap hb, run_checkKey hk, run_findKey hk hes, hin, run_setMap hb]
theorem MapIs.made (w : World) (val : Nat → Value) : MapIs (w.alloc (.map #[] 0)) w.heap.size [] val := ⟨#[], 0, heap_alloc_new w _, rfl⟩
end
theorem wpList_delV {P : Program} {ops : Array Oper} {rest : List Oper} {o : Oper} {a : Act} {Q : Exit → Act → World → Prop} (w : World) (hgd : o.guard = none) (s x : Operand) (t k e k' b : Nat) (L : List Nat) (val : Nat → Value) (i : Nat)
    (hop : o.op = .call { callee := .builtin .delete, args := #[s, x], argTypes := #[t, k'] }) (ht : P.underlying t = some (.map k e)) (hk : P.underlying k = some (.int .i64)) (hs : a.eval s = .map (some b)) (hx : a.eval x = .int .i64 (i : Int)) (h : MapIs w b L val)
    (hK : ∀ w', MapIs w' b (L.erase i) val → w.grownBy w' (some b) → wpList P ops Q rest (a.put o.dst (.tuple #[])) w') : wpList P ops Q (o :: rest) a w := by
  refine wpList_plain hgd fun K hK' => ?_
  obtain ⟨w', hrun, h2, h3⟩ := run_del (P := P) ht hk h i o.type k'
  unfold Oper.wp execOp
  simp only [hop, resolve, invoke, builtin, Sem.run_bind, Sem.run_pure, Result.andThen_ok, List.map_toArray, List.map_cons, List.map_nil, hs, hx, hrun]
  exact hK' _ _ (hK w' h2 h3)
end Go.Proofs.Ytmeiobpeacdfjaa
