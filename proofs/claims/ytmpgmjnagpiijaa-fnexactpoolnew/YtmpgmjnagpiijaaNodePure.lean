/- What the node functions answer, as functions on lists. No condition: plain lemmas. -/
import Derived.Test.YtmpgmjnagpiijaaNode
import Derived.Test.YtmpgmjnagpiijaaKSetPure
namespace Go.Proofs.Ytmpgmjnagpiijaa
open Go.RowKit
set_option maxRecDepth 100000
set_option linter.unusedSimpArgs false
set_option linter.unusedVariables false

def okL (l : List KeyD) : Bool := setOkB l && decide (0 < l.length)
def nodeOkB (ns : List (List KeyD)) : Bool := ns.all okL && decide (ns.length ≤ 3) && decide (sumN ns ≤ 8)
/-- The newest set first. -/
def atRev : List (List KeyD) → Int → Int → Option KeyD
  | [], _, _ => none
  | l :: r, b, a => match atK l b a with
    | some k => if k.c = 0 then none else some k
    | none => atRev r b a
def nodeAtK (ns : List (List KeyD)) (b a : Int) : Option KeyD := atRev ns.reverse b a
def nodeKeysK (ns : List (List KeyD)) : List KeyD := dropK (ns.foldl mergeK [])
def nodeNewK (l : List KeyD) : List (List KeyD) := if l.length = 0 then [] else [l]
def nodePackK (ns : List (List KeyD)) : List (List KeyD) := nodeNewK (nodeKeysK ns)
def takesB (l : List KeyD) (k : KeyD) : Bool := (atK l k.a k.b).isSome || decide (l.length < 4)
def layerK (ns : List (List KeyD)) (k : KeyD) : List (List KeyD) :=
  if h : 0 < ns.length then if takesB (ns[ns.length - 1]'(by omega)) k then ns.set (ns.length - 1) (putK (ns[ns.length - 1]'(by omega)) k) else ns ++ [[k]] else ns ++ [[k]]
def rebK (ns : List (List KeyD)) (k : KeyD) : List KeyD := dropK (putK (nodeKeysK ns) k)
def putNB (ns : List (List KeyD)) (k : KeyD) : Bool := nodeOkB (layerK ns k) || nodeOkB (nodeNewK (rebK ns k))
def putN (ns : List (List KeyD)) (k : KeyD) : List (List KeyD) := if nodeOkB (layerK ns k) then layerK ns k else if nodeOkB (nodeNewK (rebK ns k)) then nodeNewK (rebK ns k) else ns
theorem foldl_flat (ns : List (List KeyD)) (a : List KeyD) : ns.foldl mergeK a = mergeK a ns.flatten := by
  induction ns generalizing a with
  | nil => rfl
  | cons l ns ih =>
    rw [List.foldl_cons, ih, List.flatten_cons]
    unfold mergeK
    rw [List.foldl_append]
theorem keys_flat (ns : List (List KeyD)) : nodeKeysK ns = dropK (mergeK [] ns.flatten) := by rw [nodeKeysK, foldl_flat]
theorem flat_sum (ns : List (List KeyD)) : ns.flatten.length = sumN ns := by simp [sumN, List.length_flatten]
theorem fold_len (ns : List (List KeyD)) (a : List KeyD) : (ns.foldl mergeK a).length ≤ a.length + sumN ns := by
  rw [foldl_flat, ← flat_sum]
  exact mergeK_len _ _
theorem nodeKeys_len (ns : List (List KeyD)) : (nodeKeysK ns).length ≤ sumN ns := by
  have h := fold_len ns []
  have h2 := dropK_len (ns.foldl mergeK [])
  unfold nodeKeysK
  simp at h
  omega
theorem sum_new (l : List KeyD) : sumN (nodeNewK l) = l.length := by
  unfold nodeNewK
  split
  · rename_i h; rw [h]; rfl
  · rw [sumN_cons, sumN_nil]; omega
theorem len_new (l : List KeyD) : (nodeNewK l).length ≤ 1 := by
  unfold nodeNewK
  split <;> simp
theorem sum_set (ns : List (List KeyD)) (i : Nat) (l : List KeyD) (h : i < ns.length) : sumN (ns.set i l) + (ns[i]).length = sumN ns + l.length := by
  induction ns generalizing i with
  | nil => simp at h
  | cons a ns ih =>
    cases i with
    | zero => simp only [List.set_cons_zero, sumN_cons, List.getElem_cons_zero]; omega
    | succ i =>
      have := ih i (by simpa using h)
      simp only [List.set_cons_succ, sumN_cons, List.getElem_cons_succ]; omega
theorem layer_small (ns : List (List KeyD)) (k : KeyD) : (layerK ns k).length ≤ ns.length + 1 ∧ sumN (layerK ns k) ≤ sumN ns + 1 := by
  unfold layerK
  split
  · split
    · rename_i h _
      have h1 := sum_set ns (ns.length - 1) (putK ns[ns.length - 1] k) (by omega)
      have h2 := putK_len (ns[ns.length - 1]) k
      exact ⟨by simp, by omega⟩
    · exact ⟨by simp, by rw [sumN_append, sumN_cons, sumN_nil]; simp⟩
  · exact ⟨by simp, by rw [sumN_append, sumN_cons, sumN_nil]; simp⟩
theorem reb_len (ns : List (List KeyD)) (k : KeyD) : (rebK ns k).length ≤ sumN ns + 1 := by
  have h1 := nodeKeys_len ns
  have h2 := putK_len (nodeKeysK ns) k
  have h3 := dropK_len (putK (nodeKeysK ns) k)
  unfold rebK
  omega
theorem putN_small {ns : List (List KeyD)} {k : KeyD} {m : Nat} (h1 : ns.length ≤ m) (h2 : sumN ns ≤ m) : (putN ns k).length ≤ m + 1 ∧ sumN (putN ns k) ≤ m + 1 := by
  have h3 := layer_small ns k
  have h4 := reb_len ns k
  unfold putN
  split
  · omega
  · split
    · have := len_new (rebK ns k)
      rw [sum_new]
      omega
    · omega
theorem ok_new_long {l : List KeyD} (h : 8 < l.length) : nodeOkB (nodeNewK l) = false := by
  unfold nodeOkB
  rw [sum_new, decide_eq_false (show ¬ l.length ≤ 8 by omega), Bool.and_false]
theorem all_take {ns : List (List KeyD)} {k : Nat} (h : k < ns.length) (h1 : (ns.take k).all okL = true) (h2 : okL ns[k] = true) : (ns.take (k + 1)).all okL = true := by
  rw [List.take_succ_eq_append_getElem h, List.all_append, h1]
  simp [h2]
theorem all_bad {ns : List (List KeyD)} {k : Nat} (h : k < ns.length) (h2 : okL ns[k] = false) : nodeOkB ns = false := by
  have : ns.all okL = false := by
    rw [List.all_eq_false]
    exact ⟨ns[k], List.getElem_mem h, by simp [h2]⟩
  rw [nodeOkB, this]
  rfl
theorem atRev_step {ns : List (List KeyD)} {k : Nat} (h : k < ns.length) (b a : Int) : atRev (ns.take (k + 1)).reverse b a = match atK ns[k] b a with
    | some x => if x.c = 0 then none else some x
    | none => atRev (ns.take k).reverse b a := by
  rw [List.take_succ_eq_append_getElem h, List.reverse_append]
  rfl
def pickO : Option KeyD → Option KeyD
  | some x => if x.c = 0 then none else some x
  | none => none
/-- The same, key by key. -/
theorem atRev_find (r : List (List KeyD)) (b a : Int) : atRev r b a = pickO (r.flatten.find? (fun x => spotB x.a x.b b a)) := by
  induction r with
  | nil => rfl
  | cons l r ih =>
    rw [List.flatten_cons, List.find?_append]
    unfold atRev atK
    cases l.find? (fun x => spotB x.a x.b b a) with
    | none => simpa using ih
    | some x => rfl
end Go.Proofs.Ytmpgmjnagpiijaa
