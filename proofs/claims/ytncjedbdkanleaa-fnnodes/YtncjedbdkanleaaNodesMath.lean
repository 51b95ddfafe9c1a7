/- What putting a key into a valid node means for the keys that it holds. No condition: plain lemmas. -/
import Derived.Test.YtncjedbdkanleaaNodePure
import Derived.Test.YtncjedbdkanleaaKSetMath
namespace Go.Proofs.Ytncjedbdkanleaa
open Go.RowKit
set_option maxRecDepth 100000
set_option linter.unusedSimpArgs false
set_option linter.unusedVariables false

theorem asc_of {l : List KeyD} (h : ∀ i (h : i + 1 < l.length), lessK l[i] l[i + 1] = true) : Asc l := by
  induction l with
  | nil => exact .nil
  | cons x t ih =>
    have ht : Asc t := ih (fun i hi => by have := h (i + 1) (by simp; omega); simpa using this)
    refine List.pairwise_cons.2 ⟨fun y hy => ?_, ht⟩
    cases t with
    | nil => simp at hy
    | cons z t' =>
      have h0 : lessK x z = true := by have := h 0 (by simp); simpa using this
      rcases List.mem_cons.1 hy with rfl | hy
      · exact h0
      · exact less_trans h0 ((List.pairwise_cons.1 ht).1 y hy)
theorem asc_rise {l : List KeyD} (h : riseB l = true) : Asc l := asc_of (fun i hi => (of_decide_eq_true h) i (by omega))
/-- Every set ascends, every key is valid. -/
def FineN (ns : List (List KeyD)) : Prop := ∀ l ∈ ns, Asc l ∧ l.all okK = true
theorem fine_of {ns : List (List KeyD)} (h : nodeOkB ns = true) : FineN ns := by
  intro l hl
  simp only [nodeOkB, Bool.and_eq_true, List.all_eq_true] at h
  have h1 := h.1.1 l hl
  simp only [okL, setOkB, Bool.and_eq_true] at h1
  exact ⟨asc_rise h1.1.1.2, h1.1.1.1⟩
theorem at_merge {a b : List KeyD} (hb : Asc b) (p q : Int) : atK (mergeK a b) p q = (atK b p q).or (atK a p q) := by
  cases h : atK b p q with
  | none => rw [merge_miss (at_none h)]; rfl
  | some y =>
    obtain ⟨h1, h2, h3⟩ := at_mem h
    have := merge_hit (a := a) hb h1
    rw [h2, h3] at this
    rw [this]; rfl
def newest : List (List KeyD) → Int → Int → Option KeyD
  | [], _, _ => none
  | l :: r, p, q => (atK l p q).or (newest r p q)
theorem newest_app (r s : List (List KeyD)) (p q : Int) : newest (r ++ s) p q = (newest r p q).or (newest s p q) := by
  induction r with
  | nil => rfl
  | cons l r ih => simp only [List.cons_append, newest, ih, Option.or_assoc]
theorem atRev_new (r : List (List KeyD)) (p q : Int) : atRev r p q = pickO (newest r p q) := by
  induction r with
  | nil => rfl
  | cons l r ih =>
    unfold atRev newest
    cases atK l p q with
    | none => simpa using ih
    | some x => rfl
theorem at_fold {ns : List (List KeyD)} (h : FineN ns) (a : List KeyD) (p q : Int) : atK (ns.foldl mergeK a) p q = (newest ns.reverse p q).or (atK a p q) := by
  induction ns generalizing a with
  | nil => rfl
  | cons l ns ih =>
    rw [List.foldl_cons, ih (fun x hx => h x (by simp [hx])), at_merge (h l (by simp)).1, List.reverse_cons, newest_app, Option.or_assoc]
    simp [newest]
theorem fold_asc {ns : List (List KeyD)} (a : List KeyD) (ha : Asc a) : Asc (ns.foldl mergeK a) := by
  induction ns generalizing a with
  | nil => exact ha
  | cons l ns ih => exact ih _ ha.merge
theorem fold_ok {ns : List (List KeyD)} (h : FineN ns) (a : List KeyD) (ha : a.all okK = true) : (ns.foldl mergeK a).all okK = true := by
  induction ns generalizing a with
  | nil => exact ha
  | cons l ns ih => exact ih (fun x hx => h x (by simp [hx])) _ (ok_merge ha (h l (by simp)).2)
theorem nodeAt_new (ns : List (List KeyD)) (p q : Int) : nodeAtK ns p q = pickO (newest ns.reverse p q) := atRev_new _ _ _
theorem drop_asc {l : List KeyD} (h : Asc l) : Asc (dropK l) := h.sublist List.filter_sublist
theorem drop_ok {l : List KeyD} (h : l.all okK = true) : (dropK l).all okK = true := by
  rw [List.all_eq_true] at h ⊢
  exact fun x hx => h x (List.mem_filter.1 hx).1
theorem at_drop {l : List KeyD} (h : Asc l) (p q : Int) : atK (dropK l) p q = pickO (atK l p q) := by
  cases hk : atK l p q with
  | none =>
    cases hd : atK (dropK l) p q with
    | none => rfl
    | some y =>
      obtain ⟨h1, h2⟩ := at_mem hd
      exact absurd h2 (at_none hk y (List.mem_filter.1 h1).1)
  | some k =>
    obtain ⟨h1, h2, h3⟩ := at_mem hk
    show _ = if k.c = 0 then none else some k
    by_cases h0 : k.c = 0
    · rw [if_pos h0]
      cases hd : atK (dropK l) p q with
      | none => rfl
      | some y =>
        obtain ⟨h4, h5, h6⟩ := at_mem hd
        have := at_uniq h (List.mem_filter.1 h4).1
        rw [h5, h6, hk] at this
        injection this with this
        subst this
        exact absurd h0 (drop_kind h4)
    · rw [if_neg h0]
      have hm : k ∈ dropK l := List.mem_filter.2 ⟨h1, by simpa using h0⟩
      have := at_uniq (drop_asc h) hm
      rw [h2, h3] at this
      exact this
theorem keys_asc (ns : List (List KeyD)) : Asc (nodeKeysK ns) := drop_asc (fold_asc _ .nil)
theorem keys_ok {ns : List (List KeyD)} (h : FineN ns) : (nodeKeysK ns).all okK = true := drop_ok (fold_ok h _ rfl)
theorem at_keys {ns : List (List KeyD)} (h : FineN ns) (p q : Int) : atK (nodeKeysK ns) p q = nodeAtK ns p q := by
  unfold nodeKeysK
  rw [at_drop (fold_asc _ .nil), at_fold h, nodeAt_new]
  cases newest ns.reverse p q <;> rfl
theorem pick_pick (o : Option KeyD) : pickO (pickO o) = pickO o := by
  cases o with
  | none => rfl
  | some x =>
    show pickO (if x.c = 0 then none else some x) = if x.c = 0 then none else some x
    by_cases h : x.c = 0
    · rw [if_pos h]; rfl
    · rw [if_neg h]
      show (if x.c = 0 then none else some x) = some x
      rw [if_neg h]
theorem new_fine {l : List KeyD} (h : Asc l) (hk : l.all okK = true) : FineN (nodeNewK l) := by
  unfold nodeNewK
  split
  · intro x hx; simp at hx
  · intro x hx
    simp at hx
    subst hx
    exact ⟨h, hk⟩
theorem new_ok {l : List KeyD} (h : Asc l) (hk : l.all okK = true) (hl : l.length ≤ 8) : nodeOkB (nodeNewK l) = true := by
  unfold nodeNewK
  split
  · rfl
  · simp only [nodeOkB, List.all_cons, List.all_nil, Bool.and_true, okL, setOkB, hk, h.rise, Bool.true_and, Bool.and_eq_true, decide_eq_true_eq, List.length_singleton, sumN_cons, sumN_nil]
    omega
theorem new_at {l : List KeyD} (p q : Int) : newest (nodeNewK l).reverse p q = atK l p q := by
  unfold nodeNewK
  split
  · rename_i h
    rw [List.length_eq_zero_iff.1 h]
    rfl
  · simp [newest]
theorem at_layer (ns : List (List KeyD)) (x : KeyD) (p q : Int) : newest (layerK ns x).reverse p q = if x.a = p ∧ x.b = q then some x else newest ns.reverse p q := by
  have hone : ∀ r : List (List KeyD), newest ((r ++ [[x]]).reverse) p q = if x.a = p ∧ x.b = q then some x else newest r.reverse p q := by
    intro r
    rw [List.reverse_append]
    show (atK [x] p q).or _ = _
    by_cases h : x.a = p ∧ x.b = q
    · rw [if_pos h]; simp [atK, (spotB_iff _ _ _ _).2 h]
    · rw [if_neg h]
      have : spotB x.a x.b p q = false := by
        cases hc : spotB x.a x.b p q with
        | false => rfl
        | true => exact absurd ((spotB_iff _ _ _ _).1 hc) h
      simp [atK, this]
  unfold layerK
  split
  · rename_i h0
    split
    · have e : ns = ns.take (ns.length - 1) ++ [ns[ns.length - 1]] := by
        rw [← List.take_succ_eq_append_getElem (by omega), List.take_of_length_le (by omega)]
      have e2 : ns.set (ns.length - 1) (putK ns[ns.length - 1] x) = ns.take (ns.length - 1) ++ [putK ns[ns.length - 1] x] := by
        rw [List.set_eq_take_append_cons_drop, if_pos (by omega), List.drop_eq_nil_of_le (by omega)]
      rw [e2, List.reverse_append]
      show (atK (putK ns[ns.length - 1] x) p q).or (newest (ns.take (ns.length - 1)).reverse p q) = _
      have e3 : newest ns.reverse p q = (atK ns[ns.length - 1] p q).or (newest (ns.take (ns.length - 1)).reverse p q) := by
        rw [show ns.reverse = ns[ns.length - 1] :: (ns.take (ns.length - 1)).reverse by
          conv => lhs; rw [e]
          rw [List.reverse_append]; rfl]
        rfl
      rw [at_put, e3]
      by_cases h : x.a = p ∧ x.b = q
      · rw [if_pos h, if_pos h]; rfl
      · rw [if_neg h, if_neg h]
    · exact hone ns
  · exact hone ns
theorem at_putN {ns : List (List KeyD)} {x : KeyD} (h : FineN ns) (hx : okK x = true) (hok : putNB ns x = true) (p q : Int) : nodeAtK (putN ns x) p q = if x.a = p ∧ x.b = q then pickO (some x) else nodeAtK ns p q := by
  unfold putNB at hok
  unfold putN
  split
  · rw [nodeAt_new, at_layer, nodeAt_new]
    split <;> rfl
  · rename_i h1
    have h2 : nodeOkB (nodeNewK (rebK ns x)) = true := by simpa [h1] using hok
    rw [if_pos h2, nodeAt_new, new_at]
    unfold rebK
    rw [at_drop ((keys_asc ns).put x), pick_pick, at_put, at_keys h]
    split
    · rfl
    · rw [nodeAt_new, pick_pick]
theorem putN_ok {ns : List (List KeyD)} {x : KeyD} (hok : putNB ns x = true) : nodeOkB (putN ns x) = true := by
  unfold putNB at hok
  unfold putN
  split
  · assumption
  · rename_i h1
    have h2 : nodeOkB (nodeNewK (rebK ns x)) = true := by simpa [h1] using hok
    rw [if_pos h2]; exact h2
theorem putN_full {ns : List (List KeyD)} {x : KeyD} (h : FineN ns) (hx : okK x = true) (hok : putNB ns x = false) : putN ns x = ns ∧ 8 ≤ (nodeKeysK ns).length := by
  unfold putNB at hok
  rw [Bool.or_eq_false_iff] at hok
  refine ⟨by simp [putN, hok.1, hok.2], ?_⟩
  refine Nat.le_of_not_lt (fun hlt => ?_)
  have hl : (rebK ns x).length ≤ 8 := by
    have h1 := putK_len (nodeKeysK ns) x
    have h2 := dropK_len (putK (nodeKeysK ns) x)
    unfold rebK
    omega
  have := new_ok (l := rebK ns x) (drop_asc ((keys_asc ns).put x)) (drop_ok (ok_put (keys_ok h) hx)) hl
  rw [this] at hok
  cases hok.2
theorem place_all {l : List KeyD} {k : KeyD} (h : ∀ x ∈ l, lessK x k = true) : placeK l k = l.length := by
  unfold placeK
  rw [List.findIdx_eq_length]
  intro x hx
  simp [h x hx]
theorem put_last {l : List KeyD} {k : KeyD} (h : ∀ x ∈ l, lessK x k = true) : putK l k = l ++ [k] := by
  rw [put_eq, place_all h, List.take_of_length_le (Nat.le_refl _), List.drop_eq_nil_of_le (Nat.le_refl _)]
  rfl
theorem merge_app {a b : List KeyD} (h : Asc (a ++ b)) : mergeK a b = a ++ b := by
  induction b generalizing a with
  | nil => simp [mergeK]
  | cons k b ih =>
    have hk : ∀ x ∈ a, lessK x k = true := fun x hx => (List.pairwise_append.1 h).2.2 x hx k (by simp)
    have h2 := ih (a := a ++ [k]) (by simpa using h)
    unfold mergeK at h2 ⊢
    rw [List.foldl_cons, put_last hk, h2]
    simp
theorem keys_new {l : List KeyD} (h : Asc l) (hk : ∀ x ∈ l, x.c ≠ 0) : nodeKeysK (nodeNewK l) = l := by
  have hd : dropK l = l := List.filter_eq_self.2 (fun x hx => by simpa using hk x hx)
  unfold nodeNewK
  split
  · rename_i h0
    rw [List.length_eq_zero_iff.1 h0]
    rfl
  · show dropK (mergeK [] l) = l
    rw [merge_app (by simpa using h)]
    exact hd
theorem pack_keys (ns : List (List KeyD)) : nodeKeysK (nodePackK ns) = nodeKeysK ns := keys_new (keys_asc ns) (fun x hx => drop_kind hx)
theorem pack_ok {ns : List (List KeyD)} (h : nodeOkB ns = true) : nodeOkB (nodePackK ns) = true := by
  have hs : sumN ns ≤ 8 := by simp [nodeOkB] at h; omega
  exact new_ok (keys_asc ns) (keys_ok (fine_of h)) (Nat.le_trans (nodeKeys_len ns) hs)
theorem pack_len (ns : List (List KeyD)) : (nodePackK ns).length ≤ 1 := len_new _
theorem key_there {ns : List (List KeyD)} (h : FineN ns) {y : KeyD} (hy : y ∈ nodeKeysK ns) : nodeAtK ns y.a y.b = some y := by
  rw [← at_keys h]
  exact at_uniq (keys_asc ns) hy
end Go.Proofs.Ytncjedbdkanleaa
