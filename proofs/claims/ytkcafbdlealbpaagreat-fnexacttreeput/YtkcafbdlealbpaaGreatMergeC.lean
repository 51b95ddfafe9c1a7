/- Several texts in one: KSetMath, NodesMath, NodeLayer, NodePut, NodeSPut, Last5, TreeSPutA. -/
import Derived.Test.YtkcafbdlealbpaaGreatKSetPure
import Derived.Test.YtkcafbdlealbpaaGreatNodePure
import Derived.Test.YtkcafbdlealbpaaGreatMergeA
import Derived.Test.YtkcafbdlealbpaaGreatLast3
import Derived.Test.YtkcafbdlealbpaaGreatNodeIKeys
import Derived.Test.YtkcafbdlealbpaaGreatLast2
import Derived.Test.YtkcafbdlealbpaaGreatMergeB
import Derived.Test.YtkcafbdlealbpaaGreatTreeIOk
/- Ascending lists of keys: putting and merging keep them ascending and valid; what is found in them; which key takes precedence. No condition: plain lemmas. -/
namespace Go.Proofs.YtkcafbdlealbpaaGreat
open Go.RowKit
set_option maxRecDepth 100000
set_option linter.unusedSimpArgs false
set_option linter.unusedVariables false

theorem less_irr (x : KeyD) : lessK x x = false := by simp [lessK, lessB]
theorem less_iff (x y : KeyD) : lessK x y = true ↔ (x.a < y.a ∨ (x.a = y.a ∧ x.b < y.b)) := by
  simp only [lessK, lessB]
  by_cases h : x.a = y.a
  · simp [h]
  · simp [h]
theorem spot_iff (x y : KeyD) : spotK x y = true ↔ (x.a = y.a ∧ x.b = y.b) := by simp [spotK, spotB]
theorem spotB_iff (a b c d : Int) : spotB a b c d = true ↔ (a = c ∧ b = d) := by simp [spotB]
theorem less_trans {x y z : KeyD} (h : lessK x y = true) (k : lessK y z = true) : lessK x z = true := by
  rw [less_iff] at *
  omega
theorem less_tri {x y : KeyD} (h : lessK y x = false) (k : spotK y x = false) : lessK x y = true := by
  have h' : ¬ lessK y x = true := by rw [h]; simp
  have k' : ¬ spotK y x = true := by rw [k]; simp
  rw [less_iff] at *
  rw [spot_iff] at k'
  omega
/-- Ascending. -/
abbrev Asc (l : List KeyD) : Prop := l.Pairwise (fun x y => lessK x y = true)
theorem Asc.rise {l : List KeyD} (h : Asc l) : riseB l = true := by
  refine decide_eq_true (fun i hi => ?_)
  exact List.pairwise_iff_getElem.1 h i (i + 1) (by omega) (by omega) (by omega)
theorem place_take {l : List KeyD} {k x : KeyD} (h : x ∈ l.take (placeK l k)) : lessK x k = true := by
  obtain ⟨i, hi, rfl⟩ := List.mem_take_iff_getElem.1 h
  have := List.not_of_lt_findIdx (show i < l.findIdx (fun x => !lessK x k) by unfold placeK at hi; omega)
  simpa using this
theorem place_drop {l : List KeyD} {k y : KeyD} (ha : Asc l) (h : y ∈ l.drop (placeK l k)) : lessK y k = false := by
  obtain ⟨i, hi, rfl⟩ := List.mem_drop_iff_getElem.1 h
  have hlt : placeK l k < l.length := by omega
  have h0 : lessK l[placeK l k] k = false := by
    have : (!lessK l[placeK l k] k) = true := List.findIdx_getElem (p := fun x => !lessK x k) (xs := l) (w := hlt)
    simpa using this
  by_cases hi0 : i = 0
  · subst hi0; simpa using h0
  · have h1 : lessK l[placeK l k] l[placeK l k + i] = true := List.pairwise_iff_getElem.1 ha _ _ hlt (by omega) (by omega)
    cases hc : lessK l[placeK l k + i] k with
    | false => rfl
    | true => rw [less_trans h1 hc] at h0; cases h0
theorem Asc.put {l : List KeyD} (h : Asc l) (k : KeyD) : Asc (putK l k) := by
  have hs : Asc (l.take (placeK l k) ++ l.drop (placeK l k)) := by rw [List.take_append_drop]; exact h
  rw [put_eq]
  obtain ⟨h1, h2, h3⟩ := List.pairwise_append.1 hs
  refine List.pairwise_append.2 ⟨h1, List.pairwise_cons.2 ⟨fun y hy => ?_, h2.filter _⟩, fun x hx y hy => ?_⟩
  · obtain ⟨hy1, hy2⟩ := List.mem_filter.1 hy
    exact less_tri (place_drop h hy1) (by simpa using hy2)
  · rcases List.mem_cons.1 hy with rfl | hy
    · exact place_take hx
    · exact h3 x hx y (List.mem_filter.1 hy).1
theorem ok_put {l : List KeyD} {k : KeyD} (h : l.all okK = true) (hk : okK k = true) : (putK l k).all okK = true := by
  rw [List.all_eq_true] at *
  intro x hx
  rw [put_eq] at hx
  rcases List.mem_append.1 hx with hx | hx
  · exact h x (List.mem_of_mem_take hx)
  · rcases List.mem_cons.1 hx with rfl | hx
    · exact hk
    · exact h x (List.mem_of_mem_drop (List.mem_filter.1 hx).1)
theorem at_mem {l : List KeyD} {p q : Int} {k : KeyD} (h : atK l p q = some k) : k ∈ l ∧ k.a = p ∧ k.b = q := by
  have h1 := List.mem_of_find?_eq_some h
  have h2 := List.find?_some h
  exact ⟨h1, (spotB_iff _ _ _ _).1 h2⟩
theorem at_none {l : List KeyD} {p q : Int} (h : atK l p q = none) : ∀ k ∈ l, ¬ (k.a = p ∧ k.b = q) := by
  intro k hk
  have := List.find?_eq_none.1 h k hk
  rw [spotB_iff] at this
  exact this
theorem at_uniq {l : List KeyD} (h : Asc l) {k : KeyD} (hk : k ∈ l) : atK l k.a k.b = some k := by
  induction l with
  | nil => simp at hk
  | cons x t ih =>
    obtain ⟨h1, h2⟩ := List.pairwise_cons.1 h
    unfold atK
    rw [List.find?_cons]
    rcases List.mem_cons.1 hk with rfl | hk
    · rw [(spotB_iff _ _ _ _).2 ⟨rfl, rfl⟩]
    · have hf : spotB x.a x.b k.a k.b = false := less_spot (h1 k hk)
      rw [hf]
      exact ih h2 hk
theorem at_put (l : List KeyD) (k : KeyD) (p q : Int) : atK (putK l k) p q = if k.a = p ∧ k.b = q then some k else atK l p q := by
  have hl : atK l p q = atK (l.take (placeK l k) ++ l.drop (placeK l k)) p q := by rw [List.take_append_drop]
  rw [put_eq]
  unfold atK at *
  rw [List.find?_append, List.find?_cons]
  by_cases h : k.a = p ∧ k.b = q
  · rw [if_pos h, (spotB_iff _ _ _ _).2 h]
    have : (l.take (placeK l k)).find? (fun x => spotB x.a x.b p q) = none := by
      rw [List.find?_eq_none]
      intro x hx
      have h1 := less_spot (place_take hx)
      obtain ⟨rfl, rfl⟩ := h
      have : spotB x.a x.b k.a k.b = false := h1
      rw [this]; simp
    rw [this]; rfl
  · rw [if_neg h, hl, List.find?_append]
    have hf : spotB k.a k.b p q = false := by
      cases hc : spotB k.a k.b p q with
      | false => rfl
      | true => exact absurd ((spotB_iff _ _ _ _).1 hc) h
    rw [hf, List.find?_filter]
    refine congrArg _ (congrArg (fun f => List.find? f _) ?_)
    funext x
    cases hx : spotB x.a x.b p q with
    | false => simp
    | true =>
      have : spotK x k = false := by
        cases hc : spotK x k with
        | false => rfl
        | true =>
          have h1 := (spot_iff _ _).1 hc
          have h2 := (spotB_iff _ _ _ _).1 hx
          exact absurd ⟨h1.1.symm.trans h2.1, h1.2.symm.trans h2.2⟩ h
      simp [this]
theorem Asc.merge {a b : List KeyD} (h : Asc a) : Asc (mergeK a b) := by
  unfold mergeK
  induction b generalizing a with
  | nil => exact h
  | cons k b ih => exact ih (h.put k)
theorem ok_merge {a b : List KeyD} (h : a.all okK = true) (hb : b.all okK = true) : (mergeK a b).all okK = true := by
  unfold mergeK
  induction b generalizing a with
  | nil => exact h
  | cons k b ih =>
    simp only [List.all_cons, Bool.and_eq_true] at hb
    exact ih (ok_put h hb.1) hb.2
theorem merge_miss {a b : List KeyD} {p q : Int} (h : ∀ k ∈ b, ¬ (k.a = p ∧ k.b = q)) : atK (mergeK a b) p q = atK a p q := by
  unfold mergeK
  induction b generalizing a with
  | nil => rfl
  | cons k b ih =>
    rw [List.foldl_cons, ih (fun x hx => h x (by simp [hx])), at_put, if_neg (h k (by simp))]
theorem merge_hit {a b : List KeyD} (hb : Asc b) {y : KeyD} (hy : y ∈ b) : atK (mergeK a b) y.a y.b = some y := by
  unfold mergeK
  induction b generalizing a with
  | nil => simp at hy
  | cons k b ih =>
    obtain ⟨h1, h2⟩ := List.pairwise_cons.1 hb
    rw [List.foldl_cons]
    rcases List.mem_cons.1 hy with rfl | hy
    · have := merge_miss (a := putK a y) (b := b) (p := y.a) (q := y.b) (fun x hx he => by
        have := less_spot (h1 x hx)
        rw [spot_comm] at this
        have h3 : spotK x y = true := (spot_iff _ _).2 he
        rw [h3] at this; cases this)
      unfold mergeK at this
      rw [this, at_put, if_pos ⟨rfl, rfl⟩]
    · exact ih h2 hy
theorem merge_len {a b : List KeyD} (hb : Asc b) : b.length ≤ (mergeK a b).length := by
  have hn : b.Nodup := hb.imp (fun {x y} h e => by subst e; rw [less_irr] at h; cases h)
  exact hn.length_le_of_subset (fun y hy => (at_mem (merge_hit hb hy)).1)
/-- Every key of the merged set comes from the newer set, or, if that has none there, from the older one. -/
theorem merge_from {a b : List KeyD} (ha : Asc a) (hb : Asc b) {k : KeyD} (hk : k ∈ mergeK a b) : (∀ y, atK b k.a k.b = some y → y = k) ∧ (atK b k.a k.b = none → atK a k.a k.b = some k) := by
  have hu := at_uniq ha.merge hk
  refine ⟨fun y hy => ?_, fun hn => ?_⟩
  · obtain ⟨h1, h2, h3⟩ := at_mem hy
    have := merge_hit (a := a) hb h1
    rw [h2, h3, hu] at this
    exact (Option.some.inj this).symm
  · rw [← merge_miss (at_none hn)]
    exact hu
theorem merge_old {a b : List KeyD} (ha : Asc a) (hb : Asc b) {k : KeyD} (hk : k ∈ a) : (atK (mergeK a b) k.a k.b).isSome = true := by
  cases h : atK b k.a k.b with
  | none => rw [merge_miss (at_none h), at_uniq ha hk]; rfl
  | some y =>
    obtain ⟨h1, h2, h3⟩ := at_mem h
    have := merge_hit (a := a) hb h1
    rw [h2, h3] at this
    rw [this]; rfl
theorem drop_kind {l : List KeyD} {k : KeyD} (h : k ∈ dropK l) : k.c ≠ 0 := by
  have := (List.mem_filter.1 h).2
  simpa using this
end Go.Proofs.YtkcafbdlealbpaaGreat
/- What putting a key into a valid node means for the keys that it holds. No condition: plain lemmas. -/
namespace Go.Proofs.YtkcafbdlealbpaaGreat
open Go.RowKit
set_option maxRecDepth 100000
set_option linter.unusedSimpArgs false
set_option linter.unusedVariables false

theorem asc_of {l : List KeyD} (h : ∀ i (h : i + 1 < l.length), lessK l[i] l[i + 1] = true) : Asc l := by
  induction l with
  | nil => exact .nil
  | cons x t ih =>
    have ht : Asc t := ih (fun i hi => by have := h (i + 1) (by simp; omega); simpa using this)
    refine List.pairwise_cons.2 ⟨fun y hy => ?_, ht⟩
    cases t with
    | nil => simp at hy
    | cons z t' =>
      have h0 : lessK x z = true := by have := h 0 (by simp); simpa using this
      rcases List.mem_cons.1 hy with rfl | hy
      · exact h0
      · exact less_trans h0 ((List.pairwise_cons.1 ht).1 y hy)
theorem asc_rise {l : List KeyD} (h : riseB l = true) : Asc l := asc_of (fun i hi => (of_decide_eq_true h) i (by omega))
/-- Every set ascends, every key is valid. -/
def FineN (ns : List (List KeyD)) : Prop := ∀ l ∈ ns, Asc l ∧ l.all okK = true
theorem fine_of {ns : List (List KeyD)} (h : nodeOkB ns = true) : FineN ns := by
  intro l hl
  simp only [nodeOkB, Bool.and_eq_true, List.all_eq_true] at h
  have h1 := h.1.1 l hl
  simp only [okL, setOkB, Bool.and_eq_true] at h1
  exact ⟨asc_rise h1.1.1.2, h1.1.1.1⟩
theorem at_merge {a b : List KeyD} (hb : Asc b) (p q : Int) : atK (mergeK a b) p q = (atK b p q).or (atK a p q) := by
  cases h : atK b p q with
  | none => rw [merge_miss (at_none h)]; rfl
  | some y =>
    obtain ⟨h1, h2, h3⟩ := at_mem h
    have := merge_hit (a := a) hb h1
    rw [h2, h3] at this
    rw [this]; rfl
def newest : List (List KeyD) → Int → Int → Option KeyD
  | [], _, _ => none
  | l :: r, p, q => (atK l p q).or (newest r p q)
theorem newest_app (r s : List (List KeyD)) (p q : Int) : newest (r ++ s) p q = (newest r p q).or (newest s p q) := by
  induction r with
  | nil => rfl
  | cons l r ih => simp only [List.cons_append, newest, ih, Option.or_assoc]
theorem atRev_new (r : List (List KeyD)) (p q : Int) : atRev r p q = pickO (newest r p q) := by
  induction r with
  | nil => rfl
  | cons l r ih =>
    unfold atRev newest
    cases atK l p q with
    | none => simpa using ih
    | some x => rfl
theorem at_fold {ns : List (List KeyD)} (h : FineN ns) (a : List KeyD) (p q : Int) : atK (ns.foldl mergeK a) p q = (newest ns.reverse p q).or (atK a p q) := by
  induction ns generalizing a with
  | nil => rfl
  | cons l ns ih =>
    rw [List.foldl_cons, ih (fun x hx => h x (by simp [hx])), at_merge (h l (by simp)).1, List.reverse_cons, newest_app, Option.or_assoc]
    simp [newest]
theorem fold_asc {ns : List (List KeyD)} (a : List KeyD) (ha : Asc a) : Asc (ns.foldl mergeK a) := by
  induction ns generalizing a with
  | nil => exact ha
  | cons l ns ih => exact ih _ ha.merge
theorem fold_ok {ns : List (List KeyD)} (h : FineN ns) (a : List KeyD) (ha : a.all okK = true) : (ns.foldl mergeK a).all okK = true := by
  induction ns generalizing a with
  | nil => exact ha
  | cons l ns ih => exact ih (fun x hx => h x (by simp [hx])) _ (ok_merge ha (h l (by simp)).2)
theorem nodeAt_new (ns : List (List KeyD)) (p q : Int) : nodeAtK ns p q = pickO (newest ns.reverse p q) := atRev_new _ _ _
theorem drop_asc {l : List KeyD} (h : Asc l) : Asc (dropK l) := h.sublist List.filter_sublist
theorem drop_ok {l : List KeyD} (h : l.all okK = true) : (dropK l).all okK = true := by
  rw [List.all_eq_true] at h ⊢
  exact fun x hx => h x (List.mem_filter.1 hx).1
theorem at_drop {l : List KeyD} (h : Asc l) (p q : Int) : atK (dropK l) p q = pickO (atK l p q) := by
  cases hk : atK l p q with
  | none =>
    cases hd : atK (dropK l) p q with
    | none => rfl
    | some y =>
      obtain ⟨h1, h2⟩ := at_mem hd
      exact absurd h2 (at_none hk y (List.mem_filter.1 h1).1)
  | some k =>
    obtain ⟨h1, h2, h3⟩ := at_mem hk
    show _ = if k.c = 0 then none else some k
    by_cases h0 : k.c = 0
    · rw [if_pos h0]
      cases hd : atK (dropK l) p q with
      | none => rfl
      | some y =>
        obtain ⟨h4, h5, h6⟩ := at_mem hd
        have := at_uniq h (List.mem_filter.1 h4).1
        rw [h5, h6, hk] at this
        injection this with this
        subst this
        exact absurd h0 (drop_kind h4)
    · rw [if_neg h0]
      have hm : k ∈ dropK l := List.mem_filter.2 ⟨h1, by simpa using h0⟩
      have := at_uniq (drop_asc h) hm
      rw [h2, h3] at this
      exact this
theorem keys_asc (ns : List (List KeyD)) : Asc (nodeKeysK ns) := drop_asc (fold_asc _ .nil)
theorem keys_ok {ns : List (List KeyD)} (h : FineN ns) : (nodeKeysK ns).all okK = true := drop_ok (fold_ok h _ rfl)
theorem at_keys {ns : List (List KeyD)} (h : FineN ns) (p q : Int) : atK (nodeKeysK ns) p q = nodeAtK ns p q := by
  unfold nodeKeysK
  rw [at_drop (fold_asc _ .nil), at_fold h, nodeAt_new]
  cases newest ns.reverse p q <;> rfl
theorem pick_pick (o : Option KeyD) : pickO (pickO o) = pickO o := by
  cases o with
  | none => rfl
  | some x =>
    show pickO (if x.c = 0 then none else some x) = if x.c = 0 then none else some x
    by_cases h : x.c = 0
    · rw [if_pos h]; rfl
    · rw [if_neg h]
      show (if x.c = 0 then none else some x) = some x
      rw [if_neg h]
theorem new_fine {l : List KeyD} (h : Asc l) (hk : l.all okK = true) : FineN (nodeNewK l) := by
  unfold nodeNewK
  split
  · intro x hx; simp at hx
  · intro x hx
    simp at hx
    subst hx
    exact ⟨h, hk⟩
theorem new_ok {l : List KeyD} (h : Asc l) (hk : l.all okK = true) (hl : l.length ≤ 8) : nodeOkB (nodeNewK l) = true := by
  unfold nodeNewK
  split
  · rfl
  · simp only [nodeOkB, List.all_cons, List.all_nil, Bool.and_true, okL, setOkB, hk, h.rise, Bool.true_and, Bool.and_eq_true, decide_eq_true_eq, List.length_singleton, sumN_cons, sumN_nil]
    omega
theorem new_at {l : List KeyD} (p q : Int) : newest (nodeNewK l).reverse p q = atK l p q := by
  unfold nodeNewK
  split
  · rename_i h
    rw [List.length_eq_zero_iff.1 h]
    rfl
  · simp [newest]
theorem at_layer (ns : List (List KeyD)) (x : KeyD) (p q : Int) : newest (layerK ns x).reverse p q = if x.a = p ∧ x.b = q then some x else newest ns.reverse p q := by
  have hone : ∀ r : List (List KeyD), newest ((r ++ [[x]]).reverse) p q = if x.a = p ∧ x.b = q then some x else newest r.reverse p q := by
    intro r
    rw [List.reverse_append]
    show (atK [x] p q).or _ = _
    by_cases h : x.a = p ∧ x.b = q
    · rw [if_pos h]; simp [atK, (spotB_iff _ _ _ _).2 h]
    · rw [if_neg h]
      have : spotB x.a x.b p q = false := by
        cases hc : spotB x.a x.b p q with
        | false => rfl
        | true => exact absurd ((spotB_iff _ _ _ _).1 hc) h
      simp [atK, this]
  unfold layerK
  split
  · rename_i h0
    split
    · have e : ns = ns.take (ns.length - 1) ++ [ns[ns.length - 1]] := by
        rw [← List.take_succ_eq_append_getElem (by omega), List.take_of_length_le (by omega)]
      have e2 : ns.set (ns.length - 1) (putK ns[ns.length - 1] x) = ns.take (ns.length - 1) ++ [putK ns[ns.length - 1] x] := by
        rw [List.set_eq_take_append_cons_drop, if_pos (by omega), List.drop_eq_nil_of_le (by omega)]
      rw [e2, List.reverse_append]
      show (atK (putK ns[ns.length - 1] x) p q).or (newest (ns.take (ns.length - 1)).reverse p q) = _
      have e3 : newest ns.reverse p q = (atK ns[ns.length - 1] p q).or (newest (ns.take (ns.length - 1)).reverse p q) := by
        rw [show ns.reverse = ns[ns.length - 1] :: (ns.take (ns.length - 1)).reverse by
          conv => lhs; rw [e]
          rw [List.reverse_append]; rfl]
        rfl
      rw [at_put, e3]
      by_cases h : x.a = p ∧ x.b = q
      · rw [if_pos h, if_pos h]; rfl
      · rw [if_neg h, if_neg h]
    · exact hone ns
  · exact hone ns
theorem at_putN {ns : List (List KeyD)} {x : KeyD} (h : FineN ns) (hx : okK x = true) (hok : putNB ns x = true) (p q : Int) : nodeAtK (putN ns x) p q = if x.a = p ∧ x.b = q then pickO (some x) else nodeAtK ns p q := by
  unfold putNB at hok
  unfold putN
  split
  · rw [nodeAt_new, at_layer, nodeAt_new]
    split <;> rfl
  · rename_i h1
    have h2 : nodeOkB (nodeNewK (rebK ns x)) = true := by simpa [h1] using hok
    rw [if_pos h2, nodeAt_new, new_at]
    unfold rebK
    rw [at_drop ((keys_asc ns).put x), pick_pick, at_put, at_keys h]
    split
    · rfl
    · rw [nodeAt_new, pick_pick]
theorem putN_ok {ns : List (List KeyD)} {x : KeyD} (hok : putNB ns x = true) : nodeOkB (putN ns x) = true := by
  unfold putNB at hok
  unfold putN
  split
  · assumption
  · rename_i h1
    have h2 : nodeOkB (nodeNewK (rebK ns x)) = true := by simpa [h1] using hok
    rw [if_pos h2]; exact h2
theorem putN_full {ns : List (List KeyD)} {x : KeyD} (h : FineN ns) (hx : okK x = true) (hok : putNB ns x = false) : putN ns x = ns ∧ 8 ≤ (nodeKeysK ns).length := by
  unfold putNB at hok
  rw [Bool.or_eq_false_iff] at hok
  refine ⟨by simp [putN, hok.1, hok.2], ?_⟩
  refine Nat.le_of_not_lt (fun hlt => ?_)
  have hl : (rebK ns x).length ≤ 8 := by
    have h1 := putK_len (nodeKeysK ns) x
    have h2 := dropK_len (putK (nodeKeysK ns) x)
    unfold rebK
    omega
  have := new_ok (l := rebK ns x) (drop_asc ((keys_asc ns).put x)) (drop_ok (ok_put (keys_ok h) hx)) hl
  rw [this] at hok
  cases hok.2
theorem place_all {l : List KeyD} {k : KeyD} (h : ∀ x ∈ l, lessK x k = true) : placeK l k = l.length := by
  unfold placeK
  rw [List.findIdx_eq_length]
  intro x hx
  simp [h x hx]
theorem put_last {l : List KeyD} {k : KeyD} (h : ∀ x ∈ l, lessK x k = true) : putK l k = l ++ [k] := by
  rw [put_eq, place_all h, List.take_of_length_le (Nat.le_refl _), List.drop_eq_nil_of_le (Nat.le_refl _)]
  rfl
theorem merge_app {a b : List KeyD} (h : Asc (a ++ b)) : mergeK a b = a ++ b := by
  induction b generalizing a with
  | nil => simp [mergeK]
  | cons k b ih =>
    have hk : ∀ x ∈ a, lessK x k = true := fun x hx => (List.pairwise_append.1 h).2.2 x hx k (by simp)
    have h2 := ih (a := a ++ [k]) (by simpa using h)
    unfold mergeK at h2 ⊢
    rw [List.foldl_cons, put_last hk, h2]
    simp
theorem keys_new {l : List KeyD} (h : Asc l) (hk : ∀ x ∈ l, x.c ≠ 0) : nodeKeysK (nodeNewK l) = l := by
  have hd : dropK l = l := List.filter_eq_self.2 (fun x hx => by simpa using hk x hx)
  unfold nodeNewK
  split
  · rename_i h0
    rw [List.length_eq_zero_iff.1 h0]
    rfl
  · show dropK (mergeK [] l) = l
    rw [merge_app (by simpa using h)]
    exact hd
theorem pack_keys (ns : List (List KeyD)) : nodeKeysK (nodePackK ns) = nodeKeysK ns := keys_new (keys_asc ns) (fun x hx => drop_kind hx)
theorem pack_ok {ns : List (List KeyD)} (h : nodeOkB ns = true) : nodeOkB (nodePackK ns) = true := by
  have hs : sumN ns ≤ 8 := by simp [nodeOkB] at h; omega
  exact new_ok (keys_asc ns) (keys_ok (fine_of h)) (Nat.le_trans (nodeKeys_len ns) hs)
theorem pack_len (ns : List (List KeyD)) : (nodePackK ns).length ≤ 1 := len_new _
theorem key_there {ns : List (List KeyD)} (h : FineN ns) {y : KeyD} (hy : y ∈ nodeKeysK ns) : nodeAtK ns y.a y.b = some y := by
  rw [← at_keys h]
  exact at_uniq (keys_asc ns) hy
end Go.Proofs.YtkcafbdlealbpaaGreat
/- The contract of impl.layerKey. Conditions: at most 1048576 sets and keys. -/
namespace Go.Proofs.YtkcafbdlealbpaaGreat
open Go.RowKit
set_option maxRecDepth 100000
set_option linter.unusedSimpArgs false
set_option linter.unusedVariables false
set_option maxHeartbeats 4000000 in
theorem layerKey_any (v : Value) (ns : List (List KeyD)) (x : KeyD) (w : World) (hv : Reads w w.heap.size v (setsD ns)) (h1 : ns.length ≤ 1048576) (h2 : sumN ns ≤ 1048576) : Calls Tryz.prog 125 #[.agg #[v], x.v] w (NewN w (layerK ns x)) := by
  obtain ⟨A, c, rfl, _, _⟩ := hv.lenN
  obtain ⟨q0, q1, q2⟩ := al3 w (.cells #[.slice A ns.length c] 71) (.cells #[.int .i64 x.a, .int .i64 x.b, .int .i64 x.c, .int .i64 x.d, .int .i64 x.e] 29) (.cells #[.slice none 0 0] 71)
  have B0 := bal3 w (.cells #[.slice A ns.length c] 71) (.cells #[.int .i64 x.a, .int .i64 x.b, .int .i64 x.c, .int .i64 x.d, .int .i64 x.e] 29) (.cells #[.slice none 0 0] 71)
  have HB := Lib.hid B0
  have Q0 := Lib.hid q0
  have QK := Lib.hid q1
  have QR := Lib.hid q2
  have HV := Lib.hid (hv.on B0)
  have HZ : Hid ((((w.alloc (.cells #[.slice A ns.length c] 71)).alloc (.cells #[.int .i64 x.a, .int .i64 x.b, .int .i64 x.c, .int .i64 x.d, .int .i64 x.e] 29)).alloc (.cells #[.slice none 0 0] 71)).heap.size = w.heap.size + 3) := Lib.hid (by simp)
  have HS : Hid (SmallN ns) := Lib.hid ⟨by omega, by omega⟩
  have HT := Lib.hid takesKey_any
  have HI := Lib.hid implSetPut_any
  unfold KeyD.v keyV at HT HI
  unfold KeyD.v keyV
  clear hv B0 q0 q1 q2
  go_enter Tryz.func125, Tryz.ntmps125
  go_upto_region 1 with (fail)
  generalize ((w.alloc (.cells #[.slice A ns.length c] 71)).alloc (.cells #[.int .i64 x.a, .int .i64 x.b, .int .i64 x.c, .int .i64 x.d, .int .i64 x.e] 29)).alloc (.cells #[.slice none 0 0] 71) = W at *
  have hz1 := Nat.le_of_eq HZ.out
  have hz2 := Nat.le_of_eq HZ.out.symm
  clear HZ
  obtain ⟨x0, x1⟩ := box1N Q0.out
  go_wp2_with fail
  refine (copyNode_any _ ns W HV.out HS.out).mono ?_
  rintro r w1 ⟨u, rfl, o1, b1⟩
  obtain ⟨Au, cu, rfl, _, _⟩ := o1.reads.lenN
  have NO := Lib.hid (NOwn.of o1 (.cells #[.slice Au ns.length cu] 71))
  have QO := Lib.hid (al1 w1 (.cells #[.slice Au ns.length cu] 71))
  have ba := bstep b1 (bal1 w1 (.cells #[.slice Au ns.length cu] 71))
  replace QK := Lib.hid (box_on QK.out ba)
  replace QR := Lib.hid (box_on QR.out ba)
  have BBW := Lib.hid ba
  have hb1 := b1.size
  have HZ : Hid ((w1.alloc (.cells #[.slice Au ns.length cu] 71)).heap.size = w1.heap.size + 1) := Lib.hid (by simp)
  clear o1 b1 ba x0 x1 HV
  go_upto_region 2 with (fail)
  generalize w1.alloc (.cells #[.slice Au ns.length cu] 71) = W2 at *
  have hz3 := Nat.le_of_eq HZ.out
  have hz4 := Nat.le_of_eq HZ.out.symm
  clear HZ
  obtain ⟨z0, z1⟩ := box1N QO.out
  by_cases h0 : ns.length = 0
  · have hnil : ns = [] := List.length_eq_zero_iff.1 h0
    subst hnil
    have HLay : Hid (layerK [] x = [] ++ [[x]]) := Lib.hid rfl
    clear h0
    go_upto_region 3 with (fail)
    refine but_begin (f := 10) (S := fun V => Below W2.heap.size W2 V) (by kernel_rfl) ?_
    refine but_take (f := 10) (i := 0) (v := ?ve0) rfl (by kernel_rfl) (by kernel_rfl) (by kernel_rfl) (by kernel_rfl) (by kernel_rfl) (fun _ _ _ h => h) (Or.inl ⟨(by rfl), ?hye0⟩) (Below.drew1 _) ?reste0
    case hye0 =>
      intro W hW
      go_simp
      exact rfl
    simp only [List.getElem_toArray, List.getElem_cons_succ, List.getElem_cons_zero, Act.put, List.setIfInBounds_toArray, List.set_cons_zero, List.set_cons_succ]
    refine but_take (f := 10) (i := 1) (v := ?ve1) rfl (by kernel_rfl) (by kernel_rfl) (by kernel_rfl) (by kernel_rfl) (by kernel_rfl) (fun _ _ _ h => h) (Or.inl ⟨(by rfl), ?hye1⟩) (Below.drew1 _) ?reste1
    case hye1 =>
      intro W hW
      go_simp
      exact rfl
    simp only [List.getElem_toArray, List.getElem_cons_succ, List.getElem_cons_zero, Act.put, List.setIfInBounds_toArray, List.set_cons_zero, List.set_cons_succ]
    refine but_take (f := 10) (i := 2) (v := ?ve2) rfl (by kernel_rfl) (by kernel_rfl) (by kernel_rfl) (by kernel_rfl) (by kernel_rfl) (fun _ _ _ h => h) (Or.inl ⟨(by rfl), ?hye2⟩) (Below.drew1 _) ?reste2
    case hye2 =>
      intro W hW
      go_simp
      exact rfl
    simp only [List.getElem_toArray, List.getElem_cons_succ, List.getElem_cons_zero, Act.put, List.setIfInBounds_toArray, List.set_cons_zero, List.set_cons_succ]
    refine but_take (f := 10) (i := 3) (v := undef) rfl (by kernel_rfl) (by kernel_rfl) (by kernel_rfl) (by kernel_rfl) (by kernel_rfl) (fun _ _ _ h => h) (Or.inr ⟨((wanted_at rfl rfl rfl rfl).trans rfl), rfl⟩) (Below.drew1 _) ?_
    simp only [List.getElem_toArray, List.getElem_cons_succ, List.getElem_cons_zero, Act.put, List.setIfInBounds_toArray, List.set_cons_zero, List.set_cons_succ]
    refine but_take (f := 10) (i := 4) (v := undef) rfl (by kernel_rfl) (by kernel_rfl) (by kernel_rfl) (by kernel_rfl) (by kernel_rfl) (fun _ _ _ h => h) (Or.inr ⟨((wanted_at rfl rfl rfl rfl).trans rfl), rfl⟩) (Below.drew1 _) ?_
    simp only [List.getElem_toArray, List.getElem_cons_succ, List.getElem_cons_zero, Act.put, List.setIfInBounds_toArray, List.set_cons_zero, List.set_cons_succ]
    refine but_take (f := 10) (i := 5) (v := undef) rfl (by kernel_rfl) (by kernel_rfl) (by kernel_rfl) (by kernel_rfl) (by kernel_rfl) (fun _ _ _ h => h) (Or.inr ⟨((wanted_at rfl rfl rfl rfl).trans rfl), rfl⟩) (Below.drew1 _) ?_
    simp only [List.getElem_toArray, List.getElem_cons_succ, List.getElem_cons_zero, Act.put, List.setIfInBounds_toArray, List.set_cons_zero, List.set_cons_succ]
    refine but_take (f := 10) (i := 6) (v := undef) rfl (by kernel_rfl) (by kernel_rfl) (by kernel_rfl) (by kernel_rfl) (by kernel_rfl) (fun _ _ _ h => h) (Or.inr ⟨((wanted_at rfl rfl rfl rfl).trans rfl), rfl⟩) (Below.drew1 _) ?_
    simp only [List.getElem_toArray, List.getElem_cons_succ, List.getElem_cons_zero, Act.put, List.setIfInBounds_toArray, List.set_cons_zero, List.set_cons_succ]
    refine but_take (f := 10) (i := 7) (v := undef) rfl (by kernel_rfl) (by kernel_rfl) (by kernel_rfl) (by kernel_rfl) (by kernel_rfl) (fun _ _ _ h => h) (Or.inr ⟨((wanted_at rfl rfl rfl rfl).trans rfl), rfl⟩) (Below.drew1 _) ?_
    simp only [List.getElem_toArray, List.getElem_cons_succ, List.getElem_cons_zero, Act.put, List.setIfInBounds_toArray, List.set_cons_zero, List.set_cons_succ]
    refine but_take (f := 10) (i := 8) (v := undef) rfl (by kernel_rfl) (by kernel_rfl) (by kernel_rfl) (by kernel_rfl) (by kernel_rfl) (fun _ _ _ h => h) (Or.inr ⟨((wanted_at rfl rfl rfl rfl).trans rfl), rfl⟩) (Below.drew1 _) ?_
    simp only [List.getElem_toArray, List.getElem_cons_succ, List.getElem_cons_zero, Act.put, List.setIfInBounds_toArray, List.set_cons_zero, List.set_cons_succ]
    refine but_take (f := 10) (i := 9) (v := undef) rfl (by kernel_rfl) (by kernel_rfl) (by kernel_rfl) (by kernel_rfl) (by kernel_rfl) (fun _ _ _ h => h) (Or.inr ⟨((wanted_at rfl rfl rfl rfl).trans rfl), rfl⟩) (Below.drew1 _) ?_
    simp only [List.getElem_toArray, List.getElem_cons_succ, List.getElem_cons_zero, Act.put, List.setIfInBounds_toArray, List.set_cons_zero, List.set_cons_succ]
    refine but_run (i := 10) (by kernel_rfl) rfl (by rfl) ?_
    simp only [List.getElem_toArray, List.getElem_cons_succ, List.getElem_cons_zero]
    intro K HK
    go_wp2_with fail
    refine HK.out _ _ (fun h => absurd rfl h) ?_
    clear HK
    refine but_done (by kernel_rfl) ?_
    clear z0 z1
    replace QK := Lib.hid (box_on QK.out (Below.drew1 _))
    replace QR := Lib.hid (box_on QR.out (Below.drew1 _))
    replace QO := Lib.hid (box_on QO.out (Below.drew1 _))
    replace NO := Lib.hid (NO.out.on (Below.drew1 _))
    replace BBW := Lib.hid (bstep BBW.out (Below.drew1 _))
    have hzd : W2.heap.size ≤ W2.drew.heap.size := Nat.le_refl _
    generalize W2.drew = W3 at *
    obtain ⟨xs, hr, ho, hne⟩ := NO.out
    obtain ⟨k0, k1, k2, k3, k4, k5⟩ := box5 QK.out
    obtain ⟨z0, z1⟩ := box1N QO.out
    have AT := Lib.hid (At.lit1n (W3.alloc (.cells #[.int .i64 x.a, .int .i64 x.b, .int .i64 x.c, .int .i64 x.d, .int .i64 x.e] 29)) (.slice (some ⟨W3.heap.size, 0, none⟩) 1 1) 36 (n := W3.heap.size + 1) (by simp))
    have HRW := Lib.hid (row_on hr (bal2 W3 (.cells #[.int .i64 x.a, .int .i64 x.b, .int .i64 x.c, .int .i64 x.d, .int .i64 x.e] 29) (.cells #[.slice (some ⟨W3.heap.size, 0, none⟩) 1 1] 36)))
    have HR0 := Lib.hid hr
    have HO0 := Lib.hid ho
    have HNE := Lib.hid hne
    clear hr ho hne
    go_wp2_with (at_builtin; refine wpList_appV _ rfl (.tmp 37) (.tmp 40) 69 36 1 24 (.slice none 0 0) rfl Tryz.underlying69 (by kernel_rfl) rfl (by omega) (by omega) W.heap.size ([] : List (List KeyD)).length _ xs rfl HRW.out (some ⟨W3.heap.size + 1, 0, none⟩) 1 1 [.slice (some ⟨W3.heap.size, 0, none⟩) 1 1] rfl rfl AT.out (by simp [Value.oneCell']) (by first | omega | (simp; done)) (by have := BBW.out.size; simp; omega) ?_; intro v8 w8 o8 g8 n8 at8; clear z0 z1 k0 k1 k2 k3 k4 k5; have P8 := Lib.hid (box_grown (box_on QO.out (bal2 W3 (.cells #[.int .i64 x.a, .int .i64 x.b, .int .i64 x.c, .int .i64 x.d, .int .i64 x.e] 29) (.cells #[.slice (some ⟨W3.heap.size, 0, none⟩) 1 1] 36))) g8 HNE.out); have P9 := Lib.hid (box_grown (box_on QR.out (bal2 W3 (.cells #[.int .i64 x.a, .int .i64 x.b, .int .i64 x.c, .int .i64 x.d, .int .i64 x.e] 29) (.cells #[.slice (some ⟨W3.heap.size, 0, none⟩) 1 1] 36))) g8 (row_ne HR0.out (by omega))); have G8 := Lib.hid g8; have O8 := Lib.hid o8; have AT8 := Lib.hid at8; obtain ⟨gv, cv, rfl⟩ := row_shape o8 (by omega); obtain ⟨z0, z1⟩ := box1N P8.out; obtain ⟨y0, y1⟩ := box1N P9.out; clear o8 g8 n8 at8 HRW)
    have n1 : ¬ w1.heap.size = w.heap.size + 1 + 1 := by omega
    have n2 : ¬ w.heap.size + 1 + 1 = w1.heap.size := by omega
    go_wp2
    refine bodyPost_ret (v := .agg #[.slice (some ⟨gv, 0, none⟩) (([] : List (List KeyD)).length + 1) cv]) (by simp [results, Tryz.results125, go_sem, z0, z1, y0, y1, n1, n2]) rfl ⟨_, rfl, ?_, ?_⟩
    · rw [HLay.out]
      have hN := (NOwn.app HR0.out HO0.out HNE.out (by omega) (by have := BBW.out.size; omega) O8.out G8.out AT8.out).owns
      exact (hN.setFar (by omega)).mono (fun b hb => by have := hb.1; omega)
    · have hb8 : Below W.heap.size W w8 := (BBW.out.trans ((bal2 _ _ _).mono BBW.out.size)).grown G8.out (by have := BBW.out.size; simp; omega) (fun k e => (row_lt HR0.out k e).2)
      exact ((bstep HB.out hb8).setCell (p := ⟨w1.heap.size, 0, none⟩) (show w.heap.size ≤ w1.heap.size by omega) _).setCell (p := ⟨w.heap.size + 1 + 1, 0, none⟩) (show w.heap.size ≤ w.heap.size + 1 + 1 by omega) _
  · obtain ⟨L, hL⟩ : ∃ L, ns.length = L + 1 := ⟨ns.length - 1, by omega⟩
    have hlt : L < ns.length := by omega
    have i3 : IntKind.i64.wrap ((ns.length : Int) - 1) = (L : Int) := by rw [IntKind.wrap_i64]; omega
    have i1 : (L : Int) < (ns.length : Int) := by omega
    have i2 : (0 : Int) ≤ (L : Int) := by omega
    have t0 : decide ((0 : Int) ≤ (L : Int)) = true := decide_eq_true i2
    have e1 : ns.length - 1 = L := by omega
    obtain ⟨T, hT⟩ : ∃ T, takesB ns[L] x = T := ⟨_, rfl⟩
    have HT0 := Lib.hid hT
    have HLay : Hid (layerK ns x = if T then ns.set L (putK ns[L] x) else ns ++ [[x]]) := Lib.hid (by
      unfold layerK
      rw [dif_pos (by omega)]
      simp only [e1, hT])
    have hll := HS.out.at hlt
    clear h0 hL hT e1
    obtain ⟨g, cap, A2, c2, hu, hbg, hgo, hgl, c1, fz, r1⟩ := NO.out.elem hlt
    cases hu
    have C1 := Lib.hid c1
    have R1 := Lib.hid r1
    clear c1 fz r1
    go_upto_region 3 with (fail)
    refine but_begin (f := 10) (S := fun V => Below W2.heap.size W2 V) (by kernel_rfl) ?_
    refine but_take (f := 10) (i := 0) (v := ?vf0) rfl (by kernel_rfl) (by kernel_rfl) (by kernel_rfl) (by kernel_rfl) (by kernel_rfl) (fun _ _ _ h => h) (Or.inl ⟨(by rfl), ?hyf0⟩) (Below.drew1 _) ?restf0
    case hyf0 =>
      intro W hW
      go_simp
      exact rfl
    simp only [List.getElem_toArray, List.getElem_cons_succ, List.getElem_cons_zero, Act.put, List.setIfInBounds_toArray, List.set_cons_zero, List.set_cons_succ]
    refine but_take (f := 10) (i := 1) (v := ?vf1) rfl (by kernel_rfl) (by kernel_rfl) (by kernel_rfl) (by kernel_rfl) (by kernel_rfl) (fun _ _ _ h => h) (Or.inl ⟨(by rfl), ?hyf1⟩) (Below.drew1 _) ?restf1
    case hyf1 =>
      intro W hW
      go_simp
      exact rfl
    simp only [List.getElem_toArray, List.getElem_cons_succ, List.getElem_cons_zero, Act.put, List.setIfInBounds_toArray, List.set_cons_zero, List.set_cons_succ]
    refine but_take (f := 10) (i := 2) (v := ?vf2) rfl (by kernel_rfl) (by kernel_rfl) (by kernel_rfl) (by kernel_rfl) (by kernel_rfl) (fun _ _ _ h => h) (Or.inl ⟨(by rfl), ?hyf2⟩) (Below.drew1 _) ?restf2
    case hyf2 =>
      intro W hW
      go_simp
      exact rfl
    simp only [List.getElem_toArray, List.getElem_cons_succ, List.getElem_cons_zero, Act.put, List.setIfInBounds_toArray, List.set_cons_zero, List.set_cons_succ]
    refine but_take (f := 10) (i := 3) (v := ?vf3) rfl (by kernel_rfl) (by kernel_rfl) (by kernel_rfl) (by kernel_rfl) (by kernel_rfl) (fun _ _ _ h => h) (Or.inl ⟨((wanted_at rfl rfl rfl rfl).trans rfl), ?hyf3⟩) (Below.drew1 _) ?restf3
    case hyf3 =>
      intro W hW
      go_simp
      exact rfl
    simp only [List.getElem_toArray, List.getElem_cons_succ, List.getElem_cons_zero, Act.put, List.setIfInBounds_toArray, List.set_cons_zero, List.set_cons_succ]
    refine but_take (f := 10) (i := 4) (v := ?vf4) rfl (by kernel_rfl) (by kernel_rfl) (by kernel_rfl) (by kernel_rfl) (by kernel_rfl) (fun _ _ _ h => h) (Or.inl ⟨((wanted_at rfl rfl rfl rfl).trans rfl), ?hyf4⟩) (Below.drew1 _) ?restf4
    case hyf4 =>
      intro W hW
      obtain ⟨z0, z1⟩ := box1N (box_on QO.out hW)
      go_simp
      exact rfl
    simp only [List.getElem_toArray, List.getElem_cons_succ, List.getElem_cons_zero, Act.put, List.setIfInBounds_toArray, List.set_cons_zero, List.set_cons_succ]
    refine but_take (f := 10) (i := 5) (v := ?vf5) rfl (by kernel_rfl) (by kernel_rfl) (by kernel_rfl) (by kernel_rfl) (by kernel_rfl) (fun _ _ _ h => h) (Or.inl ⟨((wanted_at rfl rfl rfl rfl).trans rfl), ?hyf5⟩) (Below.drew1 _) ?restf5
    case hyf5 =>
      intro W hW
      go_simp
      exact rfl
    simp only [List.getElem_toArray, List.getElem_cons_succ, List.getElem_cons_zero, Act.put, List.setIfInBounds_toArray, List.set_cons_zero, List.set_cons_succ]
    refine but_take (f := 10) (i := 6) (v := ?vf6) rfl (by kernel_rfl) (by kernel_rfl) (by kernel_rfl) (by kernel_rfl) (by kernel_rfl) (fun _ _ _ h => h) (Or.inl ⟨((wanted_at rfl rfl rfl rfl).trans rfl), ?hyf6⟩) (Below.drew1 _) ?restf6
    case hyf6 =>
      intro W hW
      go_simp
      exact rfl
    simp only [List.getElem_toArray, List.getElem_cons_succ, List.getElem_cons_zero, Act.put, List.setIfInBounds_toArray, List.set_cons_zero, List.set_cons_succ]
    refine but_take (f := 10) (i := 7) (v := ?vf7) rfl (by kernel_rfl) (by kernel_rfl) (by kernel_rfl) (by kernel_rfl) (by kernel_rfl) (fun _ _ _ h => h) (Or.inl ⟨((wanted_at rfl rfl rfl rfl).trans rfl), ?hyf7⟩) (Below.drew1 _) ?restf7
    case hyf7 =>
      intro W hW
      have hcc := (hW.cell (p := ⟨g, L, none⟩) hgl).trans C1.out
      go_simp
      exact rfl
    simp only [List.getElem_toArray, List.getElem_cons_succ, List.getElem_cons_zero, Act.put, List.setIfInBounds_toArray, List.set_cons_zero, List.set_cons_succ]
    refine but_take (f := 10) (i := 8) (v := ?vf8) rfl (by kernel_rfl) (by kernel_rfl) (by kernel_rfl) (by kernel_rfl) (by kernel_rfl) (fun _ _ _ h => h) (Or.inl ⟨((wanted_at rfl rfl rfl rfl).trans rfl), ?hyf8⟩) (Below.drew1 _) ?restf8
    case hyf8 =>
      intro W hW
      obtain ⟨k0, k1, k2, k3, k4, k5⟩ := box5 (box_on QK.out hW)
      go_simp
      exact rfl
    simp only [List.getElem_toArray, List.getElem_cons_succ, List.getElem_cons_zero, Act.put, List.setIfInBounds_toArray, List.set_cons_zero, List.set_cons_succ]
    refine but_run (i := 9) (by kernel_rfl) rfl ((wanted_at rfl rfl rfl rfl).trans rfl) ?_
    simp only [List.getElem_toArray, List.getElem_cons_succ, List.getElem_cons_zero]
    intro K HK
    go_wp2_with fail
    refine (HT.out _ ns[L] x _ (R1.out.on (Below.drew1 _)) (by omega)).mono ?_
    rintro r Vf1 ⟨rfl, hbf1⟩
    rw [HT0.out]
    go_wp2_with fail
    have hSf1 : (fun V => Below W2.heap.size W2 V) Vf1 := bstep (Below.drew1 _) hbf1
    refine HK.out _ _ (fun _ => hSf1) ?_
    clear HK
    refine but_run (i := 10) (by kernel_rfl) rfl (by rfl) ?_
    simp only [List.getElem_toArray, List.getElem_cons_succ, List.getElem_cons_zero]
    intro K HK
    go_wp2_with fail
    refine HK.out _ _ (fun h => absurd rfl h) ?_
    clear HK
    refine but_done (by kernel_rfl) ?_
    clear z0 z1 HT
    replace QK := Lib.hid (box_on QK.out hSf1)
    replace QR := Lib.hid (box_on QR.out hSf1)
    replace QO := Lib.hid (box_on QO.out hSf1)
    replace NO := Lib.hid (NO.out.on hSf1)
    replace BBW := Lib.hid (bstep BBW.out hSf1)
    have hzV1 := hSf1.size
    cases T
    · replace HLay := Lib.hid (show layerK ns x = ns ++ [[x]] from HLay.out)
      obtain ⟨xs, hr, ho, hne⟩ := NO.out
      obtain ⟨k0, k1, k2, k3, k4, k5⟩ := box5 QK.out
      obtain ⟨z0, z1⟩ := box1N QO.out
      have AT := Lib.hid (At.lit1n (Vf1.alloc (.cells #[.int .i64 x.a, .int .i64 x.b, .int .i64 x.c, .int .i64 x.d, .int .i64 x.e] 29)) (.slice (some ⟨Vf1.heap.size, 0, none⟩) 1 1) 36 (n := Vf1.heap.size + 1) (by simp))
      have HRW := Lib.hid (row_on hr (bal2 Vf1 (.cells #[.int .i64 x.a, .int .i64 x.b, .int .i64 x.c, .int .i64 x.d, .int .i64 x.e] 29) (.cells #[.slice (some ⟨Vf1.heap.size, 0, none⟩) 1 1] 36)))
      have HR0 := Lib.hid hr
      have HO0 := Lib.hid ho
      have HNE := Lib.hid hne
      clear hr ho hne
      go_wp2_with (at_builtin; refine wpList_appV _ rfl (.tmp 37) (.tmp 40) 69 36 1 24 (.slice none 0 0) rfl Tryz.underlying69 (by kernel_rfl) rfl (by omega) (by omega) W.heap.size ns.length _ xs rfl HRW.out (some ⟨Vf1.heap.size + 1, 0, none⟩) 1 1 [.slice (some ⟨Vf1.heap.size, 0, none⟩) 1 1] rfl rfl AT.out (by simp [Value.oneCell']) (by first | omega | (simp; done)) (by have := BBW.out.size; simp; omega) ?_; intro v8 w8 o8 g8 n8 at8; clear z0 z1 k0 k1 k2 k3 k4 k5; have P8 := Lib.hid (box_grown (box_on QO.out (bal2 Vf1 (.cells #[.int .i64 x.a, .int .i64 x.b, .int .i64 x.c, .int .i64 x.d, .int .i64 x.e] 29) (.cells #[.slice (some ⟨Vf1.heap.size, 0, none⟩) 1 1] 36))) g8 HNE.out); have P9 := Lib.hid (box_grown (box_on QR.out (bal2 Vf1 (.cells #[.int .i64 x.a, .int .i64 x.b, .int .i64 x.c, .int .i64 x.d, .int .i64 x.e] 29) (.cells #[.slice (some ⟨Vf1.heap.size, 0, none⟩) 1 1] 36))) g8 (row_ne HR0.out (by omega))); have G8 := Lib.hid g8; have O8 := Lib.hid o8; have AT8 := Lib.hid at8; obtain ⟨gv, cv, rfl⟩ := row_shape o8 (by omega); obtain ⟨z0, z1⟩ := box1N P8.out; obtain ⟨y0, y1⟩ := box1N P9.out; clear o8 g8 n8 at8 HRW)
      have n1 : ¬ w1.heap.size = w.heap.size + 1 + 1 := by omega
      have n2 : ¬ w.heap.size + 1 + 1 = w1.heap.size := by omega
      go_wp2
      refine bodyPost_ret (v := .agg #[.slice (some ⟨gv, 0, none⟩) (ns.length + 1) cv]) (by simp [results, Tryz.results125, go_sem, z0, z1, y0, y1, n1, n2]) rfl ⟨_, rfl, ?_, ?_⟩
      · rw [HLay.out]
        have hN := (NOwn.app HR0.out HO0.out HNE.out (by omega) (by have := BBW.out.size; omega) O8.out G8.out AT8.out).owns
        exact (hN.setFar (by omega)).mono (fun b hb => by have := hb.1; omega)
      · have hb8 : Below W.heap.size W w8 := (BBW.out.trans ((bal2 _ _ _).mono BBW.out.size)).grown G8.out (by have := BBW.out.size; simp; omega) (fun k e => (row_lt HR0.out k e).2)
        exact ((bstep HB.out hb8).setCell (p := ⟨w1.heap.size, 0, none⟩) (show w.heap.size ≤ w1.heap.size by omega) _).setCell (p := ⟨w.heap.size + 1 + 1, 0, none⟩) (show w.heap.size ≤ w.heap.size + 1 + 1 by omega) _
    · replace HLay := Lib.hid (show layerK ns x = ns.set L (putK ns[L] x) from HLay.out)
      have hgl1 : g < Vf1.heap.size := Nat.lt_of_lt_of_le hgl hSf1.size
      replace C1 := Lib.hid ((hSf1.cell (p := ⟨g, L, none⟩) hgl).trans C1.out)
      replace R1 := Lib.hid (R1.out.on hSf1)
      clear hSf1 hbf1
      clear hgl
      have hgl := hgl1
      go_upto_region 4 with (fail)
      refine but_begin (f := 11) (S := fun V => Below Vf1.heap.size Vf1 V) (by kernel_rfl) ?_
      refine but_take (f := 11) (i := 0) (v := ?vh0) rfl (by kernel_rfl) (by kernel_rfl) (by kernel_rfl) (by kernel_rfl) (by kernel_rfl) (fun _ _ _ h => h) (Or.inl ⟨(by rfl), ?hyh0⟩) (Below.drew1 _) ?resth0
      case hyh0 =>
        intro W hW
        go_simp
        exact rfl
      simp only [List.getElem_toArray, List.getElem_cons_succ, List.getElem_cons_zero, Act.put, List.setIfInBounds_toArray, List.set_cons_zero, List.set_cons_succ]
      refine but_take (f := 11) (i := 1) (v := ?vh1) rfl (by kernel_rfl) (by kernel_rfl) (by kernel_rfl) (by kernel_rfl) (by kernel_rfl) (fun _ _ _ h => h) (Or.inl ⟨(by rfl), ?hyh1⟩) (Below.drew1 _) ?resth1
      case hyh1 =>
        intro W hW
        obtain ⟨z0, z1⟩ := box1N (box_on QO.out hW)
        go_simp
        exact rfl
      simp only [List.getElem_toArray, List.getElem_cons_succ, List.getElem_cons_zero, Act.put, List.setIfInBounds_toArray, List.set_cons_zero, List.set_cons_succ]
      refine but_take (f := 11) (i := 2) (v := ?vh2) rfl (by kernel_rfl) (by kernel_rfl) (by kernel_rfl) (by kernel_rfl) (by kernel_rfl) (fun _ _ _ h => h) (Or.inl ⟨(by rfl), ?hyh2⟩) (Below.drew1 _) ?resth2
      case hyh2 =>
        intro W hW
        go_simp
        exact rfl
      simp only [List.getElem_toArray, List.getElem_cons_succ, List.getElem_cons_zero, Act.put, List.setIfInBounds_toArray, List.set_cons_zero, List.set_cons_succ]
      refine but_take (f := 11) (i := 3) (v := ?vh3) rfl (by kernel_rfl) (by kernel_rfl) (by kernel_rfl) (by kernel_rfl) (by kernel_rfl) (fun _ _ _ h => h) (Or.inl ⟨(by rfl), ?hyh3⟩) (Below.drew1 _) ?resth3
      case hyh3 =>
        intro W hW
        go_simp
        exact rfl
      simp only [List.getElem_toArray, List.getElem_cons_succ, List.getElem_cons_zero, Act.put, List.setIfInBounds_toArray, List.set_cons_zero, List.set_cons_succ]
      refine but_take (f := 11) (i := 4) (v := ?vh4) rfl (by kernel_rfl) (by kernel_rfl) (by kernel_rfl) (by kernel_rfl) (by kernel_rfl) (fun _ _ _ h => h) (Or.inl ⟨(by rfl), ?hyh4⟩) (Below.drew1 _) ?resth4
      case hyh4 =>
        intro W hW
        obtain ⟨z0, z1⟩ := box1N (box_on QO.out hW)
        go_simp
        exact rfl
      simp only [List.getElem_toArray, List.getElem_cons_succ, List.getElem_cons_zero, Act.put, List.setIfInBounds_toArray, List.set_cons_zero, List.set_cons_succ]
      refine but_take (f := 11) (i := 5) (v := ?vh5) rfl (by kernel_rfl) (by kernel_rfl) (by kernel_rfl) (by kernel_rfl) (by kernel_rfl) (fun _ _ _ h => h) (Or.inl ⟨(by rfl), ?hyh5⟩) (Below.drew1 _) ?resth5
      case hyh5 =>
        intro W hW
        go_simp
        exact rfl
      simp only [List.getElem_toArray, List.getElem_cons_succ, List.getElem_cons_zero, Act.put, List.setIfInBounds_toArray, List.set_cons_zero, List.set_cons_succ]
      refine but_take (f := 11) (i := 6) (v := ?vh6) rfl (by kernel_rfl) (by kernel_rfl) (by kernel_rfl) (by kernel_rfl) (by kernel_rfl) (fun _ _ _ h => h) (Or.inl ⟨(by rfl), ?hyh6⟩) (Below.drew1 _) ?resth6
      case hyh6 =>
        intro W hW
        go_simp
        exact rfl
      simp only [List.getElem_toArray, List.getElem_cons_succ, List.getElem_cons_zero, Act.put, List.setIfInBounds_toArray, List.set_cons_zero, List.set_cons_succ]
      refine but_take (f := 11) (i := 7) (v := ?vh7) rfl (by kernel_rfl) (by kernel_rfl) (by kernel_rfl) (by kernel_rfl) (by kernel_rfl) (fun _ _ _ h => h) (Or.inl ⟨(by rfl), ?hyh7⟩) (Below.drew1 _) ?resth7
      case hyh7 =>
        intro W hW
        have hcc := (hW.cell (p := ⟨g, L, none⟩) hgl).trans C1.out
        go_simp
        exact rfl
      simp only [List.getElem_toArray, List.getElem_cons_succ, List.getElem_cons_zero, Act.put, List.setIfInBounds_toArray, List.set_cons_zero, List.set_cons_succ]
      refine but_take (f := 11) (i := 8) (v := ?vh8) rfl (by kernel_rfl) (by kernel_rfl) (by kernel_rfl) (by kernel_rfl) (by kernel_rfl) (fun _ _ _ h => h) (Or.inl ⟨(by rfl), ?hyh8⟩) (Below.drew1 _) ?resth8
      case hyh8 =>
        intro W hW
        obtain ⟨k0, k1, k2, k3, k4, k5⟩ := box5 (box_on QK.out hW)
        go_simp
        exact rfl
      simp only [List.getElem_toArray, List.getElem_cons_succ, List.getElem_cons_zero, Act.put, List.setIfInBounds_toArray, List.set_cons_zero, List.set_cons_succ]
      refine but_run (i := 9) (by kernel_rfl) rfl (by rfl) ?_
      simp only [List.getElem_toArray, List.getElem_cons_succ, List.getElem_cons_zero]
      intro K HK
      go_wp2_with fail
      refine (HI.out _ ns[L] x _ (R1.out.on (Below.drew1 _)) (by omega)).mono ?_
      rintro r Vh1 ⟨v9, rfl, o9, hbh1⟩
      obtain ⟨A9, c9, rfl, _, _⟩ := o9.shape
      go_wp2_with fail
      have hSh1 : (fun V => Below Vf1.heap.size Vf1 V) Vh1 := bstep (Below.drew1 _) hbh1
      refine HK.out _ _ (fun _ => hSh1) ?_
      clear HK
      have N9 := Lib.hid (NO.out.on (Below.drew1 Vf1))
      obtain ⟨g', cap', A2', c2', hu', _, _, _, cc, ff, _⟩ := (NO.out.on hSh1).elem hlt
      cases hu'
      have fg := ff L
      refine but_take (f := 11) (i := 10) (v := ?vh10) rfl (by kernel_rfl) (by kernel_rfl) (by kernel_rfl) (by kernel_rfl) (by kernel_rfl) (fun _ _ _ h => h) (Or.inl ⟨(by rfl), ?hyh10⟩) hSh1 ?resth10
      case hyh10 =>
        intro W hW
        go_simp
        exact rfl
      simp only [List.getElem_toArray, List.getElem_cons_succ, List.getElem_cons_zero, Act.put, List.setIfInBounds_toArray, List.set_cons_zero, List.set_cons_succ]
      refine but_run (i := 11) (by kernel_rfl) rfl (by rfl) ?_
      simp only [List.getElem_toArray, List.getElem_cons_succ, List.getElem_cons_zero]
      intro K HK
      go_wp2_with fail
      refine HK.out _ _ (fun h => absurd rfl h) ?_
      clear HK
      refine but_done (by kernel_rfl) ?_
      skip
      obtain ⟨l9, hl9⟩ : ∃ l9, putK ns[L] x = l9 := ⟨_, rfl⟩
      rw [hl9] at o9
      have N2 := Lib.hid (NOwn.put (i := L) NO.out hlt hSh1 (o9.mono (Nat.le_refl _)) (by omega) (by have := BBW.out.size; omega))
      have P8 := Lib.hid (box_far (j := L) (u := .slice A9 (putK ns[L] x).length c9) (box_on QO.out hSh1) (fun e => hgo e.symm))
      have P9 := Lib.hid (box_far (j := L) (u := .slice A9 (putK ns[L] x).length c9) (box_on QR.out hSh1) (show w.heap.size + 1 + 1 ≠ g by omega))
      have B8 := Lib.hid ((bstep (bstep HB.out BBW.out) hSh1).setCell (p := ⟨g, L, none⟩) (show w.heap.size ≤ g by omega) (.slice A9 (putK ns[L] x).length c9))
      rw [← hl9] at N2
      clear hl9 o9 hSh1 cc ff fg N9
      go_upto_region 5 with (fail)
      generalize Vh1.setCell ⟨g, L, none⟩ (.slice A9 (putK ns[L] x).length c9) = W5 at *
      obtain ⟨z0, z1⟩ := box1N P8.out
      obtain ⟨y0, y1⟩ := box1N P9.out
      go_wp2
      refine bodyPost_ret (v := .agg #[.slice (some ⟨g, 0, none⟩) ns.length cu]) (by simp [results, Tryz.results125, go_sem, z0, z1, y0, y1]) rfl ⟨_, rfl, ?_, ?_⟩
      · rw [HLay.out]
        exact (N2.out.owns.setFar (by omega)).mono (fun b hb => by have := hb.1; omega)
      · exact B8.out.setCell (p := ⟨w.heap.size + 1 + 1, 0, none⟩) (show w.heap.size ≤ w.heap.size + 1 + 1 by omega) _
end Go.Proofs.YtkcafbdlealbpaaGreat
/- The contract of impl.NodePut. Conditions: at most 1048576 sets and keys. -/
namespace Go.Proofs.YtkcafbdlealbpaaGreat
open Go.RowKit
set_option maxRecDepth 100000
set_option linter.unusedSimpArgs false
set_option linter.unusedVariables false
/-- What putting a key into a node answers: a node of the call's own, and whether it was taken. -/
def PutsN (w : World) (ns : List (List KeyD)) (x : KeyD) (e : Ending) (w' : World) : Prop := ∃ v, e = .returned (.tuple #[.agg #[v], .bool (putNB ns x)]) ∧ Owns w' (fun b => w.heap.size ≤ b) v (setsD (putN ns x)) ∧ Below w.heap.size w w'
theorem put_one {ns : List (List KeyD)} {x : KeyD} (h : nodeOkB (layerK ns x) = true) : putN ns x = layerK ns x ∧ putNB ns x = true := by simp [putN, putNB, h]
theorem put_two {ns : List (List KeyD)} {x : KeyD} (h : nodeOkB (layerK ns x) = false) (k : nodeOkB (nodeNewK (rebK ns x)) = true) : putN ns x = nodeNewK (rebK ns x) ∧ putNB ns x = true := by simp [putN, putNB, h, k]
theorem put_no {ns : List (List KeyD)} {x : KeyD} (h : nodeOkB (layerK ns x) = false) (k : nodeOkB (nodeNewK (rebK ns x)) = false) : putN ns x = ns ∧ putNB ns x = false := by simp [putN, putNB, h, k]
set_option maxHeartbeats 4000000 in
theorem implNodePut_any (v : Value) (ns : List (List KeyD)) (x : KeyD) (w : World) (hv : Reads w w.heap.size v (setsD ns)) (h1 : ns.length ≤ 1048576) (h2 : sumN ns ≤ 1048576) : Calls Tryz.prog 96 #[.agg #[v], x.v] w (PutsN w ns x) := by
  obtain ⟨A, c, rfl, _, _⟩ := hv.lenN
  obtain ⟨q0, q1, q2⟩ := al3 w (.cells #[.slice A ns.length c] 71) (.cells #[.int .i64 x.a, .int .i64 x.b, .int .i64 x.c, .int .i64 x.d, .int .i64 x.e] 29) (.cells #[.slice none 0 0] 71)
  have B0 := bal3 w (.cells #[.slice A ns.length c] 71) (.cells #[.int .i64 x.a, .int .i64 x.b, .int .i64 x.c, .int .i64 x.d, .int .i64 x.e] 29) (.cells #[.slice none 0 0] 71)
  have HB := Lib.hid B0
  have QN := Lib.hid q0
  have QK := Lib.hid q1
  have QR := Lib.hid q2
  have HV := Lib.hid (hv.on B0)
  have HZ : Hid ((((w.alloc (.cells #[.slice A ns.length c] 71)).alloc (.cells #[.int .i64 x.a, .int .i64 x.b, .int .i64 x.c, .int .i64 x.d, .int .i64 x.e] 29)).alloc (.cells #[.slice none 0 0] 71)).heap.size = w.heap.size + 3) := Lib.hid (by simp)
  have HS : Hid (SmallN ns) := Lib.hid ⟨by omega, by omega⟩
  obtain ⟨KL, hKL⟩ : ∃ KL, nodeKeysK ns = KL := ⟨_, rfl⟩
  obtain ⟨PL, hPL⟩ : ∃ PL, putK KL x = PL := ⟨_, rfl⟩
  obtain ⟨DL, hDL⟩ : ∃ DL, dropK PL = DL := ⟨_, rfl⟩
  have hkl : KL.length ≤ 1048576 := by rw [← hKL]; exact Nat.le_trans (nodeKeys_len ns) h2
  have hpl : PL.length ≤ 1048577 := by rw [← hPL]; exact Nat.le_trans (putK_len KL x) (by omega)
  have hdl : DL.length ≤ 1048577 := by rw [← hDL]; exact Nat.le_trans (dropK_len PL) hpl
  have hreb : rebK ns x = DL := by rw [rebK, hKL, hPL, hDL]
  have HREB := Lib.hid hreb
  have HKL := Lib.hid hKL
  have HPL := Lib.hid hPL
  have HDL := Lib.hid hDL
  obtain ⟨NQ, hNQ⟩ : ∃ NQ, nodeNewK DL = NQ := ⟨_, rfl⟩
  have HNQ := Lib.hid hNQ
  have HSQ : Hid (SmallN NQ) := Lib.hid (by rw [← hNQ]; exact ⟨by have := len_new DL; omega, by rw [sum_new]; omega⟩)
  obtain ⟨R1, hR1⟩ : ∃ R, nodeOkB (layerK ns x) = R := ⟨_, rfl⟩
  obtain ⟨R2, hR2⟩ : ∃ R, nodeOkB NQ = R := ⟨_, rfl⟩
  have HR1 := Lib.hid hR1
  have HR2 := Lib.hid hR2
  have P1 : Hid (R1 = true → putN ns x = layerK ns x ∧ putNB ns x = true) := Lib.hid (fun h => put_one (by rw [hR1, h]))
  have P2 : Hid (R1 = false → R2 = true → putN ns x = NQ ∧ putNB ns x = true) := Lib.hid (fun h k => by have := put_two (ns := ns) (x := x) (by rw [hR1, h]) (by rw [hreb, hNQ, hR2, k]); rw [hreb, hNQ] at this; exact this)
  have P3 : Hid (R1 = false → R2 = false → putN ns x = ns ∧ putNB ns x = false) := Lib.hid (fun h k => put_no (by rw [hR1, h]) (by rw [hreb, hNQ, hR2, k]))
  have hls := layer_small ns x
  obtain ⟨LY, hLY⟩ : ∃ LY, layerK ns x = LY := ⟨_, rfl⟩
  rw [hLY] at hls HR1 P1
  have HLY := Lib.hid hLY
  have HSL : Hid (SmallN LY) := Lib.hid ⟨by omega, by omega⟩
  clear hv B0 q0 q1 q2 hKL hPL hDL hreb hNQ hR1 hR2 hLY
  unfold KeyD.v keyV
  have HI := Lib.hid implSetPut_any
  have HLK := Lib.hid layerKey_any
  unfold KeyD.v keyV at HI HLK
  go_enter Tryz.func96, Tryz.ntmps96
  go_upto_region 1 with (fail)
  generalize ((w.alloc (.cells #[.slice A ns.length c] 71)).alloc (.cells #[.int .i64 x.a, .int .i64 x.b, .int .i64 x.c, .int .i64 x.d, .int .i64 x.e] 29)).alloc (.cells #[.slice none 0 0] 71) = W at *
  have hz1 := Nat.le_of_eq HZ.out
  have hz2 := Nat.le_of_eq HZ.out.symm
  clear HZ
  obtain ⟨x0, x1⟩ := box1N QN.out
  obtain ⟨k0, k1, k2, k3, k4, k5⟩ := box5 QK.out
  go_wp2_with fail
  refine (HLK.out _ ns x W HV.out h1 h2).mono ?_
  clear x0 x1 k0 k1 k2 k3 k4 k5
  rintro r w1 ⟨u, rfl, o1, b1⟩
  rw [HLY.out] at o1
  obtain ⟨Au, cu, rfl, _, _⟩ := o1.reads.lenN
  have ba := bstep b1 (bal1 w1 (.cells #[.slice Au LY.length cu] 71))
  have OU := Lib.hid (o1.lt.on (bal1 w1 (.cells #[.slice Au LY.length cu] 71)))
  have QO := Lib.hid (al1 w1 (.cells #[.slice Au LY.length cu] 71))
  replace QN := Lib.hid (box_on QN.out ba)
  replace QK := Lib.hid (box_on QK.out ba)
  replace QR := Lib.hid (box_on QR.out ba)
  have BBW := Lib.hid ba
  have hb1 := b1.size
  have HZ : Hid ((w1.alloc (.cells #[.slice Au LY.length cu] 71)).heap.size = w1.heap.size + 1) := Lib.hid (by simp)
  clear o1 b1 ba
  go_upto_region 2 with (fail)
  generalize w1.alloc (.cells #[.slice Au LY.length cu] 71) = W2 at *
  have hz3 := Nat.le_of_eq HZ.out
  have hz4 := Nat.le_of_eq HZ.out.symm
  clear HZ
  obtain ⟨z0, z1⟩ := box1N QO.out
  go_wp2_with fail
  refine (implNodeOk_any _ LY W2 OU.out.reads HSL.out).mono ?_
  rintro r w3 ⟨rfl, b3⟩
  rw [HR1.out]
  replace OU := Lib.hid (OU.out.on b3)
  replace QO := Lib.hid (box_on QO.out b3)
  replace QN := Lib.hid (box_on QN.out b3)
  replace QK := Lib.hid (box_on QK.out b3)
  replace QR := Lib.hid (box_on QR.out b3)
  replace BBW := Lib.hid (bstep BBW.out b3)
  have hb3 := b3.size
  clear b3 z0 z1
  cases R1
  · have P2' := Lib.hid (P2.out rfl)
    have P3' := Lib.hid (P3.out rfl)
    clear P1 P2 P3 HR1 OU QO
    have hdr : w3.heap.size ≤ w3.drew.heap.size := Nat.le_refl _
    go_upto_region 4 with (fail)
    go_cut [7] (fun s7 wx => ∃ pb vq, s7 = .pointer (some ⟨pb, 0, none⟩) ∧ w3.heap.size ≤ pb ∧ Hid (wx.heap[pb]? = some (.cells #[vq] 71)) ∧ Hid (Owns wx (fun b => w3.heap.size ≤ b ∧ b ≠ pb) vq (setsD NQ)) ∧ Hid (Below w3.heap.size w3 wx))
    case first =>
      refine but_begin (f := 7) (S := fun V => Below w3.heap.size w3 V) (by kernel_rfl) ?_
      refine but_take (f := 7) (i := 0) (v := ?vh0) rfl (by kernel_rfl) (by kernel_rfl) (by kernel_rfl) (by kernel_rfl) (by kernel_rfl) (fun _ _ _ h => h) (Or.inl ⟨(by rfl), ?hyh0⟩) (Below.drew1 _) ?resth0
      case hyh0 =>
        intro W hW
        obtain ⟨x0, x1⟩ := box1N (box_on QN.out hW)
        go_simp
        exact rfl
      simp only [List.getElem_toArray, List.getElem_cons_succ, List.getElem_cons_zero, Act.put, List.setIfInBounds_toArray, List.set_cons_zero, List.set_cons_succ]
      refine but_take (f := 7) (i := 2) (v := ?vh2) rfl (by kernel_rfl) (by kernel_rfl) (by kernel_rfl) (by kernel_rfl) (by kernel_rfl) (fun _ _ _ h => h) (Or.inl ⟨(by rfl), ?hyh2⟩) (Below.drew1 _) ?resth2
      case hyh2 =>
        intro W hW
        obtain ⟨k0, k1, k2, k3, k4, k5⟩ := box5 (box_on QK.out hW)
        go_simp
        exact rfl
      simp only [List.getElem_toArray, List.getElem_cons_succ, List.getElem_cons_zero, Act.put, List.setIfInBounds_toArray, List.set_cons_zero, List.set_cons_succ]
      refine but_two (i := 1) (j := 6) (by kernel_rfl) rfl rfl (by rfl) (by rfl) ?_ ?_
      · simp only [List.getElem_toArray, List.getElem_cons_succ, List.getElem_cons_zero]
        intro K HK
        go_wp2_with fail
        refine (implNodeKeys_any _ ns _ (HV.out.on (bstep BBW.out (Below.drew1 _))) h1 h2).mono ?_
        rintro r Vhp1 ⟨v1, rfl, o1, hbhp1⟩
        rw [HKL.out] at o1
        obtain ⟨A1, c1, rfl, _, _⟩ := o1.shape
        go_wp2_with fail
        have hShp1 : (fun V => Below w3.heap.size w3 V) Vhp1 := bstep (Below.drew1 _) hbhp1
        refine HK.out _ _ (fun _ => hShp1) ?_
        clear HK
        have OC := Lib.hid o1
        clear o1
        try replace QB := Lib.hid (box_on QB.out hbhp1)
        have hzhp1 := hbhp1.size
        refine but_two (i := 3) (j := 6) (by kernel_rfl) rfl rfl (by rfl) (by rfl) ?_ ?_
        · simp only [List.getElem_toArray, List.getElem_cons_succ, List.getElem_cons_zero]
          intro K HK
          go_wp2_with fail
          refine (HI.out _ KL x _ OC.out.owns.reads (by omega)).mono ?_
          rintro r Vhpp2 ⟨v3, rfl, o3, hbhpp2⟩
          rw [HPL.out] at o3
          obtain ⟨A3, c3, rfl, _, _⟩ := o3.shape
          go_wp2_with fail
          have hShpp2 : (fun V => Below w3.heap.size w3 V) Vhpp2 := bstep hShp1 hbhpp2
          refine HK.out _ _ (fun _ => hShpp2) ?_
          clear HK
          replace OC := Lib.hid o3
          clear o3
          try replace QB := Lib.hid (box_on QB.out hbhpp2)
          have hzhpp2 := hbhpp2.size
          refine but_two (i := 4) (j := 6) (by kernel_rfl) rfl rfl (by rfl) (by rfl) ?_ ?_
          · simp only [List.getElem_toArray, List.getElem_cons_succ, List.getElem_cons_zero]
            intro K HK
            go_wp2_with fail
            refine (implDrop_any _ PL _ OC.out.owns.reads (by omega)).mono ?_
            rintro r Vhppp3 ⟨v4, rfl, o4, hbhppp3⟩
            rw [HDL.out] at o4
            obtain ⟨A4, c4, rfl, _, _⟩ := o4.shape
            go_wp2_with fail
            have hShppp3 : (fun V => Below w3.heap.size w3 V) Vhppp3 := bstep hShpp2 hbhppp3
            refine HK.out _ _ (fun _ => hShppp3) ?_
            clear HK
            replace OC := Lib.hid o4
            clear o4
            try replace QB := Lib.hid (box_on QB.out hbhppp3)
            have hzhppp3 := hbhppp3.size
            refine but_two (i := 5) (j := 6) (by kernel_rfl) rfl rfl (by rfl) (by rfl) ?_ ?_
            · simp only [List.getElem_toArray, List.getElem_cons_succ, List.getElem_cons_zero]
              intro K HK
              go_wp2_with fail
              refine (implNodeNew_any _ DL _ OC.out.owns.reads (by omega)).mono ?_
              rintro r Vhpppp4 ⟨v5, rfl, o5, hbhpppp4⟩
              rw [HNQ.out] at o5
              obtain ⟨A5, c5, rfl, _, _⟩ := o5.reads.lenN
              go_wp2_with fail
              have hShpppp4 : (fun V => Below w3.heap.size w3 V) Vhpppp4 := bstep hShppp3 hbhpppp4
              refine HK.out _ _ (fun _ => hShpppp4) ?_
              clear HK
              have ON := Lib.hid o5.lt
              clear o5
              try replace QB := Lib.hid (box_on QB.out hbhpppp4)
              have hzhpppp4 := hbhpppp4.size
              refine but_run (i := 6) (by kernel_rfl) rfl (by rfl) ?_
              simp only [List.getElem_toArray, List.getElem_cons_succ, List.getElem_cons_zero]
              intro K HK
              go_wp2_with fail
              have hShpppp5 : (fun V => Below w3.heap.size w3 V) (Vhpppp4.alloc (.cells #[.slice none 0 0] 71)) := bstep hShpppp4 (bal1 _ _)
              refine HK.out _ _ (fun _ => hShpppp5) ?_
              clear HK
              have QB := Lib.hid (al1 Vhpppp4 (.cells #[.slice none 0 0] 71))
              try (change Hid ((w3.drew.alloc (.cells #[.slice none 0 0] 71)).heap[w3.heap.size]? = some (.cells #[.slice none 0 0] 71)) at QB)
              try have ON0 := ON
              try replace OC := Lib.hid (OC.out.on (bal1 _ (.cells #[.slice none 0 0] 71)))
              try replace ON := Lib.hid (ON.out.on (bal1 _ (.cells #[.slice none 0 0] 71)))
              have hzhpppp5 : (Vhpppp4.alloc (.cells #[.slice none 0 0] 71)).heap.size ≤ Vhpppp4.heap.size + 1 := by simp
              have hyhpppp5 : Vhpppp4.heap.size + 1 ≤ (Vhpppp4.alloc (.cells #[.slice none 0 0] 71)).heap.size := by simp
              refine but_run (i := 7) (by kernel_rfl) rfl (by rfl) ?_
              simp only [List.getElem_toArray, List.getElem_cons_succ, List.getElem_cons_zero]
              obtain ⟨z0, z1⟩ := box1N QB.out
              intro K HK
              go_wp2_with fail
              refine HK.out _ _ (fun h => absurd rfl h) ?_
              clear HK
              refine but_done (by kernel_rfl) ?_
              have hzz := hShpppp5.size
              go_wp2_with fail
              go_meet
              exact ⟨Vhpppp4.heap.size, _, rfl, by omega, Lib.hid (al1 _ _), Lib.hid ((ON0.out.on (bal1 _ _)).mono (T := fun b => w3.heap.size ≤ b ∧ b ≠ Vhpppp4.heap.size) (fun b hb => ⟨by omega, by omega⟩)), Lib.hid (bstep hShpppp4 (bal1 _ _))⟩
            · simp only [List.getElem_toArray, List.getElem_cons_succ, List.getElem_cons_zero]
              intro K HK
              go_wp2_with fail
              have hShpppq4 : (fun V => Below w3.heap.size w3 V) (Vhppp3.alloc (.cells #[.slice none 0 0] 71)) := bstep hShppp3 (bal1 _ _)
              refine HK.out _ _ (fun _ => hShpppq4) ?_
              clear HK
              have QB := Lib.hid (al1 Vhppp3 (.cells #[.slice none 0 0] 71))
              try (change Hid ((w3.drew.alloc (.cells #[.slice none 0 0] 71)).heap[w3.heap.size]? = some (.cells #[.slice none 0 0] 71)) at QB)
              try have ON0 := ON
              try replace OC := Lib.hid (OC.out.on (bal1 _ (.cells #[.slice none 0 0] 71)))
              try replace ON := Lib.hid (ON.out.on (bal1 _ (.cells #[.slice none 0 0] 71)))
              have hzhpppq4 : (Vhppp3.alloc (.cells #[.slice none 0 0] 71)).heap.size ≤ Vhppp3.heap.size + 1 := by simp
              have hyhpppq4 : Vhppp3.heap.size + 1 ≤ (Vhppp3.alloc (.cells #[.slice none 0 0] 71)).heap.size := by simp
              refine but_run (i := 5) (by kernel_rfl) rfl (by rfl) ?_
              simp only [List.getElem_toArray, List.getElem_cons_succ, List.getElem_cons_zero]
              intro K HK
              go_wp2_with fail
              refine (implNodeNew_any _ DL _ OC.out.owns.reads (by omega)).mono ?_
              rintro r Vhpppq5 ⟨v5, rfl, o5, hbhpppq5⟩
              rw [HNQ.out] at o5
              obtain ⟨A5, c5, rfl, _, _⟩ := o5.reads.lenN
              go_wp2_with fail
              have hShpppq5 : (fun V => Below w3.heap.size w3 V) Vhpppq5 := bstep hShpppq4 hbhpppq5
              refine HK.out _ _ (fun _ => hShpppq5) ?_
              clear HK
              have ON := Lib.hid o5.lt
              clear o5
              try replace QB := Lib.hid (box_on QB.out hbhpppq5)
              have hzhpppq5 := hbhpppq5.size
              refine but_run (i := 7) (by kernel_rfl) rfl (by rfl) ?_
              simp only [List.getElem_toArray, List.getElem_cons_succ, List.getElem_cons_zero]
              obtain ⟨z0, z1⟩ := box1N QB.out
              intro K HK
              go_wp2_with fail
              refine HK.out _ _ (fun h => absurd rfl h) ?_
              clear HK
              refine but_done (by kernel_rfl) ?_
              have hzz := hShpppq5.size
              go_wp2_with fail
              go_meet
              exact ⟨Vhppp3.heap.size, _, rfl, by omega, Lib.hid (box_set QB.out), Lib.hid ((ON.out.mono (T := fun b => w3.heap.size ≤ b ∧ b ≠ Vhppp3.heap.size) (fun b hb => ⟨by omega, by omega⟩)).setFar (fun h => h.2 rfl)), Lib.hid (Below.setCell hShpppq5 (p := ⟨Vhppp3.heap.size, 0, none⟩) (show w3.heap.size ≤ Vhppp3.heap.size by omega) _)⟩
          · simp only [List.getElem_toArray, List.getElem_cons_succ, List.getElem_cons_zero]
            intro K HK
            go_wp2_with fail
            have hShppq3 : (fun V => Below w3.heap.size w3 V) (Vhpp2.alloc (.cells #[.slice none 0 0] 71)) := bstep hShpp2 (bal1 _ _)
            refine HK.out _ _ (fun _ => hShppq3) ?_
            clear HK
            have QB := Lib.hid (al1 Vhpp2 (.cells #[.slice none 0 0] 71))
            try (change Hid ((w3.drew.alloc (.cells #[.slice none 0 0] 71)).heap[w3.heap.size]? = some (.cells #[.slice none 0 0] 71)) at QB)
            try have ON0 := ON
            try replace OC := Lib.hid (OC.out.on (bal1 _ (.cells #[.slice none 0 0] 71)))
            try replace ON := Lib.hid (ON.out.on (bal1 _ (.cells #[.slice none 0 0] 71)))
            have hzhppq3 : (Vhpp2.alloc (.cells #[.slice none 0 0] 71)).heap.size ≤ Vhpp2.heap.size + 1 := by simp
            have hyhppq3 : Vhpp2.heap.size + 1 ≤ (Vhpp2.alloc (.cells #[.slice none 0 0] 71)).heap.size := by simp
            refine but_run (i := 4) (by kernel_rfl) rfl (by rfl) ?_
            simp only [List.getElem_toArray, List.getElem_cons_succ, List.getElem_cons_zero]
            intro K HK
            go_wp2_with fail
            refine (implDrop_any _ PL _ OC.out.owns.reads (by omega)).mono ?_
            rintro r Vhppq4 ⟨v4, rfl, o4, hbhppq4⟩
            rw [HDL.out] at o4
            obtain ⟨A4, c4, rfl, _, _⟩ := o4.shape
            go_wp2_with fail
            have hShppq4 : (fun V => Below w3.heap.size w3 V) Vhppq4 := bstep hShppq3 hbhppq4
            refine HK.out _ _ (fun _ => hShppq4) ?_
            clear HK
            replace OC := Lib.hid o4
            clear o4
            try replace QB := Lib.hid (box_on QB.out hbhppq4)
            have hzhppq4 := hbhppq4.size
            refine but_run (i := 5) (by kernel_rfl) rfl (by rfl) ?_
            simp only [List.getElem_toArray, List.getElem_cons_succ, List.getElem_cons_zero]
            intro K HK
            go_wp2_with fail
            refine (implNodeNew_any _ DL _ OC.out.owns.reads (by omega)).mono ?_
            rintro r Vhppq5 ⟨v5, rfl, o5, hbhppq5⟩
            rw [HNQ.out] at o5
            obtain ⟨A5, c5, rfl, _, _⟩ := o5.reads.lenN
            go_wp2_with fail
            have hShppq5 : (fun V => Below w3.heap.size w3 V) Vhppq5 := bstep hShppq4 hbhppq5
            refine HK.out _ _ (fun _ => hShppq5) ?_
            clear HK
            have ON := Lib.hid o5.lt
            clear o5
            try replace QB := Lib.hid (box_on QB.out hbhppq5)
            have hzhppq5 := hbhppq5.size
            refine but_run (i := 7) (by kernel_rfl) rfl (by rfl) ?_
            simp only [List.getElem_toArray, List.getElem_cons_succ, List.getElem_cons_zero]
            obtain ⟨z0, z1⟩ := box1N QB.out
            intro K HK
            go_wp2_with fail
            refine HK.out _ _ (fun h => absurd rfl h) ?_
            clear HK
            refine but_done (by kernel_rfl) ?_
            have hzz := hShppq5.size
            go_wp2_with fail
            go_meet
            exact ⟨Vhpp2.heap.size, _, rfl, by omega, Lib.hid (box_set QB.out), Lib.hid ((ON.out.mono (T := fun b => w3.heap.size ≤ b ∧ b ≠ Vhpp2.heap.size) (fun b hb => ⟨by omega, by omega⟩)).setFar (fun h => h.2 rfl)), Lib.hid (Below.setCell hShppq5 (p := ⟨Vhpp2.heap.size, 0, none⟩) (show w3.heap.size ≤ Vhpp2.heap.size by omega) _)⟩
        · simp only [List.getElem_toArray, List.getElem_cons_succ, List.getElem_cons_zero]
          intro K HK
          go_wp2_with fail
          have hShpq2 : (fun V => Below w3.heap.size w3 V) (Vhp1.alloc (.cells #[.slice none 0 0] 71)) := bstep hShp1 (bal1 _ _)
          refine HK.out _ _ (fun _ => hShpq2) ?_
          clear HK
          have QB := Lib.hid (al1 Vhp1 (.cells #[.slice none 0 0] 71))
          try (change Hid ((w3.drew.alloc (.cells #[.slice none 0 0] 71)).heap[w3.heap.size]? = some (.cells #[.slice none 0 0] 71)) at QB)
          try have ON0 := ON
          try replace OC := Lib.hid (OC.out.on (bal1 _ (.cells #[.slice none 0 0] 71)))
          try replace ON := Lib.hid (ON.out.on (bal1 _ (.cells #[.slice none 0 0] 71)))
          have hzhpq2 : (Vhp1.alloc (.cells #[.slice none 0 0] 71)).heap.size ≤ Vhp1.heap.size + 1 := by simp
          have hyhpq2 : Vhp1.heap.size + 1 ≤ (Vhp1.alloc (.cells #[.slice none 0 0] 71)).heap.size := by simp
          refine but_run (i := 3) (by kernel_rfl) rfl (by rfl) ?_
          simp only [List.getElem_toArray, List.getElem_cons_succ, List.getElem_cons_zero]
          intro K HK
          go_wp2_with fail
          refine (HI.out _ KL x _ OC.out.owns.reads (by omega)).mono ?_
          rintro r Vhpq3 ⟨v3, rfl, o3, hbhpq3⟩
          rw [HPL.out] at o3
          obtain ⟨A3, c3, rfl, _, _⟩ := o3.shape
          go_wp2_with fail
          have hShpq3 : (fun V => Below w3.heap.size w3 V) Vhpq3 := bstep hShpq2 hbhpq3
          refine HK.out _ _ (fun _ => hShpq3) ?_
          clear HK
          replace OC := Lib.hid o3
          clear o3
          try replace QB := Lib.hid (box_on QB.out hbhpq3)
          have hzhpq3 := hbhpq3.size
          refine but_run (i := 4) (by kernel_rfl) rfl (by rfl) ?_
          simp only [List.getElem_toArray, List.getElem_cons_succ, List.getElem_cons_zero]
          intro K HK
          go_wp2_with fail
          refine (implDrop_any _ PL _ OC.out.owns.reads (by omega)).mono ?_
          rintro r Vhpq4 ⟨v4, rfl, o4, hbhpq4⟩
          rw [HDL.out] at o4
          obtain ⟨A4, c4, rfl, _, _⟩ := o4.shape
          go_wp2_with fail
          have hShpq4 : (fun V => Below w3.heap.size w3 V) Vhpq4 := bstep hShpq3 hbhpq4
          refine HK.out _ _ (fun _ => hShpq4) ?_
          clear HK
          replace OC := Lib.hid o4
          clear o4
          try replace QB := Lib.hid (box_on QB.out hbhpq4)
          have hzhpq4 := hbhpq4.size
          refine but_run (i := 5) (by kernel_rfl) rfl (by rfl) ?_
          simp only [List.getElem_toArray, List.getElem_cons_succ, List.getElem_cons_zero]
          intro K HK
          go_wp2_with fail
          refine (implNodeNew_any _ DL _ OC.out.owns.reads (by omega)).mono ?_
          rintro r Vhpq5 ⟨v5, rfl, o5, hbhpq5⟩
          rw [HNQ.out] at o5
          obtain ⟨A5, c5, rfl, _, _⟩ := o5.reads.lenN
          go_wp2_with fail
          have hShpq5 : (fun V => Below w3.heap.size w3 V) Vhpq5 := bstep hShpq4 hbhpq5
          refine HK.out _ _ (fun _ => hShpq5) ?_
          clear HK
          have ON := Lib.hid o5.lt
          clear o5
          try replace QB := Lib.hid (box_on QB.out hbhpq5)
          have hzhpq5 := hbhpq5.size
          refine but_run (i := 7) (by kernel_rfl) rfl (by rfl) ?_
          simp only [List.getElem_toArray, List.getElem_cons_succ, List.getElem_cons_zero]
          obtain ⟨z0, z1⟩ := box1N QB.out
          intro K HK
          go_wp2_with fail
          refine HK.out _ _ (fun h => absurd rfl h) ?_
          clear HK
          refine but_done (by kernel_rfl) ?_
          have hzz := hShpq5.size
          go_wp2_with fail
          go_meet
          exact ⟨Vhp1.heap.size, _, rfl, by omega, Lib.hid (box_set QB.out), Lib.hid ((ON.out.mono (T := fun b => w3.heap.size ≤ b ∧ b ≠ Vhp1.heap.size) (fun b hb => ⟨by omega, by omega⟩)).setFar (fun h => h.2 rfl)), Lib.hid (Below.setCell hShpq5 (p := ⟨Vhp1.heap.size, 0, none⟩) (show w3.heap.size ≤ Vhp1.heap.size by omega) _)⟩
      · simp only [List.getElem_toArray, List.getElem_cons_succ, List.getElem_cons_zero]
        intro K HK
        go_wp2_with fail
        have hShq1 : (fun V => Below w3.heap.size w3 V) (w3.drew.alloc (.cells #[.slice none 0 0] 71)) := bstep (Below.drew1 _) (bal1 _ _)
        refine HK.out _ _ (fun _ => hShq1) ?_
        clear HK
        have QB := Lib.hid (al1 w3.drew (.cells #[.slice none 0 0] 71))
        try (change Hid ((w3.drew.alloc (.cells #[.slice none 0 0] 71)).heap[w3.heap.size]? = some (.cells #[.slice none 0 0] 71)) at QB)
        try have ON0 := ON
        try replace OC := Lib.hid (OC.out.on (bal1 _ (.cells #[.slice none 0 0] 71)))
        try replace ON := Lib.hid (ON.out.on (bal1 _ (.cells #[.slice none 0 0] 71)))
        have hzhq1 : (w3.drew.alloc (.cells #[.slice none 0 0] 71)).heap.size ≤ w3.drew.heap.size + 1 := by simp
        have hyhq1 : w3.drew.heap.size + 1 ≤ (w3.drew.alloc (.cells #[.slice none 0 0] 71)).heap.size := by simp
        refine but_run (i := 1) (by kernel_rfl) rfl (by rfl) ?_
        simp only [List.getElem_toArray, List.getElem_cons_succ, List.getElem_cons_zero]
        intro K HK
        go_wp2_with fail
        refine (implNodeKeys_any _ ns _ (HV.out.on (bstep BBW.out hShq1)) h1 h2).mono ?_
        rintro r Vhq2 ⟨v1, rfl, o1, hbhq2⟩
        rw [HKL.out] at o1
        obtain ⟨A1, c1, rfl, _, _⟩ := o1.shape
        go_wp2_with fail
        have hShq2 : (fun V => Below w3.heap.size w3 V) Vhq2 := bstep hShq1 hbhq2
        refine HK.out _ _ (fun _ => hShq2) ?_
        clear HK
        have OC := Lib.hid o1
        clear o1
        try replace QB := Lib.hid (box_on QB.out hbhq2)
        have hzhq2 := hbhq2.size
        refine but_run (i := 3) (by kernel_rfl) rfl (by rfl) ?_
        simp only [List.getElem_toArray, List.getElem_cons_succ, List.getElem_cons_zero]
        intro K HK
        go_wp2_with fail
        refine (HI.out _ KL x _ OC.out.owns.reads (by omega)).mono ?_
        rintro r Vhq3 ⟨v3, rfl, o3, hbhq3⟩
        rw [HPL.out] at o3
        obtain ⟨A3, c3, rfl, _, _⟩ := o3.shape
        go_wp2_with fail
        have hShq3 : (fun V => Below w3.heap.size w3 V) Vhq3 := bstep hShq2 hbhq3
        refine HK.out _ _ (fun _ => hShq3) ?_
        clear HK
        replace OC := Lib.hid o3
        clear o3
        try replace QB := Lib.hid (box_on QB.out hbhq3)
        have hzhq3 := hbhq3.size
        refine but_run (i := 4) (by kernel_rfl) rfl (by rfl) ?_
        simp only [List.getElem_toArray, List.getElem_cons_succ, List.getElem_cons_zero]
        intro K HK
        go_wp2_with fail
        refine (implDrop_any _ PL _ OC.out.owns.reads (by omega)).mono ?_
        rintro r Vhq4 ⟨v4, rfl, o4, hbhq4⟩
        rw [HDL.out] at o4
        obtain ⟨A4, c4, rfl, _, _⟩ := o4.shape
        go_wp2_with fail
        have hShq4 : (fun V => Below w3.heap.size w3 V) Vhq4 := bstep hShq3 hbhq4
        refine HK.out _ _ (fun _ => hShq4) ?_
        clear HK
        replace OC := Lib.hid o4
        clear o4
        try replace QB := Lib.hid (box_on QB.out hbhq4)
        have hzhq4 := hbhq4.size
        refine but_run (i := 5) (by kernel_rfl) rfl (by rfl) ?_
        simp only [List.getElem_toArray, List.getElem_cons_succ, List.getElem_cons_zero]
        intro K HK
        go_wp2_with fail
        refine (implNodeNew_any _ DL _ OC.out.owns.reads (by omega)).mono ?_
        rintro r Vhq5 ⟨v5, rfl, o5, hbhq5⟩
        rw [HNQ.out] at o5
        obtain ⟨A5, c5, rfl, _, _⟩ := o5.reads.lenN
        go_wp2_with fail
        have hShq5 : (fun V => Below w3.heap.size w3 V) Vhq5 := bstep hShq4 hbhq5
        refine HK.out _ _ (fun _ => hShq5) ?_
        clear HK
        have ON := Lib.hid o5.lt
        clear o5
        try replace QB := Lib.hid (box_on QB.out hbhq5)
        have hzhq5 := hbhq5.size
        refine but_run (i := 7) (by kernel_rfl) rfl (by rfl) ?_
        simp only [List.getElem_toArray, List.getElem_cons_succ, List.getElem_cons_zero]
        obtain ⟨z0, z1⟩ := box1N QB.out
        intro K HK
        go_wp2_with fail
        refine HK.out _ _ (fun h => absurd rfl h) ?_
        clear HK
        refine but_done (by kernel_rfl) ?_
        have hzz := hShq5.size
        go_wp2_with fail
        go_meet
        exact ⟨w3.heap.size, _, rfl, by omega, Lib.hid (box_set QB.out), Lib.hid ((ON.out.mono (T := fun b => w3.heap.size ≤ b ∧ b ≠ w3.heap.size) (fun b hb => ⟨by omega, by omega⟩)).setFar (fun h => h.2 rfl)), Lib.hid (Below.setCell hShq5 (p := ⟨w3.heap.size, 0, none⟩) (show w3.heap.size ≤ w3.heap.size by omega) _)⟩
    case rest =>
      obtain ⟨pb, vq, rfl, hpb, QB, ON, BX⟩ := hcut
      obtain ⟨A5, c5, rfl, _, _⟩ := ON.out.reads.lenN
      replace QN := Lib.hid (box_on QN.out BX.out)
      replace QR := Lib.hid (box_on QR.out BX.out)
      replace BBW := Lib.hid (bstep BBW.out BX.out)
      have hbx := BX.out.size
      obtain ⟨z0, z1⟩ := box1N QB.out
      go_wp2_with fail
      refine (implNodeOk_any _ NQ _ ON.out.reads HSQ.out).mono ?_
      rintro r w5 ⟨rfl, b5⟩
      rw [HR2.out]
      replace QN := Lib.hid (box_on QN.out b5)
      replace QB := Lib.hid (box_on QB.out b5)
      replace QR := Lib.hid (box_on QR.out b5)
      replace ON := Lib.hid (ON.out.on b5)
      replace BBW := Lib.hid (bstep BBW.out b5)
      clear b5 z0 z1
      obtain ⟨y0, y1⟩ := box1N QR.out
      cases R2
      · have hP := P3'.out rfl
        have HP := Lib.hid hP
        clear hP P2' P3' HR2
        obtain ⟨x0, x1⟩ := box1N QN.out
        go_wp2_with fail
        refine (copyNode_any _ ns _ (HV.out.on BBW.out) HS.out).mono ?_
        rintro r w6 ⟨v6, rfl, o6, b6⟩
        obtain ⟨A6, c6, rfl, _, _⟩ := o6.reads.lenN
        have hb6 := BBW.out.size
        have O6 := Lib.hid o6
        have B6 := Lib.hid (bstep (bstep HB.out BBW.out) b6)
        clear y0 y1 x0 x1
        obtain ⟨y0, y1⟩ := box1N (box_on QR.out b6)
        clear o6 b6
        go_wp2
        refine bodyPost_ret (v := .tuple #[.agg #[.slice A6 ns.length c6], .bool false]) (by simp [results, Tryz.results96, go_sem, y0, y1]) rfl ⟨_, by rw [HP.out.2], ?_, ?_⟩
        · rw [HP.out.1]
          exact (O6.out.setFar (by omega)).mono (fun b hb => by omega)
        · exact B6.out.setCell (p := ⟨w.heap.size + 1 + 1, 0, none⟩) (show w.heap.size ≤ w.heap.size + 1 + 1 by omega) _
      · have hP := P2'.out rfl
        have HP := Lib.hid hP
        clear hP P2' P3' HR2
        obtain ⟨z0, z1⟩ := box1N QB.out
        have B6 := Lib.hid (bstep HB.out BBW.out)
        have hw3 : w.heap.size + 1 + 1 < w3.heap.size := by omega
        go_wp2
        refine bodyPost_ret (v := .tuple #[.agg #[.slice A5 NQ.length c5], .bool true]) (by simp [results, Tryz.results96, go_sem, y0, y1]) rfl ⟨_, by rw [HP.out.2], ?_, ?_⟩
        · rw [HP.out.1]
          exact (ON.out.setFar (fun h => by have := h.1; omega)).mono (fun b hb => by have := hb.1; omega)
        · exact B6.out.setCell (p := ⟨w.heap.size + 1 + 1, 0, none⟩) (show w.heap.size ≤ w.heap.size + 1 + 1 by omega) _
  · have hP := P1.out rfl
    have HP := Lib.hid hP
    clear hP P1 P2 P3 HR1
    obtain ⟨z0, z1⟩ := box1N QO.out
    obtain ⟨y0, y1⟩ := box1N QR.out
    have B6 := Lib.hid (bstep HB.out BBW.out)
    go_wp2
    refine bodyPost_ret (v := .tuple #[.agg #[.slice Au LY.length cu], .bool true]) (by simp [results, Tryz.results96, go_sem, y0, y1]) rfl ⟨_, by rw [HP.out.2], ?_, ?_⟩
    · rw [HP.out.1]
      exact (OU.out.setFar (fun h => by have := h.1; omega)).mono (fun b hb => by have := hb.1; omega)
    · exact B6.out.setCell (p := ⟨w.heap.size + 1 + 1, 0, none⟩) (show w.heap.size ≤ w.heap.size + 1 + 1 by omega) _
end Go.Proofs.YtkcafbdlealbpaaGreat
/- The contract of spec.NodePut. Conditions: at most 1048576 sets and keys. -/
namespace Go.Proofs.YtkcafbdlealbpaaGreat
open Go.RowKit
set_option maxRecDepth 100000
set_option linter.unusedSimpArgs false
set_option linter.unusedVariables false
set_option maxHeartbeats 1000000 in
theorem specNodePut_any (v : Value) (ns : List (List KeyD)) (x : KeyD) (w : World) (hv : Reads w w.heap.size v (setsD ns)) (h1 : ns.length ≤ 1048576) (h2 : sumN ns ≤ 1048576) : Calls Tryz.prog 47 #[.agg #[v], x.v] w (PutsN w ns x) := by
  obtain ⟨A, c, rfl, _, _⟩ := hv.lenN
  obtain ⟨q0, q1, q2⟩ := al3 w (.cells #[.slice A ns.length c] 71) (.cells #[.int .i64 x.a, .int .i64 x.b, .int .i64 x.c, .int .i64 x.d, .int .i64 x.e] 29) (.cells #[.slice none 0 0] 71)
  have B0 := bal3 w (.cells #[.slice A ns.length c] 71) (.cells #[.int .i64 x.a, .int .i64 x.b, .int .i64 x.c, .int .i64 x.d, .int .i64 x.e] 29) (.cells #[.slice none 0 0] 71)
  have HB := Lib.hid B0
  have QN := Lib.hid q0
  have QK := Lib.hid q1
  have QR := Lib.hid q2
  have HV := Lib.hid (hv.on B0)
  have HZ : Hid ((((w.alloc (.cells #[.slice A ns.length c] 71)).alloc (.cells #[.int .i64 x.a, .int .i64 x.b, .int .i64 x.c, .int .i64 x.d, .int .i64 x.e] 29)).alloc (.cells #[.slice none 0 0] 71)).heap.size = w.heap.size + 3) := Lib.hid (by simp)
  have HS : Hid (SmallN ns) := Lib.hid ⟨by omega, by omega⟩
  obtain ⟨KL, hKL⟩ : ∃ KL, nodeKeysK ns = KL := ⟨_, rfl⟩
  obtain ⟨PL, hPL⟩ : ∃ PL, putK KL x = PL := ⟨_, rfl⟩
  obtain ⟨DL, hDL⟩ : ∃ DL, dropK PL = DL := ⟨_, rfl⟩
  have hkl : KL.length ≤ 1048576 := by rw [← hKL]; exact Nat.le_trans (nodeKeys_len ns) h2
  have hpl : PL.length ≤ 1048577 := by rw [← hPL]; exact Nat.le_trans (putK_len KL x) (by omega)
  have hdl : DL.length ≤ 1048577 := by rw [← hDL]; exact Nat.le_trans (dropK_len PL) hpl
  have hreb : rebK ns x = DL := by rw [rebK, hKL, hPL, hDL]
  have HREB := Lib.hid hreb
  have HKL := Lib.hid hKL
  have HPL := Lib.hid hPL
  have HDL := Lib.hid hDL
  obtain ⟨NQ, hNQ⟩ : ∃ NQ, nodeNewK DL = NQ := ⟨_, rfl⟩
  have HNQ := Lib.hid hNQ
  have HSQ : Hid (SmallN NQ) := Lib.hid (by rw [← hNQ]; exact ⟨by have := len_new DL; omega, by rw [sum_new]; omega⟩)
  obtain ⟨R1, hR1⟩ : ∃ R, nodeOkB (layerK ns x) = R := ⟨_, rfl⟩
  obtain ⟨R2, hR2⟩ : ∃ R, nodeOkB NQ = R := ⟨_, rfl⟩
  have HR1 := Lib.hid hR1
  have HR2 := Lib.hid hR2
  have P1 : Hid (R1 = true → putN ns x = layerK ns x ∧ putNB ns x = true) := Lib.hid (fun h => put_one (by rw [hR1, h]))
  have P2 : Hid (R1 = false → R2 = true → putN ns x = NQ ∧ putNB ns x = true) := Lib.hid (fun h k => by have := put_two (ns := ns) (x := x) (by rw [hR1, h]) (by rw [hreb, hNQ, hR2, k]); rw [hreb, hNQ] at this; exact this)
  have P3 : Hid (R1 = false → R2 = false → putN ns x = ns ∧ putNB ns x = false) := Lib.hid (fun h k => put_no (by rw [hR1, h]) (by rw [hreb, hNQ, hR2, k]))
  have hls := layer_small ns x
  obtain ⟨LY, hLY⟩ : ∃ LY, layerK ns x = LY := ⟨_, rfl⟩
  rw [hLY] at hls HR1 P1
  have HLY := Lib.hid hLY
  have HSL : Hid (SmallN LY) := Lib.hid ⟨by omega, by omega⟩
  clear hv B0 q0 q1 q2 hKL hPL hDL hreb hNQ hR1 hR2 hLY
  unfold KeyD.v keyV
  have HI := Lib.hid specSetPut_any
  have HA := Lib.hid specSetAt_any
  unfold SaysFind KeyD.v keyV at HA
  unfold KeyD.v keyV at HI
  have HLONG : Hid (8 < DL.length → R2 = false) := Lib.hid (fun h => by rw [← HR2.out, ← HNQ.out]; exact ok_new_long h)
  go_enter Tryz.func47, Tryz.ntmps47
  go_upto_region 1 with (fail)
  generalize ((w.alloc (.cells #[.slice A ns.length c] 71)).alloc (.cells #[.int .i64 x.a, .int .i64 x.b, .int .i64 x.c, .int .i64 x.d, .int .i64 x.e] 29)).alloc (.cells #[.slice none 0 0] 71) = W at *
  have hz1 := Nat.le_of_eq HZ.out
  have hz2 := Nat.le_of_eq HZ.out.symm
  clear HZ
  obtain ⟨x0, x1⟩ := box1N QN.out
  go_wp2_with fail
  refine (l5Copy_any _ ns W HV.out HS.out).mono ?_
  rintro r w1 ⟨u, rfl, o1, b1⟩
  obtain ⟨Au, cu, rfl, _, _⟩ := o1.reads.lenN
  have NO := Lib.hid (NOwn.of o1 (.cells #[.slice Au ns.length cu] 71))
  have QO := Lib.hid (al1 w1 (.cells #[.slice Au ns.length cu] 71))
  have ba := bstep b1 (bal1 w1 (.cells #[.slice Au ns.length cu] 71))
  replace QN := Lib.hid (box_on QN.out ba)
  replace QK := Lib.hid (box_on QK.out ba)
  replace QR := Lib.hid (box_on QR.out ba)
  have BBW := Lib.hid ba
  have hb1 := b1.size
  have HZ : Hid ((w1.alloc (.cells #[.slice Au ns.length cu] 71)).heap.size = w1.heap.size + 1) := Lib.hid (by simp)
  clear o1 b1 ba x0 x1
  go_upto_region 2 with (fail)
  generalize w1.alloc (.cells #[.slice Au ns.length cu] 71) = W2 at *
  have hz3 := Nat.le_of_eq HZ.out
  have hz4 := Nat.le_of_eq HZ.out.symm
  clear HZ
  obtain ⟨z0, z1⟩ := box1N QO.out
  by_cases h0 : ns.length = 0
  · have HLay : Hid (ns ++ [[x]] = LY) := Lib.hid (by rw [← HLY.out]; unfold layerK; rw [dif_neg (by omega)])
    have i3 : IntKind.i64.wrap ((ns.length : Int) - 1) = -1 := by rw [IntKind.wrap_i64]; omega
    clear h0
    go_upto_region 8 with (fail)
    clear z0 z1 i3
    obtain ⟨xs, hr, ho, hne⟩ := NO.out
    obtain ⟨k0, k1, k2, k3, k4, k5⟩ := box5 QK.out
    obtain ⟨z0, z1⟩ := box1N QO.out
    have AT := Lib.hid (At.lit1n (W2.alloc (.cells #[.int .i64 x.a, .int .i64 x.b, .int .i64 x.c, .int .i64 x.d, .int .i64 x.e] 29)) (.slice (some ⟨W2.heap.size, 0, none⟩) 1 1) 36 (n := W2.heap.size + 1) (by simp))
    have HRW := Lib.hid (row_on hr (bal2 W2 (.cells #[.int .i64 x.a, .int .i64 x.b, .int .i64 x.c, .int .i64 x.d, .int .i64 x.e] 29) (.cells #[.slice (some ⟨W2.heap.size, 0, none⟩) 1 1] 36)))
    have HR0 := Lib.hid hr
    have HO0 := Lib.hid ho
    have HNE := Lib.hid hne
    clear hr ho hne
    go_wp2_with (at_builtin; refine wpList_appV _ rfl (.tmp 57) (.tmp 60) 69 36 1 24 (.slice none 0 0) rfl Tryz.underlying69 (by kernel_rfl) rfl (by omega) (by omega) W.heap.size ns.length _ xs rfl HRW.out (some ⟨W2.heap.size + 1, 0, none⟩) 1 1 [.slice (some ⟨W2.heap.size, 0, none⟩) 1 1] rfl rfl AT.out (by simp [Value.oneCell']) (by first | omega | (simp; done)) (by have := BBW.out.size; simp; omega) ?_; intro v8 w8 o8 g8 n8 at8; clear z0 z1 k0 k1 k2 k3 k4 k5; have P8 := Lib.hid (box_grown (box_on QO.out (bal2 W2 (.cells #[.int .i64 x.a, .int .i64 x.b, .int .i64 x.c, .int .i64 x.d, .int .i64 x.e] 29) (.cells #[.slice (some ⟨W2.heap.size, 0, none⟩) 1 1] 36))) g8 HNE.out); have P9 := Lib.hid (box_grown (box_on QR.out (bal2 W2 (.cells #[.int .i64 x.a, .int .i64 x.b, .int .i64 x.c, .int .i64 x.d, .int .i64 x.e] 29) (.cells #[.slice (some ⟨W2.heap.size, 0, none⟩) 1 1] 36))) g8 (row_ne HR0.out (by omega))); have G8 := Lib.hid g8; have O8 := Lib.hid o8; have AT8 := Lib.hid at8; obtain ⟨gv, cv, rfl⟩ := row_shape o8 (by omega); obtain ⟨z0, z1⟩ := box1N P8.out; obtain ⟨y0, y1⟩ := box1N P9.out; clear o8 g8 n8 at8 HRW)
    have hN := NOwn.app HR0.out HO0.out HNE.out (by omega) (by have := BBW.out.size; omega) O8.out G8.out AT8.out
    have hb8 : Below W.heap.size W w8 := (BBW.out.trans ((bal2 _ _ _).mono BBW.out.size)).grown G8.out (by have := BBW.out.size; simp; omega) (fun k e => (row_lt HR0.out k e).2)
    have P7 := Lib.hid (box_far (j := 0) (u := .slice (some ⟨gv, 0, none⟩) (ns.length + 1) cv) (box_grown (box_on QN.out (bal2 W2 (.cells #[.int .i64 x.a, .int .i64 x.b, .int .i64 x.c, .int .i64 x.d, .int .i64 x.e] 29) (.cells #[.slice (some ⟨W2.heap.size, 0, none⟩) 1 1] 36))) G8.out (row_ne HR0.out (by omega))) (show w.heap.size ≠ w1.heap.size by omega))
    have P6 := Lib.hid (box_far (j := 0) (u := .slice (some ⟨gv, 0, none⟩) (ns.length + 1) cv) (box_grown (box_on QK.out (bal2 W2 (.cells #[.int .i64 x.a, .int .i64 x.b, .int .i64 x.c, .int .i64 x.d, .int .i64 x.e] 29) (.cells #[.slice (some ⟨W2.heap.size, 0, none⟩) 1 1] 36))) G8.out (row_ne HR0.out (by omega))) (show w.heap.size + 1 ≠ w1.heap.size by omega))
    have P5 := Lib.hid (box_far (j := 0) (u := .slice (some ⟨gv, 0, none⟩) (ns.length + 1) cv) P9.out (show w.heap.size + 1 + 1 ≠ w1.heap.size by omega))
    have P4 := Lib.hid (box_set (i := 0) (u := .slice (some ⟨gv, 0, none⟩) (ns.length + 1) cv) P8.out)
    have OL := Lib.hid hN.owns
    have HB8 := Lib.hid (hb8.setCell (p := ⟨w1.heap.size, 0, none⟩) (show W.heap.size ≤ w1.heap.size by omega) (.slice (some ⟨gv, 0, none⟩) (ns.length + 1) cv))
    have hlc : (ns ++ [[x]]).length = ns.length + 1 := by simp
    rw [← hlc, HLay.out] at OL HB8 P4 P5 P6 P7
    rw [← hlc, HLay.out]
    clear hlc hN hb8 QN QK QR QO NO BBW P8 P9 G8 O8 AT8 HR0 HO0 HNE z0 z1 y0 y1 AT
    have QN := P7
    have QK := P6
    have QR := P5
    have QO := P4
    have BBW := HB8
    clear P7 P6 P5 P4 HB8
    generalize w8.setCell ⟨w1.heap.size, 0, none⟩ (.slice (some ⟨gv, 0, none⟩) LY.length cv) = W9 at *
    obtain ⟨z0, z1⟩ := box1N QO.out
    have hQV := BBW.out.size
    skip
    refine (specNodeOk_any _ LY _ OL.out.reads HSL.out).mono ?_
    rintro r w3a ⟨rfl, b3⟩
    rw [HR1.out]
    replace OL := Lib.hid (OL.out.on b3)
    replace QO := Lib.hid (box_on QO.out b3)
    replace QN := Lib.hid (box_on QN.out b3)
    replace QK := Lib.hid (box_on QK.out b3)
    replace QR := Lib.hid (box_on QR.out b3)
    replace BBW := Lib.hid (bstep BBW.out b3)
    have hb3 := b3.size
    clear b3 z0 z1
    cases R1
    · have P2' := Lib.hid (P2.out rfl)
      have P3' := Lib.hid (P3.out rfl)
      clear P1 P2 P3 HR1 OL QO
      go_upto_region 11 with (fail)
      refine but_begin (f := 5) (S := fun V => Below w3a.heap.size w3a V) (by kernel_rfl) ?_
      refine but_take (f := 5) (i := 0) (v := ?vra0) rfl (by kernel_rfl) (by kernel_rfl) (by kernel_rfl) (by kernel_rfl) (by kernel_rfl) (fun _ _ _ h => h) (Or.inl ⟨(by rfl), ?hyra0⟩) (Below.drew1 _) ?restra0
      case hyra0 =>
        intro W hW
        obtain ⟨x0, x1⟩ := box1N (box_on QN.out hW)
        go_simp
        exact rfl
      simp only [List.getElem_toArray, List.getElem_cons_succ, List.getElem_cons_zero, Act.put, List.setIfInBounds_toArray, List.set_cons_zero, List.set_cons_succ]
      refine but_take (f := 5) (i := 2) (v := ?vra2) rfl (by kernel_rfl) (by kernel_rfl) (by kernel_rfl) (by kernel_rfl) (by kernel_rfl) (fun _ _ _ h => h) (Or.inl ⟨(by rfl), ?hyra2⟩) (Below.drew1 _) ?restra2
      case hyra2 =>
        intro W hW
        obtain ⟨k0, k1, k2, k3, k4, k5⟩ := box5 (box_on QK.out hW)
        go_simp
        exact rfl
      simp only [List.getElem_toArray, List.getElem_cons_succ, List.getElem_cons_zero, Act.put, List.setIfInBounds_toArray, List.set_cons_zero, List.set_cons_succ]
      refine but_run (i := 1) (by kernel_rfl) rfl (by rfl) ?_
      simp only [List.getElem_toArray, List.getElem_cons_succ, List.getElem_cons_zero]
      intro K HK
      go_wp2_with fail
      refine (specNodeKeys_any _ ns _ (HV.out.on (bstep BBW.out (Below.drew1 _))) h1 h2).mono ?_
      rintro r Vra1 ⟨v1, rfl, o1, hbra1⟩
      rw [HKL.out] at o1
      obtain ⟨A1, c1, rfl, _, _⟩ := o1.shape
      go_wp2_with fail
      have hSra1 : (fun V => Below w3a.heap.size w3a V) Vra1 := bstep (Below.drew1 _) hbra1
      refine HK.out _ _ (fun _ => hSra1) ?_
      clear HK
      have OC := Lib.hid o1
      clear o1
      refine but_run (i := 3) (by kernel_rfl) rfl (by rfl) ?_
      simp only [List.getElem_toArray, List.getElem_cons_succ, List.getElem_cons_zero]
      intro K HK
      go_wp2_with fail
      refine (HI.out _ KL x _ OC.out.owns.reads (by omega)).mono ?_
      rintro r Vra2 ⟨v3, rfl, o3, hbra2⟩
      rw [HPL.out] at o3
      obtain ⟨A3, c3, rfl, _, _⟩ := o3.shape
      go_wp2_with fail
      have hSra2 : (fun V => Below w3a.heap.size w3a V) Vra2 := bstep hSra1 hbra2
      refine HK.out _ _ (fun _ => hSra2) ?_
      clear HK
      replace OC := Lib.hid o3
      clear o3
      refine but_run (i := 4) (by kernel_rfl) rfl (by rfl) ?_
      simp only [List.getElem_toArray, List.getElem_cons_succ, List.getElem_cons_zero]
      intro K HK
      go_wp2_with fail
      refine (specDrop_any _ PL _ OC.out.owns.reads (by omega)).mono ?_
      rintro r Vra3 ⟨v4, rfl, o4, hbra3⟩
      rw [HDL.out] at o4
      obtain ⟨A4, c4, rfl, _, _⟩ := o4.shape
      go_wp2_with fail
      have hSra3 : (fun V => Below w3a.heap.size w3a V) Vra3 := bstep hSra2 hbra3
      refine HK.out _ _ (fun _ => hSra3) ?_
      clear HK
      replace OC := Lib.hid o4
      clear o4
      refine but_run (i := 5) (by kernel_rfl) rfl (by rfl) ?_
      simp only [List.getElem_toArray, List.getElem_cons_succ, List.getElem_cons_zero]
      intro K HK
      go_wp2_with fail
      refine HK.out _ _ (fun h => absurd rfl h) ?_
      clear HK
      refine but_done (by kernel_rfl) ?_
      skip
      have OD := Lib.hid OC.out.owns
      replace QN := Lib.hid (box_on QN.out hSra3)
      replace QR := Lib.hid (box_on QR.out hSra3)
      replace BBW := Lib.hid (bstep BBW.out hSra3)
      clear OC QK
      by_cases h8 : 8 < DL.length
      · have d8 : decide ((8 : Int) < (DL.length : Int)) = true := decide_eq_true (by omega)
        have hP := P3'.out (HLONG.out h8)
        have HP := Lib.hid hP
        clear hP P2' P3' HR2 HLONG h8
        obtain ⟨x0, x1⟩ := box1N QN.out
        go_wp2_with fail
        refine (l5Copy_any _ ns _ (HV.out.on BBW.out) HS.out).mono ?_
        rintro r w6 ⟨v6, rfl, o6, b6⟩
        obtain ⟨A6, c6, rfl, _, _⟩ := o6.reads.lenN
        have hb6 := BBW.out.size
        have O6 := Lib.hid o6
        have B6 := Lib.hid (bstep (bstep HB.out BBW.out) b6)
        clear x0 x1
        obtain ⟨y0, y1⟩ := box1N (box_on QR.out b6)
        clear o6 b6
        go_wp2
        refine bodyPost_ret (v := .tuple #[.agg #[.slice A6 ns.length c6], .bool false]) (by simp [results, Tryz.results47, go_sem, y0, y1]) rfl ⟨_, by rw [HP.out.2], ?_, ?_⟩
        · rw [HP.out.1]
          exact (O6.out.setFar (by omega)).mono (fun b hb => by omega)
        · exact B6.out.setCell (p := ⟨w.heap.size + 1 + 1, 0, none⟩) (show w.heap.size ≤ w.heap.size + 1 + 1 by omega) _
      · have d8 : decide ((8 : Int) < (DL.length : Int)) = false := decide_eq_false (by omega)
        clear h8 HLONG
        go_wp2_with fail
        refine (specNodeNew_any _ DL _ OD.out.reads (by omega)).mono ?_
        rintro r w5 ⟨v5, rfl, o5, b5⟩
        rw [HNQ.out] at o5
        obtain ⟨A5, c5, rfl, _, _⟩ := o5.reads.lenN
        replace QN := Lib.hid (box_on QN.out b5)
        replace QR := Lib.hid (box_on QR.out b5)
        replace OD := Lib.hid (OD.out.on b5)
        replace BBW := Lib.hid (bstep BBW.out b5)
        have O5 := Lib.hid o5
        clear o5 b5
        go_wp2_with fail
        refine (specNodeOk_any _ NQ _ O5.out.reads HSQ.out).mono ?_
        rintro r w7 ⟨rfl, b7⟩
        rw [HR2.out]
        replace QN := Lib.hid (box_on QN.out b7)
        replace QR := Lib.hid (box_on QR.out b7)
        replace OD := Lib.hid (OD.out.on b7)
        replace BBW := Lib.hid (bstep BBW.out b7)
        clear b7 O5 d8
        cases R2
        · have hP := P3'.out rfl
          have HP := Lib.hid hP
          clear hP P2' P3' HR2
          obtain ⟨x0, x1⟩ := box1N QN.out
          go_wp2_with fail
          refine (l5Copy_any _ ns _ (HV.out.on BBW.out) HS.out).mono ?_
          rintro r w6 ⟨v6, rfl, o6, b6⟩
          obtain ⟨A6, c6, rfl, _, _⟩ := o6.reads.lenN
          have hb6 := BBW.out.size
          have O6 := Lib.hid o6
          have B6 := Lib.hid (bstep (bstep HB.out BBW.out) b6)
          clear x0 x1
          obtain ⟨y0, y1⟩ := box1N (box_on QR.out b6)
          clear o6 b6
          go_wp2
          refine bodyPost_ret (v := .tuple #[.agg #[.slice A6 ns.length c6], .bool false]) (by simp [results, Tryz.results47, go_sem, y0, y1]) rfl ⟨_, by rw [HP.out.2], ?_, ?_⟩
          · rw [HP.out.1]
            exact (O6.out.setFar (by omega)).mono (fun b hb => by omega)
          · exact B6.out.setCell (p := ⟨w.heap.size + 1 + 1, 0, none⟩) (show w.heap.size ≤ w.heap.size + 1 + 1 by omega) _
        · have hP := P2'.out rfl
          have HP := Lib.hid hP
          clear hP P2' P3' HR2
          go_wp2_with fail
          refine (specNodeNew_any _ DL _ OD.out.reads (by omega)).mono ?_
          rintro r w8 ⟨v8, rfl, o8, b8⟩
          rw [HNQ.out] at o8
          obtain ⟨A8, c8, rfl, _, _⟩ := o8.reads.lenN
          have hb6 := BBW.out.size
          have O6 := Lib.hid o8
          have B6 := Lib.hid (bstep (bstep HB.out BBW.out) b8)
          obtain ⟨y0, y1⟩ := box1N (box_on QR.out b8)
          clear o8 b8
          go_wp2
          refine bodyPost_ret (v := .tuple #[.agg #[.slice A8 NQ.length c8], .bool true]) (by simp [results, Tryz.results47, go_sem, y0, y1]) rfl ⟨_, by rw [HP.out.2], ?_, ?_⟩
          · rw [HP.out.1]
            exact (O6.out.setFar (by omega)).mono (fun b hb => by omega)
          · exact B6.out.setCell (p := ⟨w.heap.size + 1 + 1, 0, none⟩) (show w.heap.size ≤ w.heap.size + 1 + 1 by omega) _
    · have hP := P1.out rfl
      have HP := Lib.hid hP
      clear hP P1 P2 P3 HR1
      obtain ⟨z0, z1⟩ := box1N QO.out
      obtain ⟨y0, y1⟩ := box1N QR.out
      have B6 := Lib.hid (bstep HB.out BBW.out)
      go_wp2
      refine bodyPost_ret (v := .tuple #[.agg #[.slice (some ⟨gv, 0, none⟩) LY.length cv], .bool true]) (by simp [results, Tryz.results47, go_sem, y0, y1]) rfl ⟨_, by rw [HP.out.2], ?_, ?_⟩
      · rw [HP.out.1]
        exact (OL.out.setFar (fun h => by have := h.1; omega)).mono (fun b hb => by have := hb.1; omega)
      · exact B6.out.setCell (p := ⟨w.heap.size + 1 + 1, 0, none⟩) (show w.heap.size ≤ w.heap.size + 1 + 1 by omega) _
  · obtain ⟨L, hL⟩ : ∃ L, ns.length = L + 1 := ⟨ns.length - 1, by omega⟩
    have hlt : L < ns.length := by omega
    have i3 : IntKind.i64.wrap ((ns.length : Int) - 1) = (L : Int) := by rw [IntKind.wrap_i64]; omega
    have i1 : (L : Int) < (ns.length : Int) := by omega
    have i2 : (0 : Int) ≤ (L : Int) := by omega
    have t0 : decide ((0 : Int) ≤ (L : Int)) = true := decide_eq_true i2
    have e1 : ns.length - 1 = L := by omega
    obtain ⟨Y, hY⟩ : ∃ Y, (atK ns[L] x.a x.b).isSome = Y := ⟨_, rfl⟩
    have HY := Lib.hid hY
    have HLay : Hid ((if Y || decide (ns[L].length < 4) then ns.set L (putK ns[L] x) else ns ++ [[x]]) = LY) := Lib.hid (by
      rw [← HLY.out]
      unfold layerK
      rw [dif_pos (by omega)]
      simp only [e1, takesB, hY])
    have hll := HS.out.at hlt
    clear h0 hL hY e1
    obtain ⟨g, cap, A2, c2, hu, hbg, hgo, hgl, c1, fz, r1⟩ := NO.out.elem hlt
    cases hu
    have C1 := Lib.hid c1
    have R1' := Lib.hid r1
    clear c1 fz r1
    go_upto_region 5 with (fail)
    refine but_begin (f := 13) (S := fun V => Below W2.heap.size W2 V) (by kernel_rfl) ?_
    refine but_take (f := 13) (i := 0) (v := ?vf0) rfl (by kernel_rfl) (by kernel_rfl) (by kernel_rfl) (by kernel_rfl) (by kernel_rfl) (fun _ _ _ h => h) (Or.inl ⟨(by rfl), ?hyf0⟩) (Below.drew1 _) ?restf0
    case hyf0 =>
      intro W hW
      go_simp
      exact rfl
    simp only [List.getElem_toArray, List.getElem_cons_succ, List.getElem_cons_zero, Act.put, List.setIfInBounds_toArray, List.set_cons_zero, List.set_cons_succ]
    refine but_take (f := 13) (i := 1) (v := ?vf1) rfl (by kernel_rfl) (by kernel_rfl) (by kernel_rfl) (by kernel_rfl) (by kernel_rfl) (fun _ _ _ h => h) (Or.inl ⟨(by rfl), ?hyf1⟩) (Below.drew1 _) ?restf1
    case hyf1 =>
      intro W hW
      obtain ⟨z0, z1⟩ := box1N (box_on QO.out hW)
      go_simp
      exact rfl
    simp only [List.getElem_toArray, List.getElem_cons_succ, List.getElem_cons_zero, Act.put, List.setIfInBounds_toArray, List.set_cons_zero, List.set_cons_succ]
    refine but_take (f := 13) (i := 2) (v := ?vf2) rfl (by kernel_rfl) (by kernel_rfl) (by kernel_rfl) (by kernel_rfl) (by kernel_rfl) (fun _ _ _ h => h) (Or.inl ⟨(by rfl), ?hyf2⟩) (Below.drew1 _) ?restf2
    case hyf2 =>
      intro W hW
      go_simp
      exact rfl
    simp only [List.getElem_toArray, List.getElem_cons_succ, List.getElem_cons_zero, Act.put, List.setIfInBounds_toArray, List.set_cons_zero, List.set_cons_succ]
    refine but_take (f := 13) (i := 3) (v := ?vf3) rfl (by kernel_rfl) (by kernel_rfl) (by kernel_rfl) (by kernel_rfl) (by kernel_rfl) (fun _ _ _ h => h) (Or.inl ⟨(by rfl), ?hyf3⟩) (Below.drew1 _) ?restf3
    case hyf3 =>
      intro W hW
      go_simp
      exact rfl
    simp only [List.getElem_toArray, List.getElem_cons_succ, List.getElem_cons_zero, Act.put, List.setIfInBounds_toArray, List.set_cons_zero, List.set_cons_succ]
    refine but_take (f := 13) (i := 4) (v := ?vf4) rfl (by kernel_rfl) (by kernel_rfl) (by kernel_rfl) (by kernel_rfl) (by kernel_rfl) (fun _ _ _ h => h) (Or.inl ⟨(by rfl), ?hyf4⟩) (Below.drew1 _) ?restf4
    case hyf4 =>
      intro W hW
      have hcc := (hW.cell (p := ⟨g, L, none⟩) hgl).trans C1.out
      go_simp
      exact rfl
    simp only [List.getElem_toArray, List.getElem_cons_succ, List.getElem_cons_zero, Act.put, List.setIfInBounds_toArray, List.set_cons_zero, List.set_cons_succ]
    refine but_take (f := 13) (i := 5) (v := ?vf5) rfl (by kernel_rfl) (by kernel_rfl) (by kernel_rfl) (by kernel_rfl) (by kernel_rfl) (fun _ _ _ h => h) (Or.inl ⟨(by rfl), ?hyf5⟩) (Below.drew1 _) ?restf5
    case hyf5 =>
      intro W hW
      go_simp
      exact rfl
    simp only [List.getElem_toArray, List.getElem_cons_succ, List.getElem_cons_zero, Act.put, List.setIfInBounds_toArray, List.set_cons_zero, List.set_cons_succ]
    refine but_take (f := 13) (i := 6) (v := ?vf6) rfl (by kernel_rfl) (by kernel_rfl) (by kernel_rfl) (by kernel_rfl) (by kernel_rfl) (fun _ _ _ h => h) (Or.inl ⟨(by rfl), ?hyf6⟩) (Below.drew1 _) ?restf6
    case hyf6 =>
      intro W hW
      obtain ⟨k0, k1, k2, k3, k4, k5⟩ := box5 (box_on QK.out hW)
      go_simp
      exact rfl
    simp only [List.getElem_toArray, List.getElem_cons_succ, List.getElem_cons_zero, Act.put, List.setIfInBounds_toArray, List.set_cons_zero, List.set_cons_succ]
    refine but_take (f := 13) (i := 7) (v := ?vf7) rfl (by kernel_rfl) (by kernel_rfl) (by kernel_rfl) (by kernel_rfl) (by kernel_rfl) (fun _ _ _ h => h) (Or.inl ⟨(by rfl), ?hyf7⟩) (Below.drew1 _) ?restf7
    case hyf7 =>
      intro W hW
      go_simp
      exact rfl
    simp only [List.getElem_toArray, List.getElem_cons_succ, List.getElem_cons_zero, Act.put, List.setIfInBounds_toArray, List.set_cons_zero, List.set_cons_succ]
    refine but_take (f := 13) (i := 8) (v := ?vf8) rfl (by kernel_rfl) (by kernel_rfl) (by kernel_rfl) (by kernel_rfl) (by kernel_rfl) (fun _ _ _ h => h) (Or.inl ⟨(by rfl), ?hyf8⟩) (Below.drew1 _) ?restf8
    case hyf8 =>
      intro W hW
      obtain ⟨k0, k1, k2, k3, k4, k5⟩ := box5 (box_on QK.out hW)
      go_simp
      exact rfl
    simp only [List.getElem_toArray, List.getElem_cons_succ, List.getElem_cons_zero, Act.put, List.setIfInBounds_toArray, List.set_cons_zero, List.set_cons_succ]
    refine but_run (i := 9) (by kernel_rfl) rfl (by rfl) ?_
    simp only [List.getElem_toArray, List.getElem_cons_succ, List.getElem_cons_zero]
    intro K HK
    go_wp2_with fail
    refine (HA.out _ ns[L] x.a x.b _ (R1'.out.on (Below.drew1 _)) (by omega)).mono ?_
    rintro r Vf1 ⟨rfl, hbf1⟩
    rw [HY.out]
    generalize (atK ns[L] x.a x.b).getD zK = zz
    go_wp2_with fail
    have hSf1 : (fun V => Below W2.heap.size W2 V) Vf1 := bstep (Below.drew1 _) hbf1
    refine HK.out _ _ (fun _ => hSf1) ?_
    clear HK
    refine but_take (f := 13) (i := 10) (v := ?vf10) rfl (by kernel_rfl) (by kernel_rfl) (by kernel_rfl) (by kernel_rfl) (by kernel_rfl) (fun _ _ _ h => h) (Or.inl ⟨(by rfl), ?hyf10⟩) hSf1 ?restf10
    case hyf10 =>
      intro W hW
      go_simp
      exact rfl
    simp only [List.getElem_toArray, List.getElem_cons_succ, List.getElem_cons_zero, Act.put, List.setIfInBounds_toArray, List.set_cons_zero, List.set_cons_succ]
    refine but_take (f := 13) (i := 11) (v := ?vf11) rfl (by kernel_rfl) (by kernel_rfl) (by kernel_rfl) (by kernel_rfl) (by kernel_rfl) (fun _ _ _ h => h) (Or.inl ⟨(by rfl), ?hyf11⟩) hSf1 ?restf11
    case hyf11 =>
      intro W hW
      go_simp
      exact rfl
    simp only [List.getElem_toArray, List.getElem_cons_succ, List.getElem_cons_zero, Act.put, List.setIfInBounds_toArray, List.set_cons_zero, List.set_cons_succ]
    refine but_take (f := 13) (i := 12) (v := ?vf12) rfl (by kernel_rfl) (by kernel_rfl) (by kernel_rfl) (by kernel_rfl) (by kernel_rfl) (fun _ _ _ h => h) (Or.inl ⟨(by rfl), ?hyf12⟩) hSf1 ?restf12
    case hyf12 =>
      intro W hW
      go_simp
      exact rfl
    simp only [List.getElem_toArray, List.getElem_cons_succ, List.getElem_cons_zero, Act.put, List.setIfInBounds_toArray, List.set_cons_zero, List.set_cons_succ]
    refine but_run (i := 13) (by kernel_rfl) rfl (by rfl) ?_
    simp only [List.getElem_toArray, List.getElem_cons_succ, List.getElem_cons_zero]
    intro K HK
    go_wp2_with fail
    refine HK.out _ _ (fun h => absurd rfl h) ?_
    clear HK
    refine but_done (by kernel_rfl) ?_
    clear z0 z1 HA
    replace QN := Lib.hid (box_on QN.out hSf1)
    replace QK := Lib.hid (box_on QK.out hSf1)
    replace QR := Lib.hid (box_on QR.out hSf1)
    replace QO := Lib.hid (box_on QO.out hSf1)
    replace NO := Lib.hid (NO.out.on hSf1)
    replace BBW := Lib.hid (bstep BBW.out hSf1)
    have hzV1 := hSf1.size
    have hgl1 : g < Vf1.heap.size := Nat.lt_of_lt_of_le hgl hSf1.size
    replace C1 := Lib.hid ((hSf1.cell (p := ⟨g, L, none⟩) hgl).trans C1.out)
    replace R1' := Lib.hid (R1'.out.on hSf1)
    clear hSf1 hbf1 hgl
    have hgl := hgl1
    clear hgl1
    obtain ⟨z0, z1⟩ := box1N QO.out
    have c1 := C1.out
    obtain ⟨D, hD⟩ : ∃ D, decide ((ns[L].length : Int) < 4) = D := ⟨_, rfl⟩
    have hD2 : decide (ns[L].length < 4) = D := by rw [← hD]; congr 1; simp; omega
    rw [hD2] at HLay
    clear hD2
    obtain ⟨T, hT⟩ : ∃ T, (Y || D) = T := ⟨_, rfl⟩
    rw [hT] at HLay
    have HT := Lib.hid hT
    clear hT
    cases T
    · have hy0 : Y = false := by have := HT.out; cases Y <;> simp_all
      have hd0 : D = false := by have := HT.out; cases D <;> simp_all
      subst hy0 hd0
      replace HLay := Lib.hid (show ns ++ [[x]] = LY from HLay.out)
      go_upto_region 8 with (fail)
      clear z0 z1 c1 hD HT
      obtain ⟨xs, hr, ho, hne⟩ := NO.out
      obtain ⟨k0, k1, k2, k3, k4, k5⟩ := box5 QK.out
      obtain ⟨z0, z1⟩ := box1N QO.out
      have AT := Lib.hid (At.lit1n (Vf1.alloc (.cells #[.int .i64 x.a, .int .i64 x.b, .int .i64 x.c, .int .i64 x.d, .int .i64 x.e] 29)) (.slice (some ⟨Vf1.heap.size, 0, none⟩) 1 1) 36 (n := Vf1.heap.size + 1) (by simp))
      have HRW := Lib.hid (row_on hr (bal2 Vf1 (.cells #[.int .i64 x.a, .int .i64 x.b, .int .i64 x.c, .int .i64 x.d, .int .i64 x.e] 29) (.cells #[.slice (some ⟨Vf1.heap.size, 0, none⟩) 1 1] 36)))
      have HR0 := Lib.hid hr
      have HO0 := Lib.hid ho
      have HNE := Lib.hid hne
      clear hr ho hne
      go_wp2_with (at_builtin; refine wpList_appV _ rfl (.tmp 57) (.tmp 60) 69 36 1 24 (.slice none 0 0) rfl Tryz.underlying69 (by kernel_rfl) rfl (by omega) (by omega) W.heap.size ns.length _ xs rfl HRW.out (some ⟨Vf1.heap.size + 1, 0, none⟩) 1 1 [.slice (some ⟨Vf1.heap.size, 0, none⟩) 1 1] rfl rfl AT.out (by simp [Value.oneCell']) (by first | omega | (simp; done)) (by have := BBW.out.size; simp; omega) ?_; intro v8 w8 o8 g8 n8 at8; clear z0 z1 k0 k1 k2 k3 k4 k5; have P8 := Lib.hid (box_grown (box_on QO.out (bal2 Vf1 (.cells #[.int .i64 x.a, .int .i64 x.b, .int .i64 x.c, .int .i64 x.d, .int .i64 x.e] 29) (.cells #[.slice (some ⟨Vf1.heap.size, 0, none⟩) 1 1] 36))) g8 HNE.out); have P9 := Lib.hid (box_grown (box_on QR.out (bal2 Vf1 (.cells #[.int .i64 x.a, .int .i64 x.b, .int .i64 x.c, .int .i64 x.d, .int .i64 x.e] 29) (.cells #[.slice (some ⟨Vf1.heap.size, 0, none⟩) 1 1] 36))) g8 (row_ne HR0.out (by omega))); have G8 := Lib.hid g8; have O8 := Lib.hid o8; have AT8 := Lib.hid at8; obtain ⟨gv, cv, rfl⟩ := row_shape o8 (by omega); obtain ⟨z0, z1⟩ := box1N P8.out; obtain ⟨y0, y1⟩ := box1N P9.out; clear o8 g8 n8 at8 HRW)
      have hN := NOwn.app HR0.out HO0.out HNE.out (by omega) (by have := BBW.out.size; omega) O8.out G8.out AT8.out
      have hb8 : Below W.heap.size W w8 := (BBW.out.trans ((bal2 _ _ _).mono BBW.out.size)).grown G8.out (by have := BBW.out.size; simp; omega) (fun k e => (row_lt HR0.out k e).2)
      have P7 := Lib.hid (box_far (j := 0) (u := .slice (some ⟨gv, 0, none⟩) (ns.length + 1) cv) (box_grown (box_on QN.out (bal2 Vf1 (.cells #[.int .i64 x.a, .int .i64 x.b, .int .i64 x.c, .int .i64 x.d, .int .i64 x.e] 29) (.cells #[.slice (some ⟨Vf1.heap.size, 0, none⟩) 1 1] 36))) G8.out (row_ne HR0.out (by omega))) (show w.heap.size ≠ w1.heap.size by omega))
      have P6 := Lib.hid (box_far (j := 0) (u := .slice (some ⟨gv, 0, none⟩) (ns.length + 1) cv) (box_grown (box_on QK.out (bal2 Vf1 (.cells #[.int .i64 x.a, .int .i64 x.b, .int .i64 x.c, .int .i64 x.d, .int .i64 x.e] 29) (.cells #[.slice (some ⟨Vf1.heap.size, 0, none⟩) 1 1] 36))) G8.out (row_ne HR0.out (by omega))) (show w.heap.size + 1 ≠ w1.heap.size by omega))
      have P5 := Lib.hid (box_far (j := 0) (u := .slice (some ⟨gv, 0, none⟩) (ns.length + 1) cv) P9.out (show w.heap.size + 1 + 1 ≠ w1.heap.size by omega))
      have P4 := Lib.hid (box_set (i := 0) (u := .slice (some ⟨gv, 0, none⟩) (ns.length + 1) cv) P8.out)
      have OL := Lib.hid hN.owns
      have HB8 := Lib.hid (hb8.setCell (p := ⟨w1.heap.size, 0, none⟩) (show W.heap.size ≤ w1.heap.size by omega) (.slice (some ⟨gv, 0, none⟩) (ns.length + 1) cv))
      have hlc : (ns ++ [[x]]).length = ns.length + 1 := by simp
      rw [← hlc, HLay.out] at OL HB8 P4 P5 P6 P7
      rw [← hlc, HLay.out]
      clear hlc hN hb8 QN QK QR QO NO BBW P8 P9 G8 O8 AT8 HR0 HO0 HNE z0 z1 y0 y1 AT
      have QN := P7
      have QK := P6
      have QR := P5
      have QO := P4
      have BBW := HB8
      clear P7 P6 P5 P4 HB8
      generalize w8.setCell ⟨w1.heap.size, 0, none⟩ (.slice (some ⟨gv, 0, none⟩) LY.length cv) = W9 at *
      obtain ⟨z0, z1⟩ := box1N QO.out
      have hQV := BBW.out.size
      skip
      refine (specNodeOk_any _ LY _ OL.out.reads HSL.out).mono ?_
      rintro r w3b ⟨rfl, b3⟩
      rw [HR1.out]
      replace OL := Lib.hid (OL.out.on b3)
      replace QO := Lib.hid (box_on QO.out b3)
      replace QN := Lib.hid (box_on QN.out b3)
      replace QK := Lib.hid (box_on QK.out b3)
      replace QR := Lib.hid (box_on QR.out b3)
      replace BBW := Lib.hid (bstep BBW.out b3)
      have hb3 := b3.size
      clear b3 z0 z1
      cases R1
      · have P2' := Lib.hid (P2.out rfl)
        have P3' := Lib.hid (P3.out rfl)
        clear P1 P2 P3 HR1 OL QO
        go_upto_region 11 with (fail)
        refine but_begin (f := 5) (S := fun V => Below w3b.heap.size w3b V) (by kernel_rfl) ?_
        refine but_take (f := 5) (i := 0) (v := ?vrb0) rfl (by kernel_rfl) (by kernel_rfl) (by kernel_rfl) (by kernel_rfl) (by kernel_rfl) (fun _ _ _ h => h) (Or.inl ⟨(by rfl), ?hyrb0⟩) (Below.drew1 _) ?restrb0
        case hyrb0 =>
          intro W hW
          obtain ⟨x0, x1⟩ := box1N (box_on QN.out hW)
          go_simp
          exact rfl
        simp only [List.getElem_toArray, List.getElem_cons_succ, List.getElem_cons_zero, Act.put, List.setIfInBounds_toArray, List.set_cons_zero, List.set_cons_succ]
        refine but_take (f := 5) (i := 2) (v := ?vrb2) rfl (by kernel_rfl) (by kernel_rfl) (by kernel_rfl) (by kernel_rfl) (by kernel_rfl) (fun _ _ _ h => h) (Or.inl ⟨(by rfl), ?hyrb2⟩) (Below.drew1 _) ?restrb2
        case hyrb2 =>
          intro W hW
          obtain ⟨k0, k1, k2, k3, k4, k5⟩ := box5 (box_on QK.out hW)
          go_simp
          exact rfl
        simp only [List.getElem_toArray, List.getElem_cons_succ, List.getElem_cons_zero, Act.put, List.setIfInBounds_toArray, List.set_cons_zero, List.set_cons_succ]
        refine but_run (i := 1) (by kernel_rfl) rfl (by rfl) ?_
        simp only [List.getElem_toArray, List.getElem_cons_succ, List.getElem_cons_zero]
        intro K HK
        go_wp2_with fail
        refine (specNodeKeys_any _ ns _ (HV.out.on (bstep BBW.out (Below.drew1 _))) h1 h2).mono ?_
        rintro r Vrb1 ⟨v1, rfl, o1, hbrb1⟩
        rw [HKL.out] at o1
        obtain ⟨A1, c1, rfl, _, _⟩ := o1.shape
        go_wp2_with fail
        have hSrb1 : (fun V => Below w3b.heap.size w3b V) Vrb1 := bstep (Below.drew1 _) hbrb1
        refine HK.out _ _ (fun _ => hSrb1) ?_
        clear HK
        have OC := Lib.hid o1
        clear o1
        refine but_run (i := 3) (by kernel_rfl) rfl (by rfl) ?_
        simp only [List.getElem_toArray, List.getElem_cons_succ, List.getElem_cons_zero]
        intro K HK
        go_wp2_with fail
        refine (HI.out _ KL x _ OC.out.owns.reads (by omega)).mono ?_
        rintro r Vrb2 ⟨v3, rfl, o3, hbrb2⟩
        rw [HPL.out] at o3
        obtain ⟨A3, c3, rfl, _, _⟩ := o3.shape
        go_wp2_with fail
        have hSrb2 : (fun V => Below w3b.heap.size w3b V) Vrb2 := bstep hSrb1 hbrb2
        refine HK.out _ _ (fun _ => hSrb2) ?_
        clear HK
        replace OC := Lib.hid o3
        clear o3
        refine but_run (i := 4) (by kernel_rfl) rfl (by rfl) ?_
        simp only [List.getElem_toArray, List.getElem_cons_succ, List.getElem_cons_zero]
        intro K HK
        go_wp2_with fail
        refine (specDrop_any _ PL _ OC.out.owns.reads (by omega)).mono ?_
        rintro r Vrb3 ⟨v4, rfl, o4, hbrb3⟩
        rw [HDL.out] at o4
        obtain ⟨A4, c4, rfl, _, _⟩ := o4.shape
        go_wp2_with fail
        have hSrb3 : (fun V => Below w3b.heap.size w3b V) Vrb3 := bstep hSrb2 hbrb3
        refine HK.out _ _ (fun _ => hSrb3) ?_
        clear HK
        replace OC := Lib.hid o4
        clear o4
        refine but_run (i := 5) (by kernel_rfl) rfl (by rfl) ?_
        simp only [List.getElem_toArray, List.getElem_cons_succ, List.getElem_cons_zero]
        intro K HK
        go_wp2_with fail
        refine HK.out _ _ (fun h => absurd rfl h) ?_
        clear HK
        refine but_done (by kernel_rfl) ?_
        skip
        have OD := Lib.hid OC.out.owns
        replace QN := Lib.hid (box_on QN.out hSrb3)
        replace QR := Lib.hid (box_on QR.out hSrb3)
        replace BBW := Lib.hid (bstep BBW.out hSrb3)
        clear OC QK
        by_cases h8 : 8 < DL.length
        · have d8 : decide ((8 : Int) < (DL.length : Int)) = true := decide_eq_true (by omega)
          have hP := P3'.out (HLONG.out h8)
          have HP := Lib.hid hP
          clear hP P2' P3' HR2 HLONG h8
          obtain ⟨x0, x1⟩ := box1N QN.out
          go_wp2_with fail
          refine (l5Copy_any _ ns _ (HV.out.on BBW.out) HS.out).mono ?_
          rintro r w6 ⟨v6, rfl, o6, b6⟩
          obtain ⟨A6, c6, rfl, _, _⟩ := o6.reads.lenN
          have hb6 := BBW.out.size
          have O6 := Lib.hid o6
          have B6 := Lib.hid (bstep (bstep HB.out BBW.out) b6)
          clear x0 x1
          obtain ⟨y0, y1⟩ := box1N (box_on QR.out b6)
          clear o6 b6
          go_wp2
          refine bodyPost_ret (v := .tuple #[.agg #[.slice A6 ns.length c6], .bool false]) (by simp [results, Tryz.results47, go_sem, y0, y1]) rfl ⟨_, by rw [HP.out.2], ?_, ?_⟩
          · rw [HP.out.1]
            exact (O6.out.setFar (by omega)).mono (fun b hb => by omega)
          · exact B6.out.setCell (p := ⟨w.heap.size + 1 + 1, 0, none⟩) (show w.heap.size ≤ w.heap.size + 1 + 1 by omega) _
        · have d8 : decide ((8 : Int) < (DL.length : Int)) = false := decide_eq_false (by omega)
          clear h8 HLONG
          go_wp2_with fail
          refine (specNodeNew_any _ DL _ OD.out.reads (by omega)).mono ?_
          rintro r w5 ⟨v5, rfl, o5, b5⟩
          rw [HNQ.out] at o5
          obtain ⟨A5, c5, rfl, _, _⟩ := o5.reads.lenN
          replace QN := Lib.hid (box_on QN.out b5)
          replace QR := Lib.hid (box_on QR.out b5)
          replace OD := Lib.hid (OD.out.on b5)
          replace BBW := Lib.hid (bstep BBW.out b5)
          have O5 := Lib.hid o5
          clear o5 b5
          go_wp2_with fail
          refine (specNodeOk_any _ NQ _ O5.out.reads HSQ.out).mono ?_
          rintro r w7 ⟨rfl, b7⟩
          rw [HR2.out]
          replace QN := Lib.hid (box_on QN.out b7)
          replace QR := Lib.hid (box_on QR.out b7)
          replace OD := Lib.hid (OD.out.on b7)
          replace BBW := Lib.hid (bstep BBW.out b7)
          clear b7 O5 d8
          cases R2
          · have hP := P3'.out rfl
            have HP := Lib.hid hP
            clear hP P2' P3' HR2
            obtain ⟨x0, x1⟩ := box1N QN.out
            go_wp2_with fail
            refine (l5Copy_any _ ns _ (HV.out.on BBW.out) HS.out).mono ?_
            rintro r w6 ⟨v6, rfl, o6, b6⟩
            obtain ⟨A6, c6, rfl, _, _⟩ := o6.reads.lenN
            have hb6 := BBW.out.size
            have O6 := Lib.hid o6
            have B6 := Lib.hid (bstep (bstep HB.out BBW.out) b6)
            clear x0 x1
            obtain ⟨y0, y1⟩ := box1N (box_on QR.out b6)
            clear o6 b6
            go_wp2
            refine bodyPost_ret (v := .tuple #[.agg #[.slice A6 ns.length c6], .bool false]) (by simp [results, Tryz.results47, go_sem, y0, y1]) rfl ⟨_, by rw [HP.out.2], ?_, ?_⟩
            · rw [HP.out.1]
              exact (O6.out.setFar (by omega)).mono (fun b hb => by omega)
            · exact B6.out.setCell (p := ⟨w.heap.size + 1 + 1, 0, none⟩) (show w.heap.size ≤ w.heap.size + 1 + 1 by omega) _
          · have hP := P2'.out rfl
            have HP := Lib.hid hP
            clear hP P2' P3' HR2
            go_wp2_with fail
            refine (specNodeNew_any _ DL _ OD.out.reads (by omega)).mono ?_
            rintro r w8 ⟨v8, rfl, o8, b8⟩
            rw [HNQ.out] at o8
            obtain ⟨A8, c8, rfl, _, _⟩ := o8.reads.lenN
            have hb6 := BBW.out.size
            have O6 := Lib.hid o8
            have B6 := Lib.hid (bstep (bstep HB.out BBW.out) b8)
            obtain ⟨y0, y1⟩ := box1N (box_on QR.out b8)
            clear o8 b8
            go_wp2
            refine bodyPost_ret (v := .tuple #[.agg #[.slice A8 NQ.length c8], .bool true]) (by simp [results, Tryz.results47, go_sem, y0, y1]) rfl ⟨_, by rw [HP.out.2], ?_, ?_⟩
            · rw [HP.out.1]
              exact (O6.out.setFar (by omega)).mono (fun b hb => by omega)
            · exact B6.out.setCell (p := ⟨w.heap.size + 1 + 1, 0, none⟩) (show w.heap.size ≤ w.heap.size + 1 + 1 by omega) _
      · have hP := P1.out rfl
        have HP := Lib.hid hP
        clear hP P1 P2 P3 HR1
        obtain ⟨z0, z1⟩ := box1N QO.out
        obtain ⟨y0, y1⟩ := box1N QR.out
        have B6 := Lib.hid (bstep HB.out BBW.out)
        go_wp2
        refine bodyPost_ret (v := .tuple #[.agg #[.slice (some ⟨gv, 0, none⟩) LY.length cv], .bool true]) (by simp [results, Tryz.results47, go_sem, y0, y1]) rfl ⟨_, by rw [HP.out.2], ?_, ?_⟩
        · rw [HP.out.1]
          exact (OL.out.setFar (fun h => by have := h.1; omega)).mono (fun b hb => by have := hb.1; omega)
        · exact B6.out.setCell (p := ⟨w.heap.size + 1 + 1, 0, none⟩) (show w.heap.size ≤ w.heap.size + 1 + 1 by omega) _
    · replace HLay := Lib.hid (show ns.set L (putK ns[L] x) = LY from HLay.out)
      have hyd : D = true ∨ (D = false ∧ Y = true) := by have := HT.out; cases D <;> simp_all
      have hcut2 : Hid True := Lib.hid trivial
      go_upto_region 6 with (fail)
      go_cut [44] (fun s44 wx => s44 = .bool true ∧ Vf1 = wx)
      case first =>
        rcases hyd with rfl | ⟨rfl, rfl⟩
        all_goals
          go_wp2_with fail
          go_meet
          exact ⟨rfl, rfl⟩
      case rest =>
        obtain ⟨rfl, rfl⟩ := hcut
        clear z0 z1 c1 hD HT hyd hcut2
        go_upto_region 7 with (fail)
        refine but_begin (f := 11) (S := fun V => Below Vf1.heap.size Vf1 V) (by kernel_rfl) ?_
        refine but_take (f := 11) (i := 0) (v := ?vh0) rfl (by kernel_rfl) (by kernel_rfl) (by kernel_rfl) (by kernel_rfl) (by kernel_rfl) (fun _ _ _ h => h) (Or.inl ⟨(by rfl), ?hyh0⟩) (Below.drew1 _) ?resth0
        case hyh0 =>
          intro W hW
          go_simp
          exact rfl
        simp only [List.getElem_toArray, List.getElem_cons_succ, List.getElem_cons_zero, Act.put, List.setIfInBounds_toArray, List.set_cons_zero, List.set_cons_succ]
        refine but_take (f := 11) (i := 1) (v := ?vh1) rfl (by kernel_rfl) (by kernel_rfl) (by kernel_rfl) (by kernel_rfl) (by kernel_rfl) (fun _ _ _ h => h) (Or.inl ⟨(by rfl), ?hyh1⟩) (Below.drew1 _) ?resth1
        case hyh1 =>
          intro W hW
          obtain ⟨z0, z1⟩ := box1N (box_on QO.out hW)
          go_simp
          exact rfl
        simp only [List.getElem_toArray, List.getElem_cons_succ, List.getElem_cons_zero, Act.put, List.setIfInBounds_toArray, List.set_cons_zero, List.set_cons_succ]
        refine but_take (f := 11) (i := 2) (v := ?vh2) rfl (by kernel_rfl) (by kernel_rfl) (by kernel_rfl) (by kernel_rfl) (by kernel_rfl) (fun _ _ _ h => h) (Or.inl ⟨(by rfl), ?hyh2⟩) (Below.drew1 _) ?resth2
        case hyh2 =>
          intro W hW
          go_simp
          exact rfl
        simp only [List.getElem_toArray, List.getElem_cons_succ, List.getElem_cons_zero, Act.put, List.setIfInBounds_toArray, List.set_cons_zero, List.set_cons_succ]
        refine but_take (f := 11) (i := 3) (v := ?vh3) rfl (by kernel_rfl) (by kernel_rfl) (by kernel_rfl) (by kernel_rfl) (by kernel_rfl) (fun _ _ _ h => h) (Or.inl ⟨(by rfl), ?hyh3⟩) (Below.drew1 _) ?resth3
        case hyh3 =>
          intro W hW
          go_simp
          exact rfl
        simp only [List.getElem_toArray, List.getElem_cons_succ, List.getElem_cons_zero, Act.put, List.setIfInBounds_toArray, List.set_cons_zero, List.set_cons_succ]
        refine but_take (f := 11) (i := 4) (v := ?vh4) rfl (by kernel_rfl) (by kernel_rfl) (by kernel_rfl) (by kernel_rfl) (by kernel_rfl) (fun _ _ _ h => h) (Or.inl ⟨(by rfl), ?hyh4⟩) (Below.drew1 _) ?resth4
        case hyh4 =>
          intro W hW
          obtain ⟨z0, z1⟩ := box1N (box_on QO.out hW)
          go_simp
          exact rfl
        simp only [List.getElem_toArray, List.getElem_cons_succ, List.getElem_cons_zero, Act.put, List.setIfInBounds_toArray, List.set_cons_zero, List.set_cons_succ]
        refine but_take (f := 11) (i := 5) (v := ?vh5) rfl (by kernel_rfl) (by kernel_rfl) (by kernel_rfl) (by kernel_rfl) (by kernel_rfl) (fun _ _ _ h => h) (Or.inl ⟨(by rfl), ?hyh5⟩) (Below.drew1 _) ?resth5
        case hyh5 =>
          intro W hW
          go_simp
          exact rfl
        simp only [List.getElem_toArray, List.getElem_cons_succ, List.getElem_cons_zero, Act.put, List.setIfInBounds_toArray, List.set_cons_zero, List.set_cons_succ]
        refine but_take (f := 11) (i := 6) (v := ?vh6) rfl (by kernel_rfl) (by kernel_rfl) (by kernel_rfl) (by kernel_rfl) (by kernel_rfl) (fun _ _ _ h => h) (Or.inl ⟨(by rfl), ?hyh6⟩) (Below.drew1 _) ?resth6
        case hyh6 =>
          intro W hW
          go_simp
          exact rfl
        simp only [List.getElem_toArray, List.getElem_cons_succ, List.getElem_cons_zero, Act.put, List.setIfInBounds_toArray, List.set_cons_zero, List.set_cons_succ]
        refine but_take (f := 11) (i := 7) (v := ?vh7) rfl (by kernel_rfl) (by kernel_rfl) (by kernel_rfl) (by kernel_rfl) (by kernel_rfl) (fun _ _ _ h => h) (Or.inl ⟨(by rfl), ?hyh7⟩) (Below.drew1 _) ?resth7
        case hyh7 =>
          intro W hW
          have hcc := (hW.cell (p := ⟨g, L, none⟩) hgl).trans C1.out
          go_simp
          exact rfl
        simp only [List.getElem_toArray, List.getElem_cons_succ, List.getElem_cons_zero, Act.put, List.setIfInBounds_toArray, List.set_cons_zero, List.set_cons_succ]
        refine but_take (f := 11) (i := 8) (v := ?vh8) rfl (by kernel_rfl) (by kernel_rfl) (by kernel_rfl) (by kernel_rfl) (by kernel_rfl) (fun _ _ _ h => h) (Or.inl ⟨(by rfl), ?hyh8⟩) (Below.drew1 _) ?resth8
        case hyh8 =>
          intro W hW
          obtain ⟨k0, k1, k2, k3, k4, k5⟩ := box5 (box_on QK.out hW)
          go_simp
          exact rfl
        simp only [List.getElem_toArray, List.getElem_cons_succ, List.getElem_cons_zero, Act.put, List.setIfInBounds_toArray, List.set_cons_zero, List.set_cons_succ]
        refine but_run (i := 9) (by kernel_rfl) rfl (by rfl) ?_
        simp only [List.getElem_toArray, List.getElem_cons_succ, List.getElem_cons_zero]
        intro K HK
        go_wp2_with fail
        refine (HI.out _ ns[L] x _ (R1'.out.on (Below.drew1 _)) (by omega)).mono ?_
        rintro r Vh1 ⟨v9, rfl, o9, hbh1⟩
        obtain ⟨A9, c9, rfl, _, _⟩ := o9.shape
        go_wp2_with fail
        have hSh1 : (fun V => Below Vf1.heap.size Vf1 V) Vh1 := bstep (Below.drew1 _) hbh1
        refine HK.out _ _ (fun _ => hSh1) ?_
        clear HK
        obtain ⟨g', cap', A2', c2', hu', _, _, _, cc, ff, _⟩ := (NO.out.on hSh1).elem hlt
        cases hu'
        have fg := ff L
        refine but_take (f := 11) (i := 10) (v := ?vh10) rfl (by kernel_rfl) (by kernel_rfl) (by kernel_rfl) (by kernel_rfl) (by kernel_rfl) (fun _ _ _ h => h) (Or.inl ⟨(by rfl), ?hyh10⟩) hSh1 ?resth10
        case hyh10 =>
          intro W hW
          go_simp
          exact rfl
        simp only [List.getElem_toArray, List.getElem_cons_succ, List.getElem_cons_zero, Act.put, List.setIfInBounds_toArray, List.set_cons_zero, List.set_cons_succ]
        refine but_run (i := 11) (by kernel_rfl) rfl (by rfl) ?_
        simp only [List.getElem_toArray, List.getElem_cons_succ, List.getElem_cons_zero]
        intro K HK
        go_wp2_with fail
        refine HK.out _ _ (fun h => absurd rfl h) ?_
        clear HK
        refine but_done (by kernel_rfl) ?_
        skip
        obtain ⟨l9, hl9⟩ : ∃ l9, putK ns[L] x = l9 := ⟨_, rfl⟩
        rw [hl9] at o9
        have N2 := NOwn.put (i := L) NO.out hlt hSh1 (o9.mono (Nat.le_refl _)) (by omega) (by have := BBW.out.size; omega)
        rw [← hl9] at N2
        have P8 := Lib.hid (box_far (j := L) (u := .slice A9 (putK ns[L] x).length c9) (box_on QO.out hSh1) (fun e => hgo e.symm))
        have P9 := Lib.hid (box_far (j := L) (u := .slice A9 (putK ns[L] x).length c9) (box_on QR.out hSh1) (show w.heap.size + 1 + 1 ≠ g by omega))
        have P7 := Lib.hid (box_far (j := L) (u := .slice A9 (putK ns[L] x).length c9) (box_on QN.out hSh1) (show w.heap.size ≠ g by omega))
        have P6 := Lib.hid (box_far (j := L) (u := .slice A9 (putK ns[L] x).length c9) (box_on QK.out hSh1) (show w.heap.size + 1 ≠ g by omega))
        have HB8 := Lib.hid ((bstep BBW.out hSh1).setCell (p := ⟨g, L, none⟩) (show W.heap.size ≤ g by omega) (.slice A9 (putK ns[L] x).length c9))
        have hln : ns.length = LY.length := by rw [← HLay.out]; simp
        have OL := Lib.hid N2.owns
        rw [HLay.out] at OL
        rw [hln] at P8 OL
        clear hl9 o9 hSh1 cc ff fg N2 QN QK QR QO NO BBW
        have QN := P7
        have QK := P6
        have QR := P9
        have QO := P8
        have BBW := HB8
        clear P7 P6 P9 P8 HB8 hln
        go_upto_region 9 with (fail)
        generalize Vh1.setCell ⟨g, L, none⟩ (.slice A9 (putK ns[L] x).length c9) = W9 at *
        obtain ⟨z0, z1⟩ := box1N QO.out
        have hQV := BBW.out.size
        go_wp2_with fail
        refine (specNodeOk_any _ LY _ OL.out.reads HSL.out).mono ?_
        rintro r w3c ⟨rfl, b3⟩
        rw [HR1.out]
        replace OL := Lib.hid (OL.out.on b3)
        replace QO := Lib.hid (box_on QO.out b3)
        replace QN := Lib.hid (box_on QN.out b3)
        replace QK := Lib.hid (box_on QK.out b3)
        replace QR := Lib.hid (box_on QR.out b3)
        replace BBW := Lib.hid (bstep BBW.out b3)
        have hb3 := b3.size
        clear b3 z0 z1
        cases R1
        · have P2' := Lib.hid (P2.out rfl)
          have P3' := Lib.hid (P3.out rfl)
          clear P1 P2 P3 HR1 OL QO
          go_upto_region 11 with (fail)
          refine but_begin (f := 5) (S := fun V => Below w3c.heap.size w3c V) (by kernel_rfl) ?_
          refine but_take (f := 5) (i := 0) (v := ?vrc0) rfl (by kernel_rfl) (by kernel_rfl) (by kernel_rfl) (by kernel_rfl) (by kernel_rfl) (fun _ _ _ h => h) (Or.inl ⟨(by rfl), ?hyrc0⟩) (Below.drew1 _) ?restrc0
          case hyrc0 =>
            intro W hW
            obtain ⟨x0, x1⟩ := box1N (box_on QN.out hW)
            go_simp
            exact rfl
          simp only [List.getElem_toArray, List.getElem_cons_succ, List.getElem_cons_zero, Act.put, List.setIfInBounds_toArray, List.set_cons_zero, List.set_cons_succ]
          refine but_take (f := 5) (i := 2) (v := ?vrc2) rfl (by kernel_rfl) (by kernel_rfl) (by kernel_rfl) (by kernel_rfl) (by kernel_rfl) (fun _ _ _ h => h) (Or.inl ⟨(by rfl), ?hyrc2⟩) (Below.drew1 _) ?restrc2
          case hyrc2 =>
            intro W hW
            obtain ⟨k0, k1, k2, k3, k4, k5⟩ := box5 (box_on QK.out hW)
            go_simp
            exact rfl
          simp only [List.getElem_toArray, List.getElem_cons_succ, List.getElem_cons_zero, Act.put, List.setIfInBounds_toArray, List.set_cons_zero, List.set_cons_succ]
          refine but_run (i := 1) (by kernel_rfl) rfl (by rfl) ?_
          simp only [List.getElem_toArray, List.getElem_cons_succ, List.getElem_cons_zero]
          intro K HK
          go_wp2_with fail
          refine (specNodeKeys_any _ ns _ (HV.out.on (bstep BBW.out (Below.drew1 _))) h1 h2).mono ?_
          rintro r Vrc1 ⟨v1, rfl, o1, hbrc1⟩
          rw [HKL.out] at o1
          obtain ⟨A1, c1, rfl, _, _⟩ := o1.shape
          go_wp2_with fail
          have hSrc1 : (fun V => Below w3c.heap.size w3c V) Vrc1 := bstep (Below.drew1 _) hbrc1
          refine HK.out _ _ (fun _ => hSrc1) ?_
          clear HK
          have OC := Lib.hid o1
          clear o1
          refine but_run (i := 3) (by kernel_rfl) rfl (by rfl) ?_
          simp only [List.getElem_toArray, List.getElem_cons_succ, List.getElem_cons_zero]
          intro K HK
          go_wp2_with fail
          refine (HI.out _ KL x _ OC.out.owns.reads (by omega)).mono ?_
          rintro r Vrc2 ⟨v3, rfl, o3, hbrc2⟩
          rw [HPL.out] at o3
          obtain ⟨A3, c3, rfl, _, _⟩ := o3.shape
          go_wp2_with fail
          have hSrc2 : (fun V => Below w3c.heap.size w3c V) Vrc2 := bstep hSrc1 hbrc2
          refine HK.out _ _ (fun _ => hSrc2) ?_
          clear HK
          replace OC := Lib.hid o3
          clear o3
          refine but_run (i := 4) (by kernel_rfl) rfl (by rfl) ?_
          simp only [List.getElem_toArray, List.getElem_cons_succ, List.getElem_cons_zero]
          intro K HK
          go_wp2_with fail
          refine (specDrop_any _ PL _ OC.out.owns.reads (by omega)).mono ?_
          rintro r Vrc3 ⟨v4, rfl, o4, hbrc3⟩
          rw [HDL.out] at o4
          obtain ⟨A4, c4, rfl, _, _⟩ := o4.shape
          go_wp2_with fail
          have hSrc3 : (fun V => Below w3c.heap.size w3c V) Vrc3 := bstep hSrc2 hbrc3
          refine HK.out _ _ (fun _ => hSrc3) ?_
          clear HK
          replace OC := Lib.hid o4
          clear o4
          refine but_run (i := 5) (by kernel_rfl) rfl (by rfl) ?_
          simp only [List.getElem_toArray, List.getElem_cons_succ, List.getElem_cons_zero]
          intro K HK
          go_wp2_with fail
          refine HK.out _ _ (fun h => absurd rfl h) ?_
          clear HK
          refine but_done (by kernel_rfl) ?_
          skip
          have OD := Lib.hid OC.out.owns
          replace QN := Lib.hid (box_on QN.out hSrc3)
          replace QR := Lib.hid (box_on QR.out hSrc3)
          replace BBW := Lib.hid (bstep BBW.out hSrc3)
          clear OC QK
          by_cases h8 : 8 < DL.length
          · have d8 : decide ((8 : Int) < (DL.length : Int)) = true := decide_eq_true (by omega)
            have hP := P3'.out (HLONG.out h8)
            have HP := Lib.hid hP
            clear hP P2' P3' HR2 HLONG h8
            obtain ⟨x0, x1⟩ := box1N QN.out
            go_wp2_with fail
            refine (l5Copy_any _ ns _ (HV.out.on BBW.out) HS.out).mono ?_
            rintro r w6 ⟨v6, rfl, o6, b6⟩
            obtain ⟨A6, c6, rfl, _, _⟩ := o6.reads.lenN
            have hb6 := BBW.out.size
            have O6 := Lib.hid o6
            have B6 := Lib.hid (bstep (bstep HB.out BBW.out) b6)
            clear x0 x1
            obtain ⟨y0, y1⟩ := box1N (box_on QR.out b6)
            clear o6 b6
            go_wp2
            refine bodyPost_ret (v := .tuple #[.agg #[.slice A6 ns.length c6], .bool false]) (by simp [results, Tryz.results47, go_sem, y0, y1]) rfl ⟨_, by rw [HP.out.2], ?_, ?_⟩
            · rw [HP.out.1]
              exact (O6.out.setFar (by omega)).mono (fun b hb => by omega)
            · exact B6.out.setCell (p := ⟨w.heap.size + 1 + 1, 0, none⟩) (show w.heap.size ≤ w.heap.size + 1 + 1 by omega) _
          · have d8 : decide ((8 : Int) < (DL.length : Int)) = false := decide_eq_false (by omega)
            clear h8 HLONG
            go_wp2_with fail
            refine (specNodeNew_any _ DL _ OD.out.reads (by omega)).mono ?_
            rintro r w5 ⟨v5, rfl, o5, b5⟩
            rw [HNQ.out] at o5
            obtain ⟨A5, c5, rfl, _, _⟩ := o5.reads.lenN
            replace QN := Lib.hid (box_on QN.out b5)
            replace QR := Lib.hid (box_on QR.out b5)
            replace OD := Lib.hid (OD.out.on b5)
            replace BBW := Lib.hid (bstep BBW.out b5)
            have O5 := Lib.hid o5
            clear o5 b5
            go_wp2_with fail
            refine (specNodeOk_any _ NQ _ O5.out.reads HSQ.out).mono ?_
            rintro r w7 ⟨rfl, b7⟩
            rw [HR2.out]
            replace QN := Lib.hid (box_on QN.out b7)
            replace QR := Lib.hid (box_on QR.out b7)
            replace OD := Lib.hid (OD.out.on b7)
            replace BBW := Lib.hid (bstep BBW.out b7)
            clear b7 O5 d8
            cases R2
            · have hP := P3'.out rfl
              have HP := Lib.hid hP
              clear hP P2' P3' HR2
              obtain ⟨x0, x1⟩ := box1N QN.out
              go_wp2_with fail
              refine (l5Copy_any _ ns _ (HV.out.on BBW.out) HS.out).mono ?_
              rintro r w6 ⟨v6, rfl, o6, b6⟩
              obtain ⟨A6, c6, rfl, _, _⟩ := o6.reads.lenN
              have hb6 := BBW.out.size
              have O6 := Lib.hid o6
              have B6 := Lib.hid (bstep (bstep HB.out BBW.out) b6)
              clear x0 x1
              obtain ⟨y0, y1⟩ := box1N (box_on QR.out b6)
              clear o6 b6
              go_wp2
              refine bodyPost_ret (v := .tuple #[.agg #[.slice A6 ns.length c6], .bool false]) (by simp [results, Tryz.results47, go_sem, y0, y1]) rfl ⟨_, by rw [HP.out.2], ?_, ?_⟩
              · rw [HP.out.1]
                exact (O6.out.setFar (by omega)).mono (fun b hb => by omega)
              · exact B6.out.setCell (p := ⟨w.heap.size + 1 + 1, 0, none⟩) (show w.heap.size ≤ w.heap.size + 1 + 1 by omega) _
            · have hP := P2'.out rfl
              have HP := Lib.hid hP
              clear hP P2' P3' HR2
              go_wp2_with fail
              refine (specNodeNew_any _ DL _ OD.out.reads (by omega)).mono ?_
              rintro r w8 ⟨v8, rfl, o8, b8⟩
              rw [HNQ.out] at o8
              obtain ⟨A8, c8, rfl, _, _⟩ := o8.reads.lenN
              have hb6 := BBW.out.size
              have O6 := Lib.hid o8
              have B6 := Lib.hid (bstep (bstep HB.out BBW.out) b8)
              obtain ⟨y0, y1⟩ := box1N (box_on QR.out b8)
              clear o8 b8
              go_wp2
              refine bodyPost_ret (v := .tuple #[.agg #[.slice A8 NQ.length c8], .bool true]) (by simp [results, Tryz.results47, go_sem, y0, y1]) rfl ⟨_, by rw [HP.out.2], ?_, ?_⟩
              · rw [HP.out.1]
                exact (O6.out.setFar (by omega)).mono (fun b hb => by omega)
              · exact B6.out.setCell (p := ⟨w.heap.size + 1 + 1, 0, none⟩) (show w.heap.size ≤ w.heap.size + 1 + 1 by omega) _
        · have hP := P1.out rfl
          have HP := Lib.hid hP
          clear hP P1 P2 P3 HR1
          obtain ⟨z0, z1⟩ := box1N QO.out
          obtain ⟨y0, y1⟩ := box1N QR.out
          have B6 := Lib.hid (bstep HB.out BBW.out)
          go_wp2
          refine bodyPost_ret (v := .tuple #[.agg #[.slice (some ⟨g, 0, none⟩) LY.length cu], .bool true]) (by simp [results, Tryz.results47, go_sem, y0, y1]) rfl ⟨_, by rw [HP.out.2], ?_, ?_⟩
          · rw [HP.out.1]
            exact (OL.out.setFar (fun h => by have := h.1; omega)).mono (fun b hb => by have := hb.1; omega)
          · exact B6.out.setCell (p := ⟨w.heap.size + 1 + 1, 0, none⟩) (show w.heap.size ≤ w.heap.size + 1 + 1 by omega) _
end Go.Proofs.YtkcafbdlealbpaaGreat
/- A region that draws its order, at a place where three operations may come up. No condition: a plain law. -/
namespace Go.Proofs.YtkcafbdlealbpaaGreat
open Go.RowKit
set_option maxRecDepth 100000
set_option linter.unusedSimpArgs false
set_option linter.unusedVariables false

section
variable {P : Program} {md : Region.Mode} {ops : Array Oper} {Q : Exit → Act → World → Prop} {S : World → Prop} {f : Nat}
/-- Three may come up: each is carried out. -/
theorem but_three {i j k : Nat} {oi oj ok : Oper} {n : Nat} {listed : Array Bool} {a : Act} {w : World} (hr : Region.ready md ops listed = [i, j, k]) (hoi : ops[i]? = some oi) (hoj : ops[j]? = some oj) (hok : ops[k]? = some ok) (hwi : Region.wanted oi (yielded ops a.tmps) = true) (hwj : Region.wanted oj (yielded ops a.tmps) = true) (hwk : Region.wanted ok (yielded ops a.tmps) = true)
    (h : ∀ K : Act → World → Prop, Hid (∀ a' w', (i ≠ f → S w') → anyBut P md ops Q S f n (listed.setIfInBounds i true) a' w' → K a' w') → Oper.wp P oi a w K Q)
    (h' : ∀ K : Act → World → Prop, Hid (∀ a' w', (j ≠ f → S w') → anyBut P md ops Q S f n (listed.setIfInBounds j true) a' w' → K a' w') → Oper.wp P oj a w K Q)
    (h'' : ∀ K : Act → World → Prop, Hid (∀ a' w', (k ≠ f → S w') → anyBut P md ops Q S f n (listed.setIfInBounds k true) a' w' → K a' w') → Oper.wp P ok a w K Q) : anyBut P md ops Q S f (n + 1) listed a w := by
  refine ⟨fun h0 => (by rw [h0] at hr; cases hr), fun m hm => ?_⟩
  rw [hr] at hm
  simp only [List.mem_cons, List.not_mem_nil, or_false] at hm
  rcases hm with rfl | rfl | rfl
  · have h1 := h (fun a' w' => (m ≠ f → S w') ∧ anyBut P md ops Q S f n (listed.setIfInBounds m true) a' w') (Lib.hid (fun a' w' h2 h3 => ⟨h2, h3⟩))
    unfold wpOp
    simp only [hoi, hwi, if_true]
    exact .inl h1
  · have h1 := h' (fun a' w' => (m ≠ f → S w') ∧ anyBut P md ops Q S f n (listed.setIfInBounds m true) a' w') (Lib.hid (fun a' w' h2 h3 => ⟨h2, h3⟩))
    unfold wpOp
    simp only [hoj, hwj, if_true]
    exact .inl h1
  · have h1 := h'' (fun a' w' => (m ≠ f → S w') ∧ anyBut P md ops Q S f n (listed.setIfInBounds m true) a' w') (Lib.hid (fun a' w' h2 h3 => ⟨h2, h3⟩))
    unfold wpOp
    simp only [hok, hwk, if_true]
    exact .inl h1
end
end Go.Proofs.YtkcafbdlealbpaaGreat
/- Plain lemmas for spec.TreePut. -/
namespace Go.Proofs.YtkcafbdlealbpaaGreat
open Go.RowKit
set_option maxRecDepth 100000
set_option linter.unusedSimpArgs false
set_option linter.unusedVariables false
theorem spot_ok {x : KeyD} (h : okK x = true) : 0 ≤ x.a ∧ x.a ≤ 15 ∧ 1 ≤ x.b ∧ x.b ≤ 60 ∧ spotI x.a x.b = 64 * x.a + x.b := by
  unfold okK keyOkB at h
  simp only [Bool.and_eq_true, decide_eq_true_iff] at h
  obtain ⟨⟨⟨⟨h1, h2⟩, h3⟩, h4⟩, _⟩ := h
  refine ⟨h1, h2, h3, h4, ?_⟩
  unfold spotI
  rw [show wrap64 (64 * x.a) = 64 * x.a by unfold wrap64; omega]
  unfold wrap64
  omega
theorem where_ge {lo : List Int} {s : Int} (h0 : 0 < lo.length) (h : lo.getD 0 0 ≤ s) : 0 ≤ whereK lo s := by
  have key : ∀ k, 1 ≤ k → k ≤ lo.length → 0 ≤ whereK (lo.take k) s := by
    intro k
    induction k with
    | zero => intro h1; omega
    | succ k ih =>
      intro _ hk
      rw [whereK_take (show k < lo.length by omega)]
      split
      · omega
      · rename_i hne
        rcases Nat.eq_zero_or_pos k with rfl | hp
        · rw [getD_at h0] at h; exact absurd h hne
        · exact ih hp (by omega)
  have := key lo.length h0 (Nat.le_refl _)
  rwa [List.take_length] at this
theorem reb_long {ns : List (List KeyD)} {x : KeyD} (h : FineN ns) (hx : okK x = true) (hok : putNB ns x = false) : 9 ≤ (rebK ns x).length := by
  unfold putNB at hok
  rw [Bool.or_eq_false_iff] at hok
  refine Nat.le_of_not_lt (fun hlt => ?_)
  have := new_ok (l := rebK ns x) (drop_asc ((keys_asc ns).put x)) (drop_ok (ok_put (keys_ok h) hx)) (by omega)
  rw [this] at hok
  cases hok.2
theorem fit_at {lo : List Int} {ts : List NodeD} (h : TreeP lo ts) {i : Nat} (hi : i < ts.length) : FitP lo i ts[i] := of_decide_eq_true (by have := h.2.2.2.2.2.1 i hi; rw [getD_node hi] at this; exact this)
theorem ok_small {ns : NodeD} (h : nodeOkB ns = true) : ns.length ≤ 3 ∧ sumN ns ≤ 8 := by
  unfold nodeOkB at h
  simp only [Bool.and_eq_true, decide_eq_true_iff] at h
  exact ⟨h.1.2, h.2⟩
theorem mid_eq {lo : List Int} {ts : List NodeD} {x : KeyD} {i : Nat} (h : whereK lo (spotI x.a x.b) = (i : Int)) (hi : i < ts.length) (hl : i < lo.length) :
    midK lo ts x = if putNB ts[i] x = false then (setL lo i [lo[i], spotI ((rebK ts[i] x).getD (halfK (rebK ts[i] x)) zK).a ((rebK ts[i] x).getD (halfK (rebK ts[i] x)) zK).b] (i + 1), setL ts i [nodeNewK ((rebK ts[i] x).take (halfK (rebK ts[i] x))), nodeNewK ((rebK ts[i] x).drop (halfK (rebK ts[i] x)))] (i + 1))
      else if 0 < i ∧ (nodeKeysK (putN ts[i] x)).length = 0 then (setL lo i [] (i + 1), setL ts i [] (i + 1))
      else (setL lo i [lo[i]] (i + 1), setL ts i [putN ts[i] x] (i + 1)) := by
  unfold midK
  rw [h]
  simp only [Int.toNat_natCast, getD_node hi, getD_at hl]
theorem join_inv : ∀ (n : Nat) (t : TreeD), t.1.length = t.2.length → (joinGo n t).1.length = (joinGo n t).2.length ∧ (joinGo n t).2.length ≤ t.2.length ∧ sumT (joinGo n t).2 ≤ sumT t.2 := by
  intro n
  induction n with
  | zero => intro t h; exact ⟨h, Nat.le_refl _, Nat.le_refl _⟩
  | succ n ih =>
    intro t h
    simp only [joinGo]
    split
    · rename_i hp
      have hlt := pair_lt hp
      have h1 := joinAt_len t _ hlt
      have h2 := joinAt_sum t _ hlt
      have h3 : (joinAt t (pairK t.2).toNat).1.length = (joinAt t (pairK t.2).toNat).2.length := by
        have h4 : (joinAt t (pairK t.2).toNat).1.length + 1 = t.1.length := by
          unfold joinAt
          simp
          omega
        omega
      obtain ⟨a, b, c⟩ := ih _ h3
      exact ⟨a, by omega, by omega⟩
    · exact ⟨h, Nat.le_refl _, Nat.le_refl _⟩
theorem sumT_setL (ts : List NodeD) {i j : Nat} (hij : i ≤ j) (m : List NodeD) : sumT (setL ts i m j) ≤ sumT ts + sumT m := by
  unfold setL
  rw [sumT_append, sumT_append]
  have h4 := sumT_append (ts.take j) (ts.drop j)
  rw [List.take_append_drop] at h4
  have h5 := sumT_append ((ts.take j).take i) ((ts.take j).drop i)
  rw [List.take_append_drop, List.take_take, Nat.min_eq_left hij] at h5
  omega
theorem reads_kvl {w : World} {B b off c : Nat} {l : List KeyD} (hb : b < B) (hc : l.length ≤ c) (hm : c ≤ maxLen) (h : ∀ i (hi : i < (kvl l).length), w.cell? ⟨b, off + i, none⟩ = some (kvl l)[i]) : Reads w B (.slice (some ⟨b, off, none⟩) l.length c) (keysD l) := by
  refine .row b off l.length c _ 5 (kvl l) _ hb hc hm (keys_len l) (by rw [kvl_len, keys_len]) h (fun i h1 h2 => ?_)
  have e : (l.flatMap kC)[i] = .lit (kvl l)[i] := by
    have h3 := kC_map l
    have h4 : (l.flatMap kC)[i]? = some (.lit (kvl l)[i]) := by rw [h3]; simp [h1]
    rw [List.getElem?_eq_getElem h2] at h4
    exact Option.some.inj h4
  rw [e]
  exact .lit _
theorem RowK.parts {w : World} {base : Nat} {A : Option Addr} {n c : Nat} {l : List KeyD} (h : RowK w base (.slice A n c) l) (k : Nat) (hkl : k < l.length) : ∃ g, A = some ⟨g, 0, none⟩ ∧ l.length ≤ c ∧ Reads w w.heap.size (.slice (some ⟨g, 0, none⟩) k c) (keysD (l.take k)) ∧ Reads w w.heap.size (.slice (some ⟨g, k * 5, none⟩) (l.length - k) (c - k)) (keysD (l.drop k)) ∧ Five w g (k * 5) l[k] := by
  have hr := h.owns.reads
  obtain ⟨A', c', hv, hc, hm⟩ := hr.shapeK
  cases hv
  rcases row_cases (h : w.ownsRow _ _ _ _ _ _) with ⟨_, h0, _⟩ | ⟨g, cap, hv, _, hR, _, _, _⟩
  · omega
  · cases hv
    have hkv : kvl l = kvl (l.take k) ++ kvl (l.drop k) := by rw [← kvl_append, List.take_append_drop]
    have hl1 : (kvl (l.take k)).length = k * 5 := by rw [kvl_len, List.length_take, Nat.min_eq_left (by omega)]
    have hcell : ∀ i (hi : i < (kvl l).length), w.cell? ⟨g, i, none⟩ = some (kvl l)[i] := fun i hi => hR.cell hi
    refine ⟨g, rfl, hc, ?_, ?_, ?_⟩
    · have h1 := reads_kvl (w := w) (B := w.heap.size) (b := g) (off := 0) (c := c) (l := l.take k) hR.lt (by simp; omega) hm (fun i hi => by
        rw [Nat.zero_add, hcell i (by rw [hkv, List.length_append]; omega)]
        simp only [hkv]
        rw [List.getElem_append_left hi])
      rw [show (l.take k).length = k by simp; omega] at h1
      exact h1
    · have h1 := reads_kvl (w := w) (B := w.heap.size) (b := g) (off := k * 5) (c := c - k) (l := l.drop k) hR.lt (by simp; omega) (by omega) (fun i hi => by
        rw [hcell (k * 5 + i) (by rw [hkv, List.length_append, hl1]; omega)]
        simp only [hkv]
        rw [List.getElem_append_right (by omega)]
        simp only [hl1, Nat.add_sub_cancel_left])
      rw [show (l.drop k).length = l.length - k by simp] at h1
      exact h1
    · obtain ⟨b', off', he, _, hc'⟩ := hr.keys hkl
      cases he
      have := hc' k hkl
      rw [Nat.zero_add] at this
      exact this
theorem treeP_small' {lo : List Int} {ts : List NodeD} (hp : TreeP lo ts) : lo.length ≤ 20 ∧ ts.length ≤ 20 ∧ sumT ts ≤ 220 := by
  refine ⟨by rw [hp.2.2.1]; exact hp.2.1, hp.2.1, ?_⟩
  have h1 : ∀ m, m ≤ ts.length → sumT (ts.take m) ≤ m * 11 := by
    intro m
    induction m with
    | zero => intro _; simp [sumT]
    | succ m ih =>
      intro hm
      have hlt : m < ts.length := by omega
      rw [sumT_take hlt]
      have := ok_small (fit_at hp hlt).1
      have := ih (by omega)
      omega
  have := h1 ts.length (Nat.le_refl _)
  rw [List.take_length] at this
  have := hp.2.1
  omega
/-- A call leaves a tree and a word. -/
def PutsT (w : World) (t : TreeD) (b : Bool) (e : Ending) (w' : World) : Prop := ∃ vl vn, e = .returned (.tuple #[.agg #[vl, vn], .bool b]) ∧ TreeS w' (fun b => w.heap.size ≤ b) vl vn t.1 t.2 ∧ Below w.heap.size w w'
end Go.Proofs.YtkcafbdlealbpaaGreat
