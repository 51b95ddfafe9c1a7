/- Ascending lists of keys: putting and merging keep them ascending and valid; what is found in them; which key takes precedence. No condition: plain lemmas. -/
import Derived.Test.YtncjedbdkanleaaKSetPure
namespace Go.Proofs.Ytncjedbdkanleaa
open Go.RowKit
set_option maxRecDepth 100000
set_option linter.unusedSimpArgs false
set_option linter.unusedVariables false

theorem less_irr (x : KeyD) : lessK x x = false := by simp [lessK, lessB]
theorem less_iff (x y : KeyD) : lessK x y = true ↔ (x.a < y.a ∨ (x.a = y.a ∧ x.b < y.b)) := by
  simp only [lessK, lessB]
  by_cases h : x.a = y.a
  · simp [h]
  · simp [h]
theorem spot_iff (x y : KeyD) : spotK x y = true ↔ (x.a = y.a ∧ x.b = y.b) := by simp [spotK, spotB]
theorem spotB_iff (a b c d : Int) : spotB a b c d = true ↔ (a = c ∧ b = d) := by simp [spotB]
theorem less_trans {x y z : KeyD} (h : lessK x y = true) (k : lessK y z = true) : lessK x z = true := by
  rw [less_iff] at *
  omega
theorem less_tri {x y : KeyD} (h : lessK y x = false) (k : spotK y x = false) : lessK x y = true := by
  have h' : ¬ lessK y x = true := by rw [h]; simp
  have k' : ¬ spotK y x = true := by rw [k]; simp
  rw [less_iff] at *
  rw [spot_iff] at k'
  omega
/-- Ascending. -/
abbrev Asc (l : List KeyD) : Prop := l.Pairwise (fun x y => lessK x y = true)
theorem Asc.rise {l : List KeyD} (h : Asc l) : riseB l = true := by
  refine decide_eq_true (fun i hi => ?_)
  exact List.pairwise_iff_getElem.1 h i (i + 1) (by omega) (by omega) (by omega)
theorem place_take {l : List KeyD} {k x : KeyD} (h : x ∈ l.take (placeK l k)) : lessK x k = true := by
  obtain ⟨i, hi, rfl⟩ := List.mem_take_iff_getElem.1 h
  have := List.not_of_lt_findIdx (show i < l.findIdx (fun x => !lessK x k) by unfold placeK at hi; omega)
  simpa using this
theorem place_drop {l : List KeyD} {k y : KeyD} (ha : Asc l) (h : y ∈ l.drop (placeK l k)) : lessK y k = false := by
  obtain ⟨i, hi, rfl⟩ := List.mem_drop_iff_getElem.1 h
  have hlt : placeK l k < l.length := by omega
  have h0 : lessK l[placeK l k] k = false := by
    have : (!lessK l[placeK l k] k) = true := List.findIdx_getElem (p := fun x => !lessK x k) (xs := l) (w := hlt)
    simpa using this
  by_cases hi0 : i = 0
  · subst hi0; simpa using h0
  · have h1 : lessK l[placeK l k] l[placeK l k + i] = true := List.pairwise_iff_getElem.1 ha _ _ hlt (by omega) (by omega)
    cases hc : lessK l[placeK l k + i] k with
    | false => rfl
    | true => rw [less_trans h1 hc] at h0; cases h0
theorem Asc.put {l : List KeyD} (h : Asc l) (k : KeyD) : Asc (putK l k) := by
  have hs : Asc (l.take (placeK l k) ++ l.drop (placeK l k)) := by rw [List.take_append_drop]; exact h
  rw [put_eq]
  obtain ⟨h1, h2, h3⟩ := List.pairwise_append.1 hs
  refine List.pairwise_append.2 ⟨h1, List.pairwise_cons.2 ⟨fun y hy => ?_, h2.filter _⟩, fun x hx y hy => ?_⟩
  · obtain ⟨hy1, hy2⟩ := List.mem_filter.1 hy
    exact less_tri (place_drop h hy1) (by simpa using hy2)
  · rcases List.mem_cons.1 hy with rfl | hy
    · exact place_take hx
    · exact h3 x hx y (List.mem_filter.1 hy).1
theorem ok_put {l : List KeyD} {k : KeyD} (h : l.all okK = true) (hk : okK k = true) : (putK l k).all okK = true := by
  rw [List.all_eq_true] at *
  intro x hx
  rw [put_eq] at hx
  rcases List.mem_append.1 hx with hx | hx
  · exact h x (List.mem_of_mem_take hx)
  · rcases List.mem_cons.1 hx with rfl | hx
    · exact hk
    · exact h x (List.mem_of_mem_drop (List.mem_filter.1 hx).1)
theorem at_mem {l : List KeyD} {p q : Int} {k : KeyD} (h : atK l p q = some k) : k ∈ l ∧ k.a = p ∧ k.b = q := by
  have h1 := List.mem_of_find?_eq_some h
  have h2 := List.find?_some h
  exact ⟨h1, (spotB_iff _ _ _ _).1 h2⟩
theorem at_none {l : List KeyD} {p q : Int} (h : atK l p q = none) : ∀ k ∈ l, ¬ (k.a = p ∧ k.b = q) := by
  intro k hk
  have := List.find?_eq_none.1 h k hk
  rw [spotB_iff] at this
  exact this
theorem at_uniq {l : List KeyD} (h : Asc l) {k : KeyD} (hk : k ∈ l) : atK l k.a k.b = some k := by
  induction l with
  | nil => simp at hk
  | cons x t ih =>
    obtain ⟨h1, h2⟩ := List.pairwise_cons.1 h
    unfold atK
    rw [List.find?_cons]
    rcases List.mem_cons.1 hk with rfl | hk
    · rw [(spotB_iff _ _ _ _).2 ⟨rfl, rfl⟩]
    · have hf : spotB x.a x.b k.a k.b = false := less_spot (h1 k hk)
      rw [hf]
      exact ih h2 hk
theorem at_put (l : List KeyD) (k : KeyD) (p q : Int) : atK (putK l k) p q = if k.a = p ∧ k.b = q then some k else atK l p q := by
  have hl : atK l p q = atK (l.take (placeK l k) ++ l.drop (placeK l k)) p q := by rw [List.take_append_drop]
  rw [put_eq]
  unfold atK at *
  rw [List.find?_append, List.find?_cons]
  by_cases h : k.a = p ∧ k.b = q
  · rw [if_pos h, (spotB_iff _ _ _ _).2 h]
    have : (l.take (placeK l k)).find? (fun x => spotB x.a x.b p q) = none := by
      rw [List.find?_eq_none]
      intro x hx
      have h1 := less_spot (place_take hx)
      obtain ⟨rfl, rfl⟩ := h
      have : spotB x.a x.b k.a k.b = false := h1
      rw [this]; simp
    rw [this]; rfl
  · rw [if_neg h, hl, List.find?_append]
    have hf : spotB k.a k.b p q = false := by
      cases hc : spotB k.a k.b p q with
      | false => rfl
      | true => exact absurd ((spotB_iff _ _ _ _).1 hc) h
    rw [hf, List.find?_filter]
    refine congrArg _ (congrArg (fun f => List.find? f _) ?_)
    funext x
    cases hx : spotB x.a x.b p q with
    | false => simp
    | true =>
      have : spotK x k = false := by
        cases hc : spotK x k with
        | false => rfl
        | true =>
          have h1 := (spot_iff _ _).1 hc
          have h2 := (spotB_iff _ _ _ _).1 hx
          exact absurd ⟨h1.1.symm.trans h2.1, h1.2.symm.trans h2.2⟩ h
      simp [this]
theorem Asc.merge {a b : List KeyD} (h : Asc a) : Asc (mergeK a b) := by
  unfold mergeK
  induction b generalizing a with
  | nil => exact h
  | cons k b ih => exact ih (h.put k)
theorem ok_merge {a b : List KeyD} (h : a.all okK = true) (hb : b.all okK = true) : (mergeK a b).all okK = true := by
  unfold mergeK
  induction b generalizing a with
  | nil => exact h
  | cons k b ih =>
    simp only [List.all_cons, Bool.and_eq_true] at hb
    exact ih (ok_put h hb.1) hb.2
theorem merge_miss {a b : List KeyD} {p q : Int} (h : ∀ k ∈ b, ¬ (k.a = p ∧ k.b = q)) : atK (mergeK a b) p q = atK a p q := by
  unfold mergeK
  induction b generalizing a with
  | nil => rfl
  | cons k b ih =>
    rw [List.foldl_cons, ih (fun x hx => h x (by simp [hx])), at_put, if_neg (h k (by simp))]
theorem merge_hit {a b : List KeyD} (hb : Asc b) {y : KeyD} (hy : y ∈ b) : atK (mergeK a b) y.a y.b = some y := by
  unfold mergeK
  induction b generalizing a with
  | nil => simp at hy
  | cons k b ih =>
    obtain ⟨h1, h2⟩ := List.pairwise_cons.1 hb
    rw [List.foldl_cons]
    rcases List.mem_cons.1 hy with rfl | hy
    · have := merge_miss (a := putK a y) (b := b) (p := y.a) (q := y.b) (fun x hx he => by
        have := less_spot (h1 x hx)
        rw [spot_comm] at this
        have h3 : spotK x y = true := (spot_iff _ _).2 he
        rw [h3] at this; cases this)
      unfold mergeK at this
      rw [this, at_put, if_pos ⟨rfl, rfl⟩]
    · exact ih h2 hy
theorem merge_len {a b : List KeyD} (hb : Asc b) : b.length ≤ (mergeK a b).length := by
  have hn : b.Nodup := hb.imp (fun {x y} h e => by subst e; rw [less_irr] at h; cases h)
  exact hn.length_le_of_subset (fun y hy => (at_mem (merge_hit hb hy)).1)
/-- Every key of the merged set comes from the newer set, or, if that has none there, from the older one. -/
theorem merge_from {a b : List KeyD} (ha : Asc a) (hb : Asc b) {k : KeyD} (hk : k ∈ mergeK a b) : (∀ y, atK b k.a k.b = some y → y = k) ∧ (atK b k.a k.b = none → atK a k.a k.b = some k) := by
  have hu := at_uniq ha.merge hk
  refine ⟨fun y hy => ?_, fun hn => ?_⟩
  · obtain ⟨h1, h2, h3⟩ := at_mem hy
    have := merge_hit (a := a) hb h1
    rw [h2, h3, hu] at this
    exact (Option.some.inj this).symm
  · rw [← merge_miss (at_none hn)]
    exact hu
theorem merge_old {a b : List KeyD} (ha : Asc a) (hb : Asc b) {k : KeyD} (hk : k ∈ a) : (atK (mergeK a b) k.a k.b).isSome = true := by
  cases h : atK b k.a k.b with
  | none => rw [merge_miss (at_none h), at_uniq ha hk]; rfl
  | some y =>
    obtain ⟨h1, h2, h3⟩ := at_mem h
    have := merge_hit (a := a) hb h1
    rw [h2, h3] at this
    rw [this]; rfl
theorem drop_kind {l : List KeyD} {k : KeyD} (h : k ∈ dropK l) : k.c ≠ 0 := by
  have := (List.mem_filter.1 h).2
  simpa using this
end Go.Proofs.Ytncjedbdkanleaa
