/- The mathematics of versions: what a valid list is, the ways up in it, a version that is cut and one that is laid in. No condition: plain lemmas. -/
import Derived.Test.YtjnecehogebjkaaAgePath
import Derived.Test.YtjnecehogebjkaaDrawAge
namespace Go.Proofs.Ytjnecehogebjkaa
open Go.RowKit
set_option maxRecDepth 100000
set_option linter.unusedSimpArgs false
set_option linter.unusedVariables false

/-- A valid list of versions. -/
structure VP (l : List AgeD) : Prop where
  asc : l.Pairwise (fun x y => x.a < y.a)
  fit : ∀ x ∈ l, 1 ≤ x.a ∧ x.a ≤ 60 ∧ (x.b = 0 ∨ ∃ y ∈ l, y.a = x.b ∧ y.a < x.a)
  len : l.length ≤ 16
theorem has_iff {l : List AgeD} {d : Int} : hasG l d = true ↔ ∃ y ∈ l, y.a = d := by
  unfold hasG ageI
  rw [decide_eq_true_iff, List.findIdx_lt_length]
  simp
theorem has_no {l : List AgeD} {d : Int} (h : ∀ y ∈ l, y.a ≠ d) : hasG l d = false := by
  rw [Bool.eq_false_iff]
  intro h2
  obtain ⟨y, hy, e⟩ := has_iff.1 h2
  exact h y hy e
theorem asc_lt {l : List AgeD} (h : l.Pairwise (fun x y => x.a < y.a)) {i j : Nat} (hi : i < l.length) (hj : j < l.length) (hij : i < j) : (l[i]).a < (l[j]).a := List.pairwise_iff_getElem.1 h i j hi hj hij
theorem asc_idx {l : List AgeD} (h : l.Pairwise (fun x y => x.a < y.a)) {i j : Nat} (hi : i < l.length) (hj : j < l.length) (hlt : (l[i]).a < (l[j]).a) : i < j := by
  rcases Nat.lt_trichotomy i j with h1 | h1 | h1
  · exact h1
  · subst h1
    omega
  · have := asc_lt h hj hi h1
    omega
theorem asc_same {l : List AgeD} (h : l.Pairwise (fun x y => x.a < y.a)) {x y : AgeD} (hx : x ∈ l) (hy : y ∈ l) (he : x.a = y.a) : x = y := by
  obtain ⟨i, hi, rfl⟩ := List.getElem_of_mem hx
  obtain ⟨j, hj, rfl⟩ := List.getElem_of_mem hy
  rcases Nat.lt_trichotomy i j with h1 | h1 | h1
  · have := asc_lt h hi hj h1
    omega
  · subst h1
    rfl
  · have := asc_lt h hj hi h1
    omega
theorem rise_asc {l : List AgeD} (h : riseG l = true) : l.Pairwise (fun x y => x.a < y.a) := by
  have h1 := of_decide_eq_true h
  rw [List.pairwise_iff_getElem]
  intro i j hi hj hij
  obtain ⟨n, rfl⟩ : ∃ n, j = i + 1 + n := ⟨j - (i + 1), by omega⟩
  clear hij
  induction n with
  | zero => exact h1 i (by omega)
  | succ n ih =>
    have h2 := ih (by omega)
    have h3 := h1 (i + 1 + n) (by omega)
    exact Int.lt_trans h2 h3
theorem asc_rise {l : List AgeD} (h : l.Pairwise (fun x y => x.a < y.a)) : riseG l = true := decide_eq_true (fun i hi => asc_lt h (by omega) (by omega) (by omega))
theorem ok_vp {l : List AgeD} (h : agesOkB l = true) : VP l := by
  simp only [agesOkB, Bool.and_eq_true, decide_eq_true_iff] at h
  obtain ⟨⟨h1, h2⟩, h3⟩ := h
  have ha := rise_asc h2
  refine ⟨ha, fun x hx => ?_, h3⟩
  obtain ⟨i, hi, rfl⟩ := List.getElem_of_mem hx
  have hf := h1 i hi
  rw [fit_at hi] at hf
  simp only [idG, parGB, Bool.and_eq_true, Bool.or_eq_true, decide_eq_true_iff, beq_iff_eq] at hf
  obtain ⟨⟨h4, h5⟩, h6⟩ := hf
  refine ⟨h4, h5, ?_⟩
  rcases h6 with h6 | h6
  · exact .inl h6
  · obtain ⟨y, hy, he⟩ := has_iff.1 h6
    obtain ⟨k, hk, rfl⟩ := List.getElem_of_mem hy
    have hk' : k < i := by simp at hk; omega
    rw [List.getElem_take] at he
    refine .inr ⟨l[k], List.getElem_mem _, he, asc_lt ha (by omega) hi hk'⟩
theorem vp_ok {l : List AgeD} (h : VP l) : agesOkB l = true := by
  simp only [agesOkB, Bool.and_eq_true, decide_eq_true_iff]
  refine ⟨⟨fun i hi => ?_, asc_rise h.asc⟩, h.len⟩
  rw [fit_at hi]
  obtain ⟨h1, h2, h3⟩ := h.fit _ (List.getElem_mem hi)
  simp only [idG, parGB, Bool.and_eq_true, Bool.or_eq_true, decide_eq_true_iff, beq_iff_eq]
  refine ⟨⟨h1, h2⟩, ?_⟩
  rcases h3 with h3 | ⟨y, hy, he, hlt⟩
  · exact .inl h3
  · refine .inr (has_iff.2 ⟨y, ?_, he⟩)
    obtain ⟨k, hk, rfl⟩ := List.getElem_of_mem hy
    have hki := asc_idx h.asc hk hi hlt
    rw [List.mem_take_iff_getElem]
    exact ⟨k, by omega, rfl⟩
theorem vp_iff {l : List AgeD} : agesOkB l = true ↔ VP l := ⟨ok_vp, vp_ok⟩
theorem par_mem {l : List AgeD} (h : l.Pairwise (fun x y => x.a < y.a)) {y : AgeD} (hy : y ∈ l) : parG l y.a = y.b := by
  have hh : hasG l y.a = true := has_iff.2 ⟨y, hy, rfl⟩
  have hN : ageI l y.a < l.length := of_decide_eq_true hh
  rw [parG_at hN]
  have he := ageI_get hN
  rw [asc_same h (List.getElem_mem hN) hy he]
theorem has_mem {l : List AgeD} {d : Int} (h : l.Pairwise (fun x y => x.a < y.a)) (hh : hasG l d = true) : ⟨d, parG l d⟩ ∈ l := by
  obtain ⟨y, hy, rfl⟩ := has_iff.1 hh
  rw [par_mem h hy]
  exact hy
theorem par_up {l : List AgeD} (h : VP l) {d : Int} (hh : hasG l d = true) (h0 : parG l d ≠ 0) : hasG l (parG l d) = true ∧ parG l d < d ∧ ageI l (parG l d) < ageI l d := by
  have hm := has_mem h.asc hh
  obtain ⟨_, _, h3⟩ := h.fit _ hm
  rcases h3 with h3 | ⟨y, hy, he, hlt⟩
  · exact absurd h3 h0
  · have hp : hasG l (parG l d) = true := has_iff.2 ⟨y, hy, he⟩
    have hlt2 : parG l d < d := by
      have e1 : y.a = parG l d := he
      have e2 : y.a < d := hlt
      omega
    refine ⟨hp, hlt2, ?_⟩
    have h1 : ageI l (parG l d) < l.length := of_decide_eq_true hp
    have h2 : ageI l d < l.length := of_decide_eq_true hh
    exact asc_idx h.asc h1 h2 (by rw [ageI_get h1, ageI_get h2]; exact hlt2)
theorem path_fuel {l : List AgeD} (h : VP l) (n : Nat) (d : Int) (hn : ageI l d < n) : pathGo l (n + 1) d = pathGo l n d := by
  induction n generalizing d with
  | zero => omega
  | succ k ih =>
    cases hh : hasG l d
    · rw [pathGo_no hh, pathGo_no hh]
    · rw [pathGo_yes hh, pathGo_yes hh]
      congr 1
      cases h0 : (parG l d == 0)
      · have hne : parG l d ≠ 0 := by simpa using h0
        have := (par_up h hh hne).2.2
        simp only [Bool.false_eq_true, if_false]
        exact ih _ (by omega)
      · rfl
theorem path_yes {l : List AgeD} (h : VP l) {d : Int} (hh : hasG l d = true) : pathK l d = d :: (if parG l d == 0 then [] else pathK l (parG l d)) := by
  unfold pathK
  rw [pathGo_yes hh]
  congr 1
  cases h0 : (parG l d == 0)
  · have hne : parG l d ≠ 0 := by simpa using h0
    have h1 := (par_up h hh hne).2.2
    have h2 := ageI_le l d
    simp only [Bool.false_eq_true, if_false]
    exact (path_fuel h _ _ (by omega)).symm
  · rfl
theorem path_no {l : List AgeD} {d : Int} (hh : hasG l d = false) : pathK l d = [] := pathGo_no hh _
theorem path_self {l : List AgeD} (h : VP l) {d : Int} (hh : hasG l d = true) : d ∈ pathK l d := by
  rw [path_yes h hh]
  exact List.mem_cons_self
theorem path_props {l : List AgeD} (h : VP l) (n : Nat) : ∀ d, ageI l d ≤ n → (∀ u ∈ pathK l d, u ≤ d ∧ hasG l u = true) ∧ (pathK l d).Pairwise (fun x y => y < x) := by
  induction n with
  | zero =>
    intro d hd
    cases hh : hasG l d
    · rw [path_no hh]
      exact ⟨fun u hu => by simp at hu, .nil⟩
    · rw [path_yes h hh]
      cases h0 : (parG l d == 0)
      · have hne : parG l d ≠ 0 := by simpa using h0
        have := (par_up h hh hne).2.2
        omega
      · simp only [if_true]
        exact ⟨fun u hu => by simp at hu; subst hu; exact ⟨Int.le_refl _, hh⟩, List.pairwise_singleton _ _⟩
  | succ n ih =>
    intro d hd
    cases hh : hasG l d
    · rw [path_no hh]
      exact ⟨fun u hu => by simp at hu, .nil⟩
    · rw [path_yes h hh]
      cases h0 : (parG l d == 0)
      · have hne : parG l d ≠ 0 := by simpa using h0
        obtain ⟨h1, h2, h3⟩ := par_up h hh hne
        obtain ⟨h4, h5⟩ := ih (parG l d) (by omega)
        simp only [Bool.false_eq_true, if_false]
        refine ⟨fun u hu => ?_, List.pairwise_cons.2 ⟨fun u hu => ?_, h5⟩⟩
        · rcases List.mem_cons.1 hu with rfl | hu
          · exact ⟨Int.le_refl _, hh⟩
          · have := h4 u hu
            exact ⟨by omega, this.2⟩
        · have := (h4 u hu).1
          omega
      · simp only [if_true]
        exact ⟨fun u hu => by simp at hu; subst hu; exact ⟨Int.le_refl _, hh⟩, List.pairwise_singleton _ _⟩
theorem path_le {l : List AgeD} (h : VP l) {d u : Int} (hu : u ∈ pathK l d) : u ≤ d := ((path_props h _ d (Nat.le_refl _)).1 u hu).1
theorem path_desc {l : List AgeD} (h : VP l) (d : Int) : (pathK l d).Pairwise (fun x y => y < x) := (path_props h _ d (Nat.le_refl _)).2
theorem from_self {l : List AgeD} (h : VP l) (d : Int) : fromB l d d = hasG l d := by
  unfold fromB
  cases hh : hasG l d
  · rw [path_no hh]
    simp
  · exact decide_eq_true (path_self h hh)
theorem path_pos {l : List AgeD} (h : VP l) (d : Int) : decide (0 < (pathK l d).length) = hasG l d := by
  cases hh : hasG l d
  · rw [path_no hh]
    simp
  · rw [path_yes h hh]
    simp
theorem from_anti {l : List AgeD} (h : VP l) {a b : Int} (h1 : fromB l a b = true) (h2 : fromB l b a = true) : a = b := by
  have h3 := path_le h (of_decide_eq_true h1)
  have h4 := path_le h (of_decide_eq_true h2)
  omega
theorem kid_path {l : List AgeD} (h : VP l) {a c : Int} (hc : c ∈ kidsK l a) : pathK l c = c :: pathK l a ∧ fromB l a c = true := by
  unfold kidsK at hc
  cases h0 : (a == 0)
  · rw [h0] at hc
    simp only [Bool.false_eq_true, if_false, List.mem_map, List.mem_filter, beq_iff_eq] at hc
    obtain ⟨y, ⟨hy, hb⟩, rfl⟩ := hc
    have hh : hasG l y.a = true := has_iff.2 ⟨y, hy, rfl⟩
    have hp : parG l y.a = a := by rw [par_mem h.asc hy, hb]
    have hne : parG l y.a ≠ 0 := by rw [hp]; simpa using h0
    have hup := par_up h hh hne
    rw [hp] at hup
    have he : pathK l y.a = y.a :: pathK l a := by
      rw [path_yes h hh, hp, h0]
      rfl
    exact ⟨he, decide_eq_true (by rw [he]; exact List.mem_cons_of_mem _ (path_self h hup.1))⟩
  · rw [h0] at hc
    simp at hc
/-- A version that is cut, by its Id. -/
theorem erase_filter {l : List AgeD} (h : l.Pairwise (fun x y => x.a < y.a)) (a : Int) (hh : hasG l a = true) : l.eraseIdx (ageI l a) = l.filter (fun y => !(y.a == a)) := by
  induction l with
  | nil => rfl
  | cons y t ih =>
    rw [List.pairwise_cons] at h
    obtain ⟨h1, h2⟩ := h
    unfold ageI
    rw [List.findIdx_cons]
    cases e : (y.a == a)
    · have hh2 : hasG t a = true := by
        obtain ⟨z, hz, hza⟩ := has_iff.1 hh
        rcases List.mem_cons.1 hz with rfl | hz
        · simp [hza] at e
        · exact has_iff.2 ⟨z, hz, hza⟩
      have := ih h2 hh2
      unfold ageI at this
      simp only [cond_false, List.eraseIdx_cons_succ, List.filter_cons, e, Bool.not_false, if_true, this]
    · simp only [cond_true, List.eraseIdx_cons_zero, List.filter_cons, e, Bool.not_true, Bool.false_eq_true, if_false]
      symm
      rw [List.filter_eq_self]
      intro z hz
      have := h1 z hz
      have e2 : y.a = a := by simpa using e
      simp
      omega
theorem cut_eq {l : List AgeD} (h : VP l) {a : Int} (hh : hasG l a = true) : cutL l a = (l.filter (fun y => !(y.a == a))).map (reP a (parG l a)) := by
  unfold cutL
  rw [erase_filter h.asc a hh]
theorem reP_a (d p : Int) (x : AgeD) : (reP d p x).a = x.a := by
  unfold reP
  split <;> rfl
theorem cut_mem {l : List AgeD} (h : VP l) {a : Int} (hh : hasG l a = true) {z : AgeD} : z ∈ cutL l a ↔ ∃ y ∈ l, y.a ≠ a ∧ z = reP a (parG l a) y := by
  rw [cut_eq h hh]
  simp only [List.mem_map, List.mem_filter]
  constructor
  · rintro ⟨y, ⟨hy, hn⟩, rfl⟩
    exact ⟨y, hy, by simpa using hn, rfl⟩
  · rintro ⟨y, hy, hn, rfl⟩
    exact ⟨y, ⟨hy, by simpa using hn⟩, rfl⟩
theorem cut_len {l : List AgeD} {a : Int} (hh : hasG l a = true) : (cutL l a).length = l.length - 1 := by
  unfold cutL
  rw [List.length_map, List.length_eraseIdx_of_lt (of_decide_eq_true hh)]
theorem cut_has {l : List AgeD} (h : VP l) {a : Int} (hh : hasG l a = true) {d : Int} (hd : d ≠ a) : hasG (cutL l a) d = hasG l d := by
  rw [Bool.eq_iff_iff, has_iff, has_iff]
  constructor
  · rintro ⟨z, hz, rfl⟩
    obtain ⟨y, hy, _, rfl⟩ := (cut_mem h hh).1 hz
    exact ⟨y, hy, (reP_a _ _ _).symm⟩
  · rintro ⟨y, hy, rfl⟩
    exact ⟨_, (cut_mem h hh).2 ⟨y, hy, hd, rfl⟩, reP_a _ _ _⟩
theorem cut_gone {l : List AgeD} (h : VP l) {a : Int} (hh : hasG l a = true) : hasG (cutL l a) a = false := by
  refine has_no (fun z hz => ?_)
  obtain ⟨y, hy, hn, rfl⟩ := (cut_mem h hh).1 hz
  rw [reP_a]
  exact hn
theorem cut_asc {l : List AgeD} (h : VP l) {a : Int} (hh : hasG l a = true) : (cutL l a).Pairwise (fun x y => x.a < y.a) := by
  rw [cut_eq h hh, List.pairwise_map]
  refine (h.asc.filter _).imp (fun {x y} hxy => ?_)
  rw [reP_a, reP_a]
  exact hxy
theorem cut_par {l : List AgeD} (h : VP l) {a : Int} (hh : hasG l a = true) {d : Int} (hd : d ≠ a) (hl : hasG l d = true) : parG (cutL l a) d = if parG l d == a then parG l a else parG l d := by
  have hm := has_mem h.asc hl
  have hz := (cut_mem h hh).2 ⟨_, hm, hd, rfl⟩
  have h2 := par_mem (cut_asc h hh) hz
  rw [reP_a] at h2
  rw [show parG (cutL l a) d = parG (cutL l a) (AgeD.mk d (parG l d)).a from rfl, h2]
  unfold reP
  split <;> rfl
theorem cut_vp {l : List AgeD} (h : VP l) {a : Int} (hh : hasG l a = true) (ha : a ≠ 0) : VP (cutL l a) := by
  refine ⟨cut_asc h hh, fun z hz => ?_, by rw [cut_len hh]; have := h.len; omega⟩
  obtain ⟨y, hy, hn, rfl⟩ := (cut_mem h hh).1 hz
  rw [reP_a]
  obtain ⟨h1, h2, h3⟩ := h.fit y hy
  refine ⟨h1, h2, ?_⟩
  have hma := has_mem h.asc hh
  unfold reP
  cases e : (y.b == a)
  · have e2 : y.b ≠ a := by simpa using e
    simp only [Bool.false_eq_true, if_false]
    rcases h3 with h3 | ⟨x, hx, he, hlt⟩
    · exact .inl h3
    · refine .inr ⟨_, (cut_mem h hh).2 ⟨x, hx, by rw [he]; exact e2, rfl⟩, ?_, ?_⟩
      · rw [reP_a]; exact he
      · rw [reP_a]; exact hlt
  · have e2 : y.b = a := by simpa using e
    simp only [if_true]
    by_cases h0 : parG l a = 0
    · exact .inl h0
    · obtain ⟨h4, h5, _⟩ := par_up h hh h0
      obtain ⟨x, hx, he⟩ := has_iff.1 h4
      have hay : a < y.a := by
        rcases h3 with h3 | ⟨x2, _, he2, hlt2⟩
        · exact absurd (e2.symm.trans h3) ha
        · omega
      refine .inr ⟨_, (cut_mem h hh).2 ⟨x, hx, by rw [he]; omega, rfl⟩, ?_, ?_⟩
      · rw [reP_a]; exact he
      · rw [reP_a, he]; omega
theorem cut_path {l : List AgeD} (h : VP l) {a : Int} (hh : hasG l a = true) (ha : a ≠ 0) (n : Nat) : ∀ d, ageI l d ≤ n → d ≠ a → pathK (cutL l a) d = (pathK l d).filter (fun u => !(u == a)) := by
  have hv := cut_vp h hh ha
  induction n with
  | zero =>
    intro d hd hda
    have hda2 : (d == a) = false := by simpa using hda
    cases hl : hasG l d
    · rw [path_no hl, path_no (by rw [cut_has h hh hda]; exact hl)]
      rfl
    · have h0 : parG l d = 0 := by
        by_cases h0 : parG l d = 0
        · exact h0
        · have := (par_up h hl h0).2.2
          omega
      have hp : parG (cutL l a) d = 0 := by
        rw [cut_par h hh hda hl, h0, show ((0 : Int) == a) = false by simpa using Ne.symm ha]
        rfl
      rw [path_yes h hl, path_yes hv (by rw [cut_has h hh hda]; exact hl), h0, hp]
      simp [hda2]
  | succ n ih =>
    intro d hd hda
    have hda2 : (d == a) = false := by simpa using hda
    cases hl : hasG l d
    · rw [path_no hl, path_no (by rw [cut_has h hh hda]; exact hl)]
      rfl
    · rw [path_yes h hl, path_yes hv (by rw [cut_has h hh hda]; exact hl), cut_par h hh hda hl]
      rw [List.filter_cons, hda2]
      simp only [Bool.not_false, if_true]
      congr 1
      cases h0 : (parG l d == 0)
      · have hne : parG l d ≠ 0 := by simpa using h0
        obtain ⟨h1, h2, h3⟩ := par_up h hl hne
        cases e : (parG l d == a)
        · have e2 : parG l d ≠ a := by simpa using e
          simp only [Bool.false_eq_true, if_false, h0]
          exact ih _ (by omega) e2
        · have e2 : parG l d = a := by simpa using e
          simp only [Bool.false_eq_true, if_false, if_true]
          rw [e2, path_yes h hh, List.filter_cons, show (a == a) = true by simp]
          simp only [Bool.not_true, Bool.false_eq_true, if_false]
          cases h4 : (parG l a == 0)
          · have hne4 : parG l a ≠ 0 := by simpa using h4
            obtain ⟨h5, h6, h7⟩ := par_up h hh hne4
            rw [e2] at h3
            simp only [Bool.false_eq_true, if_false]
            exact ih _ (by omega) (by omega)
          · simp
      · have h02 : parG l d = 0 := by simpa using h0
        rw [h02, show ((0 : Int) == a) = false by simpa using Ne.symm ha]
        simp
theorem cut_from {l : List AgeD} (h : VP l) {a : Int} (hh : hasG l a = true) (ha : a ≠ 0) {u d : Int} (hu : u ≠ a) (hd : d ≠ a) : fromB (cutL l a) u d = fromB l u d := by
  unfold fromB
  rw [cut_path h hh ha _ d (Nat.le_refl _) hd, decide_eq_decide, List.mem_filter]
  simp [hu]
/-- The version 40, laid into a list of small Ids. -/
theorem ins_end {l : List AgeD} (h8 : ∀ x ∈ l, x.a ≤ 8) (f : Int) : insG l ⟨40, f⟩ = l ++ [⟨40, f⟩] := by
  have hp : plG l 40 = l.length := by
    unfold plG
    rw [List.findIdx_eq_length]
    intro x hx
    have := h8 x hx
    simp
    omega
  unfold insG
  rw [hp]
  simp
theorem has40 {l : List AgeD} (h8 : ∀ x ∈ l, x.a ≤ 8) : hasG l 40 = false := has_no (fun y hy => by have := h8 y hy; omega)
theorem new40_yes {l : List AgeD} (h : VP l) (h8 : ∀ x ∈ l, x.a ≤ 8) (h7 : l.length ≤ 7) {a : Int} (hh : hasG l a = true) (ha : a ≤ 8) : newOk l 40 a = true := by
  unfold newOk
  rw [has40 h8, ins_end h8]
  simp only [Bool.not_false, Bool.true_and]
  refine vp_ok ⟨?_, fun x hx => ?_, by simp; omega⟩
  · rw [List.pairwise_append]
    refine ⟨h.asc, List.pairwise_singleton _ _, fun x hx y hy => ?_⟩
    have := h8 x hx
    simp at hy
    subst hy
    show x.a < 40
    omega
  · rcases List.mem_append.1 hx with hx | hx
    · obtain ⟨h1, h2, h3⟩ := h.fit x hx
      refine ⟨h1, h2, ?_⟩
      rcases h3 with h3 | ⟨y, hy, h4⟩
      · exact .inl h3
      · exact .inr ⟨y, List.mem_append_left _ hy, h4⟩
    · simp at hx
      subst hx
      obtain ⟨y, hy, he⟩ := has_iff.1 hh
      refine ⟨by show (1 : Int) ≤ 40; omega, by show (40 : Int) ≤ 60; omega, .inr ⟨y, List.mem_append_left _ hy, he, by show y.a < 40; omega⟩⟩
theorem new40_no {l : List AgeD} (h8 : ∀ x ∈ l, x.a ≤ 8) {a : Int} (hh : hasG l a = false) (h1 : 1 ≤ a) (ha : a ≤ 8) : newOk l 40 a = false := by
  unfold newOk
  rw [has40 h8, ins_end h8]
  simp only [Bool.not_false, Bool.true_and]
  rw [Bool.eq_false_iff]
  intro hok
  have hv := ok_vp hok
  obtain ⟨_, _, h3⟩ := hv.fit ⟨40, a⟩ (by simp)
  rcases h3 with h3 | ⟨y, hy, he, hlt⟩
  · have h4 : a = 0 := h3
    omega
  · rcases List.mem_append.1 hy with hy | hy
    · have : hasG l a = true := has_iff.2 ⟨y, hy, he⟩
      rw [hh] at this
      cases this
    · simp at hy
      subst hy
      have h4 : (40 : Int) = a := he
      omega
theorem kids40 {l : List AgeD} (h8 : ∀ x ∈ l, x.a ≤ 8) {a : Int} (h1 : 1 ≤ a) : (40 : Int) ∈ kidsK (insG l ⟨40, a⟩) a := by
  unfold kidsK
  rw [show (a == 0) = false by simp; omega, ins_end h8]
  simp
end Go.Proofs.Ytjnecehogebjkaa
