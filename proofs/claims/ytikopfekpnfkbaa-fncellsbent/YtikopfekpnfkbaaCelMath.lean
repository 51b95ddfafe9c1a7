/- The mathematics of FnCells: what a cell that is taken, and freed again, does to the list. No condition: plain lemmas. -/
import Derived.Test.YtikopfekpnfkbaaCelPure
namespace Go.Proofs.Ytikopfekpnfkbaa
open Go.RowKit
set_option maxRecDepth 100000
set_option linter.unusedSimpArgs false
set_option linter.unusedVariables false

theorem ok_len {l : List CelD} (h : celsOkB l = true) : l.length = 24 := by
  unfold celsOkB at h
  rw [Bool.and_eq_true] at h
  exact of_decide_eq_true h.2
theorem ok_at {l : List CelD} (h : celsOkB l = true) {k : Nat} (hk : k < l.length) : okC l[k] = true := by
  unfold celsOkB at h
  rw [Bool.and_eq_true, List.all_eq_true] at h
  exact h.1 _ (List.getElem_mem hk)
theorem ok_setC {l : List CelD} (h : celsOkB l = true) {k : Nat} {y : CelD} (hy : okC y = true) : celsOkB (l.set k y) = true := by
  unfold celsOkB at h ⊢
  rw [Bool.and_eq_true, List.all_eq_true] at h ⊢
  refine ⟨fun x hx => ?_, by rw [List.length_set]; exact h.2⟩
  rcases List.mem_or_eq_of_mem_set hx with hx | rfl
  · exact h.1 x hx
  · exact hy
theorem used_set {l : List CelD} {k : Nat} (hk : k < l.length) (y : CelD) : usedK (l.set k y) + (if (l[k]).b then 1 else 0) = usedK l + (if y.b then 1 else 0) := by
  have he : l = l.take k ++ l[k] :: l.drop (k + 1) := by rw [← List.drop_eq_getElem_cons hk, List.take_append_drop]
  have hs : l.set k y = l.take k ++ y :: l.drop (k + 1) := List.set_eq_take_append_cons_drop.trans (by rw [if_pos hk])
  have h1 : usedK l = (l.take k).countP (fun x => x.b) + ((if (l[k]).b then 1 else 0) + (l.drop (k + 1)).countP (fun x => x.b)) := by
    unfold usedK
    conv => lhs; rw [he]
    rw [List.countP_append, List.countP_cons, Nat.add_comm ((l.drop (k + 1)).countP _)]
  have h2 : usedK (l.set k y) = (l.take k).countP (fun x => x.b) + ((if y.b then 1 else 0) + (l.drop (k + 1)).countP (fun x => x.b)) := by
    unfold usedK
    rw [hs, List.countP_append, List.countP_cons, Nat.add_comm ((l.drop (k + 1)).countP _)]
  omega
/-- What taking a cell does. -/
theorem take_facts {l : List CelD} {n : Int} (h : takeB l n = true) : ∃ (k : Nat) (hk : k < l.length), idleI l = k ∧ (l[k]).b = false ∧ (∀ j (hj : j < k), (l[j]'(by omega)).b = true) ∧ celsOkB l = true ∧ wordB n = true ∧ takeK l n = l.set k ⟨(l[k]).a, true, n⟩ ∧ takeI l n = (k : Int) := by
  have h0 := h
  unfold takeB at h
  simp only [Bool.and_eq_true] at h
  obtain ⟨⟨h1, h2⟩, h3⟩ := h
  have hk := of_decide_eq_true h3
  refine ⟨idleI l, hk, rfl, ?_, fun j hj => ?_, h1, h2, ?_, ?_⟩
  · have h9 := List.findIdx_getElem (p := fun x : CelD => !x.b) (xs := l) (w := hk)
    have h10 : (l[l.findIdx (fun x => !x.b)]'hk).b = false := by simpa using h9
    exact h10
  · have := List.not_of_lt_findIdx (p := fun x : CelD => !x.b) (xs := l) hj
    simpa using this
  · unfold takeK
    rw [if_pos h0, takeL_at n hk]
  · unfold takeI
    rw [if_pos h0]
theorem take_none {l : List CelD} {n : Int} (h : takeB l n = false) : takeK l n = l ∧ takeI l n = 0 := by
  unfold takeK takeI
  rw [h]
  exact ⟨rfl, rfl⟩
theorem next_gen {a : Int} (h0 : 0 ≤ a) (h1 : a ≤ 999) : 0 ≤ (a + 1).tmod 1000 ∧ (a + 1).tmod 1000 ≤ 999 ∧ (a + 1).tmod 1000 ≠ a := by
  rw [Int.tmod_eq_emod_of_nonneg (by omega)]
  omega
theorem okC_gen {x : CelD} (h : okC x = true) : 0 ≤ x.a ∧ x.a ≤ 999 := by
  unfold okC at h
  simp only [Bool.and_eq_true] at h
  exact ⟨of_decide_eq_true h.1.1.1, of_decide_eq_true h.1.1.2⟩
theorem okC_taken {x : CelD} {n : Int} (h : okC x = true) (hn : wordB n = true) : okC ⟨x.a, true, n⟩ = true := by
  unfold okC at h ⊢
  simp only [Bool.and_eq_true] at h ⊢
  exact ⟨⟨h.1.1, hn⟩, by simp⟩
theorem okC_freed {a : Int} (h0 : 0 ≤ a) (h1 : a ≤ 999) : okC ⟨a, false, 0⟩ = true := by
  unfold okC wordB
  rw [decide_eq_true h0, decide_eq_true h1]
  rfl
/-- What FnCells asks of a cell that was taken, of the answers alone. -/
theorem cells_all {l : List CelD} {n : Int} (h : takeB l n = true) : ∃ (k : Nat) (hk : k < l.length) (a : Int), takeI l n = (k : Int) ∧ (l[k]).a = a ∧ (∀ j (hj : j < k), (l[j]'(by omega)).b = true) ∧ takeK l n = l.set k ⟨a, true, n⟩ ∧ freeK (l.set k ⟨a, true, n⟩) (k : Int) = l.set k ⟨(a + 1).tmod 1000, false, 0⟩ ∧
    celsOkB (l.set k ⟨(a + 1).tmod 1000, false, 0⟩) = true ∧ usedK (l.set k ⟨a, true, n⟩) = usedK l + 1 ∧ usedK (l.set k ⟨(a + 1).tmod 1000, false, 0⟩) = usedK l ∧
    cellB (l.set k ⟨a, true, n⟩) (k : Int) a = true ∧ cellK (l.set k ⟨a, true, n⟩) (k : Int) a = n ∧ cellB (l.set k ⟨(a + 1).tmod 1000, false, 0⟩) (k : Int) a = false ∧ cellB (l.set k ⟨a, true, n⟩) (k : Int) (a + 1) = false := by
  obtain ⟨k, hk, _, hb, hj, hok, hn, ht, hi⟩ := take_facts h
  have hg := okC_gen (ok_at hok hk)
  obtain ⟨g1, g2, g3⟩ := next_gen hg.1 hg.2
  have hokx : celsOkB (l.set k ⟨(l[k]).a, true, n⟩) = true := ok_setC hok (okC_taken (ok_at hok hk) hn)
  have hkx : k < (l.set k ⟨(l[k]).a, true, n⟩).length := by rw [List.length_set]; exact hk
  have hhas : ∀ m : List CelD, m.length = l.length → hasC m (k : Int) = true := fun m hm => by
    unfold hasC
    rw [decide_eq_true (show (0 : Int) ≤ (k : Int) by omega), decide_eq_true (show (k : Int) ≤ (m.length : Int) - 1 by omega)]
    rfl
  have hget : ∀ y : CelD, (l.set k y)[(k : Int).toNat]? = some y := fun y => by
    rw [Int.toNat_natCast, List.getElem?_set_self hk]
  have hfb : freeB (l.set k ⟨(l[k]).a, true, n⟩) (k : Int) = true := by
    unfold freeB
    rw [hokx, hhas _ (by simp)]
    unfold usedC
    rw [hget]
    rfl
  have hu1 := used_set hk (⟨(l[k]).a, true, n⟩ : CelD)
  have hu2 := used_set hk (⟨((l[k]).a + 1).tmod 1000, false, 0⟩ : CelD)
  rw [hb] at hu1 hu2
  refine ⟨k, hk, (l[k]).a, hi, rfl, hj, ht, ?_, ok_setC hok (okC_freed g1 g2), by simpa using hu1, by simpa using hu2, ?_, ?_, ?_, ?_⟩
  · unfold freeK
    rw [if_pos hfb, Int.toNat_natCast, freeL_at hkx, List.getElem_set_self, List.set_set]
  · unfold cellB usedC
    rw [hhas _ (by simp), hget]
    simp
  · unfold cellK
    rw [if_pos (by
      unfold cellB usedC
      rw [hhas _ (by simp), hget]
      simp)]
    rw [hget]
  · unfold cellB usedC
    rw [hget]
    simp
  · unfold cellB usedC
    rw [hget]
    simp
    omega
end Go.Proofs.Ytikopfekpnfkbaa
