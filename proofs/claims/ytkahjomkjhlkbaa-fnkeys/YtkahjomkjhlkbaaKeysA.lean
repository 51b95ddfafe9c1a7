/- What FnKeys needs of keys as data: of two one is less or they have one position; an encoded key is decoded, and a decoded one has this encoding. No condition: plain lemmas. -/
import Derived.Test.YtkahjomkjhlkbaaKeyGet
import Derived.Test.YtkahjomkjhlkbaaKeyPut
import Derived.Test.YtkahjomkjhlkbaaConv
namespace Go.Proofs.Ytkahjomkjhlkbaa
open Go.RowKit
set_option maxRecDepth 100000

theorem less_tri (a b a' b' : Int) : (lessB a b a' b' = true ∧ lessB a' b' a b = false ∧ spotB a b a' b' = false) ∨ (lessB a b a' b' = false ∧ lessB a' b' a b = true ∧ spotB a b a' b' = false) ∨ (lessB a b a' b' = false ∧ lessB a' b' a b = false ∧ spotB a b a' b' = true) := by
  unfold lessB spotB
  by_cases h : a = a'
  · subst h
    rw [if_pos rfl, if_pos rfl]
    rcases Int.lt_trichotomy b b' with h1 | h1 | h1
    · left; simp; omega
    · right; right; simp; omega
    · right; left; simp; omega
  · rw [if_neg h, if_neg (fun h' => h h'.symm)]
    rcases Int.lt_trichotomy a a' with h1 | h1 | h1
    · left; simp; omega
    · exact absurd h1 h
    · right; left; simp; omega
theorem ub_of (x : UInt8) : ub (x.toNat : Int) = x := by
  unfold ub
  have := UInt8.toNat_lt x
  rw [show ((x.toNat : Int) % 256).toNat = x.toNat by omega]
  simp
theorem encW_word (p q : UInt8) : encW (word p q) = [p, q] := by
  have hp := UInt8.toNat_lt p
  have hq := UInt8.toNat_lt q
  have h1 : ub (word p q / 256) = p := by
    have h : word p q / 256 = (p.toNat : Int) := by unfold word; omega
    rw [h, ub_of]
  have h2 : ub (word p q) = q := by
    have : ub (word p q) = ub (q.toNat : Int) := by
      unfold ub word
      congr 2
      omega
    rw [this, ub_of]
  unfold encW
  rw [h1, h2]
theorem keyOk_bounds {a b c d e : Int} (h : keyOkB a b c d e = true) : (0 ≤ a ∧ a ≤ 255) ∧ (0 ≤ b ∧ b ≤ 255) ∧ (0 ≤ c ∧ c ≤ 255) ∧ (0 ≤ d ∧ d ≤ 255) ∧ (0 ≤ e ∧ e ≤ 65535) := by
  have ht : tgtB c d e = true → (0 ≤ c ∧ c ≤ 2) ∧ (0 ≤ d ∧ d ≤ 23) ∧ (0 ≤ e ∧ e ≤ 999) := by
    unfold tgtB
    split
    · intro h1; simp at h1; omega
    · split
      · intro h1; simp at h1; omega
      · intro h1; cases h1
  simp only [keyOkB, Bool.and_eq_true, decide_eq_true_eq] at h
  obtain ⟨⟨⟨⟨x1, x2⟩, x3⟩, x4⟩, x5⟩ := h
  have := ht x5
  omega
theorem getK_put {l P : List UInt8} {a b c d e : Int} (h : keyOkB a b c d e = true) (hP : P = l ++ encK a b c d e) : getK P (l.length : Nat) = some ⟨a, b, c, d, e⟩ ∧ P.length = l.length + 6 := by
  obtain ⟨ha, hb, hc, hd, he⟩ := keyOk_bounds h
  have hE : encK a b c d e = [ub a, ub b, ub c, ub d, ub (e / 256), ub e] := by unfold encK; rw [if_pos h]; rfl
  rw [hE] at hP
  have hl : P.length = l.length + 6 := by rw [hP]; simp
  refine ⟨?_, hl⟩
  rw [getK_in (by omega)]
  have e0 : P[l.length]'(by omega) = ub a := by subst hP; simp
  have e1 : P[l.length + 1]'(by omega) = ub b := by subst hP; simp [List.getElem_append_right]
  have e2 : P[l.length + 2]'(by omega) = ub c := by subst hP; simp [List.getElem_append_right]
  have e3 : P[l.length + 3]'(by omega) = ub d := by subst hP; simp [List.getElem_append_right]
  have e4 : P[l.length + 4]'(by omega) = ub (e / 256) := by subst hP; simp [List.getElem_append_right]
  have e5 : P[l.length + 5]'(by omega) = ub e := by subst hP; simp [List.getElem_append_right]
  simp only [e0, e1, e2, e3, e4, e5]
  have f0 : ((ub a).toNat : Int) = a := by rw [ub_toNat]; omega
  have f1 : ((ub b).toNat : Int) = b := by rw [ub_toNat]; omega
  have f2 : ((ub c).toNat : Int) = c := by rw [ub_toNat]; omega
  have f3 : ((ub d).toNat : Int) = d := by rw [ub_toNat]; omega
  have f4 : word (ub (e / 256)) (ub e) = e := by unfold word; rw [ub_toNat, ub_toNat]; omega
  rw [f0, f1, f2, f3, f4, if_pos h]
theorem put_getK {l : List UInt8} {k : Int} {y : KeyD} (h : getK l k = some y) : ∃ j : Nat, k = j ∧ ∃ hj : j + 6 ≤ l.length, (encK y.a y.b y.c y.d y.e).length = 6 ∧ ∀ i (hi : i < 6) (hi' : i < (encK y.a y.b y.c y.d y.e).length), (encK y.a y.b y.c y.d y.e)[i] = l[j + i]'(by omega) := by
  by_cases hk : 0 ≤ k ∧ k + 6 ≤ (l.length : Int)
  · obtain ⟨j, rfl⟩ := Int.eq_ofNat_of_zero_le hk.1
    have hj : j + 6 ≤ l.length := by have := hk.2; omega
    refine ⟨j, rfl, hj, ?_⟩
    rw [getK_in hj] at h
    split at h
    · rename_i hok
      simp at h
      subst h
      have hE : encK ((l[j]'(by omega)).toNat : Int) ((l[j + 1]'(by omega)).toNat : Int) ((l[j + 2]'(by omega)).toNat : Int) ((l[j + 3]'(by omega)).toNat : Int) (word (l[j + 4]'(by omega)) (l[j + 5]'(by omega))) = [l[j]'(by omega), l[j + 1]'(by omega), l[j + 2]'(by omega), l[j + 3]'(by omega), l[j + 4]'(by omega), l[j + 5]'(by omega)] := by
        unfold encK
        rw [if_pos hok, encW_word, ub_of, ub_of, ub_of, ub_of]
        rfl
      rw [hE]
      refine ⟨rfl, fun i hi hi' => ?_⟩
      match i, hi with
      | 0, _ => rfl
      | 1, _ => rfl
      | 2, _ => rfl
      | 3, _ => rfl
      | 4, _ => rfl
      | 5, _ => rfl
    · cases h
  · rw [getK_out (by omega)] at h
    cases h
end Go.Proofs.Ytkahjomkjhlkbaa
