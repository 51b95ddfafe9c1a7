/- What the functions on versions answer, as plain functions on lists. No condition: plain lemmas. -/
import Derived.Test.YtjnecehogebjkaaAge
namespace Go.Proofs.Ytjnecehogebjkaa
open Go.RowKit
set_option maxRecDepth 100000
set_option linter.unusedSimpArgs false
set_option linter.unusedVariables false

/-- The place of the first version id, or the length. -/
def ageI (l : List AgeD) (id : Int) : Nat := l.findIdx (fun x => x.a == id)
def ageAtK (l : List AgeD) (id : Int) : Int := if ageI l id < l.length then (ageI l id : Int) else -1
def hasG (l : List AgeD) (id : Int) : Bool := decide (ageI l id < l.length)
theorem ageAt_neg (l : List AgeD) (id : Int) : (decide (ageAtK l id < 0)) = !hasG l id := by
  unfold ageAtK hasG
  by_cases h : ageI l id < l.length
  · rw [if_pos h]; simp [h]
  · rw [if_neg h]; simp [h]
theorem ageAt_geq (l : List AgeD) (id : Int) : (decide (ageAtK l id ≥ 0)) = hasG l id := by
  unfold ageAtK hasG
  by_cases h : ageI l id < l.length
  · rw [if_pos h]; simp [h]
  · rw [if_neg h]; simp [h]
theorem ageI_le (l : List AgeD) (id : Int) : ageI l id ≤ l.length := List.findIdx_le_length
theorem ageI_step {l : List AgeD} {k : Nat} {id : Int} (h : k < l.length) (hp : ((l[k]).a == id) = false) (hf : ageI l id = k + ageI (l.drop k) id) : ageI l id = (k + 1) + ageI (l.drop (k + 1)) id := by
  rw [gdrop_at h] at hf
  unfold ageI at hf ⊢
  rw [List.findIdx_cons, hp] at hf
  simp only [cond_false] at hf
  omega
theorem ageI_hit {l : List AgeD} {k : Nat} {id : Int} (h : k < l.length) (hp : ((l[k]).a == id) = true) (hf : ageI l id = k + ageI (l.drop k) id) : ageI l id = k := by
  rw [gdrop_at h] at hf
  unfold ageI at hf ⊢
  rw [List.findIdx_cons, hp] at hf
  simpa using hf
theorem ageI_get {l : List AgeD} {id : Int} (h : ageI l id < l.length) : (l[ageI l id]).a = id := by
  have h1 := List.findIdx_getElem (p := fun x : AgeD => x.a == id) (xs := l) (w := h)
  have h2 : (l[l.findIdx (fun x => x.a == id)]'h).a = id := by simpa using h1
  exact h2
def parGB (l : List AgeD) (i : Nat) (f : Int) : Bool := f == 0 || hasG (l.take i) f
def idG (n : Int) : Bool := decide (1 ≤ n) && decide (n ≤ 60)
def riseG (l : List AgeD) : Bool := decide (∀ i (h : i < l.length - 1), (l[i]'(by omega)).a < (l[i + 1]'(by omega)).a)
/-- The version at place i has an Id in range and a parent ahead. -/
def fitG (l : List AgeD) (i : Nat) : Bool := match l[i]? with | none => true | some x => idG x.a && parGB l i x.b
def agesOkB (l : List AgeD) : Bool := decide (∀ i, i < l.length → fitG l i = true) && riseG l && decide (l.length ≤ 16)
def kidsK (l : List AgeD) (id : Int) : List Int := if id == 0 then [] else (l.filter (fun x => x.b == id)).map (·.a)
/-- The place of the first version whose Id is not less. -/
def plG (l : List AgeD) (id : Int) : Nat := l.findIdx (fun x => !decide (x.a < id))
def insG (l : List AgeD) (x : AgeD) : List AgeD := l.take (plG l x.a) ++ x :: l.drop (plG l x.a)
def newOk (l : List AgeD) (id f : Int) : Bool := !hasG l id && agesOkB (insG l ⟨id, f⟩)
def newK (l : List AgeD) (id f : Int) : List AgeD := if newOk l id f then insG l ⟨id, f⟩ else l
/-- From turned: who had id for a parent has p now. -/
def reP (id p : Int) (x : AgeD) : AgeD := if x.b == id then ⟨x.a, p⟩ else x
def cutOk (l : List AgeD) (id : Int) : Bool := hasG l id && agesOkB l
def parG (l : List AgeD) (id : Int) : Int := match l[ageI l id]? with | none => 0 | some x => x.b
def cutL (l : List AgeD) (id : Int) : List AgeD := (l.eraseIdx (ageI l id)).map (reP id (parG l id))
def cutK (l : List AgeD) (id : Int) : List AgeD := if cutOk l id then cutL l id else l
theorem plG_le (l : List AgeD) (id : Int) : plG l id ≤ l.length := List.findIdx_le_length
theorem insG_len (l : List AgeD) (x : AgeD) : (insG l x).length = l.length + 1 := by
  have := plG_le l x.a
  unfold insG
  simp
  omega
theorem newK_len (l : List AgeD) (id f : Int) : (newK l id f).length ≤ l.length + 1 := by
  unfold newK
  split
  · rw [insG_len]
    omega
  · omega
theorem cutK_len (l : List AgeD) (id : Int) : (cutK l id).length ≤ l.length := by
  unfold cutK
  split
  · unfold cutL
    rw [List.length_map]
    exact List.length_eraseIdx_le _ _
  · omega
theorem kidsK_len (l : List AgeD) (id : Int) : (kidsK l id).length ≤ l.length := by
  unfold kidsK
  split
  · simp
  · rw [List.length_map]
    exact List.length_filter_le _ _
theorem plG_step {l : List AgeD} {k : Nat} {id : Int} (h : k < l.length) (hp : decide ((l[k]).a < id) = true) (hf : plG l id = k + plG (l.drop k) id) : plG l id = (k + 1) + plG (l.drop (k + 1)) id := by
  rw [gdrop_at h] at hf
  unfold plG at hf ⊢
  rw [List.findIdx_cons, hp] at hf
  simp only [Bool.not_true, cond_false] at hf
  omega
theorem plG_hit {l : List AgeD} {k : Nat} {id : Int} (h : k < l.length) (hp : decide ((l[k]).a < id) = false) (hf : plG l id = k + plG (l.drop k) id) : plG l id = k := by
  rw [gdrop_at h] at hf
  unfold plG at hf ⊢
  rw [List.findIdx_cons, hp] at hf
  simpa using hf
/-- Who is not there is of no version's Id. -/
theorem no_has {l : List AgeD} {id : Int} (h : hasG l id = false) : ∀ x ∈ l, (x.a == id) = false := by
  unfold hasG at h
  have h2 : ageI l id = l.length := by
    have := ageI_le l id
    have := of_decide_eq_false h
    omega
  intro x hx
  unfold ageI at h2
  rw [List.findIdx_eq_length] at h2
  exact h2 x hx
end Go.Proofs.Ytjnecehogebjkaa
