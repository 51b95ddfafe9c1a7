/- What the functions on sets of keys answer, as plain functions on lists of keys. No condition: plain lemmas. -/
import Derived.Test.YtmpgmjnagpiijaaKSet
namespace Go.Proofs.Ytmpgmjnagpiijaa
open Go.RowKit
set_option maxRecDepth 100000
set_option linter.unusedSimpArgs false
set_option linter.unusedVariables false

def lessK (x y : KeyD) : Bool := lessB x.a x.b y.a y.b
def spotK (x y : KeyD) : Bool := spotB x.a x.b y.a y.b
def okK (x : KeyD) : Bool := keyOkB x.a x.b x.c x.d x.e
theorem spot_less (x y : KeyD) : spotK x y = (!lessK x y && !lessK y x) := by
  simp only [spotK, spotB, lessK, lessB]
  rw [Bool.eq_iff_iff]
  by_cases h : x.a = y.a
  · simp [h]; omega
  · have h' : ¬ y.a = x.a := fun e => h e.symm
    simp [h, h']; omega
theorem spot_comm (x y : KeyD) : spotK x y = spotK y x := by rw [spot_less, spot_less, Bool.and_comm]
theorem less_spot {x y : KeyD} (h : lessK x y = true) : spotK x y = false := by rw [spot_less, h]; rfl
def riseB (l : List KeyD) : Bool := decide (∀ i (h : i < l.length - 1), lessK (l[i]'(by omega)) (l[i + 1]'(by omega)) = true)
def setOkB (l : List KeyD) : Bool := l.all okK && riseB l && decide (l.length ≤ 60)
def atK (l : List KeyD) (b a : Int) : Option KeyD := l.find? (fun x => spotB x.a x.b b a)
def putGo (k : KeyD) : List KeyD → Bool → List KeyD
  | [], done => if done then [] else [k]
  | x :: t, done => (if !done && !lessK x k then [k] else []) ++ ((if !spotK x k then [x] else []) ++ putGo k t (done || !lessK x k))
def putK (l : List KeyD) (k : KeyD) : List KeyD := putGo k l false
def mergeK (a b : List KeyD) : List KeyD := b.foldl putK a
def dropK (l : List KeyD) : List KeyD := l.filter (fun x => x.c != 0)
theorem putGo_true (k : KeyD) (l : List KeyD) : putGo k l true = l.filter (fun x => !spotK x k) := by
  induction l with
  | nil => rfl
  | cons x t ih =>
    simp only [putGo, Bool.true_or, ih]
    cases h : spotK x k <;> simp [h]
/-- The place of the first key that is not less than k. -/
def placeK (l : List KeyD) (k : KeyD) : Nat := l.findIdx (fun x => !lessK x k)
theorem put_eq (l : List KeyD) (k : KeyD) : putK l k = l.take (placeK l k) ++ (k :: (l.drop (placeK l k)).filter (fun x => !spotK x k)) := by
  unfold putK placeK
  induction l with
  | nil => rfl
  | cons x t ih =>
    rw [List.findIdx_cons]
    cases h : lessK x k
    · simp only [putGo, h, Bool.not_false, Bool.and_true, cond_true, Bool.or_true, if_true, putGo_true, List.take_zero, List.nil_append, List.drop_zero]
      cases h2 : spotK x k <;> simp [h2]
    · have h2 := less_spot h
      simp only [putGo, h, Bool.not_true, Bool.and_false, cond_false, Bool.or_false, Bool.false_eq_true, if_false, List.nil_append, h2, Bool.not_false, if_true, ih]
      simp
theorem putGo_len (k : KeyD) (l : List KeyD) (d : Bool) : (putGo k l d).length ≤ l.length + 1 := by
  induction l generalizing d with
  | nil => cases d <;> simp [putGo]
  | cons x t ih =>
    cases d
    · cases h : lessK x k
      · have := List.length_filter_le (fun x => !spotK x k) t
        simp only [putGo, h, Bool.not_false, Bool.and_true, if_true, Bool.or_true, putGo_true, List.length_append, List.length_cons, List.length_nil]
        split <;> simp <;> omega
      · have := ih false
        simp only [putGo, h, Bool.not_true, Bool.and_false, Bool.false_eq_true, if_false, List.nil_append, Bool.or_false, List.length_append, List.length_cons]
        split <;> simp <;> omega
    · have := ih true
      simp only [putGo, Bool.not_true, Bool.false_and, Bool.false_eq_true, if_false, Bool.true_or, List.nil_append, List.length_append, List.length_cons]
      split <;> simp <;> omega
theorem putK_len (l : List KeyD) (k : KeyD) : (putK l k).length ≤ l.length + 1 := putGo_len k l false
theorem mergeK_len (a b : List KeyD) : (mergeK a b).length ≤ a.length + b.length := by
  unfold mergeK
  induction b generalizing a with
  | nil => simp
  | cons k b ih =>
    have h1 := ih (putK a k)
    have h2 := putK_len a k
    simp only [List.foldl_cons, List.length_cons]
    omega
theorem dropK_len (l : List KeyD) : (dropK l).length ≤ l.length := List.length_filter_le _ _
theorem place_le (l : List KeyD) (k : KeyD) : placeK l k ≤ l.length := List.findIdx_le_length
theorem drop_at {l : List KeyD} {k : Nat} (h : k < l.length) : l.drop k = l[k] :: l.drop (k + 1) := List.drop_eq_getElem_cons h
end Go.Proofs.Ytmpgmjnagpiijaa
