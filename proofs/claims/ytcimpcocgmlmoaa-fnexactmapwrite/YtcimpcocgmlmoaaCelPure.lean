/- What the functions on cells answer, as plain functions on lists. No condition: plain lemmas. -/
import Derived.Test.YtcimpcocgmlmoaaCell
namespace Go.Proofs.Ytcimpcocgmlmoaa
open Go.RowKit
set_option maxRecDepth 100000
set_option linter.unusedSimpArgs false
set_option linter.unusedVariables false

def wordB (n : Int) : Bool := decide (0 ≤ n) && decide (n ≤ 65535)
/-- A cell that may stand in a valid list. -/
def okC (x : CelD) : Bool := (decide (0 ≤ x.a) && decide (x.a ≤ 999)) && wordB x.c && (x.b || x.c == 0)
def celsOkB (l : List CelD) : Bool := l.all okC && decide (l.length = 24)
/-- The place of the first cell that is not used, or the length. -/
def idleI (l : List CelD) : Nat := l.findIdx (fun x => !x.b)
def takeB (l : List CelD) (n : Int) : Bool := celsOkB l && wordB n && decide (idleI l < l.length)
def takeL (l : List CelD) (n : Int) : List CelD := match l[idleI l]? with | none => l | some x => l.set (idleI l) ⟨x.a, true, n⟩
def takeK (l : List CelD) (n : Int) : List CelD := if takeB l n then takeL l n else l
def takeI (l : List CelD) (n : Int) : Int := if takeB l n then (idleI l : Int) else 0
def hasC (l : List CelD) (i : Int) : Bool := decide (0 ≤ i) && decide (i ≤ (l.length : Int) - 1)
def usedC (l : List CelD) (i : Int) : Bool := match l[i.toNat]? with | none => false | some x => x.b
def freeB (l : List CelD) (i : Int) : Bool := celsOkB l && hasC l i && usedC l i
def freeL (l : List CelD) (i : Nat) : List CelD := match l[i]? with | none => l | some x => l.set i ⟨(x.a + 1).tmod 1000, false, 0⟩
def freeK (l : List CelD) (i : Int) : List CelD := if freeB l i then freeL l i.toNat else l
def cellB (l : List CelD) (i g : Int) : Bool := hasC l i && usedC l i && (match l[i.toNat]? with | none => false | some x => x.a == g)
def cellK (l : List CelD) (i g : Int) : Int := if cellB l i g then (match l[i.toNat]? with | none => 0 | some x => x.c) else 0
def usedK (l : List CelD) : Nat := l.countP (fun x => x.b)
theorem idle_le (l : List CelD) : idleI l ≤ l.length := List.findIdx_le_length
theorem idle_step {l : List CelD} {k : Nat} (h : k < l.length) (hp : (l[k]).b = true) (hf : idleI l = k + idleI (l.drop k)) : idleI l = (k + 1) + idleI (l.drop (k + 1)) := by
  rw [cel_drop h] at hf
  unfold idleI at hf ⊢
  rw [List.findIdx_cons, hp] at hf
  simp only [Bool.not_true, cond_false] at hf
  omega
theorem idle_hit {l : List CelD} {k : Nat} (h : k < l.length) (hp : (l[k]).b = false) (hf : idleI l = k + idleI (l.drop k)) : idleI l = k := by
  rw [cel_drop h] at hf
  unfold idleI at hf ⊢
  rw [List.findIdx_cons, hp] at hf
  simpa using hf
theorem takeL_len (l : List CelD) (n : Int) : (takeL l n).length = l.length := by
  unfold takeL
  split <;> simp
theorem takeK_len (l : List CelD) (n : Int) : (takeK l n).length = l.length := by
  unfold takeK
  split
  · exact takeL_len l n
  · rfl
theorem freeL_len (l : List CelD) (i : Nat) : (freeL l i).length = l.length := by
  unfold freeL
  split <;> simp
theorem freeK_len (l : List CelD) (i : Int) : (freeK l i).length = l.length := by
  unfold freeK
  split
  · exact freeL_len l _
  · rfl
theorem takeL_at {l : List CelD} (n : Int) (h : idleI l < l.length) : takeL l n = l.set (idleI l) ⟨(l[idleI l]).a, true, n⟩ := by
  unfold takeL
  rw [List.getElem?_eq_getElem h]
theorem freeL_at {l : List CelD} {i : Nat} (h : i < l.length) : freeL l i = l.set i ⟨((l[i]).a + 1).tmod 1000, false, 0⟩ := by
  unfold freeL
  rw [List.getElem?_eq_getElem h]
theorem usedC_at {l : List CelD} {i : Nat} (h : i < l.length) : usedC l (i : Int) = (l[i]).b := by
  unfold usedC
  rw [Int.toNat_natCast, List.getElem?_eq_getElem h]
theorem used_take {l : List CelD} {k : Nat} (h : k < l.length) : usedK (l.take (k + 1)) = usedK (l.take k) + if (l[k]).b then 1 else 0 := by
  unfold usedK
  rw [List.take_succ_eq_append_getElem h, List.countP_append]
  simp [List.countP_cons]
theorem used_le (l : List CelD) : usedK l ≤ l.length := List.countP_le_length
theorem all_takeC {p : CelD → Bool} {l : List CelD} {k : Nat} (h : k < l.length) (hp : p l[k] = true) (ht : (l.take k).all p = true) : (l.take (k + 1)).all p = true := by
  rw [List.take_succ_eq_append_getElem h, List.all_append, ht]
  simp [hp]
theorem all_miss {p : CelD → Bool} {l : List CelD} {k : Nat} (h : k < l.length) (hp : p l[k] = false) : l.all p = false := by
  rw [List.all_eq_false]
  exact ⟨l[k], List.getElem_mem h, by rw [hp]; simp⟩
end Go.Proofs.Ytcimpcocgmlmoaa
