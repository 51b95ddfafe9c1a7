/- Contracts for impl.wordOk, hasCell, nextGen, CellAt, UsedCells, cellOk and CellsOk, and for spec.l1In, l1Word, CellAt, UsedCells and CellsOk, at cells. Conditions: at most 2^21 cells. -/
import Derived.Test.YtmpgmjnagpiijaaCelPure
namespace Go.Proofs.Ytmpgmjnagpiijaa
open Go.RowKit
set_option maxRecDepth 100000
set_option linter.unusedSimpArgs false
set_option linter.unusedVariables false

def SaysB (w : World) (b : Bool) (e : Ending) (w' : World) : Prop := e = .returned (.bool b) ∧ w = w'
theorem l1InC_any (a lo hi : Int) (w : World) : Calls Try.prog 47 #[.int .i64 a, .int .i64 lo, .int .i64 hi] w (SaysB w (decide (lo ≤ a) && decide (a ≤ hi))) := by
  by_cases h1 : lo ≤ a
  · by_cases h2 : a ≤ hi
    · rw [decide_eq_true h1, decide_eq_true h2]
      go_enter Try.func47, Try.ntmps47
      go_wp2
      go_ret
      exact ⟨rfl, rfl⟩
    · have h3 : hi < a := by omega
      rw [decide_eq_true h1, decide_eq_false h2]
      go_enter Try.func47, Try.ntmps47
      go_wp2
      go_ret
      exact ⟨rfl, rfl⟩
  · have h3 : a < lo := by omega
    rw [decide_eq_false h1, Bool.false_and]
    go_enter Try.func47, Try.ntmps47
    go_wp2
    go_ret
    exact ⟨rfl, rfl⟩
theorem hasC_yes {l : List CelD} {i : Int} (h : hasC l i = true) : ∃ k : Nat, i = (k : Int) ∧ k < l.length := by
  unfold hasC at h
  rw [Bool.and_eq_true] at h
  have h1 := of_decide_eq_true h.1
  have h2 := of_decide_eq_true h.2
  exact ⟨i.toNat, by omega, by omega⟩
theorem hasC_nat {l : List CelD} {k : Nat} (h : k < l.length) : hasC l (k : Int) = true := by
  unfold hasC
  rw [decide_eq_true (show (0 : Int) ≤ (k : Int) by omega), decide_eq_true (show (k : Int) ≤ (l.length : Int) - 1 by omega)]
  rfl
theorem hasCell_any (A : Option Addr) (c : Nat) (l : List CelD) (i : Int) (w : World) : Calls Try.prog 88 #[.slice A l.length c, .int .i64 i] w (SaysB w (hasC l i)) := by
  unfold hasC
  by_cases h1 : 0 ≤ i
  · by_cases h2 : i < (l.length : Int)
    · rw [decide_eq_true h1, decide_eq_true (show i ≤ (l.length : Int) - 1 by omega)]
      go_enter Try.func88, Try.ntmps88
      go_wp2
      go_ret
      exact ⟨rfl, rfl⟩
    · have h3 : (l.length : Int) ≤ i := by omega
      rw [decide_eq_true h1, decide_eq_false (show ¬ i ≤ (l.length : Int) - 1 by omega)]
      go_enter Try.func88, Try.ntmps88
      go_wp2
      go_ret
      exact ⟨rfl, rfl⟩
  · have h3 : i < 0 := by omega
    rw [decide_eq_false h1, Bool.false_and]
    go_enter Try.func88, Try.ntmps88
    go_wp2
    go_ret
    exact ⟨rfl, rfl⟩
def SaysCell (w : World) (n : Int) (b : Bool) (e : Ending) (w' : World) : Prop := e = .returned (.tuple #[.int .i64 n, .bool b]) ∧ w = w'
theorem cell_no {l : List CelD} {i g : Int} (h : cellB l i g = false) : cellK l i g = 0 := by
  unfold cellK
  rw [h]
  rfl
theorem cellB_has {l : List CelD} {i g : Int} (h : hasC l i = false) : cellB l i g = false := by
  unfold cellB
  rw [h]
  rfl
theorem cellB_used {l : List CelD} {k : Nat} {g : Int} (hk : k < l.length) (h : (l[k]).b = false) : cellB l (k : Int) g = false := by
  unfold cellB
  rw [usedC_at hk, h]
  simp
theorem cellB_at {l : List CelD} {k : Nat} {g : Int} (hk : k < l.length) (h : (l[k]).b = true) : cellB l (k : Int) g = ((l[k]).a == g) := by
  unfold cellB
  rw [usedC_at hk, h, hasC_nat hk, Int.toNat_natCast, List.getElem?_eq_getElem hk]
  rfl
theorem cellK_at {l : List CelD} {k : Nat} {g : Int} (hk : k < l.length) (h : cellB l (k : Int) g = true) : cellK l (k : Int) g = (l[k]).c := by
  unfold cellK
  rw [if_pos h, Int.toNat_natCast, List.getElem?_eq_getElem hk]
set_option maxHeartbeats 1000000 in
theorem implCellAt_any (v : Value) (l : List CelD) (i g : Int) (w : World) (hv : Reads w w.heap.size v (celsD l)) (hn : l.length ≤ 2097152) : Calls Try.prog 75 #[v, .int .i64 i, .int .i64 g] w (SaysCell w (cellK l i g) (cellB l i g)) := by
  obtain ⟨A, c, rfl, _, _⟩ := hv.shapeCel
  have HC := Lib.hid (hasCell_any A c l)
  cases hh : hasC l i
  · rw [cell_no (cellB_has hh), cellB_has hh]
    have HH := Lib.hid hh
    clear hh hv
    go_enter Try.func75, Try.ntmps75
    go_wp2_with fail
    refine (HC.out i _).mono ?_
    rintro e w1 ⟨rfl, rfl⟩
    rw [HH.out]
    go_wp2
    refine bodyPost_ret (v := .tuple #[.int .i64 0, .bool false]) (by simp [results, Try.results75, go_sem]) rfl ?_
    exact ⟨rfl, rfl⟩
  · obtain ⟨k, rfl, hk⟩ := hasC_yes hh
    obtain ⟨b, off, rfl, hbb, hc⟩ := hv.cels hk
    obtain ⟨c0, c1, c2⟩ := hc k hk
    have HH := Lib.hid hh
    have i1 : (k : Int) < (l.length : Int) := by omega
    have i2 : (0 : Int) ≤ (k : Int) := by omega
    clear hc hh hv
    cases hu : (l[k]).b
    · rw [cell_no (cellB_used hk hu), cellB_used hk hu]
      rw [hu] at c1
      go_enter Try.func75, Try.ntmps75
      go_wp2_with fail
      refine (HC.out _ _).mono ?_
      rintro e w1 ⟨rfl, rfl⟩
      rw [HH.out]
      go_wp2
      refine bodyPost_ret (v := .tuple #[.int .i64 0, .bool false]) (by simp [results, Try.results75, go_sem]) rfl ?_
      exact ⟨rfl, rfl⟩
    · rw [hu] at c1
      have HB := Lib.hid (cellB_at (g := g) hk hu)
      clear hu
      cases hs : ((l[k]).a != g)
      · have hb : cellB l (k : Int) g = true := by rw [HB.out]; simpa using hs
        rw [cellK_at hk hb, hb]
        clear hb
        go_enter Try.func75, Try.ntmps75
        go_wp2_with fail
        refine (HC.out _ _).mono ?_
        rintro e w1 ⟨rfl, rfl⟩
        rw [HH.out]
        go_wp2
        refine bodyPost_ret (v := .tuple #[.int .i64 (l[k]).c, .bool true]) (by simp [results, Try.results75, go_sem]) rfl ?_
        exact ⟨rfl, rfl⟩
      · have hb : cellB l (k : Int) g = false := by rw [HB.out]; simpa using hs
        rw [cell_no hb, hb]
        clear hb
        go_enter Try.func75, Try.ntmps75
        go_wp2_with fail
        refine (HC.out _ _).mono ?_
        rintro e w1 ⟨rfl, rfl⟩
        rw [HH.out]
        go_wp2
        refine bodyPost_ret (v := .tuple #[.int .i64 0, .bool false]) (by simp [results, Try.results75, go_sem]) rfl ?_
        exact ⟨rfl, rfl⟩
set_option maxHeartbeats 1000000 in
theorem specCellAt_any (v : Value) (l : List CelD) (i g : Int) (w : World) (hv : Reads w w.heap.size v (celsD l)) (hn : l.length ≤ 2097152) : Calls Try.prog 49 #[v, .int .i64 i, .int .i64 g] w (SaysCell w (cellK l i g) (cellB l i g)) := by
  obtain ⟨A, c, rfl, _, _⟩ := hv.shapeCel
  have HC : Hid (∀ (i : Int) (w : World), Calls Try.prog 47 #[.int .i64 i, .int .i64 0, .int .i64 ((l.length : Int) - 1)] w (SaysB w (hasC l i))) := Lib.hid (fun i w => l1InC_any i 0 ((l.length : Int) - 1) w)
  cases hh : hasC l i
  · rw [cell_no (cellB_has hh), cellB_has hh]
    have HH := Lib.hid hh
    clear hh hv
    go_enter Try.func49, Try.ntmps49
    go_wp2_with fail
    refine (HC.out i _).mono ?_
    rintro e w1 ⟨rfl, rfl⟩
    rw [HH.out]
    go_wp2
    refine bodyPost_ret (v := .tuple #[.int .i64 0, .bool false]) (by simp [results, Try.results49, go_sem]) rfl ?_
    exact ⟨rfl, rfl⟩
  · obtain ⟨k, rfl, hk⟩ := hasC_yes hh
    obtain ⟨b, off, rfl, hbb, hc⟩ := hv.cels hk
    obtain ⟨c0, c1, c2⟩ := hc k hk
    have HH := Lib.hid hh
    have i1 : (k : Int) < (l.length : Int) := by omega
    have i2 : (0 : Int) ≤ (k : Int) := by omega
    clear hc hh hv
    cases hu : (l[k]).b
    · rw [cell_no (cellB_used hk hu), cellB_used hk hu]
      rw [hu] at c1
      go_enter Try.func49, Try.ntmps49
      go_wp2_with fail
      refine (HC.out _ _).mono ?_
      rintro e w1 ⟨rfl, rfl⟩
      rw [HH.out]
      go_wp2
      refine bodyPost_ret (v := .tuple #[.int .i64 0, .bool false]) (by simp [results, Try.results49, go_sem]) rfl ?_
      exact ⟨rfl, rfl⟩
    · rw [hu] at c1
      have HB := Lib.hid (cellB_at (g := g) hk hu)
      clear hu
      cases hs : ((l[k]).a != g)
      · have hb : cellB l (k : Int) g = true := by rw [HB.out]; simpa using hs
        rw [cellK_at hk hb, hb]
        clear hb
        go_enter Try.func49, Try.ntmps49
        go_wp2_with fail
        refine (HC.out _ _).mono ?_
        rintro e w1 ⟨rfl, rfl⟩
        rw [HH.out]
        go_wp2
        refine bodyPost_ret (v := .tuple #[.int .i64 (l[k]).c, .bool true]) (by simp [results, Try.results49, go_sem]) rfl ?_
        exact ⟨rfl, rfl⟩
      · have hb : cellB l (k : Int) g = false := by rw [HB.out]; simpa using hs
        rw [cell_no hb, hb]
        clear hb
        go_enter Try.func49, Try.ntmps49
        go_wp2_with fail
        refine (HC.out _ _).mono ?_
        rintro e w1 ⟨rfl, rfl⟩
        rw [HH.out]
        go_wp2
        refine bodyPost_ret (v := .tuple #[.int .i64 0, .bool false]) (by simp [results, Try.results49, go_sem]) rfl ?_
        exact ⟨rfl, rfl⟩
theorem bal3C (w : World) (k : CelD) (e : TypeId) : Below w.heap.size w (w.alloc (.cells #[.int .i64 k.a, .bool k.b, .int .i64 k.c] e)) := bal1 _ _
end Go.Proofs.Ytmpgmjnagpiijaa
