/- Contracts for drawn keys: spec.l3Draw returns a valid key of small fields, spec.l3Any some key; both turn nothing but the cursor's own block and new memory. No condition. -/
import Derived.Test.YtncjedbdkanleaaDrawB
import Derived.Test.YtncjedbdkanleaaKeyLaw
import Derived.Deep.DeepCutAuto
namespace Go.Proofs.Ytncjedbdkanleaa
open Go.RowKit
set_option maxRecDepth 100000
set_option linter.unusedSimpArgs false
set_option linter.unusedVariables false

def SmallK (a b c d e : Int) : Prop := (0 ≤ a ∧ a ≤ 3) ∧ (1 ≤ b ∧ b ≤ 5) ∧ keyOkB a b c d e = true
def AKey (w : World) (p : Nat) (r : Ending) (w' : World) : Prop := ∃ a b c d e, r = .returned (keyV a b c d e) ∧ SmallK a b c d e ∧ Cur w' p ∧ w.grownBy w' (some p)
def AnyKey (w : World) (p : Nat) (r : Ending) (w' : World) : Prop := ∃ a b c d e, r = .returned (keyV a b c d e) ∧ Cur w' p ∧ w.grownBy w' (some p)
theorem only_setNew {a w : World} {p g j : Nat} (h : a.grownBy w (some p)) (hg : a.heap.size ≤ g) (u : Value) : a.grownBy (w.setCell ⟨g, j, none⟩ u) (some p) :=
  ⟨h.os, h.tape, h.output, by simpa [World.setCell] using h.size, fun i hi hne => (Below.heap_setCell w ⟨g, j, none⟩ u i (by simp; omega)).trans (h.block i hi hne)⟩
theorem Cur.setNew {w : World} {p g j : Nat} (h : Cur w p) (hg : p < g) (u : Value) : Cur (w.setCell ⟨g, j, none⟩ u) p := h.keep (fun k hk => Below.heap_setCell w ⟨g, j, none⟩ u k (by simp; omega))
theorem box_grows {w w' : World} {b p : Nat} {o : Obj} (q : w.heap[b]? = some o) (hg : w.grownBy w' (some p)) (hne : b ≠ p) : w'.heap[b]? = some o := (hg.block b (Array.getElem?_eq_some_iff.1 q).1 (fun e => hne (by injection e))).trans q
def kindList : List Int := [0, 1, 1, 1, 2]
def genList : List Int := [0, 1, 256, 999]
theorem kindList_ok : ∀ x ∈ kindList, x = 0 ∨ x = 1 ∨ x = 2 := by decide
theorem genList_ok : ∀ x ∈ genList, 0 ≤ x ∧ x ≤ 999 := by decide
set_option maxHeartbeats 2000000 in
theorem l3Draw_any (p : Nat) (w : World) (hc : Cur w p) : Calls Try.prog 48 #[.pointer (some ⟨p, 0, none⟩)] w (AKey w p) := by
  have hlt := hc.lt
  have q0 := Lib.hid (al1 w (.cells #[.int .i64 0, .int .i64 0, .int .i64 0, .int .i64 0, .int .i64 0] 28))
  have G0 := Lib.hid (only_start w (.cells #[.int .i64 0, .int .i64 0, .int .i64 0, .int .i64 0, .int .i64 0] 28) (some p))
  have C0 := Lib.hid (hc.alloc (.cells #[.int .i64 0, .int .i64 0, .int .i64 0, .int .i64 0, .int .i64 0] 28))
  clear hc
  go_enter Try.func48, Try.ntmps48
  go_wp2_with fail
  refine (l1Below_any p 4 _ C0.out (by omega) (by omega)).mono ?_
  rintro r w1 ⟨a, ha, rfl, c1, g1⟩
  replace q0 := Lib.hid (box_grows q0.out g1 (by omega))
  replace G0 := Lib.hid (only_trans G0.out g1)
  replace C0 := Lib.hid c1
  clear c1 g1
  go_wp2_with fail
  refine (l1Below_any p 5 _ C0.out (by omega) (by omega)).mono ?_
  rintro r w2 ⟨b, hb, rfl, c1, g1⟩
  replace q0 := Lib.hid (box_grows q0.out g1 (by omega))
  replace G0 := Lib.hid (only_trans G0.out g1)
  replace C0 := Lib.hid c1
  have hz2 : w.heap.size < w2.heap.size := (Array.getElem?_eq_some_iff.1 q0.out).1
  clear c1 g1
  have H := Lib.hid (l1Int_any p w2.heap.size 5 kindList (w2.alloc (.cells (kindList.map (.int .i64 ·)).toArray 3)) (C0.out.alloc _) (Lies.new w2 _ _) (by simp) (by omega) (by decide) (by decide))
  have G3 := Lib.hid (only_alloc G0.out (.cells (kindList.map (.int .i64 ·)).toArray 3))
  have Q3 := Lib.hid (box_on q0.out (bal1 w2 (.cells (kindList.map (.int .i64 ·)).toArray 3)))
  clear q0 G0 C0
  go_wp2_with fail
  refine H.out.mono ?_
  rintro r w3 ⟨c, hcm, rfl, c3, g3⟩
  have hcc := kindList_ok c hcm
  have HCC := Lib.hid hcc
  have q3 := box_grows Q3.out g3 (by omega)
  have G4 := Lib.hid (only_trans G3.out g3)
  have hz3 : w.heap.size < w3.heap.size := (Array.getElem?_eq_some_iff.1 q3).1
  have hp3 := c3.lt
  have G5 := Lib.hid (only_alloc G4.out (.cells #[.int .i64 a, .int .i64 (1 + (b : Int)), .int .i64 c, .int .i64 0, .int .i64 0] 28))
  have C5 := Lib.hid (c3.alloc (.cells #[.int .i64 a, .int .i64 (1 + (b : Int)), .int .i64 c, .int .i64 0, .int .i64 0] 28))
  have Q5 := Lib.hid (box_on q3 (bal1 w3 (.cells #[.int .i64 a, .int .i64 (1 + (b : Int)), .int .i64 c, .int .i64 0, .int .i64 0] 28)))
  have K5 := Lib.hid (al1 w3 (.cells #[.int .i64 a, .int .i64 (1 + (b : Int)), .int .i64 c, .int .i64 0, .int .i64 0] 28))
  clear H G3 Q3 q3 G4 c3 g3 hcm hcc
  by_cases hc1 : c = 1
  · subst hc1
    go_wp2_with fail
    refine (l1Below_any p 24 _ C5.out (by omega) (by omega)).mono ?_
    rintro r w6 ⟨d, hd, rfl, c6, g6⟩
    have q6 := box_grows Q5.out g6 (by omega)
    have k6 := box_grows K5.out g6 (by omega)
    have G6 := Lib.hid (only_trans G5.out g6)
    have C6 := Lib.hid c6
    have hz6 := g6.size
    rw [World.size_alloc] at hz6
    obtain ⟨y0, y1, y2, y3, y4, y5⟩ := box5 k6
    have hp6 := c6.lt
    have k7 := box_set (i := 3) (u := .int .i64 (d : Int)) k6
    have q7 := box_far (j := 3) (u := .int .i64 (d : Int)) q6 (show w.heap.size ≠ w3.heap.size by omega)
    have G7 := Lib.hid (only_setNew (j := 3) G6.out (show w.heap.size ≤ w3.heap.size by omega) (.int .i64 (d : Int)))
    have C7 := Lib.hid (c6.setNew (j := 3) (show p < w3.heap.size by omega) (.int .i64 (d : Int)))
    have K7 := Lib.hid k7
    have Q7 := Lib.hid q7
    clear k6 q6 k7 q7 G5 C5 Q5 K5 c6 g6 G6 C6
    go_upto_region 4 with (fail)
    generalize w6.setCell ⟨w3.heap.size, 3, none⟩ (.int .i64 (d : Int)) = w7 at *
    have hz7 : w3.heap.size < w7.heap.size := (Array.getElem?_eq_some_iff.1 K7.out).1
    clear y0 y1 y2 y3 y4 y5
    have H := Lib.hid (l1Int_any p w7.heap.size 4 genList (w7.alloc (.cells (genList.map (.int .i64 ·)).toArray 3)) (C7.out.alloc _) (Lies.new w7 _ _) (by simp) (by omega) (by decide) (by decide))
    have G8 := Lib.hid (only_alloc G7.out (.cells (genList.map (.int .i64 ·)).toArray 3))
    have Q8 := Lib.hid (box_on Q7.out (bal1 w7 (.cells (genList.map (.int .i64 ·)).toArray 3)))
    have K8 := Lib.hid (box_on K7.out (bal1 w7 (.cells (genList.map (.int .i64 ·)).toArray 3)))
    clear G7 C7 K7 Q7
    go_wp2_with fail
    refine H.out.mono ?_
    rintro r w8 ⟨e, hem, rfl, c8, g8⟩
    have hee := genList_ok e hem
    have HEE := Lib.hid hee
    have q8 := box_grows Q8.out g8 (by omega)
    have k8 := box_grows K8.out g8 (by omega)
    have G9 := Lib.hid (only_trans G8.out g8)
    have C9 := Lib.hid c8
    obtain ⟨y0, y1, y2, y3, y4, y5⟩ := box5 k8
    obtain ⟨x0, x1, x2, x3, x4, x5⟩ := box5 q8
    have hne : ¬ w.heap.size = w3.heap.size := by omega
    have hp8 := c8.lt
    have FIN : Hid (∀ u, w.grownBy (((((((w8.setCell ⟨w3.heap.size, 4, none⟩ u).setCell ⟨w.heap.size, 0, none⟩ (.int .i64 a)).setCell ⟨w.heap.size, 1, none⟩ (.int .i64 (1 + (b : Int)))).setCell ⟨w.heap.size, 2, none⟩ (.int .i64 1)).setCell ⟨w.heap.size, 3, none⟩ (.int .i64 (d : Int))).setCell ⟨w.heap.size, 4, none⟩ u)) (some p) ∧ Cur (((((((w8.setCell ⟨w3.heap.size, 4, none⟩ u).setCell ⟨w.heap.size, 0, none⟩ (.int .i64 a)).setCell ⟨w.heap.size, 1, none⟩ (.int .i64 (1 + (b : Int)))).setCell ⟨w.heap.size, 2, none⟩ (.int .i64 1)).setCell ⟨w.heap.size, 3, none⟩ (.int .i64 (d : Int))).setCell ⟨w.heap.size, 4, none⟩ u)) p) := Lib.hid (fun u => ⟨only_setNew (only_setNew (only_setNew (only_setNew (only_setNew (only_setNew G9.out (by omega) _) (Nat.le_refl _) _) (Nat.le_refl _) _) (Nat.le_refl _) _) (Nat.le_refl _) _) (Nat.le_refl _) _, (((((c8.setNew (by omega) _).setNew hlt _).setNew hlt _).setNew hlt _).setNew hlt _).setNew hlt _⟩)
    have OKK : Hid (SmallK a (1 + (b : Int)) 1 (d : Int) e) := Lib.hid ⟨by omega, by omega, by simp [keyOkB, tgtB]; omega⟩
    clear k8 q8 g8 c8 hem hee H
    go_wp2
    refine bodyPost_ret (v := keyV a (1 + (b : Int)) 1 d e) (by simp [results, Try.results48, go_sem, keyV, *]) rfl ⟨_, _, _, _, _, rfl, OKK.out, (FIN.out _).2, (FIN.out _).1⟩
  · have e1 : (c == 1) = false := by simp [hc1]
    have OKK : Hid (SmallK a (1 + (b : Int)) c 0 0) := Lib.hid ⟨by omega, by omega, by
      have h2 : c = 0 ∨ c = 2 := by have := HCC.out; omega
      simp [keyOkB, tgtB, hc1, h2]; omega⟩
    obtain ⟨y0, y1, y2, y3, y4, y5⟩ := box5 K5.out
    obtain ⟨x0, x1, x2, x3, x4, x5⟩ := box5 Q5.out
    have hne : ¬ w.heap.size = w3.heap.size := by omega
    clear hc1
    go_upto_region 5 with (fail)
    generalize w3.alloc (.cells #[.int .i64 a, .int .i64 (1 + (b : Int)), .int .i64 c, .int .i64 0, .int .i64 0] 28) = w5 at *
    have FIN : Hid (w.grownBy (((((w5.setCell ⟨w.heap.size, 0, none⟩ (.int .i64 a)).setCell ⟨w.heap.size, 1, none⟩ (.int .i64 (1 + (b : Int)))).setCell ⟨w.heap.size, 2, none⟩ (.int .i64 c)).setCell ⟨w.heap.size, 3, none⟩ (.int .i64 0)).setCell ⟨w.heap.size, 4, none⟩ (.int .i64 0)) (some p) ∧ Cur (((((w5.setCell ⟨w.heap.size, 0, none⟩ (.int .i64 a)).setCell ⟨w.heap.size, 1, none⟩ (.int .i64 (1 + (b : Int)))).setCell ⟨w.heap.size, 2, none⟩ (.int .i64 c)).setCell ⟨w.heap.size, 3, none⟩ (.int .i64 0)).setCell ⟨w.heap.size, 4, none⟩ (.int .i64 0)) p) := Lib.hid ⟨only_setNew (only_setNew (only_setNew (only_setNew (only_setNew G5.out (Nat.le_refl _) _) (Nat.le_refl _) _) (Nat.le_refl _) _) (Nat.le_refl _) _) (Nat.le_refl _) _, ((((C5.out.setNew hlt _).setNew hlt _).setNew hlt _).setNew hlt _).setNew hlt _⟩
    go_wp2
    exact bodyPost_ret (v := keyV a (1 + (b : Int)) c 0 0) (by simp [results, Try.results48, go_sem, keyV, *]) rfl ⟨_, _, _, _, _, rfl, OKK.out, FIN.out.2, FIN.out.1⟩
end Go.Proofs.Ytncjedbdkanleaa
