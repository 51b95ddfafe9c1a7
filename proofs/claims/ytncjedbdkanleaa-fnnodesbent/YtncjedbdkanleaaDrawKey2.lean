/- The contract of spec.l3Any: some key. No condition. -/
import Derived.Test.YtncjedbdkanleaaDrawKey
namespace Go.Proofs.Ytncjedbdkanleaa
open Go.RowKit
set_option maxRecDepth 100000
set_option linter.unusedSimpArgs false
set_option linter.unusedVariables false

set_option maxHeartbeats 4000000 in
theorem l3Any_any (p : Nat) (w : World) (hc : Cur w p) : Calls Try.prog 63 #[.pointer (some ⟨p, 0, none⟩)] w (AnyKey w p) := by
  have hlt := hc.lt
  have q0 := Lib.hid (al1 w (.cells #[.int .i64 0, .int .i64 0, .int .i64 0, .int .i64 0, .int .i64 0] 28))
  have G0 := Lib.hid (only_start w (.cells #[.int .i64 0, .int .i64 0, .int .i64 0, .int .i64 0, .int .i64 0] 28) (some p))
  have C0 := Lib.hid (hc.alloc (.cells #[.int .i64 0, .int .i64 0, .int .i64 0, .int .i64 0, .int .i64 0] 28))
  clear hc
  go_enter Try.func63, Try.ntmps63
  go_wp2_with fail
  refine (l3Draw_any p _ C0.out).mono ?_
  rintro r w1 ⟨a, b, c, d, e, rfl, _, c1, g1⟩
  unfold keyV
  have q1 := box_grows q0.out g1 (by omega)
  have hz1 : w.heap.size < w1.heap.size := (Array.getElem?_eq_some_iff.1 q1).1
  have hp1 := c1.lt
  have Q2 := Lib.hid (box_on q1 (bal1 w1 (.cells #[.int .i64 a, .int .i64 b, .int .i64 c, .int .i64 d, .int .i64 e] 28)))
  have K2 := Lib.hid (al1 w1 (.cells #[.int .i64 a, .int .i64 b, .int .i64 c, .int .i64 d, .int .i64 e] 28))
  have G2 := Lib.hid (only_alloc (only_trans G0.out g1) (.cells #[.int .i64 a, .int .i64 b, .int .i64 c, .int .i64 d, .int .i64 e] 28))
  have C2 := Lib.hid (c1.alloc (.cells #[.int .i64 a, .int .i64 b, .int .i64 c, .int .i64 d, .int .i64 e] 28))
  clear q0 G0 C0 q1 c1 g1
  go_wp2_with fail
  refine (l1Below_any p 12 _ C2.out (by omega) (by omega)).mono ?_
  rintro r w3 ⟨j, hj, rfl, c3, g3⟩
  have Q3 := Lib.hid (box_grows Q2.out g3 (by omega))
  have K3 := Lib.hid (box_grows K2.out g3 (by omega))
  have G3 := Lib.hid (only_trans G2.out g3)
  have C3 := Lib.hid c3
  have hz3 : w1.heap.size < w3.heap.size := (Array.getElem?_eq_some_iff.1 K3.out).1
  have hp3 := c3.lt
  have hne : ¬ w.heap.size = w1.heap.size := by omega
  clear Q2 K2 G2 C2 c3 g3
  by_cases h5 : j < 5
  · have h5' : j = 0 ∨ j = 1 ∨ j = 2 ∨ j = 3 ∨ j = 4 := by omega
    clear h5 hj
    rcases h5' with rfl | rfl | rfl | rfl | rfl
    · -- field 0
      have H := Lib.hid (l1Int_any p w3.heap.size 3 ([-1, 15, 16] : List Int) (w3.alloc (.cells (([-1, 15, 16] : List Int).map (.int .i64 ·)).toArray 3)) (C3.out.alloc _) (Lies.new w3 _ _) (by simp) (by omega) (by decide) (by decide))
      have G4 := Lib.hid (only_alloc G3.out (.cells (([-1, 15, 16] : List Int).map (.int .i64 ·)).toArray 3))
      have Q4 := Lib.hid (box_on Q3.out (bal1 w3 (.cells (([-1, 15, 16] : List Int).map (.int .i64 ·)).toArray 3)))
      have K4 := Lib.hid (box_on K3.out (bal1 w3 (.cells (([-1, 15, 16] : List Int).map (.int .i64 ·)).toArray 3)))
      go_wp2_with fail
      refine H.out.mono ?_
      rintro r w5 ⟨u, _, rfl, c5, g5⟩
      have q5 := box_grows Q4.out g5 (by omega)
      have k5 := box_grows K4.out g5 (by omega)
      have G5 := Lib.hid (only_trans G4.out g5)
      obtain ⟨y0, y1, y2, y3, y4, y5⟩ := box5 k5
      obtain ⟨x0, x1, x2, x3, x4, x5⟩ := box5 q5
      have FIN : Hid (w.grownBy ((((((w5.setCell ⟨w1.heap.size, 0, none⟩ (.int .i64 u)).setCell ⟨w.heap.size, 0, none⟩ (.int .i64 u)).setCell ⟨w.heap.size, 1, none⟩ (.int .i64 b)).setCell ⟨w.heap.size, 2, none⟩ (.int .i64 c)).setCell ⟨w.heap.size, 3, none⟩ (.int .i64 d)).setCell ⟨w.heap.size, 4, none⟩ (.int .i64 e)) (some p) ∧ Cur ((((((w5.setCell ⟨w1.heap.size, 0, none⟩ (.int .i64 u)).setCell ⟨w.heap.size, 0, none⟩ (.int .i64 u)).setCell ⟨w.heap.size, 1, none⟩ (.int .i64 b)).setCell ⟨w.heap.size, 2, none⟩ (.int .i64 c)).setCell ⟨w.heap.size, 3, none⟩ (.int .i64 d)).setCell ⟨w.heap.size, 4, none⟩ (.int .i64 e)) p) := Lib.hid ⟨only_setNew (only_setNew (only_setNew (only_setNew (only_setNew (only_setNew G5.out (show w.heap.size ≤ w1.heap.size by omega) _) (Nat.le_refl _) _) (Nat.le_refl _) _) (Nat.le_refl _) _) (Nat.le_refl _) _) (Nat.le_refl _) _, ((((((((((c5.setNew (show p < w1.heap.size by omega) _).setNew hlt _)).setNew hlt _)).setNew hlt _)).setNew hlt _)).setNew hlt _)⟩
      clear H G4 Q4 K4 q5 k5 G5 c5 g5
      go_wp2
      exact bodyPost_ret (v := keyV u b c d e) (by simp [results, Try.results63, go_sem, keyV, *]) rfl ⟨_, _, _, _, _, rfl, FIN.out.2, FIN.out.1⟩
    · -- field 1
      have H := Lib.hid (l1Int_any p w3.heap.size 3 ([0, 60, 61] : List Int) (w3.alloc (.cells (([0, 60, 61] : List Int).map (.int .i64 ·)).toArray 3)) (C3.out.alloc _) (Lies.new w3 _ _) (by simp) (by omega) (by decide) (by decide))
      have G4 := Lib.hid (only_alloc G3.out (.cells (([0, 60, 61] : List Int).map (.int .i64 ·)).toArray 3))
      have Q4 := Lib.hid (box_on Q3.out (bal1 w3 (.cells (([0, 60, 61] : List Int).map (.int .i64 ·)).toArray 3)))
      have K4 := Lib.hid (box_on K3.out (bal1 w3 (.cells (([0, 60, 61] : List Int).map (.int .i64 ·)).toArray 3)))
      go_wp2_with fail
      refine H.out.mono ?_
      rintro r w5 ⟨u, _, rfl, c5, g5⟩
      have q5 := box_grows Q4.out g5 (by omega)
      have k5 := box_grows K4.out g5 (by omega)
      have G5 := Lib.hid (only_trans G4.out g5)
      obtain ⟨y0, y1, y2, y3, y4, y5⟩ := box5 k5
      obtain ⟨x0, x1, x2, x3, x4, x5⟩ := box5 q5
      have FIN : Hid (w.grownBy ((((((w5.setCell ⟨w1.heap.size, 1, none⟩ (.int .i64 u)).setCell ⟨w.heap.size, 0, none⟩ (.int .i64 a)).setCell ⟨w.heap.size, 1, none⟩ (.int .i64 u)).setCell ⟨w.heap.size, 2, none⟩ (.int .i64 c)).setCell ⟨w.heap.size, 3, none⟩ (.int .i64 d)).setCell ⟨w.heap.size, 4, none⟩ (.int .i64 e)) (some p) ∧ Cur ((((((w5.setCell ⟨w1.heap.size, 1, none⟩ (.int .i64 u)).setCell ⟨w.heap.size, 0, none⟩ (.int .i64 a)).setCell ⟨w.heap.size, 1, none⟩ (.int .i64 u)).setCell ⟨w.heap.size, 2, none⟩ (.int .i64 c)).setCell ⟨w.heap.size, 3, none⟩ (.int .i64 d)).setCell ⟨w.heap.size, 4, none⟩ (.int .i64 e)) p) := Lib.hid ⟨only_setNew (only_setNew (only_setNew (only_setNew (only_setNew (only_setNew G5.out (show w.heap.size ≤ w1.heap.size by omega) _) (Nat.le_refl _) _) (Nat.le_refl _) _) (Nat.le_refl _) _) (Nat.le_refl _) _) (Nat.le_refl _) _, ((((((((((c5.setNew (show p < w1.heap.size by omega) _).setNew hlt _)).setNew hlt _)).setNew hlt _)).setNew hlt _)).setNew hlt _)⟩
      clear H G4 Q4 K4 q5 k5 G5 c5 g5
      go_wp2
      exact bodyPost_ret (v := keyV a u c d e) (by simp [results, Try.results63, go_sem, keyV, *]) rfl ⟨_, _, _, _, _, rfl, FIN.out.2, FIN.out.1⟩
    · -- field 2
      have H := Lib.hid (l1Int_any p w3.heap.size 2 ([-1, 3] : List Int) (w3.alloc (.cells (([-1, 3] : List Int).map (.int .i64 ·)).toArray 3)) (C3.out.alloc _) (Lies.new w3 _ _) (by simp) (by omega) (by decide) (by decide))
      have G4 := Lib.hid (only_alloc G3.out (.cells (([-1, 3] : List Int).map (.int .i64 ·)).toArray 3))
      have Q4 := Lib.hid (box_on Q3.out (bal1 w3 (.cells (([-1, 3] : List Int).map (.int .i64 ·)).toArray 3)))
      have K4 := Lib.hid (box_on K3.out (bal1 w3 (.cells (([-1, 3] : List Int).map (.int .i64 ·)).toArray 3)))
      go_wp2_with fail
      refine H.out.mono ?_
      rintro r w5 ⟨u, _, rfl, c5, g5⟩
      have q5 := box_grows Q4.out g5 (by omega)
      have k5 := box_grows K4.out g5 (by omega)
      have G5 := Lib.hid (only_trans G4.out g5)
      obtain ⟨y0, y1, y2, y3, y4, y5⟩ := box5 k5
      obtain ⟨x0, x1, x2, x3, x4, x5⟩ := box5 q5
      have FIN : Hid (w.grownBy ((((((w5.setCell ⟨w1.heap.size, 2, none⟩ (.int .i64 u)).setCell ⟨w.heap.size, 0, none⟩ (.int .i64 a)).setCell ⟨w.heap.size, 1, none⟩ (.int .i64 b)).setCell ⟨w.heap.size, 2, none⟩ (.int .i64 u)).setCell ⟨w.heap.size, 3, none⟩ (.int .i64 d)).setCell ⟨w.heap.size, 4, none⟩ (.int .i64 e)) (some p) ∧ Cur ((((((w5.setCell ⟨w1.heap.size, 2, none⟩ (.int .i64 u)).setCell ⟨w.heap.size, 0, none⟩ (.int .i64 a)).setCell ⟨w.heap.size, 1, none⟩ (.int .i64 b)).setCell ⟨w.heap.size, 2, none⟩ (.int .i64 u)).setCell ⟨w.heap.size, 3, none⟩ (.int .i64 d)).setCell ⟨w.heap.size, 4, none⟩ (.int .i64 e)) p) := Lib.hid ⟨only_setNew (only_setNew (only_setNew (only_setNew (only_setNew (only_setNew G5.out (show w.heap.size ≤ w1.heap.size by omega) _) (Nat.le_refl _) _) (Nat.le_refl _) _) (Nat.le_refl _) _) (Nat.le_refl _) _) (Nat.le_refl _) _, ((((((((((c5.setNew (show p < w1.heap.size by omega) _).setNew hlt _)).setNew hlt _)).setNew hlt _)).setNew hlt _)).setNew hlt _)⟩
      clear H G4 Q4 K4 q5 k5 G5 c5 g5
      go_wp2
      exact bodyPost_ret (v := keyV a b u d e) (by simp [results, Try.results63, go_sem, keyV, *]) rfl ⟨_, _, _, _, _, rfl, FIN.out.2, FIN.out.1⟩
    · -- field 3
      have H := Lib.hid (l1Int_any p w3.heap.size 4 ([-1, 1, 23, 24] : List Int) (w3.alloc (.cells (([-1, 1, 23, 24] : List Int).map (.int .i64 ·)).toArray 3)) (C3.out.alloc _) (Lies.new w3 _ _) (by simp) (by omega) (by decide) (by decide))
      have G4 := Lib.hid (only_alloc G3.out (.cells (([-1, 1, 23, 24] : List Int).map (.int .i64 ·)).toArray 3))
      have Q4 := Lib.hid (box_on Q3.out (bal1 w3 (.cells (([-1, 1, 23, 24] : List Int).map (.int .i64 ·)).toArray 3)))
      have K4 := Lib.hid (box_on K3.out (bal1 w3 (.cells (([-1, 1, 23, 24] : List Int).map (.int .i64 ·)).toArray 3)))
      go_wp2_with fail
      refine H.out.mono ?_
      rintro r w5 ⟨u, _, rfl, c5, g5⟩
      have q5 := box_grows Q4.out g5 (by omega)
      have k5 := box_grows K4.out g5 (by omega)
      have G5 := Lib.hid (only_trans G4.out g5)
      obtain ⟨y0, y1, y2, y3, y4, y5⟩ := box5 k5
      obtain ⟨x0, x1, x2, x3, x4, x5⟩ := box5 q5
      have FIN : Hid (w.grownBy ((((((w5.setCell ⟨w1.heap.size, 3, none⟩ (.int .i64 u)).setCell ⟨w.heap.size, 0, none⟩ (.int .i64 a)).setCell ⟨w.heap.size, 1, none⟩ (.int .i64 b)).setCell ⟨w.heap.size, 2, none⟩ (.int .i64 c)).setCell ⟨w.heap.size, 3, none⟩ (.int .i64 u)).setCell ⟨w.heap.size, 4, none⟩ (.int .i64 e)) (some p) ∧ Cur ((((((w5.setCell ⟨w1.heap.size, 3, none⟩ (.int .i64 u)).setCell ⟨w.heap.size, 0, none⟩ (.int .i64 a)).setCell ⟨w.heap.size, 1, none⟩ (.int .i64 b)).setCell ⟨w.heap.size, 2, none⟩ (.int .i64 c)).setCell ⟨w.heap.size, 3, none⟩ (.int .i64 u)).setCell ⟨w.heap.size, 4, none⟩ (.int .i64 e)) p) := Lib.hid ⟨only_setNew (only_setNew (only_setNew (only_setNew (only_setNew (only_setNew G5.out (show w.heap.size ≤ w1.heap.size by omega) _) (Nat.le_refl _) _) (Nat.le_refl _) _) (Nat.le_refl _) _) (Nat.le_refl _) _) (Nat.le_refl _) _, ((((((((((c5.setNew (show p < w1.heap.size by omega) _).setNew hlt _)).setNew hlt _)).setNew hlt _)).setNew hlt _)).setNew hlt _)⟩
      clear H G4 Q4 K4 q5 k5 G5 c5 g5
      go_wp2
      exact bodyPost_ret (v := keyV a b c u e) (by simp [results, Try.results63, go_sem, keyV, *]) rfl ⟨_, _, _, _, _, rfl, FIN.out.2, FIN.out.1⟩
    · -- field 4
      have H := Lib.hid (l1Int_any p w3.heap.size 4 ([-1, 1, 999, 1000] : List Int) (w3.alloc (.cells (([-1, 1, 999, 1000] : List Int).map (.int .i64 ·)).toArray 3)) (C3.out.alloc _) (Lies.new w3 _ _) (by simp) (by omega) (by decide) (by decide))
      have G4 := Lib.hid (only_alloc G3.out (.cells (([-1, 1, 999, 1000] : List Int).map (.int .i64 ·)).toArray 3))
      have Q4 := Lib.hid (box_on Q3.out (bal1 w3 (.cells (([-1, 1, 999, 1000] : List Int).map (.int .i64 ·)).toArray 3)))
      have K4 := Lib.hid (box_on K3.out (bal1 w3 (.cells (([-1, 1, 999, 1000] : List Int).map (.int .i64 ·)).toArray 3)))
      go_wp2_with fail
      refine H.out.mono ?_
      rintro r w5 ⟨u, _, rfl, c5, g5⟩
      have q5 := box_grows Q4.out g5 (by omega)
      have k5 := box_grows K4.out g5 (by omega)
      have G5 := Lib.hid (only_trans G4.out g5)
      obtain ⟨y0, y1, y2, y3, y4, y5⟩ := box5 k5
      obtain ⟨x0, x1, x2, x3, x4, x5⟩ := box5 q5
      have FIN : Hid (w.grownBy ((((((w5.setCell ⟨w1.heap.size, 4, none⟩ (.int .i64 u)).setCell ⟨w.heap.size, 0, none⟩ (.int .i64 a)).setCell ⟨w.heap.size, 1, none⟩ (.int .i64 b)).setCell ⟨w.heap.size, 2, none⟩ (.int .i64 c)).setCell ⟨w.heap.size, 3, none⟩ (.int .i64 d)).setCell ⟨w.heap.size, 4, none⟩ (.int .i64 u)) (some p) ∧ Cur ((((((w5.setCell ⟨w1.heap.size, 4, none⟩ (.int .i64 u)).setCell ⟨w.heap.size, 0, none⟩ (.int .i64 a)).setCell ⟨w.heap.size, 1, none⟩ (.int .i64 b)).setCell ⟨w.heap.size, 2, none⟩ (.int .i64 c)).setCell ⟨w.heap.size, 3, none⟩ (.int .i64 d)).setCell ⟨w.heap.size, 4, none⟩ (.int .i64 u)) p) := Lib.hid ⟨only_setNew (only_setNew (only_setNew (only_setNew (only_setNew (only_setNew G5.out (show w.heap.size ≤ w1.heap.size by omega) _) (Nat.le_refl _) _) (Nat.le_refl _) _) (Nat.le_refl _) _) (Nat.le_refl _) _) (Nat.le_refl _) _, ((((((((((c5.setNew (show p < w1.heap.size by omega) _).setNew hlt _)).setNew hlt _)).setNew hlt _)).setNew hlt _)).setNew hlt _)⟩
      clear H G4 Q4 K4 q5 k5 G5 c5 g5
      go_wp2
      exact bodyPost_ret (v := keyV a b c d u) (by simp [results, Try.results63, go_sem, keyV, *]) rfl ⟨_, _, _, _, _, rfl, FIN.out.2, FIN.out.1⟩
  · have e0 : ((j : Int) == 0) = false := by simp; omega
    have e1 : ((j : Int) == 1) = false := by simp; omega
    have e2 : ((j : Int) == 2) = false := by simp; omega
    have e3 : ((j : Int) == 3) = false := by simp; omega
    have e4 : ((j : Int) == 4) = false := by simp; omega
    obtain ⟨y0, y1, y2, y3, y4, y5⟩ := box5 K3.out
    obtain ⟨x0, x1, x2, x3, x4, x5⟩ := box5 Q3.out
    have FIN : Hid (w.grownBy (((((w3.setCell ⟨w.heap.size, 0, none⟩ (.int .i64 a)).setCell ⟨w.heap.size, 1, none⟩ (.int .i64 b)).setCell ⟨w.heap.size, 2, none⟩ (.int .i64 c)).setCell ⟨w.heap.size, 3, none⟩ (.int .i64 d)).setCell ⟨w.heap.size, 4, none⟩ (.int .i64 e)) (some p) ∧ Cur (((((w3.setCell ⟨w.heap.size, 0, none⟩ (.int .i64 a)).setCell ⟨w.heap.size, 1, none⟩ (.int .i64 b)).setCell ⟨w.heap.size, 2, none⟩ (.int .i64 c)).setCell ⟨w.heap.size, 3, none⟩ (.int .i64 d)).setCell ⟨w.heap.size, 4, none⟩ (.int .i64 e)) p) := Lib.hid ⟨only_setNew (only_setNew (only_setNew (only_setNew (only_setNew (G3.out) (Nat.le_refl _) _) (Nat.le_refl _) _) (Nat.le_refl _) _) (Nat.le_refl _) _) (Nat.le_refl _) _, ((((((((((C3.out).setNew hlt _)).setNew hlt _)).setNew hlt _)).setNew hlt _)).setNew hlt _)⟩
    clear h5 hj Q3 K3
    go_wp2
    exact bodyPost_ret (v := keyV a b c d e) (by simp [results, Try.results63, go_sem, keyV, *]) rfl ⟨_, _, _, _, _, rfl, FIN.out.2, FIN.out.1⟩
end Go.Proofs.Ytncjedbdkanleaa
