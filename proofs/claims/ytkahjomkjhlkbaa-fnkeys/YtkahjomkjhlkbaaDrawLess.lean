/- The contract of spec.DrawLessKey: two keys. Conditions: the code has at most 2^20 bytes. -/
import Derived.Test.YtkahjomkjhlkbaaDrawKeys
import Derived.Deep.RegionHeld3
namespace Go.Proofs.Ytkahjomkjhlkbaa
open Go.RowKit
set_option maxRecDepth 100000

def DLessKey (w : World) (r : Ending) (w' : World) : Prop := ∃ a b c d e a' b' c' d' e', r = .returned (.tuple #[keyV a b c d e, keyV a' b' c' d' e']) ∧ Below w.heap.size w w'
set_option maxHeartbeats 4000000 in
theorem drawLessKey_any (A : Option Addr) (cap : Nat) (l : List UInt8) (w : World) (hr : Rd w w.heap.size A l) (hn : l.length ≤ 1048576) : Calls Try.prog 42 #[.slice A l.length cap] w (DLessKey w) := by
  obtain ⟨q0, q1⟩ := al2 w (.cells #[.int .i64 0, .int .i64 0, .int .i64 0, .int .i64 0, .int .i64 0] 45) (.cells #[.int .i64 0, .int .i64 0, .int .i64 0, .int .i64 0, .int .i64 0] 45)
  have b0 := bal2 w (.cells #[.int .i64 0, .int .i64 0, .int .i64 0, .int .i64 0, .int .i64 0] 45) (.cells #[.int .i64 0, .int .i64 0, .int .i64 0, .int .i64 0, .int .i64 0] 45)
  have hz0 : ((w.alloc (.cells #[.int .i64 0, .int .i64 0, .int .i64 0, .int .i64 0, .int .i64 0] 45)).alloc (.cells #[.int .i64 0, .int .i64 0, .int .i64 0, .int .i64 0, .int .i64 0] 45)).heap.size = w.heap.size + 2 := by simp
  have HR := Lib.hid (hr.on b0)
  have B0 := Lib.hid b0
  have Q0 := Lib.hid q0
  have Q1 := Lib.hid q1
  have HZ0 := Lib.hid hz0
  clear hr b0 hz0 q0 q1
  go_enter Try.func42, Try.ntmps42
  go_wp2_with fail
  refine (l1New_any _ _ l _ HR.out hn).mono ?_
  rintro r w1 ⟨p, rfl, c1, hp, b1⟩
  rw [HZ0.out] at hp
  replace B0 := Lib.hid (bstep B0.out b1)
  replace Q0 := Lib.hid (box_on Q0.out b1)
  replace Q1 := Lib.hid (box_on Q1.out b1)
  clear b1 HZ0 HR
  go_wp2_with fail
  refine (l3Any_any p _ c1).mono ?_
  rintro r w2 ⟨a, b, c, d, e, rfl, c2, g2⟩
  unfold keyV
  have hp2 := c2.lt
  have b2 := bal1 w2 (.cells #[.int .i64 a, .int .i64 b, .int .i64 c, .int .i64 d, .int .i64 e] 45)
  have B2 := Lib.hid (bstep (below_of_only B0.out g2 (by omega)) b2)
  have P0 := Lib.hid (box_on (box_grows Q0.out g2 (by omega)) b2)
  have P1 := Lib.hid (box_on (box_grows Q1.out g2 (by omega)) b2)
  have P2 := Lib.hid (al1 w2 (.cells #[.int .i64 a, .int .i64 b, .int .i64 c, .int .i64 d, .int .i64 e] 45))
  have C2 := Lib.hid (c2.alloc (.cells #[.int .i64 a, .int .i64 b, .int .i64 c, .int .i64 d, .int .i64 e] 45))
  clear B0 Q0 Q1 c1 c2 g2 b2
  go_upto_region 3 with (fail)
  generalize w2.alloc (.cells #[.int .i64 a, .int .i64 b, .int .i64 c, .int .i64 d, .int .i64 e] 45) = w3 at *
  obtain ⟨x0, x1, x2, x3, x4, x5⟩ := box5 P2.out
  have Cd : Hid (Cur w3.drew p) := Lib.hid (C2.out.keep (fun _ _ => rfl))
  have hne0 : w2.heap.size ≠ w.heap.size := by omega
  have hne1 : w2.heap.size ≠ w.heap.size + 1 := by omega
  have hne2 : w2.heap.size ≠ p := by omega
  have hnp0 : w.heap.size ≠ p := by omega
  have hnp1 : w.heap.size + 1 ≠ p := by omega
  have Bd : Hid (Below w.heap.size w w3.drew) := Lib.hid B2.out.drew
  have hpw : w.heap.size ≤ p := by omega
  go_region_held3 (fun V => V.cell? ⟨w2.heap.size, 0, none⟩ = some (.int .i64 a) ∧ V.cell? ⟨w2.heap.size, 1, none⟩ = some (.int .i64 b) ∧ V.cell? ⟨w2.heap.size, 2, none⟩ = some (.int .i64 c) ∧ V.cell? ⟨w2.heap.size, 3, none⟩ = some (.int .i64 d) ∧ V.cell? ⟨w2.heap.size, 4, none⟩ = some (.int .i64 e))
    (first | with_reducible exact ⟨x0, x1, x2, x3, x4⟩ | with_reducible exact key_held P5 | (simp [go_sem, *]; done) | fail)
    (first
      | (go_at_call 80; (with_reducible refine (l3Any_any p _ Cd.out).mono ?_); rintro r w4 ⟨a', b', c', d', e', rfl, c4, g4⟩; unfold keyV; have P5 := box_grows (show w3.drew.heap[w2.heap.size]? = _ from P2.out) g4 hne2; have S5 := box_grows (show w3.drew.heap[w.heap.size]? = _ from P0.out) g4 hnp0; have T5 := box_grows (show w3.drew.heap[w.heap.size + 1]? = _ from P1.out) g4 hnp1; have B5 := Lib.hid (below_of_only Bd.out g4 hpw); obtain ⟨y0, y1, y2, y3, y4, y5⟩ := box5 S5; obtain ⟨z0, z1, z2, z3, z4, z5⟩ := box5 T5; obtain ⟨u0, u1, u2, u3, u4, u5⟩ := box5 P5)
      | fail)
  all_goals
    have hn01 : w.heap.size ≠ w.heap.size + 1 := by omega
    have hn10 : w.heap.size + 1 ≠ w.heap.size := by omega
    have BF := Lib.hid ((((((((((B5.out.setCell (p := ⟨w.heap.size, 0, none⟩) (Nat.le_refl _) (.int .i64 a)).setCell (p := ⟨w.heap.size, 1, none⟩) (Nat.le_refl _) (.int .i64 b)).setCell (p := ⟨w.heap.size, 2, none⟩) (Nat.le_refl _) (.int .i64 c)).setCell (p := ⟨w.heap.size, 3, none⟩) (Nat.le_refl _) (.int .i64 d)).setCell (p := ⟨w.heap.size, 4, none⟩) (Nat.le_refl _) (.int .i64 e)).setCell (p := ⟨w.heap.size + 1, 0, none⟩) (show w.heap.size ≤ w.heap.size + 1 by omega) (.int .i64 a')).setCell (p := ⟨w.heap.size + 1, 1, none⟩) (show w.heap.size ≤ w.heap.size + 1 by omega) (.int .i64 b')).setCell (p := ⟨w.heap.size + 1, 2, none⟩) (show w.heap.size ≤ w.heap.size + 1 by omega) (.int .i64 c')).setCell (p := ⟨w.heap.size + 1, 3, none⟩) (show w.heap.size ≤ w.heap.size + 1 by omega) (.int .i64 d')).setCell (p := ⟨w.heap.size + 1, 4, none⟩) (show w.heap.size ≤ w.heap.size + 1 by omega) (.int .i64 e'))
    have sF := box_far (j := 4) (u := .int .i64 e') (box_far (j := 3) (u := .int .i64 d') (box_far (j := 2) (u := .int .i64 c') (box_far (j := 1) (u := .int .i64 b') (box_far (j := 0) (u := .int .i64 a') (box_set (i := 4) (u := .int .i64 e) (box_set (i := 3) (u := .int .i64 d) (box_set (i := 2) (u := .int .i64 c) (box_set (i := 1) (u := .int .i64 b) (box_set (i := 0) (u := .int .i64 a) (S5)))))) hn01) hn01) hn01) hn01) hn01
    have tF := box_set (i := 4) (u := .int .i64 e') (box_set (i := 3) (u := .int .i64 d') (box_set (i := 2) (u := .int .i64 c') (box_set (i := 1) (u := .int .i64 b') (box_set (i := 0) (u := .int .i64 a') (box_far (j := 4) (u := .int .i64 e) (box_far (j := 3) (u := .int .i64 d) (box_far (j := 2) (u := .int .i64 c) (box_far (j := 1) (u := .int .i64 b) (box_far (j := 0) (u := .int .i64 a) (T5) hn10) hn10) hn10) hn10) hn10)))))
    simp at sF tF
    obtain ⟨wF, hwF⟩ : ∃ wF, wF = ((((((((((w4.setCell ⟨w.heap.size, 0, none⟩ (.int .i64 a)).setCell ⟨w.heap.size, 1, none⟩ (.int .i64 b)).setCell ⟨w.heap.size, 2, none⟩ (.int .i64 c)).setCell ⟨w.heap.size, 3, none⟩ (.int .i64 d)).setCell ⟨w.heap.size, 4, none⟩ (.int .i64 e)).setCell ⟨w.heap.size + 1, 0, none⟩ (.int .i64 a')).setCell ⟨w.heap.size + 1, 1, none⟩ (.int .i64 b')).setCell ⟨w.heap.size + 1, 2, none⟩ (.int .i64 c')).setCell ⟨w.heap.size + 1, 3, none⟩ (.int .i64 d')).setCell ⟨w.heap.size + 1, 4, none⟩ (.int .i64 e')) := ⟨_, rfl⟩
    rw [← hwF] at sF tF BF ⊢
    clear hwF y0 y1 y2 y3 y4 y5 z0 z1 z2 z3 z4 z5 u0 u1 u2 u3 u4 u5 x0 x1 x2 x3 x4 x5 S5 T5 P5 g4 c4
    obtain ⟨y0, y1, y2, y3, y4, y5⟩ := box5 sF
    obtain ⟨z0, z1, z2, z3, z4, z5⟩ := box5 tF
    go_wp2
    exact bodyPost_ret (v := .tuple #[keyV a b c d e, keyV a' b' c' d' e']) (by simp [results, Try.results42, go_sem, keyV, *]) rfl ⟨_, _, _, _, _, _, _, _, _, _, rfl, BF.out⟩
end Go.Proofs.Ytkahjomkjhlkbaa
