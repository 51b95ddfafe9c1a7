/- Contracts for spec.DrawPutKey, DrawGetKey and DrawLessKey: whatever they draw, in memory of its own. Conditions: the code has at most 2^20 bytes. -/
import Derived.Test.YtkahjomkjhlkbaaDrawBend
import Derived.Test.YtkahjomkjhlkbaaKeyPut
import Derived.Deep.RegionHeld3
namespace Go.Proofs.Ytkahjomkjhlkbaa
open Go.RowKit
set_option maxRecDepth 100000

def DPutKey (w : World) (r : Ending) (w' : World) : Prop := ∃ g v l a b c d e, r = .returned (.tuple #[v, keyV a b c d e]) ∧ Own w' g v l ∧ l.length ≤ 3 ∧ Below w.heap.size w w'
set_option maxHeartbeats 2000000 in
theorem drawPutKey_any (A : Option Addr) (cap : Nat) (l : List UInt8) (w : World) (hr : Rd w w.heap.size A l) (hn : l.length ≤ 1048576) : Calls Try.prog 37 #[.slice A l.length cap] w (DPutKey w) := by
  have q0 := Lib.hid (al1 w (.cells #[.int .i64 0, .int .i64 0, .int .i64 0, .int .i64 0, .int .i64 0] 45))
  have b0 := bal1 w (.cells #[.int .i64 0, .int .i64 0, .int .i64 0, .int .i64 0, .int .i64 0] 45)
  have HR := Lib.hid (hr.on b0)
  have B0 := Lib.hid b0
  have hz0 : (w.alloc (.cells #[.int .i64 0, .int .i64 0, .int .i64 0, .int .i64 0, .int .i64 0] 45)).heap.size = w.heap.size + 1 := by simp
  have HZ0 := Lib.hid hz0
  clear hr b0 hz0
  go_enter Try.func37, Try.ntmps37
  go_wp2_with fail
  refine (l1New_any _ _ l _ HR.out hn).mono ?_
  rintro r w1 ⟨p, rfl, c1, hp, b1⟩
  rw [HZ0.out] at hp
  have B1 := Lib.hid (bstep B0.out b1)
  have Q1 := Lib.hid (box_on q0.out b1)
  clear b1 B0 q0 HZ0 HR
  go_wp2_with fail
  refine (l1Below_any p 4 _ c1 (by omega) (by omega)).mono ?_
  rintro r w2 ⟨j, hj, rfl, c2, g2⟩
  have B2 := Lib.hid (below_of_only B1.out g2 (by omega))
  have Q2 := Lib.hid (box_grows Q1.out g2 (by omega))
  have hp2 := c2.lt
  clear c1 g2 B1 Q1
  go_wp2_with fail
  refine (l1Bytes_any p j _ c2 (by omega)).mono ?_
  rintro r w3 ⟨g, v, m, rfl, o3, hm, hg3, c3, g3⟩
  have B3 := Lib.hid (below_of_only B2.out g3 (by omega))
  have Q3 := Lib.hid (box_grows Q2.out g3 (by omega))
  have hm3 : m.length ≤ 3 := by omega
  have hgp : p < g := by omega
  clear hm c2 g3 B2 Q2
  go_wp2_with fail
  refine (l3Any_any p _ c3).mono ?_
  rintro r w4 ⟨a, b, c, d, e, rfl, c4, g4⟩
  unfold keyV
  have B4 := Lib.hid (below_of_only B3.out g4 (by omega))
  have q4 := box_grows Q3.out g4 (by omega)
  have O4 := Lib.hid (o3.farB g4 (by omega))
  obtain ⟨x0, x1, x2, x3, x4, x5⟩ := box5 q4
  have hgw : w.heap.size < g := by omega
  obtain ⟨cv, rfl, _, _⟩ := o3.rd
  have FIN : Hid (Own (((((w4.setCell ⟨w.heap.size, 0, none⟩ (.int .i64 a)).setCell ⟨w.heap.size, 1, none⟩ (.int .i64 b)).setCell ⟨w.heap.size, 2, none⟩ (.int .i64 c)).setCell ⟨w.heap.size, 3, none⟩ (.int .i64 d)).setCell ⟨w.heap.size, 4, none⟩ (.int .i64 e)) g (.slice (some ⟨g, 0, none⟩) m.length cv) m ∧ Below w.heap.size w (((((w4.setCell ⟨w.heap.size, 0, none⟩ (.int .i64 a)).setCell ⟨w.heap.size, 1, none⟩ (.int .i64 b)).setCell ⟨w.heap.size, 2, none⟩ (.int .i64 c)).setCell ⟨w.heap.size, 3, none⟩ (.int .i64 d)).setCell ⟨w.heap.size, 4, none⟩ (.int .i64 e))) := Lib.hid ⟨O4.out.keep ((((((Below.heap_setCell _ _ _ _ (by simp; omega)).trans (Below.heap_setCell _ _ _ _ (by simp; omega))).trans (Below.heap_setCell _ _ _ _ (by simp; omega))).trans (Below.heap_setCell _ _ _ _ (by simp; omega))).trans (Below.heap_setCell _ _ _ _ (by simp; omega)))), ((((B4.out.setCell (p := ⟨w.heap.size, 0, none⟩) (Nat.le_refl _) _).setCell (p := ⟨w.heap.size, 1, none⟩) (Nat.le_refl _) _).setCell (p := ⟨w.heap.size, 2, none⟩) (Nat.le_refl _) _).setCell (p := ⟨w.heap.size, 3, none⟩) (Nat.le_refl _) _).setCell (p := ⟨w.heap.size, 4, none⟩) (Nat.le_refl _) _⟩
  clear q4 o3 c3 c4 g4 B3 Q3 B4 O4
  go_wp2
  exact bodyPost_ret (v := .tuple #[.slice (some ⟨g, 0, none⟩) m.length cv, keyV a b c d e]) (by simp [results, Try.results37, go_sem, keyV, *]) rfl ⟨g, _, m, a, b, c, d, e, rfl, FIN.out.1, hm3, FIN.out.2⟩
def DGetKey (w : World) (r : Ending) (w' : World) : Prop := ∃ g v l x, r = .returned (.tuple #[v, .int .i64 x]) ∧ Own w' g v l ∧ l.length ≤ 6 ∧ Below w.heap.size w w'
set_option maxHeartbeats 2000000 in
theorem drawGetKey_any (A : Option Addr) (cap : Nat) (l : List UInt8) (w : World) (hr : Rd w w.heap.size A l) (hn : l.length ≤ 1048576) : Calls Try.prog 39 #[.slice A l.length cap] w (DGetKey w) := by
  go_enter Try.func39, Try.ntmps39
  go_wp2_with fail
  refine (l1New_any _ _ l _ hr hn).mono ?_
  rintro r w1 ⟨p, rfl, c1, hp, b1⟩
  have B1 := Lib.hid (bstep b1 (bal1 w1 (.cells #[] 5)))
  have C1 := Lib.hid (c1.alloc (.cells #[] 5))
  have hz1 := b1.size
  clear b1 c1 hr
  go_wp2_with fail
  refine (l3Draw_any p _ C1.out).mono ?_
  rintro r w2 ⟨a, b, c, d, e, rfl, _, c2, g2⟩
  have B2 := Lib.hid (below_of_only B1.out g2 hp)
  have hp2 := c2.lt
  clear B1 C1 g2
  have H := Lib.hid (specPutKey_any (some ⟨w1.heap.size, 0, none⟩) 0 [] a b c d e w2 (.inl rfl) (by simp))
  rw [List.nil_append] at H
  have hle := encK_le a b c d e
  unfold keyV at H ⊢
  generalize encK a b c d e = E at *
  go_wp2_with fail
  refine H.out.mono ?_
  rintro r w3 ⟨g3, v3, rfl, o3, hg3, b3⟩
  have B3 := Lib.hid (bstep B2.out b3)
  have C3 := Lib.hid (c2.on b3)
  obtain ⟨c3, rfl, _, _⟩ := o3.rd
  have O3 := Lib.hid o3
  clear H B2 b3 c2 o3
  go_wp2_with fail
  refine (l1Bend_any p _ _ E _ C3.out O3.out.all (by omega)).mono ?_
  rintro r w4 ⟨g4, v4, m, rfl, o4, hm, hg4, c4, gr4⟩
  have B4 := Lib.hid (below_of_only B3.out gr4 hp)
  obtain ⟨c5, rfl, _, _⟩ := o4.rd
  have hp4 : p < g4 := by have := C3.out.lt; omega
  have O4 := Lib.hid o4
  clear B3 C3 gr4 o4
  go_wp2_with fail
  refine (l1At_any p _ m.length _ _ c4 (by omega)).mono ?_
  rintro r w5 ⟨x, rfl, _, g5⟩
  have B5 := Lib.hid (below_of_only B4.out g5 hp)
  have O5 := Lib.hid (O4.out.farB g5 (by omega))
  clear B4 O4 g5 c4
  go_wp2
  go_ret2
  exact ⟨g4, _, m, x, rfl, O5.out, by omega, B5.out⟩
end Go.Proofs.Ytkahjomkjhlkbaa
