/- Contracts of the draws of FnNodesBent: spec.DrawNodeOk, DrawNodeAt, DrawNodeKeys, DrawNodePut, DrawNodeNew, DrawNodePack. Conditions: the code drawn from has at most 2^20 bytes. -/
import Derived.Test.YtncjedbdkanleaaDrawNode3
namespace Go.Proofs.Ytncjedbdkanleaa
open Go.RowKit
set_option maxRecDepth 100000
set_option linter.unusedSimpArgs false
set_option linter.unusedVariables false

def DNodeA (w : World) (e : Ending) (w' : World) : Prop := ∃ v ns, e = .returned (.agg #[v]) ∧ Owns w' (fun b => w.heap.size ≤ b) v (setsD ns) ∧ ns.length ≤ 5 ∧ sumN ns ≤ 20 ∧ Below w.heap.size w w'
def DNodeAt (w : World) (e : Ending) (w' : World) : Prop := ∃ v ns x y, e = .returned (.tuple #[.agg #[v], .int .i64 x, .int .i64 y]) ∧ Owns w' (fun b => w.heap.size ≤ b) v (setsD ns) ∧ ns.length ≤ 5 ∧ sumN ns ≤ 20 ∧ Below w.heap.size w w'
def DNodePut (w : World) (e : Ending) (w' : World) : Prop := ∃ v ns x, e = .returned (.tuple #[.agg #[v], KeyD.v x]) ∧ Owns w' (fun b => w.heap.size ≤ b) v (setsD ns) ∧ ns.length ≤ 5 ∧ sumN ns ≤ 20 ∧ Below w.heap.size w w'
theorem drawNodeOk_any (A : Option Addr) (cap : Nat) (l : List UInt8) (w : World) (hr : Rd w w.heap.size A l) (hn : l.length ≤ 1048576) : Calls Try.prog 21 #[.slice A l.length cap] w (DNodeA w) := by
  have q0 := Lib.hid (al1 w (.cells #[.slice none 0 0] 26))
  have b0 := bal1 w (.cells #[.slice none 0 0] 26)
  have HR := Lib.hid (hr.on b0)
  have HZ : Hid ((w.alloc (.cells #[.slice none 0 0] 26)).heap.size = w.heap.size + 1) := Lib.hid (by simp)
  have B0 := Lib.hid b0
  clear hr b0
  go_enter Try.func21, Try.ntmps21
  go_wp2_with fail
  refine (l1New_any _ _ l _ HR.out hn).mono ?_
  rintro r w1 ⟨p, rfl, c1, hp, b1⟩
  rw [HZ.out] at hp
  have Q1 := Lib.hid (box_on q0.out b1)
  have B1 := Lib.hid (bstep B0.out b1)
  have hz := B1.out.size
  have hzq := (Array.getElem?_eq_some_iff.1 Q1.out).1
  have hlt := c1.lt
  clear HR q0 b1 B0 HZ
  go_wp2_with fail
  refine (l5Any_any p _ c1).mono ?_
  rintro r w2 ⟨v, ns, rfl, o2, hl, hs, c2, g2⟩
  obtain ⟨A2, d2, rfl, _, _⟩ := o2.reads.lenN
  have O2 := Lib.hid o2
  have Q2 := Lib.hid (box_grows Q1.out g2 (by omega))
  have B2 := Lib.hid (below_of_only B1.out g2 (by omega))
  clear o2 Q1 B1 g2 c1
  clear c2
  obtain ⟨z0, z1⟩ := box1N Q2.out
  go_wp2
  refine bodyPost_ret (v := .agg #[.slice A2 ns.length d2]) (by simp [results, Try.results21, go_sem, z0, z1]) rfl ⟨_, ns, rfl, (O2.out.setFar (by omega)).mono (fun b hb => by omega), hl, hs, B2.out.setCell (Nat.le_refl _) _⟩
theorem drawNodeKeys_any (A : Option Addr) (cap : Nat) (l : List UInt8) (w : World) (hr : Rd w w.heap.size A l) (hn : l.length ≤ 1048576) : Calls Try.prog 24 #[.slice A l.length cap] w (DNodeA w) := by
  have q0 := Lib.hid (al1 w (.cells #[.slice none 0 0] 26))
  have b0 := bal1 w (.cells #[.slice none 0 0] 26)
  have HR := Lib.hid (hr.on b0)
  have HZ : Hid ((w.alloc (.cells #[.slice none 0 0] 26)).heap.size = w.heap.size + 1) := Lib.hid (by simp)
  have B0 := Lib.hid b0
  clear hr b0
  go_enter Try.func24, Try.ntmps24
  go_wp2_with fail
  refine (l1New_any _ _ l _ HR.out hn).mono ?_
  rintro r w1 ⟨p, rfl, c1, hp, b1⟩
  rw [HZ.out] at hp
  have Q1 := Lib.hid (box_on q0.out b1)
  have B1 := Lib.hid (bstep B0.out b1)
  have hz := B1.out.size
  have hzq := (Array.getElem?_eq_some_iff.1 Q1.out).1
  have hlt := c1.lt
  clear HR q0 b1 B0 HZ
  go_wp2_with fail
  refine (l5Any_any p _ c1).mono ?_
  rintro r w2 ⟨v, ns, rfl, o2, hl, hs, c2, g2⟩
  obtain ⟨A2, d2, rfl, _, _⟩ := o2.reads.lenN
  have O2 := Lib.hid o2
  have Q2 := Lib.hid (box_grows Q1.out g2 (by omega))
  have B2 := Lib.hid (below_of_only B1.out g2 (by omega))
  clear o2 Q1 B1 g2 c1
  clear c2
  obtain ⟨z0, z1⟩ := box1N Q2.out
  go_wp2
  refine bodyPost_ret (v := .agg #[.slice A2 ns.length d2]) (by simp [results, Try.results24, go_sem, z0, z1]) rfl ⟨_, ns, rfl, (O2.out.setFar (by omega)).mono (fun b hb => by omega), hl, hs, B2.out.setCell (Nat.le_refl _) _⟩
theorem drawNodePack_any (A : Option Addr) (cap : Nat) (l : List UInt8) (w : World) (hr : Rd w w.heap.size A l) (hn : l.length ≤ 1048576) : Calls Try.prog 28 #[.slice A l.length cap] w (DNodeA w) := by
  have q0 := Lib.hid (al1 w (.cells #[.slice none 0 0] 26))
  have b0 := bal1 w (.cells #[.slice none 0 0] 26)
  have HR := Lib.hid (hr.on b0)
  have HZ : Hid ((w.alloc (.cells #[.slice none 0 0] 26)).heap.size = w.heap.size + 1) := Lib.hid (by simp)
  have B0 := Lib.hid b0
  clear hr b0
  go_enter Try.func28, Try.ntmps28
  go_wp2_with fail
  refine (l1New_any _ _ l _ HR.out hn).mono ?_
  rintro r w1 ⟨p, rfl, c1, hp, b1⟩
  rw [HZ.out] at hp
  have Q1 := Lib.hid (box_on q0.out b1)
  have B1 := Lib.hid (bstep B0.out b1)
  have hz := B1.out.size
  have hzq := (Array.getElem?_eq_some_iff.1 Q1.out).1
  have hlt := c1.lt
  clear HR q0 b1 B0 HZ
  go_wp2_with fail
  refine (l5Any_any p _ c1).mono ?_
  rintro r w2 ⟨v, ns, rfl, o2, hl, hs, c2, g2⟩
  obtain ⟨A2, d2, rfl, _, _⟩ := o2.reads.lenN
  have O2 := Lib.hid o2
  have Q2 := Lib.hid (box_grows Q1.out g2 (by omega))
  have B2 := Lib.hid (below_of_only B1.out g2 (by omega))
  clear o2 Q1 B1 g2 c1
  clear c2
  obtain ⟨z0, z1⟩ := box1N Q2.out
  go_wp2
  refine bodyPost_ret (v := .agg #[.slice A2 ns.length d2]) (by simp [results, Try.results28, go_sem, z0, z1]) rfl ⟨_, ns, rfl, (O2.out.setFar (by omega)).mono (fun b hb => by omega), hl, hs, B2.out.setCell (Nat.le_refl _) _⟩
theorem drawNodeAt_any (A : Option Addr) (cap : Nat) (l : List UInt8) (w : World) (hr : Rd w w.heap.size A l) (hn : l.length ≤ 1048576) : Calls Try.prog 22 #[.slice A l.length cap] w (DNodeAt w) := by
  have q0 := Lib.hid (al1 w (.cells #[.slice none 0 0] 26))
  have b0 := bal1 w (.cells #[.slice none 0 0] 26)
  have HR := Lib.hid (hr.on b0)
  have HZ : Hid ((w.alloc (.cells #[.slice none 0 0] 26)).heap.size = w.heap.size + 1) := Lib.hid (by simp)
  have B0 := Lib.hid b0
  clear hr b0
  go_enter Try.func22, Try.ntmps22
  go_wp2_with fail
  refine (l1New_any _ _ l _ HR.out hn).mono ?_
  rintro r w1 ⟨p, rfl, c1, hp, b1⟩
  rw [HZ.out] at hp
  have Q1 := Lib.hid (box_on q0.out b1)
  have B1 := Lib.hid (bstep B0.out b1)
  have hz := B1.out.size
  have hzq := (Array.getElem?_eq_some_iff.1 Q1.out).1
  have hlt := c1.lt
  clear HR q0 b1 B0 HZ
  go_wp2_with fail
  refine (l5Any_any p _ c1).mono ?_
  rintro r w2 ⟨v, ns, rfl, o2, hl, hs, c2, g2⟩
  obtain ⟨A2, d2, rfl, _, _⟩ := o2.reads.lenN
  have O2 := Lib.hid o2
  have Q2 := Lib.hid (box_grows Q1.out g2 (by omega))
  have B2 := Lib.hid (below_of_only B1.out g2 (by omega))
  clear o2 Q1 B1 g2 c1
  go_wp2_with fail
  refine (l1Below_any p 4 _ c2 (by omega) (by omega)).mono ?_
  rintro r w3 ⟨x, hx, rfl, c3, g3⟩
  go_wp2_with fail
  refine (l1Below_any p 5 _ c3 (by omega) (by omega)).mono ?_
  rintro r w4 ⟨y, hy, rfl, c4, g4⟩
  replace O2 := Lib.hid ((O2.out.farP g3 hlt).farP g4 hlt)
  replace Q2 := Lib.hid (box_grows (box_grows Q2.out g3 (by omega)) g4 (by omega))
  replace B2 := Lib.hid (below_of_only (below_of_only B2.out g3 (by omega)) g4 (by omega))
  clear c2 c3 g3 c4 g4
  obtain ⟨z0, z1⟩ := box1N Q2.out
  have i1 : IntKind.i64.wrap (1 + (y : Int)) = 1 + (y : Int) := by rw [IntKind.wrap_i64]; omega
  go_wp2
  refine bodyPost_ret (v := .tuple #[.agg #[.slice A2 ns.length d2], .int .i64 (x : Int), .int .i64 (1 + (y : Int))]) (by simp [results, Try.results22, go_sem, z0, z1]) rfl ⟨_, ns, _, _, rfl, (O2.out.setFar (by omega)).mono (fun b hb => by omega), hl, hs, B2.out.setCell (Nat.le_refl _) _⟩
theorem drawNodePut_any (A : Option Addr) (cap : Nat) (l : List UInt8) (w : World) (hr : Rd w w.heap.size A l) (hn : l.length ≤ 1048576) : Calls Try.prog 25 #[.slice A l.length cap] w (DNodePut w) := by
  have B0 := bal2 w (.cells #[.slice none 0 0] 26) (.cells #[.int .i64 0, .int .i64 0, .int .i64 0, .int .i64 0, .int .i64 0] 28)
  obtain ⟨q0, q1⟩ := al2 w (.cells #[.slice none 0 0] 26) (.cells #[.int .i64 0, .int .i64 0, .int .i64 0, .int .i64 0, .int .i64 0] 28)
  have HB := Lib.hid B0
  have Q0 := Lib.hid q0
  have Q1 := Lib.hid q1
  have HR := Lib.hid (hr.on B0)
  have HA := Lib.hid l3Any_any
  unfold AnyKey keyV at HA
  have HZ : Hid (((w.alloc (.cells #[.slice none 0 0] 26)).alloc (.cells #[.int .i64 0, .int .i64 0, .int .i64 0, .int .i64 0, .int .i64 0] 28)).heap.size = w.heap.size + 2) := Lib.hid (by simp)
  clear hr B0 q0 q1
  go_enter Try.func25, Try.ntmps25
  go_upto_region 1 with (fail)
  generalize (w.alloc (.cells #[.slice none 0 0] 26)).alloc (.cells #[.int .i64 0, .int .i64 0, .int .i64 0, .int .i64 0, .int .i64 0] 28) = W at *
  have hz1 := Nat.le_of_eq HZ.out
  have hz2 := Nat.le_of_eq HZ.out.symm
  clear HZ
  go_wp2_with fail
  refine (l1New_any _ _ l _ HR.out hn).mono ?_
  rintro r w1 ⟨p, rfl, c1, hp, b1⟩
  have Q2 := Lib.hid (box_on Q0.out b1)
  have Q3 := Lib.hid (box_on Q1.out b1)
  have B1 := Lib.hid (bstep HB.out b1)
  have hz3 := b1.size
  have hlt := c1.lt
  clear b1 Q0 Q1 HR HB
  go_wp2_with fail
  refine (l5Any_any p w1 c1).mono ?_
  rintro r w2 ⟨u, ns, rfl, o2, hl, hs, c2, g2⟩
  obtain ⟨Au, cu, rfl, _, _⟩ := o2.reads.lenN
  have O2 := Lib.hid o2
  have Q4 := Lib.hid (box_grows Q2.out g2 (by omega))
  have Q5 := Lib.hid (box_grows Q3.out g2 (by omega))
  have B2 := Lib.hid (below_of_only B1.out g2 (by omega))
  clear o2 Q2 Q3 B1 g2 c1
  go_wp2_with fail
  refine (HA.out p _ c2).mono ?_
  rintro r w3 ⟨xa, xb, xc, xd, xe, rfl, c3, g3⟩
  replace O2 := Lib.hid (O2.out.farP g3 hlt)
  replace Q4 := Lib.hid (box_grows Q4.out g3 (by omega))
  replace Q5 := Lib.hid (box_grows Q5.out g3 (by omega))
  replace B2 := Lib.hid (below_of_only B2.out g3 (by omega))
  clear c2 c3 g3 HA
  obtain ⟨x0, x1⟩ := box1N Q4.out
  obtain ⟨y0, y1, y2, y3, y4, y5⟩ := box5 Q5.out
  have n1 : ¬ w.heap.size = w.heap.size + 1 := by omega
  have n2 : ¬ w.heap.size + 1 = w.heap.size := by omega
  go_wp2
  refine bodyPost_ret (v := .tuple #[.agg #[.slice Au ns.length cu], KeyD.v ⟨xa, xb, xc, xd, xe⟩]) (by simp [results, Try.results25, go_sem, KeyD.v, keyV, x0, x1, y0, y1, y2, y3, y4, y5]) rfl ⟨_, ns, _, rfl, ?_, hl, hs, ?_⟩
  · exact (((((((O2.out.setFar (by omega)).setFar (by omega)).setFar (by omega)).setFar (by omega)).setFar (by omega)).setFar (by omega)).mono (fun b hb => by omega))
  · exact b5' (B2.out.setCell (p := ⟨w.heap.size, 0, none⟩) (Nat.le_refl _) (.slice Au ns.length cu)) (show w.heap.size ≤ w.heap.size + 1 by omega)
theorem drawNodeNew_any (A : Option Addr) (cap : Nat) (l : List UInt8) (w : World) (hr : Rd w w.heap.size A l) (hn : l.length ≤ 1048576) : Calls Try.prog 27 #[.slice A l.length cap] w (DKeys w 9) := by
  go_enter Try.func27, Try.ntmps27
  go_wp2_with fail
  refine (l1New_any _ _ l _ hr hn).mono ?_
  rintro r w1 ⟨p, rfl, c1, hp, b1⟩
  clear hr
  go_wp2_with fail
  refine (l4Any_any p 8 _ c1 (by omega)).mono ?_
  rintro r w2 ⟨v, a, rfl, o2, ha, c2, g2⟩
  have R2 := Lib.hid (o2.mono (base' := w.heap.size) b1.size)
  have B2 := Lib.hid (below_of_only b1 g2 hp)
  obtain ⟨A2, d2, rfl, _, _⟩ := o2.shape
  clear o2 c1 c2 g2 b1
  go_wp2
  go_ret
  exact ⟨_, a, rfl, R2.out, ha, B2.out⟩
end Go.Proofs.Ytncjedbdkanleaa
