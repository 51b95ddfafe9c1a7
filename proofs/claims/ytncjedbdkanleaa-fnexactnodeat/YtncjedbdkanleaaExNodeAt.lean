/- The walk of FnExactNodeAt: at every argument the call returns true and writes nothing that was there. No condition. -/
import Derived.Test.YtncjedbdkanleaaExNode
namespace Go.Proofs.Ytncjedbdkanleaa
open Go.RowKit
set_option maxRecDepth 100000
set_option linter.unusedSimpArgs false
set_option linter.unusedVariables false
set_option maxHeartbeats 4000000 in
theorem exactNodeAt_walk (v : Value) (ns : List (List KeyD)) (p q : Int) (w : World) (hv : NodeIs w v ns) (_ : (Lit.int .i64 p).wf = true) (_ : (Lit.int .i64 q).wf = true) : Calls Try.prog 6 #[v, .int .i64 p, .int .i64 q] w fun e w' => e = .returned (.bool true) ∧ Below w.heap.size w w' := by
  obtain ⟨v0, rfl, hv⟩ := hv
  obtain ⟨A, c, rfl, _, _⟩ := hv.lenN
  have HV := Lib.hid hv
  clear hv
  have BB := Lib.hid (bal1 w (.cells #[.slice A ns.length c] 49))
  have QN := Lib.hid (al1 w (.cells #[.slice A ns.length c] 49))
  have hWz : Hid ((w.alloc (.cells #[.slice A ns.length c] 49)).heap.size = w.heap.size + 1) := Lib.hid (by simp)
  by_cases hn : ns.length + sumN ns ≤ 1048576
  · have HT := Lib.hid (fun w' (b : Below w.heap.size w w') => toNode_any (.slice A ns.length c) ns w' (HV.out.on b) hn)
    have hs : Hid (SmallN ns) := Lib.hid ⟨by omega, by omega⟩
    have HE := Lib.hid eqKey_sameK
    have HS := Lib.hid specNodeAt_any
    have HI := Lib.hid implNodeAt_any
    unfold SaysFind KeyD.v keyV at HS HI
    unfold keyV at HE
    obtain ⟨x, hx⟩ : ∃ x, (nodeAtK ns p q).getD zK = x := ⟨_, rfl⟩
    obtain ⟨y, hy⟩ : ∃ y, (nodeAtK ns p q).isSome = y := ⟨_, rfl⟩
    have hne : (y != y) = false := by simp
    have HX := Lib.hid hx
    have HY := Lib.hid hy
    clear hx hy
    go_enter Try.func6, Try.ntmps6
    go_upto_region 1 with (fail)
    generalize w.alloc (.cells #[.slice A ns.length c] 49) = W at *
    have hWz1 := Nat.le_of_eq hWz.out
    have hWz2 := Nat.le_of_eq hWz.out.symm
    clear hWz
    obtain ⟨N0, N1⟩ := box1N QN.out
    go_wp2_with fail
    refine (szN_small _ ns _ (HV.out.on BB.out) hn).mono ?_
    clear N0 N1
    rintro r w0 ⟨⟨q0, rfl, hq0⟩, b⟩
    have z0 := b.size
    replace QN := Lib.hid (box_on QN.out b)
    replace BB := Lib.hid (bstep BB.out b)
    have d0 : decide (q0 < 0) = false := decide_eq_false (by omega)
    clear b hq0
    obtain ⟨N0, N1⟩ := box1N QN.out
    go_wp2_with fail
    refine (HT.out _ BB.out).mono ?_
    clear N0 N1
    rintro r w1 ⟨vT, rfl, o, b⟩
    have zT := b.size
    replace QN := Lib.hid (box_on QN.out b)
    replace BB := Lib.hid (bstep BB.out b)
    have OT := Lib.hid o.lt
    clear o b
    obtain ⟨AT, cT, rfl, _, _⟩ := OT.out.reads.lenN
    clear d0
    obtain ⟨N0, N1⟩ := box1N QN.out
    go_wp2_with fail
    refine (HS.out _ ns p q _ OT.out.reads hs.out).mono ?_
    clear N0 N1
    rintro r w2 ⟨rfl, b⟩
    have z2 := b.size
    replace OT := Lib.hid (OT.out.on b)
    replace QN := Lib.hid (box_on QN.out b)
    replace BB := Lib.hid (bstep BB.out b)
    clear b
    rw [HX.out, HY.out]
    clear OT
    have ba := bal1 w2 (.cells #[.int .i64 x.a, .int .i64 x.b, .int .i64 x.c, .int .i64 x.d, .int .i64 x.e] 28)
    have QR := Lib.hid (al1 w2 (.cells #[.int .i64 x.a, .int .i64 x.b, .int .i64 x.c, .int .i64 x.d, .int .i64 x.e] 28))
    have hw3 : (w2.alloc (.cells #[.int .i64 x.a, .int .i64 x.b, .int .i64 x.c, .int .i64 x.d, .int .i64 x.e] 28)).heap.size = w2.heap.size + 1 := by simp
    replace QN := Lib.hid (box_on QN.out ba)
    replace BB := Lib.hid (bstep BB.out ba)
    clear ba
    have yw3 := Lib.hid hw3
    clear hw3
    obtain ⟨N0, N1⟩ := box1N QN.out
    go_upto_region 6 with (fail)
    clear N0 N1
    generalize w2.alloc (.cells #[.int .i64 x.a, .int .i64 x.b, .int .i64 x.c, .int .i64 x.d, .int .i64 x.e] 28) = w3 at *
    have xw3 := Nat.le_of_eq yw3.out
    have uw3 := Nat.le_of_eq yw3.out.symm
    clear yw3
    obtain ⟨N0, N1⟩ := box1N QN.out
    obtain ⟨R0, R1, R2, R3, R4, R5⟩ := box5 QR.out
    go_wp2_with fail
    refine (HT.out _ BB.out).mono ?_
    clear N0 N1 R0 R1 R2 R3 R4 R5
    rintro r w4 ⟨vX, rfl, o, b⟩
    have zX := b.size
    replace QN := Lib.hid (box_on QN.out b)
    replace QR := Lib.hid (box_on QR.out b)
    replace BB := Lib.hid (bstep BB.out b)
    have OX := Lib.hid o.lt
    clear o b
    obtain ⟨AX, cX, rfl, _, _⟩ := OX.out.reads.lenN
    have ba := bal1 w4 (.cells #[.slice AX ns.length cX] 26)
    have QX := Lib.hid (al1 w4 (.cells #[.slice AX ns.length cX] 26))
    have hw5 : (w4.alloc (.cells #[.slice AX ns.length cX] 26)).heap.size = w4.heap.size + 1 := by simp
    replace OX := Lib.hid (OX.out.on ba)
    replace QN := Lib.hid (box_on QN.out ba)
    replace QR := Lib.hid (box_on QR.out ba)
    replace BB := Lib.hid (bstep BB.out ba)
    clear ba
    have yw5 := Lib.hid hw5
    clear hw5
    obtain ⟨N0, N1⟩ := box1N QN.out
    obtain ⟨R0, R1, R2, R3, R4, R5⟩ := box5 QR.out
    go_upto_region 7 with (fail)
    clear N0 N1 R0 R1 R2 R3 R4 R5
    generalize w4.alloc (.cells #[.slice AX ns.length cX] 26) = w5 at *
    have xw5 := Nat.le_of_eq yw5.out
    have uw5 := Nat.le_of_eq yw5.out.symm
    clear yw5
    obtain ⟨N0, N1⟩ := box1N QN.out
    obtain ⟨R0, R1, R2, R3, R4, R5⟩ := box5 QR.out
    obtain ⟨X0, X1⟩ := box1N QX.out
    go_wp2_with fail
    refine (HI.out _ ns p q _ OX.out.reads hs.out).mono ?_
    clear N0 N1 R0 R1 R2 R3 R4 R5 X0 X1
    rintro r w6 ⟨rfl, b⟩
    have z6 := b.size
    replace OX := Lib.hid (OX.out.on b)
    replace QN := Lib.hid (box_on QN.out b)
    replace QR := Lib.hid (box_on QR.out b)
    replace QX := Lib.hid (box_on QX.out b)
    replace BB := Lib.hid (bstep BB.out b)
    clear b
    rw [HX.out, HY.out]
    have ba := bal1 w6 (.cells #[.int .i64 x.a, .int .i64 x.b, .int .i64 x.c, .int .i64 x.d, .int .i64 x.e] 28)
    have QU := Lib.hid (al1 w6 (.cells #[.int .i64 x.a, .int .i64 x.b, .int .i64 x.c, .int .i64 x.d, .int .i64 x.e] 28))
    have hw7 : (w6.alloc (.cells #[.int .i64 x.a, .int .i64 x.b, .int .i64 x.c, .int .i64 x.d, .int .i64 x.e] 28)).heap.size = w6.heap.size + 1 := by simp
    replace OX := Lib.hid (OX.out.on ba)
    replace QN := Lib.hid (box_on QN.out ba)
    replace QR := Lib.hid (box_on QR.out ba)
    replace QX := Lib.hid (box_on QX.out ba)
    replace BB := Lib.hid (bstep BB.out ba)
    clear ba
    have yw7 := Lib.hid hw7
    clear hw7
    obtain ⟨N0, N1⟩ := box1N QN.out
    obtain ⟨R0, R1, R2, R3, R4, R5⟩ := box5 QR.out
    obtain ⟨X0, X1⟩ := box1N QX.out
    go_upto_region 8 with (fail)
    clear N0 N1 R0 R1 R2 R3 R4 R5 X0 X1
    generalize w6.alloc (.cells #[.int .i64 x.a, .int .i64 x.b, .int .i64 x.c, .int .i64 x.d, .int .i64 x.e] 28) = w7 at *
    have xw7 := Nat.le_of_eq yw7.out
    have uw7 := Nat.le_of_eq yw7.out.symm
    clear yw7
    obtain ⟨N0, N1⟩ := box1N QN.out
    obtain ⟨R0, R1, R2, R3, R4, R5⟩ := box5 QR.out
    obtain ⟨X0, X1⟩ := box1N QX.out
    obtain ⟨U0, U1, U2, U3, U4, U5⟩ := box5 QU.out
    go_wp2_with fail
    refine (HE.out _ _ _ _ _ _).mono ?_
    clear N0 N1 R0 R1 R2 R3 R4 R5 X0 X1 U0 U1 U2 U3 U4 U5
    rintro r w8 ⟨rfl, b⟩
    have z8 := b.size
    replace OX := Lib.hid (OX.out.on b)
    replace QN := Lib.hid (box_on QN.out b)
    replace QR := Lib.hid (box_on QR.out b)
    replace QX := Lib.hid (box_on QX.out b)
    replace QU := Lib.hid (box_on QU.out b)
    replace BB := Lib.hid (bstep BB.out b)
    clear b
    clear QU QR
    obtain ⟨N0, N1⟩ := box1N QN.out
    obtain ⟨X0, X1⟩ := box1N QX.out
    go_upto_region 10 with (fail)
    go_region_held3 (fun V => V.cell? ⟨w.heap.size, 0, none⟩ = some (.slice A ns.length c) ∧ V.cell? ⟨w4.heap.size, 0, none⟩ = some (.slice AX ns.length cX))
      (first | with_reducible exact ⟨(box1N (box_on QN.out (bstep (bstep (Below.drew1 _) b1p8) b2p8))).1, (box1N (box_on QX.out (bstep (bstep (Below.drew1 _) b1p8) b2p8))).1⟩ | with_reducible exact ⟨(box1N (box_on QN.out (bstep (Below.drew1 _) b1p8))).1, (box1N (box_on QX.out (bstep (Below.drew1 _) b1p8))).1⟩ | with_reducible exact ⟨(box1N (box_on QN.out (Below.drew1 _))).1, (box1N (box_on QX.out (Below.drew1 _))).1⟩ | exact ⟨N0, X0⟩ | fail)
      (first
        | (go_at_call 36; refine (eqNode_same _ _ ns _ (OX.out.on (bstep (Below.drew1 _) b1p8)).reads oop8.reads hs.out).mono ?_; rintro r u2p8 ⟨rfl, b2p8⟩)
        | (go_at_call 35; refine (HT.out _ (bstep BB.out (Below.drew1 _))).mono ?_; rintro r u1p8 ⟨vvp8, rfl, oop8, b1p8⟩; obtain ⟨AAp8, ccp8, rfl, _, _⟩ := oop8.reads.lenN)
        | fail)
    clear N0 N1 X0 X1
    have b := bstep (bstep (Below.drew1 _) b1p8) b2p8
    have zp8 := b.size
    replace OX := Lib.hid (OX.out.on b)
    replace QN := Lib.hid (box_on QN.out b)
    replace QX := Lib.hid (box_on QX.out b)
    replace BB := Lib.hid (bstep BB.out b)
    clear b b1p8 b2p8 oop8
    go_wp2
    go_ret
    exact ⟨rfl, BB.out⟩
  · go_enter Try.func6, Try.ntmps6
    go_upto_region 1 with (fail)
    generalize w.alloc (.cells #[.slice A ns.length c] 49) = W at *
    obtain ⟨N0, N1⟩ := box1N QN.out
    go_wp2_with fail
    refine (szN_big _ ns _ (HV.out.on BB.out) (by omega)).mono ?_
    clear N0 N1
    rintro r w0 ⟨rfl, b⟩
    have B1 := Lib.hid (bstep BB.out b)
    clear b
    go_wp2
    go_ret
    exact ⟨rfl, B1.out⟩
end Go.Proofs.Ytncjedbdkanleaa
