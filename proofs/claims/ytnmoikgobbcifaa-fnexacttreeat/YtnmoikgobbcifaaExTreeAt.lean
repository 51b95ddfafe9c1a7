/- The walk of FnExactTreeAt: at every argument the call returns true and writes nothing that was there. No condition. -/
import Derived.Test.YtnmoikgobbcifaaExTree
import Derived.Test.YtnmoikgobbcifaaTreeKeys
import Derived.Test.YtnmoikgobbcifaaExDrop
namespace Go.Proofs.Ytnmoikgobbcifaa
open Go.RowKit
set_option maxRecDepth 100000
set_option linter.unusedSimpArgs false
set_option linter.unusedVariables false
set_option maxHeartbeats 4000000 in
theorem exactTreeAt_walk (v : Value) (dt : List Int × List NodeD) (p q : Int) (w : World) (hv : TreeIs w v dt) (_ : (Lit.int .i64 p).wf = true) (_ : (Lit.int .i64 q).wf = true) : Calls Try.prog 8 #[v, .int .i64 p, .int .i64 q] w fun e w' => e = .returned (.bool true) ∧ Below w.heap.size w w' := by
  obtain ⟨lo, ts⟩ := dt
  obtain ⟨vl, vn, rfl, hl, hv⟩ := hv
  dsimp only at hl hv
  obtain ⟨A, c, rfl, _, _⟩ := hl.lenN
  obtain ⟨B, d, rfl, _, _⟩ := hv.lenN
  have HL := Lib.hid hl
  have HV := Lib.hid hv
  clear hv hl
  have BB := Lib.hid (bal1 w (.cells #[.slice A lo.length c, .slice B ts.length d] 47))
  have QN := Lib.hid (al1 w (.cells #[.slice A lo.length c, .slice B ts.length d] 47))
  have hWz : Hid ((w.alloc (.cells #[.slice A lo.length c, .slice B ts.length d] 47)).heap.size = w.heap.size + 1) := Lib.hid (by simp)
  by_cases hn : lo.length + (ts.length + sumT ts) ≤ 1048576
  · have HT := Lib.hid (fun w' (b : Below w.heap.size w w') => toTree_any (.slice A lo.length c) (.slice B ts.length d) lo ts w' (HL.out.on b) (HV.out.on b) hn)
    have hs : Hid (SmallT lo ts) := Lib.hid ⟨by omega, by omega, by omega⟩
    have HE := Lib.hid eqKey_sameK
    have HS := Lib.hid specTreeAt_any
    have HI := Lib.hid implTreeAt_any
    unfold SaysFind KeyD.v keyV at HS HI
    unfold keyV at HE
    obtain ⟨x, hx⟩ : ∃ x, (treeAtK lo ts p q).getD zK = x := ⟨_, rfl⟩
    obtain ⟨y, hy⟩ : ∃ y, (treeAtK lo ts p q).isSome = y := ⟨_, rfl⟩
    have hne : (y != y) = false := by simp
    have HX := Lib.hid hx
    have HY := Lib.hid hy
    clear hx hy
    go_enter Try.func8, Try.ntmps8
    go_upto_region 1 with (fail)
    generalize w.alloc (.cells #[.slice A lo.length c, .slice B ts.length d] 47) = W at *
    have hWz1 := Nat.le_of_eq hWz.out
    have hWz2 := Nat.le_of_eq hWz.out.symm
    clear hWz
    obtain ⟨N0, N1, N2⟩ := box2 QN.out
    go_wp2_with fail
    refine (szT_small _ _ lo ts _ (HL.out.on BB.out) (HV.out.on BB.out) hn).mono ?_
    clear N0 N1 N2
    rintro r w0 ⟨⟨q0, rfl, hq0⟩, b⟩
    have z0 := b.size
    replace QN := Lib.hid (box_on QN.out b)
    replace BB := Lib.hid (bstep BB.out b)
    have d0 : decide (q0 < 0) = false := decide_eq_false (by omega)
    clear b hq0
    obtain ⟨N0, N1, N2⟩ := box2 QN.out
    go_wp2_with fail
    refine (HT.out _ BB.out).mono ?_
    clear N0 N1 N2
    rintro r w1 ⟨vlT, vnT, rfl, o, b⟩
    have zT := b.size
    replace QN := Lib.hid (box_on QN.out b)
    replace BB := Lib.hid (bstep BB.out b)
    have OT := Lib.hid o.c.lt
    clear o b
    obtain ⟨AT, cT, BT, dT, rfl, rfl⟩ := OT.out.reads.shape
    clear d0
    obtain ⟨N0, N1, N2⟩ := box2 QN.out
    go_wp2_with fail
    refine (HS.out _ _ lo ts p q _ OT.out.reads hs.out).mono ?_
    clear N0 N1 N2
    rintro r w2 ⟨rfl, b⟩
    have z2 := b.size
    replace OT := Lib.hid (OT.out.on b)
    replace QN := Lib.hid (box_on QN.out b)
    replace BB := Lib.hid (bstep BB.out b)
    clear b
    rw [HX.out, HY.out]
    clear OT
    have ba := bal1 w2 (.cells #[.int .i64 x.a, .int .i64 x.b, .int .i64 x.c, .int .i64 x.d, .int .i64 x.e] 29)
    have QR := Lib.hid (al1 w2 (.cells #[.int .i64 x.a, .int .i64 x.b, .int .i64 x.c, .int .i64 x.d, .int .i64 x.e] 29))
    have hw3 : (w2.alloc (.cells #[.int .i64 x.a, .int .i64 x.b, .int .i64 x.c, .int .i64 x.d, .int .i64 x.e] 29)).heap.size = w2.heap.size + 1 := by simp
    replace QN := Lib.hid (box_on QN.out ba)
    replace BB := Lib.hid (bstep BB.out ba)
    clear ba
    have yw3 := Lib.hid hw3
    clear hw3
    obtain ⟨N0, N1, N2⟩ := box2 QN.out
    go_upto_region 6 with (fail)
    clear N0 N1 N2
    generalize w2.alloc (.cells #[.int .i64 x.a, .int .i64 x.b, .int .i64 x.c, .int .i64 x.d, .int .i64 x.e] 29) = w3 at *
    have xw3 := Nat.le_of_eq yw3.out
    have uw3 := Nat.le_of_eq yw3.out.symm
    clear yw3
    obtain ⟨N0, N1, N2⟩ := box2 QN.out
    obtain ⟨R0, R1, R2, R3, R4, R5⟩ := box5 QR.out
    go_wp2_with fail
    refine (HT.out _ BB.out).mono ?_
    clear N0 N1 N2 R0 R1 R2 R3 R4 R5
    rintro r w4 ⟨vlX, vnX, rfl, o, b⟩
    have zX := b.size
    replace QN := Lib.hid (box_on QN.out b)
    replace QR := Lib.hid (box_on QR.out b)
    replace BB := Lib.hid (bstep BB.out b)
    have OX := Lib.hid o.c.lt
    clear o b
    obtain ⟨AX, cX, BX, dX, rfl, rfl⟩ := OX.out.reads.shape
    have ba := bal1 w4 (.cells #[.slice AX lo.length cX, .slice BX ts.length dX] 27)
    have QX := Lib.hid (al1 w4 (.cells #[.slice AX lo.length cX, .slice BX ts.length dX] 27))
    have hw5 : (w4.alloc (.cells #[.slice AX lo.length cX, .slice BX ts.length dX] 27)).heap.size = w4.heap.size + 1 := by simp
    replace OX := Lib.hid (OX.out.on ba)
    replace QN := Lib.hid (box_on QN.out ba)
    replace QR := Lib.hid (box_on QR.out ba)
    replace BB := Lib.hid (bstep BB.out ba)
    clear ba
    have yw5 := Lib.hid hw5
    clear hw5
    obtain ⟨N0, N1, N2⟩ := box2 QN.out
    obtain ⟨R0, R1, R2, R3, R4, R5⟩ := box5 QR.out
    go_upto_region 7 with (fail)
    clear N0 N1 N2 R0 R1 R2 R3 R4 R5
    generalize w4.alloc (.cells #[.slice AX lo.length cX, .slice BX ts.length dX] 27) = w5 at *
    have xw5 := Nat.le_of_eq yw5.out
    have uw5 := Nat.le_of_eq yw5.out.symm
    clear yw5
    obtain ⟨N0, N1, N2⟩ := box2 QN.out
    obtain ⟨R0, R1, R2, R3, R4, R5⟩ := box5 QR.out
    obtain ⟨X0, X1, X2⟩ := box2 QX.out
    go_wp2_with fail
    refine (HI.out _ _ lo ts p q _ OX.out.reads hs.out).mono ?_
    clear N0 N1 N2 R0 R1 R2 R3 R4 R5 X0 X1 X2
    rintro r w6 ⟨rfl, b⟩
    have z6 := b.size
    replace OX := Lib.hid (OX.out.on b)
    replace QN := Lib.hid (box_on QN.out b)
    replace QR := Lib.hid (box_on QR.out b)
    replace QX := Lib.hid (box_on QX.out b)
    replace BB := Lib.hid (bstep BB.out b)
    clear b
    rw [HX.out, HY.out]
    have ba := bal1 w6 (.cells #[.int .i64 x.a, .int .i64 x.b, .int .i64 x.c, .int .i64 x.d, .int .i64 x.e] 29)
    have QU := Lib.hid (al1 w6 (.cells #[.int .i64 x.a, .int .i64 x.b, .int .i64 x.c, .int .i64 x.d, .int .i64 x.e] 29))
    have hw7 : (w6.alloc (.cells #[.int .i64 x.a, .int .i64 x.b, .int .i64 x.c, .int .i64 x.d, .int .i64 x.e] 29)).heap.size = w6.heap.size + 1 := by simp
    replace OX := Lib.hid (OX.out.on ba)
    replace QN := Lib.hid (box_on QN.out ba)
    replace QR := Lib.hid (box_on QR.out ba)
    replace QX := Lib.hid (box_on QX.out ba)
    replace BB := Lib.hid (bstep BB.out ba)
    clear ba
    have yw7 := Lib.hid hw7
    clear hw7
    obtain ⟨N0, N1, N2⟩ := box2 QN.out
    obtain ⟨R0, R1, R2, R3, R4, R5⟩ := box5 QR.out
    obtain ⟨X0, X1, X2⟩ := box2 QX.out
    go_upto_region 8 with (fail)
    clear N0 N1 N2 R0 R1 R2 R3 R4 R5 X0 X1 X2
    generalize w6.alloc (.cells #[.int .i64 x.a, .int .i64 x.b, .int .i64 x.c, .int .i64 x.d, .int .i64 x.e] 29) = w7 at *
    have xw7 := Nat.le_of_eq yw7.out
    have uw7 := Nat.le_of_eq yw7.out.symm
    clear yw7
    obtain ⟨N0, N1, N2⟩ := box2 QN.out
    obtain ⟨R0, R1, R2, R3, R4, R5⟩ := box5 QR.out
    obtain ⟨X0, X1, X2⟩ := box2 QX.out
    obtain ⟨U0, U1, U2, U3, U4, U5⟩ := box5 QU.out
    go_wp2_with fail
    refine (HE.out _ _ _ _ _ _).mono ?_
    clear N0 N1 N2 R0 R1 R2 R3 R4 R5 X0 X1 X2 U0 U1 U2 U3 U4 U5
    rintro r w8 ⟨rfl, b⟩
    have z8 := b.size
    replace OX := Lib.hid (OX.out.on b)
    replace QN := Lib.hid (box_on QN.out b)
    replace QR := Lib.hid (box_on QR.out b)
    replace QX := Lib.hid (box_on QX.out b)
    replace QU := Lib.hid (box_on QU.out b)
    replace BB := Lib.hid (bstep BB.out b)
    clear b
    clear QU QR
    obtain ⟨N0, N1, N2⟩ := box2 QN.out
    obtain ⟨X0, X1, X2⟩ := box2 QX.out
    go_upto_region 10 with (fail)
    go_region_held3 (fun V => V.cell? ⟨w.heap.size, 0, none⟩ = some (.slice A lo.length c) ∧ V.cell? ⟨w.heap.size, 1, none⟩ = some (.slice B ts.length d) ∧ V.cell? ⟨w4.heap.size, 0, none⟩ = some (.slice AX lo.length cX) ∧ V.cell? ⟨w4.heap.size, 1, none⟩ = some (.slice BX ts.length dX))
      (first | with_reducible exact ⟨(box2 (box_on QN.out (bstep (bstep (Below.drew1 _) b1p8) b2p8))).1, (box2 (box_on QN.out (bstep (bstep (Below.drew1 _) b1p8) b2p8))).2.1, (box2 (box_on QX.out (bstep (bstep (Below.drew1 _) b1p8) b2p8))).1, (box2 (box_on QX.out (bstep (bstep (Below.drew1 _) b1p8) b2p8))).2.1⟩ | with_reducible exact ⟨(box2 (box_on QN.out (bstep (Below.drew1 _) b1p8))).1, (box2 (box_on QN.out (bstep (Below.drew1 _) b1p8))).2.1, (box2 (box_on QX.out (bstep (Below.drew1 _) b1p8))).1, (box2 (box_on QX.out (bstep (Below.drew1 _) b1p8))).2.1⟩ | with_reducible exact ⟨(box2 (box_on QN.out (Below.drew1 _))).1, (box2 (box_on QN.out (Below.drew1 _))).2.1, (box2 (box_on QX.out (Below.drew1 _))).1, (box2 (box_on QX.out (Below.drew1 _))).2.1⟩ | exact ⟨N0, N1, X0, X1⟩ | fail)
      (first
        | (go_at_call 23; refine (eqTree_same _ _ _ _ lo ts _ (OX.out.on (bstep (Below.drew1 _) b1p8)).reads oop8.reads hs.out).mono ?_; rintro r u2p8 ⟨rfl, b2p8⟩)
        | (go_at_call 28; refine (HT.out _ (bstep BB.out (Below.drew1 _))).mono ?_; rintro r u1p8 ⟨vvlp8, vvnp8, rfl, oop8, b1p8⟩; obtain ⟨AAp8, ccp8, BBp8, ddp8, rfl, rfl⟩ := oop8.reads.shape)
        | fail)
    clear N0 N1 N2 X0 X1 X2
    have b := bstep (bstep (Below.drew1 _) b1p8) b2p8
    have zp8 := b.size
    replace OX := Lib.hid (OX.out.on b)
    replace QN := Lib.hid (box_on QN.out b)
    replace QX := Lib.hid (box_on QX.out b)
    replace BB := Lib.hid (bstep BB.out b)
    clear b b1p8 b2p8 oop8
    go_wp2
    go_ret
    exact ⟨rfl, BB.out⟩
  · go_enter Try.func8, Try.ntmps8
    go_upto_region 1 with (fail)
    generalize w.alloc (.cells #[.slice A lo.length c, .slice B ts.length d] 47) = W at *
    obtain ⟨N0, N1, N2⟩ := box2 QN.out
    go_wp2_with fail
    refine (szT_big _ _ lo ts _ (HL.out.on BB.out) (HV.out.on BB.out) (by omega)).mono ?_
    clear N0 N1 N2
    rintro r w0 ⟨rfl, b⟩
    have B1 := Lib.hid (bstep BB.out b)
    clear b
    go_wp2
    go_ret
    exact ⟨rfl, B1.out⟩
end Go.Proofs.Ytnmoikgobbcifaa
