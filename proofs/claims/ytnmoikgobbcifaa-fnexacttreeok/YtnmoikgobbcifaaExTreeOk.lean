/- The walk of FnExactTreeOk: at every argument the call returns true and writes nothing that was there. No condition. -/
import Derived.Test.YtnmoikgobbcifaaExTree
import Derived.Test.YtnmoikgobbcifaaTreeIOk
namespace Go.Proofs.Ytnmoikgobbcifaa
open Go.RowKit
set_option maxRecDepth 100000
set_option linter.unusedSimpArgs false
set_option linter.unusedVariables false
set_option maxHeartbeats 4000000 in
theorem exactTreeOk_walk (v : Value) (dt : List Int × List NodeD) (w : World) (hv : TreeIs w v dt) : Calls Try.prog 6 #[v] w fun e w' => e = .returned (.bool true) ∧ Below w.heap.size w w' := by
  obtain ⟨lo, ts⟩ := dt
  obtain ⟨vl, vn, rfl, hl, hv⟩ := hv
  dsimp only at hl hv
  obtain ⟨A, c, rfl, _, _⟩ := hl.lenN
  obtain ⟨B, d, rfl, _, _⟩ := hv.lenN
  have HL := Lib.hid hl
  have HV := Lib.hid hv
  clear hv hl
  have BB := Lib.hid (bal1 w (.cells #[.slice A lo.length c, .slice B ts.length d] 47))
  have QN := Lib.hid (al1 w (.cells #[.slice A lo.length c, .slice B ts.length d] 47))
  have hWz : Hid ((w.alloc (.cells #[.slice A lo.length c, .slice B ts.length d] 47)).heap.size = w.heap.size + 1) := Lib.hid (by simp)
  by_cases hn : lo.length + (ts.length + sumT ts) ≤ 1048576
  · have HT := Lib.hid (fun w' (b : Below w.heap.size w w') => toTree_any (.slice A lo.length c) (.slice B ts.length d) lo ts w' (HL.out.on b) (HV.out.on b) hn)
    have hs : Hid (SmallT lo ts) := Lib.hid ⟨by omega, by omega, by omega⟩
    have hne : (treeOkB lo ts != treeOkB lo ts) = false := by simp
    obtain ⟨R, hR⟩ : ∃ R, treeOkB lo ts = R := ⟨_, rfl⟩
    rw [hR] at hne
    have HR := Lib.hid hR
    clear hR
    go_enter Try.func6, Try.ntmps6
    go_upto_region 1 with (fail)
    generalize w.alloc (.cells #[.slice A lo.length c, .slice B ts.length d] 47) = W at *
    have hWz1 := Nat.le_of_eq hWz.out
    have hWz2 := Nat.le_of_eq hWz.out.symm
    clear hWz
    obtain ⟨N0, N1, N2⟩ := box2 QN.out
    go_wp2_with fail
    refine (szT_small _ _ lo ts _ (HL.out.on BB.out) (HV.out.on BB.out) hn).mono ?_
    clear N0 N1 N2
    rintro r w0 ⟨⟨q0, rfl, hq0⟩, b⟩
    have z0 := b.size
    replace QN := Lib.hid (box_on QN.out b)
    replace BB := Lib.hid (bstep BB.out b)
    have d0 : decide (q0 < 0) = false := decide_eq_false (by omega)
    clear b hq0
    obtain ⟨N0, N1, N2⟩ := box2 QN.out
    go_wp2_with fail
    refine (HT.out _ BB.out).mono ?_
    clear N0 N1 N2
    rintro r w1 ⟨vlT, vnT, rfl, o, b⟩
    have zT := b.size
    replace QN := Lib.hid (box_on QN.out b)
    replace BB := Lib.hid (bstep BB.out b)
    have OT := Lib.hid o.c.lt
    clear o b
    obtain ⟨AT, cT, BT, dT, rfl, rfl⟩ := OT.out.reads.shape
    clear d0
    obtain ⟨N0, N1, N2⟩ := box2 QN.out
    go_wp2_with fail
    refine (specTreeOk_any _ _ lo ts _ OT.out.reads (by omega) (by omega) (by omega)).mono ?_
    clear N0 N1 N2
    rintro r w2 ⟨rfl, b⟩
    have z2 := b.size
    replace OT := Lib.hid (OT.out.on b)
    replace QN := Lib.hid (box_on QN.out b)
    replace BB := Lib.hid (bstep BB.out b)
    clear b
    rw [HR.out]
    clear OT
    obtain ⟨N0, N1, N2⟩ := box2 QN.out
    go_wp2_with fail
    refine (HT.out _ BB.out).mono ?_
    clear N0 N1 N2
    rintro r w3 ⟨vlX, vnX, rfl, o, b⟩
    have zX := b.size
    replace QN := Lib.hid (box_on QN.out b)
    replace BB := Lib.hid (bstep BB.out b)
    have OX := Lib.hid o.c.lt
    clear o b
    obtain ⟨AX, cX, BX, dX, rfl, rfl⟩ := OX.out.reads.shape
    have ba := bal1 w3 (.cells #[.slice AX lo.length cX, .slice BX ts.length dX] 27)
    have QX := Lib.hid (al1 w3 (.cells #[.slice AX lo.length cX, .slice BX ts.length dX] 27))
    have hw4 : (w3.alloc (.cells #[.slice AX lo.length cX, .slice BX ts.length dX] 27)).heap.size = w3.heap.size + 1 := by simp
    replace OX := Lib.hid (OX.out.on ba)
    replace QN := Lib.hid (box_on QN.out ba)
    replace BB := Lib.hid (bstep BB.out ba)
    clear ba
    have yw4 := Lib.hid hw4
    clear hw4
    obtain ⟨N0, N1, N2⟩ := box2 QN.out
    go_upto_region 7 with (fail)
    clear N0 N1 N2
    generalize w3.alloc (.cells #[.slice AX lo.length cX, .slice BX ts.length dX] 27) = w4 at *
    have xw4 := Nat.le_of_eq yw4.out
    have uw4 := Nat.le_of_eq yw4.out.symm
    clear yw4
    obtain ⟨N0, N1, N2⟩ := box2 QN.out
    obtain ⟨X0, X1, X2⟩ := box2 QX.out
    go_wp2_with fail
    refine (implTreeOk_any _ _ lo ts _ OX.out.reads (by omega) (by omega) (by omega)).mono ?_
    clear N0 N1 N2 X0 X1 X2
    rintro r w5 ⟨rfl, b⟩
    have z5 := b.size
    replace OX := Lib.hid (OX.out.on b)
    replace QN := Lib.hid (box_on QN.out b)
    replace QX := Lib.hid (box_on QX.out b)
    replace BB := Lib.hid (bstep BB.out b)
    clear b
    rw [HR.out]
    obtain ⟨N0, N1, N2⟩ := box2 QN.out
    obtain ⟨X0, X1, X2⟩ := box2 QX.out
    go_upto_region 10 with (fail)
    go_region_held3 (fun V => V.cell? ⟨w.heap.size, 0, none⟩ = some (.slice A lo.length c) ∧ V.cell? ⟨w.heap.size, 1, none⟩ = some (.slice B ts.length d) ∧ V.cell? ⟨w3.heap.size, 0, none⟩ = some (.slice AX lo.length cX) ∧ V.cell? ⟨w3.heap.size, 1, none⟩ = some (.slice BX ts.length dX))
      (first | with_reducible exact ⟨(box2 (box_on QN.out (bstep (bstep (Below.drew1 _) b1p5) b2p5))).1, (box2 (box_on QN.out (bstep (bstep (Below.drew1 _) b1p5) b2p5))).2.1, (box2 (box_on QX.out (bstep (bstep (Below.drew1 _) b1p5) b2p5))).1, (box2 (box_on QX.out (bstep (bstep (Below.drew1 _) b1p5) b2p5))).2.1⟩ | with_reducible exact ⟨(box2 (box_on QN.out (bstep (Below.drew1 _) b1p5))).1, (box2 (box_on QN.out (bstep (Below.drew1 _) b1p5))).2.1, (box2 (box_on QX.out (bstep (Below.drew1 _) b1p5))).1, (box2 (box_on QX.out (bstep (Below.drew1 _) b1p5))).2.1⟩ | with_reducible exact ⟨(box2 (box_on QN.out (Below.drew1 _))).1, (box2 (box_on QN.out (Below.drew1 _))).2.1, (box2 (box_on QX.out (Below.drew1 _))).1, (box2 (box_on QX.out (Below.drew1 _))).2.1⟩ | exact ⟨N0, N1, X0, X1⟩ | fail)
      (first
        | (go_at_call 23; refine (eqTree_same _ _ _ _ lo ts _ (OX.out.on (bstep (Below.drew1 _) b1p5)).reads oop5.reads hs.out).mono ?_; rintro r u2p5 ⟨rfl, b2p5⟩)
        | (go_at_call 28; refine (HT.out _ (bstep BB.out (Below.drew1 _))).mono ?_; rintro r u1p5 ⟨vvlp5, vvnp5, rfl, oop5, b1p5⟩; obtain ⟨AAp5, ccp5, BBp5, ddp5, rfl, rfl⟩ := oop5.reads.shape)
        | fail)
    clear N0 N1 N2 X0 X1 X2
    have b := bstep (bstep (Below.drew1 _) b1p5) b2p5
    have zp5 := b.size
    replace OX := Lib.hid (OX.out.on b)
    replace QN := Lib.hid (box_on QN.out b)
    replace QX := Lib.hid (box_on QX.out b)
    replace BB := Lib.hid (bstep BB.out b)
    clear b b1p5 b2p5 oop5
    go_wp2
    go_ret
    exact ⟨rfl, BB.out⟩
  · go_enter Try.func6, Try.ntmps6
    go_upto_region 1 with (fail)
    generalize w.alloc (.cells #[.slice A lo.length c, .slice B ts.length d] 47) = W at *
    obtain ⟨N0, N1, N2⟩ := box2 QN.out
    go_wp2_with fail
    refine (szT_big _ _ lo ts _ (HL.out.on BB.out) (HV.out.on BB.out) (by omega)).mono ?_
    clear N0 N1 N2
    rintro r w0 ⟨rfl, b⟩
    have B1 := Lib.hid (bstep BB.out b)
    clear b
    go_wp2
    go_ret
    exact ⟨rfl, B1.out⟩
end Go.Proofs.Ytnmoikgobbcifaa
