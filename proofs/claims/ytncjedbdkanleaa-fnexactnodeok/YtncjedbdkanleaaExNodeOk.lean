/- The walk of FnExactNodeOk: at every argument the call returns true and writes nothing that was there. No condition. -/
import Derived.Test.YtncjedbdkanleaaExNode
namespace Go.Proofs.Ytncjedbdkanleaa
open Go.RowKit
set_option maxRecDepth 100000
set_option linter.unusedSimpArgs false
set_option linter.unusedVariables false
set_option maxHeartbeats 4000000 in
theorem exactNodeOk_walk (v : Value) (ns : List (List KeyD)) (w : World) (hv : NodeIs w v ns) : Calls Try.prog 5 #[v] w fun e w' => e = .returned (.bool true) ∧ Below w.heap.size w w' := by
  obtain ⟨v0, rfl, hv⟩ := hv
  obtain ⟨A, c, rfl, _, _⟩ := hv.lenN
  have HV := Lib.hid hv
  clear hv
  have BB := Lib.hid (bal1 w (.cells #[.slice A ns.length c] 49))
  have QN := Lib.hid (al1 w (.cells #[.slice A ns.length c] 49))
  have hWz : Hid ((w.alloc (.cells #[.slice A ns.length c] 49)).heap.size = w.heap.size + 1) := Lib.hid (by simp)
  by_cases hn : ns.length + sumN ns ≤ 1048576
  · have HT := Lib.hid (fun w' (b : Below w.heap.size w w') => toNode_any (.slice A ns.length c) ns w' (HV.out.on b) hn)
    have hs : Hid (SmallN ns) := Lib.hid ⟨by omega, by omega⟩
    have hne : (nodeOkB ns != nodeOkB ns) = false := by simp
    obtain ⟨R, hR⟩ : ∃ R, nodeOkB ns = R := ⟨_, rfl⟩
    rw [hR] at hne
    have HR := Lib.hid hR
    clear hR
    go_enter Try.func5, Try.ntmps5
    go_upto_region 1 with (fail)
    generalize w.alloc (.cells #[.slice A ns.length c] 49) = W at *
    have hWz1 := Nat.le_of_eq hWz.out
    have hWz2 := Nat.le_of_eq hWz.out.symm
    clear hWz
    obtain ⟨N0, N1⟩ := box1N QN.out
    go_wp2_with fail
    refine (szN_small _ ns _ (HV.out.on BB.out) hn).mono ?_
    clear N0 N1
    rintro r w0 ⟨⟨q0, rfl, hq0⟩, b⟩
    have z0 := b.size
    replace QN := Lib.hid (box_on QN.out b)
    replace BB := Lib.hid (bstep BB.out b)
    have d0 : decide (q0 < 0) = false := decide_eq_false (by omega)
    clear b hq0
    obtain ⟨N0, N1⟩ := box1N QN.out
    go_wp2_with fail
    refine (HT.out _ BB.out).mono ?_
    clear N0 N1
    rintro r w1 ⟨vT, rfl, o, b⟩
    have zT := b.size
    replace QN := Lib.hid (box_on QN.out b)
    replace BB := Lib.hid (bstep BB.out b)
    have OT := Lib.hid o.lt
    clear o b
    obtain ⟨AT, cT, rfl, _, _⟩ := OT.out.reads.lenN
    clear d0
    obtain ⟨N0, N1⟩ := box1N QN.out
    go_wp2_with fail
    refine (specNodeOk_any _ ns _ OT.out.reads hs.out).mono ?_
    clear N0 N1
    rintro r w2 ⟨rfl, b⟩
    have z2 := b.size
    replace OT := Lib.hid (OT.out.on b)
    replace QN := Lib.hid (box_on QN.out b)
    replace BB := Lib.hid (bstep BB.out b)
    clear b
    rw [HR.out]
    clear OT
    obtain ⟨N0, N1⟩ := box1N QN.out
    go_wp2_with fail
    refine (HT.out _ BB.out).mono ?_
    clear N0 N1
    rintro r w3 ⟨vX, rfl, o, b⟩
    have zX := b.size
    replace QN := Lib.hid (box_on QN.out b)
    replace BB := Lib.hid (bstep BB.out b)
    have OX := Lib.hid o.lt
    clear o b
    obtain ⟨AX, cX, rfl, _, _⟩ := OX.out.reads.lenN
    have ba := bal1 w3 (.cells #[.slice AX ns.length cX] 26)
    have QX := Lib.hid (al1 w3 (.cells #[.slice AX ns.length cX] 26))
    have hw4 : (w3.alloc (.cells #[.slice AX ns.length cX] 26)).heap.size = w3.heap.size + 1 := by simp
    replace OX := Lib.hid (OX.out.on ba)
    replace QN := Lib.hid (box_on QN.out ba)
    replace BB := Lib.hid (bstep BB.out ba)
    clear ba
    have yw4 := Lib.hid hw4
    clear hw4
    obtain ⟨N0, N1⟩ := box1N QN.out
    go_upto_region 7 with (fail)
    clear N0 N1
    generalize w3.alloc (.cells #[.slice AX ns.length cX] 26) = w4 at *
    have xw4 := Nat.le_of_eq yw4.out
    have uw4 := Nat.le_of_eq yw4.out.symm
    clear yw4
    obtain ⟨N0, N1⟩ := box1N QN.out
    obtain ⟨X0, X1⟩ := box1N QX.out
    go_wp2_with fail
    refine (implNodeOk_any _ ns _ OX.out.reads hs.out).mono ?_
    clear N0 N1 X0 X1
    rintro r w5 ⟨rfl, b⟩
    have z5 := b.size
    replace OX := Lib.hid (OX.out.on b)
    replace QN := Lib.hid (box_on QN.out b)
    replace QX := Lib.hid (box_on QX.out b)
    replace BB := Lib.hid (bstep BB.out b)
    clear b
    rw [HR.out]
    obtain ⟨N0, N1⟩ := box1N QN.out
    obtain ⟨X0, X1⟩ := box1N QX.out
    go_upto_region 10 with (fail)
    go_region_held3 (fun V => V.cell? ⟨w.heap.size, 0, none⟩ = some (.slice A ns.length c) ∧ V.cell? ⟨w3.heap.size, 0, none⟩ = some (.slice AX ns.length cX))
      (first | with_reducible exact ⟨(box1N (box_on QN.out (bstep (bstep (Below.drew1 _) b1p5) b2p5))).1, (box1N (box_on QX.out (bstep (bstep (Below.drew1 _) b1p5) b2p5))).1⟩ | with_reducible exact ⟨(box1N (box_on QN.out (bstep (Below.drew1 _) b1p5))).1, (box1N (box_on QX.out (bstep (Below.drew1 _) b1p5))).1⟩ | with_reducible exact ⟨(box1N (box_on QN.out (Below.drew1 _))).1, (box1N (box_on QX.out (Below.drew1 _))).1⟩ | exact ⟨N0, X0⟩ | fail)
      (first
        | (go_at_call 36; refine (eqNode_same _ _ ns _ (OX.out.on (bstep (Below.drew1 _) b1p5)).reads oop5.reads hs.out).mono ?_; rintro r u2p5 ⟨rfl, b2p5⟩)
        | (go_at_call 35; refine (HT.out _ (bstep BB.out (Below.drew1 _))).mono ?_; rintro r u1p5 ⟨vvp5, rfl, oop5, b1p5⟩; obtain ⟨AAp5, ccp5, rfl, _, _⟩ := oop5.reads.lenN)
        | fail)
    clear N0 N1 X0 X1
    have b := bstep (bstep (Below.drew1 _) b1p5) b2p5
    have zp5 := b.size
    replace OX := Lib.hid (OX.out.on b)
    replace QN := Lib.hid (box_on QN.out b)
    replace QX := Lib.hid (box_on QX.out b)
    replace BB := Lib.hid (bstep BB.out b)
    clear b b1p5 b2p5 oop5
    go_wp2
    go_ret
    exact ⟨rfl, BB.out⟩
  · go_enter Try.func5, Try.ntmps5
    go_upto_region 1 with (fail)
    generalize w.alloc (.cells #[.slice A ns.length c] 49) = W at *
    obtain ⟨N0, N1⟩ := box1N QN.out
    go_wp2_with fail
    refine (szN_big _ ns _ (HV.out.on BB.out) (by omega)).mono ?_
    clear N0 N1
    rintro r w0 ⟨rfl, b⟩
    have B1 := Lib.hid (bstep BB.out b)
    clear b
    go_wp2
    go_ret
    exact ⟨rfl, B1.out⟩
end Go.Proofs.Ytncjedbdkanleaa
