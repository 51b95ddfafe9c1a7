/- The walk of FnExactNodePack: at every argument the call returns true and writes nothing that was there. No condition. -/
import Derived.Test.YtncjedbdkanleaaExNode
namespace Go.Proofs.Ytncjedbdkanleaa
open Go.RowKit
set_option maxRecDepth 100000
set_option linter.unusedSimpArgs false
set_option linter.unusedVariables false
set_option maxHeartbeats 4000000 in
theorem exactNodePack_walk (v : Value) (ns : List (List KeyD)) (w : World) (hv : NodeIs w v ns) : Calls Try.prog 10 #[v] w fun e w' => e = .returned (.bool true) ∧ Below w.heap.size w w' := by
  obtain ⟨v0, rfl, hv⟩ := hv
  obtain ⟨A, c, rfl, _, _⟩ := hv.lenN
  have HV := Lib.hid hv
  clear hv
  have BB := Lib.hid (bal1 w (.cells #[.slice A ns.length c] 49))
  have QN := Lib.hid (al1 w (.cells #[.slice A ns.length c] 49))
  have hWz : Hid ((w.alloc (.cells #[.slice A ns.length c] 49)).heap.size = w.heap.size + 1) := Lib.hid (by simp)
  by_cases hn : ns.length + sumN ns ≤ 1048576
  · have HT := Lib.hid (fun w' (b : Below w.heap.size w w') => toNode_any (.slice A ns.length c) ns w' (HV.out.on b) hn)
    have hs : Hid (SmallN ns) := Lib.hid ⟨by omega, by omega⟩
    obtain ⟨R, hR⟩ : ∃ R, nodePackK ns = R := ⟨_, rfl⟩
    have hsR : Hid (SmallN R) := Lib.hid (by rw [← hR]; exact ⟨by unfold nodePackK; have := len_new (nodeKeysK ns); omega, by unfold nodePackK; rw [sum_new]; have := nodeKeys_len ns; omega⟩)
    have hRl := hsR.out.1
    have hRs := hsR.out.2
    have HR := Lib.hid hR
    clear hR
    go_enter Try.func10, Try.ntmps10
    go_upto_region 1 with (fail)
    generalize w.alloc (.cells #[.slice A ns.length c] 49) = W at *
    have hWz1 := Nat.le_of_eq hWz.out
    have hWz2 := Nat.le_of_eq hWz.out.symm
    clear hWz
    obtain ⟨N0, N1⟩ := box1N QN.out
    go_wp2_with fail
    refine (szN_small _ ns _ (HV.out.on BB.out) hn).mono ?_
    clear N0 N1
    rintro r w0 ⟨⟨q0, rfl, hq0⟩, b⟩
    have z0 := b.size
    replace QN := Lib.hid (box_on QN.out b)
    replace BB := Lib.hid (bstep BB.out b)
    have d0 : decide (q0 < 0) = false := decide_eq_false (by omega)
    clear b hq0
    obtain ⟨N0, N1⟩ := box1N QN.out
    go_wp2_with fail
    refine (HT.out _ BB.out).mono ?_
    clear N0 N1
    rintro r w1 ⟨vT, rfl, o, b⟩
    have zT := b.size
    replace QN := Lib.hid (box_on QN.out b)
    replace BB := Lib.hid (bstep BB.out b)
    have OT := Lib.hid o.lt
    clear o b
    obtain ⟨AT, cT, rfl, _, _⟩ := OT.out.reads.lenN
    clear d0
    obtain ⟨N0, N1⟩ := box1N QN.out
    go_wp2_with fail
    refine (specNodePack_any _ ns _ OT.out.reads (by omega) (by omega)).mono ?_
    clear N0 N1
    rintro r w2 ⟨vS, rfl, o, b⟩
    have zS := b.size
    replace OT := Lib.hid (OT.out.on b)
    replace QN := Lib.hid (box_on QN.out b)
    replace BB := Lib.hid (bstep BB.out b)
    have OS := Lib.hid o.lt
    rw [HR.out] at OS
    clear o b
    obtain ⟨AS, cS, rfl, _, _⟩ := OS.out.reads.lenN
    clear OT
    have ba := bal1 w2 (.cells #[.slice AS R.length cS] 26)
    have QS := Lib.hid (al1 w2 (.cells #[.slice AS R.length cS] 26))
    have hw3 : (w2.alloc (.cells #[.slice AS R.length cS] 26)).heap.size = w2.heap.size + 1 := by simp
    replace OS := Lib.hid (OS.out.on ba)
    replace QN := Lib.hid (box_on QN.out ba)
    replace BB := Lib.hid (bstep BB.out ba)
    clear ba
    have yw3 := Lib.hid hw3
    clear hw3
    obtain ⟨N0, N1⟩ := box1N QN.out
    go_upto_region 6 with (fail)
    clear N0 N1
    generalize w2.alloc (.cells #[.slice AS R.length cS] 26) = w3 at *
    have xw3 := Nat.le_of_eq yw3.out
    have uw3 := Nat.le_of_eq yw3.out.symm
    clear yw3
    obtain ⟨N0, N1⟩ := box1N QN.out
    obtain ⟨S0, S1⟩ := box1N QS.out
    go_wp2_with fail
    refine (HT.out _ BB.out).mono ?_
    clear N0 N1 S0 S1
    rintro r w4 ⟨vX, rfl, o, b⟩
    have zX := b.size
    replace OS := Lib.hid (OS.out.on b)
    replace QN := Lib.hid (box_on QN.out b)
    replace QS := Lib.hid (box_on QS.out b)
    replace BB := Lib.hid (bstep BB.out b)
    have OX := Lib.hid o.lt
    clear o b
    obtain ⟨AX, cX, rfl, _, _⟩ := OX.out.reads.lenN
    have ba := bal1 w4 (.cells #[.slice AX ns.length cX] 26)
    have QX := Lib.hid (al1 w4 (.cells #[.slice AX ns.length cX] 26))
    have hw5 : (w4.alloc (.cells #[.slice AX ns.length cX] 26)).heap.size = w4.heap.size + 1 := by simp
    replace OS := Lib.hid (OS.out.on ba)
    replace OX := Lib.hid (OX.out.on ba)
    replace QN := Lib.hid (box_on QN.out ba)
    replace QS := Lib.hid (box_on QS.out ba)
    replace BB := Lib.hid (bstep BB.out ba)
    clear ba
    have yw5 := Lib.hid hw5
    clear hw5
    obtain ⟨N0, N1⟩ := box1N QN.out
    obtain ⟨S0, S1⟩ := box1N QS.out
    go_upto_region 7 with (fail)
    clear N0 N1 S0 S1
    generalize w4.alloc (.cells #[.slice AX ns.length cX] 26) = w5 at *
    have xw5 := Nat.le_of_eq yw5.out
    have uw5 := Nat.le_of_eq yw5.out.symm
    clear yw5
    obtain ⟨N0, N1⟩ := box1N QN.out
    obtain ⟨S0, S1⟩ := box1N QS.out
    obtain ⟨X0, X1⟩ := box1N QX.out
    go_wp2_with fail
    refine (implNodePack_any _ ns _ OX.out.reads (by omega) (by omega)).mono ?_
    clear N0 N1 S0 S1 X0 X1
    rintro r w6 ⟨vG, rfl, o, b⟩
    have zG := b.size
    replace OS := Lib.hid (OS.out.on b)
    replace OX := Lib.hid (OX.out.on b)
    replace QN := Lib.hid (box_on QN.out b)
    replace QS := Lib.hid (box_on QS.out b)
    replace QX := Lib.hid (box_on QX.out b)
    replace BB := Lib.hid (bstep BB.out b)
    have OG := Lib.hid o.lt
    rw [HR.out] at OG
    clear o b
    obtain ⟨AG, cG, rfl, _, _⟩ := OG.out.reads.lenN
    have ba := bal1 w6 (.cells #[.slice AG R.length cG] 26)
    have QG := Lib.hid (al1 w6 (.cells #[.slice AG R.length cG] 26))
    have hw7 : (w6.alloc (.cells #[.slice AG R.length cG] 26)).heap.size = w6.heap.size + 1 := by simp
    replace OS := Lib.hid (OS.out.on ba)
    replace OX := Lib.hid (OX.out.on ba)
    replace OG := Lib.hid (OG.out.on ba)
    replace QN := Lib.hid (box_on QN.out ba)
    replace QS := Lib.hid (box_on QS.out ba)
    replace QX := Lib.hid (box_on QX.out ba)
    replace BB := Lib.hid (bstep BB.out ba)
    clear ba
    have yw7 := Lib.hid hw7
    clear hw7
    obtain ⟨N0, N1⟩ := box1N QN.out
    obtain ⟨S0, S1⟩ := box1N QS.out
    obtain ⟨X0, X1⟩ := box1N QX.out
    go_upto_region 8 with (fail)
    clear N0 N1 S0 S1 X0 X1
    generalize w6.alloc (.cells #[.slice AG R.length cG] 26) = w7 at *
    have xw7 := Nat.le_of_eq yw7.out
    have uw7 := Nat.le_of_eq yw7.out.symm
    clear yw7
    obtain ⟨N0, N1⟩ := box1N QN.out
    obtain ⟨S0, S1⟩ := box1N QS.out
    obtain ⟨X0, X1⟩ := box1N QX.out
    obtain ⟨G0, G1⟩ := box1N QG.out
    go_wp2_with fail
    refine (eqNode_same _ _ R _ OG.out.reads OS.out.reads hsR.out).mono ?_
    clear N0 N1 S0 S1 X0 X1 G0 G1
    rintro r w8 ⟨rfl, b⟩
    have z8 := b.size
    replace OS := Lib.hid (OS.out.on b)
    replace OX := Lib.hid (OX.out.on b)
    replace OG := Lib.hid (OG.out.on b)
    replace QN := Lib.hid (box_on QN.out b)
    replace QS := Lib.hid (box_on QS.out b)
    replace QX := Lib.hid (box_on QX.out b)
    replace QG := Lib.hid (box_on QG.out b)
    replace BB := Lib.hid (bstep BB.out b)
    clear b
    obtain ⟨N0, N1⟩ := box1N QN.out
    obtain ⟨S0, S1⟩ := box1N QS.out
    obtain ⟨X0, X1⟩ := box1N QX.out
    obtain ⟨G0, G1⟩ := box1N QG.out
    go_upto_region 10 with (fail)
    go_region_held3 (fun V => V.cell? ⟨w.heap.size, 0, none⟩ = some (.slice A ns.length c) ∧ V.cell? ⟨w2.heap.size, 0, none⟩ = some (.slice AS R.length cS) ∧ V.cell? ⟨w4.heap.size, 0, none⟩ = some (.slice AX ns.length cX) ∧ V.cell? ⟨w6.heap.size, 0, none⟩ = some (.slice AG R.length cG))
      (first | with_reducible exact ⟨(box1N (box_on QN.out (bstep (bstep (Below.drew1 _) b1p8) b2p8))).1, (box1N (box_on QS.out (bstep (bstep (Below.drew1 _) b1p8) b2p8))).1, (box1N (box_on QX.out (bstep (bstep (Below.drew1 _) b1p8) b2p8))).1, (box1N (box_on QG.out (bstep (bstep (Below.drew1 _) b1p8) b2p8))).1⟩ | with_reducible exact ⟨(box1N (box_on QN.out (bstep (Below.drew1 _) b1p8))).1, (box1N (box_on QS.out (bstep (Below.drew1 _) b1p8))).1, (box1N (box_on QX.out (bstep (Below.drew1 _) b1p8))).1, (box1N (box_on QG.out (bstep (Below.drew1 _) b1p8))).1⟩ | with_reducible exact ⟨(box1N (box_on QN.out (Below.drew1 _))).1, (box1N (box_on QS.out (Below.drew1 _))).1, (box1N (box_on QX.out (Below.drew1 _))).1, (box1N (box_on QG.out (Below.drew1 _))).1⟩ | exact ⟨N0, S0, X0, G0⟩ | fail)
      (first
        | (go_at_call 36; refine (eqNode_same _ _ ns _ (OX.out.on (bstep (Below.drew1 _) b1p8)).reads oop8.reads hs.out).mono ?_; rintro r u2p8 ⟨rfl, b2p8⟩)
        | (go_at_call 35; refine (HT.out _ (bstep BB.out (Below.drew1 _))).mono ?_; rintro r u1p8 ⟨vvp8, rfl, oop8, b1p8⟩; obtain ⟨AAp8, ccp8, rfl, _, _⟩ := oop8.reads.lenN)
        | fail)
    clear N0 N1 S0 S1 X0 X1 G0 G1
    have b := bstep (bstep (Below.drew1 _) b1p8) b2p8
    have zp8 := b.size
    replace OS := Lib.hid (OS.out.on b)
    replace OX := Lib.hid (OX.out.on b)
    replace OG := Lib.hid (OG.out.on b)
    replace QN := Lib.hid (box_on QN.out b)
    replace QS := Lib.hid (box_on QS.out b)
    replace QX := Lib.hid (box_on QX.out b)
    replace QG := Lib.hid (box_on QG.out b)
    replace BB := Lib.hid (bstep BB.out b)
    clear b b1p8 b2p8 oop8
    obtain ⟨N0, N1⟩ := box1N QN.out
    obtain ⟨S0, S1⟩ := box1N QS.out
    obtain ⟨X0, X1⟩ := box1N QX.out
    obtain ⟨G0, G1⟩ := box1N QG.out
    go_wp2_with fail
    refine (markNode_any _ _ ns 1 _ OX.out (fun b hb => by omega) hs.out (by omega) (by omega)).mono ?_
    clear N0 N1 S0 S1 X0 X1 G0 G1
    rintro r w9 ⟨rfl, o, g⟩
    have z9 := g.size
    replace OS := Lib.hid (OS.out.far g (fun b hb _ hb' => by omega))
    replace OG := Lib.hid (OG.out.far g (fun b hb _ hb' => by omega))
    replace QN := Lib.hid (box_only QN.out g (fun hb => by omega))
    replace QS := Lib.hid (box_only QS.out g (fun hb => by omega))
    replace QX := Lib.hid (box_only QX.out g (fun hb => by omega))
    replace QG := Lib.hid (box_only QG.out g (fun hb => by omega))
    replace BB := Lib.hid (BB.out.trans (g.below BB.out.size (fun b hb => by omega)))
    replace OX := Lib.hid o
    clear o g
    have d1 : decide ((1 : Int) + ((sumN ns * 5 : Nat) : Int) < 0) = false := decide_eq_false (by omega)
    clear OX
    clear QX
    obtain ⟨N0, N1⟩ := box1N QN.out
    obtain ⟨S0, S1⟩ := box1N QS.out
    obtain ⟨G0, G1⟩ := box1N QG.out
    go_wp2_with fail
    refine (eqNode_same _ _ R _ OG.out.reads OS.out.reads hsR.out).mono ?_
    clear N0 N1 S0 S1 G0 G1
    rintro r w10 ⟨rfl, b⟩
    have z10 := b.size
    replace OS := Lib.hid (OS.out.on b)
    replace OG := Lib.hid (OG.out.on b)
    replace QN := Lib.hid (box_on QN.out b)
    replace QS := Lib.hid (box_on QS.out b)
    replace QG := Lib.hid (box_on QG.out b)
    replace BB := Lib.hid (bstep BB.out b)
    clear b
    clear d1
    obtain ⟨N0, N1⟩ := box1N QN.out
    obtain ⟨S0, S1⟩ := box1N QS.out
    obtain ⟨G0, G1⟩ := box1N QG.out
    go_wp2_with fail
    refine (markNode_any _ _ R 1 _ OG.out (fun b hb => by omega) hsR.out (by omega) (by omega)).mono ?_
    clear N0 N1 S0 S1 G0 G1
    rintro r w11 ⟨rfl, o, g⟩
    have z11 := g.size
    replace OS := Lib.hid (OS.out.far g (fun b hb _ hb' => by omega))
    replace QN := Lib.hid (box_only QN.out g (fun hb => by omega))
    replace QS := Lib.hid (box_only QS.out g (fun hb => by omega))
    replace QG := Lib.hid (box_only QG.out g (fun hb => by omega))
    replace BB := Lib.hid (BB.out.trans (g.below BB.out.size (fun b hb => by omega)))
    replace OG := Lib.hid o
    clear o g
    have d2 : decide ((1 : Int) + ((sumN R * 5 : Nat) : Int) < 0) = false := decide_eq_false (by omega)
    have d3 : ((1 : Int) + ((sumN R * 5 : Nat) : Int) != (1 : Int) + ((sumN R * 5 : Nat) : Int)) = false := by simp
    generalize hq : (1 : Int) + ((sumN R * 5 : Nat) : Int) = q at *
    have HQ := Lib.hid hq
    clear hq
    obtain ⟨N0, N1⟩ := box1N QN.out
    obtain ⟨S0, S1⟩ := box1N QS.out
    obtain ⟨G0, G1⟩ := box1N QG.out
    go_wp2_with fail
    refine (heldNode_any _ R 1 _ OG.out.reads hsR.out (by omega) (by omega)).mono ?_
    clear N0 N1 S0 S1 G0 G1
    rintro r w12 ⟨rfl, b⟩
    have z12 := b.size
    replace OS := Lib.hid (OS.out.on b)
    replace OG := Lib.hid (OG.out.on b)
    replace QN := Lib.hid (box_on QN.out b)
    replace QS := Lib.hid (box_on QS.out b)
    replace QG := Lib.hid (box_on QG.out b)
    replace BB := Lib.hid (bstep BB.out b)
    clear b
    rw [HQ.out]
    obtain ⟨N0, N1⟩ := box1N QN.out
    obtain ⟨S0, S1⟩ := box1N QS.out
    obtain ⟨G0, G1⟩ := box1N QG.out
    go_wp2_with fail
    refine (HT.out _ BB.out).mono ?_
    clear N0 N1 S0 S1 G0 G1
    rintro r w13 ⟨vZ, rfl, o, b⟩
    have zZ := b.size
    replace OS := Lib.hid (OS.out.on b)
    replace OG := Lib.hid (OG.out.on b)
    replace QN := Lib.hid (box_on QN.out b)
    replace QS := Lib.hid (box_on QS.out b)
    replace QG := Lib.hid (box_on QG.out b)
    replace BB := Lib.hid (bstep BB.out b)
    have OZ := Lib.hid o.lt
    clear o b
    obtain ⟨AZ, cZ, rfl, _, _⟩ := OZ.out.reads.lenN
    obtain ⟨N0, N1⟩ := box1N QN.out
    obtain ⟨S0, S1⟩ := box1N QS.out
    obtain ⟨G0, G1⟩ := box1N QG.out
    go_wp2_with fail
    refine (implNodePack_any _ ns _ OZ.out.reads (by omega) (by omega)).mono ?_
    clear N0 N1 S0 S1 G0 G1
    rintro r w14 ⟨vH, rfl, o, b⟩
    have zH := b.size
    replace OS := Lib.hid (OS.out.on b)
    replace OG := Lib.hid (OG.out.on b)
    replace OZ := Lib.hid (OZ.out.on b)
    replace QN := Lib.hid (box_on QN.out b)
    replace QS := Lib.hid (box_on QS.out b)
    replace QG := Lib.hid (box_on QG.out b)
    replace BB := Lib.hid (bstep BB.out b)
    have OH := Lib.hid o.lt
    rw [HR.out] at OH
    clear o b
    obtain ⟨AH, cH, rfl, _, _⟩ := OH.out.reads.lenN
    clear OZ
    have ba := bal1 w14 (.cells #[.slice AH R.length cH] 26)
    have QH := Lib.hid (al1 w14 (.cells #[.slice AH R.length cH] 26))
    have hw15 : (w14.alloc (.cells #[.slice AH R.length cH] 26)).heap.size = w14.heap.size + 1 := by simp
    replace OS := Lib.hid (OS.out.on ba)
    replace OG := Lib.hid (OG.out.on ba)
    replace OH := Lib.hid (OH.out.on ba)
    replace QN := Lib.hid (box_on QN.out ba)
    replace QS := Lib.hid (box_on QS.out ba)
    replace QG := Lib.hid (box_on QG.out ba)
    replace BB := Lib.hid (bstep BB.out ba)
    clear ba
    have yw15 := Lib.hid hw15
    clear hw15
    obtain ⟨N0, N1⟩ := box1N QN.out
    obtain ⟨S0, S1⟩ := box1N QS.out
    obtain ⟨G0, G1⟩ := box1N QG.out
    go_upto_region 25 with (fail)
    clear N0 N1 S0 S1 G0 G1
    generalize w14.alloc (.cells #[.slice AH R.length cH] 26) = w15 at *
    have xw15 := Nat.le_of_eq yw15.out
    have uw15 := Nat.le_of_eq yw15.out.symm
    clear yw15
    obtain ⟨N0, N1⟩ := box1N QN.out
    obtain ⟨S0, S1⟩ := box1N QS.out
    obtain ⟨G0, G1⟩ := box1N QG.out
    obtain ⟨H0, H1⟩ := box1N QH.out
    go_wp2_with fail
    refine (eqNode_same _ _ R _ OH.out.reads OS.out.reads hsR.out).mono ?_
    clear N0 N1 S0 S1 G0 G1 H0 H1
    rintro r w16 ⟨rfl, b⟩
    have z16 := b.size
    replace OS := Lib.hid (OS.out.on b)
    replace OG := Lib.hid (OG.out.on b)
    replace OH := Lib.hid (OH.out.on b)
    replace QN := Lib.hid (box_on QN.out b)
    replace QS := Lib.hid (box_on QS.out b)
    replace QG := Lib.hid (box_on QG.out b)
    replace QH := Lib.hid (box_on QH.out b)
    replace BB := Lib.hid (bstep BB.out b)
    clear b
    obtain ⟨N0, N1⟩ := box1N QN.out
    obtain ⟨S0, S1⟩ := box1N QS.out
    obtain ⟨G0, G1⟩ := box1N QG.out
    obtain ⟨H0, H1⟩ := box1N QH.out
    go_wp2_with fail
    refine (heldNode_any _ R 1 _ OG.out.reads hsR.out (by omega) (by omega)).mono ?_
    clear N0 N1 S0 S1 G0 G1 H0 H1
    rintro r w17 ⟨rfl, b⟩
    have z17 := b.size
    replace OS := Lib.hid (OS.out.on b)
    replace OG := Lib.hid (OG.out.on b)
    replace OH := Lib.hid (OH.out.on b)
    replace QN := Lib.hid (box_on QN.out b)
    replace QS := Lib.hid (box_on QS.out b)
    replace QG := Lib.hid (box_on QG.out b)
    replace QH := Lib.hid (box_on QH.out b)
    replace BB := Lib.hid (bstep BB.out b)
    clear b
    rw [HQ.out]
    go_wp2
    go_ret
    exact ⟨rfl, BB.out⟩
  · go_enter Try.func10, Try.ntmps10
    go_upto_region 1 with (fail)
    generalize w.alloc (.cells #[.slice A ns.length c] 49) = W at *
    obtain ⟨N0, N1⟩ := box1N QN.out
    go_wp2_with fail
    refine (szN_big _ ns _ (HV.out.on BB.out) (by omega)).mono ?_
    clear N0 N1
    rintro r w0 ⟨rfl, b⟩
    have B1 := Lib.hid (bstep BB.out b)
    clear b
    go_wp2
    go_ret
    exact ⟨rfl, B1.out⟩
end Go.Proofs.Ytncjedbdkanleaa
