/- The walk of FnExactNodeNew: at every argument the call returns true and writes nothing that was there. No condition. -/
import Derived.Test.YtncjedbdkanleaaExNode
namespace Go.Proofs.Ytncjedbdkanleaa
open Go.RowKit
set_option maxRecDepth 100000
set_option linter.unusedSimpArgs false
set_option linter.unusedVariables false
set_option maxHeartbeats 4000000 in
theorem exactNodeNew_walk (v : Value) (l : List KeyD) (w : World) (hv : Reads w w.heap.size v (keysA l)) : Calls Try.prog 9 #[v] w fun e w' => e = .returned (.bool true) ∧ Below w.heap.size w w' := by
  obtain ⟨A, c, rfl, hc1, hc2⟩ := hv.shapeK
  have HV := Lib.hid hv
  clear hv
  by_cases hn : l.length ≤ 1048576
  · have HT := Lib.hid (fun w' (b : Below w.heap.size w w') => toKeyS_any (.slice A l.length c) l w' (HV.out.on b) hn)
    obtain ⟨R, hR⟩ : ∃ R, nodeNewK l = R := ⟨_, rfl⟩
    have hsR : Hid (SmallN R) := Lib.hid (by rw [← hR]; exact ⟨by have := len_new l; omega, by rw [sum_new]; omega⟩)
    have hRl := hsR.out.1
    have hRs := hsR.out.2
    have HR := Lib.hid hR
    clear hR
    have BB := Lib.hid (Below.refl w.heap.size w)
    go_enter Try.func9, Try.ntmps9
    go_wp2_with fail
    refine (sz_small _ _ _ _ hn 1048576 (by omega) (by omega)).mono ?_
    rintro r w0 ⟨rfl, rfl⟩
    have d0 : decide ((1048576 : Int) - (l.length : Int) < 0) = false := decide_eq_false (by omega)
    go_wp2_with fail
    refine (HT.out _ BB.out).mono ?_
    rintro r w1 ⟨vT, rfl, o, b⟩
    have zT := b.size
    replace BB := Lib.hid (bstep BB.out b)
    have OT := Lib.hid o.ownR
    clear o b
    obtain ⟨AT, cT, rfl, _, _⟩ := OT.out.reads.shapeK
    clear d0
    go_wp2_with fail
    refine (specNodeNew_any _ l _ OT.out.reads (by omega)).mono ?_
    rintro r w2 ⟨vS, rfl, o, b⟩
    have zS := b.size
    replace OT := Lib.hid (OT.out.on b)
    replace BB := Lib.hid (bstep BB.out b)
    have OS := Lib.hid o.lt
    rw [HR.out] at OS
    clear o b
    obtain ⟨AS, cS, rfl, _, _⟩ := OS.out.reads.lenN
    clear OT
    have ba := bal1 w2 (.cells #[.slice AS R.length cS] 26)
    have QS := Lib.hid (al1 w2 (.cells #[.slice AS R.length cS] 26))
    have hw3 : (w2.alloc (.cells #[.slice AS R.length cS] 26)).heap.size = w2.heap.size + 1 := by simp
    replace OS := Lib.hid (OS.out.on ba)
    replace BB := Lib.hid (bstep BB.out ba)
    clear ba
    have yw3 := Lib.hid hw3
    clear hw3
    go_upto_region 6 with (fail)
    generalize w2.alloc (.cells #[.slice AS R.length cS] 26) = w3 at *
    have xw3 := Nat.le_of_eq yw3.out
    have uw3 := Nat.le_of_eq yw3.out.symm
    clear yw3
    obtain ⟨S0, S1⟩ := box1N QS.out
    go_wp2_with fail
    refine (HT.out _ BB.out).mono ?_
    clear S0 S1
    rintro r w4 ⟨vX, rfl, o, b⟩
    have zX := b.size
    replace OS := Lib.hid (OS.out.on b)
    replace QS := Lib.hid (box_on QS.out b)
    replace BB := Lib.hid (bstep BB.out b)
    have OX := Lib.hid o.ownR
    clear o b
    obtain ⟨AX, cX, rfl, _, _⟩ := OX.out.reads.shapeK
    obtain ⟨S0, S1⟩ := box1N QS.out
    go_wp2_with fail
    refine (implNodeNew_any _ l _ OX.out.reads (by omega)).mono ?_
    clear S0 S1
    rintro r w5 ⟨vG, rfl, o, b⟩
    have zG := b.size
    replace OS := Lib.hid (OS.out.on b)
    replace OX := Lib.hid (OX.out.on b)
    replace QS := Lib.hid (box_on QS.out b)
    replace BB := Lib.hid (bstep BB.out b)
    have OG := Lib.hid o.lt
    rw [HR.out] at OG
    clear o b
    obtain ⟨AG, cG, rfl, _, _⟩ := OG.out.reads.lenN
    have ba := bal1 w5 (.cells #[.slice AG R.length cG] 26)
    have QG := Lib.hid (al1 w5 (.cells #[.slice AG R.length cG] 26))
    have hw6 : (w5.alloc (.cells #[.slice AG R.length cG] 26)).heap.size = w5.heap.size + 1 := by simp
    replace OS := Lib.hid (OS.out.on ba)
    replace OX := Lib.hid (OX.out.on ba)
    replace OG := Lib.hid (OG.out.on ba)
    replace QS := Lib.hid (box_on QS.out ba)
    replace BB := Lib.hid (bstep BB.out ba)
    clear ba
    have yw6 := Lib.hid hw6
    clear hw6
    obtain ⟨S0, S1⟩ := box1N QS.out
    go_upto_region 8 with (fail)
    clear S0 S1
    generalize w5.alloc (.cells #[.slice AG R.length cG] 26) = w6 at *
    have xw6 := Nat.le_of_eq yw6.out
    have uw6 := Nat.le_of_eq yw6.out.symm
    clear yw6
    obtain ⟨S0, S1⟩ := box1N QS.out
    obtain ⟨G0, G1⟩ := box1N QG.out
    go_wp2_with fail
    refine (eqNode_same _ _ R _ OG.out.reads OS.out.reads hsR.out).mono ?_
    clear S0 S1 G0 G1
    rintro r w7 ⟨rfl, b⟩
    have z7 := b.size
    replace OS := Lib.hid (OS.out.on b)
    replace OX := Lib.hid (OX.out.on b)
    replace OG := Lib.hid (OG.out.on b)
    replace QS := Lib.hid (box_on QS.out b)
    replace QG := Lib.hid (box_on QG.out b)
    replace BB := Lib.hid (bstep BB.out b)
    clear b
    obtain ⟨S0, S1⟩ := box1N QS.out
    obtain ⟨G0, G1⟩ := box1N QG.out
    go_wp2_with fail
    refine (HT.out _ BB.out).mono ?_
    clear S0 S1 G0 G1
    rintro r w8 ⟨vY, rfl, o, b⟩
    have zY := b.size
    replace OS := Lib.hid (OS.out.on b)
    replace OX := Lib.hid (OX.out.on b)
    replace OG := Lib.hid (OG.out.on b)
    replace QS := Lib.hid (box_on QS.out b)
    replace QG := Lib.hid (box_on QG.out b)
    replace BB := Lib.hid (bstep BB.out b)
    have OY := Lib.hid o.ownR
    clear o b
    obtain ⟨AY, cY, rfl, _, _⟩ := OY.out.reads.shapeK
    obtain ⟨S0, S1⟩ := box1N QS.out
    obtain ⟨G0, G1⟩ := box1N QG.out
    go_wp2_with fail
    refine (eqKeyS_same _ _ l _ OX.out.reads OY.out.reads (by omega)).mono ?_
    clear S0 S1 G0 G1
    rintro r w9 ⟨rfl, b⟩
    have z9 := b.size
    replace OS := Lib.hid (OS.out.on b)
    replace OX := Lib.hid (OX.out.on b)
    replace OG := Lib.hid (OG.out.on b)
    replace OY := Lib.hid (OY.out.on b)
    replace QS := Lib.hid (box_on QS.out b)
    replace QG := Lib.hid (box_on QG.out b)
    replace BB := Lib.hid (bstep BB.out b)
    clear b
    clear OY
    obtain ⟨S0, S1⟩ := box1N QS.out
    obtain ⟨G0, G1⟩ := box1N QG.out
    go_wp2_with fail
    refine (markKeyS_any _ _ l 1 _ OX.out (by omega) (by omega) (by omega)).mono ?_
    clear S0 S1 G0 G1
    rintro r w10 ⟨rfl, o, g⟩
    have z10 := g.size
    replace OS := Lib.hid (OS.out.far g (fun b hb _ hb' => by omega))
    replace OG := Lib.hid (OG.out.far g (fun b hb _ hb' => by omega))
    replace QS := Lib.hid (box_only QS.out g (fun hb => by omega))
    replace QG := Lib.hid (box_only QG.out g (fun hb => by omega))
    replace BB := Lib.hid (BB.out.trans (g.below BB.out.size (fun b hb => by omega)))
    replace OX := Lib.hid o
    clear o g
    have d1 : decide ((1 : Int) + ((l.length * 5 : Nat) : Int) < 0) = false := decide_eq_false (by omega)
    clear OX
    obtain ⟨S0, S1⟩ := box1N QS.out
    obtain ⟨G0, G1⟩ := box1N QG.out
    go_wp2_with fail
    refine (eqNode_same _ _ R _ OG.out.reads OS.out.reads hsR.out).mono ?_
    clear S0 S1 G0 G1
    rintro r w11 ⟨rfl, b⟩
    have z11 := b.size
    replace OS := Lib.hid (OS.out.on b)
    replace OG := Lib.hid (OG.out.on b)
    replace QS := Lib.hid (box_on QS.out b)
    replace QG := Lib.hid (box_on QG.out b)
    replace BB := Lib.hid (bstep BB.out b)
    clear b
    clear d1
    obtain ⟨S0, S1⟩ := box1N QS.out
    obtain ⟨G0, G1⟩ := box1N QG.out
    go_wp2_with fail
    refine (markNode_any _ _ R 1 _ OG.out (fun b hb => by omega) hsR.out (by omega) (by omega)).mono ?_
    clear S0 S1 G0 G1
    rintro r w12 ⟨rfl, o, g⟩
    have z12 := g.size
    replace OS := Lib.hid (OS.out.far g (fun b hb _ hb' => by omega))
    replace QS := Lib.hid (box_only QS.out g (fun hb => by omega))
    replace QG := Lib.hid (box_only QG.out g (fun hb => by omega))
    replace BB := Lib.hid (BB.out.trans (g.below BB.out.size (fun b hb => by omega)))
    replace OG := Lib.hid o
    clear o g
    have d2 : decide ((1 : Int) + ((sumN R * 5 : Nat) : Int) < 0) = false := decide_eq_false (by omega)
    have d3 : ((1 : Int) + ((sumN R * 5 : Nat) : Int) != (1 : Int) + ((sumN R * 5 : Nat) : Int)) = false := by simp
    generalize hq : (1 : Int) + ((sumN R * 5 : Nat) : Int) = q at *
    have HQ := Lib.hid hq
    clear hq
    obtain ⟨S0, S1⟩ := box1N QS.out
    obtain ⟨G0, G1⟩ := box1N QG.out
    go_wp2_with fail
    refine (heldNode_any _ R 1 _ OG.out.reads hsR.out (by omega) (by omega)).mono ?_
    clear S0 S1 G0 G1
    rintro r w13 ⟨rfl, b⟩
    have z13 := b.size
    replace OS := Lib.hid (OS.out.on b)
    replace OG := Lib.hid (OG.out.on b)
    replace QS := Lib.hid (box_on QS.out b)
    replace QG := Lib.hid (box_on QG.out b)
    replace BB := Lib.hid (bstep BB.out b)
    clear b
    rw [HQ.out]
    obtain ⟨S0, S1⟩ := box1N QS.out
    obtain ⟨G0, G1⟩ := box1N QG.out
    go_wp2_with fail
    refine (HT.out _ BB.out).mono ?_
    clear S0 S1 G0 G1
    rintro r w14 ⟨vZ, rfl, o, b⟩
    have zZ := b.size
    replace OS := Lib.hid (OS.out.on b)
    replace OG := Lib.hid (OG.out.on b)
    replace QS := Lib.hid (box_on QS.out b)
    replace QG := Lib.hid (box_on QG.out b)
    replace BB := Lib.hid (bstep BB.out b)
    have OZ := Lib.hid o.ownR
    clear o b
    obtain ⟨AZ, cZ, rfl, _, _⟩ := OZ.out.reads.shapeK
    obtain ⟨S0, S1⟩ := box1N QS.out
    obtain ⟨G0, G1⟩ := box1N QG.out
    go_wp2_with fail
    refine (implNodeNew_any _ l _ OZ.out.reads (by omega)).mono ?_
    clear S0 S1 G0 G1
    rintro r w15 ⟨vH, rfl, o, b⟩
    have zH := b.size
    replace OS := Lib.hid (OS.out.on b)
    replace OG := Lib.hid (OG.out.on b)
    replace OZ := Lib.hid (OZ.out.on b)
    replace QS := Lib.hid (box_on QS.out b)
    replace QG := Lib.hid (box_on QG.out b)
    replace BB := Lib.hid (bstep BB.out b)
    have OH := Lib.hid o.lt
    rw [HR.out] at OH
    clear o b
    obtain ⟨AH, cH, rfl, _, _⟩ := OH.out.reads.lenN
    clear OZ
    have ba := bal1 w15 (.cells #[.slice AH R.length cH] 26)
    have QH := Lib.hid (al1 w15 (.cells #[.slice AH R.length cH] 26))
    have hw16 : (w15.alloc (.cells #[.slice AH R.length cH] 26)).heap.size = w15.heap.size + 1 := by simp
    replace OS := Lib.hid (OS.out.on ba)
    replace OG := Lib.hid (OG.out.on ba)
    replace OH := Lib.hid (OH.out.on ba)
    replace QS := Lib.hid (box_on QS.out ba)
    replace QG := Lib.hid (box_on QG.out ba)
    replace BB := Lib.hid (bstep BB.out ba)
    clear ba
    have yw16 := Lib.hid hw16
    clear hw16
    obtain ⟨S0, S1⟩ := box1N QS.out
    obtain ⟨G0, G1⟩ := box1N QG.out
    go_upto_region 25 with (fail)
    clear S0 S1 G0 G1
    generalize w15.alloc (.cells #[.slice AH R.length cH] 26) = w16 at *
    have xw16 := Nat.le_of_eq yw16.out
    have uw16 := Nat.le_of_eq yw16.out.symm
    clear yw16
    obtain ⟨S0, S1⟩ := box1N QS.out
    obtain ⟨G0, G1⟩ := box1N QG.out
    obtain ⟨H0, H1⟩ := box1N QH.out
    go_wp2_with fail
    refine (eqNode_same _ _ R _ OH.out.reads OS.out.reads hsR.out).mono ?_
    clear S0 S1 G0 G1 H0 H1
    rintro r w17 ⟨rfl, b⟩
    have z17 := b.size
    replace OS := Lib.hid (OS.out.on b)
    replace OG := Lib.hid (OG.out.on b)
    replace OH := Lib.hid (OH.out.on b)
    replace QS := Lib.hid (box_on QS.out b)
    replace QG := Lib.hid (box_on QG.out b)
    replace QH := Lib.hid (box_on QH.out b)
    replace BB := Lib.hid (bstep BB.out b)
    clear b
    obtain ⟨S0, S1⟩ := box1N QS.out
    obtain ⟨G0, G1⟩ := box1N QG.out
    obtain ⟨H0, H1⟩ := box1N QH.out
    go_wp2_with fail
    refine (heldNode_any _ R 1 _ OG.out.reads hsR.out (by omega) (by omega)).mono ?_
    clear S0 S1 G0 G1 H0 H1
    rintro r w18 ⟨rfl, b⟩
    have z18 := b.size
    replace OS := Lib.hid (OS.out.on b)
    replace OG := Lib.hid (OG.out.on b)
    replace OH := Lib.hid (OH.out.on b)
    replace QS := Lib.hid (box_on QS.out b)
    replace QG := Lib.hid (box_on QG.out b)
    replace QH := Lib.hid (box_on QH.out b)
    replace BB := Lib.hid (bstep BB.out b)
    clear b
    rw [HQ.out]
    go_wp2
    go_ret
    exact ⟨rfl, BB.out⟩
  · go_enter Try.func9, Try.ntmps9
    go_wp2_with fail
    refine (sz_big _ _ _ _ (by omega) 1048576 (by omega) (by omega) (by omega)).mono ?_
    rintro r w0 ⟨rfl, rfl⟩
    go_wp2
    go_ret
    exact ⟨rfl, Below.refl _ _⟩
end Go.Proofs.Ytncjedbdkanleaa
