/- The walk of FnExactKeysOf: at every argument the call returns true and writes nothing that was there. No condition. -/
import Derived.Test.YthopkhpiikiknaaExTree
import Derived.Test.YthopkhpiikiknaaSeeKS
import Derived.Test.YthopkhpiikiknaaExDrop
namespace Go.Proofs.Ythopkhpiikiknaa
open Go.RowKit
set_option maxRecDepth 100000
set_option linter.unusedSimpArgs false
set_option linter.unusedVariables false
set_option maxHeartbeats 4000000 in
theorem exactKeysOf_walk (v : Value) (dt : List Int × List NodeD) (p : Int) (w : World) (hv : TreeIs w v dt) (_ : (Lit.int .i64 p).wf = true) : Calls Try.prog 5 #[v, .int .i64 p] w fun e w' => e = .returned (.bool true) ∧ Below w.heap.size w w' := by
  obtain ⟨lo, ts⟩ := dt
  obtain ⟨vl, vn, rfl, hl, hv⟩ := hv
  dsimp only at hl hv
  obtain ⟨A, c, rfl, _, _⟩ := hl.lenN
  obtain ⟨B, d, rfl, _, _⟩ := hv.lenN
  have HL := Lib.hid hl
  have HV := Lib.hid hv
  clear hv hl
  have BB := Lib.hid (bal1 w (.cells #[.slice A lo.length c, .slice B ts.length d] 48))
  have QN := Lib.hid (al1 w (.cells #[.slice A lo.length c, .slice B ts.length d] 48))
  have hWz : Hid ((w.alloc (.cells #[.slice A lo.length c, .slice B ts.length d] 48)).heap.size = w.heap.size + 1) := Lib.hid (by simp)
  by_cases hn : lo.length + (ts.length + sumT ts) ≤ 1048576
  · have HT := Lib.hid (fun w' (b : Below w.heap.size w w') => toTree_any (.slice A lo.length c) (.slice B ts.length d) lo ts w' (HL.out.on b) (HV.out.on b) hn)
    have hs : Hid (SmallT lo ts) := Lib.hid ⟨by omega, by omega, by omega⟩
    obtain ⟨R, hR⟩ : ∃ R, keysOfK ts p = R := ⟨_, rfl⟩
    have hRl := keysOf_len ts p
    rw [hR] at hRl
    have HR := Lib.hid hR
    clear hR
    go_enter Try.func5, Try.ntmps5
    go_upto_region 1 with (fail)
    generalize w.alloc (.cells #[.slice A lo.length c, .slice B ts.length d] 48) = W at *
    have hWz1 := Nat.le_of_eq hWz.out
    have hWz2 := Nat.le_of_eq hWz.out.symm
    clear hWz
    obtain ⟨N0, N1, N2⟩ := box2 QN.out
    go_wp2_with fail
    refine (szT_small _ _ lo ts _ (HL.out.on BB.out) (HV.out.on BB.out) hn).mono ?_
    clear N0 N1 N2
    rintro r w0 ⟨⟨q0, rfl, hq0⟩, b⟩
    have z0 := b.size
    replace QN := Lib.hid (box_on QN.out b)
    replace BB := Lib.hid (bstep BB.out b)
    have d0 : decide (q0 < 0) = false := decide_eq_false (by omega)
    clear b hq0
    obtain ⟨N0, N1, N2⟩ := box2 QN.out
    go_wp2_with fail
    refine (HT.out _ BB.out).mono ?_
    clear N0 N1 N2
    rintro r w1 ⟨vlT, vnT, rfl, o, b⟩
    have zT := b.size
    replace QN := Lib.hid (box_on QN.out b)
    replace BB := Lib.hid (bstep BB.out b)
    have OT := Lib.hid o.c.lt
    clear o b
    obtain ⟨AT, cT, BT, dT, rfl, rfl⟩ := OT.out.reads.shape
    clear d0
    obtain ⟨N0, N1, N2⟩ := box2 QN.out
    go_wp2_with fail
    refine (specKeysOf_any _ _ lo ts p _ OT.out.reads (by omega) (by omega)).mono ?_
    clear N0 N1 N2
    rintro r w2 ⟨vS, rfl, o, b⟩
    have zS := b.size
    replace OT := Lib.hid (OT.out.on b)
    replace QN := Lib.hid (box_on QN.out b)
    replace BB := Lib.hid (bstep BB.out b)
    have OS := Lib.hid o.ownR
    rw [HR.out] at OS
    clear o b
    obtain ⟨AS, cS, rfl, _, _⟩ := OS.out.reads.shapeK
    clear OT
    obtain ⟨N0, N1, N2⟩ := box2 QN.out
    go_wp2_with fail
    refine (HT.out _ BB.out).mono ?_
    clear N0 N1 N2
    rintro r w3 ⟨vlX, vnX, rfl, o, b⟩
    have zX := b.size
    replace OS := Lib.hid (OS.out.on b)
    replace QN := Lib.hid (box_on QN.out b)
    replace BB := Lib.hid (bstep BB.out b)
    have OX := Lib.hid o.c.lt
    clear o b
    obtain ⟨AX, cX, BX, dX, rfl, rfl⟩ := OX.out.reads.shape
    have ba := bal1 w3 (.cells #[.slice AX lo.length cX, .slice BX ts.length dX] 27)
    have QX := Lib.hid (al1 w3 (.cells #[.slice AX lo.length cX, .slice BX ts.length dX] 27))
    have hw4 : (w3.alloc (.cells #[.slice AX lo.length cX, .slice BX ts.length dX] 27)).heap.size = w3.heap.size + 1 := by simp
    replace OS := Lib.hid (OS.out.on ba)
    replace OX := Lib.hid (OX.out.on ba)
    replace QN := Lib.hid (box_on QN.out ba)
    replace BB := Lib.hid (bstep BB.out ba)
    clear ba
    have yw4 := Lib.hid hw4
    clear hw4
    obtain ⟨N0, N1, N2⟩ := box2 QN.out
    go_upto_region 7 with (fail)
    clear N0 N1 N2
    generalize w3.alloc (.cells #[.slice AX lo.length cX, .slice BX ts.length dX] 27) = w4 at *
    have xw4 := Nat.le_of_eq yw4.out
    have uw4 := Nat.le_of_eq yw4.out.symm
    clear yw4
    obtain ⟨N0, N1, N2⟩ := box2 QN.out
    obtain ⟨X0, X1, X2⟩ := box2 QX.out
    go_wp2_with fail
    refine (implKeysOf_any _ _ lo ts p _ OX.out.reads (by omega) (by omega)).mono ?_
    clear N0 N1 N2 X0 X1 X2
    rintro r w5 ⟨vG, rfl, o, b⟩
    have zG := b.size
    replace OS := Lib.hid (OS.out.on b)
    replace OX := Lib.hid (OX.out.on b)
    replace QN := Lib.hid (box_on QN.out b)
    replace QX := Lib.hid (box_on QX.out b)
    replace BB := Lib.hid (bstep BB.out b)
    have OG := Lib.hid o.ownR
    rw [HR.out] at OG
    clear o b
    obtain ⟨AG, cG, rfl, _, _⟩ := OG.out.reads.shapeK
    obtain ⟨N0, N1, N2⟩ := box2 QN.out
    obtain ⟨X0, X1, X2⟩ := box2 QX.out
    go_wp2_with fail
    refine (eqKeyS_same _ _ R _ OG.out.reads OS.out.reads (by omega)).mono ?_
    clear N0 N1 N2 X0 X1 X2
    rintro r w6 ⟨rfl, b⟩
    have z6 := b.size
    replace OS := Lib.hid (OS.out.on b)
    replace OX := Lib.hid (OX.out.on b)
    replace OG := Lib.hid (OG.out.on b)
    replace QN := Lib.hid (box_on QN.out b)
    replace QX := Lib.hid (box_on QX.out b)
    replace BB := Lib.hid (bstep BB.out b)
    clear b
    obtain ⟨N0, N1, N2⟩ := box2 QN.out
    obtain ⟨X0, X1, X2⟩ := box2 QX.out
    go_upto_region 10 with (fail)
    go_region_held3 (fun V => V.cell? ⟨w.heap.size, 0, none⟩ = some (.slice A lo.length c) ∧ V.cell? ⟨w.heap.size, 1, none⟩ = some (.slice B ts.length d) ∧ V.cell? ⟨w3.heap.size, 0, none⟩ = some (.slice AX lo.length cX) ∧ V.cell? ⟨w3.heap.size, 1, none⟩ = some (.slice BX ts.length dX))
      (first | with_reducible exact ⟨(box2 (box_on QN.out (bstep (bstep (Below.drew1 _) b1p6) b2p6))).1, (box2 (box_on QN.out (bstep (bstep (Below.drew1 _) b1p6) b2p6))).2.1, (box2 (box_on QX.out (bstep (bstep (Below.drew1 _) b1p6) b2p6))).1, (box2 (box_on QX.out (bstep (bstep (Below.drew1 _) b1p6) b2p6))).2.1⟩ | with_reducible exact ⟨(box2 (box_on QN.out (bstep (Below.drew1 _) b1p6))).1, (box2 (box_on QN.out (bstep (Below.drew1 _) b1p6))).2.1, (box2 (box_on QX.out (bstep (Below.drew1 _) b1p6))).1, (box2 (box_on QX.out (bstep (Below.drew1 _) b1p6))).2.1⟩ | with_reducible exact ⟨(box2 (box_on QN.out (Below.drew1 _))).1, (box2 (box_on QN.out (Below.drew1 _))).2.1, (box2 (box_on QX.out (Below.drew1 _))).1, (box2 (box_on QX.out (Below.drew1 _))).2.1⟩ | exact ⟨N0, N1, X0, X1⟩ | fail)
      (first
        | (go_at_call 28; refine (eqTree_same _ _ _ _ lo ts _ (OX.out.on (bstep (Below.drew1 _) b1p6)).reads oop6.reads hs.out).mono ?_; rintro r u2p6 ⟨rfl, b2p6⟩)
        | (go_at_call 26; refine (HT.out _ (bstep BB.out (Below.drew1 _))).mono ?_; rintro r u1p6 ⟨vvlp6, vvnp6, rfl, oop6, b1p6⟩; obtain ⟨AAp6, ccp6, BBp6, ddp6, rfl, rfl⟩ := oop6.reads.shape)
        | fail)
    clear N0 N1 N2 X0 X1 X2
    have b := bstep (bstep (Below.drew1 _) b1p6) b2p6
    have zp6 := b.size
    replace OS := Lib.hid (OS.out.on b)
    replace OX := Lib.hid (OX.out.on b)
    replace OG := Lib.hid (OG.out.on b)
    replace QN := Lib.hid (box_on QN.out b)
    replace QX := Lib.hid (box_on QX.out b)
    replace BB := Lib.hid (bstep BB.out b)
    clear b b1p6 b2p6 oop6
    obtain ⟨N0, N1, N2⟩ := box2 QN.out
    obtain ⟨X0, X1, X2⟩ := box2 QX.out
    go_wp2_with fail
    refine (markTree_any _ _ _ lo ts 1 _ OX.out (fun b hb => by omega) hs.out (by omega) (by omega)).mono ?_
    clear N0 N1 N2 X0 X1 X2
    rintro r w7 ⟨rfl, o, g⟩
    have z7 := g.size
    replace OS := Lib.hid (OS.out.far g (fun b hb _ hb' => by omega))
    replace OG := Lib.hid (OG.out.far g (fun b hb _ hb' => by omega))
    replace QN := Lib.hid (box_only QN.out g (fun hb => by omega))
    replace QX := Lib.hid (box_only QX.out g (fun hb => by omega))
    replace BB := Lib.hid (BB.out.trans (g.below BB.out.size (fun b hb => by omega)))
    replace OX := Lib.hid o
    clear o g
    have d1 : decide (markEnd 1 lo ts < 0) = false := decide_eq_false (by have := (markEnd_le hs.out (k := 1) (by omega) (by omega)).1; omega)
    clear OX
    clear QX
    generalize markEnd 1 lo ts = me at *
    obtain ⟨N0, N1, N2⟩ := box2 QN.out
    go_wp2_with fail
    refine (eqKeyS_same _ _ R _ OG.out.reads OS.out.reads (by omega)).mono ?_
    clear N0 N1 N2
    rintro r w8 ⟨rfl, b⟩
    have z8 := b.size
    replace OS := Lib.hid (OS.out.on b)
    replace OG := Lib.hid (OG.out.on b)
    replace QN := Lib.hid (box_on QN.out b)
    replace BB := Lib.hid (bstep BB.out b)
    clear b
    clear d1
    obtain ⟨N0, N1, N2⟩ := box2 QN.out
    go_wp2_with fail
    refine (markKeyS_any _ _ R 1 _ OG.out (by omega) (by omega) (by omega)).mono ?_
    clear N0 N1 N2
    rintro r w9 ⟨rfl, o, g⟩
    have z9 := g.size
    replace OS := Lib.hid (OS.out.far g (fun b hb _ hb' => by omega))
    replace QN := Lib.hid (box_only QN.out g (fun hb => by omega))
    replace BB := Lib.hid (BB.out.trans (g.below BB.out.size (fun b hb => by omega)))
    replace OG := Lib.hid o
    clear o g
    have d2 : decide ((1 : Int) + ((R.length * 5 : Nat) : Int) < 0) = false := decide_eq_false (by omega)
    have d3 : ((1 : Int) + ((R.length * 5 : Nat) : Int) != (1 : Int) + ((R.length * 5 : Nat) : Int)) = false := by simp
    generalize hq : (1 : Int) + ((R.length * 5 : Nat) : Int) = q at *
    have HQ := Lib.hid hq
    clear hq
    obtain ⟨N0, N1, N2⟩ := box2 QN.out
    go_wp2_with fail
    refine (heldKeyS_any _ R 1 _ OG.out.reads (by omega) (by omega) (by omega)).mono ?_
    clear N0 N1 N2
    rintro r _ ⟨rfl, rfl⟩
    rw [HQ.out]
    obtain ⟨N0, N1, N2⟩ := box2 QN.out
    go_wp2_with fail
    refine (HT.out _ BB.out).mono ?_
    clear N0 N1 N2
    rintro r w10 ⟨vlZ, vnZ, rfl, o, b⟩
    have zZ := b.size
    replace OS := Lib.hid (OS.out.on b)
    replace OG := Lib.hid (OG.out.on b)
    replace QN := Lib.hid (box_on QN.out b)
    replace BB := Lib.hid (bstep BB.out b)
    have OZ := Lib.hid o.c.lt
    clear o b
    obtain ⟨AZ, cZ, BZ, dZ, rfl, rfl⟩ := OZ.out.reads.shape
    obtain ⟨N0, N1, N2⟩ := box2 QN.out
    go_wp2_with fail
    refine (implKeysOf_any _ _ lo ts p _ OZ.out.reads (by omega) (by omega)).mono ?_
    clear N0 N1 N2
    rintro r w11 ⟨vH, rfl, o, b⟩
    have zH := b.size
    replace OS := Lib.hid (OS.out.on b)
    replace OG := Lib.hid (OG.out.on b)
    replace OZ := Lib.hid (OZ.out.on b)
    replace QN := Lib.hid (box_on QN.out b)
    replace BB := Lib.hid (bstep BB.out b)
    have OH := Lib.hid o.ownR
    rw [HR.out] at OH
    clear o b
    obtain ⟨AH, cH, rfl, _, _⟩ := OH.out.reads.shapeK
    clear OZ
    obtain ⟨N0, N1, N2⟩ := box2 QN.out
    go_wp2_with fail
    refine (eqKeyS_same _ _ R _ OH.out.reads OS.out.reads (by omega)).mono ?_
    clear N0 N1 N2
    rintro r w12 ⟨rfl, b⟩
    have z12 := b.size
    replace OS := Lib.hid (OS.out.on b)
    replace OG := Lib.hid (OG.out.on b)
    replace OH := Lib.hid (OH.out.on b)
    replace QN := Lib.hid (box_on QN.out b)
    replace BB := Lib.hid (bstep BB.out b)
    clear b
    obtain ⟨N0, N1, N2⟩ := box2 QN.out
    go_wp2_with fail
    refine (heldKeyS_any _ R 1 _ OG.out.reads (by omega) (by omega) (by omega)).mono ?_
    clear N0 N1 N2
    rintro r _ ⟨rfl, rfl⟩
    rw [HQ.out]
    go_wp2
    go_ret
    exact ⟨rfl, BB.out⟩
  · go_enter Try.func5, Try.ntmps5
    go_upto_region 1 with (fail)
    generalize w.alloc (.cells #[.slice A lo.length c, .slice B ts.length d] 48) = W at *
    obtain ⟨N0, N1, N2⟩ := box2 QN.out
    go_wp2_with fail
    refine (szT_big _ _ lo ts _ (HL.out.on BB.out) (HV.out.on BB.out) (by omega)).mono ?_
    clear N0 N1 N2
    rintro r w0 ⟨rfl, b⟩
    have B1 := Lib.hid (bstep BB.out b)
    clear b
    go_wp2
    go_ret
    exact ⟨rfl, B1.out⟩
end Go.Proofs.Ythopkhpiikiknaa
