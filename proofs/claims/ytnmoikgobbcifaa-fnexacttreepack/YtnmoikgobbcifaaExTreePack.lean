/- The walk of FnExactTreePack: at every argument the call returns true and writes nothing that was there. No condition. -/
import Derived.Test.YtnmoikgobbcifaaExTree
import Derived.Test.YtnmoikgobbcifaaTreePack
namespace Go.Proofs.Ytnmoikgobbcifaa
open Go.RowKit
set_option maxRecDepth 100000
set_option linter.unusedSimpArgs false
set_option linter.unusedVariables false
set_option maxHeartbeats 4000000 in
theorem exactTreePack_walk (v : Value) (dt : List Int × List NodeD) (p : Int) (w : World) (hv : TreeIs w v dt) (_ : (Lit.int .i64 p).wf = true) : Calls Try.prog 10 #[v, .int .i64 p] w fun e w' => e = .returned (.bool true) ∧ Below w.heap.size w w' := by
  obtain ⟨lo, ts⟩ := dt
  obtain ⟨vl, vn, rfl, hl, hv⟩ := hv
  dsimp only at hl hv
  obtain ⟨A, c, rfl, _, _⟩ := hl.lenN
  obtain ⟨B, d, rfl, _, _⟩ := hv.lenN
  have HL := Lib.hid hl
  have HV := Lib.hid hv
  clear hv hl
  have BB := Lib.hid (bal1 w (.cells #[.slice A lo.length c, .slice B ts.length d] 47))
  have QN := Lib.hid (al1 w (.cells #[.slice A lo.length c, .slice B ts.length d] 47))
  have hWz : Hid ((w.alloc (.cells #[.slice A lo.length c, .slice B ts.length d] 47)).heap.size = w.heap.size + 1) := Lib.hid (by simp)
  by_cases hn : lo.length + (ts.length + sumT ts) ≤ 1048576
  · have HT := Lib.hid (fun w' (b : Below w.heap.size w w') => toTree_any (.slice A lo.length c) (.slice B ts.length d) lo ts w' (HL.out.on b) (HV.out.on b) hn)
    have hs : Hid (SmallT lo ts) := Lib.hid ⟨by omega, by omega, by omega⟩
    obtain ⟨rt, hrt⟩ : ∃ rt, treePackK ts p = rt := ⟨_, rfl⟩
    have hps := treePack_small ts p
    rw [hrt] at hps
    have hsR : Hid (SmallT lo rt) := Lib.hid ⟨by omega, by omega, by omega⟩
    have HPS := Lib.hid (fun vl vn W => specTreePack_any vl vn lo ts p W)
    have HPI := Lib.hid (fun vl vn W => implTreePack_any vl vn lo ts p W)
    rw [hrt] at HPS HPI
    clear hrt hps
    go_enter Try.func10, Try.ntmps10
    go_upto_region 1 with (fail)
    generalize w.alloc (.cells #[.slice A lo.length c, .slice B ts.length d] 47) = W at *
    have hWz1 := Nat.le_of_eq hWz.out
    have hWz2 := Nat.le_of_eq hWz.out.symm
    clear hWz
    obtain ⟨N0, N1, N2⟩ := box2 QN.out
    go_wp2_with fail
    refine (szT_small _ _ lo ts _ (HL.out.on BB.out) (HV.out.on BB.out) hn).mono ?_
    clear N0 N1 N2
    rintro r w0 ⟨⟨q0, rfl, hq0⟩, b⟩
    have z0 := b.size
    replace QN := Lib.hid (box_on QN.out b)
    replace BB := Lib.hid (bstep BB.out b)
    have d0 : decide (q0 < 0) = false := decide_eq_false (by omega)
    clear b hq0
    obtain ⟨N0, N1, N2⟩ := box2 QN.out
    go_wp2_with fail
    refine (HT.out _ BB.out).mono ?_
    clear N0 N1 N2
    rintro r w1 ⟨vlT, vnT, rfl, o, b⟩
    have zT := b.size
    replace QN := Lib.hid (box_on QN.out b)
    replace BB := Lib.hid (bstep BB.out b)
    have OT := Lib.hid o.c.lt
    clear o b
    obtain ⟨AT, cT, BT, dT, rfl, rfl⟩ := OT.out.reads.shape
    clear d0
    obtain ⟨N0, N1, N2⟩ := box2 QN.out
    go_wp2_with fail
    refine (HPS.out _ _ _ OT.out.reads hs.out (by omega)).mono ?_
    clear N0 N1 N2
    rintro r w2 ⟨vlS, vnS, rfl, o, b⟩
    have zS := b.size
    replace OT := Lib.hid (OT.out.on b)
    replace QN := Lib.hid (box_on QN.out b)
    replace BB := Lib.hid (bstep BB.out b)
    have OS := Lib.hid o.c.lt
    clear o b
    obtain ⟨AS, cS, BS, dS, rfl, rfl⟩ := OS.out.reads.shape
    clear OT
    have ba := bal1 w2 (.cells #[.slice AS lo.length cS, .slice BS rt.length dS] 27)
    have QS := Lib.hid (al1 w2 (.cells #[.slice AS lo.length cS, .slice BS rt.length dS] 27))
    have hw3 : (w2.alloc (.cells #[.slice AS lo.length cS, .slice BS rt.length dS] 27)).heap.size = w2.heap.size + 1 := by simp
    replace OS := Lib.hid (OS.out.on ba)
    replace QN := Lib.hid (box_on QN.out ba)
    replace BB := Lib.hid (bstep BB.out ba)
    clear ba
    have yw3 := Lib.hid hw3
    clear hw3
    obtain ⟨N0, N1, N2⟩ := box2 QN.out
    go_upto_region 6 with (fail)
    clear N0 N1 N2
    generalize w2.alloc (.cells #[.slice AS lo.length cS, .slice BS rt.length dS] 27) = w3 at *
    have xw3 := Nat.le_of_eq yw3.out
    have uw3 := Nat.le_of_eq yw3.out.symm
    clear yw3
    obtain ⟨N0, N1, N2⟩ := box2 QN.out
    obtain ⟨S0, S1, S2⟩ := box2 QS.out
    go_wp2_with fail
    refine (HT.out _ BB.out).mono ?_
    clear N0 N1 N2 S0 S1 S2
    rintro r w4 ⟨vlX, vnX, rfl, o, b⟩
    have zX := b.size
    replace OS := Lib.hid (OS.out.on b)
    replace QN := Lib.hid (box_on QN.out b)
    replace QS := Lib.hid (box_on QS.out b)
    replace BB := Lib.hid (bstep BB.out b)
    have OX := Lib.hid o.c.lt
    clear o b
    obtain ⟨AX, cX, BX, dX, rfl, rfl⟩ := OX.out.reads.shape
    have ba := bal1 w4 (.cells #[.slice AX lo.length cX, .slice BX ts.length dX] 27)
    have QX := Lib.hid (al1 w4 (.cells #[.slice AX lo.length cX, .slice BX ts.length dX] 27))
    have hw5 : (w4.alloc (.cells #[.slice AX lo.length cX, .slice BX ts.length dX] 27)).heap.size = w4.heap.size + 1 := by simp
    replace OS := Lib.hid (OS.out.on ba)
    replace OX := Lib.hid (OX.out.on ba)
    replace QN := Lib.hid (box_on QN.out ba)
    replace QS := Lib.hid (box_on QS.out ba)
    replace BB := Lib.hid (bstep BB.out ba)
    clear ba
    have yw5 := Lib.hid hw5
    clear hw5
    obtain ⟨N0, N1, N2⟩ := box2 QN.out
    obtain ⟨S0, S1, S2⟩ := box2 QS.out
    go_upto_region 7 with (fail)
    clear N0 N1 N2 S0 S1 S2
    generalize w4.alloc (.cells #[.slice AX lo.length cX, .slice BX ts.length dX] 27) = w5 at *
    have xw5 := Nat.le_of_eq yw5.out
    have uw5 := Nat.le_of_eq yw5.out.symm
    clear yw5
    obtain ⟨N0, N1, N2⟩ := box2 QN.out
    obtain ⟨S0, S1, S2⟩ := box2 QS.out
    obtain ⟨X0, X1, X2⟩ := box2 QX.out
    go_wp2_with fail
    refine (HPI.out _ _ _ OX.out.reads hs.out (by omega)).mono ?_
    clear N0 N1 N2 S0 S1 S2 X0 X1 X2
    rintro r w6 ⟨vlG, vnG, rfl, o, b⟩
    have zG := b.size
    replace OS := Lib.hid (OS.out.on b)
    replace OX := Lib.hid (OX.out.on b)
    replace QN := Lib.hid (box_on QN.out b)
    replace QS := Lib.hid (box_on QS.out b)
    replace QX := Lib.hid (box_on QX.out b)
    replace BB := Lib.hid (bstep BB.out b)
    have OG := Lib.hid o.c.lt
    clear o b
    obtain ⟨AG, cG, BG, dG, rfl, rfl⟩ := OG.out.reads.shape
    have ba := bal1 w6 (.cells #[.slice AG lo.length cG, .slice BG rt.length dG] 27)
    have QG := Lib.hid (al1 w6 (.cells #[.slice AG lo.length cG, .slice BG rt.length dG] 27))
    have hw7 : (w6.alloc (.cells #[.slice AG lo.length cG, .slice BG rt.length dG] 27)).heap.size = w6.heap.size + 1 := by simp
    replace OS := Lib.hid (OS.out.on ba)
    replace OX := Lib.hid (OX.out.on ba)
    replace OG := Lib.hid (OG.out.on ba)
    replace QN := Lib.hid (box_on QN.out ba)
    replace QS := Lib.hid (box_on QS.out ba)
    replace QX := Lib.hid (box_on QX.out ba)
    replace BB := Lib.hid (bstep BB.out ba)
    clear ba
    have yw7 := Lib.hid hw7
    clear hw7
    obtain ⟨N0, N1, N2⟩ := box2 QN.out
    obtain ⟨S0, S1, S2⟩ := box2 QS.out
    obtain ⟨X0, X1, X2⟩ := box2 QX.out
    go_upto_region 8 with (fail)
    clear N0 N1 N2 S0 S1 S2 X0 X1 X2
    generalize w6.alloc (.cells #[.slice AG lo.length cG, .slice BG rt.length dG] 27) = w7 at *
    have xw7 := Nat.le_of_eq yw7.out
    have uw7 := Nat.le_of_eq yw7.out.symm
    clear yw7
    obtain ⟨N0, N1, N2⟩ := box2 QN.out
    obtain ⟨S0, S1, S2⟩ := box2 QS.out
    obtain ⟨X0, X1, X2⟩ := box2 QX.out
    obtain ⟨G0, G1, G2⟩ := box2 QG.out
    go_wp2_with fail
    refine (eqTree_same _ _ _ _ lo rt _ OG.out.reads OS.out.reads hsR.out).mono ?_
    clear N0 N1 N2 S0 S1 S2 X0 X1 X2 G0 G1 G2
    rintro r w8 ⟨rfl, b⟩
    have z8 := b.size
    replace OS := Lib.hid (OS.out.on b)
    replace OX := Lib.hid (OX.out.on b)
    replace OG := Lib.hid (OG.out.on b)
    replace QN := Lib.hid (box_on QN.out b)
    replace QS := Lib.hid (box_on QS.out b)
    replace QX := Lib.hid (box_on QX.out b)
    replace QG := Lib.hid (box_on QG.out b)
    replace BB := Lib.hid (bstep BB.out b)
    clear b
    obtain ⟨N0, N1, N2⟩ := box2 QN.out
    obtain ⟨S0, S1, S2⟩ := box2 QS.out
    obtain ⟨X0, X1, X2⟩ := box2 QX.out
    obtain ⟨G0, G1, G2⟩ := box2 QG.out
    go_upto_region 10 with (fail)
    go_region_held3 (fun V => V.cell? ⟨w.heap.size, 0, none⟩ = some (.slice A lo.length c) ∧ V.cell? ⟨w.heap.size, 1, none⟩ = some (.slice B ts.length d) ∧ V.cell? ⟨w2.heap.size, 0, none⟩ = some (.slice AS lo.length cS) ∧ V.cell? ⟨w2.heap.size, 1, none⟩ = some (.slice BS rt.length dS) ∧ V.cell? ⟨w4.heap.size, 0, none⟩ = some (.slice AX lo.length cX) ∧ V.cell? ⟨w4.heap.size, 1, none⟩ = some (.slice BX ts.length dX) ∧ V.cell? ⟨w6.heap.size, 0, none⟩ = some (.slice AG lo.length cG) ∧ V.cell? ⟨w6.heap.size, 1, none⟩ = some (.slice BG rt.length dG))
      (first | with_reducible exact ⟨(box2 (box_on QN.out (bstep (bstep (Below.drew1 _) b1p8) b2p8))).1, (box2 (box_on QN.out (bstep (bstep (Below.drew1 _) b1p8) b2p8))).2.1, (box2 (box_on QS.out (bstep (bstep (Below.drew1 _) b1p8) b2p8))).1, (box2 (box_on QS.out (bstep (bstep (Below.drew1 _) b1p8) b2p8))).2.1, (box2 (box_on QX.out (bstep (bstep (Below.drew1 _) b1p8) b2p8))).1, (box2 (box_on QX.out (bstep (bstep (Below.drew1 _) b1p8) b2p8))).2.1, (box2 (box_on QG.out (bstep (bstep (Below.drew1 _) b1p8) b2p8))).1, (box2 (box_on QG.out (bstep (bstep (Below.drew1 _) b1p8) b2p8))).2.1⟩ | with_reducible exact ⟨(box2 (box_on QN.out (bstep (Below.drew1 _) b1p8))).1, (box2 (box_on QN.out (bstep (Below.drew1 _) b1p8))).2.1, (box2 (box_on QS.out (bstep (Below.drew1 _) b1p8))).1, (box2 (box_on QS.out (bstep (Below.drew1 _) b1p8))).2.1, (box2 (box_on QX.out (bstep (Below.drew1 _) b1p8))).1, (box2 (box_on QX.out (bstep (Below.drew1 _) b1p8))).2.1, (box2 (box_on QG.out (bstep (Below.drew1 _) b1p8))).1, (box2 (box_on QG.out (bstep (Below.drew1 _) b1p8))).2.1⟩ | with_reducible exact ⟨(box2 (box_on QN.out (Below.drew1 _))).1, (box2 (box_on QN.out (Below.drew1 _))).2.1, (box2 (box_on QS.out (Below.drew1 _))).1, (box2 (box_on QS.out (Below.drew1 _))).2.1, (box2 (box_on QX.out (Below.drew1 _))).1, (box2 (box_on QX.out (Below.drew1 _))).2.1, (box2 (box_on QG.out (Below.drew1 _))).1, (box2 (box_on QG.out (Below.drew1 _))).2.1⟩ | exact ⟨N0, N1, S0, S1, X0, X1, G0, G1⟩ | fail)
      (first
        | (go_at_call 23; refine (eqTree_same _ _ _ _ lo ts _ (OX.out.on (bstep (Below.drew1 _) b1p8)).reads oop8.reads hs.out).mono ?_; rintro r u2p8 ⟨rfl, b2p8⟩)
        | (go_at_call 28; refine (HT.out _ (bstep BB.out (Below.drew1 _))).mono ?_; rintro r u1p8 ⟨vvlp8, vvnp8, rfl, oop8, b1p8⟩; obtain ⟨AAp8, ccp8, BBp8, ddp8, rfl, rfl⟩ := oop8.reads.shape)
        | fail)
    clear N0 N1 N2 S0 S1 S2 X0 X1 X2 G0 G1 G2
    have b := bstep (bstep (Below.drew1 _) b1p8) b2p8
    have zp8 := b.size
    replace OS := Lib.hid (OS.out.on b)
    replace OX := Lib.hid (OX.out.on b)
    replace OG := Lib.hid (OG.out.on b)
    replace QN := Lib.hid (box_on QN.out b)
    replace QS := Lib.hid (box_on QS.out b)
    replace QX := Lib.hid (box_on QX.out b)
    replace QG := Lib.hid (box_on QG.out b)
    replace BB := Lib.hid (bstep BB.out b)
    clear b b1p8 b2p8 oop8
    obtain ⟨N0, N1, N2⟩ := box2 QN.out
    obtain ⟨S0, S1, S2⟩ := box2 QS.out
    obtain ⟨X0, X1, X2⟩ := box2 QX.out
    obtain ⟨G0, G1, G2⟩ := box2 QG.out
    go_wp2_with fail
    refine (markTree_any _ _ _ lo ts 1 _ OX.out (fun b hb => by omega) hs.out (by omega) (by omega)).mono ?_
    clear N0 N1 N2 S0 S1 S2 X0 X1 X2 G0 G1 G2
    rintro r w9 ⟨rfl, o, g⟩
    have z9 := g.size
    replace OS := Lib.hid (OS.out.far g (fun b hb _ hb' => by omega))
    replace OG := Lib.hid (OG.out.far g (fun b hb _ hb' => by omega))
    replace QN := Lib.hid (box_only QN.out g (fun hb => by omega))
    replace QS := Lib.hid (box_only QS.out g (fun hb => by omega))
    replace QX := Lib.hid (box_only QX.out g (fun hb => by omega))
    replace QG := Lib.hid (box_only QG.out g (fun hb => by omega))
    replace BB := Lib.hid (BB.out.trans (g.below BB.out.size (fun b hb => by omega)))
    replace OX := Lib.hid o
    clear o g
    have d1 : decide (markEnd 1 lo ts < 0) = false := decide_eq_false (by have := (markEnd_le hs.out (k := 1) (by omega) (by omega)).1; omega)
    clear OX
    clear QX
    generalize markEnd 1 lo ts = me at *
    obtain ⟨N0, N1, N2⟩ := box2 QN.out
    obtain ⟨S0, S1, S2⟩ := box2 QS.out
    obtain ⟨G0, G1, G2⟩ := box2 QG.out
    go_wp2_with fail
    refine (eqTree_same _ _ _ _ lo rt _ OG.out.reads OS.out.reads hsR.out).mono ?_
    clear N0 N1 N2 S0 S1 S2 G0 G1 G2
    rintro r w10 ⟨rfl, b⟩
    have z10 := b.size
    replace OS := Lib.hid (OS.out.on b)
    replace OG := Lib.hid (OG.out.on b)
    replace QN := Lib.hid (box_on QN.out b)
    replace QS := Lib.hid (box_on QS.out b)
    replace QG := Lib.hid (box_on QG.out b)
    replace BB := Lib.hid (bstep BB.out b)
    clear b
    clear d1
    obtain ⟨N0, N1, N2⟩ := box2 QN.out
    obtain ⟨S0, S1, S2⟩ := box2 QS.out
    obtain ⟨G0, G1, G2⟩ := box2 QG.out
    go_wp2_with fail
    refine (markTree_any _ _ _ lo rt 1 _ OG.out (fun b hb => by omega) hsR.out (by omega) (by omega)).mono ?_
    clear N0 N1 N2 S0 S1 S2 G0 G1 G2
    rintro r w11 ⟨rfl, o, g⟩
    have z11 := g.size
    replace OS := Lib.hid (OS.out.far g (fun b hb _ hb' => by omega))
    replace QN := Lib.hid (box_only QN.out g (fun hb => by omega))
    replace QS := Lib.hid (box_only QS.out g (fun hb => by omega))
    replace QG := Lib.hid (box_only QG.out g (fun hb => by omega))
    replace BB := Lib.hid (BB.out.trans (g.below BB.out.size (fun b hb => by omega)))
    replace OG := Lib.hid o
    clear o g
    have hme := markEnd_le hsR.out (k := 1) (by omega) (by omega)
    have d2 : decide (markEnd 1 lo rt < 0) = false := decide_eq_false (by omega)
    have d3 : (markEnd 1 lo rt != markEnd 1 lo rt) = false := by simp
    obtain ⟨mq, hq⟩ : ∃ mq, markEnd 1 lo rt = mq := ⟨_, rfl⟩
    rw [hq] at d2 d3 hme
    rw [hq]
    have HQ := Lib.hid hq
    clear hq
    obtain ⟨N0, N1, N2⟩ := box2 QN.out
    obtain ⟨S0, S1, S2⟩ := box2 QS.out
    obtain ⟨G0, G1, G2⟩ := box2 QG.out
    go_wp2_with fail
    refine (heldTree_any _ _ lo rt 1 _ OG.out.reads hsR.out (by omega) (by omega)).mono ?_
    clear N0 N1 N2 S0 S1 S2 G0 G1 G2
    rintro r w12 ⟨rfl, b⟩
    have z12 := b.size
    replace OS := Lib.hid (OS.out.on b)
    replace OG := Lib.hid (OG.out.on b)
    replace QN := Lib.hid (box_on QN.out b)
    replace QS := Lib.hid (box_on QS.out b)
    replace QG := Lib.hid (box_on QG.out b)
    replace BB := Lib.hid (bstep BB.out b)
    clear b
    rw [HQ.out]
    obtain ⟨N0, N1, N2⟩ := box2 QN.out
    obtain ⟨S0, S1, S2⟩ := box2 QS.out
    obtain ⟨G0, G1, G2⟩ := box2 QG.out
    go_wp2_with fail
    refine (HT.out _ BB.out).mono ?_
    clear N0 N1 N2 S0 S1 S2 G0 G1 G2
    rintro r w13 ⟨vlZ, vnZ, rfl, o, b⟩
    have zZ := b.size
    replace OS := Lib.hid (OS.out.on b)
    replace OG := Lib.hid (OG.out.on b)
    replace QN := Lib.hid (box_on QN.out b)
    replace QS := Lib.hid (box_on QS.out b)
    replace QG := Lib.hid (box_on QG.out b)
    replace BB := Lib.hid (bstep BB.out b)
    have OZ := Lib.hid o.c.lt
    clear o b
    obtain ⟨AZ, cZ, BZ, dZ, rfl, rfl⟩ := OZ.out.reads.shape
    obtain ⟨N0, N1, N2⟩ := box2 QN.out
    obtain ⟨S0, S1, S2⟩ := box2 QS.out
    obtain ⟨G0, G1, G2⟩ := box2 QG.out
    go_wp2_with fail
    refine (HPI.out _ _ _ OZ.out.reads hs.out (by omega)).mono ?_
    clear N0 N1 N2 S0 S1 S2 G0 G1 G2
    rintro r w14 ⟨vlH, vnH, rfl, o, b⟩
    have zH := b.size
    replace OS := Lib.hid (OS.out.on b)
    replace OG := Lib.hid (OG.out.on b)
    replace OZ := Lib.hid (OZ.out.on b)
    replace QN := Lib.hid (box_on QN.out b)
    replace QS := Lib.hid (box_on QS.out b)
    replace QG := Lib.hid (box_on QG.out b)
    replace BB := Lib.hid (bstep BB.out b)
    have OH := Lib.hid o.c.lt
    clear o b
    obtain ⟨AH, cH, BH, dH, rfl, rfl⟩ := OH.out.reads.shape
    clear OZ
    have ba := bal1 w14 (.cells #[.slice AH lo.length cH, .slice BH rt.length dH] 27)
    have QH := Lib.hid (al1 w14 (.cells #[.slice AH lo.length cH, .slice BH rt.length dH] 27))
    have hw15 : (w14.alloc (.cells #[.slice AH lo.length cH, .slice BH rt.length dH] 27)).heap.size = w14.heap.size + 1 := by simp
    replace OS := Lib.hid (OS.out.on ba)
    replace OG := Lib.hid (OG.out.on ba)
    replace OH := Lib.hid (OH.out.on ba)
    replace QN := Lib.hid (box_on QN.out ba)
    replace QS := Lib.hid (box_on QS.out ba)
    replace QG := Lib.hid (box_on QG.out ba)
    replace BB := Lib.hid (bstep BB.out ba)
    clear ba
    have yw15 := Lib.hid hw15
    clear hw15
    obtain ⟨N0, N1, N2⟩ := box2 QN.out
    obtain ⟨S0, S1, S2⟩ := box2 QS.out
    obtain ⟨G0, G1, G2⟩ := box2 QG.out
    go_upto_region 25 with (fail)
    clear N0 N1 N2 S0 S1 S2 G0 G1 G2
    generalize w14.alloc (.cells #[.slice AH lo.length cH, .slice BH rt.length dH] 27) = w15 at *
    have xw15 := Nat.le_of_eq yw15.out
    have uw15 := Nat.le_of_eq yw15.out.symm
    clear yw15
    obtain ⟨N0, N1, N2⟩ := box2 QN.out
    obtain ⟨S0, S1, S2⟩ := box2 QS.out
    obtain ⟨G0, G1, G2⟩ := box2 QG.out
    obtain ⟨H0, H1, H2⟩ := box2 QH.out
    go_wp2_with fail
    refine (eqTree_same _ _ _ _ lo rt _ OH.out.reads OS.out.reads hsR.out).mono ?_
    clear N0 N1 N2 S0 S1 S2 G0 G1 G2 H0 H1 H2
    rintro r w16 ⟨rfl, b⟩
    have z16 := b.size
    replace OS := Lib.hid (OS.out.on b)
    replace OG := Lib.hid (OG.out.on b)
    replace OH := Lib.hid (OH.out.on b)
    replace QN := Lib.hid (box_on QN.out b)
    replace QS := Lib.hid (box_on QS.out b)
    replace QG := Lib.hid (box_on QG.out b)
    replace QH := Lib.hid (box_on QH.out b)
    replace BB := Lib.hid (bstep BB.out b)
    clear b
    obtain ⟨N0, N1, N2⟩ := box2 QN.out
    obtain ⟨S0, S1, S2⟩ := box2 QS.out
    obtain ⟨G0, G1, G2⟩ := box2 QG.out
    obtain ⟨H0, H1, H2⟩ := box2 QH.out
    go_wp2_with fail
    refine (heldTree_any _ _ lo rt 1 _ OG.out.reads hsR.out (by omega) (by omega)).mono ?_
    clear N0 N1 N2 S0 S1 S2 G0 G1 G2 H0 H1 H2
    rintro r w17 ⟨rfl, b⟩
    have z17 := b.size
    replace OS := Lib.hid (OS.out.on b)
    replace OG := Lib.hid (OG.out.on b)
    replace OH := Lib.hid (OH.out.on b)
    replace QN := Lib.hid (box_on QN.out b)
    replace QS := Lib.hid (box_on QS.out b)
    replace QG := Lib.hid (box_on QG.out b)
    replace QH := Lib.hid (box_on QH.out b)
    replace BB := Lib.hid (bstep BB.out b)
    clear b
    rw [HQ.out]
    go_wp2
    go_ret
    exact ⟨rfl, BB.out⟩
  · go_enter Try.func10, Try.ntmps10
    go_upto_region 1 with (fail)
    generalize w.alloc (.cells #[.slice A lo.length c, .slice B ts.length d] 47) = W at *
    obtain ⟨N0, N1, N2⟩ := box2 QN.out
    go_wp2_with fail
    refine (szT_big _ _ lo ts _ (HL.out.on BB.out) (HV.out.on BB.out) (by omega)).mono ?_
    clear N0 N1 N2
    rintro r w0 ⟨rfl, b⟩
    have B1 := Lib.hid (bstep BB.out b)
    clear b
    go_wp2
    go_ret
    exact ⟨rfl, B1.out⟩
end Go.Proofs.Ytnmoikgobbcifaa
