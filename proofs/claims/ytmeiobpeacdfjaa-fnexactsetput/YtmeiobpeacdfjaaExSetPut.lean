/- The walk of FnExactSetPut: at every argument the call returns true and writes nothing that was there. No condition. -/
import Derived.Test.YtmeiobpeacdfjaaExDrop
import Derived.Test.YtmeiobpeacdfjaaKSetIMerge
namespace Go.Proofs.Ytmeiobpeacdfjaa
open Go.RowKit
set_option maxRecDepth 100000
set_option linter.unusedSimpArgs false
set_option linter.unusedVariables false
set_option maxHeartbeats 4000000 in
theorem exactSetPut_walk (v : Value) (l : List KeyD) (u : Value) (x : KeyD) (w : World) (hv : Reads w w.heap.size v (keysA l)) (hu : KeyIs u x) : Calls Try.prog 8 #[v, u] w fun e w' => e = .returned (.bool true) ∧ Below w.heap.size w w' := by
  obtain ⟨A, c, rfl, hc1, hc2⟩ := hv.shapeK
  have HV := Lib.hid hv
  clear hv
  unfold KeyIs at hu
  subst hu
  have QK := Lib.hid (al1 w (.cells #[.int .i64 x.a, .int .i64 x.b, .int .i64 x.c, .int .i64 x.d, .int .i64 x.e] 64))
  have BB := Lib.hid (bal1 w (.cells #[.int .i64 x.a, .int .i64 x.b, .int .i64 x.c, .int .i64 x.d, .int .i64 x.e] 64))
  by_cases hn : l.length ≤ 1048576
  · have HT := Lib.hid (fun w' (b : Below w.heap.size w w') => toKeyS_any (.slice A l.length c) l w' (HV.out.on b) hn)
    have HK := Lib.hid (toKey_any x.a x.b x.c x.d x.e)
    have HS := Lib.hid specSetPut_any
    have HI := Lib.hid implSetPut_any
    unfold KeyD.v keyV at HS HI
    unfold SaysK keyV at HK
    unfold keyV
    obtain ⟨R, hR⟩ : ∃ R, putK l x = R := ⟨_, rfl⟩
    have hRl := putK_len l x
    rw [hR] at hRl
    have HR := Lib.hid hR
    clear hR
    have HZ : Hid ((w.alloc (.cells #[.int .i64 x.a, .int .i64 x.b, .int .i64 x.c, .int .i64 x.d, .int .i64 x.e] 64)).heap.size = w.heap.size + 1) := Lib.hid (by simp)
    go_enter Try.func8, Try.ntmps8
    go_upto_region 1 with (fail)
    generalize w.alloc (.cells #[.int .i64 x.a, .int .i64 x.b, .int .i64 x.c, .int .i64 x.d, .int .i64 x.e] 64) = W at *
    go_wp2_with fail
    refine (sz_small _ _ _ _ hn 1048576 (by omega) (by omega)).mono ?_
    rintro r w0 ⟨rfl, rfl⟩
    have d0 : decide ((1048576 : Int) - (l.length : Int) < 0) = false := decide_eq_false (by omega)
    go_upto_region 5 with (fail)
    clear d0
    obtain ⟨K0, K1, K2, K3, K4, K5⟩ := box5 QK.out
    go_region_held3 (fun V => V.cell? ⟨w.heap.size, 0, none⟩ = some (.int .i64 (x).a) ∧ V.cell? ⟨w.heap.size, 0 + 1, none⟩ = some (.int .i64 (x).b) ∧ V.cell? ⟨w.heap.size, 0 + 2, none⟩ = some (.int .i64 (x).c) ∧ V.cell? ⟨w.heap.size, 0 + 3, none⟩ = some (.int .i64 (x).d) ∧ V.cell? ⟨w.heap.size, 0 + 4, none⟩ = some (.int .i64 (x).e))
      (first | with_reducible exact five_box (box_on QK.out (bstep (bstep (bstep (Below.drew1 _) b1S) b2S) b3S)) | with_reducible exact five_box (box_on QK.out (bstep (bstep (Below.drew1 _) b1S) b2S)) | with_reducible exact five_box (box_on QK.out (bstep (Below.drew1 _) b1S)) | with_reducible exact five_box (box_on QK.out (Below.drew1 _)) | exact five_box QK.out | fail)
      (first
        | (go_at_call 45; refine (HS.out _ l x _ (o1S.ownR.on b2S).reads (by omega)).mono ?_; rintro r u3S ⟨vS, rfl, oS, b3S⟩)
        | (go_at_call 51; refine (HK.out _).mono ?_; rintro r u2S ⟨rfl, b2S⟩)
        | (go_at_call 48; refine (HT.out _ (bstep BB.out (Below.drew1 _))).mono ?_; rintro r u1S ⟨vvS, rfl, o1S, b1S⟩)
        | fail)
    clear K0 K1 K2 K3 K4 K5
    have b := bstep (bstep (bstep (Below.drew1 _) b1S) b2S) b3S
    have zz := (bstep (bstep (Below.drew1 _) b1S) b2S).size
    have zS := b.size
    replace QK := Lib.hid (box_on QK.out b)
    replace BB := Lib.hid (bstep BB.out b)
    have OS := Lib.hid ((oS.mono zz).ownR)
    clear b zz b1S b2S b3S o1S oS
    rw [HR.out] at OS
    go_wp2_with fail
    refine (HT.out _ BB.out).mono ?_
    rintro r w1 ⟨vX, rfl, o, b⟩
    have zX := b.size
    replace OS := Lib.hid (OS.out.on b)
    replace QK := Lib.hid (box_on QK.out b)
    replace BB := Lib.hid (bstep BB.out b)
    have OX := Lib.hid o.ownR
    clear o b
    obtain ⟨K0, K1, K2, K3, K4, K5⟩ := box5 QK.out
    go_wp2_with fail
    refine (HK.out _).mono ?_
    clear K0 K1 K2 K3 K4 K5
    rintro r w2 ⟨rfl, b⟩
    have z2 := b.size
    replace OS := Lib.hid (OS.out.on b)
    replace OX := Lib.hid (OX.out.on b)
    replace QK := Lib.hid (box_on QK.out b)
    replace BB := Lib.hid (bstep BB.out b)
    clear b
    go_wp2_with fail
    refine (HI.out _ l x _ OX.out.reads (by omega)).mono ?_
    rintro r w3 ⟨vG, rfl, o, b⟩
    have zG := b.size
    replace OS := Lib.hid (OS.out.on b)
    replace OX := Lib.hid (OX.out.on b)
    replace QK := Lib.hid (box_on QK.out b)
    replace BB := Lib.hid (bstep BB.out b)
    have OG := Lib.hid o.ownR
    clear o b
    rw [HR.out] at OG
    go_wp2_with fail
    refine (eqKeyS_same _ _ R _ OG.out.reads OS.out.reads (by omega)).mono ?_
    rintro r w4 ⟨rfl, b⟩
    have z4 := b.size
    replace OS := Lib.hid (OS.out.on b)
    replace OX := Lib.hid (OX.out.on b)
    replace OG := Lib.hid (OG.out.on b)
    replace QK := Lib.hid (box_on QK.out b)
    replace BB := Lib.hid (bstep BB.out b)
    clear b
    go_wp2_with fail
    refine (HT.out _ BB.out).mono ?_
    rintro r w5 ⟨vY, rfl, o, b⟩
    have zY := b.size
    replace OS := Lib.hid (OS.out.on b)
    replace OX := Lib.hid (OX.out.on b)
    replace OG := Lib.hid (OG.out.on b)
    replace QK := Lib.hid (box_on QK.out b)
    replace BB := Lib.hid (bstep BB.out b)
    have OY := Lib.hid o.ownR
    clear o b
    go_wp2_with fail
    refine (eqKeyS_same _ _ l _ OX.out.reads OY.out.reads (by omega)).mono ?_
    rintro r w6 ⟨rfl, b⟩
    have z6 := b.size
    replace OS := Lib.hid (OS.out.on b)
    replace OX := Lib.hid (OX.out.on b)
    replace OG := Lib.hid (OG.out.on b)
    replace OY := Lib.hid (OY.out.on b)
    replace QK := Lib.hid (box_on QK.out b)
    replace BB := Lib.hid (bstep BB.out b)
    clear b
    clear OY
    have hzW := HZ.out
    go_wp2_with fail
    refine (markKeyS_any _ _ l 1 _ OX.out (by omega) (by omega) (by omega)).mono ?_
    rintro r w7 ⟨rfl, o, g⟩
    have z7 := g.size
    replace OS := Lib.hid (OS.out.far g (fun b hb _ hb' => by omega))
    replace OG := Lib.hid (OG.out.far g (fun b hb _ hb' => by omega))
    replace QK := Lib.hid (box_only QK.out g (fun hb => by omega))
    replace BB := Lib.hid (BB.out.trans (g.below BB.out.size (fun b hb => by omega)))
    replace OX := Lib.hid o
    clear o g
    have d1 : decide ((1 : Int) + ((l.length * 5 : Nat) : Int) < 0) = false := decide_eq_false (by omega)
    clear OX
    go_wp2_with fail
    refine (eqKeyS_same _ _ R _ OG.out.reads OS.out.reads (by omega)).mono ?_
    rintro r w8 ⟨rfl, b⟩
    have z8 := b.size
    replace OS := Lib.hid (OS.out.on b)
    replace OG := Lib.hid (OG.out.on b)
    replace QK := Lib.hid (box_on QK.out b)
    replace BB := Lib.hid (bstep BB.out b)
    clear b
    clear d1
    go_wp2_with fail
    refine (markKeyS_any _ _ R 1 _ OG.out (by omega) (by omega) (by omega)).mono ?_
    rintro r w9 ⟨rfl, o, g⟩
    have z9 := g.size
    replace OS := Lib.hid (OS.out.far g (fun b hb _ hb' => by omega))
    replace QK := Lib.hid (box_only QK.out g (fun hb => by omega))
    replace BB := Lib.hid (BB.out.trans (g.below BB.out.size (fun b hb => by omega)))
    replace OG := Lib.hid o
    clear o g
    have d2 : decide ((1 : Int) + ((R.length * 5 : Nat) : Int) < 0) = false := decide_eq_false (by omega)
    have d3 : ((1 : Int) + ((R.length * 5 : Nat) : Int) != (1 : Int) + ((R.length * 5 : Nat) : Int)) = false := by simp
    generalize hq : (1 : Int) + ((R.length * 5 : Nat) : Int) = q at *
    have HQ := Lib.hid hq
    clear hq
    go_wp2_with fail
    refine (heldKeyS_any _ R 1 _ OG.out.reads (by omega) (by omega) (by omega)).mono ?_
    rintro r _ ⟨rfl, rfl⟩
    rw [HQ.out]
    go_upto_region 24 with (fail)
    obtain ⟨K0, K1, K2, K3, K4, K5⟩ := box5 QK.out
    go_region_held3 (fun V => V.cell? ⟨w.heap.size, 0, none⟩ = some (.int .i64 (x).a) ∧ V.cell? ⟨w.heap.size, 0 + 1, none⟩ = some (.int .i64 (x).b) ∧ V.cell? ⟨w.heap.size, 0 + 2, none⟩ = some (.int .i64 (x).c) ∧ V.cell? ⟨w.heap.size, 0 + 3, none⟩ = some (.int .i64 (x).d) ∧ V.cell? ⟨w.heap.size, 0 + 4, none⟩ = some (.int .i64 (x).e))
      (first | with_reducible exact five_box (box_on QK.out (bstep (bstep (bstep (Below.drew1 _) b1H) b2H) b3H)) | with_reducible exact five_box (box_on QK.out (bstep (bstep (Below.drew1 _) b1H) b2H)) | with_reducible exact five_box (box_on QK.out (bstep (Below.drew1 _) b1H)) | with_reducible exact five_box (box_on QK.out (Below.drew1 _)) | exact five_box QK.out | fail)
      (first
        | (go_at_call 44; refine (HI.out _ l x _ (o1H.ownR.on b2H).reads (by omega)).mono ?_; rintro r u3H ⟨vH, rfl, oH, b3H⟩)
        | (go_at_call 51; refine (HK.out _).mono ?_; rintro r u2H ⟨rfl, b2H⟩)
        | (go_at_call 48; refine (HT.out _ (bstep BB.out (Below.drew1 _))).mono ?_; rintro r u1H ⟨vvH, rfl, o1H, b1H⟩)
        | fail)
    clear K0 K1 K2 K3 K4 K5
    have b := bstep (bstep (bstep (Below.drew1 _) b1H) b2H) b3H
    have zz := (bstep (bstep (Below.drew1 _) b1H) b2H).size
    have zH := b.size
    replace OS := Lib.hid (OS.out.on b)
    replace OG := Lib.hid (OG.out.on b)
    replace QK := Lib.hid (box_on QK.out b)
    replace BB := Lib.hid (bstep BB.out b)
    have OH := Lib.hid ((oH.mono zz).ownR)
    clear b zz b1H b2H b3H o1H oH
    rw [HR.out] at OH
    go_wp2_with fail
    refine (eqKeyS_same _ _ R _ OH.out.reads OS.out.reads (by omega)).mono ?_
    rintro r w10 ⟨rfl, b⟩
    have z10 := b.size
    replace OS := Lib.hid (OS.out.on b)
    replace OG := Lib.hid (OG.out.on b)
    replace OH := Lib.hid (OH.out.on b)
    replace QK := Lib.hid (box_on QK.out b)
    replace BB := Lib.hid (bstep BB.out b)
    clear b
    go_wp2_with fail
    refine (heldKeyS_any _ R 1 _ OG.out.reads (by omega) (by omega) (by omega)).mono ?_
    rintro r _ ⟨rfl, rfl⟩
    rw [HQ.out]
    go_wp2
    go_ret
    exact ⟨rfl, BB.out⟩
  · unfold keyV
    go_enter Try.func8, Try.ntmps8
    go_wp2_with fail
    refine (sz_big _ _ _ _ (by omega) 1048576 (by omega) (by omega) (by omega)).mono ?_
    rintro r w0 ⟨rfl, rfl⟩
    go_wp2
    go_ret
    exact ⟨rfl, BB.out⟩
end Go.Proofs.Ytmeiobpeacdfjaa
