/- The walk of FnExactMergeSets: at every argument the call returns true and writes nothing that was there. No condition. -/
import Derived.Test.YtmeiobpeacdfjaaExDrop
import Derived.Test.YtmeiobpeacdfjaaKSetIMerge
namespace Go.Proofs.Ytmeiobpeacdfjaa
open Go.RowKit
set_option maxRecDepth 100000
set_option maxHeartbeats 4000000 in
theorem exactMerge_walk (v : Value) (l : List KeyD) (u : Value) (k : List KeyD) (w : World) (hv : Reads w w.heap.size v (keysA l)) (hu : Reads w w.heap.size u (keysA k)) : Calls Try.prog 9 #[v, u] w fun e w' => e = .returned (.bool true) ∧ Below w.heap.size w w' := by
  obtain ⟨A, c, rfl, hc1, hc2⟩ := hv.shapeK
  obtain ⟨A', c', rfl, hc1', hc2'⟩ := hu.shapeK
  have HV := Lib.hid hv
  have HU := Lib.hid hu
  clear hv hu
  by_cases hn : l.length + k.length ≤ 1048576
  · have HT := Lib.hid (fun w' (b : Below w.heap.size w w') => toKeyS_any (.slice A l.length c) l w' (HV.out.on b) (by omega))
    have HT2 := Lib.hid (fun w' (b : Below w.heap.size w w') => toKeyS_any (.slice A' k.length c') k w' (HU.out.on b) (by omega))
    obtain ⟨R, hR⟩ : ∃ R, mergeK l k = R := ⟨_, rfl⟩
    have hRl := mergeK_len l k
    rw [hR] at hRl
    have HR := Lib.hid hR
    clear hR
    have BB := Lib.hid (Below.refl w.heap.size w)
    go_enter Try.func9, Try.ntmps9
    go_wp2_with fail
    refine (sz_small _ _ _ _ (by omega) 1048576 (by omega) (by omega)).mono ?_
    rintro r w0 ⟨rfl, rfl⟩
    have d0 : decide ((1048576 : Int) - (l.length : Int) < 0) = false := decide_eq_false (by omega)
    go_wp2_with fail
    refine (sz_small _ _ _ _ (by omega) (1048576 - (l.length : Int)) (by omega) (by omega)).mono ?_
    rintro r w0 ⟨rfl, rfl⟩
    have d9 : decide ((1048576 : Int) - (l.length : Int) - (k.length : Int) < 0) = false := decide_eq_false (by omega)
    go_wp2_with fail
    refine (HT.out _ BB.out).mono ?_
    rintro r w1 ⟨vT, rfl, o, b⟩
    have zT := b.size
    replace BB := Lib.hid (bstep BB.out b)
    have OT := Lib.hid o.ownR
    clear o b
    clear d0 d9
    go_wp2_with fail
    refine (HT2.out _ BB.out).mono ?_
    rintro r w2 ⟨vU, rfl, o, b⟩
    have zU := b.size
    replace OT := Lib.hid (OT.out.on b)
    replace BB := Lib.hid (bstep BB.out b)
    have OU := Lib.hid o.ownR
    clear o b
    go_wp2_with fail
    refine (specMergeSets_any _ _ l k _ OT.out.reads OU.out.reads (by omega) (by omega)).mono ?_
    rintro r w3 ⟨vS, rfl, o, b⟩
    have zS := b.size
    replace OT := Lib.hid (OT.out.on b)
    replace OU := Lib.hid (OU.out.on b)
    replace BB := Lib.hid (bstep BB.out b)
    have OS := Lib.hid o.ownR
    clear o b
    rw [HR.out] at OS
    clear OT OU
    go_wp2_with fail
    refine (HT.out _ BB.out).mono ?_
    rintro r w4 ⟨vX, rfl, o, b⟩
    have zX := b.size
    replace OS := Lib.hid (OS.out.on b)
    replace BB := Lib.hid (bstep BB.out b)
    have OX := Lib.hid o.ownR
    clear o b
    go_wp2_with fail
    refine (HT2.out _ BB.out).mono ?_
    rintro r w5 ⟨vV, rfl, o, b⟩
    have zV := b.size
    replace OS := Lib.hid (OS.out.on b)
    replace OX := Lib.hid (OX.out.on b)
    replace BB := Lib.hid (bstep BB.out b)
    have OV := Lib.hid o.ownR
    clear o b
    go_wp2_with fail
    refine (implMergeSets_any _ _ l k _ OX.out.reads OV.out.reads (by omega)).mono ?_
    rintro r w6 ⟨vG, rfl, o, b⟩
    have zG := b.size
    replace OS := Lib.hid (OS.out.on b)
    replace OX := Lib.hid (OX.out.on b)
    replace OV := Lib.hid (OV.out.on b)
    replace BB := Lib.hid (bstep BB.out b)
    have OG := Lib.hid o.ownR
    clear o b
    rw [HR.out] at OG
    go_wp2_with fail
    refine (eqKeyS_same _ _ R _ OG.out.reads OS.out.reads (by omega)).mono ?_
    rintro r w7 ⟨rfl, b⟩
    have z7 := b.size
    replace OS := Lib.hid (OS.out.on b)
    replace OX := Lib.hid (OX.out.on b)
    replace OV := Lib.hid (OV.out.on b)
    replace OG := Lib.hid (OG.out.on b)
    replace BB := Lib.hid (bstep BB.out b)
    clear b
    go_wp2_with fail
    refine (HT.out _ BB.out).mono ?_
    rintro r w8 ⟨vY, rfl, o, b⟩
    have zY := b.size
    replace OS := Lib.hid (OS.out.on b)
    replace OX := Lib.hid (OX.out.on b)
    replace OV := Lib.hid (OV.out.on b)
    replace OG := Lib.hid (OG.out.on b)
    replace BB := Lib.hid (bstep BB.out b)
    have OY := Lib.hid o.ownR
    clear o b
    go_wp2_with fail
    refine (eqKeyS_same _ _ l _ OX.out.reads OY.out.reads (by omega)).mono ?_
    rintro r w9 ⟨rfl, b⟩
    have z9 := b.size
    replace OS := Lib.hid (OS.out.on b)
    replace OX := Lib.hid (OX.out.on b)
    replace OV := Lib.hid (OV.out.on b)
    replace OG := Lib.hid (OG.out.on b)
    replace OY := Lib.hid (OY.out.on b)
    replace BB := Lib.hid (bstep BB.out b)
    clear b
    clear OY
    go_wp2_with fail
    refine (HT2.out _ BB.out).mono ?_
    rintro r w10 ⟨vY, rfl, o, b⟩
    have zY := b.size
    replace OS := Lib.hid (OS.out.on b)
    replace OX := Lib.hid (OX.out.on b)
    replace OV := Lib.hid (OV.out.on b)
    replace OG := Lib.hid (OG.out.on b)
    replace BB := Lib.hid (bstep BB.out b)
    have OY := Lib.hid o.ownR
    clear o b
    go_wp2_with fail
    refine (eqKeyS_same _ _ k _ OV.out.reads OY.out.reads (by omega)).mono ?_
    rintro r w11 ⟨rfl, b⟩
    have z11 := b.size
    replace OS := Lib.hid (OS.out.on b)
    replace OX := Lib.hid (OX.out.on b)
    replace OV := Lib.hid (OV.out.on b)
    replace OG := Lib.hid (OG.out.on b)
    replace OY := Lib.hid (OY.out.on b)
    replace BB := Lib.hid (bstep BB.out b)
    clear b
    clear OY
    go_wp2_with fail
    refine (markKeyS_any _ _ l 1 _ OX.out (by omega) (by omega) (by omega)).mono ?_
    rintro r w12 ⟨rfl, o, g⟩
    have z12 := g.size
    replace OS := Lib.hid (OS.out.far g (fun b hb _ hb' => by omega))
    replace OV := Lib.hid (OV.out.far g (fun b hb _ hb' => by omega))
    replace OG := Lib.hid (OG.out.far g (fun b hb _ hb' => by omega))
    replace BB := Lib.hid (BB.out.trans (g.below BB.out.size (fun b hb => by omega)))
    replace OX := Lib.hid o
    clear o g
    clear OX
    go_wp2_with fail
    refine (markKeyS_any _ _ k _ _ OV.out (by omega) (by omega) (by omega)).mono ?_
    rintro r w13 ⟨rfl, o, g⟩
    have z13 := g.size
    replace OS := Lib.hid (OS.out.far g (fun b hb _ hb' => by omega))
    replace OG := Lib.hid (OG.out.far g (fun b hb _ hb' => by omega))
    replace BB := Lib.hid (BB.out.trans (g.below BB.out.size (fun b hb => by omega)))
    replace OV := Lib.hid o
    clear o g
    clear OV
    have d1 : decide ((1 : Int) + ((l.length * 5 : Nat) : Int) + ((k.length * 5 : Nat) : Int) < 0) = false := decide_eq_false (by omega)
    go_wp2_with fail
    refine (eqKeyS_same _ _ R _ OG.out.reads OS.out.reads (by omega)).mono ?_
    rintro r w14 ⟨rfl, b⟩
    have z14 := b.size
    replace OS := Lib.hid (OS.out.on b)
    replace OG := Lib.hid (OG.out.on b)
    replace BB := Lib.hid (bstep BB.out b)
    clear b
    clear d1
    go_wp2_with fail
    refine (markKeyS_any _ _ R 1 _ OG.out (by omega) (by omega) (by omega)).mono ?_
    rintro r w15 ⟨rfl, o, g⟩
    have z15 := g.size
    replace OS := Lib.hid (OS.out.far g (fun b hb _ hb' => by omega))
    replace BB := Lib.hid (BB.out.trans (g.below BB.out.size (fun b hb => by omega)))
    replace OG := Lib.hid o
    clear o g
    have d2 : decide ((1 : Int) + ((R.length * 5 : Nat) : Int) < 0) = false := decide_eq_false (by omega)
    have d3 : ((1 : Int) + ((R.length * 5 : Nat) : Int) != (1 : Int) + ((R.length * 5 : Nat) : Int)) = false := by simp
    generalize hq : (1 : Int) + ((R.length * 5 : Nat) : Int) = q at *
    have HQ := Lib.hid hq
    clear hq
    go_wp2_with fail
    refine (heldKeyS_any _ R 1 _ OG.out.reads (by omega) (by omega) (by omega)).mono ?_
    rintro r _ ⟨rfl, rfl⟩
    rw [HQ.out]
    go_wp2_with fail
    refine (HT.out _ BB.out).mono ?_
    rintro r w16 ⟨vZ, rfl, o, b⟩
    have zZ := b.size
    replace OS := Lib.hid (OS.out.on b)
    replace OG := Lib.hid (OG.out.on b)
    replace BB := Lib.hid (bstep BB.out b)
    have OZ := Lib.hid o.ownR
    clear o b
    go_wp2_with fail
    refine (HT2.out _ BB.out).mono ?_
    rintro r w17 ⟨vY, rfl, o, b⟩
    have zY := b.size
    replace OS := Lib.hid (OS.out.on b)
    replace OG := Lib.hid (OG.out.on b)
    replace OZ := Lib.hid (OZ.out.on b)
    replace BB := Lib.hid (bstep BB.out b)
    have OY := Lib.hid o.ownR
    clear o b
    go_wp2_with fail
    refine (implMergeSets_any _ _ l k _ OZ.out.reads OY.out.reads (by omega)).mono ?_
    rintro r w18 ⟨vH, rfl, o, b⟩
    have zH := b.size
    replace OS := Lib.hid (OS.out.on b)
    replace OG := Lib.hid (OG.out.on b)
    replace OZ := Lib.hid (OZ.out.on b)
    replace OY := Lib.hid (OY.out.on b)
    replace BB := Lib.hid (bstep BB.out b)
    have OH := Lib.hid o.ownR
    clear o b
    rw [HR.out] at OH
    clear OZ OY
    go_wp2_with fail
    refine (eqKeyS_same _ _ R _ OH.out.reads OS.out.reads (by omega)).mono ?_
    rintro r w19 ⟨rfl, b⟩
    have z19 := b.size
    replace OS := Lib.hid (OS.out.on b)
    replace OG := Lib.hid (OG.out.on b)
    replace OH := Lib.hid (OH.out.on b)
    replace BB := Lib.hid (bstep BB.out b)
    clear b
    go_wp2_with fail
    refine (heldKeyS_any _ R 1 _ OG.out.reads (by omega) (by omega) (by omega)).mono ?_
    rintro r _ ⟨rfl, rfl⟩
    rw [HQ.out]
    go_wp2
    go_ret
    exact ⟨rfl, BB.out⟩
  · by_cases hl : l.length ≤ 1048576
    · go_enter Try.func9, Try.ntmps9
      go_wp2_with fail
      refine (sz_small _ _ _ _ hl 1048576 (by omega) (by omega)).mono ?_
      rintro r w0 ⟨rfl, rfl⟩
      have d0 : decide ((1048576 : Int) - (l.length : Int) < 0) = false := decide_eq_false (by omega)
      go_wp2_with fail
      refine (sz_big _ _ _ _ (by omega) (1048576 - (l.length : Int)) (by omega) (by omega) (by omega)).mono ?_
      rintro r w0 ⟨rfl, rfl⟩
      go_wp2
      go_ret
      exact ⟨rfl, Below.refl _ _⟩
    · go_enter Try.func9, Try.ntmps9
      go_wp2_with fail
      refine (sz_big _ _ _ _ (by omega) 1048576 (by omega) (by omega) (by omega)).mono ?_
      rintro r w0 ⟨rfl, rfl⟩
      go_wp2
      go_ret
      exact ⟨rfl, Below.refl _ _⟩
end Go.Proofs.Ytmeiobpeacdfjaa
