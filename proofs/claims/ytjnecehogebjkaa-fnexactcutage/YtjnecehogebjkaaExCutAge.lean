/- The walk of FnExactCutAge: at every argument the call returns true and writes nothing that was there. No condition. -/
import Derived.Test.YtjnecehogebjkaaExAge
import Derived.Test.YtjnecehogebjkaaAgeCut
namespace Go.Proofs.Ytjnecehogebjkaa
open Go.RowKit
set_option maxRecDepth 100000
set_option linter.unusedSimpArgs false
set_option linter.unusedVariables false
set_option maxHeartbeats 4000000 in
theorem exactCutAge_walk (v : Value) (l : List AgeD) (d : Int) (w : World) (hv : Reads w w.heap.size v (agesA l)) (_ : (Lit.int .i64 d).wf = true) : Calls Try.prog 10 #[v, .int .i64 d] w fun e w' => e = .returned (.bool true) ∧ Below w.heap.size w w' := by
  obtain ⟨A, c, rfl, hc1, hc2⟩ := hv.shapeG
  have HV := Lib.hid hv
  clear hv
  by_cases hn : l.length ≤ 1048576
  · have HT := Lib.hid (fun w' (b : Below w.heap.size w w') => toAgeS_any (.slice A l.length c) l w' (HV.out.on b) hn)
    obtain ⟨R, hR⟩ : ∃ R, cutK l d = R := ⟨_, rfl⟩
    have hRl := cutK_len l d
    rw [hR] at hRl
    have HR := Lib.hid hR
    clear hR
    have hne : (cutOk l d != cutOk l d) = false := by simp
    obtain ⟨O, hO⟩ : ∃ O, cutOk l d = O := ⟨_, rfl⟩
    rw [hO] at hne
    have HO := Lib.hid hO
    clear hO
    have BB := Lib.hid (Below.refl w.heap.size w)
    go_enter Try.func10, Try.ntmps10
    go_wp2_with fail
    refine (szg_small _ _ _ _ hn 1048576 (by omega) (by omega)).mono ?_
    rintro r w0 ⟨rfl, rfl⟩
    have d0 : decide ((1048576 : Int) - (l.length : Int) < 0) = false := decide_eq_false (by omega)
    go_wp2_with fail
    refine (HT.out _ BB.out).mono ?_
    rintro r w1 ⟨vT, rfl, o, b⟩
    have zT := b.size
    replace BB := Lib.hid (bstep BB.out b)
    have OT := Lib.hid o.ownR
    clear o b
    clear d0
    go_wp2_with fail
    refine (specCutAge_any _ l d _ OT.out.reads (by omega)).mono ?_
    rintro r w2 ⟨vS, rfl, o, b⟩
    have zS := b.size
    replace OT := Lib.hid (OT.out.on b)
    replace BB := Lib.hid (bstep BB.out b)
    have OS := Lib.hid o.ownR
    clear o b
    rw [HR.out] at OS
    rw [HO.out]
    clear OT
    go_wp2_with fail
    refine (HT.out _ BB.out).mono ?_
    rintro r w3 ⟨vX, rfl, o, b⟩
    have zX := b.size
    replace OS := Lib.hid (OS.out.on b)
    replace BB := Lib.hid (bstep BB.out b)
    have OX := Lib.hid o.ownR
    clear o b
    go_wp2_with fail
    refine (implCutAge_any _ l d _ OX.out.reads (by omega)).mono ?_
    rintro r w4 ⟨vG, rfl, o, b⟩
    have zG := b.size
    replace OS := Lib.hid (OS.out.on b)
    replace OX := Lib.hid (OX.out.on b)
    replace BB := Lib.hid (bstep BB.out b)
    have OG := Lib.hid o.ownR
    clear o b
    rw [HR.out] at OG
    rw [HO.out]
    go_wp2_with fail
    refine (eqAgeS_same _ _ R _ OG.out.reads OS.out.reads (by omega)).mono ?_
    rintro r w5 ⟨rfl, b⟩
    have z5 := b.size
    replace OS := Lib.hid (OS.out.on b)
    replace OX := Lib.hid (OX.out.on b)
    replace OG := Lib.hid (OG.out.on b)
    replace BB := Lib.hid (bstep BB.out b)
    clear b
    go_wp2_with fail
    refine (HT.out _ BB.out).mono ?_
    rintro r w6 ⟨vY, rfl, o, b⟩
    have zY := b.size
    replace OS := Lib.hid (OS.out.on b)
    replace OX := Lib.hid (OX.out.on b)
    replace OG := Lib.hid (OG.out.on b)
    replace BB := Lib.hid (bstep BB.out b)
    have OY := Lib.hid o.ownR
    clear o b
    go_wp2_with fail
    refine (eqAgeS_same _ _ l _ OX.out.reads OY.out.reads (by omega)).mono ?_
    rintro r w7 ⟨rfl, b⟩
    have z7 := b.size
    replace OS := Lib.hid (OS.out.on b)
    replace OX := Lib.hid (OX.out.on b)
    replace OG := Lib.hid (OG.out.on b)
    replace OY := Lib.hid (OY.out.on b)
    replace BB := Lib.hid (bstep BB.out b)
    clear b
    clear OY
    go_wp2_with fail
    refine (markAgeS_any _ _ l 1 _ OX.out (by omega) (by omega) (by omega)).mono ?_
    rintro r w8 ⟨rfl, o, g⟩
    have z8 := g.size
    replace OS := Lib.hid (OS.out.far g (fun b hb _ hb' => by omega))
    replace OG := Lib.hid (OG.out.far g (fun b hb _ hb' => by omega))
    replace BB := Lib.hid (BB.out.trans (g.below BB.out.size (fun b hb => by omega)))
    replace OX := Lib.hid o
    clear o g
    have d1 : decide ((1 : Int) + ((l.length * 2 : Nat) : Int) < 0) = false := decide_eq_false (by omega)
    clear OX
    go_wp2_with fail
    refine (eqAgeS_same _ _ R _ OG.out.reads OS.out.reads (by omega)).mono ?_
    rintro r w9 ⟨rfl, b⟩
    have z9 := b.size
    replace OS := Lib.hid (OS.out.on b)
    replace OG := Lib.hid (OG.out.on b)
    replace BB := Lib.hid (bstep BB.out b)
    clear b
    clear d1
    go_wp2_with fail
    refine (markAgeS_any _ _ R 1 _ OG.out (by omega) (by omega) (by omega)).mono ?_
    rintro r w10 ⟨rfl, o, g⟩
    have z10 := g.size
    replace OS := Lib.hid (OS.out.far g (fun b hb _ hb' => by omega))
    replace BB := Lib.hid (BB.out.trans (g.below BB.out.size (fun b hb => by omega)))
    replace OG := Lib.hid o
    clear o g
    have d2 : decide ((1 : Int) + ((R.length * 2 : Nat) : Int) < 0) = false := decide_eq_false (by omega)
    have d3 : ((1 : Int) + ((R.length * 2 : Nat) : Int) != (1 : Int) + ((R.length * 2 : Nat) : Int)) = false := by simp
    generalize hq : (1 : Int) + ((R.length * 2 : Nat) : Int) = q at *
    have HQ := Lib.hid hq
    clear hq
    go_wp2_with fail
    refine (heldAgeS_any _ R 1 _ OG.out.reads (by omega) (by omega) (by omega)).mono ?_
    rintro r _ ⟨rfl, rfl⟩
    rw [HQ.out]
    go_wp2_with fail
    refine (HT.out _ BB.out).mono ?_
    rintro r w11 ⟨vZ, rfl, o, b⟩
    have zZ := b.size
    replace OS := Lib.hid (OS.out.on b)
    replace OG := Lib.hid (OG.out.on b)
    replace BB := Lib.hid (bstep BB.out b)
    have OZ := Lib.hid o.ownR
    clear o b
    go_wp2_with fail
    refine (implCutAge_any _ l d _ OZ.out.reads (by omega)).mono ?_
    rintro r w12 ⟨vH, rfl, o, b⟩
    have zH := b.size
    replace OS := Lib.hid (OS.out.on b)
    replace OG := Lib.hid (OG.out.on b)
    replace OZ := Lib.hid (OZ.out.on b)
    replace BB := Lib.hid (bstep BB.out b)
    have OH := Lib.hid o.ownR
    clear o b
    rw [HR.out] at OH
    rw [HO.out]
    clear OZ
    go_wp2_with fail
    refine (eqAgeS_same _ _ R _ OH.out.reads OS.out.reads (by omega)).mono ?_
    rintro r w13 ⟨rfl, b⟩
    have z13 := b.size
    replace OS := Lib.hid (OS.out.on b)
    replace OG := Lib.hid (OG.out.on b)
    replace OH := Lib.hid (OH.out.on b)
    replace BB := Lib.hid (bstep BB.out b)
    clear b
    go_wp2_with fail
    refine (heldAgeS_any _ R 1 _ OG.out.reads (by omega) (by omega) (by omega)).mono ?_
    rintro r _ ⟨rfl, rfl⟩
    rw [HQ.out]
    go_wp2
    go_ret
    exact ⟨rfl, BB.out⟩
  · go_enter Try.func10, Try.ntmps10
    go_wp2_with fail
    refine (szg_big _ _ _ _ (by omega) 1048576 (by omega) (by omega) (by omega)).mono ?_
    rintro r w0 ⟨rfl, rfl⟩
    go_wp2
    go_ret
    exact ⟨rfl, Below.refl _ _⟩
end Go.Proofs.Ytjnecehogebjkaa
