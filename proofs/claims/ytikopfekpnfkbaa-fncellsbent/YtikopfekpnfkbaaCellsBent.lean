/- The walk of FnCellsBent: for every code the law returns true and writes nothing that was there. No condition. -/
import Derived.Test.YtikopfekpnfkbaaCells
namespace Go.Proofs.Ytikopfekpnfkbaa
open Go.RowKit
set_option maxRecDepth 100000
set_option linter.unusedSimpArgs false
set_option linter.unusedVariables false

theorem no_ok : celsOkB noCells = true := by decide +kernel
theorem no_used : usedK noCells = 0 := by decide +kernel
set_option maxHeartbeats 8000000 in
theorem cellsBent_walk (a0 : Option Addr) (len0 cap0 : Nat) (z0 : List Int) (w : World) (w0 : CameIn .u8 w a0 len0 cap0 z0) :
    Calls Try.prog 4 #[.slice a0 len0 cap0] w fun e w' => e = .returned (.bool true) ∧ Below w.heap.size w w' := by
  obtain ⟨cd, rfl, hr⟩ := w0.rd
  clear w0
  by_cases hbig : cd.length ≤ 1048576
  · have d0 : decide ((1048576 : Int) < (cd.length : Int)) = false := decide_eq_false (by omega)
    have HD1 := Lib.hid (fun w' (b : Below w.heap.size w w') => drawCellsOk_any a0 cap0 cd w' (hr.on b) hbig)
    have HD2 := Lib.hid (fun w' (b : Below w.heap.size w w') => drawFreeCell_any a0 cap0 cd w' (hr.on b) hbig)
    have HD3 := Lib.hid (fun w' (b : Below w.heap.size w w') => drawCellAt_any a0 cap0 cd w' (hr.on b) hbig)
    have HD4 := Lib.hid (fun w' (b : Below w.heap.size w w') => drawUsedCells_any a0 cap0 cd w' (hr.on b) hbig)
    unfold DCels at HD1 HD4
    unfold DCelsI at HD2
    unfold DCelsII at HD3
    have BB := Lib.hid (Below.refl w.heap.size w)
    clear hr
    go_enter Try.func4, Try.ntmps4
    go_wp2_with fail
    refine (big_any _ _ _ _).mono ?_
    rintro r w0 ⟨rfl, rfl⟩
    rw [d0]
    clear d0
    go_wp2_with fail
    refine (HD1.out _ BB.out).mono ?_
    rintro r w1 ⟨vL, lL, rfl, o, b⟩
    have zL := b.size
    replace BB := Lib.hid (bstep BB.out b)
    have hlL1 := o.len.1
    have hlL2 := o.len.2
    obtain ⟨AL, cL, rfl, _, _⟩ := o.rd.shapeCel
    have OL := Lib.hid o
    clear o b
    go_wp2_with fail
    refine (HD2.out _ BB.out).mono ?_
    rintro r w2 ⟨vF, lF, i, rfl, o, b⟩
    have zF := b.size
    replace OL := Lib.hid (OL.out.on b)
    replace BB := Lib.hid (bstep BB.out b)
    have hlF1 := o.len.1
    have hlF2 := o.len.2
    obtain ⟨AF, cF, rfl, _, _⟩ := o.rd.shapeCel
    have OF := Lib.hid o
    clear o b
    go_wp2_with fail
    refine (HD3.out _ BB.out).mono ?_
    rintro r w3 ⟨vA, lA, k, g, rfl, o, b⟩
    have zA := b.size
    replace OL := Lib.hid (OL.out.on b)
    replace OF := Lib.hid (OF.out.on b)
    replace BB := Lib.hid (bstep BB.out b)
    have hlA1 := o.len.1
    have hlA2 := o.len.2
    obtain ⟨AA, cA, rfl, _, _⟩ := o.rd.shapeCel
    have OA := Lib.hid o
    clear o b
    obtain ⟨x, hx⟩ : ∃ x, cellK lA k g = x := ⟨_, rfl⟩
    obtain ⟨ok, hok⟩ : ∃ ok, cellB lA k g = ok := ⟨_, rfl⟩
    have HX := Lib.hid hx
    have HOK := Lib.hid hok
    clear hx hok
    go_wp2_with fail
    refine (implCellAt_any _ lA k g _ OA.out.rd (by omega)).mono ?_
    rintro r _ ⟨rfl, rfl⟩
    rw [HX.out, HOK.out]
    go_wp2_with fail
    refine (specCellAt_any _ lA k g _ OA.out.rd (by omega)).mono ?_
    rintro r _ ⟨rfl, rfl⟩
    rw [HX.out, HOK.out]
    clear OA
    go_wp2_with fail
    refine (HD4.out _ BB.out).mono ?_
    rintro r w4 ⟨vU, lU, rfl, o, b⟩
    have zU := b.size
    replace OL := Lib.hid (OL.out.on b)
    replace OF := Lib.hid (OF.out.on b)
    replace BB := Lib.hid (bstep BB.out b)
    have hlU1 := o.len.1
    have hlU2 := o.len.2
    obtain ⟨AU, cU, rfl, _, _⟩ := o.rd.shapeCel
    have OU := Lib.hid o
    clear o b
    have n3 : (ok == ok) = true := by simp
    have n4 : (x == x) = true := by simp
    obtain ⟨ql, hql⟩ : ∃ ql, celsOkB lL = ql := ⟨_, rfl⟩
    have HQL := Lib.hid hql
    have n1 : (ql == ql) = true := by simp
    clear hql
    obtain ⟨R, hR⟩ : ∃ R, freeK lF i = R := ⟨_, rfl⟩
    have hRl : R.length ≤ 24 := by rw [← hR, freeK_len]; exact hlF1
    have HR := Lib.hid hR
    clear hR
    obtain ⟨u, hu⟩ : ∃ u, usedK lU = u := ⟨_, rfl⟩
    have HU := Lib.hid hu
    have n6 : ((u : Int) == (u : Int)) = true := by simp
    clear hu
    go_wp2_with fail
    refine (implCellsOk_any _ lL _ OL.out.rd (by omega)).mono ?_
    rintro r w5 ⟨rfl, b⟩
    have z5 := b.size
    replace OL := Lib.hid (OL.out.on b)
    replace OF := Lib.hid (OF.out.on b)
    replace OU := Lib.hid (OU.out.on b)
    replace BB := Lib.hid (bstep BB.out b)
    clear b
    rw [HQL.out]
    go_wp2_with fail
    refine (specCellsOk_any _ lL _ OL.out.rd (by omega)).mono ?_
    rintro r _ ⟨rfl, rfl⟩
    rw [HQL.out]
    clear OL
    go_wp2_with fail
    refine (implFreeCell_any _ lF i _ OF.out.rd (by omega)).mono ?_
    rintro r w6 ⟨vG, tG, rfl, o, b⟩
    have zG := b.size
    replace OF := Lib.hid (OF.out.on b)
    replace OU := Lib.hid (OU.out.on b)
    replace BB := Lib.hid (bstep BB.out b)
    have OG := Lib.hid o
    clear o b
    rw [HR.out] at OG
    obtain ⟨AG, cG, rfl, _, _⟩ := OG.out.cd.shapeCel
    go_wp2_with fail
    refine (specFreeCell_any _ lF i _ OF.out.rd (by omega)).mono ?_
    rintro r w7 ⟨vH, tH, rfl, o, b⟩
    have zH := b.size
    replace OF := Lib.hid (OF.out.on b)
    replace OU := Lib.hid (OU.out.on b)
    replace OG := Lib.hid (OG.out.on b)
    replace BB := Lib.hid (bstep BB.out b)
    have OH := Lib.hid o
    clear o b
    rw [HR.out] at OH
    obtain ⟨AH, cH, rfl, _, _⟩ := OH.out.cd.shapeCel
    clear OF
    go_wp2_with fail
    refine (sameCells_same _ _ R _ OG.out.cd OH.out.cd (by omega)).mono ?_
    rintro r w8 ⟨rfl, b⟩
    have z8 := b.size
    replace OU := Lib.hid (OU.out.on b)
    replace OG := Lib.hid (OG.out.on b)
    replace OH := Lib.hid (OH.out.on b)
    replace BB := Lib.hid (bstep BB.out b)
    clear b
    clear OG OH
    go_wp2_with fail
    refine (implUsedCells_any _ lU _ OU.out.rd (by omega)).mono ?_
    rintro r w9 ⟨rfl, b⟩
    have z9 := b.size
    replace OU := Lib.hid (OU.out.on b)
    replace BB := Lib.hid (bstep BB.out b)
    clear b
    rw [HU.out]
    go_wp2_with fail
    refine (specUsedCells_any _ lU _ OU.out.rd (by omega)).mono ?_
    rintro r _ ⟨rfl, rfl⟩
    rw [HU.out]
    clear OU
    obtain ⟨E, hE⟩ : ∃ E, noCells = E := ⟨_, rfl⟩
    have hEl : E.length ≤ 24 := by rw [← hE]; decide
    have HE := Lib.hid hE
    have HEO : Hid (celsOkB E = true) := Lib.hid (by rw [← hE]; exact no_ok)
    have HEU : Hid (((usedK E : Nat) : Int) = 0) := Lib.hid (by rw [← hE, no_used]; rfl)
    clear hE
    go_wp2_with fail
    refine (implCellsNew_any _).mono ?_
    rintro r w10 ⟨vM, tM, rfl, o, b⟩
    have zM := b.size
    replace BB := Lib.hid (bstep BB.out b)
    have OM := Lib.hid o
    clear o b
    rw [HE.out] at OM
    obtain ⟨AM, cM, rfl, _, _⟩ := OM.out.cd.shapeCel
    go_wp2_with fail
    refine (implCellsOk_any _ E _ OM.out.cd (by omega)).mono ?_
    rintro r w11 ⟨rfl, b⟩
    have z11 := b.size
    replace OM := Lib.hid (OM.out.on b)
    replace BB := Lib.hid (bstep BB.out b)
    clear b
    rw [HEO.out]
    clear OM
    go_wp2_with fail
    refine (implCellsNew_any _).mono ?_
    rintro r w12 ⟨vP, tP, rfl, o, b⟩
    have zP := b.size
    replace BB := Lib.hid (bstep BB.out b)
    have OP := Lib.hid o
    clear o b
    rw [HE.out] at OP
    obtain ⟨AP, cP, rfl, _, _⟩ := OP.out.cd.shapeCel
    go_wp2_with fail
    refine (implUsedCells_any _ E _ OP.out.cd (by omega)).mono ?_
    rintro r w13 ⟨rfl, b⟩
    have z13 := b.size
    replace OP := Lib.hid (OP.out.on b)
    replace BB := Lib.hid (bstep BB.out b)
    clear b
    rw [HEU.out]
    clear OP
    go_wp2
    go_ret
    exact ⟨rfl, BB.out⟩
  · have d0 : decide ((1048576 : Int) < (cd.length : Int)) = true := decide_eq_true (by omega)
    clear hr
    go_enter Try.func4, Try.ntmps4
    go_wp2_with fail
    refine (big_any _ _ _ _).mono ?_
    rintro r w1 ⟨rfl, rfl⟩
    rw [d0]
    clear d0
    go_wp2
    go_ret
    exact ⟨rfl, Below.refl _ _⟩
end Go.Proofs.Ytikopfekpnfkbaa
