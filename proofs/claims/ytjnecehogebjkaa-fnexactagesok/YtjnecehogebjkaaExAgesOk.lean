/- The walk of FnExactAgesOk: at every argument the call returns true and writes nothing that was there. No condition. -/
import Derived.Test.YtjnecehogebjkaaExAge
import Derived.Test.YtjnecehogebjkaaAgeOk
namespace Go.Proofs.Ytjnecehogebjkaa
open Go.RowKit
set_option maxRecDepth 100000
set_option linter.unusedSimpArgs false
set_option linter.unusedVariables false
set_option maxHeartbeats 4000000 in
theorem exactAgesOk_walk (v : Value) (l : List AgeD)  (w : World) (hv : Reads w w.heap.size v (agesA l))  : Calls Try.prog 5 #[v] w fun e w' => e = .returned (.bool true) ∧ Below w.heap.size w w' := by
  obtain ⟨A, c, rfl, hc1, hc2⟩ := hv.shapeG
  have HV := Lib.hid hv
  clear hv
  by_cases hn : l.length ≤ 1048576
  · have HT := Lib.hid (fun w' (b : Below w.heap.size w w') => toAgeS_any (.slice A l.length c) l w' (HV.out.on b) hn)
    have hne : (agesOkB l != agesOkB l) = false := by simp
    obtain ⟨R, hR⟩ : ∃ R, agesOkB l = R := ⟨_, rfl⟩
    rw [hR] at hne
    have HR := Lib.hid hR
    clear hR
    have BB := Lib.hid (Below.refl w.heap.size w)
    go_enter Try.func5, Try.ntmps5
    go_wp2_with fail
    refine (szg_small _ _ _ _ hn 1048576 (by omega) (by omega)).mono ?_
    rintro r w0 ⟨rfl, rfl⟩
    have d0 : decide ((1048576 : Int) - (l.length : Int) < 0) = false := decide_eq_false (by omega)
    go_wp2_with fail
    refine (HT.out _ BB.out).mono ?_
    rintro r w1 ⟨vT, rfl, o, b⟩
    have zT := b.size
    replace BB := Lib.hid (bstep BB.out b)
    have OT := Lib.hid o.ownR
    clear o b
    clear d0
    go_wp2_with fail
    refine (specAgesOk_any _ l _ OT.out.reads (by omega)).mono ?_
    rintro r w2 ⟨rfl, b⟩
    have z2 := b.size
    replace OT := Lib.hid (OT.out.on b)
    replace BB := Lib.hid (bstep BB.out b)
    clear b
    rw [HR.out]
    clear OT
    go_wp2_with fail
    refine (HT.out _ BB.out).mono ?_
    rintro r w3 ⟨vX, rfl, o, b⟩
    have zX := b.size
    replace BB := Lib.hid (bstep BB.out b)
    have OX := Lib.hid o.ownR
    clear o b
    go_wp2_with fail
    refine (implAgesOk_any _ l _ OX.out.reads (by omega)).mono ?_
    rintro r w4 ⟨rfl, b⟩
    have z4 := b.size
    replace OX := Lib.hid (OX.out.on b)
    replace BB := Lib.hid (bstep BB.out b)
    clear b
    rw [HR.out]
    go_wp2_with fail
    refine (HT.out _ BB.out).mono ?_
    rintro r w5 ⟨vY, rfl, o, b⟩
    have zY := b.size
    replace OX := Lib.hid (OX.out.on b)
    replace BB := Lib.hid (bstep BB.out b)
    have OY := Lib.hid o.ownR
    clear o b
    go_wp2_with fail
    refine (eqAgeS_same _ _ l _ OX.out.reads OY.out.reads (by omega)).mono ?_
    rintro r w6 ⟨rfl, b⟩
    have z6 := b.size
    replace OX := Lib.hid (OX.out.on b)
    replace OY := Lib.hid (OY.out.on b)
    replace BB := Lib.hid (bstep BB.out b)
    clear b
    go_wp2
    go_ret
    exact ⟨rfl, BB.out⟩
  · go_enter Try.func5, Try.ntmps5
    go_wp2_with fail
    refine (szg_big _ _ _ _ (by omega) 1048576 (by omega) (by omega) (by omega)).mono ?_
    rintro r w0 ⟨rfl, rfl⟩
    go_wp2
    go_ret
    exact ⟨rfl, Below.refl _ _⟩
end Go.Proofs.Ytjnecehogebjkaa
