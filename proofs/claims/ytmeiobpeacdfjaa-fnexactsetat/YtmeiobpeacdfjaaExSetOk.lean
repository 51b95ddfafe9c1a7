/- The walks of FnExactSetOk and FnExactSetAt: at every argument the call returns true and writes nothing that was there. No condition. -/
import Derived.Test.YtmeiobpeacdfjaaExDrop
import Derived.Test.YtmeiobpeacdfjaaKSetOk
import Derived.Test.YtmeiobpeacdfjaaKSetFind
namespace Go.Proofs.Ytmeiobpeacdfjaa
open Go.RowKit
set_option maxRecDepth 100000
set_option maxHeartbeats 4000000 in
theorem exactSetOk_walk (v : Value) (l : List KeyD) (w : World) (hv : Reads w w.heap.size v (keysA l)) : Calls Try.prog 6 #[v] w fun e w' => e = .returned (.bool true) ∧ Below w.heap.size w w' := by
  obtain ⟨A, c, rfl, hc1, hc2⟩ := hv.shapeK
  have HV := Lib.hid hv
  clear hv
  by_cases hn : l.length ≤ 1048576
  · have HT := Lib.hid (fun w' (b : Below w.heap.size w w') => toKeyS_any (.slice A l.length c) l w' (HV.out.on b) hn)
    have hne : (setOkB l != setOkB l) = false := by simp
    obtain ⟨R, hR⟩ : ∃ R, setOkB l = R := ⟨_, rfl⟩
    rw [hR] at hne
    have HR := Lib.hid hR
    clear hR
    have BB := Lib.hid (Below.refl w.heap.size w)
    go_enter Try.func6, Try.ntmps6
    go_wp2_with fail
    refine (sz_small _ _ _ _ hn 1048576 (by omega) (by omega)).mono ?_
    rintro r w0 ⟨rfl, rfl⟩
    have d0 : decide ((1048576 : Int) - (l.length : Int) < 0) = false := decide_eq_false (by omega)
    go_wp2_with fail
    refine (HT.out _ BB.out).mono ?_
    rintro r w1 ⟨vT, rfl, o, b⟩
    have zT := b.size
    replace BB := Lib.hid (bstep BB.out b)
    have OT := Lib.hid o.ownR
    clear o b
    clear d0
    go_wp2_with fail
    refine (specSetOk_any _ l _ OT.out.reads (by omega)).mono ?_
    rintro r w2 ⟨rfl, b⟩
    have z2 := b.size
    replace OT := Lib.hid (OT.out.on b)
    replace BB := Lib.hid (bstep BB.out b)
    clear b
    rw [HR.out]
    clear OT
    go_wp2_with fail
    refine (HT.out _ BB.out).mono ?_
    rintro r w3 ⟨vX, rfl, o, b⟩
    have zX := b.size
    replace BB := Lib.hid (bstep BB.out b)
    have OX := Lib.hid o.ownR
    clear o b
    go_wp2_with fail
    refine (implSetOk_any _ l _ OX.out.reads (by omega)).mono ?_
    rintro r w4 ⟨rfl, b⟩
    have z4 := b.size
    replace OX := Lib.hid (OX.out.on b)
    replace BB := Lib.hid (bstep BB.out b)
    clear b
    rw [HR.out]
    go_wp2_with fail
    refine (HT.out _ BB.out).mono ?_
    rintro r w5 ⟨vY, rfl, o, b⟩
    have zY := b.size
    replace OX := Lib.hid (OX.out.on b)
    replace BB := Lib.hid (bstep BB.out b)
    have OY := Lib.hid o.ownR
    clear o b
    go_wp2_with fail
    refine (eqKeyS_same _ _ l _ OX.out.reads OY.out.reads (by omega)).mono ?_
    rintro r w6 ⟨rfl, b⟩
    have z6 := b.size
    replace OX := Lib.hid (OX.out.on b)
    replace OY := Lib.hid (OY.out.on b)
    replace BB := Lib.hid (bstep BB.out b)
    clear b
    go_wp2
    go_ret
    exact ⟨rfl, BB.out⟩
  · go_enter Try.func6, Try.ntmps6
    go_wp2_with fail
    refine (sz_big _ _ _ _ (by omega) 1048576 (by omega) (by omega) (by omega)).mono ?_
    rintro r w0 ⟨rfl, rfl⟩
    go_wp2
    go_ret
    exact ⟨rfl, Below.refl _ _⟩
set_option maxHeartbeats 4000000 in
theorem exactSetAt_walk (v : Value) (l : List KeyD) (p q : Int) (w : World) (hv : Reads w w.heap.size v (keysA l)) (_ : (Lit.int .i64 p).wf = true) (_ : (Lit.int .i64 q).wf = true) : Calls Try.prog 7 #[v, .int .i64 p, .int .i64 q] w fun e w' => e = .returned (.bool true) ∧ Below w.heap.size w w' := by
  obtain ⟨A, c, rfl, hc1, hc2⟩ := hv.shapeK
  have HV := Lib.hid hv
  clear hv
  by_cases hn : l.length ≤ 1048576
  · have HT := Lib.hid (fun w' (b : Below w.heap.size w w') => toKeyS_any (.slice A l.length c) l w' (HV.out.on b) hn)
    have HE := Lib.hid eqKey_sameK
    have HS := Lib.hid specSetAt_any
    have HI := Lib.hid implSetAt_any
    unfold SaysFind KeyD.v keyV at HS HI
    unfold keyV at HE
    obtain ⟨x, hx⟩ : ∃ x, (atK l p q).getD zK = x := ⟨_, rfl⟩
    obtain ⟨y, hy⟩ : ∃ y, (atK l p q).isSome = y := ⟨_, rfl⟩
    have hne : (y != y) = false := by simp
    have HX := Lib.hid hx
    have HY := Lib.hid hy
    clear hx hy
    have BB := Lib.hid (Below.refl w.heap.size w)
    go_enter Try.func7, Try.ntmps7
    go_wp2_with fail
    refine (sz_small _ _ _ _ hn 1048576 (by omega) (by omega)).mono ?_
    rintro r w0 ⟨rfl, rfl⟩
    have d0 : decide ((1048576 : Int) - (l.length : Int) < 0) = false := decide_eq_false (by omega)
    go_wp2_with fail
    refine (HT.out _ BB.out).mono ?_
    rintro r w1 ⟨vT, rfl, o, b⟩
    have zT := b.size
    replace BB := Lib.hid (bstep BB.out b)
    have OT := Lib.hid o.ownR
    clear o b
    clear d0
    go_wp2_with fail
    refine (HS.out _ l p q _ OT.out.reads (by omega)).mono ?_
    rintro r w2 ⟨rfl, b⟩
    have z2 := b.size
    replace OT := Lib.hid (OT.out.on b)
    replace BB := Lib.hid (bstep BB.out b)
    clear b
    rw [HX.out, HY.out]
    clear OT
    have ba := bal1 w2 (.cells #[.int .i64 x.a, .int .i64 x.b, .int .i64 x.c, .int .i64 x.d, .int .i64 x.e] 47)
    have QR := Lib.hid (al1 w2 (.cells #[.int .i64 x.a, .int .i64 x.b, .int .i64 x.c, .int .i64 x.d, .int .i64 x.e] 47))
    replace BB := Lib.hid (bstep BB.out ba)
    clear ba
    go_upto_region 6 with (fail)
    generalize w2.alloc (.cells #[.int .i64 x.a, .int .i64 x.b, .int .i64 x.c, .int .i64 x.d, .int .i64 x.e] 47) = wa at *
    go_wp2_with fail
    refine (HT.out _ BB.out).mono ?_
    rintro r w3 ⟨vX, rfl, o, b⟩
    have zX := b.size
    replace QR := Lib.hid (box_on QR.out b)
    replace BB := Lib.hid (bstep BB.out b)
    have OX := Lib.hid o.ownR
    clear o b
    go_wp2_with fail
    refine (HI.out _ l p q _ OX.out.reads (by omega)).mono ?_
    rintro r w4 ⟨rfl, b⟩
    have z4 := b.size
    replace OX := Lib.hid (OX.out.on b)
    replace QR := Lib.hid (box_on QR.out b)
    replace BB := Lib.hid (bstep BB.out b)
    clear b
    rw [HX.out, HY.out]
    have ba := bal1 w4 (.cells #[.int .i64 x.a, .int .i64 x.b, .int .i64 x.c, .int .i64 x.d, .int .i64 x.e] 47)
    have QU := Lib.hid (al1 w4 (.cells #[.int .i64 x.a, .int .i64 x.b, .int .i64 x.c, .int .i64 x.d, .int .i64 x.e] 47))
    replace OX := Lib.hid (OX.out.on ba)
    replace QR := Lib.hid (box_on QR.out ba)
    replace BB := Lib.hid (bstep BB.out ba)
    clear ba
    go_upto_region 8 with (fail)
    generalize w4.alloc (.cells #[.int .i64 x.a, .int .i64 x.b, .int .i64 x.c, .int .i64 x.d, .int .i64 x.e] 47) = wb at *
    obtain ⟨R0, R1, R2, R3, R4, R5⟩ := box5 QR.out
    obtain ⟨U0, U1, U2, U3, U4, U5⟩ := box5 QU.out
    go_wp2_with fail
    refine (HE.out _ _ _ _ _ _).mono ?_
    clear R0 R1 R2 R3 R4 R5 U0 U1 U2 U3 U4 U5
    rintro r w5 ⟨rfl, b⟩
    have z5 := b.size
    replace OX := Lib.hid (OX.out.on b)
    replace QR := Lib.hid (box_on QR.out b)
    replace QU := Lib.hid (box_on QU.out b)
    replace BB := Lib.hid (bstep BB.out b)
    clear b
    go_wp2_with fail
    refine (HT.out _ BB.out).mono ?_
    rintro r w6 ⟨vY, rfl, o, b⟩
    have zY := b.size
    replace OX := Lib.hid (OX.out.on b)
    replace BB := Lib.hid (bstep BB.out b)
    have OY := Lib.hid o.ownR
    clear o b
    go_wp2_with fail
    refine (eqKeyS_same _ _ l _ OX.out.reads OY.out.reads (by omega)).mono ?_
    rintro r w7 ⟨rfl, b⟩
    have z7 := b.size
    replace OX := Lib.hid (OX.out.on b)
    replace OY := Lib.hid (OY.out.on b)
    replace BB := Lib.hid (bstep BB.out b)
    clear b
    go_wp2
    go_ret
    exact ⟨rfl, BB.out⟩
  · go_enter Try.func7, Try.ntmps7
    go_wp2_with fail
    refine (sz_big _ _ _ _ (by omega) 1048576 (by omega) (by omega) (by omega)).mono ?_
    rintro r w0 ⟨rfl, rfl⟩
    go_wp2
    go_ret
    exact ⟨rfl, Below.refl _ _⟩
end Go.Proofs.Ytmeiobpeacdfjaa
