/- The walks of FnExactSameMaps and FnExactMapAt: at every argument the call returns true and writes nothing that was there. No condition. -/
import Derived.Test.YtcimpcocgmlmoaaExMap
import Derived.Test.YtcimpcocgmlmoaaMapSame
namespace Go.Proofs.Ytcimpcocgmlmoaa
open Go.RowKit
set_option maxRecDepth 100000
set_option linter.unusedSimpArgs false
set_option linter.unusedVariables false

set_option maxHeartbeats 4000000 in
theorem exactSameMaps_walk (v : Value) (l0 : {l : List MapD // ∀ k ∈ l, k.a.size ≤ maxLen}) (u : Value) (k0 : {l : List MapD // ∀ k ∈ l, k.a.size ≤ maxLen}) (w : World) (hv : Reads w w.heap.size v (mapsT 52 l0.1)) (hu : Reads w w.heap.size u (mapsT 52 k0.1)) :
    Calls Try.prog 4 #[v, u] w fun e w' => e = .returned (.bool true) ∧ Below w.heap.size w w' := by
  obtain ⟨l, hl⟩ := l0
  obtain ⟨k, hk⟩ := k0
  dsimp only at hv hu
  have HV := Lib.hid hv
  have HU := Lib.hid hu
  have HL := Lib.hid hl
  have HK := Lib.hid hk
  obtain ⟨A, c, rfl, _, _⟩ := Reads.lenN hv
  obtain ⟨A', c', rfl, _, _⟩ := Reads.lenN hu
  clear hv hu hl hk
  by_cases hn : cntM l ≤ 1048576
  · by_cases hm : cntM l + cntM k ≤ 1048576
    · have SL := cntM_small hn
      have SK := cntM_small (show cntM k ≤ 1048576 by omega)
      have HT := Lib.hid (fun w' (b : Below w.heap.size w w') => toMapS_any _ l w' (HV.out.on b) (show l.length + sumM l ≤ 1048576 from hn))
      have HT2 := Lib.hid (fun w' (b : Below w.heap.size w w') => toMapS_any _ k w' (HU.out.on b) (show k.length + sumM k ≤ 1048576 by have : cntM k = k.length + sumM k := rfl; omega))
      have HSP := Lib.hid (fun (W : World) (v u : Value) (h1 : Reads W W.heap.size v (mapsT 53 l)) (h2 : Reads W W.heap.size u (mapsT 53 k)) => specSameMaps_any v u l k W h1 h2 SL SK)
      have HIP := Lib.hid (fun (W : World) (v u : Value) (h1 : Reads W W.heap.size v (mapsT 53 l)) (h2 : Reads W W.heap.size u (mapsT 53 k)) => implSameMaps_any v u l k W h1 h2 SL SK)
      have HEL := Lib.hid (fun (W : World) (v u : Value) (h1 : Reads W W.heap.size v (mapsT 53 l)) (h2 : Reads W W.heap.size u (mapsT 53 l)) => eqMapS_same v u l W h1 h2 SL)
      have HEK := Lib.hid (fun (W : World) (v u : Value) (h1 : Reads W W.heap.size v (mapsT 53 k)) (h2 : Reads W W.heap.size u (mapsT 53 k)) => eqMapS_same v u k W h1 h2 SK)
      have Z1 := Lib.hid (fun w' (b : Below w.heap.size w w') => szM_small _ l 1048576 w' (HV.out.on b) HL.out (by omega) (by omega))
      have Z2 := Lib.hid (fun w' (b : Below w.heap.size w w') => szM_small _ k (1048576 - (cntM l : Nat)) w' (HU.out.on b) HK.out (by omega) (by omega))
      generalize mapsB l k = R at *
      generalize cntM l = n1 at *
      generalize cntM k = n2 at *
      have e0 : (R != R) = false := by simp
      have d0 : decide ((1048576 : Int) - (n1 : Int) < 0) = false := decide_eq_false (by omega)
      have d9 : decide ((1048576 : Int) - (n1 : Int) - (n2 : Int) < 0) = false := decide_eq_false (by omega)
      have BB := Lib.hid (Below.refl w.heap.size w)
      clear SL SK
      go_enter Try.func4, Try.ntmps4
      go_wp2_with fail
      refine (Z1.out _ BB.out).mono ?_
      rintro r w1 ⟨rfl, b⟩
      have z1 := b.size
      replace BB := Lib.hid (bstep BB.out b)
      clear b
      go_wp2_with fail
      refine (Z2.out _ BB.out).mono ?_
      rintro r w2 ⟨rfl, b⟩
      have z2 := b.size
      replace BB := Lib.hid (bstep BB.out b)
      clear b
      clear d0 d9
      go_wp2_with fail
      refine (HT.out _ BB.out).mono ?_
      rintro r w3 ⟨vT, rfl, o, b⟩
      have zT := b.size
      replace BB := Lib.hid (bstep BB.out b)
      have OT := Lib.hid o.ownR
      clear o b
      go_wp2_with fail
      refine (HT2.out _ BB.out).mono ?_
      rintro r w4 ⟨vU, rfl, o, b⟩
      have zU := b.size
      replace OT := Lib.hid (OT.out.on b)
      replace BB := Lib.hid (bstep BB.out b)
      have OU := Lib.hid o.ownR
      clear o b
      go_wp2_with fail
      refine (HSP.out _ _ _ OT.out.reads OU.out.reads).mono ?_
      rintro r w5 ⟨rfl, b⟩
      have z5 := b.size
      replace OT := Lib.hid (OT.out.on b)
      replace OU := Lib.hid (OU.out.on b)
      replace BB := Lib.hid (bstep BB.out b)
      clear b
      clear OT OU
      go_wp2_with fail
      refine (HT.out _ BB.out).mono ?_
      rintro r w6 ⟨vX, rfl, o, b⟩
      have zX := b.size
      replace BB := Lib.hid (bstep BB.out b)
      have OX := Lib.hid o.ownR
      clear o b
      go_wp2_with fail
      refine (HT2.out _ BB.out).mono ?_
      rintro r w7 ⟨vY, rfl, o, b⟩
      have zY := b.size
      replace OX := Lib.hid (OX.out.on b)
      replace BB := Lib.hid (bstep BB.out b)
      have OY := Lib.hid o.ownR
      clear o b
      go_wp2_with fail
      refine (HIP.out _ _ _ OX.out.reads OY.out.reads).mono ?_
      rintro r w8 ⟨rfl, b⟩
      have z8 := b.size
      replace OX := Lib.hid (OX.out.on b)
      replace OY := Lib.hid (OY.out.on b)
      replace BB := Lib.hid (bstep BB.out b)
      clear b
      go_wp2_with fail
      refine (HT.out _ BB.out).mono ?_
      rintro r w9 ⟨vP, rfl, o, b⟩
      have zP := b.size
      replace OX := Lib.hid (OX.out.on b)
      replace OY := Lib.hid (OY.out.on b)
      replace BB := Lib.hid (bstep BB.out b)
      have OP := Lib.hid o.ownR
      clear o b
      go_wp2_with fail
      refine (HEL.out _ _ _ OX.out.reads OP.out.reads).mono ?_
      rintro r w10 ⟨rfl, b⟩
      have z10 := b.size
      replace OX := Lib.hid (OX.out.on b)
      replace OY := Lib.hid (OY.out.on b)
      replace OP := Lib.hid (OP.out.on b)
      replace BB := Lib.hid (bstep BB.out b)
      clear b
      clear OP
      go_wp2_with fail
      refine (HT2.out _ BB.out).mono ?_
      rintro r w11 ⟨vQ, rfl, o, b⟩
      have zQ := b.size
      replace OX := Lib.hid (OX.out.on b)
      replace OY := Lib.hid (OY.out.on b)
      replace BB := Lib.hid (bstep BB.out b)
      have OQ := Lib.hid o.ownR
      clear o b
      go_wp2_with fail
      refine (HEK.out _ _ _ OY.out.reads OQ.out.reads).mono ?_
      rintro r w12 ⟨rfl, b⟩
      have z12 := b.size
      replace OX := Lib.hid (OX.out.on b)
      replace OY := Lib.hid (OY.out.on b)
      replace OQ := Lib.hid (OQ.out.on b)
      replace BB := Lib.hid (bstep BB.out b)
      clear b
      clear OQ
      go_wp2
      go_ret
      exact ⟨rfl, BB.out⟩
    · have Z1 := Lib.hid (fun w' (b : Below w.heap.size w w') => szM_small _ l 1048576 w' (HV.out.on b) HL.out (by omega) (by omega))
      have Z2 := Lib.hid (fun w' (b : Below w.heap.size w w') => szM_big _ k (1048576 - (cntM l : Nat)) w' (HU.out.on b) HK.out (by omega) (by omega) (by omega))
      generalize cntM l = n1 at *
      have d0 : decide ((1048576 : Int) - (n1 : Int) < 0) = false := decide_eq_false (by omega)
      have BB := Lib.hid (Below.refl w.heap.size w)
      go_enter Try.func4, Try.ntmps4
      go_wp2_with fail
      refine (Z1.out _ BB.out).mono ?_
      rintro r w1 ⟨rfl, b⟩
      have z1 := b.size
      replace BB := Lib.hid (bstep BB.out b)
      clear b
      go_wp2_with fail
      refine (Z2.out _ BB.out).mono ?_
      rintro r w2 ⟨rfl, b⟩
      have z2 := b.size
      replace BB := Lib.hid (bstep BB.out b)
      clear b
      go_wp2
      go_ret
      exact ⟨rfl, BB.out⟩
  · have Z1 := Lib.hid (fun w' (b : Below w.heap.size w w') => szM_big _ l 1048576 w' (HV.out.on b) HL.out (by omega) (by omega) (by omega))
    have BB := Lib.hid (Below.refl w.heap.size w)
    go_enter Try.func4, Try.ntmps4
    go_wp2_with fail
    refine (Z1.out _ BB.out).mono ?_
    rintro r w1 ⟨rfl, b⟩
    have z1 := b.size
    replace BB := Lib.hid (bstep BB.out b)
    clear b
    go_wp2
    go_ret
    exact ⟨rfl, BB.out⟩
set_option maxHeartbeats 4000000 in
theorem exactMapAt_walk (v : Value) (l0 : {l : List MapD // ∀ k ∈ l, k.a.size ≤ maxLen}) (s : ByteArray) (w : World) (hv : Reads w w.heap.size v (mapsT 52 l0.1)) (hsz : s.size ≤ maxLen) :
    Calls Try.prog 5 #[v, .string s] w fun e w' => e = .returned (.bool true) ∧ Below w.heap.size w w' := by
  obtain ⟨l, hl⟩ := l0
  dsimp only at hv
  have HV := Lib.hid hv
  have HL := Lib.hid hl
  obtain ⟨A, c, rfl, _, _⟩ := Reads.lenN hv
  clear hv hl
  unfold maxLen at hsz
  by_cases hs : s.size ≤ 1048576
  · have hs2 : decide ((s.size : Int) > 1048576) = false := decide_eq_false (by omega)
    by_cases hn : cntM l ≤ 1048576
    · have SL := cntM_small hn
      have HT := Lib.hid (fun w' (b : Below w.heap.size w w') => toMapS_any _ l w' (HV.out.on b) (show l.length + sumM l ≤ 1048576 from hn))
      have HSP := Lib.hid (fun (W : World) (v : Value) (h1 : Reads W W.heap.size v (mapsT 53 l)) => specMapAt_any v l s W h1 SL)
      have HIP := Lib.hid (fun (W : World) (v : Value) (h1 : Reads W W.heap.size v (mapsT 53 l)) => implMapAt_any v l s W h1 SL)
      have HEL := Lib.hid (fun (W : World) (v u : Value) (h1 : Reads W W.heap.size v (mapsT 53 l)) (h2 : Reads W W.heap.size u (mapsT 53 l)) => eqMapS_same v u l W h1 h2 SL)
      have Z1 := Lib.hid (fun w' (b : Below w.heap.size w w') => szM_small _ l 1048576 w' (HV.out.on b) HL.out (by omega) (by omega))
      generalize mapK s l = R at *
      generalize cntM l = n1 at *
      have e0 : (R != R) = false := by simp
      have d0 : decide ((1048576 : Int) - (n1 : Int) < 0) = false := decide_eq_false (by omega)
      have BB := Lib.hid (Below.refl w.heap.size w)
      clear SL
      go_enter Try.func5, Try.ntmps5
      go_wp2_with fail
      refine (Z1.out _ BB.out).mono ?_
      rintro r w1 ⟨rfl, b⟩
      have z1 := b.size
      replace BB := Lib.hid (bstep BB.out b)
      clear b
      clear d0
      go_wp2_with fail
      refine (HT.out _ BB.out).mono ?_
      rintro r w2 ⟨vT, rfl, o, b⟩
      have zT := b.size
      replace BB := Lib.hid (bstep BB.out b)
      have OT := Lib.hid o.ownR
      clear o b
      go_wp2_with fail
      refine (HSP.out _ _ OT.out.reads).mono ?_
      rintro r w3 ⟨rfl, b⟩
      have z3 := b.size
      replace OT := Lib.hid (OT.out.on b)
      replace BB := Lib.hid (bstep BB.out b)
      clear b
      clear OT
      go_wp2_with fail
      refine (HT.out _ BB.out).mono ?_
      rintro r w4 ⟨vX, rfl, o, b⟩
      have zX := b.size
      replace BB := Lib.hid (bstep BB.out b)
      have OX := Lib.hid o.ownR
      clear o b
      go_wp2_with fail
      refine (HIP.out _ _ OX.out.reads).mono ?_
      rintro r w5 ⟨rfl, b⟩
      have z5 := b.size
      replace OX := Lib.hid (OX.out.on b)
      replace BB := Lib.hid (bstep BB.out b)
      clear b
      go_wp2_with fail
      refine (HT.out _ BB.out).mono ?_
      rintro r w6 ⟨vP, rfl, o, b⟩
      have zP := b.size
      replace OX := Lib.hid (OX.out.on b)
      replace BB := Lib.hid (bstep BB.out b)
      have OP := Lib.hid o.ownR
      clear o b
      go_wp2_with fail
      refine (HEL.out _ _ _ OX.out.reads OP.out.reads).mono ?_
      rintro r w7 ⟨rfl, b⟩
      have z7 := b.size
      replace OX := Lib.hid (OX.out.on b)
      replace OP := Lib.hid (OP.out.on b)
      replace BB := Lib.hid (bstep BB.out b)
      clear b
      clear OP
      go_wp2
      go_ret
      exact ⟨rfl, BB.out⟩
    · have Z1 := Lib.hid (fun w' (b : Below w.heap.size w w') => szM_big _ l 1048576 w' (HV.out.on b) HL.out (by omega) (by omega) (by omega))
      have BB := Lib.hid (Below.refl w.heap.size w)
      go_enter Try.func5, Try.ntmps5
      go_wp2_with fail
      refine (Z1.out _ BB.out).mono ?_
      rintro r w1 ⟨rfl, b⟩
      have z1 := b.size
      replace BB := Lib.hid (bstep BB.out b)
      clear b
      go_wp2
      go_ret
      exact ⟨rfl, BB.out⟩
  · have hs2 : decide ((s.size : Int) > 1048576) = true := decide_eq_true (by omega)
    go_enter Try.func5, Try.ntmps5
    go_wp2
    go_ret
    exact ⟨rfl, Below.refl _ _⟩
end Go.Proofs.Ytcimpcocgmlmoaa
