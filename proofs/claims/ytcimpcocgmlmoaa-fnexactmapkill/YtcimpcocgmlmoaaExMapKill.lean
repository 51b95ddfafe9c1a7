/- The walk of FnExactMapKill: at every argument the call returns true and writes nothing that was there. No condition. -/
import Derived.Test.YtcimpcocgmlmoaaExMap
import Derived.Test.YtcimpcocgmlmoaaMapDoK
namespace Go.Proofs.Ytcimpcocgmlmoaa
open Go.RowKit
set_option maxRecDepth 100000
set_option linter.unusedSimpArgs false
set_option linter.unusedVariables false

set_option maxHeartbeats 4000000 in
theorem exactMapKill_walk (v : Value) (l0 : {l : List MapD // ∀ k ∈ l, k.a.size ≤ maxLen}) (s : ByteArray) (w : World) (hv : Reads w w.heap.size v (mapsT 52 l0.1)) (hzs : s.size ≤ maxLen) :
    Calls Try.prog 8 #[v, .string s] w fun e w' => e = .returned (.bool true) ∧ Below w.heap.size w w' := by
  obtain ⟨l, hl⟩ := l0
  dsimp only at hv
  have HV := Lib.hid hv
  have HL := Lib.hid hl
  obtain ⟨A, c, rfl, _, _⟩ := Reads.lenN hv
  clear hv hl
  have hys := hzs
  unfold maxLen at hys
  by_cases h9s : s.size ≤ 1048576
  · have h8s : decide ((s.size : Int) > 1048576) = false := decide_eq_false (by omega)
    by_cases hn : cntM l ≤ 1048576
    · have SL := cntM_small hn
      have SY : SmallM (killM s l).1 := killM_small hn
      have HT := Lib.hid (fun w' (b : Below w.heap.size w w') => toMapS_any _ l w' (HV.out.on b) (show l.length + sumM l ≤ 1048576 from hn))
      have HSP := Lib.hid (fun (W : World) (v : Value) (h1 : Reads W W.heap.size v (mapsT 53 l)) => specMapKill_any v l W h1 SL s hzs)
      have HIP := Lib.hid (fun (W : World) (v : Value) (h1 : Reads W W.heap.size v (mapsT 53 l)) => implMapKill_any v l W h1 SL s hzs)
      obtain ⟨y, c, hyc⟩ : ∃ y c, killM s l = (y, c) := ⟨_, _, rfl⟩
      rw [hyc] at HSP HIP SY
      dsimp only at SY
      unfold NewMC at HSP HIP
      dsimp only at HSP HIP
      have hcc : (c != c) = false := by simp
      have HEL := Lib.hid (fun (W : World) (v u : Value) (h1 : Reads W W.heap.size v (mapsT 53 l)) (h2 : Reads W W.heap.size u (mapsT 53 l)) => eqMapS_same v u l W h1 h2 SL)
      have HEY := Lib.hid (fun (W : World) (v u : Value) (h1 : Reads W W.heap.size v (mapsT 53 y)) (h2 : Reads W W.heap.size u (mapsT 53 y)) => eqMapS_same v u y W h1 h2 SY)
      have HML := Lib.hid (fun (W : World) (v : Value) (S : Nat → Prop) (h1 : Owns W S v (mapsT 53 l)) => markMapS_any v S l 1 W h1 SL (by omega) (by omega))
      have HMY := Lib.hid (fun (W : World) (v : Value) (S : Nat → Prop) (h1 : Owns W S v (mapsT 53 y)) => markMapS_any v S y 1 W h1 SY (by omega) (by omega))
      have HHY := Lib.hid (fun (W : World) (v : Value) (h1 : Reads W W.heap.size v (mapsT 53 (mkL mMap sMap 1 y y.length))) => heldMapS_any v y 1 W h1 SY (by omega) (by omega))
      unfold MarkedM at HML HMY
      have hk0 : decide ((1 : Int) + ((totL sMap l l.length : Nat) : Int) < 0) = false := decide_eq_false (by omega)
      have hm0 : decide ((1 : Int) + ((totL sMap y y.length : Nat) : Int) < 0) = false := decide_eq_false (by omega)
      generalize (1 : Int) + ((totL sMap l l.length : Nat) : Int) = mk at *
      generalize (1 : Int) + ((totL sMap y y.length : Nat) : Int) = mq at *
      have hmm : (mq != mq) = false := by simp
      have Z1 := Lib.hid (fun w' (b : Below w.heap.size w w') => szM_small _ l 1048576 w' (HV.out.on b) HL.out (by omega) (by omega))
      generalize cntM l = n1 at *
      have d0 : decide ((1048576 : Int) - (n1 : Int) < 0) = false := decide_eq_false (by omega)
      have BB := Lib.hid (Below.refl w.heap.size w)
      clear SL SY hyc
      go_enter Try.func8, Try.ntmps8
      go_wp2_with fail
      refine (Z1.out _ BB.out).mono ?_
      rintro r w1 ⟨rfl, b⟩
      have z1 := b.size
      replace BB := Lib.hid (bstep BB.out b)
      clear b
      clear d0
      go_wp2_with fail
      refine (HT.out _ BB.out).mono ?_
      rintro r w2 ⟨vT, rfl, o, b⟩
      have zT := b.size
      replace BB := Lib.hid (bstep BB.out b)
      have OT := Lib.hid o.ownR
      clear o b
      go_wp2_with fail
      refine (HSP.out _ _ OT.out.reads).mono ?_
      rintro r w3 ⟨vS, rfl, o, b⟩
      have zS := b.size
      replace OT := Lib.hid (OT.out.on b)
      replace BB := Lib.hid (bstep BB.out b)
      have OS := Lib.hid o.ownR
      clear o b
      clear OT
      go_wp2_with fail
      refine (HT.out _ BB.out).mono ?_
      rintro r w4 ⟨vX, rfl, o, b⟩
      have zX := b.size
      replace OS := Lib.hid (OS.out.on b)
      replace BB := Lib.hid (bstep BB.out b)
      have OX := Lib.hid o.ownR
      clear o b
      go_wp2_with fail
      refine (HIP.out _ _ OX.out.reads).mono ?_
      rintro r w5 ⟨vG, rfl, o, b⟩
      have zG := b.size
      replace OS := Lib.hid (OS.out.on b)
      replace OX := Lib.hid (OX.out.on b)
      replace BB := Lib.hid (bstep BB.out b)
      have OG := Lib.hid o.ownR
      clear o b
      go_wp2_with fail
      refine (HEY.out _ _ _ OG.out.reads OS.out.reads).mono ?_
      rintro r w6 ⟨rfl, b⟩
      have z6 := b.size
      replace OS := Lib.hid (OS.out.on b)
      replace OX := Lib.hid (OX.out.on b)
      replace OG := Lib.hid (OG.out.on b)
      replace BB := Lib.hid (bstep BB.out b)
      clear b
      go_wp2_with fail
      refine (HT.out _ BB.out).mono ?_
      rintro r w7 ⟨vY, rfl, o, b⟩
      have zY := b.size
      replace OS := Lib.hid (OS.out.on b)
      replace OX := Lib.hid (OX.out.on b)
      replace OG := Lib.hid (OG.out.on b)
      replace BB := Lib.hid (bstep BB.out b)
      have OY := Lib.hid o.ownR
      clear o b
      go_wp2_with fail
      refine (HEL.out _ _ _ OX.out.reads OY.out.reads).mono ?_
      rintro r w8 ⟨rfl, b⟩
      have z8 := b.size
      replace OS := Lib.hid (OS.out.on b)
      replace OX := Lib.hid (OX.out.on b)
      replace OG := Lib.hid (OG.out.on b)
      replace OY := Lib.hid (OY.out.on b)
      replace BB := Lib.hid (bstep BB.out b)
      clear b
      clear OY
      go_wp2_with fail
      refine (HML.out _ _ _ OX.out).mono ?_
      rintro r w9 ⟨rfl, o, g⟩
      have z9 := g.size
      replace OS := Lib.hid (OS.out.far g (fun b hb _ hb' => by omega))
      replace OG := Lib.hid (OG.out.far g (fun b hb _ hb' => by omega))
      replace BB := Lib.hid (BB.out.trans (g.below BB.out.size (fun b hb => by omega)))
      replace OX := Lib.hid o
      clear o g
      clear OX
      go_wp2_with fail
      refine (HEY.out _ _ _ OG.out.reads OS.out.reads).mono ?_
      rintro r w10 ⟨rfl, b⟩
      have z10 := b.size
      replace OS := Lib.hid (OS.out.on b)
      replace OG := Lib.hid (OG.out.on b)
      replace BB := Lib.hid (bstep BB.out b)
      clear b
      go_wp2_with fail
      refine (HMY.out _ _ _ OG.out).mono ?_
      rintro r w11 ⟨rfl, o, g⟩
      have z11 := g.size
      replace OS := Lib.hid (OS.out.far g (fun b hb _ hb' => by omega))
      replace BB := Lib.hid (BB.out.trans (g.below BB.out.size (fun b hb => by omega)))
      replace OG := Lib.hid o
      clear o g
      go_wp2_with fail
      refine (HHY.out _ _ OG.out.reads).mono ?_
      rintro r w12 ⟨rfl, b⟩
      have z12 := b.size
      replace OS := Lib.hid (OS.out.on b)
      replace OG := Lib.hid (OG.out.on b)
      replace BB := Lib.hid (bstep BB.out b)
      clear b
      go_wp2_with fail
      refine (HT.out _ BB.out).mono ?_
      rintro r w13 ⟨vZ, rfl, o, b⟩
      have zZ := b.size
      replace OS := Lib.hid (OS.out.on b)
      replace OG := Lib.hid (OG.out.on b)
      replace BB := Lib.hid (bstep BB.out b)
      have OZ := Lib.hid o.ownR
      clear o b
      go_wp2_with fail
      refine (HIP.out _ _ OZ.out.reads).mono ?_
      rintro r w14 ⟨vH, rfl, o, b⟩
      have zH := b.size
      replace OS := Lib.hid (OS.out.on b)
      replace OG := Lib.hid (OG.out.on b)
      replace OZ := Lib.hid (OZ.out.on b)
      replace BB := Lib.hid (bstep BB.out b)
      have OH := Lib.hid o.ownR
      clear o b
      clear OZ
      go_wp2_with fail
      refine (HEY.out _ _ _ OH.out.reads OS.out.reads).mono ?_
      rintro r w15 ⟨rfl, b⟩
      have z15 := b.size
      replace OS := Lib.hid (OS.out.on b)
      replace OG := Lib.hid (OG.out.on b)
      replace OH := Lib.hid (OH.out.on b)
      replace BB := Lib.hid (bstep BB.out b)
      clear b
      go_wp2_with fail
      refine (HHY.out _ _ OG.out.reads).mono ?_
      rintro r w16 ⟨rfl, b⟩
      have z16 := b.size
      replace OS := Lib.hid (OS.out.on b)
      replace OG := Lib.hid (OG.out.on b)
      replace OH := Lib.hid (OH.out.on b)
      replace BB := Lib.hid (bstep BB.out b)
      clear b
      go_wp2
      go_ret
      exact ⟨rfl, BB.out⟩
    · have Z1 := Lib.hid (fun w' (b : Below w.heap.size w w') => szM_big _ l 1048576 w' (HV.out.on b) HL.out (by omega) (by omega) (by omega))
      have BB := Lib.hid (Below.refl w.heap.size w)
      go_enter Try.func8, Try.ntmps8
      go_wp2_with fail
      refine (Z1.out _ BB.out).mono ?_
      rintro r w1 ⟨rfl, b⟩
      have z1 := b.size
      replace BB := Lib.hid (bstep BB.out b)
      clear b
      go_wp2
      go_ret
      exact ⟨rfl, BB.out⟩
  · have h8s : decide ((s.size : Int) > 1048576) = true := decide_eq_true (by omega)
    go_enter Try.func8, Try.ntmps8
    go_wp2
    go_ret
    exact ⟨rfl, Below.refl _ _⟩
end Go.Proofs.Ytcimpcocgmlmoaa
