/- The walk of FnExactPoolNew: the call returns true and writes nothing that was there. No condition. -/
import Derived.Test.YtmpgmjnagpiijaaPoolNew
namespace Go.Proofs.Ytmpgmjnagpiijaa
open Go.RowKit
set_option maxRecDepth 100000
set_option linter.unusedSimpArgs false
set_option linter.unusedVariables false

set_option maxHeartbeats 4000000 in
theorem exactPoolNew_walk (w : World) : Calls Try.prog 3 #[] w fun e w' => e = .returned (.bool true) ∧ Below w.heap.size w w' := by
  obtain ⟨d, hd⟩ : ∃ d, IsNew d := ⟨⟨[0], [[]], [], noCells, [], 1⟩, rfl, rfl, rfl, rfl, rfl, rfl⟩
  have HS := Lib.hid (specPoolNew_any d hd)
  have HI := Lib.hid (implPoolNew_any d hd)
  have hsR := Lib.hid hd.small
  clear hd
  have BB := Lib.hid (Below.refl w.heap.size w)
  go_enter Try.func3, Try.ntmps3
  go_wp2_with fail
  refine (HS.out _).mono ?_
  rintro r w1 ⟨tS, vlS, vnS, vaS, vcS, vvS, rfl, o, b⟩
  have zS := b.size
  replace BB := Lib.hid (bstep BB.out b)
  have OS := Lib.hid o.lt
  clear o b
  obtain ⟨S0, Sc0, S1, Sc1, S2, Sc2, S3, Sc3, S4, Sc4, rfl, rfl, rfl, rfl, rfl⟩ := OS.out.reads.shape
  have ba := bal1 w1 (.cells #[.slice S0 d.lo.length Sc0, .slice S1 d.ts.length Sc1, .slice S2 d.ag.length Sc2, .slice S3 d.ce.length Sc3, .slice S4 d.vo.length Sc4, .int .i64 d.nx] 30)
  have QS := Lib.hid (al1 w1 (.cells #[.slice S0 d.lo.length Sc0, .slice S1 d.ts.length Sc1, .slice S2 d.ag.length Sc2, .slice S3 d.ce.length Sc3, .slice S4 d.vo.length Sc4, .int .i64 d.nx] 30))
  have hzS : (w1.alloc (.cells #[.slice S0 d.lo.length Sc0, .slice S1 d.ts.length Sc1, .slice S2 d.ag.length Sc2, .slice S3 d.ce.length Sc3, .slice S4 d.vo.length Sc4, .int .i64 d.nx] 30)).heap.size = w1.heap.size + 1 := by simp
  replace OS := Lib.hid (OS.out.on ba)
  replace BB := Lib.hid (bstep BB.out ba)
  clear ba
  have yS := Lib.hid hzS
  clear hzS
  go_upto_region 2 with (fail)
  generalize w1.alloc (.cells #[.slice S0 d.lo.length Sc0, .slice S1 d.ts.length Sc1, .slice S2 d.ag.length Sc2, .slice S3 d.ce.length Sc3, .slice S4 d.vo.length Sc4, .int .i64 d.nx] 30) = w2 at *
  have xS := Nat.le_of_eq yS.out
  have uS := Nat.le_of_eq yS.out.symm
  clear yS
  obtain ⟨Sx0, Sx1, Sx2, Sx3, Sx4, Sx5, Sx6⟩ := boxP QS.out
  go_wp2_with fail
  refine (HI.out _).mono ?_
  clear Sx0 Sx1 Sx2 Sx3 Sx4 Sx5 Sx6
  rintro r w3 ⟨tG, vlG, vnG, vaG, vcG, vvG, rfl, o, b⟩
  have zG := b.size
  replace OS := Lib.hid (OS.out.on b)
  replace QS := Lib.hid (box_on QS.out b)
  replace BB := Lib.hid (bstep BB.out b)
  have OG := Lib.hid o.lt
  clear o b
  obtain ⟨G0, Gc0, G1, Gc1, G2, Gc2, G3, Gc3, G4, Gc4, rfl, rfl, rfl, rfl, rfl⟩ := OG.out.reads.shape
  have ba := bal1 w3 (.cells #[.slice G0 d.lo.length Gc0, .slice G1 d.ts.length Gc1, .slice G2 d.ag.length Gc2, .slice G3 d.ce.length Gc3, .slice G4 d.vo.length Gc4, .int .i64 d.nx] 30)
  have QG := Lib.hid (al1 w3 (.cells #[.slice G0 d.lo.length Gc0, .slice G1 d.ts.length Gc1, .slice G2 d.ag.length Gc2, .slice G3 d.ce.length Gc3, .slice G4 d.vo.length Gc4, .int .i64 d.nx] 30))
  have hzG : (w3.alloc (.cells #[.slice G0 d.lo.length Gc0, .slice G1 d.ts.length Gc1, .slice G2 d.ag.length Gc2, .slice G3 d.ce.length Gc3, .slice G4 d.vo.length Gc4, .int .i64 d.nx] 30)).heap.size = w3.heap.size + 1 := by simp
  replace OS := Lib.hid (OS.out.on ba)
  replace OG := Lib.hid (OG.out.on ba)
  replace QS := Lib.hid (box_on QS.out ba)
  replace BB := Lib.hid (bstep BB.out ba)
  clear ba
  have yG := Lib.hid hzG
  clear hzG
  obtain ⟨Sx0, Sx1, Sx2, Sx3, Sx4, Sx5, Sx6⟩ := boxP QS.out
  go_upto_region 3 with (fail)
  clear Sx0 Sx1 Sx2 Sx3 Sx4 Sx5 Sx6
  generalize w3.alloc (.cells #[.slice G0 d.lo.length Gc0, .slice G1 d.ts.length Gc1, .slice G2 d.ag.length Gc2, .slice G3 d.ce.length Gc3, .slice G4 d.vo.length Gc4, .int .i64 d.nx] 30) = w4 at *
  have xG := Nat.le_of_eq yG.out
  have uG := Nat.le_of_eq yG.out.symm
  clear yG
  obtain ⟨Sx0, Sx1, Sx2, Sx3, Sx4, Sx5, Sx6⟩ := boxP QS.out
  obtain ⟨Gx0, Gx1, Gx2, Gx3, Gx4, Gx5, Gx6⟩ := boxP QG.out
  go_wp2_with fail
  refine (eqPool_same _ _ _ _ _ _ _ _ _ _ d _ OG.out.reads OS.out.reads hsR.out).mono ?_
  clear Sx0 Sx1 Sx2 Sx3 Sx4 Sx5 Sx6 Gx0 Gx1 Gx2 Gx3 Gx4 Gx5 Gx6
  rintro r w5 ⟨rfl, b⟩
  have z5 := b.size
  replace OS := Lib.hid (OS.out.on b)
  replace OG := Lib.hid (OG.out.on b)
  replace QS := Lib.hid (box_on QS.out b)
  replace QG := Lib.hid (box_on QG.out b)
  replace BB := Lib.hid (bstep BB.out b)
  clear b
  obtain ⟨Sx0, Sx1, Sx2, Sx3, Sx4, Sx5, Sx6⟩ := boxP QS.out
  obtain ⟨Gx0, Gx1, Gx2, Gx3, Gx4, Gx5, Gx6⟩ := boxP QG.out
  go_wp2_with fail
  refine (markPool_any _ _ _ _ _ _ d 1 _ OG.out (fun b hb => by omega) hsR.out (by omega) (by omega)).mono ?_
  clear Sx0 Sx1 Sx2 Sx3 Sx4 Sx5 Sx6 Gx0 Gx1 Gx2 Gx3 Gx4 Gx5 Gx6
  rintro r w6 ⟨rfl, o, g⟩
  have z6 := g.size
  replace OS := Lib.hid (OS.out.far g (fun b hb _ hb' => by omega))
  replace QS := Lib.hid (box_only QS.out g (fun hb => by omega))
  replace QG := Lib.hid (box_only QG.out g (fun hb => by omega))
  replace BB := Lib.hid (BB.out.trans (g.below BB.out.size (fun b hb => by omega)))
  replace OG := Lib.hid o
  clear o g
  have hme := k_le hsR.out (k := 1) (by omega) (by omega)
  obtain ⟨mq, hq⟩ : ∃ mq, endP 1 d = mq := ⟨_, rfl⟩
  rw [hq] at hme
  rw [hq]
  have d2 : decide (mq < 0) = false := decide_eq_false (by omega)
  have d3 : (mq != mq) = false := by simp
  have HQ := Lib.hid hq
  clear hq hme
  obtain ⟨Sx0, Sx1, Sx2, Sx3, Sx4, Sx5, Sx6⟩ := boxP QS.out
  obtain ⟨Gx0, Gx1, Gx2, Gx3, Gx4, Gx5, Gx6⟩ := boxP QG.out
  go_wp2_with fail
  refine (heldPool_any _ _ _ _ _ d 1 _ OG.out.reads hsR.out (by omega) (by omega)).mono ?_
  clear Sx0 Sx1 Sx2 Sx3 Sx4 Sx5 Sx6 Gx0 Gx1 Gx2 Gx3 Gx4 Gx5 Gx6
  rintro r w7 ⟨rfl, b⟩
  have z7 := b.size
  replace OS := Lib.hid (OS.out.on b)
  replace OG := Lib.hid (OG.out.on b)
  replace QS := Lib.hid (box_on QS.out b)
  replace QG := Lib.hid (box_on QG.out b)
  replace BB := Lib.hid (bstep BB.out b)
  clear b
  rw [HQ.out]
  obtain ⟨Sx0, Sx1, Sx2, Sx3, Sx4, Sx5, Sx6⟩ := boxP QS.out
  obtain ⟨Gx0, Gx1, Gx2, Gx3, Gx4, Gx5, Gx6⟩ := boxP QG.out
  go_wp2_with fail
  refine (HI.out _).mono ?_
  clear Sx0 Sx1 Sx2 Sx3 Sx4 Sx5 Sx6 Gx0 Gx1 Gx2 Gx3 Gx4 Gx5 Gx6
  rintro r w8 ⟨tH, vlH, vnH, vaH, vcH, vvH, rfl, o, b⟩
  have zH := b.size
  replace OS := Lib.hid (OS.out.on b)
  replace OG := Lib.hid (OG.out.on b)
  replace QS := Lib.hid (box_on QS.out b)
  replace QG := Lib.hid (box_on QG.out b)
  replace BB := Lib.hid (bstep BB.out b)
  have OH := Lib.hid o.lt
  clear o b
  obtain ⟨H0, Hc0, H1, Hc1, H2, Hc2, H3, Hc3, H4, Hc4, rfl, rfl, rfl, rfl, rfl⟩ := OH.out.reads.shape
  have ba := bal1 w8 (.cells #[.slice H0 d.lo.length Hc0, .slice H1 d.ts.length Hc1, .slice H2 d.ag.length Hc2, .slice H3 d.ce.length Hc3, .slice H4 d.vo.length Hc4, .int .i64 d.nx] 30)
  have QH := Lib.hid (al1 w8 (.cells #[.slice H0 d.lo.length Hc0, .slice H1 d.ts.length Hc1, .slice H2 d.ag.length Hc2, .slice H3 d.ce.length Hc3, .slice H4 d.vo.length Hc4, .int .i64 d.nx] 30))
  have hzH : (w8.alloc (.cells #[.slice H0 d.lo.length Hc0, .slice H1 d.ts.length Hc1, .slice H2 d.ag.length Hc2, .slice H3 d.ce.length Hc3, .slice H4 d.vo.length Hc4, .int .i64 d.nx] 30)).heap.size = w8.heap.size + 1 := by simp
  replace OS := Lib.hid (OS.out.on ba)
  replace OG := Lib.hid (OG.out.on ba)
  replace OH := Lib.hid (OH.out.on ba)
  replace QS := Lib.hid (box_on QS.out ba)
  replace QG := Lib.hid (box_on QG.out ba)
  replace BB := Lib.hid (bstep BB.out ba)
  clear ba
  have yH := Lib.hid hzH
  clear hzH
  obtain ⟨Sx0, Sx1, Sx2, Sx3, Sx4, Sx5, Sx6⟩ := boxP QS.out
  obtain ⟨Gx0, Gx1, Gx2, Gx3, Gx4, Gx5, Gx6⟩ := boxP QG.out
  go_upto_region 14 with (fail)
  clear Sx0 Sx1 Sx2 Sx3 Sx4 Sx5 Sx6 Gx0 Gx1 Gx2 Gx3 Gx4 Gx5 Gx6
  generalize w8.alloc (.cells #[.slice H0 d.lo.length Hc0, .slice H1 d.ts.length Hc1, .slice H2 d.ag.length Hc2, .slice H3 d.ce.length Hc3, .slice H4 d.vo.length Hc4, .int .i64 d.nx] 30) = w9 at *
  have xH := Nat.le_of_eq yH.out
  have uH := Nat.le_of_eq yH.out.symm
  clear yH
  obtain ⟨Sx0, Sx1, Sx2, Sx3, Sx4, Sx5, Sx6⟩ := boxP QS.out
  obtain ⟨Gx0, Gx1, Gx2, Gx3, Gx4, Gx5, Gx6⟩ := boxP QG.out
  obtain ⟨Hx0, Hx1, Hx2, Hx3, Hx4, Hx5, Hx6⟩ := boxP QH.out
  go_wp2_with fail
  refine (eqPool_same _ _ _ _ _ _ _ _ _ _ d _ OH.out.reads OS.out.reads hsR.out).mono ?_
  clear Sx0 Sx1 Sx2 Sx3 Sx4 Sx5 Sx6 Gx0 Gx1 Gx2 Gx3 Gx4 Gx5 Gx6 Hx0 Hx1 Hx2 Hx3 Hx4 Hx5 Hx6
  rintro r w10 ⟨rfl, b⟩
  have z10 := b.size
  replace OS := Lib.hid (OS.out.on b)
  replace OG := Lib.hid (OG.out.on b)
  replace OH := Lib.hid (OH.out.on b)
  replace QS := Lib.hid (box_on QS.out b)
  replace QG := Lib.hid (box_on QG.out b)
  replace QH := Lib.hid (box_on QH.out b)
  replace BB := Lib.hid (bstep BB.out b)
  clear b
  obtain ⟨Sx0, Sx1, Sx2, Sx3, Sx4, Sx5, Sx6⟩ := boxP QS.out
  obtain ⟨Gx0, Gx1, Gx2, Gx3, Gx4, Gx5, Gx6⟩ := boxP QG.out
  obtain ⟨Hx0, Hx1, Hx2, Hx3, Hx4, Hx5, Hx6⟩ := boxP QH.out
  go_wp2_with fail
  refine (heldPool_any _ _ _ _ _ d 1 _ OG.out.reads hsR.out (by omega) (by omega)).mono ?_
  clear Sx0 Sx1 Sx2 Sx3 Sx4 Sx5 Sx6 Gx0 Gx1 Gx2 Gx3 Gx4 Gx5 Gx6 Hx0 Hx1 Hx2 Hx3 Hx4 Hx5 Hx6
  rintro r w11 ⟨rfl, b⟩
  have z11 := b.size
  replace OS := Lib.hid (OS.out.on b)
  replace OG := Lib.hid (OG.out.on b)
  replace OH := Lib.hid (OH.out.on b)
  replace QS := Lib.hid (box_on QS.out b)
  replace QG := Lib.hid (box_on QG.out b)
  replace QH := Lib.hid (box_on QH.out b)
  replace BB := Lib.hid (bstep BB.out b)
  clear b
  rw [HQ.out]
  go_wp2
  go_ret
  exact ⟨rfl, BB.out⟩
end Go.Proofs.Ytmpgmjnagpiijaa
