/- The walks of FnExactVolAt and FnExactIdle: at every argument the call returns true and writes nothing that was there. No condition. -/
import Derived.Test.YtmpgmjnagpiijaaPoolFind
namespace Go.Proofs.Ytmpgmjnagpiijaa
open Go.RowKit
set_option maxRecDepth 100000
set_option linter.unusedSimpArgs false
set_option linter.unusedVariables false

set_option maxHeartbeats 4000000 in
theorem exactIdle_walk (v : Value) (d : PoolD) (id : Int) (w : World) (hv : PoolIs w v d) (_ : (Lit.int .i64 id).wf = true) : Calls Try.prog 5 #[v, .int .i64 id] w fun e w' => e = .returned (.bool true) ∧ Below w.heap.size w w' := by
  obtain ⟨vl, vn, va, vc, vv, rfl, hA, hnm, _⟩ := hv
  obtain ⟨N0, Nc0, N1, Nc1, N2, Nc2, N3, Nc3, N4, Nc4, rfl, rfl, rfl, rfl, rfl⟩ := hA.shape
  have HT := Lib.hid (fun (hs : SmallP d) W b => toPool_any (.slice N0 d.lo.length Nc0) (.slice N1 d.ts.length Nc1) (.slice N2 d.ag.length Nc2) (.slice N3 d.ce.length Nc3) (.slice N4 d.vo.length Nc4) d W (hA.on b) hs)
  have HZ := Lib.hid (fun W b => szPool_any (.slice N0 d.lo.length Nc0) (.slice N1 d.ts.length Nc1) (.slice N2 d.ag.length Nc2) (.slice N3 d.ce.length Nc3) (.slice N4 d.vo.length Nc4) d W (hA.on b) hnm)
  clear hA hnm
  have BB := Lib.hid (bal1 w (.cells #[.slice N0 d.lo.length Nc0, .slice N1 d.ts.length Nc1, .slice N2 d.ag.length Nc2, .slice N3 d.ce.length Nc3, .slice N4 d.vo.length Nc4, .int .i64 d.nx] 42))
  have QN := Lib.hid (al1 w (.cells #[.slice N0 d.lo.length Nc0, .slice N1 d.ts.length Nc1, .slice N2 d.ag.length Nc2, .slice N3 d.ce.length Nc3, .slice N4 d.vo.length Nc4, .int .i64 d.nx] 42))
  have hWz : Hid ((w.alloc (.cells #[.slice N0 d.lo.length Nc0, .slice N1 d.ts.length Nc1, .slice N2 d.ag.length Nc2, .slice N3 d.ce.length Nc3, .slice N4 d.vo.length Nc4, .int .i64 d.nx] 42)).heap.size = w.heap.size + 1) := Lib.hid (by simp)
  obtain ⟨K, hK⟩ : ∃ K, idleP id d.vo = K := ⟨_, rfl⟩
  have HK := Lib.hid hK
  clear hK
  have hne : (K != K) = false := by simp
  go_enter Try.func5, Try.ntmps5
  go_upto_region 1 with (fail)
  generalize w.alloc (.cells #[.slice N0 d.lo.length Nc0, .slice N1 d.ts.length Nc1, .slice N2 d.ag.length Nc2, .slice N3 d.ce.length Nc3, .slice N4 d.vo.length Nc4, .int .i64 d.nx] 42) = W at *
  have hWz1 := Nat.le_of_eq hWz.out
  have hWz2 := Nat.le_of_eq hWz.out.symm
  clear hWz
  obtain ⟨Nx0, Nx1, Nx2, Nx3, Nx4, Nx5, Nx6⟩ := boxP QN.out
  go_wp2_with fail
  refine (HZ.out _ BB.out).mono ?_
  clear Nx0 Nx1 Nx2 Nx3 Nx4 Nx5 Nx6
  rintro r w0 ⟨⟨q, rfl, q0, hs⟩ | rfl, b⟩
  · replace QN := Lib.hid (box_on QN.out b)
    replace BB := Lib.hid (bstep BB.out b)
    have z0 := b.size
    have d0 : decide (q < 0) = false := decide_eq_false (by omega)
    have HS := Lib.hid hs
    have hv1 : d.vo.length ≤ 2097152 := by have := hs.2.2.2; omega
    clear b hs
    obtain ⟨Nx0, Nx1, Nx2, Nx3, Nx4, Nx5, Nx6⟩ := boxP QN.out
    go_wp2_with fail
    refine (HT.out HS.out _ BB.out).mono ?_
    clear Nx0 Nx1 Nx2 Nx3 Nx4 Nx5 Nx6
    rintro r w1 ⟨vlT, vnT, vaT, vcT, vvT, rfl, o, b⟩
    have zT := b.size
    replace QN := Lib.hid (box_on QN.out b)
    replace BB := Lib.hid (bstep BB.out b)
    have OT := Lib.hid o.lt
    clear o b
    obtain ⟨T0, Tc0, T1, Tc1, T2, Tc2, T3, Tc3, T4, Tc4, rfl, rfl, rfl, rfl, rfl⟩ := OT.out.reads.shape
    clear d0
    obtain ⟨Nx0, Nx1, Nx2, Nx3, Nx4, Nx5, Nx6⟩ := boxP QN.out
    go_wp2_with fail
    refine (specIdle_any _ _ _ _ _ d id _ OT.out.reads hv1).mono ?_
    clear Nx0 Nx1 Nx2 Nx3 Nx4 Nx5 Nx6
    rintro r w2 ⟨rfl, b⟩
    have z2 := b.size
    replace OT := Lib.hid (OT.out.on b)
    replace QN := Lib.hid (box_on QN.out b)
    replace BB := Lib.hid (bstep BB.out b)
    clear b
    rw [HK.out]
    clear OT
    obtain ⟨Nx0, Nx1, Nx2, Nx3, Nx4, Nx5, Nx6⟩ := boxP QN.out
    go_wp2_with fail
    refine (HT.out HS.out _ BB.out).mono ?_
    clear Nx0 Nx1 Nx2 Nx3 Nx4 Nx5 Nx6
    rintro r w3 ⟨vlX, vnX, vaX, vcX, vvX, rfl, o, b⟩
    have zX := b.size
    replace QN := Lib.hid (box_on QN.out b)
    replace BB := Lib.hid (bstep BB.out b)
    have OX := Lib.hid o.lt
    clear o b
    obtain ⟨X0, Xc0, X1, Xc1, X2, Xc2, X3, Xc3, X4, Xc4, rfl, rfl, rfl, rfl, rfl⟩ := OX.out.reads.shape
    have ba := bal1 w3 (.cells #[.slice X0 d.lo.length Xc0, .slice X1 d.ts.length Xc1, .slice X2 d.ag.length Xc2, .slice X3 d.ce.length Xc3, .slice X4 d.vo.length Xc4, .int .i64 d.nx] 30)
    have QX := Lib.hid (al1 w3 (.cells #[.slice X0 d.lo.length Xc0, .slice X1 d.ts.length Xc1, .slice X2 d.ag.length Xc2, .slice X3 d.ce.length Xc3, .slice X4 d.vo.length Xc4, .int .i64 d.nx] 30))
    have hzX : (w3.alloc (.cells #[.slice X0 d.lo.length Xc0, .slice X1 d.ts.length Xc1, .slice X2 d.ag.length Xc2, .slice X3 d.ce.length Xc3, .slice X4 d.vo.length Xc4, .int .i64 d.nx] 30)).heap.size = w3.heap.size + 1 := by simp
    replace OX := Lib.hid (OX.out.on ba)
    replace QN := Lib.hid (box_on QN.out ba)
    replace BB := Lib.hid (bstep BB.out ba)
    clear ba
    have yX := Lib.hid hzX
    clear hzX
    obtain ⟨Nx0, Nx1, Nx2, Nx3, Nx4, Nx5, Nx6⟩ := boxP QN.out
    go_upto_region 7 with (fail)
    clear Nx0 Nx1 Nx2 Nx3 Nx4 Nx5 Nx6
    generalize w3.alloc (.cells #[.slice X0 d.lo.length Xc0, .slice X1 d.ts.length Xc1, .slice X2 d.ag.length Xc2, .slice X3 d.ce.length Xc3, .slice X4 d.vo.length Xc4, .int .i64 d.nx] 30) = w4 at *
    have xX := Nat.le_of_eq yX.out
    have uX := Nat.le_of_eq yX.out.symm
    clear yX
    obtain ⟨Nx0, Nx1, Nx2, Nx3, Nx4, Nx5, Nx6⟩ := boxP QN.out
    obtain ⟨Xx0, Xx1, Xx2, Xx3, Xx4, Xx5, Xx6⟩ := boxP QX.out
    go_wp2_with fail
    refine (implIdle_any _ _ _ _ _ d id _ OX.out.reads hv1).mono ?_
    clear Nx0 Nx1 Nx2 Nx3 Nx4 Nx5 Nx6 Xx0 Xx1 Xx2 Xx3 Xx4 Xx5 Xx6
    rintro r w5 ⟨rfl, b⟩
    have z5 := b.size
    replace OX := Lib.hid (OX.out.on b)
    replace QN := Lib.hid (box_on QN.out b)
    replace QX := Lib.hid (box_on QX.out b)
    replace BB := Lib.hid (bstep BB.out b)
    clear b
    rw [HK.out]
    obtain ⟨Nx0, Nx1, Nx2, Nx3, Nx4, Nx5, Nx6⟩ := boxP QN.out
    obtain ⟨Xx0, Xx1, Xx2, Xx3, Xx4, Xx5, Xx6⟩ := boxP QX.out
    go_upto_region 10 with (fail)
    go_region_held3 (fun V => V.cell? ⟨w.heap.size, 0, none⟩ = some (.slice N0 d.lo.length Nc0) ∧ V.cell? ⟨w.heap.size, 1, none⟩ = some (.slice N1 d.ts.length Nc1) ∧ V.cell? ⟨w.heap.size, 2, none⟩ = some (.slice N2 d.ag.length Nc2) ∧ V.cell? ⟨w.heap.size, 3, none⟩ = some (.slice N3 d.ce.length Nc3) ∧ V.cell? ⟨w.heap.size, 4, none⟩ = some (.slice N4 d.vo.length Nc4) ∧ V.cell? ⟨w.heap.size, 5, none⟩ = some (.int .i64 d.nx) ∧ V.cell? ⟨w3.heap.size, 0, none⟩ = some (.slice X0 d.lo.length Xc0) ∧ V.cell? ⟨w3.heap.size, 1, none⟩ = some (.slice X1 d.ts.length Xc1) ∧ V.cell? ⟨w3.heap.size, 2, none⟩ = some (.slice X2 d.ag.length Xc2) ∧ V.cell? ⟨w3.heap.size, 3, none⟩ = some (.slice X3 d.ce.length Xc3) ∧ V.cell? ⟨w3.heap.size, 4, none⟩ = some (.slice X4 d.vo.length Xc4) ∧ V.cell? ⟨w3.heap.size, 5, none⟩ = some (.int .i64 d.nx))
      (first | with_reducible exact ⟨(boxP (box_on QN.out (bstep (bstep (Below.drew1 _) b1p) b2p))).1, (boxP (box_on QN.out (bstep (bstep (Below.drew1 _) b1p) b2p))).2.1, (boxP (box_on QN.out (bstep (bstep (Below.drew1 _) b1p) b2p))).2.2.1, (boxP (box_on QN.out (bstep (bstep (Below.drew1 _) b1p) b2p))).2.2.2.1, (boxP (box_on QN.out (bstep (bstep (Below.drew1 _) b1p) b2p))).2.2.2.2.1, (boxP (box_on QN.out (bstep (bstep (Below.drew1 _) b1p) b2p))).2.2.2.2.2.1, (boxP (box_on QX.out (bstep (bstep (Below.drew1 _) b1p) b2p))).1, (boxP (box_on QX.out (bstep (bstep (Below.drew1 _) b1p) b2p))).2.1, (boxP (box_on QX.out (bstep (bstep (Below.drew1 _) b1p) b2p))).2.2.1, (boxP (box_on QX.out (bstep (bstep (Below.drew1 _) b1p) b2p))).2.2.2.1, (boxP (box_on QX.out (bstep (bstep (Below.drew1 _) b1p) b2p))).2.2.2.2.1, (boxP (box_on QX.out (bstep (bstep (Below.drew1 _) b1p) b2p))).2.2.2.2.2.1⟩ | with_reducible exact ⟨(boxP (box_on QN.out (bstep (Below.drew1 _) b1p))).1, (boxP (box_on QN.out (bstep (Below.drew1 _) b1p))).2.1, (boxP (box_on QN.out (bstep (Below.drew1 _) b1p))).2.2.1, (boxP (box_on QN.out (bstep (Below.drew1 _) b1p))).2.2.2.1, (boxP (box_on QN.out (bstep (Below.drew1 _) b1p))).2.2.2.2.1, (boxP (box_on QN.out (bstep (Below.drew1 _) b1p))).2.2.2.2.2.1, (boxP (box_on QX.out (bstep (Below.drew1 _) b1p))).1, (boxP (box_on QX.out (bstep (Below.drew1 _) b1p))).2.1, (boxP (box_on QX.out (bstep (Below.drew1 _) b1p))).2.2.1, (boxP (box_on QX.out (bstep (Below.drew1 _) b1p))).2.2.2.1, (boxP (box_on QX.out (bstep (Below.drew1 _) b1p))).2.2.2.2.1, (boxP (box_on QX.out (bstep (Below.drew1 _) b1p))).2.2.2.2.2.1⟩ | with_reducible exact ⟨(boxP (box_on QN.out (Below.drew1 _))).1, (boxP (box_on QN.out (Below.drew1 _))).2.1, (boxP (box_on QN.out (Below.drew1 _))).2.2.1, (boxP (box_on QN.out (Below.drew1 _))).2.2.2.1, (boxP (box_on QN.out (Below.drew1 _))).2.2.2.2.1, (boxP (box_on QN.out (Below.drew1 _))).2.2.2.2.2.1, (boxP (box_on QX.out (Below.drew1 _))).1, (boxP (box_on QX.out (Below.drew1 _))).2.1, (boxP (box_on QX.out (Below.drew1 _))).2.2.1, (boxP (box_on QX.out (Below.drew1 _))).2.2.2.1, (boxP (box_on QX.out (Below.drew1 _))).2.2.2.2.1, (boxP (box_on QX.out (Below.drew1 _))).2.2.2.2.2.1⟩ | exact ⟨Nx0, Nx1, Nx2, Nx3, Nx4, Nx5, Xx0, Xx1, Xx2, Xx3, Xx4, Xx5⟩ | fail)
      (first
        | (go_at_call 9; refine (eqPool_same _ _ _ _ _ _ _ _ _ _ d _ (OX.out.on (bstep (Below.drew1 _) b1p)).reads oop.reads HS.out).mono ?_; rintro r u2p ⟨rfl, b2p⟩)
        | (go_at_call 14; refine (HT.out HS.out _ (bstep BB.out (Below.drew1 _))).mono ?_; rintro r u1p ⟨pl, pn, pa, pc, pw, rfl, oop, b1p⟩; obtain ⟨Y0, Yc0, Y1, Yc1, Y2, Yc2, Y3, Yc3, Y4, Yc4, rfl, rfl, rfl, rfl, rfl⟩ := oop.reads.shape)
        | fail)
    clear Nx0 Nx1 Nx2 Nx3 Nx4 Nx5 Nx6 Xx0 Xx1 Xx2 Xx3 Xx4 Xx5 Xx6
    have b := bstep (bstep (Below.drew1 _) b1p) b2p
    replace BB := Lib.hid (bstep BB.out b)
    clear b b1p b2p oop
    go_wp2
    go_ret
    exact ⟨rfl, BB.out⟩
  · have B1 := Lib.hid (bstep BB.out b)
    clear b
    go_wp2
    go_ret
    exact ⟨rfl, B1.out⟩
set_option maxHeartbeats 4000000 in
theorem exactVolAt_walk (v : Value) (d : PoolD) (s : ByteArray) (w : World) (hv : PoolIs w v d) (_ : s.size ≤ maxLen) : Calls Try.prog 4 #[v, .string s] w fun e w' => e = .returned (.bool true) ∧ Below w.heap.size w w' := by
  obtain ⟨vl, vn, va, vc, vv, rfl, hA, hnm, _⟩ := hv
  obtain ⟨N0, Nc0, N1, Nc1, N2, Nc2, N3, Nc3, N4, Nc4, rfl, rfl, rfl, rfl, rfl⟩ := hA.shape
  have HT := Lib.hid (fun (hs : SmallP d) W b => toPool_any (.slice N0 d.lo.length Nc0) (.slice N1 d.ts.length Nc1) (.slice N2 d.ag.length Nc2) (.slice N3 d.ce.length Nc3) (.slice N4 d.vo.length Nc4) d W (hA.on b) hs)
  have HZ := Lib.hid (fun W b => szPool_any (.slice N0 d.lo.length Nc0) (.slice N1 d.ts.length Nc1) (.slice N2 d.ag.length Nc2) (.slice N3 d.ce.length Nc3) (.slice N4 d.vo.length Nc4) d W (hA.on b) hnm)
  clear hA hnm
  have BB := Lib.hid (bal1 w (.cells #[.slice N0 d.lo.length Nc0, .slice N1 d.ts.length Nc1, .slice N2 d.ag.length Nc2, .slice N3 d.ce.length Nc3, .slice N4 d.vo.length Nc4, .int .i64 d.nx] 42))
  have QN := Lib.hid (al1 w (.cells #[.slice N0 d.lo.length Nc0, .slice N1 d.ts.length Nc1, .slice N2 d.ag.length Nc2, .slice N3 d.ce.length Nc3, .slice N4 d.vo.length Nc4, .int .i64 d.nx] 42))
  have hWz : Hid ((w.alloc (.cells #[.slice N0 d.lo.length Nc0, .slice N1 d.ts.length Nc1, .slice N2 d.ag.length Nc2, .slice N3 d.ce.length Nc3, .slice N4 d.vo.length Nc4, .int .i64 d.nx] 42)).heap.size = w.heap.size + 1) := Lib.hid (by simp)
  obtain ⟨K, hK⟩ : ∃ K, volK s d.vo = K := ⟨_, rfl⟩
  have HK := Lib.hid hK
  clear hK
  have hne : (K != K) = false := by simp
  by_cases hsz : s.size ≤ 1048576
  · have hsz2 : decide ((s.size : Int) > 1048576) = false := decide_eq_false (by omega)
    go_enter Try.func4, Try.ntmps4
    go_upto_region 1 with (fail)
    generalize w.alloc (.cells #[.slice N0 d.lo.length Nc0, .slice N1 d.ts.length Nc1, .slice N2 d.ag.length Nc2, .slice N3 d.ce.length Nc3, .slice N4 d.vo.length Nc4, .int .i64 d.nx] 42) = W at *
    have hWz1 := Nat.le_of_eq hWz.out
    have hWz2 := Nat.le_of_eq hWz.out.symm
    clear hWz
    obtain ⟨Nx0, Nx1, Nx2, Nx3, Nx4, Nx5, Nx6⟩ := boxP QN.out
    go_wp2_with fail
    refine (HZ.out _ BB.out).mono ?_
    clear Nx0 Nx1 Nx2 Nx3 Nx4 Nx5 Nx6
    rintro r w0 ⟨⟨q, rfl, q0, hs⟩ | rfl, b⟩
    · replace QN := Lib.hid (box_on QN.out b)
      replace BB := Lib.hid (bstep BB.out b)
      have z0 := b.size
      have d0 : decide (q < 0) = false := decide_eq_false (by omega)
      have HS := Lib.hid hs
      have hv1 : d.vo.length ≤ 2097152 := by have := hs.2.2.2; omega
      clear b hs
      obtain ⟨Nx0, Nx1, Nx2, Nx3, Nx4, Nx5, Nx6⟩ := boxP QN.out
      go_wp2_with fail
      refine (HT.out HS.out _ BB.out).mono ?_
      clear Nx0 Nx1 Nx2 Nx3 Nx4 Nx5 Nx6
      rintro r w1 ⟨vlT, vnT, vaT, vcT, vvT, rfl, o, b⟩
      have zT := b.size
      replace QN := Lib.hid (box_on QN.out b)
      replace BB := Lib.hid (bstep BB.out b)
      have OT := Lib.hid o.lt
      clear o b
      obtain ⟨T0, Tc0, T1, Tc1, T2, Tc2, T3, Tc3, T4, Tc4, rfl, rfl, rfl, rfl, rfl⟩ := OT.out.reads.shape
      clear d0
      obtain ⟨Nx0, Nx1, Nx2, Nx3, Nx4, Nx5, Nx6⟩ := boxP QN.out
      go_wp2_with fail
      refine (specVolAt_any _ _ _ _ _ d s _ OT.out.reads hv1).mono ?_
      clear Nx0 Nx1 Nx2 Nx3 Nx4 Nx5 Nx6
      rintro r w2 ⟨rfl, b⟩
      have z2 := b.size
      replace OT := Lib.hid (OT.out.on b)
      replace QN := Lib.hid (box_on QN.out b)
      replace BB := Lib.hid (bstep BB.out b)
      clear b
      rw [HK.out]
      clear OT
      obtain ⟨Nx0, Nx1, Nx2, Nx3, Nx4, Nx5, Nx6⟩ := boxP QN.out
      go_wp2_with fail
      refine (HT.out HS.out _ BB.out).mono ?_
      clear Nx0 Nx1 Nx2 Nx3 Nx4 Nx5 Nx6
      rintro r w3 ⟨vlX, vnX, vaX, vcX, vvX, rfl, o, b⟩
      have zX := b.size
      replace QN := Lib.hid (box_on QN.out b)
      replace BB := Lib.hid (bstep BB.out b)
      have OX := Lib.hid o.lt
      clear o b
      obtain ⟨X0, Xc0, X1, Xc1, X2, Xc2, X3, Xc3, X4, Xc4, rfl, rfl, rfl, rfl, rfl⟩ := OX.out.reads.shape
      have ba := bal1 w3 (.cells #[.slice X0 d.lo.length Xc0, .slice X1 d.ts.length Xc1, .slice X2 d.ag.length Xc2, .slice X3 d.ce.length Xc3, .slice X4 d.vo.length Xc4, .int .i64 d.nx] 30)
      have QX := Lib.hid (al1 w3 (.cells #[.slice X0 d.lo.length Xc0, .slice X1 d.ts.length Xc1, .slice X2 d.ag.length Xc2, .slice X3 d.ce.length Xc3, .slice X4 d.vo.length Xc4, .int .i64 d.nx] 30))
      have hzX : (w3.alloc (.cells #[.slice X0 d.lo.length Xc0, .slice X1 d.ts.length Xc1, .slice X2 d.ag.length Xc2, .slice X3 d.ce.length Xc3, .slice X4 d.vo.length Xc4, .int .i64 d.nx] 30)).heap.size = w3.heap.size + 1 := by simp
      replace OX := Lib.hid (OX.out.on ba)
      replace QN := Lib.hid (box_on QN.out ba)
      replace BB := Lib.hid (bstep BB.out ba)
      clear ba
      have yX := Lib.hid hzX
      clear hzX
      obtain ⟨Nx0, Nx1, Nx2, Nx3, Nx4, Nx5, Nx6⟩ := boxP QN.out
      go_upto_region 9 with (fail)
      clear Nx0 Nx1 Nx2 Nx3 Nx4 Nx5 Nx6
      generalize w3.alloc (.cells #[.slice X0 d.lo.length Xc0, .slice X1 d.ts.length Xc1, .slice X2 d.ag.length Xc2, .slice X3 d.ce.length Xc3, .slice X4 d.vo.length Xc4, .int .i64 d.nx] 30) = w4 at *
      have xX := Nat.le_of_eq yX.out
      have uX := Nat.le_of_eq yX.out.symm
      clear yX
      obtain ⟨Nx0, Nx1, Nx2, Nx3, Nx4, Nx5, Nx6⟩ := boxP QN.out
      obtain ⟨Xx0, Xx1, Xx2, Xx3, Xx4, Xx5, Xx6⟩ := boxP QX.out
      go_wp2_with fail
      refine (implVolAt_any _ _ _ _ _ d s _ OX.out.reads hv1).mono ?_
      clear Nx0 Nx1 Nx2 Nx3 Nx4 Nx5 Nx6 Xx0 Xx1 Xx2 Xx3 Xx4 Xx5 Xx6
      rintro r w5 ⟨rfl, b⟩
      have z5 := b.size
      replace OX := Lib.hid (OX.out.on b)
      replace QN := Lib.hid (box_on QN.out b)
      replace QX := Lib.hid (box_on QX.out b)
      replace BB := Lib.hid (bstep BB.out b)
      clear b
      rw [HK.out]
      obtain ⟨Nx0, Nx1, Nx2, Nx3, Nx4, Nx5, Nx6⟩ := boxP QN.out
      obtain ⟨Xx0, Xx1, Xx2, Xx3, Xx4, Xx5, Xx6⟩ := boxP QX.out
      go_upto_region 12 with (fail)
      go_region_held3 (fun V => V.cell? ⟨w.heap.size, 0, none⟩ = some (.slice N0 d.lo.length Nc0) ∧ V.cell? ⟨w.heap.size, 1, none⟩ = some (.slice N1 d.ts.length Nc1) ∧ V.cell? ⟨w.heap.size, 2, none⟩ = some (.slice N2 d.ag.length Nc2) ∧ V.cell? ⟨w.heap.size, 3, none⟩ = some (.slice N3 d.ce.length Nc3) ∧ V.cell? ⟨w.heap.size, 4, none⟩ = some (.slice N4 d.vo.length Nc4) ∧ V.cell? ⟨w.heap.size, 5, none⟩ = some (.int .i64 d.nx) ∧ V.cell? ⟨w3.heap.size, 0, none⟩ = some (.slice X0 d.lo.length Xc0) ∧ V.cell? ⟨w3.heap.size, 1, none⟩ = some (.slice X1 d.ts.length Xc1) ∧ V.cell? ⟨w3.heap.size, 2, none⟩ = some (.slice X2 d.ag.length Xc2) ∧ V.cell? ⟨w3.heap.size, 3, none⟩ = some (.slice X3 d.ce.length Xc3) ∧ V.cell? ⟨w3.heap.size, 4, none⟩ = some (.slice X4 d.vo.length Xc4) ∧ V.cell? ⟨w3.heap.size, 5, none⟩ = some (.int .i64 d.nx))
        (first | with_reducible exact ⟨(boxP (box_on QN.out (bstep (bstep (Below.drew1 _) b1p) b2p))).1, (boxP (box_on QN.out (bstep (bstep (Below.drew1 _) b1p) b2p))).2.1, (boxP (box_on QN.out (bstep (bstep (Below.drew1 _) b1p) b2p))).2.2.1, (boxP (box_on QN.out (bstep (bstep (Below.drew1 _) b1p) b2p))).2.2.2.1, (boxP (box_on QN.out (bstep (bstep (Below.drew1 _) b1p) b2p))).2.2.2.2.1, (boxP (box_on QN.out (bstep (bstep (Below.drew1 _) b1p) b2p))).2.2.2.2.2.1, (boxP (box_on QX.out (bstep (bstep (Below.drew1 _) b1p) b2p))).1, (boxP (box_on QX.out (bstep (bstep (Below.drew1 _) b1p) b2p))).2.1, (boxP (box_on QX.out (bstep (bstep (Below.drew1 _) b1p) b2p))).2.2.1, (boxP (box_on QX.out (bstep (bstep (Below.drew1 _) b1p) b2p))).2.2.2.1, (boxP (box_on QX.out (bstep (bstep (Below.drew1 _) b1p) b2p))).2.2.2.2.1, (boxP (box_on QX.out (bstep (bstep (Below.drew1 _) b1p) b2p))).2.2.2.2.2.1⟩ | with_reducible exact ⟨(boxP (box_on QN.out (bstep (Below.drew1 _) b1p))).1, (boxP (box_on QN.out (bstep (Below.drew1 _) b1p))).2.1, (boxP (box_on QN.out (bstep (Below.drew1 _) b1p))).2.2.1, (boxP (box_on QN.out (bstep (Below.drew1 _) b1p))).2.2.2.1, (boxP (box_on QN.out (bstep (Below.drew1 _) b1p))).2.2.2.2.1, (boxP (box_on QN.out (bstep (Below.drew1 _) b1p))).2.2.2.2.2.1, (boxP (box_on QX.out (bstep (Below.drew1 _) b1p))).1, (boxP (box_on QX.out (bstep (Below.drew1 _) b1p))).2.1, (boxP (box_on QX.out (bstep (Below.drew1 _) b1p))).2.2.1, (boxP (box_on QX.out (bstep (Below.drew1 _) b1p))).2.2.2.1, (boxP (box_on QX.out (bstep (Below.drew1 _) b1p))).2.2.2.2.1, (boxP (box_on QX.out (bstep (Below.drew1 _) b1p))).2.2.2.2.2.1⟩ | with_reducible exact ⟨(boxP (box_on QN.out (Below.drew1 _))).1, (boxP (box_on QN.out (Below.drew1 _))).2.1, (boxP (box_on QN.out (Below.drew1 _))).2.2.1, (boxP (box_on QN.out (Below.drew1 _))).2.2.2.1, (boxP (box_on QN.out (Below.drew1 _))).2.2.2.2.1, (boxP (box_on QN.out (Below.drew1 _))).2.2.2.2.2.1, (boxP (box_on QX.out (Below.drew1 _))).1, (boxP (box_on QX.out (Below.drew1 _))).2.1, (boxP (box_on QX.out (Below.drew1 _))).2.2.1, (boxP (box_on QX.out (Below.drew1 _))).2.2.2.1, (boxP (box_on QX.out (Below.drew1 _))).2.2.2.2.1, (boxP (box_on QX.out (Below.drew1 _))).2.2.2.2.2.1⟩ | exact ⟨Nx0, Nx1, Nx2, Nx3, Nx4, Nx5, Xx0, Xx1, Xx2, Xx3, Xx4, Xx5⟩ | fail)
        (first
          | (go_at_call 9; refine (eqPool_same _ _ _ _ _ _ _ _ _ _ d _ (OX.out.on (bstep (Below.drew1 _) b1p)).reads oop.reads HS.out).mono ?_; rintro r u2p ⟨rfl, b2p⟩)
          | (go_at_call 14; refine (HT.out HS.out _ (bstep BB.out (Below.drew1 _))).mono ?_; rintro r u1p ⟨pl, pn, pa, pc, pw, rfl, oop, b1p⟩; obtain ⟨Y0, Yc0, Y1, Yc1, Y2, Yc2, Y3, Yc3, Y4, Yc4, rfl, rfl, rfl, rfl, rfl⟩ := oop.reads.shape)
          | fail)
      clear Nx0 Nx1 Nx2 Nx3 Nx4 Nx5 Nx6 Xx0 Xx1 Xx2 Xx3 Xx4 Xx5 Xx6
      have b := bstep (bstep (Below.drew1 _) b1p) b2p
      replace BB := Lib.hid (bstep BB.out b)
      clear b b1p b2p oop
      go_wp2
      go_ret
      exact ⟨rfl, BB.out⟩
    · have B1 := Lib.hid (bstep BB.out b)
      clear b
      go_wp2
      go_ret
      exact ⟨rfl, B1.out⟩
  · have hsz2 : decide ((s.size : Int) > 1048576) = true := decide_eq_true (by omega)
    clear QN HT HZ hWz
    go_enter Try.func4, Try.ntmps4
    go_wp2
    go_ret
    exact ⟨rfl, BB.out⟩
end Go.Proofs.Ytmpgmjnagpiijaa
