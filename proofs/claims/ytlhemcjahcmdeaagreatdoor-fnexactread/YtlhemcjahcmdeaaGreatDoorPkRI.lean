/- Several texts in one: DoSRead, ExDoRead. -/
import Derived.Deep.RegionHeld3
import Derived.Test.YtlhemcjahcmdeaaGreatDoorPkRH
namespace Go.Proofs.YtlhemcjahcmdeaaGreatDoor
open Go.RowKit
set_option maxRecDepth 100000
set_option linter.unusedSimpArgs false
set_option linter.unusedVariables false

theorem path_same {l : List AgeD} (h : agesOkB l = true) (g : Int) : pathSK l g = pathK l g := pathS_eq (vp_iff.1 h) _ _
theorem hasB_in (v : VolD) (b : Int) : (decide (0 ≤ b) && decide (b ≤ v.c - 1)) = hasB v b := by
  unfold hasB
  congr 1
  rw [decide_eq_decide]
  omega
set_option maxHeartbeats 4000000 in
theorem specBlockOf_any {t : TypeId} (vl vn va vc vv : Value) (d : PoolD) (j : Nat) (b : Int) (w : World) (h : RdP t w w.heap.size vl vn va vc vv d) (hs : SmallP d) (hag : agesOkB d.ag = true) (hj : j < d.vo.length) (hb : hasB d.vo[j] b = true) (hc1 : 1 ≤ d.vo[j].c) (hc2 : d.vo[j].c ≤ 12) :
    Calls Tryz.prog 79 #[.agg #[vl, vn, va, vc, vv, .int .i64 d.nx], .int .i64 (j : Int), .int .i64 b] w fun e w' => e = .returned (.int .i64 (blockK d d.vo[j] b)) ∧ Below w.heap.size w w' := by
  have s1 := hs.1
  have s2 := hs.2.1
  have s3 := hs.2.2.1
  have s4 := hs.2.2.2
  obtain ⟨FF, hF⟩ : ∃ FF, nearK (keysOfK d.ts b) (pathK d.ag d.vo[j].b) = FF := ⟨_, rfl⟩
  obtain ⟨KY, hK⟩ : ∃ KY, FF.getD zK = KY := ⟨_, rfl⟩
  have HWK := Lib.hid (show blockK d d.vo[j] b = wordK KY d.ce by rw [block_word, hF, hK])
  have HSE := Lib.hid (fun W (b' : Below w.heap.size w W) => specSeen_any vl vn va d.lo d.ts d.ag b d.vo[j].b W (h.1.on b') (h.2.1.on b') (by omega) (by omega) (by omega))
  rw [path_same hag, hF] at HSE
  unfold SaysFind at HSE
  rw [hK] at HSE
  unfold KeyD.v keyV at HSE
  have HCA := Lib.hid (fun W (b' : Below w.heap.size w W) (i q : Int) => specCellAt_any vc d.ce i q W ((h.2.2.1.on b').retype _) (by omega))
  have HI1 : Hid (∀ W : World, Calls Tryz.prog 63 #[.int .i64 (j : Int), .int .i64 0, .int .i64 ((d.vo.length : Int) - 1)] W (SaysB W true)) := Lib.hid (fun W => by
    have := l1InC_any (j : Int) 0 ((d.vo.length : Int) - 1) W
    rwa [show (decide ((0 : Int) ≤ (j : Int)) && decide ((j : Int) ≤ (d.vo.length : Int) - 1)) = true by simp; omega] at this)
  have HI2 : Hid (∀ W : World, Calls Tryz.prog 63 #[.int .i64 b, .int .i64 0, .int .i64 (d.vo[j].c - 1)] W (SaysB W true)) := Lib.hid (fun W => by
    have := l1InC_any b 0 (d.vo[j].c - 1) W
    rwa [hasB_in, hb] at this)
  have HV := Lib.hid (fun W (b' : Below w.heap.size w W) => (show Reads W W.heap.size vv (volsD d.vo) from (h.on b').2.2.2))
  obtain ⟨A0, Ac0, A1, Ac1, A2, Ac2, A3, Ac3, A4, Ac4, rfl, rfl, rfl, rfl, rfl⟩ := h.shape
  have HB := Lib.hid (bal1 w (.cells #[.slice A0 d.lo.length Ac0, .slice A1 d.ts.length Ac1, .slice A2 d.ag.length Ac2, .slice A3 d.ce.length Ac3, .slice A4 d.vo.length Ac4, .int .i64 d.nx] 32))
  have Q0 := Lib.hid (al1 w (.cells #[.slice A0 d.lo.length Ac0, .slice A1 d.ts.length Ac1, .slice A2 d.ag.length Ac2, .slice A3 d.ce.length Ac3, .slice A4 d.vo.length Ac4, .int .i64 d.nx] 32))
  have i1 : (j : Int) < (d.vo.length : Int) := by omega
  have i2 : (0 : Int) ≤ (j : Int) := by omega
  have hw1 : IntKind.i64.wrap ((d.vo.length : Int) - 1) = (d.vo.length : Int) - 1 := by rw [IntKind.wrap_i64]; omega
  have hw2 : IntKind.i64.wrap (d.vo[j].c - 1) = d.vo[j].c - 1 := by rw [IntKind.wrap_i64]; omega
  clear h hs hb s1 s2 s3 s4 hag hF hc1 hc2
  go_enter Tryz.func79, Tryz.ntmps79
  go_upto_region 1 with (fail)
  obtain ⟨bb, off, hA, hbb, hc⟩ := Reads.vols (show Reads w w.heap.size (.slice A4 d.vo.length Ac4) (.row 41 4 d.vo.length (d.vo.flatMap volC)) from HV.out w (Below.refl _ _)) hj
  subst hA
  have HC := Lib.hid (fun W (b' : Below w.heap.size w W) => (hc j hj).on hbb b')
  generalize w.alloc _ = W at *
  obtain ⟨y0, y1, y2, y3⟩ := HC.out _ HB.out
  obtain ⟨x0, x1, x2, x3, x4, x5, x6⟩ := boxP Q0.out
  clear hc hbb HV
  go_wp2_with fail
  refine (HI1.out _).mono ?_
  rintro e _ ⟨rfl, rfl⟩
  go_wp2_with fail
  refine (HI2.out _).mono ?_
  rintro e _ ⟨rfl, rfl⟩
  have QB := Lib.hid Q0.out
  clear x0 x1 x2 x3 x4 x5 x6 y0 y1 y2 y3 Q0 hw1 hw2
  go_upto_region 3 with (fail)
  refine but_begin (f := 17) (S := fun V => Below W.heap.size W V) (by kernel_rfl) ?_
  have hS0c : Below W.heap.size W W.drew := Below.drew1 _
  have hz0c : W.heap.size ≤ W.drew.heap.size := Nat.le_refl _
  generalize W.drew = Udc at *
  refine bt (f := 17) (i := 0) (v := ?vc0) rfl (Or.inl ⟨(by rfl), ?hyc0⟩) hS0c ?restc0
  case hyc0 => intro W hW; go_simp; exact rfl
  simp only [zA, zB, zC, Act.put, zD, zE, zF]
  refine bt (f := 17) (i := 1) (v := ?vc1) rfl (Or.inl ⟨(by rfl), ?hyc1⟩) hS0c ?restc1
  case hyc1 =>
    intro W hW
    obtain ⟨x0, x1, x2, x3, x4, x5, x6⟩ := boxP (box_on QB.out hW)
    obtain ⟨y0, y1, y2, y3⟩ := HC.out _ (bstep HB.out hW)
    go_simp
    exact rfl
  simp only [zA, zB, zC, Act.put, zD, zE, zF]
  refine bt (f := 17) (i := 2) (v := ?vc2) rfl (Or.inl ⟨(by rfl), ?hyc2⟩) hS0c ?restc2
  case hyc2 => intro W hW; go_simp; exact rfl
  simp only [zA, zB, zC, Act.put, zD, zE, zF]
  refine bt (f := 17) (i := 3) (v := ?vc3) rfl (Or.inl ⟨(by rfl), ?hyc3⟩) hS0c ?restc3
  case hyc3 =>
    intro W hW
    obtain ⟨x0, x1, x2, x3, x4, x5, x6⟩ := boxP (box_on QB.out hW)
    obtain ⟨y0, y1, y2, y3⟩ := HC.out _ (bstep HB.out hW)
    go_simp
    exact rfl
  simp only [zA, zB, zC, Act.put, zD, zE, zF]
  refine bt (f := 17) (i := 4) (v := ?vc4) rfl (Or.inl ⟨(by rfl), ?hyc4⟩) hS0c ?restc4
  case hyc4 => intro W hW; go_simp; exact rfl
  simp only [zA, zB, zC, Act.put, zD, zE, zF]
  refine bt (f := 17) (i := 5) (v := ?vc5) rfl (Or.inl ⟨(by rfl), ?hyc5⟩) hS0c ?restc5
  case hyc5 => intro W hW; go_simp; exact rfl
  simp only [zA, zB, zC, Act.put, zD, zE, zF]
  refine bt (f := 17) (i := 6) (v := ?vc6) rfl (Or.inl ⟨(by rfl), ?hyc6⟩) hS0c ?restc6
  case hyc6 =>
    intro W hW
    obtain ⟨x0, x1, x2, x3, x4, x5, x6⟩ := boxP (box_on QB.out hW)
    obtain ⟨y0, y1, y2, y3⟩ := HC.out _ (bstep HB.out hW)
    go_simp
    exact rfl
  simp only [zA, zB, zC, Act.put, zD, zE, zF]
  refine bt (f := 17) (i := 7) (v := ?vc7) rfl (Or.inl ⟨(by rfl), ?hyc7⟩) hS0c ?restc7
  case hyc7 => intro W hW; go_simp; exact rfl
  simp only [zA, zB, zC, Act.put, zD, zE, zF]
  refine bt (f := 17) (i := 8) (v := ?vc8) rfl (Or.inl ⟨(by rfl), ?hyc8⟩) hS0c ?restc8
  case hyc8 => intro W hW; go_simp; exact rfl
  simp only [zA, zB, zC, Act.put, zD, zE, zF]
  refine bt (f := 17) (i := 9) (v := ?vc9) rfl (Or.inl ⟨(by rfl), ?hyc9⟩) hS0c ?restc9
  case hyc9 => intro W hW; go_simp; exact rfl
  simp only [zA, zB, zC, Act.put, zD, zE, zF]
  refine bt (f := 17) (i := 10) (v := ?vc10) rfl (Or.inl ⟨(by rfl), ?hyc10⟩) hS0c ?restc10
  case hyc10 =>
    intro W hW
    obtain ⟨x0, x1, x2, x3, x4, x5, x6⟩ := boxP (box_on QB.out hW)
    obtain ⟨y0, y1, y2, y3⟩ := HC.out _ (bstep HB.out hW)
    go_simp
    exact rfl
  simp only [zA, zB, zC, Act.put, zD, zE, zF]
  refine but_two (i := 11) (j := 15) (by kernel_rfl) rfl rfl (by rfl) (by rfl) ?_ ?_
  · simp only [zA, zB, zC]
    intro K HK
    go_wp2_with fail
    refine (HSE.out _ (bstep HB.out hS0c)).mono ?_
    rintro r Vcp1 ⟨rfl, hbcp1⟩
    go_wp2_with fail
    have hScp1 : (fun V => Below W.heap.size W V) Vcp1 := bstep hS0c hbcp1
    refine HK.out _ _ (fun _ => hScp1) ?_
    clear HK
    have hzcp1 := hbcp1.size
    refine bt (f := 17) (i := 12) (v := ?vcp12) rfl (Or.inl ⟨(by rfl), ?hycp12⟩) hScp1 ?restcp12
    case hycp12 => intro W hW; go_simp; exact rfl
    simp only [zA, zB, zC, Act.put, zD, zE, zF]
    refine bt (f := 17) (i := 13) (v := ?vcp13) rfl (Or.inl ⟨(by rfl), ?hycp13⟩) hScp1 ?restcp13
    case hycp13 => intro W hW; go_simp; exact rfl
    simp only [zA, zB, zC, Act.put, zD, zE, zF]
    refine bt (f := 17) (i := 14) (v := ?vcp14) rfl (Or.inl ⟨(by rfl), ?hycp14⟩) hScp1 ?restcp14
    case hycp14 => intro W hW; go_simp; exact rfl
    simp only [zA, zB, zC, Act.put, zD, zE, zF]
    refine but_run (i := 15) (by kernel_rfl) rfl (by rfl) ?_
    simp only [zA, zB, zC]
    intro K HK
    go_wp2_with fail
    have hScp2 : (fun V => Below W.heap.size W V) (Vcp1.alloc (.cells #[.int .i64 0, .int .i64 0, .int .i64 0, .int .i64 0, .int .i64 0] 112)) := bstep hScp1 (bal1 _ _)
    refine HK.out _ _ (fun _ => hScp2) ?_
    clear HK
    have hBcp2 := bal1 Vcp1 (.cells #[.int .i64 0, .int .i64 0, .int .i64 0, .int .i64 0, .int .i64 0] 112)
    have hzcp2 : Vcp1.heap.size + 1 ≤ (Vcp1.alloc (.cells #[.int .i64 0, .int .i64 0, .int .i64 0, .int .i64 0, .int .i64 0] 112)).heap.size := by simp
    have QK := Lib.hid (al1 Vcp1 (.cells #[.int .i64 0, .int .i64 0, .int .i64 0, .int .i64 0, .int .i64 0] 112))
    have hzacp2 := (hScp1).size
    obtain ⟨pk, hpk⟩ : ∃ p, Vcp1.heap.size = p := ⟨_, rfl⟩
    rw [hpk] at QK ⊢
    have hpk2 : W.heap.size ≤ pk := by omega
    clear hpk
    generalize Vcp1.alloc (.cells #[.int .i64 0, .int .i64 0, .int .i64 0, .int .i64 0, .int .i64 0] 112) = Vncp2 at *
    refine but_run (i := 16) (by kernel_rfl) rfl (by rfl) ?_
    simp only [zA, zB, zC]
    intro K HK
    obtain ⟨z0, z1, z2, z3, z4, z5⟩ := box5 QK.out
    go_wp2_with fail
    have hScp3 : (fun V => Below W.heap.size W V) (((((Vncp2.setCell ⟨pk, 0, none⟩ (.int .i64 KY.a)).setCell ⟨pk, 1, none⟩ (.int .i64 KY.b)).setCell ⟨pk, 2, none⟩ (.int .i64 KY.c)).setCell ⟨pk, 3, none⟩ (.int .i64 KY.d)).setCell ⟨pk, 4, none⟩ (.int .i64 KY.e)) := b5' hScp2 hpk2
    refine HK.out _ _ (fun _ => hScp3) ?_
    clear HK
    replace QK := Lib.hid (box_setsK (u1 := .int .i64 KY.a) (u2 := .int .i64 KY.b) (u3 := .int .i64 KY.c) (u4 := .int .i64 KY.d) (u5 := .int .i64 KY.e) QK.out)
    refine but_run (i := 17) (by kernel_rfl) rfl (by rfl) ?_
    simp only [zA, zB, zC]
    intro K HK
    go_wp2_with fail
    refine HK.out _ _ (fun h => absurd rfl h) ?_
    clear HK
    refine but_done (by kernel_rfl) ?_
    have BF := Lib.hid (bstep HB.out (hScp3))
    have QF := Lib.hid (box_on QB.out (hScp3))
    generalize (((((Vncp2.setCell ⟨pk, 0, none⟩ (.int .i64 KY.a)).setCell ⟨pk, 1, none⟩ (.int .i64 KY.b)).setCell ⟨pk, 2, none⟩ (.int .i64 KY.c)).setCell ⟨pk, 3, none⟩ (.int .i64 KY.d)).setCell ⟨pk, 4, none⟩ (.int .i64 KY.e)) = w5 at *
    clear QB HSE
    obtain ⟨k0, k1, k2, k3, k4, k5⟩ := box5 QK.out
    cases FF with
    | none =>
      have hk0 : KY = zK := hK.symm
      have HW := Lib.hid (show wordK KY d.ce = 0 by rw [hk0]; rfl)
      clear hk0 hK
      rw [show (none : Option KeyD).isSome = false from rfl]
      go_wp2
      go_ret
      exact ⟨by rw [HWK.out, HW.out]; rfl, BF.out⟩
    | some kk =>
      clear hK
      rw [show (some kk).isSome = true from rfl]
      by_cases hc : KY.c = 1
      · have e1 : (KY.c != 1) = false := by simp [hc]
        have HW := Lib.hid (show wordK KY d.ce = cellK d.ce KY.d KY.e by unfold wordK; rw [if_pos hc])
        clear hc
        obtain ⟨x0, x1, x2, x3, x4, x5, x6⟩ := boxP QF.out
        go_wp2_with fail
        refine (HCA.out _ BF.out _ _).mono ?_
        rintro e _ ⟨rfl, rfl⟩
        go_wp2
        go_ret
        exact ⟨by rw [HWK.out, HW.out]; rfl, BF.out⟩
      · have e1 : (KY.c != 1) = true := by simp [hc]
        have HW := Lib.hid (show wordK KY d.ce = 0 by unfold wordK; rw [if_neg hc])
        clear hc
        go_wp2
        go_ret
        exact ⟨by rw [HWK.out, HW.out]; rfl, BF.out⟩
  · simp only [zA, zB, zC]
    intro K HK
    go_wp2_with fail
    have hScq1 : (fun V => Below W.heap.size W V) (Udc.alloc (.cells #[.int .i64 0, .int .i64 0, .int .i64 0, .int .i64 0, .int .i64 0] 112)) := bstep hS0c (bal1 _ _)
    refine HK.out _ _ (fun _ => hScq1) ?_
    clear HK
    have hBcq1 := bal1 Udc (.cells #[.int .i64 0, .int .i64 0, .int .i64 0, .int .i64 0, .int .i64 0] 112)
    have hzcq1 : Udc.heap.size + 1 ≤ (Udc.alloc (.cells #[.int .i64 0, .int .i64 0, .int .i64 0, .int .i64 0, .int .i64 0] 112)).heap.size := by simp
    have QK := Lib.hid (al1 Udc (.cells #[.int .i64 0, .int .i64 0, .int .i64 0, .int .i64 0, .int .i64 0] 112))
    have hzacq1 := (hS0c).size
    obtain ⟨pk, hpk⟩ : ∃ p, Udc.heap.size = p := ⟨_, rfl⟩
    rw [hpk] at QK ⊢
    have hpk2 : W.heap.size ≤ pk := by omega
    clear hpk
    generalize Udc.alloc (.cells #[.int .i64 0, .int .i64 0, .int .i64 0, .int .i64 0, .int .i64 0] 112) = Vncq1 at *
    refine but_run (i := 11) (by kernel_rfl) rfl (by rfl) ?_
    simp only [zA, zB, zC]
    intro K HK
    go_wp2_with fail
    refine (HSE.out _ (bstep HB.out hScq1)).mono ?_
    rintro r Vcq2 ⟨rfl, hbcq2⟩
    go_wp2_with fail
    have hScq2 : (fun V => Below W.heap.size W V) Vcq2 := bstep hScq1 hbcq2
    refine HK.out _ _ (fun _ => hScq2) ?_
    clear HK
    have hzcq2 := hbcq2.size
    replace QK := Lib.hid (box_on QK.out hbcq2)
    refine bt (f := 17) (i := 12) (v := ?vcq12) rfl (Or.inl ⟨(by rfl), ?hycq12⟩) hScq2 ?restcq12
    case hycq12 => intro W hW; go_simp; exact rfl
    simp only [zA, zB, zC, Act.put, zD, zE, zF]
    refine bt (f := 17) (i := 13) (v := ?vcq13) rfl (Or.inl ⟨(by rfl), ?hycq13⟩) hScq2 ?restcq13
    case hycq13 => intro W hW; go_simp; exact rfl
    simp only [zA, zB, zC, Act.put, zD, zE, zF]
    refine bt (f := 17) (i := 14) (v := ?vcq14) rfl (Or.inl ⟨(by rfl), ?hycq14⟩) hScq2 ?restcq14
    case hycq14 => intro W hW; go_simp; exact rfl
    simp only [zA, zB, zC, Act.put, zD, zE, zF]
    refine but_run (i := 16) (by kernel_rfl) rfl (by rfl) ?_
    simp only [zA, zB, zC]
    intro K HK
    obtain ⟨z0, z1, z2, z3, z4, z5⟩ := box5 QK.out
    go_wp2_with fail
    have hScq3 : (fun V => Below W.heap.size W V) (((((Vcq2.setCell ⟨pk, 0, none⟩ (.int .i64 KY.a)).setCell ⟨pk, 1, none⟩ (.int .i64 KY.b)).setCell ⟨pk, 2, none⟩ (.int .i64 KY.c)).setCell ⟨pk, 3, none⟩ (.int .i64 KY.d)).setCell ⟨pk, 4, none⟩ (.int .i64 KY.e)) := b5' hScq2 hpk2
    refine HK.out _ _ (fun _ => hScq3) ?_
    clear HK
    replace QK := Lib.hid (box_setsK (u1 := .int .i64 KY.a) (u2 := .int .i64 KY.b) (u3 := .int .i64 KY.c) (u4 := .int .i64 KY.d) (u5 := .int .i64 KY.e) QK.out)
    refine but_run (i := 17) (by kernel_rfl) rfl (by rfl) ?_
    simp only [zA, zB, zC]
    intro K HK
    go_wp2_with fail
    refine HK.out _ _ (fun h => absurd rfl h) ?_
    clear HK
    refine but_done (by kernel_rfl) ?_
    have BF := Lib.hid (bstep HB.out (hScq3))
    have QF := Lib.hid (box_on QB.out (hScq3))
    generalize (((((Vcq2.setCell ⟨pk, 0, none⟩ (.int .i64 KY.a)).setCell ⟨pk, 1, none⟩ (.int .i64 KY.b)).setCell ⟨pk, 2, none⟩ (.int .i64 KY.c)).setCell ⟨pk, 3, none⟩ (.int .i64 KY.d)).setCell ⟨pk, 4, none⟩ (.int .i64 KY.e)) = w5 at *
    clear QB HSE
    obtain ⟨k0, k1, k2, k3, k4, k5⟩ := box5 QK.out
    cases FF with
    | none =>
      have hk0 : KY = zK := hK.symm
      have HW := Lib.hid (show wordK KY d.ce = 0 by rw [hk0]; rfl)
      clear hk0 hK
      rw [show (none : Option KeyD).isSome = false from rfl]
      go_wp2
      go_ret
      exact ⟨by rw [HWK.out, HW.out]; rfl, BF.out⟩
    | some kk =>
      clear hK
      rw [show (some kk).isSome = true from rfl]
      by_cases hc : KY.c = 1
      · have e1 : (KY.c != 1) = false := by simp [hc]
        have HW := Lib.hid (show wordK KY d.ce = cellK d.ce KY.d KY.e by unfold wordK; rw [if_pos hc])
        clear hc
        obtain ⟨x0, x1, x2, x3, x4, x5, x6⟩ := boxP QF.out
        go_wp2_with fail
        refine (HCA.out _ BF.out _ _).mono ?_
        rintro e _ ⟨rfl, rfl⟩
        go_wp2
        go_ret
        exact ⟨by rw [HWK.out, HW.out]; rfl, BF.out⟩
      · have e1 : (KY.c != 1) = true := by simp [hc]
        have HW := Lib.hid (show wordK KY d.ce = 0 by unfold wordK; rw [if_neg hc])
        clear hc
        go_wp2
        go_ret
        exact ⟨by rw [HWK.out, HW.out]; rfl, BF.out⟩
set_option maxHeartbeats 2000000 in
theorem specRead_any {t : TypeId} (vl vn va vc vv : Value) (d : PoolD) (s : ByteArray) (b : Int) (w : World) (h : RdP t w w.heap.size vl vn va vc vv d) (hs : SmallP d) (hnm : ∀ k ∈ d.vo, k.a.size ≤ maxLen) (hz : s.size ≤ maxLen) :
    Calls Tryz.prog 31 #[.agg #[vl, vn, va, vc, vv, .int .i64 d.nx], .string s, .int .i64 b] w fun e w' => e = .returned (.tuple #[.int .i64 (readK d s b).1, .int .i64 (readK d s b).2]) ∧ Below w.heap.size w w' := by
  have s4 := hs.2.2.2
  have HV0 := Lib.hid (fun W (b' : Below w.heap.size w W) => l11Vol_any vl vn va vc vv d s W (h.on b') hs hnm hz)
  have HVA := Lib.hid (fun W (b' : Below w.heap.size w W) => specVolAt_any vl vn va vc vv d s W (h.on b') (by omega))
  have HBO := Lib.hid (fun (hp : poolOkB d = true) (j : Nat) W (b' : Below w.heap.size w W) (hj : j < d.vo.length) (hb : hasB d.vo[j] b = true) => specBlockOf_any vl vn va vc vv d j b W (h.on b') hs (pool_small hp).2.2.2.2.2.2.2.2.2.1 hj hb ((pool_small hp).2.2.2.2.2.2.2.2.2.2.2 _ (List.getElem_mem hj)).1 ((pool_small hp).2.2.2.2.2.2.2.2.2.2.2 _ (List.getElem_mem hj)).2)
  have HI := Lib.hid (fun (j : Nat) (hj : j < d.vo.length) (W : World) => (by
    have := l1InC_any b 0 (d.vo[j].c - 1) W
    rw [hasB_in] at this
    exact this : Calls Tryz.prog 63 #[.int .i64 b, .int .i64 0, .int .i64 (d.vo[j].c - 1)] W (SaysB W (hasB d.vo[j] b))))
  have HV := Lib.hid (fun W (b' : Below w.heap.size w W) => (show Reads W W.heap.size vv (volsD d.vo) from (h.on b').2.2.2))
  obtain ⟨A0, Ac0, A1, Ac1, A2, Ac2, A3, Ac3, A4, Ac4, rfl, rfl, rfl, rfl, rfl⟩ := h.shape
  have HB := Lib.hid (bal1 w (.cells #[.slice A0 d.lo.length Ac0, .slice A1 d.ts.length Ac1, .slice A2 d.ag.length Ac2, .slice A3 d.ce.length Ac3, .slice A4 d.vo.length Ac4, .int .i64 d.nx] 32))
  have Q0 := Lib.hid (al1 w (.cells #[.slice A0 d.lo.length Ac0, .slice A1 d.ts.length Ac1, .slice A2 d.ag.length Ac2, .slice A3 d.ce.length Ac3, .slice A4 d.vo.length Ac4, .int .i64 d.nx] 32))
  obtain ⟨C, hC⟩ : ∃ C, volN d s = C := ⟨_, rfl⟩
  rw [hC] at HV0
  have HN := Lib.hid hC
  clear h hs hnm hz hC s4
  go_enter Tryz.func31, Tryz.ntmps31
  go_upto_region 1 with (fail)
  generalize w.alloc (.cells #[.slice A0 d.lo.length Ac0, .slice A1 d.ts.length Ac1, .slice A2 d.ag.length Ac2, .slice A3 d.ce.length Ac3, .slice A4 d.vo.length Ac4, .int .i64 d.nx] 32) = W at *
  obtain ⟨x0, x1, x2, x3, x4, x5, x6⟩ := boxP Q0.out
  go_wp2_with fail
  refine (HV0.out _ HB.out).mono ?_
  rintro e w1 ⟨rfl, b1⟩
  have B1 := Lib.hid (bstep HB.out b1)
  replace Q0 := Lib.hid (box_on Q0.out b1)
  clear x0 x1 x2 x3 x4 x5 x6 b1
  by_cases hc : C = 0
  · obtain ⟨hm, hk⟩ := volN_yes (HN.out.trans hc)
    obtain ⟨j, hj, hj2, hRK⟩ := read_yes (b := b) hm hk
    rw [hj2] at HVA
    have hcw := (pool_small (mayB_pool hm)).2.2.2.2.2.2.2.2.2.2.2 _ (List.getElem_mem hj)
    have hw2 : IntKind.i64.wrap (d.vo[j].c - 1) = d.vo[j].c - 1 := by rw [IntKind.wrap_i64]; omega
    have i1 : (j : Int) < (d.vo.length : Int) := by omega
    have i2 : (0 : Int) ≤ (j : Int) := by omega
    obtain ⟨hbv, hhb⟩ : ∃ q, hasB d.vo[j] b = q := ⟨_, rfl⟩
    have HI2 := Lib.hid (HI.out j hj)
    rw [hhb] at HI2 hRK
    have HRK := Lib.hid hRK
    have HBO2 := Lib.hid (fun W b' (hb : hbv = true) => HBO.out (mayB_pool hm) j W b' hj (hhb.trans hb))
    obtain ⟨bb, off, hA, hbb, hcc⟩ := Reads.vols (show Reads w1 w1.heap.size (.slice A4 d.vo.length Ac4) (.row 41 4 d.vo.length (d.vo.flatMap volC)) from HV.out w1 B1.out) hj
    subst hA
    have HC := Lib.hid (fun W (b' : Below w1.heap.size w1 W) => (hcc j hj).on hbb b')
    subst hc
    obtain ⟨x0, x1, x2, x3, x4, x5, x6⟩ := boxP Q0.out
    clear hk hj2 hRK hhb hcc HBO HI HV HV0 hm hcw hbb
    go_wp2_with fail
    refine (HVA.out _ B1.out).mono ?_
    rintro e w2 ⟨rfl, b2⟩
    have B2 := Lib.hid (bstep B1.out b2)
    obtain ⟨y0, y1, y2, y3⟩ := HC.out _ b2
    replace Q0 := Lib.hid (box_on Q0.out b2)
    clear x0 x1 x2 x3 x4 x5 x6 b2
    obtain ⟨x0, x1, x2, x3, x4, x5, x6⟩ := boxP Q0.out
    go_wp2_with fail
    refine (HI2.out _).mono ?_
    rintro e _ ⟨rfl, rfl⟩
    clear y0 y1 y2 y3
    cases hbv
    · go_wp2
      go_ret2
      exact ⟨by rw [HRK.out]; rfl, B2.out⟩
    · go_wp2_with fail
      refine (HBO2.out _ B2.out (by first | rfl | trivial)).mono ?_
      rintro e w4 ⟨rfl, b4⟩
      have B4 := Lib.hid (bstep B2.out b4)
      clear x0 x1 x2 x3 x4 x5 x6 b4
      go_wp2
      go_ret2
      exact ⟨by rw [HRK.out]; rfl, B4.out⟩
  · have d1 : (C != 0) = true := by simp [hc]
    have HE := Lib.hid (show readK d s b = (0, C) by
      have h1 : volN d s ≠ 0 := by rw [HN.out]; exact hc
      rw [← HN.out]
      unfold readK
      unfold volN at h1 ⊢
      cases hm : mayB d s
      · rfl
      · rw [hm] at h1
        simp only [if_true] at h1 ⊢
        split
        · rfl
        · rename_i hk
          rw [if_neg hk] at h1
          exact absurd rfl h1)
    clear hc
    go_wp2
    go_ret2
    exact ⟨by rw [HE.out]; rfl, B1.out⟩
end Go.Proofs.YtlhemcjahcmdeaaGreatDoor
namespace Go.Proofs.YtlhemcjahcmdeaaGreatDoor
open Go.RowKit
set_option maxRecDepth 100000
set_option linter.unusedSimpArgs false
set_option linter.unusedVariables false

set_option maxHeartbeats 4000000 in
theorem exactRead_walk (v : Value) (d : PoolD) (s : ByteArray) (b : Int) (w : World) (hv : PoolIs w v d) (hzs : s.size ≤ maxLen) (_ : (Lit.int .i64 b).wf = true) (hg : ErrT w) : Calls Tryz.prog 9 #[v, .string s, .int .i64 b] w fun e w' => e = .returned (.bool true) ∧ Below w.heap.size w w' := by
  obtain ⟨vl, vn, va, vc, vv, rfl, hA, hnm, _⟩ := hv
  obtain ⟨N0, Nc0, N1, Nc1, N2, Nc2, N3, Nc3, N4, Nc4, rfl, rfl, rfl, rfl, rfl⟩ := hA.shape
  have HT := Lib.hid (fun (hs : SmallP d) W b => toPool_any (.slice N0 d.lo.length Nc0) (.slice N1 d.ts.length Nc1) (.slice N2 d.ag.length Nc2) (.slice N3 d.ce.length Nc3) (.slice N4 d.vo.length Nc4) d W (hA.on b) hs)
  have HZ := Lib.hid (fun W b => szPool_any (.slice N0 d.lo.length Nc0) (.slice N1 d.ts.length Nc1) (.slice N2 d.ag.length Nc2) (.slice N3 d.ce.length Nc3) (.slice N4 d.vo.length Nc4) d W (hA.on b) hnm)
  have HSP := Lib.hid (fun (hs : SmallP d) (t : TypeId) (vl vn va vc vv : Value) (W : World) (h : RdP t W W.heap.size vl vn va vc vv d) => specRead_any vl vn va vc vv d s b W h hs hnm hzs)
  have HIM := Lib.hid (fun (hs : SmallP d) (t : TypeId) (vl vn va vc vv : Value) (W : World) (b' : Below w.heap.size w W) (h : RdP t W W.heap.size vl vn va vc vv d) => implRead_any vl vn va vc vv d s b W h hs hnm hzs (hg.on b' hg.size))
  obtain ⟨n, c, hyc⟩ : ∃ n c, readK d s b = (n, c) := ⟨_, _, rfl⟩
  rw [hyc] at HSP HIM
  have hcc : (c != c) = false := by simp
  have hnn : (n != n) = false := by simp
  have BB := Lib.hid (bal1 w (.cells #[.slice N0 d.lo.length Nc0, .slice N1 d.ts.length Nc1, .slice N2 d.ag.length Nc2, .slice N3 d.ce.length Nc3, .slice N4 d.vo.length Nc4, .int .i64 d.nx] 63))
  have QN := Lib.hid (al1 w (.cells #[.slice N0 d.lo.length Nc0, .slice N1 d.ts.length Nc1, .slice N2 d.ag.length Nc2, .slice N3 d.ce.length Nc3, .slice N4 d.vo.length Nc4, .int .i64 d.nx] 63))
  have hWz : Hid ((w.alloc (.cells #[.slice N0 d.lo.length Nc0, .slice N1 d.ts.length Nc1, .slice N2 d.ag.length Nc2, .slice N3 d.ce.length Nc3, .slice N4 d.vo.length Nc4, .int .i64 d.nx] 63)).heap.size = w.heap.size + 1) := Lib.hid (by simp)
  clear hA hnm hg hyc hzs
  by_cases hsz : s.size ≤ 1048576
  · have hsz2 : decide ((s.size : Int) > 1048576) = false := decide_eq_false (by omega)
    go_enter Tryz.func9, Tryz.ntmps9
    go_upto_region 1 with (fail)
    generalize w.alloc (.cells #[.slice N0 d.lo.length Nc0, .slice N1 d.ts.length Nc1, .slice N2 d.ag.length Nc2, .slice N3 d.ce.length Nc3, .slice N4 d.vo.length Nc4, .int .i64 d.nx] 63) = W at *
    have hWz1 := Nat.le_of_eq hWz.out
    have hWz2 := Nat.le_of_eq hWz.out.symm
    clear hWz
    obtain ⟨Nx0, Nx1, Nx2, Nx3, Nx4, Nx5, Nx6⟩ := boxP QN.out
    go_wp2_with fail
    refine (HZ.out _ BB.out).mono ?_
    clear Nx0 Nx1 Nx2 Nx3 Nx4 Nx5 Nx6
    rintro r w0 ⟨⟨q, rfl, q0, hs⟩ | rfl, b⟩
    · replace QN := Lib.hid (box_on QN.out b)
      replace BB := Lib.hid (bstep BB.out b)
      have z0 := b.size
      have d0 : decide (q < 0) = false := decide_eq_false (by omega)
      have HS := Lib.hid hs
      clear b hs HZ
      obtain ⟨Nx0, Nx1, Nx2, Nx3, Nx4, Nx5, Nx6⟩ := boxP QN.out
      go_wp2_with fail
      refine (HT.out HS.out _ BB.out).mono ?_
      clear Nx0 Nx1 Nx2 Nx3 Nx4 Nx5 Nx6
      rintro r w1 ⟨vlT, vnT, vaT, vcT, vvT, rfl, o, b⟩
      have zT := b.size
      replace QN := Lib.hid (box_on QN.out b)
      replace BB := Lib.hid (bstep BB.out b)
      have OT := Lib.hid o.lt
      clear o b
      obtain ⟨T0, Tc0, T1, Tc1, T2, Tc2, T3, Tc3, T4, Tc4, rfl, rfl, rfl, rfl, rfl⟩ := OT.out.reads.shape
      clear d0
      go_wp2_with fail
      refine (HSP.out HS.out _ _ _ _ _ _ _ OT.out.reads).mono ?_
      rintro r w2 ⟨rfl, b⟩
      have z2 := b.size
      replace OT := Lib.hid (OT.out.on b)
      replace QN := Lib.hid (box_on QN.out b)
      replace BB := Lib.hid (bstep BB.out b)
      clear b
      clear OT
      obtain ⟨Nx0, Nx1, Nx2, Nx3, Nx4, Nx5, Nx6⟩ := boxP QN.out
      go_wp2_with fail
      refine (HT.out HS.out _ BB.out).mono ?_
      clear Nx0 Nx1 Nx2 Nx3 Nx4 Nx5 Nx6
      rintro r w3 ⟨vlX, vnX, vaX, vcX, vvX, rfl, o, b⟩
      have zX := b.size
      replace QN := Lib.hid (box_on QN.out b)
      replace BB := Lib.hid (bstep BB.out b)
      have OX := Lib.hid o.lt
      clear o b
      obtain ⟨X0, Xc0, X1, Xc1, X2, Xc2, X3, Xc3, X4, Xc4, rfl, rfl, rfl, rfl, rfl⟩ := OX.out.reads.shape
      have ba := bal1 w3 (.cells #[.slice X0 d.lo.length Xc0, .slice X1 d.ts.length Xc1, .slice X2 d.ag.length Xc2, .slice X3 d.ce.length Xc3, .slice X4 d.vo.length Xc4, .int .i64 d.nx] 32)
      have QX := Lib.hid (al1 w3 (.cells #[.slice X0 d.lo.length Xc0, .slice X1 d.ts.length Xc1, .slice X2 d.ag.length Xc2, .slice X3 d.ce.length Xc3, .slice X4 d.vo.length Xc4, .int .i64 d.nx] 32))
      have hzX : (w3.alloc (.cells #[.slice X0 d.lo.length Xc0, .slice X1 d.ts.length Xc1, .slice X2 d.ag.length Xc2, .slice X3 d.ce.length Xc3, .slice X4 d.vo.length Xc4, .int .i64 d.nx] 32)).heap.size = w3.heap.size + 1 := by simp
      replace OX := Lib.hid (OX.out.on ba)
      replace QN := Lib.hid (box_on QN.out ba)
      replace BB := Lib.hid (bstep BB.out ba)
      clear ba
      have yX := Lib.hid hzX
      clear hzX
      go_upto_region 9 with (fail)
      generalize w3.alloc (.cells #[.slice X0 d.lo.length Xc0, .slice X1 d.ts.length Xc1, .slice X2 d.ag.length Xc2, .slice X3 d.ce.length Xc3, .slice X4 d.vo.length Xc4, .int .i64 d.nx] 32) = w4 at *
      have xX := Nat.le_of_eq yX.out
      have uX := Nat.le_of_eq yX.out.symm
      clear yX
      obtain ⟨Xx0, Xx1, Xx2, Xx3, Xx4, Xx5, Xx6⟩ := boxP QX.out
      go_wp2_with fail
      refine (HIM.out HS.out _ _ _ _ _ _ _ BB.out OX.out.reads).mono ?_
      clear Xx0 Xx1 Xx2 Xx3 Xx4 Xx5 Xx6
      rintro r w5 ⟨rfl, b⟩
      have z5 := b.size
      replace OX := Lib.hid (OX.out.on b)
      replace QN := Lib.hid (box_on QN.out b)
      replace QX := Lib.hid (box_on QX.out b)
      replace BB := Lib.hid (bstep BB.out b)
      clear b
      obtain ⟨Nx0, Nx1, Nx2, Nx3, Nx4, Nx5, Nx6⟩ := boxP QN.out
      obtain ⟨Xx0, Xx1, Xx2, Xx3, Xx4, Xx5, Xx6⟩ := boxP QX.out
      go_upto_region 12 with (fail)
      go_region_held3 (fun V => V.cell? ⟨w.heap.size, 0, none⟩ = some (.slice N0 d.lo.length Nc0) ∧ V.cell? ⟨w.heap.size, 1, none⟩ = some (.slice N1 d.ts.length Nc1) ∧ V.cell? ⟨w.heap.size, 2, none⟩ = some (.slice N2 d.ag.length Nc2) ∧ V.cell? ⟨w.heap.size, 3, none⟩ = some (.slice N3 d.ce.length Nc3) ∧ V.cell? ⟨w.heap.size, 4, none⟩ = some (.slice N4 d.vo.length Nc4) ∧ V.cell? ⟨w.heap.size, 5, none⟩ = some (.int .i64 d.nx) ∧ V.cell? ⟨w3.heap.size, 0, none⟩ = some (.slice X0 d.lo.length Xc0) ∧ V.cell? ⟨w3.heap.size, 1, none⟩ = some (.slice X1 d.ts.length Xc1) ∧ V.cell? ⟨w3.heap.size, 2, none⟩ = some (.slice X2 d.ag.length Xc2) ∧ V.cell? ⟨w3.heap.size, 3, none⟩ = some (.slice X3 d.ce.length Xc3) ∧ V.cell? ⟨w3.heap.size, 4, none⟩ = some (.slice X4 d.vo.length Xc4) ∧ V.cell? ⟨w3.heap.size, 5, none⟩ = some (.int .i64 d.nx))
        (first | with_reducible exact ⟨(boxP (box_on QN.out (bstep (bstep (Below.drew1 _) b1p) b2p))).1, (boxP (box_on QN.out (bstep (bstep (Below.drew1 _) b1p) b2p))).2.1, (boxP (box_on QN.out (bstep (bstep (Below.drew1 _) b1p) b2p))).2.2.1, (boxP (box_on QN.out (bstep (bstep (Below.drew1 _) b1p) b2p))).2.2.2.1, (boxP (box_on QN.out (bstep (bstep (Below.drew1 _) b1p) b2p))).2.2.2.2.1, (boxP (box_on QN.out (bstep (bstep (Below.drew1 _) b1p) b2p))).2.2.2.2.2.1, (boxP (box_on QX.out (bstep (bstep (Below.drew1 _) b1p) b2p))).1, (boxP (box_on QX.out (bstep (bstep (Below.drew1 _) b1p) b2p))).2.1, (boxP (box_on QX.out (bstep (bstep (Below.drew1 _) b1p) b2p))).2.2.1, (boxP (box_on QX.out (bstep (bstep (Below.drew1 _) b1p) b2p))).2.2.2.1, (boxP (box_on QX.out (bstep (bstep (Below.drew1 _) b1p) b2p))).2.2.2.2.1, (boxP (box_on QX.out (bstep (bstep (Below.drew1 _) b1p) b2p))).2.2.2.2.2.1⟩ | with_reducible exact ⟨(boxP (box_on QN.out (bstep (Below.drew1 _) b1p))).1, (boxP (box_on QN.out (bstep (Below.drew1 _) b1p))).2.1, (boxP (box_on QN.out (bstep (Below.drew1 _) b1p))).2.2.1, (boxP (box_on QN.out (bstep (Below.drew1 _) b1p))).2.2.2.1, (boxP (box_on QN.out (bstep (Below.drew1 _) b1p))).2.2.2.2.1, (boxP (box_on QN.out (bstep (Below.drew1 _) b1p))).2.2.2.2.2.1, (boxP (box_on QX.out (bstep (Below.drew1 _) b1p))).1, (boxP (box_on QX.out (bstep (Below.drew1 _) b1p))).2.1, (boxP (box_on QX.out (bstep (Below.drew1 _) b1p))).2.2.1, (boxP (box_on QX.out (bstep (Below.drew1 _) b1p))).2.2.2.1, (boxP (box_on QX.out (bstep (Below.drew1 _) b1p))).2.2.2.2.1, (boxP (box_on QX.out (bstep (Below.drew1 _) b1p))).2.2.2.2.2.1⟩ | with_reducible exact ⟨(boxP (box_on QN.out (Below.drew1 _))).1, (boxP (box_on QN.out (Below.drew1 _))).2.1, (boxP (box_on QN.out (Below.drew1 _))).2.2.1, (boxP (box_on QN.out (Below.drew1 _))).2.2.2.1, (boxP (box_on QN.out (Below.drew1 _))).2.2.2.2.1, (boxP (box_on QN.out (Below.drew1 _))).2.2.2.2.2.1, (boxP (box_on QX.out (Below.drew1 _))).1, (boxP (box_on QX.out (Below.drew1 _))).2.1, (boxP (box_on QX.out (Below.drew1 _))).2.2.1, (boxP (box_on QX.out (Below.drew1 _))).2.2.2.1, (boxP (box_on QX.out (Below.drew1 _))).2.2.2.2.1, (boxP (box_on QX.out (Below.drew1 _))).2.2.2.2.2.1⟩ | exact ⟨Nx0, Nx1, Nx2, Nx3, Nx4, Nx5, Xx0, Xx1, Xx2, Xx3, Xx4, Xx5⟩ | fail)
        (first
          | (go_at_call 38; refine (eqPool_same _ _ _ _ _ _ _ _ _ _ d _ (OX.out.on (bstep (Below.drew1 _) b1p)).reads oop.reads HS.out).mono ?_; rintro r u2p ⟨rfl, b2p⟩)
          | (go_at_call 37; refine (HT.out HS.out _ (bstep BB.out (Below.drew1 _))).mono ?_; rintro r u1p ⟨pl, pn, pa, pc, pw, rfl, oop, b1p⟩; obtain ⟨Y0, Yc0, Y1, Yc1, Y2, Yc2, Y3, Yc3, Y4, Yc4, rfl, rfl, rfl, rfl, rfl⟩ := oop.reads.shape)
          | fail)
      clear Nx0 Nx1 Nx2 Nx3 Nx4 Nx5 Nx6 Xx0 Xx1 Xx2 Xx3 Xx4 Xx5 Xx6
      have b := bstep (bstep (Below.drew1 _) b1p) b2p
      replace BB := Lib.hid (bstep BB.out b)
      clear b b1p b2p oop
      go_wp2
      go_ret
      exact ⟨rfl, BB.out⟩
    · have B1 := Lib.hid (bstep BB.out b)
      clear b
      go_wp2
      go_ret
      exact ⟨rfl, B1.out⟩
  · have hsz2 : decide ((s.size : Int) > 1048576) = true := decide_eq_true (by omega)
    clear QN HT HZ hWz HSP HIM
    go_enter Tryz.func9, Tryz.ntmps9
    go_wp2
    go_ret
    exact ⟨rfl, BB.out⟩
end Go.Proofs.YtlhemcjahcmdeaaGreatDoor
