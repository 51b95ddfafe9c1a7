/- Several texts in one: AgeOkS, PoolOkS, Box, NodeCopy, AgePut, DoApp, TreeCopy, NodeBox, TreePutPure, DoPure, VolIPut, DoNew, DoForm, DoSForm, DoKill, DoSKill, AgeCut, AgePath, DrawA, DrawAge, AgeMath, KSetMath, NodesMath, TreeSPutA, TreesMath, SeePure, DoPureB, ErrAs, SeeI, DoRead, SeeKS. -/
import Derived.StillTailTactics
import Derived.WalkMore
import Derived.Laws.BitsAllLaws
import Derived.Laws.BitsLemmas
import Derived.WalkKit
import Derived.LaidEql
import Derived.Stop.Asserts
import Derived.RowKitTokens
import Derived.Test.YtlhemcjahcmdeaaGreatDoorPkRF
namespace Go.Proofs.YtlhemcjahcmdeaaGreatDoor
open Go.RowKit
set_option maxRecDepth 100000
set_option linter.unusedSimpArgs false
set_option linter.unusedVariables false

set_option maxHeartbeats 4000000 in
theorem specAgesOk_any (v : Value) (l : List AgeD) (w : World) (hv : Reads w w.heap.size v (agesD l)) (hn : l.length ≤ 2097152) : Calls Tryz.prog 134 #[v] w (SaysBool w (agesOkB l)) := by
  obtain ⟨A, c, rfl, hcap, hmax⟩ := hv.shapeG
  obtain ⟨R, hR⟩ : ∃ R, agesOkB l = R := ⟨_, rfl⟩
  rw [hR]
  have HR := Lib.hid hR
  have HV := Lib.hid hv
  clear hv hR
  go_enter Tryz.func134, Tryz.ntmps134
  go_wp2
  go_loopw [3] (fun i wr => ∃ k : Nat, k ≤ l.length ∧ i = .int .i64 k ∧ Hid (∀ j, j < k → fitG l j = true) ∧ Hid (∀ j (h : j + 1 < l.length), j + 1 < k → (l[j]).a < (l[j + 1]).a) ∧ Hid (Below w.heap.size w wr)) (fun i _ => l.length - (intOf i).toNat)
  case atStart => exact ⟨0, Nat.zero_le _, rfl, Lib.hid (fun j h => by omega), Lib.hid (fun j h h2 => by omega), Lib.hid (Below.refl _ _)⟩
  case round =>
    obtain ⟨k, hk, rfl, HI, HJ, HW⟩ := hrel
    by_cases hlt : k < l.length
    · have HTK := Lib.hid ((HV.out.on HW.out).takeG k hk)
      obtain ⟨b, off, rfl, hbb, hc⟩ := (HV.out.on HW.out).ages hlt
      have i1 : (k : Int) < (l.length : Int) := by omega
      have i2 : (0 : Int) ≤ (k : Int) := by omega
      have i3 : (k : Int) ≤ (c : Int) := by omega
      have i4 : k ≤ c := by omega
      have FK := Lib.hid (hc k hlt)
      have hfit := gfit_at hlt
      cases hid : idG (l[k]).a
      · have HID := Lib.hid hid
        have HBAD : Hid (agesOkB l = false) := Lib.hid (fit_miss hlt (by rw [hfit, hid]; rfl))
        clear hc hfit hid
        go_upto_region 4 with (fail)
        refine but_begin (f := 24) (S := fun V => Below wr.drew.heap.size wr.drew V) (by kernel_rfl) ?_
        refine bt (f := 24) (i := 0) (v := ?vsb0) rfl (Or.inl ⟨(by rfl), ?hysb0⟩) (Below.refl _ _) ?restsb0
        case hysb0 => intro W hW; go_simp; exact rfl
        simp only [zA, zB, zC, Act.put, zD, zE, zF]
        refine bt (f := 24) (i := 1) (v := ?vsb1) rfl (Or.inl ⟨(by rfl), ?hysb1⟩) (Below.refl _ _) ?restsb1
        case hysb1 => intro W hW; go_simp; exact rfl
        simp only [zA, zB, zC, Act.put, zD, zE, zF]
        refine bt (f := 24) (i := 2) (v := ?vsb2) rfl (Or.inl ⟨(by rfl), ?hysb2⟩) (Below.refl _ _) ?restsb2
        case hysb2 => intro W hW; go_simp; exact rfl
        simp only [zA, zB, zC, Act.put, zD, zE, zF]
        refine bt (f := 24) (i := 3) (v := ?vsb3) rfl (Or.inl ⟨(by rfl), ?hysb3⟩) (Below.refl _ _) ?restsb3
        case hysb3 => intro W hW; go_simp; exact rfl
        simp only [zA, zB, zC, Act.put, zD, zE, zF]
        refine bt (f := 24) (i := 4) (v := ?vsb4) rfl (Or.inl ⟨(by rfl), ?hysb4⟩) (Below.refl _ _) ?restsb4
        case hysb4 =>
          intro W hW
          have hb0 : Below wr.heap.size wr W := bstep (Below.drew1 _) hW
          obtain ⟨y0, y1⟩ := FK.out.on hbb hb0
          go_simp
          exact rfl
        simp only [zA, zB, zC, Act.put, zD, zE, zF]
        refine but_run (i := 5) (by kernel_rfl) rfl (by rfl) ?_
        simp only [zA, zB, zC]
        intro K HK
        go_wp2_with fail
        refine (inG_any (l[k]).a _).mono ?_
        rintro r Vsb1 ⟨rfl, hBsb1⟩
        rw [HID.out]
        have hSsb1 := bstep (Below.refl _ _) hBsb1
        go_wp2_with fail
        refine HK.out _ Vsb1 (fun _ => hSsb1) ?_
        clear HK
        refine bt (f := 24) (i := 6) (v := ?vsb6) rfl (Or.inl ⟨(by rfl), ?hysb6⟩) hSsb1 ?restsb6
        case hysb6 => intro W hW; go_simp; exact rfl
        simp only [zA, zB, zC, Act.put, zD, zE, zF]
        refine bt (f := 24) (i := 7) (v := ?vsb7) rfl (Or.inl ⟨(by rfl), ?hysb7⟩) hSsb1 ?restsb7
        case hysb7 => intro W hW; go_simp; exact rfl
        simp only [zA, zB, zC, Act.put, zD, zE, zF]
        refine bt (f := 24) (i := 8) (v := undef) rfl (Or.inr ⟨((wanted_at rfl rfl rfl rfl).trans rfl), rfl⟩) hSsb1 ?_
        simp only [zA, zB, zC, Act.put, zD, zE, zF]
        refine bt (f := 24) (i := 9) (v := undef) rfl (Or.inr ⟨((wanted_at rfl rfl rfl rfl).trans rfl), rfl⟩) hSsb1 ?_
        simp only [zA, zB, zC, Act.put, zD, zE, zF]
        refine bt (f := 24) (i := 10) (v := undef) rfl (Or.inr ⟨((wanted_at rfl rfl rfl rfl).trans rfl), rfl⟩) hSsb1 ?_
        simp only [zA, zB, zC, Act.put, zD, zE, zF]
        refine bt (f := 24) (i := 11) (v := undef) rfl (Or.inr ⟨(wanted_un rfl rfl rfl rfl), rfl⟩) hSsb1 ?_
        simp only [zA, zB, zC, Act.put, zD, zE, zF]
        refine bt (f := 24) (i := 12) (v := undef) rfl (Or.inr ⟨(wanted_un rfl rfl rfl rfl), rfl⟩) hSsb1 ?_
        simp only [zA, zB, zC, Act.put, zD, zE, zF]
        refine bt (f := 24) (i := 13) (v := undef) rfl (Or.inr ⟨(wanted_un rfl rfl rfl rfl), rfl⟩) hSsb1 ?_
        simp only [zA, zB, zC, Act.put, zD, zE, zF]
        refine bt (f := 24) (i := 14) (v := undef) rfl (Or.inr ⟨(wanted_un rfl rfl rfl rfl), rfl⟩) hSsb1 ?_
        simp only [zA, zB, zC, Act.put, zD, zE, zF]
        refine bt (f := 24) (i := 15) (v := undef) rfl (Or.inr ⟨(wanted_un rfl rfl rfl rfl), rfl⟩) hSsb1 ?_
        simp only [zA, zB, zC, Act.put, zD, zE, zF]
        refine bt (f := 24) (i := 16) (v := undef) rfl (Or.inr ⟨(wanted_un rfl rfl rfl rfl), rfl⟩) hSsb1 ?_
        simp only [zA, zB, zC, Act.put, zD, zE, zF]
        refine bt (f := 24) (i := 17) (v := undef) rfl (Or.inr ⟨(wanted_un rfl rfl rfl rfl), rfl⟩) hSsb1 ?_
        simp only [zA, zB, zC, Act.put, zD, zE, zF]
        refine bt (f := 24) (i := 18) (v := undef) rfl (Or.inr ⟨(wanted_un rfl rfl rfl rfl), rfl⟩) hSsb1 ?_
        simp only [zA, zB, zC, Act.put, zD, zE, zF]
        refine bt (f := 24) (i := 19) (v := undef) rfl (Or.inr ⟨(wanted_un rfl rfl rfl rfl), rfl⟩) hSsb1 ?_
        simp only [zA, zB, zC, Act.put, zD, zE, zF]
        refine bt (f := 24) (i := 20) (v := undef) rfl (Or.inr ⟨(wanted_un rfl rfl rfl rfl), rfl⟩) hSsb1 ?_
        simp only [zA, zB, zC, Act.put, zD, zE, zF]
        refine bt (f := 24) (i := 21) (v := undef) rfl (Or.inr ⟨(wanted_un rfl rfl rfl rfl), rfl⟩) hSsb1 ?_
        simp only [zA, zB, zC, Act.put, zD, zE, zF]
        refine bt (f := 24) (i := 22) (v := undef) rfl (Or.inr ⟨(wanted_un rfl rfl rfl rfl), rfl⟩) hSsb1 ?_
        simp only [zA, zB, zC, Act.put, zD, zE, zF]
        refine bt (f := 24) (i := 23) (v := undef) rfl (Or.inr ⟨((wanted_at rfl rfl rfl rfl).trans rfl), rfl⟩) hSsb1 ?_
        simp only [zA, zB, zC, Act.put, zD, zE, zF]
        refine but_run (i := 24) (by kernel_rfl) rfl (by rfl) ?_
        simp only [zA, zB, zC]
        intro K HK
        go_wp2_with fail
        refine HK.out _ Vsb1 (fun h => absurd rfl h) ?_
        clear HK
        refine but_done (by kernel_rfl) ?_
        go_wp2_with fail
        go_ret
        exact ⟨ret_boolB (by rw [← HR.out]; exact HBAD.out.symm), bstep HW.out (bstep (Below.drew1 _) hSsb1)⟩
      · have HID := Lib.hid hid
        by_cases hk0 : k = 0
        · have z0 : decide (0 < k) = false := decide_eq_false (by omega)
          have HJ2 : Hid (∀ j (h : j + 1 < l.length), j + 1 < k + 1 → (l[j]).a < (l[j + 1]).a) := Lib.hid (fun j h h2 => by omega)
          clear hc hid hk0
          go_upto_region 4 with (fail)
          refine but_begin (f := 24) (S := fun V => Below wr.drew.heap.size wr.drew V) (by kernel_rfl) ?_
          refine bt (f := 24) (i := 0) (v := ?vs00) rfl (Or.inl ⟨(by rfl), ?hys00⟩) (Below.refl _ _) ?rests00
          case hys00 => intro W hW; go_simp; exact rfl
          simp only [zA, zB, zC, Act.put, zD, zE, zF]
          refine bt (f := 24) (i := 1) (v := ?vs01) rfl (Or.inl ⟨(by rfl), ?hys01⟩) (Below.refl _ _) ?rests01
          case hys01 => intro W hW; go_simp; exact rfl
          simp only [zA, zB, zC, Act.put, zD, zE, zF]
          refine bt (f := 24) (i := 2) (v := ?vs02) rfl (Or.inl ⟨(by rfl), ?hys02⟩) (Below.refl _ _) ?rests02
          case hys02 => intro W hW; go_simp; exact rfl
          simp only [zA, zB, zC, Act.put, zD, zE, zF]
          refine bt (f := 24) (i := 3) (v := ?vs03) rfl (Or.inl ⟨(by rfl), ?hys03⟩) (Below.refl _ _) ?rests03
          case hys03 => intro W hW; go_simp; exact rfl
          simp only [zA, zB, zC, Act.put, zD, zE, zF]
          refine bt (f := 24) (i := 4) (v := ?vs04) rfl (Or.inl ⟨(by rfl), ?hys04⟩) (Below.refl _ _) ?rests04
          case hys04 =>
            intro W hW
            have hb0 : Below wr.heap.size wr W := bstep (Below.drew1 _) hW
            obtain ⟨y0, y1⟩ := FK.out.on hbb hb0
            go_simp
            exact rfl
          simp only [zA, zB, zC, Act.put, zD, zE, zF]
          refine but_run (i := 5) (by kernel_rfl) rfl (by rfl) ?_
          simp only [zA, zB, zC]
          intro K HK
          go_wp2_with fail
          refine (inG_any (l[k]).a _).mono ?_
          rintro r Vs01 ⟨rfl, hBs01⟩
          rw [HID.out]
          have hSs01 := bstep (Below.refl _ _) hBs01
          go_wp2_with fail
          refine HK.out _ Vs01 (fun _ => hSs01) ?_
          clear HK
          refine bt (f := 24) (i := 6) (v := ?vs06) rfl (Or.inl ⟨(by rfl), ?hys06⟩) hSs01 ?rests06
          case hys06 => intro W hW; go_simp; exact rfl
          simp only [zA, zB, zC, Act.put, zD, zE, zF]
          refine bt (f := 24) (i := 7) (v := ?vs07) rfl (Or.inl ⟨(by rfl), ?hys07⟩) hSs01 ?rests07
          case hys07 => intro W hW; go_simp; exact rfl
          simp only [zA, zB, zC, Act.put, zD, zE, zF]
          refine bt (f := 24) (i := 8) (v := ?vs08) rfl (Or.inl ⟨((wanted_at rfl rfl rfl rfl).trans rfl), ?hys08⟩) hSs01 ?rests08
          case hys08 => intro W hW; go_simp; exact rfl
          simp only [zA, zB, zC, Act.put, zD, zE, zF]
          refine bt (f := 24) (i := 9) (v := ?vs09) rfl (Or.inl ⟨((wanted_at rfl rfl rfl rfl).trans rfl), ?hys09⟩) hSs01 ?rests09
          case hys09 => intro W hW; go_simp; exact rfl
          simp only [zA, zB, zC, Act.put, zD, zE, zF]
          refine bt (f := 24) (i := 10) (v := ?vs010) rfl (Or.inl ⟨((wanted_at rfl rfl rfl rfl).trans rfl), ?hys010⟩) hSs01 ?rests010
          case hys010 => intro W hW; go_simp; exact rfl
          simp only [zA, zB, zC, Act.put, zD, zE, zF]
          refine bt (f := 24) (i := 11) (v := undef) rfl (Or.inr ⟨((wanted_at rfl rfl rfl rfl).trans rfl), rfl⟩) hSs01 ?_
          simp only [zA, zB, zC, Act.put, zD, zE, zF]
          refine bt (f := 24) (i := 12) (v := undef) rfl (Or.inr ⟨((wanted_at rfl rfl rfl rfl).trans rfl), rfl⟩) hSs01 ?_
          simp only [zA, zB, zC, Act.put, zD, zE, zF]
          refine bt (f := 24) (i := 13) (v := undef) rfl (Or.inr ⟨((wanted_at rfl rfl rfl rfl).trans rfl), rfl⟩) hSs01 ?_
          simp only [zA, zB, zC, Act.put, zD, zE, zF]
          refine bt (f := 24) (i := 14) (v := undef) rfl (Or.inr ⟨((wanted_at rfl rfl rfl rfl).trans rfl), rfl⟩) hSs01 ?_
          simp only [zA, zB, zC, Act.put, zD, zE, zF]
          refine bt (f := 24) (i := 15) (v := undef) rfl (Or.inr ⟨((wanted_at rfl rfl rfl rfl).trans rfl), rfl⟩) hSs01 ?_
          simp only [zA, zB, zC, Act.put, zD, zE, zF]
          refine bt (f := 24) (i := 16) (v := undef) rfl (Or.inr ⟨((wanted_at rfl rfl rfl rfl).trans rfl), rfl⟩) hSs01 ?_
          simp only [zA, zB, zC, Act.put, zD, zE, zF]
          refine bt (f := 24) (i := 17) (v := undef) rfl (Or.inr ⟨((wanted_at rfl rfl rfl rfl).trans rfl), rfl⟩) hSs01 ?_
          simp only [zA, zB, zC, Act.put, zD, zE, zF]
          refine bt (f := 24) (i := 18) (v := undef) rfl (Or.inr ⟨((wanted_at rfl rfl rfl rfl).trans rfl), rfl⟩) hSs01 ?_
          simp only [zA, zB, zC, Act.put, zD, zE, zF]
          refine bt (f := 24) (i := 19) (v := undef) rfl (Or.inr ⟨((wanted_at rfl rfl rfl rfl).trans rfl), rfl⟩) hSs01 ?_
          simp only [zA, zB, zC, Act.put, zD, zE, zF]
          refine bt (f := 24) (i := 20) (v := undef) rfl (Or.inr ⟨((wanted_at rfl rfl rfl rfl).trans rfl), rfl⟩) hSs01 ?_
          simp only [zA, zB, zC, Act.put, zD, zE, zF]
          refine bt (f := 24) (i := 21) (v := undef) rfl (Or.inr ⟨((wanted_at rfl rfl rfl rfl).trans rfl), rfl⟩) hSs01 ?_
          simp only [zA, zB, zC, Act.put, zD, zE, zF]
          refine bt (f := 24) (i := 22) (v := undef) rfl (Or.inr ⟨((wanted_at rfl rfl rfl rfl).trans rfl), rfl⟩) hSs01 ?_
          simp only [zA, zB, zC, Act.put, zD, zE, zF]
          refine bt (f := 24) (i := 23) (v := ?vs023) rfl (Or.inl ⟨((wanted_at rfl rfl rfl rfl).trans rfl), ?hys023⟩) hSs01 ?rests023
          case hys023 => intro W hW; go_simp; exact rfl
          simp only [zA, zB, zC, Act.put, zD, zE, zF]
          refine but_run (i := 24) (by kernel_rfl) rfl (by rfl) ?_
          simp only [zA, zB, zC]
          intro K HK
          go_wp2_with fail
          refine HK.out _ Vs01 (fun h => absurd rfl h) ?_
          clear HK
          refine but_done (by kernel_rfl) ?_
          have BV := Lib.hid (bstep (Below.drew1 _) hSs01)
          go_upto_region 6 with (fail)
          obtain ⟨wv, hwv⟩ : ∃ wv, wv = Vs01 := ⟨_, rfl⟩
          rw [← hwv] at BV ⊢
          clear hwv
          cases q0 : ((l[k]).b != 0)
          · have HF : Hid (fitG l k = true) := Lib.hid (by rw [hfit, HID.out, parGB, show ((l[k]).b == 0) = true by simpa using q0]; rfl)
            refine but_begin (f := 17) (S := fun V => Below wv.drew.heap.size wv.drew V) (by kernel_rfl) ?_
            refine bt (f := 17) (i := 0) (v := ?vt0s00) rfl (Or.inl ⟨(by rfl), ?hyt0s00⟩) (Below.refl _ _) ?restt0s00
            case hyt0s00 => intro W hW; go_simp; exact rfl
            simp only [zA, zB, zC, Act.put, zD, zE, zF]
            refine bt (f := 17) (i := 1) (v := ?vt0s01) rfl (Or.inl ⟨(by rfl), ?hyt0s01⟩) (Below.refl _ _) ?restt0s01
            case hyt0s01 => intro W hW; go_simp; exact rfl
            simp only [zA, zB, zC, Act.put, zD, zE, zF]
            refine bt (f := 17) (i := 2) (v := ?vt0s02) rfl (Or.inl ⟨(by rfl), ?hyt0s02⟩) (Below.refl _ _) ?restt0s02
            case hyt0s02 => intro W hW; go_simp; exact rfl
            simp only [zA, zB, zC, Act.put, zD, zE, zF]
            refine bt (f := 17) (i := 3) (v := ?vt0s03) rfl (Or.inl ⟨(by rfl), ?hyt0s03⟩) (Below.refl _ _) ?restt0s03
            case hyt0s03 => intro W hW; go_simp; exact rfl
            simp only [zA, zB, zC, Act.put, zD, zE, zF]
            refine bt (f := 17) (i := 4) (v := ?vt0s04) rfl (Or.inl ⟨(by rfl), ?hyt0s04⟩) (Below.refl _ _) ?restt0s04
            case hyt0s04 =>
              intro W hW
              have hb0 : Below wv.heap.size wv W := bstep (Below.drew1 _) hW
              obtain ⟨y0, y1⟩ := FK.out.on hbb (bstep BV.out hb0)
              go_simp
              exact rfl
            simp only [zA, zB, zC, Act.put, zD, zE, zF]
            refine bt (f := 17) (i := 5) (v := ?vt0s05) rfl (Or.inl ⟨(by rfl), ?hyt0s05⟩) (Below.refl _ _) ?restt0s05
            case hyt0s05 => intro W hW; go_simp; exact rfl
            simp only [zA, zB, zC, Act.put, zD, zE, zF]
            refine bt (f := 17) (i := 6) (v := ?vt0s06) rfl (Or.inl ⟨(by rfl), ?hyt0s06⟩) (Below.refl _ _) ?restt0s06
            case hyt0s06 => intro W hW; go_simp; exact rfl
            simp only [zA, zB, zC, Act.put, zD, zE, zF]
            refine bt (f := 17) (i := 7) (v := undef) rfl (Or.inr ⟨((wanted_at rfl rfl rfl rfl).trans rfl), rfl⟩) (Below.refl _ _) ?_
            simp only [zA, zB, zC, Act.put, zD, zE, zF]
            refine bt (f := 17) (i := 8) (v := undef) rfl (Or.inr ⟨((wanted_at rfl rfl rfl rfl).trans rfl), rfl⟩) (Below.refl _ _) ?_
            simp only [zA, zB, zC, Act.put, zD, zE, zF]
            refine bt (f := 17) (i := 9) (v := undef) rfl (Or.inr ⟨((wanted_at rfl rfl rfl rfl).trans rfl), rfl⟩) (Below.refl _ _) ?_
            simp only [zA, zB, zC, Act.put, zD, zE, zF]
            refine bt (f := 17) (i := 10) (v := undef) rfl (Or.inr ⟨((wanted_at rfl rfl rfl rfl).trans rfl), rfl⟩) (Below.refl _ _) ?_
            simp only [zA, zB, zC, Act.put, zD, zE, zF]
            refine bt (f := 17) (i := 11) (v := undef) rfl (Or.inr ⟨((wanted_at rfl rfl rfl rfl).trans rfl), rfl⟩) (Below.refl _ _) ?_
            simp only [zA, zB, zC, Act.put, zD, zE, zF]
            refine bt (f := 17) (i := 12) (v := undef) rfl (Or.inr ⟨((wanted_at rfl rfl rfl rfl).trans rfl), rfl⟩) (Below.refl _ _) ?_
            simp only [zA, zB, zC, Act.put, zD, zE, zF]
            refine bt (f := 17) (i := 13) (v := undef) rfl (Or.inr ⟨((wanted_at rfl rfl rfl rfl).trans rfl), rfl⟩) (Below.refl _ _) ?_
            simp only [zA, zB, zC, Act.put, zD, zE, zF]
            refine bt (f := 17) (i := 14) (v := undef) rfl (Or.inr ⟨((wanted_at rfl rfl rfl rfl).trans rfl), rfl⟩) (Below.refl _ _) ?_
            simp only [zA, zB, zC, Act.put, zD, zE, zF]
            refine bt (f := 17) (i := 15) (v := undef) rfl (Or.inr ⟨((wanted_at rfl rfl rfl rfl).trans rfl), rfl⟩) (Below.refl _ _) ?_
            simp only [zA, zB, zC, Act.put, zD, zE, zF]
            refine bt (f := 17) (i := 16) (v := undef) rfl (Or.inr ⟨((wanted_at rfl rfl rfl rfl).trans rfl), rfl⟩) (Below.refl _ _) ?_
            simp only [zA, zB, zC, Act.put, zD, zE, zF]
            refine but_run (i := 17) (by kernel_rfl) rfl (by rfl) ?_
            simp only [zA, zB, zC]
            intro K HK
            go_wp2_with fail
            refine HK.out _ wv.drew (fun h => absurd rfl h) ?_
            clear HK
            refine but_done (by kernel_rfl) ?_
            go_wp2_with fail
            go_roundw
            case rel => exact ⟨k + 1, by omega, by go_num, Lib.hid (fit_step HI.out HF.out), HJ2, Lib.hid (bstep HW.out (bstep BV.out (bstep (Below.drew1 _) (Below.refl _ _))))⟩
            case measure => simp [intOf]; omega
          · have q9 : ((l[k]).b == 0) = false := by simpa using q0
            have hneg := ageAt_neg (l.take k) (l[k]).b
            cases q2 : hasG (l.take k) (l[k]).b
            · have HF : Hid (fitG l k = false) := Lib.hid (by rw [hfit, HID.out, parGB, q9, q2]; rfl)
              rw [q2] at hneg
              have q3 : decide (ageAtK (l.take k) (l[k]).b < 0) = true := hneg
              clear hneg q9 q2
              refine but_begin (f := 17) (S := fun V => Below wv.drew.heap.size wv.drew V) (by kernel_rfl) ?_
              refine bt (f := 17) (i := 0) (v := ?vtxs00) rfl (Or.inl ⟨(by rfl), ?hytxs00⟩) (Below.refl _ _) ?resttxs00
              case hytxs00 => intro W hW; go_simp; exact rfl
              simp only [zA, zB, zC, Act.put, zD, zE, zF]
              refine bt (f := 17) (i := 1) (v := ?vtxs01) rfl (Or.inl ⟨(by rfl), ?hytxs01⟩) (Below.refl _ _) ?resttxs01
              case hytxs01 => intro W hW; go_simp; exact rfl
              simp only [zA, zB, zC, Act.put, zD, zE, zF]
              refine bt (f := 17) (i := 2) (v := ?vtxs02) rfl (Or.inl ⟨(by rfl), ?hytxs02⟩) (Below.refl _ _) ?resttxs02
              case hytxs02 => intro W hW; go_simp; exact rfl
              simp only [zA, zB, zC, Act.put, zD, zE, zF]
              refine bt (f := 17) (i := 3) (v := ?vtxs03) rfl (Or.inl ⟨(by rfl), ?hytxs03⟩) (Below.refl _ _) ?resttxs03
              case hytxs03 => intro W hW; go_simp; exact rfl
              simp only [zA, zB, zC, Act.put, zD, zE, zF]
              refine bt (f := 17) (i := 4) (v := ?vtxs04) rfl (Or.inl ⟨(by rfl), ?hytxs04⟩) (Below.refl _ _) ?resttxs04
              case hytxs04 =>
                intro W hW
                have hb0 : Below wv.heap.size wv W := bstep (Below.drew1 _) hW
                obtain ⟨y0, y1⟩ := FK.out.on hbb (bstep BV.out hb0)
                go_simp
                exact rfl
              simp only [zA, zB, zC, Act.put, zD, zE, zF]
              refine bt (f := 17) (i := 5) (v := ?vtxs05) rfl (Or.inl ⟨(by rfl), ?hytxs05⟩) (Below.refl _ _) ?resttxs05
              case hytxs05 => intro W hW; go_simp; exact rfl
              simp only [zA, zB, zC, Act.put, zD, zE, zF]
              refine bt (f := 17) (i := 6) (v := ?vtxs06) rfl (Or.inl ⟨(by rfl), ?hytxs06⟩) (Below.refl _ _) ?resttxs06
              case hytxs06 => intro W hW; go_simp; exact rfl
              simp only [zA, zB, zC, Act.put, zD, zE, zF]
              refine bt (f := 17) (i := 7) (v := ?vtxs07) rfl (Or.inl ⟨((wanted_at rfl rfl rfl rfl).trans rfl), ?hytxs07⟩) (Below.refl _ _) ?resttxs07
              case hytxs07 => intro W hW; go_simp; exact rfl
              simp only [zA, zB, zC, Act.put, zD, zE, zF]
              refine bt (f := 17) (i := 8) (v := ?vtxs08) rfl (Or.inl ⟨((wanted_at rfl rfl rfl rfl).trans rfl), ?hytxs08⟩) (Below.refl _ _) ?resttxs08
              case hytxs08 => intro W hW; go_simp; exact rfl
              simp only [zA, zB, zC, Act.put, zD, zE, zF]
              refine bt (f := 17) (i := 9) (v := ?vtxs09) rfl (Or.inl ⟨((wanted_at rfl rfl rfl rfl).trans rfl), ?hytxs09⟩) (Below.refl _ _) ?resttxs09
              case hytxs09 => intro W hW; go_simp; exact rfl
              simp only [zA, zB, zC, Act.put, zD, zE, zF]
              refine bt (f := 17) (i := 10) (v := ?vtxs010) rfl (Or.inl ⟨((wanted_at rfl rfl rfl rfl).trans rfl), ?hytxs010⟩) (Below.refl _ _) ?resttxs010
              case hytxs010 => intro W hW; go_simp; exact rfl
              simp only [zA, zB, zC, Act.put, zD, zE, zF]
              refine bt (f := 17) (i := 11) (v := ?vtxs011) rfl (Or.inl ⟨((wanted_at rfl rfl rfl rfl).trans rfl), ?hytxs011⟩) (Below.refl _ _) ?resttxs011
              case hytxs011 => intro W hW; go_simp; exact rfl
              simp only [zA, zB, zC, Act.put, zD, zE, zF]
              refine bt (f := 17) (i := 12) (v := ?vtxs012) rfl (Or.inl ⟨((wanted_at rfl rfl rfl rfl).trans rfl), ?hytxs012⟩) (Below.refl _ _) ?resttxs012
              case hytxs012 => intro W hW; go_simp; exact rfl
              simp only [zA, zB, zC, Act.put, zD, zE, zF]
              refine bt (f := 17) (i := 13) (v := ?vtxs013) rfl (Or.inl ⟨((wanted_at rfl rfl rfl rfl).trans rfl), ?hytxs013⟩) (Below.refl _ _) ?resttxs013
              case hytxs013 => intro W hW; go_simp; exact rfl
              simp only [zA, zB, zC, Act.put, zD, zE, zF]
              refine bt (f := 17) (i := 14) (v := ?vtxs014) rfl (Or.inl ⟨((wanted_at rfl rfl rfl rfl).trans rfl), ?hytxs014⟩) (Below.refl _ _) ?resttxs014
              case hytxs014 =>
                intro W hW
                have hb0 : Below wv.heap.size wv W := bstep (Below.drew1 _) hW
                obtain ⟨y0, y1⟩ := FK.out.on hbb (bstep BV.out hb0)
                go_simp
                exact rfl
              simp only [zA, zB, zC, Act.put, zD, zE, zF]
              refine but_run (i := 15) (by kernel_rfl) rfl ((wanted_at rfl rfl rfl rfl).trans rfl) ?_
              simp only [zA, zB, zC]
              intro K HK
              go_wp2_with fail
              refine (specAgeAtB _ (l.take k) (l[k]).b _ (HTK.out.on (bstep BV.out (bstep (Below.drew1 _) (Below.refl _ _)))) (by simp; omega)).mono ?_
              rintro r Vtxs01 ⟨rfl, hBtxs01⟩
              have hStxs01 := bstep (Below.refl _ _) hBtxs01
              go_wp2_with fail
              refine HK.out _ Vtxs01 (fun _ => hStxs01) ?_
              clear HK
              refine bt (f := 17) (i := 16) (v := ?vtxs016) rfl (Or.inl ⟨((wanted_at rfl rfl rfl rfl).trans rfl), ?hytxs016⟩) hStxs01 ?resttxs016
              case hytxs016 => intro W hW; go_simp; exact rfl
              simp only [zA, zB, zC, Act.put, zD, zE, zF]
              refine but_run (i := 17) (by kernel_rfl) rfl (by rfl) ?_
              simp only [zA, zB, zC]
              intro K HK
              go_wp2_with fail
              refine HK.out _ Vtxs01 (fun h => absurd rfl h) ?_
              clear HK
              refine but_done (by kernel_rfl) ?_
              go_wp2_with fail
              go_ret
              exact ⟨ret_boolB (by rw [← HR.out]; exact (fit_miss hlt HF.out).symm), bstep HW.out (bstep BV.out (bstep (Below.drew1 _) hStxs01))⟩
            · have HF : Hid (fitG l k = true) := Lib.hid (by rw [hfit, HID.out, parGB, q9, q2]; rfl)
              rw [q2] at hneg
              have q3 : decide (ageAtK (l.take k) (l[k]).b < 0) = false := hneg
              clear hneg q9 q2
              refine but_begin (f := 17) (S := fun V => Below wv.drew.heap.size wv.drew V) (by kernel_rfl) ?_
              refine bt (f := 17) (i := 0) (v := ?vtys00) rfl (Or.inl ⟨(by rfl), ?hytys00⟩) (Below.refl _ _) ?resttys00
              case hytys00 => intro W hW; go_simp; exact rfl
              simp only [zA, zB, zC, Act.put, zD, zE, zF]
              refine bt (f := 17) (i := 1) (v := ?vtys01) rfl (Or.inl ⟨(by rfl), ?hytys01⟩) (Below.refl _ _) ?resttys01
              case hytys01 => intro W hW; go_simp; exact rfl
              simp only [zA, zB, zC, Act.put, zD, zE, zF]
              refine bt (f := 17) (i := 2) (v := ?vtys02) rfl (Or.inl ⟨(by rfl), ?hytys02⟩) (Below.refl _ _) ?resttys02
              case hytys02 => intro W hW; go_simp; exact rfl
              simp only [zA, zB, zC, Act.put, zD, zE, zF]
              refine bt (f := 17) (i := 3) (v := ?vtys03) rfl (Or.inl ⟨(by rfl), ?hytys03⟩) (Below.refl _ _) ?resttys03
              case hytys03 => intro W hW; go_simp; exact rfl
              simp only [zA, zB, zC, Act.put, zD, zE, zF]
              refine bt (f := 17) (i := 4) (v := ?vtys04) rfl (Or.inl ⟨(by rfl), ?hytys04⟩) (Below.refl _ _) ?resttys04
              case hytys04 =>
                intro W hW
                have hb0 : Below wv.heap.size wv W := bstep (Below.drew1 _) hW
                obtain ⟨y0, y1⟩ := FK.out.on hbb (bstep BV.out hb0)
                go_simp
                exact rfl
              simp only [zA, zB, zC, Act.put, zD, zE, zF]
              refine bt (f := 17) (i := 5) (v := ?vtys05) rfl (Or.inl ⟨(by rfl), ?hytys05⟩) (Below.refl _ _) ?resttys05
              case hytys05 => intro W hW; go_simp; exact rfl
              simp only [zA, zB, zC, Act.put, zD, zE, zF]
              refine bt (f := 17) (i := 6) (v := ?vtys06) rfl (Or.inl ⟨(by rfl), ?hytys06⟩) (Below.refl _ _) ?resttys06
              case hytys06 => intro W hW; go_simp; exact rfl
              simp only [zA, zB, zC, Act.put, zD, zE, zF]
              refine bt (f := 17) (i := 7) (v := ?vtys07) rfl (Or.inl ⟨((wanted_at rfl rfl rfl rfl).trans rfl), ?hytys07⟩) (Below.refl _ _) ?resttys07
              case hytys07 => intro W hW; go_simp; exact rfl
              simp only [zA, zB, zC, Act.put, zD, zE, zF]
              refine bt (f := 17) (i := 8) (v := ?vtys08) rfl (Or.inl ⟨((wanted_at rfl rfl rfl rfl).trans rfl), ?hytys08⟩) (Below.refl _ _) ?resttys08
              case hytys08 => intro W hW; go_simp; exact rfl
              simp only [zA, zB, zC, Act.put, zD, zE, zF]
              refine bt (f := 17) (i := 9) (v := ?vtys09) rfl (Or.inl ⟨((wanted_at rfl rfl rfl rfl).trans rfl), ?hytys09⟩) (Below.refl _ _) ?resttys09
              case hytys09 => intro W hW; go_simp; exact rfl
              simp only [zA, zB, zC, Act.put, zD, zE, zF]
              refine bt (f := 17) (i := 10) (v := ?vtys010) rfl (Or.inl ⟨((wanted_at rfl rfl rfl rfl).trans rfl), ?hytys010⟩) (Below.refl _ _) ?resttys010
              case hytys010 => intro W hW; go_simp; exact rfl
              simp only [zA, zB, zC, Act.put, zD, zE, zF]
              refine bt (f := 17) (i := 11) (v := ?vtys011) rfl (Or.inl ⟨((wanted_at rfl rfl rfl rfl).trans rfl), ?hytys011⟩) (Below.refl _ _) ?resttys011
              case hytys011 => intro W hW; go_simp; exact rfl
              simp only [zA, zB, zC, Act.put, zD, zE, zF]
              refine bt (f := 17) (i := 12) (v := ?vtys012) rfl (Or.inl ⟨((wanted_at rfl rfl rfl rfl).trans rfl), ?hytys012⟩) (Below.refl _ _) ?resttys012
              case hytys012 => intro W hW; go_simp; exact rfl
              simp only [zA, zB, zC, Act.put, zD, zE, zF]
              refine bt (f := 17) (i := 13) (v := ?vtys013) rfl (Or.inl ⟨((wanted_at rfl rfl rfl rfl).trans rfl), ?hytys013⟩) (Below.refl _ _) ?resttys013
              case hytys013 => intro W hW; go_simp; exact rfl
              simp only [zA, zB, zC, Act.put, zD, zE, zF]
              refine bt (f := 17) (i := 14) (v := ?vtys014) rfl (Or.inl ⟨((wanted_at rfl rfl rfl rfl).trans rfl), ?hytys014⟩) (Below.refl _ _) ?resttys014
              case hytys014 =>
                intro W hW
                have hb0 : Below wv.heap.size wv W := bstep (Below.drew1 _) hW
                obtain ⟨y0, y1⟩ := FK.out.on hbb (bstep BV.out hb0)
                go_simp
                exact rfl
              simp only [zA, zB, zC, Act.put, zD, zE, zF]
              refine but_run (i := 15) (by kernel_rfl) rfl ((wanted_at rfl rfl rfl rfl).trans rfl) ?_
              simp only [zA, zB, zC]
              intro K HK
              go_wp2_with fail
              refine (specAgeAtB _ (l.take k) (l[k]).b _ (HTK.out.on (bstep BV.out (bstep (Below.drew1 _) (Below.refl _ _)))) (by simp; omega)).mono ?_
              rintro r Vtys01 ⟨rfl, hBtys01⟩
              have hStys01 := bstep (Below.refl _ _) hBtys01
              go_wp2_with fail
              refine HK.out _ Vtys01 (fun _ => hStys01) ?_
              clear HK
              refine bt (f := 17) (i := 16) (v := ?vtys016) rfl (Or.inl ⟨((wanted_at rfl rfl rfl rfl).trans rfl), ?hytys016⟩) hStys01 ?resttys016
              case hytys016 => intro W hW; go_simp; exact rfl
              simp only [zA, zB, zC, Act.put, zD, zE, zF]
              refine but_run (i := 17) (by kernel_rfl) rfl (by rfl) ?_
              simp only [zA, zB, zC]
              intro K HK
              go_wp2_with fail
              refine HK.out _ Vtys01 (fun h => absurd rfl h) ?_
              clear HK
              refine but_done (by kernel_rfl) ?_
              go_wp2_with fail
              go_roundw
              case rel => exact ⟨k + 1, by omega, by go_num, Lib.hid (fit_step HI.out HF.out), HJ2, Lib.hid (bstep HW.out (bstep BV.out (bstep (Below.drew1 _) hStys01)))⟩
              case measure => simp [intOf]; omega
        · have z0 : decide (0 < k) = true := decide_eq_true (by omega)
          obtain ⟨j, hj⟩ : ∃ j, j + 1 = k := ⟨k - 1, by omega⟩
          have hjl : j < l.length := by omega
          have j1 : (j : Int) < (l.length : Int) := by omega
          have j2 : (0 : Int) ≤ (j : Int) := by omega
          have j3 : IntKind.i64.wrap ((k : Int) - 1) = (j : Int) := by rw [IntKind.wrap_i64]; omega
          have j4 : IntKind.i64.wrap (j : Int) = (j : Int) := by rw [IntKind.wrap_i64]; omega
          have FJ := Lib.hid (hc j hjl)
          by_cases p : (l[k]).a ≤ (l[j]).a
          · have z1 : decide ((l[k]).a ≤ (l[j]).a) = true := decide_eq_true p
            have HBAD : Hid (agesOkB l = false) := Lib.hid (rise_miss (j := j) (by omega) (by subst hj; omega))
            clear hc hfit hid hk0 hj p
            go_upto_region 4 with (fail)
            refine but_begin (f := 24) (S := fun V => Below wr.drew.heap.size wr.drew V) (by kernel_rfl) ?_
            refine bt (f := 24) (i := 0) (v := ?vsx0) rfl (Or.inl ⟨(by rfl), ?hysx0⟩) (Below.refl _ _) ?restsx0
            case hysx0 => intro W hW; go_simp; exact rfl
            simp only [zA, zB, zC, Act.put, zD, zE, zF]
            refine bt (f := 24) (i := 1) (v := ?vsx1) rfl (Or.inl ⟨(by rfl), ?hysx1⟩) (Below.refl _ _) ?restsx1
            case hysx1 => intro W hW; go_simp; exact rfl
            simp only [zA, zB, zC, Act.put, zD, zE, zF]
            refine bt (f := 24) (i := 2) (v := ?vsx2) rfl (Or.inl ⟨(by rfl), ?hysx2⟩) (Below.refl _ _) ?restsx2
            case hysx2 => intro W hW; go_simp; exact rfl
            simp only [zA, zB, zC, Act.put, zD, zE, zF]
            refine bt (f := 24) (i := 3) (v := ?vsx3) rfl (Or.inl ⟨(by rfl), ?hysx3⟩) (Below.refl _ _) ?restsx3
            case hysx3 => intro W hW; go_simp; exact rfl
            simp only [zA, zB, zC, Act.put, zD, zE, zF]
            refine bt (f := 24) (i := 4) (v := ?vsx4) rfl (Or.inl ⟨(by rfl), ?hysx4⟩) (Below.refl _ _) ?restsx4
            case hysx4 =>
              intro W hW
              have hb0 : Below wr.heap.size wr W := bstep (Below.drew1 _) hW
              obtain ⟨y0, y1⟩ := FK.out.on hbb hb0
              obtain ⟨z0, z1⟩ := FJ.out.on hbb hb0
              go_simp
              exact rfl
            simp only [zA, zB, zC, Act.put, zD, zE, zF]
            refine but_run (i := 5) (by kernel_rfl) rfl (by rfl) ?_
            simp only [zA, zB, zC]
            intro K HK
            go_wp2_with fail
            refine (inG_any (l[k]).a _).mono ?_
            rintro r Vsx1 ⟨rfl, hBsx1⟩
            rw [HID.out]
            have hSsx1 := bstep (Below.refl _ _) hBsx1
            go_wp2_with fail
            refine HK.out _ Vsx1 (fun _ => hSsx1) ?_
            clear HK
            refine bt (f := 24) (i := 6) (v := ?vsx6) rfl (Or.inl ⟨(by rfl), ?hysx6⟩) hSsx1 ?restsx6
            case hysx6 => intro W hW; go_simp; exact rfl
            simp only [zA, zB, zC, Act.put, zD, zE, zF]
            refine bt (f := 24) (i := 7) (v := ?vsx7) rfl (Or.inl ⟨(by rfl), ?hysx7⟩) hSsx1 ?restsx7
            case hysx7 => intro W hW; go_simp; exact rfl
            simp only [zA, zB, zC, Act.put, zD, zE, zF]
            refine bt (f := 24) (i := 8) (v := ?vsx8) rfl (Or.inl ⟨((wanted_at rfl rfl rfl rfl).trans rfl), ?hysx8⟩) hSsx1 ?restsx8
            case hysx8 => intro W hW; go_simp; exact rfl
            simp only [zA, zB, zC, Act.put, zD, zE, zF]
            refine bt (f := 24) (i := 9) (v := ?vsx9) rfl (Or.inl ⟨((wanted_at rfl rfl rfl rfl).trans rfl), ?hysx9⟩) hSsx1 ?restsx9
            case hysx9 => intro W hW; go_simp; exact rfl
            simp only [zA, zB, zC, Act.put, zD, zE, zF]
            refine bt (f := 24) (i := 10) (v := ?vsx10) rfl (Or.inl ⟨((wanted_at rfl rfl rfl rfl).trans rfl), ?hysx10⟩) hSsx1 ?restsx10
            case hysx10 => intro W hW; go_simp; exact rfl
            simp only [zA, zB, zC, Act.put, zD, zE, zF]
            refine bt (f := 24) (i := 11) (v := ?vsx11) rfl (Or.inl ⟨((wanted_at rfl rfl rfl rfl).trans rfl), ?hysx11⟩) hSsx1 ?restsx11
            case hysx11 => intro W hW; go_simp; exact rfl
            simp only [zA, zB, zC, Act.put, zD, zE, zF]
            refine bt (f := 24) (i := 12) (v := ?vsx12) rfl (Or.inl ⟨((wanted_at rfl rfl rfl rfl).trans rfl), ?hysx12⟩) hSsx1 ?restsx12
            case hysx12 => intro W hW; go_simp; exact rfl
            simp only [zA, zB, zC, Act.put, zD, zE, zF]
            refine bt (f := 24) (i := 13) (v := ?vsx13) rfl (Or.inl ⟨((wanted_at rfl rfl rfl rfl).trans rfl), ?hysx13⟩) hSsx1 ?restsx13
            case hysx13 => intro W hW; go_simp; exact rfl
            simp only [zA, zB, zC, Act.put, zD, zE, zF]
            refine bt (f := 24) (i := 14) (v := ?vsx14) rfl (Or.inl ⟨((wanted_at rfl rfl rfl rfl).trans rfl), ?hysx14⟩) hSsx1 ?restsx14
            case hysx14 => intro W hW; go_simp; exact rfl
            simp only [zA, zB, zC, Act.put, zD, zE, zF]
            refine bt (f := 24) (i := 15) (v := ?vsx15) rfl (Or.inl ⟨((wanted_at rfl rfl rfl rfl).trans rfl), ?hysx15⟩) hSsx1 ?restsx15
            case hysx15 => intro W hW; go_simp; exact rfl
            simp only [zA, zB, zC, Act.put, zD, zE, zF]
            refine bt (f := 24) (i := 16) (v := ?vsx16) rfl (Or.inl ⟨((wanted_at rfl rfl rfl rfl).trans rfl), ?hysx16⟩) hSsx1 ?restsx16
            case hysx16 =>
              intro W hW
              have hb0 : Below wr.heap.size wr W := bstep (Below.drew1 _) hW
              obtain ⟨y0, y1⟩ := FK.out.on hbb hb0
              obtain ⟨z0, z1⟩ := FJ.out.on hbb hb0
              go_simp
              exact rfl
            simp only [zA, zB, zC, Act.put, zD, zE, zF]
            refine bt (f := 24) (i := 17) (v := ?vsx17) rfl (Or.inl ⟨((wanted_at rfl rfl rfl rfl).trans rfl), ?hysx17⟩) hSsx1 ?restsx17
            case hysx17 => intro W hW; go_simp; exact rfl
            simp only [zA, zB, zC, Act.put, zD, zE, zF]
            refine bt (f := 24) (i := 18) (v := ?vsx18) rfl (Or.inl ⟨((wanted_at rfl rfl rfl rfl).trans rfl), ?hysx18⟩) hSsx1 ?restsx18
            case hysx18 => intro W hW; go_simp; exact rfl
            simp only [zA, zB, zC, Act.put, zD, zE, zF]
            refine bt (f := 24) (i := 19) (v := ?vsx19) rfl (Or.inl ⟨((wanted_at rfl rfl rfl rfl).trans rfl), ?hysx19⟩) hSsx1 ?restsx19
            case hysx19 => intro W hW; go_simp; exact rfl
            simp only [zA, zB, zC, Act.put, zD, zE, zF]
            refine bt (f := 24) (i := 20) (v := ?vsx20) rfl (Or.inl ⟨((wanted_at rfl rfl rfl rfl).trans rfl), ?hysx20⟩) hSsx1 ?restsx20
            case hysx20 => intro W hW; go_simp; exact rfl
            simp only [zA, zB, zC, Act.put, zD, zE, zF]
            refine bt (f := 24) (i := 21) (v := ?vsx21) rfl (Or.inl ⟨((wanted_at rfl rfl rfl rfl).trans rfl), ?hysx21⟩) hSsx1 ?restsx21
            case hysx21 =>
              intro W hW
              have hb0 : Below wr.heap.size wr W := bstep (Below.drew1 _) hW
              obtain ⟨y0, y1⟩ := FK.out.on hbb hb0
              obtain ⟨z0, z1⟩ := FJ.out.on hbb hb0
              go_simp
              exact rfl
            simp only [zA, zB, zC, Act.put, zD, zE, zF]
            refine bt (f := 24) (i := 22) (v := ?vsx22) rfl (Or.inl ⟨((wanted_at rfl rfl rfl rfl).trans rfl), ?hysx22⟩) hSsx1 ?restsx22
            case hysx22 => intro W hW; go_simp; exact rfl
            simp only [zA, zB, zC, Act.put, zD, zE, zF]
            refine bt (f := 24) (i := 23) (v := ?vsx23) rfl (Or.inl ⟨((wanted_at rfl rfl rfl rfl).trans rfl), ?hysx23⟩) hSsx1 ?restsx23
            case hysx23 => intro W hW; go_simp; exact rfl
            simp only [zA, zB, zC, Act.put, zD, zE, zF]
            refine but_run (i := 24) (by kernel_rfl) rfl (by rfl) ?_
            simp only [zA, zB, zC]
            intro K HK
            go_wp2_with fail
            refine HK.out _ Vsx1 (fun h => absurd rfl h) ?_
            clear HK
            refine but_done (by kernel_rfl) ?_
            go_wp2_with fail
            go_ret
            exact ⟨ret_boolB (by rw [← HR.out]; exact HBAD.out.symm), bstep HW.out (bstep (Below.drew1 _) hSsx1)⟩
          · have z1 : decide ((l[k]).a ≤ (l[j]).a) = false := decide_eq_false p
            have HJ2 : Hid (∀ j (h : j + 1 < l.length), j + 1 < k + 1 → (l[j]).a < (l[j + 1]).a) := Lib.hid (fun i h h2 => by
              by_cases h3 : i + 1 < k
              · exact HJ.out i h h3
              · have e1 : i = j := by omega
                subst e1
                subst hj
                omega)
            clear hc hid hk0 hj p
            go_upto_region 4 with (fail)
            refine but_begin (f := 24) (S := fun V => Below wr.drew.heap.size wr.drew V) (by kernel_rfl) ?_
            refine bt (f := 24) (i := 0) (v := ?vsy0) rfl (Or.inl ⟨(by rfl), ?hysy0⟩) (Below.refl _ _) ?restsy0
            case hysy0 => intro W hW; go_simp; exact rfl
            simp only [zA, zB, zC, Act.put, zD, zE, zF]
            refine bt (f := 24) (i := 1) (v := ?vsy1) rfl (Or.inl ⟨(by rfl), ?hysy1⟩) (Below.refl _ _) ?restsy1
            case hysy1 => intro W hW; go_simp; exact rfl
            simp only [zA, zB, zC, Act.put, zD, zE, zF]
            refine bt (f := 24) (i := 2) (v := ?vsy2) rfl (Or.inl ⟨(by rfl), ?hysy2⟩) (Below.refl _ _) ?restsy2
            case hysy2 => intro W hW; go_simp; exact rfl
            simp only [zA, zB, zC, Act.put, zD, zE, zF]
            refine bt (f := 24) (i := 3) (v := ?vsy3) rfl (Or.inl ⟨(by rfl), ?hysy3⟩) (Below.refl _ _) ?restsy3
            case hysy3 => intro W hW; go_simp; exact rfl
            simp only [zA, zB, zC, Act.put, zD, zE, zF]
            refine bt (f := 24) (i := 4) (v := ?vsy4) rfl (Or.inl ⟨(by rfl), ?hysy4⟩) (Below.refl _ _) ?restsy4
            case hysy4 =>
              intro W hW
              have hb0 : Below wr.heap.size wr W := bstep (Below.drew1 _) hW
              obtain ⟨y0, y1⟩ := FK.out.on hbb hb0
              obtain ⟨z0, z1⟩ := FJ.out.on hbb hb0
              go_simp
              exact rfl
            simp only [zA, zB, zC, Act.put, zD, zE, zF]
            refine but_run (i := 5) (by kernel_rfl) rfl (by rfl) ?_
            simp only [zA, zB, zC]
            intro K HK
            go_wp2_with fail
            refine (inG_any (l[k]).a _).mono ?_
            rintro r Vsy1 ⟨rfl, hBsy1⟩
            rw [HID.out]
            have hSsy1 := bstep (Below.refl _ _) hBsy1
            go_wp2_with fail
            refine HK.out _ Vsy1 (fun _ => hSsy1) ?_
            clear HK
            refine bt (f := 24) (i := 6) (v := ?vsy6) rfl (Or.inl ⟨(by rfl), ?hysy6⟩) hSsy1 ?restsy6
            case hysy6 => intro W hW; go_simp; exact rfl
            simp only [zA, zB, zC, Act.put, zD, zE, zF]
            refine bt (f := 24) (i := 7) (v := ?vsy7) rfl (Or.inl ⟨(by rfl), ?hysy7⟩) hSsy1 ?restsy7
            case hysy7 => intro W hW; go_simp; exact rfl
            simp only [zA, zB, zC, Act.put, zD, zE, zF]
            refine bt (f := 24) (i := 8) (v := ?vsy8) rfl (Or.inl ⟨((wanted_at rfl rfl rfl rfl).trans rfl), ?hysy8⟩) hSsy1 ?restsy8
            case hysy8 => intro W hW; go_simp; exact rfl
            simp only [zA, zB, zC, Act.put, zD, zE, zF]
            refine bt (f := 24) (i := 9) (v := ?vsy9) rfl (Or.inl ⟨((wanted_at rfl rfl rfl rfl).trans rfl), ?hysy9⟩) hSsy1 ?restsy9
            case hysy9 => intro W hW; go_simp; exact rfl
            simp only [zA, zB, zC, Act.put, zD, zE, zF]
            refine bt (f := 24) (i := 10) (v := ?vsy10) rfl (Or.inl ⟨((wanted_at rfl rfl rfl rfl).trans rfl), ?hysy10⟩) hSsy1 ?restsy10
            case hysy10 => intro W hW; go_simp; exact rfl
            simp only [zA, zB, zC, Act.put, zD, zE, zF]
            refine bt (f := 24) (i := 11) (v := ?vsy11) rfl (Or.inl ⟨((wanted_at rfl rfl rfl rfl).trans rfl), ?hysy11⟩) hSsy1 ?restsy11
            case hysy11 => intro W hW; go_simp; exact rfl
            simp only [zA, zB, zC, Act.put, zD, zE, zF]
            refine bt (f := 24) (i := 12) (v := ?vsy12) rfl (Or.inl ⟨((wanted_at rfl rfl rfl rfl).trans rfl), ?hysy12⟩) hSsy1 ?restsy12
            case hysy12 => intro W hW; go_simp; exact rfl
            simp only [zA, zB, zC, Act.put, zD, zE, zF]
            refine bt (f := 24) (i := 13) (v := ?vsy13) rfl (Or.inl ⟨((wanted_at rfl rfl rfl rfl).trans rfl), ?hysy13⟩) hSsy1 ?restsy13
            case hysy13 => intro W hW; go_simp; exact rfl
            simp only [zA, zB, zC, Act.put, zD, zE, zF]
            refine bt (f := 24) (i := 14) (v := ?vsy14) rfl (Or.inl ⟨((wanted_at rfl rfl rfl rfl).trans rfl), ?hysy14⟩) hSsy1 ?restsy14
            case hysy14 => intro W hW; go_simp; exact rfl
            simp only [zA, zB, zC, Act.put, zD, zE, zF]
            refine bt (f := 24) (i := 15) (v := ?vsy15) rfl (Or.inl ⟨((wanted_at rfl rfl rfl rfl).trans rfl), ?hysy15⟩) hSsy1 ?restsy15
            case hysy15 => intro W hW; go_simp; exact rfl
            simp only [zA, zB, zC, Act.put, zD, zE, zF]
            refine bt (f := 24) (i := 16) (v := ?vsy16) rfl (Or.inl ⟨((wanted_at rfl rfl rfl rfl).trans rfl), ?hysy16⟩) hSsy1 ?restsy16
            case hysy16 =>
              intro W hW
              have hb0 : Below wr.heap.size wr W := bstep (Below.drew1 _) hW
              obtain ⟨y0, y1⟩ := FK.out.on hbb hb0
              obtain ⟨z0, z1⟩ := FJ.out.on hbb hb0
              go_simp
              exact rfl
            simp only [zA, zB, zC, Act.put, zD, zE, zF]
            refine bt (f := 24) (i := 17) (v := ?vsy17) rfl (Or.inl ⟨((wanted_at rfl rfl rfl rfl).trans rfl), ?hysy17⟩) hSsy1 ?restsy17
            case hysy17 => intro W hW; go_simp; exact rfl
            simp only [zA, zB, zC, Act.put, zD, zE, zF]
            refine bt (f := 24) (i := 18) (v := ?vsy18) rfl (Or.inl ⟨((wanted_at rfl rfl rfl rfl).trans rfl), ?hysy18⟩) hSsy1 ?restsy18
            case hysy18 => intro W hW; go_simp; exact rfl
            simp only [zA, zB, zC, Act.put, zD, zE, zF]
            refine bt (f := 24) (i := 19) (v := ?vsy19) rfl (Or.inl ⟨((wanted_at rfl rfl rfl rfl).trans rfl), ?hysy19⟩) hSsy1 ?restsy19
            case hysy19 => intro W hW; go_simp; exact rfl
            simp only [zA, zB, zC, Act.put, zD, zE, zF]
            refine bt (f := 24) (i := 20) (v := ?vsy20) rfl (Or.inl ⟨((wanted_at rfl rfl rfl rfl).trans rfl), ?hysy20⟩) hSsy1 ?restsy20
            case hysy20 => intro W hW; go_simp; exact rfl
            simp only [zA, zB, zC, Act.put, zD, zE, zF]
            refine bt (f := 24) (i := 21) (v := ?vsy21) rfl (Or.inl ⟨((wanted_at rfl rfl rfl rfl).trans rfl), ?hysy21⟩) hSsy1 ?restsy21
            case hysy21 =>
              intro W hW
              have hb0 : Below wr.heap.size wr W := bstep (Below.drew1 _) hW
              obtain ⟨y0, y1⟩ := FK.out.on hbb hb0
              obtain ⟨z0, z1⟩ := FJ.out.on hbb hb0
              go_simp
              exact rfl
            simp only [zA, zB, zC, Act.put, zD, zE, zF]
            refine bt (f := 24) (i := 22) (v := ?vsy22) rfl (Or.inl ⟨((wanted_at rfl rfl rfl rfl).trans rfl), ?hysy22⟩) hSsy1 ?restsy22
            case hysy22 => intro W hW; go_simp; exact rfl
            simp only [zA, zB, zC, Act.put, zD, zE, zF]
            refine bt (f := 24) (i := 23) (v := ?vsy23) rfl (Or.inl ⟨((wanted_at rfl rfl rfl rfl).trans rfl), ?hysy23⟩) hSsy1 ?restsy23
            case hysy23 => intro W hW; go_simp; exact rfl
            simp only [zA, zB, zC, Act.put, zD, zE, zF]
            refine but_run (i := 24) (by kernel_rfl) rfl (by rfl) ?_
            simp only [zA, zB, zC]
            intro K HK
            go_wp2_with fail
            refine HK.out _ Vsy1 (fun h => absurd rfl h) ?_
            clear HK
            refine but_done (by kernel_rfl) ?_
            have BV := Lib.hid (bstep (Below.drew1 _) hSsy1)
            go_upto_region 6 with (fail)
            obtain ⟨wv, hwv⟩ : ∃ wv, wv = Vsy1 := ⟨_, rfl⟩
            rw [← hwv] at BV ⊢
            clear hwv
            cases q0 : ((l[k]).b != 0)
            · have HF : Hid (fitG l k = true) := Lib.hid (by rw [hfit, HID.out, parGB, show ((l[k]).b == 0) = true by simpa using q0]; rfl)
              refine but_begin (f := 17) (S := fun V => Below wv.drew.heap.size wv.drew V) (by kernel_rfl) ?_
              refine bt (f := 17) (i := 0) (v := ?vt0sy0) rfl (Or.inl ⟨(by rfl), ?hyt0sy0⟩) (Below.refl _ _) ?restt0sy0
              case hyt0sy0 => intro W hW; go_simp; exact rfl
              simp only [zA, zB, zC, Act.put, zD, zE, zF]
              refine bt (f := 17) (i := 1) (v := ?vt0sy1) rfl (Or.inl ⟨(by rfl), ?hyt0sy1⟩) (Below.refl _ _) ?restt0sy1
              case hyt0sy1 => intro W hW; go_simp; exact rfl
              simp only [zA, zB, zC, Act.put, zD, zE, zF]
              refine bt (f := 17) (i := 2) (v := ?vt0sy2) rfl (Or.inl ⟨(by rfl), ?hyt0sy2⟩) (Below.refl _ _) ?restt0sy2
              case hyt0sy2 => intro W hW; go_simp; exact rfl
              simp only [zA, zB, zC, Act.put, zD, zE, zF]
              refine bt (f := 17) (i := 3) (v := ?vt0sy3) rfl (Or.inl ⟨(by rfl), ?hyt0sy3⟩) (Below.refl _ _) ?restt0sy3
              case hyt0sy3 => intro W hW; go_simp; exact rfl
              simp only [zA, zB, zC, Act.put, zD, zE, zF]
              refine bt (f := 17) (i := 4) (v := ?vt0sy4) rfl (Or.inl ⟨(by rfl), ?hyt0sy4⟩) (Below.refl _ _) ?restt0sy4
              case hyt0sy4 =>
                intro W hW
                have hb0 : Below wv.heap.size wv W := bstep (Below.drew1 _) hW
                obtain ⟨y0, y1⟩ := FK.out.on hbb (bstep BV.out hb0)
                go_simp
                exact rfl
              simp only [zA, zB, zC, Act.put, zD, zE, zF]
              refine bt (f := 17) (i := 5) (v := ?vt0sy5) rfl (Or.inl ⟨(by rfl), ?hyt0sy5⟩) (Below.refl _ _) ?restt0sy5
              case hyt0sy5 => intro W hW; go_simp; exact rfl
              simp only [zA, zB, zC, Act.put, zD, zE, zF]
              refine bt (f := 17) (i := 6) (v := ?vt0sy6) rfl (Or.inl ⟨(by rfl), ?hyt0sy6⟩) (Below.refl _ _) ?restt0sy6
              case hyt0sy6 => intro W hW; go_simp; exact rfl
              simp only [zA, zB, zC, Act.put, zD, zE, zF]
              refine bt (f := 17) (i := 7) (v := undef) rfl (Or.inr ⟨((wanted_at rfl rfl rfl rfl).trans rfl), rfl⟩) (Below.refl _ _) ?_
              simp only [zA, zB, zC, Act.put, zD, zE, zF]
              refine bt (f := 17) (i := 8) (v := undef) rfl (Or.inr ⟨((wanted_at rfl rfl rfl rfl).trans rfl), rfl⟩) (Below.refl _ _) ?_
              simp only [zA, zB, zC, Act.put, zD, zE, zF]
              refine bt (f := 17) (i := 9) (v := undef) rfl (Or.inr ⟨((wanted_at rfl rfl rfl rfl).trans rfl), rfl⟩) (Below.refl _ _) ?_
              simp only [zA, zB, zC, Act.put, zD, zE, zF]
              refine bt (f := 17) (i := 10) (v := undef) rfl (Or.inr ⟨((wanted_at rfl rfl rfl rfl).trans rfl), rfl⟩) (Below.refl _ _) ?_
              simp only [zA, zB, zC, Act.put, zD, zE, zF]
              refine bt (f := 17) (i := 11) (v := undef) rfl (Or.inr ⟨((wanted_at rfl rfl rfl rfl).trans rfl), rfl⟩) (Below.refl _ _) ?_
              simp only [zA, zB, zC, Act.put, zD, zE, zF]
              refine bt (f := 17) (i := 12) (v := undef) rfl (Or.inr ⟨((wanted_at rfl rfl rfl rfl).trans rfl), rfl⟩) (Below.refl _ _) ?_
              simp only [zA, zB, zC, Act.put, zD, zE, zF]
              refine bt (f := 17) (i := 13) (v := undef) rfl (Or.inr ⟨((wanted_at rfl rfl rfl rfl).trans rfl), rfl⟩) (Below.refl _ _) ?_
              simp only [zA, zB, zC, Act.put, zD, zE, zF]
              refine bt (f := 17) (i := 14) (v := undef) rfl (Or.inr ⟨((wanted_at rfl rfl rfl rfl).trans rfl), rfl⟩) (Below.refl _ _) ?_
              simp only [zA, zB, zC, Act.put, zD, zE, zF]
              refine bt (f := 17) (i := 15) (v := undef) rfl (Or.inr ⟨((wanted_at rfl rfl rfl rfl).trans rfl), rfl⟩) (Below.refl _ _) ?_
              simp only [zA, zB, zC, Act.put, zD, zE, zF]
              refine bt (f := 17) (i := 16) (v := undef) rfl (Or.inr ⟨((wanted_at rfl rfl rfl rfl).trans rfl), rfl⟩) (Below.refl _ _) ?_
              simp only [zA, zB, zC, Act.put, zD, zE, zF]
              refine but_run (i := 17) (by kernel_rfl) rfl (by rfl) ?_
              simp only [zA, zB, zC]
              intro K HK
              go_wp2_with fail
              refine HK.out _ wv.drew (fun h => absurd rfl h) ?_
              clear HK
              refine but_done (by kernel_rfl) ?_
              go_wp2_with fail
              go_roundw
              case rel => exact ⟨k + 1, by omega, by go_num, Lib.hid (fit_step HI.out HF.out), HJ2, Lib.hid (bstep HW.out (bstep BV.out (bstep (Below.drew1 _) (Below.refl _ _))))⟩
              case measure => simp [intOf]; omega
            · have q9 : ((l[k]).b == 0) = false := by simpa using q0
              have hneg := ageAt_neg (l.take k) (l[k]).b
              cases q2 : hasG (l.take k) (l[k]).b
              · have HF : Hid (fitG l k = false) := Lib.hid (by rw [hfit, HID.out, parGB, q9, q2]; rfl)
                rw [q2] at hneg
                have q3 : decide (ageAtK (l.take k) (l[k]).b < 0) = true := hneg
                clear hneg q9 q2
                refine but_begin (f := 17) (S := fun V => Below wv.drew.heap.size wv.drew V) (by kernel_rfl) ?_
                refine bt (f := 17) (i := 0) (v := ?vtxsy0) rfl (Or.inl ⟨(by rfl), ?hytxsy0⟩) (Below.refl _ _) ?resttxsy0
                case hytxsy0 => intro W hW; go_simp; exact rfl
                simp only [zA, zB, zC, Act.put, zD, zE, zF]
                refine bt (f := 17) (i := 1) (v := ?vtxsy1) rfl (Or.inl ⟨(by rfl), ?hytxsy1⟩) (Below.refl _ _) ?resttxsy1
                case hytxsy1 => intro W hW; go_simp; exact rfl
                simp only [zA, zB, zC, Act.put, zD, zE, zF]
                refine bt (f := 17) (i := 2) (v := ?vtxsy2) rfl (Or.inl ⟨(by rfl), ?hytxsy2⟩) (Below.refl _ _) ?resttxsy2
                case hytxsy2 => intro W hW; go_simp; exact rfl
                simp only [zA, zB, zC, Act.put, zD, zE, zF]
                refine bt (f := 17) (i := 3) (v := ?vtxsy3) rfl (Or.inl ⟨(by rfl), ?hytxsy3⟩) (Below.refl _ _) ?resttxsy3
                case hytxsy3 => intro W hW; go_simp; exact rfl
                simp only [zA, zB, zC, Act.put, zD, zE, zF]
                refine bt (f := 17) (i := 4) (v := ?vtxsy4) rfl (Or.inl ⟨(by rfl), ?hytxsy4⟩) (Below.refl _ _) ?resttxsy4
                case hytxsy4 =>
                  intro W hW
                  have hb0 : Below wv.heap.size wv W := bstep (Below.drew1 _) hW
                  obtain ⟨y0, y1⟩ := FK.out.on hbb (bstep BV.out hb0)
                  go_simp
                  exact rfl
                simp only [zA, zB, zC, Act.put, zD, zE, zF]
                refine bt (f := 17) (i := 5) (v := ?vtxsy5) rfl (Or.inl ⟨(by rfl), ?hytxsy5⟩) (Below.refl _ _) ?resttxsy5
                case hytxsy5 => intro W hW; go_simp; exact rfl
                simp only [zA, zB, zC, Act.put, zD, zE, zF]
                refine bt (f := 17) (i := 6) (v := ?vtxsy6) rfl (Or.inl ⟨(by rfl), ?hytxsy6⟩) (Below.refl _ _) ?resttxsy6
                case hytxsy6 => intro W hW; go_simp; exact rfl
                simp only [zA, zB, zC, Act.put, zD, zE, zF]
                refine bt (f := 17) (i := 7) (v := ?vtxsy7) rfl (Or.inl ⟨((wanted_at rfl rfl rfl rfl).trans rfl), ?hytxsy7⟩) (Below.refl _ _) ?resttxsy7
                case hytxsy7 => intro W hW; go_simp; exact rfl
                simp only [zA, zB, zC, Act.put, zD, zE, zF]
                refine bt (f := 17) (i := 8) (v := ?vtxsy8) rfl (Or.inl ⟨((wanted_at rfl rfl rfl rfl).trans rfl), ?hytxsy8⟩) (Below.refl _ _) ?resttxsy8
                case hytxsy8 => intro W hW; go_simp; exact rfl
                simp only [zA, zB, zC, Act.put, zD, zE, zF]
                refine bt (f := 17) (i := 9) (v := ?vtxsy9) rfl (Or.inl ⟨((wanted_at rfl rfl rfl rfl).trans rfl), ?hytxsy9⟩) (Below.refl _ _) ?resttxsy9
                case hytxsy9 => intro W hW; go_simp; exact rfl
                simp only [zA, zB, zC, Act.put, zD, zE, zF]
                refine bt (f := 17) (i := 10) (v := ?vtxsy10) rfl (Or.inl ⟨((wanted_at rfl rfl rfl rfl).trans rfl), ?hytxsy10⟩) (Below.refl _ _) ?resttxsy10
                case hytxsy10 => intro W hW; go_simp; exact rfl
                simp only [zA, zB, zC, Act.put, zD, zE, zF]
                refine bt (f := 17) (i := 11) (v := ?vtxsy11) rfl (Or.inl ⟨((wanted_at rfl rfl rfl rfl).trans rfl), ?hytxsy11⟩) (Below.refl _ _) ?resttxsy11
                case hytxsy11 => intro W hW; go_simp; exact rfl
                simp only [zA, zB, zC, Act.put, zD, zE, zF]
                refine bt (f := 17) (i := 12) (v := ?vtxsy12) rfl (Or.inl ⟨((wanted_at rfl rfl rfl rfl).trans rfl), ?hytxsy12⟩) (Below.refl _ _) ?resttxsy12
                case hytxsy12 => intro W hW; go_simp; exact rfl
                simp only [zA, zB, zC, Act.put, zD, zE, zF]
                refine bt (f := 17) (i := 13) (v := ?vtxsy13) rfl (Or.inl ⟨((wanted_at rfl rfl rfl rfl).trans rfl), ?hytxsy13⟩) (Below.refl _ _) ?resttxsy13
                case hytxsy13 => intro W hW; go_simp; exact rfl
                simp only [zA, zB, zC, Act.put, zD, zE, zF]
                refine bt (f := 17) (i := 14) (v := ?vtxsy14) rfl (Or.inl ⟨((wanted_at rfl rfl rfl rfl).trans rfl), ?hytxsy14⟩) (Below.refl _ _) ?resttxsy14
                case hytxsy14 =>
                  intro W hW
                  have hb0 : Below wv.heap.size wv W := bstep (Below.drew1 _) hW
                  obtain ⟨y0, y1⟩ := FK.out.on hbb (bstep BV.out hb0)
                  go_simp
                  exact rfl
                simp only [zA, zB, zC, Act.put, zD, zE, zF]
                refine but_run (i := 15) (by kernel_rfl) rfl ((wanted_at rfl rfl rfl rfl).trans rfl) ?_
                simp only [zA, zB, zC]
                intro K HK
                go_wp2_with fail
                refine (specAgeAtB _ (l.take k) (l[k]).b _ (HTK.out.on (bstep BV.out (bstep (Below.drew1 _) (Below.refl _ _)))) (by simp; omega)).mono ?_
                rintro r Vtxsy1 ⟨rfl, hBtxsy1⟩
                have hStxsy1 := bstep (Below.refl _ _) hBtxsy1
                go_wp2_with fail
                refine HK.out _ Vtxsy1 (fun _ => hStxsy1) ?_
                clear HK
                refine bt (f := 17) (i := 16) (v := ?vtxsy16) rfl (Or.inl ⟨((wanted_at rfl rfl rfl rfl).trans rfl), ?hytxsy16⟩) hStxsy1 ?resttxsy16
                case hytxsy16 => intro W hW; go_simp; exact rfl
                simp only [zA, zB, zC, Act.put, zD, zE, zF]
                refine but_run (i := 17) (by kernel_rfl) rfl (by rfl) ?_
                simp only [zA, zB, zC]
                intro K HK
                go_wp2_with fail
                refine HK.out _ Vtxsy1 (fun h => absurd rfl h) ?_
                clear HK
                refine but_done (by kernel_rfl) ?_
                go_wp2_with fail
                go_ret
                exact ⟨ret_boolB (by rw [← HR.out]; exact (fit_miss hlt HF.out).symm), bstep HW.out (bstep BV.out (bstep (Below.drew1 _) hStxsy1))⟩
              · have HF : Hid (fitG l k = true) := Lib.hid (by rw [hfit, HID.out, parGB, q9, q2]; rfl)
                rw [q2] at hneg
                have q3 : decide (ageAtK (l.take k) (l[k]).b < 0) = false := hneg
                clear hneg q9 q2
                refine but_begin (f := 17) (S := fun V => Below wv.drew.heap.size wv.drew V) (by kernel_rfl) ?_
                refine bt (f := 17) (i := 0) (v := ?vtysy0) rfl (Or.inl ⟨(by rfl), ?hytysy0⟩) (Below.refl _ _) ?resttysy0
                case hytysy0 => intro W hW; go_simp; exact rfl
                simp only [zA, zB, zC, Act.put, zD, zE, zF]
                refine bt (f := 17) (i := 1) (v := ?vtysy1) rfl (Or.inl ⟨(by rfl), ?hytysy1⟩) (Below.refl _ _) ?resttysy1
                case hytysy1 => intro W hW; go_simp; exact rfl
                simp only [zA, zB, zC, Act.put, zD, zE, zF]
                refine bt (f := 17) (i := 2) (v := ?vtysy2) rfl (Or.inl ⟨(by rfl), ?hytysy2⟩) (Below.refl _ _) ?resttysy2
                case hytysy2 => intro W hW; go_simp; exact rfl
                simp only [zA, zB, zC, Act.put, zD, zE, zF]
                refine bt (f := 17) (i := 3) (v := ?vtysy3) rfl (Or.inl ⟨(by rfl), ?hytysy3⟩) (Below.refl _ _) ?resttysy3
                case hytysy3 => intro W hW; go_simp; exact rfl
                simp only [zA, zB, zC, Act.put, zD, zE, zF]
                refine bt (f := 17) (i := 4) (v := ?vtysy4) rfl (Or.inl ⟨(by rfl), ?hytysy4⟩) (Below.refl _ _) ?resttysy4
                case hytysy4 =>
                  intro W hW
                  have hb0 : Below wv.heap.size wv W := bstep (Below.drew1 _) hW
                  obtain ⟨y0, y1⟩ := FK.out.on hbb (bstep BV.out hb0)
                  go_simp
                  exact rfl
                simp only [zA, zB, zC, Act.put, zD, zE, zF]
                refine bt (f := 17) (i := 5) (v := ?vtysy5) rfl (Or.inl ⟨(by rfl), ?hytysy5⟩) (Below.refl _ _) ?resttysy5
                case hytysy5 => intro W hW; go_simp; exact rfl
                simp only [zA, zB, zC, Act.put, zD, zE, zF]
                refine bt (f := 17) (i := 6) (v := ?vtysy6) rfl (Or.inl ⟨(by rfl), ?hytysy6⟩) (Below.refl _ _) ?resttysy6
                case hytysy6 => intro W hW; go_simp; exact rfl
                simp only [zA, zB, zC, Act.put, zD, zE, zF]
                refine bt (f := 17) (i := 7) (v := ?vtysy7) rfl (Or.inl ⟨((wanted_at rfl rfl rfl rfl).trans rfl), ?hytysy7⟩) (Below.refl _ _) ?resttysy7
                case hytysy7 => intro W hW; go_simp; exact rfl
                simp only [zA, zB, zC, Act.put, zD, zE, zF]
                refine bt (f := 17) (i := 8) (v := ?vtysy8) rfl (Or.inl ⟨((wanted_at rfl rfl rfl rfl).trans rfl), ?hytysy8⟩) (Below.refl _ _) ?resttysy8
                case hytysy8 => intro W hW; go_simp; exact rfl
                simp only [zA, zB, zC, Act.put, zD, zE, zF]
                refine bt (f := 17) (i := 9) (v := ?vtysy9) rfl (Or.inl ⟨((wanted_at rfl rfl rfl rfl).trans rfl), ?hytysy9⟩) (Below.refl _ _) ?resttysy9
                case hytysy9 => intro W hW; go_simp; exact rfl
                simp only [zA, zB, zC, Act.put, zD, zE, zF]
                refine bt (f := 17) (i := 10) (v := ?vtysy10) rfl (Or.inl ⟨((wanted_at rfl rfl rfl rfl).trans rfl), ?hytysy10⟩) (Below.refl _ _) ?resttysy10
                case hytysy10 => intro W hW; go_simp; exact rfl
                simp only [zA, zB, zC, Act.put, zD, zE, zF]
                refine bt (f := 17) (i := 11) (v := ?vtysy11) rfl (Or.inl ⟨((wanted_at rfl rfl rfl rfl).trans rfl), ?hytysy11⟩) (Below.refl _ _) ?resttysy11
                case hytysy11 => intro W hW; go_simp; exact rfl
                simp only [zA, zB, zC, Act.put, zD, zE, zF]
                refine bt (f := 17) (i := 12) (v := ?vtysy12) rfl (Or.inl ⟨((wanted_at rfl rfl rfl rfl).trans rfl), ?hytysy12⟩) (Below.refl _ _) ?resttysy12
                case hytysy12 => intro W hW; go_simp; exact rfl
                simp only [zA, zB, zC, Act.put, zD, zE, zF]
                refine bt (f := 17) (i := 13) (v := ?vtysy13) rfl (Or.inl ⟨((wanted_at rfl rfl rfl rfl).trans rfl), ?hytysy13⟩) (Below.refl _ _) ?resttysy13
                case hytysy13 => intro W hW; go_simp; exact rfl
                simp only [zA, zB, zC, Act.put, zD, zE, zF]
                refine bt (f := 17) (i := 14) (v := ?vtysy14) rfl (Or.inl ⟨((wanted_at rfl rfl rfl rfl).trans rfl), ?hytysy14⟩) (Below.refl _ _) ?resttysy14
                case hytysy14 =>
                  intro W hW
                  have hb0 : Below wv.heap.size wv W := bstep (Below.drew1 _) hW
                  obtain ⟨y0, y1⟩ := FK.out.on hbb (bstep BV.out hb0)
                  go_simp
                  exact rfl
                simp only [zA, zB, zC, Act.put, zD, zE, zF]
                refine but_run (i := 15) (by kernel_rfl) rfl ((wanted_at rfl rfl rfl rfl).trans rfl) ?_
                simp only [zA, zB, zC]
                intro K HK
                go_wp2_with fail
                refine (specAgeAtB _ (l.take k) (l[k]).b _ (HTK.out.on (bstep BV.out (bstep (Below.drew1 _) (Below.refl _ _)))) (by simp; omega)).mono ?_
                rintro r Vtysy1 ⟨rfl, hBtysy1⟩
                have hStysy1 := bstep (Below.refl _ _) hBtysy1
                go_wp2_with fail
                refine HK.out _ Vtysy1 (fun _ => hStysy1) ?_
                clear HK
                refine bt (f := 17) (i := 16) (v := ?vtysy16) rfl (Or.inl ⟨((wanted_at rfl rfl rfl rfl).trans rfl), ?hytysy16⟩) hStysy1 ?resttysy16
                case hytysy16 => intro W hW; go_simp; exact rfl
                simp only [zA, zB, zC, Act.put, zD, zE, zF]
                refine but_run (i := 17) (by kernel_rfl) rfl (by rfl) ?_
                simp only [zA, zB, zC]
                intro K HK
                go_wp2_with fail
                refine HK.out _ Vtysy1 (fun h => absurd rfl h) ?_
                clear HK
                refine but_done (by kernel_rfl) ?_
                go_wp2_with fail
                go_roundw
                case rel => exact ⟨k + 1, by omega, by go_num, Lib.hid (fit_step HI.out HF.out), HJ2, Lib.hid (bstep HW.out (bstep BV.out (bstep (Below.drew1 _) hStysy1)))⟩
                case measure => simp [intOf]; omega
    · have hall : decide (∀ i, i < l.length → fitG l i = true) = true := decide_eq_true (fun i hi => HI.out i (by omega))
      have hrise : riseG l = true := decide_eq_true (fun i hi => HJ.out i (by omega) (by omega))
      have hX : agesOkB l = decide (l.length ≤ 16) := by rw [agesOkB, hall, hrise]; simp
      have HX := Lib.hid hX
      clear hall hrise hX
      by_cases h16 : l.length ≤ 16
      · have d0 : decide ((l.length : Int) ≤ 16) = true := decide_eq_true (by omega)
        go_wp2
        go_ret
        exact ⟨ret_boolB (by rw [← HR.out, HX.out, decide_eq_true h16]), HW.out⟩
      · have d0 : decide ((l.length : Int) ≤ 16) = false := decide_eq_false (by omega)
        go_wp2
        go_ret
        exact ⟨ret_boolB (by rw [← HR.out, HX.out, decide_eq_false h16]), HW.out⟩
end Go.Proofs.YtlhemcjahcmdeaaGreatDoor
namespace Go.Proofs.YtlhemcjahcmdeaaGreatDoor
open Go.RowKit
set_option maxRecDepth 100000
set_option linter.unusedSimpArgs false
set_option linter.unusedVariables false

set_option maxHeartbeats 4000000 in
theorem specPoolOk_any {t : TypeId} (vl vn va vc vv : Value) (d : PoolD) (w : World) (h : RdP t w w.heap.size vl vn va vc vv d) (hs : SmallP d) (hnm : ∀ k ∈ d.vo, k.a.size ≤ maxLen) : Calls Tryz.prog 130 #[.agg #[vl, vn, va, vc, vv, .int .i64 d.nx]] w (SaysBool w (poolOkB d)) := by
  have h1 := hs.1
  have h2 := hs.2.1
  have h3 := hs.2.2.1
  have HT := Lib.hid (fun W b => specTreeOk_any vl vn d.lo d.ts W (h.1.on b) (by omega) (by omega) (by omega))
  have HA := Lib.hid (fun W b => specAgesOk_any va d.ag W (h.2.1.on b) (by omega))
  have HC := Lib.hid (fun W b => specCellsOk_any vc d.ce W ((h.2.2.1.on b).retype _) (by omega))
  have HV := Lib.hid (fun W b => specL10Vols_any vl vn va vc vv d W (h.on b) hs hnm)
  have HE := Lib.hid (fun W b => specL10Keys_any vl vn va vc vv d W (h.on b) hs)
  have HG := Lib.hid h.2.1
  have hag : d.ag.length ≤ 2097152 := by omega
  obtain ⟨A0, c0, A1, c1, A2, c2, A3, c3, A4, c4, rfl, rfl, rfl, rfl, rfl⟩ := h.shape
  have HB := Lib.hid (bal1 w (.cells #[.slice A0 d.lo.length c0, .slice A1 d.ts.length c1, .slice A2 d.ag.length c2, .slice A3 d.ce.length c3, .slice A4 d.vo.length c4, .int .i64 d.nx] 32))
  have Q0 := Lib.hid (al1 w (.cells #[.slice A0 d.lo.length c0, .slice A1 d.ts.length c1, .slice A2 d.ag.length c2, .slice A3 d.ce.length c3, .slice A4 d.vo.length c4, .int .i64 d.nx] 32))
  obtain ⟨R, hR⟩ : ∃ R, poolOkB d = R := ⟨_, rfl⟩
  rw [hR]
  obtain ⟨tb, htb⟩ : ∃ b, treeOkB d.lo d.ts = b := ⟨_, rfl⟩
  obtain ⟨ab, hab⟩ : ∃ b, agesOkB d.ag = b := ⟨_, rfl⟩
  obtain ⟨cb, hcb⟩ : ∃ b, celsOkB d.ce = b := ⟨_, rfl⟩
  obtain ⟨nb, hnb⟩ : ∃ b, (decide (1 ≤ d.nx) && decide (d.nx ≤ 61)) = b := ⟨_, rfl⟩
  obtain ⟨gb, hgb⟩ : ∃ b, d.ag.all (fun a => decide (a.a < d.nx)) = b := ⟨_, rfl⟩
  obtain ⟨vb, hvb⟩ : ∃ b, volsB d = b := ⟨_, rfl⟩
  obtain ⟨kb, hkb⟩ : ∃ b, (agesB d && cellsB d) = b := ⟨_, rfl⟩
  have HI1 : Hid (∀ W, Calls Tryz.prog 63 #[.int .i64 d.nx, .int .i64 1, .int .i64 61] W (SaysB W nb)) := Lib.hid (fun W => by have h := l1InC_any d.nx 1 61 W; rw [hnb] at h; exact h)
  unfold poolOkB nextB at hR
  rw [Bool.and_assoc (treeOkB d.lo d.ts && agesOkB d.ag && celsOkB d.ce && (decide (1 ≤ d.nx) && decide (d.nx ≤ 61) && d.ag.all (fun a => decide (a.a < d.nx))) && volsB d), htb, hab, hcb, hnb, hgb, hvb, hkb] at hR
  rw [htb] at HT
  rw [hab] at HA
  rw [hcb] at HC
  rw [hvb] at HV
  rw [hkb] at HE
  have HX := Lib.hid hR.symm
  have HGB := Lib.hid hgb
  clear h hs hR hnm h1 h2 h3 htb hab hcb hnb hvb hkb hgb
  go_enter Tryz.func130, Tryz.ntmps130
  go_upto_region 1 with (fail)
  generalize w.alloc (.cells #[.slice A0 d.lo.length c0, .slice A1 d.ts.length c1, .slice A2 d.ag.length c2, .slice A3 d.ce.length c3, .slice A4 d.vo.length c4, .int .i64 d.nx] 32) = W at *
  go_wp2
  go_loopw [3] (fun i wr => ∃ k : Nat, k ≤ d.ag.length ∧ i = .int .i64 k ∧ Hid (∀ j (hj : j < k) (hl : j < d.ag.length), (fun k : AgeD => decide (k.a < d.nx)) d.ag[j] = true) ∧ Hid (Below w.heap.size w wr) ∧ Hid (wr.heap[w.heap.size]? = some (.cells #[.slice A0 d.lo.length c0, .slice A1 d.ts.length c1, .slice A2 d.ag.length c2, .slice A3 d.ce.length c3, .slice A4 d.vo.length c4, .int .i64 d.nx] 32))) (fun i _ => d.ag.length - (intOf i).toNat)
  case atStart => exact ⟨0, Nat.zero_le _, rfl, Lib.hid (fun j hj => by omega), HB, Q0⟩
  case round =>
    clear HB Q0
    obtain ⟨k, hk, rfl, HI, HB, Q0⟩ := hrel
    by_cases hlt : k < d.ag.length
    · obtain ⟨b, off, rfl, hbb, hc⟩ := (HG.out.on HB.out).ages hlt
      have i1 : (k : Int) < (d.ag.length : Int) := by omega
      have i2 : (0 : Int) ≤ (k : Int) := by omega
      obtain ⟨y0, y1⟩ := hc k hlt
      clear hc
      obtain ⟨x0, x1, x2, x3, x4, x5, x6⟩ := boxP Q0.out
      by_cases hv : (d.ag[k]).a < d.nx
      · have e1 : decide ((d.ag[k]).a ≥ d.nx) = false := decide_eq_false (by omega)
        have HS := Lib.hid (allP_snoc (p := fun k : AgeD => decide (k.a < d.nx)) hlt HI.out (decide_eq_true hv))
        clear hv
        go_wp2
        go_quiet (fail)
        go_wp2
        go_roundw
        case rel => exact ⟨k + 1, by omega, by go_num, HS, Lib.hid (bdrew HB.out _), Lib.hid (box_on Q0.out (drewB _ _))⟩
        case measure => simp [intOf]; omega
      · have e1 : decide ((d.ag[k]).a ≥ d.nx) = true := decide_eq_true (by omega)
        have HF : Hid (R = false) := Lib.hid (by rw [HX.out, ← HGB.out, allP_miss (p := fun k : AgeD => decide (k.a < d.nx)) hlt (decide_eq_false hv)]; simp only [Bool.false_and, Bool.and_false, Bool.true_and, Bool.and_true])
        clear hv
        go_wp2
        go_quiet (fail)
        go_wp2
        go_ret
        exact ⟨by rw [HF.out]; rfl, bdrew HB.out _⟩
    · have hall : gb = true := by rw [← HGB.out]; exact allP_done (p := fun k : AgeD => decide (k.a < d.nx)) (fun j hl => HI.out j (by omega) hl)
      subst hall
      obtain ⟨x0, x1, x2, x3, x4, x5, x6⟩ := boxP Q0.out
      go_wp2_with fail
      refine (HT.out _ HB.out).mono ?_
      rintro e w5 ⟨rfl, b1⟩
      clear x0 x1 x2 x3 x4 x5 x6
      replace Q0 := Lib.hid (box_on Q0.out b1)
      replace HB := Lib.hid (bstep HB.out b1)
      clear b1
      cases tb
      · have HF : Hid (R = false) := Lib.hid (by rw [HX.out]; simp only [Bool.false_and, Bool.and_false, Bool.true_and, Bool.and_true])
        go_wp2
        go_ret
        exact ⟨by rw [HF.out]; rfl, HB.out⟩
      · skip
        obtain ⟨x0, x1, x2, x3, x4, x5, x6⟩ := boxP Q0.out
        go_wp2_with fail
        refine (HA.out _ HB.out).mono ?_
        rintro e w6 ⟨rfl, b1⟩
        clear x0 x1 x2 x3 x4 x5 x6
        replace Q0 := Lib.hid (box_on Q0.out b1)
        replace HB := Lib.hid (bstep HB.out b1)
        clear b1
        cases ab
        · have HF : Hid (R = false) := Lib.hid (by rw [HX.out]; simp only [Bool.false_and, Bool.and_false, Bool.true_and, Bool.and_true])
          go_wp2
          go_ret
          exact ⟨by rw [HF.out]; rfl, HB.out⟩
        · skip
          obtain ⟨x0, x1, x2, x3, x4, x5, x6⟩ := boxP Q0.out
          go_wp2_with fail
          refine (HC.out _ HB.out).mono ?_
          rintro e _ ⟨rfl, rfl⟩
          clear x0 x1 x2 x3 x4 x5 x6
          cases cb
          · have HF : Hid (R = false) := Lib.hid (by rw [HX.out]; simp only [Bool.false_and, Bool.and_false, Bool.true_and, Bool.and_true])
            go_wp2
            go_ret
            exact ⟨by rw [HF.out]; rfl, HB.out⟩
          · skip
            obtain ⟨x0, x1, x2, x3, x4, x5, x6⟩ := boxP Q0.out
            go_wp2_with fail
            refine (HI1.out _).mono ?_
            rintro e _ ⟨rfl, rfl⟩
            clear x0 x1 x2 x3 x4 x5 x6
            cases nb
            · have HF : Hid (R = false) := Lib.hid (by rw [HX.out]; simp only [Bool.false_and, Bool.and_false, Bool.true_and, Bool.and_true])
              go_wp2
              go_ret
              exact ⟨by rw [HF.out]; rfl, HB.out⟩
            · skip
              obtain ⟨x0, x1, x2, x3, x4, x5, x6⟩ := boxP Q0.out
              go_wp2_with fail
              refine (HV.out _ HB.out).mono ?_
              rintro e w9 ⟨rfl, b1⟩
              clear x0 x1 x2 x3 x4 x5 x6
              replace Q0 := Lib.hid (box_on Q0.out b1)
              replace HB := Lib.hid (bstep HB.out b1)
              clear b1
              cases vb
              · have HF : Hid (R = false) := Lib.hid (by rw [HX.out]; simp only [Bool.false_and, Bool.and_false, Bool.true_and, Bool.and_true])
                go_wp2
                go_ret
                exact ⟨by rw [HF.out]; rfl, HB.out⟩
              · skip
                obtain ⟨x0, x1, x2, x3, x4, x5, x6⟩ := boxP Q0.out
                go_wp2_with fail
                refine (HE.out _ HB.out).mono ?_
                rintro e w10 ⟨rfl, b1⟩
                clear x0 x1 x2 x3 x4 x5 x6
                replace Q0 := Lib.hid (box_on Q0.out b1)
                replace HB := Lib.hid (bstep HB.out b1)
                clear b1
                cases kb
                · have HF : Hid (R = false) := Lib.hid (by rw [HX.out]; simp only [Bool.false_and, Bool.and_false, Bool.true_and, Bool.and_true])
                  go_wp2
                  go_ret
                  exact ⟨by rw [HF.out]; rfl, HB.out⟩
                · have HF : Hid (R = true) := Lib.hid (by rw [HX.out]; simp only [Bool.false_and, Bool.and_false, Bool.true_and, Bool.and_true])
                  go_wp2
                  go_ret
                  exact ⟨by rw [HF.out]; rfl, HB.out⟩
end Go.Proofs.YtlhemcjahcmdeaaGreatDoor
namespace Go.Proofs.YtlhemcjahcmdeaaGreatDoor
open Go.RowKit
set_option maxRecDepth 100000
set_option linter.unusedSimpArgs false
set_option linter.unusedVariables false

theorem PoolC.ages {t : TypeId} {w w1 : World} {S : Nat → Prop} {vl vn va vc vv va' : Value} {d : PoolD} {ag : List AgeD} (h : PoolC t w S vl vn va vc vv d) (b : Below w.heap.size w w1) (o : Owns w1 (fun k => w.heap.size ≤ k) va' (agesD ag)) : PoolC t w1 (fun k => S k ∨ w.heap.size ≤ k) vl vn va' vc vv { d with ag := ag } := by
  obtain ⟨P, Q, R, T, p1, p2, p3, p4, p5, p6, p7, h1, h2, h3, h4⟩ := (h.lt).on b
  exact ⟨P, fun k => w.heap.size ≤ k, R, T, fun k hk => .inl (p1 k hk).1, fun k hk => .inr hk, fun k hk => .inl (p3 k hk).1, fun k hk => .inl (p4 k hk).1, fun k hk => ⟨fun h => by have := (p1 k hk).2; omega, (p5 k hk).2.1, (p5 k hk).2.2⟩, fun k hk => ⟨fun h => by have := (p3 k h).2; omega, fun h => by have := (p4 k h).2; omega⟩, p7, h1, o, h3, h4⟩
theorem PoolC.vols {t : TypeId} {w w1 : World} {S : Nat → Prop} {vl vn va vc vv vv' : Value} {d : PoolD} {vo : List VolD} (h : PoolC t w S vl vn va vc vv d) (b : Below w.heap.size w w1) (o : Owns w1 (fun k => w.heap.size ≤ k) vv' (volsD vo)) : PoolC t w1 (fun k => S k ∨ w.heap.size ≤ k) vl vn va vc vv' { d with vo := vo } := by
  obtain ⟨P, Q, R, T, p1, p2, p3, p4, p5, p6, p7, h1, h2, h3, h4⟩ := (h.lt).on b
  exact ⟨P, Q, R, fun k => w.heap.size ≤ k, fun k hk => .inl (p1 k hk).1, fun k hk => .inl (p2 k hk).1, fun k hk => .inl (p3 k hk).1, fun k hk => .inr hk, fun k hk => ⟨(p5 k hk).1, (p5 k hk).2.1, fun h => by have := (p1 k hk).2; omega⟩, fun k hk => ⟨(p6 k hk).1, fun h => by have := (p2 k hk).2; omega⟩, fun k hk h => by have := (p3 k hk).2; omega, h1, h2, h3, o⟩
theorem PoolC.cels {t t' : TypeId} {w w1 : World} {S : Nat → Prop} {vl vn va vc vv vc' : Value} {d : PoolD} {ce : List CelD} (h : PoolC t w S vl vn va vc vv d) (b : Below w.heap.size w w1) (o : Owns w1 (fun k => w.heap.size ≤ k) vc' (celsT t' ce)) : PoolC t' w1 (fun k => S k ∨ w.heap.size ≤ k) vl vn va vc' vv { d with ce := ce } := by
  obtain ⟨P, Q, R, T, p1, p2, p3, p4, p5, p6, p7, h1, h2, h3, h4⟩ := (h.lt).on b
  exact ⟨P, Q, fun k => w.heap.size ≤ k, T, fun k hk => .inl (p1 k hk).1, fun k hk => .inl (p2 k hk).1, fun k hk => .inr hk, fun k hk => .inl (p4 k hk).1, fun k hk => ⟨(p5 k hk).1, fun h => by have := (p1 k hk).2; omega, (p5 k hk).2.2⟩, fun k hk => ⟨fun h => by have := (p2 k hk).2; omega, (p6 k hk).2⟩, fun k hk h => by have := (p4 k h).2; omega, h1, h2, o, h4⟩
theorem PoolC.tree {t : TypeId} {w w1 : World} {S : Nat → Prop} {vl vn va vc vv vl' vn' : Value} {d : PoolD} {lo : List Int} {ts : List NodeD} (h : PoolC t w S vl vn va vc vv d) (b : Below w.heap.size w w1) (o : TreeC w1 (fun k => w.heap.size ≤ k) vl' vn' lo ts) : PoolC t w1 (fun k => S k ∨ w.heap.size ≤ k) vl' vn' va vc vv { d with lo := lo, ts := ts } := by
  obtain ⟨P, Q, R, T, p1, p2, p3, p4, p5, p6, p7, h1, h2, h3, h4⟩ := (h.lt).on b
  exact ⟨fun k => w.heap.size ≤ k, Q, R, T, fun k hk => .inr hk, fun k hk => .inl (p2 k hk).1, fun k hk => .inl (p3 k hk).1, fun k hk => .inl (p4 k hk).1, fun k hk => ⟨fun h => by have := (p2 k h).2; omega, fun h => by have := (p3 k h).2; omega, fun h => by have := (p4 k h).2; omega⟩, p6, p7, o, h2, h3, h4⟩
theorem PoolC.next {t : TypeId} {w : World} {S : Nat → Prop} {vl vn va vc vv : Value} {d : PoolD} (h : PoolC t w S vl vn va vc vv d) (n : Int) : PoolC t w S vl vn va vc vv { d with nx := n } := h
/-- The error that bears a code; nil where it is 0. -/
def errV (c : Int) : Value := if c = 0 then .nilIface else .iface 137 (.agg #[.int .i64 c])
end Go.Proofs.YtlhemcjahcmdeaaGreatDoor
namespace Go.Proofs.YtlhemcjahcmdeaaGreatDoor
open Go.RowKit
set_option maxRecDepth 100000
set_option linter.unusedSimpArgs false
set_option linter.unusedVariables false

/-- What the region of spec.l5Copy reads: two boxes and an element. -/
def NC1 (p1 b1 : Nat) (o1 : Nat) (v1 e1 : Value) (p3 : Nat) (v3 : Value) (W : World) : Prop := W.cell? ⟨p1, 0, none⟩ = some v1 ∧ W.cell? ⟨b1, o1, none⟩ = some e1 ∧ W.cell? ⟨p3, 0, none⟩ = some v3
theorem NC1.on {p1 b1 o1 : Nat} {v1 e1 : Value} {p3 : Nat} {v3 : Value} {wr W : World} (h : NC1 p1 b1 o1 v1 e1 p3 v3 wr) (hb : Below wr.heap.size wr W) : NC1 p1 b1 o1 v1 e1 p3 v3 W :=
  have k : ∀ (b o : Nat) (v : Value), wr.cell? ⟨b, o, none⟩ = some v → W.cell? ⟨b, o, none⟩ = some v := fun b o _ hc => (World.cell?_of_block (a := ⟨b, o, none⟩) (hb.block b (World.block_lt_of_cell? wr _ hc))).trans hc
  ⟨k _ _ _ h.1, k _ _ _ h.2.1, k _ _ _ h.2.2⟩
theorem NC1.grown {p1 b1 o1 : Nat} {v1 e1 : Value} {p3 : Nat} {v3 : Value} {wr W : World} {g : Option Nat} (h : NC1 p1 b1 o1 v1 e1 p3 v3 wr) (hg : wr.grownBy W g) (h1 : g ≠ some p1) (h2 : g ≠ some b1) (h3 : g ≠ some p3) : NC1 p1 b1 o1 v1 e1 p3 v3 W :=
  have k : ∀ (b o : Nat) (v : Value), g ≠ some b → wr.cell? ⟨b, o, none⟩ = some v → W.cell? ⟨b, o, none⟩ = some v := fun b o _ hn hc => (World.cell?_of_block (a := ⟨b, o, none⟩) (hg.block b (World.block_lt_of_cell? wr _ hc) (fun e => hn e.symm))).trans hc
  ⟨k _ _ _ h1 h.1, k _ _ _ h2 h.2.1, k _ _ _ h3 h.2.2⟩
end Go.Proofs.YtlhemcjahcmdeaaGreatDoor
namespace Go.Proofs.YtlhemcjahcmdeaaGreatDoor
open Go.RowKit
set_option maxRecDepth 100000
set_option linter.unusedSimpArgs false
set_option linter.unusedVariables false

/-- What a loop that appends versions to a row of its own holds on to. -/
def GrowG (w wr : World) (o : Value) (m : List AgeD) : Prop := RowG wr w.heap.size o m ∧ Below w.heap.size w wr
theorem GrowG.on {w wr w' : World} {o : Value} {m : List AgeD} (h : GrowG w wr o m) (hb : Below wr.heap.size wr w') : GrowG w w' o m := ⟨h.1.on hb, bstep h.2 hb⟩
end Go.Proofs.YtlhemcjahcmdeaaGreatDoor
namespace Go.Proofs.YtlhemcjahcmdeaaGreatDoor
open Go.RowKit
set_option maxRecDepth 100000
set_option linter.unusedSimpArgs false
set_option linter.unusedVariables false

theorem RowVol.far {w w' : World} {base : Nat} {v : Value} {l : List VolD} {T : Nat → Prop} (h : RowVol w base v l) (hg : Only T w w') (hd : ∀ b, v.ownBlock = some b → b < w.heap.size → ¬ T b) : RowVol w' base v l := h.keep (fun g hv => hg.block g (h.lt g hv).1 (hd g hv (h.lt g hv).1))
theorem RowG.far {w w' : World} {base : Nat} {v : Value} {l : List AgeD} {T : Nat → Prop} (h : RowG w base v l) (hg : Only T w w') (hd : ∀ b, v.ownBlock = some b → b < w.heap.size → ¬ T b) : RowG w' base v l := h.keep (fun g hv => hg.block g (h.lt g hv).1 (hd g hv (h.lt g hv).1))
end Go.Proofs.YtlhemcjahcmdeaaGreatDoor
namespace Go.Proofs.YtlhemcjahcmdeaaGreatDoor
open Go.RowKit
set_option maxRecDepth 100000
set_option linter.unusedSimpArgs false
set_option linter.unusedVariables false
/-- What the region of spec.l6Copy reads. -/
def NC2 (p1 b1 o1 : Nat) (v1 e1 : Value) (p3 : Nat) (v3 : Value) (W : World) : Prop := W.cell? ⟨p1, 1, none⟩ = some v1 ∧ W.cell? ⟨b1, o1, none⟩ = some e1 ∧ W.cell? ⟨p3, 1, none⟩ = some v3
theorem NC2.on {p1 b1 o1 : Nat} {v1 e1 : Value} {p3 : Nat} {v3 : Value} {wr W : World} (h : NC2 p1 b1 o1 v1 e1 p3 v3 wr) (hb : Below wr.heap.size wr W) : NC2 p1 b1 o1 v1 e1 p3 v3 W :=
  have k : ∀ (b o : Nat) (v : Value), wr.cell? ⟨b, o, none⟩ = some v → W.cell? ⟨b, o, none⟩ = some v := fun b o _ hc => (World.cell?_of_block (a := ⟨b, o, none⟩) (hb.block b (World.block_lt_of_cell? wr _ hc))).trans hc
  ⟨k _ _ _ h.1, k _ _ _ h.2.1, k _ _ _ h.2.2⟩
theorem NC2.grown {p1 b1 o1 : Nat} {v1 e1 : Value} {p3 : Nat} {v3 : Value} {wr W : World} {g : Option Nat} (h : NC2 p1 b1 o1 v1 e1 p3 v3 wr) (hg : wr.grownBy W g) (h1 : g ≠ some p1) (h2 : g ≠ some b1) (h3 : g ≠ some p3) : NC2 p1 b1 o1 v1 e1 p3 v3 W :=
  have k : ∀ (b o : Nat) (v : Value), g ≠ some b → wr.cell? ⟨b, o, none⟩ = some v → W.cell? ⟨b, o, none⟩ = some v := fun b o _ hn hc => (World.cell?_of_block (a := ⟨b, o, none⟩) (hg.block b (World.block_lt_of_cell? wr _ hc) (fun e => hn e.symm))).trans hc
  ⟨k _ _ _ h1 h.1, k _ _ _ h2 h.2.1, k _ _ _ h3 h.2.2⟩
theorem Below.of {B : Nat} {a b c : World} (h : Below B a b) (k : Below b.heap.size b c) (hB : B ≤ b.heap.size) : Below B a c := h.trans (k.mono hB)
end Go.Proofs.YtlhemcjahcmdeaaGreatDoor
namespace Go.Proofs.YtlhemcjahcmdeaaGreatDoor
open Go.RowKit
set_option maxRecDepth 100000
set_option linter.unusedSimpArgs false
set_option linter.unusedVariables false

/-- u is a row of sets in blocks from base on, none of them bo. -/
def NOwn (w : World) (base bo : Nat) (u : Value) (ns : List (List KeyD)) : Prop :=
  ∃ xs, w.ownsRow base 221 1 u ns.length xs ∧ OwnsL w (fun b => (base ≤ b ∧ b ≠ bo) ∧ u.ownBlock ≠ some b) xs (ns.map keysD) ∧ u.ownBlock ≠ some bo
theorem NOwn.of {w : World} {base : Nat} {u : Value} {ns : List (List KeyD)} (h : Owns w (fun b => base ≤ b) u (setsD ns)) (o : Obj) : NOwn (w.alloc o) base w.heap.size u ns := by
  rcases h.rw' with ⟨rfl, h0, hc⟩ | ⟨g, cap, xs, rfl, hS, hR, hn, hc, hl, hx, ho⟩
  · have : ns = [] := List.length_eq_zero_iff.1 h0
    subst this
    exact ⟨[], row_nil _ _ _ _, OwnsL.nil _ _, by simp [Value.ownBlock]⟩
  · have hlt := hR.lt
    refine ⟨xs, row_on (hR.row hS hn hc (by simpa using hx)) (bal1 _ _), ?_, by simp [Value.ownBlock]; omega⟩
    exact (ho.lt.on (bal1 w o)).mono (fun b hb => ⟨⟨hb.1.1, by omega⟩, fun e => hb.1.2 (by simp [Value.ownBlock] at e; exact e.symm)⟩)
theorem NOwn.on {w w' : World} {base bo : Nat} {u : Value} {ns : List (List KeyD)} (h : NOwn w base bo u ns) (hb : Below w.heap.size w w') : NOwn w' base bo u ns := by
  obtain ⟨xs, h1, h2, h3⟩ := h
  exact ⟨xs, row_on h1 hb, h2.on hb, h3⟩
theorem rowP_owns {P : Nat → Prop} {w : World} {base e z n : Nat} {v : Value} {xs : List Value} {cs : List Dat} (h : w.ownsRow base e z v n xs) (ho : OwnsL w (fun b => P b ∧ v.ownBlock ≠ some b) xs cs) (hP : ∀ g, v.ownBlock = some g → P g) (hl : cs.length = n * z) : Owns w P v (.row e z n cs) := by
  rcases row_cases h with ⟨rfl, rfl, rfl⟩ | ⟨g, cap, rfl, hb, hR, hn, hc, _⟩
  · have : cs = [] := List.length_eq_zero_iff.1 (by simpa using hl)
    subst this
    exact .nil _ _ _
  · exact hR.owns (hP g rfl) (ho.mono (fun b hb => ⟨hb.1, fun e => hb.2 (by rw [e]; rfl)⟩)) hn hc hl
theorem NOwn.owns {w : World} {base bo : Nat} {u : Value} {ns : List (List KeyD)} (h : NOwn w base bo u ns) : Owns w (fun b => base ≤ b ∧ b ≠ bo) u (setsD ns) := by
  obtain ⟨xs, h1, h2, h3⟩ := h
  exact rowP_owns h1 h2 (fun g hg => ⟨(row_lt h1 g hg).2, fun e => h3 (by rw [← e]; exact hg)⟩) (by simp)
theorem NOwn.elem {w : World} {base bo : Nat} {u : Value} {ns : List (List KeyD)} (h : NOwn w base bo u ns) {i : Nat} (hi : i < ns.length) :
    ∃ g cap A2 c2, u = .slice (some ⟨g, 0, none⟩) ns.length cap ∧ base ≤ g ∧ g ≠ bo ∧ g < w.heap.size ∧ w.cell? ⟨g, i, none⟩ = some (.slice A2 (ns[i]).length c2) ∧ (∀ o, w.frozen? ⟨g, o, none⟩ = false) ∧ Reads w w.heap.size (.slice A2 (ns[i]).length c2) (keysD ns[i]) := by
  obtain ⟨xs, h1, h2, h3⟩ := h
  rcases row_cases h1 with ⟨_, h0, _⟩ | ⟨g, cap, rfl, hb, hR, hn, hc, hx⟩
  · omega
  · have hxi : i < xs.length := by omega
    have hr := h2.reads.2 i hxi (by simpa using hi)
    rw [List.getElem_map] at hr
    have hcell := hR.cell hxi
    obtain ⟨A2, c2, e, _, _⟩ := hr.shapeK
    rw [e] at hr hcell
    exact ⟨g, cap, A2, c2, rfl, hb, fun e => h3 (by rw [← e]; rfl), hR.lt, hcell, fun o => hR.frozen o, hr⟩
theorem OwnsL.setN {w : World} {S T : Nat → Prop} {vs : List Value} {cs : List Dat} {i : Nat} {u : Value} {c : Dat} (h : OwnsL w S vs cs) (hu : Owns w T u c) (hd : ∀ b, S b → ¬ T b) : OwnsL w (fun b => S b ∨ T b) (vs.set i u) (cs.set i c) := by
  obtain ⟨hl, F, ho, hF, hj⟩ := h
  refine ⟨by simp [hl], fun j b => (j = i ∧ T b) ∨ (j ≠ i ∧ F j b), fun j a b => ?_, fun j b hb => ?_, fun j k b hjk hb hb' => ?_⟩
  · simp only [List.length_set] at a b
    by_cases hij : i = j
    · subst hij; rw [List.getElem_set_self, List.getElem_set_self]; exact hu.mono (fun b hb => .inl ⟨rfl, hb⟩)
    · rw [List.getElem_set_ne hij, List.getElem_set_ne hij]; exact (ho j a b).mono (fun b hb => .inr ⟨Ne.symm hij, hb⟩)
  · rcases hb with ⟨_, hb⟩ | ⟨_, hb⟩
    · exact .inr hb
    · exact .inl (hF j b hb)
  · rcases hb with ⟨h1, hb⟩ | ⟨h1, hb⟩ <;> rcases hb' with ⟨h2, hb'⟩ | ⟨h2, hb'⟩
    · omega
    · exact hd b (hF k b hb') hb
    · exact hd b (hF j b hb) hb'
    · exact hj j k b hjk hb hb'
theorem NOwn.put {w w' : World} {base bo g cap : Nat} {ns : List (List KeyD)} {x : Value} {l : List KeyD} {i : Nat} (h : NOwn w base bo (.slice (some ⟨g, 0, none⟩) ns.length cap) ns) (hi : i < ns.length) (hb : Below w.heap.size w w') (hx : RowK w' w.heap.size x l) (hbo : bo < w.heap.size) (hbase : base ≤ w.heap.size) :
    NOwn (w'.setCell ⟨g, i, none⟩ x) base bo (.slice (some ⟨g, 0, none⟩) ns.length cap) (ns.set i l) := by
  obtain ⟨xs, h1, h2, h3⟩ := h
  have hg := (row_lt h1 g rfl).1
  refine ⟨xs.set i x, ?_, ?_, h3⟩
  · have h := row_set (row_on h1 hb) i x
    rw [List.length_set]
    exact h
  · have k1 := (h2.lt.on hb).setN (i := i) hx.owns (fun b hb hb' => by have := hb.2; omega)
    rw [List.map_set]
    refine OwnsL.mono (k1.keep (w' := w'.setCell ⟨g, i, none⟩ x) (fun b hb _ => Below.heap_setCell _ _ _ _ ?_)) ?_
    · rintro rfl
      rcases hb with hb | hb
      · exact hb.1.2 rfl
      · omega
    · rintro b (hb | hb)
      · exact hb.1
      · exact ⟨⟨by omega, by omega⟩, by simp [Value.ownBlock]; omega⟩
end Go.Proofs.YtlhemcjahcmdeaaGreatDoor
namespace Go.Proofs.YtlhemcjahcmdeaaGreatDoor
open Go.RowKit
set_option maxRecDepth 100000
set_option linter.unusedSimpArgs false
set_option linter.unusedVariables false

/-- Owned cells, parted. -/
theorem OwnsL.split {w : World} {S : Nat → Prop} {vs : List Value} {cs : List Dat} (h : OwnsL w S vs cs) (i : Nat) : ∃ S1 S2 : Nat → Prop, OwnsL w S1 (vs.take i) (cs.take i) ∧ OwnsL w S2 (vs.drop i) (cs.drop i) ∧ (∀ b, S1 b → S b) ∧ (∀ b, S2 b → S b) ∧ ∀ b, S1 b → ¬ S2 b := by
  obtain ⟨hl, F, ho, hF, hd⟩ := h
  refine ⟨fun b => ∃ k, k < i ∧ F k b, fun b => ∃ k, i ≤ k ∧ F k b, ⟨by simp [hl], fun k b => k < i ∧ F k b, fun k a b => ?_, fun k b h => ⟨k, h⟩, fun k j b hkj h1 h2 => hd k j b hkj h1.2 h2.2⟩, ⟨by simp [hl], fun k b => F (i + k) b, fun k a b => ?_, fun k b h => ⟨i + k, by omega, h⟩, fun k j b hkj h1 h2 => hd _ _ b (by omega) h1 h2⟩, fun b ⟨k, _, h⟩ => hF k b h, fun b ⟨k, _, h⟩ => hF k b h, fun b ⟨k, h1, h2⟩ ⟨j, h3, h4⟩ => hd k j b (by omega) h2 h4⟩
  · simp only [List.length_take] at a b
    rw [List.getElem_take, List.getElem_take]
    exact (ho k (by omega) (by omega)).mono (fun b hb => ⟨by omega, hb⟩)
  · simp only [List.length_drop] at a b
    rw [List.getElem_drop, List.getElem_drop]
    exact ho (i + k) (by omega) (by omega)
end Go.Proofs.YtlhemcjahcmdeaaGreatDoor
namespace Go.Proofs.YtlhemcjahcmdeaaGreatDoor
open Go.RowKit
set_option maxRecDepth 100000
set_option linter.unusedSimpArgs false
set_option linter.unusedVariables false

def mayB (d : PoolD) (s : ByteArray) : Bool := poolOkB d && nameOkB s
def noVol : VolD := ⟨⟨#[]⟩, 0, 0, false⟩
/-- The first volume of the name, and how to turn it. -/
def volD (d : PoolD) (s : ByteArray) : VolD := d.vo.getD (volJ s d.vo) noVol
def hasB (v : VolD) (b : Int) : Bool := decide (0 ≤ b) && decide (b < v.c)
end Go.Proofs.YtlhemcjahcmdeaaGreatDoor
namespace Go.Proofs.YtlhemcjahcmdeaaGreatDoor
open Go.RowKit
set_option maxRecDepth 100000
set_option linter.unusedSimpArgs false
set_option linter.unusedVariables false

/-- What a loop that appends volumes to a row of its own holds on to. -/
def GrowVol (w wr : World) (o : Value) (m : List VolD) : Prop := RowVol wr w.heap.size o m ∧ Below w.heap.size w wr
theorem GrowVol.on {w wr w' : World} {o : Value} {m : List VolD} (h : GrowVol w wr o m) (hb : Below wr.heap.size wr w') : GrowVol w w' o m := ⟨h.1.on hb, bstep h.2 hb⟩
end Go.Proofs.YtlhemcjahcmdeaaGreatDoor
namespace Go.Proofs.YtlhemcjahcmdeaaGreatDoor
open Go.RowKit
set_option maxRecDepth 100000
set_option linter.unusedSimpArgs false
set_option linter.unusedVariables false

theorem nameOk_size {s : ByteArray} (h : nameOkB s = true) : s.size ≤ maxLen := by
  unfold nameOkB inB at h
  simp only [Bool.and_eq_true, decide_eq_true_eq] at h
  have : maxLen = 9223372036854775807 := by kernel_rfl
  omega
theorem mayB_pool {d : PoolD} {s : ByteArray} (h : mayB d s = true) : poolOkB d = true := by
  unfold mayB at h
  rw [Bool.and_eq_true] at h
  exact h.1
/-- What a valid pool's sizes are. -/
theorem pool_small {d : PoolD} (h : poolOkB d = true) : SmallP d ∧ d.ag.length ≤ 16 ∧ d.vo.length ≤ 6 ∧ d.ce.length ≤ 24 ∧ 1 ≤ d.nx ∧ d.nx ≤ 61 ∧ ascB d.vo = true ∧ (∀ k ∈ d.vo, k.a.size ≤ maxLen) ∧ treeOkB d.lo d.ts = true ∧ agesOkB d.ag = true ∧ celsOkB d.ce = true ∧ ∀ v ∈ d.vo, 1 ≤ v.c ∧ v.c ≤ 12 := by
  unfold poolOkB at h
  simp only [Bool.and_eq_true] at h
  obtain ⟨⟨⟨⟨⟨⟨h1, h2⟩, h3⟩, h4⟩, h5⟩, h6⟩, h7⟩ := h
  have g2 := h2
  have g3 := h3
  have g5 := h5
  unfold agesOkB at h2
  unfold celsOkB at h3
  unfold nextB at h4
  unfold volsB at h5
  simp only [Bool.and_eq_true, decide_eq_true_eq] at h2 h3 h4 h5
  have ht := of_decide_eq_true h1
  have hs : sumT d.ts ≤ d.ts.length * 11 := by
    have hf := ht.2.2.2.2.2.1
    have key : ∀ (l : List NodeD), (∀ x ∈ l, x.length + sumN x ≤ 11) → sumT l ≤ l.length * 11 := by
      intro l
      induction l with
      | nil => intro _; exact Nat.le_refl _
      | cons x l ih =>
        intro h
        have h1 := h x List.mem_cons_self
        have h2 := ih (fun y hy => h y (List.mem_cons_of_mem _ hy))
        rw [sumT_cons, List.length_cons]
        omega
    refine key d.ts (fun x hx => ?_)
    obtain ⟨i, hi, rfl⟩ := List.mem_iff_getElem.1 hx
    have h8 := hf i hi
    rw [getD_node hi] at h8
    have h9 := (of_decide_eq_true h8).1
    unfold nodeOkB at h9
    simp only [Bool.and_eq_true, decide_eq_true_eq] at h9
    omega
  refine ⟨⟨?_, by omega, by omega, by omega⟩, h2.2, h5.1.1, Nat.le_of_eq h3.2, h4.1.1, h4.1.2, h5.1.2, ?_, h1, g2, g3, ?_⟩
  · have h10 := ht.2.1
    have h11 := ht.2.2.1
    omega
  · intro k hk
    have := List.all_eq_true.1 h5.2 k hk
    unfold okV at this
    simp only [Bool.and_eq_true] at this
    exact nameOk_size this.1.1
  · intro k hk
    have := List.all_eq_true.1 h5.2 k hk
    unfold okV sizeB at this
    simp only [Bool.and_eq_true, decide_eq_true_eq] at this
    exact this.1.2
end Go.Proofs.YtlhemcjahcmdeaaGreatDoor
namespace Go.Proofs.YtlhemcjahcmdeaaGreatDoor
open Go.RowKit
set_option maxRecDepth 100000
set_option linter.unusedSimpArgs false
set_option linter.unusedVariables false

set_option maxHeartbeats 1000000 in
theorem formOk_any {t : TypeId} (vl vn va vc vv : Value) (d : PoolD) (s : ByteArray) (w : World) (h : RdP t w w.heap.size vl vn va vc vv d) (hs : SmallP d) (hnm : ∀ k ∈ d.vo, k.a.size ≤ maxLen) (hz : s.size ≤ maxLen) :
    Calls Tryz.prog 110 #[.agg #[vl, vn, va, vc, vv, .int .i64 d.nx], .string s] w (SaysBool w (mayB d s)) := by
  have HP := Lib.hid (fun W b => implPoolOk_any vl vn va vc vv d W (h.on b) hs hnm)
  have HN := Lib.hid (fun W => implNameOk_any s W hz)
  obtain ⟨A0, c0, A1, c1, A2, c2, A3, c3, A4, c4, rfl, rfl, rfl, rfl, rfl⟩ := h.shape
  have HB := Lib.hid (bal1 w (.cells #[.slice A0 d.lo.length c0, .slice A1 d.ts.length c1, .slice A2 d.ag.length c2, .slice A3 d.ce.length c3, .slice A4 d.vo.length c4, .int .i64 d.nx] 32))
  have Q0 := Lib.hid (al1 w (.cells #[.slice A0 d.lo.length c0, .slice A1 d.ts.length c1, .slice A2 d.ag.length c2, .slice A3 d.ce.length c3, .slice A4 d.vo.length c4, .int .i64 d.nx] 32))
  obtain ⟨p, hp⟩ : ∃ p, poolOkB d = p := ⟨_, rfl⟩
  obtain ⟨m, hm⟩ : ∃ m, nameOkB s = m := ⟨_, rfl⟩
  rw [hp] at HP
  rw [hm] at HN
  rw [show mayB d s = (p && m) by unfold mayB; rw [hp, hm]]
  clear h hs hnm hz hp hm
  go_enter Tryz.func110, Tryz.ntmps110
  go_upto_region 1 with (fail)
  generalize w.alloc (.cells #[.slice A0 d.lo.length c0, .slice A1 d.ts.length c1, .slice A2 d.ag.length c2, .slice A3 d.ce.length c3, .slice A4 d.vo.length c4, .int .i64 d.nx] 32) = W at *
  obtain ⟨x0, x1, x2, x3, x4, x5, x6⟩ := boxP Q0.out
  go_wp2_with fail
  refine (HP.out _ HB.out).mono ?_
  rintro e w1 ⟨rfl, b1⟩
  have B1 := Lib.hid (bstep HB.out b1)
  clear x0 x1 x2 x3 x4 x5 x6 b1
  cases p
  · go_wp2
    go_ret
    exact ⟨rfl, B1.out⟩
  · go_wp2_with fail
    refine (HN.out _).mono ?_
    rintro e _ ⟨rfl, rfl⟩
    go_wp2
    go_ret
    exact ⟨rfl, B1.out⟩
end Go.Proofs.YtlhemcjahcmdeaaGreatDoor
namespace Go.Proofs.YtlhemcjahcmdeaaGreatDoor
open Go.RowKit
set_option maxRecDepth 100000
set_option linter.unusedSimpArgs false
set_option linter.unusedVariables false

def SaysN (w : World) (n : Int) (e : Ending) (w' : World) : Prop := e = .returned (.int .i64 n) ∧ Below w.heap.size w w'
def formN (d : PoolD) (s : ByteArray) : Int := if mayB d s then 0 else 1
def volN (d : PoolD) (s : ByteArray) : Int := if mayB d s then (if volK s d.vo < 0 then 2 else 0) else 1
set_option maxHeartbeats 1000000 in
theorem l11Form_any {t : TypeId} (vl vn va vc vv : Value) (d : PoolD) (s : ByteArray) (w : World) (h : RdP t w w.heap.size vl vn va vc vv d) (hs : SmallP d) (hnm : ∀ k ∈ d.vo, k.a.size ≤ maxLen) (hz : s.size ≤ maxLen) :
    Calls Tryz.prog 60 #[.agg #[vl, vn, va, vc, vv, .int .i64 d.nx], .string s] w (SaysN w (formN d s)) := by
  have HP := Lib.hid (fun W b => specPoolOk_any vl vn va vc vv d W (h.on b) hs hnm)
  have HN := Lib.hid (fun W => specNameOk_any s W hz)
  obtain ⟨A0, Ac0, A1, Ac1, A2, Ac2, A3, Ac3, A4, Ac4, rfl, rfl, rfl, rfl, rfl⟩ := h.shape
  have HB := Lib.hid (bal1 w (.cells #[.slice A0 d.lo.length Ac0, .slice A1 d.ts.length Ac1, .slice A2 d.ag.length Ac2, .slice A3 d.ce.length Ac3, .slice A4 d.vo.length Ac4, .int .i64 d.nx] 32))
  have Q0 := Lib.hid (al1 w (.cells #[.slice A0 d.lo.length Ac0, .slice A1 d.ts.length Ac1, .slice A2 d.ag.length Ac2, .slice A3 d.ce.length Ac3, .slice A4 d.vo.length Ac4, .int .i64 d.nx] 32))
  obtain ⟨p, hp⟩ : ∃ p, poolOkB d = p := ⟨_, rfl⟩
  obtain ⟨m, hm⟩ : ∃ m, nameOkB s = m := ⟨_, rfl⟩
  rw [hp] at HP
  rw [hm] at HN
  have HF := Lib.hid (show formN d s = if (p && m) then 0 else 1 by unfold formN mayB; rw [hp, hm])
  clear h hs hnm hz hp hm
  go_enter Tryz.func60, Tryz.ntmps60
  go_upto_region 1 with (fail)
  generalize w.alloc (.cells #[.slice A0 d.lo.length Ac0, .slice A1 d.ts.length Ac1, .slice A2 d.ag.length Ac2, .slice A3 d.ce.length Ac3, .slice A4 d.vo.length Ac4, .int .i64 d.nx] 32) = W at *
  obtain ⟨x0, x1, x2, x3, x4, x5, x6⟩ := boxP Q0.out
  go_wp2_with fail
  refine (HP.out _ HB.out).mono ?_
  rintro e w1 ⟨rfl, b1⟩
  have B1 := Lib.hid (bstep HB.out b1)
  clear x0 x1 x2 x3 x4 x5 x6 b1
  cases p
  · go_wp2
    go_ret
    exact ⟨by rw [HF.out]; rfl, B1.out⟩
  · go_wp2_with fail
    refine (HN.out _).mono ?_
    rintro e _ ⟨rfl, rfl⟩
    cases m
    all_goals
      go_wp2
      go_ret
      exact ⟨by rw [HF.out]; rfl, B1.out⟩
set_option maxHeartbeats 1000000 in
theorem l11Vol_any {t : TypeId} (vl vn va vc vv : Value) (d : PoolD) (s : ByteArray) (w : World) (h : RdP t w w.heap.size vl vn va vc vv d) (hs : SmallP d) (hnm : ∀ k ∈ d.vo, k.a.size ≤ maxLen) (hz : s.size ≤ maxLen) :
    Calls Tryz.prog 73 #[.agg #[vl, vn, va, vc, vv, .int .i64 d.nx], .string s] w (SaysN w (volN d s)) := by
  have hv := hs.2.2.2
  have HP := Lib.hid (fun W b => l11Form_any vl vn va vc vv d s W (h.on b) hs hnm hz)
  have HN := Lib.hid (fun W b => specVolAt_any vl vn va vc vv d s W (h.on b) (by omega))
  obtain ⟨A0, Ac0, A1, Ac1, A2, Ac2, A3, Ac3, A4, Ac4, rfl, rfl, rfl, rfl, rfl⟩ := h.shape
  have HB := Lib.hid (bal1 w (.cells #[.slice A0 d.lo.length Ac0, .slice A1 d.ts.length Ac1, .slice A2 d.ag.length Ac2, .slice A3 d.ce.length Ac3, .slice A4 d.vo.length Ac4, .int .i64 d.nx] 32))
  have Q0 := Lib.hid (al1 w (.cells #[.slice A0 d.lo.length Ac0, .slice A1 d.ts.length Ac1, .slice A2 d.ag.length Ac2, .slice A3 d.ce.length Ac3, .slice A4 d.vo.length Ac4, .int .i64 d.nx] 32))
  obtain ⟨m, hm⟩ : ∃ m, mayB d s = m := ⟨_, rfl⟩
  obtain ⟨K, hK⟩ : ∃ K, volK s d.vo = K := ⟨_, rfl⟩
  rw [show formN d s = if m then 0 else 1 by unfold formN; rw [hm]] at HP
  rw [hK] at HN
  have HF := Lib.hid (show volN d s = if m then (if K < 0 then 2 else 0) else 1 by unfold volN; rw [hm, hK])
  clear h hs hnm hz hm hK hv
  go_enter Tryz.func73, Tryz.ntmps73
  go_upto_region 1 with (fail)
  generalize w.alloc (.cells #[.slice A0 d.lo.length Ac0, .slice A1 d.ts.length Ac1, .slice A2 d.ag.length Ac2, .slice A3 d.ce.length Ac3, .slice A4 d.vo.length Ac4, .int .i64 d.nx] 32) = W at *
  obtain ⟨x0, x1, x2, x3, x4, x5, x6⟩ := boxP Q0.out
  go_wp2_with fail
  refine (HP.out _ HB.out).mono ?_
  rintro e w1 ⟨rfl, b1⟩
  have B1 := Lib.hid (bstep HB.out b1)
  clear x0 x1 x2 x3 x4 x5 x6
  obtain ⟨x0, x1, x2, x3, x4, x5, x6⟩ := boxP (box_on Q0.out b1)
  clear b1
  cases m
  · rw [show (if false = true then (0 : Int) else 1) = 1 from rfl]
    go_wp2
    go_ret
    exact ⟨by rw [HF.out]; rfl, B1.out⟩
  · rw [show (if true = true then (0 : Int) else 1) = 0 from rfl]
    go_wp2_with fail
    refine (HN.out _ B1.out).mono ?_
    rintro e w2 ⟨rfl, b2⟩
    have B2 := Lib.hid (bstep B1.out b2)
    clear x0 x1 x2 x3 x4 x5 x6 b2
    by_cases hk : K < 0
    · have d1 : decide (K < 0) = true := decide_eq_true hk
      have HX : Hid (volN d s = 2) := Lib.hid (by rw [HF.out]; simp [hk])
      clear hk
      go_wp2
      go_ret
      exact ⟨by rw [HX.out]; rfl, B2.out⟩
    · have d1 : decide (K < 0) = false := decide_eq_false hk
      have HX : Hid (volN d s = 0) := Lib.hid (by rw [HF.out]; simp [hk])
      clear hk
      go_wp2
      go_ret
      exact ⟨by rw [HX.out]; rfl, B2.out⟩
end Go.Proofs.YtlhemcjahcmdeaaGreatDoor
namespace Go.Proofs.YtlhemcjahcmdeaaGreatDoor
open Go.RowKit
set_option maxRecDepth 100000
set_option linter.unusedSimpArgs false
set_option linter.unusedVariables false

theorem volK_nat {s : ByteArray} {l : List VolD} (h : ¬ volK s l < 0) : volJ s l < l.length ∧ volK s l = (volJ s l : Int) := by
  unfold volK at h ⊢
  split at h
  · rename_i h1
    rw [if_pos h1]
    exact ⟨h1, rfl⟩
  · omega
end Go.Proofs.YtlhemcjahcmdeaaGreatDoor
namespace Go.Proofs.YtlhemcjahcmdeaaGreatDoor
open Go.RowKit
set_option maxRecDepth 100000
set_option linter.unusedSimpArgs false
set_option linter.unusedVariables false

theorem volN_yes {d : PoolD} {s : ByteArray} (h : volN d s = 0) : mayB d s = true ∧ ¬ volK s d.vo < 0 := by
  unfold volN at h
  split at h
  · rename_i h1
    split at h
    · omega
    · exact ⟨h1, by assumption⟩
  · omega
end Go.Proofs.YtlhemcjahcmdeaaGreatDoor
namespace Go.Proofs.YtlhemcjahcmdeaaGreatDoor
open Go.RowKit
set_option maxRecDepth 100000
set_option linter.unusedSimpArgs false
set_option linter.unusedVariables false

theorem ageAt_has {l : List AgeD} {d : Int} (h : hasG l d = true) : ageI l d < l.length ∧ ageAtK l d = (ageI l d : Int) := by
  have h1 : ageI l d < l.length := of_decide_eq_true h
  exact ⟨h1, by rw [ageAtK, if_pos h1]⟩
end Go.Proofs.YtlhemcjahcmdeaaGreatDoor
namespace Go.Proofs.YtlhemcjahcmdeaaGreatDoor
open Go.RowKit
set_option maxRecDepth 100000
set_option linter.unusedSimpArgs false
set_option linter.unusedVariables false

/-- The way up from version d: at most n versions. -/
def pathGo (l : List AgeD) : Nat → Int → List Int
  | 0, _ => []
  | n + 1, d => if hasG l d then d :: (if parG l d == 0 then [] else pathGo l n (parG l d)) else []
def pathK (l : List AgeD) (d : Int) : List Int := pathGo l (l.length + 1) d
theorem pathGo_no {l : List AgeD} {d : Int} (h : hasG l d = false) (n : Nat) : pathGo l n d = [] := by
  cases n with
  | zero => rfl
  | succ n => rw [pathGo, h]; rfl
theorem pathGo_yes {l : List AgeD} {d : Int} (h : hasG l d = true) (n : Nat) : pathGo l (n + 1) d = d :: (if parG l d == 0 then [] else pathGo l n (parG l d)) := by
  rw [pathGo, h]; rfl
theorem pathGo_len (l : List AgeD) (n : Nat) (d : Int) : (pathGo l n d).length ≤ n := by
  induction n generalizing d with
  | zero => simp [pathGo]
  | succ n ih =>
    rw [pathGo]
    split
    · split
      · simp
      · have := ih (parG l d)
        simp only [List.length_cons]
        omega
    · simp
theorem pathK_len (l : List AgeD) (d : Int) : (pathK l d).length ≤ l.length + 1 := pathGo_len l _ d
theorem parG_at {l : List AgeD} {d : Int} (h : ageI l d < l.length) : parG l d = (l[ageI l d]).b := by
  unfold parG
  rw [List.getElem?_eq_getElem h]
def lenV : Value → Nat
  | .slice _ n _ => n
  | _ => 0
set_option maxHeartbeats 4000000 in
theorem implPathOf_any (v : Value) (l : List AgeD) (d : Int) (w : World) (hv : Reads w w.heap.size v (agesD l)) (hn : l.length ≤ 2000000) : Calls Tryz.prog 239 #[v, .int .i64 d] w (NewI w (pathK l d)) := by
  obtain ⟨A, c, rfl, _, _⟩ := hv.shapeG
  have HV := Lib.hid hv
  obtain ⟨R, hR⟩ : ∃ R, pathK l d = R := ⟨_, rfl⟩
  rw [hR]
  unfold pathK at hR
  have HR := Lib.hid hR
  have b0 := bal1 w (.cells #[] 3)
  have G0 := Lib.hid (show GrowI w _ _ [] from ⟨RowI.lit w, b0⟩)
  have HV0 := Lib.hid (hv.on b0)
  clear hv hR b0
  go_enter Tryz.func239, Tryz.ntmps239
  go_wp2
  go_step3
  go_wp2
  go_step3
  generalize w.alloc (.cells #[] 3) = w0 at *
  go_wp2_with fail
  refine (implAgeAt_any _ l d _ HV0.out (by omega)).mono ?_
  rintro e w1 ⟨rfl, b1⟩
  have G1 := Lib.hid (show GrowI w w1 _ [] from ⟨G0.out.1.on b1, bstep G0.out.2 b1⟩)
  clear G0 HV0 b1
  go_wp2
  go_loopw [5, 6] (fun o i wr => ∃ (m : List Int) (e : Int), i = .int .i64 (ageAtK l e) ∧ Hid (m.length ≤ l.length) ∧ Hid (m ++ pathGo l (l.length + 1 - m.length) e = R) ∧ Hid (GrowI w wr o m)) (fun o _ _ => l.length + 1 - lenV o)
  case atStart => exact ⟨[], d, rfl, Lib.hid (Nat.zero_le _), Lib.hid (by simpa using HR.out), G1⟩
  case round =>
    clear G1
    obtain ⟨m, e, rfl, HM, HI, HX⟩ := hrel
    obtain ⟨hrow, hb⟩ := HX.out
    obtain ⟨Ao, co, rfl, _, _⟩ := hrow.shape
    have hgeq := ageAt_geq l e
    cases hh : hasG l e
    · rw [hh] at hgeq
      have hRe : R = m := by rw [← HI.out, pathGo_no hh, List.append_nil]
      subst hRe
      generalize ageAtK l e = q at *
      have hq : decide (0 ≤ q) = false := hgeq
      clear hrow hb hh hgeq
      go_wp2
      go_ret
      exact ⟨_, rfl, HX.out.1, HX.out.2⟩
    · obtain ⟨hN, hq0⟩ := ageAt_has hh
      have hpar := parG_at hN
      have hget := ageI_get hN
      obtain ⟨b, off, rfl, hbb, hc⟩ := (HV.out.on hb).ages hN
      have hml := HM.out
      have hfu := HI.out
      rw [show l.length + 1 - m.length = (l.length - m.length) + 1 by omega, pathGo_yes hh, hpar] at hfu
      have HFU := Lib.hid hfu
      obtain ⟨c0, c1⟩ := hc _ hN
      rw [hq0]
      rw [hget] at c0
      have FK := Lib.hid (And.intro c0 c1)
      clear hc hgeq hh hq0 hpar hget hfu
      generalize ageI l e = N at *
      obtain ⟨f, hf⟩ : ∃ f, (l[N]).b = f := ⟨_, rfl⟩
      rw [hf] at HFU FK c1
      clear hf
      have i1 : (N : Int) < (l.length : Int) := by omega
      have i2 : (0 : Int) ≤ (N : Int) := by omega
      have HAt := Lib.hid (At.intOne wr e 3)
      have ba := bal1 wr (.cells #[.int .i64 e] 3)
      have HRow := Lib.hid (hrow.on ba)
      have HB2 := Lib.hid (hb.trans (ba.mono hb.size))
      have HZ := Lib.hid HB2.out.size
      clear ba HX
      go_upto_region 6 with (at_builtin; refine wpList_appI _ rfl (.tmp 20) (.tmp 26) rfl w.heap.size _ m rfl HRow.out (some ⟨wr.heap.size, 0, none⟩) 1 1 [e] rfl rfl HAt.out (by simp; omega) HZ.out ?_; intro v2 w2 o2 b2; clear HRow HAt)
      have hb2 := HB2.out.trans b2
      obtain ⟨m2, hm2⟩ : ∃ m2, m ++ [e] = m2 := ⟨_, rfl⟩
      rw [hm2] at o2
      have hl2 : m2.length = m.length + 1 := by rw [← hm2]; simp
      obtain ⟨A2, e2, rfl, _, _⟩ := o2.shape
      have HL2 := Lib.hid hl2
      have HG2 := Lib.hid (show GrowI w w2 _ m2 from ⟨o2, hb2⟩)
      have hbw2 : b < w.heap.size := by
        obtain ⟨b', off', he, hbb', _⟩ := HV.out.ages hN
        cases he
        exact hbb'
      have F2 : Hid (w2.cell? ⟨b, off + N * 2, none⟩ = some (.int .i64 e) ∧ w2.cell? ⟨b, off + N * 2 + 1, none⟩ = some (.int .i64 f)) := Lib.hid ⟨(World.cell?_of_block (a := ⟨b, off + N * 2, none⟩) ((hb2.block b hbw2).trans (hb.block b hbw2).symm)).trans FK.out.1, (World.cell?_of_block (a := ⟨b, off + N * 2 + 1, none⟩) ((hb2.block b hbw2).trans (hb.block b hbw2).symm)).trans FK.out.2⟩
      have HMM := Lib.hid hm2
      clear c0 c1 hrow hb hb2 b2 o2 HB2 HZ FK hm2 hl2 HI HM
      obtain ⟨c0, c1⟩ := F2.out
      cases hz : (f == 0)
      · rw [hz] at HFU
        simp only [Bool.false_eq_true, if_false] at HFU
        by_cases hfull : l.length < m2.length
        · have d1 : decide (l.length < m2.length) = true := decide_eq_true hfull
          have hRe : R = m2 := by
            have h0 : l.length - m.length = 0 := by have := HL2.out; omega
            rw [← HFU.out, h0, pathGo, HMM.out]
          subst hRe
          clear hml hfull
          go_wp2
          go_ret
          exact ⟨_, rfl, HG2.out.1, HG2.out.2⟩
        · have d1 : decide (l.length < m2.length) = false := decide_eq_false hfull
          have HM2 : Hid (m2.length ≤ l.length) := Lib.hid (by omega)
          have HI2 : Hid (m2 ++ pathGo l (l.length + 1 - m2.length) f = R) := Lib.hid (by rw [show l.length + 1 - m2.length = l.length - m.length by have := HL2.out; omega, ← HFU.out, ← HMM.out]; simp)
          have HVW := Lib.hid (HV.out.on HG2.out.2)
          have HME : Hid (l.length + 1 - m2.length < l.length + 1 - m.length) := Lib.hid (by have := HL2.out; omega)
          clear hml hfull
          go_wp2_with fail
          refine (implAgeAt_any _ l f _ HVW.out (by omega)).mono ?_
          rintro r w3 ⟨rfl, b3⟩
          have G3 := Lib.hid (show GrowI w w3 _ m2 from ⟨HG2.out.1.on b3, bstep HG2.out.2 b3⟩)
          clear b3 c0 c1 d1
          go_wp2
          go_roundw
          case rel => exact ⟨m2, f, rfl, HM2, HI2, G3⟩
          case measure => simp only [lenV]; exact HME.out
      · rw [hz] at HFU
        simp only [if_true] at HFU
        have hRe : R = m2 := by rw [← HFU.out, HMM.out]
        subst hRe
        clear hml
        go_wp2
        go_ret
        exact ⟨_, rfl, HG2.out.1, HG2.out.2⟩
theorem take_no {l : List Int} {k : Nat} {x : Int} (hk : k < l.length) (h : x ∉ l.take k) (hs : (x == l[k]) = false) : x ∉ l.take (k + 1) := by
  rw [List.take_succ_eq_append_getElem hk]
  intro hm
  rcases List.mem_append.1 hm with hm | hm
  · exact h hm
  · simp at hm
    simp [hm] at hs
theorem index_any (v : Value) (l : List Int) (x : Int) (w : World) (hv : Reads w w.heap.size v (intsD l)) (hn : l.length ≤ 2097152) : Calls Tryz.prog 344 #[v, .int .i64 x] w fun e w' => ∃ n : Int, e = .returned (.int .i64 n) ∧ decide (0 ≤ n) = decide (x ∈ l) ∧ w = w' := by
  obtain ⟨A, c, rfl, _, _⟩ := hv.lenN
  have HV := Lib.hid hv
  clear hv
  go_enter Tryz.func344, Tryz.ntmps344
  go_wp2
  go_loop [5, 8] (fun _ i => ∃ k : Nat, k ≤ l.length ∧ i = .int .i64 k ∧ Hid (x ∉ l.take k)) (fun _ i => l.length - (intOf i).toNat)
  case atStart => exact ⟨0, Nat.zero_le _, rfl, Lib.hid (by simp)⟩
  case round =>
    obtain ⟨k, hk, rfl, HI⟩ := hrel
    by_cases hlt : k < l.length
    · obtain ⟨b, off, rfl, hbb, hc⟩ := HV.out.int hlt
      have c0 := hc k hlt
      unfold iV at c0
      have i1 : (k : Int) < (l.length : Int) := by omega
      have i2 : (0 : Int) ≤ (k : Int) := by omega
      clear hc
      cases hs : (x == l[k])
      · have HS := Lib.hid hs
        go_wp2
        go_round
        case rel => exact ⟨k + 1, by omega, by go_num, Lib.hid (take_no hlt HI.out HS.out)⟩
        case measure => simp [intOf]; omega
      · have HS := Lib.hid hs
        go_wp2
        go_ret
        refine ⟨_, rfl, ?_, rfl⟩
        have h1 : x ∈ l := by
          have := HS.out
          simp at this
          rw [this]
          exact List.getElem_mem hlt
        exact ⟨fun _ => h1, fun _ => by omega⟩
    · go_wp2
      go_ret
      refine ⟨_, rfl, ?_, rfl⟩
      have h1 : x ∉ l := by
        have := HI.out
        rw [show k = l.length by omega, List.take_length] at this
        exact this
      exact ⟨fun h => by omega, fun h => absurd h h1⟩
theorem contains_any (v : Value) (l : List Int) (x : Int) (w : World) (hv : Reads w w.heap.size v (intsD l)) (hn : l.length ≤ 2097152) : Calls Tryz.prog 302 #[v, .int .i64 x] w fun e w' => e = .returned (.bool (decide (x ∈ l))) ∧ w = w' := by
  obtain ⟨A, c, rfl, _, _⟩ := hv.lenN
  have HV := Lib.hid hv
  obtain ⟨R, hR⟩ : ∃ R, decide (x ∈ l) = R := ⟨_, rfl⟩
  rw [hR]
  have HR := Lib.hid hR
  clear hv hR
  go_enter Tryz.func302, Tryz.ntmps302
  go_wp2_with fail
  refine (index_any _ l x _ HV.out hn).mono ?_
  rintro e w1 ⟨n, rfl, hq, rfl⟩
  rw [HR.out] at hq
  cases R
  all_goals
    go_wp2
    go_ret
    exact ⟨rfl, rfl⟩
end Go.Proofs.YtlhemcjahcmdeaaGreatDoor
namespace Go.Proofs.YtlhemcjahcmdeaaGreatDoor
open Go.RowKit
set_option maxRecDepth 100000
set_option linter.unusedSimpArgs false
set_option linter.unusedVariables false

/-- Block p holds a cursor over bytes that lie below it. -/
def Cur (w : World) (p : Nat) : Prop :=
  ∃ (A : Option Addr) (cap : Nat) (l : List UInt8) (i : Nat) (h : Int), w.heap[p]? = some (.cells #[.slice A l.length cap, .int .i64 i, .int .i64 h] 129 (0, 0)) ∧ Rd w p A l ∧ i ≤ l.length ∧ l.length ≤ 1048576
theorem Cur.lt {w : World} {p : Nat} (h : Cur w p) : p < w.heap.size := by
  obtain ⟨A, cap, l, i, h, hg, _⟩ := h
  exact (Array.getElem?_eq_some_iff.1 hg).1
theorem Cur.keep {w w' : World} {p : Nat} (h : Cur w p) (hk : ∀ k, k ≤ p → w'.heap[k]? = w.heap[k]?) : Cur w' p := by
  obtain ⟨A, cap, l, i, h, hg, hr, r⟩ := h
  exact ⟨A, cap, l, i, h, (hk p (Nat.le_refl _)).trans hg, hr.keep (fun k hk' => hk k (by omega)), r⟩
theorem Cur.on {w w' : World} {p : Nat} (h : Cur w p) (hb : Below w.heap.size w w') : Cur w' p := h.keep (fun k hk => hb.block k (by have := h.lt; omega))

/-- In w, from the head of block b on, lie the values xs. -/
def Lies (w : World) (b : Nat) (xs : List Value) : Prop := ∀ i (h : i < xs.length), w.cell? ⟨b, i, none⟩ = some xs[i]
theorem Lies.far {w w' : World} {b p : Nat} {xs : List Value} (h : Lies w b xs) (hg : w.grownBy w' (some p)) (hb : b < w.heap.size) (hne : b ≠ p) : Lies w' b xs :=
  fun i hi => (World.cell?_of_block (a := ⟨b, i, none⟩) (hg.block b hb (fun e => hne (by injection e)))).trans (h i hi)
theorem Lies.new (w : World) (xs : List Value) (t : TypeId) : Lies (w.alloc (.cells xs.toArray t)) w.heap.size xs := by
  intro i hi
  rw [cell_of_row _ _ _ _ _ _ (heap_alloc_new w _)]
  simp [hi]
theorem Cur.alloc {w : World} {p : Nat} (h : Cur w p) (o : Obj) : Cur (w.alloc o) p := h.on ((Below.refl _ _).alloc (Nat.le_refl _) _)
theorem Cur.far {w w' : World} {p g : Nat} (h : Cur w p) (hg : w.grownBy w' (some g)) (hlt : p < g) : Cur w' p :=
  h.keep (fun k hk => hg.block k (by have := h.lt; omega) (fun e => by injection e with e; omega))
end Go.Proofs.YtlhemcjahcmdeaaGreatDoor
namespace Go.Proofs.YtlhemcjahcmdeaaGreatDoor
open Go.RowKit
set_option maxRecDepth 100000
set_option linter.unusedSimpArgs false
set_option linter.unusedVariables false

/-- A valid list of versions with small Ids. -/
def GoodG (l : List AgeD) : Prop := agesOkB l = true ∧ ∀ x ∈ l, x.a ≤ 8
theorem GoodG.nil : GoodG [] := ⟨by rfl, fun x hx => by simp at hx⟩
theorem insG_mem {l : List AgeD} {x y : AgeD} : y ∈ insG l x ↔ y = x ∨ y ∈ l := by
  unfold insG
  rw [List.mem_append, List.mem_cons]
  constructor
  · rintro (h | h | h)
    · exact .inr (List.mem_of_mem_take h)
    · exact .inl h
    · exact .inr (List.mem_of_mem_drop h)
  · rintro (h | h)
    · exact .inr (.inl h)
    · have h2 : y ∈ l.take (plG l x.a) ++ l.drop (plG l x.a) := by rw [List.take_append_drop]; exact h
      rcases List.mem_append.1 h2 with h3 | h3
      · exact .inl h3
      · exact .inr (.inr h3)
theorem GoodG.new {l : List AgeD} {d f : Int} (h : GoodG l) (hd : d ≤ 8) : GoodG (newK l d f) := by
  unfold newK
  split
  · next ho =>
    refine ⟨?_, fun x hx => ?_⟩
    · simp only [newOk, Bool.and_eq_true] at ho
      exact ho.2
    · rcases insG_mem.1 hx with rfl | hx
      · exact hd
      · exact h.2 x hx
  · exact h
end Go.Proofs.YtlhemcjahcmdeaaGreatDoor
namespace Go.Proofs.YtlhemcjahcmdeaaGreatDoor
open Go.RowKit
set_option maxRecDepth 100000
set_option linter.unusedSimpArgs false
set_option linter.unusedVariables false

/-- A valid list of versions. -/
structure VP (l : List AgeD) : Prop where
  asc : l.Pairwise (fun x y => x.a < y.a)
  fit : ∀ x ∈ l, 1 ≤ x.a ∧ x.a ≤ 60 ∧ (x.b = 0 ∨ ∃ y ∈ l, y.a = x.b ∧ y.a < x.a)
  len : l.length ≤ 16
theorem has_iff {l : List AgeD} {d : Int} : hasG l d = true ↔ ∃ y ∈ l, y.a = d := by
  unfold hasG ageI
  rw [decide_eq_true_iff, List.findIdx_lt_length]
  simp
theorem has_no {l : List AgeD} {d : Int} (h : ∀ y ∈ l, y.a ≠ d) : hasG l d = false := by
  rw [Bool.eq_false_iff]
  intro h2
  obtain ⟨y, hy, e⟩ := has_iff.1 h2
  exact h y hy e
theorem asc_lt {l : List AgeD} (h : l.Pairwise (fun x y => x.a < y.a)) {i j : Nat} (hi : i < l.length) (hj : j < l.length) (hij : i < j) : (l[i]).a < (l[j]).a := List.pairwise_iff_getElem.1 h i j hi hj hij
theorem asc_idx {l : List AgeD} (h : l.Pairwise (fun x y => x.a < y.a)) {i j : Nat} (hi : i < l.length) (hj : j < l.length) (hlt : (l[i]).a < (l[j]).a) : i < j := by
  rcases Nat.lt_trichotomy i j with h1 | h1 | h1
  · exact h1
  · subst h1
    omega
  · have := asc_lt h hj hi h1
    omega
theorem rise_asc {l : List AgeD} (h : riseG l = true) : l.Pairwise (fun x y => x.a < y.a) := by
  have h1 := of_decide_eq_true h
  rw [List.pairwise_iff_getElem]
  intro i j hi hj hij
  obtain ⟨n, rfl⟩ : ∃ n, j = i + 1 + n := ⟨j - (i + 1), by omega⟩
  clear hij
  induction n with
  | zero => exact h1 i (by omega)
  | succ n ih =>
    have h2 := ih (by omega)
    have h3 := h1 (i + 1 + n) (by omega)
    exact Int.lt_trans h2 h3
theorem gasc_rise {l : List AgeD} (h : l.Pairwise (fun x y => x.a < y.a)) : riseG l = true := decide_eq_true (fun i hi => asc_lt h (by omega) (by omega) (by omega))
theorem ok_vp {l : List AgeD} (h : agesOkB l = true) : VP l := by
  simp only [agesOkB, Bool.and_eq_true, decide_eq_true_iff] at h
  obtain ⟨⟨h1, h2⟩, h3⟩ := h
  have ha := rise_asc h2
  refine ⟨ha, fun x hx => ?_, h3⟩
  obtain ⟨i, hi, rfl⟩ := List.getElem_of_mem hx
  have hf := h1 i hi
  rw [gfit_at hi] at hf
  simp only [idG, parGB, Bool.and_eq_true, Bool.or_eq_true, decide_eq_true_iff, beq_iff_eq] at hf
  obtain ⟨⟨h4, h5⟩, h6⟩ := hf
  refine ⟨h4, h5, ?_⟩
  rcases h6 with h6 | h6
  · exact .inl h6
  · obtain ⟨y, hy, he⟩ := has_iff.1 h6
    obtain ⟨k, hk, rfl⟩ := List.getElem_of_mem hy
    have hk' : k < i := by simp at hk; omega
    rw [List.getElem_take] at he
    refine .inr ⟨l[k], List.getElem_mem _, he, asc_lt ha (by omega) hi hk'⟩
theorem vp_ok {l : List AgeD} (h : VP l) : agesOkB l = true := by
  simp only [agesOkB, Bool.and_eq_true, decide_eq_true_iff]
  refine ⟨⟨fun i hi => ?_, gasc_rise h.asc⟩, h.len⟩
  rw [gfit_at hi]
  obtain ⟨h1, h2, h3⟩ := h.fit _ (List.getElem_mem hi)
  simp only [idG, parGB, Bool.and_eq_true, Bool.or_eq_true, decide_eq_true_iff, beq_iff_eq]
  refine ⟨⟨h1, h2⟩, ?_⟩
  rcases h3 with h3 | ⟨y, hy, he, hlt⟩
  · exact .inl h3
  · refine .inr (has_iff.2 ⟨y, ?_, he⟩)
    obtain ⟨k, hk, rfl⟩ := List.getElem_of_mem hy
    have hki := asc_idx h.asc hk hi hlt
    rw [List.mem_take_iff_getElem]
    exact ⟨k, by omega, rfl⟩
theorem vp_iff {l : List AgeD} : agesOkB l = true ↔ VP l := ⟨ok_vp, vp_ok⟩
end Go.Proofs.YtlhemcjahcmdeaaGreatDoor
namespace Go.Proofs.YtlhemcjahcmdeaaGreatDoor
open Go.RowKit
set_option maxRecDepth 100000
set_option linter.unusedSimpArgs false
set_option linter.unusedVariables false

theorem less_iff (x y : KeyD) : lessK x y = true ↔ (x.a < y.a ∨ (x.a = y.a ∧ x.b < y.b)) := by
  simp only [lessK, lessB]
  by_cases h : x.a = y.a
  · simp [h]
  · simp [h]
theorem spot_iff (x y : KeyD) : spotK x y = true ↔ (x.a = y.a ∧ x.b = y.b) := by simp [spotK, spotB]
theorem spotB_iff (a b c d : Int) : spotB a b c d = true ↔ (a = c ∧ b = d) := by simp [spotB]
theorem less_trans {x y z : KeyD} (h : lessK x y = true) (k : lessK y z = true) : lessK x z = true := by
  rw [less_iff] at *
  omega
theorem less_tri {x y : KeyD} (h : lessK y x = false) (k : spotK y x = false) : lessK x y = true := by
  have h' : ¬ lessK y x = true := by rw [h]; simp
  have k' : ¬ spotK y x = true := by rw [k]; simp
  rw [less_iff] at *
  rw [spot_iff] at k'
  omega
/-- Ascending. -/
abbrev Asc (l : List KeyD) : Prop := l.Pairwise (fun x y => lessK x y = true)
theorem place_take {l : List KeyD} {k x : KeyD} (h : x ∈ l.take (placeK l k)) : lessK x k = true := by
  obtain ⟨i, hi, rfl⟩ := List.mem_take_iff_getElem.1 h
  have := List.not_of_lt_findIdx (show i < l.findIdx (fun x => !lessK x k) by unfold placeK at hi; omega)
  simpa using this
theorem place_drop {l : List KeyD} {k y : KeyD} (ha : Asc l) (h : y ∈ l.drop (placeK l k)) : lessK y k = false := by
  obtain ⟨i, hi, rfl⟩ := List.mem_drop_iff_getElem.1 h
  have hlt : placeK l k < l.length := by omega
  have h0 : lessK l[placeK l k] k = false := by
    have : (!lessK l[placeK l k] k) = true := List.findIdx_getElem (p := fun x => !lessK x k) (xs := l) (w := hlt)
    simpa using this
  by_cases hi0 : i = 0
  · subst hi0; simpa using h0
  · have h1 : lessK l[placeK l k] l[placeK l k + i] = true := List.pairwise_iff_getElem.1 ha _ _ hlt (by omega) (by omega)
    cases hc : lessK l[placeK l k + i] k with
    | false => rfl
    | true => rw [less_trans h1 hc] at h0; cases h0
theorem Asc.put {l : List KeyD} (h : Asc l) (k : KeyD) : Asc (putK l k) := by
  have hs : Asc (l.take (placeK l k) ++ l.drop (placeK l k)) := by rw [List.take_append_drop]; exact h
  rw [put_eq]
  obtain ⟨h1, h2, h3⟩ := List.pairwise_append.1 hs
  refine List.pairwise_append.2 ⟨h1, List.pairwise_cons.2 ⟨fun y hy => ?_, h2.filter _⟩, fun x hx y hy => ?_⟩
  · obtain ⟨hy1, hy2⟩ := List.mem_filter.1 hy
    exact less_tri (place_drop h hy1) (by simpa using hy2)
  · rcases List.mem_cons.1 hy with rfl | hy
    · exact place_take hx
    · exact h3 x hx y (List.mem_filter.1 hy).1
theorem ok_put {l : List KeyD} {k : KeyD} (h : l.all okK = true) (hk : okK k = true) : (putK l k).all okK = true := by
  rw [List.all_eq_true] at *
  intro x hx
  rw [put_eq] at hx
  rcases List.mem_append.1 hx with hx | hx
  · exact h x (List.mem_of_mem_take hx)
  · rcases List.mem_cons.1 hx with rfl | hx
    · exact hk
    · exact h x (List.mem_of_mem_drop (List.mem_filter.1 hx).1)
theorem at_mem {l : List KeyD} {p q : Int} {k : KeyD} (h : atK l p q = some k) : k ∈ l ∧ k.a = p ∧ k.b = q := by
  have h1 := List.mem_of_find?_eq_some h
  have h2 := List.find?_some h
  exact ⟨h1, (spotB_iff _ _ _ _).1 h2⟩
theorem at_none {l : List KeyD} {p q : Int} (h : atK l p q = none) : ∀ k ∈ l, ¬ (k.a = p ∧ k.b = q) := by
  intro k hk
  have := List.find?_eq_none.1 h k hk
  rw [spotB_iff] at this
  exact this
theorem at_uniq {l : List KeyD} (h : Asc l) {k : KeyD} (hk : k ∈ l) : atK l k.a k.b = some k := by
  induction l with
  | nil => simp at hk
  | cons x t ih =>
    obtain ⟨h1, h2⟩ := List.pairwise_cons.1 h
    unfold atK
    rw [List.find?_cons]
    rcases List.mem_cons.1 hk with rfl | hk
    · rw [(spotB_iff _ _ _ _).2 ⟨rfl, rfl⟩]
    · have hf : spotB x.a x.b k.a k.b = false := less_spot (h1 k hk)
      rw [hf]
      exact ih h2 hk
theorem at_put (l : List KeyD) (k : KeyD) (p q : Int) : atK (putK l k) p q = if k.a = p ∧ k.b = q then some k else atK l p q := by
  have hl : atK l p q = atK (l.take (placeK l k) ++ l.drop (placeK l k)) p q := by rw [List.take_append_drop]
  rw [put_eq]
  unfold atK at *
  rw [List.find?_append, List.find?_cons]
  by_cases h : k.a = p ∧ k.b = q
  · rw [if_pos h, (spotB_iff _ _ _ _).2 h]
    have : (l.take (placeK l k)).find? (fun x => spotB x.a x.b p q) = none := by
      rw [List.find?_eq_none]
      intro x hx
      have h1 := less_spot (place_take hx)
      obtain ⟨rfl, rfl⟩ := h
      have : spotB x.a x.b k.a k.b = false := h1
      rw [this]; simp
    rw [this]; rfl
  · rw [if_neg h, hl, List.find?_append]
    have hf : spotB k.a k.b p q = false := by
      cases hc : spotB k.a k.b p q with
      | false => rfl
      | true => exact absurd ((spotB_iff _ _ _ _).1 hc) h
    rw [hf, List.find?_filter]
    refine congrArg _ (congrArg (fun f => List.find? f _) ?_)
    funext x
    cases hx : spotB x.a x.b p q with
    | false => simp
    | true =>
      have : spotK x k = false := by
        cases hc : spotK x k with
        | false => rfl
        | true =>
          have h1 := (spot_iff _ _).1 hc
          have h2 := (spotB_iff _ _ _ _).1 hx
          exact absurd ⟨h1.1.symm.trans h2.1, h1.2.symm.trans h2.2⟩ h
      simp [this]
theorem Asc.merge {a b : List KeyD} (h : Asc a) : Asc (mergeK a b) := by
  unfold mergeK
  induction b generalizing a with
  | nil => exact h
  | cons k b ih => exact ih (h.put k)
theorem ok_merge {a b : List KeyD} (h : a.all okK = true) (hb : b.all okK = true) : (mergeK a b).all okK = true := by
  unfold mergeK
  induction b generalizing a with
  | nil => exact h
  | cons k b ih =>
    simp only [List.all_cons, Bool.and_eq_true] at hb
    exact ih (ok_put h hb.1) hb.2
theorem merge_miss {a b : List KeyD} {p q : Int} (h : ∀ k ∈ b, ¬ (k.a = p ∧ k.b = q)) : atK (mergeK a b) p q = atK a p q := by
  unfold mergeK
  induction b generalizing a with
  | nil => rfl
  | cons k b ih =>
    rw [List.foldl_cons, ih (fun x hx => h x (by simp [hx])), at_put, if_neg (h k (by simp))]
theorem merge_hit {a b : List KeyD} (hb : Asc b) {y : KeyD} (hy : y ∈ b) : atK (mergeK a b) y.a y.b = some y := by
  unfold mergeK
  induction b generalizing a with
  | nil => simp at hy
  | cons k b ih =>
    obtain ⟨h1, h2⟩ := List.pairwise_cons.1 hb
    rw [List.foldl_cons]
    rcases List.mem_cons.1 hy with rfl | hy
    · have := merge_miss (a := putK a y) (b := b) (p := y.a) (q := y.b) (fun x hx he => by
        have := less_spot (h1 x hx)
        rw [spot_comm] at this
        have h3 : spotK x y = true := (spot_iff _ _).2 he
        rw [h3] at this; cases this)
      unfold mergeK at this
      rw [this, at_put, if_pos ⟨rfl, rfl⟩]
    · exact ih h2 hy
theorem drop_kind {l : List KeyD} {k : KeyD} (h : k ∈ dropK l) : k.c ≠ 0 := by
  have := (List.mem_filter.1 h).2
  simpa using this
end Go.Proofs.YtlhemcjahcmdeaaGreatDoor
namespace Go.Proofs.YtlhemcjahcmdeaaGreatDoor
open Go.RowKit
set_option maxRecDepth 100000
set_option linter.unusedSimpArgs false
set_option linter.unusedVariables false

theorem asc_of {l : List KeyD} (h : ∀ i (h : i + 1 < l.length), lessK l[i] l[i + 1] = true) : Asc l := by
  induction l with
  | nil => exact .nil
  | cons x t ih =>
    have ht : Asc t := ih (fun i hi => by have := h (i + 1) (by simp; omega); simpa using this)
    refine List.pairwise_cons.2 ⟨fun y hy => ?_, ht⟩
    cases t with
    | nil => simp at hy
    | cons z t' =>
      have h0 : lessK x z = true := by have := h 0 (by simp); simpa using this
      rcases List.mem_cons.1 hy with rfl | hy
      · exact h0
      · exact less_trans h0 ((List.pairwise_cons.1 ht).1 y hy)
theorem asc_rise {l : List KeyD} (h : riseB l = true) : Asc l := asc_of (fun i hi => (of_decide_eq_true h) i (by omega))
/-- Every set ascends, every key is valid. -/
def FineN (ns : List (List KeyD)) : Prop := ∀ l ∈ ns, Asc l ∧ l.all okK = true
theorem fine_of {ns : List (List KeyD)} (h : nodeOkB ns = true) : FineN ns := by
  intro l hl
  simp only [nodeOkB, Bool.and_eq_true, List.all_eq_true] at h
  have h1 := h.1.1 l hl
  simp only [okL, setOkB, Bool.and_eq_true] at h1
  exact ⟨asc_rise h1.1.1.2, h1.1.1.1⟩
theorem at_merge {a b : List KeyD} (hb : Asc b) (p q : Int) : atK (mergeK a b) p q = (atK b p q).or (atK a p q) := by
  cases h : atK b p q with
  | none => rw [merge_miss (at_none h)]; rfl
  | some y =>
    obtain ⟨h1, h2, h3⟩ := at_mem h
    have := merge_hit (a := a) hb h1
    rw [h2, h3] at this
    rw [this]; rfl
def newest : List (List KeyD) → Int → Int → Option KeyD
  | [], _, _ => none
  | l :: r, p, q => (atK l p q).or (newest r p q)
theorem newest_app (r s : List (List KeyD)) (p q : Int) : newest (r ++ s) p q = (newest r p q).or (newest s p q) := by
  induction r with
  | nil => rfl
  | cons l r ih => simp only [List.cons_append, newest, ih, Option.or_assoc]
theorem atRev_new (r : List (List KeyD)) (p q : Int) : atRev r p q = pickO (newest r p q) := by
  induction r with
  | nil => rfl
  | cons l r ih =>
    unfold atRev newest
    cases atK l p q with
    | none => simpa using ih
    | some x => rfl
theorem at_fold {ns : List (List KeyD)} (h : FineN ns) (a : List KeyD) (p q : Int) : atK (ns.foldl mergeK a) p q = (newest ns.reverse p q).or (atK a p q) := by
  induction ns generalizing a with
  | nil => rfl
  | cons l ns ih =>
    rw [List.foldl_cons, ih (fun x hx => h x (by simp [hx])), at_merge (h l (by simp)).1, List.reverse_cons, newest_app, Option.or_assoc]
    simp [newest]
theorem fold_asc {ns : List (List KeyD)} (a : List KeyD) (ha : Asc a) : Asc (ns.foldl mergeK a) := by
  induction ns generalizing a with
  | nil => exact ha
  | cons l ns ih => exact ih _ ha.merge
theorem fold_ok {ns : List (List KeyD)} (h : FineN ns) (a : List KeyD) (ha : a.all okK = true) : (ns.foldl mergeK a).all okK = true := by
  induction ns generalizing a with
  | nil => exact ha
  | cons l ns ih => exact ih (fun x hx => h x (by simp [hx])) _ (ok_merge ha (h l (by simp)).2)
theorem nodeAt_new (ns : List (List KeyD)) (p q : Int) : nodeAtK ns p q = pickO (newest ns.reverse p q) := atRev_new _ _ _
theorem drop_asc {l : List KeyD} (h : Asc l) : Asc (dropK l) := h.sublist List.filter_sublist
theorem drop_ok {l : List KeyD} (h : l.all okK = true) : (dropK l).all okK = true := by
  rw [List.all_eq_true] at h ⊢
  exact fun x hx => h x (List.mem_filter.1 hx).1
theorem at_drop {l : List KeyD} (h : Asc l) (p q : Int) : atK (dropK l) p q = pickO (atK l p q) := by
  cases hk : atK l p q with
  | none =>
    cases hd : atK (dropK l) p q with
    | none => rfl
    | some y =>
      obtain ⟨h1, h2⟩ := at_mem hd
      exact absurd h2 (at_none hk y (List.mem_filter.1 h1).1)
  | some k =>
    obtain ⟨h1, h2, h3⟩ := at_mem hk
    show _ = if k.c = 0 then none else some k
    by_cases h0 : k.c = 0
    · rw [if_pos h0]
      cases hd : atK (dropK l) p q with
      | none => rfl
      | some y =>
        obtain ⟨h4, h5, h6⟩ := at_mem hd
        have := at_uniq h (List.mem_filter.1 h4).1
        rw [h5, h6, hk] at this
        injection this with this
        subst this
        exact absurd h0 (drop_kind h4)
    · rw [if_neg h0]
      have hm : k ∈ dropK l := List.mem_filter.2 ⟨h1, by simpa using h0⟩
      have := at_uniq (drop_asc h) hm
      rw [h2, h3] at this
      exact this
theorem keys_asc (ns : List (List KeyD)) : Asc (nodeKeysK ns) := drop_asc (fold_asc _ .nil)
theorem keys_ok {ns : List (List KeyD)} (h : FineN ns) : (nodeKeysK ns).all okK = true := drop_ok (fold_ok h _ rfl)
theorem at_keys {ns : List (List KeyD)} (h : FineN ns) (p q : Int) : atK (nodeKeysK ns) p q = nodeAtK ns p q := by
  unfold nodeKeysK
  rw [at_drop (fold_asc _ .nil), at_fold h, nodeAt_new]
  cases newest ns.reverse p q <;> rfl
theorem key_there {ns : List (List KeyD)} (h : FineN ns) {y : KeyD} (hy : y ∈ nodeKeysK ns) : nodeAtK ns y.a y.b = some y := by
  rw [← at_keys h]
  exact at_uniq (keys_asc ns) hy
end Go.Proofs.YtlhemcjahcmdeaaGreatDoor
namespace Go.Proofs.YtlhemcjahcmdeaaGreatDoor
open Go.RowKit
set_option maxRecDepth 100000
set_option linter.unusedSimpArgs false
set_option linter.unusedVariables false
theorem reads_kvl {w : World} {B b off c : Nat} {l : List KeyD} (hb : b < B) (hc : l.length ≤ c) (hm : c ≤ maxLen) (h : ∀ i (hi : i < (kvl l).length), w.cell? ⟨b, off + i, none⟩ = some (kvl l)[i]) : Reads w B (.slice (some ⟨b, off, none⟩) l.length c) (keysD l) := by
  refine .row b off l.length c _ 5 (kvl l) _ hb hc hm (keys_len l) (by rw [kvl_len, keys_len]) h (fun i h1 h2 => ?_)
  have e : (l.flatMap kC)[i] = .lit (kvl l)[i] := by
    have h3 := kC_map l
    have h4 : (l.flatMap kC)[i]? = some (.lit (kvl l)[i]) := by rw [h3]; simp [h1]
    rw [List.getElem?_eq_getElem h2] at h4
    exact Option.some.inj h4
  rw [e]
  exact .lit _
theorem RowK.parts {w : World} {base : Nat} {A : Option Addr} {n c : Nat} {l : List KeyD} (h : RowK w base (.slice A n c) l) (k : Nat) (hkl : k < l.length) : ∃ g, A = some ⟨g, 0, none⟩ ∧ l.length ≤ c ∧ Reads w w.heap.size (.slice (some ⟨g, 0, none⟩) k c) (keysD (l.take k)) ∧ Reads w w.heap.size (.slice (some ⟨g, k * 5, none⟩) (l.length - k) (c - k)) (keysD (l.drop k)) ∧ Five w g (k * 5) l[k] := by
  have hr := h.owns.reads
  obtain ⟨A', c', hv, hc, hm⟩ := hr.shapeK
  cases hv
  rcases row_cases (h : w.ownsRow _ _ _ _ _ _) with ⟨_, h0, _⟩ | ⟨g, cap, hv, _, hR, _, _, _⟩
  · omega
  · cases hv
    have hkv : kvl l = kvl (l.take k) ++ kvl (l.drop k) := by rw [← kvl_append, List.take_append_drop]
    have hl1 : (kvl (l.take k)).length = k * 5 := by rw [kvl_len, List.length_take, Nat.min_eq_left (by omega)]
    have hcell : ∀ i (hi : i < (kvl l).length), w.cell? ⟨g, i, none⟩ = some (kvl l)[i] := fun i hi => hR.cell hi
    refine ⟨g, rfl, hc, ?_, ?_, ?_⟩
    · have h1 := reads_kvl (w := w) (B := w.heap.size) (b := g) (off := 0) (c := c) (l := l.take k) hR.lt (by simp; omega) hm (fun i hi => by
        rw [Nat.zero_add, hcell i (by rw [hkv, List.length_append]; omega)]
        simp only [hkv]
        rw [List.getElem_append_left hi])
      rw [show (l.take k).length = k by simp; omega] at h1
      exact h1
    · have h1 := reads_kvl (w := w) (B := w.heap.size) (b := g) (off := k * 5) (c := c - k) (l := l.drop k) hR.lt (by simp; omega) (by omega) (fun i hi => by
        rw [hcell (k * 5 + i) (by rw [hkv, List.length_append, hl1]; omega)]
        simp only [hkv]
        rw [List.getElem_append_right (by omega)]
        simp only [hl1, Nat.add_sub_cancel_left])
      rw [show (l.drop k).length = l.length - k by simp] at h1
      exact h1
    · obtain ⟨b', off', he, _, hc'⟩ := hr.keys hkl
      cases he
      have := hc' k hkl
      rw [Nat.zero_add] at this
      exact this
end Go.Proofs.YtlhemcjahcmdeaaGreatDoor
namespace Go.Proofs.YtlhemcjahcmdeaaGreatDoor
open Go.RowKit
set_option maxRecDepth 100000
set_option linter.unusedSimpArgs false
set_option linter.unusedVariables false

theorem newest_in {r : List (List KeyD)} {p q : Int} {x : KeyD} (h : newest r p q = some x) : ∃ l ∈ r, x ∈ l := by
  induction r with
  | nil => cases h
  | cons l r ih =>
    unfold newest at h
    cases ha : atK l p q with
    | some y =>
      rw [ha] at h
      simp at h
      subst h
      exact ⟨l, by simp, (at_mem ha).1⟩
    | none =>
      rw [ha] at h
      simp at h
      obtain ⟨l', h1, h2⟩ := ih h
      exact ⟨l', by simp [h1], h2⟩
theorem keys_in {ns : NodeD} (h : FineN ns) {x : KeyD} (hx : x ∈ nodeKeysK ns) : ∃ l ∈ ns, x ∈ l := by
  have h1 := key_there h hx
  rw [nodeAt_new] at h1
  have h2 : newest ns.reverse x.a x.b = some x := by
    cases hn : newest ns.reverse x.a x.b with
    | none => rw [hn] at h1; cases h1
    | some y =>
      rw [hn] at h1
      unfold pickO at h1
      simp only at h1
      split at h1
      · cases h1
      · exact h1
  obtain ⟨l, h3, h4⟩ := newest_in h2
  exact ⟨l, List.mem_reverse.1 h3, h4⟩
theorem keys_okm {ns : NodeD} (h : FineN ns) {x : KeyD} (hx : x ∈ nodeKeysK ns) : okK x = true := List.all_eq_true.1 (keys_ok h) x hx
/-- A node with its lower bound, below v. -/
def NodeQ (l : Int) (n : NodeD) (v : Int) : Prop := l < v ∧ nodeOkB n = true ∧ (l = 0 ∨ 0 < (nodeKeysK n).length) ∧ ∀ s ∈ n, ∀ y ∈ s, l ≤ spotI y.a y.b ∧ spotI y.a y.b < v
theorem NodeQ.up {l : Int} {n : NodeD} {u v : Int} (h : NodeQ l n u) (hv : u ≤ v) : NodeQ l n v := ⟨by have := h.1; omega, h.2.1, h.2.2.1, fun s hs y hy => ⟨(h.2.2.2 s hs y hy).1, by have := (h.2.2.2 s hs y hy).2; omega⟩⟩
theorem NodeQ.key {l : Int} {n : NodeD} {v : Int} (h : NodeQ l n v) {y : KeyD} (hy : y ∈ nodeKeysK n) : l ≤ spotI y.a y.b ∧ spotI y.a y.b < v ∧ okK y = true ∧ y.c ≠ 0 := by
  obtain ⟨s, hs, hys⟩ := keys_in (fine_of h.2.1) hy
  have := h.2.2.2 s hs y hys
  exact ⟨this.1, this.2, keys_okm (fine_of h.2.1) hy, drop_kind hy⟩
end Go.Proofs.YtlhemcjahcmdeaaGreatDoor
namespace Go.Proofs.YtlhemcjahcmdeaaGreatDoor
open Go.RowKit
set_option maxRecDepth 100000
set_option linter.unusedSimpArgs false
set_option linter.unusedVariables false

def nearB (path : List Int) (o : Option KeyD) (k : KeyD) : Bool := decide (k.b ∈ path) && (match o with | none => true | some x => decide (x.b < k.b))
def nearS (path : List Int) (o : Option KeyD) (k : KeyD) : Option KeyD := if nearB path o k then some k else o
/-- The key with the greatest version of the path, the first of these. -/
def nearK (l : List KeyD) (path : List Int) : Option KeyD := l.foldl (nearS path) none
/-- What the model's walk up yields in a valid list. -/
def pathSGo (l : List AgeD) : Nat → Int → List Int
  | 0, _ => []
  | n + 1, d => if hasG l d then d :: pathSGo l n (parG l d) else []
theorem pathS_no {l : List AgeD} {d : Int} (h : hasG l d = false) (n : Nat) : pathSGo l n d = [] := by
  cases n with
  | zero => rfl
  | succ n => rw [pathSGo, h]; rfl
theorem pathS_yes {l : List AgeD} {d : Int} (h : hasG l d = true) (n : Nat) : pathSGo l (n + 1) d = d :: pathSGo l n (parG l d) := by
  rw [pathSGo, h]; rfl
theorem vp_zero {l : List AgeD} (h : VP l) : hasG l 0 = false := has_no (fun y hy => by have := h.fit y hy; omega)
theorem pathS_eq {l : List AgeD} (h : VP l) : ∀ (n : Nat) (d : Int), pathSGo l n d = pathGo l n d := by
  intro n
  induction n with
  | zero => intro d; rfl
  | succ n ih =>
    intro d
    cases hh : hasG l d
    · rw [pathS_no hh, pathGo_no hh]
    · rw [pathS_yes hh, pathGo_yes hh, ih]
      by_cases h0 : parG l d = 0
      · rw [h0, pathGo_no (vp_zero h)]
        rfl
      · have : (parG l d == 0) = false := by simpa using h0
        rw [this]
        rfl
end Go.Proofs.YtlhemcjahcmdeaaGreatDoor
namespace Go.Proofs.YtlhemcjahcmdeaaGreatDoor
open Go.RowKit
set_option maxRecDepth 100000
set_option linter.unusedSimpArgs false
set_option linter.unusedVariables false

def blockK (d : PoolD) (v : VolD) (b : Int) : Int := match nearK (keysOfK d.ts b) (pathK d.ag v.b) with | none => 0 | some k => if k.c = 1 then cellK d.ce k.d k.e else 0
def readK (d : PoolD) (s : ByteArray) (b : Int) : Int × Int :=
  if mayB d s then (if volK s d.vo < 0 then (0, 2) else if hasB (volD d s) b then (blockK d (volD d s) b, 0) else (0, 4)) else (0, 1)
end Go.Proofs.YtlhemcjahcmdeaaGreatDoor
namespace Go.Proofs.YtlhemcjahcmdeaaGreatDoor
open Go.RowKit Go.Extern.Stop Go.Stop Go.Extern
set_option maxRecDepth 100000
set_option linter.unusedSimpArgs false
set_option linter.unusedVariables false

/-- The variable of package errors that errors.As reads, as its initialiser lays it. -/
def ErrT (w : World) : Prop := w.cell? ⟨0, 0, none⟩ = some (.iface 253 (.agg #[.pointer (some ⟨1, 76, none⟩)]))
theorem ErrT.size {w : World} (h : ErrT w) : 0 < w.heap.size := by
  rcases Nat.eq_zero_or_pos w.heap.size with h0 | h1
  · unfold ErrT at h
    simp [World.cell?, h0] at h
  · exact h1
theorem ErrT.on {w w' : World} {B : Nat} (h : ErrT w) (hb : Below B w w') (hB : 0 < B) : ErrT w' := by
  unfold ErrT at h ⊢
  rw [← h]
  exact hb.cell (p := ⟨0, 0, none⟩) hB
theorem as_nil (t : Value) (w : World) : Calls Tryz.prog 113 #[.nilIface, t] w fun e w' => e = .returned (.bool false) ∧ w' = w := by
  go_enter Tryz.func113, Tryz.ntmps113
  go_wp2
  go_ret
  exact ⟨rfl, rfl⟩
theorem reValueP (t : Addr) (w : World) : (ReflectliteValue.unpack (.iface 140 (.pointer (some t)))).run Tryz.prog w = .ok (.agg #[.pointer (some ⟨1, 140, none⟩), .pointer (some ⟨w.heap.size, 0, none⟩), .int .u64 150]) (w.alloc (.cells #[.pointer (some t)] 140)) := by kernel_rfl
theorem reTypeP (a : Addr) (w : World) : (ReflectliteValue.methodAny (ReflectliteValue.valueError "reflectlite.Value.Type" 0) (fun t _ _ _ => ReflectliteType.toType t) #[.agg #[.pointer (some ⟨1, 140, none⟩), .pointer (some a), .int .u64 150]]).run Tryz.prog w = .ok (.iface 253 (.agg #[.pointer (some ⟨1, 140, none⟩)])) w := by kernel_rfl
theorem reMKind (h : Value) (w : World) : (Go.method 489 253 (.agg #[h]) "Kind").run Tryz.prog w = .ok (387, h) w := by kernel_rfl
theorem reKindP (w : World) : ((ReflectliteType.abiMethod fun t => (fun a : Nat => Value.int IntKind.u8 (a : Int)) <$> Rtype.kind t) #[.pointer (some ⟨1, 140, none⟩)]).run Tryz.prog w = .ok (.int .u8 22) w := by kernel_rfl
theorem reKindT (w : World) : ((ReflectliteType.abiMethod fun t => (fun a : Nat => Value.int IntKind.u8 (a : Int)) <$> Rtype.kind t) #[.pointer (some ⟨1, 137, none⟩)]).run Tryz.prog w = .ok (.int .u8 25) w := by kernel_rfl
theorem rlm (z : Sem Value) (f : TypeId → Addr → Nat → Nat → Sem Value) (v : Value) : ReflectliteValue.method z f #[v] = (do match ← ReflectliteValue.parts v with | none => z | some (t, a, fl) => f t a fl (fl % 32)) := rfl
theorem rePartsP (a : Addr) (w : World) : (ReflectliteValue.parts (.agg #[.pointer (some ⟨1, 140, none⟩), .pointer (some a), .int .u64 150])).run Tryz.prog w = .ok (some (140, a, 150)) w := by kernel_rfl
theorem reNilP (a p : Addr) (W : World) (ha : W.cell? a = some (.pointer (some p))) :
    (ReflectliteValue.method (ReflectliteValue.valueError "reflectlite.Value.IsNil" 0) ReflectliteValue.isNil #[.agg #[.pointer (some ⟨1, 140, none⟩), .pointer (some a), .int .u64 150]]).run Tryz.prog W = .ok (.bool false) W := by
  rw [rlm]
  simp only [Sem.run_bind, rePartsP, Result.andThen]
  simp [ReflectliteValue.isNil, loadVar, isAgg, underlying, Tryz.underlying140, ha, Result.andThen]
theorem reMElem (h : Value) (w : World) : (Go.method 489 253 (.agg #[h]) "Elem").run Tryz.prog w = .ok (398, .agg #[h]) w := by kernel_rfl
theorem reMImpl (h : Value) (w : World) : (Go.method 489 253 (.agg #[h]) "Implements").run Tryz.prog w = .ok (399, .agg #[h]) w := by kernel_rfl
theorem reMAssign (h : Value) (w : World) : (Go.method 489 253 (.agg #[h]) "AssignableTo").run Tryz.prog w = .ok (396, .agg #[h]) w := by kernel_rfl
theorem reElemP (w : World) : (ReflectliteType.method ReflectliteType.elem #[.agg #[.pointer (some ⟨1, 140, none⟩)]]).run Tryz.prog w = .ok (.iface 253 (.agg #[.pointer (some ⟨1, 137, none⟩)])) w := by kernel_rfl
theorem reImplT (w : World) : (ReflectliteType.relation "Implements" ReflectliteType.implements_ #[.agg #[.pointer (some ⟨1, 137, none⟩)], .iface 253 (.agg #[.pointer (some ⟨1, 76, none⟩)])]).run Tryz.prog w = .ok (.bool true) w := by kernel_rfl
theorem reTypeT (v : Value) (w : World) : (ReflectliteType.typeOf #[.iface 137 v]).run Tryz.prog w = .ok (.iface 253 (.agg #[.pointer (some ⟨1, 137, none⟩)])) w := by kernel_rfl
theorem reAssignT (w : World) : (ReflectliteType.relation "AssignableTo" ReflectliteType.assignableTo #[.agg #[.pointer (some ⟨1, 137, none⟩)], .iface 253 (.agg #[.pointer (some ⟨1, 137, none⟩)])]).run Tryz.prog w = .ok (.bool true) w := by kernel_rfl
theorem reValueT (c : Int) (w : World) : (ReflectliteValue.unpack (.iface 137 (.agg #[.int .i64 c]))).run Tryz.prog w = .ok (.agg #[.pointer (some ⟨1, 137, none⟩), .pointer (some ⟨w.heap.size, 0, none⟩), .int .u64 153]) (w.alloc (.cells #[.int .i64 c] 137)) := by kernel_rfl
theorem reElemOfP (w : World) : (Rtype.elem? 140).run Tryz.prog w = .ok (some 137) w := by kernel_rfl
theorem reMkT (p : Addr) (w : World) : (ReflectliteValue.mk 137 p ReflectliteValue.flagAddr).run Tryz.prog w = .ok (.agg #[.pointer (some ⟨1, 137, none⟩), .pointer (some p), .int .u64 409]) w := by kernel_rfl
theorem reElemVP (a p : Addr) (W : World) (ha : W.cell? a = some (.pointer (some p))) :
    (ReflectliteValue.method (ReflectliteValue.valueError "reflectlite.Value.Elem" 0) ReflectliteValue.elem #[.agg #[.pointer (some ⟨1, 140, none⟩), .pointer (some a), .int .u64 150]]).run Tryz.prog W = .ok (.agg #[.pointer (some ⟨1, 137, none⟩), .pointer (some p), .int .u64 409]) W := by
  rw [rlm]
  simp only [Sem.run_bind, rePartsP, Result.andThen]
  simp [ReflectliteValue.elem, loadVar, isAgg, underlying, Tryz.underlying140, ha, Result.andThen, reElemOfP, reMkT]
theorem rls (v x : Value) : ReflectliteValue.set #[v, x] = (do
    let (some (dst, a, fl), some (src, b, _)) := (← ReflectliteValue.parts v, ← ReflectliteValue.parts x)
      | unsupported (.noEntry "extern/(internal/reflectlite.Value).Set.zeroValue")
    if fl / ReflectliteValue.flagAddr % 2 == 0 then unsupported (.noEntry "extern/(internal/reflectlite.Value).Set.unaddressable")
    let val ← loadVar src b
    if ← Rtype.directlyAssignable dst src then storeVar dst a val
    else if ← Rtype.implements dst src then
      if (← Rtype.kind src) == 20 then
        match val with
        | .nilIface => unsupported (.noEntry "extern/reflectlite: a nil value of one interface type handed on as a value of another")
        | _ => storeVar dst a val
      else storeVar dst a (.iface src val)
    else panicString ("reflectlite.Set: value of type " ++ (← Rtype.spelt src) ++ " is not assignable to type " ++ (← Rtype.spelt dst))
    pure (.tuple #[])) := rfl
theorem rePartsA (a : Addr) (w : World) : (ReflectliteValue.parts (.agg #[.pointer (some ⟨1, 137, none⟩), .pointer (some a), .int .u64 409])).run Tryz.prog w = .ok (some (137, a, 409)) w := by kernel_rfl
theorem rePartsT (a : Addr) (w : World) : (ReflectliteValue.parts (.agg #[.pointer (some ⟨1, 137, none⟩), .pointer (some a), .int .u64 153])).run Tryz.prog w = .ok (some (137, a, 153)) w := by kernel_rfl
theorem reDirect (w : World) : (Rtype.directlyAssignable 137 137).run Tryz.prog w = .ok true w := by kernel_rfl
theorem reSizeT (w : World) : (sizeOf 137).run Tryz.prog w = .ok 1 w := by kernel_rfl
theorem reAggT (w : World) : (isAgg 137).run Tryz.prog w = .ok true w := by kernel_rfl
theorem reLoadT (b : Addr) (c : Int) (W : World) (hb : W.cell? b = some (.int .i64 c)) : (loadVar 137 b).run Tryz.prog W = .ok (.agg #[.int .i64 c]) W := by
  have h := run_loadCells_list (P := Tryz.prog) (w := W) b [.int .i64 c] (fun j v hj => by
    rcases j with _ | j
    · simp at hj
      subst hj
      rw [show b.add 0 = b by simp [Addr.add]]
      exact hb
    · simp at hj)
  unfold loadVar
  simp only [Sem.run_bind, reAggT, Result.andThen, if_true, reSizeT]
  simp only [List.length_singleton] at h
  rw [h]
  rfl
theorem reStoreT (a : Addr) (c : Int) (old : Value) (W : World) (ht : W.cell? a = some old) (hf : W.frozen? a = false) : (storeVar 137 a (.agg #[.int .i64 c])).run Tryz.prog W = .ok () (W.setCell a (.int .i64 c)) := by
  unfold storeVar
  simp only [Sem.run_bind, reSizeT, Result.andThen]
  rw [if_neg (fun h => h rfl)]
  simp [Value.cells, storeCells, Addr.add]
  rw [run_store Tryz.prog W a _ _ (by rfl)]
  simp [ht, hf]
theorem reSetT (ta b : Addr) (c : Int) (old : Value) (W : World) (hb : W.cell? b = some (.int .i64 c)) (ht : W.cell? ta = some old) (hf : W.frozen? ta = false) :
    (ReflectliteValue.set #[.agg #[.pointer (some ⟨1, 137, none⟩), .pointer (some ta), .int .u64 409], .agg #[.pointer (some ⟨1, 137, none⟩), .pointer (some b), .int .u64 153]]).run Tryz.prog W = .ok (.tuple #[]) (W.setCell ta (.int .i64 c)) := by
  rw [rls]
  simp only [Sem.run_bind, rePartsA, rePartsT, Result.andThen]
  simp [ReflectliteValue.flagAddr, reLoadT b c W hb, reStoreT ta c old W ht hf, Result.andThen, reDirect]
set_option maxHeartbeats 4000000 in
theorem as_hit (c : Int) (t : Addr) (old : Value) (w : World) (hg : ErrT w) (ht0 : w.cell? t = some old) (hf0 : w.frozen? t = false) :
    Calls Tryz.prog 113 #[.iface 137 (.agg #[.int .i64 c]), .iface 140 (.pointer (some t))] w fun ev w' => ev = .returned (.bool true) ∧ w' = ((((w.alloc (.cells #[.pointer (some t)] 140)).alloc (.cells #[.pointer (some ⟨1, 140, none⟩), .pointer (some ⟨w.heap.size, 0, none⟩), .int .u64 150] 207)).alloc (.cells #[.pointer (some ⟨1, 140, none⟩), .pointer (some ⟨w.heap.size, 0, none⟩), .int .u64 150] 207)).alloc (.cells #[.int .i64 c] 137)).setCell t (.int .i64 c) := by
  unfold ErrT at hg
  have h6 := @run_callFunc_extern Tryz.prog 172 _ (fun args => ReflectliteValue.unpack (args.getD 0 (.tuple #[]))) Tryz.func172 (by kernel_rfl) (by kernel_rfl) (by kernel_rfl) (by kernel_rfl)
  have h7 := @run_callFunc_extern Tryz.prog 173 _ (ReflectliteValue.methodAny (ReflectliteValue.valueError "reflectlite.Value.Type" 0) (fun t _ _ _ => ReflectliteType.toType t)) Tryz.func173 (by kernel_rfl) (by kernel_rfl) (by kernel_rfl) (by kernel_rfl)
  have h8 := @run_callFunc_extern Tryz.prog 174 _ (ReflectliteValue.method (ReflectliteValue.valueError "reflectlite.Value.IsNil" 0) ReflectliteValue.isNil) Tryz.func174 (by kernel_rfl) (by kernel_rfl) (by kernel_rfl) (by kernel_rfl)
  have h27 := @run_callFunc_extern Tryz.prog 387 _ (ReflectliteType.abiMethod fun t => do pure (.int .u8 (← Rtype.kind t))) Tryz.func387 (by kernel_rfl) (by kernel_rfl) (by kernel_rfl) (by kernel_rfl)
  have h37 := @run_callFunc_extern Tryz.prog 398 _ (ReflectliteType.method ReflectliteType.elem) Tryz.func398 (by kernel_rfl) (by kernel_rfl) (by kernel_rfl) (by kernel_rfl)
  have h38 := @run_callFunc_extern Tryz.prog 399 _ (ReflectliteType.relation "Implements" ReflectliteType.implements_) Tryz.func399 (by kernel_rfl) (by kernel_rfl) (by kernel_rfl) (by kernel_rfl)
  have h10 := @run_callFunc_extern Tryz.prog 229 _ ReflectliteType.typeOf Tryz.func229 (by kernel_rfl) (by kernel_rfl) (by kernel_rfl) (by kernel_rfl)
  have h35 := @run_callFunc_extern Tryz.prog 396 _ (ReflectliteType.relation "AssignableTo" ReflectliteType.assignableTo) Tryz.func396 (by kernel_rfl) (by kernel_rfl) (by kernel_rfl) (by kernel_rfl)
  have h11 := @run_callFunc_extern Tryz.prog 230 _ (ReflectliteValue.method (ReflectliteValue.valueError "reflectlite.Value.Elem" 0) ReflectliteValue.elem) Tryz.func230 (by kernel_rfl) (by kernel_rfl) (by kernel_rfl) (by kernel_rfl)
  have h12 := @run_callFunc_extern Tryz.prog 231 _ ReflectliteValue.set Tryz.func231 (by kernel_rfl) (by kernel_rfl) (by kernel_rfl) (by kernel_rfl)
  have tO := reTypeT
  have mA := reMAssign
  have a25 := reAssignT
  have v25 := reValueT
  have f6 := reValueP
  have f7 := reTypeP
  have mK := reMKind
  have mE := reMElem
  have mI := reMImpl
  have k27 := reKindP
  have k25 := reKindT
  have e27 := reElemP
  have i25 := reImplT
  have n8 := reNilP ⟨w.heap.size, 0, none⟩ t ((w.alloc (.cells #[.pointer (some t)] 140)).alloc (.cells #[.pointer (some ⟨1, 140, none⟩), .pointer (some ⟨w.heap.size, 0, none⟩), .int .u64 150] 207)) (by simp)
  have hlt : 0 < w.heap.size := ErrT.size hg
  have hg2 : ((w.alloc (.cells #[.pointer (some t)] 140)).alloc (.cells #[.pointer (some ⟨1, 140, none⟩), .pointer (some ⟨w.heap.size, 0, none⟩), .int .u64 150] 207)).cell? ⟨0, 0, none⟩ = some (.iface 253 (.agg #[.pointer (some ⟨1, 76, none⟩)])) := by
    rw [World.cell?_alloc_lt _ _ ⟨0, 0, none⟩ (by simp), World.cell?_alloc_lt _ _ ⟨0, 0, none⟩ hlt]; exact hg
  have htl : t.block < w.heap.size := by
    rcases Nat.lt_or_ge t.block w.heap.size with h | h
    · exact h
    · simp [World.cell?, Array.getElem?_eq_none h] at ht0
  have el := reElemVP ⟨w.heap.size, 0, none⟩ t (((w.alloc (.cells #[.pointer (some t)] 140)).alloc (.cells #[.pointer (some ⟨1, 140, none⟩), .pointer (some ⟨w.heap.size, 0, none⟩), .int .u64 150] 207)).alloc (.cells #[.pointer (some ⟨1, 140, none⟩), .pointer (some ⟨w.heap.size, 0, none⟩), .int .u64 150] 207)) (by rw [World.cell?_alloc_lt _ _ ⟨w.heap.size, 0, none⟩ (by simp; omega)]; simp)
  have st := reSetT t ⟨w.heap.size + 1 + 1 + 1, 0, none⟩ c old ((((w.alloc (.cells #[.pointer (some t)] 140)).alloc (.cells #[.pointer (some ⟨1, 140, none⟩), .pointer (some ⟨w.heap.size, 0, none⟩), .int .u64 150] 207)).alloc (.cells #[.pointer (some ⟨1, 140, none⟩), .pointer (some ⟨w.heap.size, 0, none⟩), .int .u64 150] 207)).alloc (.cells #[.int .i64 c] 137))
    (by rw [World.cell?_alloc_at _ _ _ _ (by simp)]; rfl)
    (by rw [World.cell?_alloc_lt _ _ t (by simp; omega), World.cell?_alloc_lt _ _ t (by simp; omega), World.cell?_alloc_lt _ _ t (by simp; omega), World.cell?_alloc_lt _ _ t htl]; exact ht0)
    (by rw [World.frozen?_alloc_old _ _ t (by simp; omega), World.frozen?_alloc_old _ _ t (by simp; omega), World.frozen?_alloc_old _ _ t (by simp; omega), World.frozen?_alloc_old _ _ t (Nat.ne_of_lt htl)]; exact hf0)
  go_enter Tryz.func113, Tryz.ntmps113
  go_wp2
  refine wp_loop_rounds 1 ?_
  rw [rounds_succ]
  go_wp2
  go_ret
  exact ⟨rfl, rfl⟩
/-- impl.codeOf: the code that the error bears. -/
theorem codeOf_any (c : Int) (w : World) (hg : ErrT w) : Calls Tryz.prog 46 #[errV c] w fun e w' => e = .returned (.int .i64 c) ∧ Below w.heap.size w w' := by
  have HB := Lib.hid (bal1 w (.cells #[.int .i64 0] 137))
  have hz := hg.size
  by_cases h0 : c = 0
  · subst h0
    rw [show errV 0 = .nilIface from rfl]
    clear hg hz
    go_enter Tryz.func46, Tryz.ntmps46
    go_wp2_with (go_at_call 113; refine (as_nil _ _).mono ?_; rintro e w' ⟨rfl, rfl⟩)
    go_ret
    exact ⟨rfl, HB.out⟩
  · rw [show errV c = .iface 137 (.agg #[.int .i64 c]) from if_neg h0]
    have HA := as_hit c ⟨w.heap.size, 0, none⟩ (.int .i64 0) (w.alloc (.cells #[.int .i64 0] 137)) (hg.on HB.out hz) (by simp) (by simp)
    clear hg hz h0
    go_enter Tryz.func46, Tryz.ntmps46
    go_wp2_with (go_at_call 113; refine HA.mono ?_; rintro e w' ⟨rfl, rfl⟩)
    go_ret
    refine ⟨rfl, ?_⟩
    exact bstep (bal1 _ _) (bal4 _ _ _ _ _)
end Go.Proofs.YtlhemcjahcmdeaaGreatDoor
namespace Go.Proofs.YtlhemcjahcmdeaaGreatDoor
open Go.RowKit
set_option maxRecDepth 100000
set_option linter.unusedSimpArgs false
set_option linter.unusedVariables false

theorem near_eq (path : List Int) (o : Option KeyD) (k : KeyD) : nearB path o k = (decide (k.b ∈ path) && (!o.isSome || decide ((o.getD zK).b < k.b))) := by
  cases o <;> simp [nearB]
theorem al4 (w : World) (o p q r : Obj) : ((((w.alloc o).alloc p).alloc q).alloc r).heap[w.heap.size]? = some o ∧ ((((w.alloc o).alloc p).alloc q).alloc r).heap[w.heap.size + 1]? = some p ∧ ((((w.alloc o).alloc p).alloc q).alloc r).heap[w.heap.size + 1 + 1]? = some q ∧ ((((w.alloc o).alloc p).alloc q).alloc r).heap[w.heap.size + 1 + 1 + 1]? = some r :=
  ⟨box_on (al3 w o p q).1 (bal1 _ _), box_on (al3 w o p q).2.1 (bal1 _ _), box_on (al3 w o p q).2.2 (bal1 _ _), by have := al1 (((w.alloc o).alloc p).alloc q) r; simpa using this⟩
theorem box_setsK {w : World} {p : Nat} {t : TypeId} {z1 z2 z3 z4 z5 u1 u2 u3 u4 u5 : Value} (h : w.heap[p]? = some (.cells #[z1, z2, z3, z4, z5] t (0, 0))) : (((((w.setCell ⟨p, 0, none⟩ u1).setCell ⟨p, 1, none⟩ u2).setCell ⟨p, 2, none⟩ u3).setCell ⟨p, 3, none⟩ u4).setCell ⟨p, 4, none⟩ u5).heap[p]? = some (.cells #[u1, u2, u3, u4, u5] t (0, 0)) :=
  heap_setCell_same _ _ _ _ _ _ (heap_setCell_same _ _ _ _ _ _ (heap_setCell_same _ _ _ _ _ _ (heap_setCell_same _ _ _ _ _ _ (heap_setCell_same _ _ _ _ _ _ h))))
set_option maxHeartbeats 1000000 in
theorem near1_any (k x : KeyD) (f : Bool) (path : List Int) (vp : Value) (pp pf pb : Nat) (w : World) (hv : Reads w w.heap.size vp (intsD path)) (hn : path.length ≤ 2097152)
    (h1 : w.heap[pp]? = some (.cells #[vp] 24 (0, 0))) (h2 : w.heap[pf]? = some (.cells #[.bool f] 4 (0, 0))) (h3 : w.heap[pb]? = some (.cells #[.int .i64 x.a, .int .i64 x.b, .int .i64 x.c, .int .i64 x.d, .int .i64 x.e] 112 (0, 0))) :
    Calls Tryz.prog 301 #[k.v, .pointer (some ⟨pp, 0, none⟩), .pointer (some ⟨pf, 0, none⟩), .pointer (some ⟨pb, 0, none⟩)] w (SaysBool w (decide (k.b ∈ path) && (!f || decide (x.b < k.b)))) := by
  obtain ⟨A, c, rfl, _, _⟩ := hv.lenN
  unfold KeyD.v keyV
  obtain ⟨n, hnl⟩ : ∃ n, path.length = n := ⟨_, rfl⟩
  have HC := Lib.hid (fun W (h : Reads W W.heap.size (.slice A path.length c) (intsD path)) => contains_any _ path k.b W h hn)
  have Q0 := Lib.hid (al1 w (.cells #[.int .i64 k.a, .int .i64 k.b, .int .i64 k.c, .int .i64 k.d, .int .i64 k.e] 112))
  have b0 := bal1 w (.cells #[.int .i64 k.a, .int .i64 k.b, .int .i64 k.c, .int .i64 k.d, .int .i64 k.e] 112)
  have HB := Lib.hid b0
  have HV := Lib.hid (hv.on b0)
  have P1 := Lib.hid (box_on h1 b0)
  have P2 := Lib.hid (box_on h2 b0)
  have P3 := Lib.hid (box_on h3 b0)
  clear hv h1 h2 h3 b0
  rw [hnl] at HC HV P1
  obtain ⟨M, hM⟩ : ∃ M, decide (k.b ∈ path) = M := ⟨_, rfl⟩
  obtain ⟨G, hG⟩ : ∃ G, decide (x.b < k.b) = G := ⟨_, rfl⟩
  rw [hM] at HC ⊢
  rw [hG]
  clear hM hnl
  go_enter Tryz.func301, Tryz.ntmps301
  go_upto_region 1 with (fail)
  generalize w.alloc (.cells #[.int .i64 k.a, .int .i64 k.b, .int .i64 k.c, .int .i64 k.d, .int .i64 k.e] 112) = W at *
  obtain ⟨x0, x1, x2, x3, x4, x5⟩ := box5 Q0.out
  obtain ⟨y0, y1⟩ := boxC P1.out
  obtain ⟨f0, f1⟩ := boxC P2.out
  obtain ⟨z0, z1, z2, z3, z4, z5⟩ := box5 P3.out
  go_wp2_with fail
  refine (HC.out _ HV.out).mono ?_
  rintro r w1 ⟨rfl, rfl⟩
  cases M
  · cases f
    all_goals
      go_wp2
      go_ret
      exact ⟨rfl, HB.out⟩
  · cases f
    · go_wp2
      go_ret
      exact ⟨rfl, HB.out⟩
    · cases G
      all_goals
        go_wp2
        go_ret
        exact ⟨rfl, HB.out⟩
theorem near_no {l : List KeyD} {k : Nat} {path : List Int} {o R : Option KeyD} (h : k < l.length) (hn : nearB path o l[k] = false) (hf : (l.drop k).foldl (nearS path) o = R) : (l.drop (k + 1)).foldl (nearS path) o = R := by
  rw [drop_at h, List.foldl_cons] at hf
  unfold nearS at hf
  rw [hn] at hf
  exact hf
theorem near_yes {l : List KeyD} {k : Nat} {path : List Int} {o R : Option KeyD} (h : k < l.length) (hn : nearB path o l[k] = true) (hf : (l.drop k).foldl (nearS path) o = R) : (l.drop (k + 1)).foldl (nearS path) (some l[k]) = R := by
  rw [drop_at h, List.foldl_cons] at hf
  unfold nearS at hf
  rw [hn] at hf
  exact hf
theorem heap_far5 {w : World} {g i : Nat} {u1 u2 u3 u4 u5 : Value} {o : Obj} (h : w.heap[i]? = some o) (hne : i ≠ g) : (((((w.setCell ⟨g, 0, none⟩ u1).setCell ⟨g, 1, none⟩ u2).setCell ⟨g, 2, none⟩ u3).setCell ⟨g, 3, none⟩ u4).setCell ⟨g, 4, none⟩ u5).heap[i]? = some o :=
  heap_far (heap_far (heap_far (heap_far (heap_far h hne) hne) hne) hne) hne
theorem near_stores {w W : World} {n : Nat} {x k : KeyD} {f : Bool} {o0 o1 : Obj} (h0 : w.heap[n]? = some o0) (h1 : w.heap[n + 1]? = some o1) (h2 : w.heap[n + 1 + 1]? = some (.cells #[.int .i64 x.a, .int .i64 x.b, .int .i64 x.c, .int .i64 x.d, .int .i64 x.e] 112 (0, 0))) (h3 : w.heap[n + 1 + 1 + 1]? = some (.cells #[.bool f] 4 (0, 0))) (hb : Below n W w) :
    ((((((w.setCell ⟨n + 1 + 1, 0, none⟩ (.int .i64 k.a)).setCell ⟨n + 1 + 1, 1, none⟩ (.int .i64 k.b)).setCell ⟨n + 1 + 1, 2, none⟩ (.int .i64 k.c)).setCell ⟨n + 1 + 1, 3, none⟩ (.int .i64 k.d)).setCell ⟨n + 1 + 1, 4, none⟩ (.int .i64 k.e)).setCell ⟨n + 1 + 1 + 1, 0, none⟩ (.bool true)).heap[n]? = some o0 ∧ ((((((w.setCell ⟨n + 1 + 1, 0, none⟩ (.int .i64 k.a)).setCell ⟨n + 1 + 1, 1, none⟩ (.int .i64 k.b)).setCell ⟨n + 1 + 1, 2, none⟩ (.int .i64 k.c)).setCell ⟨n + 1 + 1, 3, none⟩ (.int .i64 k.d)).setCell ⟨n + 1 + 1, 4, none⟩ (.int .i64 k.e)).setCell ⟨n + 1 + 1 + 1, 0, none⟩ (.bool true)).heap[n + 1]? = some o1 ∧ ((((((w.setCell ⟨n + 1 + 1, 0, none⟩ (.int .i64 k.a)).setCell ⟨n + 1 + 1, 1, none⟩ (.int .i64 k.b)).setCell ⟨n + 1 + 1, 2, none⟩ (.int .i64 k.c)).setCell ⟨n + 1 + 1, 3, none⟩ (.int .i64 k.d)).setCell ⟨n + 1 + 1, 4, none⟩ (.int .i64 k.e)).setCell ⟨n + 1 + 1 + 1, 0, none⟩ (.bool true)).heap[n + 1 + 1]? = some (.cells #[.int .i64 k.a, .int .i64 k.b, .int .i64 k.c, .int .i64 k.d, .int .i64 k.e] 112 (0, 0)) ∧ ((((((w.setCell ⟨n + 1 + 1, 0, none⟩ (.int .i64 k.a)).setCell ⟨n + 1 + 1, 1, none⟩ (.int .i64 k.b)).setCell ⟨n + 1 + 1, 2, none⟩ (.int .i64 k.c)).setCell ⟨n + 1 + 1, 3, none⟩ (.int .i64 k.d)).setCell ⟨n + 1 + 1, 4, none⟩ (.int .i64 k.e)).setCell ⟨n + 1 + 1 + 1, 0, none⟩ (.bool true)).heap[n + 1 + 1 + 1]? = some (.cells #[.bool true] 4 (0, 0)) ∧ Below n W ((((((w.setCell ⟨n + 1 + 1, 0, none⟩ (.int .i64 k.a)).setCell ⟨n + 1 + 1, 1, none⟩ (.int .i64 k.b)).setCell ⟨n + 1 + 1, 2, none⟩ (.int .i64 k.c)).setCell ⟨n + 1 + 1, 3, none⟩ (.int .i64 k.d)).setCell ⟨n + 1 + 1, 4, none⟩ (.int .i64 k.e)).setCell ⟨n + 1 + 1 + 1, 0, none⟩ (.bool true)) ∧ ((((((w.setCell ⟨n + 1 + 1, 0, none⟩ (.int .i64 k.a)).setCell ⟨n + 1 + 1, 1, none⟩ (.int .i64 k.b)).setCell ⟨n + 1 + 1, 2, none⟩ (.int .i64 k.c)).setCell ⟨n + 1 + 1, 3, none⟩ (.int .i64 k.d)).setCell ⟨n + 1 + 1, 4, none⟩ (.int .i64 k.e)).setCell ⟨n + 1 + 1 + 1, 0, none⟩ (.bool true)).heap.size = w.heap.size :=
  ⟨heap_far (heap_far5 h0 (by omega)) (by omega), heap_far (heap_far5 h1 (by omega)) (by omega), heap_far (box_setsK h2) (by omega), heap_setCell_same _ _ _ _ _ _ (heap_far5 h3 (by omega)), (b5' hb (by omega)).setCell (p := ⟨n + 1 + 1 + 1, 0, none⟩) (by show n ≤ n + 1 + 1 + 1; omega) _, by simp⟩
set_option maxHeartbeats 4000000 in
theorem nearestKey_any (v vp : Value) (l : List KeyD) (path : List Int) (w : World) (hv : Reads w w.heap.size v (keysD l)) (hvp : Reads w w.heap.size vp (intsD path)) (hn : l.length ≤ 2097152) (hnp : path.length ≤ 2097152) :
    Calls Tryz.prog 240 #[v, vp] w (SaysFind w (nearK l path)) := by
  obtain ⟨A, c, rfl, _, _⟩ := hv.shapeK
  obtain ⟨Ap, cp, rfl, _, _⟩ := hvp.lenN
  have hmf : ∀ (fn : Fn) (first cap : Array Value) (w : World), (Instr.makeFunc fn first cap).run Tryz.prog w = .ok (.func fn first cap) w := fun _ _ _ _ => rfl
  have HT := Lib.hid near1_any
  unfold KeyD.v keyV at HT
  unfold SaysFind KeyD.v keyV
  obtain ⟨R, hR⟩ : ∃ R, nearK l path = R := ⟨_, rfl⟩
  rw [hR]
  unfold nearK at hR
  obtain ⟨q0, q1, q2, q3⟩ := al4 w (.cells #[.slice Ap path.length cp] 24) (.cells #[.int .i64 0, .int .i64 0, .int .i64 0, .int .i64 0, .int .i64 0] 112) (.cells #[.int .i64 0, .int .i64 0, .int .i64 0, .int .i64 0, .int .i64 0] 112) (.cells #[.bool false] 4)
  have hb := bal4 w (.cells #[.slice Ap path.length cp] 24) (.cells #[.int .i64 0, .int .i64 0, .int .i64 0, .int .i64 0, .int .i64 0] 112) (.cells #[.int .i64 0, .int .i64 0, .int .i64 0, .int .i64 0, .int .i64 0] 112) (.cells #[.bool false] 4)
  have HV := Lib.hid hv
  have HVP := Lib.hid hvp
  have HB := Lib.hid hb
  have Q0 := Lib.hid q0
  have Q1 := Lib.hid q1
  have Q2 := Lib.hid q2
  have Q3 := Lib.hid q3
  have HSZ : Hid (((((w.alloc (.cells #[.slice Ap path.length cp] 24)).alloc (.cells #[.int .i64 0, .int .i64 0, .int .i64 0, .int .i64 0, .int .i64 0] 112)).alloc (.cells #[.int .i64 0, .int .i64 0, .int .i64 0, .int .i64 0, .int .i64 0] 112)).alloc (.cells #[.bool false] 4)).heap.size = w.heap.size + 1 + 1 + 1 + 1) := Lib.hid (by simp)
  have HR := Lib.hid hR
  clear hv hvp hb q0 q1 q2 q3 hR
  go_enter Tryz.func240, Tryz.ntmps240
  go_upto_region 4 with (fail)
  generalize (((w.alloc (.cells #[.slice Ap path.length cp] 24)).alloc (.cells #[.int .i64 0, .int .i64 0, .int .i64 0, .int .i64 0, .int .i64 0] 112)).alloc (.cells #[.int .i64 0, .int .i64 0, .int .i64 0, .int .i64 0, .int .i64 0] 112)).alloc (.cells #[.bool false] 4) = W at *
  go_wp2
  go_loopw [10, 14] (fun _ i wr => ∃ (k : Nat) (x : KeyD) (f : Bool) (o : Option KeyD), k ≤ l.length ∧ i = .int .i64 k ∧ Hid (o.isSome = f ∧ o.getD zK = x) ∧ Hid ((l.drop k).foldl (nearS path) o = R) ∧ Hid (wr.heap[w.heap.size]? = some (.cells #[.slice Ap path.length cp] 24 (0, 0))) ∧ Hid (wr.heap[w.heap.size + 1]? = some (.cells #[.int .i64 0, .int .i64 0, .int .i64 0, .int .i64 0, .int .i64 0] 112 (0, 0))) ∧ Hid (wr.heap[w.heap.size + 1 + 1]? = some (.cells #[.int .i64 x.a, .int .i64 x.b, .int .i64 x.c, .int .i64 x.d, .int .i64 x.e] 112 (0, 0))) ∧ Hid (wr.heap[w.heap.size + 1 + 1 + 1]? = some (.cells #[.bool f] 4 (0, 0))) ∧ Hid (Below w.heap.size w wr) ∧ Hid (w.heap.size + 1 + 1 + 1 + 1 ≤ wr.heap.size)) (fun _ i _ => l.length - (intOf i).toNat)
  case atStart => exact ⟨0, ⟨0, 0, 0, 0, 0⟩, false, none, Nat.zero_le _, rfl, Lib.hid ⟨rfl, rfl⟩, HR, Q0, Q1, Q2, Q3, HB, Lib.hid (Nat.le_of_eq HSZ.out.symm)⟩
  case round =>
    clear Q0 Q1 Q2 Q3 HB HSZ HR
    obtain ⟨k, x, f, o, hk, rfl, HO, HI, Q0, Q1, Q2, Q3, HB, HZ⟩ := hrel
    by_cases hlt : k < l.length
    · obtain ⟨b, off, rfl, hbb, hc⟩ := (HV.out.on HB.out).keys hlt
      have i1 : (k : Int) < (l.length : Int) := by omega
      have i2 : (0 : Int) ≤ (k : Int) := by omega
      obtain ⟨c0, c1, c2, c3, c4⟩ := hc k hlt
      have ba := bal1 wr (.cells #[.int .i64 (l[k]).a, .int .i64 (l[k]).b, .int .i64 (l[k]).c, .int .i64 (l[k]).d, .int .i64 (l[k]).e] 112)
      have QK := Lib.hid (al1 wr (.cells #[.int .i64 (l[k]).a, .int .i64 (l[k]).b, .int .i64 (l[k]).c, .int .i64 (l[k]).d, .int .i64 (l[k]).e] 112))
      have P0 := Lib.hid (box_on Q0.out ba)
      have P1 := Lib.hid (box_on Q1.out ba)
      have P2 := Lib.hid (box_on Q2.out ba)
      have P3 := Lib.hid (box_on Q3.out ba)
      have BA := Lib.hid (bstep HB.out ba)
      have Z1 := Lib.hid (Nat.le_trans HZ.out ba.size)
      obtain ⟨N, hN⟩ : ∃ N, (decide ((l[k]).b ∈ path) && (!f || decide (x.b < (l[k]).b))) = N := ⟨_, rfl⟩
      have HNB : Hid (nearB path o l[k] = N) := Lib.hid (by rw [near_eq, HO.out.1, HO.out.2, hN])
      have HN := Lib.hid hN
      clear hc ba hN Q0 Q1 Q2 Q3 HB HZ
      cases N
      · go_wp2_with fail
        go_at_call 301
        refine (HT.out l[k] x f path _ _ _ _ _ (HVP.out.on BA.out) (by omega) P0.out P3.out P2.out).mono ?_
        rintro r w8 ⟨rfl, b8⟩
        rw [HN.out]
        have R0 := Lib.hid (box_on P0.out b8)
        have R1 := Lib.hid (box_on P1.out b8)
        have R2 := Lib.hid (box_on P2.out b8)
        have R3 := Lib.hid (box_on P3.out b8)
        have B8 := Lib.hid (bstep BA.out b8)
        have Z8 := Lib.hid (Nat.le_trans Z1.out b8.size)
        clear b8 c0 c1 c2 c3 c4 P0 P1 P2 P3 BA Z1 QK
        go_wp2
        go_roundw
        case rel => exact ⟨k + 1, x, f, o, by omega, by go_num, HO, Lib.hid (near_no hlt HNB.out HI.out), R0, R1, R2, R3, B8, Z8⟩
        case measure => simp [intOf]; omega
      · go_wp2_with fail
        go_at_call 301
        refine (HT.out l[k] x f path _ _ _ _ _ (HVP.out.on BA.out) (by omega) P0.out P3.out P2.out).mono ?_
        rintro r w8 ⟨rfl, b8⟩
        rw [HN.out]
        obtain ⟨k0, k1, k2, k3, k4, k5⟩ := box5 (box_on QK.out b8)
        obtain ⟨y0, y1, y2, y3, y4, y5⟩ := box5 (box_on P2.out b8)
        obtain ⟨f0, f1⟩ := boxC (box_on P3.out b8)
        have NS := Lib.hid (near_stores (k := l[k]) (box_on P0.out b8) (box_on P1.out b8) (box_on P2.out b8) (box_on P3.out b8) (bstep BA.out b8))
        have Z8 := Lib.hid (Nat.le_trans Z1.out b8.size)
        clear b8 c0 c1 c2 c3 c4 P0 P1 P2 P3 BA Z1 QK
        go_wp2
        go_roundw
        case rel => exact ⟨k + 1, l[k], true, some l[k], by omega, by go_num, Lib.hid ⟨rfl, rfl⟩, Lib.hid (near_yes hlt HNB.out HI.out), Lib.hid NS.out.1, Lib.hid NS.out.2.1, Lib.hid NS.out.2.2.1, Lib.hid NS.out.2.2.2.1, Lib.hid NS.out.2.2.2.2.1, Lib.hid (by rw [NS.out.2.2.2.2.2]; exact Z8.out)⟩
        case measure => simp [intOf]; omega
    · have hF : R = o := by
        rw [← HI.out, List.drop_eq_nil_of_le (by omega)]
        rfl
      subst hF
      obtain ⟨z0, z1, z2, z3, z4, z5⟩ := box5 Q1.out
      obtain ⟨y0, y1, y2, y3, y4, y5⟩ := box5 Q2.out
      obtain ⟨f0, f1⟩ := boxC Q3.out
      have hx := HO.out.2
      have hf := HO.out.1
      clear HO HI
      go_wp2
      go_region
      all_goals (try go_wp2)
      all_goals refine bodyPost_ret (v := .tuple #[x.v, .bool f]) (by simp [results, Tryz.results240, go_sem, keyV, KeyD.v, *]) rfl ⟨by rw [hx, hf]; rfl, ?_⟩
      all_goals first | exact (b5' (g := w.heap.size + 1) HB.out (by omega)).drew | exact b5' (g := w.heap.size + 1) HB.out.drew (by omega) | fail
set_option maxHeartbeats 2000000 in
theorem implSeen_any (vl vn va : Value) (lo : List Int) (ts : List NodeD) (l : List AgeD) (p d : Int) (w : World) (hv : RdT w w.heap.size vl vn lo ts) (ha : Reads w w.heap.size va (agesD l)) (hn : ts.length ≤ 1048576) (hs : sumT ts ≤ 1048576) (hl : l.length ≤ 1048576) :
    Calls Tryz.prog 227 #[.agg #[vl, vn], va, .int .i64 p, .int .i64 d] w (SaysFind w (nearK (keysOfK ts p) (pathK l d))) := by
  obtain ⟨A, c, A', c', rfl, rfl⟩ := hv.shape
  obtain ⟨Aa, ca, rfl, _, _⟩ := ha.shapeG
  have HN := Lib.hid nearestKey_any
  unfold SaysFind KeyD.v keyV at HN
  unfold SaysFind KeyD.v keyV
  obtain ⟨q0, q1⟩ := al2 w (.cells #[.slice A lo.length c, .slice A' ts.length c'] 27) (.cells #[.int .i64 0, .int .i64 0, .int .i64 0, .int .i64 0, .int .i64 0] 112)
  have hb := bal2 w (.cells #[.slice A lo.length c, .slice A' ts.length c'] 27) (.cells #[.int .i64 0, .int .i64 0, .int .i64 0, .int .i64 0, .int .i64 0] 112)
  have HV := Lib.hid (hv.on hb)
  have HA := Lib.hid (ha.on hb)
  have HB := Lib.hid hb
  have Q0 := Lib.hid q0
  have Q1 := Lib.hid q1
  have HKL := Lib.hid (keysOf_len ts p)
  have HPL := Lib.hid (pathK_len l d)
  obtain ⟨F, hF⟩ : ∃ F, nearK (keysOfK ts p) (pathK l d) = F := ⟨_, rfl⟩
  rw [hF]
  have HF := Lib.hid hF
  clear hv ha hb q0 q1 hF
  go_enter Tryz.func227, Tryz.ntmps227
  go_upto_region 1 with (fail)
  generalize (w.alloc (.cells #[.slice A lo.length c, .slice A' ts.length c'] 27)).alloc (.cells #[.int .i64 0, .int .i64 0, .int .i64 0, .int .i64 0, .int .i64 0] 112) = W at *
  obtain ⟨x0, x1, x2⟩ := box2 Q0.out
  go_wp2_with fail
  refine (implKeysOf_any _ _ lo ts p _ HV.out hn hs).mono ?_
  rintro r w1 ⟨v1, rfl, o1, b1⟩
  obtain ⟨A1, c1, rfl, _, _⟩ := o1.shape
  have O1 := Lib.hid o1
  replace HA := Lib.hid (HA.out.on b1)
  replace HB := Lib.hid (bstep HB.out b1)
  replace Q1 := Lib.hid (box_on Q1.out b1)
  clear o1 b1 x0 x1 x2 Q0 HV
  go_wp2_with fail
  refine (implPathOf_any _ l d _ HA.out (by omega)).mono ?_
  rintro r w2 ⟨v2, rfl, o2, b2⟩
  obtain ⟨A2, c2, rfl, _, _⟩ := o2.shape
  have O2 := Lib.hid o2
  replace O1 := Lib.hid (O1.out.on b2)
  replace HB := Lib.hid (bstep HB.out b2)
  replace Q1 := Lib.hid (box_on Q1.out b2)
  clear o2 b2 HA
  go_wp2_with fail
  refine (HN.out _ _ (keysOfK ts p) (pathK l d) _ O1.out.owns.reads O2.out.owns.reads (by have := HKL.out; omega) (by have := HPL.out; omega)).mono ?_
  rintro r w3 ⟨rfl, b3⟩
  rw [HF.out]
  replace HB := Lib.hid (bstep HB.out b3)
  replace Q1 := Lib.hid (box_on Q1.out b3)
  clear b3 O1 O2
  obtain ⟨y0, y1, y2, y3, y4, y5⟩ := box5 Q1.out
  go_wp2
  refine bodyPost_ret (v := .tuple #[(F.getD zK).v, .bool F.isSome]) (by simp [results, Tryz.results227, go_sem, keyV, KeyD.v, *]) rfl ⟨rfl, ?_⟩
  exact b5' HB.out (by omega)
end Go.Proofs.YtlhemcjahcmdeaaGreatDoor
namespace Go.Proofs.YtlhemcjahcmdeaaGreatDoor
open Go.RowKit
set_option maxRecDepth 100000
set_option linter.unusedSimpArgs false
set_option linter.unusedVariables false

/-- The word of the cell to which a key refers, or 0. -/
def wordK (K : KeyD) (ce : List CelD) : Int := if K.c = 1 then cellK ce K.d K.e else 0
theorem block_word (d : PoolD) (v : VolD) (b : Int) : blockK d v b = wordK ((nearK (keysOfK d.ts b) (pathK d.ag v.b)).getD zK) d.ce := by
  unfold blockK wordK
  cases nearK (keysOfK d.ts b) (pathK d.ag v.b) with
  | none => rfl
  | some k => rfl
theorem read_yes {d : PoolD} {s : ByteArray} {b : Int} (hm : mayB d s = true) (hk : ¬ volK s d.vo < 0) : ∃ j, ∃ hj : j < d.vo.length, volK s d.vo = (j : Int) ∧ readK d s b = if hasB d.vo[j] b then (blockK d d.vo[j] b, 0) else (0, 4) := by
  obtain ⟨hj, hj2⟩ := volK_nat hk
  refine ⟨volJ s d.vo, hj, hj2, ?_⟩
  have hvd : volD d s = d.vo[volJ s d.vo] := by unfold volD; rw [List.getD_eq_getElem?_getD, List.getElem?_eq_getElem hj]; rfl
  unfold readK
  rw [hm, if_pos rfl, if_neg hk, hvd]
theorem hasBlock_any (v : VolD) (b : Int) (w : World) : Calls Tryz.prog 111 #[.agg #[.string v.a, .int .i64 v.b, .int .i64 v.c, .bool v.d], .int .i64 b] w (SaysBool w (hasB v b)) := by
  have Q0 := Lib.hid (al1 w (.cells #[.string v.a, .int .i64 v.b, .int .i64 v.c, .bool v.d] 41))
  have HB := Lib.hid (bal1 w (.cells #[.string v.a, .int .i64 v.b, .int .i64 v.c, .bool v.d] 41))
  unfold hasB
  obtain ⟨x0, x1, x2, x3, x4⟩ := box4 Q0.out
  by_cases h : 0 ≤ b
  · have e1 : decide (b ≥ 0) = true := decide_eq_true h
    have e2 : decide (0 ≤ b) = true := decide_eq_true h
    obtain ⟨q, hq⟩ : ∃ q, decide (b < v.c) = q := ⟨_, rfl⟩
    have HQ := Lib.hid hq
    rw [e2, hq]
    clear h hq e2
    cases q
    all_goals
      have hq := HQ.out
      go_enter Tryz.func111, Tryz.ntmps111
      go_wp2
      go_ret
      exact ⟨rfl, HB.out⟩
  · have e1 : decide (b ≥ 0) = false := decide_eq_false h
    have e2 : decide (0 ≤ b) = false := decide_eq_false h
    rw [e2]
    clear h e2
    go_enter Tryz.func111, Tryz.ntmps111
    go_wp2
    go_ret
    exact ⟨rfl, HB.out⟩
set_option maxHeartbeats 2000000 in
theorem wordIn_any {t : TypeId} (vl vn va vc vv : Value) (d : PoolD) (b g : Int) (w : World) (h : RdP t w w.heap.size vl vn va vc vv d) (hs : SmallP d) (K : KeyD) (hK : (nearK (keysOfK d.ts b) (pathK d.ag g)).getD zK = K) :
    Calls Tryz.prog 171 #[.agg #[vl, vn, va, vc], .int .i64 b, .int .i64 g] w fun e w' => e = .returned (.int .i64 (wordK K d.ce)) ∧ Below w.heap.size w w' := by
  have s1 := hs.1
  have s2 := hs.2.1
  have s3 := hs.2.2.1
  have HSE := Lib.hid (fun W (b' : Below w.heap.size w W) => implSeen_any vl vn va d.lo d.ts d.ag b g W (h.1.on b') (h.2.1.on b') (by omega) (by omega) (by omega))
  have HCA := Lib.hid (fun W (b' : Below w.heap.size w W) (i q : Int) => implCellAt_any vc d.ce i q W ((h.2.2.1.on b').retype _) (by omega))
  obtain ⟨A0, Ac0, A1, Ac1, A2, Ac2, A3, Ac3, A4, Ac4, rfl, rfl, rfl, rfl, rfl⟩ := h.shape
  unfold SaysFind at HSE
  rw [hK] at HSE
  unfold KeyD.v keyV at HSE
  have HB := Lib.hid (bal1 w (.cells #[.slice A0 d.lo.length Ac0, .slice A1 d.ts.length Ac1, .slice A2 d.ag.length Ac2, .slice A3 d.ce.length Ac3] 201))
  have Q0 := Lib.hid (al1 w (.cells #[.slice A0 d.lo.length Ac0, .slice A1 d.ts.length Ac1, .slice A2 d.ag.length Ac2, .slice A3 d.ce.length Ac3] 201))
  clear h hs hK s1 s2 s3
  go_enter Tryz.func171, Tryz.ntmps171
  go_upto_region 1 with (fail)
  generalize w.alloc (.cells #[.slice A0 d.lo.length Ac0, .slice A1 d.ts.length Ac1, .slice A2 d.ag.length Ac2, .slice A3 d.ce.length Ac3] 201) = W at *
  obtain ⟨x0, x1, x2, x3, x4⟩ := box4 Q0.out
  go_wp2_with fail
  refine (HSE.out _ HB.out).mono ?_
  rintro e w1 ⟨rfl, b1⟩
  have hB2 := bal1 w1 (.cells #[.int .i64 K.a, .int .i64 K.b, .int .i64 K.c, .int .i64 K.d, .int .i64 K.e] 112)
  have QK := Lib.hid (al1 w1 (.cells #[.int .i64 K.a, .int .i64 K.b, .int .i64 K.c, .int .i64 K.d, .int .i64 K.e] 112))
  have B2 := Lib.hid (bstep HB.out (bstep b1 hB2))
  replace Q0 := Lib.hid (box_on (box_on Q0.out b1) hB2)
  clear x0 x1 x2 x3 x4 b1 hB2
  go_upto_region 2 with (fail)
  generalize w1.alloc (.cells #[.int .i64 K.a, .int .i64 K.b, .int .i64 K.c, .int .i64 K.d, .int .i64 K.e] 112) = w2 at *
  obtain ⟨k0, k1, k2, k3, k4, k5⟩ := box5 QK.out
  by_cases hc : K.c = 1
  · have e1 : (K.c != 1) = false := by simp [hc]
    have HW := Lib.hid (show wordK K d.ce = cellK d.ce K.d K.e by unfold wordK; rw [if_pos hc])
    clear hc
    obtain ⟨x0, x1, x2, x3, x4⟩ := box4 Q0.out
    go_wp2_with fail
    refine (HCA.out _ B2.out _ _).mono ?_
    rintro e _ ⟨rfl, rfl⟩
    go_wp2
    go_ret
    exact ⟨by rw [HW.out]; rfl, B2.out⟩
  · have e1 : (K.c != 1) = true := by simp [hc]
    have HW := Lib.hid (show wordK K d.ce = 0 by unfold wordK; rw [if_neg hc])
    clear hc
    go_wp2
    go_ret
    exact ⟨by rw [HW.out]; rfl, B2.out⟩
set_option maxHeartbeats 4000000 in
theorem implBlockOf_any {t : TypeId} (vl vn va vc vv : Value) (d : PoolD) (j : Nat) (b : Int) (w : World) (h : RdP t w w.heap.size vl vn va vc vv d) (hs : SmallP d) (hj : j < d.vo.length) (hb : hasB d.vo[j] b = true) :
    Calls Tryz.prog 112 #[.agg #[vl, vn, va, vc, vv, .int .i64 d.nx], .int .i64 (j : Int), .int .i64 b] w fun e w' => e = .returned (.int .i64 (blockK d d.vo[j] b)) ∧ Below w.heap.size w w' := by
  have s4 := hs.2.2.2
  obtain ⟨K, hK⟩ : ∃ K, (nearK (keysOfK d.ts b) (pathK d.ag d.vo[j].b)).getD zK = K := ⟨_, rfl⟩
  rw [block_word, hK]
  have HWI := Lib.hid (fun W (b' : Below w.heap.size w W) => wordIn_any vl vn va vc vv d b d.vo[j].b W (h.on b') hs K hK)
  have HMO := Lib.hid (fun W (b' : Below w.heap.size w W) => mappingsOf_any vl vn va vc vv d W (h.on b'))
  have HHB := Lib.hid (hasBlock_any d.vo[j] b)
  rw [hb] at HHB
  have HV := Lib.hid (fun W (b' : Below w.heap.size w W) => (show Reads W W.heap.size vv (volsD d.vo) from (h.on b').2.2.2))
  obtain ⟨A0, Ac0, A1, Ac1, A2, Ac2, A3, Ac3, A4, Ac4, rfl, rfl, rfl, rfl, rfl⟩ := h.shape
  have HB := Lib.hid (bal1 w (.cells #[.slice A0 d.lo.length Ac0, .slice A1 d.ts.length Ac1, .slice A2 d.ag.length Ac2, .slice A3 d.ce.length Ac3, .slice A4 d.vo.length Ac4, .int .i64 d.nx] 32))
  have Q0 := Lib.hid (al1 w (.cells #[.slice A0 d.lo.length Ac0, .slice A1 d.ts.length Ac1, .slice A2 d.ag.length Ac2, .slice A3 d.ce.length Ac3, .slice A4 d.vo.length Ac4, .int .i64 d.nx] 32))
  have d1 : decide ((j : Int) < 0) = false := decide_eq_false (by omega)
  have d2 : decide ((j : Int) ≥ (d.vo.length : Int)) = false := decide_eq_false (by omega)
  have i1 : (j : Int) < (d.vo.length : Int) := by omega
  have i2 : (0 : Int) ≤ (j : Int) := by omega
  clear h hs hK hb s4
  go_enter Tryz.func112, Tryz.ntmps112
  go_upto_region 1 with (fail)
  obtain ⟨bb, off, hA, hbb, hc⟩ := Reads.vols (show Reads w w.heap.size (.slice A4 d.vo.length Ac4) (.row 41 4 d.vo.length (d.vo.flatMap volC)) from HV.out w (Below.refl _ _)) hj
  subst hA
  have HC := Lib.hid (fun W (b' : Below w.heap.size w W) => (hc j hj).on hbb b')
  generalize w.alloc _ = W at *
  obtain ⟨y0, y1, y2, y3⟩ := HC.out _ HB.out
  obtain ⟨x0, x1, x2, x3, x4, x5, x6⟩ := boxP Q0.out
  clear hc hbb HV
  go_wp2_with fail
  refine (HHB.out _).mono ?_
  rintro e w1 ⟨rfl, b1⟩
  have B1 := Lib.hid (bstep HB.out b1)
  have QB := Lib.hid (box_on Q0.out b1)
  clear x0 x1 x2 x3 x4 x5 x6 y0 y1 y2 y3 b1 Q0
  go_upto_region 3 with (fail)
  refine but_begin (f := 10) (S := fun V => Below w1.heap.size w1 V) (by kernel_rfl) ?_
  have hS0c : Below w1.heap.size w1 w1.drew := Below.drew1 _
  have hz0c : w1.heap.size ≤ w1.drew.heap.size := Nat.le_refl _
  generalize w1.drew = Udc at *
  refine bt (f := 10) (i := 0) (v := ?vc0) rfl (Or.inl ⟨(by rfl), ?hyc0⟩) hS0c ?restc0
  case hyc0 =>
    intro W hW
    obtain ⟨x0, x1, x2, x3, x4, x5, x6⟩ := boxP (box_on QB.out hW)
    obtain ⟨y0, y1, y2, y3⟩ := HC.out _ (bstep B1.out hW)
    go_simp
    exact rfl
  simp only [zA, zB, zC, Act.put, zD, zE, zF]
  refine bt (f := 10) (i := 2) (v := ?vc2) rfl (Or.inl ⟨(by rfl), ?hyc2⟩) hS0c ?restc2
  case hyc2 => intro W hW; go_simp; exact rfl
  simp only [zA, zB, zC, Act.put, zD, zE, zF]
  refine bt (f := 10) (i := 3) (v := ?vc3) rfl (Or.inl ⟨(by rfl), ?hyc3⟩) hS0c ?restc3
  case hyc3 => intro W hW; go_simp; exact rfl
  simp only [zA, zB, zC, Act.put, zD, zE, zF]
  refine bt (f := 10) (i := 4) (v := ?vc4) rfl (Or.inl ⟨(by rfl), ?hyc4⟩) hS0c ?restc4
  case hyc4 =>
    intro W hW
    obtain ⟨x0, x1, x2, x3, x4, x5, x6⟩ := boxP (box_on QB.out hW)
    obtain ⟨y0, y1, y2, y3⟩ := HC.out _ (bstep B1.out hW)
    go_simp
    exact rfl
  simp only [zA, zB, zC, Act.put, zD, zE, zF]
  refine bt (f := 10) (i := 5) (v := ?vc5) rfl (Or.inl ⟨(by rfl), ?hyc5⟩) hS0c ?restc5
  case hyc5 => intro W hW; go_simp; exact rfl
  simp only [zA, zB, zC, Act.put, zD, zE, zF]
  refine bt (f := 10) (i := 6) (v := ?vc6) rfl (Or.inl ⟨(by rfl), ?hyc6⟩) hS0c ?restc6
  case hyc6 => intro W hW; go_simp; exact rfl
  simp only [zA, zB, zC, Act.put, zD, zE, zF]
  refine bt (f := 10) (i := 7) (v := ?vc7) rfl (Or.inl ⟨(by rfl), ?hyc7⟩) hS0c ?restc7
  case hyc7 => intro W hW; go_simp; exact rfl
  simp only [zA, zB, zC, Act.put, zD, zE, zF]
  refine bt (f := 10) (i := 8) (v := ?vc8) rfl (Or.inl ⟨(by rfl), ?hyc8⟩) hS0c ?restc8
  case hyc8 =>
    intro W hW
    obtain ⟨x0, x1, x2, x3, x4, x5, x6⟩ := boxP (box_on QB.out hW)
    obtain ⟨y0, y1, y2, y3⟩ := HC.out _ (bstep B1.out hW)
    go_simp
    exact rfl
  simp only [zA, zB, zC, Act.put, zD, zE, zF]
  refine but_run (i := 1) (by kernel_rfl) rfl (by rfl) ?_
  simp only [zA, zB, zC]
  intro K HK
  go_wp2_with fail
  refine (HMO.out _ (bstep B1.out hS0c)).mono ?_
  rintro r Vc1 ⟨rfl, hbc1⟩
  go_wp2_with fail
  have hSc1 : (fun V => Below w1.heap.size w1 V) Vc1 := bstep hS0c hbc1
  refine HK.out _ _ (fun _ => hSc1) ?_
  clear HK
  have hzc1 := hbc1.size
  refine but_run (i := 9) (by kernel_rfl) rfl (by rfl) ?_
  simp only [zA, zB, zC]
  intro K HK
  go_wp2_with fail
  refine (HWI.out _ (bstep B1.out hSc1)).mono ?_
  rintro r Vc2 ⟨rfl, hbc2⟩
  go_wp2_with fail
  have hSc2 : (fun V => Below w1.heap.size w1 V) Vc2 := bstep hSc1 hbc2
  refine HK.out _ _ (fun _ => hSc2) ?_
  clear HK
  have hzc2 := hbc2.size
  refine but_run (i := 10) (by kernel_rfl) rfl (by rfl) ?_
  simp only [zA, zB, zC]
  intro K HK
  go_wp2_with fail
  refine HK.out _ _ (fun h => absurd rfl h) ?_
  clear HK
  refine but_done (by kernel_rfl) ?_
  go_wp2
  go_ret
  exact ⟨rfl, bstep B1.out hSc2⟩
set_option maxHeartbeats 2000000 in
theorem read_any {t : TypeId} (vl vn va vc vv : Value) (d : PoolD) (s : ByteArray) (b : Int) (w : World) (h : RdP t w w.heap.size vl vn va vc vv d) (hs : SmallP d) (hnm : ∀ k ∈ d.vo, k.a.size ≤ maxLen) (hz : s.size ≤ maxLen) :
    Calls Tryz.prog 45 #[.agg #[vl, vn, va, vc, vv, .int .i64 d.nx], .string s, .int .i64 b] w fun e w' => e = .returned (.tuple #[.int .i64 (readK d s b).1, errV (readK d s b).2]) ∧ Below w.heap.size w w' := by
  have s4 := hs.2.2.2
  have HFO := Lib.hid (fun W (b' : Below w.heap.size w W) => formOk_any vl vn va vc vv d s W (h.on b') hs hnm hz)
  have HVA := Lib.hid (fun W (b' : Below w.heap.size w W) => implVolAt_any vl vn va vc vv d s W (h.on b') (by omega))
  have HBO := Lib.hid (fun (j : Nat) W (b' : Below w.heap.size w W) (hj : j < d.vo.length) (hb : hasB d.vo[j] b = true) => implBlockOf_any vl vn va vc vv d j b W (h.on b') hs hj hb)
  have HHB := Lib.hid (fun (j : Nat) (hj : j < d.vo.length) => hasBlock_any d.vo[j] b)
  have HV := Lib.hid (fun W (b' : Below w.heap.size w W) => (show Reads W W.heap.size vv (volsD d.vo) from (h.on b').2.2.2))
  obtain ⟨A0, Ac0, A1, Ac1, A2, Ac2, A3, Ac3, A4, Ac4, rfl, rfl, rfl, rfl, rfl⟩ := h.shape
  have HB := Lib.hid (bal1 w (.cells #[.slice A0 d.lo.length Ac0, .slice A1 d.ts.length Ac1, .slice A2 d.ag.length Ac2, .slice A3 d.ce.length Ac3, .slice A4 d.vo.length Ac4, .int .i64 d.nx] 32))
  have Q0 := Lib.hid (al1 w (.cells #[.slice A0 d.lo.length Ac0, .slice A1 d.ts.length Ac1, .slice A2 d.ag.length Ac2, .slice A3 d.ce.length Ac3, .slice A4 d.vo.length Ac4, .int .i64 d.nx] 32))
  obtain ⟨m, hm⟩ : ∃ m, mayB d s = m := ⟨_, rfl⟩
  rw [hm] at HFO
  have HM := Lib.hid hm
  clear h hs hnm hz hm s4
  go_enter Tryz.func45, Tryz.ntmps45
  go_upto_region 1 with (fail)
  generalize w.alloc (.cells #[.slice A0 d.lo.length Ac0, .slice A1 d.ts.length Ac1, .slice A2 d.ag.length Ac2, .slice A3 d.ce.length Ac3, .slice A4 d.vo.length Ac4, .int .i64 d.nx] 32) = W at *
  obtain ⟨x0, x1, x2, x3, x4, x5, x6⟩ := boxP Q0.out
  go_wp2_with fail
  refine (HVA.out _ HB.out).mono ?_
  rintro e w1 ⟨rfl, b1⟩
  have B1 := Lib.hid (bstep HB.out b1)
  replace Q0 := Lib.hid (box_on Q0.out b1)
  clear x0 x1 x2 x3 x4 x5 x6 b1
  obtain ⟨x0, x1, x2, x3, x4, x5, x6⟩ := boxP Q0.out
  go_wp2_with fail
  refine (HFO.out _ B1.out).mono ?_
  rintro e w2 ⟨rfl, b2⟩
  have B2 := Lib.hid (bstep B1.out b2)
  replace Q0 := Lib.hid (box_on Q0.out b2)
  clear x0 x1 x2 x3 x4 x5 x6 b2
  cases m
  · have HE := Lib.hid (show readK d s b = (0, 1) by unfold readK; rw [HM.out]; rfl)
    go_wp2
    go_ret2
    exact ⟨by rw [HE.out]; rfl, B2.out⟩
  · by_cases hk : volK s d.vo < 0
    · have HE := Lib.hid (show readK d s b = (0, 2) by unfold readK; rw [HM.out, if_pos rfl, if_pos hk])
      have d1 : decide (volK s d.vo < 0) = true := decide_eq_true hk
      clear hk
      go_wp2
      go_ret2
      exact ⟨by rw [HE.out]; rfl, B2.out⟩
    · obtain ⟨j, hj, hj2, hRK⟩ := read_yes (b := b) HM.out hk
      rw [hj2]
      have d1 : decide ((j : Int) < 0) = false := decide_eq_false (by omega)
      have i1 : (j : Int) < (d.vo.length : Int) := by omega
      have i2 : (0 : Int) ≤ (j : Int) := by omega
      obtain ⟨hbv, hhb⟩ : ∃ q, hasB d.vo[j] b = q := ⟨_, rfl⟩
      have HHB2 := Lib.hid (HHB.out j hj)
      rw [hhb] at HHB2 hRK
      have HRK := Lib.hid hRK
      have HBO2 := Lib.hid (fun W b' (hb : hbv = true) => HBO.out j W b' hj (hhb.trans hb))
      obtain ⟨bb, off, hA, hbb, hc⟩ := Reads.vols (show Reads w2 w2.heap.size (.slice A4 d.vo.length Ac4) (.row 41 4 d.vo.length (d.vo.flatMap volC)) from HV.out w2 B2.out) hj
      subst hA
      obtain ⟨y0, y1, y2, y3⟩ := hc j hj
      obtain ⟨x0, x1, x2, x3, x4, x5, x6⟩ := boxP Q0.out
      clear hk hj2 hRK hhb hc HBO HHB HV HVA HFO
      go_wp2_with fail
      refine (HHB2.out _).mono ?_
      rintro e w3 ⟨rfl, b3⟩
      have B3 := Lib.hid (bstep B2.out b3)
      replace Q0 := Lib.hid (box_on Q0.out b3)
      clear x0 x1 x2 x3 x4 x5 x6 y0 y1 y2 y3 b3
      cases hbv
      · go_wp2
        go_ret2
        exact ⟨by rw [HRK.out]; rfl, B3.out⟩
      · obtain ⟨x0, x1, x2, x3, x4, x5, x6⟩ := boxP Q0.out
        go_wp2_with fail
        refine (HBO2.out _ B3.out (by first | rfl | trivial)).mono ?_
        rintro e w4 ⟨rfl, b4⟩
        have B4 := Lib.hid (bstep B3.out b4)
        clear x0 x1 x2 x3 x4 x5 x6 b4
        go_wp2
        go_ret2
        exact ⟨by rw [HRK.out]; rfl, B4.out⟩
set_option maxHeartbeats 1000000 in
theorem implRead_any {t : TypeId} (vl vn va vc vv : Value) (d : PoolD) (s : ByteArray) (b : Int) (w : World) (h : RdP t w w.heap.size vl vn va vc vv d) (hs : SmallP d) (hnm : ∀ k ∈ d.vo, k.a.size ≤ maxLen) (hz : s.size ≤ maxLen) (hg : ErrT w) :
    Calls Tryz.prog 14 #[.agg #[vl, vn, va, vc, vv, .int .i64 d.nx], .string s, .int .i64 b] w fun e w' => e = .returned (.tuple #[.int .i64 (readK d s b).1, .int .i64 (readK d s b).2]) ∧ Below w.heap.size w w' := by
  have hsz := hg.size
  have HR := Lib.hid (fun W (b' : Below w.heap.size w W) => read_any vl vn va vc vv d s b W (h.on b') hs hnm hz)
  have HCO := Lib.hid (fun (c : Int) W (b' : Below w.heap.size w W) => codeOf_any c W (hg.on b' hsz))
  obtain ⟨A0, Ac0, A1, Ac1, A2, Ac2, A3, Ac3, A4, Ac4, rfl, rfl, rfl, rfl, rfl⟩ := h.shape
  have HB := Lib.hid (bal1 w (.cells #[.slice A0 d.lo.length Ac0, .slice A1 d.ts.length Ac1, .slice A2 d.ag.length Ac2, .slice A3 d.ce.length Ac3, .slice A4 d.vo.length Ac4, .int .i64 d.nx] 32))
  have Q0 := Lib.hid (al1 w (.cells #[.slice A0 d.lo.length Ac0, .slice A1 d.ts.length Ac1, .slice A2 d.ag.length Ac2, .slice A3 d.ce.length Ac3, .slice A4 d.vo.length Ac4, .int .i64 d.nx] 32))
  obtain ⟨r, hr⟩ : ∃ r, readK d s b = r := ⟨_, rfl⟩
  rw [hr] at HR ⊢
  obtain ⟨n, c⟩ := r
  clear h hs hnm hz hg hr
  go_enter Tryz.func14, Tryz.ntmps14
  go_upto_region 1 with (fail)
  generalize w.alloc (.cells #[.slice A0 d.lo.length Ac0, .slice A1 d.ts.length Ac1, .slice A2 d.ag.length Ac2, .slice A3 d.ce.length Ac3, .slice A4 d.vo.length Ac4, .int .i64 d.nx] 32) = W at *
  obtain ⟨x0, x1, x2, x3, x4, x5, x6⟩ := boxP Q0.out
  go_wp2_with fail
  refine (HR.out _ HB.out).mono ?_
  rintro e w1 ⟨rfl, b1⟩
  have B1 := Lib.hid (bstep HB.out b1)
  clear x0 x1 x2 x3 x4 x5 x6 b1
  go_wp2_with fail
  refine (HCO.out c _ B1.out).mono ?_
  rintro e w2 ⟨rfl, b2⟩
  have B2 := Lib.hid (bstep B1.out b2)
  clear b2
  go_wp2
  go_ret2
  exact ⟨rfl, B2.out⟩
end Go.Proofs.YtlhemcjahcmdeaaGreatDoor
namespace Go.Proofs.YtlhemcjahcmdeaaGreatDoor
open Go.RowKit
set_option maxRecDepth 100000
set_option linter.unusedSimpArgs false
set_option linter.unusedVariables false

theorem wpList_appK2 {ops : Array Oper} {rest : List Oper} {o : Oper} {a : Act} {Q : Exit → Act → World → Prop} (w : World) (hgd : o.guard = none) (s x : Operand)
    (hop : o.op = .call { callee := .builtin .append, args := #[s, x], argTypes := #[221, 221] })
    (base : Nat) (v : Value) (l : List KeyD) (hs : a.eval s = v) (hown : RowK w base v l) (A : Option Addr) (n c : Nat) (m : List KeyD) (hx : a.eval x = .slice A n c) (hmn : m.length = n) (hA : At w A (kvl m)) (hlen : l.length + m.length ≤ 1073741824) (hbase : base ≤ w.heap.size)
    (h : ∀ v' w', RowK w' base v' (l ++ m) → w.grownBy w' v.ownBlock → (v'.ownBlock = v.ownBlock ∨ v'.ownBlock = some w.heap.size) → wpList Tryz.prog ops Q rest (a.put o.dst v') w') : wpList Tryz.prog ops Q (o :: rest) a w := by
  subst hmn
  refine wpList_appV w hgd s x 221 112 5 40 (.agg #[.int .i64 0, .int .i64 0, .int .i64 0, .int .i64 0, .int .i64 0]) hop Tryz.underlying221 key_info rfl (by omega) (by omega) base l.length v (kvl l) hs hown A m.length c (kvl m) hx (kvl_len m) hA (kvl_cells m) hlen hbase ?_
  intro v' w' h2 h3 h4 h5
  refine h v' w' ?_ h3 h5
  rw [← kvl_append, ← List.length_append] at h2
  exact h2
/-- Two rows of the call's own, side by side: one that grows, one that stays. -/
structure TwoK (base : Nat) (W wr : World) (o v : Value) (m l : List KeyD) : Prop where
  grows : RowK wr base o m
  stays : RowK wr base v l
  apart : ∀ g, o.ownBlock = some g → v.ownBlock ≠ some g
  bel : Below W.heap.size W wr
  low : W.heap.size ≤ base
theorem TwoK.step {base : Nat} {W wr w1 : World} {o v v1 : Value} {m l : List KeyD} {x : KeyD} {e : TypeId} (h : TwoK base W wr o v m l) (hb : base ≤ wr.heap.size)
    (h1 : RowK w1 base v1 (m ++ [x])) (h2 : (wr.alloc (.cells #[.int .i64 x.a, .int .i64 x.b, .int .i64 x.c, .int .i64 x.d, .int .i64 x.e] e)).grownBy w1 o.ownBlock) (h3 : v1.ownBlock = o.ownBlock ∨ v1.ownBlock = some (wr.alloc (.cells #[.int .i64 x.a, .int .i64 x.b, .int .i64 x.c, .int .i64 x.d, .int .i64 x.e] e)).heap.size) : TwoK base W w1 v1 v (m ++ [x]) l := by
  have ba := bal1 wr (.cells #[.int .i64 x.a, .int .i64 x.b, .int .i64 x.c, .int .i64 x.d, .int .i64 x.e] e)
  have hsz : (wr.alloc (.cells #[.int .i64 x.a, .int .i64 x.b, .int .i64 x.c, .int .i64 x.d, .int .i64 x.e] e)).heap.size = wr.heap.size + 1 := by simp
  refine ⟨h1, h.stays.keep (fun g hg => ?_), fun g hg hv => ?_, (h.bel.trans (ba.mono h.bel.size)).grown h2 (by have := h.bel.size; omega) (fun k hk => Nat.le_trans h.low (h.grows.lt k hk).2), h.low⟩
  · have hlt := (h.stays.lt g hg).1
    exact (h2.block g (by omega) (fun e => h.apart g e.symm hg)).trans (ba.block g hlt)
  · have hlt := (h.stays.lt g hv).1
    rcases h3 with h3 | h3
    · exact h.apart g (h3.symm.trans hg) hv
    · rw [h3] at hg
      injection hg with hg
      omega
theorem TwoK.on {base : Nat} {W wr w1 : World} {o v : Value} {m l : List KeyD} (h : TwoK base W wr o v m l) (hb : base ≤ wr.heap.size) (b : Below wr.heap.size wr w1) : TwoK base W w1 o v m l :=
  ⟨h.grows.on b, h.stays.on b, h.apart, h.bel.trans (b.mono h.bel.size), h.low⟩
set_option maxHeartbeats 2000000 in
theorem specKeysOf_any (vl vn : Value) (lo : List Int) (ts : List NodeD) (p : Int) (w : World) (hv : RdT w w.heap.size vl vn lo ts) (hn : ts.length ≤ 1048576) (hs : sumT ts ≤ 1048576) :
    Calls Tryz.prog 263 #[.agg #[vl, vn], .int .i64 p] w (NewK w (keysOfK ts p)) := by
  obtain ⟨A, c, A', c', rfl, rfl⟩ := hv.shape
  have hb1 := bal2 w (.cells #[.slice A lo.length c, .slice A' ts.length c'] 27) (.cells #[] 112)
  have HV := Lib.hid (hv.on hb1)
  have HB := Lib.hid hb1
  have Q0 := Lib.hid (al2 w (.cells #[.slice A lo.length c, .slice A' ts.length c'] 27) (.cells #[] 112)).1
  have Q1 := Lib.hid (RowK.lit (w.alloc (.cells #[.slice A lo.length c, .slice A' ts.length c'] 27)))
  have HKL := Lib.hid (treeKeys_len ts)
  have HZ0 := Lib.hid (show (w.alloc (.cells #[.slice A lo.length c, .slice A' ts.length c'] 27)).heap.size = w.heap.size + 1 by simp)
  have HZ1 := Lib.hid (show ((w.alloc (.cells #[.slice A lo.length c, .slice A' ts.length c'] 27)).alloc (.cells #[] 112)).heap.size = w.heap.size + 1 + 1 by simp)
  unfold keysOfK
  obtain ⟨L, hL⟩ : ∃ L, treeKeysK ts = L := ⟨_, rfl⟩
  rw [hL] at HKL ⊢
  obtain ⟨R, hR⟩ : ∃ R, L.filter (fun k => k.a == p) = R := ⟨_, rfl⟩
  rw [hR]
  have HL := Lib.hid hL
  have HR := Lib.hid hR
  rw [HZ0.out] at Q1
  clear hv hb1 hL hR HZ0
  go_enter Tryz.func263, Tryz.ntmps263
  go_upto_region 2 with (fail)
  generalize (w.alloc (.cells #[.slice A lo.length c, .slice A' ts.length c'] 27)).alloc (.cells #[] 112) = W at *
  obtain ⟨x0, x1, x2⟩ := box2 Q0.out
  go_wp2_with fail
  refine (specTreeKeys_any _ _ lo ts _ HV.out hn hs).mono ?_
  rintro r w1 ⟨v1, rfl, o1, b1⟩
  rw [HL.out] at o1
  obtain ⟨A1, c1, rfl, _, _⟩ := o1.shape
  have HX := Lib.hid (show TwoK (w.heap.size + 1) w w1 (.slice (some ⟨w.heap.size + 1, 0, none⟩) 0 0) (.slice A1 L.length c1) [] L from ⟨Q1.out.on b1, o1.mono (by have := HZ1.out; omega), fun g hg hv => by
    have h1 := (o1.lt g hv).2
    have h2 := HZ1.out
    simp only [Value.ownBlock] at hg
    injection hg with hg
    omega, bstep HB.out b1, Nat.le_succ _⟩)
  have HZ := Lib.hid (show w.heap.size + 1 ≤ w1.heap.size by have := HZ1.out; have := b1.size; omega)
  have hL2 : L.length ≤ 1048576 := by have := HKL.out; omega
  clear o1 b1 x0 x1 x2 HV Q0 Q1 HB HZ1
  go_wp2
  go_loopw [5, 7] (fun o i wr => ∃ (k : Nat) (m : List KeyD), k ≤ L.length ∧ i = .int .i64 k ∧ Hid (m.length ≤ k) ∧ Hid (m ++ (L.drop k).filter (fun x => x.a == p) = R) ∧ Hid (TwoK (w.heap.size + 1) w wr o (.slice A1 L.length c1) m L) ∧ Hid (w.heap.size + 1 ≤ wr.heap.size)) (fun _ i _ => L.length - (intOf i).toNat)
  case atStart => exact ⟨0, [], Nat.zero_le _, rfl, Lib.hid (Nat.zero_le _), Lib.hid HR.out, HX, HZ⟩
  case round =>
    clear HX HZ
    obtain ⟨k, m, hk, rfl, HM, HI, HX, HZ⟩ := hrel
    obtain ⟨Ao, co, rfl, _, _⟩ := HX.out.grows.shape
    by_cases hlt : k < L.length
    · obtain ⟨b, off, rfl, hbb, hc⟩ := HX.out.stays.owns.reads.keys hlt
      have i1 : (k : Int) < (L.length : Int) := by omega
      have i2 : (0 : Int) ≤ (k : Int) := by omega
      obtain ⟨c0, c1, c2, c3, c4⟩ := hc k hlt
      clear hc
      cases hs : ((L[k]).a == p)
      · have HS := Lib.hid hs
        go_wp2
        go_roundw
        case rel => exact ⟨k + 1, m, by omega, by go_num, Lib.hid (Nat.le_succ_of_le HM.out), Lib.hid (filt_no (p := fun x => x.a == p) hlt HS.out HI.out), HX, HZ⟩
        case measure => simp [intOf]; omega
      · have HS := Lib.hid hs
        have ba := bal1 wr (.cells #[.int .i64 (L[k]).a, .int .i64 (L[k]).b, .int .i64 (L[k]).c, .int .i64 (L[k]).d, .int .i64 (L[k]).e] 112)
        have HRow := Lib.hid (HX.out.grows.on ba)
        have HAt := Lib.hid (At.key wr L[k] 112)
        have hzz : (wr.alloc (.cells #[.int .i64 (L[k]).a, .int .i64 (L[k]).b, .int .i64 (L[k]).c, .int .i64 (L[k]).d, .int .i64 (L[k]).e] 112)).heap.size = wr.heap.size + 1 := by simp
        have HZ2 := Lib.hid (show w.heap.size + 1 ≤ (wr.alloc (.cells #[.int .i64 (L[k]).a, .int .i64 (L[k]).b, .int .i64 (L[k]).c, .int .i64 (L[k]).d, .int .i64 (L[k]).e] 112)).heap.size by have := HZ.out; omega)
        clear ba hzz
        go_wp2_with (at_builtin; refine wpList_appK2 _ rfl (.tmp 24) (.tmp 29) rfl (w.heap.size + 1) _ m rfl HRow.out (some ⟨wr.heap.size, 0, none⟩) 1 1 [L[k]] rfl rfl HAt.out (by have := HM.out; simp; omega) HZ2.out ?_; intro v1 w1 o1 g1 e1; clear HRow HAt)
        have HX2 := Lib.hid (HX.out.step HZ.out o1 g1 e1)
        have HZ3 := Lib.hid (Nat.le_trans HZ2.out g1.size)
        clear o1 g1 e1
        go_roundw
        case rel => exact ⟨k + 1, m ++ [L[k]], by omega, by go_num, Lib.hid (by have := HM.out; simp; omega), Lib.hid (filt_yes (p := fun x => x.a == p) hlt HS.out HI.out), HX2, HZ3⟩
        case measure => simp [intOf]; omega
    · have e : m = R := by
        have := HI.out
        rw [List.drop_eq_nil_of_le (by omega)] at this
        simpa using this
      subst e
      go_wp2
      go_ret
      exact ⟨_, rfl, HX.out.grows.mono (by omega), HX.out.bel⟩
end Go.Proofs.YtlhemcjahcmdeaaGreatDoor
