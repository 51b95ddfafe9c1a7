/- Several texts in one: AgeOkS, Lay, AgeCut, AgePath, DrawA, DrawAge, AgeMath, KSetMath, NodesMath, TreeSPutA, TreesMath, TreesMath2, TreesMath3, SeePure, DoPureB, PrunePure, SeeDelP, SeeDel, PoolRefs, PoolAges, PruneFind, PoolSet. -/
import Derived.Lib.SliceRun
import Derived.StillTailTactics
import Derived.WalkMore
import Derived.Laws.BitsAllLaws
import Derived.Laws.BitsLemmas
import Derived.Deep.RegionHeld3
import Derived.Deep.DeepCutAuto
import Derived.Test.YtpfepcjbhchpcaaGreatPkNC
namespace Go.Proofs.YtpfepcjbhchpcaaGreat
open Go.RowKit
set_option maxRecDepth 100000
set_option linter.unusedSimpArgs false
set_option linter.unusedVariables false

set_option maxHeartbeats 4000000 in
theorem specAgesOk_any (v : Value) (l : List AgeD) (w : World) (hv : Reads w w.heap.size v (agesD l)) (hn : l.length ≤ 2097152) : Calls Tryz.prog 56 #[v] w (SaysBool w (agesOkB l)) := by
  obtain ⟨A, c, rfl, hcap, hmax⟩ := hv.shapeG
  obtain ⟨R, hR⟩ : ∃ R, agesOkB l = R := ⟨_, rfl⟩
  rw [hR]
  have HR := Lib.hid hR
  have HV := Lib.hid hv
  clear hv hR
  go_enter Tryz.func56, Tryz.ntmps56
  go_wp2
  go_loopw [3] (fun i wr => ∃ k : Nat, k ≤ l.length ∧ i = .int .i64 k ∧ Hid (∀ j, j < k → fitG l j = true) ∧ Hid (∀ j (h : j + 1 < l.length), j + 1 < k → (l[j]).a < (l[j + 1]).a) ∧ Hid (Below w.heap.size w wr)) (fun i _ => l.length - (intOf i).toNat)
  case atStart => exact ⟨0, Nat.zero_le _, rfl, Lib.hid (fun j h => by omega), Lib.hid (fun j h h2 => by omega), Lib.hid (Below.refl _ _)⟩
  case round =>
    obtain ⟨k, hk, rfl, HI, HJ, HW⟩ := hrel
    by_cases hlt : k < l.length
    · have HTK := Lib.hid ((HV.out.on HW.out).takeG k hk)
      obtain ⟨b, off, rfl, hbb, hc⟩ := (HV.out.on HW.out).ages hlt
      have i1 : (k : Int) < (l.length : Int) := by omega
      have i2 : (0 : Int) ≤ (k : Int) := by omega
      have i3 : (k : Int) ≤ (c : Int) := by omega
      have i4 : k ≤ c := by omega
      have FK := Lib.hid (hc k hlt)
      have hfit := gfit_at hlt
      cases hid : idG (l[k]).a
      · have HID := Lib.hid hid
        have HBAD : Hid (agesOkB l = false) := Lib.hid (fit_miss hlt (by rw [hfit, hid]; rfl))
        clear hc hfit hid
        go_upto_region 4 with (fail)
        refine but_begin (f := 24) (S := fun V => Below wr.drew.heap.size wr.drew V) (by kernel_rfl) ?_
        refine but_take (f := 24) (i := 0) (v := ?vsb0) rfl (by kernel_rfl) (by kernel_rfl) (by kernel_rfl) (by kernel_rfl) (by kernel_rfl) (fun _ _ _ h => h) (Or.inl ⟨(by rfl), ?hysb0⟩) (Below.refl _ _) ?restsb0
        case hysb0 =>
          intro W hW
          go_simp
          exact rfl
        simp only [List.getElem_toArray, List.getElem_cons_succ, List.getElem_cons_zero, Act.put, List.setIfInBounds_toArray, List.set_cons_zero, List.set_cons_succ]
        refine but_take (f := 24) (i := 1) (v := ?vsb1) rfl (by kernel_rfl) (by kernel_rfl) (by kernel_rfl) (by kernel_rfl) (by kernel_rfl) (fun _ _ _ h => h) (Or.inl ⟨(by rfl), ?hysb1⟩) (Below.refl _ _) ?restsb1
        case hysb1 =>
          intro W hW
          go_simp
          exact rfl
        simp only [List.getElem_toArray, List.getElem_cons_succ, List.getElem_cons_zero, Act.put, List.setIfInBounds_toArray, List.set_cons_zero, List.set_cons_succ]
        refine but_take (f := 24) (i := 2) (v := ?vsb2) rfl (by kernel_rfl) (by kernel_rfl) (by kernel_rfl) (by kernel_rfl) (by kernel_rfl) (fun _ _ _ h => h) (Or.inl ⟨(by rfl), ?hysb2⟩) (Below.refl _ _) ?restsb2
        case hysb2 =>
          intro W hW
          go_simp
          exact rfl
        simp only [List.getElem_toArray, List.getElem_cons_succ, List.getElem_cons_zero, Act.put, List.setIfInBounds_toArray, List.set_cons_zero, List.set_cons_succ]
        refine but_take (f := 24) (i := 3) (v := ?vsb3) rfl (by kernel_rfl) (by kernel_rfl) (by kernel_rfl) (by kernel_rfl) (by kernel_rfl) (fun _ _ _ h => h) (Or.inl ⟨(by rfl), ?hysb3⟩) (Below.refl _ _) ?restsb3
        case hysb3 =>
          intro W hW
          go_simp
          exact rfl
        simp only [List.getElem_toArray, List.getElem_cons_succ, List.getElem_cons_zero, Act.put, List.setIfInBounds_toArray, List.set_cons_zero, List.set_cons_succ]
        refine but_take (f := 24) (i := 4) (v := ?vsb4) rfl (by kernel_rfl) (by kernel_rfl) (by kernel_rfl) (by kernel_rfl) (by kernel_rfl) (fun _ _ _ h => h) (Or.inl ⟨(by rfl), ?hysb4⟩) (Below.refl _ _) ?restsb4
        case hysb4 =>
          intro W hW
          have hb0 : Below wr.heap.size wr W := bstep (Below.drew1 _) hW
          obtain ⟨y0, y1⟩ := FK.out.on hbb hb0
          go_simp
          exact rfl
        simp only [List.getElem_toArray, List.getElem_cons_succ, List.getElem_cons_zero, Act.put, List.setIfInBounds_toArray, List.set_cons_zero, List.set_cons_succ]
        refine but_run (i := 5) (by kernel_rfl) rfl (by rfl) ?_
        simp only [List.getElem_toArray, List.getElem_cons_succ, List.getElem_cons_zero]
        intro K HK
        go_wp2_with fail
        refine (inG_any (l[k]).a _).mono ?_
        rintro r Vsb1 ⟨rfl, hBsb1⟩
        rw [HID.out]
        have hSsb1 := bstep (Below.refl _ _) hBsb1
        go_wp2_with fail
        refine HK.out _ Vsb1 (fun _ => hSsb1) ?_
        clear HK
        refine but_take (f := 24) (i := 6) (v := ?vsb6) rfl (by kernel_rfl) (by kernel_rfl) (by kernel_rfl) (by kernel_rfl) (by kernel_rfl) (fun _ _ _ h => h) (Or.inl ⟨(by rfl), ?hysb6⟩) hSsb1 ?restsb6
        case hysb6 =>
          intro W hW
          go_simp
          exact rfl
        simp only [List.getElem_toArray, List.getElem_cons_succ, List.getElem_cons_zero, Act.put, List.setIfInBounds_toArray, List.set_cons_zero, List.set_cons_succ]
        refine but_take (f := 24) (i := 7) (v := ?vsb7) rfl (by kernel_rfl) (by kernel_rfl) (by kernel_rfl) (by kernel_rfl) (by kernel_rfl) (fun _ _ _ h => h) (Or.inl ⟨(by rfl), ?hysb7⟩) hSsb1 ?restsb7
        case hysb7 =>
          intro W hW
          go_simp
          exact rfl
        simp only [List.getElem_toArray, List.getElem_cons_succ, List.getElem_cons_zero, Act.put, List.setIfInBounds_toArray, List.set_cons_zero, List.set_cons_succ]
        refine but_take (f := 24) (i := 8) (v := undef) rfl (by kernel_rfl) (by kernel_rfl) (by kernel_rfl) (by kernel_rfl) (by kernel_rfl) (fun _ _ _ h => h) (Or.inr ⟨((wanted_at rfl rfl rfl rfl).trans rfl), rfl⟩) hSsb1 ?_
        simp only [List.getElem_toArray, List.getElem_cons_succ, List.getElem_cons_zero, Act.put, List.setIfInBounds_toArray, List.set_cons_zero, List.set_cons_succ]
        refine but_take (f := 24) (i := 9) (v := undef) rfl (by kernel_rfl) (by kernel_rfl) (by kernel_rfl) (by kernel_rfl) (by kernel_rfl) (fun _ _ _ h => h) (Or.inr ⟨((wanted_at rfl rfl rfl rfl).trans rfl), rfl⟩) hSsb1 ?_
        simp only [List.getElem_toArray, List.getElem_cons_succ, List.getElem_cons_zero, Act.put, List.setIfInBounds_toArray, List.set_cons_zero, List.set_cons_succ]
        refine but_take (f := 24) (i := 10) (v := undef) rfl (by kernel_rfl) (by kernel_rfl) (by kernel_rfl) (by kernel_rfl) (by kernel_rfl) (fun _ _ _ h => h) (Or.inr ⟨((wanted_at rfl rfl rfl rfl).trans rfl), rfl⟩) hSsb1 ?_
        simp only [List.getElem_toArray, List.getElem_cons_succ, List.getElem_cons_zero, Act.put, List.setIfInBounds_toArray, List.set_cons_zero, List.set_cons_succ]
        refine but_take (f := 24) (i := 11) (v := undef) rfl (by kernel_rfl) (by kernel_rfl) (by kernel_rfl) (by kernel_rfl) (by kernel_rfl) (fun _ _ _ h => h) (Or.inr ⟨(wanted_un rfl rfl rfl rfl), rfl⟩) hSsb1 ?_
        simp only [List.getElem_toArray, List.getElem_cons_succ, List.getElem_cons_zero, Act.put, List.setIfInBounds_toArray, List.set_cons_zero, List.set_cons_succ]
        refine but_take (f := 24) (i := 12) (v := undef) rfl (by kernel_rfl) (by kernel_rfl) (by kernel_rfl) (by kernel_rfl) (by kernel_rfl) (fun _ _ _ h => h) (Or.inr ⟨(wanted_un rfl rfl rfl rfl), rfl⟩) hSsb1 ?_
        simp only [List.getElem_toArray, List.getElem_cons_succ, List.getElem_cons_zero, Act.put, List.setIfInBounds_toArray, List.set_cons_zero, List.set_cons_succ]
        refine but_take (f := 24) (i := 13) (v := undef) rfl (by kernel_rfl) (by kernel_rfl) (by kernel_rfl) (by kernel_rfl) (by kernel_rfl) (fun _ _ _ h => h) (Or.inr ⟨(wanted_un rfl rfl rfl rfl), rfl⟩) hSsb1 ?_
        simp only [List.getElem_toArray, List.getElem_cons_succ, List.getElem_cons_zero, Act.put, List.setIfInBounds_toArray, List.set_cons_zero, List.set_cons_succ]
        refine but_take (f := 24) (i := 14) (v := undef) rfl (by kernel_rfl) (by kernel_rfl) (by kernel_rfl) (by kernel_rfl) (by kernel_rfl) (fun _ _ _ h => h) (Or.inr ⟨(wanted_un rfl rfl rfl rfl), rfl⟩) hSsb1 ?_
        simp only [List.getElem_toArray, List.getElem_cons_succ, List.getElem_cons_zero, Act.put, List.setIfInBounds_toArray, List.set_cons_zero, List.set_cons_succ]
        refine but_take (f := 24) (i := 15) (v := undef) rfl (by kernel_rfl) (by kernel_rfl) (by kernel_rfl) (by kernel_rfl) (by kernel_rfl) (fun _ _ _ h => h) (Or.inr ⟨(wanted_un rfl rfl rfl rfl), rfl⟩) hSsb1 ?_
        simp only [List.getElem_toArray, List.getElem_cons_succ, List.getElem_cons_zero, Act.put, List.setIfInBounds_toArray, List.set_cons_zero, List.set_cons_succ]
        refine but_take (f := 24) (i := 16) (v := undef) rfl (by kernel_rfl) (by kernel_rfl) (by kernel_rfl) (by kernel_rfl) (by kernel_rfl) (fun _ _ _ h => h) (Or.inr ⟨(wanted_un rfl rfl rfl rfl), rfl⟩) hSsb1 ?_
        simp only [List.getElem_toArray, List.getElem_cons_succ, List.getElem_cons_zero, Act.put, List.setIfInBounds_toArray, List.set_cons_zero, List.set_cons_succ]
        refine but_take (f := 24) (i := 17) (v := undef) rfl (by kernel_rfl) (by kernel_rfl) (by kernel_rfl) (by kernel_rfl) (by kernel_rfl) (fun _ _ _ h => h) (Or.inr ⟨(wanted_un rfl rfl rfl rfl), rfl⟩) hSsb1 ?_
        simp only [List.getElem_toArray, List.getElem_cons_succ, List.getElem_cons_zero, Act.put, List.setIfInBounds_toArray, List.set_cons_zero, List.set_cons_succ]
        refine but_take (f := 24) (i := 18) (v := undef) rfl (by kernel_rfl) (by kernel_rfl) (by kernel_rfl) (by kernel_rfl) (by kernel_rfl) (fun _ _ _ h => h) (Or.inr ⟨(wanted_un rfl rfl rfl rfl), rfl⟩) hSsb1 ?_
        simp only [List.getElem_toArray, List.getElem_cons_succ, List.getElem_cons_zero, Act.put, List.setIfInBounds_toArray, List.set_cons_zero, List.set_cons_succ]
        refine but_take (f := 24) (i := 19) (v := undef) rfl (by kernel_rfl) (by kernel_rfl) (by kernel_rfl) (by kernel_rfl) (by kernel_rfl) (fun _ _ _ h => h) (Or.inr ⟨(wanted_un rfl rfl rfl rfl), rfl⟩) hSsb1 ?_
        simp only [List.getElem_toArray, List.getElem_cons_succ, List.getElem_cons_zero, Act.put, List.setIfInBounds_toArray, List.set_cons_zero, List.set_cons_succ]
        refine but_take (f := 24) (i := 20) (v := undef) rfl (by kernel_rfl) (by kernel_rfl) (by kernel_rfl) (by kernel_rfl) (by kernel_rfl) (fun _ _ _ h => h) (Or.inr ⟨(wanted_un rfl rfl rfl rfl), rfl⟩) hSsb1 ?_
        simp only [List.getElem_toArray, List.getElem_cons_succ, List.getElem_cons_zero, Act.put, List.setIfInBounds_toArray, List.set_cons_zero, List.set_cons_succ]
        refine but_take (f := 24) (i := 21) (v := undef) rfl (by kernel_rfl) (by kernel_rfl) (by kernel_rfl) (by kernel_rfl) (by kernel_rfl) (fun _ _ _ h => h) (Or.inr ⟨(wanted_un rfl rfl rfl rfl), rfl⟩) hSsb1 ?_
        simp only [List.getElem_toArray, List.getElem_cons_succ, List.getElem_cons_zero, Act.put, List.setIfInBounds_toArray, List.set_cons_zero, List.set_cons_succ]
        refine but_take (f := 24) (i := 22) (v := undef) rfl (by kernel_rfl) (by kernel_rfl) (by kernel_rfl) (by kernel_rfl) (by kernel_rfl) (fun _ _ _ h => h) (Or.inr ⟨(wanted_un rfl rfl rfl rfl), rfl⟩) hSsb1 ?_
        simp only [List.getElem_toArray, List.getElem_cons_succ, List.getElem_cons_zero, Act.put, List.setIfInBounds_toArray, List.set_cons_zero, List.set_cons_succ]
        refine but_take (f := 24) (i := 23) (v := undef) rfl (by kernel_rfl) (by kernel_rfl) (by kernel_rfl) (by kernel_rfl) (by kernel_rfl) (fun _ _ _ h => h) (Or.inr ⟨((wanted_at rfl rfl rfl rfl).trans rfl), rfl⟩) hSsb1 ?_
        simp only [List.getElem_toArray, List.getElem_cons_succ, List.getElem_cons_zero, Act.put, List.setIfInBounds_toArray, List.set_cons_zero, List.set_cons_succ]
        refine but_run (i := 24) (by kernel_rfl) rfl (by rfl) ?_
        simp only [List.getElem_toArray, List.getElem_cons_succ, List.getElem_cons_zero]
        intro K HK
        go_wp2_with fail
        refine HK.out _ Vsb1 (fun h => absurd rfl h) ?_
        clear HK
        refine but_done (by kernel_rfl) ?_
        go_wp2_with fail
        go_ret
        exact ⟨ret_boolB (by rw [← HR.out]; exact HBAD.out.symm), bstep HW.out (bstep (Below.drew1 _) hSsb1)⟩
      · have HID := Lib.hid hid
        by_cases hk0 : k = 0
        · have z0 : decide (0 < k) = false := decide_eq_false (by omega)
          have HJ2 : Hid (∀ j (h : j + 1 < l.length), j + 1 < k + 1 → (l[j]).a < (l[j + 1]).a) := Lib.hid (fun j h h2 => by omega)
          clear hc hid hk0
          go_upto_region 4 with (fail)
          refine but_begin (f := 24) (S := fun V => Below wr.drew.heap.size wr.drew V) (by kernel_rfl) ?_
          refine but_take (f := 24) (i := 0) (v := ?vs00) rfl (by kernel_rfl) (by kernel_rfl) (by kernel_rfl) (by kernel_rfl) (by kernel_rfl) (fun _ _ _ h => h) (Or.inl ⟨(by rfl), ?hys00⟩) (Below.refl _ _) ?rests00
          case hys00 =>
            intro W hW
            go_simp
            exact rfl
          simp only [List.getElem_toArray, List.getElem_cons_succ, List.getElem_cons_zero, Act.put, List.setIfInBounds_toArray, List.set_cons_zero, List.set_cons_succ]
          refine but_take (f := 24) (i := 1) (v := ?vs01) rfl (by kernel_rfl) (by kernel_rfl) (by kernel_rfl) (by kernel_rfl) (by kernel_rfl) (fun _ _ _ h => h) (Or.inl ⟨(by rfl), ?hys01⟩) (Below.refl _ _) ?rests01
          case hys01 =>
            intro W hW
            go_simp
            exact rfl
          simp only [List.getElem_toArray, List.getElem_cons_succ, List.getElem_cons_zero, Act.put, List.setIfInBounds_toArray, List.set_cons_zero, List.set_cons_succ]
          refine but_take (f := 24) (i := 2) (v := ?vs02) rfl (by kernel_rfl) (by kernel_rfl) (by kernel_rfl) (by kernel_rfl) (by kernel_rfl) (fun _ _ _ h => h) (Or.inl ⟨(by rfl), ?hys02⟩) (Below.refl _ _) ?rests02
          case hys02 =>
            intro W hW
            go_simp
            exact rfl
          simp only [List.getElem_toArray, List.getElem_cons_succ, List.getElem_cons_zero, Act.put, List.setIfInBounds_toArray, List.set_cons_zero, List.set_cons_succ]
          refine but_take (f := 24) (i := 3) (v := ?vs03) rfl (by kernel_rfl) (by kernel_rfl) (by kernel_rfl) (by kernel_rfl) (by kernel_rfl) (fun _ _ _ h => h) (Or.inl ⟨(by rfl), ?hys03⟩) (Below.refl _ _) ?rests03
          case hys03 =>
            intro W hW
            go_simp
            exact rfl
          simp only [List.getElem_toArray, List.getElem_cons_succ, List.getElem_cons_zero, Act.put, List.setIfInBounds_toArray, List.set_cons_zero, List.set_cons_succ]
          refine but_take (f := 24) (i := 4) (v := ?vs04) rfl (by kernel_rfl) (by kernel_rfl) (by kernel_rfl) (by kernel_rfl) (by kernel_rfl) (fun _ _ _ h => h) (Or.inl ⟨(by rfl), ?hys04⟩) (Below.refl _ _) ?rests04
          case hys04 =>
            intro W hW
            have hb0 : Below wr.heap.size wr W := bstep (Below.drew1 _) hW
            obtain ⟨y0, y1⟩ := FK.out.on hbb hb0
            go_simp
            exact rfl
          simp only [List.getElem_toArray, List.getElem_cons_succ, List.getElem_cons_zero, Act.put, List.setIfInBounds_toArray, List.set_cons_zero, List.set_cons_succ]
          refine but_run (i := 5) (by kernel_rfl) rfl (by rfl) ?_
          simp only [List.getElem_toArray, List.getElem_cons_succ, List.getElem_cons_zero]
          intro K HK
          go_wp2_with fail
          refine (inG_any (l[k]).a _).mono ?_
          rintro r Vs01 ⟨rfl, hBs01⟩
          rw [HID.out]
          have hSs01 := bstep (Below.refl _ _) hBs01
          go_wp2_with fail
          refine HK.out _ Vs01 (fun _ => hSs01) ?_
          clear HK
          refine but_take (f := 24) (i := 6) (v := ?vs06) rfl (by kernel_rfl) (by kernel_rfl) (by kernel_rfl) (by kernel_rfl) (by kernel_rfl) (fun _ _ _ h => h) (Or.inl ⟨(by rfl), ?hys06⟩) hSs01 ?rests06
          case hys06 =>
            intro W hW
            go_simp
            exact rfl
          simp only [List.getElem_toArray, List.getElem_cons_succ, List.getElem_cons_zero, Act.put, List.setIfInBounds_toArray, List.set_cons_zero, List.set_cons_succ]
          refine but_take (f := 24) (i := 7) (v := ?vs07) rfl (by kernel_rfl) (by kernel_rfl) (by kernel_rfl) (by kernel_rfl) (by kernel_rfl) (fun _ _ _ h => h) (Or.inl ⟨(by rfl), ?hys07⟩) hSs01 ?rests07
          case hys07 =>
            intro W hW
            go_simp
            exact rfl
          simp only [List.getElem_toArray, List.getElem_cons_succ, List.getElem_cons_zero, Act.put, List.setIfInBounds_toArray, List.set_cons_zero, List.set_cons_succ]
          refine but_take (f := 24) (i := 8) (v := ?vs08) rfl (by kernel_rfl) (by kernel_rfl) (by kernel_rfl) (by kernel_rfl) (by kernel_rfl) (fun _ _ _ h => h) (Or.inl ⟨((wanted_at rfl rfl rfl rfl).trans rfl), ?hys08⟩) hSs01 ?rests08
          case hys08 =>
            intro W hW
            go_simp
            exact rfl
          simp only [List.getElem_toArray, List.getElem_cons_succ, List.getElem_cons_zero, Act.put, List.setIfInBounds_toArray, List.set_cons_zero, List.set_cons_succ]
          refine but_take (f := 24) (i := 9) (v := ?vs09) rfl (by kernel_rfl) (by kernel_rfl) (by kernel_rfl) (by kernel_rfl) (by kernel_rfl) (fun _ _ _ h => h) (Or.inl ⟨((wanted_at rfl rfl rfl rfl).trans rfl), ?hys09⟩) hSs01 ?rests09
          case hys09 =>
            intro W hW
            go_simp
            exact rfl
          simp only [List.getElem_toArray, List.getElem_cons_succ, List.getElem_cons_zero, Act.put, List.setIfInBounds_toArray, List.set_cons_zero, List.set_cons_succ]
          refine but_take (f := 24) (i := 10) (v := ?vs010) rfl (by kernel_rfl) (by kernel_rfl) (by kernel_rfl) (by kernel_rfl) (by kernel_rfl) (fun _ _ _ h => h) (Or.inl ⟨((wanted_at rfl rfl rfl rfl).trans rfl), ?hys010⟩) hSs01 ?rests010
          case hys010 =>
            intro W hW
            go_simp
            exact rfl
          simp only [List.getElem_toArray, List.getElem_cons_succ, List.getElem_cons_zero, Act.put, List.setIfInBounds_toArray, List.set_cons_zero, List.set_cons_succ]
          refine but_take (f := 24) (i := 11) (v := undef) rfl (by kernel_rfl) (by kernel_rfl) (by kernel_rfl) (by kernel_rfl) (by kernel_rfl) (fun _ _ _ h => h) (Or.inr ⟨((wanted_at rfl rfl rfl rfl).trans rfl), rfl⟩) hSs01 ?_
          simp only [List.getElem_toArray, List.getElem_cons_succ, List.getElem_cons_zero, Act.put, List.setIfInBounds_toArray, List.set_cons_zero, List.set_cons_succ]
          refine but_take (f := 24) (i := 12) (v := undef) rfl (by kernel_rfl) (by kernel_rfl) (by kernel_rfl) (by kernel_rfl) (by kernel_rfl) (fun _ _ _ h => h) (Or.inr ⟨((wanted_at rfl rfl rfl rfl).trans rfl), rfl⟩) hSs01 ?_
          simp only [List.getElem_toArray, List.getElem_cons_succ, List.getElem_cons_zero, Act.put, List.setIfInBounds_toArray, List.set_cons_zero, List.set_cons_succ]
          refine but_take (f := 24) (i := 13) (v := undef) rfl (by kernel_rfl) (by kernel_rfl) (by kernel_rfl) (by kernel_rfl) (by kernel_rfl) (fun _ _ _ h => h) (Or.inr ⟨((wanted_at rfl rfl rfl rfl).trans rfl), rfl⟩) hSs01 ?_
          simp only [List.getElem_toArray, List.getElem_cons_succ, List.getElem_cons_zero, Act.put, List.setIfInBounds_toArray, List.set_cons_zero, List.set_cons_succ]
          refine but_take (f := 24) (i := 14) (v := undef) rfl (by kernel_rfl) (by kernel_rfl) (by kernel_rfl) (by kernel_rfl) (by kernel_rfl) (fun _ _ _ h => h) (Or.inr ⟨((wanted_at rfl rfl rfl rfl).trans rfl), rfl⟩) hSs01 ?_
          simp only [List.getElem_toArray, List.getElem_cons_succ, List.getElem_cons_zero, Act.put, List.setIfInBounds_toArray, List.set_cons_zero, List.set_cons_succ]
          refine but_take (f := 24) (i := 15) (v := undef) rfl (by kernel_rfl) (by kernel_rfl) (by kernel_rfl) (by kernel_rfl) (by kernel_rfl) (fun _ _ _ h => h) (Or.inr ⟨((wanted_at rfl rfl rfl rfl).trans rfl), rfl⟩) hSs01 ?_
          simp only [List.getElem_toArray, List.getElem_cons_succ, List.getElem_cons_zero, Act.put, List.setIfInBounds_toArray, List.set_cons_zero, List.set_cons_succ]
          refine but_take (f := 24) (i := 16) (v := undef) rfl (by kernel_rfl) (by kernel_rfl) (by kernel_rfl) (by kernel_rfl) (by kernel_rfl) (fun _ _ _ h => h) (Or.inr ⟨((wanted_at rfl rfl rfl rfl).trans rfl), rfl⟩) hSs01 ?_
          simp only [List.getElem_toArray, List.getElem_cons_succ, List.getElem_cons_zero, Act.put, List.setIfInBounds_toArray, List.set_cons_zero, List.set_cons_succ]
          refine but_take (f := 24) (i := 17) (v := undef) rfl (by kernel_rfl) (by kernel_rfl) (by kernel_rfl) (by kernel_rfl) (by kernel_rfl) (fun _ _ _ h => h) (Or.inr ⟨((wanted_at rfl rfl rfl rfl).trans rfl), rfl⟩) hSs01 ?_
          simp only [List.getElem_toArray, List.getElem_cons_succ, List.getElem_cons_zero, Act.put, List.setIfInBounds_toArray, List.set_cons_zero, List.set_cons_succ]
          refine but_take (f := 24) (i := 18) (v := undef) rfl (by kernel_rfl) (by kernel_rfl) (by kernel_rfl) (by kernel_rfl) (by kernel_rfl) (fun _ _ _ h => h) (Or.inr ⟨((wanted_at rfl rfl rfl rfl).trans rfl), rfl⟩) hSs01 ?_
          simp only [List.getElem_toArray, List.getElem_cons_succ, List.getElem_cons_zero, Act.put, List.setIfInBounds_toArray, List.set_cons_zero, List.set_cons_succ]
          refine but_take (f := 24) (i := 19) (v := undef) rfl (by kernel_rfl) (by kernel_rfl) (by kernel_rfl) (by kernel_rfl) (by kernel_rfl) (fun _ _ _ h => h) (Or.inr ⟨((wanted_at rfl rfl rfl rfl).trans rfl), rfl⟩) hSs01 ?_
          simp only [List.getElem_toArray, List.getElem_cons_succ, List.getElem_cons_zero, Act.put, List.setIfInBounds_toArray, List.set_cons_zero, List.set_cons_succ]
          refine but_take (f := 24) (i := 20) (v := undef) rfl (by kernel_rfl) (by kernel_rfl) (by kernel_rfl) (by kernel_rfl) (by kernel_rfl) (fun _ _ _ h => h) (Or.inr ⟨((wanted_at rfl rfl rfl rfl).trans rfl), rfl⟩) hSs01 ?_
          simp only [List.getElem_toArray, List.getElem_cons_succ, List.getElem_cons_zero, Act.put, List.setIfInBounds_toArray, List.set_cons_zero, List.set_cons_succ]
          refine but_take (f := 24) (i := 21) (v := undef) rfl (by kernel_rfl) (by kernel_rfl) (by kernel_rfl) (by kernel_rfl) (by kernel_rfl) (fun _ _ _ h => h) (Or.inr ⟨((wanted_at rfl rfl rfl rfl).trans rfl), rfl⟩) hSs01 ?_
          simp only [List.getElem_toArray, List.getElem_cons_succ, List.getElem_cons_zero, Act.put, List.setIfInBounds_toArray, List.set_cons_zero, List.set_cons_succ]
          refine but_take (f := 24) (i := 22) (v := undef) rfl (by kernel_rfl) (by kernel_rfl) (by kernel_rfl) (by kernel_rfl) (by kernel_rfl) (fun _ _ _ h => h) (Or.inr ⟨((wanted_at rfl rfl rfl rfl).trans rfl), rfl⟩) hSs01 ?_
          simp only [List.getElem_toArray, List.getElem_cons_succ, List.getElem_cons_zero, Act.put, List.setIfInBounds_toArray, List.set_cons_zero, List.set_cons_succ]
          refine but_take (f := 24) (i := 23) (v := ?vs023) rfl (by kernel_rfl) (by kernel_rfl) (by kernel_rfl) (by kernel_rfl) (by kernel_rfl) (fun _ _ _ h => h) (Or.inl ⟨((wanted_at rfl rfl rfl rfl).trans rfl), ?hys023⟩) hSs01 ?rests023
          case hys023 =>
            intro W hW
            go_simp
            exact rfl
          simp only [List.getElem_toArray, List.getElem_cons_succ, List.getElem_cons_zero, Act.put, List.setIfInBounds_toArray, List.set_cons_zero, List.set_cons_succ]
          refine but_run (i := 24) (by kernel_rfl) rfl (by rfl) ?_
          simp only [List.getElem_toArray, List.getElem_cons_succ, List.getElem_cons_zero]
          intro K HK
          go_wp2_with fail
          refine HK.out _ Vs01 (fun h => absurd rfl h) ?_
          clear HK
          refine but_done (by kernel_rfl) ?_
          have BV := Lib.hid (bstep (Below.drew1 _) hSs01)
          go_upto_region 6 with (fail)
          obtain ⟨wv, hwv⟩ : ∃ wv, wv = Vs01 := ⟨_, rfl⟩
          rw [← hwv] at BV ⊢
          clear hwv
          cases q0 : ((l[k]).b != 0)
          · have HF : Hid (fitG l k = true) := Lib.hid (by rw [hfit, HID.out, parGB, show ((l[k]).b == 0) = true by simpa using q0]; rfl)
            refine but_begin (f := 17) (S := fun V => Below wv.drew.heap.size wv.drew V) (by kernel_rfl) ?_
            refine but_take (f := 17) (i := 0) (v := ?vt0s00) rfl (by kernel_rfl) (by kernel_rfl) (by kernel_rfl) (by kernel_rfl) (by kernel_rfl) (fun _ _ _ h => h) (Or.inl ⟨(by rfl), ?hyt0s00⟩) (Below.refl _ _) ?restt0s00
            case hyt0s00 =>
              intro W hW
              go_simp
              exact rfl
            simp only [List.getElem_toArray, List.getElem_cons_succ, List.getElem_cons_zero, Act.put, List.setIfInBounds_toArray, List.set_cons_zero, List.set_cons_succ]
            refine but_take (f := 17) (i := 1) (v := ?vt0s01) rfl (by kernel_rfl) (by kernel_rfl) (by kernel_rfl) (by kernel_rfl) (by kernel_rfl) (fun _ _ _ h => h) (Or.inl ⟨(by rfl), ?hyt0s01⟩) (Below.refl _ _) ?restt0s01
            case hyt0s01 =>
              intro W hW
              go_simp
              exact rfl
            simp only [List.getElem_toArray, List.getElem_cons_succ, List.getElem_cons_zero, Act.put, List.setIfInBounds_toArray, List.set_cons_zero, List.set_cons_succ]
            refine but_take (f := 17) (i := 2) (v := ?vt0s02) rfl (by kernel_rfl) (by kernel_rfl) (by kernel_rfl) (by kernel_rfl) (by kernel_rfl) (fun _ _ _ h => h) (Or.inl ⟨(by rfl), ?hyt0s02⟩) (Below.refl _ _) ?restt0s02
            case hyt0s02 =>
              intro W hW
              go_simp
              exact rfl
            simp only [List.getElem_toArray, List.getElem_cons_succ, List.getElem_cons_zero, Act.put, List.setIfInBounds_toArray, List.set_cons_zero, List.set_cons_succ]
            refine but_take (f := 17) (i := 3) (v := ?vt0s03) rfl (by kernel_rfl) (by kernel_rfl) (by kernel_rfl) (by kernel_rfl) (by kernel_rfl) (fun _ _ _ h => h) (Or.inl ⟨(by rfl), ?hyt0s03⟩) (Below.refl _ _) ?restt0s03
            case hyt0s03 =>
              intro W hW
              go_simp
              exact rfl
            simp only [List.getElem_toArray, List.getElem_cons_succ, List.getElem_cons_zero, Act.put, List.setIfInBounds_toArray, List.set_cons_zero, List.set_cons_succ]
            refine but_take (f := 17) (i := 4) (v := ?vt0s04) rfl (by kernel_rfl) (by kernel_rfl) (by kernel_rfl) (by kernel_rfl) (by kernel_rfl) (fun _ _ _ h => h) (Or.inl ⟨(by rfl), ?hyt0s04⟩) (Below.refl _ _) ?restt0s04
            case hyt0s04 =>
              intro W hW
              have hb0 : Below wv.heap.size wv W := bstep (Below.drew1 _) hW
              obtain ⟨y0, y1⟩ := FK.out.on hbb (bstep BV.out hb0)
              go_simp
              exact rfl
            simp only [List.getElem_toArray, List.getElem_cons_succ, List.getElem_cons_zero, Act.put, List.setIfInBounds_toArray, List.set_cons_zero, List.set_cons_succ]
            refine but_take (f := 17) (i := 5) (v := ?vt0s05) rfl (by kernel_rfl) (by kernel_rfl) (by kernel_rfl) (by kernel_rfl) (by kernel_rfl) (fun _ _ _ h => h) (Or.inl ⟨(by rfl), ?hyt0s05⟩) (Below.refl _ _) ?restt0s05
            case hyt0s05 =>
              intro W hW
              go_simp
              exact rfl
            simp only [List.getElem_toArray, List.getElem_cons_succ, List.getElem_cons_zero, Act.put, List.setIfInBounds_toArray, List.set_cons_zero, List.set_cons_succ]
            refine but_take (f := 17) (i := 6) (v := ?vt0s06) rfl (by kernel_rfl) (by kernel_rfl) (by kernel_rfl) (by kernel_rfl) (by kernel_rfl) (fun _ _ _ h => h) (Or.inl ⟨(by rfl), ?hyt0s06⟩) (Below.refl _ _) ?restt0s06
            case hyt0s06 =>
              intro W hW
              go_simp
              exact rfl
            simp only [List.getElem_toArray, List.getElem_cons_succ, List.getElem_cons_zero, Act.put, List.setIfInBounds_toArray, List.set_cons_zero, List.set_cons_succ]
            refine but_take (f := 17) (i := 7) (v := undef) rfl (by kernel_rfl) (by kernel_rfl) (by kernel_rfl) (by kernel_rfl) (by kernel_rfl) (fun _ _ _ h => h) (Or.inr ⟨((wanted_at rfl rfl rfl rfl).trans rfl), rfl⟩) (Below.refl _ _) ?_
            simp only [List.getElem_toArray, List.getElem_cons_succ, List.getElem_cons_zero, Act.put, List.setIfInBounds_toArray, List.set_cons_zero, List.set_cons_succ]
            refine but_take (f := 17) (i := 8) (v := undef) rfl (by kernel_rfl) (by kernel_rfl) (by kernel_rfl) (by kernel_rfl) (by kernel_rfl) (fun _ _ _ h => h) (Or.inr ⟨((wanted_at rfl rfl rfl rfl).trans rfl), rfl⟩) (Below.refl _ _) ?_
            simp only [List.getElem_toArray, List.getElem_cons_succ, List.getElem_cons_zero, Act.put, List.setIfInBounds_toArray, List.set_cons_zero, List.set_cons_succ]
            refine but_take (f := 17) (i := 9) (v := undef) rfl (by kernel_rfl) (by kernel_rfl) (by kernel_rfl) (by kernel_rfl) (by kernel_rfl) (fun _ _ _ h => h) (Or.inr ⟨((wanted_at rfl rfl rfl rfl).trans rfl), rfl⟩) (Below.refl _ _) ?_
            simp only [List.getElem_toArray, List.getElem_cons_succ, List.getElem_cons_zero, Act.put, List.setIfInBounds_toArray, List.set_cons_zero, List.set_cons_succ]
            refine but_take (f := 17) (i := 10) (v := undef) rfl (by kernel_rfl) (by kernel_rfl) (by kernel_rfl) (by kernel_rfl) (by kernel_rfl) (fun _ _ _ h => h) (Or.inr ⟨((wanted_at rfl rfl rfl rfl).trans rfl), rfl⟩) (Below.refl _ _) ?_
            simp only [List.getElem_toArray, List.getElem_cons_succ, List.getElem_cons_zero, Act.put, List.setIfInBounds_toArray, List.set_cons_zero, List.set_cons_succ]
            refine but_take (f := 17) (i := 11) (v := undef) rfl (by kernel_rfl) (by kernel_rfl) (by kernel_rfl) (by kernel_rfl) (by kernel_rfl) (fun _ _ _ h => h) (Or.inr ⟨((wanted_at rfl rfl rfl rfl).trans rfl), rfl⟩) (Below.refl _ _) ?_
            simp only [List.getElem_toArray, List.getElem_cons_succ, List.getElem_cons_zero, Act.put, List.setIfInBounds_toArray, List.set_cons_zero, List.set_cons_succ]
            refine but_take (f := 17) (i := 12) (v := undef) rfl (by kernel_rfl) (by kernel_rfl) (by kernel_rfl) (by kernel_rfl) (by kernel_rfl) (fun _ _ _ h => h) (Or.inr ⟨((wanted_at rfl rfl rfl rfl).trans rfl), rfl⟩) (Below.refl _ _) ?_
            simp only [List.getElem_toArray, List.getElem_cons_succ, List.getElem_cons_zero, Act.put, List.setIfInBounds_toArray, List.set_cons_zero, List.set_cons_succ]
            refine but_take (f := 17) (i := 13) (v := undef) rfl (by kernel_rfl) (by kernel_rfl) (by kernel_rfl) (by kernel_rfl) (by kernel_rfl) (fun _ _ _ h => h) (Or.inr ⟨((wanted_at rfl rfl rfl rfl).trans rfl), rfl⟩) (Below.refl _ _) ?_
            simp only [List.getElem_toArray, List.getElem_cons_succ, List.getElem_cons_zero, Act.put, List.setIfInBounds_toArray, List.set_cons_zero, List.set_cons_succ]
            refine but_take (f := 17) (i := 14) (v := undef) rfl (by kernel_rfl) (by kernel_rfl) (by kernel_rfl) (by kernel_rfl) (by kernel_rfl) (fun _ _ _ h => h) (Or.inr ⟨((wanted_at rfl rfl rfl rfl).trans rfl), rfl⟩) (Below.refl _ _) ?_
            simp only [List.getElem_toArray, List.getElem_cons_succ, List.getElem_cons_zero, Act.put, List.setIfInBounds_toArray, List.set_cons_zero, List.set_cons_succ]
            refine but_take (f := 17) (i := 15) (v := undef) rfl (by kernel_rfl) (by kernel_rfl) (by kernel_rfl) (by kernel_rfl) (by kernel_rfl) (fun _ _ _ h => h) (Or.inr ⟨((wanted_at rfl rfl rfl rfl).trans rfl), rfl⟩) (Below.refl _ _) ?_
            simp only [List.getElem_toArray, List.getElem_cons_succ, List.getElem_cons_zero, Act.put, List.setIfInBounds_toArray, List.set_cons_zero, List.set_cons_succ]
            refine but_take (f := 17) (i := 16) (v := undef) rfl (by kernel_rfl) (by kernel_rfl) (by kernel_rfl) (by kernel_rfl) (by kernel_rfl) (fun _ _ _ h => h) (Or.inr ⟨((wanted_at rfl rfl rfl rfl).trans rfl), rfl⟩) (Below.refl _ _) ?_
            simp only [List.getElem_toArray, List.getElem_cons_succ, List.getElem_cons_zero, Act.put, List.setIfInBounds_toArray, List.set_cons_zero, List.set_cons_succ]
            refine but_run (i := 17) (by kernel_rfl) rfl (by rfl) ?_
            simp only [List.getElem_toArray, List.getElem_cons_succ, List.getElem_cons_zero]
            intro K HK
            go_wp2_with fail
            refine HK.out _ wv.drew (fun h => absurd rfl h) ?_
            clear HK
            refine but_done (by kernel_rfl) ?_
            go_wp2_with fail
            go_roundw
            case rel => exact ⟨k + 1, by omega, by go_num, Lib.hid (fit_step HI.out HF.out), HJ2, Lib.hid (bstep HW.out (bstep BV.out (bstep (Below.drew1 _) (Below.refl _ _))))⟩
            case measure => simp [intOf]; omega
          · have q9 : ((l[k]).b == 0) = false := by simpa using q0
            have hneg := ageAt_neg (l.take k) (l[k]).b
            cases q2 : hasG (l.take k) (l[k]).b
            · have HF : Hid (fitG l k = false) := Lib.hid (by rw [hfit, HID.out, parGB, q9, q2]; rfl)
              rw [q2] at hneg
              have q3 : decide (ageAtK (l.take k) (l[k]).b < 0) = true := hneg
              clear hneg q9 q2
              refine but_begin (f := 17) (S := fun V => Below wv.drew.heap.size wv.drew V) (by kernel_rfl) ?_
              refine but_take (f := 17) (i := 0) (v := ?vtxs00) rfl (by kernel_rfl) (by kernel_rfl) (by kernel_rfl) (by kernel_rfl) (by kernel_rfl) (fun _ _ _ h => h) (Or.inl ⟨(by rfl), ?hytxs00⟩) (Below.refl _ _) ?resttxs00
              case hytxs00 =>
                intro W hW
                go_simp
                exact rfl
              simp only [List.getElem_toArray, List.getElem_cons_succ, List.getElem_cons_zero, Act.put, List.setIfInBounds_toArray, List.set_cons_zero, List.set_cons_succ]
              refine but_take (f := 17) (i := 1) (v := ?vtxs01) rfl (by kernel_rfl) (by kernel_rfl) (by kernel_rfl) (by kernel_rfl) (by kernel_rfl) (fun _ _ _ h => h) (Or.inl ⟨(by rfl), ?hytxs01⟩) (Below.refl _ _) ?resttxs01
              case hytxs01 =>
                intro W hW
                go_simp
                exact rfl
              simp only [List.getElem_toArray, List.getElem_cons_succ, List.getElem_cons_zero, Act.put, List.setIfInBounds_toArray, List.set_cons_zero, List.set_cons_succ]
              refine but_take (f := 17) (i := 2) (v := ?vtxs02) rfl (by kernel_rfl) (by kernel_rfl) (by kernel_rfl) (by kernel_rfl) (by kernel_rfl) (fun _ _ _ h => h) (Or.inl ⟨(by rfl), ?hytxs02⟩) (Below.refl _ _) ?resttxs02
              case hytxs02 =>
                intro W hW
                go_simp
                exact rfl
              simp only [List.getElem_toArray, List.getElem_cons_succ, List.getElem_cons_zero, Act.put, List.setIfInBounds_toArray, List.set_cons_zero, List.set_cons_succ]
              refine but_take (f := 17) (i := 3) (v := ?vtxs03) rfl (by kernel_rfl) (by kernel_rfl) (by kernel_rfl) (by kernel_rfl) (by kernel_rfl) (fun _ _ _ h => h) (Or.inl ⟨(by rfl), ?hytxs03⟩) (Below.refl _ _) ?resttxs03
              case hytxs03 =>
                intro W hW
                go_simp
                exact rfl
              simp only [List.getElem_toArray, List.getElem_cons_succ, List.getElem_cons_zero, Act.put, List.setIfInBounds_toArray, List.set_cons_zero, List.set_cons_succ]
              refine but_take (f := 17) (i := 4) (v := ?vtxs04) rfl (by kernel_rfl) (by kernel_rfl) (by kernel_rfl) (by kernel_rfl) (by kernel_rfl) (fun _ _ _ h => h) (Or.inl ⟨(by rfl), ?hytxs04⟩) (Below.refl _ _) ?resttxs04
              case hytxs04 =>
                intro W hW
                have hb0 : Below wv.heap.size wv W := bstep (Below.drew1 _) hW
                obtain ⟨y0, y1⟩ := FK.out.on hbb (bstep BV.out hb0)
                go_simp
                exact rfl
              simp only [List.getElem_toArray, List.getElem_cons_succ, List.getElem_cons_zero, Act.put, List.setIfInBounds_toArray, List.set_cons_zero, List.set_cons_succ]
              refine but_take (f := 17) (i := 5) (v := ?vtxs05) rfl (by kernel_rfl) (by kernel_rfl) (by kernel_rfl) (by kernel_rfl) (by kernel_rfl) (fun _ _ _ h => h) (Or.inl ⟨(by rfl), ?hytxs05⟩) (Below.refl _ _) ?resttxs05
              case hytxs05 =>
                intro W hW
                go_simp
                exact rfl
              simp only [List.getElem_toArray, List.getElem_cons_succ, List.getElem_cons_zero, Act.put, List.setIfInBounds_toArray, List.set_cons_zero, List.set_cons_succ]
              refine but_take (f := 17) (i := 6) (v := ?vtxs06) rfl (by kernel_rfl) (by kernel_rfl) (by kernel_rfl) (by kernel_rfl) (by kernel_rfl) (fun _ _ _ h => h) (Or.inl ⟨(by rfl), ?hytxs06⟩) (Below.refl _ _) ?resttxs06
              case hytxs06 =>
                intro W hW
                go_simp
                exact rfl
              simp only [List.getElem_toArray, List.getElem_cons_succ, List.getElem_cons_zero, Act.put, List.setIfInBounds_toArray, List.set_cons_zero, List.set_cons_succ]
              refine but_take (f := 17) (i := 7) (v := ?vtxs07) rfl (by kernel_rfl) (by kernel_rfl) (by kernel_rfl) (by kernel_rfl) (by kernel_rfl) (fun _ _ _ h => h) (Or.inl ⟨((wanted_at rfl rfl rfl rfl).trans rfl), ?hytxs07⟩) (Below.refl _ _) ?resttxs07
              case hytxs07 =>
                intro W hW
                go_simp
                exact rfl
              simp only [List.getElem_toArray, List.getElem_cons_succ, List.getElem_cons_zero, Act.put, List.setIfInBounds_toArray, List.set_cons_zero, List.set_cons_succ]
              refine but_take (f := 17) (i := 8) (v := ?vtxs08) rfl (by kernel_rfl) (by kernel_rfl) (by kernel_rfl) (by kernel_rfl) (by kernel_rfl) (fun _ _ _ h => h) (Or.inl ⟨((wanted_at rfl rfl rfl rfl).trans rfl), ?hytxs08⟩) (Below.refl _ _) ?resttxs08
              case hytxs08 =>
                intro W hW
                go_simp
                exact rfl
              simp only [List.getElem_toArray, List.getElem_cons_succ, List.getElem_cons_zero, Act.put, List.setIfInBounds_toArray, List.set_cons_zero, List.set_cons_succ]
              refine but_take (f := 17) (i := 9) (v := ?vtxs09) rfl (by kernel_rfl) (by kernel_rfl) (by kernel_rfl) (by kernel_rfl) (by kernel_rfl) (fun _ _ _ h => h) (Or.inl ⟨((wanted_at rfl rfl rfl rfl).trans rfl), ?hytxs09⟩) (Below.refl _ _) ?resttxs09
              case hytxs09 =>
                intro W hW
                go_simp
                exact rfl
              simp only [List.getElem_toArray, List.getElem_cons_succ, List.getElem_cons_zero, Act.put, List.setIfInBounds_toArray, List.set_cons_zero, List.set_cons_succ]
              refine but_take (f := 17) (i := 10) (v := ?vtxs010) rfl (by kernel_rfl) (by kernel_rfl) (by kernel_rfl) (by kernel_rfl) (by kernel_rfl) (fun _ _ _ h => h) (Or.inl ⟨((wanted_at rfl rfl rfl rfl).trans rfl), ?hytxs010⟩) (Below.refl _ _) ?resttxs010
              case hytxs010 =>
                intro W hW
                go_simp
                exact rfl
              simp only [List.getElem_toArray, List.getElem_cons_succ, List.getElem_cons_zero, Act.put, List.setIfInBounds_toArray, List.set_cons_zero, List.set_cons_succ]
              refine but_take (f := 17) (i := 11) (v := ?vtxs011) rfl (by kernel_rfl) (by kernel_rfl) (by kernel_rfl) (by kernel_rfl) (by kernel_rfl) (fun _ _ _ h => h) (Or.inl ⟨((wanted_at rfl rfl rfl rfl).trans rfl), ?hytxs011⟩) (Below.refl _ _) ?resttxs011
              case hytxs011 =>
                intro W hW
                go_simp
                exact rfl
              simp only [List.getElem_toArray, List.getElem_cons_succ, List.getElem_cons_zero, Act.put, List.setIfInBounds_toArray, List.set_cons_zero, List.set_cons_succ]
              refine but_take (f := 17) (i := 12) (v := ?vtxs012) rfl (by kernel_rfl) (by kernel_rfl) (by kernel_rfl) (by kernel_rfl) (by kernel_rfl) (fun _ _ _ h => h) (Or.inl ⟨((wanted_at rfl rfl rfl rfl).trans rfl), ?hytxs012⟩) (Below.refl _ _) ?resttxs012
              case hytxs012 =>
                intro W hW
                go_simp
                exact rfl
              simp only [List.getElem_toArray, List.getElem_cons_succ, List.getElem_cons_zero, Act.put, List.setIfInBounds_toArray, List.set_cons_zero, List.set_cons_succ]
              refine but_take (f := 17) (i := 13) (v := ?vtxs013) rfl (by kernel_rfl) (by kernel_rfl) (by kernel_rfl) (by kernel_rfl) (by kernel_rfl) (fun _ _ _ h => h) (Or.inl ⟨((wanted_at rfl rfl rfl rfl).trans rfl), ?hytxs013⟩) (Below.refl _ _) ?resttxs013
              case hytxs013 =>
                intro W hW
                go_simp
                exact rfl
              simp only [List.getElem_toArray, List.getElem_cons_succ, List.getElem_cons_zero, Act.put, List.setIfInBounds_toArray, List.set_cons_zero, List.set_cons_succ]
              refine but_take (f := 17) (i := 14) (v := ?vtxs014) rfl (by kernel_rfl) (by kernel_rfl) (by kernel_rfl) (by kernel_rfl) (by kernel_rfl) (fun _ _ _ h => h) (Or.inl ⟨((wanted_at rfl rfl rfl rfl).trans rfl), ?hytxs014⟩) (Below.refl _ _) ?resttxs014
              case hytxs014 =>
                intro W hW
                have hb0 : Below wv.heap.size wv W := bstep (Below.drew1 _) hW
                obtain ⟨y0, y1⟩ := FK.out.on hbb (bstep BV.out hb0)
                go_simp
                exact rfl
              simp only [List.getElem_toArray, List.getElem_cons_succ, List.getElem_cons_zero, Act.put, List.setIfInBounds_toArray, List.set_cons_zero, List.set_cons_succ]
              refine but_run (i := 15) (by kernel_rfl) rfl ((wanted_at rfl rfl rfl rfl).trans rfl) ?_
              simp only [List.getElem_toArray, List.getElem_cons_succ, List.getElem_cons_zero]
              intro K HK
              go_wp2_with fail
              refine (specAgeAtB _ (l.take k) (l[k]).b _ (HTK.out.on (bstep BV.out (bstep (Below.drew1 _) (Below.refl _ _)))) (by simp; omega)).mono ?_
              rintro r Vtxs01 ⟨rfl, hBtxs01⟩
              have hStxs01 := bstep (Below.refl _ _) hBtxs01
              go_wp2_with fail
              refine HK.out _ Vtxs01 (fun _ => hStxs01) ?_
              clear HK
              refine but_take (f := 17) (i := 16) (v := ?vtxs016) rfl (by kernel_rfl) (by kernel_rfl) (by kernel_rfl) (by kernel_rfl) (by kernel_rfl) (fun _ _ _ h => h) (Or.inl ⟨((wanted_at rfl rfl rfl rfl).trans rfl), ?hytxs016⟩) hStxs01 ?resttxs016
              case hytxs016 =>
                intro W hW
                go_simp
                exact rfl
              simp only [List.getElem_toArray, List.getElem_cons_succ, List.getElem_cons_zero, Act.put, List.setIfInBounds_toArray, List.set_cons_zero, List.set_cons_succ]
              refine but_run (i := 17) (by kernel_rfl) rfl (by rfl) ?_
              simp only [List.getElem_toArray, List.getElem_cons_succ, List.getElem_cons_zero]
              intro K HK
              go_wp2_with fail
              refine HK.out _ Vtxs01 (fun h => absurd rfl h) ?_
              clear HK
              refine but_done (by kernel_rfl) ?_
              go_wp2_with fail
              go_ret
              exact ⟨ret_boolB (by rw [← HR.out]; exact (fit_miss hlt HF.out).symm), bstep HW.out (bstep BV.out (bstep (Below.drew1 _) hStxs01))⟩
            · have HF : Hid (fitG l k = true) := Lib.hid (by rw [hfit, HID.out, parGB, q9, q2]; rfl)
              rw [q2] at hneg
              have q3 : decide (ageAtK (l.take k) (l[k]).b < 0) = false := hneg
              clear hneg q9 q2
              refine but_begin (f := 17) (S := fun V => Below wv.drew.heap.size wv.drew V) (by kernel_rfl) ?_
              refine but_take (f := 17) (i := 0) (v := ?vtys00) rfl (by kernel_rfl) (by kernel_rfl) (by kernel_rfl) (by kernel_rfl) (by kernel_rfl) (fun _ _ _ h => h) (Or.inl ⟨(by rfl), ?hytys00⟩) (Below.refl _ _) ?resttys00
              case hytys00 =>
                intro W hW
                go_simp
                exact rfl
              simp only [List.getElem_toArray, List.getElem_cons_succ, List.getElem_cons_zero, Act.put, List.setIfInBounds_toArray, List.set_cons_zero, List.set_cons_succ]
              refine but_take (f := 17) (i := 1) (v := ?vtys01) rfl (by kernel_rfl) (by kernel_rfl) (by kernel_rfl) (by kernel_rfl) (by kernel_rfl) (fun _ _ _ h => h) (Or.inl ⟨(by rfl), ?hytys01⟩) (Below.refl _ _) ?resttys01
              case hytys01 =>
                intro W hW
                go_simp
                exact rfl
              simp only [List.getElem_toArray, List.getElem_cons_succ, List.getElem_cons_zero, Act.put, List.setIfInBounds_toArray, List.set_cons_zero, List.set_cons_succ]
              refine but_take (f := 17) (i := 2) (v := ?vtys02) rfl (by kernel_rfl) (by kernel_rfl) (by kernel_rfl) (by kernel_rfl) (by kernel_rfl) (fun _ _ _ h => h) (Or.inl ⟨(by rfl), ?hytys02⟩) (Below.refl _ _) ?resttys02
              case hytys02 =>
                intro W hW
                go_simp
                exact rfl
              simp only [List.getElem_toArray, List.getElem_cons_succ, List.getElem_cons_zero, Act.put, List.setIfInBounds_toArray, List.set_cons_zero, List.set_cons_succ]
              refine but_take (f := 17) (i := 3) (v := ?vtys03) rfl (by kernel_rfl) (by kernel_rfl) (by kernel_rfl) (by kernel_rfl) (by kernel_rfl) (fun _ _ _ h => h) (Or.inl ⟨(by rfl), ?hytys03⟩) (Below.refl _ _) ?resttys03
              case hytys03 =>
                intro W hW
                go_simp
                exact rfl
              simp only [List.getElem_toArray, List.getElem_cons_succ, List.getElem_cons_zero, Act.put, List.setIfInBounds_toArray, List.set_cons_zero, List.set_cons_succ]
              refine but_take (f := 17) (i := 4) (v := ?vtys04) rfl (by kernel_rfl) (by kernel_rfl) (by kernel_rfl) (by kernel_rfl) (by kernel_rfl) (fun _ _ _ h => h) (Or.inl ⟨(by rfl), ?hytys04⟩) (Below.refl _ _) ?resttys04
              case hytys04 =>
                intro W hW
                have hb0 : Below wv.heap.size wv W := bstep (Below.drew1 _) hW
                obtain ⟨y0, y1⟩ := FK.out.on hbb (bstep BV.out hb0)
                go_simp
                exact rfl
              simp only [List.getElem_toArray, List.getElem_cons_succ, List.getElem_cons_zero, Act.put, List.setIfInBounds_toArray, List.set_cons_zero, List.set_cons_succ]
              refine but_take (f := 17) (i := 5) (v := ?vtys05) rfl (by kernel_rfl) (by kernel_rfl) (by kernel_rfl) (by kernel_rfl) (by kernel_rfl) (fun _ _ _ h => h) (Or.inl ⟨(by rfl), ?hytys05⟩) (Below.refl _ _) ?resttys05
              case hytys05 =>
                intro W hW
                go_simp
                exact rfl
              simp only [List.getElem_toArray, List.getElem_cons_succ, List.getElem_cons_zero, Act.put, List.setIfInBounds_toArray, List.set_cons_zero, List.set_cons_succ]
              refine but_take (f := 17) (i := 6) (v := ?vtys06) rfl (by kernel_rfl) (by kernel_rfl) (by kernel_rfl) (by kernel_rfl) (by kernel_rfl) (fun _ _ _ h => h) (Or.inl ⟨(by rfl), ?hytys06⟩) (Below.refl _ _) ?resttys06
              case hytys06 =>
                intro W hW
                go_simp
                exact rfl
              simp only [List.getElem_toArray, List.getElem_cons_succ, List.getElem_cons_zero, Act.put, List.setIfInBounds_toArray, List.set_cons_zero, List.set_cons_succ]
              refine but_take (f := 17) (i := 7) (v := ?vtys07) rfl (by kernel_rfl) (by kernel_rfl) (by kernel_rfl) (by kernel_rfl) (by kernel_rfl) (fun _ _ _ h => h) (Or.inl ⟨((wanted_at rfl rfl rfl rfl).trans rfl), ?hytys07⟩) (Below.refl _ _) ?resttys07
              case hytys07 =>
                intro W hW
                go_simp
                exact rfl
              simp only [List.getElem_toArray, List.getElem_cons_succ, List.getElem_cons_zero, Act.put, List.setIfInBounds_toArray, List.set_cons_zero, List.set_cons_succ]
              refine but_take (f := 17) (i := 8) (v := ?vtys08) rfl (by kernel_rfl) (by kernel_rfl) (by kernel_rfl) (by kernel_rfl) (by kernel_rfl) (fun _ _ _ h => h) (Or.inl ⟨((wanted_at rfl rfl rfl rfl).trans rfl), ?hytys08⟩) (Below.refl _ _) ?resttys08
              case hytys08 =>
                intro W hW
                go_simp
                exact rfl
              simp only [List.getElem_toArray, List.getElem_cons_succ, List.getElem_cons_zero, Act.put, List.setIfInBounds_toArray, List.set_cons_zero, List.set_cons_succ]
              refine but_take (f := 17) (i := 9) (v := ?vtys09) rfl (by kernel_rfl) (by kernel_rfl) (by kernel_rfl) (by kernel_rfl) (by kernel_rfl) (fun _ _ _ h => h) (Or.inl ⟨((wanted_at rfl rfl rfl rfl).trans rfl), ?hytys09⟩) (Below.refl _ _) ?resttys09
              case hytys09 =>
                intro W hW
                go_simp
                exact rfl
              simp only [List.getElem_toArray, List.getElem_cons_succ, List.getElem_cons_zero, Act.put, List.setIfInBounds_toArray, List.set_cons_zero, List.set_cons_succ]
              refine but_take (f := 17) (i := 10) (v := ?vtys010) rfl (by kernel_rfl) (by kernel_rfl) (by kernel_rfl) (by kernel_rfl) (by kernel_rfl) (fun _ _ _ h => h) (Or.inl ⟨((wanted_at rfl rfl rfl rfl).trans rfl), ?hytys010⟩) (Below.refl _ _) ?resttys010
              case hytys010 =>
                intro W hW
                go_simp
                exact rfl
              simp only [List.getElem_toArray, List.getElem_cons_succ, List.getElem_cons_zero, Act.put, List.setIfInBounds_toArray, List.set_cons_zero, List.set_cons_succ]
              refine but_take (f := 17) (i := 11) (v := ?vtys011) rfl (by kernel_rfl) (by kernel_rfl) (by kernel_rfl) (by kernel_rfl) (by kernel_rfl) (fun _ _ _ h => h) (Or.inl ⟨((wanted_at rfl rfl rfl rfl).trans rfl), ?hytys011⟩) (Below.refl _ _) ?resttys011
              case hytys011 =>
                intro W hW
                go_simp
                exact rfl
              simp only [List.getElem_toArray, List.getElem_cons_succ, List.getElem_cons_zero, Act.put, List.setIfInBounds_toArray, List.set_cons_zero, List.set_cons_succ]
              refine but_take (f := 17) (i := 12) (v := ?vtys012) rfl (by kernel_rfl) (by kernel_rfl) (by kernel_rfl) (by kernel_rfl) (by kernel_rfl) (fun _ _ _ h => h) (Or.inl ⟨((wanted_at rfl rfl rfl rfl).trans rfl), ?hytys012⟩) (Below.refl _ _) ?resttys012
              case hytys012 =>
                intro W hW
                go_simp
                exact rfl
              simp only [List.getElem_toArray, List.getElem_cons_succ, List.getElem_cons_zero, Act.put, List.setIfInBounds_toArray, List.set_cons_zero, List.set_cons_succ]
              refine but_take (f := 17) (i := 13) (v := ?vtys013) rfl (by kernel_rfl) (by kernel_rfl) (by kernel_rfl) (by kernel_rfl) (by kernel_rfl) (fun _ _ _ h => h) (Or.inl ⟨((wanted_at rfl rfl rfl rfl).trans rfl), ?hytys013⟩) (Below.refl _ _) ?resttys013
              case hytys013 =>
                intro W hW
                go_simp
                exact rfl
              simp only [List.getElem_toArray, List.getElem_cons_succ, List.getElem_cons_zero, Act.put, List.setIfInBounds_toArray, List.set_cons_zero, List.set_cons_succ]
              refine but_take (f := 17) (i := 14) (v := ?vtys014) rfl (by kernel_rfl) (by kernel_rfl) (by kernel_rfl) (by kernel_rfl) (by kernel_rfl) (fun _ _ _ h => h) (Or.inl ⟨((wanted_at rfl rfl rfl rfl).trans rfl), ?hytys014⟩) (Below.refl _ _) ?resttys014
              case hytys014 =>
                intro W hW
                have hb0 : Below wv.heap.size wv W := bstep (Below.drew1 _) hW
                obtain ⟨y0, y1⟩ := FK.out.on hbb (bstep BV.out hb0)
                go_simp
                exact rfl
              simp only [List.getElem_toArray, List.getElem_cons_succ, List.getElem_cons_zero, Act.put, List.setIfInBounds_toArray, List.set_cons_zero, List.set_cons_succ]
              refine but_run (i := 15) (by kernel_rfl) rfl ((wanted_at rfl rfl rfl rfl).trans rfl) ?_
              simp only [List.getElem_toArray, List.getElem_cons_succ, List.getElem_cons_zero]
              intro K HK
              go_wp2_with fail
              refine (specAgeAtB _ (l.take k) (l[k]).b _ (HTK.out.on (bstep BV.out (bstep (Below.drew1 _) (Below.refl _ _)))) (by simp; omega)).mono ?_
              rintro r Vtys01 ⟨rfl, hBtys01⟩
              have hStys01 := bstep (Below.refl _ _) hBtys01
              go_wp2_with fail
              refine HK.out _ Vtys01 (fun _ => hStys01) ?_
              clear HK
              refine but_take (f := 17) (i := 16) (v := ?vtys016) rfl (by kernel_rfl) (by kernel_rfl) (by kernel_rfl) (by kernel_rfl) (by kernel_rfl) (fun _ _ _ h => h) (Or.inl ⟨((wanted_at rfl rfl rfl rfl).trans rfl), ?hytys016⟩) hStys01 ?resttys016
              case hytys016 =>
                intro W hW
                go_simp
                exact rfl
              simp only [List.getElem_toArray, List.getElem_cons_succ, List.getElem_cons_zero, Act.put, List.setIfInBounds_toArray, List.set_cons_zero, List.set_cons_succ]
              refine but_run (i := 17) (by kernel_rfl) rfl (by rfl) ?_
              simp only [List.getElem_toArray, List.getElem_cons_succ, List.getElem_cons_zero]
              intro K HK
              go_wp2_with fail
              refine HK.out _ Vtys01 (fun h => absurd rfl h) ?_
              clear HK
              refine but_done (by kernel_rfl) ?_
              go_wp2_with fail
              go_roundw
              case rel => exact ⟨k + 1, by omega, by go_num, Lib.hid (fit_step HI.out HF.out), HJ2, Lib.hid (bstep HW.out (bstep BV.out (bstep (Below.drew1 _) hStys01)))⟩
              case measure => simp [intOf]; omega
        · have z0 : decide (0 < k) = true := decide_eq_true (by omega)
          obtain ⟨j, hj⟩ : ∃ j, j + 1 = k := ⟨k - 1, by omega⟩
          have hjl : j < l.length := by omega
          have j1 : (j : Int) < (l.length : Int) := by omega
          have j2 : (0 : Int) ≤ (j : Int) := by omega
          have j3 : IntKind.i64.wrap ((k : Int) - 1) = (j : Int) := by rw [IntKind.wrap_i64]; omega
          have j4 : IntKind.i64.wrap (j : Int) = (j : Int) := by rw [IntKind.wrap_i64]; omega
          have FJ := Lib.hid (hc j hjl)
          by_cases p : (l[k]).a ≤ (l[j]).a
          · have z1 : decide ((l[k]).a ≤ (l[j]).a) = true := decide_eq_true p
            have HBAD : Hid (agesOkB l = false) := Lib.hid (rise_miss (j := j) (by omega) (by subst hj; omega))
            clear hc hfit hid hk0 hj p
            go_upto_region 4 with (fail)
            refine but_begin (f := 24) (S := fun V => Below wr.drew.heap.size wr.drew V) (by kernel_rfl) ?_
            refine but_take (f := 24) (i := 0) (v := ?vsx0) rfl (by kernel_rfl) (by kernel_rfl) (by kernel_rfl) (by kernel_rfl) (by kernel_rfl) (fun _ _ _ h => h) (Or.inl ⟨(by rfl), ?hysx0⟩) (Below.refl _ _) ?restsx0
            case hysx0 =>
              intro W hW
              go_simp
              exact rfl
            simp only [List.getElem_toArray, List.getElem_cons_succ, List.getElem_cons_zero, Act.put, List.setIfInBounds_toArray, List.set_cons_zero, List.set_cons_succ]
            refine but_take (f := 24) (i := 1) (v := ?vsx1) rfl (by kernel_rfl) (by kernel_rfl) (by kernel_rfl) (by kernel_rfl) (by kernel_rfl) (fun _ _ _ h => h) (Or.inl ⟨(by rfl), ?hysx1⟩) (Below.refl _ _) ?restsx1
            case hysx1 =>
              intro W hW
              go_simp
              exact rfl
            simp only [List.getElem_toArray, List.getElem_cons_succ, List.getElem_cons_zero, Act.put, List.setIfInBounds_toArray, List.set_cons_zero, List.set_cons_succ]
            refine but_take (f := 24) (i := 2) (v := ?vsx2) rfl (by kernel_rfl) (by kernel_rfl) (by kernel_rfl) (by kernel_rfl) (by kernel_rfl) (fun _ _ _ h => h) (Or.inl ⟨(by rfl), ?hysx2⟩) (Below.refl _ _) ?restsx2
            case hysx2 =>
              intro W hW
              go_simp
              exact rfl
            simp only [List.getElem_toArray, List.getElem_cons_succ, List.getElem_cons_zero, Act.put, List.setIfInBounds_toArray, List.set_cons_zero, List.set_cons_succ]
            refine but_take (f := 24) (i := 3) (v := ?vsx3) rfl (by kernel_rfl) (by kernel_rfl) (by kernel_rfl) (by kernel_rfl) (by kernel_rfl) (fun _ _ _ h => h) (Or.inl ⟨(by rfl), ?hysx3⟩) (Below.refl _ _) ?restsx3
            case hysx3 =>
              intro W hW
              go_simp
              exact rfl
            simp only [List.getElem_toArray, List.getElem_cons_succ, List.getElem_cons_zero, Act.put, List.setIfInBounds_toArray, List.set_cons_zero, List.set_cons_succ]
            refine but_take (f := 24) (i := 4) (v := ?vsx4) rfl (by kernel_rfl) (by kernel_rfl) (by kernel_rfl) (by kernel_rfl) (by kernel_rfl) (fun _ _ _ h => h) (Or.inl ⟨(by rfl), ?hysx4⟩) (Below.refl _ _) ?restsx4
            case hysx4 =>
              intro W hW
              have hb0 : Below wr.heap.size wr W := bstep (Below.drew1 _) hW
              obtain ⟨y0, y1⟩ := FK.out.on hbb hb0
              obtain ⟨z0, z1⟩ := FJ.out.on hbb hb0
              go_simp
              exact rfl
            simp only [List.getElem_toArray, List.getElem_cons_succ, List.getElem_cons_zero, Act.put, List.setIfInBounds_toArray, List.set_cons_zero, List.set_cons_succ]
            refine but_run (i := 5) (by kernel_rfl) rfl (by rfl) ?_
            simp only [List.getElem_toArray, List.getElem_cons_succ, List.getElem_cons_zero]
            intro K HK
            go_wp2_with fail
            refine (inG_any (l[k]).a _).mono ?_
            rintro r Vsx1 ⟨rfl, hBsx1⟩
            rw [HID.out]
            have hSsx1 := bstep (Below.refl _ _) hBsx1
            go_wp2_with fail
            refine HK.out _ Vsx1 (fun _ => hSsx1) ?_
            clear HK
            refine but_take (f := 24) (i := 6) (v := ?vsx6) rfl (by kernel_rfl) (by kernel_rfl) (by kernel_rfl) (by kernel_rfl) (by kernel_rfl) (fun _ _ _ h => h) (Or.inl ⟨(by rfl), ?hysx6⟩) hSsx1 ?restsx6
            case hysx6 =>
              intro W hW
              go_simp
              exact rfl
            simp only [List.getElem_toArray, List.getElem_cons_succ, List.getElem_cons_zero, Act.put, List.setIfInBounds_toArray, List.set_cons_zero, List.set_cons_succ]
            refine but_take (f := 24) (i := 7) (v := ?vsx7) rfl (by kernel_rfl) (by kernel_rfl) (by kernel_rfl) (by kernel_rfl) (by kernel_rfl) (fun _ _ _ h => h) (Or.inl ⟨(by rfl), ?hysx7⟩) hSsx1 ?restsx7
            case hysx7 =>
              intro W hW
              go_simp
              exact rfl
            simp only [List.getElem_toArray, List.getElem_cons_succ, List.getElem_cons_zero, Act.put, List.setIfInBounds_toArray, List.set_cons_zero, List.set_cons_succ]
            refine but_take (f := 24) (i := 8) (v := ?vsx8) rfl (by kernel_rfl) (by kernel_rfl) (by kernel_rfl) (by kernel_rfl) (by kernel_rfl) (fun _ _ _ h => h) (Or.inl ⟨((wanted_at rfl rfl rfl rfl).trans rfl), ?hysx8⟩) hSsx1 ?restsx8
            case hysx8 =>
              intro W hW
              go_simp
              exact rfl
            simp only [List.getElem_toArray, List.getElem_cons_succ, List.getElem_cons_zero, Act.put, List.setIfInBounds_toArray, List.set_cons_zero, List.set_cons_succ]
            refine but_take (f := 24) (i := 9) (v := ?vsx9) rfl (by kernel_rfl) (by kernel_rfl) (by kernel_rfl) (by kernel_rfl) (by kernel_rfl) (fun _ _ _ h => h) (Or.inl ⟨((wanted_at rfl rfl rfl rfl).trans rfl), ?hysx9⟩) hSsx1 ?restsx9
            case hysx9 =>
              intro W hW
              go_simp
              exact rfl
            simp only [List.getElem_toArray, List.getElem_cons_succ, List.getElem_cons_zero, Act.put, List.setIfInBounds_toArray, List.set_cons_zero, List.set_cons_succ]
            refine but_take (f := 24) (i := 10) (v := ?vsx10) rfl (by kernel_rfl) (by kernel_rfl) (by kernel_rfl) (by kernel_rfl) (by kernel_rfl) (fun _ _ _ h => h) (Or.inl ⟨((wanted_at rfl rfl rfl rfl).trans rfl), ?hysx10⟩) hSsx1 ?restsx10
            case hysx10 =>
              intro W hW
              go_simp
              exact rfl
            simp only [List.getElem_toArray, List.getElem_cons_succ, List.getElem_cons_zero, Act.put, List.setIfInBounds_toArray, List.set_cons_zero, List.set_cons_succ]
            refine but_take (f := 24) (i := 11) (v := ?vsx11) rfl (by kernel_rfl) (by kernel_rfl) (by kernel_rfl) (by kernel_rfl) (by kernel_rfl) (fun _ _ _ h => h) (Or.inl ⟨((wanted_at rfl rfl rfl rfl).trans rfl), ?hysx11⟩) hSsx1 ?restsx11
            case hysx11 =>
              intro W hW
              go_simp
              exact rfl
            simp only [List.getElem_toArray, List.getElem_cons_succ, List.getElem_cons_zero, Act.put, List.setIfInBounds_toArray, List.set_cons_zero, List.set_cons_succ]
            refine but_take (f := 24) (i := 12) (v := ?vsx12) rfl (by kernel_rfl) (by kernel_rfl) (by kernel_rfl) (by kernel_rfl) (by kernel_rfl) (fun _ _ _ h => h) (Or.inl ⟨((wanted_at rfl rfl rfl rfl).trans rfl), ?hysx12⟩) hSsx1 ?restsx12
            case hysx12 =>
              intro W hW
              go_simp
              exact rfl
            simp only [List.getElem_toArray, List.getElem_cons_succ, List.getElem_cons_zero, Act.put, List.setIfInBounds_toArray, List.set_cons_zero, List.set_cons_succ]
            refine but_take (f := 24) (i := 13) (v := ?vsx13) rfl (by kernel_rfl) (by kernel_rfl) (by kernel_rfl) (by kernel_rfl) (by kernel_rfl) (fun _ _ _ h => h) (Or.inl ⟨((wanted_at rfl rfl rfl rfl).trans rfl), ?hysx13⟩) hSsx1 ?restsx13
            case hysx13 =>
              intro W hW
              go_simp
              exact rfl
            simp only [List.getElem_toArray, List.getElem_cons_succ, List.getElem_cons_zero, Act.put, List.setIfInBounds_toArray, List.set_cons_zero, List.set_cons_succ]
            refine but_take (f := 24) (i := 14) (v := ?vsx14) rfl (by kernel_rfl) (by kernel_rfl) (by kernel_rfl) (by kernel_rfl) (by kernel_rfl) (fun _ _ _ h => h) (Or.inl ⟨((wanted_at rfl rfl rfl rfl).trans rfl), ?hysx14⟩) hSsx1 ?restsx14
            case hysx14 =>
              intro W hW
              go_simp
              exact rfl
            simp only [List.getElem_toArray, List.getElem_cons_succ, List.getElem_cons_zero, Act.put, List.setIfInBounds_toArray, List.set_cons_zero, List.set_cons_succ]
            refine but_take (f := 24) (i := 15) (v := ?vsx15) rfl (by kernel_rfl) (by kernel_rfl) (by kernel_rfl) (by kernel_rfl) (by kernel_rfl) (fun _ _ _ h => h) (Or.inl ⟨((wanted_at rfl rfl rfl rfl).trans rfl), ?hysx15⟩) hSsx1 ?restsx15
            case hysx15 =>
              intro W hW
              go_simp
              exact rfl
            simp only [List.getElem_toArray, List.getElem_cons_succ, List.getElem_cons_zero, Act.put, List.setIfInBounds_toArray, List.set_cons_zero, List.set_cons_succ]
            refine but_take (f := 24) (i := 16) (v := ?vsx16) rfl (by kernel_rfl) (by kernel_rfl) (by kernel_rfl) (by kernel_rfl) (by kernel_rfl) (fun _ _ _ h => h) (Or.inl ⟨((wanted_at rfl rfl rfl rfl).trans rfl), ?hysx16⟩) hSsx1 ?restsx16
            case hysx16 =>
              intro W hW
              have hb0 : Below wr.heap.size wr W := bstep (Below.drew1 _) hW
              obtain ⟨y0, y1⟩ := FK.out.on hbb hb0
              obtain ⟨z0, z1⟩ := FJ.out.on hbb hb0
              go_simp
              exact rfl
            simp only [List.getElem_toArray, List.getElem_cons_succ, List.getElem_cons_zero, Act.put, List.setIfInBounds_toArray, List.set_cons_zero, List.set_cons_succ]
            refine but_take (f := 24) (i := 17) (v := ?vsx17) rfl (by kernel_rfl) (by kernel_rfl) (by kernel_rfl) (by kernel_rfl) (by kernel_rfl) (fun _ _ _ h => h) (Or.inl ⟨((wanted_at rfl rfl rfl rfl).trans rfl), ?hysx17⟩) hSsx1 ?restsx17
            case hysx17 =>
              intro W hW
              go_simp
              exact rfl
            simp only [List.getElem_toArray, List.getElem_cons_succ, List.getElem_cons_zero, Act.put, List.setIfInBounds_toArray, List.set_cons_zero, List.set_cons_succ]
            refine but_take (f := 24) (i := 18) (v := ?vsx18) rfl (by kernel_rfl) (by kernel_rfl) (by kernel_rfl) (by kernel_rfl) (by kernel_rfl) (fun _ _ _ h => h) (Or.inl ⟨((wanted_at rfl rfl rfl rfl).trans rfl), ?hysx18⟩) hSsx1 ?restsx18
            case hysx18 =>
              intro W hW
              go_simp
              exact rfl
            simp only [List.getElem_toArray, List.getElem_cons_succ, List.getElem_cons_zero, Act.put, List.setIfInBounds_toArray, List.set_cons_zero, List.set_cons_succ]
            refine but_take (f := 24) (i := 19) (v := ?vsx19) rfl (by kernel_rfl) (by kernel_rfl) (by kernel_rfl) (by kernel_rfl) (by kernel_rfl) (fun _ _ _ h => h) (Or.inl ⟨((wanted_at rfl rfl rfl rfl).trans rfl), ?hysx19⟩) hSsx1 ?restsx19
            case hysx19 =>
              intro W hW
              go_simp
              exact rfl
            simp only [List.getElem_toArray, List.getElem_cons_succ, List.getElem_cons_zero, Act.put, List.setIfInBounds_toArray, List.set_cons_zero, List.set_cons_succ]
            refine but_take (f := 24) (i := 20) (v := ?vsx20) rfl (by kernel_rfl) (by kernel_rfl) (by kernel_rfl) (by kernel_rfl) (by kernel_rfl) (fun _ _ _ h => h) (Or.inl ⟨((wanted_at rfl rfl rfl rfl).trans rfl), ?hysx20⟩) hSsx1 ?restsx20
            case hysx20 =>
              intro W hW
              go_simp
              exact rfl
            simp only [List.getElem_toArray, List.getElem_cons_succ, List.getElem_cons_zero, Act.put, List.setIfInBounds_toArray, List.set_cons_zero, List.set_cons_succ]
            refine but_take (f := 24) (i := 21) (v := ?vsx21) rfl (by kernel_rfl) (by kernel_rfl) (by kernel_rfl) (by kernel_rfl) (by kernel_rfl) (fun _ _ _ h => h) (Or.inl ⟨((wanted_at rfl rfl rfl rfl).trans rfl), ?hysx21⟩) hSsx1 ?restsx21
            case hysx21 =>
              intro W hW
              have hb0 : Below wr.heap.size wr W := bstep (Below.drew1 _) hW
              obtain ⟨y0, y1⟩ := FK.out.on hbb hb0
              obtain ⟨z0, z1⟩ := FJ.out.on hbb hb0
              go_simp
              exact rfl
            simp only [List.getElem_toArray, List.getElem_cons_succ, List.getElem_cons_zero, Act.put, List.setIfInBounds_toArray, List.set_cons_zero, List.set_cons_succ]
            refine but_take (f := 24) (i := 22) (v := ?vsx22) rfl (by kernel_rfl) (by kernel_rfl) (by kernel_rfl) (by kernel_rfl) (by kernel_rfl) (fun _ _ _ h => h) (Or.inl ⟨((wanted_at rfl rfl rfl rfl).trans rfl), ?hysx22⟩) hSsx1 ?restsx22
            case hysx22 =>
              intro W hW
              go_simp
              exact rfl
            simp only [List.getElem_toArray, List.getElem_cons_succ, List.getElem_cons_zero, Act.put, List.setIfInBounds_toArray, List.set_cons_zero, List.set_cons_succ]
            refine but_take (f := 24) (i := 23) (v := ?vsx23) rfl (by kernel_rfl) (by kernel_rfl) (by kernel_rfl) (by kernel_rfl) (by kernel_rfl) (fun _ _ _ h => h) (Or.inl ⟨((wanted_at rfl rfl rfl rfl).trans rfl), ?hysx23⟩) hSsx1 ?restsx23
            case hysx23 =>
              intro W hW
              go_simp
              exact rfl
            simp only [List.getElem_toArray, List.getElem_cons_succ, List.getElem_cons_zero, Act.put, List.setIfInBounds_toArray, List.set_cons_zero, List.set_cons_succ]
            refine but_run (i := 24) (by kernel_rfl) rfl (by rfl) ?_
            simp only [List.getElem_toArray, List.getElem_cons_succ, List.getElem_cons_zero]
            intro K HK
            go_wp2_with fail
            refine HK.out _ Vsx1 (fun h => absurd rfl h) ?_
            clear HK
            refine but_done (by kernel_rfl) ?_
            go_wp2_with fail
            go_ret
            exact ⟨ret_boolB (by rw [← HR.out]; exact HBAD.out.symm), bstep HW.out (bstep (Below.drew1 _) hSsx1)⟩
          · have z1 : decide ((l[k]).a ≤ (l[j]).a) = false := decide_eq_false p
            have HJ2 : Hid (∀ j (h : j + 1 < l.length), j + 1 < k + 1 → (l[j]).a < (l[j + 1]).a) := Lib.hid (fun i h h2 => by
              by_cases h3 : i + 1 < k
              · exact HJ.out i h h3
              · have e1 : i = j := by omega
                subst e1
                subst hj
                omega)
            clear hc hid hk0 hj p
            go_upto_region 4 with (fail)
            refine but_begin (f := 24) (S := fun V => Below wr.drew.heap.size wr.drew V) (by kernel_rfl) ?_
            refine but_take (f := 24) (i := 0) (v := ?vsy0) rfl (by kernel_rfl) (by kernel_rfl) (by kernel_rfl) (by kernel_rfl) (by kernel_rfl) (fun _ _ _ h => h) (Or.inl ⟨(by rfl), ?hysy0⟩) (Below.refl _ _) ?restsy0
            case hysy0 =>
              intro W hW
              go_simp
              exact rfl
            simp only [List.getElem_toArray, List.getElem_cons_succ, List.getElem_cons_zero, Act.put, List.setIfInBounds_toArray, List.set_cons_zero, List.set_cons_succ]
            refine but_take (f := 24) (i := 1) (v := ?vsy1) rfl (by kernel_rfl) (by kernel_rfl) (by kernel_rfl) (by kernel_rfl) (by kernel_rfl) (fun _ _ _ h => h) (Or.inl ⟨(by rfl), ?hysy1⟩) (Below.refl _ _) ?restsy1
            case hysy1 =>
              intro W hW
              go_simp
              exact rfl
            simp only [List.getElem_toArray, List.getElem_cons_succ, List.getElem_cons_zero, Act.put, List.setIfInBounds_toArray, List.set_cons_zero, List.set_cons_succ]
            refine but_take (f := 24) (i := 2) (v := ?vsy2) rfl (by kernel_rfl) (by kernel_rfl) (by kernel_rfl) (by kernel_rfl) (by kernel_rfl) (fun _ _ _ h => h) (Or.inl ⟨(by rfl), ?hysy2⟩) (Below.refl _ _) ?restsy2
            case hysy2 =>
              intro W hW
              go_simp
              exact rfl
            simp only [List.getElem_toArray, List.getElem_cons_succ, List.getElem_cons_zero, Act.put, List.setIfInBounds_toArray, List.set_cons_zero, List.set_cons_succ]
            refine but_take (f := 24) (i := 3) (v := ?vsy3) rfl (by kernel_rfl) (by kernel_rfl) (by kernel_rfl) (by kernel_rfl) (by kernel_rfl) (fun _ _ _ h => h) (Or.inl ⟨(by rfl), ?hysy3⟩) (Below.refl _ _) ?restsy3
            case hysy3 =>
              intro W hW
              go_simp
              exact rfl
            simp only [List.getElem_toArray, List.getElem_cons_succ, List.getElem_cons_zero, Act.put, List.setIfInBounds_toArray, List.set_cons_zero, List.set_cons_succ]
            refine but_take (f := 24) (i := 4) (v := ?vsy4) rfl (by kernel_rfl) (by kernel_rfl) (by kernel_rfl) (by kernel_rfl) (by kernel_rfl) (fun _ _ _ h => h) (Or.inl ⟨(by rfl), ?hysy4⟩) (Below.refl _ _) ?restsy4
            case hysy4 =>
              intro W hW
              have hb0 : Below wr.heap.size wr W := bstep (Below.drew1 _) hW
              obtain ⟨y0, y1⟩ := FK.out.on hbb hb0
              obtain ⟨z0, z1⟩ := FJ.out.on hbb hb0
              go_simp
              exact rfl
            simp only [List.getElem_toArray, List.getElem_cons_succ, List.getElem_cons_zero, Act.put, List.setIfInBounds_toArray, List.set_cons_zero, List.set_cons_succ]
            refine but_run (i := 5) (by kernel_rfl) rfl (by rfl) ?_
            simp only [List.getElem_toArray, List.getElem_cons_succ, List.getElem_cons_zero]
            intro K HK
            go_wp2_with fail
            refine (inG_any (l[k]).a _).mono ?_
            rintro r Vsy1 ⟨rfl, hBsy1⟩
            rw [HID.out]
            have hSsy1 := bstep (Below.refl _ _) hBsy1
            go_wp2_with fail
            refine HK.out _ Vsy1 (fun _ => hSsy1) ?_
            clear HK
            refine but_take (f := 24) (i := 6) (v := ?vsy6) rfl (by kernel_rfl) (by kernel_rfl) (by kernel_rfl) (by kernel_rfl) (by kernel_rfl) (fun _ _ _ h => h) (Or.inl ⟨(by rfl), ?hysy6⟩) hSsy1 ?restsy6
            case hysy6 =>
              intro W hW
              go_simp
              exact rfl
            simp only [List.getElem_toArray, List.getElem_cons_succ, List.getElem_cons_zero, Act.put, List.setIfInBounds_toArray, List.set_cons_zero, List.set_cons_succ]
            refine but_take (f := 24) (i := 7) (v := ?vsy7) rfl (by kernel_rfl) (by kernel_rfl) (by kernel_rfl) (by kernel_rfl) (by kernel_rfl) (fun _ _ _ h => h) (Or.inl ⟨(by rfl), ?hysy7⟩) hSsy1 ?restsy7
            case hysy7 =>
              intro W hW
              go_simp
              exact rfl
            simp only [List.getElem_toArray, List.getElem_cons_succ, List.getElem_cons_zero, Act.put, List.setIfInBounds_toArray, List.set_cons_zero, List.set_cons_succ]
            refine but_take (f := 24) (i := 8) (v := ?vsy8) rfl (by kernel_rfl) (by kernel_rfl) (by kernel_rfl) (by kernel_rfl) (by kernel_rfl) (fun _ _ _ h => h) (Or.inl ⟨((wanted_at rfl rfl rfl rfl).trans rfl), ?hysy8⟩) hSsy1 ?restsy8
            case hysy8 =>
              intro W hW
              go_simp
              exact rfl
            simp only [List.getElem_toArray, List.getElem_cons_succ, List.getElem_cons_zero, Act.put, List.setIfInBounds_toArray, List.set_cons_zero, List.set_cons_succ]
            refine but_take (f := 24) (i := 9) (v := ?vsy9) rfl (by kernel_rfl) (by kernel_rfl) (by kernel_rfl) (by kernel_rfl) (by kernel_rfl) (fun _ _ _ h => h) (Or.inl ⟨((wanted_at rfl rfl rfl rfl).trans rfl), ?hysy9⟩) hSsy1 ?restsy9
            case hysy9 =>
              intro W hW
              go_simp
              exact rfl
            simp only [List.getElem_toArray, List.getElem_cons_succ, List.getElem_cons_zero, Act.put, List.setIfInBounds_toArray, List.set_cons_zero, List.set_cons_succ]
            refine but_take (f := 24) (i := 10) (v := ?vsy10) rfl (by kernel_rfl) (by kernel_rfl) (by kernel_rfl) (by kernel_rfl) (by kernel_rfl) (fun _ _ _ h => h) (Or.inl ⟨((wanted_at rfl rfl rfl rfl).trans rfl), ?hysy10⟩) hSsy1 ?restsy10
            case hysy10 =>
              intro W hW
              go_simp
              exact rfl
            simp only [List.getElem_toArray, List.getElem_cons_succ, List.getElem_cons_zero, Act.put, List.setIfInBounds_toArray, List.set_cons_zero, List.set_cons_succ]
            refine but_take (f := 24) (i := 11) (v := ?vsy11) rfl (by kernel_rfl) (by kernel_rfl) (by kernel_rfl) (by kernel_rfl) (by kernel_rfl) (fun _ _ _ h => h) (Or.inl ⟨((wanted_at rfl rfl rfl rfl).trans rfl), ?hysy11⟩) hSsy1 ?restsy11
            case hysy11 =>
              intro W hW
              go_simp
              exact rfl
            simp only [List.getElem_toArray, List.getElem_cons_succ, List.getElem_cons_zero, Act.put, List.setIfInBounds_toArray, List.set_cons_zero, List.set_cons_succ]
            refine but_take (f := 24) (i := 12) (v := ?vsy12) rfl (by kernel_rfl) (by kernel_rfl) (by kernel_rfl) (by kernel_rfl) (by kernel_rfl) (fun _ _ _ h => h) (Or.inl ⟨((wanted_at rfl rfl rfl rfl).trans rfl), ?hysy12⟩) hSsy1 ?restsy12
            case hysy12 =>
              intro W hW
              go_simp
              exact rfl
            simp only [List.getElem_toArray, List.getElem_cons_succ, List.getElem_cons_zero, Act.put, List.setIfInBounds_toArray, List.set_cons_zero, List.set_cons_succ]
            refine but_take (f := 24) (i := 13) (v := ?vsy13) rfl (by kernel_rfl) (by kernel_rfl) (by kernel_rfl) (by kernel_rfl) (by kernel_rfl) (fun _ _ _ h => h) (Or.inl ⟨((wanted_at rfl rfl rfl rfl).trans rfl), ?hysy13⟩) hSsy1 ?restsy13
            case hysy13 =>
              intro W hW
              go_simp
              exact rfl
            simp only [List.getElem_toArray, List.getElem_cons_succ, List.getElem_cons_zero, Act.put, List.setIfInBounds_toArray, List.set_cons_zero, List.set_cons_succ]
            refine but_take (f := 24) (i := 14) (v := ?vsy14) rfl (by kernel_rfl) (by kernel_rfl) (by kernel_rfl) (by kernel_rfl) (by kernel_rfl) (fun _ _ _ h => h) (Or.inl ⟨((wanted_at rfl rfl rfl rfl).trans rfl), ?hysy14⟩) hSsy1 ?restsy14
            case hysy14 =>
              intro W hW
              go_simp
              exact rfl
            simp only [List.getElem_toArray, List.getElem_cons_succ, List.getElem_cons_zero, Act.put, List.setIfInBounds_toArray, List.set_cons_zero, List.set_cons_succ]
            refine but_take (f := 24) (i := 15) (v := ?vsy15) rfl (by kernel_rfl) (by kernel_rfl) (by kernel_rfl) (by kernel_rfl) (by kernel_rfl) (fun _ _ _ h => h) (Or.inl ⟨((wanted_at rfl rfl rfl rfl).trans rfl), ?hysy15⟩) hSsy1 ?restsy15
            case hysy15 =>
              intro W hW
              go_simp
              exact rfl
            simp only [List.getElem_toArray, List.getElem_cons_succ, List.getElem_cons_zero, Act.put, List.setIfInBounds_toArray, List.set_cons_zero, List.set_cons_succ]
            refine but_take (f := 24) (i := 16) (v := ?vsy16) rfl (by kernel_rfl) (by kernel_rfl) (by kernel_rfl) (by kernel_rfl) (by kernel_rfl) (fun _ _ _ h => h) (Or.inl ⟨((wanted_at rfl rfl rfl rfl).trans rfl), ?hysy16⟩) hSsy1 ?restsy16
            case hysy16 =>
              intro W hW
              have hb0 : Below wr.heap.size wr W := bstep (Below.drew1 _) hW
              obtain ⟨y0, y1⟩ := FK.out.on hbb hb0
              obtain ⟨z0, z1⟩ := FJ.out.on hbb hb0
              go_simp
              exact rfl
            simp only [List.getElem_toArray, List.getElem_cons_succ, List.getElem_cons_zero, Act.put, List.setIfInBounds_toArray, List.set_cons_zero, List.set_cons_succ]
            refine but_take (f := 24) (i := 17) (v := ?vsy17) rfl (by kernel_rfl) (by kernel_rfl) (by kernel_rfl) (by kernel_rfl) (by kernel_rfl) (fun _ _ _ h => h) (Or.inl ⟨((wanted_at rfl rfl rfl rfl).trans rfl), ?hysy17⟩) hSsy1 ?restsy17
            case hysy17 =>
              intro W hW
              go_simp
              exact rfl
            simp only [List.getElem_toArray, List.getElem_cons_succ, List.getElem_cons_zero, Act.put, List.setIfInBounds_toArray, List.set_cons_zero, List.set_cons_succ]
            refine but_take (f := 24) (i := 18) (v := ?vsy18) rfl (by kernel_rfl) (by kernel_rfl) (by kernel_rfl) (by kernel_rfl) (by kernel_rfl) (fun _ _ _ h => h) (Or.inl ⟨((wanted_at rfl rfl rfl rfl).trans rfl), ?hysy18⟩) hSsy1 ?restsy18
            case hysy18 =>
              intro W hW
              go_simp
              exact rfl
            simp only [List.getElem_toArray, List.getElem_cons_succ, List.getElem_cons_zero, Act.put, List.setIfInBounds_toArray, List.set_cons_zero, List.set_cons_succ]
            refine but_take (f := 24) (i := 19) (v := ?vsy19) rfl (by kernel_rfl) (by kernel_rfl) (by kernel_rfl) (by kernel_rfl) (by kernel_rfl) (fun _ _ _ h => h) (Or.inl ⟨((wanted_at rfl rfl rfl rfl).trans rfl), ?hysy19⟩) hSsy1 ?restsy19
            case hysy19 =>
              intro W hW
              go_simp
              exact rfl
            simp only [List.getElem_toArray, List.getElem_cons_succ, List.getElem_cons_zero, Act.put, List.setIfInBounds_toArray, List.set_cons_zero, List.set_cons_succ]
            refine but_take (f := 24) (i := 20) (v := ?vsy20) rfl (by kernel_rfl) (by kernel_rfl) (by kernel_rfl) (by kernel_rfl) (by kernel_rfl) (fun _ _ _ h => h) (Or.inl ⟨((wanted_at rfl rfl rfl rfl).trans rfl), ?hysy20⟩) hSsy1 ?restsy20
            case hysy20 =>
              intro W hW
              go_simp
              exact rfl
            simp only [List.getElem_toArray, List.getElem_cons_succ, List.getElem_cons_zero, Act.put, List.setIfInBounds_toArray, List.set_cons_zero, List.set_cons_succ]
            refine but_take (f := 24) (i := 21) (v := ?vsy21) rfl (by kernel_rfl) (by kernel_rfl) (by kernel_rfl) (by kernel_rfl) (by kernel_rfl) (fun _ _ _ h => h) (Or.inl ⟨((wanted_at rfl rfl rfl rfl).trans rfl), ?hysy21⟩) hSsy1 ?restsy21
            case hysy21 =>
              intro W hW
              have hb0 : Below wr.heap.size wr W := bstep (Below.drew1 _) hW
              obtain ⟨y0, y1⟩ := FK.out.on hbb hb0
              obtain ⟨z0, z1⟩ := FJ.out.on hbb hb0
              go_simp
              exact rfl
            simp only [List.getElem_toArray, List.getElem_cons_succ, List.getElem_cons_zero, Act.put, List.setIfInBounds_toArray, List.set_cons_zero, List.set_cons_succ]
            refine but_take (f := 24) (i := 22) (v := ?vsy22) rfl (by kernel_rfl) (by kernel_rfl) (by kernel_rfl) (by kernel_rfl) (by kernel_rfl) (fun _ _ _ h => h) (Or.inl ⟨((wanted_at rfl rfl rfl rfl).trans rfl), ?hysy22⟩) hSsy1 ?restsy22
            case hysy22 =>
              intro W hW
              go_simp
              exact rfl
            simp only [List.getElem_toArray, List.getElem_cons_succ, List.getElem_cons_zero, Act.put, List.setIfInBounds_toArray, List.set_cons_zero, List.set_cons_succ]
            refine but_take (f := 24) (i := 23) (v := ?vsy23) rfl (by kernel_rfl) (by kernel_rfl) (by kernel_rfl) (by kernel_rfl) (by kernel_rfl) (fun _ _ _ h => h) (Or.inl ⟨((wanted_at rfl rfl rfl rfl).trans rfl), ?hysy23⟩) hSsy1 ?restsy23
            case hysy23 =>
              intro W hW
              go_simp
              exact rfl
            simp only [List.getElem_toArray, List.getElem_cons_succ, List.getElem_cons_zero, Act.put, List.setIfInBounds_toArray, List.set_cons_zero, List.set_cons_succ]
            refine but_run (i := 24) (by kernel_rfl) rfl (by rfl) ?_
            simp only [List.getElem_toArray, List.getElem_cons_succ, List.getElem_cons_zero]
            intro K HK
            go_wp2_with fail
            refine HK.out _ Vsy1 (fun h => absurd rfl h) ?_
            clear HK
            refine but_done (by kernel_rfl) ?_
            have BV := Lib.hid (bstep (Below.drew1 _) hSsy1)
            go_upto_region 6 with (fail)
            obtain ⟨wv, hwv⟩ : ∃ wv, wv = Vsy1 := ⟨_, rfl⟩
            rw [← hwv] at BV ⊢
            clear hwv
            cases q0 : ((l[k]).b != 0)
            · have HF : Hid (fitG l k = true) := Lib.hid (by rw [hfit, HID.out, parGB, show ((l[k]).b == 0) = true by simpa using q0]; rfl)
              refine but_begin (f := 17) (S := fun V => Below wv.drew.heap.size wv.drew V) (by kernel_rfl) ?_
              refine but_take (f := 17) (i := 0) (v := ?vt0sy0) rfl (by kernel_rfl) (by kernel_rfl) (by kernel_rfl) (by kernel_rfl) (by kernel_rfl) (fun _ _ _ h => h) (Or.inl ⟨(by rfl), ?hyt0sy0⟩) (Below.refl _ _) ?restt0sy0
              case hyt0sy0 =>
                intro W hW
                go_simp
                exact rfl
              simp only [List.getElem_toArray, List.getElem_cons_succ, List.getElem_cons_zero, Act.put, List.setIfInBounds_toArray, List.set_cons_zero, List.set_cons_succ]
              refine but_take (f := 17) (i := 1) (v := ?vt0sy1) rfl (by kernel_rfl) (by kernel_rfl) (by kernel_rfl) (by kernel_rfl) (by kernel_rfl) (fun _ _ _ h => h) (Or.inl ⟨(by rfl), ?hyt0sy1⟩) (Below.refl _ _) ?restt0sy1
              case hyt0sy1 =>
                intro W hW
                go_simp
                exact rfl
              simp only [List.getElem_toArray, List.getElem_cons_succ, List.getElem_cons_zero, Act.put, List.setIfInBounds_toArray, List.set_cons_zero, List.set_cons_succ]
              refine but_take (f := 17) (i := 2) (v := ?vt0sy2) rfl (by kernel_rfl) (by kernel_rfl) (by kernel_rfl) (by kernel_rfl) (by kernel_rfl) (fun _ _ _ h => h) (Or.inl ⟨(by rfl), ?hyt0sy2⟩) (Below.refl _ _) ?restt0sy2
              case hyt0sy2 =>
                intro W hW
                go_simp
                exact rfl
              simp only [List.getElem_toArray, List.getElem_cons_succ, List.getElem_cons_zero, Act.put, List.setIfInBounds_toArray, List.set_cons_zero, List.set_cons_succ]
              refine but_take (f := 17) (i := 3) (v := ?vt0sy3) rfl (by kernel_rfl) (by kernel_rfl) (by kernel_rfl) (by kernel_rfl) (by kernel_rfl) (fun _ _ _ h => h) (Or.inl ⟨(by rfl), ?hyt0sy3⟩) (Below.refl _ _) ?restt0sy3
              case hyt0sy3 =>
                intro W hW
                go_simp
                exact rfl
              simp only [List.getElem_toArray, List.getElem_cons_succ, List.getElem_cons_zero, Act.put, List.setIfInBounds_toArray, List.set_cons_zero, List.set_cons_succ]
              refine but_take (f := 17) (i := 4) (v := ?vt0sy4) rfl (by kernel_rfl) (by kernel_rfl) (by kernel_rfl) (by kernel_rfl) (by kernel_rfl) (fun _ _ _ h => h) (Or.inl ⟨(by rfl), ?hyt0sy4⟩) (Below.refl _ _) ?restt0sy4
              case hyt0sy4 =>
                intro W hW
                have hb0 : Below wv.heap.size wv W := bstep (Below.drew1 _) hW
                obtain ⟨y0, y1⟩ := FK.out.on hbb (bstep BV.out hb0)
                go_simp
                exact rfl
              simp only [List.getElem_toArray, List.getElem_cons_succ, List.getElem_cons_zero, Act.put, List.setIfInBounds_toArray, List.set_cons_zero, List.set_cons_succ]
              refine but_take (f := 17) (i := 5) (v := ?vt0sy5) rfl (by kernel_rfl) (by kernel_rfl) (by kernel_rfl) (by kernel_rfl) (by kernel_rfl) (fun _ _ _ h => h) (Or.inl ⟨(by rfl), ?hyt0sy5⟩) (Below.refl _ _) ?restt0sy5
              case hyt0sy5 =>
                intro W hW
                go_simp
                exact rfl
              simp only [List.getElem_toArray, List.getElem_cons_succ, List.getElem_cons_zero, Act.put, List.setIfInBounds_toArray, List.set_cons_zero, List.set_cons_succ]
              refine but_take (f := 17) (i := 6) (v := ?vt0sy6) rfl (by kernel_rfl) (by kernel_rfl) (by kernel_rfl) (by kernel_rfl) (by kernel_rfl) (fun _ _ _ h => h) (Or.inl ⟨(by rfl), ?hyt0sy6⟩) (Below.refl _ _) ?restt0sy6
              case hyt0sy6 =>
                intro W hW
                go_simp
                exact rfl
              simp only [List.getElem_toArray, List.getElem_cons_succ, List.getElem_cons_zero, Act.put, List.setIfInBounds_toArray, List.set_cons_zero, List.set_cons_succ]
              refine but_take (f := 17) (i := 7) (v := undef) rfl (by kernel_rfl) (by kernel_rfl) (by kernel_rfl) (by kernel_rfl) (by kernel_rfl) (fun _ _ _ h => h) (Or.inr ⟨((wanted_at rfl rfl rfl rfl).trans rfl), rfl⟩) (Below.refl _ _) ?_
              simp only [List.getElem_toArray, List.getElem_cons_succ, List.getElem_cons_zero, Act.put, List.setIfInBounds_toArray, List.set_cons_zero, List.set_cons_succ]
              refine but_take (f := 17) (i := 8) (v := undef) rfl (by kernel_rfl) (by kernel_rfl) (by kernel_rfl) (by kernel_rfl) (by kernel_rfl) (fun _ _ _ h => h) (Or.inr ⟨((wanted_at rfl rfl rfl rfl).trans rfl), rfl⟩) (Below.refl _ _) ?_
              simp only [List.getElem_toArray, List.getElem_cons_succ, List.getElem_cons_zero, Act.put, List.setIfInBounds_toArray, List.set_cons_zero, List.set_cons_succ]
              refine but_take (f := 17) (i := 9) (v := undef) rfl (by kernel_rfl) (by kernel_rfl) (by kernel_rfl) (by kernel_rfl) (by kernel_rfl) (fun _ _ _ h => h) (Or.inr ⟨((wanted_at rfl rfl rfl rfl).trans rfl), rfl⟩) (Below.refl _ _) ?_
              simp only [List.getElem_toArray, List.getElem_cons_succ, List.getElem_cons_zero, Act.put, List.setIfInBounds_toArray, List.set_cons_zero, List.set_cons_succ]
              refine but_take (f := 17) (i := 10) (v := undef) rfl (by kernel_rfl) (by kernel_rfl) (by kernel_rfl) (by kernel_rfl) (by kernel_rfl) (fun _ _ _ h => h) (Or.inr ⟨((wanted_at rfl rfl rfl rfl).trans rfl), rfl⟩) (Below.refl _ _) ?_
              simp only [List.getElem_toArray, List.getElem_cons_succ, List.getElem_cons_zero, Act.put, List.setIfInBounds_toArray, List.set_cons_zero, List.set_cons_succ]
              refine but_take (f := 17) (i := 11) (v := undef) rfl (by kernel_rfl) (by kernel_rfl) (by kernel_rfl) (by kernel_rfl) (by kernel_rfl) (fun _ _ _ h => h) (Or.inr ⟨((wanted_at rfl rfl rfl rfl).trans rfl), rfl⟩) (Below.refl _ _) ?_
              simp only [List.getElem_toArray, List.getElem_cons_succ, List.getElem_cons_zero, Act.put, List.setIfInBounds_toArray, List.set_cons_zero, List.set_cons_succ]
              refine but_take (f := 17) (i := 12) (v := undef) rfl (by kernel_rfl) (by kernel_rfl) (by kernel_rfl) (by kernel_rfl) (by kernel_rfl) (fun _ _ _ h => h) (Or.inr ⟨((wanted_at rfl rfl rfl rfl).trans rfl), rfl⟩) (Below.refl _ _) ?_
              simp only [List.getElem_toArray, List.getElem_cons_succ, List.getElem_cons_zero, Act.put, List.setIfInBounds_toArray, List.set_cons_zero, List.set_cons_succ]
              refine but_take (f := 17) (i := 13) (v := undef) rfl (by kernel_rfl) (by kernel_rfl) (by kernel_rfl) (by kernel_rfl) (by kernel_rfl) (fun _ _ _ h => h) (Or.inr ⟨((wanted_at rfl rfl rfl rfl).trans rfl), rfl⟩) (Below.refl _ _) ?_
              simp only [List.getElem_toArray, List.getElem_cons_succ, List.getElem_cons_zero, Act.put, List.setIfInBounds_toArray, List.set_cons_zero, List.set_cons_succ]
              refine but_take (f := 17) (i := 14) (v := undef) rfl (by kernel_rfl) (by kernel_rfl) (by kernel_rfl) (by kernel_rfl) (by kernel_rfl) (fun _ _ _ h => h) (Or.inr ⟨((wanted_at rfl rfl rfl rfl).trans rfl), rfl⟩) (Below.refl _ _) ?_
              simp only [List.getElem_toArray, List.getElem_cons_succ, List.getElem_cons_zero, Act.put, List.setIfInBounds_toArray, List.set_cons_zero, List.set_cons_succ]
              refine but_take (f := 17) (i := 15) (v := undef) rfl (by kernel_rfl) (by kernel_rfl) (by kernel_rfl) (by kernel_rfl) (by kernel_rfl) (fun _ _ _ h => h) (Or.inr ⟨((wanted_at rfl rfl rfl rfl).trans rfl), rfl⟩) (Below.refl _ _) ?_
              simp only [List.getElem_toArray, List.getElem_cons_succ, List.getElem_cons_zero, Act.put, List.setIfInBounds_toArray, List.set_cons_zero, List.set_cons_succ]
              refine but_take (f := 17) (i := 16) (v := undef) rfl (by kernel_rfl) (by kernel_rfl) (by kernel_rfl) (by kernel_rfl) (by kernel_rfl) (fun _ _ _ h => h) (Or.inr ⟨((wanted_at rfl rfl rfl rfl).trans rfl), rfl⟩) (Below.refl _ _) ?_
              simp only [List.getElem_toArray, List.getElem_cons_succ, List.getElem_cons_zero, Act.put, List.setIfInBounds_toArray, List.set_cons_zero, List.set_cons_succ]
              refine but_run (i := 17) (by kernel_rfl) rfl (by rfl) ?_
              simp only [List.getElem_toArray, List.getElem_cons_succ, List.getElem_cons_zero]
              intro K HK
              go_wp2_with fail
              refine HK.out _ wv.drew (fun h => absurd rfl h) ?_
              clear HK
              refine but_done (by kernel_rfl) ?_
              go_wp2_with fail
              go_roundw
              case rel => exact ⟨k + 1, by omega, by go_num, Lib.hid (fit_step HI.out HF.out), HJ2, Lib.hid (bstep HW.out (bstep BV.out (bstep (Below.drew1 _) (Below.refl _ _))))⟩
              case measure => simp [intOf]; omega
            · have q9 : ((l[k]).b == 0) = false := by simpa using q0
              have hneg := ageAt_neg (l.take k) (l[k]).b
              cases q2 : hasG (l.take k) (l[k]).b
              · have HF : Hid (fitG l k = false) := Lib.hid (by rw [hfit, HID.out, parGB, q9, q2]; rfl)
                rw [q2] at hneg
                have q3 : decide (ageAtK (l.take k) (l[k]).b < 0) = true := hneg
                clear hneg q9 q2
                refine but_begin (f := 17) (S := fun V => Below wv.drew.heap.size wv.drew V) (by kernel_rfl) ?_
                refine but_take (f := 17) (i := 0) (v := ?vtxsy0) rfl (by kernel_rfl) (by kernel_rfl) (by kernel_rfl) (by kernel_rfl) (by kernel_rfl) (fun _ _ _ h => h) (Or.inl ⟨(by rfl), ?hytxsy0⟩) (Below.refl _ _) ?resttxsy0
                case hytxsy0 =>
                  intro W hW
                  go_simp
                  exact rfl
                simp only [List.getElem_toArray, List.getElem_cons_succ, List.getElem_cons_zero, Act.put, List.setIfInBounds_toArray, List.set_cons_zero, List.set_cons_succ]
                refine but_take (f := 17) (i := 1) (v := ?vtxsy1) rfl (by kernel_rfl) (by kernel_rfl) (by kernel_rfl) (by kernel_rfl) (by kernel_rfl) (fun _ _ _ h => h) (Or.inl ⟨(by rfl), ?hytxsy1⟩) (Below.refl _ _) ?resttxsy1
                case hytxsy1 =>
                  intro W hW
                  go_simp
                  exact rfl
                simp only [List.getElem_toArray, List.getElem_cons_succ, List.getElem_cons_zero, Act.put, List.setIfInBounds_toArray, List.set_cons_zero, List.set_cons_succ]
                refine but_take (f := 17) (i := 2) (v := ?vtxsy2) rfl (by kernel_rfl) (by kernel_rfl) (by kernel_rfl) (by kernel_rfl) (by kernel_rfl) (fun _ _ _ h => h) (Or.inl ⟨(by rfl), ?hytxsy2⟩) (Below.refl _ _) ?resttxsy2
                case hytxsy2 =>
                  intro W hW
                  go_simp
                  exact rfl
                simp only [List.getElem_toArray, List.getElem_cons_succ, List.getElem_cons_zero, Act.put, List.setIfInBounds_toArray, List.set_cons_zero, List.set_cons_succ]
                refine but_take (f := 17) (i := 3) (v := ?vtxsy3) rfl (by kernel_rfl) (by kernel_rfl) (by kernel_rfl) (by kernel_rfl) (by kernel_rfl) (fun _ _ _ h => h) (Or.inl ⟨(by rfl), ?hytxsy3⟩) (Below.refl _ _) ?resttxsy3
                case hytxsy3 =>
                  intro W hW
                  go_simp
                  exact rfl
                simp only [List.getElem_toArray, List.getElem_cons_succ, List.getElem_cons_zero, Act.put, List.setIfInBounds_toArray, List.set_cons_zero, List.set_cons_succ]
                refine but_take (f := 17) (i := 4) (v := ?vtxsy4) rfl (by kernel_rfl) (by kernel_rfl) (by kernel_rfl) (by kernel_rfl) (by kernel_rfl) (fun _ _ _ h => h) (Or.inl ⟨(by rfl), ?hytxsy4⟩) (Below.refl _ _) ?resttxsy4
                case hytxsy4 =>
                  intro W hW
                  have hb0 : Below wv.heap.size wv W := bstep (Below.drew1 _) hW
                  obtain ⟨y0, y1⟩ := FK.out.on hbb (bstep BV.out hb0)
                  go_simp
                  exact rfl
                simp only [List.getElem_toArray, List.getElem_cons_succ, List.getElem_cons_zero, Act.put, List.setIfInBounds_toArray, List.set_cons_zero, List.set_cons_succ]
                refine but_take (f := 17) (i := 5) (v := ?vtxsy5) rfl (by kernel_rfl) (by kernel_rfl) (by kernel_rfl) (by kernel_rfl) (by kernel_rfl) (fun _ _ _ h => h) (Or.inl ⟨(by rfl), ?hytxsy5⟩) (Below.refl _ _) ?resttxsy5
                case hytxsy5 =>
                  intro W hW
                  go_simp
                  exact rfl
                simp only [List.getElem_toArray, List.getElem_cons_succ, List.getElem_cons_zero, Act.put, List.setIfInBounds_toArray, List.set_cons_zero, List.set_cons_succ]
                refine but_take (f := 17) (i := 6) (v := ?vtxsy6) rfl (by kernel_rfl) (by kernel_rfl) (by kernel_rfl) (by kernel_rfl) (by kernel_rfl) (fun _ _ _ h => h) (Or.inl ⟨(by rfl), ?hytxsy6⟩) (Below.refl _ _) ?resttxsy6
                case hytxsy6 =>
                  intro W hW
                  go_simp
                  exact rfl
                simp only [List.getElem_toArray, List.getElem_cons_succ, List.getElem_cons_zero, Act.put, List.setIfInBounds_toArray, List.set_cons_zero, List.set_cons_succ]
                refine but_take (f := 17) (i := 7) (v := ?vtxsy7) rfl (by kernel_rfl) (by kernel_rfl) (by kernel_rfl) (by kernel_rfl) (by kernel_rfl) (fun _ _ _ h => h) (Or.inl ⟨((wanted_at rfl rfl rfl rfl).trans rfl), ?hytxsy7⟩) (Below.refl _ _) ?resttxsy7
                case hytxsy7 =>
                  intro W hW
                  go_simp
                  exact rfl
                simp only [List.getElem_toArray, List.getElem_cons_succ, List.getElem_cons_zero, Act.put, List.setIfInBounds_toArray, List.set_cons_zero, List.set_cons_succ]
                refine but_take (f := 17) (i := 8) (v := ?vtxsy8) rfl (by kernel_rfl) (by kernel_rfl) (by kernel_rfl) (by kernel_rfl) (by kernel_rfl) (fun _ _ _ h => h) (Or.inl ⟨((wanted_at rfl rfl rfl rfl).trans rfl), ?hytxsy8⟩) (Below.refl _ _) ?resttxsy8
                case hytxsy8 =>
                  intro W hW
                  go_simp
                  exact rfl
                simp only [List.getElem_toArray, List.getElem_cons_succ, List.getElem_cons_zero, Act.put, List.setIfInBounds_toArray, List.set_cons_zero, List.set_cons_succ]
                refine but_take (f := 17) (i := 9) (v := ?vtxsy9) rfl (by kernel_rfl) (by kernel_rfl) (by kernel_rfl) (by kernel_rfl) (by kernel_rfl) (fun _ _ _ h => h) (Or.inl ⟨((wanted_at rfl rfl rfl rfl).trans rfl), ?hytxsy9⟩) (Below.refl _ _) ?resttxsy9
                case hytxsy9 =>
                  intro W hW
                  go_simp
                  exact rfl
                simp only [List.getElem_toArray, List.getElem_cons_succ, List.getElem_cons_zero, Act.put, List.setIfInBounds_toArray, List.set_cons_zero, List.set_cons_succ]
                refine but_take (f := 17) (i := 10) (v := ?vtxsy10) rfl (by kernel_rfl) (by kernel_rfl) (by kernel_rfl) (by kernel_rfl) (by kernel_rfl) (fun _ _ _ h => h) (Or.inl ⟨((wanted_at rfl rfl rfl rfl).trans rfl), ?hytxsy10⟩) (Below.refl _ _) ?resttxsy10
                case hytxsy10 =>
                  intro W hW
                  go_simp
                  exact rfl
                simp only [List.getElem_toArray, List.getElem_cons_succ, List.getElem_cons_zero, Act.put, List.setIfInBounds_toArray, List.set_cons_zero, List.set_cons_succ]
                refine but_take (f := 17) (i := 11) (v := ?vtxsy11) rfl (by kernel_rfl) (by kernel_rfl) (by kernel_rfl) (by kernel_rfl) (by kernel_rfl) (fun _ _ _ h => h) (Or.inl ⟨((wanted_at rfl rfl rfl rfl).trans rfl), ?hytxsy11⟩) (Below.refl _ _) ?resttxsy11
                case hytxsy11 =>
                  intro W hW
                  go_simp
                  exact rfl
                simp only [List.getElem_toArray, List.getElem_cons_succ, List.getElem_cons_zero, Act.put, List.setIfInBounds_toArray, List.set_cons_zero, List.set_cons_succ]
                refine but_take (f := 17) (i := 12) (v := ?vtxsy12) rfl (by kernel_rfl) (by kernel_rfl) (by kernel_rfl) (by kernel_rfl) (by kernel_rfl) (fun _ _ _ h => h) (Or.inl ⟨((wanted_at rfl rfl rfl rfl).trans rfl), ?hytxsy12⟩) (Below.refl _ _) ?resttxsy12
                case hytxsy12 =>
                  intro W hW
                  go_simp
                  exact rfl
                simp only [List.getElem_toArray, List.getElem_cons_succ, List.getElem_cons_zero, Act.put, List.setIfInBounds_toArray, List.set_cons_zero, List.set_cons_succ]
                refine but_take (f := 17) (i := 13) (v := ?vtxsy13) rfl (by kernel_rfl) (by kernel_rfl) (by kernel_rfl) (by kernel_rfl) (by kernel_rfl) (fun _ _ _ h => h) (Or.inl ⟨((wanted_at rfl rfl rfl rfl).trans rfl), ?hytxsy13⟩) (Below.refl _ _) ?resttxsy13
                case hytxsy13 =>
                  intro W hW
                  go_simp
                  exact rfl
                simp only [List.getElem_toArray, List.getElem_cons_succ, List.getElem_cons_zero, Act.put, List.setIfInBounds_toArray, List.set_cons_zero, List.set_cons_succ]
                refine but_take (f := 17) (i := 14) (v := ?vtxsy14) rfl (by kernel_rfl) (by kernel_rfl) (by kernel_rfl) (by kernel_rfl) (by kernel_rfl) (fun _ _ _ h => h) (Or.inl ⟨((wanted_at rfl rfl rfl rfl).trans rfl), ?hytxsy14⟩) (Below.refl _ _) ?resttxsy14
                case hytxsy14 =>
                  intro W hW
                  have hb0 : Below wv.heap.size wv W := bstep (Below.drew1 _) hW
                  obtain ⟨y0, y1⟩ := FK.out.on hbb (bstep BV.out hb0)
                  go_simp
                  exact rfl
                simp only [List.getElem_toArray, List.getElem_cons_succ, List.getElem_cons_zero, Act.put, List.setIfInBounds_toArray, List.set_cons_zero, List.set_cons_succ]
                refine but_run (i := 15) (by kernel_rfl) rfl ((wanted_at rfl rfl rfl rfl).trans rfl) ?_
                simp only [List.getElem_toArray, List.getElem_cons_succ, List.getElem_cons_zero]
                intro K HK
                go_wp2_with fail
                refine (specAgeAtB _ (l.take k) (l[k]).b _ (HTK.out.on (bstep BV.out (bstep (Below.drew1 _) (Below.refl _ _)))) (by simp; omega)).mono ?_
                rintro r Vtxsy1 ⟨rfl, hBtxsy1⟩
                have hStxsy1 := bstep (Below.refl _ _) hBtxsy1
                go_wp2_with fail
                refine HK.out _ Vtxsy1 (fun _ => hStxsy1) ?_
                clear HK
                refine but_take (f := 17) (i := 16) (v := ?vtxsy16) rfl (by kernel_rfl) (by kernel_rfl) (by kernel_rfl) (by kernel_rfl) (by kernel_rfl) (fun _ _ _ h => h) (Or.inl ⟨((wanted_at rfl rfl rfl rfl).trans rfl), ?hytxsy16⟩) hStxsy1 ?resttxsy16
                case hytxsy16 =>
                  intro W hW
                  go_simp
                  exact rfl
                simp only [List.getElem_toArray, List.getElem_cons_succ, List.getElem_cons_zero, Act.put, List.setIfInBounds_toArray, List.set_cons_zero, List.set_cons_succ]
                refine but_run (i := 17) (by kernel_rfl) rfl (by rfl) ?_
                simp only [List.getElem_toArray, List.getElem_cons_succ, List.getElem_cons_zero]
                intro K HK
                go_wp2_with fail
                refine HK.out _ Vtxsy1 (fun h => absurd rfl h) ?_
                clear HK
                refine but_done (by kernel_rfl) ?_
                go_wp2_with fail
                go_ret
                exact ⟨ret_boolB (by rw [← HR.out]; exact (fit_miss hlt HF.out).symm), bstep HW.out (bstep BV.out (bstep (Below.drew1 _) hStxsy1))⟩
              · have HF : Hid (fitG l k = true) := Lib.hid (by rw [hfit, HID.out, parGB, q9, q2]; rfl)
                rw [q2] at hneg
                have q3 : decide (ageAtK (l.take k) (l[k]).b < 0) = false := hneg
                clear hneg q9 q2
                refine but_begin (f := 17) (S := fun V => Below wv.drew.heap.size wv.drew V) (by kernel_rfl) ?_
                refine but_take (f := 17) (i := 0) (v := ?vtysy0) rfl (by kernel_rfl) (by kernel_rfl) (by kernel_rfl) (by kernel_rfl) (by kernel_rfl) (fun _ _ _ h => h) (Or.inl ⟨(by rfl), ?hytysy0⟩) (Below.refl _ _) ?resttysy0
                case hytysy0 =>
                  intro W hW
                  go_simp
                  exact rfl
                simp only [List.getElem_toArray, List.getElem_cons_succ, List.getElem_cons_zero, Act.put, List.setIfInBounds_toArray, List.set_cons_zero, List.set_cons_succ]
                refine but_take (f := 17) (i := 1) (v := ?vtysy1) rfl (by kernel_rfl) (by kernel_rfl) (by kernel_rfl) (by kernel_rfl) (by kernel_rfl) (fun _ _ _ h => h) (Or.inl ⟨(by rfl), ?hytysy1⟩) (Below.refl _ _) ?resttysy1
                case hytysy1 =>
                  intro W hW
                  go_simp
                  exact rfl
                simp only [List.getElem_toArray, List.getElem_cons_succ, List.getElem_cons_zero, Act.put, List.setIfInBounds_toArray, List.set_cons_zero, List.set_cons_succ]
                refine but_take (f := 17) (i := 2) (v := ?vtysy2) rfl (by kernel_rfl) (by kernel_rfl) (by kernel_rfl) (by kernel_rfl) (by kernel_rfl) (fun _ _ _ h => h) (Or.inl ⟨(by rfl), ?hytysy2⟩) (Below.refl _ _) ?resttysy2
                case hytysy2 =>
                  intro W hW
                  go_simp
                  exact rfl
                simp only [List.getElem_toArray, List.getElem_cons_succ, List.getElem_cons_zero, Act.put, List.setIfInBounds_toArray, List.set_cons_zero, List.set_cons_succ]
                refine but_take (f := 17) (i := 3) (v := ?vtysy3) rfl (by kernel_rfl) (by kernel_rfl) (by kernel_rfl) (by kernel_rfl) (by kernel_rfl) (fun _ _ _ h => h) (Or.inl ⟨(by rfl), ?hytysy3⟩) (Below.refl _ _) ?resttysy3
                case hytysy3 =>
                  intro W hW
                  go_simp
                  exact rfl
                simp only [List.getElem_toArray, List.getElem_cons_succ, List.getElem_cons_zero, Act.put, List.setIfInBounds_toArray, List.set_cons_zero, List.set_cons_succ]
                refine but_take (f := 17) (i := 4) (v := ?vtysy4) rfl (by kernel_rfl) (by kernel_rfl) (by kernel_rfl) (by kernel_rfl) (by kernel_rfl) (fun _ _ _ h => h) (Or.inl ⟨(by rfl), ?hytysy4⟩) (Below.refl _ _) ?resttysy4
                case hytysy4 =>
                  intro W hW
                  have hb0 : Below wv.heap.size wv W := bstep (Below.drew1 _) hW
                  obtain ⟨y0, y1⟩ := FK.out.on hbb (bstep BV.out hb0)
                  go_simp
                  exact rfl
                simp only [List.getElem_toArray, List.getElem_cons_succ, List.getElem_cons_zero, Act.put, List.setIfInBounds_toArray, List.set_cons_zero, List.set_cons_succ]
                refine but_take (f := 17) (i := 5) (v := ?vtysy5) rfl (by kernel_rfl) (by kernel_rfl) (by kernel_rfl) (by kernel_rfl) (by kernel_rfl) (fun _ _ _ h => h) (Or.inl ⟨(by rfl), ?hytysy5⟩) (Below.refl _ _) ?resttysy5
                case hytysy5 =>
                  intro W hW
                  go_simp
                  exact rfl
                simp only [List.getElem_toArray, List.getElem_cons_succ, List.getElem_cons_zero, Act.put, List.setIfInBounds_toArray, List.set_cons_zero, List.set_cons_succ]
                refine but_take (f := 17) (i := 6) (v := ?vtysy6) rfl (by kernel_rfl) (by kernel_rfl) (by kernel_rfl) (by kernel_rfl) (by kernel_rfl) (fun _ _ _ h => h) (Or.inl ⟨(by rfl), ?hytysy6⟩) (Below.refl _ _) ?resttysy6
                case hytysy6 =>
                  intro W hW
                  go_simp
                  exact rfl
                simp only [List.getElem_toArray, List.getElem_cons_succ, List.getElem_cons_zero, Act.put, List.setIfInBounds_toArray, List.set_cons_zero, List.set_cons_succ]
                refine but_take (f := 17) (i := 7) (v := ?vtysy7) rfl (by kernel_rfl) (by kernel_rfl) (by kernel_rfl) (by kernel_rfl) (by kernel_rfl) (fun _ _ _ h => h) (Or.inl ⟨((wanted_at rfl rfl rfl rfl).trans rfl), ?hytysy7⟩) (Below.refl _ _) ?resttysy7
                case hytysy7 =>
                  intro W hW
                  go_simp
                  exact rfl
                simp only [List.getElem_toArray, List.getElem_cons_succ, List.getElem_cons_zero, Act.put, List.setIfInBounds_toArray, List.set_cons_zero, List.set_cons_succ]
                refine but_take (f := 17) (i := 8) (v := ?vtysy8) rfl (by kernel_rfl) (by kernel_rfl) (by kernel_rfl) (by kernel_rfl) (by kernel_rfl) (fun _ _ _ h => h) (Or.inl ⟨((wanted_at rfl rfl rfl rfl).trans rfl), ?hytysy8⟩) (Below.refl _ _) ?resttysy8
                case hytysy8 =>
                  intro W hW
                  go_simp
                  exact rfl
                simp only [List.getElem_toArray, List.getElem_cons_succ, List.getElem_cons_zero, Act.put, List.setIfInBounds_toArray, List.set_cons_zero, List.set_cons_succ]
                refine but_take (f := 17) (i := 9) (v := ?vtysy9) rfl (by kernel_rfl) (by kernel_rfl) (by kernel_rfl) (by kernel_rfl) (by kernel_rfl) (fun _ _ _ h => h) (Or.inl ⟨((wanted_at rfl rfl rfl rfl).trans rfl), ?hytysy9⟩) (Below.refl _ _) ?resttysy9
                case hytysy9 =>
                  intro W hW
                  go_simp
                  exact rfl
                simp only [List.getElem_toArray, List.getElem_cons_succ, List.getElem_cons_zero, Act.put, List.setIfInBounds_toArray, List.set_cons_zero, List.set_cons_succ]
                refine but_take (f := 17) (i := 10) (v := ?vtysy10) rfl (by kernel_rfl) (by kernel_rfl) (by kernel_rfl) (by kernel_rfl) (by kernel_rfl) (fun _ _ _ h => h) (Or.inl ⟨((wanted_at rfl rfl rfl rfl).trans rfl), ?hytysy10⟩) (Below.refl _ _) ?resttysy10
                case hytysy10 =>
                  intro W hW
                  go_simp
                  exact rfl
                simp only [List.getElem_toArray, List.getElem_cons_succ, List.getElem_cons_zero, Act.put, List.setIfInBounds_toArray, List.set_cons_zero, List.set_cons_succ]
                refine but_take (f := 17) (i := 11) (v := ?vtysy11) rfl (by kernel_rfl) (by kernel_rfl) (by kernel_rfl) (by kernel_rfl) (by kernel_rfl) (fun _ _ _ h => h) (Or.inl ⟨((wanted_at rfl rfl rfl rfl).trans rfl), ?hytysy11⟩) (Below.refl _ _) ?resttysy11
                case hytysy11 =>
                  intro W hW
                  go_simp
                  exact rfl
                simp only [List.getElem_toArray, List.getElem_cons_succ, List.getElem_cons_zero, Act.put, List.setIfInBounds_toArray, List.set_cons_zero, List.set_cons_succ]
                refine but_take (f := 17) (i := 12) (v := ?vtysy12) rfl (by kernel_rfl) (by kernel_rfl) (by kernel_rfl) (by kernel_rfl) (by kernel_rfl) (fun _ _ _ h => h) (Or.inl ⟨((wanted_at rfl rfl rfl rfl).trans rfl), ?hytysy12⟩) (Below.refl _ _) ?resttysy12
                case hytysy12 =>
                  intro W hW
                  go_simp
                  exact rfl
                simp only [List.getElem_toArray, List.getElem_cons_succ, List.getElem_cons_zero, Act.put, List.setIfInBounds_toArray, List.set_cons_zero, List.set_cons_succ]
                refine but_take (f := 17) (i := 13) (v := ?vtysy13) rfl (by kernel_rfl) (by kernel_rfl) (by kernel_rfl) (by kernel_rfl) (by kernel_rfl) (fun _ _ _ h => h) (Or.inl ⟨((wanted_at rfl rfl rfl rfl).trans rfl), ?hytysy13⟩) (Below.refl _ _) ?resttysy13
                case hytysy13 =>
                  intro W hW
                  go_simp
                  exact rfl
                simp only [List.getElem_toArray, List.getElem_cons_succ, List.getElem_cons_zero, Act.put, List.setIfInBounds_toArray, List.set_cons_zero, List.set_cons_succ]
                refine but_take (f := 17) (i := 14) (v := ?vtysy14) rfl (by kernel_rfl) (by kernel_rfl) (by kernel_rfl) (by kernel_rfl) (by kernel_rfl) (fun _ _ _ h => h) (Or.inl ⟨((wanted_at rfl rfl rfl rfl).trans rfl), ?hytysy14⟩) (Below.refl _ _) ?resttysy14
                case hytysy14 =>
                  intro W hW
                  have hb0 : Below wv.heap.size wv W := bstep (Below.drew1 _) hW
                  obtain ⟨y0, y1⟩ := FK.out.on hbb (bstep BV.out hb0)
                  go_simp
                  exact rfl
                simp only [List.getElem_toArray, List.getElem_cons_succ, List.getElem_cons_zero, Act.put, List.setIfInBounds_toArray, List.set_cons_zero, List.set_cons_succ]
                refine but_run (i := 15) (by kernel_rfl) rfl ((wanted_at rfl rfl rfl rfl).trans rfl) ?_
                simp only [List.getElem_toArray, List.getElem_cons_succ, List.getElem_cons_zero]
                intro K HK
                go_wp2_with fail
                refine (specAgeAtB _ (l.take k) (l[k]).b _ (HTK.out.on (bstep BV.out (bstep (Below.drew1 _) (Below.refl _ _)))) (by simp; omega)).mono ?_
                rintro r Vtysy1 ⟨rfl, hBtysy1⟩
                have hStysy1 := bstep (Below.refl _ _) hBtysy1
                go_wp2_with fail
                refine HK.out _ Vtysy1 (fun _ => hStysy1) ?_
                clear HK
                refine but_take (f := 17) (i := 16) (v := ?vtysy16) rfl (by kernel_rfl) (by kernel_rfl) (by kernel_rfl) (by kernel_rfl) (by kernel_rfl) (fun _ _ _ h => h) (Or.inl ⟨((wanted_at rfl rfl rfl rfl).trans rfl), ?hytysy16⟩) hStysy1 ?resttysy16
                case hytysy16 =>
                  intro W hW
                  go_simp
                  exact rfl
                simp only [List.getElem_toArray, List.getElem_cons_succ, List.getElem_cons_zero, Act.put, List.setIfInBounds_toArray, List.set_cons_zero, List.set_cons_succ]
                refine but_run (i := 17) (by kernel_rfl) rfl (by rfl) ?_
                simp only [List.getElem_toArray, List.getElem_cons_succ, List.getElem_cons_zero]
                intro K HK
                go_wp2_with fail
                refine HK.out _ Vtysy1 (fun h => absurd rfl h) ?_
                clear HK
                refine but_done (by kernel_rfl) ?_
                go_wp2_with fail
                go_roundw
                case rel => exact ⟨k + 1, by omega, by go_num, Lib.hid (fit_step HI.out HF.out), HJ2, Lib.hid (bstep HW.out (bstep BV.out (bstep (Below.drew1 _) hStysy1)))⟩
                case measure => simp [intOf]; omega
    · have hall : decide (∀ i, i < l.length → fitG l i = true) = true := decide_eq_true (fun i hi => HI.out i (by omega))
      have hrise : riseG l = true := decide_eq_true (fun i hi => HJ.out i (by omega) (by omega))
      have hX : agesOkB l = decide (l.length ≤ 16) := by rw [agesOkB, hall, hrise]; simp
      have HX := Lib.hid hX
      clear hall hrise hX
      by_cases h16 : l.length ≤ 16
      · have d0 : decide ((l.length : Int) ≤ 16) = true := decide_eq_true (by omega)
        go_wp2
        go_ret
        exact ⟨ret_boolB (by rw [← HR.out, HX.out, decide_eq_true h16]), HW.out⟩
      · have d0 : decide ((l.length : Int) ≤ 16) = false := decide_eq_false (by omega)
        go_wp2
        go_ret
        exact ⟨ret_boolB (by rw [← HR.out, HX.out, decide_eq_false h16]), HW.out⟩
end Go.Proofs.YtpfepcjbhchpcaaGreat
namespace Go.Proofs.YtpfepcjbhchpcaaGreat
open Go.RowKit
set_option maxRecDepth 100000
set_option linter.unusedSimpArgs false
set_option linter.unusedVariables false

def layA : Array Value → Nat → List Value → Array Value
  | a, _, [] => a
  | a, o, v :: r => layA (a.setIfInBounds o v) (o + 1) r
theorem layA_size (vs : List Value) : ∀ (a : Array Value) (o : Nat), (layA a o vs).size = a.size := by
  induction vs with
  | nil => intro a o; rfl
  | cons v r ih => intro a o; rw [layA, ih]; simp
theorem layA_list (vs : List Value) : ∀ (a : Array Value) (o : Nat), o + vs.length ≤ a.size → (layA a o vs).toList = a.toList.take o ++ (vs ++ a.toList.drop (o + vs.length)) := by
  induction vs with
  | nil => intro a o h; simp [layA]
  | cons v r ih =>
    intro a o h
    simp only [List.length_cons] at h
    rw [layA, ih _ _ (by simp; omega), Array.toList_setIfInBounds, List.take_succ_eq_append_getElem (by simp; omega), List.take_set_of_le (Nat.le_refl _), List.getElem_set_self, List.drop_set_of_lt (by omega)]
    simp only [List.length_cons, List.append_assoc, List.singleton_append, List.cons_append, List.nil_append]
    rw [show o + 1 + r.length = o + (r.length + 1) by omega]
theorem heap_lay (g : Nat) (t : TypeId) (vs : List Value) : ∀ (w : World) (a : Array Value) (o : Nat), w.heap[g]? = some (.cells a t (0, 0)) → (w.setCells g o vs).heap[g]? = some (.cells (layA a o vs) t (0, 0)) := by
  induction vs with
  | nil => intro w a o h; exact h
  | cons v r ih => intro w a o h; exact ih _ _ _ (heap_setCell_same w g o a _ _ h)
theorem below_lay {B g : Nat} (hg : B ≤ g) (vs : List Value) : ∀ (a w : World) (o : Nat), Below B a w → Below B a (w.setCells g o vs) := by
  induction vs with
  | nil => intro a w o h; exact h
  | cons v r ih => intro a w o h; exact ih _ _ _ (h.setCell (p := ⟨g, o, none⟩) hg _)
end Go.Proofs.YtpfepcjbhchpcaaGreat
namespace Go.Proofs.YtpfepcjbhchpcaaGreat
open Go.RowKit
set_option maxRecDepth 100000
set_option linter.unusedSimpArgs false
set_option linter.unusedVariables false

theorem ageAt_has {l : List AgeD} {d : Int} (h : hasG l d = true) : ageI l d < l.length ∧ ageAtK l d = (ageI l d : Int) := by
  have h1 : ageI l d < l.length := of_decide_eq_true h
  exact ⟨h1, by rw [ageAtK, if_pos h1]⟩
end Go.Proofs.YtpfepcjbhchpcaaGreat
namespace Go.Proofs.YtpfepcjbhchpcaaGreat
open Go.RowKit
set_option maxRecDepth 100000
set_option linter.unusedSimpArgs false
set_option linter.unusedVariables false

/-- The way up from version d: at most n versions. -/
def pathGo (l : List AgeD) : Nat → Int → List Int
  | 0, _ => []
  | n + 1, d => if hasG l d then d :: (if parG l d == 0 then [] else pathGo l n (parG l d)) else []
def pathK (l : List AgeD) (d : Int) : List Int := pathGo l (l.length + 1) d
theorem pathGo_no {l : List AgeD} {d : Int} (h : hasG l d = false) (n : Nat) : pathGo l n d = [] := by
  cases n with
  | zero => rfl
  | succ n => rw [pathGo, h]; rfl
theorem pathGo_yes {l : List AgeD} {d : Int} (h : hasG l d = true) (n : Nat) : pathGo l (n + 1) d = d :: (if parG l d == 0 then [] else pathGo l n (parG l d)) := by
  rw [pathGo, h]; rfl
theorem pathGo_len (l : List AgeD) (n : Nat) (d : Int) : (pathGo l n d).length ≤ n := by
  induction n generalizing d with
  | zero => simp [pathGo]
  | succ n ih =>
    rw [pathGo]
    split
    · split
      · simp
      · have := ih (parG l d)
        simp only [List.length_cons]
        omega
    · simp
theorem pathK_len (l : List AgeD) (d : Int) : (pathK l d).length ≤ l.length + 1 := pathGo_len l _ d
theorem parG_at {l : List AgeD} {d : Int} (h : ageI l d < l.length) : parG l d = (l[ageI l d]).b := by
  unfold parG
  rw [List.getElem?_eq_getElem h]
def lenV : Value → Nat
  | .slice _ n _ => n
  | _ => 0
set_option maxHeartbeats 4000000 in
theorem implPathOf_any (v : Value) (l : List AgeD) (d : Int) (w : World) (hv : Reads w w.heap.size v (agesD l)) (hn : l.length ≤ 2000000) : Calls Tryz.prog 202 #[v, .int .i64 d] w (NewI w (pathK l d)) := by
  obtain ⟨A, c, rfl, _, _⟩ := hv.shapeG
  have HV := Lib.hid hv
  obtain ⟨R, hR⟩ : ∃ R, pathK l d = R := ⟨_, rfl⟩
  rw [hR]
  unfold pathK at hR
  have HR := Lib.hid hR
  have b0 := bal1 w (.cells #[] 3)
  have G0 := Lib.hid (show GrowI w _ _ [] from ⟨RowI.lit w, b0⟩)
  have HV0 := Lib.hid (hv.on b0)
  clear hv hR b0
  go_enter Tryz.func202, Tryz.ntmps202
  go_wp2
  go_step3
  go_wp2
  go_step3
  generalize w.alloc (.cells #[] 3) = w0 at *
  go_wp2_with fail
  refine (implAgeAt_any _ l d _ HV0.out (by omega)).mono ?_
  rintro e w1 ⟨rfl, b1⟩
  have G1 := Lib.hid (show GrowI w w1 _ [] from ⟨G0.out.1.on b1, bstep G0.out.2 b1⟩)
  clear G0 HV0 b1
  go_wp2
  go_loopw [5, 6] (fun o i wr => ∃ (m : List Int) (e : Int), i = .int .i64 (ageAtK l e) ∧ Hid (m.length ≤ l.length) ∧ Hid (m ++ pathGo l (l.length + 1 - m.length) e = R) ∧ Hid (GrowI w wr o m)) (fun o _ _ => l.length + 1 - lenV o)
  case atStart => exact ⟨[], d, rfl, Lib.hid (Nat.zero_le _), Lib.hid (by simpa using HR.out), G1⟩
  case round =>
    clear G1
    obtain ⟨m, e, rfl, HM, HI, HX⟩ := hrel
    obtain ⟨hrow, hb⟩ := HX.out
    obtain ⟨Ao, co, rfl, _, _⟩ := hrow.shape
    have hgeq := ageAt_geq l e
    cases hh : hasG l e
    · rw [hh] at hgeq
      have hRe : R = m := by rw [← HI.out, pathGo_no hh, List.append_nil]
      subst hRe
      generalize ageAtK l e = q at *
      have hq : decide (0 ≤ q) = false := hgeq
      clear hrow hb hh hgeq
      go_wp2
      go_ret
      exact ⟨_, rfl, HX.out.1, HX.out.2⟩
    · obtain ⟨hN, hq0⟩ := ageAt_has hh
      have hpar := parG_at hN
      have hget := ageI_get hN
      obtain ⟨b, off, rfl, hbb, hc⟩ := (HV.out.on hb).ages hN
      have hml := HM.out
      have hfu := HI.out
      rw [show l.length + 1 - m.length = (l.length - m.length) + 1 by omega, pathGo_yes hh, hpar] at hfu
      have HFU := Lib.hid hfu
      obtain ⟨c0, c1⟩ := hc _ hN
      rw [hq0]
      rw [hget] at c0
      have FK := Lib.hid (And.intro c0 c1)
      clear hc hgeq hh hq0 hpar hget hfu
      generalize ageI l e = N at *
      obtain ⟨f, hf⟩ : ∃ f, (l[N]).b = f := ⟨_, rfl⟩
      rw [hf] at HFU FK c1
      clear hf
      have i1 : (N : Int) < (l.length : Int) := by omega
      have i2 : (0 : Int) ≤ (N : Int) := by omega
      have HAt := Lib.hid (At.intOne wr e 3)
      have ba := bal1 wr (.cells #[.int .i64 e] 3)
      have HRow := Lib.hid (hrow.on ba)
      have HB2 := Lib.hid (hb.trans (ba.mono hb.size))
      have HZ := Lib.hid HB2.out.size
      clear ba HX
      go_upto_region 6 with (at_builtin; refine wpList_appI _ rfl (.tmp 20) (.tmp 26) rfl w.heap.size _ m rfl HRow.out (some ⟨wr.heap.size, 0, none⟩) 1 1 [e] rfl rfl HAt.out (by simp; omega) HZ.out ?_; intro v2 w2 o2 b2; clear HRow HAt)
      have hb2 := HB2.out.trans b2
      obtain ⟨m2, hm2⟩ : ∃ m2, m ++ [e] = m2 := ⟨_, rfl⟩
      rw [hm2] at o2
      have hl2 : m2.length = m.length + 1 := by rw [← hm2]; simp
      obtain ⟨A2, e2, rfl, _, _⟩ := o2.shape
      have HL2 := Lib.hid hl2
      have HG2 := Lib.hid (show GrowI w w2 _ m2 from ⟨o2, hb2⟩)
      have hbw2 : b < w.heap.size := by
        obtain ⟨b', off', he, hbb', _⟩ := HV.out.ages hN
        cases he
        exact hbb'
      have F2 : Hid (w2.cell? ⟨b, off + N * 2, none⟩ = some (.int .i64 e) ∧ w2.cell? ⟨b, off + N * 2 + 1, none⟩ = some (.int .i64 f)) := Lib.hid ⟨(World.cell?_of_block (a := ⟨b, off + N * 2, none⟩) ((hb2.block b hbw2).trans (hb.block b hbw2).symm)).trans FK.out.1, (World.cell?_of_block (a := ⟨b, off + N * 2 + 1, none⟩) ((hb2.block b hbw2).trans (hb.block b hbw2).symm)).trans FK.out.2⟩
      have HMM := Lib.hid hm2
      clear c0 c1 hrow hb hb2 b2 o2 HB2 HZ FK hm2 hl2 HI HM
      obtain ⟨c0, c1⟩ := F2.out
      cases hz : (f == 0)
      · rw [hz] at HFU
        simp only [Bool.false_eq_true, if_false] at HFU
        by_cases hfull : l.length < m2.length
        · have d1 : decide (l.length < m2.length) = true := decide_eq_true hfull
          have hRe : R = m2 := by
            have h0 : l.length - m.length = 0 := by have := HL2.out; omega
            rw [← HFU.out, h0, pathGo, HMM.out]
          subst hRe
          clear hml hfull
          go_wp2
          go_ret
          exact ⟨_, rfl, HG2.out.1, HG2.out.2⟩
        · have d1 : decide (l.length < m2.length) = false := decide_eq_false hfull
          have HM2 : Hid (m2.length ≤ l.length) := Lib.hid (by omega)
          have HI2 : Hid (m2 ++ pathGo l (l.length + 1 - m2.length) f = R) := Lib.hid (by rw [show l.length + 1 - m2.length = l.length - m.length by have := HL2.out; omega, ← HFU.out, ← HMM.out]; simp)
          have HVW := Lib.hid (HV.out.on HG2.out.2)
          have HME : Hid (l.length + 1 - m2.length < l.length + 1 - m.length) := Lib.hid (by have := HL2.out; omega)
          clear hml hfull
          go_wp2_with fail
          refine (implAgeAt_any _ l f _ HVW.out (by omega)).mono ?_
          rintro r w3 ⟨rfl, b3⟩
          have G3 := Lib.hid (show GrowI w w3 _ m2 from ⟨HG2.out.1.on b3, bstep HG2.out.2 b3⟩)
          clear b3 c0 c1 d1
          go_wp2
          go_roundw
          case rel => exact ⟨m2, f, rfl, HM2, HI2, G3⟩
          case measure => simp only [lenV]; exact HME.out
      · rw [hz] at HFU
        simp only [if_true] at HFU
        have hRe : R = m2 := by rw [← HFU.out, HMM.out]
        subst hRe
        clear hml
        go_wp2
        go_ret
        exact ⟨_, rfl, HG2.out.1, HG2.out.2⟩
theorem take_no {l : List Int} {k : Nat} {x : Int} (hk : k < l.length) (h : x ∉ l.take k) (hs : (x == l[k]) = false) : x ∉ l.take (k + 1) := by
  rw [List.take_succ_eq_append_getElem hk]
  intro hm
  rcases List.mem_append.1 hm with hm | hm
  · exact h hm
  · simp at hm
    simp [hm] at hs
theorem index_any (v : Value) (l : List Int) (x : Int) (w : World) (hv : Reads w w.heap.size v (intsD l)) (hn : l.length ≤ 2097152) : Calls Tryz.prog 247 #[v, .int .i64 x] w fun e w' => ∃ n : Int, e = .returned (.int .i64 n) ∧ decide (0 ≤ n) = decide (x ∈ l) ∧ w = w' := by
  obtain ⟨A, c, rfl, _, _⟩ := hv.lenN
  have HV := Lib.hid hv
  clear hv
  go_enter Tryz.func247, Tryz.ntmps247
  go_wp2
  go_loop [5, 8] (fun _ i => ∃ k : Nat, k ≤ l.length ∧ i = .int .i64 k ∧ Hid (x ∉ l.take k)) (fun _ i => l.length - (intOf i).toNat)
  case atStart => exact ⟨0, Nat.zero_le _, rfl, Lib.hid (by simp)⟩
  case round =>
    obtain ⟨k, hk, rfl, HI⟩ := hrel
    by_cases hlt : k < l.length
    · obtain ⟨b, off, rfl, hbb, hc⟩ := HV.out.int hlt
      have c0 := hc k hlt
      unfold iV at c0
      have i1 : (k : Int) < (l.length : Int) := by omega
      have i2 : (0 : Int) ≤ (k : Int) := by omega
      clear hc
      cases hs : (x == l[k])
      · have HS := Lib.hid hs
        go_wp2
        go_round
        case rel => exact ⟨k + 1, by omega, by go_num, Lib.hid (take_no hlt HI.out HS.out)⟩
        case measure => simp [intOf]; omega
      · have HS := Lib.hid hs
        go_wp2
        go_ret
        refine ⟨_, rfl, ?_, rfl⟩
        have h1 : x ∈ l := by
          have := HS.out
          simp at this
          rw [this]
          exact List.getElem_mem hlt
        exact ⟨fun _ => h1, fun _ => by omega⟩
    · go_wp2
      go_ret
      refine ⟨_, rfl, ?_, rfl⟩
      have h1 : x ∉ l := by
        have := HI.out
        rw [show k = l.length by omega, List.take_length] at this
        exact this
      exact ⟨fun h => by omega, fun h => absurd h h1⟩
theorem contains_any (v : Value) (l : List Int) (x : Int) (w : World) (hv : Reads w w.heap.size v (intsD l)) (hn : l.length ≤ 2097152) : Calls Tryz.prog 232 #[v, .int .i64 x] w fun e w' => e = .returned (.bool (decide (x ∈ l))) ∧ w = w' := by
  obtain ⟨A, c, rfl, _, _⟩ := hv.lenN
  have HV := Lib.hid hv
  obtain ⟨R, hR⟩ : ∃ R, decide (x ∈ l) = R := ⟨_, rfl⟩
  rw [hR]
  have HR := Lib.hid hR
  clear hv hR
  go_enter Tryz.func232, Tryz.ntmps232
  go_wp2_with fail
  refine (index_any _ l x _ HV.out hn).mono ?_
  rintro e w1 ⟨n, rfl, hq, rfl⟩
  rw [HR.out] at hq
  cases R
  all_goals
    go_wp2
    go_ret
    exact ⟨rfl, rfl⟩
end Go.Proofs.YtpfepcjbhchpcaaGreat
namespace Go.Proofs.YtpfepcjbhchpcaaGreat
open Go.RowKit
set_option maxRecDepth 100000
set_option linter.unusedSimpArgs false
set_option linter.unusedVariables false

/-- In w, from the head of block b on, lie the values xs. -/
def Lies (w : World) (b : Nat) (xs : List Value) : Prop := ∀ i (h : i < xs.length), w.cell? ⟨b, i, none⟩ = some xs[i]
theorem Lies.far {w w' : World} {b p : Nat} {xs : List Value} (h : Lies w b xs) (hg : w.grownBy w' (some p)) (hb : b < w.heap.size) (hne : b ≠ p) : Lies w' b xs :=
  fun i hi => (World.cell?_of_block (a := ⟨b, i, none⟩) (hg.block b hb (fun e => hne (by injection e)))).trans (h i hi)
theorem Lies.new (w : World) (xs : List Value) (t : TypeId) : Lies (w.alloc (.cells xs.toArray t)) w.heap.size xs := by
  intro i hi
  rw [cell_of_row _ _ _ _ _ _ (heap_alloc_new w _)]
  simp [hi]
end Go.Proofs.YtpfepcjbhchpcaaGreat
namespace Go.Proofs.YtpfepcjbhchpcaaGreat
open Go.RowKit
set_option maxRecDepth 100000
set_option linter.unusedSimpArgs false
set_option linter.unusedVariables false

/-- A valid list of versions with small Ids. -/
def GoodG (l : List AgeD) : Prop := agesOkB l = true ∧ ∀ x ∈ l, x.a ≤ 8
theorem GoodG.nil : GoodG [] := ⟨by rfl, fun x hx => by simp at hx⟩
theorem insG_mem {l : List AgeD} {x y : AgeD} : y ∈ insG l x ↔ y = x ∨ y ∈ l := by
  unfold insG
  rw [List.mem_append, List.mem_cons]
  constructor
  · rintro (h | h | h)
    · exact .inr (List.mem_of_mem_take h)
    · exact .inl h
    · exact .inr (List.mem_of_mem_drop h)
  · rintro (h | h)
    · exact .inr (.inl h)
    · have h2 : y ∈ l.take (plG l x.a) ++ l.drop (plG l x.a) := by rw [List.take_append_drop]; exact h
      rcases List.mem_append.1 h2 with h3 | h3
      · exact .inl h3
      · exact .inr (.inr h3)
theorem GoodG.new {l : List AgeD} {d f : Int} (h : GoodG l) (hd : d ≤ 8) : GoodG (newK l d f) := by
  unfold newK
  split
  · next ho =>
    refine ⟨?_, fun x hx => ?_⟩
    · simp only [newOk, Bool.and_eq_true] at ho
      exact ho.2
    · rcases insG_mem.1 hx with rfl | hx
      · exact hd
      · exact h.2 x hx
  · exact h
end Go.Proofs.YtpfepcjbhchpcaaGreat
namespace Go.Proofs.YtpfepcjbhchpcaaGreat
open Go.RowKit
set_option maxRecDepth 100000
set_option linter.unusedSimpArgs false
set_option linter.unusedVariables false

/-- A valid list of versions. -/
structure VP (l : List AgeD) : Prop where
  asc : l.Pairwise (fun x y => x.a < y.a)
  fit : ∀ x ∈ l, 1 ≤ x.a ∧ x.a ≤ 60 ∧ (x.b = 0 ∨ ∃ y ∈ l, y.a = x.b ∧ y.a < x.a)
  len : l.length ≤ 16
theorem has_iff {l : List AgeD} {d : Int} : hasG l d = true ↔ ∃ y ∈ l, y.a = d := by
  unfold hasG ageI
  rw [decide_eq_true_iff, List.findIdx_lt_length]
  simp
theorem has_no {l : List AgeD} {d : Int} (h : ∀ y ∈ l, y.a ≠ d) : hasG l d = false := by
  rw [Bool.eq_false_iff]
  intro h2
  obtain ⟨y, hy, e⟩ := has_iff.1 h2
  exact h y hy e
theorem asc_lt {l : List AgeD} (h : l.Pairwise (fun x y => x.a < y.a)) {i j : Nat} (hi : i < l.length) (hj : j < l.length) (hij : i < j) : (l[i]).a < (l[j]).a := List.pairwise_iff_getElem.1 h i j hi hj hij
theorem asc_idx {l : List AgeD} (h : l.Pairwise (fun x y => x.a < y.a)) {i j : Nat} (hi : i < l.length) (hj : j < l.length) (hlt : (l[i]).a < (l[j]).a) : i < j := by
  rcases Nat.lt_trichotomy i j with h1 | h1 | h1
  · exact h1
  · subst h1
    omega
  · have := asc_lt h hj hi h1
    omega
theorem rise_asc {l : List AgeD} (h : riseG l = true) : l.Pairwise (fun x y => x.a < y.a) := by
  have h1 := of_decide_eq_true h
  rw [List.pairwise_iff_getElem]
  intro i j hi hj hij
  obtain ⟨n, rfl⟩ : ∃ n, j = i + 1 + n := ⟨j - (i + 1), by omega⟩
  clear hij
  induction n with
  | zero => exact h1 i (by omega)
  | succ n ih =>
    have h2 := ih (by omega)
    have h3 := h1 (i + 1 + n) (by omega)
    exact Int.lt_trans h2 h3
theorem gasc_rise {l : List AgeD} (h : l.Pairwise (fun x y => x.a < y.a)) : riseG l = true := decide_eq_true (fun i hi => asc_lt h (by omega) (by omega) (by omega))
theorem ok_vp {l : List AgeD} (h : agesOkB l = true) : VP l := by
  simp only [agesOkB, Bool.and_eq_true, decide_eq_true_iff] at h
  obtain ⟨⟨h1, h2⟩, h3⟩ := h
  have ha := rise_asc h2
  refine ⟨ha, fun x hx => ?_, h3⟩
  obtain ⟨i, hi, rfl⟩ := List.getElem_of_mem hx
  have hf := h1 i hi
  rw [gfit_at hi] at hf
  simp only [idG, parGB, Bool.and_eq_true, Bool.or_eq_true, decide_eq_true_iff, beq_iff_eq] at hf
  obtain ⟨⟨h4, h5⟩, h6⟩ := hf
  refine ⟨h4, h5, ?_⟩
  rcases h6 with h6 | h6
  · exact .inl h6
  · obtain ⟨y, hy, he⟩ := has_iff.1 h6
    obtain ⟨k, hk, rfl⟩ := List.getElem_of_mem hy
    have hk' : k < i := by simp at hk; omega
    rw [List.getElem_take] at he
    refine .inr ⟨l[k], List.getElem_mem _, he, asc_lt ha (by omega) hi hk'⟩
theorem vp_ok {l : List AgeD} (h : VP l) : agesOkB l = true := by
  simp only [agesOkB, Bool.and_eq_true, decide_eq_true_iff]
  refine ⟨⟨fun i hi => ?_, gasc_rise h.asc⟩, h.len⟩
  rw [gfit_at hi]
  obtain ⟨h1, h2, h3⟩ := h.fit _ (List.getElem_mem hi)
  simp only [idG, parGB, Bool.and_eq_true, Bool.or_eq_true, decide_eq_true_iff, beq_iff_eq]
  refine ⟨⟨h1, h2⟩, ?_⟩
  rcases h3 with h3 | ⟨y, hy, he, hlt⟩
  · exact .inl h3
  · refine .inr (has_iff.2 ⟨y, ?_, he⟩)
    obtain ⟨k, hk, rfl⟩ := List.getElem_of_mem hy
    have hki := asc_idx h.asc hk hi hlt
    rw [List.mem_take_iff_getElem]
    exact ⟨k, by omega, rfl⟩
theorem vp_iff {l : List AgeD} : agesOkB l = true ↔ VP l := ⟨ok_vp, vp_ok⟩
end Go.Proofs.YtpfepcjbhchpcaaGreat
namespace Go.Proofs.YtpfepcjbhchpcaaGreat
open Go.RowKit
set_option maxRecDepth 100000
set_option linter.unusedSimpArgs false
set_option linter.unusedVariables false

theorem less_iff (x y : KeyD) : lessK x y = true ↔ (x.a < y.a ∨ (x.a = y.a ∧ x.b < y.b)) := by
  simp only [lessK, lessB]
  by_cases h : x.a = y.a
  · simp [h]
  · simp [h]
theorem spot_iff (x y : KeyD) : spotK x y = true ↔ (x.a = y.a ∧ x.b = y.b) := by simp [spotK, spotB]
theorem spotB_iff (a b c d : Int) : spotB a b c d = true ↔ (a = c ∧ b = d) := by simp [spotB]
theorem less_trans {x y z : KeyD} (h : lessK x y = true) (k : lessK y z = true) : lessK x z = true := by
  rw [less_iff] at *
  omega
theorem less_tri {x y : KeyD} (h : lessK y x = false) (k : spotK y x = false) : lessK x y = true := by
  have h' : ¬ lessK y x = true := by rw [h]; simp
  have k' : ¬ spotK y x = true := by rw [k]; simp
  rw [less_iff] at *
  rw [spot_iff] at k'
  omega
/-- Ascending. -/
abbrev Asc (l : List KeyD) : Prop := l.Pairwise (fun x y => lessK x y = true)
theorem place_take {l : List KeyD} {k x : KeyD} (h : x ∈ l.take (placeK l k)) : lessK x k = true := by
  obtain ⟨i, hi, rfl⟩ := List.mem_take_iff_getElem.1 h
  have := List.not_of_lt_findIdx (show i < l.findIdx (fun x => !lessK x k) by unfold placeK at hi; omega)
  simpa using this
theorem place_drop {l : List KeyD} {k y : KeyD} (ha : Asc l) (h : y ∈ l.drop (placeK l k)) : lessK y k = false := by
  obtain ⟨i, hi, rfl⟩ := List.mem_drop_iff_getElem.1 h
  have hlt : placeK l k < l.length := by omega
  have h0 : lessK l[placeK l k] k = false := by
    have : (!lessK l[placeK l k] k) = true := List.findIdx_getElem (p := fun x => !lessK x k) (xs := l) (w := hlt)
    simpa using this
  by_cases hi0 : i = 0
  · subst hi0; simpa using h0
  · have h1 : lessK l[placeK l k] l[placeK l k + i] = true := List.pairwise_iff_getElem.1 ha _ _ hlt (by omega) (by omega)
    cases hc : lessK l[placeK l k + i] k with
    | false => rfl
    | true => rw [less_trans h1 hc] at h0; cases h0
theorem Asc.put {l : List KeyD} (h : Asc l) (k : KeyD) : Asc (putK l k) := by
  have hs : Asc (l.take (placeK l k) ++ l.drop (placeK l k)) := by rw [List.take_append_drop]; exact h
  rw [put_eq]
  obtain ⟨h1, h2, h3⟩ := List.pairwise_append.1 hs
  refine List.pairwise_append.2 ⟨h1, List.pairwise_cons.2 ⟨fun y hy => ?_, h2.filter _⟩, fun x hx y hy => ?_⟩
  · obtain ⟨hy1, hy2⟩ := List.mem_filter.1 hy
    exact less_tri (place_drop h hy1) (by simpa using hy2)
  · rcases List.mem_cons.1 hy with rfl | hy
    · exact place_take hx
    · exact h3 x hx y (List.mem_filter.1 hy).1
theorem ok_put {l : List KeyD} {k : KeyD} (h : l.all okK = true) (hk : okK k = true) : (putK l k).all okK = true := by
  rw [List.all_eq_true] at *
  intro x hx
  rw [put_eq] at hx
  rcases List.mem_append.1 hx with hx | hx
  · exact h x (List.mem_of_mem_take hx)
  · rcases List.mem_cons.1 hx with rfl | hx
    · exact hk
    · exact h x (List.mem_of_mem_drop (List.mem_filter.1 hx).1)
theorem at_mem {l : List KeyD} {p q : Int} {k : KeyD} (h : atK l p q = some k) : k ∈ l ∧ k.a = p ∧ k.b = q := by
  have h1 := List.mem_of_find?_eq_some h
  have h2 := List.find?_some h
  exact ⟨h1, (spotB_iff _ _ _ _).1 h2⟩
theorem at_none {l : List KeyD} {p q : Int} (h : atK l p q = none) : ∀ k ∈ l, ¬ (k.a = p ∧ k.b = q) := by
  intro k hk
  have := List.find?_eq_none.1 h k hk
  rw [spotB_iff] at this
  exact this
theorem at_uniq {l : List KeyD} (h : Asc l) {k : KeyD} (hk : k ∈ l) : atK l k.a k.b = some k := by
  induction l with
  | nil => simp at hk
  | cons x t ih =>
    obtain ⟨h1, h2⟩ := List.pairwise_cons.1 h
    unfold atK
    rw [List.find?_cons]
    rcases List.mem_cons.1 hk with rfl | hk
    · rw [(spotB_iff _ _ _ _).2 ⟨rfl, rfl⟩]
    · have hf : spotB x.a x.b k.a k.b = false := less_spot (h1 k hk)
      rw [hf]
      exact ih h2 hk
theorem at_put (l : List KeyD) (k : KeyD) (p q : Int) : atK (putK l k) p q = if k.a = p ∧ k.b = q then some k else atK l p q := by
  have hl : atK l p q = atK (l.take (placeK l k) ++ l.drop (placeK l k)) p q := by rw [List.take_append_drop]
  rw [put_eq]
  unfold atK at *
  rw [List.find?_append, List.find?_cons]
  by_cases h : k.a = p ∧ k.b = q
  · rw [if_pos h, (spotB_iff _ _ _ _).2 h]
    have : (l.take (placeK l k)).find? (fun x => spotB x.a x.b p q) = none := by
      rw [List.find?_eq_none]
      intro x hx
      have h1 := less_spot (place_take hx)
      obtain ⟨rfl, rfl⟩ := h
      have : spotB x.a x.b k.a k.b = false := h1
      rw [this]; simp
    rw [this]; rfl
  · rw [if_neg h, hl, List.find?_append]
    have hf : spotB k.a k.b p q = false := by
      cases hc : spotB k.a k.b p q with
      | false => rfl
      | true => exact absurd ((spotB_iff _ _ _ _).1 hc) h
    rw [hf, List.find?_filter]
    refine congrArg _ (congrArg (fun f => List.find? f _) ?_)
    funext x
    cases hx : spotB x.a x.b p q with
    | false => simp
    | true =>
      have : spotK x k = false := by
        cases hc : spotK x k with
        | false => rfl
        | true =>
          have h1 := (spot_iff _ _).1 hc
          have h2 := (spotB_iff _ _ _ _).1 hx
          exact absurd ⟨h1.1.symm.trans h2.1, h1.2.symm.trans h2.2⟩ h
      simp [this]
theorem Asc.merge {a b : List KeyD} (h : Asc a) : Asc (mergeK a b) := by
  unfold mergeK
  induction b generalizing a with
  | nil => exact h
  | cons k b ih => exact ih (h.put k)
theorem ok_merge {a b : List KeyD} (h : a.all okK = true) (hb : b.all okK = true) : (mergeK a b).all okK = true := by
  unfold mergeK
  induction b generalizing a with
  | nil => exact h
  | cons k b ih =>
    simp only [List.all_cons, Bool.and_eq_true] at hb
    exact ih (ok_put h hb.1) hb.2
theorem merge_miss {a b : List KeyD} {p q : Int} (h : ∀ k ∈ b, ¬ (k.a = p ∧ k.b = q)) : atK (mergeK a b) p q = atK a p q := by
  unfold mergeK
  induction b generalizing a with
  | nil => rfl
  | cons k b ih =>
    rw [List.foldl_cons, ih (fun x hx => h x (by simp [hx])), at_put, if_neg (h k (by simp))]
theorem merge_hit {a b : List KeyD} (hb : Asc b) {y : KeyD} (hy : y ∈ b) : atK (mergeK a b) y.a y.b = some y := by
  unfold mergeK
  induction b generalizing a with
  | nil => simp at hy
  | cons k b ih =>
    obtain ⟨h1, h2⟩ := List.pairwise_cons.1 hb
    rw [List.foldl_cons]
    rcases List.mem_cons.1 hy with rfl | hy
    · have := merge_miss (a := putK a y) (b := b) (p := y.a) (q := y.b) (fun x hx he => by
        have := less_spot (h1 x hx)
        rw [spot_comm] at this
        have h3 : spotK x y = true := (spot_iff _ _).2 he
        rw [h3] at this; cases this)
      unfold mergeK at this
      rw [this, at_put, if_pos ⟨rfl, rfl⟩]
    · exact ih h2 hy
theorem drop_kind {l : List KeyD} {k : KeyD} (h : k ∈ dropK l) : k.c ≠ 0 := by
  have := (List.mem_filter.1 h).2
  simpa using this
end Go.Proofs.YtpfepcjbhchpcaaGreat
namespace Go.Proofs.YtpfepcjbhchpcaaGreat
open Go.RowKit
set_option maxRecDepth 100000
set_option linter.unusedSimpArgs false
set_option linter.unusedVariables false

theorem asc_of {l : List KeyD} (h : ∀ i (h : i + 1 < l.length), lessK l[i] l[i + 1] = true) : Asc l := by
  induction l with
  | nil => exact .nil
  | cons x t ih =>
    have ht : Asc t := ih (fun i hi => by have := h (i + 1) (by simp; omega); simpa using this)
    refine List.pairwise_cons.2 ⟨fun y hy => ?_, ht⟩
    cases t with
    | nil => simp at hy
    | cons z t' =>
      have h0 : lessK x z = true := by have := h 0 (by simp); simpa using this
      rcases List.mem_cons.1 hy with rfl | hy
      · exact h0
      · exact less_trans h0 ((List.pairwise_cons.1 ht).1 y hy)
theorem asc_rise {l : List KeyD} (h : riseB l = true) : Asc l := asc_of (fun i hi => (of_decide_eq_true h) i (by omega))
/-- Every set ascends, every key is valid. -/
def FineN (ns : List (List KeyD)) : Prop := ∀ l ∈ ns, Asc l ∧ l.all okK = true
theorem fine_of {ns : List (List KeyD)} (h : nodeOkB ns = true) : FineN ns := by
  intro l hl
  simp only [nodeOkB, Bool.and_eq_true, List.all_eq_true] at h
  have h1 := h.1.1 l hl
  simp only [okL, setOkB, Bool.and_eq_true] at h1
  exact ⟨asc_rise h1.1.1.2, h1.1.1.1⟩
theorem at_merge {a b : List KeyD} (hb : Asc b) (p q : Int) : atK (mergeK a b) p q = (atK b p q).or (atK a p q) := by
  cases h : atK b p q with
  | none => rw [merge_miss (at_none h)]; rfl
  | some y =>
    obtain ⟨h1, h2, h3⟩ := at_mem h
    have := merge_hit (a := a) hb h1
    rw [h2, h3] at this
    rw [this]; rfl
def newest : List (List KeyD) → Int → Int → Option KeyD
  | [], _, _ => none
  | l :: r, p, q => (atK l p q).or (newest r p q)
theorem newest_app (r s : List (List KeyD)) (p q : Int) : newest (r ++ s) p q = (newest r p q).or (newest s p q) := by
  induction r with
  | nil => rfl
  | cons l r ih => simp only [List.cons_append, newest, ih, Option.or_assoc]
theorem atRev_new (r : List (List KeyD)) (p q : Int) : atRev r p q = pickO (newest r p q) := by
  induction r with
  | nil => rfl
  | cons l r ih =>
    unfold atRev newest
    cases atK l p q with
    | none => simpa using ih
    | some x => rfl
theorem at_fold {ns : List (List KeyD)} (h : FineN ns) (a : List KeyD) (p q : Int) : atK (ns.foldl mergeK a) p q = (newest ns.reverse p q).or (atK a p q) := by
  induction ns generalizing a with
  | nil => rfl
  | cons l ns ih =>
    rw [List.foldl_cons, ih (fun x hx => h x (by simp [hx])), at_merge (h l (by simp)).1, List.reverse_cons, newest_app, Option.or_assoc]
    simp [newest]
theorem fold_asc {ns : List (List KeyD)} (a : List KeyD) (ha : Asc a) : Asc (ns.foldl mergeK a) := by
  induction ns generalizing a with
  | nil => exact ha
  | cons l ns ih => exact ih _ ha.merge
theorem fold_ok {ns : List (List KeyD)} (h : FineN ns) (a : List KeyD) (ha : a.all okK = true) : (ns.foldl mergeK a).all okK = true := by
  induction ns generalizing a with
  | nil => exact ha
  | cons l ns ih => exact ih (fun x hx => h x (by simp [hx])) _ (ok_merge ha (h l (by simp)).2)
theorem nodeAt_new (ns : List (List KeyD)) (p q : Int) : nodeAtK ns p q = pickO (newest ns.reverse p q) := atRev_new _ _ _
theorem drop_asc {l : List KeyD} (h : Asc l) : Asc (dropK l) := h.sublist List.filter_sublist
theorem drop_ok {l : List KeyD} (h : l.all okK = true) : (dropK l).all okK = true := by
  rw [List.all_eq_true] at h ⊢
  exact fun x hx => h x (List.mem_filter.1 hx).1
theorem at_drop {l : List KeyD} (h : Asc l) (p q : Int) : atK (dropK l) p q = pickO (atK l p q) := by
  cases hk : atK l p q with
  | none =>
    cases hd : atK (dropK l) p q with
    | none => rfl
    | some y =>
      obtain ⟨h1, h2⟩ := at_mem hd
      exact absurd h2 (at_none hk y (List.mem_filter.1 h1).1)
  | some k =>
    obtain ⟨h1, h2, h3⟩ := at_mem hk
    show _ = if k.c = 0 then none else some k
    by_cases h0 : k.c = 0
    · rw [if_pos h0]
      cases hd : atK (dropK l) p q with
      | none => rfl
      | some y =>
        obtain ⟨h4, h5, h6⟩ := at_mem hd
        have := at_uniq h (List.mem_filter.1 h4).1
        rw [h5, h6, hk] at this
        injection this with this
        subst this
        exact absurd h0 (drop_kind h4)
    · rw [if_neg h0]
      have hm : k ∈ dropK l := List.mem_filter.2 ⟨h1, by simpa using h0⟩
      have := at_uniq (drop_asc h) hm
      rw [h2, h3] at this
      exact this
theorem keys_asc (ns : List (List KeyD)) : Asc (nodeKeysK ns) := drop_asc (fold_asc _ .nil)
theorem keys_ok {ns : List (List KeyD)} (h : FineN ns) : (nodeKeysK ns).all okK = true := drop_ok (fold_ok h _ rfl)
theorem at_keys {ns : List (List KeyD)} (h : FineN ns) (p q : Int) : atK (nodeKeysK ns) p q = nodeAtK ns p q := by
  unfold nodeKeysK
  rw [at_drop (fold_asc _ .nil), at_fold h, nodeAt_new]
  cases newest ns.reverse p q <;> rfl
theorem key_there {ns : List (List KeyD)} (h : FineN ns) {y : KeyD} (hy : y ∈ nodeKeysK ns) : nodeAtK ns y.a y.b = some y := by
  rw [← at_keys h]
  exact at_uniq (keys_asc ns) hy
end Go.Proofs.YtpfepcjbhchpcaaGreat
namespace Go.Proofs.YtpfepcjbhchpcaaGreat
open Go.RowKit
set_option maxRecDepth 100000
set_option linter.unusedSimpArgs false
set_option linter.unusedVariables false
theorem spot_ok {x : KeyD} (h : okK x = true) : 0 ≤ x.a ∧ x.a ≤ 15 ∧ 1 ≤ x.b ∧ x.b ≤ 60 ∧ spotI x.a x.b = 64 * x.a + x.b := by
  unfold okK keyOkB at h
  simp only [Bool.and_eq_true, decide_eq_true_iff] at h
  obtain ⟨⟨⟨⟨h1, h2⟩, h3⟩, h4⟩, _⟩ := h
  refine ⟨h1, h2, h3, h4, ?_⟩
  unfold spotI
  rw [show wrap64 (64 * x.a) = 64 * x.a by unfold wrap64; omega]
  unfold wrap64
  omega
theorem fit_at {lo : List Int} {ts : List NodeD} (h : TreeP lo ts) {i : Nat} (hi : i < ts.length) : FitP lo i ts[i] := of_decide_eq_true (by have := h.2.2.2.2.2.1 i hi; rw [getD_node hi] at this; exact this)
end Go.Proofs.YtpfepcjbhchpcaaGreat
namespace Go.Proofs.YtpfepcjbhchpcaaGreat
open Go.RowKit
set_option maxRecDepth 100000
set_option linter.unusedSimpArgs false
set_option linter.unusedVariables false

theorem newest_in {r : List (List KeyD)} {p q : Int} {x : KeyD} (h : newest r p q = some x) : ∃ l ∈ r, x ∈ l := by
  induction r with
  | nil => cases h
  | cons l r ih =>
    unfold newest at h
    cases ha : atK l p q with
    | some y =>
      rw [ha] at h
      simp at h
      subst h
      exact ⟨l, by simp, (at_mem ha).1⟩
    | none =>
      rw [ha] at h
      simp at h
      obtain ⟨l', h1, h2⟩ := ih h
      exact ⟨l', by simp [h1], h2⟩
theorem keys_in {ns : NodeD} (h : FineN ns) {x : KeyD} (hx : x ∈ nodeKeysK ns) : ∃ l ∈ ns, x ∈ l := by
  have h1 := key_there h hx
  rw [nodeAt_new] at h1
  have h2 : newest ns.reverse x.a x.b = some x := by
    cases hn : newest ns.reverse x.a x.b with
    | none => rw [hn] at h1; cases h1
    | some y =>
      rw [hn] at h1
      unfold pickO at h1
      simp only at h1
      split at h1
      · cases h1
      · exact h1
  obtain ⟨l, h3, h4⟩ := newest_in h2
  exact ⟨l, List.mem_reverse.1 h3, h4⟩
theorem keys_okm {ns : NodeD} (h : FineN ns) {x : KeyD} (hx : x ∈ nodeKeysK ns) : okK x = true := List.all_eq_true.1 (keys_ok h) x hx
/-- A node with its lower bound, below v. -/
def NodeQ (l : Int) (n : NodeD) (v : Int) : Prop := l < v ∧ nodeOkB n = true ∧ (l = 0 ∨ 0 < (nodeKeysK n).length) ∧ ∀ s ∈ n, ∀ y ∈ s, l ≤ spotI y.a y.b ∧ spotI y.a y.b < v
def topC : List (Int × NodeD) → Int → Int
  | [], u => u
  | p :: _, _ => p.1
def Chain : List (Int × NodeD) → Int → Prop
  | [], _ => True
  | p :: r, u => NodeQ p.1 p.2 (topC r u) ∧ Chain r u
theorem NodeQ.up {l : Int} {n : NodeD} {u v : Int} (h : NodeQ l n u) (hv : u ≤ v) : NodeQ l n v := ⟨by have := h.1; omega, h.2.1, h.2.2.1, fun s hs y hy => ⟨(h.2.2.2 s hs y hy).1, by have := (h.2.2.2 s hs y hy).2; omega⟩⟩
def keysC (r : List (Int × NodeD)) : List KeyD := treeKeysK (r.map (·.2))
theorem keysC_cons (p : Int × NodeD) (r : List (Int × NodeD)) : keysC (p :: r) = nodeKeysK p.2 ++ keysC r := rfl
theorem NodeQ.key {l : Int} {n : NodeD} {v : Int} (h : NodeQ l n v) {y : KeyD} (hy : y ∈ nodeKeysK n) : l ≤ spotI y.a y.b ∧ spotI y.a y.b < v ∧ okK y = true ∧ y.c ≠ 0 := by
  obtain ⟨s, hs, hys⟩ := keys_in (fine_of h.2.1) hy
  have := h.2.2.2 s hs y hys
  exact ⟨this.1, this.2, keys_okm (fine_of h.2.1) hy, drop_kind hy⟩
theorem chain_top {r : List (Int × NodeD)} {u : Int} (h : Chain r u) : topC r u ≤ u := by
  induction r with
  | nil => exact Int.le_refl _
  | cons p r ih =>
    have h1 := h.1.1
    have h2 := ih h.2
    show p.1 ≤ u
    omega
theorem chain_key {r : List (Int × NodeD)} {u : Int} (h : Chain r u) {y : KeyD} (hy : y ∈ keysC r) : topC r u ≤ spotI y.a y.b ∧ spotI y.a y.b < u ∧ okK y = true ∧ y.c ≠ 0 := by
  induction r with
  | nil => cases hy
  | cons p r ih =>
    rw [keysC_cons, List.mem_append] at hy
    have h1 := h.1.1
    have h2 := chain_top h.2
    rcases hy with hy | hy
    · have := h.1.key hy
      exact ⟨this.1, by omega, this.2.2⟩
    · have := ih h.2 hy
      exact ⟨by show p.1 ≤ _; omega, this.2⟩
theorem less_of_spot {x y : KeyD} (hx : okK x = true) (hy : okK y = true) (h : spotI x.a x.b < spotI y.a y.b) : lessK x y = true := by
  have h1 := spot_ok hx
  have h2 := spot_ok hy
  rw [less_iff]
  omega
theorem asc_app {a b : List KeyD} (ha : Asc a) (hb : Asc b) (h : ∀ x ∈ a, ∀ y ∈ b, lessK x y = true) : Asc (a ++ b) := List.pairwise_append.2 ⟨ha, hb, h⟩
theorem chain_asc {r : List (Int × NodeD)} {u : Int} (h : Chain r u) : Asc (keysC r) := by
  induction r with
  | nil => exact List.Pairwise.nil
  | cons p r ih =>
    rw [keysC_cons]
    refine asc_app (keys_asc _) (ih h.2) (fun x hx y hy => ?_)
    have h1 := h.1.key hx
    have h2 := chain_key h.2 hy
    exact less_of_spot h1.2.2.1 h2.2.2.1 (by omega)
end Go.Proofs.YtpfepcjbhchpcaaGreat
namespace Go.Proofs.YtpfepcjbhchpcaaGreat
open Go.RowKit
set_option maxRecDepth 100000
set_option linter.unusedSimpArgs false
set_option linter.unusedVariables false

theorem chain_ix (r : List (Int × NodeD)) (u : Int) : Chain r u ↔ ∀ i (h : i < r.length), NodeQ (r[i]).1 (r[i]).2 (topC (r.drop (i + 1)) u) := by
  induction r with
  | nil => exact ⟨fun _ i h => absurd h (by simp), fun _ => trivial⟩
  | cons p r ih =>
    constructor
    · rintro ⟨h1, h2⟩ i hi
      cases i with
      | zero => exact h1
      | succ i => exact ih.1 h2 i (by simpa using hi)
    · intro h
      exact ⟨h 0 (by simp), ih.2 (fun i hi => h (i + 1) (by simpa using hi))⟩
theorem zip_len {lo : List Int} {ts : List NodeD} (hl : lo.length = ts.length) : (lo.zip ts).length = ts.length := by simp [hl]
theorem top_zip {lo : List Int} {ts : List NodeD} (hl : lo.length = ts.length) (i : Nat) (u : Int) : topC ((lo.zip ts).drop i) u = if i < lo.length then lo.getD i 0 else u := by
  by_cases h : i < lo.length
  · have hz : i < (lo.zip ts).length := by rw [zip_len hl]; omega
    rw [if_pos h, List.drop_eq_getElem_cons hz, getD_at h]
    show ((lo.zip ts)[i]).1 = _
    rw [List.getElem_zip]
  · rw [if_neg h, List.drop_of_length_le (by rw [zip_len hl]; omega)]
    rfl
theorem zip_key {lo : List Int} {ts : List NodeD} (hl : lo.length = ts.length) : keysC (lo.zip ts) = treeKeysK ts := by
  unfold keysC
  rw [show (lo.zip ts).map (·.2) = ts from List.map_snd_zip (by omega)]
theorem spot_lim {y : KeyD} (h : okK y = true) : 1 ≤ spotI y.a y.b ∧ spotI y.a y.b < 2000 := by
  have := spot_ok h
  omega
theorem chain_of {lo : List Int} {ts : List NodeD} (h : TreeP lo ts) : Chain (lo.zip ts) 2000 := by
  obtain ⟨h1, h2, h3, h4, h5, h6, h7⟩ := h
  rw [chain_ix]
  intro i hi
  rw [zip_len h3] at hi
  have hi' : i < lo.length := by omega
  simp only [List.getElem_zip]
  have hf := fit_at ⟨h1, h2, h3, h4, h5, h6, h7⟩ hi
  have hfn := fine_of hf.1
  rw [top_zip h3]
  have hok : ∀ s ∈ ts[i], ∀ y ∈ s, okK y = true := fun s hs y hy => List.all_eq_true.1 (hfn s hs).2 y hy
  have hlo : i = 0 → lo[i] = 0 := by
    intro e
    subst e
    rw [← getD_at hi']
    exact h4
  refine ⟨?_, hf.1, ?_, fun s hs y hy => ?_⟩
  · by_cases hj : i + 1 < lo.length
    · rw [if_pos hj, ← getD_at hi']
      exact h5 i (by omega)
    · rw [if_neg hj]
      rcases hf.2.1 with e | e
      · rw [hlo e]; decide
      · obtain ⟨y, hy⟩ := List.exists_mem_of_length_pos e
        obtain ⟨s, hs, hys⟩ := keys_in hfn hy
        have a1 := (hf.2.2 s hs y hys).1
        have a2 := spot_lim (hok s hs y hys)
        rw [getD_at hi'] at a1
        omega
  · rcases hf.2.1 with e | e
    · exact .inl (hlo e)
    · exact .inr e
  · have a1 := hf.2.2 s hs y hy
    have a2 := spot_lim (hok s hs y hy)
    refine ⟨by rw [← getD_at hi']; exact a1.1, ?_⟩
    by_cases hj : i + 1 < lo.length
    · rw [if_pos hj]; exact a1.2 hj
    · rw [if_neg hj]; exact a2.2
end Go.Proofs.YtpfepcjbhchpcaaGreat
namespace Go.Proofs.YtpfepcjbhchpcaaGreat
open Go.RowKit
set_option maxRecDepth 100000
set_option linter.unusedSimpArgs false
set_option linter.unusedVariables false

theorem tree_asc {lo : List Int} {ts : List NodeD} (h : treeOkB lo ts = true) : Asc (treeKeysK ts) ∧ ∀ y ∈ treeKeysK ts, okK y = true ∧ y.c ≠ 0 := by
  have hp : TreeP lo ts := of_decide_eq_true h
  have hc := chain_of hp
  rw [← zip_key hp.2.2.1]
  exact ⟨chain_asc hc, fun y hy => (chain_key hc hy).2.2⟩
end Go.Proofs.YtpfepcjbhchpcaaGreat
namespace Go.Proofs.YtpfepcjbhchpcaaGreat
open Go.RowKit
set_option maxRecDepth 100000
set_option linter.unusedSimpArgs false
set_option linter.unusedVariables false

def nearB (path : List Int) (o : Option KeyD) (k : KeyD) : Bool := decide (k.b ∈ path) && (match o with | none => true | some x => decide (x.b < k.b))
def nearS (path : List Int) (o : Option KeyD) (k : KeyD) : Option KeyD := if nearB path o k then some k else o
/-- The key with the greatest version of the path, the first of these. -/
def nearK (l : List KeyD) (path : List Int) : Option KeyD := l.foldl (nearS path) none
theorem near_go (path : List Int) : ∀ (l : List KeyD) (o : Option KeyD), (∀ y, o = some y → y.b ∈ path) →
    (l.foldl (nearS path) o = none → o = none ∧ ∀ k ∈ l, k.b ∉ path) ∧
    (∀ x, l.foldl (nearS path) o = some x → (x ∈ l ∨ o = some x) ∧ x.b ∈ path ∧ (∀ k ∈ l, k.b ∈ path → k.b ≤ x.b) ∧ ∀ y, o = some y → y.b ≤ x.b) := by
  intro l
  induction l with
  | nil =>
    intro o ho
    refine ⟨fun h => ⟨h, fun k hk => by simp at hk⟩, fun x hx => ?_⟩
    have hx2 : o = some x := hx
    refine ⟨.inr hx2, ho x hx2, fun k hk => by simp at hk, fun y hy => ?_⟩
    rw [hx2] at hy
    injection hy with hy
    subst hy
    exact Int.le_refl _
  | cons k t ih =>
    intro o ho
    rw [List.foldl_cons]
    cases hb : nearB path o k
    · have he : nearS path o k = o := by rw [nearS, hb]; rfl
      rw [he]
      obtain ⟨h1, h2⟩ := ih o ho
      have hk : k.b ∈ path → ∃ y, o = some y ∧ k.b ≤ y.b := by
        intro hm
        unfold nearB at hb
        rw [decide_eq_true hm, Bool.true_and] at hb
        cases o with
        | none => simp at hb
        | some y => exact ⟨y, rfl, by simpa using hb⟩
      refine ⟨fun h => ?_, fun x hx => ?_⟩
      · obtain ⟨h3, h4⟩ := h1 h
        refine ⟨h3, fun u hu => ?_⟩
        rcases List.mem_cons.1 hu with rfl | hu
        · intro hm
          obtain ⟨y, hy, _⟩ := hk hm
          rw [h3] at hy
          cases hy
        · exact h4 u hu
      · obtain ⟨h3, h4, h5, h6⟩ := h2 x hx
        refine ⟨h3.elim (fun h => .inl (List.mem_cons_of_mem _ h)) .inr, h4, fun u hu hm => ?_, h6⟩
        rcases List.mem_cons.1 hu with rfl | hu
        · obtain ⟨y, hy, hle⟩ := hk hm
          exact Int.le_trans hle (h6 y hy)
        · exact h5 u hu hm
    · have he : nearS path o k = some k := by rw [nearS, hb]; rfl
      rw [he]
      have hb2 := hb
      unfold nearB at hb2
      rw [Bool.and_eq_true] at hb2
      have hkm : k.b ∈ path := of_decide_eq_true hb2.1
      obtain ⟨h1, h2⟩ := ih (some k) (fun y hy => by injection hy with hy; subst hy; exact hkm)
      refine ⟨fun h => ?_, fun x hx => ?_⟩
      · have := (h1 h).1
        cases this
      · obtain ⟨h3, h4, h5, h6⟩ := h2 x hx
        refine ⟨.inl ?_, h4, fun u hu hm => ?_, fun y hy => ?_⟩
        · rcases h3 with h3 | h3
          · exact List.mem_cons_of_mem _ h3
          · injection h3 with h3
            subst h3
            exact List.mem_cons_self
        · rcases List.mem_cons.1 hu with rfl | hu
          · exact h6 _ rfl
          · exact h5 u hu hm
        · have h7 := h6 k rfl
          subst hy
          have h8 : y.b < k.b := by simpa using hb2.2
          omega
theorem near_some {l : List KeyD} {path : List Int} {x : KeyD} (h : nearK l path = some x) : x ∈ l ∧ x.b ∈ path ∧ ∀ k ∈ l, k.b ∈ path → k.b ≤ x.b := by
  obtain ⟨h1, h2, h3, _⟩ := (near_go path l none (fun y hy => by cases hy)).2 x h
  exact ⟨h1.resolve_right (fun h => by cases h), h2, h3⟩
theorem near_not {l : List KeyD} {path : List Int} (h : ∀ k ∈ l, k.b ∉ path) : nearK l path = none := by
  cases hn : nearK l path with
  | none => rfl
  | some x =>
    obtain ⟨h1, h2, _⟩ := near_some hn
    exact absurd h2 (h x h1)
/-- What the model's walk up yields in a valid list. -/
def pathSGo (l : List AgeD) : Nat → Int → List Int
  | 0, _ => []
  | n + 1, d => if hasG l d then d :: pathSGo l n (parG l d) else []
theorem pathS_no {l : List AgeD} {d : Int} (h : hasG l d = false) (n : Nat) : pathSGo l n d = [] := by
  cases n with
  | zero => rfl
  | succ n => rw [pathSGo, h]; rfl
theorem pathS_yes {l : List AgeD} {d : Int} (h : hasG l d = true) (n : Nat) : pathSGo l (n + 1) d = d :: pathSGo l n (parG l d) := by
  rw [pathSGo, h]; rfl
theorem vp_zero {l : List AgeD} (h : VP l) : hasG l 0 = false := has_no (fun y hy => by have := h.fit y hy; omega)
theorem pathS_eq {l : List AgeD} (h : VP l) : ∀ (n : Nat) (d : Int), pathSGo l n d = pathGo l n d := by
  intro n
  induction n with
  | zero => intro d; rfl
  | succ n ih =>
    intro d
    cases hh : hasG l d
    · rw [pathS_no hh, pathGo_no hh]
    · rw [pathS_yes hh, pathGo_yes hh, ih]
      by_cases h0 : parG l d = 0
      · rw [h0, pathGo_no (vp_zero h)]
        rfl
      · have : (parG l d == 0) = false := by simpa using h0
        rw [this]
        rfl
end Go.Proofs.YtpfepcjbhchpcaaGreat
namespace Go.Proofs.YtpfepcjbhchpcaaGreat
open Go.RowKit
set_option maxRecDepth 100000
set_option linter.unusedSimpArgs false
set_option linter.unusedVariables false

def aboveK (d : PoolD) (b g : Int) : Option KeyD := nearK (keysOfK d.ts b) (pathK d.ag g).tail
end Go.Proofs.YtpfepcjbhchpcaaGreat
namespace Go.Proofs.YtpfepcjbhchpcaaGreat
open Go.RowKit
set_option maxRecDepth 100000
set_option linter.unusedSimpArgs false
set_option linter.unusedVariables false

/-- The volume v needs the mapping at the position of k. -/
def needB (d : PoolD) (k : KeyD) (v : VolD) : Bool := decide (k.a < v.c) && ((nearK (keysOfK d.ts k.a) (pathK d.ag v.b)).isSome && (((nearK (keysOfK d.ts k.a) (pathK d.ag v.b)).getD zK).b == k.b))
def anyB (d : PoolD) (k : KeyD) : Bool := d.vo.any (needB d k)
/-- The one child of a version that no volume has. -/
def kidB (d : PoolD) (g : Int) : Bool := idleP g d.vo && decide ((kidsK d.ag g).length = 1)
def kidI (d : PoolD) (g : Int) : Int := (kidsK d.ag g).headD 0
def heirB (d : PoolD) (k : KeyD) : Bool := kidB d k.b && !(treeAtK d.lo d.ts k.a (kidI d k.b)).isSome
/-- The first step that applies to a key. -/
def stepK (d : PoolD) (k : KeyD) : Int :=
  if anyB d k then (if decide (k.c = 2) && !(aboveK d k.a k.b).isSome then 2 else if (decide (k.c = 1) || decide (k.c = 2)) && heirB d k then 3 else 0) else 1
/-- The best step so far, and its place: what a loop over the keys keeps. -/
def bestS (f : KeyD → Int) (b : Int × Int) (n : Nat) (k : KeyD) : Int × Int := if f k ≠ 0 ∧ (b.1 = 0 ∨ f k < b.1) then (f k, (n : Int)) else b
def bestK (f : KeyD → Int) (l : List KeyD) : Nat → Int × Int
  | 0 => (0, 0)
  | n + 1 => match l[n]? with | none => bestK f l n | some k => bestS f (bestK f l n) n k
theorem best_succ {f : KeyD → Int} {l : List KeyD} {n : Nat} (h : n < l.length) : bestK f l (n + 1) = bestS f (bestK f l n) n l[n] := by
  show (match l[n]? with | none => bestK f l n | some k => bestS f (bestK f l n) n k) = _
  rw [List.getElem?_eq_getElem h]
/-- (s, i) is the best of the first n. -/
def IsBest (f : KeyD → Int) (l : List KeyD) (n : Nat) (b : Int × Int) : Prop :=
  (b = (0, 0) ∧ ∀ j (h : j < l.length), j < n → f l[j] = 0) ∨
  (∃ i, ∃ h : i < l.length, i < n ∧ b = (f l[i], (i : Int)) ∧ f l[i] ≠ 0 ∧ (∀ j (h' : j < l.length), j < n → f l[j] ≠ 0 → f l[i] ≤ f l[j]) ∧ ∀ j (h' : j < l.length), j < i → f l[j] ≠ f l[i])
theorem best_is {f : KeyD → Int} (l : List KeyD) : ∀ n, n ≤ l.length → IsBest f l n (bestK f l n) := by
  intro n
  induction n with
  | zero => exact fun _ => .inl ⟨rfl, fun j _ h => absurd h (Nat.not_lt_zero _)⟩
  | succ n ih =>
    intro hn
    have hl : n < l.length := hn
    rw [best_succ hl]
    unfold bestS
    rcases ih (by omega) with ⟨h1, h2⟩ | ⟨i, hi, hin, h1, h2, h3, h4⟩
    · rw [h1]
      by_cases hf : f l[n] = 0
      · rw [if_neg (by rintro ⟨h, _⟩; exact h hf)]
        refine .inl ⟨rfl, fun j hj hjn => ?_⟩
        by_cases e : j = n
        · subst e; exact hf
        · exact h2 j hj (by omega)
      · rw [if_pos ⟨hf, .inl rfl⟩]
        refine .inr ⟨n, hl, Nat.lt_succ_self _, rfl, hf, fun j hj hjn hne => ?_, fun j hj hjn => ?_⟩
        · by_cases e : j = n
          · subst e; exact Int.le_refl _
          · exact absurd (h2 j hj (by omega)) hne
        · rw [h2 j hj hjn]; exact fun e => hf e.symm
    · rw [h1]
      by_cases hf : f l[n] ≠ 0 ∧ (f l[i] = 0 ∨ f l[n] < f l[i])
      · rw [if_pos hf]
        have hlt : f l[n] < f l[i] := hf.2.elim (fun h => absurd h h2) id
        refine .inr ⟨n, hl, Nat.lt_succ_self _, rfl, hf.1, fun j hj hjn hne => ?_, fun j hj hjn e => ?_⟩
        · by_cases e : j = n
          · subst e; exact Int.le_refl _
          · exact Int.le_trans (Int.le_of_lt hlt) (h3 j hj (by omega) hne)
        · have hne : f l[j] ≠ 0 := by rw [e]; exact hf.1
          have := h3 j hj hjn hne
          omega
      · rw [if_neg hf]
        refine .inr ⟨i, hi, by omega, rfl, h2, fun j hj hjn hne => ?_, h4⟩
        by_cases e : j = n
        · subst e
          exact Int.not_lt.1 (fun h => hf ⟨hne, .inr h⟩)
        · exact h3 j hj (by omega) hne
theorem best_one {f : KeyD → Int} {l : List KeyD} {b c : Int × Int} (h : IsBest f l l.length b) (h' : IsBest f l l.length c) : b = c := by
  rcases h with ⟨h1, h2⟩ | ⟨i, hi, _, h1, h2, h3, h4⟩
  · rcases h' with ⟨k1, k2⟩ | ⟨j, hj, _, k1, k2, k3, k4⟩
    · rw [h1, k1]
    · exact absurd (h2 j hj hj) k2
  · rcases h' with ⟨k1, k2⟩ | ⟨j, hj, _, k1, k2, k3, k4⟩
    · exact absurd (k2 i hi hi) h2
    · have e : f l[i] = f l[j] := Int.le_antisymm (h3 j hj hj k2) (k3 i hi hi h2)
      have e2 : i = j := by
        rcases Nat.lt_trichotomy i j with h | h | h
        · exact absurd e (k4 i hi h)
        · exact h
        · exact absurd e.symm (h4 j hj h)
      subst e2
      rw [h1, k1]
/-- The version may be cut. -/
def cutB (d : PoolD) (g : Int) : Bool := idleP g d.vo && decide ((kidsK d.ag g).length ≤ 1) && !(treeKeysK d.ts).any (fun k => k.b == g)
def ageJ (d : PoolD) : Nat := d.ag.findIdx (fun a => cutB d a.a)
def ageStepK (d : PoolD) : Int × Int := if ageJ d < d.ag.length then (4, (ageJ d : Int)) else (0, 0)
def keyStepK (d : PoolD) : Int × Int := bestK (stepK d) (treeKeysK d.ts) (treeKeysK d.ts).length
def nextK (d : PoolD) : Int × Int := if poolOkB d then (if (keyStepK d).1 = 0 then ageStepK d else keyStepK d) else (0, 0)
end Go.Proofs.YtpfepcjbhchpcaaGreat
namespace Go.Proofs.YtpfepcjbhchpcaaGreat
open Go.RowKit
set_option maxRecDepth 100000
set_option linter.unusedSimpArgs false
set_option linter.unusedVariables false

/-- The first i hold what was kept of the first j of l; from j on nothing has turned. -/
structure DelIn (q : KeyD → Bool) (l m : List KeyD) (i j : Nat) : Prop where
  len : m.length = l.length
  jl : j ≤ l.length
  ij : i < j
  kept : m.take i = (l.take j).filter q
  rest : m.drop j = l.drop j
theorem all_kept {q : KeyD → Bool} {l : List KeyD} (h : ∀ j (hj : j < l.length), q l[j] = true) : l.filter q = l := by
  rw [List.filter_eq_self]
  intro x hx
  obtain ⟨j, hj, rfl⟩ := List.mem_iff_getElem.1 hx
  exact h j hj
theorem DelIn.start {q : KeyD → Bool} {l : List KeyD} {n : Nat} (hn : n < l.length) (h1 : q l[n] = false) (h2 : ∀ j (hj : j < n), q (l[j]'(by omega)) = true) : DelIn q l l n (n + 1) := by
  refine ⟨rfl, hn, Nat.lt_succ_self _, ?_, rfl⟩
  rw [List.take_succ_eq_append_getElem hn, List.filter_append]
  have e : (l.take n).filter q = l.take n := all_kept (fun j hj => by
    rw [List.getElem_take]
    rw [List.length_take] at hj
    exact h2 j (by omega))
  rw [e]
  simp [h1]
theorem DelIn.at {q : KeyD → Bool} {l m : List KeyD} {i j : Nat} (h : DelIn q l m i j) (hj : j < l.length) : m[j]'(by rw [h.len]; exact hj) = l[j] := by
  have h1 := h.rest
  have h2 : (m.drop j)[0]? = (l.drop j)[0]? := by rw [h1]
  rw [List.getElem?_drop, List.getElem?_drop, Nat.add_zero, List.getElem?_eq_getElem hj, List.getElem?_eq_getElem (by rw [h.len]; exact hj)] at h2
  exact Option.some.inj h2
theorem DelIn.drop {q : KeyD → Bool} {l m : List KeyD} {i j : Nat} (h : DelIn q l m i j) (hj : j < l.length) (hq : q l[j] = false) : DelIn q l m i (j + 1) := by
  refine ⟨h.len, hj, Nat.lt_succ_of_lt h.ij, ?_, ?_⟩
  · rw [h.kept, List.take_succ_eq_append_getElem hj, List.filter_append]
    simp [hq]
  · rw [← List.drop_drop, h.rest, List.drop_drop]
theorem DelIn.keep {q : KeyD → Bool} {l m : List KeyD} {i j : Nat} (h : DelIn q l m i j) (hj : j < l.length) (hq : q l[j] = true) : DelIn q l (m.set i l[j]) (i + 1) (j + 1) := by
  have hl := h.len
  have hij := h.ij
  refine ⟨by rw [List.length_set]; exact hl, hj, by omega, ?_, ?_⟩
  · rw [List.take_succ_eq_append_getElem (by rw [List.length_set]; omega), List.take_set_of_le (Nat.le_refl _), List.getElem_set_self, h.kept, List.take_succ_eq_append_getElem hj, List.filter_append]
    simp [hq]
  · rw [List.drop_set_of_lt (by omega), ← List.drop_drop, h.rest, List.drop_drop]
theorem DelIn.done {q : KeyD → Bool} {l m : List KeyD} {i j : Nat} (h : DelIn q l m i j) (hj : ¬ j < l.length) : m.take i = l.filter q ∧ i = (l.filter q).length ∧ i < l.length := by
  have hl := h.len
  have hij := h.ij
  have h1 := h.kept
  rw [show l.take j = l from List.take_of_length_le (by omega)] at h1
  refine ⟨h1, ?_, by have := h.jl; omega⟩
  rw [← h1, List.length_take]
  have := h.jl
  omega
theorem zero_cells (zero : Array Value) (n : Nat) : (Builtin.zeroCells zero n).toList.length = n * zero.size ∧ ((∀ v ∈ zero.toList, v.oneCell' = true) → ∀ v ∈ (Builtin.zeroCells zero n).toList, v.oneCell' = true) := by
  refine ⟨by simp [Builtin.zeroCells], fun h v hv => ?_⟩
  simp only [Builtin.zeroCells, Array.toList_map, Array.toList_range, List.mem_map, List.mem_range] at hv
  obtain ⟨i, hi, rfl⟩ := hv
  have hp : 0 < zero.size := by
    rcases Nat.eq_zero_or_pos zero.size with h0 | h0
    · rw [h0] at hi; simp at hi
    · exact h0
  have hlt := Nat.mod_lt i hp
  rw [getElem!_pos zero _ hlt]
  exact h _ (by simp)
/-- clear of n keys: nothing but the cells of these n turns. -/
theorem clear_keys (W : World) (g o n : Nat) (cur : Array Value) (e : TypeId) (hh : W.heap[g]? = some (.cells cur e (0, 0))) (hn : 0 < n) (ho : o + n * 5 ≤ cur.size) :
    ∃ zs : List Value, zs.length = n * 5 ∧ ∀ ty c, (Builtin.clear_ #[54] ty #[.slice (some ⟨g, o, none⟩) n c]).run Tryz.prog W = .ok (.tuple #[]) (W.setCells g o zs) := by
  obtain ⟨i, hi, h0, h1, h2⟩ := info_parts key_info
  obtain ⟨z1, z2⟩ := zero_cells (Value.agg #[.int .i64 0, .int .i64 0, .int .i64 0, .int .i64 0, .int .i64 0]).cells n
  have hcl : (Value.agg #[.int .i64 0, .int .i64 0, .int .i64 0, .int .i64 0, .int .i64 0]).cells = #[.int .i64 0, .int .i64 0, .int .i64 0, .int .i64 0, .int .i64 0] := by kernel_rfl
  refine ⟨(Builtin.zeroCells (Value.agg #[.int .i64 0, .int .i64 0, .int .i64 0, .int .i64 0, .int .i64 0]).cells n).toList, by rw [z1, hcl]; rfl, fun ty c => ?_⟩
  have hst := run_storeCells_cells (P := Tryz.prog) g o (Builtin.zeroCells (Value.agg #[.int .i64 0, .int .i64 0, .int .i64 0, .int .i64 0, .int .i64 0]).cells n).toList 0 W (fun j hj => by
    rw [z1, hcl] at hj
    have hj2 : j < n * 5 := hj
    rw [cell_of_row W g _ cur e (0, 0) hh, Array.getElem?_eq_getElem (by omega)]; rfl) (fun j hj => frozen_of_row W g _ cur e hh) (z2 (by rw [hcl]; intro v hv; simp at hv; subst hv; rfl))
  simp only [Nat.add_zero] at hst
  obtain ⟨m, rfl⟩ : ∃ m, n = m + 1 := ⟨n - 1, by omega⟩
  simp [Builtin.clear_, run_underlying Tryz.underlying54, zeroValue, typeInfo, hi, h0, hst]
end Go.Proofs.YtpfepcjbhchpcaaGreat
namespace Go.Proofs.YtpfepcjbhchpcaaGreat
open Go.RowKit
set_option maxRecDepth 100000
set_option linter.unusedSimpArgs false
set_option linter.unusedVariables false

theorem boxC {w : World} {p : Nat} {a : Value} {t : TypeId} (h : w.heap[p]? = some (.cells #[a] t (0, 0))) : w.cell? ⟨p, 0, none⟩ = some a ∧ ∀ o, w.frozen? ⟨p, o, none⟩ = false :=
  ⟨by rw [cell_of_row w p 0 _ _ _ h]; rfl, fun o => frozen_of_row w p o _ _ h⟩
theorem heap_far {w : World} {g j i : Nat} {u : Value} {o : Obj} (h : w.heap[i]? = some o) (hne : ¬ i = g) : (w.setCell ⟨g, j, none⟩ u).heap[i]? = some o := (Below.heap_setCell w ⟨g, j, none⟩ u i hne).trans h
theorem kvl_take (l : List KeyD) (N : Nat) : (kvl l).take (N * 5) = kvl (l.take N) := by
  by_cases h : N ≤ l.length
  · have he : kvl l = kvl (l.take N) ++ kvl (l.drop N) := by rw [← kvl_append, List.take_append_drop]
    have hl : (kvl (l.take N)).length = N * 5 := by rw [kvl_len]; simp; omega
    rw [he, ← hl, List.take_left']
    rfl
  · rw [List.take_of_length_le (by rw [kvl_len]; omega), List.take_of_length_le (by omega)]
theorem RwK.at5 {w : World} {g cap : Nat} {l : List KeyD} (h : RwK w g cap l) {i : Nat} (hi : i < l.length) (hc : l.length ≤ cap) (hm : cap ≤ maxLen) : Five w g (i * 5) l[i] := by
  obtain ⟨b, off, hA, _, hk⟩ := (h.owns (S := fun _ => True) trivial hc hm).reads.keys hi
  have h1 := hk i hi
  injection hA with hA
  injection hA with h2 h3
  subst h2
  subst h3
  simpa only [Nat.zero_add] using h1
/-- The closure of KeysOf, bound to the block's box. -/
theorem keysOf1_any (k : KeyD) (p : Int) (pb : Nat) (w : World) (hp : w.heap[pb]? = some (.cells #[.int .i64 p] 3 (0, 0))) :
    Calls Tryz.prog 233 #[k.v, .pointer (some ⟨pb, 0, none⟩)] w (SaysBool w (k.a != p)) := by
  unfold KeyD.v keyV
  have Q0 := Lib.hid (al1 w (.cells #[.int .i64 k.a, .int .i64 k.b, .int .i64 k.c, .int .i64 k.d, .int .i64 k.e] 58))
  have b0 := bal1 w (.cells #[.int .i64 k.a, .int .i64 k.b, .int .i64 k.c, .int .i64 k.d, .int .i64 k.e] 58)
  have HB := Lib.hid b0
  have HP := Lib.hid (box_on hp b0)
  clear hp b0
  obtain ⟨R, hR⟩ : ∃ R, (k.a != p) = R := ⟨_, rfl⟩
  rw [hR]
  go_enter Tryz.func233, Tryz.ntmps233
  go_upto_region 1 with (fail)
  generalize w.alloc (.cells #[.int .i64 k.a, .int .i64 k.b, .int .i64 k.c, .int .i64 k.d, .int .i64 k.e] 58) = W at *
  obtain ⟨x0, x1, x2, x3, x4, x5⟩ := box5 Q0.out
  obtain ⟨y0, y1⟩ := boxC HP.out
  cases R
  all_goals
    go_wp2
    go_ret
    exact ⟨rfl, HB.out⟩
set_option maxHeartbeats 1000000 in
theorem indexFuncK_any (v : Value) (l : List KeyD) (p : Int) (pb : Nat) (w : World) (hv : Reads w w.heap.size v (keysD l)) (hp : w.heap[pb]? = some (.cells #[.int .i64 p] 3 (0, 0))) (hn : l.length ≤ 2097152) :
    Calls Tryz.prog 192 #[v, .func (.func 233) #[] #[.pointer (some ⟨pb, 0, none⟩)]] w fun e w' => ∃ n : Int, e = .returned (.int .i64 n) ∧ Below w.heap.size w w' ∧
      ((n = -1 ∧ ∀ j (hj : j < l.length), ((l[j]).a == p) = true) ∨ ∃ m : Nat, n = (m : Int) ∧ ∃ h : m < l.length, ((l[m]).a == p) = false ∧ ∀ j (hj : j < m), ((l[j]'(by omega)).a == p) = true) := by
  obtain ⟨A, c, rfl, _, _⟩ := hv.shapeK
  have HT := Lib.hid keysOf1_any
  unfold KeyD.v keyV at HT
  have HV := Lib.hid hv
  have HP := Lib.hid hp
  clear hv hp
  go_enter Tryz.func192, Tryz.ntmps192
  go_wp2
  go_loopw [5, 8] (fun _ i wr => ∃ k : Nat, k ≤ l.length ∧ i = .int .i64 k ∧ Hid (∀ j (hj : j < k) (hl : j < l.length), ((l[j]).a == p) = true) ∧ Hid (Below w.heap.size w wr)) (fun _ i _ => l.length - (intOf i).toNat)
  case atStart => exact ⟨0, Nat.zero_le _, rfl, Lib.hid (fun j hj => by omega), Lib.hid (Below.refl _ _)⟩
  case round =>
    obtain ⟨k, hk, rfl, HI, HB⟩ := hrel
    by_cases hlt : k < l.length
    · obtain ⟨b, off, rfl, hbb, hc⟩ := (HV.out.on HB.out).keys hlt
      have i1 : (k : Int) < (l.length : Int) := by omega
      have i2 : (0 : Int) ≤ (k : Int) := by omega
      obtain ⟨c0, c1, c2, c3, c4⟩ := hc k hlt
      have HP1 := Lib.hid (box_on HP.out HB.out)
      clear hc
      cases hs : ((l[k]).a == p)
      · have HN : Hid (((l[k]).a != p) = true) := Lib.hid (by simp only [bne, hs]; rfl)
        have HS := Lib.hid hs
        clear hs
        go_wp2_with fail
        go_at_call 233
        refine (HT.out l[k] p pb _ HP1.out).mono ?_
        rintro r w8 ⟨rfl, b8⟩
        rw [HN.out]
        have B8 := Lib.hid (bstep HB.out b8)
        clear b8 c0 c1 c2 c3 c4
        go_wp2
        go_ret
        exact ⟨_, rfl, B8.out, .inr ⟨k, rfl, hlt, HS.out, fun j hj => HI.out j hj (by omega)⟩⟩
      · have HN : Hid (((l[k]).a != p) = false) := Lib.hid (by simp only [bne, hs]; rfl)
        have HS := Lib.hid hs
        clear hs
        go_wp2_with fail
        go_at_call 233
        refine (HT.out l[k] p pb _ HP1.out).mono ?_
        rintro r w8 ⟨rfl, b8⟩
        rw [HN.out]
        have B8 := Lib.hid (bstep HB.out b8)
        clear b8 c0 c1 c2 c3 c4
        go_wp2
        go_roundw
        case rel => exact ⟨k + 1, by omega, by go_num, Lib.hid (fun j hj hl => by
          by_cases hjk : j < k
          · exact HI.out j hjk hl
          · have : j = k := by omega
            subst this
            exact HS.out), B8⟩
        case measure => simp [intOf]; omega
    · go_wp2
      go_ret
      exact ⟨_, rfl, HB.out, .inl ⟨rfl, fun j hj => HI.out j (by omega) hj⟩⟩
set_option maxHeartbeats 4000000 in
theorem deleteFuncK_any (v : Value) (l : List KeyD) (p : Int) (pb base : Nat) (w : World) (hv : RowK w base v l) (hb : base ≤ w.heap.size) (hp : w.heap[pb]? = some (.cells #[.int .i64 p] 3 (0, 0))) (hpb : pb < base) (hn : l.length ≤ 2097152) :
    Calls Tryz.prog 193 #[v, .func (.func 233) #[] #[.pointer (some ⟨pb, 0, none⟩)]] w fun e w' => ∃ v', e = .returned v' ∧ RowK w' base v' (l.filter (fun k => k.a == p)) ∧ Below base w w' := by
  have HT := Lib.hid keysOf1_any
  unfold KeyD.v keyV at HT
  have HIF := Lib.hid (indexFuncK_any v l p pb w hv.owns.reads hp hn)
  have HP := Lib.hid hp
  have HV := Lib.hid hv
  rcases hv.owns.rwK with ⟨rfl, rfl⟩ | ⟨g, cap, rfl, hbg, hR, hcap, hmax⟩
  · clear hv hp
    go_enter Tryz.func193, Tryz.ntmps193
    go_wp2_with fail
    refine HIF.out.mono ?_
    rintro r w1 ⟨n, rfl, b1, ⟨rfl, _⟩ | ⟨m, rfl, hm, _⟩⟩
    · have B1 := Lib.hid (b1.mono hb)
      have O1 := Lib.hid (HV.out.on b1)
      clear b1
      go_wp2
      go_ret
      exact ⟨_, rfl, O1.out, B1.out⟩
    · simp at hm
  · have HRW := Lib.hid hR
    clear hv hp hR
    go_enter Tryz.func193, Tryz.ntmps193
    go_wp2_with fail
    refine HIF.out.mono ?_
    rintro r w1 ⟨n, rfl, b1, ⟨rfl, hall⟩ | ⟨m, rfl, hm, hno, hyes⟩⟩
    · have B1 := Lib.hid (b1.mono hb)
      have O1 := Lib.hid (HV.out.on b1)
      have HA : Hid (l.filter (fun k => k.a == p) = l) := Lib.hid (all_kept (q := fun k => k.a == p) hall)
      clear b1 hall
      go_wp2
      go_ret
      rw [HA.out]
      exact ⟨_, rfl, O1.out, B1.out⟩
    · have B1 := Lib.hid (b1.mono hb)
      have R1 := Lib.hid (Rw.keep HRW.out (b1.block g (Rw.lt HRW.out)))
      have D1 := Lib.hid (DelIn.start (q := fun k => k.a == p) hm hno hyes)
      have P1 := Lib.hid (box_on HP.out b1)
      have hm1 : ((m : Int) == -1) = false := beq_eq_false_iff_ne.2 (by omega)
      have i0 : IntKind.i64.wrap ((m : Int) + 1) = (m : Int) + 1 := by rw [IntKind.wrap_i64]; omega
      have HSZ := Lib.hid b1.size
      clear b1 hno hyes HIF HV HRW HP
      go_wp2
      clear hm1 i0
      go_loopw [5, 6, 7] (fun i j _ wr => ∃ (i' j' : Nat) (t : List KeyD), i = .int .i64 i' ∧ j = .int .i64 j' ∧ Hid (DelIn (fun k => k.a == p) l t i' j') ∧ Hid (RwK wr g cap t) ∧ Hid (wr.heap[pb]? = some (.cells #[.int .i64 p] 3 (0, 0))) ∧ Hid (base ≤ wr.heap.size) ∧ Hid (Below base w wr)) (fun _ j _ _ => l.length - (intOf j).toNat)
      case atStart => exact ⟨m, m + 1, l, rfl, by go_num, D1, R1, P1, Lib.hid (Nat.le_trans hb HSZ.out), B1⟩
      case round =>
        clear D1 R1 P1 HSZ B1 hm
        obtain ⟨i, j, t, rfl, rfl, HD, HR, HP, HZ, HB⟩ := hrel
        have hD := HD.out
        have hij := hD.ij
        have hjl := hD.jl
        have htl := hD.len
        by_cases hlt : j < l.length
        · obtain ⟨c0, c1, c2, c3, c4⟩ := HR.out.at5 (i := j) (by omega) (by omega) hmax
          rw [hD.at hlt] at c0 c1 c2 c3 c4
          have i1 : (j : Int) < (l.length : Int) := by omega
          have i2 : (0 : Int) ≤ (j : Int) := by omega
          have hq0 := al1 wr (.cells #[.int .i64 (l[j]).a, .int .i64 (l[j]).b, .int .i64 (l[j]).c, .int .i64 (l[j]).d, .int .i64 (l[j]).e] 58)
          have ba := bal1 wr (.cells #[.int .i64 (l[j]).a, .int .i64 (l[j]).b, .int .i64 (l[j]).c, .int .i64 (l[j]).d, .int .i64 (l[j]).e] 58)
          have HQ := Lib.hid hq0
          have HP2 := Lib.hid (box_on HP.out ba)
          have HR2 := Lib.hid (Rw.keep HR.out (ba.block g (Rw.lt HR.out)))
          have HB2 := Lib.hid (HB.out.trans (ba.mono HZ.out))
          have HZ2 := Lib.hid (Nat.le_trans HZ.out ba.size)
          clear hq0 ba hD
          cases hs : ((l[j]).a == p)
          · have HN : Hid (((l[j]).a != p) = true) := Lib.hid (by simp only [bne, hs]; rfl)
            have HS := Lib.hid hs
            clear hs
            go_wp2_with fail
            go_at_call 233
            refine (HT.out l[j] p pb _ HP2.out).mono ?_
            rintro r w8 ⟨rfl, b8⟩
            rw [HN.out]
            have R8 := Lib.hid (Rw.keep HR2.out (b8.block g (Rw.lt HR2.out)))
            have P8 := Lib.hid (box_on HP2.out b8)
            have B8 := Lib.hid (HB2.out.trans (b8.mono HZ2.out))
            have Z8 := Lib.hid (Nat.le_trans HZ2.out b8.size)
            clear b8 c0 c1 c2 c3 c4 HQ HP2 HR2 HB2 HZ2 HR HP HB HZ
            go_wp2
            go_roundw
            case rel => exact ⟨i, j + 1, t, rfl, by go_num, Lib.hid (HD.out.drop hlt HS.out), R8, P8, Z8, B8⟩
            case measure => simp [intOf]; omega
          · have HN : Hid (((l[j]).a != p) = false) := Lib.hid (by simp only [bne, hs]; rfl)
            have HS := Lib.hid hs
            clear hs
            go_wp2_with fail
            go_at_call 233
            refine (HT.out l[j] p pb _ HP2.out).mono ?_
            rintro r w8 ⟨rfl, b8⟩
            rw [HN.out]
            have R8 := Lib.hid (Rw.keep HR2.out (b8.block g (Rw.lt HR2.out)))
            have P8 := Lib.hid (box_on HP2.out b8)
            have B8 := Lib.hid (HB2.out.trans (b8.mono HZ2.out))
            have Z8 := Lib.hid (Nat.le_trans HZ2.out b8.size)
            obtain ⟨q0, q1, q2, q3, q4, q5⟩ := box5 (box_on HQ.out b8)
            clear b8 c0 c1 c2 c3 c4 HQ HP2 HR2 HB2 HZ2 HR HP HB HZ
            have hil : i < t.length := by omega
            have hpg : ¬ pb = g := by omega
            have R9 := Lib.hid (RwK.set R8.out hil l[j])
            have B9 := Lib.hid (b5 (i := i * 5) (u1 := .int .i64 (l[j]).a) (u2 := .int .i64 (l[j]).b) (u3 := .int .i64 (l[j]).c) (u4 := .int .i64 (l[j]).d) (u5 := .int .i64 (l[j]).e) B8.out hbg)
            have P9 := Lib.hid (heap_far (j := i * 5 + 4) (u := .int .i64 (l[j]).e) (heap_far (j := i * 5 + 3) (u := .int .i64 (l[j]).d) (heap_far (j := i * 5 + 2) (u := .int .i64 (l[j]).c) (heap_far (j := i * 5 + 1) (u := .int .i64 (l[j]).b) (heap_far (j := i * 5) (u := .int .i64 (l[j]).a) P8.out hpg) hpg) hpg) hpg) hpg)
            have hz5 : ∀ z, z < 5 → ∃ v, w8.cell? ⟨g, i * 5 + z, none⟩ = some v := RwK.five R8.out hil
            obtain ⟨v0, d0⟩ := hz5 0 (by omega)
            obtain ⟨v1, d1⟩ := hz5 1 (by omega)
            obtain ⟨v2, d2⟩ := hz5 2 (by omega)
            obtain ⟨v3, d3⟩ := hz5 3 (by omega)
            obtain ⟨v4, d4⟩ := hz5 4 (by omega)
            rw [Nat.add_zero] at d0
            have f0 := Rw.frozen R8.out (i * 5)
            have f1 := Rw.frozen R8.out (i * 5 + 1)
            have f2 := Rw.frozen R8.out (i * 5 + 2)
            have f3 := Rw.frozen R8.out (i * 5 + 3)
            have f4 := Rw.frozen R8.out (i * 5 + 4)
            have i3 : (i : Int) < (l.length : Int) := by omega
            have i4 : (0 : Int) ≤ (i : Int) := by omega
            have i5 : IntKind.i64.wrap ((i : Int) + 1) = (i : Int) + 1 := by rw [IntKind.wrap_i64]; omega
            clear hz5
            go_wp2
            go_roundw
            case rel => exact ⟨i + 1, j + 1, t.set i l[j], by go_num, by go_num, Lib.hid (HD.out.keep hlt HS.out), R9, P9, Lib.hid (by simpa using Z8.out), B9⟩
            case measure => simp [intOf]; omega
        · obtain ⟨hF, hFl, hil⟩ := hD.done hlt
          obtain ⟨cur, hh, hsz, htk⟩ := HR.out
          obtain ⟨zs, hzl, hcl⟩ := clear_keys wr g (i * 5) (l.length - i) cur _ hh (by omega) (by rw [hsz]; omega)
          have FIN : Hid (RowK (wr.setCells g (i * 5) zs) base (.slice (some ⟨g, 0, none⟩) i cap) (l.filter (fun k => k.a == p)) ∧ Below base w (wr.setCells g (i * 5) zs)) := by
            refine Lib.hid ⟨?_, below_lay hbg _ _ _ _ HB.out⟩
            refine ⟨by rw [kvl_len], .inr ⟨g, cap, _, by rw [← hFl], hbg, heap_lay g _ _ _ _ _ hh, by omega, hmax, by rw [layA_size]; exact hsz, ?_⟩⟩
            rw [← hFl, layA_list _ _ _ (by rw [hzl, hsz]; omega), List.take_append_of_le_length (by rw [List.length_take, Array.length_toList, hsz]; omega), List.take_take, Nat.min_self, ← hF, ← kvl_take, ← htk, List.take_take, show min (i * 5) (t.length * 5) = i * 5 by omega]
          have i1 : ¬ (j : Int) < (l.length : Int) := by omega
          have i2 : (0 : Int) ≤ (i : Int) := by omega
          have i3 : (i : Int) ≤ (l.length : Int) := by omega
          have i4 : (l.length : Int) ≤ (cap : Int) := by omega
          have i5 : (i : Int) ≤ (cap : Int) := by omega
          have i6 : i ≤ cap := by omega
          have i7 : ¬ cap = i := by omega
          clear hF hFl hh hsz htk hzl hD HD HR HP HB HZ
          go_wp2
          go_ret
          exact ⟨_, rfl, FIN.out.1, FIN.out.2⟩
set_option maxHeartbeats 1000000 in
theorem implKeysOf_any (vl vn : Value) (lo : List Int) (ts : List NodeD) (p : Int) (w : World) (hv : RdT w w.heap.size vl vn lo ts) (hn : ts.length ≤ 1048576) (hs : sumT ts ≤ 1048576) :
    Calls Tryz.prog 204 #[.agg #[vl, vn], .int .i64 p] w (NewK w (keysOfK ts p)) := by
  obtain ⟨A, c, A', c', rfl, rfl⟩ := hv.shape
  have hmf : ∀ (fn : Fn) (first cap : Array Value) (w : World), (Instr.makeFunc fn first cap).run Tryz.prog w = .ok (.func fn first cap) w := fun _ _ _ _ => rfl
  obtain ⟨q0, q1⟩ := al2 w (.cells #[.slice A lo.length c, .slice A' ts.length c'] 36) (.cells #[.int .i64 p] 3)
  have hb := bal2 w (.cells #[.slice A lo.length c, .slice A' ts.length c'] 36) (.cells #[.int .i64 p] 3)
  have hsz : ((w.alloc (.cells #[.slice A lo.length c, .slice A' ts.length c'] 36)).alloc (.cells #[.int .i64 p] 3)).heap.size = w.heap.size + 1 + 1 := by simp
  have HV := Lib.hid (hv.on hb)
  have HB := Lib.hid hb
  have Q0 := Lib.hid q0
  have Q1 := Lib.hid q1
  have HSZ := Lib.hid hsz
  have HTK := Lib.hid implTreeKeys_any
  have HKL := Lib.hid (treeKeys_len ts)
  clear hv hb q0 q1 hsz
  unfold keysOfK
  obtain ⟨L, hL⟩ : ∃ L, treeKeysK ts = L := ⟨_, rfl⟩
  rw [hL] at HKL ⊢
  have HL := Lib.hid hL
  clear hL
  go_enter Tryz.func204, Tryz.ntmps204
  go_upto_region 1 with (fail)
  generalize (w.alloc (.cells #[.slice A lo.length c, .slice A' ts.length c'] 36)).alloc (.cells #[.int .i64 p] 3) = W at *
  obtain ⟨x0, x1, x2⟩ := box2 Q0.out
  go_wp2_with fail
  refine (HTK.out _ _ lo ts _ HV.out hn hs).mono ?_
  rintro r w1 ⟨v1, rfl, o1, b1⟩
  rw [HL.out] at o1
  obtain ⟨A1, d1, rfl, _, _⟩ := o1.shape
  have O1 := Lib.hid o1
  have P1 := Lib.hid (box_on Q1.out b1)
  have B1 := Lib.hid b1
  clear o1 b1 x0 x1 x2
  go_wp2_with fail
  refine (deleteFuncK_any _ L p (w.heap.size + 1) W.heap.size _ O1.out B1.out.size P1.out (by have := HSZ.out; omega) (by have := HKL.out; omega)).mono ?_
  rintro r w2 ⟨v2, rfl, o2, b2⟩
  obtain ⟨A2, d2, rfl, _, _⟩ := o2.shape
  have O2 := Lib.hid (o2.mono HB.out.size)
  have B2 := Lib.hid (bstep HB.out (B1.out.trans b2))
  clear o2 b2
  go_wp2
  go_ret
  exact ⟨_, rfl, O2.out, B2.out⟩
end Go.Proofs.YtpfepcjbhchpcaaGreat
namespace Go.Proofs.YtpfepcjbhchpcaaGreat
open Go.RowKit
set_option maxRecDepth 100000
set_option linter.unusedSimpArgs false
set_option linter.unusedVariables false

/-- The closure of refs. -/
theorem refs1_any (k : KeyD) (w : World) :
    Calls Tryz.prog 194 #[k.v] w (SaysBool w (k.c != 1)) := by
  unfold KeyD.v keyV
  have Q0 := Lib.hid (al1 w (.cells #[.int .i64 k.a, .int .i64 k.b, .int .i64 k.c, .int .i64 k.d, .int .i64 k.e] 58))
  have b0 := bal1 w (.cells #[.int .i64 k.a, .int .i64 k.b, .int .i64 k.c, .int .i64 k.d, .int .i64 k.e] 58)
  have HB := Lib.hid b0
  clear b0
  obtain ⟨R, hR⟩ : ∃ R, (k.c != 1) = R := ⟨_, rfl⟩
  rw [hR]
  go_enter Tryz.func194, Tryz.ntmps194
  go_upto_region 1 with (fail)
  generalize w.alloc (.cells #[.int .i64 k.a, .int .i64 k.b, .int .i64 k.c, .int .i64 k.d, .int .i64 k.e] 58) = W at *
  obtain ⟨x0, x1, x2, x3, x4, x5⟩ := box5 Q0.out
  cases R
  all_goals
    go_wp2
    go_ret
    exact ⟨rfl, HB.out⟩
set_option maxHeartbeats 1000000 in
theorem indexFuncR_any (v : Value) (l : List KeyD) (w : World) (hv : Reads w w.heap.size v (keysD l)) (hn : l.length ≤ 2097152) :
    Calls Tryz.prog 192 #[v, .func (.func 194) #[] #[]] w fun e w' => ∃ n : Int, e = .returned (.int .i64 n) ∧ Below w.heap.size w w' ∧
      ((n = -1 ∧ ∀ j (hj : j < l.length), ((l[j]).c == 1) = true) ∨ ∃ m : Nat, n = (m : Int) ∧ ∃ h : m < l.length, ((l[m]).c == 1) = false ∧ ∀ j (hj : j < m), ((l[j]'(by omega)).c == 1) = true) := by
  obtain ⟨A, c, rfl, _, _⟩ := hv.shapeK
  have HT := Lib.hid refs1_any
  unfold KeyD.v keyV at HT
  have HV := Lib.hid hv
  clear hv
  go_enter Tryz.func192, Tryz.ntmps192
  go_wp2
  go_loopw [5, 8] (fun _ i wr => ∃ k : Nat, k ≤ l.length ∧ i = .int .i64 k ∧ Hid (∀ j (hj : j < k) (hl : j < l.length), ((l[j]).c == 1) = true) ∧ Hid (Below w.heap.size w wr)) (fun _ i _ => l.length - (intOf i).toNat)
  case atStart => exact ⟨0, Nat.zero_le _, rfl, Lib.hid (fun j hj => by omega), Lib.hid (Below.refl _ _)⟩
  case round =>
    obtain ⟨k, hk, rfl, HI, HB⟩ := hrel
    by_cases hlt : k < l.length
    · obtain ⟨b, off, rfl, hbb, hc⟩ := (HV.out.on HB.out).keys hlt
      have i1 : (k : Int) < (l.length : Int) := by omega
      have i2 : (0 : Int) ≤ (k : Int) := by omega
      obtain ⟨c0, c1, c2, c3, c4⟩ := hc k hlt
      clear hc
      cases hs : ((l[k]).c == 1)
      · have HN : Hid (((l[k]).c != 1) = true) := Lib.hid (by simp only [bne, hs]; rfl)
        have HS := Lib.hid hs
        clear hs
        go_wp2_with fail
        go_at_call 194
        refine (HT.out l[k] _).mono ?_
        rintro r w8 ⟨rfl, b8⟩
        rw [HN.out]
        have B8 := Lib.hid (bstep HB.out b8)
        clear b8 c0 c1 c2 c3 c4
        go_wp2
        go_ret
        exact ⟨_, rfl, B8.out, .inr ⟨k, rfl, hlt, HS.out, fun j hj => HI.out j hj (by omega)⟩⟩
      · have HN : Hid (((l[k]).c != 1) = false) := Lib.hid (by simp only [bne, hs]; rfl)
        have HS := Lib.hid hs
        clear hs
        go_wp2_with fail
        go_at_call 194
        refine (HT.out l[k] _).mono ?_
        rintro r w8 ⟨rfl, b8⟩
        rw [HN.out]
        have B8 := Lib.hid (bstep HB.out b8)
        clear b8 c0 c1 c2 c3 c4
        go_wp2
        go_roundw
        case rel => exact ⟨k + 1, by omega, by go_num, Lib.hid (fun j hj hl => by
          by_cases hjk : j < k
          · exact HI.out j hjk hl
          · have : j = k := by omega
            subst this
            exact HS.out), B8⟩
        case measure => simp [intOf]; omega
    · go_wp2
      go_ret
      exact ⟨_, rfl, HB.out, .inl ⟨rfl, fun j hj => HI.out j (by omega) hj⟩⟩
set_option maxHeartbeats 4000000 in
theorem deleteFuncR_any (v : Value) (l : List KeyD) (base : Nat) (w : World) (hv : RowK w base v l) (hb : base ≤ w.heap.size) (hn : l.length ≤ 2097152) :
    Calls Tryz.prog 193 #[v, .func (.func 194) #[] #[]] w fun e w' => ∃ v', e = .returned v' ∧ RowK w' base v' (l.filter (fun k => k.c == 1)) ∧ Below base w w' := by
  have HT := Lib.hid refs1_any
  unfold KeyD.v keyV at HT
  have HIF := Lib.hid (indexFuncR_any v l w hv.owns.reads hn)
  have HV := Lib.hid hv
  rcases hv.owns.rwK with ⟨rfl, rfl⟩ | ⟨g, cap, rfl, hbg, hR, hcap, hmax⟩
  · clear hv
    go_enter Tryz.func193, Tryz.ntmps193
    go_wp2_with fail
    refine HIF.out.mono ?_
    rintro r w1 ⟨n, rfl, b1, ⟨rfl, _⟩ | ⟨m, rfl, hm, _⟩⟩
    · have B1 := Lib.hid (b1.mono hb)
      have O1 := Lib.hid (HV.out.on b1)
      clear b1
      go_wp2
      go_ret
      exact ⟨_, rfl, O1.out, B1.out⟩
    · simp at hm
  · have HRW := Lib.hid hR
    clear hv hR
    go_enter Tryz.func193, Tryz.ntmps193
    go_wp2_with fail
    refine HIF.out.mono ?_
    rintro r w1 ⟨n, rfl, b1, ⟨rfl, hall⟩ | ⟨m, rfl, hm, hno, hyes⟩⟩
    · have B1 := Lib.hid (b1.mono hb)
      have O1 := Lib.hid (HV.out.on b1)
      have HA : Hid (l.filter (fun k => k.c == 1) = l) := Lib.hid (all_kept (q := fun k => k.c == 1) hall)
      clear b1 hall
      go_wp2
      go_ret
      rw [HA.out]
      exact ⟨_, rfl, O1.out, B1.out⟩
    · have B1 := Lib.hid (b1.mono hb)
      have R1 := Lib.hid (Rw.keep HRW.out (b1.block g (Rw.lt HRW.out)))
      have D1 := Lib.hid (DelIn.start (q := fun k => k.c == 1) hm hno hyes)
      have hm1 : ((m : Int) == -1) = false := beq_eq_false_iff_ne.2 (by omega)
      have i0 : IntKind.i64.wrap ((m : Int) + 1) = (m : Int) + 1 := by rw [IntKind.wrap_i64]; omega
      have HSZ := Lib.hid b1.size
      clear b1 hno hyes HIF HV HRW
      go_wp2
      clear hm1 i0
      go_loopw [5, 6, 7] (fun i j _ wr => ∃ (i' j' : Nat) (t : List KeyD), i = .int .i64 i' ∧ j = .int .i64 j' ∧ Hid (DelIn (fun k => k.c == 1) l t i' j') ∧ Hid (RwK wr g cap t) ∧ Hid (base ≤ wr.heap.size) ∧ Hid (Below base w wr)) (fun _ j _ _ => l.length - (intOf j).toNat)
      case atStart => exact ⟨m, m + 1, l, rfl, by go_num, D1, R1, Lib.hid (Nat.le_trans hb HSZ.out), B1⟩
      case round =>
        clear D1 R1 HSZ B1 hm
        obtain ⟨i, j, t, rfl, rfl, HD, HR, HZ, HB⟩ := hrel
        have hD := HD.out
        have hij := hD.ij
        have hjl := hD.jl
        have htl := hD.len
        by_cases hlt : j < l.length
        · obtain ⟨c0, c1, c2, c3, c4⟩ := HR.out.at5 (i := j) (by omega) (by omega) hmax
          rw [hD.at hlt] at c0 c1 c2 c3 c4
          have i1 : (j : Int) < (l.length : Int) := by omega
          have i2 : (0 : Int) ≤ (j : Int) := by omega
          have hq0 := al1 wr (.cells #[.int .i64 (l[j]).a, .int .i64 (l[j]).b, .int .i64 (l[j]).c, .int .i64 (l[j]).d, .int .i64 (l[j]).e] 58)
          have ba := bal1 wr (.cells #[.int .i64 (l[j]).a, .int .i64 (l[j]).b, .int .i64 (l[j]).c, .int .i64 (l[j]).d, .int .i64 (l[j]).e] 58)
          have HQ := Lib.hid hq0
          have HR2 := Lib.hid (Rw.keep HR.out (ba.block g (Rw.lt HR.out)))
          have HB2 := Lib.hid (HB.out.trans (ba.mono HZ.out))
          have HZ2 := Lib.hid (Nat.le_trans HZ.out ba.size)
          clear hq0 ba hD
          cases hs : ((l[j]).c == 1)
          · have HN : Hid (((l[j]).c != 1) = true) := Lib.hid (by simp only [bne, hs]; rfl)
            have HS := Lib.hid hs
            clear hs
            go_wp2_with fail
            go_at_call 194
            refine (HT.out l[j] _).mono ?_
            rintro r w8 ⟨rfl, b8⟩
            rw [HN.out]
            have R8 := Lib.hid (Rw.keep HR2.out (b8.block g (Rw.lt HR2.out)))
            have B8 := Lib.hid (HB2.out.trans (b8.mono HZ2.out))
            have Z8 := Lib.hid (Nat.le_trans HZ2.out b8.size)
            clear b8 c0 c1 c2 c3 c4 HQ HR2 HB2 HZ2 HR HB HZ
            go_wp2
            go_roundw
            case rel => exact ⟨i, j + 1, t, rfl, by go_num, Lib.hid (HD.out.drop hlt HS.out), R8, Z8, B8⟩
            case measure => simp [intOf]; omega
          · have HN : Hid (((l[j]).c != 1) = false) := Lib.hid (by simp only [bne, hs]; rfl)
            have HS := Lib.hid hs
            clear hs
            go_wp2_with fail
            go_at_call 194
            refine (HT.out l[j] _).mono ?_
            rintro r w8 ⟨rfl, b8⟩
            rw [HN.out]
            have R8 := Lib.hid (Rw.keep HR2.out (b8.block g (Rw.lt HR2.out)))
            have B8 := Lib.hid (HB2.out.trans (b8.mono HZ2.out))
            have Z8 := Lib.hid (Nat.le_trans HZ2.out b8.size)
            obtain ⟨q0, q1, q2, q3, q4, q5⟩ := box5 (box_on HQ.out b8)
            clear b8 c0 c1 c2 c3 c4 HQ HR2 HB2 HZ2 HR HB HZ
            have hil : i < t.length := by omega
            have R9 := Lib.hid (RwK.set R8.out hil l[j])
            have B9 := Lib.hid (b5 (i := i * 5) (u1 := .int .i64 (l[j]).a) (u2 := .int .i64 (l[j]).b) (u3 := .int .i64 (l[j]).c) (u4 := .int .i64 (l[j]).d) (u5 := .int .i64 (l[j]).e) B8.out hbg)
            have hz5 : ∀ z, z < 5 → ∃ v, w8.cell? ⟨g, i * 5 + z, none⟩ = some v := RwK.five R8.out hil
            obtain ⟨v0, d0⟩ := hz5 0 (by omega)
            obtain ⟨v1, d1⟩ := hz5 1 (by omega)
            obtain ⟨v2, d2⟩ := hz5 2 (by omega)
            obtain ⟨v3, d3⟩ := hz5 3 (by omega)
            obtain ⟨v4, d4⟩ := hz5 4 (by omega)
            rw [Nat.add_zero] at d0
            have f0 := Rw.frozen R8.out (i * 5)
            have f1 := Rw.frozen R8.out (i * 5 + 1)
            have f2 := Rw.frozen R8.out (i * 5 + 2)
            have f3 := Rw.frozen R8.out (i * 5 + 3)
            have f4 := Rw.frozen R8.out (i * 5 + 4)
            have i3 : (i : Int) < (l.length : Int) := by omega
            have i4 : (0 : Int) ≤ (i : Int) := by omega
            have i5 : IntKind.i64.wrap ((i : Int) + 1) = (i : Int) + 1 := by rw [IntKind.wrap_i64]; omega
            clear hz5
            go_wp2
            go_roundw
            case rel => exact ⟨i + 1, j + 1, t.set i l[j], by go_num, by go_num, Lib.hid (HD.out.keep hlt HS.out), R9, Lib.hid (by simpa using Z8.out), B9⟩
            case measure => simp [intOf]; omega
        · obtain ⟨hF, hFl, hil⟩ := hD.done hlt
          obtain ⟨cur, hh, hsz, htk⟩ := HR.out
          obtain ⟨zs, hzl, hcl⟩ := clear_keys wr g (i * 5) (l.length - i) cur _ hh (by omega) (by rw [hsz]; omega)
          have FIN : Hid (RowK (wr.setCells g (i * 5) zs) base (.slice (some ⟨g, 0, none⟩) i cap) (l.filter (fun k => k.c == 1)) ∧ Below base w (wr.setCells g (i * 5) zs)) := by
            refine Lib.hid ⟨?_, below_lay hbg _ _ _ _ HB.out⟩
            refine ⟨by rw [kvl_len], .inr ⟨g, cap, _, by rw [← hFl], hbg, heap_lay g _ _ _ _ _ hh, by omega, hmax, by rw [layA_size]; exact hsz, ?_⟩⟩
            rw [← hFl, layA_list _ _ _ (by rw [hzl, hsz]; omega), List.take_append_of_le_length (by rw [List.length_take, Array.length_toList, hsz]; omega), List.take_take, Nat.min_self, ← hF, ← kvl_take, ← htk, List.take_take, show min (i * 5) (t.length * 5) = i * 5 by omega]
          have i1 : ¬ (j : Int) < (l.length : Int) := by omega
          have i2 : (0 : Int) ≤ (i : Int) := by omega
          have i3 : (i : Int) ≤ (l.length : Int) := by omega
          have i4 : (l.length : Int) ≤ (cap : Int) := by omega
          have i5 : (i : Int) ≤ (cap : Int) := by omega
          have i6 : i ≤ cap := by omega
          have i7 : ¬ cap = i := by omega
          clear hF hFl hh hsz htk hzl hD HD HR HB HZ
          go_wp2
          go_ret
          exact ⟨_, rfl, FIN.out.1, FIN.out.2⟩
theorem treeKeysM_any (vl vn : Value) (lo : List Int) (ts : List NodeD) (w : World) (hv : RdT w w.heap.size vl vn lo ts) (hn : ts.length ≤ 1048576) (hs : sumT ts ≤ 1048576) :
    Calls Tryz.prog 145 #[.agg #[vl, vn]] w (NewK w (treeKeysK ts)) := by
  have HK := Lib.hid (fun W b => implTreeKeys_any vl vn lo ts W (hv.on b) hn hs)
  obtain ⟨A, c, A', c', rfl, rfl⟩ := hv.shape
  have b0 := Lib.hid (bal1 w (.cells #[.slice A lo.length c, .slice A' ts.length c'] 36))
  clear hv
  go_enter Tryz.func145, Tryz.ntmps145
  go_wp2_with fail
  refine (HK.out _ b0.out).mono ?_
  rintro e w1 ⟨v, rfl, o, b⟩
  have O := Lib.hid (o.mono b0.out.size)
  have B := Lib.hid (bstep b0.out b)
  clear o b
  go_wp2
  go_ret
  exact ⟨v, rfl, O.out, B.out⟩
theorem refs_any (vl vn : Value) (lo : List Int) (ts : List NodeD) (w : World) (hv : RdT w w.heap.size vl vn lo ts) (hn : ts.length ≤ 1048576) (hs : sumT ts ≤ 1048576) (hl : (treeKeysK ts).length ≤ 2097152) :
    Calls Tryz.prog 148 #[.agg #[vl, vn]] w (NewK w (refsK (treeKeysK ts))) := by
  have HK := Lib.hid (fun W b => treeKeysM_any vl vn lo ts W (hv.on b) hn hs)
  obtain ⟨A, c, A', c', rfl, rfl⟩ := hv.shape
  have b0 := Lib.hid (bal1 w (.cells #[.slice A lo.length c, .slice A' ts.length c'] 36))
  clear hv
  go_enter Tryz.func148, Tryz.ntmps148
  go_wp2_with fail
  refine (HK.out _ b0.out).mono ?_
  rintro e w1 ⟨v, rfl, o, b⟩
  have B := Lib.hid (bstep b0.out b)
  have hz := b.size
  have hz2 := b0.out.size
  have HD := Lib.hid (deleteFuncR_any v (treeKeysK ts) w.heap.size w1 (o.mono hz2) (by omega) hl)
  clear o b
  go_wp2_with fail
  refine HD.out.mono ?_
  rintro e w2 ⟨v2, rfl, o2, b2⟩
  have O := Lib.hid o2
  have BB := Lib.hid (B.out.trans b2)
  clear o2 b2
  go_wp2
  go_ret
  exact ⟨v2, rfl, O.out, BB.out⟩
end Go.Proofs.YtpfepcjbhchpcaaGreat
namespace Go.Proofs.YtpfepcjbhchpcaaGreat
open Go.RowKit
set_option maxRecDepth 100000
set_option linter.unusedSimpArgs false
set_option linter.unusedVariables false

theorem mappingsOf_any {t : TypeId} (vl vn va vc vv : Value) (d : PoolD) (w : World) (h : RdP t w w.heap.size vl vn va vc vv d) : Calls Tryz.prog 72 #[.agg #[vl, vn, va, vc, vv, .int .i64 d.nx]] w fun e w' => e = .returned (.agg #[vl, vn, va, vc]) ∧ Below w.heap.size w w' := by
  obtain ⟨A0, c0, A1, c1, A2, c2, A3, c3, A4, c4, rfl, rfl, rfl, rfl, rfl⟩ := h.shape
  clear h
  go_enter Tryz.func72, Tryz.ntmps72
  go_wp2
  refine bodyPost_ret (v := .agg #[.slice A0 d.lo.length c0, .slice A1 d.ts.length c1, .slice A2 d.ag.length c2, .slice A3 d.ce.length c3]) (by simp [results, Tryz.results72, go_sem, *]) rfl ⟨rfl, ?_⟩
  exact bal2 _ _ _
/-- The closure of nextOk, bound to the pool's box. -/
theorem nextOk1_any (d : PoolD) (k : AgeD) (pb : Nat) (a0 a1 a2 a3 a4 : Value) (w : World) (hp : w.heap[pb]? = some (.cells #[a0, a1, a2, a3, a4, .int .i64 d.nx] 41 (0, 0))) :
    Calls Tryz.prog 138 #[.agg #[.int .i64 k.a, .int .i64 k.b], .pointer (some ⟨pb, 0, none⟩)] w (SaysBool w (!decide (k.a < d.nx))) := by
  have Q0 := Lib.hid (al1 w (.cells #[.int .i64 k.a, .int .i64 k.b] 61))
  have b0 := bal1 w (.cells #[.int .i64 k.a, .int .i64 k.b] 61)
  have HB := Lib.hid b0
  have HP := Lib.hid (boxP (box_on hp b0)).2.2.2.2.2.1
  clear hp b0
  go_enter Tryz.func138, Tryz.ntmps138
  go_upto_region 1 with (fail)
  generalize w.alloc (.cells #[.int .i64 k.a, .int .i64 k.b] 61) = W at *
  obtain ⟨x0, x1, x2⟩ := box2 Q0.out
  have y0 := HP.out
  by_cases hs : k.a < d.nx
  · have e1 : decide (k.a ≥ d.nx) = false := decide_eq_false (by omega)
    go_wp2
    go_ret
    exact ⟨by rw [decide_eq_true hs]; rfl, HB.out⟩
  · have e1 : decide (k.a ≥ d.nx) = true := decide_eq_true (by omega)
    go_wp2
    go_ret
    exact ⟨by rw [decide_eq_false (by omega)]; rfl, HB.out⟩
theorem allP_miss {α : Type} {p : α → Bool} {l : List α} {k : Nat} (h : k < l.length) (hp : p l[k] = false) : l.all p = false := by
  rw [List.all_eq_false]
  exact ⟨_, List.getElem_mem h, by rw [hp]; simp⟩
theorem allP_snoc {α : Type} {p : α → Bool} {l : List α} {k : Nat} (h : k < l.length) (hi : ∀ j (hj : j < k) (hl : j < l.length), p l[j] = true) (hp : p l[k] = true) : ∀ j (hj : j < k + 1) (hl : j < l.length), p l[j] = true := by
  intro j hj hl
  by_cases h3 : j < k
  · exact hi j h3 hl
  · have : j = k := by omega
    subst this
    exact hp
theorem allP_done {α : Type} {p : α → Bool} {l : List α} (h : ∀ j (hl : j < l.length), p l[j] = true) : l.all p = true := by
  rw [List.all_eq_true]
  intro v hv
  obtain ⟨i, hi, rfl⟩ := List.mem_iff_getElem.1 hv
  exact h i hi
set_option maxHeartbeats 1000000 in
theorem indexFuncN_any (v : Value) (l : List AgeD) (d : PoolD) (pb : Nat) (a0 a1 a2 a3 a4 : Value) (w : World) (hv : Reads w w.heap.size v (agesD l)) (hp : w.heap[pb]? = some (.cells #[a0, a1, a2, a3, a4, .int .i64 d.nx] 41 (0, 0))) (hn : l.length ≤ 2097152) :
    Calls Tryz.prog 188 #[v, .func (.func 138) #[] #[.pointer (some ⟨pb, 0, none⟩)]] w fun e w' => ∃ n : Int, e = .returned (.int .i64 n) ∧ decide (n ≥ 0) = !(l.all (fun k => decide (k.a < d.nx))) ∧ Below w.heap.size w w' := by
  obtain ⟨A, c, rfl, _, _⟩ := hv.shapeG
  have HT := Lib.hid (nextOk1_any d)
  have HV := Lib.hid hv
  have HP := Lib.hid hp
  clear hv hp
  go_enter Tryz.func188, Tryz.ntmps188
  go_wp2
  go_loopw [5, 8] (fun _ i wr => ∃ k : Nat, k ≤ l.length ∧ i = .int .i64 k ∧ Hid (∀ j (hj : j < k) (hl : j < l.length), (fun k : AgeD => decide (k.a < d.nx)) l[j] = true) ∧ Hid (Below w.heap.size w wr)) (fun _ i _ => l.length - (intOf i).toNat)
  case atStart => exact ⟨0, Nat.zero_le _, rfl, Lib.hid (fun j hj => by omega), Lib.hid (Below.refl _ _)⟩
  case round =>
    obtain ⟨k, hk, rfl, HI, HB⟩ := hrel
    by_cases hlt : k < l.length
    · obtain ⟨b, off, rfl, hbb, hc⟩ := (HV.out.on HB.out).ages hlt
      have i1 : (k : Int) < (l.length : Int) := by omega
      have i2 : (0 : Int) ≤ (k : Int) := by omega
      obtain ⟨c0, c1⟩ := hc k hlt
      have HX := Lib.hid (HT.out l[k] pb a0 a1 a2 a3 a4 wr (box_on HP.out HB.out))
      clear hc
      cases hs : (fun k : AgeD => decide (k.a < d.nx)) l[k]
      · have HA : Hid (l.all (fun k => decide (k.a < d.nx)) = false) := Lib.hid (allP_miss (p := fun k : AgeD => decide (k.a < d.nx)) hlt hs)
        rw [show (decide ((l[k]).a < d.nx)) = false from hs] at HX
        clear hs
        go_wp2_with fail
        go_at_call 138
        refine HX.out.mono ?_
        rintro r w8 ⟨rfl, b8⟩
        have B8 := Lib.hid (bstep HB.out b8)
        have HQ : Hid (decide ((k : Int) ≥ 0) = true) := Lib.hid (decide_eq_true (by omega))
        clear b8 c0 c1
        go_wp2
        go_ret
        exact ⟨_, rfl, by rw [HA.out]; exact HQ.out, B8.out⟩
      · have HA := Lib.hid (allP_snoc (p := fun k : AgeD => decide (k.a < d.nx)) hlt HI.out hs)
        rw [show (decide ((l[k]).a < d.nx)) = true from hs] at HX
        clear hs
        go_wp2_with fail
        go_at_call 138
        refine HX.out.mono ?_
        rintro r w8 ⟨rfl, b8⟩
        have B8 := Lib.hid (bstep HB.out b8)
        clear b8 c0 c1
        go_wp2
        go_roundw
        case rel => exact ⟨k + 1, by omega, by go_num, HA, B8⟩
        case measure => simp [intOf]; omega
    · have HA : Hid (l.all (fun k => decide (k.a < d.nx)) = true) := Lib.hid (allP_done (p := fun k : AgeD => decide (k.a < d.nx)) (fun j hl => HI.out j (by omega) hl))
      go_wp2
      go_ret
      exact ⟨_, rfl, by rw [HA.out]; rfl, HB.out⟩
theorem containsN_any (v : Value) (l : List AgeD) (d : PoolD) (pb : Nat) (a0 a1 a2 a3 a4 : Value) (w : World) (hv : Reads w w.heap.size v (agesD l)) (hp : w.heap[pb]? = some (.cells #[a0, a1, a2, a3, a4, .int .i64 d.nx] 41 (0, 0))) (hn : l.length ≤ 2097152) :
    Calls Tryz.prog 137 #[v, .func (.func 138) #[] #[.pointer (some ⟨pb, 0, none⟩)]] w (SaysBool w (!(l.all (fun k => decide (k.a < d.nx))))) := by
  have HI := Lib.hid (indexFuncN_any v l d pb a0 a1 a2 a3 a4 w hv hp hn)
  obtain ⟨R, hR⟩ : ∃ R, (!(l.all (fun k => decide (k.a < d.nx)))) = R := ⟨_, rfl⟩
  rw [hR] at HI ⊢
  clear hR
  obtain ⟨A, c, rfl, _, _⟩ := hv.shapeG
  clear hv hp
  go_enter Tryz.func137, Tryz.ntmps137
  go_wp2_with fail
  refine HI.out.mono ?_
  rintro r w1 ⟨n, rfl, hd, b⟩
  have HB := Lib.hid b
  clear b
  go_wp2
  go_ret
  exact ⟨rfl, HB.out⟩
theorem nextOk_any {t : TypeId} (vl vn va vc vv : Value) (d : PoolD) (w : World) (h : RdP t w w.heap.size vl vn va vc vv d) (hs : SmallP d) : Calls Tryz.prog 76 #[.agg #[vl, vn, va, vc, vv, .int .i64 d.nx]] w (SaysBool w (nextB d)) := by
  have hg : d.ag.length ≤ 2097152 := by have := hs.2.1; omega
  obtain ⟨A0, c0, A1, c1, A2, c2, A3, c3, A4, c4, rfl, rfl, rfl, rfl, rfl⟩ := h.shape
  have HB := Lib.hid (bal1 w (.cells #[.slice A0 d.lo.length c0, .slice A1 d.ts.length c1, .slice A2 d.ag.length c2, .slice A3 d.ce.length c3, .slice A4 d.vo.length c4, .int .i64 d.nx] 41))
  have Q0 := Lib.hid (al1 w (.cells #[.slice A0 d.lo.length c0, .slice A1 d.ts.length c1, .slice A2 d.ag.length c2, .slice A3 d.ce.length c3, .slice A4 d.vo.length c4, .int .i64 d.nx] 41))
  have HC := Lib.hid (containsN_any (.slice A2 d.ag.length c2) d.ag d w.heap.size _ _ _ _ _ _ (h.2.1.on HB.out) Q0.out hg)
  obtain ⟨R, hR⟩ : ∃ R, nextB d = R := ⟨_, rfl⟩
  rw [hR]
  unfold nextB at hR
  have HX := Lib.hid hR.symm
  clear h hs hR hg
  obtain ⟨S, hS⟩ : ∃ S, d.ag.all (fun a => decide (a.a < d.nx)) = S := ⟨_, rfl⟩
  rw [hS] at HX HC
  clear hS
  go_enter Tryz.func76, Tryz.ntmps76
  go_upto_region 1 with (fail)
  generalize w.alloc (.cells #[.slice A0 d.lo.length c0, .slice A1 d.ts.length c1, .slice A2 d.ag.length c2, .slice A3 d.ce.length c3, .slice A4 d.vo.length c4, .int .i64 d.nx] 41) = W at *
  obtain ⟨x0, x1, x2, x3, x4, x5, x6⟩ := boxP Q0.out
  go_wp2_with fail
  refine HC.out.mono ?_
  rintro e w1 ⟨rfl, b1⟩
  replace Q0 := Lib.hid (box_on Q0.out b1)
  replace HB := Lib.hid (bstep HB.out b1)
  clear x0 x1 x2 x3 x4 x5 x6 b1
  obtain ⟨x0, x1, x2, x3, x4, x5, x6⟩ := boxP Q0.out
  by_cases h1 : 1 ≤ d.nx
  · have e1 : decide (d.nx ≥ 1) = true := decide_eq_true (by omega)
    by_cases h2 : d.nx ≤ 61
    · have e2 : decide (d.nx ≤ 61) = true := decide_eq_true h2
      have HF : Hid (R = S) := Lib.hid (by rw [HX.out, decide_eq_true h1, e2]; rfl)
      cases S
      all_goals
        go_wp2
        go_ret
        exact ⟨by rw [HF.out]; rfl, HB.out⟩
    · have e2 : decide (d.nx ≤ 61) = false := decide_eq_false h2
      have HF : Hid (R = false) := Lib.hid (by rw [HX.out, e2, Bool.and_false]; rfl)
      go_wp2
      go_ret
      exact ⟨by rw [HF.out]; rfl, HB.out⟩
  · have e1 : decide (d.nx ≥ 1) = false := decide_eq_false (by omega)
    have HF : Hid (R = false) := Lib.hid (by rw [HX.out, decide_eq_false h1]; rfl)
    go_wp2
    go_ret
    exact ⟨by rw [HF.out]; rfl, HB.out⟩
/-- The closure of agesExist, bound to the mappings' box. -/
theorem agesExist1_any (k : KeyD) (ag : List AgeD) (pb : Nat) (a0 a1 a3 A : Value) (w : World) (hv : Reads w w.heap.size A (agesD ag)) (hn : ag.length ≤ 2097152) (hp : w.heap[pb]? = some (.cells #[a0, a1, A, a3] 113 (0, 0))) :
    Calls Tryz.prog 146 #[k.v, .pointer (some ⟨pb, 0, none⟩)] w (SaysBool w (!decide (0 ≤ ageAtK ag k.b))) := by
  unfold KeyD.v keyV
  have HA := Lib.hid (fun W b => implAgeAt_any A ag k.b W (hv.on b) hn)
  obtain ⟨A2, c2, rfl, _, _⟩ := hv.shapeG
  have Q0 := Lib.hid (al1 w (.cells #[.int .i64 k.a, .int .i64 k.b, .int .i64 k.c, .int .i64 k.d, .int .i64 k.e] 58))
  have b0 := bal1 w (.cells #[.int .i64 k.a, .int .i64 k.b, .int .i64 k.c, .int .i64 k.d, .int .i64 k.e] 58)
  have HB := Lib.hid b0
  have HP := Lib.hid (box4 (box_on hp b0)).2.2.1
  clear hp b0 hv
  go_enter Tryz.func146, Tryz.ntmps146
  go_upto_region 1 with (fail)
  generalize w.alloc (.cells #[.int .i64 k.a, .int .i64 k.b, .int .i64 k.c, .int .i64 k.d, .int .i64 k.e] 58) = W at *
  obtain ⟨x0, x1, x2, x3, x4, x5⟩ := box5 Q0.out
  have y0 := HP.out
  go_wp2_with fail
  refine (HA.out _ HB.out).mono ?_
  rintro e w1 ⟨rfl, b1⟩
  have B1 := Lib.hid (bstep HB.out b1)
  clear b1 x0 x1 x2 x3 x4 x5 y0
  generalize ageAtK ag k.b = n at *
  by_cases h0 : 0 ≤ n
  · have e1 : decide (n < 0) = false := decide_eq_false (by omega)
    go_wp2
    go_ret
    exact ⟨by rw [decide_eq_true h0]; rfl, B1.out⟩
  · have e1 : decide (n < 0) = true := decide_eq_true (by omega)
    go_wp2
    go_ret
    exact ⟨by rw [decide_eq_false (by omega)]; rfl, B1.out⟩
set_option maxHeartbeats 1000000 in
theorem indexFuncG_any (v : Value) (l : List KeyD) (ag : List AgeD) (pb : Nat) (a0 a1 a3 A : Value) (w : World) (hv : Reads w w.heap.size v (keysD l)) (ha : Reads w w.heap.size A (agesD ag)) (hng : ag.length ≤ 2097152) (hp : w.heap[pb]? = some (.cells #[a0, a1, A, a3] 113 (0, 0))) (hn : l.length ≤ 2097152) :
    Calls Tryz.prog 192 #[v, .func (.func 146) #[] #[.pointer (some ⟨pb, 0, none⟩)]] w fun e w' => ∃ n : Int, e = .returned (.int .i64 n) ∧ decide (n ≥ 0) = !(l.all (fun k => decide (0 ≤ ageAtK ag k.b))) ∧ Below w.heap.size w w' := by
  obtain ⟨AA, c, rfl, _, _⟩ := hv.shapeK
  have HT := Lib.hid (agesExist1_any)
  have HV := Lib.hid hv
  have HP := Lib.hid hp
  have HG := Lib.hid ha
  clear ha
  unfold KeyD.v keyV at HT
  clear hv hp
  go_enter Tryz.func192, Tryz.ntmps192
  go_wp2
  go_loopw [5, 8] (fun _ i wr => ∃ k : Nat, k ≤ l.length ∧ i = .int .i64 k ∧ Hid (∀ j (hj : j < k) (hl : j < l.length), (fun k : KeyD => decide (0 ≤ ageAtK ag k.b)) l[j] = true) ∧ Hid (Below w.heap.size w wr)) (fun _ i _ => l.length - (intOf i).toNat)
  case atStart => exact ⟨0, Nat.zero_le _, rfl, Lib.hid (fun j hj => by omega), Lib.hid (Below.refl _ _)⟩
  case round =>
    obtain ⟨k, hk, rfl, HI, HB⟩ := hrel
    by_cases hlt : k < l.length
    · obtain ⟨b, off, rfl, hbb, hc⟩ := (HV.out.on HB.out).keys hlt
      have i1 : (k : Int) < (l.length : Int) := by omega
      have i2 : (0 : Int) ≤ (k : Int) := by omega
      obtain ⟨c0, c1, c2, c3, c4⟩ := hc k hlt
      have HX := Lib.hid (HT.out l[k] ag pb a0 a1 a3 A wr (HG.out.on HB.out) hng (box_on HP.out HB.out))
      clear hc
      cases hs : (fun k : KeyD => decide (0 ≤ ageAtK ag k.b)) l[k]
      · have HA : Hid (l.all (fun k => decide (0 ≤ ageAtK ag k.b)) = false) := Lib.hid (allP_miss (p := fun k : KeyD => decide (0 ≤ ageAtK ag k.b)) hlt hs)
        rw [show (decide (0 ≤ ageAtK ag (l[k]).b)) = false from hs] at HX
        clear hs
        go_wp2_with fail
        go_at_call 146
        refine HX.out.mono ?_
        rintro r w8 ⟨rfl, b8⟩
        have B8 := Lib.hid (bstep HB.out b8)
        have HQ : Hid (decide ((k : Int) ≥ 0) = true) := Lib.hid (decide_eq_true (by omega))
        clear b8 c0 c1 c2 c3 c4
        go_wp2
        go_ret
        exact ⟨_, rfl, by rw [HA.out]; exact HQ.out, B8.out⟩
      · have HA := Lib.hid (allP_snoc (p := fun k : KeyD => decide (0 ≤ ageAtK ag k.b)) hlt HI.out hs)
        rw [show (decide (0 ≤ ageAtK ag (l[k]).b)) = true from hs] at HX
        clear hs
        go_wp2_with fail
        go_at_call 146
        refine HX.out.mono ?_
        rintro r w8 ⟨rfl, b8⟩
        have B8 := Lib.hid (bstep HB.out b8)
        clear b8 c0 c1 c2 c3 c4
        go_wp2
        go_roundw
        case rel => exact ⟨k + 1, by omega, by go_num, HA, B8⟩
        case measure => simp [intOf]; omega
    · have HA : Hid (l.all (fun k => decide (0 ≤ ageAtK ag k.b)) = true) := Lib.hid (allP_done (p := fun k : KeyD => decide (0 ≤ ageAtK ag k.b)) (fun j hl => HI.out j (by omega) hl))
      go_wp2
      go_ret
      exact ⟨_, rfl, by rw [HA.out]; rfl, HB.out⟩
theorem containsG_any (v : Value) (l : List KeyD) (ag : List AgeD) (pb : Nat) (a0 a1 a3 A : Value) (w : World) (hv : Reads w w.heap.size v (keysD l)) (ha : Reads w w.heap.size A (agesD ag)) (hng : ag.length ≤ 2097152) (hp : w.heap[pb]? = some (.cells #[a0, a1, A, a3] 113 (0, 0))) (hn : l.length ≤ 2097152) :
    Calls Tryz.prog 144 #[v, .func (.func 146) #[] #[.pointer (some ⟨pb, 0, none⟩)]] w (SaysBool w (!(l.all (fun k => decide (0 ≤ ageAtK ag k.b))))) := by
  have HI := Lib.hid (indexFuncG_any v l ag pb a0 a1 a3 A w hv ha hng hp hn)
  obtain ⟨R, hR⟩ : ∃ R, (!(l.all (fun k => decide (0 ≤ ageAtK ag k.b)))) = R := ⟨_, rfl⟩
  rw [hR] at HI ⊢
  clear hR
  obtain ⟨AA, c, rfl, _, _⟩ := hv.shapeK
  clear hv hp ha
  go_enter Tryz.func144, Tryz.ntmps144
  go_wp2_with fail
  refine HI.out.mono ?_
  rintro r w1 ⟨n, rfl, hd, b⟩
  have HB := Lib.hid b
  clear b
  go_wp2
  go_ret
  exact ⟨rfl, HB.out⟩
theorem agesExist_any {t : TypeId} (vl vn va vc vv : Value) (d : PoolD) (w : World) (h : RdP t w w.heap.size vl vn va vc vv d) (hs : SmallP d) (hl : (treeKeysK d.ts).length ≤ 2097152) : Calls Tryz.prog 78 #[.agg #[vl, vn, va, vc]] w (SaysBool w (agesB d)) := by
  have hg : d.ag.length ≤ 2097152 := by have := hs.2.1; omega
  have h1 := hs.1
  have HK := Lib.hid (fun W b => treeKeysM_any vl vn d.lo d.ts W (h.1.on b) (by omega) (by omega))
  obtain ⟨A0, c0, A1, c1, A2, c2, A3, c3, A4, c4, rfl, rfl, rfl, rfl, rfl⟩ := h.shape
  have HB := Lib.hid (bal1 w (.cells #[.slice A0 d.lo.length c0, .slice A1 d.ts.length c1, .slice A2 d.ag.length c2, .slice A3 d.ce.length c3] 113))
  have Q0 := Lib.hid (al1 w (.cells #[.slice A0 d.lo.length c0, .slice A1 d.ts.length c1, .slice A2 d.ag.length c2, .slice A3 d.ce.length c3] 113))
  have HG := Lib.hid h.2.1
  clear h hs h1
  unfold agesB
  obtain ⟨R, hR⟩ : ∃ R, (treeKeysK d.ts).all (fun k => decide (0 ≤ ageAtK d.ag k.b)) = R := ⟨_, rfl⟩
  rw [hR]
  have HX := Lib.hid hR
  clear hR
  go_enter Tryz.func78, Tryz.ntmps78
  go_upto_region 1 with (fail)
  generalize w.alloc (.cells #[.slice A0 d.lo.length c0, .slice A1 d.ts.length c1, .slice A2 d.ag.length c2, .slice A3 d.ce.length c3] 113) = W at *
  obtain ⟨x0, x1, x2, x3, x4⟩ := box4 Q0.out
  go_wp2_with fail
  refine (HK.out _ HB.out).mono ?_
  rintro e w1 ⟨v1, rfl, o, b1⟩
  replace Q0 := Lib.hid (box_on Q0.out b1)
  replace HB := Lib.hid (bstep HB.out b1)
  have HC := Lib.hid (containsG_any v1 (treeKeysK d.ts) d.ag w.heap.size _ _ _ _ w1 o.owns.reads (HG.out.on HB.out) hg Q0.out hl)
  rw [HX.out] at HC
  obtain ⟨A5, c5, rfl, _, _⟩ := o.owns.reads.lenN
  clear x0 x1 x2 x3 x4 o b1
  obtain ⟨x0, x1, x2, x3, x4⟩ := box4 Q0.out
  go_wp2_with fail
  refine HC.out.mono ?_
  rintro e w2 ⟨rfl, b1⟩
  replace HB := Lib.hid (bstep HB.out b1)
  clear b1
  cases R
  all_goals
    go_wp2
    go_ret
    exact ⟨rfl, HB.out⟩
end Go.Proofs.YtpfepcjbhchpcaaGreat
namespace Go.Proofs.YtpfepcjbhchpcaaGreat
open Go.RowKit
set_option maxRecDepth 100000
set_option linter.unusedSimpArgs false
set_option linter.unusedVariables false

theorem anyP_snoc {α : Type} {p : α → Bool} {l : List α} {k : Nat} (h : k < l.length) (hi : ∀ j (hj : j < k) (hl : j < l.length), p l[j] = false) (hp : p l[k] = false) : ∀ j (hj : j < k + 1) (hl : j < l.length), p l[j] = false := by
  intro j hj hl
  by_cases h3 : j < k
  · exact hi j h3 hl
  · have : j = k := by omega
    subst this
    exact hp
theorem anyP_done {α : Type} {p : α → Bool} {l : List α} (h : ∀ j (hl : j < l.length), p l[j] = false) : l.any p = false := by
  rw [List.any_eq_false]
  intro v hv
  obtain ⟨i, hi, rfl⟩ := List.mem_iff_getElem.1 hv
  rw [h i hi]
  simp
set_option maxHeartbeats 1000000 in
/-- slices.IndexFunc at a closure that says p, whose captured pointers are given. -/
theorem indexV2_any (v : Value) (l : List VolD) (p : VolD → Bool) (P1 P2 : Value) (w : World) (hv : Reads w w.heap.size v (volsD l)) (hn : l.length ≤ 2097152)
    (hX : ∀ (j : Nat) (hj : j < l.length) (W : World), Below w.heap.size w W → Calls Tryz.prog 200 #[.agg #[.string (l[j]).a, .int .i64 (l[j]).b, .int .i64 (l[j]).c, .bool (l[j]).d], P1, P2] W (SaysBool W (p l[j]))) :
    Calls Tryz.prog 229 #[v, .func (.func 200) #[] #[P1, P2]] w fun e w' => ∃ n : Int, e = .returned (.int .i64 n) ∧ decide (n ≥ 0) = l.any p ∧ Below w.heap.size w w' := by
  obtain ⟨A, c, rfl, _, _⟩ := hv.shapeVol
  have HV := Lib.hid hv
  have HX := Lib.hid hX
  clear hv hX
  go_enter Tryz.func229, Tryz.ntmps229
  go_wp2
  go_loopw [5, 8] (fun _ i wr => ∃ k : Nat, k ≤ l.length ∧ i = .int .i64 k ∧ Hid (∀ j (hj : j < k) (hl : j < l.length), p l[j] = false) ∧ Hid (Below w.heap.size w wr)) (fun _ i _ => l.length - (intOf i).toNat)
  case atStart => exact ⟨0, Nat.zero_le _, rfl, Lib.hid (fun j hj => by omega), Lib.hid (Below.refl _ _)⟩
  case round =>
    obtain ⟨k, hk, rfl, HI, HB⟩ := hrel
    by_cases hlt : k < l.length
    · obtain ⟨b, off, rfl, hbb, hc⟩ := (HV.out.on HB.out).vols hlt
      have i1 : (k : Int) < (l.length : Int) := by omega
      have i2 : (0 : Int) ≤ (k : Int) := by omega
      obtain ⟨y0, y1, y2, y3⟩ := hc k hlt
      have H1 := Lib.hid (HX.out k hlt wr HB.out)
      clear hc
      cases hs : p l[k]
      · have HA := Lib.hid (anyP_snoc hlt HI.out hs)
        rw [hs] at H1
        clear hs
        go_wp2_with fail
        go_at_call 200
        refine H1.out.mono ?_
        rintro r w8 ⟨rfl, b8⟩
        have B8 := Lib.hid (bstep HB.out b8)
        clear b8 y0 y1 y2 y3
        go_wp2
        go_roundw
        case rel => exact ⟨k + 1, by omega, by go_num, HA, B8⟩
        case measure => simp [intOf]; omega
      · have HA : Hid (l.any p = true) := Lib.hid (List.any_eq_true.2 ⟨_, List.getElem_mem hlt, hs⟩)
        rw [hs] at H1
        clear hs
        go_wp2_with fail
        go_at_call 200
        refine H1.out.mono ?_
        rintro r w8 ⟨rfl, b8⟩
        have B8 := Lib.hid (bstep HB.out b8)
        have HQ : Hid (decide ((k : Int) ≥ 0) = true) := Lib.hid (decide_eq_true (by omega))
        clear b8 y0 y1 y2 y3
        go_wp2
        go_ret
        exact ⟨_, rfl, by rw [HA.out]; exact HQ.out, B8.out⟩
    · have HA : Hid (l.any p = false) := Lib.hid (anyP_done (fun j hl => HI.out j (by omega) hl))
      go_wp2
      go_ret
      exact ⟨_, rfl, by rw [HA.out]; rfl, HB.out⟩
theorem containsV2_any (v : Value) (l : List VolD) (p : VolD → Bool) (P1 P2 : Value) (w : World) (hv : Reads w w.heap.size v (volsD l)) (hn : l.length ≤ 2097152)
    (hX : ∀ (j : Nat) (hj : j < l.length) (W : World), Below w.heap.size w W → Calls Tryz.prog 200 #[.agg #[.string (l[j]).a, .int .i64 (l[j]).b, .int .i64 (l[j]).c, .bool (l[j]).d], P1, P2] W (SaysBool W (p l[j]))) :
    Calls Tryz.prog 199 #[v, .func (.func 200) #[] #[P1, P2]] w (SaysBool w (l.any p)) := by
  have HI := Lib.hid (indexV2_any v l p P1 P2 w hv hn hX)
  obtain ⟨R, hR⟩ : ∃ R, l.any p = R := ⟨_, rfl⟩
  rw [hR] at HI ⊢
  clear hR hX
  obtain ⟨A, c, rfl, _, _⟩ := hv.shapeVol
  clear hv
  go_enter Tryz.func199, Tryz.ntmps199
  go_wp2_with fail
  refine HI.out.mono ?_
  rintro r w1 ⟨n, rfl, hd, b⟩
  have HB := Lib.hid b
  clear b
  go_wp2
  go_ret
  exact ⟨rfl, HB.out⟩
set_option maxHeartbeats 1000000 in
/-- slices.IndexFunc at a closure that says p, whose captured pointers are given. -/
theorem indexK2_any (v : Value) (l : List KeyD) (p : KeyD → Bool) (P1 : Value) (w : World) (hv : Reads w w.heap.size v (keysD l)) (hn : l.length ≤ 2097152)
    (hX : ∀ (j : Nat) (hj : j < l.length) (W : World), Below w.heap.size w W → Calls Tryz.prog 154 #[.agg #[.int .i64 (l[j]).a, .int .i64 (l[j]).b, .int .i64 (l[j]).c, .int .i64 (l[j]).d, .int .i64 (l[j]).e], P1] W (SaysBool W (p l[j]))) :
    Calls Tryz.prog 192 #[v, .func (.func 154) #[] #[P1]] w fun e w' => ∃ n : Int, e = .returned (.int .i64 n) ∧ decide (n ≥ 0) = l.any p ∧ Below w.heap.size w w' := by
  obtain ⟨A, c, rfl, _, _⟩ := hv.shapeK
  have HV := Lib.hid hv
  have HX := Lib.hid hX
  clear hv hX
  go_enter Tryz.func192, Tryz.ntmps192
  go_wp2
  go_loopw [5, 8] (fun _ i wr => ∃ k : Nat, k ≤ l.length ∧ i = .int .i64 k ∧ Hid (∀ j (hj : j < k) (hl : j < l.length), p l[j] = false) ∧ Hid (Below w.heap.size w wr)) (fun _ i _ => l.length - (intOf i).toNat)
  case atStart => exact ⟨0, Nat.zero_le _, rfl, Lib.hid (fun j hj => by omega), Lib.hid (Below.refl _ _)⟩
  case round =>
    obtain ⟨k, hk, rfl, HI, HB⟩ := hrel
    by_cases hlt : k < l.length
    · obtain ⟨b, off, rfl, hbb, hc⟩ := (HV.out.on HB.out).keys hlt
      have i1 : (k : Int) < (l.length : Int) := by omega
      have i2 : (0 : Int) ≤ (k : Int) := by omega
      obtain ⟨y0, y1, y2, y3, y4⟩ := hc k hlt
      have H1 := Lib.hid (HX.out k hlt wr HB.out)
      clear hc
      cases hs : p l[k]
      · have HA := Lib.hid (anyP_snoc hlt HI.out hs)
        rw [hs] at H1
        clear hs
        go_wp2_with fail
        go_at_call 154
        refine H1.out.mono ?_
        rintro r w8 ⟨rfl, b8⟩
        have B8 := Lib.hid (bstep HB.out b8)
        clear b8 y0 y1 y2 y3 y4
        go_wp2
        go_roundw
        case rel => exact ⟨k + 1, by omega, by go_num, HA, B8⟩
        case measure => simp [intOf]; omega
      · have HA : Hid (l.any p = true) := Lib.hid (List.any_eq_true.2 ⟨_, List.getElem_mem hlt, hs⟩)
        rw [hs] at H1
        clear hs
        go_wp2_with fail
        go_at_call 154
        refine H1.out.mono ?_
        rintro r w8 ⟨rfl, b8⟩
        have B8 := Lib.hid (bstep HB.out b8)
        have HQ : Hid (decide ((k : Int) ≥ 0) = true) := Lib.hid (decide_eq_true (by omega))
        clear b8 y0 y1 y2 y3 y4
        go_wp2
        go_ret
        exact ⟨_, rfl, by rw [HA.out]; exact HQ.out, B8.out⟩
    · have HA : Hid (l.any p = false) := Lib.hid (anyP_done (fun j hl => HI.out j (by omega) hl))
      go_wp2
      go_ret
      exact ⟨_, rfl, by rw [HA.out]; rfl, HB.out⟩
theorem containsK2_any (v : Value) (l : List KeyD) (p : KeyD → Bool) (P1 : Value) (w : World) (hv : Reads w w.heap.size v (keysD l)) (hn : l.length ≤ 2097152)
    (hX : ∀ (j : Nat) (hj : j < l.length) (W : World), Below w.heap.size w W → Calls Tryz.prog 154 #[.agg #[.int .i64 (l[j]).a, .int .i64 (l[j]).b, .int .i64 (l[j]).c, .int .i64 (l[j]).d, .int .i64 (l[j]).e], P1] W (SaysBool W (p l[j]))) :
    Calls Tryz.prog 144 #[v, .func (.func 154) #[] #[P1]] w (SaysBool w (l.any p)) := by
  have HI := Lib.hid (indexK2_any v l p P1 w hv hn hX)
  obtain ⟨R, hR⟩ : ∃ R, l.any p = R := ⟨_, rfl⟩
  rw [hR] at HI ⊢
  clear hR hX
  obtain ⟨A, c, rfl, _, _⟩ := hv.shapeK
  clear hv
  go_enter Tryz.func144, Tryz.ntmps144
  go_wp2_with fail
  refine HI.out.mono ?_
  rintro r w1 ⟨n, rfl, hd, b⟩
  have HB := Lib.hid b
  clear b
  go_wp2
  go_ret
  exact ⟨rfl, HB.out⟩
end Go.Proofs.YtpfepcjbhchpcaaGreat
namespace Go.Proofs.YtpfepcjbhchpcaaGreat
open Go.RowKit
set_option maxRecDepth 100000
set_option linter.unusedSimpArgs false
set_option linter.unusedVariables false

def lessVV : Value := .func (.func 189) #[] #[]
theorem store_lessV (a : Addr) (m : Mode) (w : World) : (store a (.func (.func 189) #[] #[]) m).run Tryz.prog w = stored Tryz.prog w a (.func (.func 189) #[] #[]) m := run_store _ w a _ m rfl
theorem volSet_any (A : Option Addr) (n c : Nat) (w : World) : Calls Tryz.prog 139 #[.slice A n c] w fun e w' => e = .returned (.agg #[.slice A n c, lessVV]) ∧ Below w.heap.size w w' := by
  have hst := store_lessV
  go_enter Tryz.func139, Tryz.ntmps139
  go_wp2
  exact bodyPost_ret (v := .agg #[.slice A n c, lessVV]) (by simp [results, Tryz.results139, go_sem, lessVV]) rfl ⟨rfl, bal1 _ _⟩
theorem lessVol_any (x y : VolD) (w : World) : Calls Tryz.prog 189 #[.agg #[.string x.a, .int .i64 x.b, .int .i64 x.c, .bool x.d], .agg #[.string y.a, .int .i64 y.b, .int .i64 y.c, .bool y.d]] w (SaysBool w (ltV x y)) := by
  cases hR : ltV x y
  all_goals
    have hS : Go.Op.bytesLess x.a.toList y.a.toList = _ := hR
    go_enter Tryz.func189, Tryz.ntmps189
    go_wp2
    go_ret
    exact ⟨rfl, bal2 _ _ _⟩
theorem ascB_snoc {l : List VolD} {j : Nat} (hlt : j + 1 < l.length) (h : ∀ i (h : i < j) (h2 : i + 1 < l.length), ltV l[i] l[i + 1] = true) (h2 : ltV l[j] l[j + 1] = true) : ∀ i (h : i < j + 1) (h2 : i + 1 < l.length), ltV l[i] l[i + 1] = true := by
  intro i hi h4
  by_cases h3 : i < j
  · exact h i h3 h4
  · have : i = j := by omega
    subst this
    exact h2
set_option maxHeartbeats 1000000 in
theorem ascendingV_any (v : Value) (l : List VolD) (w : World) (hv : Reads w w.heap.size v (volsD l)) (hn : l.length ≤ 2097152) : Calls Tryz.prog 140 #[.agg #[v, lessVV]] w (SaysBool w (ascB l)) := by
  obtain ⟨A, c, rfl, _, _⟩ := hv.shapeVol
  have HT := Lib.hid lessVol_any
  unfold lessVV
  have HV := Lib.hid (hv.on (bal1 w (.cells #[.slice A l.length c, .func (.func 189) #[] #[]] 173)))
  have Q0 := Lib.hid (al1 w (.cells #[.slice A l.length c, .func (.func 189) #[] #[]] 173))
  have HB := Lib.hid (bal1 w (.cells #[.slice A l.length c, .func (.func 189) #[] #[]] 173))
  clear hv
  go_enter Tryz.func140, Tryz.ntmps140
  go_wp2
  generalize w.alloc (.cells #[.slice A l.length c, .func (.func 189) #[] #[]] 173) = W at *
  go_loopw [3] (fun i wr => ∃ j : Nat, (j < l.length ∨ j = 0) ∧ i = .int .i64 ((j : Int) + 1) ∧ Hid (∀ i (h : i < j) (h2 : i + 1 < l.length), ltV l[i] l[i + 1] = true) ∧ Hid (Below W.heap.size W wr)) (fun i _ => l.length - (intOf i).toNat)
  case atStart => exact ⟨0, .inr rfl, rfl, Lib.hid (fun i h => by omega), Lib.hid (Below.refl _ _)⟩
  case round =>
    obtain ⟨j, hj, rfl, HI, HW⟩ := hrel
    obtain ⟨x0, x1, x2⟩ := box2 (box_on Q0.out HW.out)
    by_cases hlt : j + 1 < l.length
    · obtain ⟨b, off, rfl, hbb, hc⟩ := (HV.out.on HW.out).vols hlt
      have F := Lib.hid (hc j (by omega))
      have F' := Lib.hid (hc (j + 1) hlt)
      have i1 : (j : Int) + 1 < (l.length : Int) := by omega
      have i2 : (0 : Int) ≤ (j : Int) + 1 := by omega
      have i3 : IntKind.i64.wrap ((j : Int) + 1 - 1) = (j : Int) := by rw [IntKind.wrap_i64]; omega
      have i7 : IntKind.i64.wrap (j : Int) = (j : Int) := by rw [IntKind.wrap_i64]; omega
      have i4 : (j : Int) < (l.length : Int) := by omega
      have i5 : (0 : Int) ≤ (j : Int) := by omega
      have i6 : ((j : Int) + 1).toNat = j + 1 := by omega
      have HP := Lib.hid (box_on Q0.out HW.out)
      clear hc
      obtain ⟨c0, c1, c2, c3⟩ := F.out
      obtain ⟨d0, d1, d2, d3⟩ := F'.out
      cases hless : ltV l[j] l[j + 1]
      all_goals
        have HL := Lib.hid hless
        clear hless
        go_wp2
        go_region_held3 (fun W => W.cell? ⟨w.heap.size, 0, none⟩ = some (.slice (some ⟨b, off, none⟩) l.length c) ∧ W.cell? ⟨w.heap.size, 1, none⟩ = some (.func (.func 189) #[] #[]) ∧ W.cell? ⟨b, off + j * 4, none⟩ = some (.string (l[j]).a) ∧ W.cell? ⟨b, off + j * 4 + 1, none⟩ = some (.int .i64 (l[j]).b) ∧ W.cell? ⟨b, off + j * 4 + 2, none⟩ = some (.int .i64 (l[j]).c) ∧ W.cell? ⟨b, off + j * 4 + 3, none⟩ = some (.bool (l[j]).d) ∧ W.cell? ⟨b, off + (j + 1) * 4, none⟩ = some (.string (l[j + 1]).a) ∧ W.cell? ⟨b, off + (j + 1) * 4 + 1, none⟩ = some (.int .i64 (l[j + 1]).b) ∧ W.cell? ⟨b, off + (j + 1) * 4 + 2, none⟩ = some (.int .i64 (l[j + 1]).c) ∧ W.cell? ⟨b, off + (j + 1) * 4 + 3, none⟩ = some (.bool (l[j + 1]).d))
          (first | with_reducible exact ⟨(box2 (box_on HP.out B8)).1, (box2 (box_on HP.out B8)).2.1, (F.out.on hbb B8).1, (F.out.on hbb B8).2.1, (F.out.on hbb B8).2.2.1, (F.out.on hbb B8).2.2.2, (F'.out.on hbb B8).1, (F'.out.on hbb B8).2.1, (F'.out.on hbb B8).2.2.1, (F'.out.on hbb B8).2.2.2⟩ | with_reducible exact ⟨(box2 (box_on HP.out (Below.drew1 _))).1, (box2 (box_on HP.out (Below.drew1 _))).2.1, (F.out.on hbb (Below.drew1 _)).1, (F.out.on hbb (Below.drew1 _)).2.1, (F.out.on hbb (Below.drew1 _)).2.2.1, (F.out.on hbb (Below.drew1 _)).2.2.2, (F'.out.on hbb (Below.drew1 _)).1, (F'.out.on hbb (Below.drew1 _)).2.1, (F'.out.on hbb (Below.drew1 _)).2.2.1, (F'.out.on hbb (Below.drew1 _)).2.2.2⟩ | exact ⟨x0, x1, F.out.1, F.out.2.1, F.out.2.2.1, F.out.2.2.2, F'.out.1, F'.out.2.1, F'.out.2.2.1, F'.out.2.2.2⟩ | fail)
          (first
            | (go_at_call 189; refine (HT.out l[j] l[j + 1] _).mono ?_; rintro r w8 ⟨rfl, b8⟩; rw [HL.out]; have B8 := bstep (Below.drew1 _) b8)
            | fail)
        all_goals
          have BC := Lib.hid (HW.out.trans (B8.mono HW.out.size))
          clear B8 b8 c0 c1 c2 c3 d0 d1 d2 d3 x0 x1 x2
          go_wp2
          first
            | go_ret
              refine ⟨ret_boolB ?_, bstep HB.out BC.out⟩
              symm
              refine decide_eq_false (fun h => ?_)
              have h2 := h j (by omega)
              rw [HL.out] at h2
              cases h2
            | go_roundw
              case rel => exact ⟨j + 1, .inl hlt, by go_num, Lib.hid (ascB_snoc hlt HI.out HL.out), BC⟩
              case measure => simp [intOf]; omega
    · have i2 : ¬ (j : Int) + 1 < (l.length : Int) := by omega
      go_wp2
      go_ret
      refine ⟨ret_boolB ?_, bstep HB.out HW.out⟩
      symm
      exact decide_eq_true (fun i h => HI.out i (by omega) (by omega))
theorem sizeOk_any (n : Int) (w : World) : Calls Tryz.prog 142 #[.int .i64 n] w fun e w' => e = .returned (.bool (sizeB n)) ∧ w = w' := by
  unfold sizeB
  cases h1 : decide (1 ≤ n) <;> cases h2 : decide (n ≤ 12)
  all_goals
    go_enter Tryz.func142, Tryz.ntmps142
    go_wp2
    go_ret
    exact ⟨rfl, rfl⟩
end Go.Proofs.YtpfepcjbhchpcaaGreat
