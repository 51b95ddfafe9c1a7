/- Several texts in one: AgeOkS, PoolOkS, ExPoolOk. -/
import Derived.Test.YtmpgmjnagpiijaaGreatPkPF
namespace Go.Proofs.YtmpgmjnagpiijaaGreat
open Go.RowKit
set_option maxRecDepth 100000
set_option linter.unusedSimpArgs false
set_option linter.unusedVariables false

set_option maxHeartbeats 4000000 in
theorem specAgesOk_any (v : Value) (l : List AgeD) (w : World) (hv : Reads w w.heap.size v (agesD l)) (hn : l.length ≤ 2097152) : Calls Tryz.prog 14 #[v] w (SaysBool w (agesOkB l)) := by
  obtain ⟨A, c, rfl, hcap, hmax⟩ := hv.shapeG
  obtain ⟨R, hR⟩ : ∃ R, agesOkB l = R := ⟨_, rfl⟩
  rw [hR]
  have HR := Lib.hid hR
  have HV := Lib.hid hv
  clear hv hR
  go_enter Tryz.func14, Tryz.ntmps14
  go_wp2
  go_loopw [3] (fun i wr => ∃ k : Nat, k ≤ l.length ∧ i = .int .i64 k ∧ Hid (∀ j, j < k → fitG l j = true) ∧ Hid (∀ j (h : j + 1 < l.length), j + 1 < k → (l[j]).a < (l[j + 1]).a) ∧ Hid (Below w.heap.size w wr)) (fun i _ => l.length - (intOf i).toNat)
  case atStart => exact ⟨0, Nat.zero_le _, rfl, Lib.hid (fun j h => by omega), Lib.hid (fun j h h2 => by omega), Lib.hid (Below.refl _ _)⟩
  case round =>
    obtain ⟨k, hk, rfl, HI, HJ, HW⟩ := hrel
    by_cases hlt : k < l.length
    · have HTK := Lib.hid ((HV.out.on HW.out).takeG k hk)
      obtain ⟨b, off, rfl, hbb, hc⟩ := (HV.out.on HW.out).ages hlt
      have i1 : (k : Int) < (l.length : Int) := by omega
      have i2 : (0 : Int) ≤ (k : Int) := by omega
      have i3 : (k : Int) ≤ (c : Int) := by omega
      have i4 : k ≤ c := by omega
      have FK := Lib.hid (hc k hlt)
      have hfit := gfit_at hlt
      cases hid : idG (l[k]).a
      · have HID := Lib.hid hid
        have HBAD : Hid (agesOkB l = false) := Lib.hid (fit_miss hlt (by rw [hfit, hid]; rfl))
        clear hc hfit hid
        go_upto_region 4 with (fail)
        refine but_begin (f := 24) (S := fun V => Below wr.drew.heap.size wr.drew V) (by kernel_rfl) ?_
        refine but_take (f := 24) (i := 0) (v := ?vsb0) rfl (by kernel_rfl) (by kernel_rfl) (by kernel_rfl) (by kernel_rfl) (by kernel_rfl) (fun _ _ _ h => h) (Or.inl ⟨(by rfl), ?hysb0⟩) (Below.refl _ _) ?restsb0
        case hysb0 =>
          intro W hW
          go_simp
          exact rfl
        simp only [List.getElem_toArray, List.getElem_cons_succ, List.getElem_cons_zero, Act.put, List.setIfInBounds_toArray, List.set_cons_zero, List.set_cons_succ]
        refine but_take (f := 24) (i := 1) (v := ?vsb1) rfl (by kernel_rfl) (by kernel_rfl) (by kernel_rfl) (by kernel_rfl) (by kernel_rfl) (fun _ _ _ h => h) (Or.inl ⟨(by rfl), ?hysb1⟩) (Below.refl _ _) ?restsb1
        case hysb1 =>
          intro W hW
          go_simp
          exact rfl
        simp only [List.getElem_toArray, List.getElem_cons_succ, List.getElem_cons_zero, Act.put, List.setIfInBounds_toArray, List.set_cons_zero, List.set_cons_succ]
        refine but_take (f := 24) (i := 2) (v := ?vsb2) rfl (by kernel_rfl) (by kernel_rfl) (by kernel_rfl) (by kernel_rfl) (by kernel_rfl) (fun _ _ _ h => h) (Or.inl ⟨(by rfl), ?hysb2⟩) (Below.refl _ _) ?restsb2
        case hysb2 =>
          intro W hW
          go_simp
          exact rfl
        simp only [List.getElem_toArray, List.getElem_cons_succ, List.getElem_cons_zero, Act.put, List.setIfInBounds_toArray, List.set_cons_zero, List.set_cons_succ]
        refine but_take (f := 24) (i := 3) (v := ?vsb3) rfl (by kernel_rfl) (by kernel_rfl) (by kernel_rfl) (by kernel_rfl) (by kernel_rfl) (fun _ _ _ h => h) (Or.inl ⟨(by rfl), ?hysb3⟩) (Below.refl _ _) ?restsb3
        case hysb3 =>
          intro W hW
          go_simp
          exact rfl
        simp only [List.getElem_toArray, List.getElem_cons_succ, List.getElem_cons_zero, Act.put, List.setIfInBounds_toArray, List.set_cons_zero, List.set_cons_succ]
        refine but_take (f := 24) (i := 4) (v := ?vsb4) rfl (by kernel_rfl) (by kernel_rfl) (by kernel_rfl) (by kernel_rfl) (by kernel_rfl) (fun _ _ _ h => h) (Or.inl ⟨(by rfl), ?hysb4⟩) (Below.refl _ _) ?restsb4
        case hysb4 =>
          intro W hW
          have hb0 : Below wr.heap.size wr W := bstep (Below.drew1 _) hW
          obtain ⟨y0, y1⟩ := FK.out.on hbb hb0
          go_simp
          exact rfl
        simp only [List.getElem_toArray, List.getElem_cons_succ, List.getElem_cons_zero, Act.put, List.setIfInBounds_toArray, List.set_cons_zero, List.set_cons_succ]
        refine but_run (i := 5) (by kernel_rfl) rfl (by rfl) ?_
        simp only [List.getElem_toArray, List.getElem_cons_succ, List.getElem_cons_zero]
        intro K HK
        go_wp2_with fail
        refine (inG_any (l[k]).a _).mono ?_
        rintro r Vsb1 ⟨rfl, hBsb1⟩
        rw [HID.out]
        have hSsb1 := bstep (Below.refl _ _) hBsb1
        go_wp2_with fail
        refine HK.out _ Vsb1 (fun _ => hSsb1) ?_
        clear HK
        refine but_take (f := 24) (i := 6) (v := ?vsb6) rfl (by kernel_rfl) (by kernel_rfl) (by kernel_rfl) (by kernel_rfl) (by kernel_rfl) (fun _ _ _ h => h) (Or.inl ⟨(by rfl), ?hysb6⟩) hSsb1 ?restsb6
        case hysb6 =>
          intro W hW
          go_simp
          exact rfl
        simp only [List.getElem_toArray, List.getElem_cons_succ, List.getElem_cons_zero, Act.put, List.setIfInBounds_toArray, List.set_cons_zero, List.set_cons_succ]
        refine but_take (f := 24) (i := 7) (v := ?vsb7) rfl (by kernel_rfl) (by kernel_rfl) (by kernel_rfl) (by kernel_rfl) (by kernel_rfl) (fun _ _ _ h => h) (Or.inl ⟨(by rfl), ?hysb7⟩) hSsb1 ?restsb7
        case hysb7 =>
          intro W hW
          go_simp
          exact rfl
        simp only [List.getElem_toArray, List.getElem_cons_succ, List.getElem_cons_zero, Act.put, List.setIfInBounds_toArray, List.set_cons_zero, List.set_cons_succ]
        refine but_take (f := 24) (i := 8) (v := undef) rfl (by kernel_rfl) (by kernel_rfl) (by kernel_rfl) (by kernel_rfl) (by kernel_rfl) (fun _ _ _ h => h) (Or.inr ⟨((wanted_at rfl rfl rfl rfl).trans rfl), rfl⟩) hSsb1 ?_
        simp only [List.getElem_toArray, List.getElem_cons_succ, List.getElem_cons_zero, Act.put, List.setIfInBounds_toArray, List.set_cons_zero, List.set_cons_succ]
        refine but_take (f := 24) (i := 9) (v := undef) rfl (by kernel_rfl) (by kernel_rfl) (by kernel_rfl) (by kernel_rfl) (by kernel_rfl) (fun _ _ _ h => h) (Or.inr ⟨((wanted_at rfl rfl rfl rfl).trans rfl), rfl⟩) hSsb1 ?_
        simp only [List.getElem_toArray, List.getElem_cons_succ, List.getElem_cons_zero, Act.put, List.setIfInBounds_toArray, List.set_cons_zero, List.set_cons_succ]
        refine but_take (f := 24) (i := 10) (v := undef) rfl (by kernel_rfl) (by kernel_rfl) (by kernel_rfl) (by kernel_rfl) (by kernel_rfl) (fun _ _ _ h => h) (Or.inr ⟨((wanted_at rfl rfl rfl rfl).trans rfl), rfl⟩) hSsb1 ?_
        simp only [List.getElem_toArray, List.getElem_cons_succ, List.getElem_cons_zero, Act.put, List.setIfInBounds_toArray, List.set_cons_zero, List.set_cons_succ]
        refine but_take (f := 24) (i := 11) (v := undef) rfl (by kernel_rfl) (by kernel_rfl) (by kernel_rfl) (by kernel_rfl) (by kernel_rfl) (fun _ _ _ h => h) (Or.inr ⟨(wanted_un rfl rfl rfl rfl), rfl⟩) hSsb1 ?_
        simp only [List.getElem_toArray, List.getElem_cons_succ, List.getElem_cons_zero, Act.put, List.setIfInBounds_toArray, List.set_cons_zero, List.set_cons_succ]
        refine but_take (f := 24) (i := 12) (v := undef) rfl (by kernel_rfl) (by kernel_rfl) (by kernel_rfl) (by kernel_rfl) (by kernel_rfl) (fun _ _ _ h => h) (Or.inr ⟨(wanted_un rfl rfl rfl rfl), rfl⟩) hSsb1 ?_
        simp only [List.getElem_toArray, List.getElem_cons_succ, List.getElem_cons_zero, Act.put, List.setIfInBounds_toArray, List.set_cons_zero, List.set_cons_succ]
        refine but_take (f := 24) (i := 13) (v := undef) rfl (by kernel_rfl) (by kernel_rfl) (by kernel_rfl) (by kernel_rfl) (by kernel_rfl) (fun _ _ _ h => h) (Or.inr ⟨(wanted_un rfl rfl rfl rfl), rfl⟩) hSsb1 ?_
        simp only [List.getElem_toArray, List.getElem_cons_succ, List.getElem_cons_zero, Act.put, List.setIfInBounds_toArray, List.set_cons_zero, List.set_cons_succ]
        refine but_take (f := 24) (i := 14) (v := undef) rfl (by kernel_rfl) (by kernel_rfl) (by kernel_rfl) (by kernel_rfl) (by kernel_rfl) (fun _ _ _ h => h) (Or.inr ⟨(wanted_un rfl rfl rfl rfl), rfl⟩) hSsb1 ?_
        simp only [List.getElem_toArray, List.getElem_cons_succ, List.getElem_cons_zero, Act.put, List.setIfInBounds_toArray, List.set_cons_zero, List.set_cons_succ]
        refine but_take (f := 24) (i := 15) (v := undef) rfl (by kernel_rfl) (by kernel_rfl) (by kernel_rfl) (by kernel_rfl) (by kernel_rfl) (fun _ _ _ h => h) (Or.inr ⟨(wanted_un rfl rfl rfl rfl), rfl⟩) hSsb1 ?_
        simp only [List.getElem_toArray, List.getElem_cons_succ, List.getElem_cons_zero, Act.put, List.setIfInBounds_toArray, List.set_cons_zero, List.set_cons_succ]
        refine but_take (f := 24) (i := 16) (v := undef) rfl (by kernel_rfl) (by kernel_rfl) (by kernel_rfl) (by kernel_rfl) (by kernel_rfl) (fun _ _ _ h => h) (Or.inr ⟨(wanted_un rfl rfl rfl rfl), rfl⟩) hSsb1 ?_
        simp only [List.getElem_toArray, List.getElem_cons_succ, List.getElem_cons_zero, Act.put, List.setIfInBounds_toArray, List.set_cons_zero, List.set_cons_succ]
        refine but_take (f := 24) (i := 17) (v := undef) rfl (by kernel_rfl) (by kernel_rfl) (by kernel_rfl) (by kernel_rfl) (by kernel_rfl) (fun _ _ _ h => h) (Or.inr ⟨(wanted_un rfl rfl rfl rfl), rfl⟩) hSsb1 ?_
        simp only [List.getElem_toArray, List.getElem_cons_succ, List.getElem_cons_zero, Act.put, List.setIfInBounds_toArray, List.set_cons_zero, List.set_cons_succ]
        refine but_take (f := 24) (i := 18) (v := undef) rfl (by kernel_rfl) (by kernel_rfl) (by kernel_rfl) (by kernel_rfl) (by kernel_rfl) (fun _ _ _ h => h) (Or.inr ⟨(wanted_un rfl rfl rfl rfl), rfl⟩) hSsb1 ?_
        simp only [List.getElem_toArray, List.getElem_cons_succ, List.getElem_cons_zero, Act.put, List.setIfInBounds_toArray, List.set_cons_zero, List.set_cons_succ]
        refine but_take (f := 24) (i := 19) (v := undef) rfl (by kernel_rfl) (by kernel_rfl) (by kernel_rfl) (by kernel_rfl) (by kernel_rfl) (fun _ _ _ h => h) (Or.inr ⟨(wanted_un rfl rfl rfl rfl), rfl⟩) hSsb1 ?_
        simp only [List.getElem_toArray, List.getElem_cons_succ, List.getElem_cons_zero, Act.put, List.setIfInBounds_toArray, List.set_cons_zero, List.set_cons_succ]
        refine but_take (f := 24) (i := 20) (v := undef) rfl (by kernel_rfl) (by kernel_rfl) (by kernel_rfl) (by kernel_rfl) (by kernel_rfl) (fun _ _ _ h => h) (Or.inr ⟨(wanted_un rfl rfl rfl rfl), rfl⟩) hSsb1 ?_
        simp only [List.getElem_toArray, List.getElem_cons_succ, List.getElem_cons_zero, Act.put, List.setIfInBounds_toArray, List.set_cons_zero, List.set_cons_succ]
        refine but_take (f := 24) (i := 21) (v := undef) rfl (by kernel_rfl) (by kernel_rfl) (by kernel_rfl) (by kernel_rfl) (by kernel_rfl) (fun _ _ _ h => h) (Or.inr ⟨(wanted_un rfl rfl rfl rfl), rfl⟩) hSsb1 ?_
        simp only [List.getElem_toArray, List.getElem_cons_succ, List.getElem_cons_zero, Act.put, List.setIfInBounds_toArray, List.set_cons_zero, List.set_cons_succ]
        refine but_take (f := 24) (i := 22) (v := undef) rfl (by kernel_rfl) (by kernel_rfl) (by kernel_rfl) (by kernel_rfl) (by kernel_rfl) (fun _ _ _ h => h) (Or.inr ⟨(wanted_un rfl rfl rfl rfl), rfl⟩) hSsb1 ?_
        simp only [List.getElem_toArray, List.getElem_cons_succ, List.getElem_cons_zero, Act.put, List.setIfInBounds_toArray, List.set_cons_zero, List.set_cons_succ]
        refine but_take (f := 24) (i := 23) (v := undef) rfl (by kernel_rfl) (by kernel_rfl) (by kernel_rfl) (by kernel_rfl) (by kernel_rfl) (fun _ _ _ h => h) (Or.inr ⟨((wanted_at rfl rfl rfl rfl).trans rfl), rfl⟩) hSsb1 ?_
        simp only [List.getElem_toArray, List.getElem_cons_succ, List.getElem_cons_zero, Act.put, List.setIfInBounds_toArray, List.set_cons_zero, List.set_cons_succ]
        refine but_run (i := 24) (by kernel_rfl) rfl (by rfl) ?_
        simp only [List.getElem_toArray, List.getElem_cons_succ, List.getElem_cons_zero]
        intro K HK
        go_wp2_with fail
        refine HK.out _ Vsb1 (fun h => absurd rfl h) ?_
        clear HK
        refine but_done (by kernel_rfl) ?_
        go_wp2_with fail
        go_ret
        exact ⟨ret_boolB (by rw [← HR.out]; exact HBAD.out.symm), bstep HW.out (bstep (Below.drew1 _) hSsb1)⟩
      · have HID := Lib.hid hid
        by_cases hk0 : k = 0
        · have z0 : decide (0 < k) = false := decide_eq_false (by omega)
          have HJ2 : Hid (∀ j (h : j + 1 < l.length), j + 1 < k + 1 → (l[j]).a < (l[j + 1]).a) := Lib.hid (fun j h h2 => by omega)
          clear hc hid hk0
          go_upto_region 4 with (fail)
          refine but_begin (f := 24) (S := fun V => Below wr.drew.heap.size wr.drew V) (by kernel_rfl) ?_
          refine but_take (f := 24) (i := 0) (v := ?vs00) rfl (by kernel_rfl) (by kernel_rfl) (by kernel_rfl) (by kernel_rfl) (by kernel_rfl) (fun _ _ _ h => h) (Or.inl ⟨(by rfl), ?hys00⟩) (Below.refl _ _) ?rests00
          case hys00 =>
            intro W hW
            go_simp
            exact rfl
          simp only [List.getElem_toArray, List.getElem_cons_succ, List.getElem_cons_zero, Act.put, List.setIfInBounds_toArray, List.set_cons_zero, List.set_cons_succ]
          refine but_take (f := 24) (i := 1) (v := ?vs01) rfl (by kernel_rfl) (by kernel_rfl) (by kernel_rfl) (by kernel_rfl) (by kernel_rfl) (fun _ _ _ h => h) (Or.inl ⟨(by rfl), ?hys01⟩) (Below.refl _ _) ?rests01
          case hys01 =>
            intro W hW
            go_simp
            exact rfl
          simp only [List.getElem_toArray, List.getElem_cons_succ, List.getElem_cons_zero, Act.put, List.setIfInBounds_toArray, List.set_cons_zero, List.set_cons_succ]
          refine but_take (f := 24) (i := 2) (v := ?vs02) rfl (by kernel_rfl) (by kernel_rfl) (by kernel_rfl) (by kernel_rfl) (by kernel_rfl) (fun _ _ _ h => h) (Or.inl ⟨(by rfl), ?hys02⟩) (Below.refl _ _) ?rests02
          case hys02 =>
            intro W hW
            go_simp
            exact rfl
          simp only [List.getElem_toArray, List.getElem_cons_succ, List.getElem_cons_zero, Act.put, List.setIfInBounds_toArray, List.set_cons_zero, List.set_cons_succ]
          refine but_take (f := 24) (i := 3) (v := ?vs03) rfl (by kernel_rfl) (by kernel_rfl) (by kernel_rfl) (by kernel_rfl) (by kernel_rfl) (fun _ _ _ h => h) (Or.inl ⟨(by rfl), ?hys03⟩) (Below.refl _ _) ?rests03
          case hys03 =>
            intro W hW
            go_simp
            exact rfl
          simp only [List.getElem_toArray, List.getElem_cons_succ, List.getElem_cons_zero, Act.put, List.setIfInBounds_toArray, List.set_cons_zero, List.set_cons_succ]
          refine but_take (f := 24) (i := 4) (v := ?vs04) rfl (by kernel_rfl) (by kernel_rfl) (by kernel_rfl) (by kernel_rfl) (by kernel_rfl) (fun _ _ _ h => h) (Or.inl ⟨(by rfl), ?hys04⟩) (Below.refl _ _) ?rests04
          case hys04 =>
            intro W hW
            have hb0 : Below wr.heap.size wr W := bstep (Below.drew1 _) hW
            obtain ⟨y0, y1⟩ := FK.out.on hbb hb0
            go_simp
            exact rfl
          simp only [List.getElem_toArray, List.getElem_cons_succ, List.getElem_cons_zero, Act.put, List.setIfInBounds_toArray, List.set_cons_zero, List.set_cons_succ]
          refine but_run (i := 5) (by kernel_rfl) rfl (by rfl) ?_
          simp only [List.getElem_toArray, List.getElem_cons_succ, List.getElem_cons_zero]
          intro K HK
          go_wp2_with fail
          refine (inG_any (l[k]).a _).mono ?_
          rintro r Vs01 ⟨rfl, hBs01⟩
          rw [HID.out]
          have hSs01 := bstep (Below.refl _ _) hBs01
          go_wp2_with fail
          refine HK.out _ Vs01 (fun _ => hSs01) ?_
          clear HK
          refine but_take (f := 24) (i := 6) (v := ?vs06) rfl (by kernel_rfl) (by kernel_rfl) (by kernel_rfl) (by kernel_rfl) (by kernel_rfl) (fun _ _ _ h => h) (Or.inl ⟨(by rfl), ?hys06⟩) hSs01 ?rests06
          case hys06 =>
            intro W hW
            go_simp
            exact rfl
          simp only [List.getElem_toArray, List.getElem_cons_succ, List.getElem_cons_zero, Act.put, List.setIfInBounds_toArray, List.set_cons_zero, List.set_cons_succ]
          refine but_take (f := 24) (i := 7) (v := ?vs07) rfl (by kernel_rfl) (by kernel_rfl) (by kernel_rfl) (by kernel_rfl) (by kernel_rfl) (fun _ _ _ h => h) (Or.inl ⟨(by rfl), ?hys07⟩) hSs01 ?rests07
          case hys07 =>
            intro W hW
            go_simp
            exact rfl
          simp only [List.getElem_toArray, List.getElem_cons_succ, List.getElem_cons_zero, Act.put, List.setIfInBounds_toArray, List.set_cons_zero, List.set_cons_succ]
          refine but_take (f := 24) (i := 8) (v := ?vs08) rfl (by kernel_rfl) (by kernel_rfl) (by kernel_rfl) (by kernel_rfl) (by kernel_rfl) (fun _ _ _ h => h) (Or.inl ⟨((wanted_at rfl rfl rfl rfl).trans rfl), ?hys08⟩) hSs01 ?rests08
          case hys08 =>
            intro W hW
            go_simp
            exact rfl
          simp only [List.getElem_toArray, List.getElem_cons_succ, List.getElem_cons_zero, Act.put, List.setIfInBounds_toArray, List.set_cons_zero, List.set_cons_succ]
          refine but_take (f := 24) (i := 9) (v := ?vs09) rfl (by kernel_rfl) (by kernel_rfl) (by kernel_rfl) (by kernel_rfl) (by kernel_rfl) (fun _ _ _ h => h) (Or.inl ⟨((wanted_at rfl rfl rfl rfl).trans rfl), ?hys09⟩) hSs01 ?rests09
          case hys09 =>
            intro W hW
            go_simp
            exact rfl
          simp only [List.getElem_toArray, List.getElem_cons_succ, List.getElem_cons_zero, Act.put, List.setIfInBounds_toArray, List.set_cons_zero, List.set_cons_succ]
          refine but_take (f := 24) (i := 10) (v := ?vs010) rfl (by kernel_rfl) (by kernel_rfl) (by kernel_rfl) (by kernel_rfl) (by kernel_rfl) (fun _ _ _ h => h) (Or.inl ⟨((wanted_at rfl rfl rfl rfl).trans rfl), ?hys010⟩) hSs01 ?rests010
          case hys010 =>
            intro W hW
            go_simp
            exact rfl
          simp only [List.getElem_toArray, List.getElem_cons_succ, List.getElem_cons_zero, Act.put, List.setIfInBounds_toArray, List.set_cons_zero, List.set_cons_succ]
          refine but_take (f := 24) (i := 11) (v := undef) rfl (by kernel_rfl) (by kernel_rfl) (by kernel_rfl) (by kernel_rfl) (by kernel_rfl) (fun _ _ _ h => h) (Or.inr ⟨((wanted_at rfl rfl rfl rfl).trans rfl), rfl⟩) hSs01 ?_
          simp only [List.getElem_toArray, List.getElem_cons_succ, List.getElem_cons_zero, Act.put, List.setIfInBounds_toArray, List.set_cons_zero, List.set_cons_succ]
          refine but_take (f := 24) (i := 12) (v := undef) rfl (by kernel_rfl) (by kernel_rfl) (by kernel_rfl) (by kernel_rfl) (by kernel_rfl) (fun _ _ _ h => h) (Or.inr ⟨((wanted_at rfl rfl rfl rfl).trans rfl), rfl⟩) hSs01 ?_
          simp only [List.getElem_toArray, List.getElem_cons_succ, List.getElem_cons_zero, Act.put, List.setIfInBounds_toArray, List.set_cons_zero, List.set_cons_succ]
          refine but_take (f := 24) (i := 13) (v := undef) rfl (by kernel_rfl) (by kernel_rfl) (by kernel_rfl) (by kernel_rfl) (by kernel_rfl) (fun _ _ _ h => h) (Or.inr ⟨((wanted_at rfl rfl rfl rfl).trans rfl), rfl⟩) hSs01 ?_
          simp only [List.getElem_toArray, List.getElem_cons_succ, List.getElem_cons_zero, Act.put, List.setIfInBounds_toArray, List.set_cons_zero, List.set_cons_succ]
          refine but_take (f := 24) (i := 14) (v := undef) rfl (by kernel_rfl) (by kernel_rfl) (by kernel_rfl) (by kernel_rfl) (by kernel_rfl) (fun _ _ _ h => h) (Or.inr ⟨((wanted_at rfl rfl rfl rfl).trans rfl), rfl⟩) hSs01 ?_
          simp only [List.getElem_toArray, List.getElem_cons_succ, List.getElem_cons_zero, Act.put, List.setIfInBounds_toArray, List.set_cons_zero, List.set_cons_succ]
          refine but_take (f := 24) (i := 15) (v := undef) rfl (by kernel_rfl) (by kernel_rfl) (by kernel_rfl) (by kernel_rfl) (by kernel_rfl) (fun _ _ _ h => h) (Or.inr ⟨((wanted_at rfl rfl rfl rfl).trans rfl), rfl⟩) hSs01 ?_
          simp only [List.getElem_toArray, List.getElem_cons_succ, List.getElem_cons_zero, Act.put, List.setIfInBounds_toArray, List.set_cons_zero, List.set_cons_succ]
          refine but_take (f := 24) (i := 16) (v := undef) rfl (by kernel_rfl) (by kernel_rfl) (by kernel_rfl) (by kernel_rfl) (by kernel_rfl) (fun _ _ _ h => h) (Or.inr ⟨((wanted_at rfl rfl rfl rfl).trans rfl), rfl⟩) hSs01 ?_
          simp only [List.getElem_toArray, List.getElem_cons_succ, List.getElem_cons_zero, Act.put, List.setIfInBounds_toArray, List.set_cons_zero, List.set_cons_succ]
          refine but_take (f := 24) (i := 17) (v := undef) rfl (by kernel_rfl) (by kernel_rfl) (by kernel_rfl) (by kernel_rfl) (by kernel_rfl) (fun _ _ _ h => h) (Or.inr ⟨((wanted_at rfl rfl rfl rfl).trans rfl), rfl⟩) hSs01 ?_
          simp only [List.getElem_toArray, List.getElem_cons_succ, List.getElem_cons_zero, Act.put, List.setIfInBounds_toArray, List.set_cons_zero, List.set_cons_succ]
          refine but_take (f := 24) (i := 18) (v := undef) rfl (by kernel_rfl) (by kernel_rfl) (by kernel_rfl) (by kernel_rfl) (by kernel_rfl) (fun _ _ _ h => h) (Or.inr ⟨((wanted_at rfl rfl rfl rfl).trans rfl), rfl⟩) hSs01 ?_
          simp only [List.getElem_toArray, List.getElem_cons_succ, List.getElem_cons_zero, Act.put, List.setIfInBounds_toArray, List.set_cons_zero, List.set_cons_succ]
          refine but_take (f := 24) (i := 19) (v := undef) rfl (by kernel_rfl) (by kernel_rfl) (by kernel_rfl) (by kernel_rfl) (by kernel_rfl) (fun _ _ _ h => h) (Or.inr ⟨((wanted_at rfl rfl rfl rfl).trans rfl), rfl⟩) hSs01 ?_
          simp only [List.getElem_toArray, List.getElem_cons_succ, List.getElem_cons_zero, Act.put, List.setIfInBounds_toArray, List.set_cons_zero, List.set_cons_succ]
          refine but_take (f := 24) (i := 20) (v := undef) rfl (by kernel_rfl) (by kernel_rfl) (by kernel_rfl) (by kernel_rfl) (by kernel_rfl) (fun _ _ _ h => h) (Or.inr ⟨((wanted_at rfl rfl rfl rfl).trans rfl), rfl⟩) hSs01 ?_
          simp only [List.getElem_toArray, List.getElem_cons_succ, List.getElem_cons_zero, Act.put, List.setIfInBounds_toArray, List.set_cons_zero, List.set_cons_succ]
          refine but_take (f := 24) (i := 21) (v := undef) rfl (by kernel_rfl) (by kernel_rfl) (by kernel_rfl) (by kernel_rfl) (by kernel_rfl) (fun _ _ _ h => h) (Or.inr ⟨((wanted_at rfl rfl rfl rfl).trans rfl), rfl⟩) hSs01 ?_
          simp only [List.getElem_toArray, List.getElem_cons_succ, List.getElem_cons_zero, Act.put, List.setIfInBounds_toArray, List.set_cons_zero, List.set_cons_succ]
          refine but_take (f := 24) (i := 22) (v := undef) rfl (by kernel_rfl) (by kernel_rfl) (by kernel_rfl) (by kernel_rfl) (by kernel_rfl) (fun _ _ _ h => h) (Or.inr ⟨((wanted_at rfl rfl rfl rfl).trans rfl), rfl⟩) hSs01 ?_
          simp only [List.getElem_toArray, List.getElem_cons_succ, List.getElem_cons_zero, Act.put, List.setIfInBounds_toArray, List.set_cons_zero, List.set_cons_succ]
          refine but_take (f := 24) (i := 23) (v := ?vs023) rfl (by kernel_rfl) (by kernel_rfl) (by kernel_rfl) (by kernel_rfl) (by kernel_rfl) (fun _ _ _ h => h) (Or.inl ⟨((wanted_at rfl rfl rfl rfl).trans rfl), ?hys023⟩) hSs01 ?rests023
          case hys023 =>
            intro W hW
            go_simp
            exact rfl
          simp only [List.getElem_toArray, List.getElem_cons_succ, List.getElem_cons_zero, Act.put, List.setIfInBounds_toArray, List.set_cons_zero, List.set_cons_succ]
          refine but_run (i := 24) (by kernel_rfl) rfl (by rfl) ?_
          simp only [List.getElem_toArray, List.getElem_cons_succ, List.getElem_cons_zero]
          intro K HK
          go_wp2_with fail
          refine HK.out _ Vs01 (fun h => absurd rfl h) ?_
          clear HK
          refine but_done (by kernel_rfl) ?_
          have BV := Lib.hid (bstep (Below.drew1 _) hSs01)
          go_upto_region 6 with (fail)
          obtain ⟨wv, hwv⟩ : ∃ wv, wv = Vs01 := ⟨_, rfl⟩
          rw [← hwv] at BV ⊢
          clear hwv
          cases q0 : ((l[k]).b != 0)
          · have HF : Hid (fitG l k = true) := Lib.hid (by rw [hfit, HID.out, parGB, show ((l[k]).b == 0) = true by simpa using q0]; rfl)
            refine but_begin (f := 17) (S := fun V => Below wv.drew.heap.size wv.drew V) (by kernel_rfl) ?_
            refine but_take (f := 17) (i := 0) (v := ?vt0s00) rfl (by kernel_rfl) (by kernel_rfl) (by kernel_rfl) (by kernel_rfl) (by kernel_rfl) (fun _ _ _ h => h) (Or.inl ⟨(by rfl), ?hyt0s00⟩) (Below.refl _ _) ?restt0s00
            case hyt0s00 =>
              intro W hW
              go_simp
              exact rfl
            simp only [List.getElem_toArray, List.getElem_cons_succ, List.getElem_cons_zero, Act.put, List.setIfInBounds_toArray, List.set_cons_zero, List.set_cons_succ]
            refine but_take (f := 17) (i := 1) (v := ?vt0s01) rfl (by kernel_rfl) (by kernel_rfl) (by kernel_rfl) (by kernel_rfl) (by kernel_rfl) (fun _ _ _ h => h) (Or.inl ⟨(by rfl), ?hyt0s01⟩) (Below.refl _ _) ?restt0s01
            case hyt0s01 =>
              intro W hW
              go_simp
              exact rfl
            simp only [List.getElem_toArray, List.getElem_cons_succ, List.getElem_cons_zero, Act.put, List.setIfInBounds_toArray, List.set_cons_zero, List.set_cons_succ]
            refine but_take (f := 17) (i := 2) (v := ?vt0s02) rfl (by kernel_rfl) (by kernel_rfl) (by kernel_rfl) (by kernel_rfl) (by kernel_rfl) (fun _ _ _ h => h) (Or.inl ⟨(by rfl), ?hyt0s02⟩) (Below.refl _ _) ?restt0s02
            case hyt0s02 =>
              intro W hW
              go_simp
              exact rfl
            simp only [List.getElem_toArray, List.getElem_cons_succ, List.getElem_cons_zero, Act.put, List.setIfInBounds_toArray, List.set_cons_zero, List.set_cons_succ]
            refine but_take (f := 17) (i := 3) (v := ?vt0s03) rfl (by kernel_rfl) (by kernel_rfl) (by kernel_rfl) (by kernel_rfl) (by kernel_rfl) (fun _ _ _ h => h) (Or.inl ⟨(by rfl), ?hyt0s03⟩) (Below.refl _ _) ?restt0s03
            case hyt0s03 =>
              intro W hW
              go_simp
              exact rfl
            simp only [List.getElem_toArray, List.getElem_cons_succ, List.getElem_cons_zero, Act.put, List.setIfInBounds_toArray, List.set_cons_zero, List.set_cons_succ]
            refine but_take (f := 17) (i := 4) (v := ?vt0s04) rfl (by kernel_rfl) (by kernel_rfl) (by kernel_rfl) (by kernel_rfl) (by kernel_rfl) (fun _ _ _ h => h) (Or.inl ⟨(by rfl), ?hyt0s04⟩) (Below.refl _ _) ?restt0s04
            case hyt0s04 =>
              intro W hW
              have hb0 : Below wv.heap.size wv W := bstep (Below.drew1 _) hW
              obtain ⟨y0, y1⟩ := FK.out.on hbb (bstep BV.out hb0)
              go_simp
              exact rfl
            simp only [List.getElem_toArray, List.getElem_cons_succ, List.getElem_cons_zero, Act.put, List.setIfInBounds_toArray, List.set_cons_zero, List.set_cons_succ]
            refine but_take (f := 17) (i := 5) (v := ?vt0s05) rfl (by kernel_rfl) (by kernel_rfl) (by kernel_rfl) (by kernel_rfl) (by kernel_rfl) (fun _ _ _ h => h) (Or.inl ⟨(by rfl), ?hyt0s05⟩) (Below.refl _ _) ?restt0s05
            case hyt0s05 =>
              intro W hW
              go_simp
              exact rfl
            simp only [List.getElem_toArray, List.getElem_cons_succ, List.getElem_cons_zero, Act.put, List.setIfInBounds_toArray, List.set_cons_zero, List.set_cons_succ]
            refine but_take (f := 17) (i := 6) (v := ?vt0s06) rfl (by kernel_rfl) (by kernel_rfl) (by kernel_rfl) (by kernel_rfl) (by kernel_rfl) (fun _ _ _ h => h) (Or.inl ⟨(by rfl), ?hyt0s06⟩) (Below.refl _ _) ?restt0s06
            case hyt0s06 =>
              intro W hW
              go_simp
              exact rfl
            simp only [List.getElem_toArray, List.getElem_cons_succ, List.getElem_cons_zero, Act.put, List.setIfInBounds_toArray, List.set_cons_zero, List.set_cons_succ]
            refine but_take (f := 17) (i := 7) (v := undef) rfl (by kernel_rfl) (by kernel_rfl) (by kernel_rfl) (by kernel_rfl) (by kernel_rfl) (fun _ _ _ h => h) (Or.inr ⟨((wanted_at rfl rfl rfl rfl).trans rfl), rfl⟩) (Below.refl _ _) ?_
            simp only [List.getElem_toArray, List.getElem_cons_succ, List.getElem_cons_zero, Act.put, List.setIfInBounds_toArray, List.set_cons_zero, List.set_cons_succ]
            refine but_take (f := 17) (i := 8) (v := undef) rfl (by kernel_rfl) (by kernel_rfl) (by kernel_rfl) (by kernel_rfl) (by kernel_rfl) (fun _ _ _ h => h) (Or.inr ⟨((wanted_at rfl rfl rfl rfl).trans rfl), rfl⟩) (Below.refl _ _) ?_
            simp only [List.getElem_toArray, List.getElem_cons_succ, List.getElem_cons_zero, Act.put, List.setIfInBounds_toArray, List.set_cons_zero, List.set_cons_succ]
            refine but_take (f := 17) (i := 9) (v := undef) rfl (by kernel_rfl) (by kernel_rfl) (by kernel_rfl) (by kernel_rfl) (by kernel_rfl) (fun _ _ _ h => h) (Or.inr ⟨((wanted_at rfl rfl rfl rfl).trans rfl), rfl⟩) (Below.refl _ _) ?_
            simp only [List.getElem_toArray, List.getElem_cons_succ, List.getElem_cons_zero, Act.put, List.setIfInBounds_toArray, List.set_cons_zero, List.set_cons_succ]
            refine but_take (f := 17) (i := 10) (v := undef) rfl (by kernel_rfl) (by kernel_rfl) (by kernel_rfl) (by kernel_rfl) (by kernel_rfl) (fun _ _ _ h => h) (Or.inr ⟨((wanted_at rfl rfl rfl rfl).trans rfl), rfl⟩) (Below.refl _ _) ?_
            simp only [List.getElem_toArray, List.getElem_cons_succ, List.getElem_cons_zero, Act.put, List.setIfInBounds_toArray, List.set_cons_zero, List.set_cons_succ]
            refine but_take (f := 17) (i := 11) (v := undef) rfl (by kernel_rfl) (by kernel_rfl) (by kernel_rfl) (by kernel_rfl) (by kernel_rfl) (fun _ _ _ h => h) (Or.inr ⟨((wanted_at rfl rfl rfl rfl).trans rfl), rfl⟩) (Below.refl _ _) ?_
            simp only [List.getElem_toArray, List.getElem_cons_succ, List.getElem_cons_zero, Act.put, List.setIfInBounds_toArray, List.set_cons_zero, List.set_cons_succ]
            refine but_take (f := 17) (i := 12) (v := undef) rfl (by kernel_rfl) (by kernel_rfl) (by kernel_rfl) (by kernel_rfl) (by kernel_rfl) (fun _ _ _ h => h) (Or.inr ⟨((wanted_at rfl rfl rfl rfl).trans rfl), rfl⟩) (Below.refl _ _) ?_
            simp only [List.getElem_toArray, List.getElem_cons_succ, List.getElem_cons_zero, Act.put, List.setIfInBounds_toArray, List.set_cons_zero, List.set_cons_succ]
            refine but_take (f := 17) (i := 13) (v := undef) rfl (by kernel_rfl) (by kernel_rfl) (by kernel_rfl) (by kernel_rfl) (by kernel_rfl) (fun _ _ _ h => h) (Or.inr ⟨((wanted_at rfl rfl rfl rfl).trans rfl), rfl⟩) (Below.refl _ _) ?_
            simp only [List.getElem_toArray, List.getElem_cons_succ, List.getElem_cons_zero, Act.put, List.setIfInBounds_toArray, List.set_cons_zero, List.set_cons_succ]
            refine but_take (f := 17) (i := 14) (v := undef) rfl (by kernel_rfl) (by kernel_rfl) (by kernel_rfl) (by kernel_rfl) (by kernel_rfl) (fun _ _ _ h => h) (Or.inr ⟨((wanted_at rfl rfl rfl rfl).trans rfl), rfl⟩) (Below.refl _ _) ?_
            simp only [List.getElem_toArray, List.getElem_cons_succ, List.getElem_cons_zero, Act.put, List.setIfInBounds_toArray, List.set_cons_zero, List.set_cons_succ]
            refine but_take (f := 17) (i := 15) (v := undef) rfl (by kernel_rfl) (by kernel_rfl) (by kernel_rfl) (by kernel_rfl) (by kernel_rfl) (fun _ _ _ h => h) (Or.inr ⟨((wanted_at rfl rfl rfl rfl).trans rfl), rfl⟩) (Below.refl _ _) ?_
            simp only [List.getElem_toArray, List.getElem_cons_succ, List.getElem_cons_zero, Act.put, List.setIfInBounds_toArray, List.set_cons_zero, List.set_cons_succ]
            refine but_take (f := 17) (i := 16) (v := undef) rfl (by kernel_rfl) (by kernel_rfl) (by kernel_rfl) (by kernel_rfl) (by kernel_rfl) (fun _ _ _ h => h) (Or.inr ⟨((wanted_at rfl rfl rfl rfl).trans rfl), rfl⟩) (Below.refl _ _) ?_
            simp only [List.getElem_toArray, List.getElem_cons_succ, List.getElem_cons_zero, Act.put, List.setIfInBounds_toArray, List.set_cons_zero, List.set_cons_succ]
            refine but_run (i := 17) (by kernel_rfl) rfl (by rfl) ?_
            simp only [List.getElem_toArray, List.getElem_cons_succ, List.getElem_cons_zero]
            intro K HK
            go_wp2_with fail
            refine HK.out _ wv.drew (fun h => absurd rfl h) ?_
            clear HK
            refine but_done (by kernel_rfl) ?_
            go_wp2_with fail
            go_roundw
            case rel => exact ⟨k + 1, by omega, by go_num, Lib.hid (fit_step HI.out HF.out), HJ2, Lib.hid (bstep HW.out (bstep BV.out (bstep (Below.drew1 _) (Below.refl _ _))))⟩
            case measure => simp [intOf]; omega
          · have q9 : ((l[k]).b == 0) = false := by simpa using q0
            have hneg := ageAt_neg (l.take k) (l[k]).b
            cases q2 : hasG (l.take k) (l[k]).b
            · have HF : Hid (fitG l k = false) := Lib.hid (by rw [hfit, HID.out, parGB, q9, q2]; rfl)
              rw [q2] at hneg
              have q3 : decide (ageAtK (l.take k) (l[k]).b < 0) = true := hneg
              clear hneg q9 q2
              refine but_begin (f := 17) (S := fun V => Below wv.drew.heap.size wv.drew V) (by kernel_rfl) ?_
              refine but_take (f := 17) (i := 0) (v := ?vtxs00) rfl (by kernel_rfl) (by kernel_rfl) (by kernel_rfl) (by kernel_rfl) (by kernel_rfl) (fun _ _ _ h => h) (Or.inl ⟨(by rfl), ?hytxs00⟩) (Below.refl _ _) ?resttxs00
              case hytxs00 =>
                intro W hW
                go_simp
                exact rfl
              simp only [List.getElem_toArray, List.getElem_cons_succ, List.getElem_cons_zero, Act.put, List.setIfInBounds_toArray, List.set_cons_zero, List.set_cons_succ]
              refine but_take (f := 17) (i := 1) (v := ?vtxs01) rfl (by kernel_rfl) (by kernel_rfl) (by kernel_rfl) (by kernel_rfl) (by kernel_rfl) (fun _ _ _ h => h) (Or.inl ⟨(by rfl), ?hytxs01⟩) (Below.refl _ _) ?resttxs01
              case hytxs01 =>
                intro W hW
                go_simp
                exact rfl
              simp only [List.getElem_toArray, List.getElem_cons_succ, List.getElem_cons_zero, Act.put, List.setIfInBounds_toArray, List.set_cons_zero, List.set_cons_succ]
              refine but_take (f := 17) (i := 2) (v := ?vtxs02) rfl (by kernel_rfl) (by kernel_rfl) (by kernel_rfl) (by kernel_rfl) (by kernel_rfl) (fun _ _ _ h => h) (Or.inl ⟨(by rfl), ?hytxs02⟩) (Below.refl _ _) ?resttxs02
              case hytxs02 =>
                intro W hW
                go_simp
                exact rfl
              simp only [List.getElem_toArray, List.getElem_cons_succ, List.getElem_cons_zero, Act.put, List.setIfInBounds_toArray, List.set_cons_zero, List.set_cons_succ]
              refine but_take (f := 17) (i := 3) (v := ?vtxs03) rfl (by kernel_rfl) (by kernel_rfl) (by kernel_rfl) (by kernel_rfl) (by kernel_rfl) (fun _ _ _ h => h) (Or.inl ⟨(by rfl), ?hytxs03⟩) (Below.refl _ _) ?resttxs03
              case hytxs03 =>
                intro W hW
                go_simp
                exact rfl
              simp only [List.getElem_toArray, List.getElem_cons_succ, List.getElem_cons_zero, Act.put, List.setIfInBounds_toArray, List.set_cons_zero, List.set_cons_succ]
              refine but_take (f := 17) (i := 4) (v := ?vtxs04) rfl (by kernel_rfl) (by kernel_rfl) (by kernel_rfl) (by kernel_rfl) (by kernel_rfl) (fun _ _ _ h => h) (Or.inl ⟨(by rfl), ?hytxs04⟩) (Below.refl _ _) ?resttxs04
              case hytxs04 =>
                intro W hW
                have hb0 : Below wv.heap.size wv W := bstep (Below.drew1 _) hW
                obtain ⟨y0, y1⟩ := FK.out.on hbb (bstep BV.out hb0)
                go_simp
                exact rfl
              simp only [List.getElem_toArray, List.getElem_cons_succ, List.getElem_cons_zero, Act.put, List.setIfInBounds_toArray, List.set_cons_zero, List.set_cons_succ]
              refine but_take (f := 17) (i := 5) (v := ?vtxs05) rfl (by kernel_rfl) (by kernel_rfl) (by kernel_rfl) (by kernel_rfl) (by kernel_rfl) (fun _ _ _ h => h) (Or.inl ⟨(by rfl), ?hytxs05⟩) (Below.refl _ _) ?resttxs05
              case hytxs05 =>
                intro W hW
                go_simp
                exact rfl
              simp only [List.getElem_toArray, List.getElem_cons_succ, List.getElem_cons_zero, Act.put, List.setIfInBounds_toArray, List.set_cons_zero, List.set_cons_succ]
              refine but_take (f := 17) (i := 6) (v := ?vtxs06) rfl (by kernel_rfl) (by kernel_rfl) (by kernel_rfl) (by kernel_rfl) (by kernel_rfl) (fun _ _ _ h => h) (Or.inl ⟨(by rfl), ?hytxs06⟩) (Below.refl _ _) ?resttxs06
              case hytxs06 =>
                intro W hW
                go_simp
                exact rfl
              simp only [List.getElem_toArray, List.getElem_cons_succ, List.getElem_cons_zero, Act.put, List.setIfInBounds_toArray, List.set_cons_zero, List.set_cons_succ]
              refine but_take (f := 17) (i := 7) (v := ?vtxs07) rfl (by kernel_rfl) (by kernel_rfl) (by kernel_rfl) (by kernel_rfl) (by kernel_rfl) (fun _ _ _ h => h) (Or.inl ⟨((wanted_at rfl rfl rfl rfl).trans rfl), ?hytxs07⟩) (Below.refl _ _) ?resttxs07
              case hytxs07 =>
                intro W hW
                go_simp
                exact rfl
              simp only [List.getElem_toArray, List.getElem_cons_succ, List.getElem_cons_zero, Act.put, List.setIfInBounds_toArray, List.set_cons_zero, List.set_cons_succ]
              refine but_take (f := 17) (i := 8) (v := ?vtxs08) rfl (by kernel_rfl) (by kernel_rfl) (by kernel_rfl) (by kernel_rfl) (by kernel_rfl) (fun _ _ _ h => h) (Or.inl ⟨((wanted_at rfl rfl rfl rfl).trans rfl), ?hytxs08⟩) (Below.refl _ _) ?resttxs08
              case hytxs08 =>
                intro W hW
                go_simp
                exact rfl
              simp only [List.getElem_toArray, List.getElem_cons_succ, List.getElem_cons_zero, Act.put, List.setIfInBounds_toArray, List.set_cons_zero, List.set_cons_succ]
              refine but_take (f := 17) (i := 9) (v := ?vtxs09) rfl (by kernel_rfl) (by kernel_rfl) (by kernel_rfl) (by kernel_rfl) (by kernel_rfl) (fun _ _ _ h => h) (Or.inl ⟨((wanted_at rfl rfl rfl rfl).trans rfl), ?hytxs09⟩) (Below.refl _ _) ?resttxs09
              case hytxs09 =>
                intro W hW
                go_simp
                exact rfl
              simp only [List.getElem_toArray, List.getElem_cons_succ, List.getElem_cons_zero, Act.put, List.setIfInBounds_toArray, List.set_cons_zero, List.set_cons_succ]
              refine but_take (f := 17) (i := 10) (v := ?vtxs010) rfl (by kernel_rfl) (by kernel_rfl) (by kernel_rfl) (by kernel_rfl) (by kernel_rfl) (fun _ _ _ h => h) (Or.inl ⟨((wanted_at rfl rfl rfl rfl).trans rfl), ?hytxs010⟩) (Below.refl _ _) ?resttxs010
              case hytxs010 =>
                intro W hW
                go_simp
                exact rfl
              simp only [List.getElem_toArray, List.getElem_cons_succ, List.getElem_cons_zero, Act.put, List.setIfInBounds_toArray, List.set_cons_zero, List.set_cons_succ]
              refine but_take (f := 17) (i := 11) (v := ?vtxs011) rfl (by kernel_rfl) (by kernel_rfl) (by kernel_rfl) (by kernel_rfl) (by kernel_rfl) (fun _ _ _ h => h) (Or.inl ⟨((wanted_at rfl rfl rfl rfl).trans rfl), ?hytxs011⟩) (Below.refl _ _) ?resttxs011
              case hytxs011 =>
                intro W hW
                go_simp
                exact rfl
              simp only [List.getElem_toArray, List.getElem_cons_succ, List.getElem_cons_zero, Act.put, List.setIfInBounds_toArray, List.set_cons_zero, List.set_cons_succ]
              refine but_take (f := 17) (i := 12) (v := ?vtxs012) rfl (by kernel_rfl) (by kernel_rfl) (by kernel_rfl) (by kernel_rfl) (by kernel_rfl) (fun _ _ _ h => h) (Or.inl ⟨((wanted_at rfl rfl rfl rfl).trans rfl), ?hytxs012⟩) (Below.refl _ _) ?resttxs012
              case hytxs012 =>
                intro W hW
                go_simp
                exact rfl
              simp only [List.getElem_toArray, List.getElem_cons_succ, List.getElem_cons_zero, Act.put, List.setIfInBounds_toArray, List.set_cons_zero, List.set_cons_succ]
              refine but_take (f := 17) (i := 13) (v := ?vtxs013) rfl (by kernel_rfl) (by kernel_rfl) (by kernel_rfl) (by kernel_rfl) (by kernel_rfl) (fun _ _ _ h => h) (Or.inl ⟨((wanted_at rfl rfl rfl rfl).trans rfl), ?hytxs013⟩) (Below.refl _ _) ?resttxs013
              case hytxs013 =>
                intro W hW
                go_simp
                exact rfl
              simp only [List.getElem_toArray, List.getElem_cons_succ, List.getElem_cons_zero, Act.put, List.setIfInBounds_toArray, List.set_cons_zero, List.set_cons_succ]
              refine but_take (f := 17) (i := 14) (v := ?vtxs014) rfl (by kernel_rfl) (by kernel_rfl) (by kernel_rfl) (by kernel_rfl) (by kernel_rfl) (fun _ _ _ h => h) (Or.inl ⟨((wanted_at rfl rfl rfl rfl).trans rfl), ?hytxs014⟩) (Below.refl _ _) ?resttxs014
              case hytxs014 =>
                intro W hW
                have hb0 : Below wv.heap.size wv W := bstep (Below.drew1 _) hW
                obtain ⟨y0, y1⟩ := FK.out.on hbb (bstep BV.out hb0)
                go_simp
                exact rfl
              simp only [List.getElem_toArray, List.getElem_cons_succ, List.getElem_cons_zero, Act.put, List.setIfInBounds_toArray, List.set_cons_zero, List.set_cons_succ]
              refine but_run (i := 15) (by kernel_rfl) rfl ((wanted_at rfl rfl rfl rfl).trans rfl) ?_
              simp only [List.getElem_toArray, List.getElem_cons_succ, List.getElem_cons_zero]
              intro K HK
              go_wp2_with fail
              refine (specAgeAtB _ (l.take k) (l[k]).b _ (HTK.out.on (bstep BV.out (bstep (Below.drew1 _) (Below.refl _ _)))) (by simp; omega)).mono ?_
              rintro r Vtxs01 ⟨rfl, hBtxs01⟩
              have hStxs01 := bstep (Below.refl _ _) hBtxs01
              go_wp2_with fail
              refine HK.out _ Vtxs01 (fun _ => hStxs01) ?_
              clear HK
              refine but_take (f := 17) (i := 16) (v := ?vtxs016) rfl (by kernel_rfl) (by kernel_rfl) (by kernel_rfl) (by kernel_rfl) (by kernel_rfl) (fun _ _ _ h => h) (Or.inl ⟨((wanted_at rfl rfl rfl rfl).trans rfl), ?hytxs016⟩) hStxs01 ?resttxs016
              case hytxs016 =>
                intro W hW
                go_simp
                exact rfl
              simp only [List.getElem_toArray, List.getElem_cons_succ, List.getElem_cons_zero, Act.put, List.setIfInBounds_toArray, List.set_cons_zero, List.set_cons_succ]
              refine but_run (i := 17) (by kernel_rfl) rfl (by rfl) ?_
              simp only [List.getElem_toArray, List.getElem_cons_succ, List.getElem_cons_zero]
              intro K HK
              go_wp2_with fail
              refine HK.out _ Vtxs01 (fun h => absurd rfl h) ?_
              clear HK
              refine but_done (by kernel_rfl) ?_
              go_wp2_with fail
              go_ret
              exact ⟨ret_boolB (by rw [← HR.out]; exact (fit_miss hlt HF.out).symm), bstep HW.out (bstep BV.out (bstep (Below.drew1 _) hStxs01))⟩
            · have HF : Hid (fitG l k = true) := Lib.hid (by rw [hfit, HID.out, parGB, q9, q2]; rfl)
              rw [q2] at hneg
              have q3 : decide (ageAtK (l.take k) (l[k]).b < 0) = false := hneg
              clear hneg q9 q2
              refine but_begin (f := 17) (S := fun V => Below wv.drew.heap.size wv.drew V) (by kernel_rfl) ?_
              refine but_take (f := 17) (i := 0) (v := ?vtys00) rfl (by kernel_rfl) (by kernel_rfl) (by kernel_rfl) (by kernel_rfl) (by kernel_rfl) (fun _ _ _ h => h) (Or.inl ⟨(by rfl), ?hytys00⟩) (Below.refl _ _) ?resttys00
              case hytys00 =>
                intro W hW
                go_simp
                exact rfl
              simp only [List.getElem_toArray, List.getElem_cons_succ, List.getElem_cons_zero, Act.put, List.setIfInBounds_toArray, List.set_cons_zero, List.set_cons_succ]
              refine but_take (f := 17) (i := 1) (v := ?vtys01) rfl (by kernel_rfl) (by kernel_rfl) (by kernel_rfl) (by kernel_rfl) (by kernel_rfl) (fun _ _ _ h => h) (Or.inl ⟨(by rfl), ?hytys01⟩) (Below.refl _ _) ?resttys01
              case hytys01 =>
                intro W hW
                go_simp
                exact rfl
              simp only [List.getElem_toArray, List.getElem_cons_succ, List.getElem_cons_zero, Act.put, List.setIfInBounds_toArray, List.set_cons_zero, List.set_cons_succ]
              refine but_take (f := 17) (i := 2) (v := ?vtys02) rfl (by kernel_rfl) (by kernel_rfl) (by kernel_rfl) (by kernel_rfl) (by kernel_rfl) (fun _ _ _ h => h) (Or.inl ⟨(by rfl), ?hytys02⟩) (Below.refl _ _) ?resttys02
              case hytys02 =>
                intro W hW
                go_simp
                exact rfl
              simp only [List.getElem_toArray, List.getElem_cons_succ, List.getElem_cons_zero, Act.put, List.setIfInBounds_toArray, List.set_cons_zero, List.set_cons_succ]
              refine but_take (f := 17) (i := 3) (v := ?vtys03) rfl (by kernel_rfl) (by kernel_rfl) (by kernel_rfl) (by kernel_rfl) (by kernel_rfl) (fun _ _ _ h => h) (Or.inl ⟨(by rfl), ?hytys03⟩) (Below.refl _ _) ?resttys03
              case hytys03 =>
                intro W hW
                go_simp
                exact rfl
              simp only [List.getElem_toArray, List.getElem_cons_succ, List.getElem_cons_zero, Act.put, List.setIfInBounds_toArray, List.set_cons_zero, List.set_cons_succ]
              refine but_take (f := 17) (i := 4) (v := ?vtys04) rfl (by kernel_rfl) (by kernel_rfl) (by kernel_rfl) (by kernel_rfl) (by kernel_rfl) (fun _ _ _ h => h) (Or.inl ⟨(by rfl), ?hytys04⟩) (Below.refl _ _) ?resttys04
              case hytys04 =>
                intro W hW
                have hb0 : Below wv.heap.size wv W := bstep (Below.drew1 _) hW
                obtain ⟨y0, y1⟩ := FK.out.on hbb (bstep BV.out hb0)
                go_simp
                exact rfl
              simp only [List.getElem_toArray, List.getElem_cons_succ, List.getElem_cons_zero, Act.put, List.setIfInBounds_toArray, List.set_cons_zero, List.set_cons_succ]
              refine but_take (f := 17) (i := 5) (v := ?vtys05) rfl (by kernel_rfl) (by kernel_rfl) (by kernel_rfl) (by kernel_rfl) (by kernel_rfl) (fun _ _ _ h => h) (Or.inl ⟨(by rfl), ?hytys05⟩) (Below.refl _ _) ?resttys05
              case hytys05 =>
                intro W hW
                go_simp
                exact rfl
              simp only [List.getElem_toArray, List.getElem_cons_succ, List.getElem_cons_zero, Act.put, List.setIfInBounds_toArray, List.set_cons_zero, List.set_cons_succ]
              refine but_take (f := 17) (i := 6) (v := ?vtys06) rfl (by kernel_rfl) (by kernel_rfl) (by kernel_rfl) (by kernel_rfl) (by kernel_rfl) (fun _ _ _ h => h) (Or.inl ⟨(by rfl), ?hytys06⟩) (Below.refl _ _) ?resttys06
              case hytys06 =>
                intro W hW
                go_simp
                exact rfl
              simp only [List.getElem_toArray, List.getElem_cons_succ, List.getElem_cons_zero, Act.put, List.setIfInBounds_toArray, List.set_cons_zero, List.set_cons_succ]
              refine but_take (f := 17) (i := 7) (v := ?vtys07) rfl (by kernel_rfl) (by kernel_rfl) (by kernel_rfl) (by kernel_rfl) (by kernel_rfl) (fun _ _ _ h => h) (Or.inl ⟨((wanted_at rfl rfl rfl rfl).trans rfl), ?hytys07⟩) (Below.refl _ _) ?resttys07
              case hytys07 =>
                intro W hW
                go_simp
                exact rfl
              simp only [List.getElem_toArray, List.getElem_cons_succ, List.getElem_cons_zero, Act.put, List.setIfInBounds_toArray, List.set_cons_zero, List.set_cons_succ]
              refine but_take (f := 17) (i := 8) (v := ?vtys08) rfl (by kernel_rfl) (by kernel_rfl) (by kernel_rfl) (by kernel_rfl) (by kernel_rfl) (fun _ _ _ h => h) (Or.inl ⟨((wanted_at rfl rfl rfl rfl).trans rfl), ?hytys08⟩) (Below.refl _ _) ?resttys08
              case hytys08 =>
                intro W hW
                go_simp
                exact rfl
              simp only [List.getElem_toArray, List.getElem_cons_succ, List.getElem_cons_zero, Act.put, List.setIfInBounds_toArray, List.set_cons_zero, List.set_cons_succ]
              refine but_take (f := 17) (i := 9) (v := ?vtys09) rfl (by kernel_rfl) (by kernel_rfl) (by kernel_rfl) (by kernel_rfl) (by kernel_rfl) (fun _ _ _ h => h) (Or.inl ⟨((wanted_at rfl rfl rfl rfl).trans rfl), ?hytys09⟩) (Below.refl _ _) ?resttys09
              case hytys09 =>
                intro W hW
                go_simp
                exact rfl
              simp only [List.getElem_toArray, List.getElem_cons_succ, List.getElem_cons_zero, Act.put, List.setIfInBounds_toArray, List.set_cons_zero, List.set_cons_succ]
              refine but_take (f := 17) (i := 10) (v := ?vtys010) rfl (by kernel_rfl) (by kernel_rfl) (by kernel_rfl) (by kernel_rfl) (by kernel_rfl) (fun _ _ _ h => h) (Or.inl ⟨((wanted_at rfl rfl rfl rfl).trans rfl), ?hytys010⟩) (Below.refl _ _) ?resttys010
              case hytys010 =>
                intro W hW
                go_simp
                exact rfl
              simp only [List.getElem_toArray, List.getElem_cons_succ, List.getElem_cons_zero, Act.put, List.setIfInBounds_toArray, List.set_cons_zero, List.set_cons_succ]
              refine but_take (f := 17) (i := 11) (v := ?vtys011) rfl (by kernel_rfl) (by kernel_rfl) (by kernel_rfl) (by kernel_rfl) (by kernel_rfl) (fun _ _ _ h => h) (Or.inl ⟨((wanted_at rfl rfl rfl rfl).trans rfl), ?hytys011⟩) (Below.refl _ _) ?resttys011
              case hytys011 =>
                intro W hW
                go_simp
                exact rfl
              simp only [List.getElem_toArray, List.getElem_cons_succ, List.getElem_cons_zero, Act.put, List.setIfInBounds_toArray, List.set_cons_zero, List.set_cons_succ]
              refine but_take (f := 17) (i := 12) (v := ?vtys012) rfl (by kernel_rfl) (by kernel_rfl) (by kernel_rfl) (by kernel_rfl) (by kernel_rfl) (fun _ _ _ h => h) (Or.inl ⟨((wanted_at rfl rfl rfl rfl).trans rfl), ?hytys012⟩) (Below.refl _ _) ?resttys012
              case hytys012 =>
                intro W hW
                go_simp
                exact rfl
              simp only [List.getElem_toArray, List.getElem_cons_succ, List.getElem_cons_zero, Act.put, List.setIfInBounds_toArray, List.set_cons_zero, List.set_cons_succ]
              refine but_take (f := 17) (i := 13) (v := ?vtys013) rfl (by kernel_rfl) (by kernel_rfl) (by kernel_rfl) (by kernel_rfl) (by kernel_rfl) (fun _ _ _ h => h) (Or.inl ⟨((wanted_at rfl rfl rfl rfl).trans rfl), ?hytys013⟩) (Below.refl _ _) ?resttys013
              case hytys013 =>
                intro W hW
                go_simp
                exact rfl
              simp only [List.getElem_toArray, List.getElem_cons_succ, List.getElem_cons_zero, Act.put, List.setIfInBounds_toArray, List.set_cons_zero, List.set_cons_succ]
              refine but_take (f := 17) (i := 14) (v := ?vtys014) rfl (by kernel_rfl) (by kernel_rfl) (by kernel_rfl) (by kernel_rfl) (by kernel_rfl) (fun _ _ _ h => h) (Or.inl ⟨((wanted_at rfl rfl rfl rfl).trans rfl), ?hytys014⟩) (Below.refl _ _) ?resttys014
              case hytys014 =>
                intro W hW
                have hb0 : Below wv.heap.size wv W := bstep (Below.drew1 _) hW
                obtain ⟨y0, y1⟩ := FK.out.on hbb (bstep BV.out hb0)
                go_simp
                exact rfl
              simp only [List.getElem_toArray, List.getElem_cons_succ, List.getElem_cons_zero, Act.put, List.setIfInBounds_toArray, List.set_cons_zero, List.set_cons_succ]
              refine but_run (i := 15) (by kernel_rfl) rfl ((wanted_at rfl rfl rfl rfl).trans rfl) ?_
              simp only [List.getElem_toArray, List.getElem_cons_succ, List.getElem_cons_zero]
              intro K HK
              go_wp2_with fail
              refine (specAgeAtB _ (l.take k) (l[k]).b _ (HTK.out.on (bstep BV.out (bstep (Below.drew1 _) (Below.refl _ _)))) (by simp; omega)).mono ?_
              rintro r Vtys01 ⟨rfl, hBtys01⟩
              have hStys01 := bstep (Below.refl _ _) hBtys01
              go_wp2_with fail
              refine HK.out _ Vtys01 (fun _ => hStys01) ?_
              clear HK
              refine but_take (f := 17) (i := 16) (v := ?vtys016) rfl (by kernel_rfl) (by kernel_rfl) (by kernel_rfl) (by kernel_rfl) (by kernel_rfl) (fun _ _ _ h => h) (Or.inl ⟨((wanted_at rfl rfl rfl rfl).trans rfl), ?hytys016⟩) hStys01 ?resttys016
              case hytys016 =>
                intro W hW
                go_simp
                exact rfl
              simp only [List.getElem_toArray, List.getElem_cons_succ, List.getElem_cons_zero, Act.put, List.setIfInBounds_toArray, List.set_cons_zero, List.set_cons_succ]
              refine but_run (i := 17) (by kernel_rfl) rfl (by rfl) ?_
              simp only [List.getElem_toArray, List.getElem_cons_succ, List.getElem_cons_zero]
              intro K HK
              go_wp2_with fail
              refine HK.out _ Vtys01 (fun h => absurd rfl h) ?_
              clear HK
              refine but_done (by kernel_rfl) ?_
              go_wp2_with fail
              go_roundw
              case rel => exact ⟨k + 1, by omega, by go_num, Lib.hid (fit_step HI.out HF.out), HJ2, Lib.hid (bstep HW.out (bstep BV.out (bstep (Below.drew1 _) hStys01)))⟩
              case measure => simp [intOf]; omega
        · have z0 : decide (0 < k) = true := decide_eq_true (by omega)
          obtain ⟨j, hj⟩ : ∃ j, j + 1 = k := ⟨k - 1, by omega⟩
          have hjl : j < l.length := by omega
          have j1 : (j : Int) < (l.length : Int) := by omega
          have j2 : (0 : Int) ≤ (j : Int) := by omega
          have j3 : IntKind.i64.wrap ((k : Int) - 1) = (j : Int) := by rw [IntKind.wrap_i64]; omega
          have j4 : IntKind.i64.wrap (j : Int) = (j : Int) := by rw [IntKind.wrap_i64]; omega
          have FJ := Lib.hid (hc j hjl)
          by_cases p : (l[k]).a ≤ (l[j]).a
          · have z1 : decide ((l[k]).a ≤ (l[j]).a) = true := decide_eq_true p
            have HBAD : Hid (agesOkB l = false) := Lib.hid (rise_miss (j := j) (by omega) (by subst hj; omega))
            clear hc hfit hid hk0 hj p
            go_upto_region 4 with (fail)
            refine but_begin (f := 24) (S := fun V => Below wr.drew.heap.size wr.drew V) (by kernel_rfl) ?_
            refine but_take (f := 24) (i := 0) (v := ?vsx0) rfl (by kernel_rfl) (by kernel_rfl) (by kernel_rfl) (by kernel_rfl) (by kernel_rfl) (fun _ _ _ h => h) (Or.inl ⟨(by rfl), ?hysx0⟩) (Below.refl _ _) ?restsx0
            case hysx0 =>
              intro W hW
              go_simp
              exact rfl
            simp only [List.getElem_toArray, List.getElem_cons_succ, List.getElem_cons_zero, Act.put, List.setIfInBounds_toArray, List.set_cons_zero, List.set_cons_succ]
            refine but_take (f := 24) (i := 1) (v := ?vsx1) rfl (by kernel_rfl) (by kernel_rfl) (by kernel_rfl) (by kernel_rfl) (by kernel_rfl) (fun _ _ _ h => h) (Or.inl ⟨(by rfl), ?hysx1⟩) (Below.refl _ _) ?restsx1
            case hysx1 =>
              intro W hW
              go_simp
              exact rfl
            simp only [List.getElem_toArray, List.getElem_cons_succ, List.getElem_cons_zero, Act.put, List.setIfInBounds_toArray, List.set_cons_zero, List.set_cons_succ]
            refine but_take (f := 24) (i := 2) (v := ?vsx2) rfl (by kernel_rfl) (by kernel_rfl) (by kernel_rfl) (by kernel_rfl) (by kernel_rfl) (fun _ _ _ h => h) (Or.inl ⟨(by rfl), ?hysx2⟩) (Below.refl _ _) ?restsx2
            case hysx2 =>
              intro W hW
              go_simp
              exact rfl
            simp only [List.getElem_toArray, List.getElem_cons_succ, List.getElem_cons_zero, Act.put, List.setIfInBounds_toArray, List.set_cons_zero, List.set_cons_succ]
            refine but_take (f := 24) (i := 3) (v := ?vsx3) rfl (by kernel_rfl) (by kernel_rfl) (by kernel_rfl) (by kernel_rfl) (by kernel_rfl) (fun _ _ _ h => h) (Or.inl ⟨(by rfl), ?hysx3⟩) (Below.refl _ _) ?restsx3
            case hysx3 =>
              intro W hW
              go_simp
              exact rfl
            simp only [List.getElem_toArray, List.getElem_cons_succ, List.getElem_cons_zero, Act.put, List.setIfInBounds_toArray, List.set_cons_zero, List.set_cons_succ]
            refine but_take (f := 24) (i := 4) (v := ?vsx4) rfl (by kernel_rfl) (by kernel_rfl) (by kernel_rfl) (by kernel_rfl) (by kernel_rfl) (fun _ _ _ h => h) (Or.inl ⟨(by rfl), ?hysx4⟩) (Below.refl _ _) ?restsx4
            case hysx4 =>
              intro W hW
              have hb0 : Below wr.heap.size wr W := bstep (Below.drew1 _) hW
              obtain ⟨y0, y1⟩ := FK.out.on hbb hb0
              obtain ⟨z0, z1⟩ := FJ.out.on hbb hb0
              go_simp
              exact rfl
            simp only [List.getElem_toArray, List.getElem_cons_succ, List.getElem_cons_zero, Act.put, List.setIfInBounds_toArray, List.set_cons_zero, List.set_cons_succ]
            refine but_run (i := 5) (by kernel_rfl) rfl (by rfl) ?_
            simp only [List.getElem_toArray, List.getElem_cons_succ, List.getElem_cons_zero]
            intro K HK
            go_wp2_with fail
            refine (inG_any (l[k]).a _).mono ?_
            rintro r Vsx1 ⟨rfl, hBsx1⟩
            rw [HID.out]
            have hSsx1 := bstep (Below.refl _ _) hBsx1
            go_wp2_with fail
            refine HK.out _ Vsx1 (fun _ => hSsx1) ?_
            clear HK
            refine but_take (f := 24) (i := 6) (v := ?vsx6) rfl (by kernel_rfl) (by kernel_rfl) (by kernel_rfl) (by kernel_rfl) (by kernel_rfl) (fun _ _ _ h => h) (Or.inl ⟨(by rfl), ?hysx6⟩) hSsx1 ?restsx6
            case hysx6 =>
              intro W hW
              go_simp
              exact rfl
            simp only [List.getElem_toArray, List.getElem_cons_succ, List.getElem_cons_zero, Act.put, List.setIfInBounds_toArray, List.set_cons_zero, List.set_cons_succ]
            refine but_take (f := 24) (i := 7) (v := ?vsx7) rfl (by kernel_rfl) (by kernel_rfl) (by kernel_rfl) (by kernel_rfl) (by kernel_rfl) (fun _ _ _ h => h) (Or.inl ⟨(by rfl), ?hysx7⟩) hSsx1 ?restsx7
            case hysx7 =>
              intro W hW
              go_simp
              exact rfl
            simp only [List.getElem_toArray, List.getElem_cons_succ, List.getElem_cons_zero, Act.put, List.setIfInBounds_toArray, List.set_cons_zero, List.set_cons_succ]
            refine but_take (f := 24) (i := 8) (v := ?vsx8) rfl (by kernel_rfl) (by kernel_rfl) (by kernel_rfl) (by kernel_rfl) (by kernel_rfl) (fun _ _ _ h => h) (Or.inl ⟨((wanted_at rfl rfl rfl rfl).trans rfl), ?hysx8⟩) hSsx1 ?restsx8
            case hysx8 =>
              intro W hW
              go_simp
              exact rfl
            simp only [List.getElem_toArray, List.getElem_cons_succ, List.getElem_cons_zero, Act.put, List.setIfInBounds_toArray, List.set_cons_zero, List.set_cons_succ]
            refine but_take (f := 24) (i := 9) (v := ?vsx9) rfl (by kernel_rfl) (by kernel_rfl) (by kernel_rfl) (by kernel_rfl) (by kernel_rfl) (fun _ _ _ h => h) (Or.inl ⟨((wanted_at rfl rfl rfl rfl).trans rfl), ?hysx9⟩) hSsx1 ?restsx9
            case hysx9 =>
              intro W hW
              go_simp
              exact rfl
            simp only [List.getElem_toArray, List.getElem_cons_succ, List.getElem_cons_zero, Act.put, List.setIfInBounds_toArray, List.set_cons_zero, List.set_cons_succ]
            refine but_take (f := 24) (i := 10) (v := ?vsx10) rfl (by kernel_rfl) (by kernel_rfl) (by kernel_rfl) (by kernel_rfl) (by kernel_rfl) (fun _ _ _ h => h) (Or.inl ⟨((wanted_at rfl rfl rfl rfl).trans rfl), ?hysx10⟩) hSsx1 ?restsx10
            case hysx10 =>
              intro W hW
              go_simp
              exact rfl
            simp only [List.getElem_toArray, List.getElem_cons_succ, List.getElem_cons_zero, Act.put, List.setIfInBounds_toArray, List.set_cons_zero, List.set_cons_succ]
            refine but_take (f := 24) (i := 11) (v := ?vsx11) rfl (by kernel_rfl) (by kernel_rfl) (by kernel_rfl) (by kernel_rfl) (by kernel_rfl) (fun _ _ _ h => h) (Or.inl ⟨((wanted_at rfl rfl rfl rfl).trans rfl), ?hysx11⟩) hSsx1 ?restsx11
            case hysx11 =>
              intro W hW
              go_simp
              exact rfl
            simp only [List.getElem_toArray, List.getElem_cons_succ, List.getElem_cons_zero, Act.put, List.setIfInBounds_toArray, List.set_cons_zero, List.set_cons_succ]
            refine but_take (f := 24) (i := 12) (v := ?vsx12) rfl (by kernel_rfl) (by kernel_rfl) (by kernel_rfl) (by kernel_rfl) (by kernel_rfl) (fun _ _ _ h => h) (Or.inl ⟨((wanted_at rfl rfl rfl rfl).trans rfl), ?hysx12⟩) hSsx1 ?restsx12
            case hysx12 =>
              intro W hW
              go_simp
              exact rfl
            simp only [List.getElem_toArray, List.getElem_cons_succ, List.getElem_cons_zero, Act.put, List.setIfInBounds_toArray, List.set_cons_zero, List.set_cons_succ]
            refine but_take (f := 24) (i := 13) (v := ?vsx13) rfl (by kernel_rfl) (by kernel_rfl) (by kernel_rfl) (by kernel_rfl) (by kernel_rfl) (fun _ _ _ h => h) (Or.inl ⟨((wanted_at rfl rfl rfl rfl).trans rfl), ?hysx13⟩) hSsx1 ?restsx13
            case hysx13 =>
              intro W hW
              go_simp
              exact rfl
            simp only [List.getElem_toArray, List.getElem_cons_succ, List.getElem_cons_zero, Act.put, List.setIfInBounds_toArray, List.set_cons_zero, List.set_cons_succ]
            refine but_take (f := 24) (i := 14) (v := ?vsx14) rfl (by kernel_rfl) (by kernel_rfl) (by kernel_rfl) (by kernel_rfl) (by kernel_rfl) (fun _ _ _ h => h) (Or.inl ⟨((wanted_at rfl rfl rfl rfl).trans rfl), ?hysx14⟩) hSsx1 ?restsx14
            case hysx14 =>
              intro W hW
              go_simp
              exact rfl
            simp only [List.getElem_toArray, List.getElem_cons_succ, List.getElem_cons_zero, Act.put, List.setIfInBounds_toArray, List.set_cons_zero, List.set_cons_succ]
            refine but_take (f := 24) (i := 15) (v := ?vsx15) rfl (by kernel_rfl) (by kernel_rfl) (by kernel_rfl) (by kernel_rfl) (by kernel_rfl) (fun _ _ _ h => h) (Or.inl ⟨((wanted_at rfl rfl rfl rfl).trans rfl), ?hysx15⟩) hSsx1 ?restsx15
            case hysx15 =>
              intro W hW
              go_simp
              exact rfl
            simp only [List.getElem_toArray, List.getElem_cons_succ, List.getElem_cons_zero, Act.put, List.setIfInBounds_toArray, List.set_cons_zero, List.set_cons_succ]
            refine but_take (f := 24) (i := 16) (v := ?vsx16) rfl (by kernel_rfl) (by kernel_rfl) (by kernel_rfl) (by kernel_rfl) (by kernel_rfl) (fun _ _ _ h => h) (Or.inl ⟨((wanted_at rfl rfl rfl rfl).trans rfl), ?hysx16⟩) hSsx1 ?restsx16
            case hysx16 =>
              intro W hW
              have hb0 : Below wr.heap.size wr W := bstep (Below.drew1 _) hW
              obtain ⟨y0, y1⟩ := FK.out.on hbb hb0
              obtain ⟨z0, z1⟩ := FJ.out.on hbb hb0
              go_simp
              exact rfl
            simp only [List.getElem_toArray, List.getElem_cons_succ, List.getElem_cons_zero, Act.put, List.setIfInBounds_toArray, List.set_cons_zero, List.set_cons_succ]
            refine but_take (f := 24) (i := 17) (v := ?vsx17) rfl (by kernel_rfl) (by kernel_rfl) (by kernel_rfl) (by kernel_rfl) (by kernel_rfl) (fun _ _ _ h => h) (Or.inl ⟨((wanted_at rfl rfl rfl rfl).trans rfl), ?hysx17⟩) hSsx1 ?restsx17
            case hysx17 =>
              intro W hW
              go_simp
              exact rfl
            simp only [List.getElem_toArray, List.getElem_cons_succ, List.getElem_cons_zero, Act.put, List.setIfInBounds_toArray, List.set_cons_zero, List.set_cons_succ]
            refine but_take (f := 24) (i := 18) (v := ?vsx18) rfl (by kernel_rfl) (by kernel_rfl) (by kernel_rfl) (by kernel_rfl) (by kernel_rfl) (fun _ _ _ h => h) (Or.inl ⟨((wanted_at rfl rfl rfl rfl).trans rfl), ?hysx18⟩) hSsx1 ?restsx18
            case hysx18 =>
              intro W hW
              go_simp
              exact rfl
            simp only [List.getElem_toArray, List.getElem_cons_succ, List.getElem_cons_zero, Act.put, List.setIfInBounds_toArray, List.set_cons_zero, List.set_cons_succ]
            refine but_take (f := 24) (i := 19) (v := ?vsx19) rfl (by kernel_rfl) (by kernel_rfl) (by kernel_rfl) (by kernel_rfl) (by kernel_rfl) (fun _ _ _ h => h) (Or.inl ⟨((wanted_at rfl rfl rfl rfl).trans rfl), ?hysx19⟩) hSsx1 ?restsx19
            case hysx19 =>
              intro W hW
              go_simp
              exact rfl
            simp only [List.getElem_toArray, List.getElem_cons_succ, List.getElem_cons_zero, Act.put, List.setIfInBounds_toArray, List.set_cons_zero, List.set_cons_succ]
            refine but_take (f := 24) (i := 20) (v := ?vsx20) rfl (by kernel_rfl) (by kernel_rfl) (by kernel_rfl) (by kernel_rfl) (by kernel_rfl) (fun _ _ _ h => h) (Or.inl ⟨((wanted_at rfl rfl rfl rfl).trans rfl), ?hysx20⟩) hSsx1 ?restsx20
            case hysx20 =>
              intro W hW
              go_simp
              exact rfl
            simp only [List.getElem_toArray, List.getElem_cons_succ, List.getElem_cons_zero, Act.put, List.setIfInBounds_toArray, List.set_cons_zero, List.set_cons_succ]
            refine but_take (f := 24) (i := 21) (v := ?vsx21) rfl (by kernel_rfl) (by kernel_rfl) (by kernel_rfl) (by kernel_rfl) (by kernel_rfl) (fun _ _ _ h => h) (Or.inl ⟨((wanted_at rfl rfl rfl rfl).trans rfl), ?hysx21⟩) hSsx1 ?restsx21
            case hysx21 =>
              intro W hW
              have hb0 : Below wr.heap.size wr W := bstep (Below.drew1 _) hW
              obtain ⟨y0, y1⟩ := FK.out.on hbb hb0
              obtain ⟨z0, z1⟩ := FJ.out.on hbb hb0
              go_simp
              exact rfl
            simp only [List.getElem_toArray, List.getElem_cons_succ, List.getElem_cons_zero, Act.put, List.setIfInBounds_toArray, List.set_cons_zero, List.set_cons_succ]
            refine but_take (f := 24) (i := 22) (v := ?vsx22) rfl (by kernel_rfl) (by kernel_rfl) (by kernel_rfl) (by kernel_rfl) (by kernel_rfl) (fun _ _ _ h => h) (Or.inl ⟨((wanted_at rfl rfl rfl rfl).trans rfl), ?hysx22⟩) hSsx1 ?restsx22
            case hysx22 =>
              intro W hW
              go_simp
              exact rfl
            simp only [List.getElem_toArray, List.getElem_cons_succ, List.getElem_cons_zero, Act.put, List.setIfInBounds_toArray, List.set_cons_zero, List.set_cons_succ]
            refine but_take (f := 24) (i := 23) (v := ?vsx23) rfl (by kernel_rfl) (by kernel_rfl) (by kernel_rfl) (by kernel_rfl) (by kernel_rfl) (fun _ _ _ h => h) (Or.inl ⟨((wanted_at rfl rfl rfl rfl).trans rfl), ?hysx23⟩) hSsx1 ?restsx23
            case hysx23 =>
              intro W hW
              go_simp
              exact rfl
            simp only [List.getElem_toArray, List.getElem_cons_succ, List.getElem_cons_zero, Act.put, List.setIfInBounds_toArray, List.set_cons_zero, List.set_cons_succ]
            refine but_run (i := 24) (by kernel_rfl) rfl (by rfl) ?_
            simp only [List.getElem_toArray, List.getElem_cons_succ, List.getElem_cons_zero]
            intro K HK
            go_wp2_with fail
            refine HK.out _ Vsx1 (fun h => absurd rfl h) ?_
            clear HK
            refine but_done (by kernel_rfl) ?_
            go_wp2_with fail
            go_ret
            exact ⟨ret_boolB (by rw [← HR.out]; exact HBAD.out.symm), bstep HW.out (bstep (Below.drew1 _) hSsx1)⟩
          · have z1 : decide ((l[k]).a ≤ (l[j]).a) = false := decide_eq_false p
            have HJ2 : Hid (∀ j (h : j + 1 < l.length), j + 1 < k + 1 → (l[j]).a < (l[j + 1]).a) := Lib.hid (fun i h h2 => by
              by_cases h3 : i + 1 < k
              · exact HJ.out i h h3
              · have e1 : i = j := by omega
                subst e1
                subst hj
                omega)
            clear hc hid hk0 hj p
            go_upto_region 4 with (fail)
            refine but_begin (f := 24) (S := fun V => Below wr.drew.heap.size wr.drew V) (by kernel_rfl) ?_
            refine but_take (f := 24) (i := 0) (v := ?vsy0) rfl (by kernel_rfl) (by kernel_rfl) (by kernel_rfl) (by kernel_rfl) (by kernel_rfl) (fun _ _ _ h => h) (Or.inl ⟨(by rfl), ?hysy0⟩) (Below.refl _ _) ?restsy0
            case hysy0 =>
              intro W hW
              go_simp
              exact rfl
            simp only [List.getElem_toArray, List.getElem_cons_succ, List.getElem_cons_zero, Act.put, List.setIfInBounds_toArray, List.set_cons_zero, List.set_cons_succ]
            refine but_take (f := 24) (i := 1) (v := ?vsy1) rfl (by kernel_rfl) (by kernel_rfl) (by kernel_rfl) (by kernel_rfl) (by kernel_rfl) (fun _ _ _ h => h) (Or.inl ⟨(by rfl), ?hysy1⟩) (Below.refl _ _) ?restsy1
            case hysy1 =>
              intro W hW
              go_simp
              exact rfl
            simp only [List.getElem_toArray, List.getElem_cons_succ, List.getElem_cons_zero, Act.put, List.setIfInBounds_toArray, List.set_cons_zero, List.set_cons_succ]
            refine but_take (f := 24) (i := 2) (v := ?vsy2) rfl (by kernel_rfl) (by kernel_rfl) (by kernel_rfl) (by kernel_rfl) (by kernel_rfl) (fun _ _ _ h => h) (Or.inl ⟨(by rfl), ?hysy2⟩) (Below.refl _ _) ?restsy2
            case hysy2 =>
              intro W hW
              go_simp
              exact rfl
            simp only [List.getElem_toArray, List.getElem_cons_succ, List.getElem_cons_zero, Act.put, List.setIfInBounds_toArray, List.set_cons_zero, List.set_cons_succ]
            refine but_take (f := 24) (i := 3) (v := ?vsy3) rfl (by kernel_rfl) (by kernel_rfl) (by kernel_rfl) (by kernel_rfl) (by kernel_rfl) (fun _ _ _ h => h) (Or.inl ⟨(by rfl), ?hysy3⟩) (Below.refl _ _) ?restsy3
            case hysy3 =>
              intro W hW
              go_simp
              exact rfl
            simp only [List.getElem_toArray, List.getElem_cons_succ, List.getElem_cons_zero, Act.put, List.setIfInBounds_toArray, List.set_cons_zero, List.set_cons_succ]
            refine but_take (f := 24) (i := 4) (v := ?vsy4) rfl (by kernel_rfl) (by kernel_rfl) (by kernel_rfl) (by kernel_rfl) (by kernel_rfl) (fun _ _ _ h => h) (Or.inl ⟨(by rfl), ?hysy4⟩) (Below.refl _ _) ?restsy4
            case hysy4 =>
              intro W hW
              have hb0 : Below wr.heap.size wr W := bstep (Below.drew1 _) hW
              obtain ⟨y0, y1⟩ := FK.out.on hbb hb0
              obtain ⟨z0, z1⟩ := FJ.out.on hbb hb0
              go_simp
              exact rfl
            simp only [List.getElem_toArray, List.getElem_cons_succ, List.getElem_cons_zero, Act.put, List.setIfInBounds_toArray, List.set_cons_zero, List.set_cons_succ]
            refine but_run (i := 5) (by kernel_rfl) rfl (by rfl) ?_
            simp only [List.getElem_toArray, List.getElem_cons_succ, List.getElem_cons_zero]
            intro K HK
            go_wp2_with fail
            refine (inG_any (l[k]).a _).mono ?_
            rintro r Vsy1 ⟨rfl, hBsy1⟩
            rw [HID.out]
            have hSsy1 := bstep (Below.refl _ _) hBsy1
            go_wp2_with fail
            refine HK.out _ Vsy1 (fun _ => hSsy1) ?_
            clear HK
            refine but_take (f := 24) (i := 6) (v := ?vsy6) rfl (by kernel_rfl) (by kernel_rfl) (by kernel_rfl) (by kernel_rfl) (by kernel_rfl) (fun _ _ _ h => h) (Or.inl ⟨(by rfl), ?hysy6⟩) hSsy1 ?restsy6
            case hysy6 =>
              intro W hW
              go_simp
              exact rfl
            simp only [List.getElem_toArray, List.getElem_cons_succ, List.getElem_cons_zero, Act.put, List.setIfInBounds_toArray, List.set_cons_zero, List.set_cons_succ]
            refine but_take (f := 24) (i := 7) (v := ?vsy7) rfl (by kernel_rfl) (by kernel_rfl) (by kernel_rfl) (by kernel_rfl) (by kernel_rfl) (fun _ _ _ h => h) (Or.inl ⟨(by rfl), ?hysy7⟩) hSsy1 ?restsy7
            case hysy7 =>
              intro W hW
              go_simp
              exact rfl
            simp only [List.getElem_toArray, List.getElem_cons_succ, List.getElem_cons_zero, Act.put, List.setIfInBounds_toArray, List.set_cons_zero, List.set_cons_succ]
            refine but_take (f := 24) (i := 8) (v := ?vsy8) rfl (by kernel_rfl) (by kernel_rfl) (by kernel_rfl) (by kernel_rfl) (by kernel_rfl) (fun _ _ _ h => h) (Or.inl ⟨((wanted_at rfl rfl rfl rfl).trans rfl), ?hysy8⟩) hSsy1 ?restsy8
            case hysy8 =>
              intro W hW
              go_simp
              exact rfl
            simp only [List.getElem_toArray, List.getElem_cons_succ, List.getElem_cons_zero, Act.put, List.setIfInBounds_toArray, List.set_cons_zero, List.set_cons_succ]
            refine but_take (f := 24) (i := 9) (v := ?vsy9) rfl (by kernel_rfl) (by kernel_rfl) (by kernel_rfl) (by kernel_rfl) (by kernel_rfl) (fun _ _ _ h => h) (Or.inl ⟨((wanted_at rfl rfl rfl rfl).trans rfl), ?hysy9⟩) hSsy1 ?restsy9
            case hysy9 =>
              intro W hW
              go_simp
              exact rfl
            simp only [List.getElem_toArray, List.getElem_cons_succ, List.getElem_cons_zero, Act.put, List.setIfInBounds_toArray, List.set_cons_zero, List.set_cons_succ]
            refine but_take (f := 24) (i := 10) (v := ?vsy10) rfl (by kernel_rfl) (by kernel_rfl) (by kernel_rfl) (by kernel_rfl) (by kernel_rfl) (fun _ _ _ h => h) (Or.inl ⟨((wanted_at rfl rfl rfl rfl).trans rfl), ?hysy10⟩) hSsy1 ?restsy10
            case hysy10 =>
              intro W hW
              go_simp
              exact rfl
            simp only [List.getElem_toArray, List.getElem_cons_succ, List.getElem_cons_zero, Act.put, List.setIfInBounds_toArray, List.set_cons_zero, List.set_cons_succ]
            refine but_take (f := 24) (i := 11) (v := ?vsy11) rfl (by kernel_rfl) (by kernel_rfl) (by kernel_rfl) (by kernel_rfl) (by kernel_rfl) (fun _ _ _ h => h) (Or.inl ⟨((wanted_at rfl rfl rfl rfl).trans rfl), ?hysy11⟩) hSsy1 ?restsy11
            case hysy11 =>
              intro W hW
              go_simp
              exact rfl
            simp only [List.getElem_toArray, List.getElem_cons_succ, List.getElem_cons_zero, Act.put, List.setIfInBounds_toArray, List.set_cons_zero, List.set_cons_succ]
            refine but_take (f := 24) (i := 12) (v := ?vsy12) rfl (by kernel_rfl) (by kernel_rfl) (by kernel_rfl) (by kernel_rfl) (by kernel_rfl) (fun _ _ _ h => h) (Or.inl ⟨((wanted_at rfl rfl rfl rfl).trans rfl), ?hysy12⟩) hSsy1 ?restsy12
            case hysy12 =>
              intro W hW
              go_simp
              exact rfl
            simp only [List.getElem_toArray, List.getElem_cons_succ, List.getElem_cons_zero, Act.put, List.setIfInBounds_toArray, List.set_cons_zero, List.set_cons_succ]
            refine but_take (f := 24) (i := 13) (v := ?vsy13) rfl (by kernel_rfl) (by kernel_rfl) (by kernel_rfl) (by kernel_rfl) (by kernel_rfl) (fun _ _ _ h => h) (Or.inl ⟨((wanted_at rfl rfl rfl rfl).trans rfl), ?hysy13⟩) hSsy1 ?restsy13
            case hysy13 =>
              intro W hW
              go_simp
              exact rfl
            simp only [List.getElem_toArray, List.getElem_cons_succ, List.getElem_cons_zero, Act.put, List.setIfInBounds_toArray, List.set_cons_zero, List.set_cons_succ]
            refine but_take (f := 24) (i := 14) (v := ?vsy14) rfl (by kernel_rfl) (by kernel_rfl) (by kernel_rfl) (by kernel_rfl) (by kernel_rfl) (fun _ _ _ h => h) (Or.inl ⟨((wanted_at rfl rfl rfl rfl).trans rfl), ?hysy14⟩) hSsy1 ?restsy14
            case hysy14 =>
              intro W hW
              go_simp
              exact rfl
            simp only [List.getElem_toArray, List.getElem_cons_succ, List.getElem_cons_zero, Act.put, List.setIfInBounds_toArray, List.set_cons_zero, List.set_cons_succ]
            refine but_take (f := 24) (i := 15) (v := ?vsy15) rfl (by kernel_rfl) (by kernel_rfl) (by kernel_rfl) (by kernel_rfl) (by kernel_rfl) (fun _ _ _ h => h) (Or.inl ⟨((wanted_at rfl rfl rfl rfl).trans rfl), ?hysy15⟩) hSsy1 ?restsy15
            case hysy15 =>
              intro W hW
              go_simp
              exact rfl
            simp only [List.getElem_toArray, List.getElem_cons_succ, List.getElem_cons_zero, Act.put, List.setIfInBounds_toArray, List.set_cons_zero, List.set_cons_succ]
            refine but_take (f := 24) (i := 16) (v := ?vsy16) rfl (by kernel_rfl) (by kernel_rfl) (by kernel_rfl) (by kernel_rfl) (by kernel_rfl) (fun _ _ _ h => h) (Or.inl ⟨((wanted_at rfl rfl rfl rfl).trans rfl), ?hysy16⟩) hSsy1 ?restsy16
            case hysy16 =>
              intro W hW
              have hb0 : Below wr.heap.size wr W := bstep (Below.drew1 _) hW
              obtain ⟨y0, y1⟩ := FK.out.on hbb hb0
              obtain ⟨z0, z1⟩ := FJ.out.on hbb hb0
              go_simp
              exact rfl
            simp only [List.getElem_toArray, List.getElem_cons_succ, List.getElem_cons_zero, Act.put, List.setIfInBounds_toArray, List.set_cons_zero, List.set_cons_succ]
            refine but_take (f := 24) (i := 17) (v := ?vsy17) rfl (by kernel_rfl) (by kernel_rfl) (by kernel_rfl) (by kernel_rfl) (by kernel_rfl) (fun _ _ _ h => h) (Or.inl ⟨((wanted_at rfl rfl rfl rfl).trans rfl), ?hysy17⟩) hSsy1 ?restsy17
            case hysy17 =>
              intro W hW
              go_simp
              exact rfl
            simp only [List.getElem_toArray, List.getElem_cons_succ, List.getElem_cons_zero, Act.put, List.setIfInBounds_toArray, List.set_cons_zero, List.set_cons_succ]
            refine but_take (f := 24) (i := 18) (v := ?vsy18) rfl (by kernel_rfl) (by kernel_rfl) (by kernel_rfl) (by kernel_rfl) (by kernel_rfl) (fun _ _ _ h => h) (Or.inl ⟨((wanted_at rfl rfl rfl rfl).trans rfl), ?hysy18⟩) hSsy1 ?restsy18
            case hysy18 =>
              intro W hW
              go_simp
              exact rfl
            simp only [List.getElem_toArray, List.getElem_cons_succ, List.getElem_cons_zero, Act.put, List.setIfInBounds_toArray, List.set_cons_zero, List.set_cons_succ]
            refine but_take (f := 24) (i := 19) (v := ?vsy19) rfl (by kernel_rfl) (by kernel_rfl) (by kernel_rfl) (by kernel_rfl) (by kernel_rfl) (fun _ _ _ h => h) (Or.inl ⟨((wanted_at rfl rfl rfl rfl).trans rfl), ?hysy19⟩) hSsy1 ?restsy19
            case hysy19 =>
              intro W hW
              go_simp
              exact rfl
            simp only [List.getElem_toArray, List.getElem_cons_succ, List.getElem_cons_zero, Act.put, List.setIfInBounds_toArray, List.set_cons_zero, List.set_cons_succ]
            refine but_take (f := 24) (i := 20) (v := ?vsy20) rfl (by kernel_rfl) (by kernel_rfl) (by kernel_rfl) (by kernel_rfl) (by kernel_rfl) (fun _ _ _ h => h) (Or.inl ⟨((wanted_at rfl rfl rfl rfl).trans rfl), ?hysy20⟩) hSsy1 ?restsy20
            case hysy20 =>
              intro W hW
              go_simp
              exact rfl
            simp only [List.getElem_toArray, List.getElem_cons_succ, List.getElem_cons_zero, Act.put, List.setIfInBounds_toArray, List.set_cons_zero, List.set_cons_succ]
            refine but_take (f := 24) (i := 21) (v := ?vsy21) rfl (by kernel_rfl) (by kernel_rfl) (by kernel_rfl) (by kernel_rfl) (by kernel_rfl) (fun _ _ _ h => h) (Or.inl ⟨((wanted_at rfl rfl rfl rfl).trans rfl), ?hysy21⟩) hSsy1 ?restsy21
            case hysy21 =>
              intro W hW
              have hb0 : Below wr.heap.size wr W := bstep (Below.drew1 _) hW
              obtain ⟨y0, y1⟩ := FK.out.on hbb hb0
              obtain ⟨z0, z1⟩ := FJ.out.on hbb hb0
              go_simp
              exact rfl
            simp only [List.getElem_toArray, List.getElem_cons_succ, List.getElem_cons_zero, Act.put, List.setIfInBounds_toArray, List.set_cons_zero, List.set_cons_succ]
            refine but_take (f := 24) (i := 22) (v := ?vsy22) rfl (by kernel_rfl) (by kernel_rfl) (by kernel_rfl) (by kernel_rfl) (by kernel_rfl) (fun _ _ _ h => h) (Or.inl ⟨((wanted_at rfl rfl rfl rfl).trans rfl), ?hysy22⟩) hSsy1 ?restsy22
            case hysy22 =>
              intro W hW
              go_simp
              exact rfl
            simp only [List.getElem_toArray, List.getElem_cons_succ, List.getElem_cons_zero, Act.put, List.setIfInBounds_toArray, List.set_cons_zero, List.set_cons_succ]
            refine but_take (f := 24) (i := 23) (v := ?vsy23) rfl (by kernel_rfl) (by kernel_rfl) (by kernel_rfl) (by kernel_rfl) (by kernel_rfl) (fun _ _ _ h => h) (Or.inl ⟨((wanted_at rfl rfl rfl rfl).trans rfl), ?hysy23⟩) hSsy1 ?restsy23
            case hysy23 =>
              intro W hW
              go_simp
              exact rfl
            simp only [List.getElem_toArray, List.getElem_cons_succ, List.getElem_cons_zero, Act.put, List.setIfInBounds_toArray, List.set_cons_zero, List.set_cons_succ]
            refine but_run (i := 24) (by kernel_rfl) rfl (by rfl) ?_
            simp only [List.getElem_toArray, List.getElem_cons_succ, List.getElem_cons_zero]
            intro K HK
            go_wp2_with fail
            refine HK.out _ Vsy1 (fun h => absurd rfl h) ?_
            clear HK
            refine but_done (by kernel_rfl) ?_
            have BV := Lib.hid (bstep (Below.drew1 _) hSsy1)
            go_upto_region 6 with (fail)
            obtain ⟨wv, hwv⟩ : ∃ wv, wv = Vsy1 := ⟨_, rfl⟩
            rw [← hwv] at BV ⊢
            clear hwv
            cases q0 : ((l[k]).b != 0)
            · have HF : Hid (fitG l k = true) := Lib.hid (by rw [hfit, HID.out, parGB, show ((l[k]).b == 0) = true by simpa using q0]; rfl)
              refine but_begin (f := 17) (S := fun V => Below wv.drew.heap.size wv.drew V) (by kernel_rfl) ?_
              refine but_take (f := 17) (i := 0) (v := ?vt0sy0) rfl (by kernel_rfl) (by kernel_rfl) (by kernel_rfl) (by kernel_rfl) (by kernel_rfl) (fun _ _ _ h => h) (Or.inl ⟨(by rfl), ?hyt0sy0⟩) (Below.refl _ _) ?restt0sy0
              case hyt0sy0 =>
                intro W hW
                go_simp
                exact rfl
              simp only [List.getElem_toArray, List.getElem_cons_succ, List.getElem_cons_zero, Act.put, List.setIfInBounds_toArray, List.set_cons_zero, List.set_cons_succ]
              refine but_take (f := 17) (i := 1) (v := ?vt0sy1) rfl (by kernel_rfl) (by kernel_rfl) (by kernel_rfl) (by kernel_rfl) (by kernel_rfl) (fun _ _ _ h => h) (Or.inl ⟨(by rfl), ?hyt0sy1⟩) (Below.refl _ _) ?restt0sy1
              case hyt0sy1 =>
                intro W hW
                go_simp
                exact rfl
              simp only [List.getElem_toArray, List.getElem_cons_succ, List.getElem_cons_zero, Act.put, List.setIfInBounds_toArray, List.set_cons_zero, List.set_cons_succ]
              refine but_take (f := 17) (i := 2) (v := ?vt0sy2) rfl (by kernel_rfl) (by kernel_rfl) (by kernel_rfl) (by kernel_rfl) (by kernel_rfl) (fun _ _ _ h => h) (Or.inl ⟨(by rfl), ?hyt0sy2⟩) (Below.refl _ _) ?restt0sy2
              case hyt0sy2 =>
                intro W hW
                go_simp
                exact rfl
              simp only [List.getElem_toArray, List.getElem_cons_succ, List.getElem_cons_zero, Act.put, List.setIfInBounds_toArray, List.set_cons_zero, List.set_cons_succ]
              refine but_take (f := 17) (i := 3) (v := ?vt0sy3) rfl (by kernel_rfl) (by kernel_rfl) (by kernel_rfl) (by kernel_rfl) (by kernel_rfl) (fun _ _ _ h => h) (Or.inl ⟨(by rfl), ?hyt0sy3⟩) (Below.refl _ _) ?restt0sy3
              case hyt0sy3 =>
                intro W hW
                go_simp
                exact rfl
              simp only [List.getElem_toArray, List.getElem_cons_succ, List.getElem_cons_zero, Act.put, List.setIfInBounds_toArray, List.set_cons_zero, List.set_cons_succ]
              refine but_take (f := 17) (i := 4) (v := ?vt0sy4) rfl (by kernel_rfl) (by kernel_rfl) (by kernel_rfl) (by kernel_rfl) (by kernel_rfl) (fun _ _ _ h => h) (Or.inl ⟨(by rfl), ?hyt0sy4⟩) (Below.refl _ _) ?restt0sy4
              case hyt0sy4 =>
                intro W hW
                have hb0 : Below wv.heap.size wv W := bstep (Below.drew1 _) hW
                obtain ⟨y0, y1⟩ := FK.out.on hbb (bstep BV.out hb0)
                go_simp
                exact rfl
              simp only [List.getElem_toArray, List.getElem_cons_succ, List.getElem_cons_zero, Act.put, List.setIfInBounds_toArray, List.set_cons_zero, List.set_cons_succ]
              refine but_take (f := 17) (i := 5) (v := ?vt0sy5) rfl (by kernel_rfl) (by kernel_rfl) (by kernel_rfl) (by kernel_rfl) (by kernel_rfl) (fun _ _ _ h => h) (Or.inl ⟨(by rfl), ?hyt0sy5⟩) (Below.refl _ _) ?restt0sy5
              case hyt0sy5 =>
                intro W hW
                go_simp
                exact rfl
              simp only [List.getElem_toArray, List.getElem_cons_succ, List.getElem_cons_zero, Act.put, List.setIfInBounds_toArray, List.set_cons_zero, List.set_cons_succ]
              refine but_take (f := 17) (i := 6) (v := ?vt0sy6) rfl (by kernel_rfl) (by kernel_rfl) (by kernel_rfl) (by kernel_rfl) (by kernel_rfl) (fun _ _ _ h => h) (Or.inl ⟨(by rfl), ?hyt0sy6⟩) (Below.refl _ _) ?restt0sy6
              case hyt0sy6 =>
                intro W hW
                go_simp
                exact rfl
              simp only [List.getElem_toArray, List.getElem_cons_succ, List.getElem_cons_zero, Act.put, List.setIfInBounds_toArray, List.set_cons_zero, List.set_cons_succ]
              refine but_take (f := 17) (i := 7) (v := undef) rfl (by kernel_rfl) (by kernel_rfl) (by kernel_rfl) (by kernel_rfl) (by kernel_rfl) (fun _ _ _ h => h) (Or.inr ⟨((wanted_at rfl rfl rfl rfl).trans rfl), rfl⟩) (Below.refl _ _) ?_
              simp only [List.getElem_toArray, List.getElem_cons_succ, List.getElem_cons_zero, Act.put, List.setIfInBounds_toArray, List.set_cons_zero, List.set_cons_succ]
              refine but_take (f := 17) (i := 8) (v := undef) rfl (by kernel_rfl) (by kernel_rfl) (by kernel_rfl) (by kernel_rfl) (by kernel_rfl) (fun _ _ _ h => h) (Or.inr ⟨((wanted_at rfl rfl rfl rfl).trans rfl), rfl⟩) (Below.refl _ _) ?_
              simp only [List.getElem_toArray, List.getElem_cons_succ, List.getElem_cons_zero, Act.put, List.setIfInBounds_toArray, List.set_cons_zero, List.set_cons_succ]
              refine but_take (f := 17) (i := 9) (v := undef) rfl (by kernel_rfl) (by kernel_rfl) (by kernel_rfl) (by kernel_rfl) (by kernel_rfl) (fun _ _ _ h => h) (Or.inr ⟨((wanted_at rfl rfl rfl rfl).trans rfl), rfl⟩) (Below.refl _ _) ?_
              simp only [List.getElem_toArray, List.getElem_cons_succ, List.getElem_cons_zero, Act.put, List.setIfInBounds_toArray, List.set_cons_zero, List.set_cons_succ]
              refine but_take (f := 17) (i := 10) (v := undef) rfl (by kernel_rfl) (by kernel_rfl) (by kernel_rfl) (by kernel_rfl) (by kernel_rfl) (fun _ _ _ h => h) (Or.inr ⟨((wanted_at rfl rfl rfl rfl).trans rfl), rfl⟩) (Below.refl _ _) ?_
              simp only [List.getElem_toArray, List.getElem_cons_succ, List.getElem_cons_zero, Act.put, List.setIfInBounds_toArray, List.set_cons_zero, List.set_cons_succ]
              refine but_take (f := 17) (i := 11) (v := undef) rfl (by kernel_rfl) (by kernel_rfl) (by kernel_rfl) (by kernel_rfl) (by kernel_rfl) (fun _ _ _ h => h) (Or.inr ⟨((wanted_at rfl rfl rfl rfl).trans rfl), rfl⟩) (Below.refl _ _) ?_
              simp only [List.getElem_toArray, List.getElem_cons_succ, List.getElem_cons_zero, Act.put, List.setIfInBounds_toArray, List.set_cons_zero, List.set_cons_succ]
              refine but_take (f := 17) (i := 12) (v := undef) rfl (by kernel_rfl) (by kernel_rfl) (by kernel_rfl) (by kernel_rfl) (by kernel_rfl) (fun _ _ _ h => h) (Or.inr ⟨((wanted_at rfl rfl rfl rfl).trans rfl), rfl⟩) (Below.refl _ _) ?_
              simp only [List.getElem_toArray, List.getElem_cons_succ, List.getElem_cons_zero, Act.put, List.setIfInBounds_toArray, List.set_cons_zero, List.set_cons_succ]
              refine but_take (f := 17) (i := 13) (v := undef) rfl (by kernel_rfl) (by kernel_rfl) (by kernel_rfl) (by kernel_rfl) (by kernel_rfl) (fun _ _ _ h => h) (Or.inr ⟨((wanted_at rfl rfl rfl rfl).trans rfl), rfl⟩) (Below.refl _ _) ?_
              simp only [List.getElem_toArray, List.getElem_cons_succ, List.getElem_cons_zero, Act.put, List.setIfInBounds_toArray, List.set_cons_zero, List.set_cons_succ]
              refine but_take (f := 17) (i := 14) (v := undef) rfl (by kernel_rfl) (by kernel_rfl) (by kernel_rfl) (by kernel_rfl) (by kernel_rfl) (fun _ _ _ h => h) (Or.inr ⟨((wanted_at rfl rfl rfl rfl).trans rfl), rfl⟩) (Below.refl _ _) ?_
              simp only [List.getElem_toArray, List.getElem_cons_succ, List.getElem_cons_zero, Act.put, List.setIfInBounds_toArray, List.set_cons_zero, List.set_cons_succ]
              refine but_take (f := 17) (i := 15) (v := undef) rfl (by kernel_rfl) (by kernel_rfl) (by kernel_rfl) (by kernel_rfl) (by kernel_rfl) (fun _ _ _ h => h) (Or.inr ⟨((wanted_at rfl rfl rfl rfl).trans rfl), rfl⟩) (Below.refl _ _) ?_
              simp only [List.getElem_toArray, List.getElem_cons_succ, List.getElem_cons_zero, Act.put, List.setIfInBounds_toArray, List.set_cons_zero, List.set_cons_succ]
              refine but_take (f := 17) (i := 16) (v := undef) rfl (by kernel_rfl) (by kernel_rfl) (by kernel_rfl) (by kernel_rfl) (by kernel_rfl) (fun _ _ _ h => h) (Or.inr ⟨((wanted_at rfl rfl rfl rfl).trans rfl), rfl⟩) (Below.refl _ _) ?_
              simp only [List.getElem_toArray, List.getElem_cons_succ, List.getElem_cons_zero, Act.put, List.setIfInBounds_toArray, List.set_cons_zero, List.set_cons_succ]
              refine but_run (i := 17) (by kernel_rfl) rfl (by rfl) ?_
              simp only [List.getElem_toArray, List.getElem_cons_succ, List.getElem_cons_zero]
              intro K HK
              go_wp2_with fail
              refine HK.out _ wv.drew (fun h => absurd rfl h) ?_
              clear HK
              refine but_done (by kernel_rfl) ?_
              go_wp2_with fail
              go_roundw
              case rel => exact ⟨k + 1, by omega, by go_num, Lib.hid (fit_step HI.out HF.out), HJ2, Lib.hid (bstep HW.out (bstep BV.out (bstep (Below.drew1 _) (Below.refl _ _))))⟩
              case measure => simp [intOf]; omega
            · have q9 : ((l[k]).b == 0) = false := by simpa using q0
              have hneg := ageAt_neg (l.take k) (l[k]).b
              cases q2 : hasG (l.take k) (l[k]).b
              · have HF : Hid (fitG l k = false) := Lib.hid (by rw [hfit, HID.out, parGB, q9, q2]; rfl)
                rw [q2] at hneg
                have q3 : decide (ageAtK (l.take k) (l[k]).b < 0) = true := hneg
                clear hneg q9 q2
                refine but_begin (f := 17) (S := fun V => Below wv.drew.heap.size wv.drew V) (by kernel_rfl) ?_
                refine but_take (f := 17) (i := 0) (v := ?vtxsy0) rfl (by kernel_rfl) (by kernel_rfl) (by kernel_rfl) (by kernel_rfl) (by kernel_rfl) (fun _ _ _ h => h) (Or.inl ⟨(by rfl), ?hytxsy0⟩) (Below.refl _ _) ?resttxsy0
                case hytxsy0 =>
                  intro W hW
                  go_simp
                  exact rfl
                simp only [List.getElem_toArray, List.getElem_cons_succ, List.getElem_cons_zero, Act.put, List.setIfInBounds_toArray, List.set_cons_zero, List.set_cons_succ]
                refine but_take (f := 17) (i := 1) (v := ?vtxsy1) rfl (by kernel_rfl) (by kernel_rfl) (by kernel_rfl) (by kernel_rfl) (by kernel_rfl) (fun _ _ _ h => h) (Or.inl ⟨(by rfl), ?hytxsy1⟩) (Below.refl _ _) ?resttxsy1
                case hytxsy1 =>
                  intro W hW
                  go_simp
                  exact rfl
                simp only [List.getElem_toArray, List.getElem_cons_succ, List.getElem_cons_zero, Act.put, List.setIfInBounds_toArray, List.set_cons_zero, List.set_cons_succ]
                refine but_take (f := 17) (i := 2) (v := ?vtxsy2) rfl (by kernel_rfl) (by kernel_rfl) (by kernel_rfl) (by kernel_rfl) (by kernel_rfl) (fun _ _ _ h => h) (Or.inl ⟨(by rfl), ?hytxsy2⟩) (Below.refl _ _) ?resttxsy2
                case hytxsy2 =>
                  intro W hW
                  go_simp
                  exact rfl
                simp only [List.getElem_toArray, List.getElem_cons_succ, List.getElem_cons_zero, Act.put, List.setIfInBounds_toArray, List.set_cons_zero, List.set_cons_succ]
                refine but_take (f := 17) (i := 3) (v := ?vtxsy3) rfl (by kernel_rfl) (by kernel_rfl) (by kernel_rfl) (by kernel_rfl) (by kernel_rfl) (fun _ _ _ h => h) (Or.inl ⟨(by rfl), ?hytxsy3⟩) (Below.refl _ _) ?resttxsy3
                case hytxsy3 =>
                  intro W hW
                  go_simp
                  exact rfl
                simp only [List.getElem_toArray, List.getElem_cons_succ, List.getElem_cons_zero, Act.put, List.setIfInBounds_toArray, List.set_cons_zero, List.set_cons_succ]
                refine but_take (f := 17) (i := 4) (v := ?vtxsy4) rfl (by kernel_rfl) (by kernel_rfl) (by kernel_rfl) (by kernel_rfl) (by kernel_rfl) (fun _ _ _ h => h) (Or.inl ⟨(by rfl), ?hytxsy4⟩) (Below.refl _ _) ?resttxsy4
                case hytxsy4 =>
                  intro W hW
                  have hb0 : Below wv.heap.size wv W := bstep (Below.drew1 _) hW
                  obtain ⟨y0, y1⟩ := FK.out.on hbb (bstep BV.out hb0)
                  go_simp
                  exact rfl
                simp only [List.getElem_toArray, List.getElem_cons_succ, List.getElem_cons_zero, Act.put, List.setIfInBounds_toArray, List.set_cons_zero, List.set_cons_succ]
                refine but_take (f := 17) (i := 5) (v := ?vtxsy5) rfl (by kernel_rfl) (by kernel_rfl) (by kernel_rfl) (by kernel_rfl) (by kernel_rfl) (fun _ _ _ h => h) (Or.inl ⟨(by rfl), ?hytxsy5⟩) (Below.refl _ _) ?resttxsy5
                case hytxsy5 =>
                  intro W hW
                  go_simp
                  exact rfl
                simp only [List.getElem_toArray, List.getElem_cons_succ, List.getElem_cons_zero, Act.put, List.setIfInBounds_toArray, List.set_cons_zero, List.set_cons_succ]
                refine but_take (f := 17) (i := 6) (v := ?vtxsy6) rfl (by kernel_rfl) (by kernel_rfl) (by kernel_rfl) (by kernel_rfl) (by kernel_rfl) (fun _ _ _ h => h) (Or.inl ⟨(by rfl), ?hytxsy6⟩) (Below.refl _ _) ?resttxsy6
                case hytxsy6 =>
                  intro W hW
                  go_simp
                  exact rfl
                simp only [List.getElem_toArray, List.getElem_cons_succ, List.getElem_cons_zero, Act.put, List.setIfInBounds_toArray, List.set_cons_zero, List.set_cons_succ]
                refine but_take (f := 17) (i := 7) (v := ?vtxsy7) rfl (by kernel_rfl) (by kernel_rfl) (by kernel_rfl) (by kernel_rfl) (by kernel_rfl) (fun _ _ _ h => h) (Or.inl ⟨((wanted_at rfl rfl rfl rfl).trans rfl), ?hytxsy7⟩) (Below.refl _ _) ?resttxsy7
                case hytxsy7 =>
                  intro W hW
                  go_simp
                  exact rfl
                simp only [List.getElem_toArray, List.getElem_cons_succ, List.getElem_cons_zero, Act.put, List.setIfInBounds_toArray, List.set_cons_zero, List.set_cons_succ]
                refine but_take (f := 17) (i := 8) (v := ?vtxsy8) rfl (by kernel_rfl) (by kernel_rfl) (by kernel_rfl) (by kernel_rfl) (by kernel_rfl) (fun _ _ _ h => h) (Or.inl ⟨((wanted_at rfl rfl rfl rfl).trans rfl), ?hytxsy8⟩) (Below.refl _ _) ?resttxsy8
                case hytxsy8 =>
                  intro W hW
                  go_simp
                  exact rfl
                simp only [List.getElem_toArray, List.getElem_cons_succ, List.getElem_cons_zero, Act.put, List.setIfInBounds_toArray, List.set_cons_zero, List.set_cons_succ]
                refine but_take (f := 17) (i := 9) (v := ?vtxsy9) rfl (by kernel_rfl) (by kernel_rfl) (by kernel_rfl) (by kernel_rfl) (by kernel_rfl) (fun _ _ _ h => h) (Or.inl ⟨((wanted_at rfl rfl rfl rfl).trans rfl), ?hytxsy9⟩) (Below.refl _ _) ?resttxsy9
                case hytxsy9 =>
                  intro W hW
                  go_simp
                  exact rfl
                simp only [List.getElem_toArray, List.getElem_cons_succ, List.getElem_cons_zero, Act.put, List.setIfInBounds_toArray, List.set_cons_zero, List.set_cons_succ]
                refine but_take (f := 17) (i := 10) (v := ?vtxsy10) rfl (by kernel_rfl) (by kernel_rfl) (by kernel_rfl) (by kernel_rfl) (by kernel_rfl) (fun _ _ _ h => h) (Or.inl ⟨((wanted_at rfl rfl rfl rfl).trans rfl), ?hytxsy10⟩) (Below.refl _ _) ?resttxsy10
                case hytxsy10 =>
                  intro W hW
                  go_simp
                  exact rfl
                simp only [List.getElem_toArray, List.getElem_cons_succ, List.getElem_cons_zero, Act.put, List.setIfInBounds_toArray, List.set_cons_zero, List.set_cons_succ]
                refine but_take (f := 17) (i := 11) (v := ?vtxsy11) rfl (by kernel_rfl) (by kernel_rfl) (by kernel_rfl) (by kernel_rfl) (by kernel_rfl) (fun _ _ _ h => h) (Or.inl ⟨((wanted_at rfl rfl rfl rfl).trans rfl), ?hytxsy11⟩) (Below.refl _ _) ?resttxsy11
                case hytxsy11 =>
                  intro W hW
                  go_simp
                  exact rfl
                simp only [List.getElem_toArray, List.getElem_cons_succ, List.getElem_cons_zero, Act.put, List.setIfInBounds_toArray, List.set_cons_zero, List.set_cons_succ]
                refine but_take (f := 17) (i := 12) (v := ?vtxsy12) rfl (by kernel_rfl) (by kernel_rfl) (by kernel_rfl) (by kernel_rfl) (by kernel_rfl) (fun _ _ _ h => h) (Or.inl ⟨((wanted_at rfl rfl rfl rfl).trans rfl), ?hytxsy12⟩) (Below.refl _ _) ?resttxsy12
                case hytxsy12 =>
                  intro W hW
                  go_simp
                  exact rfl
                simp only [List.getElem_toArray, List.getElem_cons_succ, List.getElem_cons_zero, Act.put, List.setIfInBounds_toArray, List.set_cons_zero, List.set_cons_succ]
                refine but_take (f := 17) (i := 13) (v := ?vtxsy13) rfl (by kernel_rfl) (by kernel_rfl) (by kernel_rfl) (by kernel_rfl) (by kernel_rfl) (fun _ _ _ h => h) (Or.inl ⟨((wanted_at rfl rfl rfl rfl).trans rfl), ?hytxsy13⟩) (Below.refl _ _) ?resttxsy13
                case hytxsy13 =>
                  intro W hW
                  go_simp
                  exact rfl
                simp only [List.getElem_toArray, List.getElem_cons_succ, List.getElem_cons_zero, Act.put, List.setIfInBounds_toArray, List.set_cons_zero, List.set_cons_succ]
                refine but_take (f := 17) (i := 14) (v := ?vtxsy14) rfl (by kernel_rfl) (by kernel_rfl) (by kernel_rfl) (by kernel_rfl) (by kernel_rfl) (fun _ _ _ h => h) (Or.inl ⟨((wanted_at rfl rfl rfl rfl).trans rfl), ?hytxsy14⟩) (Below.refl _ _) ?resttxsy14
                case hytxsy14 =>
                  intro W hW
                  have hb0 : Below wv.heap.size wv W := bstep (Below.drew1 _) hW
                  obtain ⟨y0, y1⟩ := FK.out.on hbb (bstep BV.out hb0)
                  go_simp
                  exact rfl
                simp only [List.getElem_toArray, List.getElem_cons_succ, List.getElem_cons_zero, Act.put, List.setIfInBounds_toArray, List.set_cons_zero, List.set_cons_succ]
                refine but_run (i := 15) (by kernel_rfl) rfl ((wanted_at rfl rfl rfl rfl).trans rfl) ?_
                simp only [List.getElem_toArray, List.getElem_cons_succ, List.getElem_cons_zero]
                intro K HK
                go_wp2_with fail
                refine (specAgeAtB _ (l.take k) (l[k]).b _ (HTK.out.on (bstep BV.out (bstep (Below.drew1 _) (Below.refl _ _)))) (by simp; omega)).mono ?_
                rintro r Vtxsy1 ⟨rfl, hBtxsy1⟩
                have hStxsy1 := bstep (Below.refl _ _) hBtxsy1
                go_wp2_with fail
                refine HK.out _ Vtxsy1 (fun _ => hStxsy1) ?_
                clear HK
                refine but_take (f := 17) (i := 16) (v := ?vtxsy16) rfl (by kernel_rfl) (by kernel_rfl) (by kernel_rfl) (by kernel_rfl) (by kernel_rfl) (fun _ _ _ h => h) (Or.inl ⟨((wanted_at rfl rfl rfl rfl).trans rfl), ?hytxsy16⟩) hStxsy1 ?resttxsy16
                case hytxsy16 =>
                  intro W hW
                  go_simp
                  exact rfl
                simp only [List.getElem_toArray, List.getElem_cons_succ, List.getElem_cons_zero, Act.put, List.setIfInBounds_toArray, List.set_cons_zero, List.set_cons_succ]
                refine but_run (i := 17) (by kernel_rfl) rfl (by rfl) ?_
                simp only [List.getElem_toArray, List.getElem_cons_succ, List.getElem_cons_zero]
                intro K HK
                go_wp2_with fail
                refine HK.out _ Vtxsy1 (fun h => absurd rfl h) ?_
                clear HK
                refine but_done (by kernel_rfl) ?_
                go_wp2_with fail
                go_ret
                exact ⟨ret_boolB (by rw [← HR.out]; exact (fit_miss hlt HF.out).symm), bstep HW.out (bstep BV.out (bstep (Below.drew1 _) hStxsy1))⟩
              · have HF : Hid (fitG l k = true) := Lib.hid (by rw [hfit, HID.out, parGB, q9, q2]; rfl)
                rw [q2] at hneg
                have q3 : decide (ageAtK (l.take k) (l[k]).b < 0) = false := hneg
                clear hneg q9 q2
                refine but_begin (f := 17) (S := fun V => Below wv.drew.heap.size wv.drew V) (by kernel_rfl) ?_
                refine but_take (f := 17) (i := 0) (v := ?vtysy0) rfl (by kernel_rfl) (by kernel_rfl) (by kernel_rfl) (by kernel_rfl) (by kernel_rfl) (fun _ _ _ h => h) (Or.inl ⟨(by rfl), ?hytysy0⟩) (Below.refl _ _) ?resttysy0
                case hytysy0 =>
                  intro W hW
                  go_simp
                  exact rfl
                simp only [List.getElem_toArray, List.getElem_cons_succ, List.getElem_cons_zero, Act.put, List.setIfInBounds_toArray, List.set_cons_zero, List.set_cons_succ]
                refine but_take (f := 17) (i := 1) (v := ?vtysy1) rfl (by kernel_rfl) (by kernel_rfl) (by kernel_rfl) (by kernel_rfl) (by kernel_rfl) (fun _ _ _ h => h) (Or.inl ⟨(by rfl), ?hytysy1⟩) (Below.refl _ _) ?resttysy1
                case hytysy1 =>
                  intro W hW
                  go_simp
                  exact rfl
                simp only [List.getElem_toArray, List.getElem_cons_succ, List.getElem_cons_zero, Act.put, List.setIfInBounds_toArray, List.set_cons_zero, List.set_cons_succ]
                refine but_take (f := 17) (i := 2) (v := ?vtysy2) rfl (by kernel_rfl) (by kernel_rfl) (by kernel_rfl) (by kernel_rfl) (by kernel_rfl) (fun _ _ _ h => h) (Or.inl ⟨(by rfl), ?hytysy2⟩) (Below.refl _ _) ?resttysy2
                case hytysy2 =>
                  intro W hW
                  go_simp
                  exact rfl
                simp only [List.getElem_toArray, List.getElem_cons_succ, List.getElem_cons_zero, Act.put, List.setIfInBounds_toArray, List.set_cons_zero, List.set_cons_succ]
                refine but_take (f := 17) (i := 3) (v := ?vtysy3) rfl (by kernel_rfl) (by kernel_rfl) (by kernel_rfl) (by kernel_rfl) (by kernel_rfl) (fun _ _ _ h => h) (Or.inl ⟨(by rfl), ?hytysy3⟩) (Below.refl _ _) ?resttysy3
                case hytysy3 =>
                  intro W hW
                  go_simp
                  exact rfl
                simp only [List.getElem_toArray, List.getElem_cons_succ, List.getElem_cons_zero, Act.put, List.setIfInBounds_toArray, List.set_cons_zero, List.set_cons_succ]
                refine but_take (f := 17) (i := 4) (v := ?vtysy4) rfl (by kernel_rfl) (by kernel_rfl) (by kernel_rfl) (by kernel_rfl) (by kernel_rfl) (fun _ _ _ h => h) (Or.inl ⟨(by rfl), ?hytysy4⟩) (Below.refl _ _) ?resttysy4
                case hytysy4 =>
                  intro W hW
                  have hb0 : Below wv.heap.size wv W := bstep (Below.drew1 _) hW
                  obtain ⟨y0, y1⟩ := FK.out.on hbb (bstep BV.out hb0)
                  go_simp
                  exact rfl
                simp only [List.getElem_toArray, List.getElem_cons_succ, List.getElem_cons_zero, Act.put, List.setIfInBounds_toArray, List.set_cons_zero, List.set_cons_succ]
                refine but_take (f := 17) (i := 5) (v := ?vtysy5) rfl (by kernel_rfl) (by kernel_rfl) (by kernel_rfl) (by kernel_rfl) (by kernel_rfl) (fun _ _ _ h => h) (Or.inl ⟨(by rfl), ?hytysy5⟩) (Below.refl _ _) ?resttysy5
                case hytysy5 =>
                  intro W hW
                  go_simp
                  exact rfl
                simp only [List.getElem_toArray, List.getElem_cons_succ, List.getElem_cons_zero, Act.put, List.setIfInBounds_toArray, List.set_cons_zero, List.set_cons_succ]
                refine but_take (f := 17) (i := 6) (v := ?vtysy6) rfl (by kernel_rfl) (by kernel_rfl) (by kernel_rfl) (by kernel_rfl) (by kernel_rfl) (fun _ _ _ h => h) (Or.inl ⟨(by rfl), ?hytysy6⟩) (Below.refl _ _) ?resttysy6
                case hytysy6 =>
                  intro W hW
                  go_simp
                  exact rfl
                simp only [List.getElem_toArray, List.getElem_cons_succ, List.getElem_cons_zero, Act.put, List.setIfInBounds_toArray, List.set_cons_zero, List.set_cons_succ]
                refine but_take (f := 17) (i := 7) (v := ?vtysy7) rfl (by kernel_rfl) (by kernel_rfl) (by kernel_rfl) (by kernel_rfl) (by kernel_rfl) (fun _ _ _ h => h) (Or.inl ⟨((wanted_at rfl rfl rfl rfl).trans rfl), ?hytysy7⟩) (Below.refl _ _) ?resttysy7
                case hytysy7 =>
                  intro W hW
                  go_simp
                  exact rfl
                simp only [List.getElem_toArray, List.getElem_cons_succ, List.getElem_cons_zero, Act.put, List.setIfInBounds_toArray, List.set_cons_zero, List.set_cons_succ]
                refine but_take (f := 17) (i := 8) (v := ?vtysy8) rfl (by kernel_rfl) (by kernel_rfl) (by kernel_rfl) (by kernel_rfl) (by kernel_rfl) (fun _ _ _ h => h) (Or.inl ⟨((wanted_at rfl rfl rfl rfl).trans rfl), ?hytysy8⟩) (Below.refl _ _) ?resttysy8
                case hytysy8 =>
                  intro W hW
                  go_simp
                  exact rfl
                simp only [List.getElem_toArray, List.getElem_cons_succ, List.getElem_cons_zero, Act.put, List.setIfInBounds_toArray, List.set_cons_zero, List.set_cons_succ]
                refine but_take (f := 17) (i := 9) (v := ?vtysy9) rfl (by kernel_rfl) (by kernel_rfl) (by kernel_rfl) (by kernel_rfl) (by kernel_rfl) (fun _ _ _ h => h) (Or.inl ⟨((wanted_at rfl rfl rfl rfl).trans rfl), ?hytysy9⟩) (Below.refl _ _) ?resttysy9
                case hytysy9 =>
                  intro W hW
                  go_simp
                  exact rfl
                simp only [List.getElem_toArray, List.getElem_cons_succ, List.getElem_cons_zero, Act.put, List.setIfInBounds_toArray, List.set_cons_zero, List.set_cons_succ]
                refine but_take (f := 17) (i := 10) (v := ?vtysy10) rfl (by kernel_rfl) (by kernel_rfl) (by kernel_rfl) (by kernel_rfl) (by kernel_rfl) (fun _ _ _ h => h) (Or.inl ⟨((wanted_at rfl rfl rfl rfl).trans rfl), ?hytysy10⟩) (Below.refl _ _) ?resttysy10
                case hytysy10 =>
                  intro W hW
                  go_simp
                  exact rfl
                simp only [List.getElem_toArray, List.getElem_cons_succ, List.getElem_cons_zero, Act.put, List.setIfInBounds_toArray, List.set_cons_zero, List.set_cons_succ]
                refine but_take (f := 17) (i := 11) (v := ?vtysy11) rfl (by kernel_rfl) (by kernel_rfl) (by kernel_rfl) (by kernel_rfl) (by kernel_rfl) (fun _ _ _ h => h) (Or.inl ⟨((wanted_at rfl rfl rfl rfl).trans rfl), ?hytysy11⟩) (Below.refl _ _) ?resttysy11
                case hytysy11 =>
                  intro W hW
                  go_simp
                  exact rfl
                simp only [List.getElem_toArray, List.getElem_cons_succ, List.getElem_cons_zero, Act.put, List.setIfInBounds_toArray, List.set_cons_zero, List.set_cons_succ]
                refine but_take (f := 17) (i := 12) (v := ?vtysy12) rfl (by kernel_rfl) (by kernel_rfl) (by kernel_rfl) (by kernel_rfl) (by kernel_rfl) (fun _ _ _ h => h) (Or.inl ⟨((wanted_at rfl rfl rfl rfl).trans rfl), ?hytysy12⟩) (Below.refl _ _) ?resttysy12
                case hytysy12 =>
                  intro W hW
                  go_simp
                  exact rfl
                simp only [List.getElem_toArray, List.getElem_cons_succ, List.getElem_cons_zero, Act.put, List.setIfInBounds_toArray, List.set_cons_zero, List.set_cons_succ]
                refine but_take (f := 17) (i := 13) (v := ?vtysy13) rfl (by kernel_rfl) (by kernel_rfl) (by kernel_rfl) (by kernel_rfl) (by kernel_rfl) (fun _ _ _ h => h) (Or.inl ⟨((wanted_at rfl rfl rfl rfl).trans rfl), ?hytysy13⟩) (Below.refl _ _) ?resttysy13
                case hytysy13 =>
                  intro W hW
                  go_simp
                  exact rfl
                simp only [List.getElem_toArray, List.getElem_cons_succ, List.getElem_cons_zero, Act.put, List.setIfInBounds_toArray, List.set_cons_zero, List.set_cons_succ]
                refine but_take (f := 17) (i := 14) (v := ?vtysy14) rfl (by kernel_rfl) (by kernel_rfl) (by kernel_rfl) (by kernel_rfl) (by kernel_rfl) (fun _ _ _ h => h) (Or.inl ⟨((wanted_at rfl rfl rfl rfl).trans rfl), ?hytysy14⟩) (Below.refl _ _) ?resttysy14
                case hytysy14 =>
                  intro W hW
                  have hb0 : Below wv.heap.size wv W := bstep (Below.drew1 _) hW
                  obtain ⟨y0, y1⟩ := FK.out.on hbb (bstep BV.out hb0)
                  go_simp
                  exact rfl
                simp only [List.getElem_toArray, List.getElem_cons_succ, List.getElem_cons_zero, Act.put, List.setIfInBounds_toArray, List.set_cons_zero, List.set_cons_succ]
                refine but_run (i := 15) (by kernel_rfl) rfl ((wanted_at rfl rfl rfl rfl).trans rfl) ?_
                simp only [List.getElem_toArray, List.getElem_cons_succ, List.getElem_cons_zero]
                intro K HK
                go_wp2_with fail
                refine (specAgeAtB _ (l.take k) (l[k]).b _ (HTK.out.on (bstep BV.out (bstep (Below.drew1 _) (Below.refl _ _)))) (by simp; omega)).mono ?_
                rintro r Vtysy1 ⟨rfl, hBtysy1⟩
                have hStysy1 := bstep (Below.refl _ _) hBtysy1
                go_wp2_with fail
                refine HK.out _ Vtysy1 (fun _ => hStysy1) ?_
                clear HK
                refine but_take (f := 17) (i := 16) (v := ?vtysy16) rfl (by kernel_rfl) (by kernel_rfl) (by kernel_rfl) (by kernel_rfl) (by kernel_rfl) (fun _ _ _ h => h) (Or.inl ⟨((wanted_at rfl rfl rfl rfl).trans rfl), ?hytysy16⟩) hStysy1 ?resttysy16
                case hytysy16 =>
                  intro W hW
                  go_simp
                  exact rfl
                simp only [List.getElem_toArray, List.getElem_cons_succ, List.getElem_cons_zero, Act.put, List.setIfInBounds_toArray, List.set_cons_zero, List.set_cons_succ]
                refine but_run (i := 17) (by kernel_rfl) rfl (by rfl) ?_
                simp only [List.getElem_toArray, List.getElem_cons_succ, List.getElem_cons_zero]
                intro K HK
                go_wp2_with fail
                refine HK.out _ Vtysy1 (fun h => absurd rfl h) ?_
                clear HK
                refine but_done (by kernel_rfl) ?_
                go_wp2_with fail
                go_roundw
                case rel => exact ⟨k + 1, by omega, by go_num, Lib.hid (fit_step HI.out HF.out), HJ2, Lib.hid (bstep HW.out (bstep BV.out (bstep (Below.drew1 _) hStysy1)))⟩
                case measure => simp [intOf]; omega
    · have hall : decide (∀ i, i < l.length → fitG l i = true) = true := decide_eq_true (fun i hi => HI.out i (by omega))
      have hrise : riseG l = true := decide_eq_true (fun i hi => HJ.out i (by omega) (by omega))
      have hX : agesOkB l = decide (l.length ≤ 16) := by rw [agesOkB, hall, hrise]; simp
      have HX := Lib.hid hX
      clear hall hrise hX
      by_cases h16 : l.length ≤ 16
      · have d0 : decide ((l.length : Int) ≤ 16) = true := decide_eq_true (by omega)
        go_wp2
        go_ret
        exact ⟨ret_boolB (by rw [← HR.out, HX.out, decide_eq_true h16]), HW.out⟩
      · have d0 : decide ((l.length : Int) ≤ 16) = false := decide_eq_false (by omega)
        go_wp2
        go_ret
        exact ⟨ret_boolB (by rw [← HR.out, HX.out, decide_eq_false h16]), HW.out⟩
end Go.Proofs.YtmpgmjnagpiijaaGreat
namespace Go.Proofs.YtmpgmjnagpiijaaGreat
open Go.RowKit
set_option maxRecDepth 100000
set_option linter.unusedSimpArgs false
set_option linter.unusedVariables false

set_option maxHeartbeats 4000000 in
theorem specPoolOk_any {t : TypeId} (vl vn va vc vv : Value) (d : PoolD) (w : World) (h : RdP t w w.heap.size vl vn va vc vv d) (hs : SmallP d) (hnm : ∀ k ∈ d.vo, k.a.size ≤ maxLen) : Calls Tryz.prog 5 #[.agg #[vl, vn, va, vc, vv, .int .i64 d.nx]] w (SaysBool w (poolOkB d)) := by
  have h1 := hs.1
  have h2 := hs.2.1
  have h3 := hs.2.2.1
  have HT := Lib.hid (fun W b => specTreeOk_any vl vn d.lo d.ts W (h.1.on b) (by omega) (by omega) (by omega))
  have HA := Lib.hid (fun W b => specAgesOk_any va d.ag W (h.2.1.on b) (by omega))
  have HC := Lib.hid (fun W b => specCellsOk_any vc d.ce W ((h.2.2.1.on b).retype _) (by omega))
  have HV := Lib.hid (fun W b => specL10Vols_any vl vn va vc vv d W (h.on b) hs hnm)
  have HE := Lib.hid (fun W b => specL10Keys_any vl vn va vc vv d W (h.on b) hs)
  have HG := Lib.hid h.2.1
  have hag : d.ag.length ≤ 2097152 := by omega
  obtain ⟨A0, c0, A1, c1, A2, c2, A3, c3, A4, c4, rfl, rfl, rfl, rfl, rfl⟩ := h.shape
  have HB := Lib.hid (bal1 w (.cells #[.slice A0 d.lo.length c0, .slice A1 d.ts.length c1, .slice A2 d.ag.length c2, .slice A3 d.ce.length c3, .slice A4 d.vo.length c4, .int .i64 d.nx] 40))
  have Q0 := Lib.hid (al1 w (.cells #[.slice A0 d.lo.length c0, .slice A1 d.ts.length c1, .slice A2 d.ag.length c2, .slice A3 d.ce.length c3, .slice A4 d.vo.length c4, .int .i64 d.nx] 40))
  obtain ⟨R, hR⟩ : ∃ R, poolOkB d = R := ⟨_, rfl⟩
  rw [hR]
  obtain ⟨tb, htb⟩ : ∃ b, treeOkB d.lo d.ts = b := ⟨_, rfl⟩
  obtain ⟨ab, hab⟩ : ∃ b, agesOkB d.ag = b := ⟨_, rfl⟩
  obtain ⟨cb, hcb⟩ : ∃ b, celsOkB d.ce = b := ⟨_, rfl⟩
  obtain ⟨nb, hnb⟩ : ∃ b, (decide (1 ≤ d.nx) && decide (d.nx ≤ 61)) = b := ⟨_, rfl⟩
  obtain ⟨gb, hgb⟩ : ∃ b, d.ag.all (fun a => decide (a.a < d.nx)) = b := ⟨_, rfl⟩
  obtain ⟨vb, hvb⟩ : ∃ b, volsB d = b := ⟨_, rfl⟩
  obtain ⟨kb, hkb⟩ : ∃ b, (agesB d && cellsB d) = b := ⟨_, rfl⟩
  have HI1 : Hid (∀ W, Calls Tryz.prog 16 #[.int .i64 d.nx, .int .i64 1, .int .i64 61] W (SaysB W nb)) := Lib.hid (fun W => by have h := l1InC_any d.nx 1 61 W; rw [hnb] at h; exact h)
  unfold poolOkB nextB at hR
  rw [Bool.and_assoc (treeOkB d.lo d.ts && agesOkB d.ag && celsOkB d.ce && (decide (1 ≤ d.nx) && decide (d.nx ≤ 61) && d.ag.all (fun a => decide (a.a < d.nx))) && volsB d), htb, hab, hcb, hnb, hgb, hvb, hkb] at hR
  rw [htb] at HT
  rw [hab] at HA
  rw [hcb] at HC
  rw [hvb] at HV
  rw [hkb] at HE
  have HX := Lib.hid hR.symm
  have HGB := Lib.hid hgb
  clear h hs hR hnm h1 h2 h3 htb hab hcb hnb hvb hkb hgb
  go_enter Tryz.func5, Tryz.ntmps5
  go_upto_region 1 with (fail)
  generalize w.alloc (.cells #[.slice A0 d.lo.length c0, .slice A1 d.ts.length c1, .slice A2 d.ag.length c2, .slice A3 d.ce.length c3, .slice A4 d.vo.length c4, .int .i64 d.nx] 40) = W at *
  go_wp2
  go_loopw [3] (fun i wr => ∃ k : Nat, k ≤ d.ag.length ∧ i = .int .i64 k ∧ Hid (∀ j (hj : j < k) (hl : j < d.ag.length), (fun k : AgeD => decide (k.a < d.nx)) d.ag[j] = true) ∧ Hid (Below w.heap.size w wr) ∧ Hid (wr.heap[w.heap.size]? = some (.cells #[.slice A0 d.lo.length c0, .slice A1 d.ts.length c1, .slice A2 d.ag.length c2, .slice A3 d.ce.length c3, .slice A4 d.vo.length c4, .int .i64 d.nx] 40))) (fun i _ => d.ag.length - (intOf i).toNat)
  case atStart => exact ⟨0, Nat.zero_le _, rfl, Lib.hid (fun j hj => by omega), HB, Q0⟩
  case round =>
    clear HB Q0
    obtain ⟨k, hk, rfl, HI, HB, Q0⟩ := hrel
    by_cases hlt : k < d.ag.length
    · obtain ⟨b, off, rfl, hbb, hc⟩ := (HG.out.on HB.out).ages hlt
      have i1 : (k : Int) < (d.ag.length : Int) := by omega
      have i2 : (0 : Int) ≤ (k : Int) := by omega
      obtain ⟨y0, y1⟩ := hc k hlt
      clear hc
      obtain ⟨x0, x1, x2, x3, x4, x5, x6⟩ := boxP Q0.out
      by_cases hv : (d.ag[k]).a < d.nx
      · have e1 : decide ((d.ag[k]).a ≥ d.nx) = false := decide_eq_false (by omega)
        have HS := Lib.hid (allP_snoc (p := fun k : AgeD => decide (k.a < d.nx)) hlt HI.out (decide_eq_true hv))
        clear hv
        go_wp2
        go_quiet (fail)
        go_wp2
        go_roundw
        case rel => exact ⟨k + 1, by omega, by go_num, HS, Lib.hid (bdrew HB.out _), Lib.hid (box_on Q0.out (drewB _ _))⟩
        case measure => simp [intOf]; omega
      · have e1 : decide ((d.ag[k]).a ≥ d.nx) = true := decide_eq_true (by omega)
        have HF : Hid (R = false) := Lib.hid (by rw [HX.out, ← HGB.out, allP_miss (p := fun k : AgeD => decide (k.a < d.nx)) hlt (decide_eq_false hv)]; simp only [Bool.false_and, Bool.and_false, Bool.true_and, Bool.and_true])
        clear hv
        go_wp2
        go_quiet (fail)
        go_wp2
        go_ret
        exact ⟨by rw [HF.out]; rfl, bdrew HB.out _⟩
    · have hall : gb = true := by rw [← HGB.out]; exact allP_done (p := fun k : AgeD => decide (k.a < d.nx)) (fun j hl => HI.out j (by omega) hl)
      subst hall
      obtain ⟨x0, x1, x2, x3, x4, x5, x6⟩ := boxP Q0.out
      go_wp2_with fail
      refine (HT.out _ HB.out).mono ?_
      rintro e w5 ⟨rfl, b1⟩
      clear x0 x1 x2 x3 x4 x5 x6
      replace Q0 := Lib.hid (box_on Q0.out b1)
      replace HB := Lib.hid (bstep HB.out b1)
      clear b1
      cases tb
      · have HF : Hid (R = false) := Lib.hid (by rw [HX.out]; simp only [Bool.false_and, Bool.and_false, Bool.true_and, Bool.and_true])
        go_wp2
        go_ret
        exact ⟨by rw [HF.out]; rfl, HB.out⟩
      · skip
        obtain ⟨x0, x1, x2, x3, x4, x5, x6⟩ := boxP Q0.out
        go_wp2_with fail
        refine (HA.out _ HB.out).mono ?_
        rintro e w6 ⟨rfl, b1⟩
        clear x0 x1 x2 x3 x4 x5 x6
        replace Q0 := Lib.hid (box_on Q0.out b1)
        replace HB := Lib.hid (bstep HB.out b1)
        clear b1
        cases ab
        · have HF : Hid (R = false) := Lib.hid (by rw [HX.out]; simp only [Bool.false_and, Bool.and_false, Bool.true_and, Bool.and_true])
          go_wp2
          go_ret
          exact ⟨by rw [HF.out]; rfl, HB.out⟩
        · skip
          obtain ⟨x0, x1, x2, x3, x4, x5, x6⟩ := boxP Q0.out
          go_wp2_with fail
          refine (HC.out _ HB.out).mono ?_
          rintro e _ ⟨rfl, rfl⟩
          clear x0 x1 x2 x3 x4 x5 x6
          cases cb
          · have HF : Hid (R = false) := Lib.hid (by rw [HX.out]; simp only [Bool.false_and, Bool.and_false, Bool.true_and, Bool.and_true])
            go_wp2
            go_ret
            exact ⟨by rw [HF.out]; rfl, HB.out⟩
          · skip
            obtain ⟨x0, x1, x2, x3, x4, x5, x6⟩ := boxP Q0.out
            go_wp2_with fail
            refine (HI1.out _).mono ?_
            rintro e _ ⟨rfl, rfl⟩
            clear x0 x1 x2 x3 x4 x5 x6
            cases nb
            · have HF : Hid (R = false) := Lib.hid (by rw [HX.out]; simp only [Bool.false_and, Bool.and_false, Bool.true_and, Bool.and_true])
              go_wp2
              go_ret
              exact ⟨by rw [HF.out]; rfl, HB.out⟩
            · skip
              obtain ⟨x0, x1, x2, x3, x4, x5, x6⟩ := boxP Q0.out
              go_wp2_with fail
              refine (HV.out _ HB.out).mono ?_
              rintro e w9 ⟨rfl, b1⟩
              clear x0 x1 x2 x3 x4 x5 x6
              replace Q0 := Lib.hid (box_on Q0.out b1)
              replace HB := Lib.hid (bstep HB.out b1)
              clear b1
              cases vb
              · have HF : Hid (R = false) := Lib.hid (by rw [HX.out]; simp only [Bool.false_and, Bool.and_false, Bool.true_and, Bool.and_true])
                go_wp2
                go_ret
                exact ⟨by rw [HF.out]; rfl, HB.out⟩
              · skip
                obtain ⟨x0, x1, x2, x3, x4, x5, x6⟩ := boxP Q0.out
                go_wp2_with fail
                refine (HE.out _ HB.out).mono ?_
                rintro e w10 ⟨rfl, b1⟩
                clear x0 x1 x2 x3 x4 x5 x6
                replace Q0 := Lib.hid (box_on Q0.out b1)
                replace HB := Lib.hid (bstep HB.out b1)
                clear b1
                cases kb
                · have HF : Hid (R = false) := Lib.hid (by rw [HX.out]; simp only [Bool.false_and, Bool.and_false, Bool.true_and, Bool.and_true])
                  go_wp2
                  go_ret
                  exact ⟨by rw [HF.out]; rfl, HB.out⟩
                · have HF : Hid (R = true) := Lib.hid (by rw [HX.out]; simp only [Bool.false_and, Bool.and_false, Bool.true_and, Bool.and_true])
                  go_wp2
                  go_ret
                  exact ⟨by rw [HF.out]; rfl, HB.out⟩
end Go.Proofs.YtmpgmjnagpiijaaGreat
namespace Go.Proofs.YtmpgmjnagpiijaaGreat
open Go.RowKit
set_option maxRecDepth 100000
set_option linter.unusedSimpArgs false
set_option linter.unusedVariables false

set_option maxHeartbeats 4000000 in
theorem exactPoolOk_walk (v : Value) (d : PoolD) (w : World) (hv : PoolIs w v d) : Calls Tryz.prog 3 #[v] w fun e w' => e = .returned (.bool true) ∧ Below w.heap.size w w' := by
  obtain ⟨vl, vn, va, vc, vv, rfl, hA, hnm, _⟩ := hv
  obtain ⟨N0, Nc0, N1, Nc1, N2, Nc2, N3, Nc3, N4, Nc4, rfl, rfl, rfl, rfl, rfl⟩ := hA.shape
  have HT := Lib.hid (fun (hs : SmallP d) W b => toPool_any (.slice N0 d.lo.length Nc0) (.slice N1 d.ts.length Nc1) (.slice N2 d.ag.length Nc2) (.slice N3 d.ce.length Nc3) (.slice N4 d.vo.length Nc4) d W (hA.on b) hs)
  have HZ := Lib.hid (fun W b => szPool_any (.slice N0 d.lo.length Nc0) (.slice N1 d.ts.length Nc1) (.slice N2 d.ag.length Nc2) (.slice N3 d.ce.length Nc3) (.slice N4 d.vo.length Nc4) d W (hA.on b) hnm)
  have HNM := Lib.hid hnm
  clear hA hnm
  have BB := Lib.hid (bal1 w (.cells #[.slice N0 d.lo.length Nc0, .slice N1 d.ts.length Nc1, .slice N2 d.ag.length Nc2, .slice N3 d.ce.length Nc3, .slice N4 d.vo.length Nc4, .int .i64 d.nx] 30))
  have QN := Lib.hid (al1 w (.cells #[.slice N0 d.lo.length Nc0, .slice N1 d.ts.length Nc1, .slice N2 d.ag.length Nc2, .slice N3 d.ce.length Nc3, .slice N4 d.vo.length Nc4, .int .i64 d.nx] 30))
  have hWz : Hid ((w.alloc (.cells #[.slice N0 d.lo.length Nc0, .slice N1 d.ts.length Nc1, .slice N2 d.ag.length Nc2, .slice N3 d.ce.length Nc3, .slice N4 d.vo.length Nc4, .int .i64 d.nx] 30)).heap.size = w.heap.size + 1) := Lib.hid (by simp)
  obtain ⟨K, hK⟩ : ∃ K, poolOkB d = K := ⟨_, rfl⟩
  have HK := Lib.hid hK
  clear hK
  have hne : (K != K) = false := by simp
  go_enter Tryz.func3, Tryz.ntmps3
  go_upto_region 1 with (fail)
  generalize w.alloc (.cells #[.slice N0 d.lo.length Nc0, .slice N1 d.ts.length Nc1, .slice N2 d.ag.length Nc2, .slice N3 d.ce.length Nc3, .slice N4 d.vo.length Nc4, .int .i64 d.nx] 30) = W at *
  have hWz1 := Nat.le_of_eq hWz.out
  have hWz2 := Nat.le_of_eq hWz.out.symm
  clear hWz
  obtain ⟨Nx0, Nx1, Nx2, Nx3, Nx4, Nx5, Nx6⟩ := boxP QN.out
  go_wp2_with fail
  refine (HZ.out _ BB.out).mono ?_
  clear Nx0 Nx1 Nx2 Nx3 Nx4 Nx5 Nx6
  rintro r w0 ⟨⟨q, rfl, q0, hs⟩ | rfl, b⟩
  · replace QN := Lib.hid (box_on QN.out b)
    replace BB := Lib.hid (bstep BB.out b)
    have z0 := b.size
    have d0 : decide (q < 0) = false := decide_eq_false (by omega)
    have HS := Lib.hid hs
    have hv1 : d.vo.length ≤ 2097152 := by have := hs.2.2.2; omega
    clear b hs
    obtain ⟨Nx0, Nx1, Nx2, Nx3, Nx4, Nx5, Nx6⟩ := boxP QN.out
    go_wp2_with fail
    refine (HT.out HS.out _ BB.out).mono ?_
    clear Nx0 Nx1 Nx2 Nx3 Nx4 Nx5 Nx6
    rintro r w1 ⟨vlT, vnT, vaT, vcT, vvT, rfl, o, b⟩
    have zT := b.size
    replace QN := Lib.hid (box_on QN.out b)
    replace BB := Lib.hid (bstep BB.out b)
    have OT := Lib.hid o.lt
    clear o b
    obtain ⟨T0, Tc0, T1, Tc1, T2, Tc2, T3, Tc3, T4, Tc4, rfl, rfl, rfl, rfl, rfl⟩ := OT.out.reads.shape
    clear d0
    obtain ⟨Nx0, Nx1, Nx2, Nx3, Nx4, Nx5, Nx6⟩ := boxP QN.out
    go_wp2_with fail
    refine (specPoolOk_any _ _ _ _ _ d _ OT.out.reads HS.out HNM.out).mono ?_
    clear Nx0 Nx1 Nx2 Nx3 Nx4 Nx5 Nx6
    rintro r w2 ⟨rfl, b⟩
    have z2 := b.size
    replace OT := Lib.hid (OT.out.on b)
    replace QN := Lib.hid (box_on QN.out b)
    replace BB := Lib.hid (bstep BB.out b)
    clear b
    rw [HK.out]
    clear OT
    obtain ⟨Nx0, Nx1, Nx2, Nx3, Nx4, Nx5, Nx6⟩ := boxP QN.out
    go_wp2_with fail
    refine (HT.out HS.out _ BB.out).mono ?_
    clear Nx0 Nx1 Nx2 Nx3 Nx4 Nx5 Nx6
    rintro r w3 ⟨vlX, vnX, vaX, vcX, vvX, rfl, o, b⟩
    have zX := b.size
    replace QN := Lib.hid (box_on QN.out b)
    replace BB := Lib.hid (bstep BB.out b)
    have OX := Lib.hid o.lt
    clear o b
    obtain ⟨X0, Xc0, X1, Xc1, X2, Xc2, X3, Xc3, X4, Xc4, rfl, rfl, rfl, rfl, rfl⟩ := OX.out.reads.shape
    have ba := bal1 w3 (.cells #[.slice X0 d.lo.length Xc0, .slice X1 d.ts.length Xc1, .slice X2 d.ag.length Xc2, .slice X3 d.ce.length Xc3, .slice X4 d.vo.length Xc4, .int .i64 d.nx] 40)
    have QX := Lib.hid (al1 w3 (.cells #[.slice X0 d.lo.length Xc0, .slice X1 d.ts.length Xc1, .slice X2 d.ag.length Xc2, .slice X3 d.ce.length Xc3, .slice X4 d.vo.length Xc4, .int .i64 d.nx] 40))
    have hzX : (w3.alloc (.cells #[.slice X0 d.lo.length Xc0, .slice X1 d.ts.length Xc1, .slice X2 d.ag.length Xc2, .slice X3 d.ce.length Xc3, .slice X4 d.vo.length Xc4, .int .i64 d.nx] 40)).heap.size = w3.heap.size + 1 := by simp
    replace OX := Lib.hid (OX.out.on ba)
    replace QN := Lib.hid (box_on QN.out ba)
    replace BB := Lib.hid (bstep BB.out ba)
    clear ba
    have yX := Lib.hid hzX
    clear hzX
    obtain ⟨Nx0, Nx1, Nx2, Nx3, Nx4, Nx5, Nx6⟩ := boxP QN.out
    go_upto_region 7 with (fail)
    clear Nx0 Nx1 Nx2 Nx3 Nx4 Nx5 Nx6
    generalize w3.alloc (.cells #[.slice X0 d.lo.length Xc0, .slice X1 d.ts.length Xc1, .slice X2 d.ag.length Xc2, .slice X3 d.ce.length Xc3, .slice X4 d.vo.length Xc4, .int .i64 d.nx] 40) = w4 at *
    have xX := Nat.le_of_eq yX.out
    have uX := Nat.le_of_eq yX.out.symm
    clear yX
    obtain ⟨Nx0, Nx1, Nx2, Nx3, Nx4, Nx5, Nx6⟩ := boxP QN.out
    obtain ⟨Xx0, Xx1, Xx2, Xx3, Xx4, Xx5, Xx6⟩ := boxP QX.out
    go_wp2_with fail
    refine (implPoolOk_any _ _ _ _ _ d _ OX.out.reads HS.out HNM.out).mono ?_
    clear Nx0 Nx1 Nx2 Nx3 Nx4 Nx5 Nx6 Xx0 Xx1 Xx2 Xx3 Xx4 Xx5 Xx6
    rintro r w5 ⟨rfl, b⟩
    have z5 := b.size
    replace OX := Lib.hid (OX.out.on b)
    replace QN := Lib.hid (box_on QN.out b)
    replace QX := Lib.hid (box_on QX.out b)
    replace BB := Lib.hid (bstep BB.out b)
    clear b
    rw [HK.out]
    obtain ⟨Nx0, Nx1, Nx2, Nx3, Nx4, Nx5, Nx6⟩ := boxP QN.out
    obtain ⟨Xx0, Xx1, Xx2, Xx3, Xx4, Xx5, Xx6⟩ := boxP QX.out
    go_upto_region 10 with (fail)
    go_region_held3 (fun V => V.cell? ⟨w.heap.size, 0, none⟩ = some (.slice N0 d.lo.length Nc0) ∧ V.cell? ⟨w.heap.size, 1, none⟩ = some (.slice N1 d.ts.length Nc1) ∧ V.cell? ⟨w.heap.size, 2, none⟩ = some (.slice N2 d.ag.length Nc2) ∧ V.cell? ⟨w.heap.size, 3, none⟩ = some (.slice N3 d.ce.length Nc3) ∧ V.cell? ⟨w.heap.size, 4, none⟩ = some (.slice N4 d.vo.length Nc4) ∧ V.cell? ⟨w.heap.size, 5, none⟩ = some (.int .i64 d.nx) ∧ V.cell? ⟨w3.heap.size, 0, none⟩ = some (.slice X0 d.lo.length Xc0) ∧ V.cell? ⟨w3.heap.size, 1, none⟩ = some (.slice X1 d.ts.length Xc1) ∧ V.cell? ⟨w3.heap.size, 2, none⟩ = some (.slice X2 d.ag.length Xc2) ∧ V.cell? ⟨w3.heap.size, 3, none⟩ = some (.slice X3 d.ce.length Xc3) ∧ V.cell? ⟨w3.heap.size, 4, none⟩ = some (.slice X4 d.vo.length Xc4) ∧ V.cell? ⟨w3.heap.size, 5, none⟩ = some (.int .i64 d.nx))
      (first | with_reducible exact ⟨(boxP (box_on QN.out (bstep (bstep (Below.drew1 _) b1p) b2p))).1, (boxP (box_on QN.out (bstep (bstep (Below.drew1 _) b1p) b2p))).2.1, (boxP (box_on QN.out (bstep (bstep (Below.drew1 _) b1p) b2p))).2.2.1, (boxP (box_on QN.out (bstep (bstep (Below.drew1 _) b1p) b2p))).2.2.2.1, (boxP (box_on QN.out (bstep (bstep (Below.drew1 _) b1p) b2p))).2.2.2.2.1, (boxP (box_on QN.out (bstep (bstep (Below.drew1 _) b1p) b2p))).2.2.2.2.2.1, (boxP (box_on QX.out (bstep (bstep (Below.drew1 _) b1p) b2p))).1, (boxP (box_on QX.out (bstep (bstep (Below.drew1 _) b1p) b2p))).2.1, (boxP (box_on QX.out (bstep (bstep (Below.drew1 _) b1p) b2p))).2.2.1, (boxP (box_on QX.out (bstep (bstep (Below.drew1 _) b1p) b2p))).2.2.2.1, (boxP (box_on QX.out (bstep (bstep (Below.drew1 _) b1p) b2p))).2.2.2.2.1, (boxP (box_on QX.out (bstep (bstep (Below.drew1 _) b1p) b2p))).2.2.2.2.2.1⟩ | with_reducible exact ⟨(boxP (box_on QN.out (bstep (Below.drew1 _) b1p))).1, (boxP (box_on QN.out (bstep (Below.drew1 _) b1p))).2.1, (boxP (box_on QN.out (bstep (Below.drew1 _) b1p))).2.2.1, (boxP (box_on QN.out (bstep (Below.drew1 _) b1p))).2.2.2.1, (boxP (box_on QN.out (bstep (Below.drew1 _) b1p))).2.2.2.2.1, (boxP (box_on QN.out (bstep (Below.drew1 _) b1p))).2.2.2.2.2.1, (boxP (box_on QX.out (bstep (Below.drew1 _) b1p))).1, (boxP (box_on QX.out (bstep (Below.drew1 _) b1p))).2.1, (boxP (box_on QX.out (bstep (Below.drew1 _) b1p))).2.2.1, (boxP (box_on QX.out (bstep (Below.drew1 _) b1p))).2.2.2.1, (boxP (box_on QX.out (bstep (Below.drew1 _) b1p))).2.2.2.2.1, (boxP (box_on QX.out (bstep (Below.drew1 _) b1p))).2.2.2.2.2.1⟩ | with_reducible exact ⟨(boxP (box_on QN.out (Below.drew1 _))).1, (boxP (box_on QN.out (Below.drew1 _))).2.1, (boxP (box_on QN.out (Below.drew1 _))).2.2.1, (boxP (box_on QN.out (Below.drew1 _))).2.2.2.1, (boxP (box_on QN.out (Below.drew1 _))).2.2.2.2.1, (boxP (box_on QN.out (Below.drew1 _))).2.2.2.2.2.1, (boxP (box_on QX.out (Below.drew1 _))).1, (boxP (box_on QX.out (Below.drew1 _))).2.1, (boxP (box_on QX.out (Below.drew1 _))).2.2.1, (boxP (box_on QX.out (Below.drew1 _))).2.2.2.1, (boxP (box_on QX.out (Below.drew1 _))).2.2.2.2.1, (boxP (box_on QX.out (Below.drew1 _))).2.2.2.2.2.1⟩ | exact ⟨Nx0, Nx1, Nx2, Nx3, Nx4, Nx5, Xx0, Xx1, Xx2, Xx3, Xx4, Xx5⟩ | fail)
      (first
        | (go_at_call 8; refine (eqPool_same _ _ _ _ _ _ _ _ _ _ d _ (OX.out.on (bstep (Below.drew1 _) b1p)).reads oop.reads HS.out).mono ?_; rintro r u2p ⟨rfl, b2p⟩)
        | (go_at_call 6; refine (HT.out HS.out _ (bstep BB.out (Below.drew1 _))).mono ?_; rintro r u1p ⟨pl, pn, pa, pc, pw, rfl, oop, b1p⟩; obtain ⟨Y0, Yc0, Y1, Yc1, Y2, Yc2, Y3, Yc3, Y4, Yc4, rfl, rfl, rfl, rfl, rfl⟩ := oop.reads.shape)
        | fail)
    clear Nx0 Nx1 Nx2 Nx3 Nx4 Nx5 Nx6 Xx0 Xx1 Xx2 Xx3 Xx4 Xx5 Xx6
    have b := bstep (bstep (Below.drew1 _) b1p) b2p
    replace BB := Lib.hid (bstep BB.out b)
    clear b b1p b2p oop
    go_wp2
    go_ret
    exact ⟨rfl, BB.out⟩
  · have B1 := Lib.hid (bstep BB.out b)
    clear b
    go_wp2
    go_ret
    exact ⟨rfl, B1.out⟩
end Go.Proofs.YtmpgmjnagpiijaaGreat
