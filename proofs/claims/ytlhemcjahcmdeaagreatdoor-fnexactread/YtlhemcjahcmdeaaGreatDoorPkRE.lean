/- Several texts in one: AgeOkI, PoolOkI, PoolSKeys. -/
import Derived.BigQuiet
import Derived.Test.YtlhemcjahcmdeaaGreatDoorPkRD
namespace Go.Proofs.YtlhemcjahcmdeaaGreatDoor
open Go.RowKit
set_option maxRecDepth 100000
set_option linter.unusedSimpArgs false
set_option linter.unusedVariables false

set_option maxHeartbeats 4000000 in
theorem implAgesOk_any (v : Value) (l : List AgeD) (w : World) (hv : Reads w w.heap.size v (agesD l)) (hn : l.length ≤ 2097152) : Calls Tryz.prog 221 #[v] w (SaysBool w (agesOkB l)) := by
  obtain ⟨A, c, rfl, hcap, hmax⟩ := hv.shapeG
  have HK := Lib.hid (ageSet_any A l.length c)
  have HA := Lib.hid (fun w => ascendingG_any (.slice A l.length c) l w)
  unfold lessVG at HK HA
  obtain ⟨R, hR⟩ : ∃ R, agesOkB l = R := ⟨_, rfl⟩
  rw [hR]
  have HR := Lib.hid hR
  have HV := Lib.hid hv
  clear hv hR
  by_cases h16 : l.length ≤ 16
  · have d0 : decide ((16 : Int) < (l.length : Int)) = false := decide_eq_false (by omega)
    go_enter Tryz.func221, Tryz.ntmps221
    go_wp2
    go_loopw [3, 4, 10] (fun _ _ i wr => ∃ k : Nat, k ≤ l.length ∧ i = .int .i64 k ∧ Hid (∀ j, j < k → fitG l j = true) ∧ Hid (Below w.heap.size w wr)) (fun _ _ i _ => l.length - (intOf i).toNat)
    case atStart => exact ⟨0, Nat.zero_le _, rfl, Lib.hid (fun j h => by omega), Lib.hid (Below.refl _ _)⟩
    case round =>
      clear d0
      obtain ⟨k, hk, rfl, HI, HW⟩ := hrel
      have hzr := HW.out.size
      by_cases hlt : k < l.length
      · have HTK := Lib.hid (((HV.out.on HW.out).on (bal1 wr (.cells #[.int .i64 (l[k]).a, .int .i64 (l[k]).b] 155))).takeG k hk)
        obtain ⟨b, off, rfl, hbb, hc⟩ := (HV.out.on HW.out).ages hlt
        have i1 : (k : Int) < (l.length : Int) := by omega
        have i2 : (0 : Int) ≤ (k : Int) := by omega
        have i3 : (k : Int) ≤ (c : Int) := by omega
        have i4 : k ≤ c := by omega
        obtain ⟨c0, c1⟩ := hc k hlt
        have QA := Lib.hid (al1 wr (.cells #[.int .i64 (l[k]).a, .int .i64 (l[k]).b] 155))
        have BA := Lib.hid (HW.out.trans ((bal1 wr (.cells #[.int .i64 (l[k]).a, .int .i64 (l[k]).b] 155)).mono hzr))
        have hfit := gfit_at hlt
        clear hc
        go_upto_region 6 with (fail)
        clear c0 c1
        generalize wr.alloc (.cells #[.int .i64 (l[k]).a, .int .i64 (l[k]).b] 155) = wa at *
        by_cases p1 : (l[k]).a < 1
        · have HF : Hid (fitG l k = false) := Lib.hid (by rw [hfit, show idG (l[k]).a = false by simp [idG]; omega]; rfl)
          have d1 : decide ((l[k]).a < 1) = true := decide_eq_true p1
          clear p1 hfit
          refine but_begin (f := 16) (S := fun V => Below wa.drew.heap.size wa.drew V) (by kernel_rfl) ?_
          refine bt (f := 16) (i := 0) (v := ?via0) rfl (Or.inl ⟨(by rfl), ?hyia0⟩) (Below.refl _ _) ?restia0
          case hyia0 => intro W hW; go_simp; exact rfl
          simp only [zA, zB, zC, Act.put, zD, zE, zF]
          refine bt (f := 16) (i := 1) (v := ?via1) rfl (Or.inl ⟨(by rfl), ?hyia1⟩) (Below.refl _ _) ?restia1
          case hyia1 =>
            intro W hW
            have hb0 : Below wa.heap.size wa W := bstep (Below.drew1 _) hW
            obtain ⟨y0, y1, y2⟩ := box2 (box_on QA.out hb0)
            go_simp
            exact rfl
          simp only [zA, zB, zC, Act.put, zD, zE, zF]
          refine bt (f := 16) (i := 2) (v := ?via2) rfl (Or.inl ⟨(by rfl), ?hyia2⟩) (Below.refl _ _) ?restia2
          case hyia2 => intro W hW; go_simp; exact rfl
          simp only [zA, zB, zC, Act.put, zD, zE, zF]
          refine bt (f := 16) (i := 3) (v := ?via3) rfl (Or.inl ⟨(by rfl), ?hyia3⟩) (Below.refl _ _) ?restia3
          case hyia3 => intro W hW; go_simp; exact rfl
          simp only [zA, zB, zC, Act.put, zD, zE, zF]
          refine bt (f := 16) (i := 4) (v := undef) rfl (Or.inr ⟨((wanted_at rfl rfl rfl rfl).trans rfl), rfl⟩) (Below.refl _ _) ?_
          simp only [zA, zB, zC, Act.put, zD, zE, zF]
          refine bt (f := 16) (i := 5) (v := undef) rfl (Or.inr ⟨((wanted_at rfl rfl rfl rfl).trans rfl), rfl⟩) (Below.refl _ _) ?_
          simp only [zA, zB, zC, Act.put, zD, zE, zF]
          refine bt (f := 16) (i := 6) (v := undef) rfl (Or.inr ⟨((wanted_at rfl rfl rfl rfl).trans rfl), rfl⟩) (Below.refl _ _) ?_
          simp only [zA, zB, zC, Act.put, zD, zE, zF]
          refine bt (f := 16) (i := 7) (v := ?via7) rfl (Or.inl ⟨(by rfl), ?hyia7⟩) (Below.refl _ _) ?restia7
          case hyia7 => intro W hW; go_simp; exact rfl
          simp only [zA, zB, zC, Act.put, zD, zE, zF]
          refine bt (f := 16) (i := 8) (v := ?via8) rfl (Or.inl ⟨(by rfl), ?hyia8⟩) (Below.refl _ _) ?restia8
          case hyia8 => intro W hW; go_simp; exact rfl
          simp only [zA, zB, zC, Act.put, zD, zE, zF]
          refine bt (f := 16) (i := 9) (v := undef) rfl (Or.inr ⟨((wanted_at rfl rfl rfl rfl).trans rfl), rfl⟩) (Below.refl _ _) ?_
          simp only [zA, zB, zC, Act.put, zD, zE, zF]
          refine bt (f := 16) (i := 10) (v := undef) rfl (Or.inr ⟨((wanted_at rfl rfl rfl rfl).trans rfl), rfl⟩) (Below.refl _ _) ?_
          simp only [zA, zB, zC, Act.put, zD, zE, zF]
          refine bt (f := 16) (i := 11) (v := undef) rfl (Or.inr ⟨((wanted_at rfl rfl rfl rfl).trans rfl), rfl⟩) (Below.refl _ _) ?_
          simp only [zA, zB, zC, Act.put, zD, zE, zF]
          refine bt (f := 16) (i := 12) (v := undef) rfl (Or.inr ⟨((wanted_at rfl rfl rfl rfl).trans rfl), rfl⟩) (Below.refl _ _) ?_
          simp only [zA, zB, zC, Act.put, zD, zE, zF]
          refine bt (f := 16) (i := 13) (v := undef) rfl (Or.inr ⟨((wanted_at rfl rfl rfl rfl).trans rfl), rfl⟩) (Below.refl _ _) ?_
          simp only [zA, zB, zC, Act.put, zD, zE, zF]
          refine bt (f := 16) (i := 14) (v := undef) rfl (Or.inr ⟨((wanted_at rfl rfl rfl rfl).trans rfl), rfl⟩) (Below.refl _ _) ?_
          simp only [zA, zB, zC, Act.put, zD, zE, zF]
          refine bt (f := 16) (i := 15) (v := undef) rfl (Or.inr ⟨((wanted_at rfl rfl rfl rfl).trans rfl), rfl⟩) (Below.refl _ _) ?_
          simp only [zA, zB, zC, Act.put, zD, zE, zF]
          refine but_run (i := 16) (by kernel_rfl) rfl (by rfl) ?_
          simp only [zA, zB, zC]
          intro K HK
          go_wp2_with fail
          refine HK.out _ wa.drew (fun h => absurd rfl h) ?_
          clear HK
          refine but_done (by kernel_rfl) ?_
          go_wp2_with fail
          go_ret
          exact ⟨ret_boolB (by rw [← HR.out]; exact (fit_miss hlt HF.out).symm), bstep BA.out (bstep (Below.drew1 _) (Below.refl _ _))⟩
        · by_cases p2 : 60 < (l[k]).a
          · have HF : Hid (fitG l k = false) := Lib.hid (by rw [hfit, show idG (l[k]).a = false by simp [idG]; omega]; rfl)
            have d1 : decide ((l[k]).a < 1) = false := decide_eq_false p1
            have d2 : decide (60 < (l[k]).a) = true := decide_eq_true p2
            clear p1 p2 hfit
            refine but_begin (f := 16) (S := fun V => Below wa.drew.heap.size wa.drew V) (by kernel_rfl) ?_
            refine bt (f := 16) (i := 0) (v := ?vib0) rfl (Or.inl ⟨(by rfl), ?hyib0⟩) (Below.refl _ _) ?restib0
            case hyib0 => intro W hW; go_simp; exact rfl
            simp only [zA, zB, zC, Act.put, zD, zE, zF]
            refine bt (f := 16) (i := 1) (v := ?vib1) rfl (Or.inl ⟨(by rfl), ?hyib1⟩) (Below.refl _ _) ?restib1
            case hyib1 =>
              intro W hW
              have hb0 : Below wa.heap.size wa W := bstep (Below.drew1 _) hW
              obtain ⟨y0, y1, y2⟩ := box2 (box_on QA.out hb0)
              go_simp
              exact rfl
            simp only [zA, zB, zC, Act.put, zD, zE, zF]
            refine bt (f := 16) (i := 2) (v := ?vib2) rfl (Or.inl ⟨(by rfl), ?hyib2⟩) (Below.refl _ _) ?restib2
            case hyib2 => intro W hW; go_simp; exact rfl
            simp only [zA, zB, zC, Act.put, zD, zE, zF]
            refine bt (f := 16) (i := 3) (v := ?vib3) rfl (Or.inl ⟨(by rfl), ?hyib3⟩) (Below.refl _ _) ?restib3
            case hyib3 => intro W hW; go_simp; exact rfl
            simp only [zA, zB, zC, Act.put, zD, zE, zF]
            refine bt (f := 16) (i := 4) (v := ?vib4) rfl (Or.inl ⟨((wanted_at rfl rfl rfl rfl).trans rfl), ?hyib4⟩) (Below.refl _ _) ?restib4
            case hyib4 => intro W hW; go_simp; exact rfl
            simp only [zA, zB, zC, Act.put, zD, zE, zF]
            refine bt (f := 16) (i := 5) (v := ?vib5) rfl (Or.inl ⟨((wanted_at rfl rfl rfl rfl).trans rfl), ?hyib5⟩) (Below.refl _ _) ?restib5
            case hyib5 =>
              intro W hW
              have hb0 : Below wa.heap.size wa W := bstep (Below.drew1 _) hW
              obtain ⟨y0, y1, y2⟩ := box2 (box_on QA.out hb0)
              go_simp
              exact rfl
            simp only [zA, zB, zC, Act.put, zD, zE, zF]
            refine bt (f := 16) (i := 6) (v := ?vib6) rfl (Or.inl ⟨((wanted_at rfl rfl rfl rfl).trans rfl), ?hyib6⟩) (Below.refl _ _) ?restib6
            case hyib6 => intro W hW; go_simp; exact rfl
            simp only [zA, zB, zC, Act.put, zD, zE, zF]
            refine bt (f := 16) (i := 7) (v := ?vib7) rfl (Or.inl ⟨(by rfl), ?hyib7⟩) (Below.refl _ _) ?restib7
            case hyib7 => intro W hW; go_simp; exact rfl
            simp only [zA, zB, zC, Act.put, zD, zE, zF]
            refine bt (f := 16) (i := 8) (v := ?vib8) rfl (Or.inl ⟨(by rfl), ?hyib8⟩) (Below.refl _ _) ?restib8
            case hyib8 => intro W hW; go_simp; exact rfl
            simp only [zA, zB, zC, Act.put, zD, zE, zF]
            refine bt (f := 16) (i := 9) (v := undef) rfl (Or.inr ⟨((wanted_at rfl rfl rfl rfl).trans rfl), rfl⟩) (Below.refl _ _) ?_
            simp only [zA, zB, zC, Act.put, zD, zE, zF]
            refine bt (f := 16) (i := 10) (v := undef) rfl (Or.inr ⟨((wanted_at rfl rfl rfl rfl).trans rfl), rfl⟩) (Below.refl _ _) ?_
            simp only [zA, zB, zC, Act.put, zD, zE, zF]
            refine bt (f := 16) (i := 11) (v := undef) rfl (Or.inr ⟨((wanted_at rfl rfl rfl rfl).trans rfl), rfl⟩) (Below.refl _ _) ?_
            simp only [zA, zB, zC, Act.put, zD, zE, zF]
            refine bt (f := 16) (i := 12) (v := undef) rfl (Or.inr ⟨((wanted_at rfl rfl rfl rfl).trans rfl), rfl⟩) (Below.refl _ _) ?_
            simp only [zA, zB, zC, Act.put, zD, zE, zF]
            refine bt (f := 16) (i := 13) (v := undef) rfl (Or.inr ⟨((wanted_at rfl rfl rfl rfl).trans rfl), rfl⟩) (Below.refl _ _) ?_
            simp only [zA, zB, zC, Act.put, zD, zE, zF]
            refine bt (f := 16) (i := 14) (v := undef) rfl (Or.inr ⟨((wanted_at rfl rfl rfl rfl).trans rfl), rfl⟩) (Below.refl _ _) ?_
            simp only [zA, zB, zC, Act.put, zD, zE, zF]
            refine bt (f := 16) (i := 15) (v := undef) rfl (Or.inr ⟨((wanted_at rfl rfl rfl rfl).trans rfl), rfl⟩) (Below.refl _ _) ?_
            simp only [zA, zB, zC, Act.put, zD, zE, zF]
            refine but_run (i := 16) (by kernel_rfl) rfl (by rfl) ?_
            simp only [zA, zB, zC]
            intro K HK
            go_wp2_with fail
            refine HK.out _ wa.drew (fun h => absurd rfl h) ?_
            clear HK
            refine but_done (by kernel_rfl) ?_
            go_wp2_with fail
            go_ret
            exact ⟨ret_boolB (by rw [← HR.out]; exact (fit_miss hlt HF.out).symm), bstep BA.out (bstep (Below.drew1 _) (Below.refl _ _))⟩
          · have hid : idG (l[k]).a = true := by simp [idG]; omega
            have d1 : decide ((l[k]).a < 1) = false := decide_eq_false p1
            have d2 : decide (60 < (l[k]).a) = false := decide_eq_false p2
            cases hp : ((l[k]).b == 0 || hasG (l.take k) (l[k]).b)
            · have HP := Lib.hid hp
              have HF : Hid (fitG l k = false) := Lib.hid (by rw [hfit, hid, parGB, hp]; rfl)
              clear p1 p2 hfit hid hp
              refine but_begin (f := 16) (S := fun V => Below wa.drew.heap.size wa.drew V) (by kernel_rfl) ?_
              refine bt (f := 16) (i := 0) (v := ?vic0) rfl (Or.inl ⟨(by rfl), ?hyic0⟩) (Below.refl _ _) ?restic0
              case hyic0 => intro W hW; go_simp; exact rfl
              simp only [zA, zB, zC, Act.put, zD, zE, zF]
              refine bt (f := 16) (i := 1) (v := ?vic1) rfl (Or.inl ⟨(by rfl), ?hyic1⟩) (Below.refl _ _) ?restic1
              case hyic1 =>
                intro W hW
                have hb0 : Below wa.heap.size wa W := bstep (Below.drew1 _) hW
                obtain ⟨y0, y1, y2⟩ := box2 (box_on QA.out hb0)
                go_simp
                exact rfl
              simp only [zA, zB, zC, Act.put, zD, zE, zF]
              refine bt (f := 16) (i := 2) (v := ?vic2) rfl (Or.inl ⟨(by rfl), ?hyic2⟩) (Below.refl _ _) ?restic2
              case hyic2 => intro W hW; go_simp; exact rfl
              simp only [zA, zB, zC, Act.put, zD, zE, zF]
              refine bt (f := 16) (i := 3) (v := ?vic3) rfl (Or.inl ⟨(by rfl), ?hyic3⟩) (Below.refl _ _) ?restic3
              case hyic3 => intro W hW; go_simp; exact rfl
              simp only [zA, zB, zC, Act.put, zD, zE, zF]
              refine bt (f := 16) (i := 4) (v := ?vic4) rfl (Or.inl ⟨((wanted_at rfl rfl rfl rfl).trans rfl), ?hyic4⟩) (Below.refl _ _) ?restic4
              case hyic4 => intro W hW; go_simp; exact rfl
              simp only [zA, zB, zC, Act.put, zD, zE, zF]
              refine bt (f := 16) (i := 5) (v := ?vic5) rfl (Or.inl ⟨((wanted_at rfl rfl rfl rfl).trans rfl), ?hyic5⟩) (Below.refl _ _) ?restic5
              case hyic5 =>
                intro W hW
                have hb0 : Below wa.heap.size wa W := bstep (Below.drew1 _) hW
                obtain ⟨y0, y1, y2⟩ := box2 (box_on QA.out hb0)
                go_simp
                exact rfl
              simp only [zA, zB, zC, Act.put, zD, zE, zF]
              refine bt (f := 16) (i := 6) (v := ?vic6) rfl (Or.inl ⟨((wanted_at rfl rfl rfl rfl).trans rfl), ?hyic6⟩) (Below.refl _ _) ?restic6
              case hyic6 => intro W hW; go_simp; exact rfl
              simp only [zA, zB, zC, Act.put, zD, zE, zF]
              refine bt (f := 16) (i := 7) (v := ?vic7) rfl (Or.inl ⟨(by rfl), ?hyic7⟩) (Below.refl _ _) ?restic7
              case hyic7 => intro W hW; go_simp; exact rfl
              simp only [zA, zB, zC, Act.put, zD, zE, zF]
              refine bt (f := 16) (i := 8) (v := ?vic8) rfl (Or.inl ⟨(by rfl), ?hyic8⟩) (Below.refl _ _) ?restic8
              case hyic8 => intro W hW; go_simp; exact rfl
              simp only [zA, zB, zC, Act.put, zD, zE, zF]
              refine bt (f := 16) (i := 9) (v := ?vic9) rfl (Or.inl ⟨((wanted_at rfl rfl rfl rfl).trans rfl), ?hyic9⟩) (Below.refl _ _) ?restic9
              case hyic9 => intro W hW; go_simp; exact rfl
              simp only [zA, zB, zC, Act.put, zD, zE, zF]
              refine bt (f := 16) (i := 10) (v := ?vic10) rfl (Or.inl ⟨((wanted_at rfl rfl rfl rfl).trans rfl), ?hyic10⟩) (Below.refl _ _) ?restic10
              case hyic10 => intro W hW; go_simp; exact rfl
              simp only [zA, zB, zC, Act.put, zD, zE, zF]
              refine bt (f := 16) (i := 11) (v := ?vic11) rfl (Or.inl ⟨((wanted_at rfl rfl rfl rfl).trans rfl), ?hyic11⟩) (Below.refl _ _) ?restic11
              case hyic11 => intro W hW; go_simp; exact rfl
              simp only [zA, zB, zC, Act.put, zD, zE, zF]
              refine bt (f := 16) (i := 12) (v := ?vic12) rfl (Or.inl ⟨((wanted_at rfl rfl rfl rfl).trans rfl), ?hyic12⟩) (Below.refl _ _) ?restic12
              case hyic12 => intro W hW; go_simp; exact rfl
              simp only [zA, zB, zC, Act.put, zD, zE, zF]
              refine bt (f := 16) (i := 13) (v := ?vic13) rfl (Or.inl ⟨((wanted_at rfl rfl rfl rfl).trans rfl), ?hyic13⟩) (Below.refl _ _) ?restic13
              case hyic13 =>
                intro W hW
                have hb0 : Below wa.heap.size wa W := bstep (Below.drew1 _) hW
                obtain ⟨y0, y1, y2⟩ := box2 (box_on QA.out hb0)
                go_simp
                exact rfl
              simp only [zA, zB, zC, Act.put, zD, zE, zF]
              refine but_run (i := 14) (by kernel_rfl) rfl ((wanted_at rfl rfl rfl rfl).trans rfl) ?_
              simp only [zA, zB, zC]
              intro K HK
              go_wp2_with fail
              refine (parentOk_any _ (l.take k) (l[k]).b _ (HTK.out.on (bstep (Below.drew1 _) (Below.refl _ _))) (by simp; omega)).mono ?_
              rintro r Vic1 ⟨rfl, hBic1⟩
              rw [HP.out]
              have hSic1 := bstep (Below.refl _ _) hBic1
              go_wp2_with fail
              refine HK.out _ Vic1 (fun _ => hSic1) ?_
              clear HK
              refine bt (f := 16) (i := 15) (v := ?vic15) rfl (Or.inl ⟨((wanted_at rfl rfl rfl rfl).trans rfl), ?hyic15⟩) hSic1 ?restic15
              case hyic15 => intro W hW; go_simp; exact rfl
              simp only [zA, zB, zC, Act.put, zD, zE, zF]
              refine but_run (i := 16) (by kernel_rfl) rfl (by rfl) ?_
              simp only [zA, zB, zC]
              intro K HK
              go_wp2_with fail
              refine HK.out _ Vic1 (fun h => absurd rfl h) ?_
              clear HK
              refine but_done (by kernel_rfl) ?_
              go_wp2_with fail
              go_ret
              exact ⟨ret_boolB (by rw [← HR.out]; exact (fit_miss hlt HF.out).symm), bstep BA.out (bstep (Below.drew1 _) hSic1)⟩
            · have HP := Lib.hid hp
              have HF : Hid (fitG l k = true) := Lib.hid (by rw [hfit, hid, parGB, hp]; rfl)
              clear p1 p2 hfit hid hp
              refine but_begin (f := 16) (S := fun V => Below wa.drew.heap.size wa.drew V) (by kernel_rfl) ?_
              refine bt (f := 16) (i := 0) (v := ?vid0) rfl (Or.inl ⟨(by rfl), ?hyid0⟩) (Below.refl _ _) ?restid0
              case hyid0 => intro W hW; go_simp; exact rfl
              simp only [zA, zB, zC, Act.put, zD, zE, zF]
              refine bt (f := 16) (i := 1) (v := ?vid1) rfl (Or.inl ⟨(by rfl), ?hyid1⟩) (Below.refl _ _) ?restid1
              case hyid1 =>
                intro W hW
                have hb0 : Below wa.heap.size wa W := bstep (Below.drew1 _) hW
                obtain ⟨y0, y1, y2⟩ := box2 (box_on QA.out hb0)
                go_simp
                exact rfl
              simp only [zA, zB, zC, Act.put, zD, zE, zF]
              refine bt (f := 16) (i := 2) (v := ?vid2) rfl (Or.inl ⟨(by rfl), ?hyid2⟩) (Below.refl _ _) ?restid2
              case hyid2 => intro W hW; go_simp; exact rfl
              simp only [zA, zB, zC, Act.put, zD, zE, zF]
              refine bt (f := 16) (i := 3) (v := ?vid3) rfl (Or.inl ⟨(by rfl), ?hyid3⟩) (Below.refl _ _) ?restid3
              case hyid3 => intro W hW; go_simp; exact rfl
              simp only [zA, zB, zC, Act.put, zD, zE, zF]
              refine bt (f := 16) (i := 4) (v := ?vid4) rfl (Or.inl ⟨((wanted_at rfl rfl rfl rfl).trans rfl), ?hyid4⟩) (Below.refl _ _) ?restid4
              case hyid4 => intro W hW; go_simp; exact rfl
              simp only [zA, zB, zC, Act.put, zD, zE, zF]
              refine bt (f := 16) (i := 5) (v := ?vid5) rfl (Or.inl ⟨((wanted_at rfl rfl rfl rfl).trans rfl), ?hyid5⟩) (Below.refl _ _) ?restid5
              case hyid5 =>
                intro W hW
                have hb0 : Below wa.heap.size wa W := bstep (Below.drew1 _) hW
                obtain ⟨y0, y1, y2⟩ := box2 (box_on QA.out hb0)
                go_simp
                exact rfl
              simp only [zA, zB, zC, Act.put, zD, zE, zF]
              refine bt (f := 16) (i := 6) (v := ?vid6) rfl (Or.inl ⟨((wanted_at rfl rfl rfl rfl).trans rfl), ?hyid6⟩) (Below.refl _ _) ?restid6
              case hyid6 => intro W hW; go_simp; exact rfl
              simp only [zA, zB, zC, Act.put, zD, zE, zF]
              refine bt (f := 16) (i := 7) (v := ?vid7) rfl (Or.inl ⟨(by rfl), ?hyid7⟩) (Below.refl _ _) ?restid7
              case hyid7 => intro W hW; go_simp; exact rfl
              simp only [zA, zB, zC, Act.put, zD, zE, zF]
              refine bt (f := 16) (i := 8) (v := ?vid8) rfl (Or.inl ⟨(by rfl), ?hyid8⟩) (Below.refl _ _) ?restid8
              case hyid8 => intro W hW; go_simp; exact rfl
              simp only [zA, zB, zC, Act.put, zD, zE, zF]
              refine bt (f := 16) (i := 9) (v := ?vid9) rfl (Or.inl ⟨((wanted_at rfl rfl rfl rfl).trans rfl), ?hyid9⟩) (Below.refl _ _) ?restid9
              case hyid9 => intro W hW; go_simp; exact rfl
              simp only [zA, zB, zC, Act.put, zD, zE, zF]
              refine bt (f := 16) (i := 10) (v := ?vid10) rfl (Or.inl ⟨((wanted_at rfl rfl rfl rfl).trans rfl), ?hyid10⟩) (Below.refl _ _) ?restid10
              case hyid10 => intro W hW; go_simp; exact rfl
              simp only [zA, zB, zC, Act.put, zD, zE, zF]
              refine bt (f := 16) (i := 11) (v := ?vid11) rfl (Or.inl ⟨((wanted_at rfl rfl rfl rfl).trans rfl), ?hyid11⟩) (Below.refl _ _) ?restid11
              case hyid11 => intro W hW; go_simp; exact rfl
              simp only [zA, zB, zC, Act.put, zD, zE, zF]
              refine bt (f := 16) (i := 12) (v := ?vid12) rfl (Or.inl ⟨((wanted_at rfl rfl rfl rfl).trans rfl), ?hyid12⟩) (Below.refl _ _) ?restid12
              case hyid12 => intro W hW; go_simp; exact rfl
              simp only [zA, zB, zC, Act.put, zD, zE, zF]
              refine bt (f := 16) (i := 13) (v := ?vid13) rfl (Or.inl ⟨((wanted_at rfl rfl rfl rfl).trans rfl), ?hyid13⟩) (Below.refl _ _) ?restid13
              case hyid13 =>
                intro W hW
                have hb0 : Below wa.heap.size wa W := bstep (Below.drew1 _) hW
                obtain ⟨y0, y1, y2⟩ := box2 (box_on QA.out hb0)
                go_simp
                exact rfl
              simp only [zA, zB, zC, Act.put, zD, zE, zF]
              refine but_run (i := 14) (by kernel_rfl) rfl ((wanted_at rfl rfl rfl rfl).trans rfl) ?_
              simp only [zA, zB, zC]
              intro K HK
              go_wp2_with fail
              refine (parentOk_any _ (l.take k) (l[k]).b _ (HTK.out.on (bstep (Below.drew1 _) (Below.refl _ _))) (by simp; omega)).mono ?_
              rintro r Vid1 ⟨rfl, hBid1⟩
              rw [HP.out]
              have hSid1 := bstep (Below.refl _ _) hBid1
              go_wp2_with fail
              refine HK.out _ Vid1 (fun _ => hSid1) ?_
              clear HK
              refine bt (f := 16) (i := 15) (v := ?vid15) rfl (Or.inl ⟨((wanted_at rfl rfl rfl rfl).trans rfl), ?hyid15⟩) hSid1 ?restid15
              case hyid15 => intro W hW; go_simp; exact rfl
              simp only [zA, zB, zC, Act.put, zD, zE, zF]
              refine but_run (i := 16) (by kernel_rfl) rfl (by rfl) ?_
              simp only [zA, zB, zC]
              intro K HK
              go_wp2_with fail
              refine HK.out _ Vid1 (fun h => absurd rfl h) ?_
              clear HK
              refine but_done (by kernel_rfl) ?_
              go_wp2_with fail
              go_roundw
              case rel => exact ⟨k + 1, by omega, by go_num, Lib.hid (fit_step HI.out HF.out), Lib.hid (bstep BA.out (bstep (Below.drew1 _) hSid1))⟩
              case measure => simp [intOf]; omega
      · have hall : decide (∀ i, i < l.length → fitG l i = true) = true := decide_eq_true (fun i hi => HI.out i (by omega))
        have HL := Lib.hid hall
        clear hall
        go_wp2_with fail
        refine (HK.out _).mono ?_
        rintro r w1 ⟨rfl, b1⟩
        have B1 := Lib.hid (HW.out.trans (b1.mono hzr))
        clear b1
        go_wp2_with fail
        refine (HA.out _ (HV.out.on B1.out) hn).mono ?_
        rintro r w2 ⟨rfl, b2⟩
        have B2 := Lib.hid (bstep B1.out b2)
        clear b2
        go_wp2
        go_ret
        refine ⟨ret_boolB ?_, B2.out⟩
        rw [← HR.out, agesOkB, HL.out, decide_eq_true h16]
        simp
  · have d0 : decide ((16 : Int) < (l.length : Int)) = true := decide_eq_true (by omega)
    go_enter Tryz.func221, Tryz.ntmps221
    go_wp2
    go_ret
    refine ⟨ret_boolB ?_, Below.refl _ _⟩
    rw [← HR.out, agesOkB, decide_eq_false h16]
    simp
end Go.Proofs.YtlhemcjahcmdeaaGreatDoor
namespace Go.Proofs.YtlhemcjahcmdeaaGreatDoor
open Go.RowKit
set_option maxRecDepth 100000
set_option linter.unusedSimpArgs false
set_option linter.unusedVariables false

set_option maxHeartbeats 4000000 in
theorem implPoolOk_any {t : TypeId} (vl vn va vc vv : Value) (d : PoolD) (w : World) (h : RdP t w w.heap.size vl vn va vc vv d) (hs : SmallP d) (hnm : ∀ k ∈ d.vo, k.a.size ≤ maxLen) : Calls Tryz.prog 169 #[.agg #[vl, vn, va, vc, vv, .int .i64 d.nx]] w (SaysBool w (poolOkB d)) := by
  have h1 := hs.1
  have h2 := hs.2.1
  have h3 := hs.2.2.1
  have hkl := treeKeys_len d.ts
  have HMO := Lib.hid (fun W b => mappingsOf_any vl vn va vc vv d W (h.on b))
  have HT := Lib.hid (fun W b => implTreeOk_any vl vn d.lo d.ts W (h.1.on b) (by omega) (by omega) (by omega))
  have HA := Lib.hid (fun W b => implAgesOk_any va d.ag W (h.2.1.on b) (by omega))
  have HC := Lib.hid (fun W b => implCellsOk_any vc d.ce W ((h.2.2.1.on b).retype _) (by omega))
  have HN := Lib.hid (fun W b => nextOk_any vl vn va vc vv d W (h.on b) hs)
  have HV := Lib.hid (fun W b => volsOk_any vl vn va vc vv d W (h.on b) hs hnm)
  have HE := Lib.hid (fun W b => agesExist_any vl vn va vc vv d W (h.on b) hs (by omega))
  have HM := Lib.hid (fun W b => cellsMatch_any vl vn va vc vv d W (h.on b) hs (by omega))
  obtain ⟨A0, c0, A1, c1, A2, c2, A3, c3, A4, c4, rfl, rfl, rfl, rfl, rfl⟩ := h.shape
  have HB := Lib.hid (bal1 w (.cells #[.slice A0 d.lo.length c0, .slice A1 d.ts.length c1, .slice A2 d.ag.length c2, .slice A3 d.ce.length c3, .slice A4 d.vo.length c4, .int .i64 d.nx] 32))
  have Q0 := Lib.hid (al1 w (.cells #[.slice A0 d.lo.length c0, .slice A1 d.ts.length c1, .slice A2 d.ag.length c2, .slice A3 d.ce.length c3, .slice A4 d.vo.length c4, .int .i64 d.nx] 32))
  obtain ⟨R, hR⟩ : ∃ R, poolOkB d = R := ⟨_, rfl⟩
  rw [hR]
  obtain ⟨tb, htb⟩ : ∃ b, treeOkB d.lo d.ts = b := ⟨_, rfl⟩
  obtain ⟨ab, hab⟩ : ∃ b, agesOkB d.ag = b := ⟨_, rfl⟩
  obtain ⟨cb, hcb⟩ : ∃ b, celsOkB d.ce = b := ⟨_, rfl⟩
  obtain ⟨nb, hnb⟩ : ∃ b, nextB d = b := ⟨_, rfl⟩
  obtain ⟨vb, hvb⟩ : ∃ b, volsB d = b := ⟨_, rfl⟩
  obtain ⟨eb, heb⟩ : ∃ b, agesB d = b := ⟨_, rfl⟩
  obtain ⟨mb, hmb⟩ : ∃ b, cellsB d = b := ⟨_, rfl⟩
  unfold poolOkB at hR
  rw [htb, hab, hcb, hnb, hvb, heb, hmb] at hR
  rw [htb] at HT
  rw [hab] at HA
  rw [hcb] at HC
  rw [hnb] at HN
  rw [hvb] at HV
  rw [heb] at HE
  rw [hmb] at HM
  have HX := Lib.hid hR.symm
  clear h hs hR hnm h1 h2 h3 hkl htb hab hcb hnb hvb heb hmb
  go_enter Tryz.func169, Tryz.ntmps169
  go_upto_region 1 with (fail)
  generalize w.alloc (.cells #[.slice A0 d.lo.length c0, .slice A1 d.ts.length c1, .slice A2 d.ag.length c2, .slice A3 d.ce.length c3, .slice A4 d.vo.length c4, .int .i64 d.nx] 32) = W at *
  obtain ⟨x0, x1, x2, x3, x4, x5, x6⟩ := boxP Q0.out
  go_wp2_with fail
  refine (HMO.out _ HB.out).mono ?_
  rintro e w1 ⟨rfl, b1⟩
  replace Q0 := Lib.hid (box_on Q0.out b1)
  replace HB := Lib.hid (bstep HB.out b1)
  clear b1 x0 x1 x2 x3 x4 x5 x6
  have b1 := bal1 w1 (.cells #[.slice A0 d.lo.length c0, .slice A1 d.ts.length c1, .slice A2 d.ag.length c2, .slice A3 d.ce.length c3] 201)
  have QM := Lib.hid (al1 w1 (.cells #[.slice A0 d.lo.length c0, .slice A1 d.ts.length c1, .slice A2 d.ag.length c2, .slice A3 d.ce.length c3] 201))
  replace Q0 := Lib.hid (box_on Q0.out b1)
  replace HB := Lib.hid (bstep HB.out b1)
  clear b1
  go_upto_region 2 with (fail)
  generalize w1.alloc (.cells #[.slice A0 d.lo.length c0, .slice A1 d.ts.length c1, .slice A2 d.ag.length c2, .slice A3 d.ce.length c3] 201) = W2 at *
  obtain ⟨x0, x1, x2, x3, x4, x5, x6⟩ := boxP Q0.out
  obtain ⟨y0, y1, y2, y3, y4⟩ := box4 QM.out
  go_wp2_with fail
  refine (HT.out _ HB.out).mono ?_
  rintro e w5 ⟨rfl, b1⟩
  clear x0 x1 x2 x3 x4 x5 x6 y0 y1 y2 y3 y4
  replace Q0 := Lib.hid (box_on Q0.out b1)
  replace QM := Lib.hid (box_on QM.out b1)
  replace HB := Lib.hid (bstep HB.out b1)
  clear b1
  cases tb
  · have HF : Hid (R = false) := Lib.hid (by rw [HX.out]; simp only [Bool.false_and, Bool.and_false, Bool.true_and, Bool.and_true])
    go_wp2
    go_ret
    exact ⟨by rw [HF.out]; rfl, HB.out⟩
  · skip
    obtain ⟨x0, x1, x2, x3, x4, x5, x6⟩ := boxP Q0.out
    obtain ⟨y0, y1, y2, y3, y4⟩ := box4 QM.out
    go_wp2_with fail
    refine (HA.out _ HB.out).mono ?_
    rintro e w6 ⟨rfl, b1⟩
    clear x0 x1 x2 x3 x4 x5 x6 y0 y1 y2 y3 y4
    replace Q0 := Lib.hid (box_on Q0.out b1)
    replace QM := Lib.hid (box_on QM.out b1)
    replace HB := Lib.hid (bstep HB.out b1)
    clear b1
    cases ab
    · have HF : Hid (R = false) := Lib.hid (by rw [HX.out]; simp only [Bool.false_and, Bool.and_false, Bool.true_and, Bool.and_true])
      go_wp2
      go_ret
      exact ⟨by rw [HF.out]; rfl, HB.out⟩
    · skip
      obtain ⟨x0, x1, x2, x3, x4, x5, x6⟩ := boxP Q0.out
      obtain ⟨y0, y1, y2, y3, y4⟩ := box4 QM.out
      go_wp2_with fail
      refine (HC.out _ HB.out).mono ?_
      rintro e w7 ⟨rfl, b1⟩
      clear x0 x1 x2 x3 x4 x5 x6 y0 y1 y2 y3 y4
      replace Q0 := Lib.hid (box_on Q0.out b1)
      replace QM := Lib.hid (box_on QM.out b1)
      replace HB := Lib.hid (bstep HB.out b1)
      clear b1
      cases cb
      · have HF : Hid (R = false) := Lib.hid (by rw [HX.out]; simp only [Bool.false_and, Bool.and_false, Bool.true_and, Bool.and_true])
        go_wp2
        go_ret
        exact ⟨by rw [HF.out]; rfl, HB.out⟩
      · skip
        obtain ⟨x0, x1, x2, x3, x4, x5, x6⟩ := boxP Q0.out
        obtain ⟨y0, y1, y2, y3, y4⟩ := box4 QM.out
        go_wp2_with fail
        refine (HN.out _ HB.out).mono ?_
        rintro e w8 ⟨rfl, b1⟩
        clear x0 x1 x2 x3 x4 x5 x6 y0 y1 y2 y3 y4
        replace Q0 := Lib.hid (box_on Q0.out b1)
        replace QM := Lib.hid (box_on QM.out b1)
        replace HB := Lib.hid (bstep HB.out b1)
        clear b1
        cases nb
        · have HF : Hid (R = false) := Lib.hid (by rw [HX.out]; simp only [Bool.false_and, Bool.and_false, Bool.true_and, Bool.and_true])
          go_wp2
          go_ret
          exact ⟨by rw [HF.out]; rfl, HB.out⟩
        · skip
          obtain ⟨x0, x1, x2, x3, x4, x5, x6⟩ := boxP Q0.out
          obtain ⟨y0, y1, y2, y3, y4⟩ := box4 QM.out
          go_wp2_with fail
          refine (HV.out _ HB.out).mono ?_
          rintro e w9 ⟨rfl, b1⟩
          clear x0 x1 x2 x3 x4 x5 x6 y0 y1 y2 y3 y4
          replace Q0 := Lib.hid (box_on Q0.out b1)
          replace QM := Lib.hid (box_on QM.out b1)
          replace HB := Lib.hid (bstep HB.out b1)
          clear b1
          cases vb
          · have HF : Hid (R = false) := Lib.hid (by rw [HX.out]; simp only [Bool.false_and, Bool.and_false, Bool.true_and, Bool.and_true])
            go_wp2
            go_ret
            exact ⟨by rw [HF.out]; rfl, HB.out⟩
          · skip
            obtain ⟨x0, x1, x2, x3, x4, x5, x6⟩ := boxP Q0.out
            obtain ⟨y0, y1, y2, y3, y4⟩ := box4 QM.out
            go_wp2_with fail
            refine (HE.out _ HB.out).mono ?_
            rintro e w10 ⟨rfl, b1⟩
            clear x0 x1 x2 x3 x4 x5 x6 y0 y1 y2 y3 y4
            replace Q0 := Lib.hid (box_on Q0.out b1)
            replace QM := Lib.hid (box_on QM.out b1)
            replace HB := Lib.hid (bstep HB.out b1)
            clear b1
            cases eb
            · have HF : Hid (R = false) := Lib.hid (by rw [HX.out]; simp only [Bool.false_and, Bool.and_false, Bool.true_and, Bool.and_true])
              go_wp2
              go_ret
              exact ⟨by rw [HF.out]; rfl, HB.out⟩
            · skip
              obtain ⟨x0, x1, x2, x3, x4, x5, x6⟩ := boxP Q0.out
              obtain ⟨y0, y1, y2, y3, y4⟩ := box4 QM.out
              go_wp2_with fail
              refine (HM.out _ HB.out).mono ?_
              rintro e w11 ⟨rfl, b1⟩
              clear x0 x1 x2 x3 x4 x5 x6 y0 y1 y2 y3 y4
              replace Q0 := Lib.hid (box_on Q0.out b1)
              replace QM := Lib.hid (box_on QM.out b1)
              replace HB := Lib.hid (bstep HB.out b1)
              clear b1
              cases mb
              · have HF : Hid (R = false) := Lib.hid (by rw [HX.out]; simp only [Bool.false_and, Bool.and_false, Bool.true_and, Bool.and_true])
                go_wp2
                go_ret
                exact ⟨by rw [HF.out]; rfl, HB.out⟩
              · have HF : Hid (R = true) := Lib.hid (by rw [HX.out]; simp only [Bool.false_and, Bool.and_false, Bool.true_and, Bool.and_true])
                go_wp2
                go_ret
                exact ⟨by rw [HF.out]; rfl, HB.out⟩
end Go.Proofs.YtlhemcjahcmdeaaGreatDoor
namespace Go.Proofs.YtlhemcjahcmdeaaGreatDoor
open Go.RowKit
set_option maxRecDepth 100000
set_option linter.unusedSimpArgs false
set_option linter.unusedVariables false

theorem quietSame {P : Program} {f : FuncId} {args : Array Value} {w : World} {n : Nat} {v : Value}
    (h : Calls P f args (w.drewN n) fun e w' => e = .returned v ∧ w.drewN n = w') : Calls P f args (w.drewN n) fun e w'' => e = .returned v ∧ ∃ m, w'' = w.drewN m :=
  h.mono fun _ _ ⟨he, hm⟩ => ⟨he, n, hm.symm⟩
theorem drewB (w : World) (n : Nat) : Below w.heap.size w (w.drewN n) := ⟨rfl, rfl, rfl, Nat.le_refl _, fun _ _ => rfl⟩
theorem Five.lay {w w' : World} {b o : Nat} {k : KeyD} (h : Five w b o k) (hlt : b < w.heap.size) (hb : Below w.heap.size w w') : Five w' b o k := by
  have hk := hb.block b hlt
  exact ⟨(World.cell?_of_block (a := ⟨b, o, none⟩) hk).trans h.1, (World.cell?_of_block (a := ⟨b, o + 1, none⟩) hk).trans h.2.1, (World.cell?_of_block (a := ⟨b, o + 2, none⟩) hk).trans h.2.2.1, (World.cell?_of_block (a := ⟨b, o + 3, none⟩) hk).trans h.2.2.2.1, (World.cell?_of_block (a := ⟨b, o + 4, none⟩) hk).trans h.2.2.2.2⟩
theorem ages_miss {d : PoolD} {k : KeyD} (hk : k ∈ treeKeysK d.ts) (h : ageAtK d.ag k.b < 0) : agesB d = false := by
  unfold agesB
  rw [List.all_eq_false]
  exact ⟨k, hk, by simp; omega⟩
theorem ages_all {d : PoolD} (h : ∀ j (hl : j < (treeKeysK d.ts).length), 0 ≤ ageAtK d.ag ((treeKeysK d.ts)[j]).b) : agesB d = true := by
  unfold agesB
  rw [List.all_eq_true]
  intro v hv
  obtain ⟨i, hi, rfl⟩ := List.mem_iff_getElem.1 hv
  exact decide_eq_true (h i hi)
set_option maxHeartbeats 4000000 in
theorem specL10Keys_any {t : TypeId} (vl vn va vc vv : Value) (d : PoolD) (w : World) (h : RdP t w w.heap.size vl vn va vc vv d) (hs : SmallP d) : Calls Tryz.prog 194 #[.agg #[vl, vn, va, vc, vv, .int .i64 d.nx]] w (SaysBool w (agesB d && cellsB d)) := by
  have hg : d.ce.length ≤ 2097152 := by have := hs.2.2.1; omega
  have ha : d.ag.length ≤ 2097152 := by have := hs.2.1; omega
  have h1 := hs.1
  have HK := Lib.hid (fun W b => specTreeKeys_any vl vn d.lo d.ts W (h.1.on b) (by omega) (by omega))
  obtain ⟨A0, c0, A1, c1, A2, c2, A3, c3, A4, c4, rfl, rfl, rfl, rfl, rfl⟩ := h.shape
  have HAG := Lib.hid (fun W b i => specAgeAt_any (.slice A2 d.ag.length c2) d.ag i W (h.2.1.on b) ha)
  have HC := Lib.hid (fun W b i g => specCellAt_any (.slice A3 d.ce.length c3) d.ce i g W ((h.2.2.1.on b).retype _) hg)
  have HU := Lib.hid (fun W b => specUsedCells_any (.slice A3 d.ce.length c3) d.ce W ((h.2.2.1.on b).retype _) hg)
  have HB := Lib.hid (bal1 w (.cells #[.slice A0 d.lo.length c0, .slice A1 d.ts.length c1, .slice A2 d.ag.length c2, .slice A3 d.ce.length c3, .slice A4 d.vo.length c4, .int .i64 d.nx] 32))
  have Q0 := Lib.hid (al1 w (.cells #[.slice A0 d.lo.length c0, .slice A1 d.ts.length c1, .slice A2 d.ag.length c2, .slice A3 d.ce.length c3, .slice A4 d.vo.length c4, .int .i64 d.nx] 32))
  have hkl := treeKeys_len d.ts
  obtain ⟨K, hK⟩ : ∃ K, treeKeysK d.ts = K := ⟨_, rfl⟩
  have HAM := Lib.hid (fun (k : KeyD) (hk : k ∈ treeKeysK d.ts) hh => ages_miss (d := d) (k := k) hk hh)
  have HAA := Lib.hid (ages_all (d := d))
  have HM1 := Lib.hid (fun (k : KeyD) (hk : k ∈ refsK (treeKeysK d.ts)) hh => cells_miss1 (d := d) (k := k) hk hh)
  have HM2 := Lib.hid (cells_miss2 (d := d))
  have HE := Lib.hid (cells_end (d := d))
  rw [hK] at hkl HK HAM HM1 HM2 HE
  have HAA2 : Hid ((∀ j (hl : j < K.length), 0 ≤ ageAtK d.ag (K[j]).b) → agesB d = true) := Lib.hid (fun hh => HAA.out (by subst hK; exact hh))
  have hkn : K.length ≤ 2097152 := by omega
  obtain ⟨R, hR⟩ : ∃ R, (agesB d && cellsB d) = R := ⟨_, rfl⟩
  rw [hR]
  have HX := Lib.hid hR
  clear h hs hR hK h1 hkl HAA
  go_enter Tryz.func194, Tryz.ntmps194
  go_upto_region 1 with (fail)
  generalize w.alloc (.cells #[.slice A0 d.lo.length c0, .slice A1 d.ts.length c1, .slice A2 d.ag.length c2, .slice A3 d.ce.length c3, .slice A4 d.vo.length c4, .int .i64 d.nx] 32) = W at *
  obtain ⟨x0, x1, x2, x3, x4, x5, x6⟩ := boxP Q0.out
  go_wp2_with fail
  refine (HK.out _ HB.out).mono ?_
  rintro e w1 ⟨v1, rfl, o, b1⟩
  replace Q0 := Lib.hid (box_on Q0.out b1)
  replace HB := Lib.hid (bstep HB.out b1)
  have HRd := Lib.hid o.owns.reads
  obtain ⟨A5, c5, rfl, _, _⟩ := o.owns.reads.lenN
  clear x0 x1 x2 x3 x4 x5 x6 o b1
  go_wp2
  go_loopw [4, 5, 6, 7, 8] (fun q i _ _ _ wr => ∃ k : Nat, k ≤ K.length ∧ i = .int .i64 k ∧ q = .int .i64 ((refsK (K.take k)).length : Nat) ∧ Hid (∀ j (hj : j < k) (hl : j < K.length), 0 ≤ ageAtK d.ag (K[j]).b) ∧ Hid (∀ x ∈ refsK (K.take k), cellB d.ce x.d x.e = true) ∧ Hid (((refsK (K.take k)).map (·.d)).Nodup) ∧ Hid (Below w1.heap.size w1 wr)) (fun _ i _ _ _ _ => K.length - (intOf i).toNat)
  case atStart => exact ⟨0, Nat.zero_le _, rfl, rfl, Lib.hid (fun j hj => by omega), Lib.hid (fun x hx => by simp [refsK] at hx), Lib.hid (by simp [refsK]), Lib.hid (Below.refl _ _)⟩
  case round =>
    obtain ⟨k, hk, rfl, rfl, HI, HJ, HN, HW⟩ := hrel
    have HBW := Lib.hid (bstep HB.out HW.out)
    have HQW := Lib.hid (box_on Q0.out HW.out)
    have hrl := refs_len (K.take k)
    have htl : (K.take k).length ≤ K.length := by rw [List.length_take]; omega
    by_cases hlt : k < K.length
    · obtain ⟨b, off, rfl, hbb, hc⟩ := HRd.out.keys hlt
      have HCL := Lib.hid hc
      have i1 : (k : Int) < (K.length : Int) := by omega
      have i2 : (0 : Int) ≤ (k : Int) := by omega
      obtain ⟨y0, y1, y2, y3, y4⟩ := Five.lay (hc k hlt) hbb HW.out
      have HBAD : Hid (ageAtK d.ag (K[k]).b < 0 → R = false) := Lib.hid (fun hh => by rw [← HX.out, HAM.out _ (List.getElem_mem hlt) hh]; rfl)
      have HST : Hid (0 ≤ ageAtK d.ag (K[k]).b → ∀ j (hj : j < k + 1) (hl : j < K.length), 0 ≤ ageAtK d.ag (K[j]).b) := Lib.hid (fun hh j hj hl => by
        by_cases h3 : j < k
        · exact HI.out j h3 hl
        · have : j = k := by omega
          subst this
          exact hh)
      have HSN := Lib.hid (refs_snoc hlt)
      have HBC : Hid ((K[k]).c = 1 → cellB d.ce (K[k]).d (K[k]).e = false → R = false) := Lib.hid (fun hc1 hh => by
        rw [← HX.out, HM1.out K[k] (by unfold refsK; rw [List.mem_filter]; exact ⟨List.getElem_mem hlt, by rw [hc1]; rfl⟩) hh, Bool.and_false])
      have HDU : Hid ((K[k]).c = 1 → (K[k]).d ∈ (refsK (K.take k)).map (·.d) → R = false) := Lib.hid (fun hc1 hm => by
        rw [← HX.out, HM2.out (fun hn => ?_), Bool.and_false]
        have h2 : ((refsK (K.take (k + 1))).map (·.d)).Nodup := hn.sublist ((refs_sub _).map _)
        rw [HSN.out, if_pos (by rw [hc1]; rfl), List.map_append, List.nodup_append] at h2
        exact h2.2.2 _ hm _ (by simp) rfl)
      clear hc
      obtain ⟨v, hv⟩ : ∃ v, v = K[k] := ⟨_, rfl⟩
      have HVK := Lib.hid hv
      rw [← hv] at y0 y1 y2 y3 y4 HBAD HST HSN HBC HDU
      clear hv
      have HA1 := Lib.hid (fun n => HAG.out (wr.drewN n) (HBW.out.trans ((drewB wr n).mono HBW.out.size)) v.b)
      obtain ⟨ad, had⟩ : ∃ ad, ageAtK d.ag v.b = ad := ⟨_, rfl⟩
      rw [had] at HA1 HBAD HST
      clear had
      obtain ⟨x0, x1, x2, x3, x4, x5, x6⟩ := boxP HQW.out
      by_cases hneg : ad < 0
      · have e1 : decide (ad < 0) = true := decide_eq_true hneg
        have HF := Lib.hid (HBAD.out hneg)
        go_wp2
        go_quiet ((go_at_call 133; exact quietSame (HA1.out _)))
        go_wp2
        go_ret
        exact ⟨by rw [HF.out]; rfl, HBW.out.trans ((drewB wr _).mono HBW.out.size)⟩
      · have e1 : decide (ad < 0) = false := decide_eq_false hneg
        have HI2 := Lib.hid (HST.out (by omega))
        by_cases hkd : v.c = 1
        · have e2 : (v.c != 1) = false := by simp [hkd]
          have HSN2 : Hid (refsK (K.take (k + 1)) = refsK (K.take k) ++ [v]) := Lib.hid (by rw [HSN.out, if_pos (by rw [hkd]; rfl)])
          have HBC2 := Lib.hid (HBC.out hkd)
          have HDU2 := Lib.hid (HDU.out hkd)
          have HKD := Lib.hid hkd
          clear hkd HBC HDU HSN
          go_wp2
          go_quiet ((go_at_call 133; exact quietSame (HA1.out _)))
          have BQ := drewB wr nq
          have HWq := Lib.hid (HW.out.trans (BQ.mono HW.out.size))
          have HBq := Lib.hid (HBW.out.trans (BQ.mono HBW.out.size))
          have HQq := Lib.hid (box_on HQW.out BQ)
          clear x0 x1 x2 x3 x4 x5 x6 y0 y1 y2 y3 y4 HA1 e1 BQ
          generalize wr.drewN nq = wq at *
          obtain ⟨x0, x1, x2, x3, x4, x5, x6⟩ := boxP HQq.out
          have fv := Five.lay (HCL.out k hlt) hbb HWq.out
          rw [← HVK.out] at fv
          obtain ⟨y0, y1, y2, y3, y4⟩ := fv
          obtain ⟨ck, hck⟩ : ∃ ck, cellK d.ce v.d v.e = ck := ⟨_, rfl⟩
          obtain ⟨cb, hcb⟩ : ∃ cb, cellB d.ce v.d v.e = cb := ⟨_, rfl⟩
          have HC1 := Lib.hid (fun n => (HC.out (wq.drewN n) (HBq.out.trans ((drewB wq n).mono HBq.out.size)) v.d v.e).mono (fun e w' h => (⟨h.1, h.2⟩ : e = .returned (.tuple #[.int .i64 (cellK d.ce v.d v.e), .bool (cellB d.ce v.d v.e)]) ∧ wq.drewN n = w')))
          rw [hck, hcb] at HC1
          rw [hcb] at HBC2
          have HCB := Lib.hid hcb
          clear hck hcb
          generalize hmr : (refsK (K.take k)).length = mr at *
          have HMR := Lib.hid hmr
          clear hmr
          cases cb
          · have HF := Lib.hid (HBC2.out rfl)
            go_wp2
            go_quiet ((go_at_call 142; exact quietSame (HC1.out _)))
            go_wp2
            go_ret
            exact ⟨by rw [HF.out]; rfl, HBq.out.trans ((drewB wq _).mono HBq.out.size)⟩
          · go_wp2
            go_quiet ((go_at_call 142; exact quietSame (HC1.out _)))
            have BQ := drewB wq nq
            have HWr := Lib.hid (HWq.out.trans (BQ.mono HWq.out.size))
            have HBr := Lib.hid (HBq.out.trans (BQ.mono HBq.out.size))
            have HQr := Lib.hid (box_on HQq.out BQ)
            clear x0 x1 x2 x3 x4 x5 x6 y0 y1 y2 y3 y4 HC1 BQ HW HWq HBW HBq HQW HQq
            generalize wq.drewN nq = ws at *
            go_wp2
            go_loopw [8] (fun j wz => ∃ jj : Nat, jj ≤ k ∧ j = .int .i64 jj ∧ Hid (∀ x (hx : x < jj) (hl : x < K.length), ¬ ((K[x]).c = 1 ∧ (K[x]).d = v.d)) ∧ Hid (Below ws.heap.size ws wz)) (fun j _ => k - (intOf j).toNat)
            case atStart => exact ⟨0, Nat.zero_le _, rfl, Lib.hid (fun x hx => by omega), Lib.hid (Below.refl _ _)⟩
            case round =>
              obtain ⟨jj, hjj, rfl, HNO, HZ⟩ := hrel
              have HWz := Lib.hid (bstep HWr.out HZ.out)
              by_cases hjk : jj < k
              · have hjl : jj < K.length := by omega
                have fv := Five.lay (HCL.out k hlt) hbb HWz.out
                rw [← HVK.out] at fv
                obtain ⟨y0, y1, y2, y3, y4⟩ := fv
                obtain ⟨z0, z1, z2, z3, z4⟩ := Five.lay (HCL.out jj hjl) hbb HWz.out
                have HDD : Hid ((K[jj]).c = 1 → (K[jj]).d = v.d → R = false) := Lib.hid (fun h1 h2 => HDU2.out (refs_mem.2 ⟨jj, hjl, hjk, h1, h2⟩))
                have HNN : Hid (¬ ((K[jj]).c = 1 ∧ (K[jj]).d = v.d) → ∀ x (hx : x < jj + 1) (hl : x < K.length), ¬ ((K[x]).c = 1 ∧ (K[x]).d = v.d)) := Lib.hid (fun hh x hx hl => by
                  by_cases h3 : x < jj
                  · exact HNO.out x h3 hl
                  · have : x = jj := by omega
                    subst this
                    exact hh)
                obtain ⟨u, hu⟩ : ∃ u, u = K[jj] := ⟨_, rfl⟩
                rw [← hu] at z0 z1 z2 z3 z4 HDD HNN
                clear hu
                have j1 : (jj : Int) < (k : Int) := by omega
                have j2 : (jj : Int) < (K.length : Int) := by omega
                have j3 : (0 : Int) ≤ (jj : Int) := by omega
                cases hc1 : (u.c == 1)
                · have HT := Lib.hid (HNN.out (fun hh => by rw [hh.1] at hc1; cases hc1))
                  go_wp2
                  go_quiet (fail)
                  go_wp2
                  go_roundw
                  case rel => exact ⟨jj + 1, by omega, by go_num, HT, Lib.hid (bdrew HZ.out _)⟩
                  case measure => simp [intOf]; omega
                · cases hd1 : (u.d == v.d)
                  · have HT := Lib.hid (HNN.out (fun hh => by rw [hh.2] at hd1; simp at hd1))
                    go_wp2
                    go_quiet (fail)
                    go_wp2
                    go_roundw
                    case rel => exact ⟨jj + 1, by omega, by go_num, HT, Lib.hid (bdrew HZ.out _)⟩
                    case measure => simp [intOf]; omega
                  · have HF := Lib.hid (HDD.out (by simpa using hc1) (by simpa using hd1))
                    go_wp2
                    go_quiet (fail)
                    go_wp2
                    go_ret
                    exact ⟨by rw [HF.out]; rfl, bdrew (bstep HBr.out HZ.out) _⟩
              · have HND : Hid (v.d ∉ (refsK (K.take k)).map (·.d)) := Lib.hid (fun hm => by
                  obtain ⟨x, hx, hxk, h1, h2⟩ := refs_mem.1 hm
                  exact HNO.out x (by omega) hx ⟨h1, h2⟩)
                have HJ2 : Hid (∀ x ∈ refsK (K.take (k + 1)), cellB d.ce x.d x.e = true) := Lib.hid (by
                  rw [HSN2.out]
                  intro x hx
                  rcases List.mem_append.1 hx with hx | hx
                  · exact HJ.out x hx
                  · simp at hx
                    subst hx
                    exact HCB.out)
                have HN2 : Hid (((refsK (K.take (k + 1))).map (·.d)).Nodup) := Lib.hid (by
                  rw [HSN2.out, List.map_append]
                  exact nodup_snoc HN.out HND.out)
                have HL2 : Hid ((refsK (K.take (k + 1))).length = mr + 1) := Lib.hid (by rw [HSN2.out, List.length_append, HMR.out]; rfl)
                go_wp2
                go_roundw
                case rel => exact ⟨k + 1, by omega, by go_num, by rw [HL2.out]; go_num, HI2, HJ2, HN2, HWz⟩
                case measure => simp [intOf]; omega
        · have e2 : (v.c != 1) = true := by simp [hkd]
          have HSN2 : Hid (refsK (K.take (k + 1)) = refsK (K.take k)) := Lib.hid (by rw [HSN.out, if_neg (by simpa using hkd)]; simp)
          clear hkd HBC HDU HSN
          go_wp2
          go_quiet ((go_at_call 133; exact quietSame (HA1.out _)))
          go_wp2
          go_roundw
          case rel => exact ⟨k + 1, by omega, by go_num, by rw [HSN2.out], HI2, by rw [HSN2.out]; exact HJ, by rw [HSN2.out]; exact HN, Lib.hid (HW.out.trans ((drewB wr _).mono HW.out.size))⟩
          case measure => simp [intOf]; omega
    · have e : k = K.length := by omega
      subst e
      rw [List.take_length] at HJ HN
      have HE2 := Lib.hid (HE.out HJ.out HN.out)
      have HA2 := Lib.hid (HAA2.out (fun j hl => HI.out j hl hl))
      have HRV : Hid (R = decide ((refsK K).length = usedK d.ce)) := Lib.hid (by rw [← HX.out, HA2.out, HE2.out]; rfl)
      rw [List.take_length] at hrl htl ⊢
      generalize (refsK K).length = m at *
      obtain ⟨x0, x1, x2, x3, x4, x5, x6⟩ := boxP HQW.out
      go_wp2_with fail
      refine (HU.out _ HBW.out).mono ?_
      rintro e _ ⟨rfl, rfl⟩
      generalize usedK d.ce = u at *
      by_cases hu : m = u
      · have e1 : ((m : Int) == (u : Int)) = true := by simp; omega
        have HF : Hid (R = true) := Lib.hid (by rw [HRV.out, decide_eq_true hu])
        clear hu
        go_wp2
        go_ret
        exact ⟨by rw [HF.out]; rfl, HBW.out⟩
      · have e1 : ((m : Int) == (u : Int)) = false := by simp; omega
        have HF : Hid (R = false) := Lib.hid (by rw [HRV.out, decide_eq_false hu])
        clear hu
        go_wp2
        go_ret
        exact ⟨by rw [HF.out]; rfl, HBW.out⟩
end Go.Proofs.YtlhemcjahcmdeaaGreatDoor
