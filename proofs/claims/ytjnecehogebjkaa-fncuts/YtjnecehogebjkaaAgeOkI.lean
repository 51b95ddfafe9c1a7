/- The contract for impl.AgesOk. Condition: at most 2^20 versions. -/
import Derived.Test.YtjnecehogebjkaaAgeOkA
namespace Go.Proofs.Ytjnecehogebjkaa
open Go.RowKit
set_option maxRecDepth 100000
set_option linter.unusedSimpArgs false
set_option linter.unusedVariables false

set_option maxHeartbeats 4000000 in
theorem implAgesOk_any (v : Value) (l : List AgeD) (w : World) (hv : Reads w w.heap.size v (agesD l)) (hn : l.length ≤ 2097152) : Calls Try.prog 13 #[v] w (SaysBool w (agesOkB l)) := by
  obtain ⟨A, c, rfl, hcap, hmax⟩ := hv.shapeG
  have HK := Lib.hid (ageSet_any A l.length c)
  have HA := Lib.hid (fun w => ascendingG_any (.slice A l.length c) l w)
  unfold lessVG at HK HA
  obtain ⟨R, hR⟩ : ∃ R, agesOkB l = R := ⟨_, rfl⟩
  rw [hR]
  have HR := Lib.hid hR
  have HV := Lib.hid hv
  clear hv hR
  by_cases h16 : l.length ≤ 16
  · have d0 : decide ((16 : Int) < (l.length : Int)) = false := decide_eq_false (by omega)
    go_enter Try.func13, Try.ntmps13
    go_wp2
    go_loopw [3, 4, 10] (fun _ _ i wr => ∃ k : Nat, k ≤ l.length ∧ i = .int .i64 k ∧ Hid (∀ j, j < k → fitG l j = true) ∧ Hid (Below w.heap.size w wr)) (fun _ _ i _ => l.length - (intOf i).toNat)
    case atStart => exact ⟨0, Nat.zero_le _, rfl, Lib.hid (fun j h => by omega), Lib.hid (Below.refl _ _)⟩
    case round =>
      clear d0
      obtain ⟨k, hk, rfl, HI, HW⟩ := hrel
      have hzr := HW.out.size
      by_cases hlt : k < l.length
      · have HTK := Lib.hid (((HV.out.on HW.out).on (bal1 wr (.cells #[.int .i64 (l[k]).a, .int .i64 (l[k]).b] 39))).takeG k hk)
        obtain ⟨b, off, rfl, hbb, hc⟩ := (HV.out.on HW.out).ages hlt
        have i1 : (k : Int) < (l.length : Int) := by omega
        have i2 : (0 : Int) ≤ (k : Int) := by omega
        have i3 : (k : Int) ≤ (c : Int) := by omega
        have i4 : k ≤ c := by omega
        obtain ⟨c0, c1⟩ := hc k hlt
        have QA := Lib.hid (al1 wr (.cells #[.int .i64 (l[k]).a, .int .i64 (l[k]).b] 39))
        have BA := Lib.hid (HW.out.trans ((bal1 wr (.cells #[.int .i64 (l[k]).a, .int .i64 (l[k]).b] 39)).mono hzr))
        have hfit := fit_at hlt
        clear hc
        go_upto_region 6 with (fail)
        clear c0 c1
        generalize wr.alloc (.cells #[.int .i64 (l[k]).a, .int .i64 (l[k]).b] 39) = wa at *
        by_cases p1 : (l[k]).a < 1
        · have HF : Hid (fitG l k = false) := Lib.hid (by rw [hfit, show idG (l[k]).a = false by simp [idG]; omega]; rfl)
          have d1 : decide ((l[k]).a < 1) = true := decide_eq_true p1
          clear p1 hfit
          refine but_begin (f := 16) (S := fun V => Below wa.drew.heap.size wa.drew V) (by kernel_rfl) ?_
          refine but_take (f := 16) (i := 0) (v := ?via0) rfl (by kernel_rfl) (by kernel_rfl) (by kernel_rfl) (by kernel_rfl) (by kernel_rfl) (fun _ _ _ h => h) (Or.inl ⟨(by rfl), ?hyia0⟩) (Below.refl _ _) ?restia0
          case hyia0 =>
            intro W hW
            go_simp
            exact rfl
          simp only [List.getElem_toArray, List.getElem_cons_succ, List.getElem_cons_zero, Act.put, List.setIfInBounds_toArray, List.set_cons_zero, List.set_cons_succ]
          refine but_take (f := 16) (i := 1) (v := ?via1) rfl (by kernel_rfl) (by kernel_rfl) (by kernel_rfl) (by kernel_rfl) (by kernel_rfl) (fun _ _ _ h => h) (Or.inl ⟨(by rfl), ?hyia1⟩) (Below.refl _ _) ?restia1
          case hyia1 =>
            intro W hW
            have hb0 : Below wa.heap.size wa W := bstep (Below.drew1 _) hW
            obtain ⟨y0, y1, y2⟩ := box2 (box_on QA.out hb0)
            go_simp
            exact rfl
          simp only [List.getElem_toArray, List.getElem_cons_succ, List.getElem_cons_zero, Act.put, List.setIfInBounds_toArray, List.set_cons_zero, List.set_cons_succ]
          refine but_take (f := 16) (i := 2) (v := ?via2) rfl (by kernel_rfl) (by kernel_rfl) (by kernel_rfl) (by kernel_rfl) (by kernel_rfl) (fun _ _ _ h => h) (Or.inl ⟨(by rfl), ?hyia2⟩) (Below.refl _ _) ?restia2
          case hyia2 =>
            intro W hW
            go_simp
            exact rfl
          simp only [List.getElem_toArray, List.getElem_cons_succ, List.getElem_cons_zero, Act.put, List.setIfInBounds_toArray, List.set_cons_zero, List.set_cons_succ]
          refine but_take (f := 16) (i := 3) (v := ?via3) rfl (by kernel_rfl) (by kernel_rfl) (by kernel_rfl) (by kernel_rfl) (by kernel_rfl) (fun _ _ _ h => h) (Or.inl ⟨(by rfl), ?hyia3⟩) (Below.refl _ _) ?restia3
          case hyia3 =>
            intro W hW
            go_simp
            exact rfl
          simp only [List.getElem_toArray, List.getElem_cons_succ, List.getElem_cons_zero, Act.put, List.setIfInBounds_toArray, List.set_cons_zero, List.set_cons_succ]
          refine but_take (f := 16) (i := 4) (v := undef) rfl (by kernel_rfl) (by kernel_rfl) (by kernel_rfl) (by kernel_rfl) (by kernel_rfl) (fun _ _ _ h => h) (Or.inr ⟨((wanted_at rfl rfl rfl rfl).trans rfl), rfl⟩) (Below.refl _ _) ?_
          simp only [List.getElem_toArray, List.getElem_cons_succ, List.getElem_cons_zero, Act.put, List.setIfInBounds_toArray, List.set_cons_zero, List.set_cons_succ]
          refine but_take (f := 16) (i := 5) (v := undef) rfl (by kernel_rfl) (by kernel_rfl) (by kernel_rfl) (by kernel_rfl) (by kernel_rfl) (fun _ _ _ h => h) (Or.inr ⟨((wanted_at rfl rfl rfl rfl).trans rfl), rfl⟩) (Below.refl _ _) ?_
          simp only [List.getElem_toArray, List.getElem_cons_succ, List.getElem_cons_zero, Act.put, List.setIfInBounds_toArray, List.set_cons_zero, List.set_cons_succ]
          refine but_take (f := 16) (i := 6) (v := undef) rfl (by kernel_rfl) (by kernel_rfl) (by kernel_rfl) (by kernel_rfl) (by kernel_rfl) (fun _ _ _ h => h) (Or.inr ⟨((wanted_at rfl rfl rfl rfl).trans rfl), rfl⟩) (Below.refl _ _) ?_
          simp only [List.getElem_toArray, List.getElem_cons_succ, List.getElem_cons_zero, Act.put, List.setIfInBounds_toArray, List.set_cons_zero, List.set_cons_succ]
          refine but_take (f := 16) (i := 7) (v := ?via7) rfl (by kernel_rfl) (by kernel_rfl) (by kernel_rfl) (by kernel_rfl) (by kernel_rfl) (fun _ _ _ h => h) (Or.inl ⟨(by rfl), ?hyia7⟩) (Below.refl _ _) ?restia7
          case hyia7 =>
            intro W hW
            go_simp
            exact rfl
          simp only [List.getElem_toArray, List.getElem_cons_succ, List.getElem_cons_zero, Act.put, List.setIfInBounds_toArray, List.set_cons_zero, List.set_cons_succ]
          refine but_take (f := 16) (i := 8) (v := ?via8) rfl (by kernel_rfl) (by kernel_rfl) (by kernel_rfl) (by kernel_rfl) (by kernel_rfl) (fun _ _ _ h => h) (Or.inl ⟨(by rfl), ?hyia8⟩) (Below.refl _ _) ?restia8
          case hyia8 =>
            intro W hW
            go_simp
            exact rfl
          simp only [List.getElem_toArray, List.getElem_cons_succ, List.getElem_cons_zero, Act.put, List.setIfInBounds_toArray, List.set_cons_zero, List.set_cons_succ]
          refine but_take (f := 16) (i := 9) (v := undef) rfl (by kernel_rfl) (by kernel_rfl) (by kernel_rfl) (by kernel_rfl) (by kernel_rfl) (fun _ _ _ h => h) (Or.inr ⟨((wanted_at rfl rfl rfl rfl).trans rfl), rfl⟩) (Below.refl _ _) ?_
          simp only [List.getElem_toArray, List.getElem_cons_succ, List.getElem_cons_zero, Act.put, List.setIfInBounds_toArray, List.set_cons_zero, List.set_cons_succ]
          refine but_take (f := 16) (i := 10) (v := undef) rfl (by kernel_rfl) (by kernel_rfl) (by kernel_rfl) (by kernel_rfl) (by kernel_rfl) (fun _ _ _ h => h) (Or.inr ⟨((wanted_at rfl rfl rfl rfl).trans rfl), rfl⟩) (Below.refl _ _) ?_
          simp only [List.getElem_toArray, List.getElem_cons_succ, List.getElem_cons_zero, Act.put, List.setIfInBounds_toArray, List.set_cons_zero, List.set_cons_succ]
          refine but_take (f := 16) (i := 11) (v := undef) rfl (by kernel_rfl) (by kernel_rfl) (by kernel_rfl) (by kernel_rfl) (by kernel_rfl) (fun _ _ _ h => h) (Or.inr ⟨((wanted_at rfl rfl rfl rfl).trans rfl), rfl⟩) (Below.refl _ _) ?_
          simp only [List.getElem_toArray, List.getElem_cons_succ, List.getElem_cons_zero, Act.put, List.setIfInBounds_toArray, List.set_cons_zero, List.set_cons_succ]
          refine but_take (f := 16) (i := 12) (v := undef) rfl (by kernel_rfl) (by kernel_rfl) (by kernel_rfl) (by kernel_rfl) (by kernel_rfl) (fun _ _ _ h => h) (Or.inr ⟨((wanted_at rfl rfl rfl rfl).trans rfl), rfl⟩) (Below.refl _ _) ?_
          simp only [List.getElem_toArray, List.getElem_cons_succ, List.getElem_cons_zero, Act.put, List.setIfInBounds_toArray, List.set_cons_zero, List.set_cons_succ]
          refine but_take (f := 16) (i := 13) (v := undef) rfl (by kernel_rfl) (by kernel_rfl) (by kernel_rfl) (by kernel_rfl) (by kernel_rfl) (fun _ _ _ h => h) (Or.inr ⟨((wanted_at rfl rfl rfl rfl).trans rfl), rfl⟩) (Below.refl _ _) ?_
          simp only [List.getElem_toArray, List.getElem_cons_succ, List.getElem_cons_zero, Act.put, List.setIfInBounds_toArray, List.set_cons_zero, List.set_cons_succ]
          refine but_take (f := 16) (i := 14) (v := undef) rfl (by kernel_rfl) (by kernel_rfl) (by kernel_rfl) (by kernel_rfl) (by kernel_rfl) (fun _ _ _ h => h) (Or.inr ⟨((wanted_at rfl rfl rfl rfl).trans rfl), rfl⟩) (Below.refl _ _) ?_
          simp only [List.getElem_toArray, List.getElem_cons_succ, List.getElem_cons_zero, Act.put, List.setIfInBounds_toArray, List.set_cons_zero, List.set_cons_succ]
          refine but_take (f := 16) (i := 15) (v := undef) rfl (by kernel_rfl) (by kernel_rfl) (by kernel_rfl) (by kernel_rfl) (by kernel_rfl) (fun _ _ _ h => h) (Or.inr ⟨((wanted_at rfl rfl rfl rfl).trans rfl), rfl⟩) (Below.refl _ _) ?_
          simp only [List.getElem_toArray, List.getElem_cons_succ, List.getElem_cons_zero, Act.put, List.setIfInBounds_toArray, List.set_cons_zero, List.set_cons_succ]
          refine but_run (i := 16) (by kernel_rfl) rfl (by rfl) ?_
          simp only [List.getElem_toArray, List.getElem_cons_succ, List.getElem_cons_zero]
          intro K HK
          go_wp2_with fail
          refine HK.out _ wa.drew (fun h => absurd rfl h) ?_
          clear HK
          refine but_done (by kernel_rfl) ?_
          go_wp2_with fail
          go_ret
          exact ⟨ret_boolB (by rw [← HR.out]; exact (fit_miss hlt HF.out).symm), bstep BA.out (bstep (Below.drew1 _) (Below.refl _ _))⟩
        · by_cases p2 : 60 < (l[k]).a
          · have HF : Hid (fitG l k = false) := Lib.hid (by rw [hfit, show idG (l[k]).a = false by simp [idG]; omega]; rfl)
            have d1 : decide ((l[k]).a < 1) = false := decide_eq_false p1
            have d2 : decide (60 < (l[k]).a) = true := decide_eq_true p2
            clear p1 p2 hfit
            refine but_begin (f := 16) (S := fun V => Below wa.drew.heap.size wa.drew V) (by kernel_rfl) ?_
            refine but_take (f := 16) (i := 0) (v := ?vib0) rfl (by kernel_rfl) (by kernel_rfl) (by kernel_rfl) (by kernel_rfl) (by kernel_rfl) (fun _ _ _ h => h) (Or.inl ⟨(by rfl), ?hyib0⟩) (Below.refl _ _) ?restib0
            case hyib0 =>
              intro W hW
              go_simp
              exact rfl
            simp only [List.getElem_toArray, List.getElem_cons_succ, List.getElem_cons_zero, Act.put, List.setIfInBounds_toArray, List.set_cons_zero, List.set_cons_succ]
            refine but_take (f := 16) (i := 1) (v := ?vib1) rfl (by kernel_rfl) (by kernel_rfl) (by kernel_rfl) (by kernel_rfl) (by kernel_rfl) (fun _ _ _ h => h) (Or.inl ⟨(by rfl), ?hyib1⟩) (Below.refl _ _) ?restib1
            case hyib1 =>
              intro W hW
              have hb0 : Below wa.heap.size wa W := bstep (Below.drew1 _) hW
              obtain ⟨y0, y1, y2⟩ := box2 (box_on QA.out hb0)
              go_simp
              exact rfl
            simp only [List.getElem_toArray, List.getElem_cons_succ, List.getElem_cons_zero, Act.put, List.setIfInBounds_toArray, List.set_cons_zero, List.set_cons_succ]
            refine but_take (f := 16) (i := 2) (v := ?vib2) rfl (by kernel_rfl) (by kernel_rfl) (by kernel_rfl) (by kernel_rfl) (by kernel_rfl) (fun _ _ _ h => h) (Or.inl ⟨(by rfl), ?hyib2⟩) (Below.refl _ _) ?restib2
            case hyib2 =>
              intro W hW
              go_simp
              exact rfl
            simp only [List.getElem_toArray, List.getElem_cons_succ, List.getElem_cons_zero, Act.put, List.setIfInBounds_toArray, List.set_cons_zero, List.set_cons_succ]
            refine but_take (f := 16) (i := 3) (v := ?vib3) rfl (by kernel_rfl) (by kernel_rfl) (by kernel_rfl) (by kernel_rfl) (by kernel_rfl) (fun _ _ _ h => h) (Or.inl ⟨(by rfl), ?hyib3⟩) (Below.refl _ _) ?restib3
            case hyib3 =>
              intro W hW
              go_simp
              exact rfl
            simp only [List.getElem_toArray, List.getElem_cons_succ, List.getElem_cons_zero, Act.put, List.setIfInBounds_toArray, List.set_cons_zero, List.set_cons_succ]
            refine but_take (f := 16) (i := 4) (v := ?vib4) rfl (by kernel_rfl) (by kernel_rfl) (by kernel_rfl) (by kernel_rfl) (by kernel_rfl) (fun _ _ _ h => h) (Or.inl ⟨((wanted_at rfl rfl rfl rfl).trans rfl), ?hyib4⟩) (Below.refl _ _) ?restib4
            case hyib4 =>
              intro W hW
              go_simp
              exact rfl
            simp only [List.getElem_toArray, List.getElem_cons_succ, List.getElem_cons_zero, Act.put, List.setIfInBounds_toArray, List.set_cons_zero, List.set_cons_succ]
            refine but_take (f := 16) (i := 5) (v := ?vib5) rfl (by kernel_rfl) (by kernel_rfl) (by kernel_rfl) (by kernel_rfl) (by kernel_rfl) (fun _ _ _ h => h) (Or.inl ⟨((wanted_at rfl rfl rfl rfl).trans rfl), ?hyib5⟩) (Below.refl _ _) ?restib5
            case hyib5 =>
              intro W hW
              have hb0 : Below wa.heap.size wa W := bstep (Below.drew1 _) hW
              obtain ⟨y0, y1, y2⟩ := box2 (box_on QA.out hb0)
              go_simp
              exact rfl
            simp only [List.getElem_toArray, List.getElem_cons_succ, List.getElem_cons_zero, Act.put, List.setIfInBounds_toArray, List.set_cons_zero, List.set_cons_succ]
            refine but_take (f := 16) (i := 6) (v := ?vib6) rfl (by kernel_rfl) (by kernel_rfl) (by kernel_rfl) (by kernel_rfl) (by kernel_rfl) (fun _ _ _ h => h) (Or.inl ⟨((wanted_at rfl rfl rfl rfl).trans rfl), ?hyib6⟩) (Below.refl _ _) ?restib6
            case hyib6 =>
              intro W hW
              go_simp
              exact rfl
            simp only [List.getElem_toArray, List.getElem_cons_succ, List.getElem_cons_zero, Act.put, List.setIfInBounds_toArray, List.set_cons_zero, List.set_cons_succ]
            refine but_take (f := 16) (i := 7) (v := ?vib7) rfl (by kernel_rfl) (by kernel_rfl) (by kernel_rfl) (by kernel_rfl) (by kernel_rfl) (fun _ _ _ h => h) (Or.inl ⟨(by rfl), ?hyib7⟩) (Below.refl _ _) ?restib7
            case hyib7 =>
              intro W hW
              go_simp
              exact rfl
            simp only [List.getElem_toArray, List.getElem_cons_succ, List.getElem_cons_zero, Act.put, List.setIfInBounds_toArray, List.set_cons_zero, List.set_cons_succ]
            refine but_take (f := 16) (i := 8) (v := ?vib8) rfl (by kernel_rfl) (by kernel_rfl) (by kernel_rfl) (by kernel_rfl) (by kernel_rfl) (fun _ _ _ h => h) (Or.inl ⟨(by rfl), ?hyib8⟩) (Below.refl _ _) ?restib8
            case hyib8 =>
              intro W hW
              go_simp
              exact rfl
            simp only [List.getElem_toArray, List.getElem_cons_succ, List.getElem_cons_zero, Act.put, List.setIfInBounds_toArray, List.set_cons_zero, List.set_cons_succ]
            refine but_take (f := 16) (i := 9) (v := undef) rfl (by kernel_rfl) (by kernel_rfl) (by kernel_rfl) (by kernel_rfl) (by kernel_rfl) (fun _ _ _ h => h) (Or.inr ⟨((wanted_at rfl rfl rfl rfl).trans rfl), rfl⟩) (Below.refl _ _) ?_
            simp only [List.getElem_toArray, List.getElem_cons_succ, List.getElem_cons_zero, Act.put, List.setIfInBounds_toArray, List.set_cons_zero, List.set_cons_succ]
            refine but_take (f := 16) (i := 10) (v := undef) rfl (by kernel_rfl) (by kernel_rfl) (by kernel_rfl) (by kernel_rfl) (by kernel_rfl) (fun _ _ _ h => h) (Or.inr ⟨((wanted_at rfl rfl rfl rfl).trans rfl), rfl⟩) (Below.refl _ _) ?_
            simp only [List.getElem_toArray, List.getElem_cons_succ, List.getElem_cons_zero, Act.put, List.setIfInBounds_toArray, List.set_cons_zero, List.set_cons_succ]
            refine but_take (f := 16) (i := 11) (v := undef) rfl (by kernel_rfl) (by kernel_rfl) (by kernel_rfl) (by kernel_rfl) (by kernel_rfl) (fun _ _ _ h => h) (Or.inr ⟨((wanted_at rfl rfl rfl rfl).trans rfl), rfl⟩) (Below.refl _ _) ?_
            simp only [List.getElem_toArray, List.getElem_cons_succ, List.getElem_cons_zero, Act.put, List.setIfInBounds_toArray, List.set_cons_zero, List.set_cons_succ]
            refine but_take (f := 16) (i := 12) (v := undef) rfl (by kernel_rfl) (by kernel_rfl) (by kernel_rfl) (by kernel_rfl) (by kernel_rfl) (fun _ _ _ h => h) (Or.inr ⟨((wanted_at rfl rfl rfl rfl).trans rfl), rfl⟩) (Below.refl _ _) ?_
            simp only [List.getElem_toArray, List.getElem_cons_succ, List.getElem_cons_zero, Act.put, List.setIfInBounds_toArray, List.set_cons_zero, List.set_cons_succ]
            refine but_take (f := 16) (i := 13) (v := undef) rfl (by kernel_rfl) (by kernel_rfl) (by kernel_rfl) (by kernel_rfl) (by kernel_rfl) (fun _ _ _ h => h) (Or.inr ⟨((wanted_at rfl rfl rfl rfl).trans rfl), rfl⟩) (Below.refl _ _) ?_
            simp only [List.getElem_toArray, List.getElem_cons_succ, List.getElem_cons_zero, Act.put, List.setIfInBounds_toArray, List.set_cons_zero, List.set_cons_succ]
            refine but_take (f := 16) (i := 14) (v := undef) rfl (by kernel_rfl) (by kernel_rfl) (by kernel_rfl) (by kernel_rfl) (by kernel_rfl) (fun _ _ _ h => h) (Or.inr ⟨((wanted_at rfl rfl rfl rfl).trans rfl), rfl⟩) (Below.refl _ _) ?_
            simp only [List.getElem_toArray, List.getElem_cons_succ, List.getElem_cons_zero, Act.put, List.setIfInBounds_toArray, List.set_cons_zero, List.set_cons_succ]
            refine but_take (f := 16) (i := 15) (v := undef) rfl (by kernel_rfl) (by kernel_rfl) (by kernel_rfl) (by kernel_rfl) (by kernel_rfl) (fun _ _ _ h => h) (Or.inr ⟨((wanted_at rfl rfl rfl rfl).trans rfl), rfl⟩) (Below.refl _ _) ?_
            simp only [List.getElem_toArray, List.getElem_cons_succ, List.getElem_cons_zero, Act.put, List.setIfInBounds_toArray, List.set_cons_zero, List.set_cons_succ]
            refine but_run (i := 16) (by kernel_rfl) rfl (by rfl) ?_
            simp only [List.getElem_toArray, List.getElem_cons_succ, List.getElem_cons_zero]
            intro K HK
            go_wp2_with fail
            refine HK.out _ wa.drew (fun h => absurd rfl h) ?_
            clear HK
            refine but_done (by kernel_rfl) ?_
            go_wp2_with fail
            go_ret
            exact ⟨ret_boolB (by rw [← HR.out]; exact (fit_miss hlt HF.out).symm), bstep BA.out (bstep (Below.drew1 _) (Below.refl _ _))⟩
          · have hid : idG (l[k]).a = true := by simp [idG]; omega
            have d1 : decide ((l[k]).a < 1) = false := decide_eq_false p1
            have d2 : decide (60 < (l[k]).a) = false := decide_eq_false p2
            cases hp : ((l[k]).b == 0 || hasG (l.take k) (l[k]).b)
            · have HP := Lib.hid hp
              have HF : Hid (fitG l k = false) := Lib.hid (by rw [hfit, hid, parGB, hp]; rfl)
              clear p1 p2 hfit hid hp
              refine but_begin (f := 16) (S := fun V => Below wa.drew.heap.size wa.drew V) (by kernel_rfl) ?_
              refine but_take (f := 16) (i := 0) (v := ?vic0) rfl (by kernel_rfl) (by kernel_rfl) (by kernel_rfl) (by kernel_rfl) (by kernel_rfl) (fun _ _ _ h => h) (Or.inl ⟨(by rfl), ?hyic0⟩) (Below.refl _ _) ?restic0
              case hyic0 =>
                intro W hW
                go_simp
                exact rfl
              simp only [List.getElem_toArray, List.getElem_cons_succ, List.getElem_cons_zero, Act.put, List.setIfInBounds_toArray, List.set_cons_zero, List.set_cons_succ]
              refine but_take (f := 16) (i := 1) (v := ?vic1) rfl (by kernel_rfl) (by kernel_rfl) (by kernel_rfl) (by kernel_rfl) (by kernel_rfl) (fun _ _ _ h => h) (Or.inl ⟨(by rfl), ?hyic1⟩) (Below.refl _ _) ?restic1
              case hyic1 =>
                intro W hW
                have hb0 : Below wa.heap.size wa W := bstep (Below.drew1 _) hW
                obtain ⟨y0, y1, y2⟩ := box2 (box_on QA.out hb0)
                go_simp
                exact rfl
              simp only [List.getElem_toArray, List.getElem_cons_succ, List.getElem_cons_zero, Act.put, List.setIfInBounds_toArray, List.set_cons_zero, List.set_cons_succ]
              refine but_take (f := 16) (i := 2) (v := ?vic2) rfl (by kernel_rfl) (by kernel_rfl) (by kernel_rfl) (by kernel_rfl) (by kernel_rfl) (fun _ _ _ h => h) (Or.inl ⟨(by rfl), ?hyic2⟩) (Below.refl _ _) ?restic2
              case hyic2 =>
                intro W hW
                go_simp
                exact rfl
              simp only [List.getElem_toArray, List.getElem_cons_succ, List.getElem_cons_zero, Act.put, List.setIfInBounds_toArray, List.set_cons_zero, List.set_cons_succ]
              refine but_take (f := 16) (i := 3) (v := ?vic3) rfl (by kernel_rfl) (by kernel_rfl) (by kernel_rfl) (by kernel_rfl) (by kernel_rfl) (fun _ _ _ h => h) (Or.inl ⟨(by rfl), ?hyic3⟩) (Below.refl _ _) ?restic3
              case hyic3 =>
                intro W hW
                go_simp
                exact rfl
              simp only [List.getElem_toArray, List.getElem_cons_succ, List.getElem_cons_zero, Act.put, List.setIfInBounds_toArray, List.set_cons_zero, List.set_cons_succ]
              refine but_take (f := 16) (i := 4) (v := ?vic4) rfl (by kernel_rfl) (by kernel_rfl) (by kernel_rfl) (by kernel_rfl) (by kernel_rfl) (fun _ _ _ h => h) (Or.inl ⟨((wanted_at rfl rfl rfl rfl).trans rfl), ?hyic4⟩) (Below.refl _ _) ?restic4
              case hyic4 =>
                intro W hW
                go_simp
                exact rfl
              simp only [List.getElem_toArray, List.getElem_cons_succ, List.getElem_cons_zero, Act.put, List.setIfInBounds_toArray, List.set_cons_zero, List.set_cons_succ]
              refine but_take (f := 16) (i := 5) (v := ?vic5) rfl (by kernel_rfl) (by kernel_rfl) (by kernel_rfl) (by kernel_rfl) (by kernel_rfl) (fun _ _ _ h => h) (Or.inl ⟨((wanted_at rfl rfl rfl rfl).trans rfl), ?hyic5⟩) (Below.refl _ _) ?restic5
              case hyic5 =>
                intro W hW
                have hb0 : Below wa.heap.size wa W := bstep (Below.drew1 _) hW
                obtain ⟨y0, y1, y2⟩ := box2 (box_on QA.out hb0)
                go_simp
                exact rfl
              simp only [List.getElem_toArray, List.getElem_cons_succ, List.getElem_cons_zero, Act.put, List.setIfInBounds_toArray, List.set_cons_zero, List.set_cons_succ]
              refine but_take (f := 16) (i := 6) (v := ?vic6) rfl (by kernel_rfl) (by kernel_rfl) (by kernel_rfl) (by kernel_rfl) (by kernel_rfl) (fun _ _ _ h => h) (Or.inl ⟨((wanted_at rfl rfl rfl rfl).trans rfl), ?hyic6⟩) (Below.refl _ _) ?restic6
              case hyic6 =>
                intro W hW
                go_simp
                exact rfl
              simp only [List.getElem_toArray, List.getElem_cons_succ, List.getElem_cons_zero, Act.put, List.setIfInBounds_toArray, List.set_cons_zero, List.set_cons_succ]
              refine but_take (f := 16) (i := 7) (v := ?vic7) rfl (by kernel_rfl) (by kernel_rfl) (by kernel_rfl) (by kernel_rfl) (by kernel_rfl) (fun _ _ _ h => h) (Or.inl ⟨(by rfl), ?hyic7⟩) (Below.refl _ _) ?restic7
              case hyic7 =>
                intro W hW
                go_simp
                exact rfl
              simp only [List.getElem_toArray, List.getElem_cons_succ, List.getElem_cons_zero, Act.put, List.setIfInBounds_toArray, List.set_cons_zero, List.set_cons_succ]
              refine but_take (f := 16) (i := 8) (v := ?vic8) rfl (by kernel_rfl) (by kernel_rfl) (by kernel_rfl) (by kernel_rfl) (by kernel_rfl) (fun _ _ _ h => h) (Or.inl ⟨(by rfl), ?hyic8⟩) (Below.refl _ _) ?restic8
              case hyic8 =>
                intro W hW
                go_simp
                exact rfl
              simp only [List.getElem_toArray, List.getElem_cons_succ, List.getElem_cons_zero, Act.put, List.setIfInBounds_toArray, List.set_cons_zero, List.set_cons_succ]
              refine but_take (f := 16) (i := 9) (v := ?vic9) rfl (by kernel_rfl) (by kernel_rfl) (by kernel_rfl) (by kernel_rfl) (by kernel_rfl) (fun _ _ _ h => h) (Or.inl ⟨((wanted_at rfl rfl rfl rfl).trans rfl), ?hyic9⟩) (Below.refl _ _) ?restic9
              case hyic9 =>
                intro W hW
                go_simp
                exact rfl
              simp only [List.getElem_toArray, List.getElem_cons_succ, List.getElem_cons_zero, Act.put, List.setIfInBounds_toArray, List.set_cons_zero, List.set_cons_succ]
              refine but_take (f := 16) (i := 10) (v := ?vic10) rfl (by kernel_rfl) (by kernel_rfl) (by kernel_rfl) (by kernel_rfl) (by kernel_rfl) (fun _ _ _ h => h) (Or.inl ⟨((wanted_at rfl rfl rfl rfl).trans rfl), ?hyic10⟩) (Below.refl _ _) ?restic10
              case hyic10 =>
                intro W hW
                go_simp
                exact rfl
              simp only [List.getElem_toArray, List.getElem_cons_succ, List.getElem_cons_zero, Act.put, List.setIfInBounds_toArray, List.set_cons_zero, List.set_cons_succ]
              refine but_take (f := 16) (i := 11) (v := ?vic11) rfl (by kernel_rfl) (by kernel_rfl) (by kernel_rfl) (by kernel_rfl) (by kernel_rfl) (fun _ _ _ h => h) (Or.inl ⟨((wanted_at rfl rfl rfl rfl).trans rfl), ?hyic11⟩) (Below.refl _ _) ?restic11
              case hyic11 =>
                intro W hW
                go_simp
                exact rfl
              simp only [List.getElem_toArray, List.getElem_cons_succ, List.getElem_cons_zero, Act.put, List.setIfInBounds_toArray, List.set_cons_zero, List.set_cons_succ]
              refine but_take (f := 16) (i := 12) (v := ?vic12) rfl (by kernel_rfl) (by kernel_rfl) (by kernel_rfl) (by kernel_rfl) (by kernel_rfl) (fun _ _ _ h => h) (Or.inl ⟨((wanted_at rfl rfl rfl rfl).trans rfl), ?hyic12⟩) (Below.refl _ _) ?restic12
              case hyic12 =>
                intro W hW
                go_simp
                exact rfl
              simp only [List.getElem_toArray, List.getElem_cons_succ, List.getElem_cons_zero, Act.put, List.setIfInBounds_toArray, List.set_cons_zero, List.set_cons_succ]
              refine but_take (f := 16) (i := 13) (v := ?vic13) rfl (by kernel_rfl) (by kernel_rfl) (by kernel_rfl) (by kernel_rfl) (by kernel_rfl) (fun _ _ _ h => h) (Or.inl ⟨((wanted_at rfl rfl rfl rfl).trans rfl), ?hyic13⟩) (Below.refl _ _) ?restic13
              case hyic13 =>
                intro W hW
                have hb0 : Below wa.heap.size wa W := bstep (Below.drew1 _) hW
                obtain ⟨y0, y1, y2⟩ := box2 (box_on QA.out hb0)
                go_simp
                exact rfl
              simp only [List.getElem_toArray, List.getElem_cons_succ, List.getElem_cons_zero, Act.put, List.setIfInBounds_toArray, List.set_cons_zero, List.set_cons_succ]
              refine but_run (i := 14) (by kernel_rfl) rfl ((wanted_at rfl rfl rfl rfl).trans rfl) ?_
              simp only [List.getElem_toArray, List.getElem_cons_succ, List.getElem_cons_zero]
              intro K HK
              go_wp2_with fail
              refine (parentOk_any _ (l.take k) (l[k]).b _ (HTK.out.on (bstep (Below.drew1 _) (Below.refl _ _))) (by simp; omega)).mono ?_
              rintro r Vic1 ⟨rfl, hBic1⟩
              rw [HP.out]
              have hSic1 := bstep (Below.refl _ _) hBic1
              go_wp2_with fail
              refine HK.out _ Vic1 (fun _ => hSic1) ?_
              clear HK
              refine but_take (f := 16) (i := 15) (v := ?vic15) rfl (by kernel_rfl) (by kernel_rfl) (by kernel_rfl) (by kernel_rfl) (by kernel_rfl) (fun _ _ _ h => h) (Or.inl ⟨((wanted_at rfl rfl rfl rfl).trans rfl), ?hyic15⟩) hSic1 ?restic15
              case hyic15 =>
                intro W hW
                go_simp
                exact rfl
              simp only [List.getElem_toArray, List.getElem_cons_succ, List.getElem_cons_zero, Act.put, List.setIfInBounds_toArray, List.set_cons_zero, List.set_cons_succ]
              refine but_run (i := 16) (by kernel_rfl) rfl (by rfl) ?_
              simp only [List.getElem_toArray, List.getElem_cons_succ, List.getElem_cons_zero]
              intro K HK
              go_wp2_with fail
              refine HK.out _ Vic1 (fun h => absurd rfl h) ?_
              clear HK
              refine but_done (by kernel_rfl) ?_
              go_wp2_with fail
              go_ret
              exact ⟨ret_boolB (by rw [← HR.out]; exact (fit_miss hlt HF.out).symm), bstep BA.out (bstep (Below.drew1 _) hSic1)⟩
            · have HP := Lib.hid hp
              have HF : Hid (fitG l k = true) := Lib.hid (by rw [hfit, hid, parGB, hp]; rfl)
              clear p1 p2 hfit hid hp
              refine but_begin (f := 16) (S := fun V => Below wa.drew.heap.size wa.drew V) (by kernel_rfl) ?_
              refine but_take (f := 16) (i := 0) (v := ?vid0) rfl (by kernel_rfl) (by kernel_rfl) (by kernel_rfl) (by kernel_rfl) (by kernel_rfl) (fun _ _ _ h => h) (Or.inl ⟨(by rfl), ?hyid0⟩) (Below.refl _ _) ?restid0
              case hyid0 =>
                intro W hW
                go_simp
                exact rfl
              simp only [List.getElem_toArray, List.getElem_cons_succ, List.getElem_cons_zero, Act.put, List.setIfInBounds_toArray, List.set_cons_zero, List.set_cons_succ]
              refine but_take (f := 16) (i := 1) (v := ?vid1) rfl (by kernel_rfl) (by kernel_rfl) (by kernel_rfl) (by kernel_rfl) (by kernel_rfl) (fun _ _ _ h => h) (Or.inl ⟨(by rfl), ?hyid1⟩) (Below.refl _ _) ?restid1
              case hyid1 =>
                intro W hW
                have hb0 : Below wa.heap.size wa W := bstep (Below.drew1 _) hW
                obtain ⟨y0, y1, y2⟩ := box2 (box_on QA.out hb0)
                go_simp
                exact rfl
              simp only [List.getElem_toArray, List.getElem_cons_succ, List.getElem_cons_zero, Act.put, List.setIfInBounds_toArray, List.set_cons_zero, List.set_cons_succ]
              refine but_take (f := 16) (i := 2) (v := ?vid2) rfl (by kernel_rfl) (by kernel_rfl) (by kernel_rfl) (by kernel_rfl) (by kernel_rfl) (fun _ _ _ h => h) (Or.inl ⟨(by rfl), ?hyid2⟩) (Below.refl _ _) ?restid2
              case hyid2 =>
                intro W hW
                go_simp
                exact rfl
              simp only [List.getElem_toArray, List.getElem_cons_succ, List.getElem_cons_zero, Act.put, List.setIfInBounds_toArray, List.set_cons_zero, List.set_cons_succ]
              refine but_take (f := 16) (i := 3) (v := ?vid3) rfl (by kernel_rfl) (by kernel_rfl) (by kernel_rfl) (by kernel_rfl) (by kernel_rfl) (fun _ _ _ h => h) (Or.inl ⟨(by rfl), ?hyid3⟩) (Below.refl _ _) ?restid3
              case hyid3 =>
                intro W hW
                go_simp
                exact rfl
              simp only [List.getElem_toArray, List.getElem_cons_succ, List.getElem_cons_zero, Act.put, List.setIfInBounds_toArray, List.set_cons_zero, List.set_cons_succ]
              refine but_take (f := 16) (i := 4) (v := ?vid4) rfl (by kernel_rfl) (by kernel_rfl) (by kernel_rfl) (by kernel_rfl) (by kernel_rfl) (fun _ _ _ h => h) (Or.inl ⟨((wanted_at rfl rfl rfl rfl).trans rfl), ?hyid4⟩) (Below.refl _ _) ?restid4
              case hyid4 =>
                intro W hW
                go_simp
                exact rfl
              simp only [List.getElem_toArray, List.getElem_cons_succ, List.getElem_cons_zero, Act.put, List.setIfInBounds_toArray, List.set_cons_zero, List.set_cons_succ]
              refine but_take (f := 16) (i := 5) (v := ?vid5) rfl (by kernel_rfl) (by kernel_rfl) (by kernel_rfl) (by kernel_rfl) (by kernel_rfl) (fun _ _ _ h => h) (Or.inl ⟨((wanted_at rfl rfl rfl rfl).trans rfl), ?hyid5⟩) (Below.refl _ _) ?restid5
              case hyid5 =>
                intro W hW
                have hb0 : Below wa.heap.size wa W := bstep (Below.drew1 _) hW
                obtain ⟨y0, y1, y2⟩ := box2 (box_on QA.out hb0)
                go_simp
                exact rfl
              simp only [List.getElem_toArray, List.getElem_cons_succ, List.getElem_cons_zero, Act.put, List.setIfInBounds_toArray, List.set_cons_zero, List.set_cons_succ]
              refine but_take (f := 16) (i := 6) (v := ?vid6) rfl (by kernel_rfl) (by kernel_rfl) (by kernel_rfl) (by kernel_rfl) (by kernel_rfl) (fun _ _ _ h => h) (Or.inl ⟨((wanted_at rfl rfl rfl rfl).trans rfl), ?hyid6⟩) (Below.refl _ _) ?restid6
              case hyid6 =>
                intro W hW
                go_simp
                exact rfl
              simp only [List.getElem_toArray, List.getElem_cons_succ, List.getElem_cons_zero, Act.put, List.setIfInBounds_toArray, List.set_cons_zero, List.set_cons_succ]
              refine but_take (f := 16) (i := 7) (v := ?vid7) rfl (by kernel_rfl) (by kernel_rfl) (by kernel_rfl) (by kernel_rfl) (by kernel_rfl) (fun _ _ _ h => h) (Or.inl ⟨(by rfl), ?hyid7⟩) (Below.refl _ _) ?restid7
              case hyid7 =>
                intro W hW
                go_simp
                exact rfl
              simp only [List.getElem_toArray, List.getElem_cons_succ, List.getElem_cons_zero, Act.put, List.setIfInBounds_toArray, List.set_cons_zero, List.set_cons_succ]
              refine but_take (f := 16) (i := 8) (v := ?vid8) rfl (by kernel_rfl) (by kernel_rfl) (by kernel_rfl) (by kernel_rfl) (by kernel_rfl) (fun _ _ _ h => h) (Or.inl ⟨(by rfl), ?hyid8⟩) (Below.refl _ _) ?restid8
              case hyid8 =>
                intro W hW
                go_simp
                exact rfl
              simp only [List.getElem_toArray, List.getElem_cons_succ, List.getElem_cons_zero, Act.put, List.setIfInBounds_toArray, List.set_cons_zero, List.set_cons_succ]
              refine but_take (f := 16) (i := 9) (v := ?vid9) rfl (by kernel_rfl) (by kernel_rfl) (by kernel_rfl) (by kernel_rfl) (by kernel_rfl) (fun _ _ _ h => h) (Or.inl ⟨((wanted_at rfl rfl rfl rfl).trans rfl), ?hyid9⟩) (Below.refl _ _) ?restid9
              case hyid9 =>
                intro W hW
                go_simp
                exact rfl
              simp only [List.getElem_toArray, List.getElem_cons_succ, List.getElem_cons_zero, Act.put, List.setIfInBounds_toArray, List.set_cons_zero, List.set_cons_succ]
              refine but_take (f := 16) (i := 10) (v := ?vid10) rfl (by kernel_rfl) (by kernel_rfl) (by kernel_rfl) (by kernel_rfl) (by kernel_rfl) (fun _ _ _ h => h) (Or.inl ⟨((wanted_at rfl rfl rfl rfl).trans rfl), ?hyid10⟩) (Below.refl _ _) ?restid10
              case hyid10 =>
                intro W hW
                go_simp
                exact rfl
              simp only [List.getElem_toArray, List.getElem_cons_succ, List.getElem_cons_zero, Act.put, List.setIfInBounds_toArray, List.set_cons_zero, List.set_cons_succ]
              refine but_take (f := 16) (i := 11) (v := ?vid11) rfl (by kernel_rfl) (by kernel_rfl) (by kernel_rfl) (by kernel_rfl) (by kernel_rfl) (fun _ _ _ h => h) (Or.inl ⟨((wanted_at rfl rfl rfl rfl).trans rfl), ?hyid11⟩) (Below.refl _ _) ?restid11
              case hyid11 =>
                intro W hW
                go_simp
                exact rfl
              simp only [List.getElem_toArray, List.getElem_cons_succ, List.getElem_cons_zero, Act.put, List.setIfInBounds_toArray, List.set_cons_zero, List.set_cons_succ]
              refine but_take (f := 16) (i := 12) (v := ?vid12) rfl (by kernel_rfl) (by kernel_rfl) (by kernel_rfl) (by kernel_rfl) (by kernel_rfl) (fun _ _ _ h => h) (Or.inl ⟨((wanted_at rfl rfl rfl rfl).trans rfl), ?hyid12⟩) (Below.refl _ _) ?restid12
              case hyid12 =>
                intro W hW
                go_simp
                exact rfl
              simp only [List.getElem_toArray, List.getElem_cons_succ, List.getElem_cons_zero, Act.put, List.setIfInBounds_toArray, List.set_cons_zero, List.set_cons_succ]
              refine but_take (f := 16) (i := 13) (v := ?vid13) rfl (by kernel_rfl) (by kernel_rfl) (by kernel_rfl) (by kernel_rfl) (by kernel_rfl) (fun _ _ _ h => h) (Or.inl ⟨((wanted_at rfl rfl rfl rfl).trans rfl), ?hyid13⟩) (Below.refl _ _) ?restid13
              case hyid13 =>
                intro W hW
                have hb0 : Below wa.heap.size wa W := bstep (Below.drew1 _) hW
                obtain ⟨y0, y1, y2⟩ := box2 (box_on QA.out hb0)
                go_simp
                exact rfl
              simp only [List.getElem_toArray, List.getElem_cons_succ, List.getElem_cons_zero, Act.put, List.setIfInBounds_toArray, List.set_cons_zero, List.set_cons_succ]
              refine but_run (i := 14) (by kernel_rfl) rfl ((wanted_at rfl rfl rfl rfl).trans rfl) ?_
              simp only [List.getElem_toArray, List.getElem_cons_succ, List.getElem_cons_zero]
              intro K HK
              go_wp2_with fail
              refine (parentOk_any _ (l.take k) (l[k]).b _ (HTK.out.on (bstep (Below.drew1 _) (Below.refl _ _))) (by simp; omega)).mono ?_
              rintro r Vid1 ⟨rfl, hBid1⟩
              rw [HP.out]
              have hSid1 := bstep (Below.refl _ _) hBid1
              go_wp2_with fail
              refine HK.out _ Vid1 (fun _ => hSid1) ?_
              clear HK
              refine but_take (f := 16) (i := 15) (v := ?vid15) rfl (by kernel_rfl) (by kernel_rfl) (by kernel_rfl) (by kernel_rfl) (by kernel_rfl) (fun _ _ _ h => h) (Or.inl ⟨((wanted_at rfl rfl rfl rfl).trans rfl), ?hyid15⟩) hSid1 ?restid15
              case hyid15 =>
                intro W hW
                go_simp
                exact rfl
              simp only [List.getElem_toArray, List.getElem_cons_succ, List.getElem_cons_zero, Act.put, List.setIfInBounds_toArray, List.set_cons_zero, List.set_cons_succ]
              refine but_run (i := 16) (by kernel_rfl) rfl (by rfl) ?_
              simp only [List.getElem_toArray, List.getElem_cons_succ, List.getElem_cons_zero]
              intro K HK
              go_wp2_with fail
              refine HK.out _ Vid1 (fun h => absurd rfl h) ?_
              clear HK
              refine but_done (by kernel_rfl) ?_
              go_wp2_with fail
              go_roundw
              case rel => exact ⟨k + 1, by omega, by go_num, Lib.hid (fit_step HI.out HF.out), Lib.hid (bstep BA.out (bstep (Below.drew1 _) hSid1))⟩
              case measure => simp [intOf]; omega
      · have hall : decide (∀ i, i < l.length → fitG l i = true) = true := decide_eq_true (fun i hi => HI.out i (by omega))
        have HL := Lib.hid hall
        clear hall
        go_wp2_with fail
        refine (HK.out _).mono ?_
        rintro r w1 ⟨rfl, b1⟩
        have B1 := Lib.hid (HW.out.trans (b1.mono hzr))
        clear b1
        go_wp2_with fail
        refine (HA.out _ (HV.out.on B1.out) hn).mono ?_
        rintro r w2 ⟨rfl, b2⟩
        have B2 := Lib.hid (bstep B1.out b2)
        clear b2
        go_wp2
        go_ret
        refine ⟨ret_boolB ?_, B2.out⟩
        rw [← HR.out, agesOkB, HL.out, decide_eq_true h16]
        simp
  · have d0 : decide ((16 : Int) < (l.length : Int)) = true := decide_eq_true (by omega)
    go_enter Try.func13, Try.ntmps13
    go_wp2
    go_ret
    refine ⟨ret_boolB ?_, Below.refl _ _⟩
    rw [← HR.out, agesOkB, decide_eq_false h16]
    simp
end Go.Proofs.Ytjnecehogebjkaa
