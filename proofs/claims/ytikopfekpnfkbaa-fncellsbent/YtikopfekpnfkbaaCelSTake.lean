/- Contracts for spec.TakeCell and spec.FreeCell. Conditions: at most 2^21 cells. -/
import Derived.Test.YtikopfekpnfkbaaCelTake
namespace Go.Proofs.Ytikopfekpnfkbaa
open Go.RowKit
set_option maxRecDepth 100000
set_option linter.unusedSimpArgs false
set_option linter.unusedVariables false

set_option maxHeartbeats 4000000 in
theorem specTakeCell_any (v : Value) (l : List CelD) (n : Int) (w : World) (hv : Reads w w.heap.size v (celsD l)) (hn : l.length ≤ 2097152) : Calls Try.prog 14 #[v, .int .i64 n] w (NewCeB w (takeK l n) (takeI l n) (takeB l n)) := by
  obtain ⟨A, c, rfl, _, _⟩ := hv.shapeCel
  have HCP := Lib.hid (l9Copy_any _ l w hv hn)
  have HOK := Lib.hid (fun w' (h : Reads w' w'.heap.size (.slice A l.length c) (celsD l)) => specCellsOk_any _ l w' h hn)
  have HWD := Lib.hid l1Word_any
  have HV := Lib.hid hv
  clear hv
  go_enter Try.func14, Try.ntmps14
  go_wp2_with fail
  refine HCP.out.mono ?_
  rintro e w1 ⟨v1, rfl, o1, b1⟩
  have O1 := Lib.hid o1
  have B1 := Lib.hid b1
  have V1 := Lib.hid (HV.out.on b1)
  obtain ⟨A1, c1, rfl, _, _⟩ := o1.shape
  clear o1 b1
  go_wp2
  go_loop [8] (fun i => ∃ k : Nat, k ≤ l.length ∧ i = .int .i64 k ∧ Hid (idleI l = k + idleI (l.drop k))) (fun i => l.length - (intOf i).toNat)
  case atStart => exact ⟨0, Nat.zero_le _, rfl, Lib.hid (by simp)⟩
  case round =>
    obtain ⟨k, hk, rfl, HI⟩ := hrel
    by_cases hlt : k < l.length
    · have i1 : (k : Int) < (l.length : Int) := by omega
      have i2 : (0 : Int) ≤ (k : Int) := by omega
      obtain ⟨q, hq⟩ : ∃ q, celsOkB l = q := ⟨_, rfl⟩
      have HO := Lib.hid hq
      clear hq
      cases q
      · have HNO : Hid (takeB l n = false) := Lib.hid (by unfold takeB; rw [HO.out]; simp)
        go_wp2_with fail
        refine (HOK.out _ V1.out).mono ?_
        rintro e w2 ⟨rfl, rfl⟩
        rw [HO.out]
        go_wp2
        refine bodyPost_ret (v := .tuple #[.slice A1 l.length c1, .int .i64 0, .bool false]) (by simp [results, Try.results14, go_sem]) rfl ?_
        rw [HNO.out, (take_none HNO.out).1, (take_none HNO.out).2]
        exact ⟨_, _, rfl, O1.out.ownR, B1.out⟩
      · obtain ⟨q, hq⟩ : ∃ q, wordB n = q := ⟨_, rfl⟩
        have HW := Lib.hid hq
        clear hq
        cases q
        · have HNO : Hid (takeB l n = false) := Lib.hid (by unfold takeB; rw [HW.out]; simp)
          go_wp2_with fail
          refine (HOK.out _ V1.out).mono ?_
          rintro e w2 ⟨rfl, rfl⟩
          rw [HO.out]
          go_wp2_with fail
          refine (HWD.out n _).mono ?_
          rintro e w2 ⟨rfl, rfl⟩
          rw [HW.out]
          go_wp2
          refine bodyPost_ret (v := .tuple #[.slice A1 l.length c1, .int .i64 0, .bool false]) (by simp [results, Try.results14, go_sem]) rfl ?_
          rw [HNO.out, (take_none HNO.out).1, (take_none HNO.out).2]
          exact ⟨_, _, rfl, O1.out.ownR, B1.out⟩
        · obtain ⟨b, off, rfl, hbb, hc⟩ := V1.out.cels hlt
          obtain ⟨c0, c1', c2⟩ := hc k hlt
          clear hc
          obtain ⟨u, hu⟩ : ∃ u, (l[k]).b = u := ⟨_, rfl⟩
          have HU := Lib.hid hu
          rw [hu] at c1'
          clear hu
          cases u
          · have HK : Hid (idleI l = k) := Lib.hid (idle_hit hlt HU.out HI.out)
            have HT : Hid (takeB l n = true) := Lib.hid (by unfold takeB; rw [HO.out, HW.out, HK.out, decide_eq_true hlt]; rfl)
            have HTK : Hid (takeK l n = l.set k ⟨(l[k]).a, true, n⟩) := Lib.hid (by
              unfold takeK
              rw [if_pos HT.out, takeL_at n (by rw [HK.out]; exact hlt)]
              simp only [HK.out])
            have HTI : Hid (takeI l n = (k : Int)) := Lib.hid (by unfold takeI; rw [if_pos HT.out, HK.out])
            rcases O1.out.owns.rwCel (t := 34) with ⟨_, h⟩ | ⟨g, cap, h, hS, hR, hcap, hmax⟩
            · subst h
              simp at hlt
            · injection h with hA _ hC
              subst hA
              subst hC
              have HR := Lib.hid hR
              obtain ⟨y1, d1⟩ := RwCel.cs hR hlt 1 (by omega)
              obtain ⟨y2, d2⟩ := RwCel.cs hR hlt 2 (by omega)
              have f1 := Rw.frozen hR (k * 3 + 1)
              have f2 := Rw.frozen hR (k * 3 + 2)
              have R6 := Lib.hid (RwCel.set2 hR hlt n)
              have B6 := Lib.hid (bs2 (i := k * 3 + 1) (j := k * 3 + 2) (u1 := .bool true) (u2 := .int .i64 n) B1.out hS)
              clear hR
              go_wp2_with fail
              refine (HOK.out _ V1.out).mono ?_
              rintro e w2 ⟨rfl, rfl⟩
              rw [HO.out]
              go_wp2_with fail
              refine (HWD.out n _).mono ?_
              rintro e w2 ⟨rfl, rfl⟩
              rw [HW.out]
              go_wp2
              refine bodyPost_ret (v := .tuple #[.slice (some ⟨g, 0, none⟩) l.length c1, .int .i64 (k : Int), .bool true]) (by simp [results, Try.results14, go_sem]) rfl ?_
              rw [HT.out, HTI.out, HTK.out]
              have h := R6.out.ownN hS (by rw [List.length_set]; exact hcap) hmax
              rw [List.length_set] at h
              exact ⟨_, _, rfl, h, B6.out⟩
          · go_wp2_with fail
            refine (HOK.out _ V1.out).mono ?_
            rintro e w2 ⟨rfl, rfl⟩
            rw [HO.out]
            go_wp2_with fail
            refine (HWD.out n _).mono ?_
            rintro e w2 ⟨rfl, rfl⟩
            rw [HW.out]
            go_wp2
            go_round
            case rel => exact ⟨k + 1, by omega, by go_num, Lib.hid (idle_step hlt HU.out HI.out)⟩
            case measure => simp [intOf]; omega
    · have HNO : Hid (takeB l n = false) := Lib.hid (by
        unfold takeB
        rw [decide_eq_false (show ¬ idleI l < l.length by rw [HI.out]; omega)]
        simp)
      go_wp2
      refine bodyPost_ret (v := .tuple #[.slice A1 l.length c1, .int .i64 0, .bool false]) (by simp [results, Try.results14, go_sem]) rfl ?_
      rw [HNO.out, (take_none HNO.out).1, (take_none HNO.out).2]
      exact ⟨_, _, rfl, O1.out.ownR, B1.out⟩
set_option maxHeartbeats 4000000 in
theorem specFreeCell_any (v : Value) (l : List CelD) (i : Int) (w : World) (hv : Reads w w.heap.size v (celsD l)) (hn : l.length ≤ 2097152) : Calls Try.prog 26 #[v, .int .i64 i] w (NewCe w (freeK l i)) := by
  obtain ⟨A, c, rfl, _, _⟩ := hv.shapeCel
  have HCP := Lib.hid (l9Copy_any _ l w hv hn)
  have HOK := Lib.hid (fun w' (h : Reads w' w'.heap.size (.slice A l.length c) (celsD l)) => specCellsOk_any _ l w' h hn)
  have HC : Hid (∀ (i : Int) (w : World), Calls Try.prog 48 #[.int .i64 i, .int .i64 0, .int .i64 ((l.length : Int) - 1)] w (SaysB w (hasC l i))) := Lib.hid (fun i w => l1InC_any i 0 ((l.length : Int) - 1) w)
  have HV := Lib.hid hv
  clear hv
  go_enter Try.func26, Try.ntmps26
  go_wp2_with fail
  refine HCP.out.mono ?_
  rintro e w1 ⟨v1, rfl, o1, b1⟩
  have O1 := Lib.hid o1
  have B1 := Lib.hid b1
  have V1 := Lib.hid (HV.out.on b1)
  obtain ⟨A1, c1, rfl, _, _⟩ := o1.shape
  clear o1 b1
  obtain ⟨q, hq⟩ : ∃ q, celsOkB l = q := ⟨_, rfl⟩
  have HO := Lib.hid hq
  clear hq
  cases q
  · have HNO : Hid (freeB l i = false) := Lib.hid (by unfold freeB; rw [HO.out]; simp)
    go_wp2_with fail
    refine (HOK.out _ V1.out).mono ?_
    rintro e w2 ⟨rfl, rfl⟩
    rw [HO.out]
    go_wp2
    go_ret
    rw [free_none HNO.out]
    exact ⟨_, _, rfl, O1.out.ownR, B1.out⟩
  · cases hh : hasC l i
    · have HH := Lib.hid hh
      have HNO : Hid (freeB l i = false) := Lib.hid (by unfold freeB; rw [hh]; simp)
      clear hh
      go_wp2_with fail
      refine (HOK.out _ V1.out).mono ?_
      rintro e w2 ⟨rfl, rfl⟩
      rw [HO.out]
      go_wp2_with fail
      refine (HC.out i _).mono ?_
      rintro e w2 ⟨rfl, rfl⟩
      rw [HH.out]
      go_wp2
      go_ret
      rw [free_none HNO.out]
      exact ⟨_, _, rfl, O1.out.ownR, B1.out⟩
    · have HH := Lib.hid hh
      obtain ⟨k, rfl, hk⟩ := hasC_yes hh
      have i1 : (k : Int) < (l.length : Int) := by omega
      have i2 : (0 : Int) ≤ (k : Int) := by omega
      clear hh
      obtain ⟨u, hu⟩ : ∃ u, (l[k]).b = u := ⟨_, rfl⟩
      have HX := Lib.hid hu
      clear hu
      obtain ⟨b, off, rfl, hbb, hc⟩ := V1.out.cels hk
      obtain ⟨c0, c1', c2⟩ := hc k hk
      rw [HX.out] at c1'
      clear hc
      cases u
      · have HNO : Hid (freeB l (k : Int) = false) := Lib.hid (by unfold freeB; rw [usedC_at hk, HX.out]; simp)
        go_wp2_with fail
        refine (HOK.out _ V1.out).mono ?_
        rintro e w2 ⟨rfl, rfl⟩
        rw [HO.out]
        go_wp2_with fail
        refine (HC.out _ _).mono ?_
        rintro e w2 ⟨rfl, rfl⟩
        rw [HH.out]
        go_wp2
        go_ret
        rw [free_none HNO.out]
        exact ⟨_, _, rfl, O1.out.ownR, B1.out⟩
      · have HYES : Hid (freeB l (k : Int) = true) := Lib.hid (by unfold freeB; rw [usedC_at hk, HX.out, HO.out, HH.out]; rfl)
        have hg := okC_gen (ok_at HO.out hk)
        obtain ⟨g0, g1⟩ := hg
        obtain ⟨y, hy⟩ : ∃ y, ((l[k]).a + 1).tmod 1000 = y := ⟨_, rfl⟩
        have HFK := Lib.hid (free_some hk HYES.out hy)
        have hy2 : ((l[k]).a + 1) % 1000 = y := by rw [← hy, Int.tmod_eq_emod_of_nonneg (by omega)]
        rcases O1.out.owns.rwCel (t := 34) with ⟨_, h⟩ | ⟨g, cap, h, hS, hR, hcap, hmax⟩
        · subst h
          simp at hk
        · injection h with hA _ hC
          subst hA
          subst hC
          have HR := Lib.hid hR
          obtain ⟨y0, d0⟩ := RwCel.cs hR hk 0 (by omega)
          obtain ⟨y1, d1⟩ := RwCel.cs hR hk 1 (by omega)
          obtain ⟨y2, d2⟩ := RwCel.cs hR hk 2 (by omega)
          rw [Nat.add_zero] at d0
          have f0 := Rw.frozen hR (k * 3)
          have f1 := Rw.frozen hR (k * 3 + 1)
          have f2 := Rw.frozen hR (k * 3 + 2)
          have R6 := Lib.hid (RwCel.set hR hk ⟨y, false, 0⟩)
          have B6 := Lib.hid (bsCel (i := k * 3) (u1 := .int .i64 y) (u2 := .bool false) (u3 := .int .i64 0) B1.out hS)
          clear hR
          go_wp2_with fail
          refine (HOK.out _ V1.out).mono ?_
          rintro e w2 ⟨rfl, rfl⟩
          rw [HO.out]
          go_wp2_with fail
          refine (HC.out _ _).mono ?_
          rintro e w2 ⟨rfl, rfl⟩
          rw [HH.out]
          go_wp2
          go_ret
          rw [HFK.out]
          have h := R6.out.ownN hS (by rw [List.length_set]; exact hcap) hmax
          rw [List.length_set] at h
          exact ⟨_, _, rfl, h, B6.out⟩
end Go.Proofs.Ytikopfekpnfkbaa
