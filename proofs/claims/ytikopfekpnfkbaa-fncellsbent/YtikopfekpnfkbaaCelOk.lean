/- Contracts for impl.cellOk, impl.CellsOk and spec.CellsOk. Conditions: at most 2^21 cells. -/
import Derived.Test.YtikopfekpnfkbaaCelFind
namespace Go.Proofs.Ytikopfekpnfkbaa
open Go.RowKit
set_option maxRecDepth 100000
set_option linter.unusedSimpArgs false
set_option linter.unusedVariables false

set_option maxHeartbeats 1000000 in
theorem cellOk_any (x : CelD) (w : World) : Calls Try.prog 47 #[.agg #[.int .i64 x.a, .bool x.b, .int .i64 x.c]] w fun e w' => e = .returned (.bool (okC x)) ∧ Below w.heap.size w w' := by
  have HW := Lib.hid wordOk_any
  have HB := Lib.hid (bal3C w x 34)
  obtain ⟨a, b, c⟩ := x
  unfold okC
  dsimp only at HB ⊢
  by_cases h1 : 0 ≤ a
  · by_cases h2 : a ≤ 999
    · rw [decide_eq_true h1, decide_eq_true h2]
      obtain ⟨q, hq⟩ : ∃ q, wordB c = q := ⟨_, rfl⟩
      rw [hq]
      have HQ := Lib.hid hq
      clear hq
      cases q
      · go_enter Try.func47, Try.ntmps47
        go_wp2_with fail
        refine (HW.out c _).mono ?_
        rintro e w1 ⟨rfl, rfl⟩
        rw [HQ.out]
        go_wp2
        go_ret
        exact ⟨rfl, HB.out⟩
      · cases b
        · cases hc : (c == 0)
          all_goals
            go_enter Try.func47, Try.ntmps47
            go_wp2_with fail
            refine (HW.out c _).mono ?_
            rintro e w1 ⟨rfl, rfl⟩
            rw [HQ.out]
            go_wp2
            go_ret
            exact ⟨rfl, HB.out⟩
        · go_enter Try.func47, Try.ntmps47
          go_wp2_with fail
          refine (HW.out c _).mono ?_
          rintro e w1 ⟨rfl, rfl⟩
          rw [HQ.out]
          go_wp2
          go_ret
          exact ⟨rfl, HB.out⟩
    · have h3 : 999 < a := by omega
      rw [decide_eq_true h1, decide_eq_false h2]
      simp only [Bool.and_false, Bool.false_and]
      go_enter Try.func47, Try.ntmps47
      go_wp2
      go_ret
      exact ⟨rfl, HB.out⟩
  · have h3 : a < 0 := by omega
    rw [decide_eq_false h1]
    simp only [Bool.false_and]
    go_enter Try.func47, Try.ntmps47
    go_wp2
    go_ret
    exact ⟨rfl, HB.out⟩
theorem cellsOk_all {l : List CelD} (h : l.all okC = true) : celsOkB l = decide (l.length = 24) := by
  unfold celsOkB
  rw [h, Bool.true_and]
theorem cellsOk_miss {l : List CelD} {k : Nat} (h : k < l.length) (hp : okC l[k] = false) : celsOkB l = false := by
  unfold celsOkB
  rw [all_miss h hp, Bool.false_and]
set_option maxHeartbeats 1000000 in
theorem implCellsOk_any (v : Value) (l : List CelD) (w : World) (hv : Reads w w.heap.size v (celsD l)) (hn : l.length ≤ 2097152) : Calls Try.prog 18 #[v] w fun e w' => e = .returned (.bool (celsOkB l)) ∧ Below w.heap.size w w' := by
  obtain ⟨A, c, rfl, _, _⟩ := hv.shapeCel
  have HV := Lib.hid hv
  have HK := Lib.hid cellOk_any
  obtain ⟨R, hR⟩ : ∃ R, celsOkB l = R := ⟨_, rfl⟩
  rw [hR]
  have HR := Lib.hid hR
  clear hv hR
  by_cases hl : l.length = 24
  · have hl2 : ((l.length : Int) != 24) = false := by rw [hl]; rfl
    have HL := Lib.hid hl
    clear hl
    go_enter Try.func18, Try.ntmps18
    go_wp2
    clear hl2
    go_loopw [4, 10] (fun _ i wr => ∃ k : Nat, k ≤ l.length ∧ i = .int .i64 k ∧ Hid ((l.take k).all okC = true) ∧ Hid (Below w.heap.size w wr)) (fun _ i _ => l.length - (intOf i).toNat)
    case atStart => exact ⟨0, Nat.zero_le _, rfl, Lib.hid (by simp), Lib.hid (Below.refl _ _)⟩
    case round =>
      obtain ⟨k, hk, rfl, HI, HW⟩ := hrel
      by_cases hlt : k < l.length
      · obtain ⟨b, off, rfl, hbb, hc⟩ := (HV.out.on HW.out).cels hlt
        have i1 : (k : Int) < (l.length : Int) := by omega
        have i2 : (0 : Int) ≤ (k : Int) := by omega
        obtain ⟨c0, c1, c2⟩ := hc k hlt
        have BA := Lib.hid (HW.out.trans ((bal3C wr l[k] 34).mono HW.out.size))
        clear hc
        cases hs : okC l[k]
        all_goals
          have HS := Lib.hid hs
          clear hs
          go_wp2_with fail
          refine (HK.out l[k] _).mono ?_
          rintro e w1 ⟨rfl, b1⟩
          rw [HS.out]
          have B1 := Lib.hid (bstep BA.out b1)
          clear b1 c0 c1 c2
          go_wp2
        · go_ret
          exact ⟨by rw [← HR.out, cellsOk_miss hlt HS.out]; rfl, B1.out⟩
        · go_roundw
          case rel => exact ⟨k + 1, by omega, by go_num, Lib.hid (all_take hlt HS.out HI.out), B1⟩
          case measure => simp [intOf]; omega
      · have e : k = l.length := by omega
        subst e
        have HRT : Hid (R = true) := Lib.hid (by
          have h := HI.out
          rw [List.take_length] at h
          rw [← HR.out, cellsOk_all h, decide_eq_true HL.out])
        clear HI
        go_wp2
        go_ret
        exact ⟨by rw [HRT.out]; rfl, HW.out⟩
  · have hl2 : ((l.length : Int) != 24) = true := by simpa using (show ¬ (l.length : Int) = 24 by omega)
    have HRT : Hid (R = false) := Lib.hid (by
      rw [← HR.out]
      unfold celsOkB
      rw [decide_eq_false hl, Bool.and_false])
    clear hl
    go_enter Try.func18, Try.ntmps18
    go_wp2
    go_ret
    exact ⟨by rw [HRT.out]; rfl, Below.refl _ _⟩
theorem okC_parts (x : CelD) {q1 q2 q3 : Bool} (h1 : (decide (0 ≤ x.a) && decide (x.a ≤ 999)) = q1) (h2 : wordB x.c = q2) (h3 : (x.b || x.c == 0) = q3) : okC x = (q1 && q2 && q3) := by
  unfold okC
  rw [h1, h2, h3]
set_option maxHeartbeats 4000000 in
theorem specCellsOk_any (v : Value) (l : List CelD) (w : World) (hv : Reads w w.heap.size v (celsD l)) (hn : l.length ≤ 2097152) : Calls Try.prog 25 #[v] w fun e w' => e = .returned (.bool (celsOkB l)) ∧ w = w' := by
  obtain ⟨A, c, rfl, _, _⟩ := hv.shapeCel
  have HV := Lib.hid hv
  have HG : Hid (∀ (a : Int) (w : World), Calls Try.prog 48 #[.int .i64 a, .int .i64 0, .int .i64 999] w (SaysB w (decide (0 ≤ a) && decide (a ≤ 999)))) := Lib.hid (fun a w => l1InC_any a 0 999 w)
  have HWD := Lib.hid l1Word_any
  obtain ⟨R, hR⟩ : ∃ R, celsOkB l = R := ⟨_, rfl⟩
  rw [hR]
  have HR := Lib.hid hR
  clear hv hR
  go_enter Try.func25, Try.ntmps25
  go_wp2
  go_loop [3] (fun i => ∃ k : Nat, k ≤ l.length ∧ i = .int .i64 k ∧ Hid ((l.take k).all okC = true)) (fun i => l.length - (intOf i).toNat)
  case atStart => exact ⟨0, Nat.zero_le _, rfl, Lib.hid (by simp)⟩
  case round =>
    obtain ⟨k, hk, rfl, HI⟩ := hrel
    by_cases hlt : k < l.length
    · obtain ⟨b, off, rfl, hbb, hc⟩ := HV.out.cels hlt
      have i1 : (k : Int) < (l.length : Int) := by omega
      have i2 : (0 : Int) ≤ (k : Int) := by omega
      obtain ⟨c0, c1, c2⟩ := hc k hlt
      clear hc
      obtain ⟨q1, hq1⟩ : ∃ q, (decide (0 ≤ (l[k]).a) && decide ((l[k]).a ≤ 999)) = q := ⟨_, rfl⟩
      obtain ⟨q2, hq2⟩ : ∃ q, wordB (l[k]).c = q := ⟨_, rfl⟩
      have HP := fun q3 (h : ((l[k]).b || (l[k]).c == 0) = q3) => okC_parts l[k] hq1 hq2 h
      have HQ1 := Lib.hid hq1
      have HQ2 := Lib.hid hq2
      clear hq1 hq2
      cases q1
      · have HS : Hid (okC l[k] = false) := Lib.hid (by rw [HP _ rfl]; simp)
        clear HP
        go_wp2_with fail
        refine (HG.out (l[k]).a _).mono ?_
        rintro e w1 ⟨rfl, rfl⟩
        rw [HQ1.out]
        go_wp2
        go_ret
        exact ⟨by rw [← HR.out, cellsOk_miss hlt HS.out]; rfl, rfl⟩
      · cases q2
        · have HS : Hid (okC l[k] = false) := Lib.hid (by rw [HP _ rfl]; simp)
          clear HP
          go_wp2_with fail
          refine (HG.out (l[k]).a _).mono ?_
          rintro e w1 ⟨rfl, rfl⟩
          rw [HQ1.out]
          go_wp2_with fail
          refine (HWD.out (l[k]).c _).mono ?_
          rintro e w1 ⟨rfl, rfl⟩
          rw [HQ2.out]
          go_wp2
          go_ret
          exact ⟨by rw [← HR.out, cellsOk_miss hlt HS.out]; rfl, rfl⟩
        · cases hb : (l[k]).b
          · cases hc : ((l[k]).c != 0)
            · have HS : Hid (okC l[k] = true) := Lib.hid (by
                have h0 : ((l[k]).c == 0) = true := by simpa using hc
                rw [HP true (by rw [h0]; simp)]; rfl)
              rw [hb] at c1
              clear HP hb
              go_wp2_with fail
              refine (HG.out (l[k]).a _).mono ?_
              rintro e w1 ⟨rfl, rfl⟩
              rw [HQ1.out]
              go_wp2_with fail
              refine (HWD.out (l[k]).c _).mono ?_
              rintro e w1 ⟨rfl, rfl⟩
              rw [HQ2.out]
              go_wp2
              go_round
              case rel => exact ⟨k + 1, by omega, by go_num, Lib.hid (all_take hlt HS.out HI.out)⟩
              case measure => simp [intOf]; omega
            · have HS : Hid (okC l[k] = false) := Lib.hid (by
                have h0 : ((l[k]).c == 0) = false := by simpa using hc
                rw [HP false (by rw [h0, hb]; rfl)]; rfl)
              rw [hb] at c1
              clear HP hb
              go_wp2_with fail
              refine (HG.out (l[k]).a _).mono ?_
              rintro e w1 ⟨rfl, rfl⟩
              rw [HQ1.out]
              go_wp2_with fail
              refine (HWD.out (l[k]).c _).mono ?_
              rintro e w1 ⟨rfl, rfl⟩
              rw [HQ2.out]
              go_wp2
              go_ret
              exact ⟨by rw [← HR.out, cellsOk_miss hlt HS.out]; rfl, rfl⟩
          · have HS : Hid (okC l[k] = true) := Lib.hid (by rw [HP true (by rw [hb]; rfl)]; rfl)
            rw [hb] at c1
            clear HP hb
            go_wp2_with fail
            refine (HG.out (l[k]).a _).mono ?_
            rintro e w1 ⟨rfl, rfl⟩
            rw [HQ1.out]
            go_wp2_with fail
            refine (HWD.out (l[k]).c _).mono ?_
            rintro e w1 ⟨rfl, rfl⟩
            rw [HQ2.out]
            go_wp2
            go_round
            case rel => exact ⟨k + 1, by omega, by go_num, Lib.hid (all_take hlt HS.out HI.out)⟩
            case measure => simp [intOf]; omega
    · have e : k = l.length := by omega
      subst e
      have HRT : Hid (R = decide (l.length = 24)) := Lib.hid (by
        have h := HI.out
        rw [List.take_length] at h
        rw [← HR.out, cellsOk_all h])
      have hd : ((l.length : Int) == 24) = decide (l.length = 24) := by
        by_cases h : l.length = 24
        · rw [h]; rfl
        · rw [decide_eq_false h]
          simpa using (show ¬ (l.length : Int) = 24 by omega)
      generalize decide (l.length = 24) = D at *
      clear HI
      go_wp2
      go_ret
      exact ⟨by rw [HRT.out]; rfl, rfl⟩
end Go.Proofs.Ytikopfekpnfkbaa
