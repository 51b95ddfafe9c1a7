/- Contracts for impl.textsOk, impl.OpOk and spec.OpOk; the walk of FnExactOpOk: at every operation the call returns true and writes nothing that was there. No condition. -/
import Derived.Test.YtcimpcocgmlmoaaOpOk
import Derived.Deep.DeepCutAuto
namespace Go.Proofs.Ytcimpcocgmlmoaa
open Go.RowKit
set_option maxRecDepth 100000
set_option linter.unusedSimpArgs false
set_option linter.unusedVariables false

theorem textsOk_any (o : OpD) (w : World) (hn : o.n.size ≤ maxLen) (ht : o.t.size ≤ maxLen) : Calls Try.prog 38 #[.agg #[.int .i64 o.a, .string o.n, .string o.t, .int .i64 o.p, .int .i64 o.q]] w (SaysBool w (textB o.n (decide (o.a ≤ 6)) && textB o.t (o.a == 2))) := by
  have HB := Lib.hid (bal1 w (.cells #[.int .i64 o.a, .string o.n, .string o.t, .int .i64 o.p, .int .i64 o.q] 26))
  have Q0 := Lib.hid (al1 w (.cells #[.int .i64 o.a, .string o.n, .string o.t, .int .i64 o.p, .int .i64 o.q] 26))
  have H1 := Lib.hid (fun W => nameOrNone_any o.n (decide (o.a ≤ 6)) W hn)
  have H2 := Lib.hid (fun W => nameOrNone_any o.t (o.a == 2) W ht)
  obtain ⟨x, hx⟩ : ∃ x, textB o.n (decide (o.a ≤ 6)) = x := ⟨_, rfl⟩
  obtain ⟨y, hy⟩ : ∃ y, textB o.t (o.a == 2) = y := ⟨_, rfl⟩
  rw [hx] at H1 ⊢
  rw [hy] at H2 ⊢
  clear hx hy hn ht
  go_enter Try.func38, Try.ntmps38
  go_upto_region 1 with (fail)
  generalize w.alloc (.cells #[.int .i64 o.a, .string o.n, .string o.t, .int .i64 o.p, .int .i64 o.q] 26) = W at *
  obtain ⟨x0, x1, x2, x3, x4, x5⟩ := box5 Q0.out
  go_wp2_with fail
  refine (H1.out _).mono ?_
  rintro e _ ⟨rfl, rfl⟩
  cases x
  · go_wp2
    go_ret
    exact ⟨rfl, HB.out⟩
  · go_wp2_with fail
    refine (H2.out _).mono ?_
    rintro e _ ⟨rfl, rfl⟩
    cases y
    all_goals
      go_wp2
      go_ret
      exact ⟨rfl, HB.out⟩
set_option maxHeartbeats 1000000 in
theorem implOpOk_any (o : OpD) (w : World) (hn : o.n.size ≤ maxLen) (ht : o.t.size ≤ maxLen) : Calls Try.prog 14 #[.agg #[.int .i64 o.a, .string o.n, .string o.t, .int .i64 o.p, .int .i64 o.q]] w (SaysBool w (opOkB o)) := by
  have HB := Lib.hid (bal1 w (.cells #[.int .i64 o.a, .string o.n, .string o.t, .int .i64 o.p, .int .i64 o.q] 26))
  have Q0 := Lib.hid (al1 w (.cells #[.int .i64 o.a, .string o.n, .string o.t, .int .i64 o.p, .int .i64 o.q] 26))
  have HT := Lib.hid (fun W => textsOk_any o W hn ht)
  have HP := Lib.hid (implWordOk_any o.p)
  have HQ := Lib.hid (implWordOk_any o.q)
  have HZ := Lib.hid (numbersOk_any o)
  obtain ⟨R, hR⟩ : ∃ R, opOkB o = R := ⟨_, rfl⟩
  rw [hR]
  unfold opOkB at hR
  obtain ⟨xt, hxt⟩ : ∃ x, (textB o.n (decide (o.a ≤ 6)) && textB o.t (o.a == 2)) = x := ⟨_, rfl⟩
  obtain ⟨xp, hxp⟩ : ∃ x, wordN o.p = x := ⟨_, rfl⟩
  obtain ⟨xq, hxq⟩ : ∃ x, wordN o.q = x := ⟨_, rfl⟩
  obtain ⟨xz, hxz⟩ : ∃ x, zeroB o = x := ⟨_, rfl⟩
  rw [hxt] at HT hR
  rw [hxp] at HP hR
  rw [hxq] at HQ hR
  rw [hxz] at HZ hR
  clear hxt hxp hxq hxz hn ht
  by_cases h1 : 1 ≤ o.a
  · have e1 : decide (o.a ≥ 1) = true := decide_eq_true (by omega)
    by_cases h9 : o.a ≤ 9
    · have e9 : decide (o.a ≤ 9) = true := decide_eq_true h9
      rw [decide_eq_true h1, e9, Bool.true_and, Bool.true_and] at hR
      have HX := Lib.hid hR.symm
      clear hR h1 h9
      go_enter Try.func14, Try.ntmps14
      go_upto_region 1 with (fail)
      generalize w.alloc (.cells #[.int .i64 o.a, .string o.n, .string o.t, .int .i64 o.p, .int .i64 o.q] 26) = W at *
      obtain ⟨x0, x1, x2, x3, x4, x5⟩ := box5 Q0.out
      go_wp2_with fail
      refine (HT.out _).mono ?_
      rintro e w3 ⟨rfl, b1⟩
      clear x0 x1 x2 x3 x4 x5
      replace Q0 := Lib.hid (box_on Q0.out b1)
      replace HB := Lib.hid (bstep HB.out b1)
      clear b1
      cases xt
      · have HF : Hid (R = false) := Lib.hid (by rw [HX.out]; simp only [Bool.false_and, Bool.and_false, Bool.true_and, Bool.and_true])
        go_wp2
        go_ret
        exact ⟨by rw [HF.out]; rfl, HB.out⟩
      · skip
        obtain ⟨x0, x1, x2, x3, x4, x5⟩ := box5 Q0.out
        go_wp2_with fail
        refine (HP.out _).mono ?_
        rintro e _ ⟨rfl, rfl⟩
        clear x0 x1 x2 x3 x4 x5
        cases xp
        · have HF : Hid (R = false) := Lib.hid (by rw [HX.out]; simp only [Bool.false_and, Bool.and_false, Bool.true_and, Bool.and_true])
          go_wp2
          go_ret
          exact ⟨by rw [HF.out]; rfl, HB.out⟩
        · skip
          obtain ⟨x0, x1, x2, x3, x4, x5⟩ := box5 Q0.out
          go_wp2_with fail
          refine (HQ.out _).mono ?_
          rintro e _ ⟨rfl, rfl⟩
          clear x0 x1 x2 x3 x4 x5
          cases xq
          · have HF : Hid (R = false) := Lib.hid (by rw [HX.out]; simp only [Bool.false_and, Bool.and_false, Bool.true_and, Bool.and_true])
            go_wp2
            go_ret
            exact ⟨by rw [HF.out]; rfl, HB.out⟩
          · skip
            obtain ⟨x0, x1, x2, x3, x4, x5⟩ := box5 Q0.out
            go_wp2_with fail
            refine (HZ.out _).mono ?_
            rintro e w6 ⟨rfl, b1⟩
            clear x0 x1 x2 x3 x4 x5
            replace Q0 := Lib.hid (box_on Q0.out b1)
            replace HB := Lib.hid (bstep HB.out b1)
            clear b1
            cases xz
            · have HF : Hid (R = false) := Lib.hid (by rw [HX.out]; simp only [Bool.false_and, Bool.and_false, Bool.true_and, Bool.and_true])
              go_wp2
              go_ret
              exact ⟨by rw [HF.out]; rfl, HB.out⟩
            · have HF : Hid (R = true) := Lib.hid (by rw [HX.out]; simp only [Bool.false_and, Bool.and_false, Bool.true_and, Bool.and_true])
              go_wp2
              go_ret
              exact ⟨by rw [HF.out]; rfl, HB.out⟩
    · have e9 : decide (o.a ≤ 9) = false := decide_eq_false h9
      rw [e9, Bool.and_false] at hR
      have HX := Lib.hid hR.symm
      clear hR h9
      go_enter Try.func14, Try.ntmps14
      have HF : Hid (R = false) := Lib.hid (by rw [HX.out]; simp only [Bool.false_and, Bool.and_false, Bool.true_and, Bool.and_true])
      go_wp2
      go_ret
      exact ⟨by rw [HF.out]; rfl, HB.out⟩
  · have e1 : decide (o.a ≥ 1) = false := decide_eq_false (by omega)
    rw [decide_eq_false h1, Bool.false_and] at hR
    have HX := Lib.hid hR.symm
    clear hR h1
    go_enter Try.func14, Try.ntmps14
    have HF : Hid (R = false) := Lib.hid (by rw [HX.out]; simp only [Bool.false_and, Bool.and_false, Bool.true_and, Bool.and_true])
    go_wp2
    go_ret
    exact ⟨by rw [HF.out]; rfl, HB.out⟩
theorem textB_yes (s : ByteArray) : textB s true = nameOkB s := rfl
theorem textB_no (s : ByteArray) : textB s false = s.toList.isEmpty := rfl
set_option maxHeartbeats 2000000 in
theorem specOpOk_any (o : OpD) (w : World) (hn : o.n.size ≤ maxLen) (ht : o.t.size ≤ maxLen) : Calls Try.prog 12 #[.agg #[.int .i64 o.a, .string o.n, .string o.t, .int .i64 o.p, .int .i64 o.q]] w (SaysBool w (opOkB o)) := by
  have HB := Lib.hid (bal1 w (.cells #[.int .i64 o.a, .string o.n, .string o.t, .int .i64 o.p, .int .i64 o.q] 26))
  have Q0 := Lib.hid (al1 w (.cells #[.int .i64 o.a, .string o.n, .string o.t, .int .i64 o.p, .int .i64 o.q] 26))
  have HN := Lib.hid (fun W => specNameOk_any o.n W hn)
  have HT := Lib.hid (fun W => specNameOk_any o.t W ht)
  have HI := Lib.hid (l1InO_any o.a 1 9)
  have HP := Lib.hid (specWordOk_any o.p)
  have HQ := Lib.hid (specWordOk_any o.q)
  have HZ := Lib.hid (l15Zero_any o)
  have HW : Hid (wordN o.q = true → 0 ≤ o.q) := Lib.hid (fun h => by unfold wordN at h; simp at h; exact h.1)
  obtain ⟨R, hR⟩ : ∃ R, opOkB o = R := ⟨_, rfl⟩
  rw [hR]
  unfold opOkB at hR
  obtain ⟨xi, hxi⟩ : ∃ x, (decide (1 ≤ o.a) && decide (o.a ≤ 9)) = x := ⟨_, rfl⟩
  obtain ⟨xp, hxp⟩ : ∃ x, wordN o.p = x := ⟨_, rfl⟩
  obtain ⟨xq, hxq⟩ : ∃ x, wordN o.q = x := ⟨_, rfl⟩
  obtain ⟨xz, hxz⟩ : ∃ x, zeroB o = x := ⟨_, rfl⟩
  obtain ⟨x1, hx1⟩ : ∃ x, nameOkB o.n = x := ⟨_, rfl⟩
  obtain ⟨x2, hx2⟩ : ∃ x, nameOkB o.t = x := ⟨_, rfl⟩
  obtain ⟨y1, hy1⟩ : ∃ x, o.n.toList.isEmpty = x := ⟨_, rfl⟩
  obtain ⟨y2, hy2⟩ : ∃ x, o.t.toList.isEmpty = x := ⟨_, rfl⟩
  rw [hxi] at HI hR
  rw [hxp] at HP hR
  rw [hxq] at HQ hR HW
  rw [hxz] at HZ hR
  rw [hx1] at HN
  rw [hx2] at HT
  clear hxi hxp hxq hxz hn ht
  by_cases h7 : 7 ≤ o.a
  · have e7 : decide (o.a ≥ 7) = true := decide_eq_true (by omega)
    have e2 : (o.a == 2) = false := by simp; omega
    rw [show decide (o.a ≤ 6) = false from decide_eq_false (by omega), e2, textB_no, textB_no, hy1, hy2] at hR
    clear h7
    have HX := Lib.hid hR.symm
    clear hR hx1 hx2
    go_enter Try.func12, Try.ntmps12
    go_upto_region 1 with (fail)
    generalize w.alloc (.cells #[.int .i64 o.a, .string o.n, .string o.t, .int .i64 o.p, .int .i64 o.q] 26) = W at *
    obtain ⟨z0, z1, z2, z3, z4, z5⟩ := box5 Q0.out
    go_wp2_with fail
    refine (HN.out _).mono ?_
    rintro e _ ⟨rfl, rfl⟩
    go_wp2_with fail
    refine (HI.out _).mono ?_
    rintro e _ ⟨rfl, rfl⟩
    cases xi
    · have HF : Hid (R = false) := Lib.hid (by rw [HX.out]; simp only [Bool.false_and, Bool.and_false, Bool.true_and, Bool.and_true])
      go_wp2
      go_ret
      exact ⟨by rw [HF.out]; rfl, HB.out⟩
    · cases y1
      · have HF : Hid (R = false) := Lib.hid (by rw [HX.out]; simp only [Bool.false_and, Bool.and_false, Bool.true_and, Bool.and_true])
        go_wp2
        go_ret
        exact ⟨by rw [HF.out]; rfl, HB.out⟩
      · cases y2
        · have HF : Hid (R = false) := Lib.hid (by rw [HX.out]; simp only [Bool.false_and, Bool.and_false, Bool.true_and, Bool.and_true])
          go_wp2
          go_ret
          exact ⟨by rw [HF.out]; rfl, HB.out⟩
        · go_wp2_with fail
          refine (HP.out _).mono ?_
          rintro e _ ⟨rfl, rfl⟩
          cases xp
          · have HF : Hid (R = false) := Lib.hid (by rw [HX.out]; simp only [Bool.false_and, Bool.and_false, Bool.true_and, Bool.and_true])
            go_wp2
            go_ret
            exact ⟨by rw [HF.out]; rfl, HB.out⟩
          · go_wp2_with fail
            refine (HQ.out _).mono ?_
            rintro e _ ⟨rfl, rfl⟩
            cases xq
            · have HF : Hid (R = false) := Lib.hid (by rw [HX.out]; simp only [Bool.false_and, Bool.and_false, Bool.true_and, Bool.and_true])
              go_wp2
              go_ret
              exact ⟨by rw [HF.out]; rfl, HB.out⟩
            · go_wp2_with fail
              refine (HZ.out _ (HW.out (by trivial))).mono ?_
              rintro e w9 ⟨rfl, b1⟩
              replace HB := Lib.hid (bstep HB.out b1)
              clear b1 z0 z1 z2 z3 z4 z5
              cases xz
              · have HF : Hid (R = false) := Lib.hid (by rw [HX.out]; simp only [Bool.false_and, Bool.and_false, Bool.true_and, Bool.and_true])
                go_wp2
                go_ret
                exact ⟨by rw [HF.out]; rfl, HB.out⟩
              · have HF : Hid (R = true) := Lib.hid (by rw [HX.out]; simp only [Bool.false_and, Bool.and_false, Bool.true_and, Bool.and_true])
                go_wp2
                go_ret
                exact ⟨by rw [HF.out]; rfl, HB.out⟩
  · have e7 : decide (o.a ≥ 7) = false := decide_eq_false (by omega)
    have e6 : decide (o.a ≤ 6) = true := decide_eq_true (by omega)
    by_cases h2 : o.a = 2
    · have e2 : (o.a == 2) = true := by simp [h2]
      rw [e6, e2, textB_yes, textB_yes, hx1, hx2] at hR
      clear h7 h2 e6
      have HX := Lib.hid hR.symm
      clear hR hx1 hx2
      go_enter Try.func12, Try.ntmps12
      go_upto_region 1 with (fail)
      generalize w.alloc (.cells #[.int .i64 o.a, .string o.n, .string o.t, .int .i64 o.p, .int .i64 o.q] 26) = W at *
      obtain ⟨z0, z1, z2, z3, z4, z5⟩ := box5 Q0.out
      go_wp2_with fail
      refine (HN.out _).mono ?_
      rintro e _ ⟨rfl, rfl⟩
      go_wp2_with fail
      refine (HT.out _).mono ?_
      rintro e _ ⟨rfl, rfl⟩
      go_wp2_with fail
      refine (HI.out _).mono ?_
      rintro e _ ⟨rfl, rfl⟩
      cases xi
      · have HF : Hid (R = false) := Lib.hid (by rw [HX.out]; simp only [Bool.false_and, Bool.and_false, Bool.true_and, Bool.and_true])
        go_wp2
        go_ret
        exact ⟨by rw [HF.out]; rfl, HB.out⟩
      · cases x1
        · have HF : Hid (R = false) := Lib.hid (by rw [HX.out]; simp only [Bool.false_and, Bool.and_false, Bool.true_and, Bool.and_true])
          go_wp2
          go_ret
          exact ⟨by rw [HF.out]; rfl, HB.out⟩
        · cases x2
          · have HF : Hid (R = false) := Lib.hid (by rw [HX.out]; simp only [Bool.false_and, Bool.and_false, Bool.true_and, Bool.and_true])
            go_wp2
            go_ret
            exact ⟨by rw [HF.out]; rfl, HB.out⟩
          · go_wp2_with fail
            refine (HP.out _).mono ?_
            rintro e _ ⟨rfl, rfl⟩
            cases xp
            · have HF : Hid (R = false) := Lib.hid (by rw [HX.out]; simp only [Bool.false_and, Bool.and_false, Bool.true_and, Bool.and_true])
              go_wp2
              go_ret
              exact ⟨by rw [HF.out]; rfl, HB.out⟩
            · go_wp2_with fail
              refine (HQ.out _).mono ?_
              rintro e _ ⟨rfl, rfl⟩
              cases xq
              · have HF : Hid (R = false) := Lib.hid (by rw [HX.out]; simp only [Bool.false_and, Bool.and_false, Bool.true_and, Bool.and_true])
                go_wp2
                go_ret
                exact ⟨by rw [HF.out]; rfl, HB.out⟩
              · go_wp2_with fail
                refine (HZ.out _ (HW.out (by trivial))).mono ?_
                rintro e w9 ⟨rfl, b1⟩
                replace HB := Lib.hid (bstep HB.out b1)
                clear b1 z0 z1 z2 z3 z4 z5
                cases xz
                · have HF : Hid (R = false) := Lib.hid (by rw [HX.out]; simp only [Bool.false_and, Bool.and_false, Bool.true_and, Bool.and_true])
                  go_wp2
                  go_ret
                  exact ⟨by rw [HF.out]; rfl, HB.out⟩
                · have HF : Hid (R = true) := Lib.hid (by rw [HX.out]; simp only [Bool.false_and, Bool.and_false, Bool.true_and, Bool.and_true])
                  go_wp2
                  go_ret
                  exact ⟨by rw [HF.out]; rfl, HB.out⟩
    · have e2 : (o.a == 2) = false := by simp [h2]
      rw [e6, e2, textB_yes, textB_no, hx1, hy2] at hR
      clear h7 h2 e6
      have HX := Lib.hid hR.symm
      clear hR hx1 hx2
      go_enter Try.func12, Try.ntmps12
      go_upto_region 1 with (fail)
      generalize w.alloc (.cells #[.int .i64 o.a, .string o.n, .string o.t, .int .i64 o.p, .int .i64 o.q] 26) = W at *
      obtain ⟨z0, z1, z2, z3, z4, z5⟩ := box5 Q0.out
      go_wp2_with fail
      refine (HN.out _).mono ?_
      rintro e _ ⟨rfl, rfl⟩
      go_wp2_with fail
      refine (HI.out _).mono ?_
      rintro e _ ⟨rfl, rfl⟩
      cases xi
      · have HF : Hid (R = false) := Lib.hid (by rw [HX.out]; simp only [Bool.false_and, Bool.and_false, Bool.true_and, Bool.and_true])
        go_wp2
        go_ret
        exact ⟨by rw [HF.out]; rfl, HB.out⟩
      · cases x1
        · have HF : Hid (R = false) := Lib.hid (by rw [HX.out]; simp only [Bool.false_and, Bool.and_false, Bool.true_and, Bool.and_true])
          go_wp2
          go_ret
          exact ⟨by rw [HF.out]; rfl, HB.out⟩
        · cases y2
          · have HF : Hid (R = false) := Lib.hid (by rw [HX.out]; simp only [Bool.false_and, Bool.and_false, Bool.true_and, Bool.and_true])
            go_wp2
            go_ret
            exact ⟨by rw [HF.out]; rfl, HB.out⟩
          · go_wp2_with fail
            refine (HP.out _).mono ?_
            rintro e _ ⟨rfl, rfl⟩
            cases xp
            · have HF : Hid (R = false) := Lib.hid (by rw [HX.out]; simp only [Bool.false_and, Bool.and_false, Bool.true_and, Bool.and_true])
              go_wp2
              go_ret
              exact ⟨by rw [HF.out]; rfl, HB.out⟩
            · go_wp2_with fail
              refine (HQ.out _).mono ?_
              rintro e _ ⟨rfl, rfl⟩
              cases xq
              · have HF : Hid (R = false) := Lib.hid (by rw [HX.out]; simp only [Bool.false_and, Bool.and_false, Bool.true_and, Bool.and_true])
                go_wp2
                go_ret
                exact ⟨by rw [HF.out]; rfl, HB.out⟩
              · go_wp2_with fail
                refine (HZ.out _ (HW.out (by trivial))).mono ?_
                rintro e w9 ⟨rfl, b1⟩
                replace HB := Lib.hid (bstep HB.out b1)
                clear b1 z0 z1 z2 z3 z4 z5
                cases xz
                · have HF : Hid (R = false) := Lib.hid (by rw [HX.out]; simp only [Bool.false_and, Bool.and_false, Bool.true_and, Bool.and_true])
                  go_wp2
                  go_ret
                  exact ⟨by rw [HF.out]; rfl, HB.out⟩
                · have HF : Hid (R = true) := Lib.hid (by rw [HX.out]; simp only [Bool.false_and, Bool.and_false, Bool.true_and, Bool.and_true])
                  go_wp2
                  go_ret
                  exact ⟨by rw [HF.out]; rfl, HB.out⟩
set_option maxHeartbeats 1000000 in
theorem exactOpOk_walk (v : Value) (o : OpD) (w : World) (hv : OpIs v o) : Calls Try.prog 3 #[v] w fun e w' => e = .returned (.bool true) ∧ Below w.heap.size w w' := by
  obtain ⟨rfl, hn, ht⟩ := hv
  have HB := Lib.hid (bal1 w (.cells #[.int .i64 o.a, .string o.n, .string o.t, .int .i64 o.p, .int .i64 o.q] 23))
  have Q0 := Lib.hid (al1 w (.cells #[.int .i64 o.a, .string o.n, .string o.t, .int .i64 o.p, .int .i64 o.q] 23))
  have HZ := Lib.hid (fun W => szOp_any o W hn ht)
  have HT := Lib.hid (toOp_any o)
  have HS := Lib.hid (fun W => specOpOk_any o W hn ht)
  have HI := Lib.hid (fun W => implOpOk_any o W hn ht)
  obtain ⟨R, hR⟩ : ∃ R, opOkB o = R := ⟨_, rfl⟩
  rw [hR] at HS HI
  have hne : (R != R) = false := by simp
  clear hR hn ht
  go_enter Try.func3, Try.ntmps3
  go_upto_region 1 with (fail)
  generalize w.alloc (.cells #[.int .i64 o.a, .string o.n, .string o.t, .int .i64 o.p, .int .i64 o.q] 23) = W at *
  obtain ⟨x0, x1, x2, x3, x4, x5⟩ := box5 Q0.out
  go_wp2_with fail
  refine (HZ.out _).mono ?_
  rintro e w1 ⟨rfl | ⟨x, rfl, hx⟩, b1⟩
  · replace HB := Lib.hid (bstep HB.out b1)
    clear b1
    go_wp2
    go_ret
    exact ⟨rfl, HB.out⟩
  · have d0 : decide (x < 0) = false := decide_eq_false (by omega)
    replace Q0 := Lib.hid (box_on Q0.out b1)
    replace HB := Lib.hid (bstep HB.out b1)
    clear b1 x0 x1 x2 x3 x4 x5
    obtain ⟨x0, x1, x2, x3, x4, x5⟩ := box5 Q0.out
    go_wp2_with fail
    refine (HT.out _).mono ?_
    rintro e w3 ⟨rfl, b1⟩
    replace Q0 := Lib.hid (box_on Q0.out b1)
    replace HB := Lib.hid (bstep HB.out b1)
    clear b1 x0 x1 x2 x3 x4 x5
    obtain ⟨x0, x1, x2, x3, x4, x5⟩ := box5 Q0.out
    go_wp2_with fail
    refine (HS.out _).mono ?_
    rintro e w4 ⟨rfl, b1⟩
    replace Q0 := Lib.hid (box_on Q0.out b1)
    replace HB := Lib.hid (bstep HB.out b1)
    clear b1 x0 x1 x2 x3 x4 x5
    obtain ⟨x0, x1, x2, x3, x4, x5⟩ := box5 Q0.out
    go_wp2_with fail
    refine (HT.out _).mono ?_
    rintro e w5 ⟨rfl, b1⟩
    replace Q0 := Lib.hid (box_on Q0.out b1)
    replace HB := Lib.hid (bstep HB.out b1)
    clear b1 x0 x1 x2 x3 x4 x5
    obtain ⟨x0, x1, x2, x3, x4, x5⟩ := box5 Q0.out
    go_wp2_with fail
    refine (HI.out _).mono ?_
    rintro e w6 ⟨rfl, b1⟩
    replace Q0 := Lib.hid (box_on Q0.out b1)
    replace HB := Lib.hid (bstep HB.out b1)
    clear b1 x0 x1 x2 x3 x4 x5
    go_wp2
    go_ret
    exact ⟨rfl, HB.out⟩
end Go.Proofs.Ytcimpcocgmlmoaa
