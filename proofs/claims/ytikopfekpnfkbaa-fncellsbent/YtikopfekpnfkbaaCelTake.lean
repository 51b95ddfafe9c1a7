/- Contracts for impl.TakeCell, impl.FreeCell, spec.TakeCell and spec.FreeCell. Conditions: at most 2^21 cells. -/
import Derived.Test.YtikopfekpnfkbaaCelRow
import Derived.Test.YtikopfekpnfkbaaCelMath
namespace Go.Proofs.Ytikopfekpnfkbaa
open Go.RowKit
set_option maxRecDepth 100000
set_option linter.unusedSimpArgs false
set_option linter.unusedVariables false

theorem NewCel.ce {w w' : World} {l : List CelD} {e : Ending} (h : NewCel w l e w') : NewCe w l e w' := by
  obtain ⟨v, he, o, b⟩ := h
  exact ⟨v, _, he, o.ownR, b⟩
theorem OwnQ.low {w : World} {p p' q : Nat} {v : Value} {c : Dat} (h : OwnQ w p q v c) (hp : p' ≤ p) : OwnQ w p' q v c := Owns.mono h (fun b hb => ⟨by omega, hb.2⟩)
theorem celvl_set2 {l : List CelD} {i : Nat} (h : i < l.length) (n : Int) : celvl (l.set i ⟨(l[i]).a, true, n⟩) = ((celvl l).set (i * 3 + 1) (.bool true)).set (i * 3 + 2) (.int .i64 n) := by
  rw [celvl_set l i _ h]
  have h3 : (celvl l).set (i * 3) (.int .i64 (l[i]).a) = celvl l := by
    have hi : i * 3 < (celvl l).length := by rw [celvl_len]; omega
    have hg : (celvl l)[i * 3] = .int .i64 (l[i]).a := by
      have he : l = l.take i ++ l[i] :: l.drop (i + 1) := by rw [← List.drop_eq_getElem_cons h, List.take_append_drop]
      have hl : (celvl (l.take i)).length = i * 3 := by rw [celvl_len, List.length_take]; omega
      have h4 : (celvl l)[i * 3]? = some (.int .i64 (l[i]).a) := by
        have h5 : celvl l = celvl (l.take i) ++ (celX l[i] ++ celvl (l.drop (i + 1))) := by rw [← celvl_cons, ← celvl_append, ← he]
        rw [h5, List.getElem?_append_right (by omega), hl, Nat.sub_self]
        rfl
      rw [List.getElem?_eq_getElem hi] at h4
      exact Option.some.inj h4
    rw [← hg, List.set_getElem_self]
  dsimp only
  rw [h3]
theorem RwCel.set2 {t : TypeId} {w : World} {g cap : Nat} {l : List CelD} (h : RwCel t w g cap l) {i : Nat} (hi : i < l.length) (n : Int) : RwCel t ((w.setCell ⟨g, i * 3 + 1, none⟩ (.bool true)).setCell ⟨g, i * 3 + 2, none⟩ (.int .i64 n)) g cap (l.set i ⟨(l[i]).a, true, n⟩) := by
  have h5 := (Rw.set h (i * 3 + 1) (.bool true)).set (i * 3 + 2) (.int .i64 n)
  unfold RwCel
  rw [List.length_set, celvl_set2 hi]
  exact h5
theorem bs2 {w w1 : World} {g i j : Nat} {u1 u2 : Value} {B : Nat} (h : Below B w w1) (hg : B ≤ g) : Below B w ((w1.setCell ⟨g, i, none⟩ u1).setCell ⟨g, j, none⟩ u2) :=
  (h.setCell (p := ⟨g, i, none⟩) hg _).setCell (p := ⟨g, j, none⟩) hg _
theorem idleK_no {l : List CelD} (h : ¬ idleI l < l.length) : idleK l = -1 := by unfold idleK; rw [if_neg h]
theorem idleK_yes {l : List CelD} (h : idleI l < l.length) : idleK l = (idleI l : Int) := by unfold idleK; rw [if_pos h]
theorem takeB_eq (l : List CelD) (n : Int) {q1 q2 : Bool} (h1 : celsOkB l = q1) (h2 : wordB n = q2) : takeB l n = (q1 && q2 && decide (idleI l < l.length)) := by unfold takeB; rw [h1, h2]
set_option maxHeartbeats 4000000 in
theorem implTakeCell_any (v : Value) (l : List CelD) (n : Int) (w : World) (hv : Reads w w.heap.size v (celsD l)) (hn : l.length ≤ 2097152) : Calls Try.prog 13 #[v, .int .i64 n] w (NewCeB w (takeK l n) (takeI l n) (takeB l n)) := by
  obtain ⟨A, c, rfl, _, _⟩ := hv.shapeCel
  have HU := Lib.hid (unusedCell_any _ l w hv hn)
  have HCL := Lib.hid (fun w' (h : Reads w' w'.heap.size (.slice A l.length c) (celsD l)) => cloneC_any _ l w' h hn)
  have HOK := Lib.hid (fun w' (h : Reads w' w'.heap.size (.slice A l.length c) (celsD l)) => implCellsOk_any _ l w' h hn)
  have HWD := Lib.hid wordOk_any
  have HV := Lib.hid hv
  clear hv
  by_cases hi : idleI l < l.length
  · obtain ⟨k, hk⟩ : ∃ k, idleI l = k := ⟨_, rfl⟩
    have HI : Hid (idleK l = (k : Int)) := Lib.hid (by rw [idleK_yes hi, hk])
    rw [hk] at hi
    have HK := Lib.hid hk
    clear hk
    have i0 : ¬ (k : Int) < 0 := by omega
    obtain ⟨q, hq⟩ : ∃ q, wordB n = q := ⟨_, rfl⟩
    have HW := Lib.hid hq
    clear hq
    cases q
    · have HNO : Hid (takeB l n = false) := Lib.hid (by unfold takeB; rw [HW.out]; simp)
      go_enter Try.func13, Try.ntmps13
      go_wp2_with fail
      refine HU.out.mono ?_
      rintro e w1 ⟨rfl, b1⟩
      rw [HI.out]
      have B1 := Lib.hid b1
      clear b1
      go_wp2_with fail
      refine (HWD.out n _).mono ?_
      rintro e w2 ⟨rfl, rfl⟩
      rw [HW.out]
      go_wp2_with fail
      refine (HCL.out _ (HV.out.on B1.out)).mono ?_
      rintro e w9 ⟨v9, rfl, o9, b9⟩
      have B9 := Lib.hid (bstep B1.out b9)
      have O9 := Lib.hid (o9.ownR.low B1.out.size)
      clear o9 b9
      go_wp2
      refine bodyPost_ret (v := .tuple #[v9, .int .i64 0, .bool false]) (by simp [results, Try.results13, go_sem]) rfl ?_
      rw [HNO.out, (take_none HNO.out).1, (take_none HNO.out).2]
      exact ⟨_, _, rfl, O9.out, B9.out⟩
    · obtain ⟨q, hq⟩ : ∃ q, celsOkB l = q := ⟨_, rfl⟩
      have HO := Lib.hid hq
      clear hq
      cases q
      · have HNO : Hid (takeB l n = false) := Lib.hid (by unfold takeB; rw [HO.out]; simp)
        go_enter Try.func13, Try.ntmps13
        go_wp2_with fail
        refine HU.out.mono ?_
        rintro e w1 ⟨rfl, b1⟩
        rw [HI.out]
        have B1 := Lib.hid b1
        clear b1
        go_wp2_with fail
        refine (HWD.out n _).mono ?_
        rintro e w2 ⟨rfl, rfl⟩
        rw [HW.out]
        go_wp2_with fail
        refine (HOK.out _ (HV.out.on B1.out)).mono ?_
        rintro e w3 ⟨rfl, b3⟩
        rw [HO.out]
        have B3 := Lib.hid (bstep B1.out b3)
        clear b3
        go_wp2_with fail
        refine (HCL.out _ (HV.out.on B3.out)).mono ?_
        rintro e w9 ⟨v9, rfl, o9, b9⟩
        have B9 := Lib.hid (bstep B3.out b9)
        have O9 := Lib.hid (o9.ownR.low B3.out.size)
        clear o9 b9
        go_wp2
        refine bodyPost_ret (v := .tuple #[v9, .int .i64 0, .bool false]) (by simp [results, Try.results13, go_sem]) rfl ?_
        rw [HNO.out, (take_none HNO.out).1, (take_none HNO.out).2]
        exact ⟨_, _, rfl, O9.out, B9.out⟩
      · have hl := ok_len HO.out
        have HT : Hid (takeB l n = true) := Lib.hid (by unfold takeB; rw [HO.out, HW.out, HK.out, decide_eq_true hi]; rfl)
        have HTK : Hid (takeK l n = l.set k ⟨(l[k]).a, true, n⟩) := Lib.hid (by
          unfold takeK
          rw [if_pos HT.out, takeL_at n (by rw [HK.out]; exact hi)]
          simp only [HK.out])
        have HTI : Hid (takeI l n = (k : Int)) := Lib.hid (by unfold takeI; rw [if_pos HT.out, HK.out])
        have HL := Lib.hid hl
        have hk24 : k < 24 := by omega
        clear hl
        have hz := (zero_of_info arr_info).1
        go_enter Try.func13, Try.ntmps13
        go_wp2_with fail
        refine HU.out.mono ?_
        rintro e w1 ⟨rfl, b1⟩
        rw [HI.out]
        have B1 := Lib.hid b1
        clear b1
        go_wp2_with fail
        refine (HWD.out n _).mono ?_
        rintro e w2 ⟨rfl, rfl⟩
        rw [HW.out]
        go_wp2_with fail
        refine (HOK.out _ (HV.out.on B1.out)).mono ?_
        rintro e w3 ⟨rfl, b3⟩
        rw [HO.out]
        have B3 := Lib.hid (bstep B1.out b3)
        clear b3
        go_wp2_with fail
        refine (cellsOf_any _ l _ (HV.out.on B3.out) HL.out).mono ?_
        rintro e w4 ⟨rfl, b4⟩
        have B4 := Lib.hid (bstep B3.out b4)
        have HQ5 := Lib.hid (al1 w4 (.cells zeroA 58))
        have B5 := Lib.hid (bstep B4.out (bal1 w4 (.cells zeroA 58)))
        have HSZ := Lib.hid (celvl_size HL.out)
        clear b4
        go_upto_region 5 with (refine wpList_arrStore rfl 58 (.tmp 8) (.tmp 26) rfl w4.heap.size (celvl l).toArray zeroA 58 rfl rfl HQ5.out (arr_size HSZ.out) (by rw [HSZ.out, zeroA_size]) (celvl_all l) w.heap.size w B5.out B4.out.size ?_; intro w6 h6 b6 _)
        have HR := Lib.hid (RwCel.arr h6 HL.out)
        obtain ⟨y1, d1⟩ := RwCel.cs HR.out hi 1 (by omega)
        obtain ⟨y2, d2⟩ := RwCel.cs HR.out hi 2 (by omega)
        have f1 := Rw.frozen HR.out (k * 3 + 1)
        have f2 := Rw.frozen HR.out (k * 3 + 2)
        have i1 : (k : Int) < 24 := by omega
        have i2 : (0 : Int) ≤ (k : Int) := by omega
        have R6 := Lib.hid (RwCel.set2 HR.out hi n)
        have B6 := Lib.hid (bs2 (i := k * 3 + 1) (j := k * 3 + 2) (u1 := .bool true) (u2 := .int .i64 n) b6 B4.out.size)
        have Z6 := Lib.hid B4.out.size
        generalize w4.heap.size = g at *
        clear h6 b6 hz HQ5 B5
        go_wp2
        refine bodyPost_ret (v := .tuple #[.slice (some ⟨g, 0, none⟩) 24 24, .int .i64 (k : Int), .bool true]) (by simp [results, Try.results13, go_sem]) rfl ?_
        rw [HT.out, HTI.out, HTK.out]
        exact ⟨_, _, rfl, R6.out.ownQ (by rw [List.length_set]; exact HL.out) Z6.out, B6.out⟩
  · have HI := Lib.hid (idleK_no hi)
    have HNO : Hid (takeB l n = false) := Lib.hid (by unfold takeB; rw [decide_eq_false hi]; simp)
    clear hi
    go_enter Try.func13, Try.ntmps13
    go_wp2_with fail
    refine HU.out.mono ?_
    rintro e w1 ⟨rfl, b1⟩
    rw [HI.out]
    have B1 := Lib.hid b1
    clear b1
    go_wp2_with fail
    refine (HCL.out _ (HV.out.on B1.out)).mono ?_
    rintro e w9 ⟨v9, rfl, o9, b9⟩
    have B9 := Lib.hid (bstep B1.out b9)
    have O9 := Lib.hid (o9.ownR.low B1.out.size)
    clear o9 b9
    go_wp2
    refine bodyPost_ret (v := .tuple #[v9, .int .i64 0, .bool false]) (by simp [results, Try.results13, go_sem]) rfl ?_
    rw [HNO.out, (take_none HNO.out).1, (take_none HNO.out).2]
    exact ⟨_, _, rfl, O9.out, B9.out⟩
theorem RwCel.at3 {t : TypeId} {w : World} {g cap : Nat} {l : List CelD} (h : RwCel t w g cap l) {i : Nat} (hi : i < l.length) (hc : l.length ≤ cap) (hm : cap ≤ maxLen) : CelF w g (i * 3) l[i] := by
  obtain ⟨b, off, hA, _, hk⟩ := (h.owns (S := fun _ => True) trivial hc hm).reads.cels hi
  have h1 := hk i hi
  injection hA with hA
  injection hA with h2 h3
  subst h2
  subst h3
  simpa only [Nat.zero_add] using h1
theorem RwCel.ownN {w : World} {g p cap : Nat} {t : TypeId} {l : List CelD} (h : RwCel t w g cap l) (hp : p ≤ g) (hn : l.length ≤ cap) (hc : cap ≤ maxLen) : OwnQ w p w.heap.size (.slice (some ⟨g, 0, none⟩) l.length cap) (celsT t l) :=
  h.owns (S := fun b => p ≤ b ∧ b < w.heap.size) ⟨hp, Rw.lt h⟩ hn hc
theorem free_none {l : List CelD} {i : Int} (h : freeB l i = false) : freeK l i = l := by unfold freeK; rw [h]; rfl
theorem free_some {l : List CelD} {k : Nat} (hk : k < l.length) (h : freeB l (k : Int) = true) {y : Int} (hy : ((l[k]).a + 1).tmod 1000 = y) : freeK l (k : Int) = l.set k ⟨y, false, 0⟩ := by
  unfold freeK
  rw [if_pos h, Int.toNat_natCast, freeL_at hk, hy]
theorem b3c {w w1 : World} {g i : Nat} {u1 u2 u3 : Value} {B : Nat} (h : Below B w w1) (hg : B ≤ g) : Below B w (((w1.setCell ⟨g, i, none⟩ u1).setCell ⟨g, i + 1, none⟩ u2).setCell ⟨g, i + 2, none⟩ u3) := bsCel h hg
set_option maxHeartbeats 4000000 in
theorem implFreeCell_any (v : Value) (l : List CelD) (i : Int) (w : World) (hv : Reads w w.heap.size v (celsD l)) (hn : l.length ≤ 2097152) : Calls Try.prog 16 #[v, .int .i64 i] w (NewCe w (freeK l i)) := by
  obtain ⟨A, c, rfl, _, _⟩ := hv.shapeCel
  have HCL := Lib.hid (fun w' (h : Reads w' w'.heap.size (.slice A l.length c) (celsD l)) => cloneC_any _ l w' h hn)
  have HOK := Lib.hid (implCellsOk_any _ l w hv hn)
  have HHC := Lib.hid (hasCell_any A c l)
  have HV := Lib.hid hv
  clear hv
  obtain ⟨q, hq⟩ : ∃ q, celsOkB l = q := ⟨_, rfl⟩
  have HO := Lib.hid hq
  clear hq
  cases q
  · have HNO : Hid (freeB l i = false) := Lib.hid (by unfold freeB; rw [HO.out]; simp)
    go_enter Try.func16, Try.ntmps16
    go_wp2_with fail
    refine HOK.out.mono ?_
    rintro e w1 ⟨rfl, b1⟩
    rw [HO.out]
    have B1 := Lib.hid b1
    clear b1
    go_wp2_with fail
    refine (HCL.out _ (HV.out.on B1.out)).mono ?_
    rintro e w9 ⟨v9, rfl, o9, b9⟩
    have B9 := Lib.hid (bstep B1.out b9)
    have O9 := Lib.hid (o9.ownR.low B1.out.size)
    clear o9 b9
    go_wp2
    go_ret
    rw [free_none HNO.out]
    exact ⟨_, _, rfl, O9.out, B9.out⟩
  · cases hh : hasC l i
    · have HH := Lib.hid hh
      have HNO : Hid (freeB l i = false) := Lib.hid (by unfold freeB; rw [hh]; simp)
      clear hh
      go_enter Try.func16, Try.ntmps16
      go_wp2_with fail
      refine HOK.out.mono ?_
      rintro e w1 ⟨rfl, b1⟩
      rw [HO.out]
      have B1 := Lib.hid b1
      clear b1
      go_wp2_with fail
      refine (HHC.out i _).mono ?_
      rintro e w2 ⟨rfl, rfl⟩
      rw [HH.out]
      go_wp2_with fail
      refine (HCL.out _ (HV.out.on B1.out)).mono ?_
      rintro e w9 ⟨v9, rfl, o9, b9⟩
      have B9 := Lib.hid (bstep B1.out b9)
      have O9 := Lib.hid (o9.ownR.low B1.out.size)
      clear o9 b9
      go_wp2
      go_ret
      rw [free_none HNO.out]
      exact ⟨_, _, rfl, O9.out, B9.out⟩
    · have HH := Lib.hid hh
      obtain ⟨k, rfl, hk⟩ := hasC_yes hh
      have i1 : (k : Int) < (l.length : Int) := by omega
      have i2 : (0 : Int) ≤ (k : Int) := by omega
      clear hh
      obtain ⟨u, hu⟩ : ∃ u, (l[k]).b = u := ⟨_, rfl⟩
      have HX := Lib.hid hu
      clear hu
      cases u
      · have HNO : Hid (freeB l (k : Int) = false) := Lib.hid (by unfold freeB; rw [usedC_at hk, HX.out]; simp)
        go_enter Try.func16, Try.ntmps16
        go_wp2_with fail
        refine HOK.out.mono ?_
        rintro e w1 ⟨rfl, b1⟩
        rw [HO.out]
        have B1 := Lib.hid b1
        clear b1
        obtain ⟨b, off, rfl, hbb, hc⟩ := (HV.out.on B1.out).cels hk
        obtain ⟨c0, c1, c2⟩ := hc k hk
        rw [HX.out] at c1
        clear hc
        go_wp2_with fail
        refine (HHC.out _ _).mono ?_
        rintro e w2 ⟨rfl, rfl⟩
        rw [HH.out]
        go_wp2_with fail
        refine (HCL.out _ (HV.out.on B1.out)).mono ?_
        rintro e w9 ⟨v9, rfl, o9, b9⟩
        have B9 := Lib.hid (bstep B1.out b9)
        have O9 := Lib.hid (o9.ownR.low B1.out.size)
        clear o9 b9
        go_wp2
        go_ret
        rw [free_none HNO.out]
        exact ⟨_, _, rfl, O9.out, B9.out⟩
      · have HYES : Hid (freeB l (k : Int) = true) := Lib.hid (by unfold freeB; rw [usedC_at hk, HX.out, HO.out, HH.out]; rfl)
        have HL := Lib.hid (ok_len HO.out)
        have hg := okC_gen (ok_at HO.out hk)
        obtain ⟨g0, g1⟩ := hg
        obtain ⟨y, hy⟩ : ∃ y, ((l[k]).a + 1).tmod 1000 = y := ⟨_, rfl⟩
        have HNG := Lib.hid (nextGen_any (l[k]).a g0 g1)
        rw [hy] at HNG
        have HFK := Lib.hid (free_some hk HYES.out hy)
        have hk24 : (k : Int) < 24 := by have := HL.out; omega
        have hz := (zero_of_info arr_info).1
        clear hy
        go_enter Try.func16, Try.ntmps16
        go_wp2_with fail
        refine HOK.out.mono ?_
        rintro e w1 ⟨rfl, b1⟩
        rw [HO.out]
        have B1 := Lib.hid b1
        clear b1
        obtain ⟨b, off, rfl, hbb, hc⟩ := (HV.out.on B1.out).cels hk
        obtain ⟨c0, c1, c2⟩ := hc k hk
        rw [HX.out] at c1
        clear hc
        go_wp2_with fail
        refine (HHC.out _ _).mono ?_
        rintro e w2 ⟨rfl, rfl⟩
        rw [HH.out]
        go_wp2_with fail
        refine (cellsOf_any _ l _ (HV.out.on B1.out) HL.out).mono ?_
        rintro e w4 ⟨rfl, b4⟩
        have B4 := Lib.hid (bstep B1.out b4)
        have HQ5 := Lib.hid (al1 w4 (.cells zeroA 58))
        have B5 := Lib.hid (bstep B4.out (bal1 w4 (.cells zeroA 58)))
        have HSZ := Lib.hid (celvl_size HL.out)
        clear b4 c0 c1 c2
        go_upto_region 4 with (refine wpList_arrStore rfl 58 (.tmp 5) (.tmp 26) rfl w4.heap.size (celvl l).toArray zeroA 58 rfl rfl HQ5.out (arr_size HSZ.out) (by rw [HSZ.out, zeroA_size]) (celvl_all l) w.heap.size w B5.out B4.out.size ?_; intro w6 h6 b6 _)
        have HR := Lib.hid (RwCel.arr h6 HL.out)
        have Z6 := Lib.hid B4.out.size
        have B6 := Lib.hid b6
        generalize w4.heap.size = g at *
        obtain ⟨d0, d1, d2⟩ := HR.out.at3 hk (by have := HL.out; omega) (by unfold maxLen; omega)
        have f0 := Rw.frozen HR.out (k * 3)
        have f1 := Rw.frozen HR.out (k * 3 + 1)
        have f2 := Rw.frozen HR.out (k * 3 + 2)
        clear h6 b6 hz HQ5 B5
        go_wp2_with fail
        refine (HNG.out _).mono ?_
        rintro e w7 ⟨rfl, rfl⟩
        have R6 := Lib.hid (RwCel.set HR.out hk ⟨y, false, 0⟩)
        have B7 := Lib.hid (bsCel (i := k * 3) (u1 := .int .i64 y) (u2 := .bool false) (u3 := .int .i64 0) B6.out Z6.out)
        go_wp2
        go_ret
        rw [HFK.out]
        exact ⟨_, _, rfl, R6.out.ownQ (by rw [List.length_set]; exact HL.out) Z6.out, B7.out⟩
end Go.Proofs.Ytikopfekpnfkbaa
