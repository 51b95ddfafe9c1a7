/- Contracts for slices.Clone at versions, impl.NewAge and spec.NewAge. Conditions: at most 2^20 versions. -/
import Derived.Test.YtjnecehogebjkaaAgePut
import Derived.Test.YtjnecehogebjkaaAgeOk
namespace Go.Proofs.Ytjnecehogebjkaa
open Go.RowKit
set_option maxRecDepth 100000
set_option linter.unusedSimpArgs false
set_option linter.unusedVariables false

theorem run_itemsG (v f : Value) (w : World) : (Instr.field 54 (.agg #[v, f]) 0).run Try.prog w = .ok v w := by
  simp [Instr.field, run_underlying Try.underlying54, part, asAgg, go_sem, isAgg, run_underlying Try.underlying24]
theorem cloneG_any (v : Value) (l : List AgeD) (w : World) (hv : Reads w w.heap.size v (agesD l)) (hn : l.length ≤ 2097152) : Calls Try.prog 44 #[v] w (NewG w l) := by
  obtain ⟨A, c, rfl, _, _⟩ := hv.shapeG
  have hA := Reads.atG hv
  rcases A with _ | ad
  · have h0 : l = [] := by
      rcases hA with h | ⟨b, off, h, _⟩
      · have := congrArg List.length h
        rw [gvl_len] at this
        exact List.length_eq_zero_iff.1 (by simp at this; omega)
      · cases h
    subst h0
    have hq := run_eqnil (P := Try.prog) w 24 39 none 0 c Try.underlying24
    clear hA hv
    go_enter Try.func44, Try.ntmps44
    go_wp2
    go_ret
    exact ⟨_, rfl, row_nil _ _ _ _, Below.refl _ _⟩
  · have HA := Lib.hid (hA.on (bal1 w (.cells #[] 39)))
    have ho0 := RowG.lit w
    have HB := Lib.hid (bal1 w (.cells #[] 39))
    have HZ := Lib.hid HB.out.size
    have hq := run_eqnil (P := Try.prog) w 24 39 (some ad) l.length c Try.underlying24
    clear hA hv
    go_enter Try.func44, Try.ntmps44
    go_wp2_with (at_builtin; refine wpList_appG _ rfl (.tmp 5) (.tmp 6) rfl w.heap.size _ [] rfl ho0 (some ad) l.length c l rfl rfl HA.out (by simp; omega) HZ.out ?_; intro v1 w1 o1 b1; clear ho0)
    have B1 := Lib.hid (HB.out.trans b1)
    rw [List.nil_append] at o1
    go_ret
    exact ⟨v1, rfl, o1, B1.out⟩
/-- A call leaves a row of versions in memory of its own, and a bool. -/
def NewGB (w : World) (l : List AgeD) (b : Bool) (e : Ending) (w' : World) : Prop := ∃ v, e = .returned (.tuple #[v, .bool b]) ∧ RowG w' w.heap.size v l ∧ Below w.heap.size w w'
theorem newK_yes {l : List AgeD} {d f : Int} (h : newOk l d f = true) : newK l d f = insG l ⟨d, f⟩ := by rw [newK, h]; rfl
theorem newK_no {l : List AgeD} {d f : Int} (h : newOk l d f = false) : newK l d f = l := by rw [newK, h]; rfl
set_option maxHeartbeats 2000000 in
theorem implNewAge_any (v : Value) (l : List AgeD) (d f : Int) (w : World) (hv : Reads w w.heap.size v (agesD l)) (hn : l.length ≤ 2000000) : Calls Try.prog 21 #[v, .int .i64 d, .int .i64 f] w (NewGB w (newK l d f) (newOk l d f)) := by
  obtain ⟨A, c, rfl, _, _⟩ := hv.shapeG
  have HK := Lib.hid (ageSet_any A l.length c)
  have HP := Lib.hid (fun w => putG_any (.slice A l.length c) l ⟨d, f⟩ w)
  unfold lessVG at HK HP
  have HV := Lib.hid hv
  have HG := Lib.hid (ageAt_geq l d)
  have hfi := fun v w => run_itemsG v (.func (.func 54) #[] #[]) w
  clear hv
  cases hh : hasG l d
  · have HI := Lib.hid (putGL_ins (l := l) (x := ⟨d, f⟩) hh)
    have HH := Lib.hid hh
    rw [hh] at HG
    clear hh
    go_enter Try.func21, Try.ntmps21
    go_wp2_with fail
    refine (implAgeAt_any _ l d _ HV.out (by omega)).mono ?_
    rintro e w1 ⟨rfl, b1⟩
    generalize ageAtK l d = q at *
    have hq : decide (0 ≤ q) = false := HG.out
    go_wp2_with fail
    refine (HK.out _).mono ?_
    rintro e w2 ⟨rfl, b2⟩
    have B2 := Lib.hid (bstep b1 b2)
    clear b1 b2 hq
    go_wp2_with fail
    refine (HP.out _ (HV.out.on B2.out) (by omega)).mono ?_
    rintro e w3 ⟨v3, rfl, o3, b3⟩
    rw [HI.out] at o3
    have B3 := Lib.hid (bstep B2.out b3)
    have O3 := Lib.hid (o3.mono B2.out.size)
    obtain ⟨A3, c3, rfl, _, _⟩ := o3.shape
    clear b3 o3
    go_wp2_with fail
    refine (implAgesOk_any _ (insG l ⟨d, f⟩) _ O3.out.owns.reads (by rw [insG_len]; omega)).mono ?_
    rintro e w4 ⟨rfl, b4⟩
    have B4 := Lib.hid (bstep B3.out b4)
    have O4 := Lib.hid (O3.out.on b4)
    clear b4 O3
    cases hok : agesOkB (insG l ⟨d, f⟩)
    · have hno : newOk l d f = false := by rw [newOk, hok]; simp
      have HNO := Lib.hid hno
      clear hno hok
      go_wp2_with fail
      refine (cloneG_any _ l _ (HV.out.on B4.out) (by omega)).mono ?_
      rintro e w5 ⟨v5, rfl, o5, b5⟩
      go_wp2
      refine bodyPost_ret (v := .tuple #[v5, .bool false]) (by simp [results, Try.results21, go_sem]) rfl ?_
      rw [HNO.out, newK_no HNO.out]
      exact ⟨_, rfl, o5.mono B4.out.size, bstep B4.out b5⟩
    · have hyes : newOk l d f = true := by rw [newOk, hok, HH.out]; rfl
      have HYES := Lib.hid hyes
      clear hyes hok
      go_wp2
      refine bodyPost_ret (v := .tuple #[.slice A3 (insG l ⟨d, f⟩).length c3, .bool true]) (by simp [results, Try.results21, go_sem]) rfl ?_
      rw [HYES.out, newK_yes HYES.out]
      exact ⟨_, rfl, O4.out, B4.out⟩
  · have hno : newOk l d f = false := by rw [newOk, hh]; rfl
    have HNO := Lib.hid hno
    rw [hh] at HG
    clear hno hh
    go_enter Try.func21, Try.ntmps21
    go_wp2_with fail
    refine (implAgeAt_any _ l d _ HV.out (by omega)).mono ?_
    rintro e w1 ⟨rfl, b1⟩
    generalize ageAtK l d = q at *
    have hq : decide (0 ≤ q) = true := HG.out
    have B1 := Lib.hid b1
    clear b1
    go_wp2_with fail
    refine (cloneG_any _ l _ (HV.out.on B1.out) (by omega)).mono ?_
    rintro e w5 ⟨v5, rfl, o5, b5⟩
    go_wp2
    refine bodyPost_ret (v := .tuple #[v5, .bool false]) (by simp [results, Try.results21, go_sem]) rfl ?_
    rw [HNO.out, newK_no HNO.out]
    exact ⟨_, rfl, o5.mono B1.out.size, bstep B1.out b5⟩
/-- What is still to come when versions are copied one by one and x is laid in. -/
def goG (x : AgeD) (l : List AgeD) (dn : Bool) : List AgeD := if dn then l else insG l x
theorem insG_cons (y : AgeD) (t : List AgeD) (x : AgeD) : insG (y :: t) x = if y.a < x.a then y :: insG t x else x :: y :: t := by
  unfold insG plG
  rw [List.findIdx_cons]
  by_cases h : y.a < x.a
  · rw [decide_eq_true h, if_pos h]; rfl
  · rw [decide_eq_false h, if_neg h]; rfl
theorem goG_done {x : AgeD} {l m R : List AgeD} {k : Nat} (h : k < l.length) (hf : m ++ goG x (l.drop k) true = R) : (m ++ [l[k]]) ++ goG x (l.drop (k + 1)) true = R := by
  rw [goG, if_pos rfl, gdrop_at h] at hf
  rw [goG, if_pos rfl]
  simpa using hf
theorem goG_less {x : AgeD} {l m R : List AgeD} {k : Nat} (h : k < l.length) (hl : (l[k]).a < x.a) (hf : m ++ goG x (l.drop k) false = R) : (m ++ [l[k]]) ++ goG x (l.drop (k + 1)) false = R := by
  rw [goG, if_neg (by simp), gdrop_at h, insG_cons, if_pos hl] at hf
  rw [goG, if_neg (by simp)]
  simpa using hf
theorem goG_more {x : AgeD} {l m R : List AgeD} {k : Nat} (h : k < l.length) (hl : ¬ (l[k]).a < x.a) (hf : m ++ goG x (l.drop k) false = R) : ((m ++ [x]) ++ [l[k]]) ++ goG x (l.drop (k + 1)) true = R := by
  rw [goG, if_neg (by simp), gdrop_at h, insG_cons, if_neg hl] at hf
  rw [goG, if_pos rfl]
  simpa using hf
theorem has_ne {l : List AgeD} {d : Int} (h : hasG l d = false) {k : Nat} (hk : k < l.length) : (l[k]).a ≠ d := by
  have := no_has h l[k] (List.getElem_mem hk)
  simpa using this
set_option maxHeartbeats 4000000 in
theorem specNewAge_any (v : Value) (l : List AgeD) (d f : Int) (w : World) (hv : Reads w w.heap.size v (agesD l)) (hn : l.length ≤ 2000000) : Calls Try.prog 34 #[v, .int .i64 d, .int .i64 f] w (NewGB w (newK l d f) (newOk l d f)) := by
  obtain ⟨A, c, rfl, _, _⟩ := hv.shapeG
  have HV0 := Lib.hid hv
  have b0 := bal1 w (.cells #[] 39)
  have HV := Lib.hid (hv.on b0)
  have HO := Lib.hid (RowG.lit w)
  have HB := Lib.hid b0
  have HG := Lib.hid (ageAt_geq l d)
  obtain ⟨R, hR⟩ : ∃ R, goG ⟨d, f⟩ l (hasG l d) = R := ⟨_, rfl⟩
  have HR := Lib.hid hR
  obtain ⟨h, hh⟩ : ∃ h, hasG l d = h := ⟨_, rfl⟩
  have HH := Lib.hid hh
  rw [hh] at HG HR
  clear hv b0 hR hh
  go_enter Try.func34, Try.ntmps34
  go_upto_region 2 with (fail)
  generalize w.alloc (.cells #[] 39) = w0 at *
  go_wp2_with fail
  refine (specAgeAt_any _ l d _ HV.out (by omega)).mono ?_
  rintro e w1 ⟨rfl, rfl⟩
  obtain ⟨q, hq0⟩ : ∃ q, ageAtK l d = q := ⟨_, rfl⟩
  have HQ := Lib.hid hq0
  rw [hq0] at HG ⊢
  have hq : decide (0 ≤ q) = h := HG.out
  clear hq0
  go_wp2
  all_goals
    go_loopw [8, 9, 10] (fun o b i wr => ∃ (k : Nat) (m : List AgeD) (dn : Bool), k ≤ l.length ∧ i = .int .i64 k ∧ b = .bool dn ∧ Hid (dn = false → h = false) ∧ Hid (m.length ≤ k + 1 ∧ (dn = false → m.length ≤ k)) ∧ Hid (m ++ goG ⟨d, f⟩ (l.drop k) dn = R) ∧ Hid (GrowG w wr o m)) (fun _ _ i _ => l.length - (intOf i).toNat)
    case atStart => exact ⟨0, [], h, Nat.zero_le _, rfl, by simp_all, Lib.hid (fun e => e), Lib.hid ⟨by simp, fun _ => by simp⟩, Lib.hid HR.out, Lib.hid ⟨HO.out, HB.out⟩⟩
    case round =>
      obtain ⟨k, m, dn, hk, rfl, rfl, HD, HM, HI, HX⟩ := hrel
      obtain ⟨hrow, hb⟩ := HX.out
      obtain ⟨Ao, co, rfl, _, _⟩ := hrow.shape
      by_cases hlt : k < l.length
      · obtain ⟨b, off, rfl, hbb, hc⟩ := (HV0.out.on hb).ages hlt
        have i1 : (k : Int) < (l.length : Int) := by omega
        have i2 : (0 : Int) ≤ (k : Int) := by omega
        obtain ⟨c0, c1⟩ := hc k hlt
        have FK := Lib.hid (hc k hlt)
        clear hc
        cases dn
        · have hf0 := HD.out rfl
          by_cases hgt : d < (l[k]).a
          · have d1 : decide (d < (l[k]).a) = true := decide_eq_true hgt
            have HNL : Hid (¬ (l[k]).a < d) := Lib.hid (by omega)
            have HAt := Lib.hid (At.age wr ⟨d, f⟩ 39)
            have ba := bal1 wr (.cells #[.int .i64 d, .int .i64 f] 39)
            have HRow := Lib.hid (hrow.on ba)
            have HB2 := Lib.hid (hb.trans (ba.mono hb.size))
            have HZ := Lib.hid HB2.out.size
            clear hrow hb ba HX hgt hf0
            go_upto_region 8 with (at_builtin; refine wpList_appG _ rfl (.tmp 33) (.tmp 37) rfl w.heap.size _ m rfl HRow.out (some ⟨wr.heap.size, 0, none⟩) 1 1 [⟨d, f⟩] rfl rfl HAt.out (by have := HM.out.1; simp; omega) HZ.out ?_; intro v1 w2 o1 b1; clear HRow HAt)
            have hb2 := HB2.out.trans b1
            obtain ⟨m2, hm2⟩ : ∃ m2, m ++ [⟨d, f⟩] = m2 := ⟨_, rfl⟩
            rw [hm2] at o1
            have HM2 := Lib.hid hm2
            have HML : Hid (m2.length ≤ k + 2) := Lib.hid (by have := HM.out.1; rw [← hm2]; simp; omega)
            clear hm2
            obtain ⟨A1, e1, rfl, _, _⟩ := o1.shape
            obtain ⟨b', off', he, hbb', hc'⟩ := (HV0.out.on hb2).ages hlt
            cases he
            clear c0 c1 b1 HB2 HZ
            obtain ⟨c0, c1⟩ := hc' k hlt
            clear hc'
            have HAt := Lib.hid (At.age w2 l[k] 39)
            have ba := bal1 w2 (.cells #[.int .i64 (l[k]).a, .int .i64 (l[k]).b] 39)
            have HRow := Lib.hid (o1.on ba)
            have HB2 := Lib.hid (hb2.trans (ba.mono hb2.size))
            have HZ := Lib.hid HB2.out.size
            clear o1 hb2 ba
            go_wp2_with (at_builtin; refine wpList_appG _ rfl (.tmp 39) (.tmp 44) rfl w.heap.size _ m2 rfl HRow.out (some ⟨w2.heap.size, 0, none⟩) 1 1 [l[k]] rfl rfl HAt.out (by have := HML.out; simp; omega) HZ.out ?_; intro v3 w3 o3 b3; clear HRow HAt)
            have HX := Lib.hid (show GrowG w w3 v3 (m2 ++ [l[k]]) from ⟨o3, HB2.out.trans b3⟩)
            clear o3 b3
            go_roundw
            case rel => exact ⟨k + 1, m2 ++ [l[k]], true, by omega, by go_num, rfl, Lib.hid (fun e => by cases e), Lib.hid ⟨by have := HM.out.2 rfl; rw [← HM2.out]; simp; omega, fun e => by cases e⟩, Lib.hid (by rw [← HM2.out]; exact goG_more hlt HNL.out HI.out), HX⟩
            case measure => simp [intOf]; omega
          · have d1 : decide (d < (l[k]).a) = false := decide_eq_false hgt
            have hne := has_ne (HH.out.trans hf0) hlt
            have HLT : Hid ((l[k]).a < d) := Lib.hid (by omega)
            have HAt := Lib.hid (At.age wr l[k] 39)
            have ba := bal1 wr (.cells #[.int .i64 (l[k]).a, .int .i64 (l[k]).b] 39)
            have HRow := Lib.hid (hrow.on ba)
            have HB2 := Lib.hid (hb.trans (ba.mono hb.size))
            have HZ := Lib.hid HB2.out.size
            clear hrow hb ba HX hgt hf0 hne
            go_wp2_with (at_builtin; refine wpList_appG _ rfl (.tmp 39) (.tmp 44) rfl w.heap.size _ m rfl HRow.out (some ⟨wr.heap.size, 0, none⟩) 1 1 [l[k]] rfl rfl HAt.out (by have := HM.out.1; simp; omega) HZ.out ?_; intro v3 w3 o3 b3; clear HRow HAt)
            have HX := Lib.hid (show GrowG w w3 v3 (m ++ [l[k]]) from ⟨o3, HB2.out.trans b3⟩)
            clear o3 b3
            go_roundw
            case rel => exact ⟨k + 1, m ++ [l[k]], false, by omega, by go_num, rfl, HD, Lib.hid ⟨by have := HM.out.2 rfl; simp; omega, fun _ => by have := HM.out.2 rfl; simp; omega⟩, Lib.hid (goG_less hlt HLT.out HI.out), HX⟩
            case measure => simp [intOf]; omega
        · have HAt := Lib.hid (At.age wr l[k] 39)
          have ba := bal1 wr (.cells #[.int .i64 (l[k]).a, .int .i64 (l[k]).b] 39)
          have HRow := Lib.hid (hrow.on ba)
          have HB2 := Lib.hid (hb.trans (ba.mono hb.size))
          have HZ := Lib.hid HB2.out.size
          clear hrow hb ba HX
          go_wp2_with (at_builtin; refine wpList_appG _ rfl (.tmp 39) (.tmp 44) rfl w.heap.size _ m rfl HRow.out (some ⟨wr.heap.size, 0, none⟩) 1 1 [l[k]] rfl rfl HAt.out (by have := HM.out.1; simp; omega) HZ.out ?_; intro v3 w3 o3 b3; clear HRow HAt)
          have HX := Lib.hid (show GrowG w w3 v3 (m ++ [l[k]]) from ⟨o3, HB2.out.trans b3⟩)
          clear o3 b3
          go_roundw
          case rel => exact ⟨k + 1, m ++ [l[k]], true, by omega, by go_num, rfl, HD, Lib.hid ⟨by have := HM.out.1; simp; omega, fun e => by cases e⟩, Lib.hid (goG_done hlt HI.out), HX⟩
          case measure => simp [intOf]; omega
      · have hke : k = l.length := by omega
        have hfin := HI.out
        rw [hke, List.drop_length] at hfin
        have HFIN := Lib.hid hfin
        clear hfin hke
        cases dn
        · have HAt := Lib.hid (At.age wr ⟨d, f⟩ 39)
          have ba := bal1 wr (.cells #[.int .i64 d, .int .i64 f] 39)
          have HRow := Lib.hid (hrow.on ba)
          have HB2 := Lib.hid (hb.trans (ba.mono hb.size))
          have HZ := Lib.hid HB2.out.size
          clear hrow hb ba HX
          go_upto_region 12 with (at_builtin; refine wpList_appG _ rfl (.tmp 48) (.tmp 52) rfl w.heap.size _ m rfl HRow.out (some ⟨wr.heap.size, 0, none⟩) 1 1 [⟨d, f⟩] rfl rfl HAt.out (by have := HM.out.1; simp; omega) HZ.out ?_; intro v3 w3 o3 b3; clear HRow HAt)
          have hRe : m ++ [⟨d, f⟩] = R := by rw [← HFIN.out]; rfl
          rw [hRe] at o3
          have HX := Lib.hid (show GrowG w w3 v3 R from ⟨o3, HB2.out.trans b3⟩)
          obtain ⟨A3, c3, rfl, _, _⟩ := o3.shape
          clear o3 b3 HB2 HZ hRe
          have BX := Lib.hid HX.out.2
          have OX := Lib.hid HX.out.1
          have HVT := Lib.hid (HV0.out.on BX.out)
          clear HX
          go_upto_region 12 with (fail)
          go_wp2_with fail
          refine (specAgeAt_any _ l d _ HVT.out (by omega)).mono ?_
          rintro e wq ⟨rfl, hwq⟩
          subst hwq
          rw [HQ.out]
          cases h
          · have hq2 : decide (0 ≤ q) = false := hq
            have HRI : Hid (insG l ⟨d, f⟩ = R) := Lib.hid HR.out
            go_wp2_with fail
            refine (specAgesOk_any _ R _ OX.out.owns.reads (by rw [← HRI.out, insG_len]; omega)).mono ?_
            rintro e w4 ⟨rfl, b4⟩
            replace OX := Lib.hid (OX.out.on b4)
            replace BX := Lib.hid (bstep BX.out b4)
            clear b4
            cases hok : agesOkB R
            · have hno : newOk l d f = false := by rw [newOk, HRI.out, hok]; simp
              have HNO := Lib.hid hno
              clear hno hok hq2
              have HAt := Lib.hid ((HV0.out.on BX.out).atG.on (bal1 w4 (.cells #[] 39)))
              have HRow := Lib.hid (RowG.lit w4)
              have HB2 := Lib.hid (bal1 w4 (.cells #[] 39))
              have HZ := Lib.hid HB2.out.size
              go_wp2_with (at_builtin; refine wpList_appG _ rfl (.tmp 63) (.tmp 64) rfl w4.heap.size _ [] rfl HRow.out A l.length c l rfl rfl HAt.out (by simp; omega) HZ.out ?_; intro v7 w7 o7 b7; clear HRow HAt)
              rw [List.nil_append] at o7
              have B7 := Lib.hid (bstep BX.out (HB2.out.trans b7))
              refine bodyPost_ret (v := .tuple #[v7, .bool false]) (by simp [results, Try.results34, go_sem]) rfl ?_
              rw [HNO.out, newK_no HNO.out]
              exact ⟨_, rfl, o7.mono BX.out.size, B7.out⟩
            · have hyes : newOk l d f = true := by rw [newOk, HRI.out, hok, HH.out]; rfl
              have HYES := Lib.hid hyes
              clear hyes hok hq2
              go_wp2
              refine bodyPost_ret (v := .tuple #[.slice A3 R.length c3, .bool true]) (by simp [results, Try.results34, go_sem]) rfl ?_
              rw [HYES.out, newK_yes HYES.out, HRI.out]
              exact ⟨_, rfl, OX.out, BX.out⟩
          · have hq2 : decide (0 ≤ q) = true := hq
            have hno : newOk l d f = false := by rw [newOk, HH.out]; rfl
            have HNO := Lib.hid hno
            clear hno
            have HAt := Lib.hid ((HV0.out.on BX.out).atG.on (bal1 w3 (.cells #[] 39)))
            have HRow := Lib.hid (RowG.lit w3)
            have HB2 := Lib.hid (bal1 w3 (.cells #[] 39))
            have HZ := Lib.hid HB2.out.size
            go_wp2_with (at_builtin; refine wpList_appG _ rfl (.tmp 63) (.tmp 64) rfl w3.heap.size _ [] rfl HRow.out A l.length c l rfl rfl HAt.out (by simp; omega) HZ.out ?_; intro v7 w7 o7 b7; clear HRow HAt)
            rw [List.nil_append] at o7
            have B7 := Lib.hid (bstep BX.out (HB2.out.trans b7))
            refine bodyPost_ret (v := .tuple #[v7, .bool false]) (by simp [results, Try.results34, go_sem]) rfl ?_
            rw [HNO.out, newK_no HNO.out]
            exact ⟨_, rfl, o7.mono BX.out.size, B7.out⟩
        · have hRe : R = m := by rw [← HFIN.out, goG, if_pos rfl, List.append_nil]
          subst hRe
          clear hrow hb
          have BX := Lib.hid HX.out.2
          have OX := Lib.hid HX.out.1
          have HVT := Lib.hid (HV0.out.on BX.out)
          clear HX
          go_upto_region 12 with (fail)
          go_wp2_with fail
          refine (specAgeAt_any _ l d _ HVT.out (by omega)).mono ?_
          rintro e wq ⟨rfl, hwq⟩
          subst hwq
          rw [HQ.out]
          cases h
          · have hq2 : decide (0 ≤ q) = false := hq
            have HRI : Hid (insG l ⟨d, f⟩ = R) := Lib.hid HR.out
            go_wp2_with fail
            refine (specAgesOk_any _ R _ OX.out.owns.reads (by rw [← HRI.out, insG_len]; omega)).mono ?_
            rintro e w4 ⟨rfl, b4⟩
            replace OX := Lib.hid (OX.out.on b4)
            replace BX := Lib.hid (bstep BX.out b4)
            clear b4
            cases hok : agesOkB R
            · have hno : newOk l d f = false := by rw [newOk, HRI.out, hok]; simp
              have HNO := Lib.hid hno
              clear hno hok hq2
              have HAt := Lib.hid ((HV0.out.on BX.out).atG.on (bal1 w4 (.cells #[] 39)))
              have HRow := Lib.hid (RowG.lit w4)
              have HB2 := Lib.hid (bal1 w4 (.cells #[] 39))
              have HZ := Lib.hid HB2.out.size
              go_wp2_with (at_builtin; refine wpList_appG _ rfl (.tmp 63) (.tmp 64) rfl w4.heap.size _ [] rfl HRow.out A l.length c l rfl rfl HAt.out (by simp; omega) HZ.out ?_; intro v7 w7 o7 b7; clear HRow HAt)
              rw [List.nil_append] at o7
              have B7 := Lib.hid (bstep BX.out (HB2.out.trans b7))
              refine bodyPost_ret (v := .tuple #[v7, .bool false]) (by simp [results, Try.results34, go_sem]) rfl ?_
              rw [HNO.out, newK_no HNO.out]
              exact ⟨_, rfl, o7.mono BX.out.size, B7.out⟩
            · have hyes : newOk l d f = true := by rw [newOk, HRI.out, hok, HH.out]; rfl
              have HYES := Lib.hid hyes
              clear hyes hok hq2
              go_wp2
              refine bodyPost_ret (v := .tuple #[.slice Ao R.length co, .bool true]) (by simp [results, Try.results34, go_sem]) rfl ?_
              rw [HYES.out, newK_yes HYES.out, HRI.out]
              exact ⟨_, rfl, OX.out, BX.out⟩
          · have hq2 : decide (0 ≤ q) = true := hq
            have hno : newOk l d f = false := by rw [newOk, HH.out]; rfl
            have HNO := Lib.hid hno
            clear hno
            have HAt := Lib.hid ((HV0.out.on BX.out).atG.on (bal1 wr (.cells #[] 39)))
            have HRow := Lib.hid (RowG.lit wr)
            have HB2 := Lib.hid (bal1 wr (.cells #[] 39))
            have HZ := Lib.hid HB2.out.size
            go_wp2_with (at_builtin; refine wpList_appG _ rfl (.tmp 63) (.tmp 64) rfl wr.heap.size _ [] rfl HRow.out A l.length c l rfl rfl HAt.out (by simp; omega) HZ.out ?_; intro v7 w7 o7 b7; clear HRow HAt)
            rw [List.nil_append] at o7
            have B7 := Lib.hid (bstep BX.out (HB2.out.trans b7))
            refine bodyPost_ret (v := .tuple #[v7, .bool false]) (by simp [results, Try.results34, go_sem]) rfl ?_
            rw [HNO.out, newK_no HNO.out]
            exact ⟨_, rfl, o7.mono BX.out.size, B7.out⟩
end Go.Proofs.Ytjnecehogebjkaa
