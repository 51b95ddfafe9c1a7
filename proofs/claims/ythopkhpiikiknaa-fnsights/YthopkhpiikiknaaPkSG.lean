/- Several texts in one: AgeNew, DrawAge, DrawSight, SeeKeysP, Lay, AgeLaw, AgeCut, AgePath, AgeMath, TreesMath, TreesMath2, TreesMath3, SeePure, SeeDelP, SeeDel, SeeI, SeeKS, SeeS. -/
import Derived.Lib.SliceRun
import Derived.StillTailTactics
import Derived.WalkMore
import Derived.Test.YthopkhpiikiknaaPkSF
namespace Go.Proofs.Ythopkhpiikiknaa
open Go.RowKit
set_option maxRecDepth 100000
set_option linter.unusedSimpArgs false
set_option linter.unusedVariables false

/-- A call leaves a row of versions in memory of its own, and a bool. -/
def NewGB (w : World) (l : List AgeD) (b : Bool) (e : Ending) (w' : World) : Prop := ∃ v, e = .returned (.tuple #[v, .bool b]) ∧ RowG w' w.heap.size v l ∧ Below w.heap.size w w'
theorem newK_yes {l : List AgeD} {d f : Int} (h : newOk l d f = true) : newK l d f = insG l ⟨d, f⟩ := by rw [newK, h]; rfl
theorem newK_no {l : List AgeD} {d f : Int} (h : newOk l d f = false) : newK l d f = l := by rw [newK, h]; rfl
/-- What is still to come when versions are copied one by one and x is laid in. -/
def goG (x : AgeD) (l : List AgeD) (dn : Bool) : List AgeD := if dn then l else insG l x
theorem insG_cons (y : AgeD) (t : List AgeD) (x : AgeD) : insG (y :: t) x = if y.a < x.a then y :: insG t x else x :: y :: t := by
  unfold insG plG
  rw [List.findIdx_cons]
  by_cases h : y.a < x.a
  · rw [decide_eq_true h, if_pos h]; rfl
  · rw [decide_eq_false h, if_neg h]; rfl
theorem goG_done {x : AgeD} {l m R : List AgeD} {k : Nat} (h : k < l.length) (hf : m ++ goG x (l.drop k) true = R) : (m ++ [l[k]]) ++ goG x (l.drop (k + 1)) true = R := by
  rw [goG, if_pos rfl, gdrop_at h] at hf
  rw [goG, if_pos rfl]
  simpa using hf
theorem goG_less {x : AgeD} {l m R : List AgeD} {k : Nat} (h : k < l.length) (hl : (l[k]).a < x.a) (hf : m ++ goG x (l.drop k) false = R) : (m ++ [l[k]]) ++ goG x (l.drop (k + 1)) false = R := by
  rw [goG, if_neg (by simp), gdrop_at h, insG_cons, if_pos hl] at hf
  rw [goG, if_neg (by simp)]
  simpa using hf
theorem goG_more {x : AgeD} {l m R : List AgeD} {k : Nat} (h : k < l.length) (hl : ¬ (l[k]).a < x.a) (hf : m ++ goG x (l.drop k) false = R) : ((m ++ [x]) ++ [l[k]]) ++ goG x (l.drop (k + 1)) true = R := by
  rw [goG, if_neg (by simp), gdrop_at h, insG_cons, if_neg hl] at hf
  rw [goG, if_pos rfl]
  simpa using hf
theorem has_ne {l : List AgeD} {d : Int} (h : hasG l d = false) {k : Nat} (hk : k < l.length) : (l[k]).a ≠ d := by
  have := no_has h l[k] (List.getElem_mem hk)
  simpa using this
set_option maxHeartbeats 4000000 in
theorem specNewAge_any (v : Value) (l : List AgeD) (d f : Int) (w : World) (hv : Reads w w.heap.size v (agesD l)) (hn : l.length ≤ 2000000) : Calls Try.prog 69 #[v, .int .i64 d, .int .i64 f] w (NewGB w (newK l d f) (newOk l d f)) := by
  obtain ⟨A, c, rfl, _, _⟩ := hv.shapeG
  have HV0 := Lib.hid hv
  have b0 := bal1 w (.cells #[] 84)
  have HV := Lib.hid (hv.on b0)
  have HO := Lib.hid (RowG.lit w)
  have HB := Lib.hid b0
  have HG := Lib.hid (ageAt_geq l d)
  obtain ⟨R, hR⟩ : ∃ R, goG ⟨d, f⟩ l (hasG l d) = R := ⟨_, rfl⟩
  have HR := Lib.hid hR
  obtain ⟨h, hh⟩ : ∃ h, hasG l d = h := ⟨_, rfl⟩
  have HH := Lib.hid hh
  rw [hh] at HG HR
  clear hv b0 hR hh
  go_enter Try.func69, Try.ntmps69
  go_upto_region 2 with (fail)
  generalize w.alloc (.cells #[] 84) = w0 at *
  go_wp2_with fail
  refine (specAgeAt_any _ l d _ HV.out (by omega)).mono ?_
  rintro e w1 ⟨rfl, rfl⟩
  obtain ⟨q, hq0⟩ : ∃ q, ageAtK l d = q := ⟨_, rfl⟩
  have HQ := Lib.hid hq0
  rw [hq0] at HG ⊢
  have hq : decide (0 ≤ q) = h := HG.out
  clear hq0
  go_wp2
  all_goals
    go_loopw [8, 9, 10] (fun o b i wr => ∃ (k : Nat) (m : List AgeD) (dn : Bool), k ≤ l.length ∧ i = .int .i64 k ∧ b = .bool dn ∧ Hid (dn = false → h = false) ∧ Hid (m.length ≤ k + 1 ∧ (dn = false → m.length ≤ k)) ∧ Hid (m ++ goG ⟨d, f⟩ (l.drop k) dn = R) ∧ Hid (GrowG w wr o m)) (fun _ _ i _ => l.length - (intOf i).toNat)
    case atStart => exact ⟨0, [], h, Nat.zero_le _, rfl, by simp_all, Lib.hid (fun e => e), Lib.hid ⟨by simp, fun _ => by simp⟩, Lib.hid HR.out, Lib.hid ⟨HO.out, HB.out⟩⟩
    case round =>
      obtain ⟨k, m, dn, hk, rfl, rfl, HD, HM, HI, HX⟩ := hrel
      obtain ⟨hrow, hb⟩ := HX.out
      obtain ⟨Ao, co, rfl, _, _⟩ := hrow.shape
      by_cases hlt : k < l.length
      · obtain ⟨b, off, rfl, hbb, hc⟩ := (HV0.out.on hb).ages hlt
        have i1 : (k : Int) < (l.length : Int) := by omega
        have i2 : (0 : Int) ≤ (k : Int) := by omega
        obtain ⟨c0, c1⟩ := hc k hlt
        have FK := Lib.hid (hc k hlt)
        clear hc
        cases dn
        · have hf0 := HD.out rfl
          by_cases hgt : d < (l[k]).a
          · have d1 : decide (d < (l[k]).a) = true := decide_eq_true hgt
            have HNL : Hid (¬ (l[k]).a < d) := Lib.hid (by omega)
            have HAt := Lib.hid (At.age wr ⟨d, f⟩ 84)
            have ba := bal1 wr (.cells #[.int .i64 d, .int .i64 f] 84)
            have HRow := Lib.hid (hrow.on ba)
            have HB2 := Lib.hid (hb.trans (ba.mono hb.size))
            have HZ := Lib.hid HB2.out.size
            clear hrow hb ba HX hgt hf0
            go_upto_region 8 with (at_builtin; refine wpList_appG _ rfl (.tmp 33) (.tmp 37) rfl w.heap.size _ m rfl HRow.out (some ⟨wr.heap.size, 0, none⟩) 1 1 [⟨d, f⟩] rfl rfl HAt.out (by have := HM.out.1; simp; omega) HZ.out ?_; intro v1 w2 o1 b1; clear HRow HAt)
            have hb2 := HB2.out.trans b1
            obtain ⟨m2, hm2⟩ : ∃ m2, m ++ [⟨d, f⟩] = m2 := ⟨_, rfl⟩
            rw [hm2] at o1
            have HM2 := Lib.hid hm2
            have HML : Hid (m2.length ≤ k + 2) := Lib.hid (by have := HM.out.1; rw [← hm2]; simp; omega)
            clear hm2
            obtain ⟨A1, e1, rfl, _, _⟩ := o1.shape
            obtain ⟨b', off', he, hbb', hc'⟩ := (HV0.out.on hb2).ages hlt
            cases he
            clear c0 c1 b1 HB2 HZ
            obtain ⟨c0, c1⟩ := hc' k hlt
            clear hc'
            have HAt := Lib.hid (At.age w2 l[k] 84)
            have ba := bal1 w2 (.cells #[.int .i64 (l[k]).a, .int .i64 (l[k]).b] 84)
            have HRow := Lib.hid (o1.on ba)
            have HB2 := Lib.hid (hb2.trans (ba.mono hb2.size))
            have HZ := Lib.hid HB2.out.size
            clear o1 hb2 ba
            go_wp2_with (at_builtin; refine wpList_appG _ rfl (.tmp 39) (.tmp 44) rfl w.heap.size _ m2 rfl HRow.out (some ⟨w2.heap.size, 0, none⟩) 1 1 [l[k]] rfl rfl HAt.out (by have := HML.out; simp; omega) HZ.out ?_; intro v3 w3 o3 b3; clear HRow HAt)
            have HX := Lib.hid (show GrowG w w3 v3 (m2 ++ [l[k]]) from ⟨o3, HB2.out.trans b3⟩)
            clear o3 b3
            go_roundw
            case rel => exact ⟨k + 1, m2 ++ [l[k]], true, by omega, by go_num, rfl, Lib.hid (fun e => by cases e), Lib.hid ⟨by have := HM.out.2 rfl; rw [← HM2.out]; simp; omega, fun e => by cases e⟩, Lib.hid (by rw [← HM2.out]; exact goG_more hlt HNL.out HI.out), HX⟩
            case measure => simp [intOf]; omega
          · have d1 : decide (d < (l[k]).a) = false := decide_eq_false hgt
            have hne := has_ne (HH.out.trans hf0) hlt
            have HLT : Hid ((l[k]).a < d) := Lib.hid (by omega)
            have HAt := Lib.hid (At.age wr l[k] 84)
            have ba := bal1 wr (.cells #[.int .i64 (l[k]).a, .int .i64 (l[k]).b] 84)
            have HRow := Lib.hid (hrow.on ba)
            have HB2 := Lib.hid (hb.trans (ba.mono hb.size))
            have HZ := Lib.hid HB2.out.size
            clear hrow hb ba HX hgt hf0 hne
            go_wp2_with (at_builtin; refine wpList_appG _ rfl (.tmp 39) (.tmp 44) rfl w.heap.size _ m rfl HRow.out (some ⟨wr.heap.size, 0, none⟩) 1 1 [l[k]] rfl rfl HAt.out (by have := HM.out.1; simp; omega) HZ.out ?_; intro v3 w3 o3 b3; clear HRow HAt)
            have HX := Lib.hid (show GrowG w w3 v3 (m ++ [l[k]]) from ⟨o3, HB2.out.trans b3⟩)
            clear o3 b3
            go_roundw
            case rel => exact ⟨k + 1, m ++ [l[k]], false, by omega, by go_num, rfl, HD, Lib.hid ⟨by have := HM.out.2 rfl; simp; omega, fun _ => by have := HM.out.2 rfl; simp; omega⟩, Lib.hid (goG_less hlt HLT.out HI.out), HX⟩
            case measure => simp [intOf]; omega
        · have HAt := Lib.hid (At.age wr l[k] 84)
          have ba := bal1 wr (.cells #[.int .i64 (l[k]).a, .int .i64 (l[k]).b] 84)
          have HRow := Lib.hid (hrow.on ba)
          have HB2 := Lib.hid (hb.trans (ba.mono hb.size))
          have HZ := Lib.hid HB2.out.size
          clear hrow hb ba HX
          go_wp2_with (at_builtin; refine wpList_appG _ rfl (.tmp 39) (.tmp 44) rfl w.heap.size _ m rfl HRow.out (some ⟨wr.heap.size, 0, none⟩) 1 1 [l[k]] rfl rfl HAt.out (by have := HM.out.1; simp; omega) HZ.out ?_; intro v3 w3 o3 b3; clear HRow HAt)
          have HX := Lib.hid (show GrowG w w3 v3 (m ++ [l[k]]) from ⟨o3, HB2.out.trans b3⟩)
          clear o3 b3
          go_roundw
          case rel => exact ⟨k + 1, m ++ [l[k]], true, by omega, by go_num, rfl, HD, Lib.hid ⟨by have := HM.out.1; simp; omega, fun e => by cases e⟩, Lib.hid (goG_done hlt HI.out), HX⟩
          case measure => simp [intOf]; omega
      · have hke : k = l.length := by omega
        have hfin := HI.out
        rw [hke, List.drop_length] at hfin
        have HFIN := Lib.hid hfin
        clear hfin hke
        cases dn
        · have HAt := Lib.hid (At.age wr ⟨d, f⟩ 84)
          have ba := bal1 wr (.cells #[.int .i64 d, .int .i64 f] 84)
          have HRow := Lib.hid (hrow.on ba)
          have HB2 := Lib.hid (hb.trans (ba.mono hb.size))
          have HZ := Lib.hid HB2.out.size
          clear hrow hb ba HX
          go_upto_region 12 with (at_builtin; refine wpList_appG _ rfl (.tmp 48) (.tmp 52) rfl w.heap.size _ m rfl HRow.out (some ⟨wr.heap.size, 0, none⟩) 1 1 [⟨d, f⟩] rfl rfl HAt.out (by have := HM.out.1; simp; omega) HZ.out ?_; intro v3 w3 o3 b3; clear HRow HAt)
          have hRe : m ++ [⟨d, f⟩] = R := by rw [← HFIN.out]; rfl
          rw [hRe] at o3
          have HX := Lib.hid (show GrowG w w3 v3 R from ⟨o3, HB2.out.trans b3⟩)
          obtain ⟨A3, c3, rfl, _, _⟩ := o3.shape
          clear o3 b3 HB2 HZ hRe
          have BX := Lib.hid HX.out.2
          have OX := Lib.hid HX.out.1
          have HVT := Lib.hid (HV0.out.on BX.out)
          clear HX
          go_upto_region 12 with (fail)
          go_wp2_with fail
          refine (specAgeAt_any _ l d _ HVT.out (by omega)).mono ?_
          rintro e wq ⟨rfl, hwq⟩
          subst hwq
          rw [HQ.out]
          cases h
          · have hq2 : decide (0 ≤ q) = false := hq
            have HRI : Hid (insG l ⟨d, f⟩ = R) := Lib.hid HR.out
            go_wp2_with fail
            refine (specAgesOk_any _ R _ OX.out.owns.reads (by rw [← HRI.out, insG_len]; omega)).mono ?_
            rintro e w4 ⟨rfl, b4⟩
            replace OX := Lib.hid (OX.out.on b4)
            replace BX := Lib.hid (bstep BX.out b4)
            clear b4
            cases hok : agesOkB R
            · have hno : newOk l d f = false := by rw [newOk, HRI.out, hok]; simp
              have HNO := Lib.hid hno
              clear hno hok hq2
              have HAt := Lib.hid ((HV0.out.on BX.out).atG.on (bal1 w4 (.cells #[] 84)))
              have HRow := Lib.hid (RowG.lit w4)
              have HB2 := Lib.hid (bal1 w4 (.cells #[] 84))
              have HZ := Lib.hid HB2.out.size
              go_wp2_with (at_builtin; refine wpList_appG _ rfl (.tmp 63) (.tmp 64) rfl w4.heap.size _ [] rfl HRow.out A l.length c l rfl rfl HAt.out (by simp; omega) HZ.out ?_; intro v7 w7 o7 b7; clear HRow HAt)
              rw [List.nil_append] at o7
              have B7 := Lib.hid (bstep BX.out (HB2.out.trans b7))
              refine bodyPost_ret (v := .tuple #[v7, .bool false]) (by simp [results, Try.results69, go_sem]) rfl ?_
              rw [HNO.out, newK_no HNO.out]
              exact ⟨_, rfl, o7.mono BX.out.size, B7.out⟩
            · have hyes : newOk l d f = true := by rw [newOk, HRI.out, hok, HH.out]; rfl
              have HYES := Lib.hid hyes
              clear hyes hok hq2
              go_wp2
              refine bodyPost_ret (v := .tuple #[.slice A3 R.length c3, .bool true]) (by simp [results, Try.results69, go_sem]) rfl ?_
              rw [HYES.out, newK_yes HYES.out, HRI.out]
              exact ⟨_, rfl, OX.out, BX.out⟩
          · have hq2 : decide (0 ≤ q) = true := hq
            have hno : newOk l d f = false := by rw [newOk, HH.out]; rfl
            have HNO := Lib.hid hno
            clear hno
            have HAt := Lib.hid ((HV0.out.on BX.out).atG.on (bal1 w3 (.cells #[] 84)))
            have HRow := Lib.hid (RowG.lit w3)
            have HB2 := Lib.hid (bal1 w3 (.cells #[] 84))
            have HZ := Lib.hid HB2.out.size
            go_wp2_with (at_builtin; refine wpList_appG _ rfl (.tmp 63) (.tmp 64) rfl w3.heap.size _ [] rfl HRow.out A l.length c l rfl rfl HAt.out (by simp; omega) HZ.out ?_; intro v7 w7 o7 b7; clear HRow HAt)
            rw [List.nil_append] at o7
            have B7 := Lib.hid (bstep BX.out (HB2.out.trans b7))
            refine bodyPost_ret (v := .tuple #[v7, .bool false]) (by simp [results, Try.results69, go_sem]) rfl ?_
            rw [HNO.out, newK_no HNO.out]
            exact ⟨_, rfl, o7.mono BX.out.size, B7.out⟩
        · have hRe : R = m := by rw [← HFIN.out, goG, if_pos rfl, List.append_nil]
          subst hRe
          clear hrow hb
          have BX := Lib.hid HX.out.2
          have OX := Lib.hid HX.out.1
          have HVT := Lib.hid (HV0.out.on BX.out)
          clear HX
          go_upto_region 12 with (fail)
          go_wp2_with fail
          refine (specAgeAt_any _ l d _ HVT.out (by omega)).mono ?_
          rintro e wq ⟨rfl, hwq⟩
          subst hwq
          rw [HQ.out]
          cases h
          · have hq2 : decide (0 ≤ q) = false := hq
            have HRI : Hid (insG l ⟨d, f⟩ = R) := Lib.hid HR.out
            go_wp2_with fail
            refine (specAgesOk_any _ R _ OX.out.owns.reads (by rw [← HRI.out, insG_len]; omega)).mono ?_
            rintro e w4 ⟨rfl, b4⟩
            replace OX := Lib.hid (OX.out.on b4)
            replace BX := Lib.hid (bstep BX.out b4)
            clear b4
            cases hok : agesOkB R
            · have hno : newOk l d f = false := by rw [newOk, HRI.out, hok]; simp
              have HNO := Lib.hid hno
              clear hno hok hq2
              have HAt := Lib.hid ((HV0.out.on BX.out).atG.on (bal1 w4 (.cells #[] 84)))
              have HRow := Lib.hid (RowG.lit w4)
              have HB2 := Lib.hid (bal1 w4 (.cells #[] 84))
              have HZ := Lib.hid HB2.out.size
              go_wp2_with (at_builtin; refine wpList_appG _ rfl (.tmp 63) (.tmp 64) rfl w4.heap.size _ [] rfl HRow.out A l.length c l rfl rfl HAt.out (by simp; omega) HZ.out ?_; intro v7 w7 o7 b7; clear HRow HAt)
              rw [List.nil_append] at o7
              have B7 := Lib.hid (bstep BX.out (HB2.out.trans b7))
              refine bodyPost_ret (v := .tuple #[v7, .bool false]) (by simp [results, Try.results69, go_sem]) rfl ?_
              rw [HNO.out, newK_no HNO.out]
              exact ⟨_, rfl, o7.mono BX.out.size, B7.out⟩
            · have hyes : newOk l d f = true := by rw [newOk, HRI.out, hok, HH.out]; rfl
              have HYES := Lib.hid hyes
              clear hyes hok hq2
              go_wp2
              refine bodyPost_ret (v := .tuple #[.slice Ao R.length co, .bool true]) (by simp [results, Try.results69, go_sem]) rfl ?_
              rw [HYES.out, newK_yes HYES.out, HRI.out]
              exact ⟨_, rfl, OX.out, BX.out⟩
          · have hq2 : decide (0 ≤ q) = true := hq
            have hno : newOk l d f = false := by rw [newOk, HH.out]; rfl
            have HNO := Lib.hid hno
            clear hno
            have HAt := Lib.hid ((HV0.out.on BX.out).atG.on (bal1 wr (.cells #[] 84)))
            have HRow := Lib.hid (RowG.lit wr)
            have HB2 := Lib.hid (bal1 wr (.cells #[] 84))
            have HZ := Lib.hid HB2.out.size
            go_wp2_with (at_builtin; refine wpList_appG _ rfl (.tmp 63) (.tmp 64) rfl wr.heap.size _ [] rfl HRow.out A l.length c l rfl rfl HAt.out (by simp; omega) HZ.out ?_; intro v7 w7 o7 b7; clear HRow HAt)
            rw [List.nil_append] at o7
            have B7 := Lib.hid (bstep BX.out (HB2.out.trans b7))
            refine bodyPost_ret (v := .tuple #[v7, .bool false]) (by simp [results, Try.results69, go_sem]) rfl ?_
            rw [HNO.out, newK_no HNO.out]
            exact ⟨_, rfl, o7.mono BX.out.size, B7.out⟩
end Go.Proofs.Ythopkhpiikiknaa
namespace Go.Proofs.Ythopkhpiikiknaa
open Go.RowKit
set_option maxRecDepth 100000
set_option linter.unusedSimpArgs false
set_option linter.unusedVariables false

/-- A valid list of versions with small Ids. -/
def GoodG (l : List AgeD) : Prop := agesOkB l = true ∧ ∀ x ∈ l, x.a ≤ 8
theorem GoodG.nil : GoodG [] := ⟨by rfl, fun x hx => by simp at hx⟩
theorem insG_mem {l : List AgeD} {x y : AgeD} : y ∈ insG l x ↔ y = x ∨ y ∈ l := by
  unfold insG
  rw [List.mem_append, List.mem_cons]
  constructor
  · rintro (h | h | h)
    · exact .inr (List.mem_of_mem_take h)
    · exact .inl h
    · exact .inr (List.mem_of_mem_drop h)
  · rintro (h | h)
    · exact .inr (.inl h)
    · have h2 : y ∈ l.take (plG l x.a) ++ l.drop (plG l x.a) := by rw [List.take_append_drop]; exact h
      rcases List.mem_append.1 h2 with h3 | h3
      · exact .inl h3
      · exact .inr (.inr h3)
theorem GoodG.new {l : List AgeD} {d f : Int} (h : GoodG l) (hd : d ≤ 8) : GoodG (newK l d f) := by
  unfold newK
  split
  · next ho =>
    refine ⟨?_, fun x hx => ?_⟩
    · simp only [newOk, Bool.and_eq_true] at ho
      exact ho.2
    · rcases insG_mem.1 hx with rfl | hx
      · exact hd
      · exact h.2 x hx
  · exact h
theorem RowG.farP {w w' : World} {p base : Nat} {v : Value} {l : List AgeD} (h : RowG w base v l) (hg : w.grownBy w' (some p)) (hp : p < base) : RowG w' base v l :=
  h.keep (fun g hg' => hg.block g (h.lt g hg').1 (fun e => by injection e with e; have := (h.lt g hg').2; omega))
theorem grown_onG {w a b : World} {row : Option Nat} (h : w.grownBy a row) (hb : Below w.heap.size a b) : w.grownBy b row :=
  ⟨hb.os.trans h.os, hb.tape.trans h.tape, hb.output.trans h.output, Nat.le_trans h.size hb.size, fun i hi hne => (hb.block i hi).trans (h.block i hi hne)⟩
def AAges (w : World) (p : Nat) (e : Ending) (w' : World) : Prop := ∃ v l, e = .returned v ∧ RowG w' w.heap.size v l ∧ GoodG l ∧ l.length ≤ 7 ∧ Cur w' p ∧ w.grownBy w' (some p)
set_option maxHeartbeats 2000000 in
theorem l7Draw_any (p : Nat) (w : World) (hc : Cur w p) : Calls Try.prog 40 #[.pointer (some ⟨p, 0, none⟩)] w (AAges w p) := by
  have hlt := hc.lt
  have C0 := Lib.hid (hc.on (bal1 w (.cells #[] 84)))
  have G0 := Lib.hid (only_start w (.cells #[] 84) (some p))
  have R0 := Lib.hid (RowG.lit w)
  clear hc
  go_enter Try.func40, Try.ntmps40
  go_wp2_with fail
  refine (l1Below_any p 8 _ C0.out (by omega) (by omega)).mono ?_
  rintro r w1 ⟨j, hj, rfl, c1, g1⟩
  have R1 := Lib.hid (R0.out.farP g1 hlt)
  have C1 := Lib.hid c1
  have G1 := Lib.hid (only_trans G0.out g1)
  clear c1 g1 R0 C0 G0
  go_wp2
  go_loopw [3, 4, 5] (fun o i _ wr => ∃ (k : Nat) (l : List AgeD), i = .int .i64 k ∧ Hid (l.length + k ≤ 7) ∧ Hid (GoodG l) ∧ Hid (RowG wr w.heap.size o l) ∧ Hid (Cur wr p) ∧ Hid (w.grownBy wr (some p))) (fun _ i _ _ => (intOf i).toNat)
  case atStart => exact ⟨j, [], rfl, Lib.hid (by simp; omega), Lib.hid GoodG.nil, R1, C1, G1⟩
  case round =>
    clear R1 C1 G1 hj
    obtain ⟨k, l, rfl, HL, HG, RX, CX, GX⟩ := hrel
    obtain ⟨Ao, co, rfl, _, _⟩ := RX.out.shape
    rcases k with _ | k
    · go_wp2
      go_ret
      exact ⟨_, l, rfl, RX.out, HG.out, by have := HL.out; omega, CX.out, GX.out⟩
    · have i1 : (0 : Int) < (k : Int) + 1 := by omega
      have i2 : IntKind.i64.wrap ((k : Int) + 1 - 1) = (k : Int) := by rw [IntKind.wrap_i64]; have := HL.out; omega
      have i3 : IntKind.i64.wrap (k : Int) = (k : Int) := by rw [IntKind.wrap_i64]; have := HL.out; omega
      by_cases hl0 : 0 < l.length
      · have hl1 : (0 : Int) < (l.length : Int) := by omega
        go_wp2_with fail
        refine (l1Once_any p 4 _ CX.out (by omega) (by omega)).mono ?_
        rintro r wu ⟨y, rfl, c2, g2⟩
        replace RX := Lib.hid (RX.out.farP g2 hlt)
        replace CX := Lib.hid c2
        replace GX := Lib.hid (only_trans GX.out g2)
        clear c2 g2
        cases y
        · go_wp2_with fail
          refine (l1Below_any p (l.length : Int) _ CX.out (by omega) (by have := HL.out; omega)).mono ?_
          rintro r wv ⟨j3, hj3, rfl, c2, g2⟩
          replace RX := Lib.hid (RX.out.farP g2 hlt)
          replace CX := Lib.hid c2
          replace GX := Lib.hid (only_trans GX.out g2)
          clear c2 g2
          have hj4 : j3 < l.length := by omega
          obtain ⟨b, off, hA, hbb, hcc⟩ := RX.out.owns.reads.ages hj4
          subst hA
          obtain ⟨c3, c4⟩ := hcc j3 hj4
          have j5 : (0 : Int) ≤ (j3 : Int) := by omega
          clear hcc
          go_upto_region 8 with (fail)
          clear c3 c4
          go_wp2_with fail
          refine (l1Below_any p 8 _ CX.out (by omega) (by omega)).mono ?_
          rintro r wy ⟨j2, hj2, rfl, c2, g2⟩
          have R2 := Lib.hid (RX.out.farP g2 hlt)
          have C2 := Lib.hid c2
          have G2 := Lib.hid (only_trans GX.out g2)
          clear c2 g2 RX CX GX
          go_wp2_with fail
          refine (specNewAge_any _ l (1 + (j2 : Int)) (l[j3]).a _ R2.out.owns.reads (by have := HL.out; omega)).mono ?_
          rintro r wz ⟨v3, rfl, o3, b3⟩
          have R3 := Lib.hid (o3.mono (base' := w.heap.size) G2.out.size)
          have C3 := Lib.hid (C2.out.on b3)
          have G3 := Lib.hid (grown_onG G2.out (b3.mono G2.out.size))
          have L3 := Lib.hid (show (newK l (1 + (j2 : Int)) (l[j3]).a).length + k ≤ 7 by have := newK_len l (1 + (j2 : Int)) (l[j3]).a; have := HL.out; omega)
          have GG := Lib.hid (HG.out.new (d := 1 + (j2 : Int)) (f := (l[j3]).a) (by omega))
          clear o3 b3 R2 C2 G2
          go_wp2
          go_roundw
          case rel => exact ⟨k, newK l (1 + (j2 : Int)) (l[j3]).a, by go_num, L3, GG, R3, C3, G3⟩
          case measure => simp [intOf]
        · have hf0 : Hid True := Lib.hid trivial
          clear hf0
          go_wp2_with fail
          refine (l1Below_any p 8 _ CX.out (by omega) (by omega)).mono ?_
          rintro r wy ⟨j2, hj2, rfl, c2, g2⟩
          have R2 := Lib.hid (RX.out.farP g2 hlt)
          have C2 := Lib.hid c2
          have G2 := Lib.hid (only_trans GX.out g2)
          clear c2 g2 RX CX GX
          go_wp2_with fail
          refine (specNewAge_any _ l (1 + (j2 : Int)) 0 _ R2.out.owns.reads (by have := HL.out; omega)).mono ?_
          rintro r wz ⟨v3, rfl, o3, b3⟩
          have R3 := Lib.hid (o3.mono (base' := w.heap.size) G2.out.size)
          have C3 := Lib.hid (C2.out.on b3)
          have G3 := Lib.hid (grown_onG G2.out (b3.mono G2.out.size))
          have L3 := Lib.hid (show (newK l (1 + (j2 : Int)) 0).length + k ≤ 7 by have := newK_len l (1 + (j2 : Int)) 0; have := HL.out; omega)
          have GG := Lib.hid (HG.out.new (d := 1 + (j2 : Int)) (f := 0) (by omega))
          clear o3 b3 R2 C2 G2
          go_wp2
          go_roundw
          case rel => exact ⟨k, newK l (1 + (j2 : Int)) 0, by go_num, L3, GG, R3, C3, G3⟩
          case measure => simp [intOf]
      · have hl1 : decide (0 < l.length) = false := decide_eq_false hl0
        go_wp2_with fail
        refine (l1Below_any p 8 _ CX.out (by omega) (by omega)).mono ?_
        rintro r wy ⟨j2, hj2, rfl, c2, g2⟩
        have R2 := Lib.hid (RX.out.farP g2 hlt)
        have C2 := Lib.hid c2
        have G2 := Lib.hid (only_trans GX.out g2)
        clear c2 g2 RX CX GX
        go_wp2_with fail
        refine (specNewAge_any _ l (1 + (j2 : Int)) 0 _ R2.out.owns.reads (by have := HL.out; omega)).mono ?_
        rintro r wz ⟨v3, rfl, o3, b3⟩
        have R3 := Lib.hid (o3.mono (base' := w.heap.size) G2.out.size)
        have C3 := Lib.hid (C2.out.on b3)
        have G3 := Lib.hid (grown_onG G2.out (b3.mono G2.out.size))
        have L3 := Lib.hid (show (newK l (1 + (j2 : Int)) 0).length + k ≤ 7 by have := newK_len l (1 + (j2 : Int)) 0; have := HL.out; omega)
        have GG := Lib.hid (HG.out.new (d := 1 + (j2 : Int)) (f := 0) (by omega))
        clear o3 b3 R2 C2 G2
        go_wp2
        go_roundw
        case rel => exact ⟨k, newK l (1 + (j2 : Int)) 0, by go_num, L3, GG, R3, C3, G3⟩
        case measure => simp [intOf]
end Go.Proofs.Ythopkhpiikiknaa
namespace Go.Proofs.Ythopkhpiikiknaa
open Go.RowKit
set_option maxRecDepth 100000
set_option linter.unusedSimpArgs false
set_option linter.unusedVariables false

theorem RowG.keepG {w w' : World} {base : Nat} {v : Value} {l : List AgeD} (h : RowG w base v l) (hk : ∀ b, base ≤ b → b < w.heap.size → w'.heap[b]? = w.heap[b]?) : RowG w' base v l :=
  row_keep (h : w.ownsRow _ _ _ _ _ _) (fun g hg => hk g (row_lt (h : w.ownsRow _ _ _ _ _ _) g hg).2 (row_lt (h : w.ownsRow _ _ _ _ _ _) g hg).1)
def DSight (w : World) (e : Ending) (w' : World) : Prop := ∃ vl vn lo ts v l, ∃ p d : Int, e = .returned (.tuple #[.agg #[vl, vn], v, .int .i64 p, .int .i64 d]) ∧ TreeS w' (fun b => w.heap.size ≤ b) vl vn lo ts ∧ treeOkB lo ts = true ∧ RowG w' w.heap.size v l ∧ GoodG l ∧ l.length ≤ 7 ∧ (0 ≤ p ∧ p ≤ 11) ∧ (1 ≤ d ∧ d ≤ 8) ∧ Below w.heap.size w w'
set_option maxHeartbeats 4000000 in
theorem drawSight_any (A : Option Addr) (cap : Nat) (l : List UInt8) (w : World) (hr : Rd w w.heap.size A l) (hn : l.length ≤ 1048576) : Calls Try.prog 9 #[.slice A l.length cap] w (DSight w) := by
  have B0 := bal1 w (.cells #[.slice none 0 0, .slice none 0 0] 27)
  have HB := Lib.hid B0
  have Q0 := Lib.hid (al1 w (.cells #[.slice none 0 0, .slice none 0 0] 27))
  have HR := Lib.hid (hr.on B0)
  have HZ : Hid ((w.alloc (.cells #[.slice none 0 0, .slice none 0 0] 27)).heap.size = w.heap.size + 1) := Lib.hid (by simp)
  clear hr B0
  go_enter Try.func9, Try.ntmps9
  go_upto_region 1 with (fail)
  generalize w.alloc (.cells #[.slice none 0 0, .slice none 0 0] 27) = W at *
  have hz1 := Nat.le_of_eq HZ.out
  have hz2 := Nat.le_of_eq HZ.out.symm
  clear HZ
  go_wp2_with fail
  refine (l1New_any _ _ l _ HR.out hn).mono ?_
  rintro r w1 ⟨p, rfl, c1, hp, b1⟩
  have Q2 := Lib.hid (box_on Q0.out b1)
  have B1 := Lib.hid (bstep HB.out b1)
  have hz3 := b1.size
  have hlt := c1.lt
  clear b1 Q0 HR
  go_wp2_with fail
  refine (l1Size_any _ _ _ 40 _ hn (by omega)).mono ?_
  rintro r _ ⟨⟨k, hk, rfl⟩, rfl⟩
  have i1 : IntKind.i64.wrap (10 + (k : Int)) = 10 + (k : Int) := by rw [IntKind.wrap_i64]; omega
  have i2 : (10 : Int) + (k : Int) = ((10 + k : Nat) : Int) := by omega
  have HDR : Hid (Calls Try.prog 38 #[.pointer (some ⟨p, 0, none⟩), .int .i64 (10 + (k : Int))] w1 (ATree w1 p)) := Lib.hid (by rw [i2]; exact l6Draw_any p (10 + k) w1 c1 (by omega))
  clear i2
  go_wp2_with fail
  refine HDR.out.mono ?_
  rintro r w2 ⟨vl, vn, lo, ts, rfl, o2, hok, c2, g2⟩
  obtain ⟨A1, e1, B1', d1, rfl, rfl⟩ := o2.reads.shape
  have QO := Lib.hid (al1 w2 (.cells #[.slice A1 lo.length e1, .slice B1' ts.length d1] 27))
  have OU := Lib.hid (o2.lt.on (bal1 w2 (.cells #[.slice A1 lo.length e1, .slice B1' ts.length d1] 27)))
  have CC := Lib.hid (c2.alloc (.cells #[.slice A1 lo.length e1, .slice B1' ts.length d1] 27))
  have Q3 := Lib.hid (box_on (box_grows Q2.out g2 (by omega)) (bal1 w2 (.cells #[.slice A1 lo.length e1, .slice B1' ts.length d1] 27)))
  have B2 := Lib.hid (bstep (below_of_only B1.out g2 (by omega)) (bal1 w2 (.cells #[.slice A1 lo.length e1, .slice B1' ts.length d1] 27)))
  have hz4 := g2.size
  have hz5 : w2.heap.size + 1 ≤ (w2.alloc (.cells #[.slice A1 lo.length e1, .slice B1' ts.length d1] 27)).heap.size := by simp
  have HOK := Lib.hid hok
  clear o2 c2 g2 hok c1 Q2 B1 HDR
  go_upto_region 3 with (fail)
  generalize w2.alloc (.cells #[.slice A1 lo.length e1, .slice B1' ts.length d1] 27) = W2 at *
  go_wp2_with fail
  refine (l7Draw_any p _ CC.out).mono ?_
  rintro r w3 ⟨v3, ll, rfl, o3, hG, hl7, c3, g3⟩
  obtain ⟨A3, e3, rfl, _, _⟩ := o3.shape
  have HG := Lib.hid hG
  have R3 := Lib.hid o3
  have CD := Lib.hid c3
  have O3 := Lib.hid (OU.out.keep (w' := w3) (fun b hb hl => g3.block b hl (fun e => by injection e with e; have := hb.1; omega)))
  have Q4 := Lib.hid (box_grows Q3.out g3 (by omega))
  have Q6 : Hid (w3.drew.heap[w2.heap.size]? = some (.cells #[.slice A1 lo.length e1, .slice B1' ts.length d1] 27 (0, 0))) := Lib.hid (show w3.heap[w2.heap.size]? = some (.cells #[.slice A1 lo.length e1, .slice B1' ts.length d1] 27 (0, 0)) from box_grows QO.out g3 (by omega))
  have B3 := Lib.hid (below_of_only B2.out g3 (by omega))
  have hz6 := g3.size
  clear o3 hG c3 g3 OU Q3 B2 QO CC
  go_upto_region 4 with (fail)
  refine but_begin (f := 10) (S := fun V => V.heap[w2.heap.size]? = some (.cells #[.slice A1 lo.length e1, .slice B1' ts.length d1] 27 (0, 0))) (by kernel_rfl) ?_
  refine but_take (f := 10) (i := 0) (v := ?vd0) rfl (by kernel_rfl) (by kernel_rfl) (by kernel_rfl) (by kernel_rfl) (by kernel_rfl) (fun _ _ _ h => h) (Or.inl ⟨(by rfl), ?hyd0⟩) (Q6.out) ?restd0
  case hyd0 =>
    intro W hW
    obtain ⟨z0, z1, z2⟩ := box2 hW
    go_simp
    exact rfl
  simp only [List.getElem_toArray, List.getElem_cons_succ, List.getElem_cons_zero, Act.put, List.setIfInBounds_toArray, List.set_cons_zero, List.set_cons_succ]
  refine but_take (f := 10) (i := 1) (v := ?vd1) rfl (by kernel_rfl) (by kernel_rfl) (by kernel_rfl) (by kernel_rfl) (by kernel_rfl) (fun _ _ _ h => h) (Or.inl ⟨(by rfl), ?hyd1⟩) (Q6.out) ?restd1
  case hyd1 =>
    intro W hW
    go_simp
    exact rfl
  simp only [List.getElem_toArray, List.getElem_cons_succ, List.getElem_cons_zero, Act.put, List.setIfInBounds_toArray, List.set_cons_zero, List.set_cons_succ]
  refine but_take (f := 10) (i := 2) (v := ?vd2) rfl (by kernel_rfl) (by kernel_rfl) (by kernel_rfl) (by kernel_rfl) (by kernel_rfl) (fun _ _ _ h => h) (Or.inl ⟨(by rfl), ?hyd2⟩) (Q6.out) ?restd2
  case hyd2 =>
    intro W hW
    go_simp
    exact rfl
  simp only [List.getElem_toArray, List.getElem_cons_succ, List.getElem_cons_zero, Act.put, List.setIfInBounds_toArray, List.set_cons_zero, List.set_cons_succ]
  refine but_take (f := 10) (i := 4) (v := ?vd4) rfl (by kernel_rfl) (by kernel_rfl) (by kernel_rfl) (by kernel_rfl) (by kernel_rfl) (fun _ _ _ h => h) (Or.inl ⟨(by rfl), ?hyd4⟩) (Q6.out) ?restd4
  case hyd4 =>
    intro W hW
    go_simp
    exact rfl
  simp only [List.getElem_toArray, List.getElem_cons_succ, List.getElem_cons_zero, Act.put, List.setIfInBounds_toArray, List.set_cons_zero, List.set_cons_succ]
  refine but_run (i := 3) (by kernel_rfl) rfl (by rfl) ?_
  simp only [List.getElem_toArray, List.getElem_cons_succ, List.getElem_cons_zero]
  intro K HK
  go_wp2_with fail
  refine (l1Below_any p 12 _ (CD.out.keep (w' := w3.drew) (fun _ _ => rfl)) (by omega) (by omega)).mono ?_
  rintro r Vd1 ⟨j1, hj1, rfl, ca, ga⟩
  go_wp2_with fail
  have hSd1 : (fun V => V.heap[w2.heap.size]? = some (.cells #[.slice A1 lo.length e1, .slice B1' ts.length d1] 27 (0, 0))) Vd1 := box_grows (Q6.out) ga (by omega)
  refine HK.out _ _ (fun _ => hSd1) ?_
  clear HK
  have GA := Lib.hid ga
  have CA := Lib.hid ca
  have hza := ga.size
  have hzw : w3.drew.heap.size = w3.heap.size := rfl
  clear ga ca
  refine but_run (i := 5) (by kernel_rfl) rfl (by rfl) ?_
  simp only [List.getElem_toArray, List.getElem_cons_succ, List.getElem_cons_zero]
  intro K HK
  go_wp2_with fail
  refine (l1Below_any p 8 _ CA.out (by omega) (by omega)).mono ?_
  rintro r Vd2 ⟨j2, hj2, rfl, cb, gb⟩
  go_wp2_with fail
  have hSd2 : (fun V => V.heap[w2.heap.size]? = some (.cells #[.slice A1 lo.length e1, .slice B1' ts.length d1] 27 (0, 0))) Vd2 := box_grows hSd1 gb (by omega)
  refine HK.out _ _ (fun _ => hSd2) ?_
  clear HK
  have GB := Lib.hid gb
  have hzb := gb.size
  clear gb cb
  refine but_take (f := 10) (i := 6) (v := ?vd6) rfl (by kernel_rfl) (by kernel_rfl) (by kernel_rfl) (by kernel_rfl) (by kernel_rfl) (fun _ _ _ h => h) (Or.inl ⟨(by rfl), ?hyd6⟩) hSd2 ?restd6
  case hyd6 =>
    intro W hW
    go_simp
    exact rfl
  simp only [List.getElem_toArray, List.getElem_cons_succ, List.getElem_cons_zero, Act.put, List.setIfInBounds_toArray, List.set_cons_zero, List.set_cons_succ]
  refine but_run (i := 7) (by kernel_rfl) rfl (by rfl) ?_
  simp only [List.getElem_toArray, List.getElem_cons_succ, List.getElem_cons_zero]
  intro K HK
  obtain ⟨y0, y1, y2⟩ := box2 (box_grows (box_grows (show w3.drew.heap[w.heap.size]? = some _ from Q4.out) GA.out (by omega)) GB.out (by omega))
  have HO := Lib.hid (only_two Vd2 w.heap.size 0 1 (.slice A1 lo.length e1) (.slice B1' ts.length d1))
  go_wp2_with fail
  have hSd3 : (fun V => V.heap[w2.heap.size]? = some (.cells #[.slice A1 lo.length e1, .slice B1' ts.length d1] 27 (0, 0))) ((Vd2.setCell ⟨w.heap.size, 0, none⟩ (.slice A1 lo.length e1)).setCell ⟨w.heap.size, 1, none⟩ (.slice B1' ts.length d1)) := box_only hSd2 HO.out (fun e => by omega)
  refine HK.out _ _ (fun _ => hSd3) ?_
  clear HK
  refine but_run (i := 8) (by kernel_rfl) rfl (by rfl) ?_
  simp only [List.getElem_toArray, List.getElem_cons_succ, List.getElem_cons_zero]
  intro K HK
  go_wp2_with fail
  have hSd4 : (fun V => V.heap[w2.heap.size]? = some (.cells #[.slice A1 lo.length e1, .slice B1' ts.length d1] 27 (0, 0))) (((Vd2.setCell ⟨w.heap.size, 0, none⟩ (.slice A1 lo.length e1)).setCell ⟨w.heap.size, 1, none⟩ (.slice B1' ts.length d1))) := hSd3
  refine HK.out _ _ (fun _ => hSd4) ?_
  clear HK
  refine but_run (i := 9) (by kernel_rfl) rfl (by rfl) ?_
  simp only [List.getElem_toArray, List.getElem_cons_succ, List.getElem_cons_zero]
  intro K HK
  go_wp2_with fail
  have hSd5 : (fun V => V.heap[w2.heap.size]? = some (.cells #[.slice A1 lo.length e1, .slice B1' ts.length d1] 27 (0, 0))) ((((Vd2.setCell ⟨w.heap.size, 0, none⟩ (.slice A1 lo.length e1)).setCell ⟨w.heap.size, 1, none⟩ (.slice B1' ts.length d1)))) := hSd4
  refine HK.out _ _ (fun _ => hSd5) ?_
  clear HK
  refine but_run (i := 10) (by kernel_rfl) rfl (by rfl) ?_
  simp only [List.getElem_toArray, List.getElem_cons_succ, List.getElem_cons_zero]
  intro K HK
  go_wp2_with fail
  refine HK.out _ _ (fun h => absurd rfl h) ?_
  clear HK
  refine but_done (by kernel_rfl) ?_
  obtain ⟨x0, x1, x2⟩ := box2 (show ((Vd2.setCell ⟨w.heap.size, 0, none⟩ (.slice A1 lo.length e1)).setCell ⟨w.heap.size, 1, none⟩ (.slice B1' ts.length d1)).heap[w.heap.size]? = some (.cells #[.slice A1 lo.length e1, .slice B1' ts.length d1] 27 (0, 0)) from box_set (i := 1) (box_set (i := 0) (box_grows (box_grows (show w3.drew.heap[w.heap.size]? = some _ from Q4.out) GA.out (by omega)) GB.out (by omega))))
  have O4 := Lib.hid (((O3.out.keep (w' := w3.drew) (fun _ _ _ => rfl)).keep (fun b hb hl => GA.out.block b hl (fun e => by injection e with e; have := hb.1; omega))).keep (fun b hb hl => GB.out.block b hl (fun e => by injection e with e; have := hb.1; omega)))
  have O5 := Lib.hid (O4.out.keep (w' := ((Vd2.setCell ⟨w.heap.size, 0, none⟩ (.slice A1 lo.length e1)).setCell ⟨w.heap.size, 1, none⟩ (.slice B1' ts.length d1))) (fun b hb hl => HO.out.block b hl (fun e => by have := hb.1; omega)))
  have R4 := Lib.hid (((R3.out.on (Below.drew1 w3)).farP GA.out (by omega)).farP GB.out (by omega))
  have R5 := Lib.hid (R4.out.keepG (w' := ((Vd2.setCell ⟨w.heap.size, 0, none⟩ (.slice A1 lo.length e1)).setCell ⟨w.heap.size, 1, none⟩ (.slice B1' ts.length d1))) (fun b hb hl => HO.out.block b hl (fun e => by omega)))
  have B5 := Lib.hid ((below_of_only (below_of_only (bstep B3.out (Below.drew1 w3)) GA.out (by omega)) GB.out (by omega)).trans (HO.out.below (by have := B3.out.size; omega) (fun b hb => by omega)))
  clear O4 R4 GA GB HO CA
  generalize ((Vd2.setCell ⟨w.heap.size, 0, none⟩ (.slice A1 lo.length e1)).setCell ⟨w.heap.size, 1, none⟩ (.slice B1' ts.length d1)) = V9 at *
  have iw : IntKind.i64.wrap (1 + (j2 : Int)) = 1 + (j2 : Int) := by rw [IntKind.wrap_i64]; omega
  go_wp2
  refine bodyPost_ret (v := .tuple #[.agg #[.slice A1 lo.length e1, .slice B1' ts.length d1], .slice A3 ll.length e3, .int .i64 (j1 : Int), .int .i64 (1 + (j2 : Int))]) (by simp [results, Try.results9, go_sem, x0, x1, x2, iw]) rfl ⟨_, _, lo, ts, _, ll, _, _, rfl, ?_, HOK.out, R5.out.mono (by omega), HG.out, hl7, ⟨by omega, by omega⟩, ⟨by omega, by omega⟩, B5.out⟩
  exact O5.out.mono (fun b hb => by have := hb.1; omega)
end Go.Proofs.Ythopkhpiikiknaa
namespace Go.Proofs.Ythopkhpiikiknaa
open Go.RowKit
set_option maxRecDepth 100000
set_option linter.unusedSimpArgs false
set_option linter.unusedVariables false

/-- The keys of a block. -/
def keysOfK (ts : List NodeD) (p : Int) : List KeyD := (treeKeysK ts).filter (fun k => k.a == p)
theorem keysOf_len (ts : List NodeD) (p : Int) : (keysOfK ts p).length ≤ sumT ts := Nat.le_trans (List.length_filter_le _ _) (treeKeys_len ts)
theorem keysOf_mem {ts : List NodeD} {p : Int} {k : KeyD} : k ∈ keysOfK ts p ↔ k ∈ treeKeysK ts ∧ k.a = p := by
  unfold keysOfK
  rw [List.mem_filter]
  simp
end Go.Proofs.Ythopkhpiikiknaa
namespace Go.Proofs.Ythopkhpiikiknaa
open Go.RowKit
set_option maxRecDepth 100000
set_option linter.unusedSimpArgs false
set_option linter.unusedVariables false

def layA : Array Value → Nat → List Value → Array Value
  | a, _, [] => a
  | a, o, v :: r => layA (a.setIfInBounds o v) (o + 1) r
theorem layA_size (vs : List Value) : ∀ (a : Array Value) (o : Nat), (layA a o vs).size = a.size := by
  induction vs with
  | nil => intro a o; rfl
  | cons v r ih => intro a o; rw [layA, ih]; simp
theorem layA_list (vs : List Value) : ∀ (a : Array Value) (o : Nat), o + vs.length ≤ a.size → (layA a o vs).toList = a.toList.take o ++ (vs ++ a.toList.drop (o + vs.length)) := by
  induction vs with
  | nil => intro a o h; simp [layA]
  | cons v r ih =>
    intro a o h
    simp only [List.length_cons] at h
    rw [layA, ih _ _ (by simp; omega), Array.toList_setIfInBounds, List.take_succ_eq_append_getElem (by simp; omega), List.take_set_of_le (Nat.le_refl _), List.getElem_set_self, List.drop_set_of_lt (by omega)]
    simp only [List.length_cons, List.append_assoc, List.singleton_append, List.cons_append, List.nil_append]
    rw [show o + 1 + r.length = o + (r.length + 1) by omega]
theorem heap_lay (g : Nat) (t : TypeId) (vs : List Value) : ∀ (w : World) (a : Array Value) (o : Nat), w.heap[g]? = some (.cells a t (0, 0)) → (w.setCells g o vs).heap[g]? = some (.cells (layA a o vs) t (0, 0)) := by
  induction vs with
  | nil => intro w a o h; exact h
  | cons v r ih => intro w a o h; exact ih _ _ _ (heap_setCell_same w g o a _ _ h)
theorem below_lay {B g : Nat} (hg : B ≤ g) (vs : List Value) : ∀ (a w : World) (o : Nat), Below B a w → Below B a (w.setCells g o vs) := by
  induction vs with
  | nil => intro a w o h; exact h
  | cons v r ih => intro a w o h; exact ih _ _ _ (h.setCell (p := ⟨g, o, none⟩) hg _)
end Go.Proofs.Ythopkhpiikiknaa
namespace Go.Proofs.Ythopkhpiikiknaa
open Go.RowKit
set_option maxRecDepth 100000
set_option linter.unusedSimpArgs false
set_option linter.unusedVariables false

theorem RowV.age {w : World} {g n j : Nat} {e : TypeId} {l : List AgeD} (h : RowV w g (n * 2) e (gvl l)) (hj : l.length = j) (hk : j < n) (k : AgeD) :
    RowV ((w.setCell ⟨g, j * 2, none⟩ (.int .i64 k.a)).setCell ⟨g, j * 2 + 1, none⟩ (.int .i64 k.b)) g (n * 2) e (gvl (l ++ [k])) := by
  have hl := gvl_len l
  rw [hj] at hl
  have h1 := h.step (by omega) (.int .i64 k.a)
  have h2 := h1.step (by simp; omega) (.int .i64 k.b)
  simp only [List.length_append, List.length_singleton, hl, List.append_assoc] at h2
  rw [gvl_append, gvl_one]
  exact h2
theorem RowV.rowG {w : World} {g n : Nat} {l : List AgeD} (h : RowV w g (n * 2) 84 (gvl l)) (hl : l.length = n) (hn : n ≤ 2097152) : RowG w g (.slice (some ⟨g, 0, none⟩) n n) l := by
  obtain ⟨cur, hg, hs, hl2, ht⟩ := h
  subst hl
  refine ⟨gvl_len l, .inr ⟨g, l.length, cur, rfl, Nat.le_refl _, hg, Nat.le_refl _, by unfold maxLen; omega, hs, ?_⟩⟩
  rw [← gvl_len l]
  exact ht
theorem Two.and {w : World} {b o : Nat} {k : AgeD} (h : Two w b o k) {P : Prop} (p : P) : w.cell? ⟨b, o, none⟩ = some (.int .i64 k.a) ∧ w.cell? ⟨b, o + 1, none⟩ = some (.int .i64 k.b) ∧ P := ⟨h.1, h.2, p⟩
theorem gvl_set (l : List AgeD) (i : Nat) (k : AgeD) (h : i < l.length) : gvl (l.set i k) = ((gvl l).set (i * 2) (.int .i64 k.a)).set (i * 2 + 1) (.int .i64 k.b) := by
  induction l generalizing i with
  | nil => simp at h
  | cons x l ih =>
    cases i with
    | zero => simp [gvl_cons, gX]
    | succ i =>
      have h := ih i (by simpa using h)
      rw [List.set_cons_succ, gvl_cons, h, gvl_cons, show (i + 1) * 2 = i * 2 + 1 + 1 by omega]
      simp [gX]
/-- Block g of w holds the versions l in a row of room for cap. -/
def RwG (w : World) (g cap : Nat) (l : List AgeD) : Prop := Rw w g 84 2 l.length cap (gvl l)
theorem RwG.two {w : World} {g cap : Nat} {l : List AgeD} (h : RwG w g cap l) {i : Nat} (hi : i < l.length) : ∀ j, j < 2 → ∃ v, w.cell? ⟨g, i * 2 + j, none⟩ = some v := by
  intro j hj
  have hl := gvl_len l
  exact ⟨_, Rw.cell h (i := i * 2 + j) (by omega)⟩
theorem RwG.set {w : World} {g cap : Nat} {l : List AgeD} (h : RwG w g cap l) {i : Nat} (hi : i < l.length) (k : AgeD) : RwG ((w.setCell ⟨g, i * 2, none⟩ (.int .i64 k.a)).setCell ⟨g, i * 2 + 1, none⟩ (.int .i64 k.b)) g cap (l.set i k) := by
  have h5 := (Rw.set h (i * 2) (.int .i64 k.a)).set (i * 2 + 1) (.int .i64 k.b)
  unfold RwG
  rw [List.length_set, gvl_set l i k hi]
  exact h5
theorem RwG.owns {w : World} {S : Nat → Prop} {g cap : Nat} {l : List AgeD} (h : RwG w g cap l) (hS : S g) (hn : l.length ≤ cap) (hc : cap ≤ maxLen) : Owns w S (.slice (some ⟨g, 0, none⟩) l.length cap) (agesD l) :=
  Rw.owns h hS (by rw [gC_map]; exact lits_own _ _ _) hn hc (ages_len l)
theorem os2 {S : Nat → Prop} {w w1 : World} {g i : Nat} {u1 u2 : Value} (h : Only S w w1) (hg : S g) : Only S w ((w1.setCell ⟨g, i, none⟩ u1).setCell ⟨g, i + 1, none⟩ u2) :=
  (h.setCell hg _).setCell hg _
end Go.Proofs.Ythopkhpiikiknaa
namespace Go.Proofs.Ythopkhpiikiknaa
open Go.RowKit
set_option maxRecDepth 100000
set_option linter.unusedSimpArgs false
set_option linter.unusedVariables false

theorem ageAt_has {l : List AgeD} {d : Int} (h : hasG l d = true) : ageI l d < l.length ∧ ageAtK l d = (ageI l d : Int) := by
  have h1 : ageI l d < l.length := of_decide_eq_true h
  exact ⟨h1, by rw [ageAtK, if_pos h1]⟩
end Go.Proofs.Ythopkhpiikiknaa
namespace Go.Proofs.Ythopkhpiikiknaa
open Go.RowKit
set_option maxRecDepth 100000
set_option linter.unusedSimpArgs false
set_option linter.unusedVariables false

/-- The way up from version d: at most n versions. -/
def pathGo (l : List AgeD) : Nat → Int → List Int
  | 0, _ => []
  | n + 1, d => if hasG l d then d :: (if parG l d == 0 then [] else pathGo l n (parG l d)) else []
def pathK (l : List AgeD) (d : Int) : List Int := pathGo l (l.length + 1) d
theorem pathGo_no {l : List AgeD} {d : Int} (h : hasG l d = false) (n : Nat) : pathGo l n d = [] := by
  cases n with
  | zero => rfl
  | succ n => rw [pathGo, h]; rfl
theorem pathGo_yes {l : List AgeD} {d : Int} (h : hasG l d = true) (n : Nat) : pathGo l (n + 1) d = d :: (if parG l d == 0 then [] else pathGo l n (parG l d)) := by
  rw [pathGo, h]; rfl
theorem pathGo_len (l : List AgeD) (n : Nat) (d : Int) : (pathGo l n d).length ≤ n := by
  induction n generalizing d with
  | zero => simp [pathGo]
  | succ n ih =>
    rw [pathGo]
    split
    · split
      · simp
      · have := ih (parG l d)
        simp only [List.length_cons]
        omega
    · simp
theorem pathK_len (l : List AgeD) (d : Int) : (pathK l d).length ≤ l.length + 1 := pathGo_len l _ d
theorem parG_at {l : List AgeD} {d : Int} (h : ageI l d < l.length) : parG l d = (l[ageI l d]).b := by
  unfold parG
  rw [List.getElem?_eq_getElem h]
def lenV : Value → Nat
  | .slice _ n _ => n
  | _ => 0
set_option maxHeartbeats 4000000 in
theorem implPathOf_any (v : Value) (l : List AgeD) (d : Int) (w : World) (hv : Reads w w.heap.size v (agesD l)) (hn : l.length ≤ 2000000) : Calls Try.prog 43 #[v, .int .i64 d] w (NewI w (pathK l d)) := by
  obtain ⟨A, c, rfl, _, _⟩ := hv.shapeG
  have HV := Lib.hid hv
  obtain ⟨R, hR⟩ : ∃ R, pathK l d = R := ⟨_, rfl⟩
  rw [hR]
  unfold pathK at hR
  have HR := Lib.hid hR
  have b0 := bal1 w (.cells #[] 3)
  have G0 := Lib.hid (show GrowI w _ _ [] from ⟨RowI.lit w, b0⟩)
  have HV0 := Lib.hid (hv.on b0)
  clear hv hR b0
  go_enter Try.func43, Try.ntmps43
  go_wp2
  go_step3
  go_wp2
  go_step3
  generalize w.alloc (.cells #[] 3) = w0 at *
  go_wp2_with fail
  refine (implAgeAt_any _ l d _ HV0.out (by omega)).mono ?_
  rintro e w1 ⟨rfl, b1⟩
  have G1 := Lib.hid (show GrowI w w1 _ [] from ⟨G0.out.1.on b1, bstep G0.out.2 b1⟩)
  clear G0 HV0 b1
  go_wp2
  go_loopw [5, 6] (fun o i wr => ∃ (m : List Int) (e : Int), i = .int .i64 (ageAtK l e) ∧ Hid (m.length ≤ l.length) ∧ Hid (m ++ pathGo l (l.length + 1 - m.length) e = R) ∧ Hid (GrowI w wr o m)) (fun o _ _ => l.length + 1 - lenV o)
  case atStart => exact ⟨[], d, rfl, Lib.hid (Nat.zero_le _), Lib.hid (by simpa using HR.out), G1⟩
  case round =>
    clear G1
    obtain ⟨m, e, rfl, HM, HI, HX⟩ := hrel
    obtain ⟨hrow, hb⟩ := HX.out
    obtain ⟨Ao, co, rfl, _, _⟩ := hrow.shape
    have hgeq := ageAt_geq l e
    cases hh : hasG l e
    · rw [hh] at hgeq
      have hRe : R = m := by rw [← HI.out, pathGo_no hh, List.append_nil]
      subst hRe
      generalize ageAtK l e = q at *
      have hq : decide (0 ≤ q) = false := hgeq
      clear hrow hb hh hgeq
      go_wp2
      go_ret
      exact ⟨_, rfl, HX.out.1, HX.out.2⟩
    · obtain ⟨hN, hq0⟩ := ageAt_has hh
      have hpar := parG_at hN
      have hget := ageI_get hN
      obtain ⟨b, off, rfl, hbb, hc⟩ := (HV.out.on hb).ages hN
      have hml := HM.out
      have hfu := HI.out
      rw [show l.length + 1 - m.length = (l.length - m.length) + 1 by omega, pathGo_yes hh, hpar] at hfu
      have HFU := Lib.hid hfu
      obtain ⟨c0, c1⟩ := hc _ hN
      rw [hq0]
      rw [hget] at c0
      have FK := Lib.hid (And.intro c0 c1)
      clear hc hgeq hh hq0 hpar hget hfu
      generalize ageI l e = N at *
      obtain ⟨f, hf⟩ : ∃ f, (l[N]).b = f := ⟨_, rfl⟩
      rw [hf] at HFU FK c1
      clear hf
      have i1 : (N : Int) < (l.length : Int) := by omega
      have i2 : (0 : Int) ≤ (N : Int) := by omega
      have HAt := Lib.hid (At.intOne wr e 3)
      have ba := bal1 wr (.cells #[.int .i64 e] 3)
      have HRow := Lib.hid (hrow.on ba)
      have HB2 := Lib.hid (hb.trans (ba.mono hb.size))
      have HZ := Lib.hid HB2.out.size
      clear ba HX
      go_upto_region 6 with (at_builtin; refine wpList_appI _ rfl (.tmp 20) (.tmp 26) rfl w.heap.size _ m rfl HRow.out (some ⟨wr.heap.size, 0, none⟩) 1 1 [e] rfl rfl HAt.out (by simp; omega) HZ.out ?_; intro v2 w2 o2 b2; clear HRow HAt)
      have hb2 := HB2.out.trans b2
      obtain ⟨m2, hm2⟩ : ∃ m2, m ++ [e] = m2 := ⟨_, rfl⟩
      rw [hm2] at o2
      have hl2 : m2.length = m.length + 1 := by rw [← hm2]; simp
      obtain ⟨A2, e2, rfl, _, _⟩ := o2.shape
      have HL2 := Lib.hid hl2
      have HG2 := Lib.hid (show GrowI w w2 _ m2 from ⟨o2, hb2⟩)
      have hbw2 : b < w.heap.size := by
        obtain ⟨b', off', he, hbb', _⟩ := HV.out.ages hN
        cases he
        exact hbb'
      have F2 : Hid (w2.cell? ⟨b, off + N * 2, none⟩ = some (.int .i64 e) ∧ w2.cell? ⟨b, off + N * 2 + 1, none⟩ = some (.int .i64 f)) := Lib.hid ⟨(World.cell?_of_block (a := ⟨b, off + N * 2, none⟩) ((hb2.block b hbw2).trans (hb.block b hbw2).symm)).trans FK.out.1, (World.cell?_of_block (a := ⟨b, off + N * 2 + 1, none⟩) ((hb2.block b hbw2).trans (hb.block b hbw2).symm)).trans FK.out.2⟩
      have HMM := Lib.hid hm2
      clear c0 c1 hrow hb hb2 b2 o2 HB2 HZ FK hm2 hl2 HI HM
      obtain ⟨c0, c1⟩ := F2.out
      cases hz : (f == 0)
      · rw [hz] at HFU
        simp only [Bool.false_eq_true, if_false] at HFU
        by_cases hfull : l.length < m2.length
        · have d1 : decide (l.length < m2.length) = true := decide_eq_true hfull
          have hRe : R = m2 := by
            have h0 : l.length - m.length = 0 := by have := HL2.out; omega
            rw [← HFU.out, h0, pathGo, HMM.out]
          subst hRe
          clear hml hfull
          go_wp2
          go_ret
          exact ⟨_, rfl, HG2.out.1, HG2.out.2⟩
        · have d1 : decide (l.length < m2.length) = false := decide_eq_false hfull
          have HM2 : Hid (m2.length ≤ l.length) := Lib.hid (by omega)
          have HI2 : Hid (m2 ++ pathGo l (l.length + 1 - m2.length) f = R) := Lib.hid (by rw [show l.length + 1 - m2.length = l.length - m.length by have := HL2.out; omega, ← HFU.out, ← HMM.out]; simp)
          have HVW := Lib.hid (HV.out.on HG2.out.2)
          have HME : Hid (l.length + 1 - m2.length < l.length + 1 - m.length) := Lib.hid (by have := HL2.out; omega)
          clear hml hfull
          go_wp2_with fail
          refine (implAgeAt_any _ l f _ HVW.out (by omega)).mono ?_
          rintro r w3 ⟨rfl, b3⟩
          have G3 := Lib.hid (show GrowI w w3 _ m2 from ⟨HG2.out.1.on b3, bstep HG2.out.2 b3⟩)
          clear b3 c0 c1 d1
          go_wp2
          go_roundw
          case rel => exact ⟨m2, f, rfl, HM2, HI2, G3⟩
          case measure => simp only [lenV]; exact HME.out
      · rw [hz] at HFU
        simp only [if_true] at HFU
        have hRe : R = m2 := by rw [← HFU.out, HMM.out]
        subst hRe
        clear hml
        go_wp2
        go_ret
        exact ⟨_, rfl, HG2.out.1, HG2.out.2⟩
theorem take_no {l : List Int} {k : Nat} {x : Int} (hk : k < l.length) (h : x ∉ l.take k) (hs : (x == l[k]) = false) : x ∉ l.take (k + 1) := by
  rw [List.take_succ_eq_append_getElem hk]
  intro hm
  rcases List.mem_append.1 hm with hm | hm
  · exact h hm
  · simp at hm
    simp [hm] at hs
theorem index_any (v : Value) (l : List Int) (x : Int) (w : World) (hv : Reads w w.heap.size v (intsD l)) (hn : l.length ≤ 2097152) : Calls Try.prog 82 #[v, .int .i64 x] w fun e w' => ∃ n : Int, e = .returned (.int .i64 n) ∧ decide (0 ≤ n) = decide (x ∈ l) ∧ w = w' := by
  obtain ⟨A, c, rfl, _, _⟩ := hv.lenN
  have HV := Lib.hid hv
  clear hv
  go_enter Try.func82, Try.ntmps82
  go_wp2
  go_loop [5, 8] (fun _ i => ∃ k : Nat, k ≤ l.length ∧ i = .int .i64 k ∧ Hid (x ∉ l.take k)) (fun _ i => l.length - (intOf i).toNat)
  case atStart => exact ⟨0, Nat.zero_le _, rfl, Lib.hid (by simp)⟩
  case round =>
    obtain ⟨k, hk, rfl, HI⟩ := hrel
    by_cases hlt : k < l.length
    · obtain ⟨b, off, rfl, hbb, hc⟩ := HV.out.int hlt
      have c0 := hc k hlt
      unfold iV at c0
      have i1 : (k : Int) < (l.length : Int) := by omega
      have i2 : (0 : Int) ≤ (k : Int) := by omega
      clear hc
      cases hs : (x == l[k])
      · have HS := Lib.hid hs
        go_wp2
        go_round
        case rel => exact ⟨k + 1, by omega, by go_num, Lib.hid (take_no hlt HI.out HS.out)⟩
        case measure => simp [intOf]; omega
      · have HS := Lib.hid hs
        go_wp2
        go_ret
        refine ⟨_, rfl, ?_, rfl⟩
        have h1 : x ∈ l := by
          have := HS.out
          simp at this
          rw [this]
          exact List.getElem_mem hlt
        exact ⟨fun _ => h1, fun _ => by omega⟩
    · go_wp2
      go_ret
      refine ⟨_, rfl, ?_, rfl⟩
      have h1 : x ∉ l := by
        have := HI.out
        rw [show k = l.length by omega, List.take_length] at this
        exact this
      exact ⟨fun h => by omega, fun h => absurd h h1⟩
theorem contains_any (v : Value) (l : List Int) (x : Int) (w : World) (hv : Reads w w.heap.size v (intsD l)) (hn : l.length ≤ 2097152) : Calls Try.prog 53 #[v, .int .i64 x] w fun e w' => e = .returned (.bool (decide (x ∈ l))) ∧ w = w' := by
  obtain ⟨A, c, rfl, _, _⟩ := hv.lenN
  have HV := Lib.hid hv
  obtain ⟨R, hR⟩ : ∃ R, decide (x ∈ l) = R := ⟨_, rfl⟩
  rw [hR]
  have HR := Lib.hid hR
  clear hv hR
  go_enter Try.func53, Try.ntmps53
  go_wp2_with fail
  refine (index_any _ l x _ HV.out hn).mono ?_
  rintro e w1 ⟨n, rfl, hq, rfl⟩
  rw [HR.out] at hq
  cases R
  all_goals
    go_wp2
    go_ret
    exact ⟨rfl, rfl⟩
def fromB (l : List AgeD) (o d : Int) : Bool := decide (o ∈ pathK l d)
theorem implIsFrom_any (v : Value) (l : List AgeD) (o d : Int) (w : World) (hv : Reads w w.heap.size v (agesD l)) (hn : l.length ≤ 2000000) : Calls Try.prog 16 #[v, .int .i64 o, .int .i64 d] w (SaysBool w (fromB l o d)) := by
  obtain ⟨A, c, rfl, _, _⟩ := hv.shapeG
  have HV := Lib.hid hv
  clear hv
  go_enter Try.func16, Try.ntmps16
  go_wp2_with fail
  refine (implPathOf_any _ l d _ HV.out hn).mono ?_
  rintro e w1 ⟨v1, rfl, o1, b1⟩
  obtain ⟨A1, c1, rfl, _, _⟩ := o1.shape
  have O1 := Lib.hid o1
  have B1 := Lib.hid b1
  clear o1 b1
  go_wp2_with fail
  refine (contains_any _ (pathK l d) o _ O1.out.owns.reads (by have := pathK_len l d; omega)).mono ?_
  rintro e w2 ⟨rfl, rfl⟩
  go_wp2
  go_ret
  exact ⟨rfl, B1.out⟩
end Go.Proofs.Ythopkhpiikiknaa
namespace Go.Proofs.Ythopkhpiikiknaa
open Go.RowKit
set_option maxRecDepth 100000
set_option linter.unusedSimpArgs false
set_option linter.unusedVariables false

/-- A valid list of versions. -/
structure VP (l : List AgeD) : Prop where
  asc : l.Pairwise (fun x y => x.a < y.a)
  fit : ∀ x ∈ l, 1 ≤ x.a ∧ x.a ≤ 60 ∧ (x.b = 0 ∨ ∃ y ∈ l, y.a = x.b ∧ y.a < x.a)
  len : l.length ≤ 16
theorem has_iff {l : List AgeD} {d : Int} : hasG l d = true ↔ ∃ y ∈ l, y.a = d := by
  unfold hasG ageI
  rw [decide_eq_true_iff, List.findIdx_lt_length]
  simp
theorem has_no {l : List AgeD} {d : Int} (h : ∀ y ∈ l, y.a ≠ d) : hasG l d = false := by
  rw [Bool.eq_false_iff]
  intro h2
  obtain ⟨y, hy, e⟩ := has_iff.1 h2
  exact h y hy e
theorem asc_lt {l : List AgeD} (h : l.Pairwise (fun x y => x.a < y.a)) {i j : Nat} (hi : i < l.length) (hj : j < l.length) (hij : i < j) : (l[i]).a < (l[j]).a := List.pairwise_iff_getElem.1 h i j hi hj hij
theorem asc_idx {l : List AgeD} (h : l.Pairwise (fun x y => x.a < y.a)) {i j : Nat} (hi : i < l.length) (hj : j < l.length) (hlt : (l[i]).a < (l[j]).a) : i < j := by
  rcases Nat.lt_trichotomy i j with h1 | h1 | h1
  · exact h1
  · subst h1
    omega
  · have := asc_lt h hj hi h1
    omega
theorem asc_same {l : List AgeD} (h : l.Pairwise (fun x y => x.a < y.a)) {x y : AgeD} (hx : x ∈ l) (hy : y ∈ l) (he : x.a = y.a) : x = y := by
  obtain ⟨i, hi, rfl⟩ := List.getElem_of_mem hx
  obtain ⟨j, hj, rfl⟩ := List.getElem_of_mem hy
  rcases Nat.lt_trichotomy i j with h1 | h1 | h1
  · have := asc_lt h hi hj h1
    omega
  · subst h1
    rfl
  · have := asc_lt h hj hi h1
    omega
theorem rise_asc {l : List AgeD} (h : riseG l = true) : l.Pairwise (fun x y => x.a < y.a) := by
  have h1 := of_decide_eq_true h
  rw [List.pairwise_iff_getElem]
  intro i j hi hj hij
  obtain ⟨n, rfl⟩ : ∃ n, j = i + 1 + n := ⟨j - (i + 1), by omega⟩
  clear hij
  induction n with
  | zero => exact h1 i (by omega)
  | succ n ih =>
    have h2 := ih (by omega)
    have h3 := h1 (i + 1 + n) (by omega)
    exact Int.lt_trans h2 h3
theorem ok_vp {l : List AgeD} (h : agesOkB l = true) : VP l := by
  simp only [agesOkB, Bool.and_eq_true, decide_eq_true_iff] at h
  obtain ⟨⟨h1, h2⟩, h3⟩ := h
  have ha := rise_asc h2
  refine ⟨ha, fun x hx => ?_, h3⟩
  obtain ⟨i, hi, rfl⟩ := List.getElem_of_mem hx
  have hf := h1 i hi
  rw [gfit_at hi] at hf
  simp only [idG, parGB, Bool.and_eq_true, Bool.or_eq_true, decide_eq_true_iff, beq_iff_eq] at hf
  obtain ⟨⟨h4, h5⟩, h6⟩ := hf
  refine ⟨h4, h5, ?_⟩
  rcases h6 with h6 | h6
  · exact .inl h6
  · obtain ⟨y, hy, he⟩ := has_iff.1 h6
    obtain ⟨k, hk, rfl⟩ := List.getElem_of_mem hy
    have hk' : k < i := by simp at hk; omega
    rw [List.getElem_take] at he
    refine .inr ⟨l[k], List.getElem_mem _, he, asc_lt ha (by omega) hi hk'⟩
theorem par_mem {l : List AgeD} (h : l.Pairwise (fun x y => x.a < y.a)) {y : AgeD} (hy : y ∈ l) : parG l y.a = y.b := by
  have hh : hasG l y.a = true := has_iff.2 ⟨y, hy, rfl⟩
  have hN : ageI l y.a < l.length := of_decide_eq_true hh
  rw [parG_at hN]
  have he := ageI_get hN
  rw [asc_same h (List.getElem_mem hN) hy he]
theorem has_mem {l : List AgeD} {d : Int} (h : l.Pairwise (fun x y => x.a < y.a)) (hh : hasG l d = true) : ⟨d, parG l d⟩ ∈ l := by
  obtain ⟨y, hy, rfl⟩ := has_iff.1 hh
  rw [par_mem h hy]
  exact hy
theorem par_up {l : List AgeD} (h : VP l) {d : Int} (hh : hasG l d = true) (h0 : parG l d ≠ 0) : hasG l (parG l d) = true ∧ parG l d < d ∧ ageI l (parG l d) < ageI l d := by
  have hm := has_mem h.asc hh
  obtain ⟨_, _, h3⟩ := h.fit _ hm
  rcases h3 with h3 | ⟨y, hy, he, hlt⟩
  · exact absurd h3 h0
  · have hp : hasG l (parG l d) = true := has_iff.2 ⟨y, hy, he⟩
    have hlt2 : parG l d < d := by
      have e1 : y.a = parG l d := he
      have e2 : y.a < d := hlt
      omega
    refine ⟨hp, hlt2, ?_⟩
    have h1 : ageI l (parG l d) < l.length := of_decide_eq_true hp
    have h2 : ageI l d < l.length := of_decide_eq_true hh
    exact asc_idx h.asc h1 h2 (by rw [ageI_get h1, ageI_get h2]; exact hlt2)
theorem path_fuel {l : List AgeD} (h : VP l) (n : Nat) (d : Int) (hn : ageI l d < n) : pathGo l (n + 1) d = pathGo l n d := by
  induction n generalizing d with
  | zero => omega
  | succ k ih =>
    cases hh : hasG l d
    · rw [pathGo_no hh, pathGo_no hh]
    · rw [pathGo_yes hh, pathGo_yes hh]
      congr 1
      cases h0 : (parG l d == 0)
      · have hne : parG l d ≠ 0 := by simpa using h0
        have := (par_up h hh hne).2.2
        simp only [Bool.false_eq_true, if_false]
        exact ih _ (by omega)
      · rfl
theorem path_yes {l : List AgeD} (h : VP l) {d : Int} (hh : hasG l d = true) : pathK l d = d :: (if parG l d == 0 then [] else pathK l (parG l d)) := by
  unfold pathK
  rw [pathGo_yes hh]
  congr 1
  cases h0 : (parG l d == 0)
  · have hne : parG l d ≠ 0 := by simpa using h0
    have h1 := (par_up h hh hne).2.2
    have h2 := ageI_le l d
    simp only [Bool.false_eq_true, if_false]
    exact (path_fuel h _ _ (by omega)).symm
  · rfl
theorem path_no {l : List AgeD} {d : Int} (hh : hasG l d = false) : pathK l d = [] := pathGo_no hh _
theorem path_self {l : List AgeD} (h : VP l) {d : Int} (hh : hasG l d = true) : d ∈ pathK l d := by
  rw [path_yes h hh]
  exact List.mem_cons_self
theorem path_props {l : List AgeD} (h : VP l) (n : Nat) : ∀ d, ageI l d ≤ n → (∀ u ∈ pathK l d, u ≤ d ∧ hasG l u = true) ∧ (pathK l d).Pairwise (fun x y => y < x) := by
  induction n with
  | zero =>
    intro d hd
    cases hh : hasG l d
    · rw [path_no hh]
      exact ⟨fun u hu => by simp at hu, .nil⟩
    · rw [path_yes h hh]
      cases h0 : (parG l d == 0)
      · have hne : parG l d ≠ 0 := by simpa using h0
        have := (par_up h hh hne).2.2
        omega
      · simp only [if_true]
        exact ⟨fun u hu => by simp at hu; subst hu; exact ⟨Int.le_refl _, hh⟩, List.pairwise_singleton _ _⟩
  | succ n ih =>
    intro d hd
    cases hh : hasG l d
    · rw [path_no hh]
      exact ⟨fun u hu => by simp at hu, .nil⟩
    · rw [path_yes h hh]
      cases h0 : (parG l d == 0)
      · have hne : parG l d ≠ 0 := by simpa using h0
        obtain ⟨h1, h2, h3⟩ := par_up h hh hne
        obtain ⟨h4, h5⟩ := ih (parG l d) (by omega)
        simp only [Bool.false_eq_true, if_false]
        refine ⟨fun u hu => ?_, List.pairwise_cons.2 ⟨fun u hu => ?_, h5⟩⟩
        · rcases List.mem_cons.1 hu with rfl | hu
          · exact ⟨Int.le_refl _, hh⟩
          · have := h4 u hu
            exact ⟨by omega, this.2⟩
        · have := (h4 u hu).1
          omega
      · simp only [if_true]
        exact ⟨fun u hu => by simp at hu; subst hu; exact ⟨Int.le_refl _, hh⟩, List.pairwise_singleton _ _⟩
theorem path_le {l : List AgeD} (h : VP l) {d u : Int} (hu : u ∈ pathK l d) : u ≤ d := ((path_props h _ d (Nat.le_refl _)).1 u hu).1
theorem path_desc {l : List AgeD} (h : VP l) (d : Int) : (pathK l d).Pairwise (fun x y => y < x) := (path_props h _ d (Nat.le_refl _)).2
end Go.Proofs.Ythopkhpiikiknaa
namespace Go.Proofs.Ythopkhpiikiknaa
open Go.RowKit
set_option maxRecDepth 100000
set_option linter.unusedSimpArgs false
set_option linter.unusedVariables false

theorem newest_in {r : List (List KeyD)} {p q : Int} {x : KeyD} (h : newest r p q = some x) : ∃ l ∈ r, x ∈ l := by
  induction r with
  | nil => cases h
  | cons l r ih =>
    unfold newest at h
    cases ha : atK l p q with
    | some y =>
      rw [ha] at h
      simp at h
      subst h
      exact ⟨l, by simp, (at_mem ha).1⟩
    | none =>
      rw [ha] at h
      simp at h
      obtain ⟨l', h1, h2⟩ := ih h
      exact ⟨l', by simp [h1], h2⟩
theorem keys_in {ns : NodeD} (h : FineN ns) {x : KeyD} (hx : x ∈ nodeKeysK ns) : ∃ l ∈ ns, x ∈ l := by
  have h1 := key_there h hx
  rw [nodeAt_new] at h1
  have h2 : newest ns.reverse x.a x.b = some x := by
    cases hn : newest ns.reverse x.a x.b with
    | none => rw [hn] at h1; cases h1
    | some y =>
      rw [hn] at h1
      unfold pickO at h1
      simp only at h1
      split at h1
      · cases h1
      · exact h1
  obtain ⟨l, h3, h4⟩ := newest_in h2
  exact ⟨l, List.mem_reverse.1 h3, h4⟩
theorem keys_okm {ns : NodeD} (h : FineN ns) {x : KeyD} (hx : x ∈ nodeKeysK ns) : okK x = true := List.all_eq_true.1 (keys_ok h) x hx
/-- A node with its lower bound, below v. -/
def NodeQ (l : Int) (n : NodeD) (v : Int) : Prop := l < v ∧ nodeOkB n = true ∧ (l = 0 ∨ 0 < (nodeKeysK n).length) ∧ ∀ s ∈ n, ∀ y ∈ s, l ≤ spotI y.a y.b ∧ spotI y.a y.b < v
def topC : List (Int × NodeD) → Int → Int
  | [], u => u
  | p :: _, _ => p.1
def Chain : List (Int × NodeD) → Int → Prop
  | [], _ => True
  | p :: r, u => NodeQ p.1 p.2 (topC r u) ∧ Chain r u
theorem top_app (r s : List (Int × NodeD)) (u : Int) : topC (r ++ s) u = topC r (topC s u) := by cases r <;> rfl
theorem chain_app (r s : List (Int × NodeD)) (u : Int) : Chain (r ++ s) u ↔ Chain r (topC s u) ∧ Chain s u := by
  induction r with
  | nil => simp [Chain]
  | cons p r ih =>
    show NodeQ p.1 p.2 (topC (r ++ s) u) ∧ Chain (r ++ s) u ↔ (NodeQ p.1 p.2 (topC r (topC s u)) ∧ Chain r (topC s u)) ∧ Chain s u
    rw [ih, top_app, and_assoc]
theorem NodeQ.up {l : Int} {n : NodeD} {u v : Int} (h : NodeQ l n u) (hv : u ≤ v) : NodeQ l n v := ⟨by have := h.1; omega, h.2.1, h.2.2.1, fun s hs y hy => ⟨(h.2.2.2 s hs y hy).1, by have := (h.2.2.2 s hs y hy).2; omega⟩⟩
def keysC (r : List (Int × NodeD)) : List KeyD := treeKeysK (r.map (·.2))
theorem keysC_app (r s : List (Int × NodeD)) : keysC (r ++ s) = keysC r ++ keysC s := by simp [keysC, treeKeys_append]
theorem keysC_cons (p : Int × NodeD) (r : List (Int × NodeD)) : keysC (p :: r) = nodeKeysK p.2 ++ keysC r := rfl
theorem NodeQ.key {l : Int} {n : NodeD} {v : Int} (h : NodeQ l n v) {y : KeyD} (hy : y ∈ nodeKeysK n) : l ≤ spotI y.a y.b ∧ spotI y.a y.b < v ∧ okK y = true ∧ y.c ≠ 0 := by
  obtain ⟨s, hs, hys⟩ := keys_in (fine_of h.2.1) hy
  have := h.2.2.2 s hs y hys
  exact ⟨this.1, this.2, keys_okm (fine_of h.2.1) hy, drop_kind hy⟩
theorem chain_top {r : List (Int × NodeD)} {u : Int} (h : Chain r u) : topC r u ≤ u := by
  induction r with
  | nil => exact Int.le_refl _
  | cons p r ih =>
    have h1 := h.1.1
    have h2 := ih h.2
    show p.1 ≤ u
    omega
theorem chain_key {r : List (Int × NodeD)} {u : Int} (h : Chain r u) {y : KeyD} (hy : y ∈ keysC r) : topC r u ≤ spotI y.a y.b ∧ spotI y.a y.b < u ∧ okK y = true ∧ y.c ≠ 0 := by
  induction r with
  | nil => cases hy
  | cons p r ih =>
    rw [keysC_cons, List.mem_append] at hy
    have h1 := h.1.1
    have h2 := chain_top h.2
    rcases hy with hy | hy
    · have := h.1.key hy
      exact ⟨this.1, by omega, this.2.2⟩
    · have := ih h.2 hy
      exact ⟨by show p.1 ≤ _; omega, this.2⟩
theorem less_of_spot {x y : KeyD} (hx : okK x = true) (hy : okK y = true) (h : spotI x.a x.b < spotI y.a y.b) : lessK x y = true := by
  have h1 := spot_ok hx
  have h2 := spot_ok hy
  rw [less_iff]
  omega
theorem asc_app {a b : List KeyD} (ha : Asc a) (hb : Asc b) (h : ∀ x ∈ a, ∀ y ∈ b, lessK x y = true) : Asc (a ++ b) := List.pairwise_append.2 ⟨ha, hb, h⟩
theorem chain_asc {r : List (Int × NodeD)} {u : Int} (h : Chain r u) : Asc (keysC r) := by
  induction r with
  | nil => exact List.Pairwise.nil
  | cons p r ih =>
    rw [keysC_cons]
    refine asc_app (keys_asc _) (ih h.2) (fun x hx y hy => ?_)
    have h1 := h.1.key hx
    have h2 := chain_key h.2 hy
    exact less_of_spot h1.2.2.1 h2.2.2.1 (by omega)
end Go.Proofs.Ythopkhpiikiknaa
namespace Go.Proofs.Ythopkhpiikiknaa
open Go.RowKit
set_option maxRecDepth 100000
set_option linter.unusedSimpArgs false
set_option linter.unusedVariables false

theorem chain_ix (r : List (Int × NodeD)) (u : Int) : Chain r u ↔ ∀ i (h : i < r.length), NodeQ (r[i]).1 (r[i]).2 (topC (r.drop (i + 1)) u) := by
  induction r with
  | nil => exact ⟨fun _ i h => absurd h (by simp), fun _ => trivial⟩
  | cons p r ih =>
    constructor
    · rintro ⟨h1, h2⟩ i hi
      cases i with
      | zero => exact h1
      | succ i => exact ih.1 h2 i (by simpa using hi)
    · intro h
      exact ⟨h 0 (by simp), ih.2 (fun i hi => h (i + 1) (by simpa using hi))⟩
theorem zip_len {lo : List Int} {ts : List NodeD} (hl : lo.length = ts.length) : (lo.zip ts).length = ts.length := by simp [hl]
theorem top_zip {lo : List Int} {ts : List NodeD} (hl : lo.length = ts.length) (i : Nat) (u : Int) : topC ((lo.zip ts).drop i) u = if i < lo.length then lo.getD i 0 else u := by
  by_cases h : i < lo.length
  · have hz : i < (lo.zip ts).length := by rw [zip_len hl]; omega
    rw [if_pos h, List.drop_eq_getElem_cons hz, getD_at h]
    show ((lo.zip ts)[i]).1 = _
    rw [List.getElem_zip]
  · rw [if_neg h, List.drop_of_length_le (by rw [zip_len hl]; omega)]
    rfl
theorem zip_key {lo : List Int} {ts : List NodeD} (hl : lo.length = ts.length) : keysC (lo.zip ts) = treeKeysK ts := by
  unfold keysC
  rw [show (lo.zip ts).map (·.2) = ts from List.map_snd_zip (by omega)]
theorem zip_cut {lo : List Int} {ts : List NodeD} (hl : lo.length = ts.length) {i : Nat} (hi : i < ts.length) (hi' : i < lo.length) : lo.zip ts = (lo.zip ts).take i ++ ((lo[i], ts[i]) :: (lo.zip ts).drop (i + 1)) := by
  have hz : i < (lo.zip ts).length := by rw [zip_len hl]; omega
  have := List.take_append_drop i (lo.zip ts)
  rw [List.drop_eq_getElem_cons hz, List.getElem_zip] at this
  exact this.symm
theorem spot_lim {y : KeyD} (h : okK y = true) : 1 ≤ spotI y.a y.b ∧ spotI y.a y.b < 2000 := by
  have := spot_ok h
  omega
theorem chain_of {lo : List Int} {ts : List NodeD} (h : TreeP lo ts) : Chain (lo.zip ts) 2000 := by
  obtain ⟨h1, h2, h3, h4, h5, h6, h7⟩ := h
  rw [chain_ix]
  intro i hi
  rw [zip_len h3] at hi
  have hi' : i < lo.length := by omega
  simp only [List.getElem_zip]
  have hf := fit_at ⟨h1, h2, h3, h4, h5, h6, h7⟩ hi
  have hfn := fine_of hf.1
  rw [top_zip h3]
  have hok : ∀ s ∈ ts[i], ∀ y ∈ s, okK y = true := fun s hs y hy => List.all_eq_true.1 (hfn s hs).2 y hy
  have hlo : i = 0 → lo[i] = 0 := by
    intro e
    subst e
    rw [← getD_at hi']
    exact h4
  refine ⟨?_, hf.1, ?_, fun s hs y hy => ?_⟩
  · by_cases hj : i + 1 < lo.length
    · rw [if_pos hj, ← getD_at hi']
      exact h5 i (by omega)
    · rw [if_neg hj]
      rcases hf.2.1 with e | e
      · rw [hlo e]; decide
      · obtain ⟨y, hy⟩ := List.exists_mem_of_length_pos e
        obtain ⟨s, hs, hys⟩ := keys_in hfn hy
        have a1 := (hf.2.2 s hs y hys).1
        have a2 := spot_lim (hok s hs y hys)
        rw [getD_at hi'] at a1
        omega
  · rcases hf.2.1 with e | e
    · exact .inl (hlo e)
    · exact .inr e
  · have a1 := hf.2.2 s hs y hy
    have a2 := spot_lim (hok s hs y hy)
    refine ⟨by rw [← getD_at hi']; exact a1.1, ?_⟩
    by_cases hj : i + 1 < lo.length
    · rw [if_pos hj]; exact a1.2 hj
    · rw [if_neg hj]; exact a2.2
theorem where_at {lo : List Int} {ts : List NodeD} {x : KeyD} (h : TreeP lo ts) (hx : okK x = true) : ∃ i : Nat, whereK lo (spotI x.a x.b) = (i : Int) ∧ i < ts.length ∧ i < lo.length ∧ lo.getD i 0 ≤ spotI x.a x.b ∧ spotI x.a x.b < topC ((lo.zip ts).drop (i + 1)) 2000 := by
  obtain ⟨h1, h2, h3, h4, h5, h6, h7⟩ := h
  have hs := spot_lim hx
  have hge := where_ge (lo := lo) (s := spotI x.a x.b) (by omega) (by omega)
  have hlt := (whereK_le lo (spotI x.a x.b)).2
  obtain ⟨i, hi⟩ : ∃ i : Nat, whereK lo (spotI x.a x.b) = (i : Int) := ⟨(whereK lo (spotI x.a x.b)).toNat, by omega⟩
  have hil : i < lo.length := by omega
  have hin := (where_iff h5 hil (spotI x.a x.b)).1 hi
  refine ⟨i, hi, by omega, hil, hin.1, ?_⟩
  rw [top_zip h3]
  by_cases hj : i + 1 < lo.length
  · rw [if_pos hj]; exact hin.2 hj
  · rw [if_neg hj]; exact hs.2
end Go.Proofs.Ythopkhpiikiknaa
namespace Go.Proofs.Ythopkhpiikiknaa
open Go.RowKit
set_option maxRecDepth 100000
set_option linter.unusedSimpArgs false
set_option linter.unusedVariables false

theorem tree_asc {lo : List Int} {ts : List NodeD} (h : treeOkB lo ts = true) : Asc (treeKeysK ts) ∧ ∀ y ∈ treeKeysK ts, okK y = true ∧ y.c ≠ 0 := by
  have hp : TreeP lo ts := of_decide_eq_true h
  have hc := chain_of hp
  rw [← zip_key hp.2.2.1]
  exact ⟨chain_asc hc, fun y hy => (chain_key hc hy).2.2⟩
theorem at_app (a b : List KeyD) (p q : Int) : atK (a ++ b) p q = (atK a p q).or (atK b p q) := by unfold atK; exact List.find?_append
theorem at_not {l : List KeyD} {p q : Int} (h : ∀ y ∈ l, ¬ (y.a = p ∧ y.b = q)) : atK l p q = none := by
  unfold atK
  rw [List.find?_eq_none]
  intro y hy
  rw [spotB_iff]
  exact h y hy
theorem tree_at {lo : List Int} {ts : List NodeD} {x : KeyD} (h : treeOkB lo ts = true) (hx : okK x = true) : treeAtK lo ts x.a x.b = atK (treeKeysK ts) x.a x.b := by
  have hp : TreeP lo ts := of_decide_eq_true h
  obtain ⟨i, hw, hi, hil, hs1, hs2⟩ := where_at hp hx
  have hl := hp.2.2.1
  have hcut := zip_cut hl hi hil
  have hc := chain_of hp
  rw [hcut, chain_app] at hc
  obtain ⟨ca, c1, c2⟩ := hc
  rw [getD_at hil] at hs1
  have hx2 := spot_ok hx
  have ne : ∀ y : KeyD, spotI y.a y.b ≠ spotI x.a x.b → ¬ (y.a = x.a ∧ y.b = x.b) := fun y hn e => hn (by rw [e.1, e.2])
  have e1 : atK (treeKeysK ts) x.a x.b = atK (nodeKeysK ts[i]) x.a x.b := by
    rw [← zip_key hl, hcut, keysC_app, keysC_cons, at_app, at_app]
    rw [at_not (l := keysC ((lo.zip ts).take i)) (fun y hy => ne y (by
      have := (chain_key ca hy).2.1
      have h2 : spotI y.a y.b < lo[i] := this
      omega))]
    rw [at_not (l := keysC ((lo.zip ts).drop (i + 1))) (fun y hy => ne y (by
      have := (chain_key c2 hy).1
      omega))]
    simp
  rw [e1, at_keys (fine_of (fit_at hp hi).1)]
  unfold treeAtK
  have hh : 0 ≤ whereK lo (spotI x.a x.b) ∧ (whereK lo (spotI x.a x.b)).toNat < ts.length := by rw [hw]; exact ⟨by omega, hi⟩
  rw [dif_pos hh]
  have hn : (whereK lo (spotI x.a x.b)).toNat = i := by rw [hw]; rfl
  simp only [hn]
end Go.Proofs.Ythopkhpiikiknaa
namespace Go.Proofs.Ythopkhpiikiknaa
open Go.RowKit
set_option maxRecDepth 100000
set_option linter.unusedSimpArgs false
set_option linter.unusedVariables false

def nearB (path : List Int) (o : Option KeyD) (k : KeyD) : Bool := decide (k.b ∈ path) && (match o with | none => true | some x => decide (x.b < k.b))
def nearS (path : List Int) (o : Option KeyD) (k : KeyD) : Option KeyD := if nearB path o k then some k else o
/-- The key with the greatest version of the path, the first of these. -/
def nearK (l : List KeyD) (path : List Int) : Option KeyD := l.foldl (nearS path) none
theorem near_go (path : List Int) : ∀ (l : List KeyD) (o : Option KeyD), (∀ y, o = some y → y.b ∈ path) →
    (l.foldl (nearS path) o = none → o = none ∧ ∀ k ∈ l, k.b ∉ path) ∧
    (∀ x, l.foldl (nearS path) o = some x → (x ∈ l ∨ o = some x) ∧ x.b ∈ path ∧ (∀ k ∈ l, k.b ∈ path → k.b ≤ x.b) ∧ ∀ y, o = some y → y.b ≤ x.b) := by
  intro l
  induction l with
  | nil =>
    intro o ho
    refine ⟨fun h => ⟨h, fun k hk => by simp at hk⟩, fun x hx => ?_⟩
    have hx2 : o = some x := hx
    refine ⟨.inr hx2, ho x hx2, fun k hk => by simp at hk, fun y hy => ?_⟩
    rw [hx2] at hy
    injection hy with hy
    subst hy
    exact Int.le_refl _
  | cons k t ih =>
    intro o ho
    rw [List.foldl_cons]
    cases hb : nearB path o k
    · have he : nearS path o k = o := by rw [nearS, hb]; rfl
      rw [he]
      obtain ⟨h1, h2⟩ := ih o ho
      have hk : k.b ∈ path → ∃ y, o = some y ∧ k.b ≤ y.b := by
        intro hm
        unfold nearB at hb
        rw [decide_eq_true hm, Bool.true_and] at hb
        cases o with
        | none => simp at hb
        | some y => exact ⟨y, rfl, by simpa using hb⟩
      refine ⟨fun h => ?_, fun x hx => ?_⟩
      · obtain ⟨h3, h4⟩ := h1 h
        refine ⟨h3, fun u hu => ?_⟩
        rcases List.mem_cons.1 hu with rfl | hu
        · intro hm
          obtain ⟨y, hy, _⟩ := hk hm
          rw [h3] at hy
          cases hy
        · exact h4 u hu
      · obtain ⟨h3, h4, h5, h6⟩ := h2 x hx
        refine ⟨h3.elim (fun h => .inl (List.mem_cons_of_mem _ h)) .inr, h4, fun u hu hm => ?_, h6⟩
        rcases List.mem_cons.1 hu with rfl | hu
        · obtain ⟨y, hy, hle⟩ := hk hm
          exact Int.le_trans hle (h6 y hy)
        · exact h5 u hu hm
    · have he : nearS path o k = some k := by rw [nearS, hb]; rfl
      rw [he]
      have hb2 := hb
      unfold nearB at hb2
      rw [Bool.and_eq_true] at hb2
      have hkm : k.b ∈ path := of_decide_eq_true hb2.1
      obtain ⟨h1, h2⟩ := ih (some k) (fun y hy => by injection hy with hy; subst hy; exact hkm)
      refine ⟨fun h => ?_, fun x hx => ?_⟩
      · have := (h1 h).1
        cases this
      · obtain ⟨h3, h4, h5, h6⟩ := h2 x hx
        refine ⟨.inl ?_, h4, fun u hu hm => ?_, fun y hy => ?_⟩
        · rcases h3 with h3 | h3
          · exact List.mem_cons_of_mem _ h3
          · injection h3 with h3
            subst h3
            exact List.mem_cons_self
        · rcases List.mem_cons.1 hu with rfl | hu
          · exact h6 _ rfl
          · exact h5 u hu hm
        · have h7 := h6 k rfl
          subst hy
          have h8 : y.b < k.b := by simpa using hb2.2
          omega
theorem near_none {l : List KeyD} {path : List Int} (h : nearK l path = none) : ∀ k ∈ l, k.b ∉ path := ((near_go path l none (fun y hy => by cases hy)).1 h).2
theorem near_some {l : List KeyD} {path : List Int} {x : KeyD} (h : nearK l path = some x) : x ∈ l ∧ x.b ∈ path ∧ ∀ k ∈ l, k.b ∈ path → k.b ≤ x.b := by
  obtain ⟨h1, h2, h3, _⟩ := (near_go path l none (fun y hy => by cases hy)).2 x h
  exact ⟨h1.resolve_right (fun h => by cases h), h2, h3⟩
theorem near_not {l : List KeyD} {path : List Int} (h : ∀ k ∈ l, k.b ∉ path) : nearK l path = none := by
  cases hn : nearK l path with
  | none => rfl
  | some x =>
    obtain ⟨h1, h2, _⟩ := near_some hn
    exact absurd h2 (h x h1)
theorem near_congr {l : List KeyD} {p q : List Int} (h : ∀ k ∈ l, (k.b ∈ p ↔ k.b ∈ q)) : nearK l p = nearK l q := by
  unfold nearK
  generalize (none : Option KeyD) = o
  induction l generalizing o with
  | nil => rfl
  | cons k t ih =>
    rw [List.foldl_cons, List.foldl_cons]
    have e : nearS p o k = nearS q o k := by
      unfold nearS nearB
      rw [decide_eq_decide.2 (h k List.mem_cons_self)]
    rw [e]
    exact ih (fun u hu => h u (List.mem_cons_of_mem _ hu)) _
/-- What the model's walk up yields in a valid list. -/
def pathSGo (l : List AgeD) : Nat → Int → List Int
  | 0, _ => []
  | n + 1, d => if hasG l d then d :: pathSGo l n (parG l d) else []
theorem pathS_no {l : List AgeD} {d : Int} (h : hasG l d = false) (n : Nat) : pathSGo l n d = [] := by
  cases n with
  | zero => rfl
  | succ n => rw [pathSGo, h]; rfl
theorem pathS_yes {l : List AgeD} {d : Int} (h : hasG l d = true) (n : Nat) : pathSGo l (n + 1) d = d :: pathSGo l n (parG l d) := by
  rw [pathSGo, h]; rfl
theorem vp_zero {l : List AgeD} (h : VP l) : hasG l 0 = false := has_no (fun y hy => by have := h.fit y hy; omega)
theorem pathS_eq {l : List AgeD} (h : VP l) : ∀ (n : Nat) (d : Int), pathSGo l n d = pathGo l n d := by
  intro n
  induction n with
  | zero => intro d; rfl
  | succ n ih =>
    intro d
    cases hh : hasG l d
    · rw [pathS_no hh, pathGo_no hh]
    · rw [pathS_yes hh, pathGo_yes hh, ih]
      by_cases h0 : parG l d = 0
      · rw [h0, pathGo_no (vp_zero h)]
        rfl
      · have : (parG l d == 0) = false := by simpa using h0
        rw [this]
        rfl
/-- The parts of FnSights' answer. -/
theorem sight_tail {l : List AgeD} (h : VP l) {d u : Int} (hu : u ∈ (pathK l d).tail) : u < d := by
  cases hh : hasG l d
  · rw [path_no hh] at hu
    simp at hu
  · have hd := path_desc h d
    rw [path_yes h hh] at hu hd
    exact (List.pairwise_cons.1 hd).1 u hu
theorem sight_split {l : List AgeD} (h : VP l) {d : Int} {u : Int} : u ∈ pathK l d ↔ (u = d ∧ hasG l d = true) ∨ u ∈ (pathK l d).tail := by
  cases hh : hasG l d
  · rw [path_no hh]
    simp
  · rw [path_yes h hh]
    simp
/-- The key of a block and a version in the tree, by its lists. -/
theorem sight_own {ts : List NodeD} (ha : Asc (treeKeysK ts)) {p d : Int} {x : KeyD} (h : atK (treeKeysK ts) p d = some x) : x ∈ keysOfK ts p ∧ x.b = d ∧ ∀ y ∈ keysOfK ts p, y.b = d → y = x := by
  have h1 := List.find?_some h
  have h2 := List.mem_of_find?_eq_some h
  rw [spotB_iff] at h1
  refine ⟨keysOf_mem.2 ⟨h2, h1.1⟩, h1.2, fun y hy hd => ?_⟩
  obtain ⟨hy1, hy2⟩ := keysOf_mem.1 hy
  have : atK (treeKeysK ts) y.a y.b = some y := at_uniq ha hy1
  rw [hy2, hd, h] at this
  injection this with this
  exact this.symm
theorem sight_no {ts : List NodeD} {p d : Int} (h : atK (treeKeysK ts) p d = none) : ∀ y ∈ keysOfK ts p, y.b ≠ d := by
  intro y hy hd
  obtain ⟨hy1, hy2⟩ := keysOf_mem.1 hy
  have := (List.find?_eq_none.1 h) y hy1
  rw [spotB_iff] at this
  exact this ⟨hy2, hd⟩
end Go.Proofs.Ythopkhpiikiknaa
namespace Go.Proofs.Ythopkhpiikiknaa
open Go.RowKit
set_option maxRecDepth 100000
set_option linter.unusedSimpArgs false
set_option linter.unusedVariables false

/-- The first i hold what was kept of the first j of l; from j on nothing has turned. -/
structure DelIn (q : KeyD → Bool) (l m : List KeyD) (i j : Nat) : Prop where
  len : m.length = l.length
  jl : j ≤ l.length
  ij : i < j
  kept : m.take i = (l.take j).filter q
  rest : m.drop j = l.drop j
theorem all_kept {q : KeyD → Bool} {l : List KeyD} (h : ∀ j (hj : j < l.length), q l[j] = true) : l.filter q = l := by
  rw [List.filter_eq_self]
  intro x hx
  obtain ⟨j, hj, rfl⟩ := List.mem_iff_getElem.1 hx
  exact h j hj
theorem DelIn.start {q : KeyD → Bool} {l : List KeyD} {n : Nat} (hn : n < l.length) (h1 : q l[n] = false) (h2 : ∀ j (hj : j < n), q (l[j]'(by omega)) = true) : DelIn q l l n (n + 1) := by
  refine ⟨rfl, hn, Nat.lt_succ_self _, ?_, rfl⟩
  rw [List.take_succ_eq_append_getElem hn, List.filter_append]
  have e : (l.take n).filter q = l.take n := all_kept (fun j hj => by
    rw [List.getElem_take]
    rw [List.length_take] at hj
    exact h2 j (by omega))
  rw [e]
  simp [h1]
theorem DelIn.at {q : KeyD → Bool} {l m : List KeyD} {i j : Nat} (h : DelIn q l m i j) (hj : j < l.length) : m[j]'(by rw [h.len]; exact hj) = l[j] := by
  have h1 := h.rest
  have h2 : (m.drop j)[0]? = (l.drop j)[0]? := by rw [h1]
  rw [List.getElem?_drop, List.getElem?_drop, Nat.add_zero, List.getElem?_eq_getElem hj, List.getElem?_eq_getElem (by rw [h.len]; exact hj)] at h2
  exact Option.some.inj h2
theorem DelIn.drop {q : KeyD → Bool} {l m : List KeyD} {i j : Nat} (h : DelIn q l m i j) (hj : j < l.length) (hq : q l[j] = false) : DelIn q l m i (j + 1) := by
  refine ⟨h.len, hj, Nat.lt_succ_of_lt h.ij, ?_, ?_⟩
  · rw [h.kept, List.take_succ_eq_append_getElem hj, List.filter_append]
    simp [hq]
  · rw [← List.drop_drop, h.rest, List.drop_drop]
theorem DelIn.keep {q : KeyD → Bool} {l m : List KeyD} {i j : Nat} (h : DelIn q l m i j) (hj : j < l.length) (hq : q l[j] = true) : DelIn q l (m.set i l[j]) (i + 1) (j + 1) := by
  have hl := h.len
  have hij := h.ij
  refine ⟨by rw [List.length_set]; exact hl, hj, by omega, ?_, ?_⟩
  · rw [List.take_succ_eq_append_getElem (by rw [List.length_set]; omega), List.take_set_of_le (Nat.le_refl _), List.getElem_set_self, h.kept, List.take_succ_eq_append_getElem hj, List.filter_append]
    simp [hq]
  · rw [List.drop_set_of_lt (by omega), ← List.drop_drop, h.rest, List.drop_drop]
theorem DelIn.done {q : KeyD → Bool} {l m : List KeyD} {i j : Nat} (h : DelIn q l m i j) (hj : ¬ j < l.length) : m.take i = l.filter q ∧ i = (l.filter q).length ∧ i < l.length := by
  have hl := h.len
  have hij := h.ij
  have h1 := h.kept
  rw [show l.take j = l from List.take_of_length_le (by omega)] at h1
  refine ⟨h1, ?_, by have := h.jl; omega⟩
  rw [← h1, List.length_take]
  have := h.jl
  omega
theorem zero_cells (zero : Array Value) (n : Nat) : (Builtin.zeroCells zero n).toList.length = n * zero.size ∧ ((∀ v ∈ zero.toList, v.oneCell' = true) → ∀ v ∈ (Builtin.zeroCells zero n).toList, v.oneCell' = true) := by
  refine ⟨by simp [Builtin.zeroCells], fun h v hv => ?_⟩
  simp only [Builtin.zeroCells, Array.toList_map, Array.toList_range, List.mem_map, List.mem_range] at hv
  obtain ⟨i, hi, rfl⟩ := hv
  have hp : 0 < zero.size := by
    rcases Nat.eq_zero_or_pos zero.size with h0 | h0
    · rw [h0] at hi; simp at hi
    · exact h0
  have hlt := Nat.mod_lt i hp
  rw [getElem!_pos zero _ hlt]
  exact h _ (by simp)
/-- clear of n keys: nothing but the cells of these n turns. -/
theorem clear_keys (W : World) (g o n : Nat) (cur : Array Value) (e : TypeId) (hh : W.heap[g]? = some (.cells cur e (0, 0))) (hn : 0 < n) (ho : o + n * 5 ≤ cur.size) :
    ∃ zs : List Value, zs.length = n * 5 ∧ ∀ ty c, (Builtin.clear_ #[36] ty #[.slice (some ⟨g, o, none⟩) n c]).run Try.prog W = .ok (.tuple #[]) (W.setCells g o zs) := by
  obtain ⟨i, hi, h0, h1, h2⟩ := info_parts key_info
  obtain ⟨z1, z2⟩ := zero_cells (Value.agg #[.int .i64 0, .int .i64 0, .int .i64 0, .int .i64 0, .int .i64 0]).cells n
  have hcl : (Value.agg #[.int .i64 0, .int .i64 0, .int .i64 0, .int .i64 0, .int .i64 0]).cells = #[.int .i64 0, .int .i64 0, .int .i64 0, .int .i64 0, .int .i64 0] := by kernel_rfl
  refine ⟨(Builtin.zeroCells (Value.agg #[.int .i64 0, .int .i64 0, .int .i64 0, .int .i64 0, .int .i64 0]).cells n).toList, by rw [z1, hcl]; rfl, fun ty c => ?_⟩
  have hst := run_storeCells_cells (P := Try.prog) g o (Builtin.zeroCells (Value.agg #[.int .i64 0, .int .i64 0, .int .i64 0, .int .i64 0, .int .i64 0]).cells n).toList 0 W (fun j hj => by
    rw [z1, hcl] at hj
    have hj2 : j < n * 5 := hj
    rw [cell_of_row W g _ cur e (0, 0) hh, Array.getElem?_eq_getElem (by omega)]; rfl) (fun j hj => frozen_of_row W g _ cur e hh) (z2 (by rw [hcl]; intro v hv; simp at hv; subst hv; rfl))
  simp only [Nat.add_zero] at hst
  obtain ⟨m, rfl⟩ : ∃ m, n = m + 1 := ⟨n - 1, by omega⟩
  simp [Builtin.clear_, run_underlying Try.underlying36, zeroValue, typeInfo, hi, h0, hst]
end Go.Proofs.Ythopkhpiikiknaa
namespace Go.Proofs.Ythopkhpiikiknaa
open Go.RowKit
set_option maxRecDepth 100000
set_option linter.unusedSimpArgs false
set_option linter.unusedVariables false

theorem boxC {w : World} {p : Nat} {a : Value} {t : TypeId} (h : w.heap[p]? = some (.cells #[a] t (0, 0))) : w.cell? ⟨p, 0, none⟩ = some a ∧ ∀ o, w.frozen? ⟨p, o, none⟩ = false :=
  ⟨by rw [cell_of_row w p 0 _ _ _ h]; rfl, fun o => frozen_of_row w p o _ _ h⟩
theorem heap_far {w : World} {g j i : Nat} {u : Value} {o : Obj} (h : w.heap[i]? = some o) (hne : ¬ i = g) : (w.setCell ⟨g, j, none⟩ u).heap[i]? = some o := (Below.heap_setCell w ⟨g, j, none⟩ u i hne).trans h
theorem kvl_take (l : List KeyD) (N : Nat) : (kvl l).take (N * 5) = kvl (l.take N) := by
  by_cases h : N ≤ l.length
  · have he : kvl l = kvl (l.take N) ++ kvl (l.drop N) := by rw [← kvl_append, List.take_append_drop]
    have hl : (kvl (l.take N)).length = N * 5 := by rw [kvl_len]; simp; omega
    rw [he, ← hl, List.take_left']
    rfl
  · rw [List.take_of_length_le (by rw [kvl_len]; omega), List.take_of_length_le (by omega)]
theorem RwK.at5 {w : World} {g cap : Nat} {l : List KeyD} (h : RwK w g cap l) {i : Nat} (hi : i < l.length) (hc : l.length ≤ cap) (hm : cap ≤ maxLen) : Five w g (i * 5) l[i] := by
  obtain ⟨b, off, hA, _, hk⟩ := (h.owns (S := fun _ => True) trivial hc hm).reads.keys hi
  have h1 := hk i hi
  injection hA with hA
  injection hA with h2 h3
  subst h2
  subst h3
  simpa only [Nat.zero_add] using h1
/-- The closure of KeysOf, bound to the block's box. -/
theorem keysOf1_any (k : KeyD) (p : Int) (pb : Nat) (w : World) (hp : w.heap[pb]? = some (.cells #[.int .i64 p] 3 (0, 0))) :
    Calls Try.prog 49 #[k.v, .pointer (some ⟨pb, 0, none⟩)] w (SaysBool w (k.a != p)) := by
  unfold KeyD.v keyV
  have Q0 := Lib.hid (al1 w (.cells #[.int .i64 k.a, .int .i64 k.b, .int .i64 k.c, .int .i64 k.d, .int .i64 k.e] 32))
  have b0 := bal1 w (.cells #[.int .i64 k.a, .int .i64 k.b, .int .i64 k.c, .int .i64 k.d, .int .i64 k.e] 32)
  have HB := Lib.hid b0
  have HP := Lib.hid (box_on hp b0)
  clear hp b0
  obtain ⟨R, hR⟩ : ∃ R, (k.a != p) = R := ⟨_, rfl⟩
  rw [hR]
  go_enter Try.func49, Try.ntmps49
  go_upto_region 1 with (fail)
  generalize w.alloc (.cells #[.int .i64 k.a, .int .i64 k.b, .int .i64 k.c, .int .i64 k.d, .int .i64 k.e] 32) = W at *
  obtain ⟨x0, x1, x2, x3, x4, x5⟩ := box5 Q0.out
  obtain ⟨y0, y1⟩ := boxC HP.out
  cases R
  all_goals
    go_wp2
    go_ret
    exact ⟨rfl, HB.out⟩
set_option maxHeartbeats 1000000 in
theorem indexFuncK_any (v : Value) (l : List KeyD) (p : Int) (pb : Nat) (w : World) (hv : Reads w w.heap.size v (keysD l)) (hp : w.heap[pb]? = some (.cells #[.int .i64 p] 3 (0, 0))) (hn : l.length ≤ 2097152) :
    Calls Try.prog 77 #[v, .func (.func 49) #[] #[.pointer (some ⟨pb, 0, none⟩)]] w fun e w' => ∃ n : Int, e = .returned (.int .i64 n) ∧ Below w.heap.size w w' ∧
      ((n = -1 ∧ ∀ j (hj : j < l.length), ((l[j]).a == p) = true) ∨ ∃ m : Nat, n = (m : Int) ∧ ∃ h : m < l.length, ((l[m]).a == p) = false ∧ ∀ j (hj : j < m), ((l[j]'(by omega)).a == p) = true) := by
  obtain ⟨A, c, rfl, _, _⟩ := hv.shapeK
  have HT := Lib.hid keysOf1_any
  unfold KeyD.v keyV at HT
  have HV := Lib.hid hv
  have HP := Lib.hid hp
  clear hv hp
  go_enter Try.func77, Try.ntmps77
  go_wp2
  go_loopw [5, 8] (fun _ i wr => ∃ k : Nat, k ≤ l.length ∧ i = .int .i64 k ∧ Hid (∀ j (hj : j < k) (hl : j < l.length), ((l[j]).a == p) = true) ∧ Hid (Below w.heap.size w wr)) (fun _ i _ => l.length - (intOf i).toNat)
  case atStart => exact ⟨0, Nat.zero_le _, rfl, Lib.hid (fun j hj => by omega), Lib.hid (Below.refl _ _)⟩
  case round =>
    obtain ⟨k, hk, rfl, HI, HB⟩ := hrel
    by_cases hlt : k < l.length
    · obtain ⟨b, off, rfl, hbb, hc⟩ := (HV.out.on HB.out).keys hlt
      have i1 : (k : Int) < (l.length : Int) := by omega
      have i2 : (0 : Int) ≤ (k : Int) := by omega
      obtain ⟨c0, c1, c2, c3, c4⟩ := hc k hlt
      have HP1 := Lib.hid (box_on HP.out HB.out)
      clear hc
      cases hs : ((l[k]).a == p)
      · have HN : Hid (((l[k]).a != p) = true) := Lib.hid (by simp only [bne, hs]; rfl)
        have HS := Lib.hid hs
        clear hs
        go_wp2_with fail
        go_at_call 49
        refine (HT.out l[k] p pb _ HP1.out).mono ?_
        rintro r w8 ⟨rfl, b8⟩
        rw [HN.out]
        have B8 := Lib.hid (bstep HB.out b8)
        clear b8 c0 c1 c2 c3 c4
        go_wp2
        go_ret
        exact ⟨_, rfl, B8.out, .inr ⟨k, rfl, hlt, HS.out, fun j hj => HI.out j hj (by omega)⟩⟩
      · have HN : Hid (((l[k]).a != p) = false) := Lib.hid (by simp only [bne, hs]; rfl)
        have HS := Lib.hid hs
        clear hs
        go_wp2_with fail
        go_at_call 49
        refine (HT.out l[k] p pb _ HP1.out).mono ?_
        rintro r w8 ⟨rfl, b8⟩
        rw [HN.out]
        have B8 := Lib.hid (bstep HB.out b8)
        clear b8 c0 c1 c2 c3 c4
        go_wp2
        go_roundw
        case rel => exact ⟨k + 1, by omega, by go_num, Lib.hid (fun j hj hl => by
          by_cases hjk : j < k
          · exact HI.out j hjk hl
          · have : j = k := by omega
            subst this
            exact HS.out), B8⟩
        case measure => simp [intOf]; omega
    · go_wp2
      go_ret
      exact ⟨_, rfl, HB.out, .inl ⟨rfl, fun j hj => HI.out j (by omega) hj⟩⟩
set_option maxHeartbeats 4000000 in
theorem deleteFuncK_any (v : Value) (l : List KeyD) (p : Int) (pb base : Nat) (w : World) (hv : RowK w base v l) (hb : base ≤ w.heap.size) (hp : w.heap[pb]? = some (.cells #[.int .i64 p] 3 (0, 0))) (hpb : pb < base) (hn : l.length ≤ 2097152) :
    Calls Try.prog 47 #[v, .func (.func 49) #[] #[.pointer (some ⟨pb, 0, none⟩)]] w fun e w' => ∃ v', e = .returned v' ∧ RowK w' base v' (l.filter (fun k => k.a == p)) ∧ Below base w w' := by
  have HT := Lib.hid keysOf1_any
  unfold KeyD.v keyV at HT
  have HIF := Lib.hid (indexFuncK_any v l p pb w hv.owns.reads hp hn)
  have HP := Lib.hid hp
  have HV := Lib.hid hv
  rcases hv.owns.rwK with ⟨rfl, rfl⟩ | ⟨g, cap, rfl, hbg, hR, hcap, hmax⟩
  · clear hv hp
    go_enter Try.func47, Try.ntmps47
    go_wp2_with fail
    refine HIF.out.mono ?_
    rintro r w1 ⟨n, rfl, b1, ⟨rfl, _⟩ | ⟨m, rfl, hm, _⟩⟩
    · have B1 := Lib.hid (b1.mono hb)
      have O1 := Lib.hid (HV.out.on b1)
      clear b1
      go_wp2
      go_ret
      exact ⟨_, rfl, O1.out, B1.out⟩
    · simp at hm
  · have HRW := Lib.hid hR
    clear hv hp hR
    go_enter Try.func47, Try.ntmps47
    go_wp2_with fail
    refine HIF.out.mono ?_
    rintro r w1 ⟨n, rfl, b1, ⟨rfl, hall⟩ | ⟨m, rfl, hm, hno, hyes⟩⟩
    · have B1 := Lib.hid (b1.mono hb)
      have O1 := Lib.hid (HV.out.on b1)
      have HA : Hid (l.filter (fun k => k.a == p) = l) := Lib.hid (all_kept (q := fun k => k.a == p) hall)
      clear b1 hall
      go_wp2
      go_ret
      rw [HA.out]
      exact ⟨_, rfl, O1.out, B1.out⟩
    · have B1 := Lib.hid (b1.mono hb)
      have R1 := Lib.hid (Rw.keep HRW.out (b1.block g (Rw.lt HRW.out)))
      have D1 := Lib.hid (DelIn.start (q := fun k => k.a == p) hm hno hyes)
      have P1 := Lib.hid (box_on HP.out b1)
      have hm1 : ((m : Int) == -1) = false := beq_eq_false_iff_ne.2 (by omega)
      have i0 : IntKind.i64.wrap ((m : Int) + 1) = (m : Int) + 1 := by rw [IntKind.wrap_i64]; omega
      have HSZ := Lib.hid b1.size
      clear b1 hno hyes HIF HV HRW HP
      go_wp2
      clear hm1 i0
      go_loopw [5, 6, 7] (fun i j _ wr => ∃ (i' j' : Nat) (t : List KeyD), i = .int .i64 i' ∧ j = .int .i64 j' ∧ Hid (DelIn (fun k => k.a == p) l t i' j') ∧ Hid (RwK wr g cap t) ∧ Hid (wr.heap[pb]? = some (.cells #[.int .i64 p] 3 (0, 0))) ∧ Hid (base ≤ wr.heap.size) ∧ Hid (Below base w wr)) (fun _ j _ _ => l.length - (intOf j).toNat)
      case atStart => exact ⟨m, m + 1, l, rfl, by go_num, D1, R1, P1, Lib.hid (Nat.le_trans hb HSZ.out), B1⟩
      case round =>
        clear D1 R1 P1 HSZ B1 hm
        obtain ⟨i, j, t, rfl, rfl, HD, HR, HP, HZ, HB⟩ := hrel
        have hD := HD.out
        have hij := hD.ij
        have hjl := hD.jl
        have htl := hD.len
        by_cases hlt : j < l.length
        · obtain ⟨c0, c1, c2, c3, c4⟩ := HR.out.at5 (i := j) (by omega) (by omega) hmax
          rw [hD.at hlt] at c0 c1 c2 c3 c4
          have i1 : (j : Int) < (l.length : Int) := by omega
          have i2 : (0 : Int) ≤ (j : Int) := by omega
          have hq0 := al1 wr (.cells #[.int .i64 (l[j]).a, .int .i64 (l[j]).b, .int .i64 (l[j]).c, .int .i64 (l[j]).d, .int .i64 (l[j]).e] 32)
          have ba := bal1 wr (.cells #[.int .i64 (l[j]).a, .int .i64 (l[j]).b, .int .i64 (l[j]).c, .int .i64 (l[j]).d, .int .i64 (l[j]).e] 32)
          have HQ := Lib.hid hq0
          have HP2 := Lib.hid (box_on HP.out ba)
          have HR2 := Lib.hid (Rw.keep HR.out (ba.block g (Rw.lt HR.out)))
          have HB2 := Lib.hid (HB.out.trans (ba.mono HZ.out))
          have HZ2 := Lib.hid (Nat.le_trans HZ.out ba.size)
          clear hq0 ba hD
          cases hs : ((l[j]).a == p)
          · have HN : Hid (((l[j]).a != p) = true) := Lib.hid (by simp only [bne, hs]; rfl)
            have HS := Lib.hid hs
            clear hs
            go_wp2_with fail
            go_at_call 49
            refine (HT.out l[j] p pb _ HP2.out).mono ?_
            rintro r w8 ⟨rfl, b8⟩
            rw [HN.out]
            have R8 := Lib.hid (Rw.keep HR2.out (b8.block g (Rw.lt HR2.out)))
            have P8 := Lib.hid (box_on HP2.out b8)
            have B8 := Lib.hid (HB2.out.trans (b8.mono HZ2.out))
            have Z8 := Lib.hid (Nat.le_trans HZ2.out b8.size)
            clear b8 c0 c1 c2 c3 c4 HQ HP2 HR2 HB2 HZ2 HR HP HB HZ
            go_wp2
            go_roundw
            case rel => exact ⟨i, j + 1, t, rfl, by go_num, Lib.hid (HD.out.drop hlt HS.out), R8, P8, Z8, B8⟩
            case measure => simp [intOf]; omega
          · have HN : Hid (((l[j]).a != p) = false) := Lib.hid (by simp only [bne, hs]; rfl)
            have HS := Lib.hid hs
            clear hs
            go_wp2_with fail
            go_at_call 49
            refine (HT.out l[j] p pb _ HP2.out).mono ?_
            rintro r w8 ⟨rfl, b8⟩
            rw [HN.out]
            have R8 := Lib.hid (Rw.keep HR2.out (b8.block g (Rw.lt HR2.out)))
            have P8 := Lib.hid (box_on HP2.out b8)
            have B8 := Lib.hid (HB2.out.trans (b8.mono HZ2.out))
            have Z8 := Lib.hid (Nat.le_trans HZ2.out b8.size)
            obtain ⟨q0, q1, q2, q3, q4, q5⟩ := box5 (box_on HQ.out b8)
            clear b8 c0 c1 c2 c3 c4 HQ HP2 HR2 HB2 HZ2 HR HP HB HZ
            have hil : i < t.length := by omega
            have hpg : ¬ pb = g := by omega
            have R9 := Lib.hid (RwK.set R8.out hil l[j])
            have B9 := Lib.hid (b5 (i := i * 5) (u1 := .int .i64 (l[j]).a) (u2 := .int .i64 (l[j]).b) (u3 := .int .i64 (l[j]).c) (u4 := .int .i64 (l[j]).d) (u5 := .int .i64 (l[j]).e) B8.out hbg)
            have P9 := Lib.hid (heap_far (j := i * 5 + 4) (u := .int .i64 (l[j]).e) (heap_far (j := i * 5 + 3) (u := .int .i64 (l[j]).d) (heap_far (j := i * 5 + 2) (u := .int .i64 (l[j]).c) (heap_far (j := i * 5 + 1) (u := .int .i64 (l[j]).b) (heap_far (j := i * 5) (u := .int .i64 (l[j]).a) P8.out hpg) hpg) hpg) hpg) hpg)
            have hz5 : ∀ z, z < 5 → ∃ v, w8.cell? ⟨g, i * 5 + z, none⟩ = some v := RwK.five R8.out hil
            obtain ⟨v0, d0⟩ := hz5 0 (by omega)
            obtain ⟨v1, d1⟩ := hz5 1 (by omega)
            obtain ⟨v2, d2⟩ := hz5 2 (by omega)
            obtain ⟨v3, d3⟩ := hz5 3 (by omega)
            obtain ⟨v4, d4⟩ := hz5 4 (by omega)
            rw [Nat.add_zero] at d0
            have f0 := Rw.frozen R8.out (i * 5)
            have f1 := Rw.frozen R8.out (i * 5 + 1)
            have f2 := Rw.frozen R8.out (i * 5 + 2)
            have f3 := Rw.frozen R8.out (i * 5 + 3)
            have f4 := Rw.frozen R8.out (i * 5 + 4)
            have i3 : (i : Int) < (l.length : Int) := by omega
            have i4 : (0 : Int) ≤ (i : Int) := by omega
            have i5 : IntKind.i64.wrap ((i : Int) + 1) = (i : Int) + 1 := by rw [IntKind.wrap_i64]; omega
            clear hz5
            go_wp2
            go_roundw
            case rel => exact ⟨i + 1, j + 1, t.set i l[j], by go_num, by go_num, Lib.hid (HD.out.keep hlt HS.out), R9, P9, Lib.hid (by simpa using Z8.out), B9⟩
            case measure => simp [intOf]; omega
        · obtain ⟨hF, hFl, hil⟩ := hD.done hlt
          obtain ⟨cur, hh, hsz, htk⟩ := HR.out
          obtain ⟨zs, hzl, hcl⟩ := clear_keys wr g (i * 5) (l.length - i) cur _ hh (by omega) (by rw [hsz]; omega)
          have FIN : Hid (RowK (wr.setCells g (i * 5) zs) base (.slice (some ⟨g, 0, none⟩) i cap) (l.filter (fun k => k.a == p)) ∧ Below base w (wr.setCells g (i * 5) zs)) := by
            refine Lib.hid ⟨?_, below_lay hbg _ _ _ _ HB.out⟩
            refine ⟨by rw [kvl_len], .inr ⟨g, cap, _, by rw [← hFl], hbg, heap_lay g _ _ _ _ _ hh, by omega, hmax, by rw [layA_size]; exact hsz, ?_⟩⟩
            rw [← hFl, layA_list _ _ _ (by rw [hzl, hsz]; omega), List.take_append_of_le_length (by rw [List.length_take, Array.length_toList, hsz]; omega), List.take_take, Nat.min_self, ← hF, ← kvl_take, ← htk, List.take_take, show min (i * 5) (t.length * 5) = i * 5 by omega]
          have i1 : ¬ (j : Int) < (l.length : Int) := by omega
          have i2 : (0 : Int) ≤ (i : Int) := by omega
          have i3 : (i : Int) ≤ (l.length : Int) := by omega
          have i4 : (l.length : Int) ≤ (cap : Int) := by omega
          have i5 : (i : Int) ≤ (cap : Int) := by omega
          have i6 : i ≤ cap := by omega
          have i7 : ¬ cap = i := by omega
          clear hF hFl hh hsz htk hzl hD HD HR HP HB HZ
          go_wp2
          go_ret
          exact ⟨_, rfl, FIN.out.1, FIN.out.2⟩
set_option maxHeartbeats 1000000 in
theorem implKeysOf_any (vl vn : Value) (lo : List Int) (ts : List NodeD) (p : Int) (w : World) (hv : RdT w w.heap.size vl vn lo ts) (hn : ts.length ≤ 1048576) (hs : sumT ts ≤ 1048576) :
    Calls Try.prog 13 #[.agg #[vl, vn], .int .i64 p] w (NewK w (keysOfK ts p)) := by
  obtain ⟨A, c, A', c', rfl, rfl⟩ := hv.shape
  have hmf : ∀ (fn : Fn) (first cap : Array Value) (w : World), (Instr.makeFunc fn first cap).run Try.prog w = .ok (.func fn first cap) w := fun _ _ _ _ => rfl
  obtain ⟨q0, q1⟩ := al2 w (.cells #[.slice A lo.length c, .slice A' ts.length c'] 27) (.cells #[.int .i64 p] 3)
  have hb := bal2 w (.cells #[.slice A lo.length c, .slice A' ts.length c'] 27) (.cells #[.int .i64 p] 3)
  have hsz : ((w.alloc (.cells #[.slice A lo.length c, .slice A' ts.length c'] 27)).alloc (.cells #[.int .i64 p] 3)).heap.size = w.heap.size + 1 + 1 := by simp
  have HV := Lib.hid (hv.on hb)
  have HB := Lib.hid hb
  have Q0 := Lib.hid q0
  have Q1 := Lib.hid q1
  have HSZ := Lib.hid hsz
  have HTK := Lib.hid implTreeKeys_any
  have HKL := Lib.hid (treeKeys_len ts)
  clear hv hb q0 q1 hsz
  unfold keysOfK
  obtain ⟨L, hL⟩ : ∃ L, treeKeysK ts = L := ⟨_, rfl⟩
  rw [hL] at HKL ⊢
  have HL := Lib.hid hL
  clear hL
  go_enter Try.func13, Try.ntmps13
  go_upto_region 1 with (fail)
  generalize (w.alloc (.cells #[.slice A lo.length c, .slice A' ts.length c'] 27)).alloc (.cells #[.int .i64 p] 3) = W at *
  obtain ⟨x0, x1, x2⟩ := box2 Q0.out
  go_wp2_with fail
  refine (HTK.out _ _ lo ts _ HV.out hn hs).mono ?_
  rintro r w1 ⟨v1, rfl, o1, b1⟩
  rw [HL.out] at o1
  obtain ⟨A1, d1, rfl, _, _⟩ := o1.shape
  have O1 := Lib.hid o1
  have P1 := Lib.hid (box_on Q1.out b1)
  have B1 := Lib.hid b1
  clear o1 b1 x0 x1 x2
  go_wp2_with fail
  refine (deleteFuncK_any _ L p (w.heap.size + 1) W.heap.size _ O1.out B1.out.size P1.out (by have := HSZ.out; omega) (by have := HKL.out; omega)).mono ?_
  rintro r w2 ⟨v2, rfl, o2, b2⟩
  obtain ⟨A2, d2, rfl, _, _⟩ := o2.shape
  have O2 := Lib.hid (o2.mono HB.out.size)
  have B2 := Lib.hid (bstep HB.out (B1.out.trans b2))
  clear o2 b2
  go_wp2
  go_ret
  exact ⟨_, rfl, O2.out, B2.out⟩
end Go.Proofs.Ythopkhpiikiknaa
namespace Go.Proofs.Ythopkhpiikiknaa
open Go.RowKit
set_option maxRecDepth 100000
set_option linter.unusedSimpArgs false
set_option linter.unusedVariables false

theorem near_eq (path : List Int) (o : Option KeyD) (k : KeyD) : nearB path o k = (decide (k.b ∈ path) && (!o.isSome || decide ((o.getD zK).b < k.b))) := by
  cases o <;> simp [nearB]
theorem al4 (w : World) (o p q r : Obj) : ((((w.alloc o).alloc p).alloc q).alloc r).heap[w.heap.size]? = some o ∧ ((((w.alloc o).alloc p).alloc q).alloc r).heap[w.heap.size + 1]? = some p ∧ ((((w.alloc o).alloc p).alloc q).alloc r).heap[w.heap.size + 1 + 1]? = some q ∧ ((((w.alloc o).alloc p).alloc q).alloc r).heap[w.heap.size + 1 + 1 + 1]? = some r :=
  ⟨box_on (al3 w o p q).1 (bal1 _ _), box_on (al3 w o p q).2.1 (bal1 _ _), box_on (al3 w o p q).2.2 (bal1 _ _), by have := al1 (((w.alloc o).alloc p).alloc q) r; simpa using this⟩
theorem box_setsK {w : World} {p : Nat} {t : TypeId} {z1 z2 z3 z4 z5 u1 u2 u3 u4 u5 : Value} (h : w.heap[p]? = some (.cells #[z1, z2, z3, z4, z5] t (0, 0))) : (((((w.setCell ⟨p, 0, none⟩ u1).setCell ⟨p, 1, none⟩ u2).setCell ⟨p, 2, none⟩ u3).setCell ⟨p, 3, none⟩ u4).setCell ⟨p, 4, none⟩ u5).heap[p]? = some (.cells #[u1, u2, u3, u4, u5] t (0, 0)) :=
  heap_setCell_same _ _ _ _ _ _ (heap_setCell_same _ _ _ _ _ _ (heap_setCell_same _ _ _ _ _ _ (heap_setCell_same _ _ _ _ _ _ (heap_setCell_same _ _ _ _ _ _ h))))
set_option maxHeartbeats 1000000 in
theorem near1_any (k x : KeyD) (f : Bool) (path : List Int) (vp : Value) (pp pf pb : Nat) (w : World) (hv : Reads w w.heap.size vp (intsD path)) (hn : path.length ≤ 2097152)
    (h1 : w.heap[pp]? = some (.cells #[vp] 24 (0, 0))) (h2 : w.heap[pf]? = some (.cells #[.bool f] 4 (0, 0))) (h3 : w.heap[pb]? = some (.cells #[.int .i64 x.a, .int .i64 x.b, .int .i64 x.c, .int .i64 x.d, .int .i64 x.e] 32 (0, 0))) :
    Calls Try.prog 71 #[k.v, .pointer (some ⟨pp, 0, none⟩), .pointer (some ⟨pf, 0, none⟩), .pointer (some ⟨pb, 0, none⟩)] w (SaysBool w (decide (k.b ∈ path) && (!f || decide (x.b < k.b)))) := by
  obtain ⟨A, c, rfl, _, _⟩ := hv.lenN
  unfold KeyD.v keyV
  obtain ⟨n, hnl⟩ : ∃ n, path.length = n := ⟨_, rfl⟩
  have HC := Lib.hid (fun W (h : Reads W W.heap.size (.slice A path.length c) (intsD path)) => contains_any _ path k.b W h hn)
  have Q0 := Lib.hid (al1 w (.cells #[.int .i64 k.a, .int .i64 k.b, .int .i64 k.c, .int .i64 k.d, .int .i64 k.e] 32))
  have b0 := bal1 w (.cells #[.int .i64 k.a, .int .i64 k.b, .int .i64 k.c, .int .i64 k.d, .int .i64 k.e] 32)
  have HB := Lib.hid b0
  have HV := Lib.hid (hv.on b0)
  have P1 := Lib.hid (box_on h1 b0)
  have P2 := Lib.hid (box_on h2 b0)
  have P3 := Lib.hid (box_on h3 b0)
  clear hv h1 h2 h3 b0
  rw [hnl] at HC HV P1
  obtain ⟨M, hM⟩ : ∃ M, decide (k.b ∈ path) = M := ⟨_, rfl⟩
  obtain ⟨G, hG⟩ : ∃ G, decide (x.b < k.b) = G := ⟨_, rfl⟩
  rw [hM] at HC ⊢
  rw [hG]
  clear hM hnl
  go_enter Try.func71, Try.ntmps71
  go_upto_region 1 with (fail)
  generalize w.alloc (.cells #[.int .i64 k.a, .int .i64 k.b, .int .i64 k.c, .int .i64 k.d, .int .i64 k.e] 32) = W at *
  obtain ⟨x0, x1, x2, x3, x4, x5⟩ := box5 Q0.out
  obtain ⟨y0, y1⟩ := boxC P1.out
  obtain ⟨f0, f1⟩ := boxC P2.out
  obtain ⟨z0, z1, z2, z3, z4, z5⟩ := box5 P3.out
  go_wp2_with fail
  refine (HC.out _ HV.out).mono ?_
  rintro r w1 ⟨rfl, rfl⟩
  cases M
  · cases f
    all_goals
      go_wp2
      go_ret
      exact ⟨rfl, HB.out⟩
  · cases f
    · go_wp2
      go_ret
      exact ⟨rfl, HB.out⟩
    · cases G
      all_goals
        go_wp2
        go_ret
        exact ⟨rfl, HB.out⟩
theorem near_no {l : List KeyD} {k : Nat} {path : List Int} {o R : Option KeyD} (h : k < l.length) (hn : nearB path o l[k] = false) (hf : (l.drop k).foldl (nearS path) o = R) : (l.drop (k + 1)).foldl (nearS path) o = R := by
  rw [drop_at h, List.foldl_cons] at hf
  unfold nearS at hf
  rw [hn] at hf
  exact hf
theorem near_yes {l : List KeyD} {k : Nat} {path : List Int} {o R : Option KeyD} (h : k < l.length) (hn : nearB path o l[k] = true) (hf : (l.drop k).foldl (nearS path) o = R) : (l.drop (k + 1)).foldl (nearS path) (some l[k]) = R := by
  rw [drop_at h, List.foldl_cons] at hf
  unfold nearS at hf
  rw [hn] at hf
  exact hf
theorem heap_far5 {w : World} {g i : Nat} {u1 u2 u3 u4 u5 : Value} {o : Obj} (h : w.heap[i]? = some o) (hne : i ≠ g) : (((((w.setCell ⟨g, 0, none⟩ u1).setCell ⟨g, 1, none⟩ u2).setCell ⟨g, 2, none⟩ u3).setCell ⟨g, 3, none⟩ u4).setCell ⟨g, 4, none⟩ u5).heap[i]? = some o :=
  heap_far (heap_far (heap_far (heap_far (heap_far h hne) hne) hne) hne) hne
theorem near_stores {w W : World} {n : Nat} {x k : KeyD} {f : Bool} {o0 o1 : Obj} (h0 : w.heap[n]? = some o0) (h1 : w.heap[n + 1]? = some o1) (h2 : w.heap[n + 1 + 1]? = some (.cells #[.int .i64 x.a, .int .i64 x.b, .int .i64 x.c, .int .i64 x.d, .int .i64 x.e] 32 (0, 0))) (h3 : w.heap[n + 1 + 1 + 1]? = some (.cells #[.bool f] 4 (0, 0))) (hb : Below n W w) :
    ((((((w.setCell ⟨n + 1 + 1, 0, none⟩ (.int .i64 k.a)).setCell ⟨n + 1 + 1, 1, none⟩ (.int .i64 k.b)).setCell ⟨n + 1 + 1, 2, none⟩ (.int .i64 k.c)).setCell ⟨n + 1 + 1, 3, none⟩ (.int .i64 k.d)).setCell ⟨n + 1 + 1, 4, none⟩ (.int .i64 k.e)).setCell ⟨n + 1 + 1 + 1, 0, none⟩ (.bool true)).heap[n]? = some o0 ∧ ((((((w.setCell ⟨n + 1 + 1, 0, none⟩ (.int .i64 k.a)).setCell ⟨n + 1 + 1, 1, none⟩ (.int .i64 k.b)).setCell ⟨n + 1 + 1, 2, none⟩ (.int .i64 k.c)).setCell ⟨n + 1 + 1, 3, none⟩ (.int .i64 k.d)).setCell ⟨n + 1 + 1, 4, none⟩ (.int .i64 k.e)).setCell ⟨n + 1 + 1 + 1, 0, none⟩ (.bool true)).heap[n + 1]? = some o1 ∧ ((((((w.setCell ⟨n + 1 + 1, 0, none⟩ (.int .i64 k.a)).setCell ⟨n + 1 + 1, 1, none⟩ (.int .i64 k.b)).setCell ⟨n + 1 + 1, 2, none⟩ (.int .i64 k.c)).setCell ⟨n + 1 + 1, 3, none⟩ (.int .i64 k.d)).setCell ⟨n + 1 + 1, 4, none⟩ (.int .i64 k.e)).setCell ⟨n + 1 + 1 + 1, 0, none⟩ (.bool true)).heap[n + 1 + 1]? = some (.cells #[.int .i64 k.a, .int .i64 k.b, .int .i64 k.c, .int .i64 k.d, .int .i64 k.e] 32 (0, 0)) ∧ ((((((w.setCell ⟨n + 1 + 1, 0, none⟩ (.int .i64 k.a)).setCell ⟨n + 1 + 1, 1, none⟩ (.int .i64 k.b)).setCell ⟨n + 1 + 1, 2, none⟩ (.int .i64 k.c)).setCell ⟨n + 1 + 1, 3, none⟩ (.int .i64 k.d)).setCell ⟨n + 1 + 1, 4, none⟩ (.int .i64 k.e)).setCell ⟨n + 1 + 1 + 1, 0, none⟩ (.bool true)).heap[n + 1 + 1 + 1]? = some (.cells #[.bool true] 4 (0, 0)) ∧ Below n W ((((((w.setCell ⟨n + 1 + 1, 0, none⟩ (.int .i64 k.a)).setCell ⟨n + 1 + 1, 1, none⟩ (.int .i64 k.b)).setCell ⟨n + 1 + 1, 2, none⟩ (.int .i64 k.c)).setCell ⟨n + 1 + 1, 3, none⟩ (.int .i64 k.d)).setCell ⟨n + 1 + 1, 4, none⟩ (.int .i64 k.e)).setCell ⟨n + 1 + 1 + 1, 0, none⟩ (.bool true)) ∧ ((((((w.setCell ⟨n + 1 + 1, 0, none⟩ (.int .i64 k.a)).setCell ⟨n + 1 + 1, 1, none⟩ (.int .i64 k.b)).setCell ⟨n + 1 + 1, 2, none⟩ (.int .i64 k.c)).setCell ⟨n + 1 + 1, 3, none⟩ (.int .i64 k.d)).setCell ⟨n + 1 + 1, 4, none⟩ (.int .i64 k.e)).setCell ⟨n + 1 + 1 + 1, 0, none⟩ (.bool true)).heap.size = w.heap.size :=
  ⟨heap_far (heap_far5 h0 (by omega)) (by omega), heap_far (heap_far5 h1 (by omega)) (by omega), heap_far (box_setsK h2) (by omega), heap_setCell_same _ _ _ _ _ _ (heap_far5 h3 (by omega)), (b5' hb (by omega)).setCell (p := ⟨n + 1 + 1 + 1, 0, none⟩) (by show n ≤ n + 1 + 1 + 1; omega) _, by simp⟩
set_option maxHeartbeats 4000000 in
theorem nearestKey_any (v vp : Value) (l : List KeyD) (path : List Int) (w : World) (hv : Reads w w.heap.size v (keysD l)) (hvp : Reads w w.heap.size vp (intsD path)) (hn : l.length ≤ 2097152) (hnp : path.length ≤ 2097152) :
    Calls Try.prog 42 #[v, vp] w (SaysFind w (nearK l path)) := by
  obtain ⟨A, c, rfl, _, _⟩ := hv.shapeK
  obtain ⟨Ap, cp, rfl, _, _⟩ := hvp.lenN
  have hmf : ∀ (fn : Fn) (first cap : Array Value) (w : World), (Instr.makeFunc fn first cap).run Try.prog w = .ok (.func fn first cap) w := fun _ _ _ _ => rfl
  have HT := Lib.hid near1_any
  unfold KeyD.v keyV at HT
  unfold SaysFind KeyD.v keyV
  obtain ⟨R, hR⟩ : ∃ R, nearK l path = R := ⟨_, rfl⟩
  rw [hR]
  unfold nearK at hR
  obtain ⟨q0, q1, q2, q3⟩ := al4 w (.cells #[.slice Ap path.length cp] 24) (.cells #[.int .i64 0, .int .i64 0, .int .i64 0, .int .i64 0, .int .i64 0] 32) (.cells #[.int .i64 0, .int .i64 0, .int .i64 0, .int .i64 0, .int .i64 0] 32) (.cells #[.bool false] 4)
  have hb := bal4 w (.cells #[.slice Ap path.length cp] 24) (.cells #[.int .i64 0, .int .i64 0, .int .i64 0, .int .i64 0, .int .i64 0] 32) (.cells #[.int .i64 0, .int .i64 0, .int .i64 0, .int .i64 0, .int .i64 0] 32) (.cells #[.bool false] 4)
  have HV := Lib.hid hv
  have HVP := Lib.hid hvp
  have HB := Lib.hid hb
  have Q0 := Lib.hid q0
  have Q1 := Lib.hid q1
  have Q2 := Lib.hid q2
  have Q3 := Lib.hid q3
  have HSZ : Hid (((((w.alloc (.cells #[.slice Ap path.length cp] 24)).alloc (.cells #[.int .i64 0, .int .i64 0, .int .i64 0, .int .i64 0, .int .i64 0] 32)).alloc (.cells #[.int .i64 0, .int .i64 0, .int .i64 0, .int .i64 0, .int .i64 0] 32)).alloc (.cells #[.bool false] 4)).heap.size = w.heap.size + 1 + 1 + 1 + 1) := Lib.hid (by simp)
  have HR := Lib.hid hR
  clear hv hvp hb q0 q1 q2 q3 hR
  go_enter Try.func42, Try.ntmps42
  go_upto_region 4 with (fail)
  generalize (((w.alloc (.cells #[.slice Ap path.length cp] 24)).alloc (.cells #[.int .i64 0, .int .i64 0, .int .i64 0, .int .i64 0, .int .i64 0] 32)).alloc (.cells #[.int .i64 0, .int .i64 0, .int .i64 0, .int .i64 0, .int .i64 0] 32)).alloc (.cells #[.bool false] 4) = W at *
  go_wp2
  go_loopw [10, 14] (fun _ i wr => ∃ (k : Nat) (x : KeyD) (f : Bool) (o : Option KeyD), k ≤ l.length ∧ i = .int .i64 k ∧ Hid (o.isSome = f ∧ o.getD zK = x) ∧ Hid ((l.drop k).foldl (nearS path) o = R) ∧ Hid (wr.heap[w.heap.size]? = some (.cells #[.slice Ap path.length cp] 24 (0, 0))) ∧ Hid (wr.heap[w.heap.size + 1]? = some (.cells #[.int .i64 0, .int .i64 0, .int .i64 0, .int .i64 0, .int .i64 0] 32 (0, 0))) ∧ Hid (wr.heap[w.heap.size + 1 + 1]? = some (.cells #[.int .i64 x.a, .int .i64 x.b, .int .i64 x.c, .int .i64 x.d, .int .i64 x.e] 32 (0, 0))) ∧ Hid (wr.heap[w.heap.size + 1 + 1 + 1]? = some (.cells #[.bool f] 4 (0, 0))) ∧ Hid (Below w.heap.size w wr) ∧ Hid (w.heap.size + 1 + 1 + 1 + 1 ≤ wr.heap.size)) (fun _ i _ => l.length - (intOf i).toNat)
  case atStart => exact ⟨0, ⟨0, 0, 0, 0, 0⟩, false, none, Nat.zero_le _, rfl, Lib.hid ⟨rfl, rfl⟩, HR, Q0, Q1, Q2, Q3, HB, Lib.hid (Nat.le_of_eq HSZ.out.symm)⟩
  case round =>
    clear Q0 Q1 Q2 Q3 HB HSZ HR
    obtain ⟨k, x, f, o, hk, rfl, HO, HI, Q0, Q1, Q2, Q3, HB, HZ⟩ := hrel
    by_cases hlt : k < l.length
    · obtain ⟨b, off, rfl, hbb, hc⟩ := (HV.out.on HB.out).keys hlt
      have i1 : (k : Int) < (l.length : Int) := by omega
      have i2 : (0 : Int) ≤ (k : Int) := by omega
      obtain ⟨c0, c1, c2, c3, c4⟩ := hc k hlt
      have ba := bal1 wr (.cells #[.int .i64 (l[k]).a, .int .i64 (l[k]).b, .int .i64 (l[k]).c, .int .i64 (l[k]).d, .int .i64 (l[k]).e] 32)
      have QK := Lib.hid (al1 wr (.cells #[.int .i64 (l[k]).a, .int .i64 (l[k]).b, .int .i64 (l[k]).c, .int .i64 (l[k]).d, .int .i64 (l[k]).e] 32))
      have P0 := Lib.hid (box_on Q0.out ba)
      have P1 := Lib.hid (box_on Q1.out ba)
      have P2 := Lib.hid (box_on Q2.out ba)
      have P3 := Lib.hid (box_on Q3.out ba)
      have BA := Lib.hid (bstep HB.out ba)
      have Z1 := Lib.hid (Nat.le_trans HZ.out ba.size)
      obtain ⟨N, hN⟩ : ∃ N, (decide ((l[k]).b ∈ path) && (!f || decide (x.b < (l[k]).b))) = N := ⟨_, rfl⟩
      have HNB : Hid (nearB path o l[k] = N) := Lib.hid (by rw [near_eq, HO.out.1, HO.out.2, hN])
      have HN := Lib.hid hN
      clear hc ba hN Q0 Q1 Q2 Q3 HB HZ
      cases N
      · go_wp2_with fail
        go_at_call 71
        refine (HT.out l[k] x f path _ _ _ _ _ (HVP.out.on BA.out) (by omega) P0.out P3.out P2.out).mono ?_
        rintro r w8 ⟨rfl, b8⟩
        rw [HN.out]
        have R0 := Lib.hid (box_on P0.out b8)
        have R1 := Lib.hid (box_on P1.out b8)
        have R2 := Lib.hid (box_on P2.out b8)
        have R3 := Lib.hid (box_on P3.out b8)
        have B8 := Lib.hid (bstep BA.out b8)
        have Z8 := Lib.hid (Nat.le_trans Z1.out b8.size)
        clear b8 c0 c1 c2 c3 c4 P0 P1 P2 P3 BA Z1 QK
        go_wp2
        go_roundw
        case rel => exact ⟨k + 1, x, f, o, by omega, by go_num, HO, Lib.hid (near_no hlt HNB.out HI.out), R0, R1, R2, R3, B8, Z8⟩
        case measure => simp [intOf]; omega
      · go_wp2_with fail
        go_at_call 71
        refine (HT.out l[k] x f path _ _ _ _ _ (HVP.out.on BA.out) (by omega) P0.out P3.out P2.out).mono ?_
        rintro r w8 ⟨rfl, b8⟩
        rw [HN.out]
        obtain ⟨k0, k1, k2, k3, k4, k5⟩ := box5 (box_on QK.out b8)
        obtain ⟨y0, y1, y2, y3, y4, y5⟩ := box5 (box_on P2.out b8)
        obtain ⟨f0, f1⟩ := boxC (box_on P3.out b8)
        have NS := Lib.hid (near_stores (k := l[k]) (box_on P0.out b8) (box_on P1.out b8) (box_on P2.out b8) (box_on P3.out b8) (bstep BA.out b8))
        have Z8 := Lib.hid (Nat.le_trans Z1.out b8.size)
        clear b8 c0 c1 c2 c3 c4 P0 P1 P2 P3 BA Z1 QK
        go_wp2
        go_roundw
        case rel => exact ⟨k + 1, l[k], true, some l[k], by omega, by go_num, Lib.hid ⟨rfl, rfl⟩, Lib.hid (near_yes hlt HNB.out HI.out), Lib.hid NS.out.1, Lib.hid NS.out.2.1, Lib.hid NS.out.2.2.1, Lib.hid NS.out.2.2.2.1, Lib.hid NS.out.2.2.2.2.1, Lib.hid (by rw [NS.out.2.2.2.2.2]; exact Z8.out)⟩
        case measure => simp [intOf]; omega
    · have hF : R = o := by
        rw [← HI.out, List.drop_eq_nil_of_le (by omega)]
        rfl
      subst hF
      obtain ⟨z0, z1, z2, z3, z4, z5⟩ := box5 Q1.out
      obtain ⟨y0, y1, y2, y3, y4, y5⟩ := box5 Q2.out
      obtain ⟨f0, f1⟩ := boxC Q3.out
      have hx := HO.out.2
      have hf := HO.out.1
      clear HO HI
      go_wp2
      go_region
      all_goals (try go_wp2)
      all_goals refine bodyPost_ret (v := .tuple #[x.v, .bool f]) (by simp [results, Try.results42, go_sem, keyV, KeyD.v, *]) rfl ⟨by rw [hx, hf]; rfl, ?_⟩
      all_goals first | exact (b5' (g := w.heap.size + 1) HB.out (by omega)).drew | exact b5' (g := w.heap.size + 1) HB.out.drew (by omega) | fail
set_option maxHeartbeats 2000000 in
theorem implSeen_any (vl vn va : Value) (lo : List Int) (ts : List NodeD) (l : List AgeD) (p d : Int) (w : World) (hv : RdT w w.heap.size vl vn lo ts) (ha : Reads w w.heap.size va (agesD l)) (hn : ts.length ≤ 1048576) (hs : sumT ts ≤ 1048576) (hl : l.length ≤ 1048576) :
    Calls Try.prog 10 #[.agg #[vl, vn], va, .int .i64 p, .int .i64 d] w (SaysFind w (nearK (keysOfK ts p) (pathK l d))) := by
  obtain ⟨A, c, A', c', rfl, rfl⟩ := hv.shape
  obtain ⟨Aa, ca, rfl, _, _⟩ := ha.shapeG
  have HN := Lib.hid nearestKey_any
  unfold SaysFind KeyD.v keyV at HN
  unfold SaysFind KeyD.v keyV
  obtain ⟨q0, q1⟩ := al2 w (.cells #[.slice A lo.length c, .slice A' ts.length c'] 27) (.cells #[.int .i64 0, .int .i64 0, .int .i64 0, .int .i64 0, .int .i64 0] 32)
  have hb := bal2 w (.cells #[.slice A lo.length c, .slice A' ts.length c'] 27) (.cells #[.int .i64 0, .int .i64 0, .int .i64 0, .int .i64 0, .int .i64 0] 32)
  have HV := Lib.hid (hv.on hb)
  have HA := Lib.hid (ha.on hb)
  have HB := Lib.hid hb
  have Q0 := Lib.hid q0
  have Q1 := Lib.hid q1
  have HKL := Lib.hid (keysOf_len ts p)
  have HPL := Lib.hid (pathK_len l d)
  obtain ⟨F, hF⟩ : ∃ F, nearK (keysOfK ts p) (pathK l d) = F := ⟨_, rfl⟩
  rw [hF]
  have HF := Lib.hid hF
  clear hv ha hb q0 q1 hF
  go_enter Try.func10, Try.ntmps10
  go_upto_region 1 with (fail)
  generalize (w.alloc (.cells #[.slice A lo.length c, .slice A' ts.length c'] 27)).alloc (.cells #[.int .i64 0, .int .i64 0, .int .i64 0, .int .i64 0, .int .i64 0] 32) = W at *
  obtain ⟨x0, x1, x2⟩ := box2 Q0.out
  go_wp2_with fail
  refine (implKeysOf_any _ _ lo ts p _ HV.out hn hs).mono ?_
  rintro r w1 ⟨v1, rfl, o1, b1⟩
  obtain ⟨A1, c1, rfl, _, _⟩ := o1.shape
  have O1 := Lib.hid o1
  replace HA := Lib.hid (HA.out.on b1)
  replace HB := Lib.hid (bstep HB.out b1)
  replace Q1 := Lib.hid (box_on Q1.out b1)
  clear o1 b1 x0 x1 x2 Q0 HV
  go_wp2_with fail
  refine (implPathOf_any _ l d _ HA.out (by omega)).mono ?_
  rintro r w2 ⟨v2, rfl, o2, b2⟩
  obtain ⟨A2, c2, rfl, _, _⟩ := o2.shape
  have O2 := Lib.hid o2
  replace O1 := Lib.hid (O1.out.on b2)
  replace HB := Lib.hid (bstep HB.out b2)
  replace Q1 := Lib.hid (box_on Q1.out b2)
  clear o2 b2 HA
  go_wp2_with fail
  refine (HN.out _ _ (keysOfK ts p) (pathK l d) _ O1.out.owns.reads O2.out.owns.reads (by have := HKL.out; omega) (by have := HPL.out; omega)).mono ?_
  rintro r w3 ⟨rfl, b3⟩
  rw [HF.out]
  replace HB := Lib.hid (bstep HB.out b3)
  replace Q1 := Lib.hid (box_on Q1.out b3)
  clear b3 O1 O2
  obtain ⟨y0, y1, y2, y3, y4, y5⟩ := box5 Q1.out
  go_wp2
  refine bodyPost_ret (v := .tuple #[(F.getD zK).v, .bool F.isSome]) (by simp [results, Try.results10, go_sem, keyV, KeyD.v, *]) rfl ⟨rfl, ?_⟩
  exact b5' HB.out (by omega)
theorem reads_tailI {w : World} {A : Option Addr} {c : Nat} {l : List Int} (h : Reads w w.heap.size (.slice A l.length c) (intsD l)) (hc : l.length ≤ c) (hm : c ≤ maxLen) : Reads w w.heap.size (.slice (tailA A c 1) (l.length - 1) (c - 1)) (intsD l.tail) := by
  have hat := (h.atI).tailV (c := c) (j := 1) (by simpa using hc)
  have hl : l.tail.length = l.length - 1 := List.length_tail
  rw [← hl]
  refine Reads.ofBytes (xs := l.tail.map iV) (by omega) (by omega) (by simp) (by omega) ?_
  rw [show (l.map iV).drop 1 = l.tail.map iV by simp] at hat
  rcases hat with h0 | ⟨b, off, hA, hcell⟩
  · left
    have : l.tail = [] := List.map_eq_nil_iff.1 h0
    rw [this]
    rfl
  · by_cases h0 : l.tail = []
    · left
      rw [h0]
      rfl
    · right
      have hpos : 0 < (l.tail.map iV).length := by
        rw [List.length_map]
        exact List.length_pos_iff.2 h0
      refine ⟨b, off, hA, World.block_lt_of_cell? w _ (hcell 0 hpos), by simp, hcell, fun i hi h' => ?_⟩
      simp only [List.getElem_map]
      exact .lit _
set_option maxHeartbeats 4000000 in
theorem implSeenAbove_any (vl vn va : Value) (lo : List Int) (ts : List NodeD) (l : List AgeD) (p d : Int) (w : World) (hv : RdT w w.heap.size vl vn lo ts) (ha : Reads w w.heap.size va (agesD l)) (hn : ts.length ≤ 1048576) (hs : sumT ts ≤ 1048576) (hl : l.length ≤ 1048576) :
    Calls Try.prog 11 #[.agg #[vl, vn], va, .int .i64 p, .int .i64 d] w (SaysFind w (nearK (keysOfK ts p) (pathK l d).tail)) := by
  obtain ⟨A, c, A', c', rfl, rfl⟩ := hv.shape
  obtain ⟨Aa, ca, rfl, _, _⟩ := ha.shapeG
  have HN := Lib.hid nearestKey_any
  unfold SaysFind KeyD.v keyV at HN
  unfold SaysFind KeyD.v keyV
  obtain ⟨q0, q1⟩ := al2 w (.cells #[.slice A lo.length c, .slice A' ts.length c'] 27) (.cells #[.int .i64 0, .int .i64 0, .int .i64 0, .int .i64 0, .int .i64 0] 32)
  have hb := bal2 w (.cells #[.slice A lo.length c, .slice A' ts.length c'] 27) (.cells #[.int .i64 0, .int .i64 0, .int .i64 0, .int .i64 0, .int .i64 0] 32)
  have HV := Lib.hid (hv.on hb)
  have HA := Lib.hid (ha.on hb)
  have HB := Lib.hid hb
  have Q0 := Lib.hid q0
  have Q1 := Lib.hid q1
  have HKL := Lib.hid (keysOf_len ts p)
  obtain ⟨P, hP⟩ : ∃ P, pathK l d = P := ⟨_, rfl⟩
  have hpl := pathK_len l d
  rw [hP] at hpl ⊢
  obtain ⟨F, hF⟩ : ∃ F, nearK (keysOfK ts p) P.tail = F := ⟨_, rfl⟩
  rw [hF]
  have HF := Lib.hid hF
  have HP := Lib.hid hP
  have HPL := Lib.hid hpl
  clear hv ha hb q0 q1 hF hP hpl
  go_enter Try.func11, Try.ntmps11
  go_upto_region 1 with (fail)
  generalize (w.alloc (.cells #[.slice A lo.length c, .slice A' ts.length c'] 27)).alloc (.cells #[.int .i64 0, .int .i64 0, .int .i64 0, .int .i64 0, .int .i64 0] 32) = W at *
  go_wp2_with fail
  refine (implPathOf_any _ l d _ HA.out (by omega)).mono ?_
  rintro r w2 ⟨v2, rfl, o2, b2⟩
  rw [HP.out] at o2
  obtain ⟨A2, c2, rfl, hc2, hm2⟩ := o2.shape
  have HT := Lib.hid (reads_tailI o2.owns.reads hc2 hm2)
  replace HB := Lib.hid (bstep HB.out b2)
  replace HV := Lib.hid (HV.out.on b2)
  replace Q0 := Lib.hid (box_on Q0.out b2)
  replace Q1 := Lib.hid (box_on Q1.out b2)
  clear o2 b2 HA HP
  by_cases h0 : P.length = 0
  · have hP0 : P = [] := List.length_eq_zero_iff.1 h0
    subst hP0
    have hF0 : F = none := by rw [← HF.out]; exact near_not (fun k hk hm => by simp at hm)
    have hzz : zK = ⟨0, 0, 0, 0, 0⟩ := rfl
    clear HF HN HKL HPL HT
    obtain ⟨y0, y1, y2, y3, y4, y5⟩ := box5 Q1.out
    go_wp2
    refine bodyPost_ret (v := .tuple #[(F.getD zK).v, .bool F.isSome]) (by simp [results, Try.results11, go_sem, keyV, KeyD.v, hF0, zK, *]) rfl ⟨rfl, ?_⟩
    exact b5' HB.out (by omega)
  · have hsl0 : ∀ W : World, (Instr.slice 24 (.slice A2 P.length c2) (some (.int .i64 1)) none none).run Try.prog W = .ok (.slice (tailA A2 c2 1) (P.length - 1) (c2 - 1)) W := fun W => run_tailI A2 P.length c2 1 (by omega) hc2
    obtain ⟨TL, hTL⟩ : ∃ TL, P.tail = TL := ⟨_, rfl⟩
    have HTL : Hid (TL.length ≤ P.length) := Lib.hid (by rw [← hTL, List.length_tail]; omega)
    rw [hTL] at HT HF
    clear hTL
    obtain ⟨n, hnP⟩ : ∃ n, P.length = n := ⟨_, rfl⟩
    rw [hnP] at hsl0 h0 HT HPL HTL ⊢
    have hz0 : ((n : Int) == 0) = false := beq_eq_false_iff_ne.2 (by omega)
    clear hnP hc2 hm2
    go_upto_region 4 with (fail)
    refine but_begin (f := 9) (S := fun V => V.heap[w.heap.size]? = some (.cells #[.slice A lo.length c, .slice A' ts.length c'] 27 (0, 0))) (by kernel_rfl) ?_
    refine but_take (f := 9) (i := 0) (v := ?vsa0) rfl (by kernel_rfl) (by kernel_rfl) (by kernel_rfl) (by kernel_rfl) (by kernel_rfl) (fun _ _ _ h => h) (Or.inl ⟨(by rfl), ?hysa0⟩) (Q0.out) ?restsa0
    case hysa0 =>
      intro W hW
      obtain ⟨x0, x1, x2⟩ := box2 hW
      go_simp
      exact rfl
    simp only [List.getElem_toArray, List.getElem_cons_succ, List.getElem_cons_zero, Act.put, List.setIfInBounds_toArray, List.set_cons_zero, List.set_cons_succ]
    refine but_take (f := 9) (i := 1) (v := ?vsa1) rfl (by kernel_rfl) (by kernel_rfl) (by kernel_rfl) (by kernel_rfl) (by kernel_rfl) (fun _ _ _ h => h) (Or.inl ⟨(by rfl), ?hysa1⟩) (Q0.out) ?restsa1
    case hysa1 =>
      intro W hW
      go_simp
      exact rfl
    simp only [List.getElem_toArray, List.getElem_cons_succ, List.getElem_cons_zero, Act.put, List.setIfInBounds_toArray, List.set_cons_zero, List.set_cons_succ]
    refine but_take (f := 9) (i := 3) (v := ?vsa3) rfl (by kernel_rfl) (by kernel_rfl) (by kernel_rfl) (by kernel_rfl) (by kernel_rfl) (fun _ _ _ h => h) (Or.inl ⟨(by rfl), ?hysa3⟩) (Q0.out) ?restsa3
    case hysa3 =>
      intro W hW
      go_simp
      exact rfl
    simp only [List.getElem_toArray, List.getElem_cons_succ, List.getElem_cons_zero, Act.put, List.setIfInBounds_toArray, List.set_cons_zero, List.set_cons_succ]
    refine but_take (f := 9) (i := 4) (v := ?vsa4) rfl (by kernel_rfl) (by kernel_rfl) (by kernel_rfl) (by kernel_rfl) (by kernel_rfl) (fun _ _ _ h => h) (Or.inl ⟨(by rfl), ?hysa4⟩) (Q0.out) ?restsa4
    case hysa4 =>
      intro W hW
      have hsl := hsl0 W
      go_simp
      exact rfl
    simp only [List.getElem_toArray, List.getElem_cons_succ, List.getElem_cons_zero, Act.put, List.setIfInBounds_toArray, List.set_cons_zero, List.set_cons_succ]
    refine but_run (i := 2) (by kernel_rfl) rfl (by rfl) ?_
    simp only [List.getElem_toArray, List.getElem_cons_succ, List.getElem_cons_zero]
    intro K HK
    go_wp2_with fail
    refine (implKeysOf_any _ _ lo ts p _ (HV.out.on (Below.drew1 _)) hn hs).mono ?_
    rintro r Vsa1 ⟨v1, rfl, o1, b1⟩
    obtain ⟨A1, c1, rfl, _, _⟩ := o1.shape
    have O1 := Lib.hid o1
    have B1 := Lib.hid (bstep (Below.drew1 _) b1)
    clear o1 b1
    go_wp2_with fail
    have hSsa1 : (fun V => V.heap[w.heap.size]? = some (.cells #[.slice A lo.length c, .slice A' ts.length c'] 27 (0, 0))) Vsa1 := box_on Q0.out B1.out
    refine HK.out _ _ (fun _ => hSsa1) ?_
    clear HK
    refine but_run (i := 5) (by kernel_rfl) rfl (by rfl) ?_
    simp only [List.getElem_toArray, List.getElem_cons_succ, List.getElem_cons_zero]
    intro K HK
    go_wp2_with fail
    refine (HN.out _ _ (keysOfK ts p) TL _ O1.out.owns.reads (HT.out.on B1.out) (by have := HKL.out; omega) (by have := HTL.out; have := HPL.out; omega)).mono ?_
    rintro r Vsa2 ⟨rfl, b2⟩
    rw [HF.out]
    have B2 := Lib.hid b2
    clear b2
    go_wp2_with fail
    have hSsa2 : (fun V => V.heap[w.heap.size]? = some (.cells #[.slice A lo.length c, .slice A' ts.length c'] 27 (0, 0))) Vsa2 := box_on (box_on Q0.out B1.out) B2.out
    refine HK.out _ _ (fun _ => hSsa2) ?_
    clear HK
    refine but_take (f := 9) (i := 6) (v := ?vsa6) rfl (by kernel_rfl) (by kernel_rfl) (by kernel_rfl) (by kernel_rfl) (by kernel_rfl) (fun _ _ _ h => h) (Or.inl ⟨(by rfl), ?hysa6⟩) hSsa2 ?restsa6
    case hysa6 =>
      intro W hW
      go_simp
      exact rfl
    simp only [List.getElem_toArray, List.getElem_cons_succ, List.getElem_cons_zero, Act.put, List.setIfInBounds_toArray, List.set_cons_zero, List.set_cons_succ]
    refine but_take (f := 9) (i := 7) (v := ?vsa7) rfl (by kernel_rfl) (by kernel_rfl) (by kernel_rfl) (by kernel_rfl) (by kernel_rfl) (fun _ _ _ h => h) (Or.inl ⟨(by rfl), ?hysa7⟩) hSsa2 ?restsa7
    case hysa7 =>
      intro W hW
      go_simp
      exact rfl
    simp only [List.getElem_toArray, List.getElem_cons_succ, List.getElem_cons_zero, Act.put, List.setIfInBounds_toArray, List.set_cons_zero, List.set_cons_succ]
    refine but_run (i := 8) (by kernel_rfl) rfl (by rfl) ?_
    simp only [List.getElem_toArray, List.getElem_cons_succ, List.getElem_cons_zero]
    intro K HK
    obtain ⟨y0, y1, y2, y3, y4, y5⟩ := box5 (box_on (box_on Q1.out B1.out) B2.out)
    go_wp2_with fail
    have hSsa3 : (fun V => V.heap[w.heap.size]? = some (.cells #[.slice A lo.length c, .slice A' ts.length c'] 27 (0, 0))) ((((((Vsa2.setCell ⟨w.heap.size + 1, 0, none⟩ (.int .i64 (F.getD zK).a)).setCell ⟨w.heap.size + 1, 1, none⟩ (.int .i64 (F.getD zK).b)).setCell ⟨w.heap.size + 1, 2, none⟩ (.int .i64 (F.getD zK).c)).setCell ⟨w.heap.size + 1, 3, none⟩ (.int .i64 (F.getD zK).d)).setCell ⟨w.heap.size + 1, 4, none⟩ (.int .i64 (F.getD zK).e))) := heap_far5 hSsa2 (by omega)
    refine HK.out _ _ (fun _ => hSsa3) ?_
    clear HK
    refine but_run (i := 9) (by kernel_rfl) rfl (by rfl) ?_
    simp only [List.getElem_toArray, List.getElem_cons_succ, List.getElem_cons_zero]
    intro K HK
    go_wp2_with fail
    refine HK.out _ _ (fun h => absurd rfl h) ?_
    clear HK
    refine but_done (by kernel_rfl) ?_
    go_wp2
    refine bodyPost_ret (v := .tuple #[(F.getD zK).v, .bool F.isSome]) (by simp [results, Try.results11, go_sem, keyV, KeyD.v, *]) rfl ⟨rfl, ?_⟩
    exact b5' (bstep (bstep HB.out B1.out) B2.out) (by omega)
set_option maxHeartbeats 2000000 in
theorem implSees_any (vl vn va : Value) (lo : List Int) (ts : List NodeD) (l : List AgeD) (k : KeyD) (d : Int) (w : World) (hv : RdT w w.heap.size vl vn lo ts) (ha : Reads w w.heap.size va (agesD l)) (hn : ts.length ≤ 1048576) (hs : sumT ts ≤ 1048576) (hl : l.length ≤ 1048576) (F : Option KeyD) (hF : nearK (keysOfK ts k.a) (pathK l d) = F) :
    Calls Try.prog 17 #[.agg #[vl, vn], va, k.v, .int .i64 d] w (SaysBool w (F.isSome && ((F.getD zK).b == k.b))) := by
  obtain ⟨A, c, A', c', rfl, rfl⟩ := hv.shape
  obtain ⟨Aa, ca, rfl, _, _⟩ := ha.shapeG
  have HN := Lib.hid implSeen_any
  unfold SaysFind KeyD.v keyV at HN
  unfold KeyD.v keyV
  obtain ⟨q0, q1⟩ := al2 w (.cells #[.slice A lo.length c, .slice A' ts.length c'] 27) (.cells #[.int .i64 k.a, .int .i64 k.b, .int .i64 k.c, .int .i64 k.d, .int .i64 k.e] 32)
  have hb := bal2 w (.cells #[.slice A lo.length c, .slice A' ts.length c'] 27) (.cells #[.int .i64 k.a, .int .i64 k.b, .int .i64 k.c, .int .i64 k.d, .int .i64 k.e] 32)
  have HV := Lib.hid (hv.on hb)
  have HA := Lib.hid (ha.on hb)
  have HB := Lib.hid hb
  have Q0 := Lib.hid q0
  have Q1 := Lib.hid q1
  have HF := Lib.hid hF
  obtain ⟨x, hx⟩ : ∃ x, F.getD zK = x := ⟨_, rfl⟩
  obtain ⟨y, hy⟩ : ∃ y, F.isSome = y := ⟨_, rfl⟩
  obtain ⟨e, he⟩ : ∃ e, (x.b == k.b) = e := ⟨_, rfl⟩
  rw [hx, hy, he]
  have HX := Lib.hid hx
  have HY := Lib.hid hy
  clear hv ha hb q0 q1 hF hx hy
  go_enter Try.func17, Try.ntmps17
  go_upto_region 1 with (fail)
  generalize (w.alloc (.cells #[.slice A lo.length c, .slice A' ts.length c'] 27)).alloc (.cells #[.int .i64 k.a, .int .i64 k.b, .int .i64 k.c, .int .i64 k.d, .int .i64 k.e] 32) = W at *
  obtain ⟨x0, x1, x2⟩ := box2 Q0.out
  obtain ⟨y0, y1, y2, y3, y4, y5⟩ := box5 Q1.out
  go_wp2_with fail
  refine (HN.out _ _ _ lo ts l k.a d _ HV.out HA.out hn hs hl).mono ?_
  rintro r w1 ⟨rfl, b1⟩
  rw [HF.out, HX.out, HY.out]
  have ba := bal1 w1 (.cells #[.int .i64 x.a, .int .i64 x.b, .int .i64 x.c, .int .i64 x.d, .int .i64 x.e] 32)
  replace HB := Lib.hid (bstep (bstep HB.out b1) ba)
  obtain ⟨z0, z1, z2, z3, z4, z5⟩ := box5 (al1 w1 (.cells #[.int .i64 x.a, .int .i64 x.b, .int .i64 x.c, .int .i64 x.d, .int .i64 x.e] 32))
  replace Q1 := Lib.hid (box_on (box_on Q1.out b1) ba)
  clear b1 ba x0 x1 x2 y0 y1 y2 y3 y4 y5
  go_upto_region 2 with (fail)
  generalize w1.alloc (.cells #[.int .i64 x.a, .int .i64 x.b, .int .i64 x.c, .int .i64 x.d, .int .i64 x.e] 32) = W1 at *
  obtain ⟨y0, y1, y2, y3, y4, y5⟩ := box5 Q1.out
  cases y
  · go_wp2
    go_ret
    exact ⟨rfl, HB.out⟩
  · cases e
    all_goals
      go_wp2
      go_ret
      exact ⟨rfl, HB.out⟩
end Go.Proofs.Ythopkhpiikiknaa
namespace Go.Proofs.Ythopkhpiikiknaa
open Go.RowKit
set_option maxRecDepth 100000
set_option linter.unusedSimpArgs false
set_option linter.unusedVariables false

theorem wpList_appK2 {ops : Array Oper} {rest : List Oper} {o : Oper} {a : Act} {Q : Exit → Act → World → Prop} (w : World) (hgd : o.guard = none) (s x : Operand)
    (hop : o.op = .call { callee := .builtin .append, args := #[s, x], argTypes := #[36, 36] })
    (base : Nat) (v : Value) (l : List KeyD) (hs : a.eval s = v) (hown : RowK w base v l) (A : Option Addr) (n c : Nat) (m : List KeyD) (hx : a.eval x = .slice A n c) (hmn : m.length = n) (hA : At w A (kvl m)) (hlen : l.length + m.length ≤ 1073741824) (hbase : base ≤ w.heap.size)
    (h : ∀ v' w', RowK w' base v' (l ++ m) → w.grownBy w' v.ownBlock → (v'.ownBlock = v.ownBlock ∨ v'.ownBlock = some w.heap.size) → wpList Try.prog ops Q rest (a.put o.dst v') w') : wpList Try.prog ops Q (o :: rest) a w := by
  subst hmn
  refine wpList_appV w hgd s x 36 32 5 40 (.agg #[.int .i64 0, .int .i64 0, .int .i64 0, .int .i64 0, .int .i64 0]) hop Try.underlying36 key_info rfl (by omega) (by omega) base l.length v (kvl l) hs hown A m.length c (kvl m) hx (kvl_len m) hA (kvl_cells m) hlen hbase ?_
  intro v' w' h2 h3 h4 h5
  refine h v' w' ?_ h3 h5
  rw [← kvl_append, ← List.length_append] at h2
  exact h2
/-- Two rows of the call's own, side by side: one that grows, one that stays. -/
structure TwoK (base : Nat) (W wr : World) (o v : Value) (m l : List KeyD) : Prop where
  grows : RowK wr base o m
  stays : RowK wr base v l
  apart : ∀ g, o.ownBlock = some g → v.ownBlock ≠ some g
  bel : Below W.heap.size W wr
  low : W.heap.size ≤ base
theorem TwoK.step {base : Nat} {W wr w1 : World} {o v v1 : Value} {m l : List KeyD} {x : KeyD} {e : TypeId} (h : TwoK base W wr o v m l) (hb : base ≤ wr.heap.size)
    (h1 : RowK w1 base v1 (m ++ [x])) (h2 : (wr.alloc (.cells #[.int .i64 x.a, .int .i64 x.b, .int .i64 x.c, .int .i64 x.d, .int .i64 x.e] e)).grownBy w1 o.ownBlock) (h3 : v1.ownBlock = o.ownBlock ∨ v1.ownBlock = some (wr.alloc (.cells #[.int .i64 x.a, .int .i64 x.b, .int .i64 x.c, .int .i64 x.d, .int .i64 x.e] e)).heap.size) : TwoK base W w1 v1 v (m ++ [x]) l := by
  have ba := bal1 wr (.cells #[.int .i64 x.a, .int .i64 x.b, .int .i64 x.c, .int .i64 x.d, .int .i64 x.e] e)
  have hsz : (wr.alloc (.cells #[.int .i64 x.a, .int .i64 x.b, .int .i64 x.c, .int .i64 x.d, .int .i64 x.e] e)).heap.size = wr.heap.size + 1 := by simp
  refine ⟨h1, h.stays.keep (fun g hg => ?_), fun g hg hv => ?_, (h.bel.trans (ba.mono h.bel.size)).grown h2 (by have := h.bel.size; omega) (fun k hk => Nat.le_trans h.low (h.grows.lt k hk).2), h.low⟩
  · have hlt := (h.stays.lt g hg).1
    exact (h2.block g (by omega) (fun e => h.apart g e.symm hg)).trans (ba.block g hlt)
  · have hlt := (h.stays.lt g hv).1
    rcases h3 with h3 | h3
    · exact h.apart g (h3.symm.trans hg) hv
    · rw [h3] at hg
      injection hg with hg
      omega
theorem TwoK.on {base : Nat} {W wr w1 : World} {o v : Value} {m l : List KeyD} (h : TwoK base W wr o v m l) (hb : base ≤ wr.heap.size) (b : Below wr.heap.size wr w1) : TwoK base W w1 o v m l :=
  ⟨h.grows.on b, h.stays.on b, h.apart, h.bel.trans (b.mono h.bel.size), h.low⟩
set_option maxHeartbeats 2000000 in
theorem specKeysOf_any (vl vn : Value) (lo : List Int) (ts : List NodeD) (p : Int) (w : World) (hv : RdT w w.heap.size vl vn lo ts) (hn : ts.length ≤ 1048576) (hs : sumT ts ≤ 1048576) :
    Calls Try.prog 15 #[.agg #[vl, vn], .int .i64 p] w (NewK w (keysOfK ts p)) := by
  obtain ⟨A, c, A', c', rfl, rfl⟩ := hv.shape
  have hb1 := bal2 w (.cells #[.slice A lo.length c, .slice A' ts.length c'] 27) (.cells #[] 32)
  have HV := Lib.hid (hv.on hb1)
  have HB := Lib.hid hb1
  have Q0 := Lib.hid (al2 w (.cells #[.slice A lo.length c, .slice A' ts.length c'] 27) (.cells #[] 32)).1
  have Q1 := Lib.hid (RowK.lit (w.alloc (.cells #[.slice A lo.length c, .slice A' ts.length c'] 27)))
  have HKL := Lib.hid (treeKeys_len ts)
  have HZ0 := Lib.hid (show (w.alloc (.cells #[.slice A lo.length c, .slice A' ts.length c'] 27)).heap.size = w.heap.size + 1 by simp)
  have HZ1 := Lib.hid (show ((w.alloc (.cells #[.slice A lo.length c, .slice A' ts.length c'] 27)).alloc (.cells #[] 32)).heap.size = w.heap.size + 1 + 1 by simp)
  unfold keysOfK
  obtain ⟨L, hL⟩ : ∃ L, treeKeysK ts = L := ⟨_, rfl⟩
  rw [hL] at HKL ⊢
  obtain ⟨R, hR⟩ : ∃ R, L.filter (fun k => k.a == p) = R := ⟨_, rfl⟩
  rw [hR]
  have HL := Lib.hid hL
  have HR := Lib.hid hR
  rw [HZ0.out] at Q1
  clear hv hb1 hL hR HZ0
  go_enter Try.func15, Try.ntmps15
  go_upto_region 2 with (fail)
  generalize (w.alloc (.cells #[.slice A lo.length c, .slice A' ts.length c'] 27)).alloc (.cells #[] 32) = W at *
  obtain ⟨x0, x1, x2⟩ := box2 Q0.out
  go_wp2_with fail
  refine (specTreeKeys_any _ _ lo ts _ HV.out hn hs).mono ?_
  rintro r w1 ⟨v1, rfl, o1, b1⟩
  rw [HL.out] at o1
  obtain ⟨A1, c1, rfl, _, _⟩ := o1.shape
  have HX := Lib.hid (show TwoK (w.heap.size + 1) w w1 (.slice (some ⟨w.heap.size + 1, 0, none⟩) 0 0) (.slice A1 L.length c1) [] L from ⟨Q1.out.on b1, o1.mono (by have := HZ1.out; omega), fun g hg hv => by
    have h1 := (o1.lt g hv).2
    have h2 := HZ1.out
    simp only [Value.ownBlock] at hg
    injection hg with hg
    omega, bstep HB.out b1, Nat.le_succ _⟩)
  have HZ := Lib.hid (show w.heap.size + 1 ≤ w1.heap.size by have := HZ1.out; have := b1.size; omega)
  have hL2 : L.length ≤ 1048576 := by have := HKL.out; omega
  clear o1 b1 x0 x1 x2 HV Q0 Q1 HB HZ1
  go_wp2
  go_loopw [5, 7] (fun o i wr => ∃ (k : Nat) (m : List KeyD), k ≤ L.length ∧ i = .int .i64 k ∧ Hid (m.length ≤ k) ∧ Hid (m ++ (L.drop k).filter (fun x => x.a == p) = R) ∧ Hid (TwoK (w.heap.size + 1) w wr o (.slice A1 L.length c1) m L) ∧ Hid (w.heap.size + 1 ≤ wr.heap.size)) (fun _ i _ => L.length - (intOf i).toNat)
  case atStart => exact ⟨0, [], Nat.zero_le _, rfl, Lib.hid (Nat.zero_le _), Lib.hid HR.out, HX, HZ⟩
  case round =>
    clear HX HZ
    obtain ⟨k, m, hk, rfl, HM, HI, HX, HZ⟩ := hrel
    obtain ⟨Ao, co, rfl, _, _⟩ := HX.out.grows.shape
    by_cases hlt : k < L.length
    · obtain ⟨b, off, rfl, hbb, hc⟩ := HX.out.stays.owns.reads.keys hlt
      have i1 : (k : Int) < (L.length : Int) := by omega
      have i2 : (0 : Int) ≤ (k : Int) := by omega
      obtain ⟨c0, c1, c2, c3, c4⟩ := hc k hlt
      clear hc
      cases hs : ((L[k]).a == p)
      · have HS := Lib.hid hs
        go_wp2
        go_roundw
        case rel => exact ⟨k + 1, m, by omega, by go_num, Lib.hid (Nat.le_succ_of_le HM.out), Lib.hid (filt_no (p := fun x => x.a == p) hlt HS.out HI.out), HX, HZ⟩
        case measure => simp [intOf]; omega
      · have HS := Lib.hid hs
        have ba := bal1 wr (.cells #[.int .i64 (L[k]).a, .int .i64 (L[k]).b, .int .i64 (L[k]).c, .int .i64 (L[k]).d, .int .i64 (L[k]).e] 32)
        have HRow := Lib.hid (HX.out.grows.on ba)
        have HAt := Lib.hid (At.key wr L[k] 32)
        have hzz : (wr.alloc (.cells #[.int .i64 (L[k]).a, .int .i64 (L[k]).b, .int .i64 (L[k]).c, .int .i64 (L[k]).d, .int .i64 (L[k]).e] 32)).heap.size = wr.heap.size + 1 := by simp
        have HZ2 := Lib.hid (show w.heap.size + 1 ≤ (wr.alloc (.cells #[.int .i64 (L[k]).a, .int .i64 (L[k]).b, .int .i64 (L[k]).c, .int .i64 (L[k]).d, .int .i64 (L[k]).e] 32)).heap.size by have := HZ.out; omega)
        clear ba hzz
        go_wp2_with (at_builtin; refine wpList_appK2 _ rfl (.tmp 24) (.tmp 29) rfl (w.heap.size + 1) _ m rfl HRow.out (some ⟨wr.heap.size, 0, none⟩) 1 1 [L[k]] rfl rfl HAt.out (by have := HM.out; simp; omega) HZ2.out ?_; intro v1 w1 o1 g1 e1; clear HRow HAt)
        have HX2 := Lib.hid (HX.out.step HZ.out o1 g1 e1)
        have HZ3 := Lib.hid (Nat.le_trans HZ2.out g1.size)
        clear o1 g1 e1
        go_roundw
        case rel => exact ⟨k + 1, m ++ [L[k]], by omega, by go_num, Lib.hid (by have := HM.out; simp; omega), Lib.hid (filt_yes (p := fun x => x.a == p) hlt HS.out HI.out), HX2, HZ3⟩
        case measure => simp [intOf]; omega
    · have e : m = R := by
        have := HI.out
        rw [List.drop_eq_nil_of_le (by omega)] at this
        simpa using this
      subst e
      go_wp2
      go_ret
      exact ⟨_, rfl, HX.out.grows.mono (by omega), HX.out.bel⟩
end Go.Proofs.Ythopkhpiikiknaa
namespace Go.Proofs.Ythopkhpiikiknaa
open Go.RowKit
set_option maxRecDepth 100000
set_option linter.unusedSimpArgs false
set_option linter.unusedVariables false

theorem l7Has_any (v : Value) (l : List Int) (x : Int) (w : World) (hv : Reads w w.heap.size v (intsD l)) (hn : l.length ≤ 2097152) : Calls Try.prog 79 #[v, .int .i64 x] w fun e w' => e = .returned (.bool (decide (x ∈ l))) ∧ w = w' := by
  obtain ⟨A, c, rfl, _, _⟩ := hv.lenN
  have HV := Lib.hid hv
  clear hv
  go_enter Try.func79, Try.ntmps79
  go_wp2
  go_loop [5] (fun i => ∃ k : Nat, k ≤ l.length ∧ i = .int .i64 k ∧ Hid (x ∉ l.take k)) (fun i => l.length - (intOf i).toNat)
  case atStart => exact ⟨0, Nat.zero_le _, rfl, Lib.hid (by simp)⟩
  case round =>
    obtain ⟨k, hk, rfl, HI⟩ := hrel
    by_cases hlt : k < l.length
    · obtain ⟨b, off, rfl, hbb, hc⟩ := HV.out.int hlt
      have c0 := hc k hlt
      unfold iV at c0
      have i1 : (k : Int) < (l.length : Int) := by omega
      have i2 : (0 : Int) ≤ (k : Int) := by omega
      clear hc
      cases hs : (l[k] == x)
      · have HS : Hid ((x == l[k]) = false) := Lib.hid (by simp at hs ⊢; omega)
        go_wp2
        go_round
        case rel => exact ⟨k + 1, by omega, by go_num, Lib.hid (take_no hlt HI.out HS.out)⟩
        case measure => simp [intOf]; omega
      · have HS := Lib.hid hs
        go_wp2
        go_ret
        refine ⟨ret_boolB ?_, rfl⟩
        have h1 : x ∈ l := by
          have := HS.out
          simp at this
          rw [← this]
          exact List.getElem_mem hlt
        rw [decide_eq_true h1]
    · go_wp2
      go_ret
      refine ⟨ret_boolB ?_, rfl⟩
      have h1 : x ∉ l := by
        have := HI.out
        rw [show k = l.length by omega, List.take_length] at this
        exact this
      rw [decide_eq_false h1]
def pathSK (l : List AgeD) (d : Int) : List Int := pathSGo l (l.length + 1) d
theorem pathSGo_len (l : List AgeD) (n : Nat) (d : Int) : (pathSGo l n d).length ≤ n := by
  induction n generalizing d with
  | zero => simp [pathSGo]
  | succ n ih =>
    rw [pathSGo]
    split
    · have := ih (parG l d)
      simp only [List.length_cons]
      omega
    · simp
theorem pathSK_len (l : List AgeD) (d : Int) : (pathSK l d).length ≤ l.length + 1 := pathSGo_len l _ d
set_option maxHeartbeats 4000000 in
theorem specPathOf_any (v : Value) (l : List AgeD) (d : Int) (w : World) (hv : Reads w w.heap.size v (agesD l)) (hn : l.length ≤ 2000000) : Calls Try.prog 51 #[v, .int .i64 d] w (NewI w (pathSK l d)) := by
  obtain ⟨A, c, rfl, _, _⟩ := hv.shapeG
  have HV := Lib.hid hv
  obtain ⟨R, hR⟩ : ∃ R, pathSK l d = R := ⟨_, rfl⟩
  rw [hR]
  unfold pathSK at hR
  have HR := Lib.hid hR
  have b0 := bal1 w (.cells #[] 3)
  have G0 := Lib.hid (show GrowI w _ _ [] from ⟨RowI.lit w, b0⟩)
  have HV0 := Lib.hid (hv.on b0)
  clear hv hR b0
  go_enter Try.func51, Try.ntmps51
  go_upto_region 2 with (fail)
  generalize w.alloc (.cells #[] 3) = w0 at *
  go_wp2_with fail
  refine (specAgeAt_any _ l d _ HV0.out (by omega)).mono ?_
  rintro e w1 ⟨rfl, rfl⟩
  go_wp2
  go_loopw [5, 6] (fun o i wr => ∃ (m : List Int) (e : Int), i = .int .i64 (ageAtK l e) ∧ Hid (m.length ≤ l.length + 1) ∧ Hid (m ++ pathSGo l (l.length + 1 - m.length) e = R) ∧ Hid (GrowI w wr o m)) (fun o _ _ => l.length + 1 - lenV o)
  case atStart => exact ⟨[], d, rfl, Lib.hid (Nat.zero_le _), Lib.hid (by simpa using HR.out), G0⟩
  case round =>
    clear G0 HV0
    obtain ⟨m, e, rfl, HM, HI, HX⟩ := hrel
    obtain ⟨hrow, hb⟩ := HX.out
    obtain ⟨Ao, co, rfl, _, _⟩ := hrow.shape
    have hgeq := ageAt_geq l e
    cases hh : hasG l e
    · rw [hh] at hgeq
      have hRe : R = m := by rw [← HI.out, pathS_no hh, List.append_nil]
      subst hRe
      generalize ageAtK l e = q at *
      have hq : decide (0 ≤ q) = false := hgeq
      clear hrow hb hh hgeq
      go_wp2
      go_ret
      exact ⟨_, rfl, HX.out.1, HX.out.2⟩
    · obtain ⟨hN, hq0⟩ := ageAt_has hh
      have hq : decide (0 ≤ ageAtK l e) = true := by rw [hh] at hgeq; exact hgeq
      rw [hq0] at hq ⊢
      by_cases hfull : m.length ≤ l.length
      · have d1 : decide (m.length ≤ l.length) = true := decide_eq_true hfull
        have d2 : decide ((m.length : Int) ≤ (l.length : Int)) = true := decide_eq_true (by omega)
        have hpar := parG_at hN
        have hget := ageI_get hN
        obtain ⟨b, off, rfl, hbb, hc⟩ := (HV.out.on hb).ages hN
        have hfu := HI.out
        rw [show l.length + 1 - m.length = (l.length - m.length) + 1 by omega, pathS_yes hh, hpar] at hfu
        have HFU := Lib.hid hfu
        obtain ⟨c0, c1⟩ := hc _ hN
        rw [hget] at c0
        have FK := Lib.hid (And.intro c0 c1)
        clear hc hgeq hh hpar hget hfu hq0
        generalize ageI l e = N at *
        obtain ⟨f, hf⟩ : ∃ f, (l[N]).b = f := ⟨_, rfl⟩
        rw [hf] at HFU FK c1
        clear hf
        have i1 : (N : Int) < (l.length : Int) := by omega
        have i2 : (0 : Int) ≤ (N : Int) := by omega
        have HAt := Lib.hid (At.intOne wr e 3)
        have ba := bal1 wr (.cells #[.int .i64 e] 3)
        have HRow := Lib.hid (hrow.on ba)
        have HB2 := Lib.hid (hb.trans (ba.mono hb.size))
        have HZ := Lib.hid HB2.out.size
        clear ba HX
        go_upto_region 5 with (at_builtin; refine wpList_appI _ rfl (.tmp 20) (.tmp 26) rfl w.heap.size _ m rfl HRow.out (some ⟨wr.heap.size, 0, none⟩) 1 1 [e] rfl rfl HAt.out (by simp; omega) HZ.out ?_; intro v2 w2 o2 b2; clear HRow HAt)
        have hb2 := HB2.out.trans b2
        obtain ⟨m2, hm2⟩ : ∃ m2, m ++ [e] = m2 := ⟨_, rfl⟩
        rw [hm2] at o2
        have hl2 : m2.length = m.length + 1 := by rw [← hm2]; simp
        obtain ⟨A2, e2, rfl, _, _⟩ := o2.shape
        have HL2 := Lib.hid hl2
        have HG2 := Lib.hid (show GrowI w w2 _ m2 from ⟨o2, hb2⟩)
        have hbw2 : b < w.heap.size := by
          obtain ⟨b', off', he, hbb', _⟩ := HV.out.ages hN
          cases he
          exact hbb'
        have F2 : Hid (w2.cell? ⟨b, off + N * 2, none⟩ = some (.int .i64 e) ∧ w2.cell? ⟨b, off + N * 2 + 1, none⟩ = some (.int .i64 f)) := Lib.hid ⟨(World.cell?_of_block (a := ⟨b, off + N * 2, none⟩) ((hb2.block b hbw2).trans (hb.block b hbw2).symm)).trans FK.out.1, (World.cell?_of_block (a := ⟨b, off + N * 2 + 1, none⟩) ((hb2.block b hbw2).trans (hb.block b hbw2).symm)).trans FK.out.2⟩
        have HM2 : Hid (m2.length ≤ l.length + 1) := Lib.hid (by omega)
        have HI2 : Hid (m2 ++ pathSGo l (l.length + 1 - m2.length) f = R) := Lib.hid (by rw [show l.length + 1 - m2.length = l.length - m.length by omega, ← HFU.out, ← hm2]; simp)
        have HVW := Lib.hid (HV.out.on HG2.out.2)
        have HME : Hid (l.length + 1 - m2.length < l.length + 1 - m.length) := Lib.hid (by omega)
        clear c0 c1 hrow hb hb2 b2 o2 HB2 HZ FK hl2 HI HM hm2 hfull d1 d2 HFU HL2
        obtain ⟨c0, c1⟩ := F2.out
        go_wp2_with fail
        refine (specAgeAt_any _ l f _ HVW.out (by omega)).mono ?_
        rintro r w3 ⟨rfl, rfl⟩
        clear c0 c1
        go_wp2
        go_roundw
        case rel => exact ⟨m2, f, rfl, HM2, HI2, HG2⟩
        case measure => simp only [lenV]; exact HME.out
      · have d1 : decide (m.length ≤ l.length) = false := decide_eq_false hfull
        have d2 : decide ((m.length : Int) ≤ (l.length : Int)) = false := decide_eq_false (by omega)
        have hRe : R = m := by
          have h0 : l.length + 1 - m.length = 0 := by omega
          rw [← HI.out, h0, pathSGo, List.append_nil]
        subst hRe
        generalize ageI l e = N at *
        clear hrow hb hh hgeq hq0
        go_wp2
        go_ret
        exact ⟨_, rfl, HX.out.1, HX.out.2⟩
theorem l7HasB_any (v : Value) (l : List Int) (x : Int) (w : World) (hv : Reads w w.heap.size v (intsD l)) (hn : l.length ≤ 2097152) : Calls Try.prog 79 #[v, .int .i64 x] w (SaysBool w (decide (x ∈ l))) := by
  refine (l7Has_any v l x w hv hn).mono ?_
  rintro r _ ⟨h, rfl⟩
  exact ⟨h, Below.refl _ _⟩
theorem RowK.set5 {w : World} {base g : Nat} {v u1 u2 u3 u4 u5 : Value} {l : List KeyD} (h : RowK w base v l) (hg : g < base) : RowK (((((w.setCell ⟨g, 0, none⟩ u1).setCell ⟨g, 1, none⟩ u2).setCell ⟨g, 2, none⟩ u3).setCell ⟨g, 3, none⟩ u4).setCell ⟨g, 4, none⟩ u5) base v l :=
  ((((h.set hg).set hg).set hg).set hg).set hg
set_option maxHeartbeats 8000000 in
theorem l8Near_any (vl vn vp : Value) (lo : List Int) (ts : List NodeD) (p : Int) (path : List Int) (w : World) (hv : RdT w w.heap.size vl vn lo ts) (hvp : Reads w w.heap.size vp (intsD path)) (hn : ts.length ≤ 1048576) (hs : sumT ts ≤ 1048576) (hnp : path.length ≤ 2097152) :
    Calls Try.prog 50 #[.agg #[vl, vn], .int .i64 p, vp] w (SaysFind w (nearK (keysOfK ts p) path)) := by
  obtain ⟨A, c, A', c', rfl, rfl⟩ := hv.shape
  obtain ⟨Ap, cp, rfl, _, _⟩ := hvp.lenN
  unfold SaysFind KeyD.v keyV
  have hkl := keysOf_len ts p
  obtain ⟨L, hL⟩ : ∃ L, keysOfK ts p = L := ⟨_, rfl⟩
  rw [hL] at hkl ⊢
  obtain ⟨R, hR⟩ : ∃ R, nearK L path = R := ⟨_, rfl⟩
  rw [hR]
  unfold nearK at hR
  obtain ⟨q0, q1, q2⟩ := al3 w (.cells #[.slice A lo.length c, .slice A' ts.length c'] 27) (.cells #[.int .i64 0, .int .i64 0, .int .i64 0, .int .i64 0, .int .i64 0] 32) (.cells #[.int .i64 0, .int .i64 0, .int .i64 0, .int .i64 0, .int .i64 0] 32)
  have hb := bal3 w (.cells #[.slice A lo.length c, .slice A' ts.length c'] 27) (.cells #[.int .i64 0, .int .i64 0, .int .i64 0, .int .i64 0, .int .i64 0] 32) (.cells #[.int .i64 0, .int .i64 0, .int .i64 0, .int .i64 0, .int .i64 0] 32)
  have HV := Lib.hid (hv.on hb)
  have HVP := Lib.hid hvp
  have HB := Lib.hid hb
  have Q0 := Lib.hid q0
  have Q1 := Lib.hid q1
  have Q2 := Lib.hid q2
  have HSZ : Hid ((((w.alloc (.cells #[.slice A lo.length c, .slice A' ts.length c'] 27)).alloc (.cells #[.int .i64 0, .int .i64 0, .int .i64 0, .int .i64 0, .int .i64 0] 32)).alloc (.cells #[.int .i64 0, .int .i64 0, .int .i64 0, .int .i64 0, .int .i64 0] 32)).heap.size = w.heap.size + 1 + 1 + 1) := Lib.hid (by simp)
  have HR := Lib.hid hR
  have HL := Lib.hid hL
  have hl2 : L.length ≤ 1048576 := by omega
  clear hv hvp hb q0 q1 q2 hR hL hkl
  go_enter Try.func50, Try.ntmps50
  go_upto_region 3 with (fail)
  generalize ((w.alloc (.cells #[.slice A lo.length c, .slice A' ts.length c'] 27)).alloc (.cells #[.int .i64 0, .int .i64 0, .int .i64 0, .int .i64 0, .int .i64 0] 32)).alloc (.cells #[.int .i64 0, .int .i64 0, .int .i64 0, .int .i64 0, .int .i64 0] 32) = W at *
  obtain ⟨x0, x1, x2⟩ := box2 Q0.out
  go_wp2_with fail
  refine (specKeysOf_any _ _ lo ts p _ HV.out hn hs).mono ?_
  rintro r w1 ⟨v1, rfl, o1, b1⟩
  rw [HL.out] at o1
  obtain ⟨A1, c1, rfl, _, _⟩ := o1.shape
  have HRow := Lib.hid (show RowK w1 (w.heap.size + 1 + 1 + 1) (.slice A1 L.length c1) L from o1.mono (by have := HSZ.out; omega))
  replace Q1 := Lib.hid (box_on Q1.out b1)
  replace Q2 := Lib.hid (box_on Q2.out b1)
  replace HB := Lib.hid (bstep HB.out b1)
  have HZ := Lib.hid (show w.heap.size + 1 + 1 + 1 ≤ w1.heap.size by have := HSZ.out; have := b1.size; omega)
  clear o1 b1 x0 x1 x2 HV Q0 HSZ HL hn hs
  go_wp2
  go_loopw [9, 11] (fun f i wr => ∃ (k : Nat) (x : KeyD) (y : Bool) (o : Option KeyD), k ≤ L.length ∧ i = .int .i64 k ∧ f = .bool y ∧ Hid (o.isSome = y ∧ o.getD zK = x) ∧ Hid ((L.drop k).foldl (nearS path) o = R) ∧ Hid (wr.heap[w.heap.size + 1]? = some (.cells #[.int .i64 0, .int .i64 0, .int .i64 0, .int .i64 0, .int .i64 0] 32 (0, 0))) ∧ Hid (wr.heap[w.heap.size + 1 + 1]? = some (.cells #[.int .i64 x.a, .int .i64 x.b, .int .i64 x.c, .int .i64 x.d, .int .i64 x.e] 32 (0, 0))) ∧ Hid (RowK wr (w.heap.size + 1 + 1 + 1) (.slice A1 L.length c1) L) ∧ Hid (Below w.heap.size w wr) ∧ Hid (w.heap.size + 1 + 1 + 1 ≤ wr.heap.size)) (fun _ i _ => L.length - (intOf i).toNat)
  case atStart => exact ⟨0, ⟨0, 0, 0, 0, 0⟩, false, none, Nat.zero_le _, rfl, rfl, Lib.hid ⟨rfl, rfl⟩, HR, Q1, Q2, HRow, HB, HZ⟩
  case round =>
    clear Q1 Q2 HRow HB HZ HR
    obtain ⟨k, x, y, o, hk, rfl, rfl, HO, HI, Q1, Q2, HRow, HB, HZ⟩ := hrel
    by_cases hlt : k < L.length
    · obtain ⟨b, off, rfl, hbb, hc⟩ := HRow.out.owns.reads.keys hlt
      have i1 : (k : Int) < (L.length : Int) := by omega
      have i2 : (0 : Int) ≤ (k : Int) := by omega
      have FK := Lib.hid (hc k hlt)
      obtain ⟨M, hM⟩ : ∃ M, decide ((L[k]).b ∈ path) = M := ⟨_, rfl⟩
      obtain ⟨G, hG⟩ : ∃ G, decide (x.b < (L[k]).b) = G := ⟨_, rfl⟩
      have HNB : Hid (nearB path o L[k] = (M && (!y || G))) := Lib.hid (by rw [near_eq, HO.out.1, HO.out.2, hM, hG])
      have HM := Lib.hid hM
      clear hc hM
      go_upto_region 7 with (fail)
      cases M
      · cases y
        · refine but_begin (f := 20) (S := fun V => Below wr.drew.heap.size wr.drew V) (by kernel_rfl) ?_
          refine but_take (f := 20) (i := 0) (v := ?vnff0) rfl (by kernel_rfl) (by kernel_rfl) (by kernel_rfl) (by kernel_rfl) (by kernel_rfl) (fun _ _ _ h => h) (Or.inl ⟨(by rfl), ?hynff0⟩) (Below.refl _ _) ?restnff0
          case hynff0 =>
            intro W hW
            go_simp
            exact rfl
          simp only [List.getElem_toArray, List.getElem_cons_succ, List.getElem_cons_zero, Act.put, List.setIfInBounds_toArray, List.set_cons_zero, List.set_cons_succ]
          refine but_take (f := 20) (i := 1) (v := ?vnff1) rfl (by kernel_rfl) (by kernel_rfl) (by kernel_rfl) (by kernel_rfl) (by kernel_rfl) (fun _ _ _ h => h) (Or.inl ⟨(by rfl), ?hynff1⟩) (Below.refl _ _) ?restnff1
          case hynff1 =>
            intro W hW
            go_simp
            exact rfl
          simp only [List.getElem_toArray, List.getElem_cons_succ, List.getElem_cons_zero, Act.put, List.setIfInBounds_toArray, List.set_cons_zero, List.set_cons_succ]
          refine but_take (f := 20) (i := 2) (v := ?vnff2) rfl (by kernel_rfl) (by kernel_rfl) (by kernel_rfl) (by kernel_rfl) (by kernel_rfl) (fun _ _ _ h => h) (Or.inl ⟨(by rfl), ?hynff2⟩) (Below.refl _ _) ?restnff2
          case hynff2 =>
            intro W hW
            go_simp
            exact rfl
          simp only [List.getElem_toArray, List.getElem_cons_succ, List.getElem_cons_zero, Act.put, List.setIfInBounds_toArray, List.set_cons_zero, List.set_cons_succ]
          refine but_take (f := 20) (i := 3) (v := ?vnff3) rfl (by kernel_rfl) (by kernel_rfl) (by kernel_rfl) (by kernel_rfl) (by kernel_rfl) (fun _ _ _ h => h) (Or.inl ⟨(by rfl), ?hynff3⟩) (Below.refl _ _) ?restnff3
          case hynff3 =>
            intro W hW
            go_simp
            exact rfl
          simp only [List.getElem_toArray, List.getElem_cons_succ, List.getElem_cons_zero, Act.put, List.setIfInBounds_toArray, List.set_cons_zero, List.set_cons_succ]
          refine but_take (f := 20) (i := 4) (v := ?vnff4) rfl (by kernel_rfl) (by kernel_rfl) (by kernel_rfl) (by kernel_rfl) (by kernel_rfl) (fun _ _ _ h => h) (Or.inl ⟨(by rfl), ?hynff4⟩) (Below.refl _ _) ?restnff4
          case hynff4 =>
            intro W hW
            go_simp
            exact rfl
          simp only [List.getElem_toArray, List.getElem_cons_succ, List.getElem_cons_zero, Act.put, List.setIfInBounds_toArray, List.set_cons_zero, List.set_cons_succ]
          refine but_take (f := 20) (i := 5) (v := ?vnff5) rfl (by kernel_rfl) (by kernel_rfl) (by kernel_rfl) (by kernel_rfl) (by kernel_rfl) (fun _ _ _ h => h) (Or.inl ⟨(by rfl), ?hynff5⟩) (Below.refl _ _) ?restnff5
          case hynff5 =>
            intro W hW
            have hb0 : Below wr.heap.size wr W := bstep (Below.drew1 _) hW
            obtain ⟨c0, c1, c2, c3, c4⟩ := FK.out.on hbb hb0
            go_simp
            exact rfl
          simp only [List.getElem_toArray, List.getElem_cons_succ, List.getElem_cons_zero, Act.put, List.setIfInBounds_toArray, List.set_cons_zero, List.set_cons_succ]
          refine but_run (i := 6) (by kernel_rfl) rfl (by rfl) ?_
          simp only [List.getElem_toArray, List.getElem_cons_succ, List.getElem_cons_zero]
          intro K HK
          go_wp2_with fail
          refine (l7HasB_any _ path (L[k]).b _ (HVP.out.on (bstep HB.out (bstep (Below.drew1 _) (Below.refl _ _)))) hnp).mono ?_
          rintro r Vnff1 ⟨rfl, hBnff1⟩
          rw [HM.out]
          have hSnff1 := bstep (Below.refl _ _) hBnff1
          go_wp2_with fail
          refine HK.out _ Vnff1 (fun _ => hSnff1) ?_
          clear HK
          refine but_take (f := 20) (i := 7) (v := ?vnff7) rfl (by kernel_rfl) (by kernel_rfl) (by kernel_rfl) (by kernel_rfl) (by kernel_rfl) (fun _ _ _ h => h) (Or.inl ⟨(by rfl), ?hynff7⟩) hSnff1 ?restnff7
          case hynff7 =>
            intro W hW
            go_simp
            exact rfl
          simp only [List.getElem_toArray, List.getElem_cons_succ, List.getElem_cons_zero, Act.put, List.setIfInBounds_toArray, List.set_cons_zero, List.set_cons_succ]
          refine but_take (f := 20) (i := 8) (v := undef) rfl (by kernel_rfl) (by kernel_rfl) (by kernel_rfl) (by kernel_rfl) (by kernel_rfl) (fun _ _ _ h => h) (Or.inr ⟨((wanted_at rfl rfl rfl rfl).trans rfl), rfl⟩) hSnff1 ?_
          simp only [List.getElem_toArray, List.getElem_cons_succ, List.getElem_cons_zero, Act.put, List.setIfInBounds_toArray, List.set_cons_zero, List.set_cons_succ]
          refine but_take (f := 20) (i := 9) (v := undef) rfl (by kernel_rfl) (by kernel_rfl) (by kernel_rfl) (by kernel_rfl) (by kernel_rfl) (fun _ _ _ h => h) (Or.inr ⟨((wanted_at rfl rfl rfl rfl).trans rfl), rfl⟩) hSnff1 ?_
          simp only [List.getElem_toArray, List.getElem_cons_succ, List.getElem_cons_zero, Act.put, List.setIfInBounds_toArray, List.set_cons_zero, List.set_cons_succ]
          refine but_take (f := 20) (i := 10) (v := undef) rfl (by kernel_rfl) (by kernel_rfl) (by kernel_rfl) (by kernel_rfl) (by kernel_rfl) (fun _ _ _ h => h) (Or.inr ⟨((wanted_at rfl rfl rfl rfl).trans rfl), rfl⟩) hSnff1 ?_
          simp only [List.getElem_toArray, List.getElem_cons_succ, List.getElem_cons_zero, Act.put, List.setIfInBounds_toArray, List.set_cons_zero, List.set_cons_succ]
          refine but_take (f := 20) (i := 11) (v := undef) rfl (by kernel_rfl) (by kernel_rfl) (by kernel_rfl) (by kernel_rfl) (by kernel_rfl) (fun _ _ _ h => h) (Or.inr ⟨(wanted_un rfl rfl rfl rfl), rfl⟩) hSnff1 ?_
          simp only [List.getElem_toArray, List.getElem_cons_succ, List.getElem_cons_zero, Act.put, List.setIfInBounds_toArray, List.set_cons_zero, List.set_cons_succ]
          refine but_take (f := 20) (i := 12) (v := undef) rfl (by kernel_rfl) (by kernel_rfl) (by kernel_rfl) (by kernel_rfl) (by kernel_rfl) (fun _ _ _ h => h) (Or.inr ⟨(wanted_un rfl rfl rfl rfl), rfl⟩) hSnff1 ?_
          simp only [List.getElem_toArray, List.getElem_cons_succ, List.getElem_cons_zero, Act.put, List.setIfInBounds_toArray, List.set_cons_zero, List.set_cons_succ]
          refine but_take (f := 20) (i := 13) (v := undef) rfl (by kernel_rfl) (by kernel_rfl) (by kernel_rfl) (by kernel_rfl) (by kernel_rfl) (fun _ _ _ h => h) (Or.inr ⟨(wanted_un rfl rfl rfl rfl), rfl⟩) hSnff1 ?_
          simp only [List.getElem_toArray, List.getElem_cons_succ, List.getElem_cons_zero, Act.put, List.setIfInBounds_toArray, List.set_cons_zero, List.set_cons_succ]
          refine but_take (f := 20) (i := 14) (v := undef) rfl (by kernel_rfl) (by kernel_rfl) (by kernel_rfl) (by kernel_rfl) (by kernel_rfl) (fun _ _ _ h => h) (Or.inr ⟨(wanted_un rfl rfl rfl rfl), rfl⟩) hSnff1 ?_
          simp only [List.getElem_toArray, List.getElem_cons_succ, List.getElem_cons_zero, Act.put, List.setIfInBounds_toArray, List.set_cons_zero, List.set_cons_succ]
          refine but_take (f := 20) (i := 15) (v := undef) rfl (by kernel_rfl) (by kernel_rfl) (by kernel_rfl) (by kernel_rfl) (by kernel_rfl) (fun _ _ _ h => h) (Or.inr ⟨(wanted_un rfl rfl rfl rfl), rfl⟩) hSnff1 ?_
          simp only [List.getElem_toArray, List.getElem_cons_succ, List.getElem_cons_zero, Act.put, List.setIfInBounds_toArray, List.set_cons_zero, List.set_cons_succ]
          refine but_take (f := 20) (i := 16) (v := undef) rfl (by kernel_rfl) (by kernel_rfl) (by kernel_rfl) (by kernel_rfl) (by kernel_rfl) (fun _ _ _ h => h) (Or.inr ⟨(wanted_un rfl rfl rfl rfl), rfl⟩) hSnff1 ?_
          simp only [List.getElem_toArray, List.getElem_cons_succ, List.getElem_cons_zero, Act.put, List.setIfInBounds_toArray, List.set_cons_zero, List.set_cons_succ]
          refine but_take (f := 20) (i := 17) (v := undef) rfl (by kernel_rfl) (by kernel_rfl) (by kernel_rfl) (by kernel_rfl) (by kernel_rfl) (fun _ _ _ h => h) (Or.inr ⟨(wanted_un rfl rfl rfl rfl), rfl⟩) hSnff1 ?_
          simp only [List.getElem_toArray, List.getElem_cons_succ, List.getElem_cons_zero, Act.put, List.setIfInBounds_toArray, List.set_cons_zero, List.set_cons_succ]
          refine but_take (f := 20) (i := 18) (v := undef) rfl (by kernel_rfl) (by kernel_rfl) (by kernel_rfl) (by kernel_rfl) (by kernel_rfl) (fun _ _ _ h => h) (Or.inr ⟨(wanted_un rfl rfl rfl rfl), rfl⟩) hSnff1 ?_
          simp only [List.getElem_toArray, List.getElem_cons_succ, List.getElem_cons_zero, Act.put, List.setIfInBounds_toArray, List.set_cons_zero, List.set_cons_succ]
          refine but_take (f := 20) (i := 19) (v := undef) rfl (by kernel_rfl) (by kernel_rfl) (by kernel_rfl) (by kernel_rfl) (by kernel_rfl) (fun _ _ _ h => h) (Or.inr ⟨((wanted_at rfl rfl rfl rfl).trans rfl), rfl⟩) hSnff1 ?_
          simp only [List.getElem_toArray, List.getElem_cons_succ, List.getElem_cons_zero, Act.put, List.setIfInBounds_toArray, List.set_cons_zero, List.set_cons_succ]
          refine but_run (i := 20) (by kernel_rfl) rfl (by rfl) ?_
          simp only [List.getElem_toArray, List.getElem_cons_succ, List.getElem_cons_zero]
          intro K HK
          go_wp2_with fail
          refine HK.out _ Vnff1 (fun h => absurd rfl h) ?_
          clear HK
          refine but_done (by kernel_rfl) ?_
          go_wp2_with fail
          go_roundw
          case rel => exact ⟨k + 1, x, false, o, by omega, by go_num, rfl, HO, Lib.hid (near_no hlt HNB.out HI.out), Lib.hid (box_on Q1.out (bstep (Below.drew1 _) hSnff1)), Lib.hid (box_on Q2.out (bstep (Below.drew1 _) hSnff1)), Lib.hid (HRow.out.on (bstep (Below.drew1 _) hSnff1)), Lib.hid (bstep HB.out (bstep (Below.drew1 _) hSnff1)), Lib.hid (Nat.le_trans HZ.out ((bstep (Below.drew1 _) hSnff1)).size)⟩
          case measure => simp [intOf]; omega
        · refine but_begin (f := 20) (S := fun V => Below wr.drew.heap.size wr.drew V) (by kernel_rfl) ?_
          refine but_take (f := 20) (i := 0) (v := ?vnft0) rfl (by kernel_rfl) (by kernel_rfl) (by kernel_rfl) (by kernel_rfl) (by kernel_rfl) (fun _ _ _ h => h) (Or.inl ⟨(by rfl), ?hynft0⟩) (Below.refl _ _) ?restnft0
          case hynft0 =>
            intro W hW
            go_simp
            exact rfl
          simp only [List.getElem_toArray, List.getElem_cons_succ, List.getElem_cons_zero, Act.put, List.setIfInBounds_toArray, List.set_cons_zero, List.set_cons_succ]
          refine but_take (f := 20) (i := 1) (v := ?vnft1) rfl (by kernel_rfl) (by kernel_rfl) (by kernel_rfl) (by kernel_rfl) (by kernel_rfl) (fun _ _ _ h => h) (Or.inl ⟨(by rfl), ?hynft1⟩) (Below.refl _ _) ?restnft1
          case hynft1 =>
            intro W hW
            go_simp
            exact rfl
          simp only [List.getElem_toArray, List.getElem_cons_succ, List.getElem_cons_zero, Act.put, List.setIfInBounds_toArray, List.set_cons_zero, List.set_cons_succ]
          refine but_take (f := 20) (i := 2) (v := ?vnft2) rfl (by kernel_rfl) (by kernel_rfl) (by kernel_rfl) (by kernel_rfl) (by kernel_rfl) (fun _ _ _ h => h) (Or.inl ⟨(by rfl), ?hynft2⟩) (Below.refl _ _) ?restnft2
          case hynft2 =>
            intro W hW
            go_simp
            exact rfl
          simp only [List.getElem_toArray, List.getElem_cons_succ, List.getElem_cons_zero, Act.put, List.setIfInBounds_toArray, List.set_cons_zero, List.set_cons_succ]
          refine but_take (f := 20) (i := 3) (v := ?vnft3) rfl (by kernel_rfl) (by kernel_rfl) (by kernel_rfl) (by kernel_rfl) (by kernel_rfl) (fun _ _ _ h => h) (Or.inl ⟨(by rfl), ?hynft3⟩) (Below.refl _ _) ?restnft3
          case hynft3 =>
            intro W hW
            go_simp
            exact rfl
          simp only [List.getElem_toArray, List.getElem_cons_succ, List.getElem_cons_zero, Act.put, List.setIfInBounds_toArray, List.set_cons_zero, List.set_cons_succ]
          refine but_take (f := 20) (i := 4) (v := ?vnft4) rfl (by kernel_rfl) (by kernel_rfl) (by kernel_rfl) (by kernel_rfl) (by kernel_rfl) (fun _ _ _ h => h) (Or.inl ⟨(by rfl), ?hynft4⟩) (Below.refl _ _) ?restnft4
          case hynft4 =>
            intro W hW
            go_simp
            exact rfl
          simp only [List.getElem_toArray, List.getElem_cons_succ, List.getElem_cons_zero, Act.put, List.setIfInBounds_toArray, List.set_cons_zero, List.set_cons_succ]
          refine but_take (f := 20) (i := 5) (v := ?vnft5) rfl (by kernel_rfl) (by kernel_rfl) (by kernel_rfl) (by kernel_rfl) (by kernel_rfl) (fun _ _ _ h => h) (Or.inl ⟨(by rfl), ?hynft5⟩) (Below.refl _ _) ?restnft5
          case hynft5 =>
            intro W hW
            have hb0 : Below wr.heap.size wr W := bstep (Below.drew1 _) hW
            obtain ⟨c0, c1, c2, c3, c4⟩ := FK.out.on hbb hb0
            go_simp
            exact rfl
          simp only [List.getElem_toArray, List.getElem_cons_succ, List.getElem_cons_zero, Act.put, List.setIfInBounds_toArray, List.set_cons_zero, List.set_cons_succ]
          refine but_run (i := 6) (by kernel_rfl) rfl (by rfl) ?_
          simp only [List.getElem_toArray, List.getElem_cons_succ, List.getElem_cons_zero]
          intro K HK
          go_wp2_with fail
          refine (l7HasB_any _ path (L[k]).b _ (HVP.out.on (bstep HB.out (bstep (Below.drew1 _) (Below.refl _ _)))) hnp).mono ?_
          rintro r Vnft1 ⟨rfl, hBnft1⟩
          rw [HM.out]
          have hSnft1 := bstep (Below.refl _ _) hBnft1
          go_wp2_with fail
          refine HK.out _ Vnft1 (fun _ => hSnft1) ?_
          clear HK
          refine but_take (f := 20) (i := 7) (v := ?vnft7) rfl (by kernel_rfl) (by kernel_rfl) (by kernel_rfl) (by kernel_rfl) (by kernel_rfl) (fun _ _ _ h => h) (Or.inl ⟨(by rfl), ?hynft7⟩) hSnft1 ?restnft7
          case hynft7 =>
            intro W hW
            go_simp
            exact rfl
          simp only [List.getElem_toArray, List.getElem_cons_succ, List.getElem_cons_zero, Act.put, List.setIfInBounds_toArray, List.set_cons_zero, List.set_cons_succ]
          refine but_take (f := 20) (i := 8) (v := undef) rfl (by kernel_rfl) (by kernel_rfl) (by kernel_rfl) (by kernel_rfl) (by kernel_rfl) (fun _ _ _ h => h) (Or.inr ⟨((wanted_at rfl rfl rfl rfl).trans rfl), rfl⟩) hSnft1 ?_
          simp only [List.getElem_toArray, List.getElem_cons_succ, List.getElem_cons_zero, Act.put, List.setIfInBounds_toArray, List.set_cons_zero, List.set_cons_succ]
          refine but_take (f := 20) (i := 9) (v := undef) rfl (by kernel_rfl) (by kernel_rfl) (by kernel_rfl) (by kernel_rfl) (by kernel_rfl) (fun _ _ _ h => h) (Or.inr ⟨((wanted_at rfl rfl rfl rfl).trans rfl), rfl⟩) hSnft1 ?_
          simp only [List.getElem_toArray, List.getElem_cons_succ, List.getElem_cons_zero, Act.put, List.setIfInBounds_toArray, List.set_cons_zero, List.set_cons_succ]
          refine but_take (f := 20) (i := 10) (v := undef) rfl (by kernel_rfl) (by kernel_rfl) (by kernel_rfl) (by kernel_rfl) (by kernel_rfl) (fun _ _ _ h => h) (Or.inr ⟨((wanted_at rfl rfl rfl rfl).trans rfl), rfl⟩) hSnft1 ?_
          simp only [List.getElem_toArray, List.getElem_cons_succ, List.getElem_cons_zero, Act.put, List.setIfInBounds_toArray, List.set_cons_zero, List.set_cons_succ]
          refine but_take (f := 20) (i := 11) (v := undef) rfl (by kernel_rfl) (by kernel_rfl) (by kernel_rfl) (by kernel_rfl) (by kernel_rfl) (fun _ _ _ h => h) (Or.inr ⟨(wanted_un rfl rfl rfl rfl), rfl⟩) hSnft1 ?_
          simp only [List.getElem_toArray, List.getElem_cons_succ, List.getElem_cons_zero, Act.put, List.setIfInBounds_toArray, List.set_cons_zero, List.set_cons_succ]
          refine but_take (f := 20) (i := 12) (v := undef) rfl (by kernel_rfl) (by kernel_rfl) (by kernel_rfl) (by kernel_rfl) (by kernel_rfl) (fun _ _ _ h => h) (Or.inr ⟨(wanted_un rfl rfl rfl rfl), rfl⟩) hSnft1 ?_
          simp only [List.getElem_toArray, List.getElem_cons_succ, List.getElem_cons_zero, Act.put, List.setIfInBounds_toArray, List.set_cons_zero, List.set_cons_succ]
          refine but_take (f := 20) (i := 13) (v := undef) rfl (by kernel_rfl) (by kernel_rfl) (by kernel_rfl) (by kernel_rfl) (by kernel_rfl) (fun _ _ _ h => h) (Or.inr ⟨(wanted_un rfl rfl rfl rfl), rfl⟩) hSnft1 ?_
          simp only [List.getElem_toArray, List.getElem_cons_succ, List.getElem_cons_zero, Act.put, List.setIfInBounds_toArray, List.set_cons_zero, List.set_cons_succ]
          refine but_take (f := 20) (i := 14) (v := undef) rfl (by kernel_rfl) (by kernel_rfl) (by kernel_rfl) (by kernel_rfl) (by kernel_rfl) (fun _ _ _ h => h) (Or.inr ⟨(wanted_un rfl rfl rfl rfl), rfl⟩) hSnft1 ?_
          simp only [List.getElem_toArray, List.getElem_cons_succ, List.getElem_cons_zero, Act.put, List.setIfInBounds_toArray, List.set_cons_zero, List.set_cons_succ]
          refine but_take (f := 20) (i := 15) (v := undef) rfl (by kernel_rfl) (by kernel_rfl) (by kernel_rfl) (by kernel_rfl) (by kernel_rfl) (fun _ _ _ h => h) (Or.inr ⟨(wanted_un rfl rfl rfl rfl), rfl⟩) hSnft1 ?_
          simp only [List.getElem_toArray, List.getElem_cons_succ, List.getElem_cons_zero, Act.put, List.setIfInBounds_toArray, List.set_cons_zero, List.set_cons_succ]
          refine but_take (f := 20) (i := 16) (v := undef) rfl (by kernel_rfl) (by kernel_rfl) (by kernel_rfl) (by kernel_rfl) (by kernel_rfl) (fun _ _ _ h => h) (Or.inr ⟨(wanted_un rfl rfl rfl rfl), rfl⟩) hSnft1 ?_
          simp only [List.getElem_toArray, List.getElem_cons_succ, List.getElem_cons_zero, Act.put, List.setIfInBounds_toArray, List.set_cons_zero, List.set_cons_succ]
          refine but_take (f := 20) (i := 17) (v := undef) rfl (by kernel_rfl) (by kernel_rfl) (by kernel_rfl) (by kernel_rfl) (by kernel_rfl) (fun _ _ _ h => h) (Or.inr ⟨(wanted_un rfl rfl rfl rfl), rfl⟩) hSnft1 ?_
          simp only [List.getElem_toArray, List.getElem_cons_succ, List.getElem_cons_zero, Act.put, List.setIfInBounds_toArray, List.set_cons_zero, List.set_cons_succ]
          refine but_take (f := 20) (i := 18) (v := undef) rfl (by kernel_rfl) (by kernel_rfl) (by kernel_rfl) (by kernel_rfl) (by kernel_rfl) (fun _ _ _ h => h) (Or.inr ⟨(wanted_un rfl rfl rfl rfl), rfl⟩) hSnft1 ?_
          simp only [List.getElem_toArray, List.getElem_cons_succ, List.getElem_cons_zero, Act.put, List.setIfInBounds_toArray, List.set_cons_zero, List.set_cons_succ]
          refine but_take (f := 20) (i := 19) (v := undef) rfl (by kernel_rfl) (by kernel_rfl) (by kernel_rfl) (by kernel_rfl) (by kernel_rfl) (fun _ _ _ h => h) (Or.inr ⟨((wanted_at rfl rfl rfl rfl).trans rfl), rfl⟩) hSnft1 ?_
          simp only [List.getElem_toArray, List.getElem_cons_succ, List.getElem_cons_zero, Act.put, List.setIfInBounds_toArray, List.set_cons_zero, List.set_cons_succ]
          refine but_run (i := 20) (by kernel_rfl) rfl (by rfl) ?_
          simp only [List.getElem_toArray, List.getElem_cons_succ, List.getElem_cons_zero]
          intro K HK
          go_wp2_with fail
          refine HK.out _ Vnft1 (fun h => absurd rfl h) ?_
          clear HK
          refine but_done (by kernel_rfl) ?_
          go_wp2_with fail
          go_roundw
          case rel => exact ⟨k + 1, x, true, o, by omega, by go_num, rfl, HO, Lib.hid (near_no hlt HNB.out HI.out), Lib.hid (box_on Q1.out (bstep (Below.drew1 _) hSnft1)), Lib.hid (box_on Q2.out (bstep (Below.drew1 _) hSnft1)), Lib.hid (HRow.out.on (bstep (Below.drew1 _) hSnft1)), Lib.hid (bstep HB.out (bstep (Below.drew1 _) hSnft1)), Lib.hid (Nat.le_trans HZ.out ((bstep (Below.drew1 _) hSnft1)).size)⟩
          case measure => simp [intOf]; omega
      · cases y
        · refine but_begin (f := 20) (S := fun V => Below wr.drew.heap.size wr.drew V) (by kernel_rfl) ?_
          refine but_take (f := 20) (i := 0) (v := ?vntf0) rfl (by kernel_rfl) (by kernel_rfl) (by kernel_rfl) (by kernel_rfl) (by kernel_rfl) (fun _ _ _ h => h) (Or.inl ⟨(by rfl), ?hyntf0⟩) (Below.refl _ _) ?restntf0
          case hyntf0 =>
            intro W hW
            go_simp
            exact rfl
          simp only [List.getElem_toArray, List.getElem_cons_succ, List.getElem_cons_zero, Act.put, List.setIfInBounds_toArray, List.set_cons_zero, List.set_cons_succ]
          refine but_take (f := 20) (i := 1) (v := ?vntf1) rfl (by kernel_rfl) (by kernel_rfl) (by kernel_rfl) (by kernel_rfl) (by kernel_rfl) (fun _ _ _ h => h) (Or.inl ⟨(by rfl), ?hyntf1⟩) (Below.refl _ _) ?restntf1
          case hyntf1 =>
            intro W hW
            go_simp
            exact rfl
          simp only [List.getElem_toArray, List.getElem_cons_succ, List.getElem_cons_zero, Act.put, List.setIfInBounds_toArray, List.set_cons_zero, List.set_cons_succ]
          refine but_take (f := 20) (i := 2) (v := ?vntf2) rfl (by kernel_rfl) (by kernel_rfl) (by kernel_rfl) (by kernel_rfl) (by kernel_rfl) (fun _ _ _ h => h) (Or.inl ⟨(by rfl), ?hyntf2⟩) (Below.refl _ _) ?restntf2
          case hyntf2 =>
            intro W hW
            go_simp
            exact rfl
          simp only [List.getElem_toArray, List.getElem_cons_succ, List.getElem_cons_zero, Act.put, List.setIfInBounds_toArray, List.set_cons_zero, List.set_cons_succ]
          refine but_take (f := 20) (i := 3) (v := ?vntf3) rfl (by kernel_rfl) (by kernel_rfl) (by kernel_rfl) (by kernel_rfl) (by kernel_rfl) (fun _ _ _ h => h) (Or.inl ⟨(by rfl), ?hyntf3⟩) (Below.refl _ _) ?restntf3
          case hyntf3 =>
            intro W hW
            go_simp
            exact rfl
          simp only [List.getElem_toArray, List.getElem_cons_succ, List.getElem_cons_zero, Act.put, List.setIfInBounds_toArray, List.set_cons_zero, List.set_cons_succ]
          refine but_take (f := 20) (i := 4) (v := ?vntf4) rfl (by kernel_rfl) (by kernel_rfl) (by kernel_rfl) (by kernel_rfl) (by kernel_rfl) (fun _ _ _ h => h) (Or.inl ⟨(by rfl), ?hyntf4⟩) (Below.refl _ _) ?restntf4
          case hyntf4 =>
            intro W hW
            go_simp
            exact rfl
          simp only [List.getElem_toArray, List.getElem_cons_succ, List.getElem_cons_zero, Act.put, List.setIfInBounds_toArray, List.set_cons_zero, List.set_cons_succ]
          refine but_take (f := 20) (i := 5) (v := ?vntf5) rfl (by kernel_rfl) (by kernel_rfl) (by kernel_rfl) (by kernel_rfl) (by kernel_rfl) (fun _ _ _ h => h) (Or.inl ⟨(by rfl), ?hyntf5⟩) (Below.refl _ _) ?restntf5
          case hyntf5 =>
            intro W hW
            have hb0 : Below wr.heap.size wr W := bstep (Below.drew1 _) hW
            obtain ⟨c0, c1, c2, c3, c4⟩ := FK.out.on hbb hb0
            go_simp
            exact rfl
          simp only [List.getElem_toArray, List.getElem_cons_succ, List.getElem_cons_zero, Act.put, List.setIfInBounds_toArray, List.set_cons_zero, List.set_cons_succ]
          refine but_run (i := 6) (by kernel_rfl) rfl (by rfl) ?_
          simp only [List.getElem_toArray, List.getElem_cons_succ, List.getElem_cons_zero]
          intro K HK
          go_wp2_with fail
          refine (l7HasB_any _ path (L[k]).b _ (HVP.out.on (bstep HB.out (bstep (Below.drew1 _) (Below.refl _ _)))) hnp).mono ?_
          rintro r Vntf1 ⟨rfl, hBntf1⟩
          rw [HM.out]
          have hSntf1 := bstep (Below.refl _ _) hBntf1
          go_wp2_with fail
          refine HK.out _ Vntf1 (fun _ => hSntf1) ?_
          clear HK
          refine but_take (f := 20) (i := 7) (v := ?vntf7) rfl (by kernel_rfl) (by kernel_rfl) (by kernel_rfl) (by kernel_rfl) (by kernel_rfl) (fun _ _ _ h => h) (Or.inl ⟨(by rfl), ?hyntf7⟩) hSntf1 ?restntf7
          case hyntf7 =>
            intro W hW
            go_simp
            exact rfl
          simp only [List.getElem_toArray, List.getElem_cons_succ, List.getElem_cons_zero, Act.put, List.setIfInBounds_toArray, List.set_cons_zero, List.set_cons_succ]
          refine but_take (f := 20) (i := 8) (v := ?vntf8) rfl (by kernel_rfl) (by kernel_rfl) (by kernel_rfl) (by kernel_rfl) (by kernel_rfl) (fun _ _ _ h => h) (Or.inl ⟨((wanted_at rfl rfl rfl rfl).trans rfl), ?hyntf8⟩) hSntf1 ?restntf8
          case hyntf8 =>
            intro W hW
            go_simp
            exact rfl
          simp only [List.getElem_toArray, List.getElem_cons_succ, List.getElem_cons_zero, Act.put, List.setIfInBounds_toArray, List.set_cons_zero, List.set_cons_succ]
          refine but_take (f := 20) (i := 9) (v := ?vntf9) rfl (by kernel_rfl) (by kernel_rfl) (by kernel_rfl) (by kernel_rfl) (by kernel_rfl) (fun _ _ _ h => h) (Or.inl ⟨((wanted_at rfl rfl rfl rfl).trans rfl), ?hyntf9⟩) hSntf1 ?restntf9
          case hyntf9 =>
            intro W hW
            go_simp
            exact rfl
          simp only [List.getElem_toArray, List.getElem_cons_succ, List.getElem_cons_zero, Act.put, List.setIfInBounds_toArray, List.set_cons_zero, List.set_cons_succ]
          refine but_take (f := 20) (i := 10) (v := ?vntf10) rfl (by kernel_rfl) (by kernel_rfl) (by kernel_rfl) (by kernel_rfl) (by kernel_rfl) (fun _ _ _ h => h) (Or.inl ⟨((wanted_at rfl rfl rfl rfl).trans rfl), ?hyntf10⟩) hSntf1 ?restntf10
          case hyntf10 =>
            intro W hW
            go_simp
            exact rfl
          simp only [List.getElem_toArray, List.getElem_cons_succ, List.getElem_cons_zero, Act.put, List.setIfInBounds_toArray, List.set_cons_zero, List.set_cons_succ]
          refine but_take (f := 20) (i := 11) (v := undef) rfl (by kernel_rfl) (by kernel_rfl) (by kernel_rfl) (by kernel_rfl) (by kernel_rfl) (fun _ _ _ h => h) (Or.inr ⟨((wanted_at rfl rfl rfl rfl).trans rfl), rfl⟩) hSntf1 ?_
          simp only [List.getElem_toArray, List.getElem_cons_succ, List.getElem_cons_zero, Act.put, List.setIfInBounds_toArray, List.set_cons_zero, List.set_cons_succ]
          refine but_take (f := 20) (i := 12) (v := undef) rfl (by kernel_rfl) (by kernel_rfl) (by kernel_rfl) (by kernel_rfl) (by kernel_rfl) (fun _ _ _ h => h) (Or.inr ⟨((wanted_at rfl rfl rfl rfl).trans rfl), rfl⟩) hSntf1 ?_
          simp only [List.getElem_toArray, List.getElem_cons_succ, List.getElem_cons_zero, Act.put, List.setIfInBounds_toArray, List.set_cons_zero, List.set_cons_succ]
          refine but_take (f := 20) (i := 13) (v := undef) rfl (by kernel_rfl) (by kernel_rfl) (by kernel_rfl) (by kernel_rfl) (by kernel_rfl) (fun _ _ _ h => h) (Or.inr ⟨((wanted_at rfl rfl rfl rfl).trans rfl), rfl⟩) hSntf1 ?_
          simp only [List.getElem_toArray, List.getElem_cons_succ, List.getElem_cons_zero, Act.put, List.setIfInBounds_toArray, List.set_cons_zero, List.set_cons_succ]
          refine but_take (f := 20) (i := 14) (v := undef) rfl (by kernel_rfl) (by kernel_rfl) (by kernel_rfl) (by kernel_rfl) (by kernel_rfl) (fun _ _ _ h => h) (Or.inr ⟨((wanted_at rfl rfl rfl rfl).trans rfl), rfl⟩) hSntf1 ?_
          simp only [List.getElem_toArray, List.getElem_cons_succ, List.getElem_cons_zero, Act.put, List.setIfInBounds_toArray, List.set_cons_zero, List.set_cons_succ]
          refine but_take (f := 20) (i := 15) (v := undef) rfl (by kernel_rfl) (by kernel_rfl) (by kernel_rfl) (by kernel_rfl) (by kernel_rfl) (fun _ _ _ h => h) (Or.inr ⟨((wanted_at rfl rfl rfl rfl).trans rfl), rfl⟩) hSntf1 ?_
          simp only [List.getElem_toArray, List.getElem_cons_succ, List.getElem_cons_zero, Act.put, List.setIfInBounds_toArray, List.set_cons_zero, List.set_cons_succ]
          refine but_take (f := 20) (i := 16) (v := undef) rfl (by kernel_rfl) (by kernel_rfl) (by kernel_rfl) (by kernel_rfl) (by kernel_rfl) (fun _ _ _ h => h) (Or.inr ⟨((wanted_at rfl rfl rfl rfl).trans rfl), rfl⟩) hSntf1 ?_
          simp only [List.getElem_toArray, List.getElem_cons_succ, List.getElem_cons_zero, Act.put, List.setIfInBounds_toArray, List.set_cons_zero, List.set_cons_succ]
          refine but_take (f := 20) (i := 17) (v := undef) rfl (by kernel_rfl) (by kernel_rfl) (by kernel_rfl) (by kernel_rfl) (by kernel_rfl) (fun _ _ _ h => h) (Or.inr ⟨((wanted_at rfl rfl rfl rfl).trans rfl), rfl⟩) hSntf1 ?_
          simp only [List.getElem_toArray, List.getElem_cons_succ, List.getElem_cons_zero, Act.put, List.setIfInBounds_toArray, List.set_cons_zero, List.set_cons_succ]
          refine but_take (f := 20) (i := 18) (v := undef) rfl (by kernel_rfl) (by kernel_rfl) (by kernel_rfl) (by kernel_rfl) (by kernel_rfl) (fun _ _ _ h => h) (Or.inr ⟨((wanted_at rfl rfl rfl rfl).trans rfl), rfl⟩) hSntf1 ?_
          simp only [List.getElem_toArray, List.getElem_cons_succ, List.getElem_cons_zero, Act.put, List.setIfInBounds_toArray, List.set_cons_zero, List.set_cons_succ]
          refine but_take (f := 20) (i := 19) (v := ?vntf19) rfl (by kernel_rfl) (by kernel_rfl) (by kernel_rfl) (by kernel_rfl) (by kernel_rfl) (fun _ _ _ h => h) (Or.inl ⟨((wanted_at rfl rfl rfl rfl).trans rfl), ?hyntf19⟩) hSntf1 ?restntf19
          case hyntf19 =>
            intro W hW
            go_simp
            exact rfl
          simp only [List.getElem_toArray, List.getElem_cons_succ, List.getElem_cons_zero, Act.put, List.setIfInBounds_toArray, List.set_cons_zero, List.set_cons_succ]
          refine but_run (i := 20) (by kernel_rfl) rfl (by rfl) ?_
          simp only [List.getElem_toArray, List.getElem_cons_succ, List.getElem_cons_zero]
          intro K HK
          go_wp2_with fail
          refine HK.out _ Vntf1 (fun h => absurd rfl h) ?_
          clear HK
          refine but_done (by kernel_rfl) ?_
          obtain ⟨c0, c1, c2, c3, c4⟩ := FK.out.on hbb (bstep (Below.drew1 _) hSntf1)
          obtain ⟨z0, z1, z2, z3, z4, z5⟩ := box5 (box_on Q2.out (bstep (Below.drew1 _) hSntf1))
          go_wp2
          go_roundw
          case rel => exact ⟨k + 1, L[k], true, some L[k], by omega, by go_num, rfl, Lib.hid ⟨rfl, rfl⟩, Lib.hid (near_yes hlt HNB.out HI.out), Lib.hid (heap_far5 (box_on Q1.out (bstep (Below.drew1 _) hSntf1)) (by omega)), Lib.hid (box_setsK (box_on Q2.out (bstep (Below.drew1 _) hSntf1))), Lib.hid ((HRow.out.on (bstep (Below.drew1 _) hSntf1)).set5 (by omega)), Lib.hid (b5' (bstep HB.out (bstep (Below.drew1 _) hSntf1)) (by omega)), Lib.hid (by simp only [World.size_setCell]; exact Nat.le_trans HZ.out ((bstep (Below.drew1 _) hSntf1)).size)⟩
          case measure => simp [intOf]; omega
        · cases G
          · refine but_begin (f := 20) (S := fun V => Below wr.drew.heap.size wr.drew V) (by kernel_rfl) ?_
            refine but_take (f := 20) (i := 0) (v := ?vnttf0) rfl (by kernel_rfl) (by kernel_rfl) (by kernel_rfl) (by kernel_rfl) (by kernel_rfl) (fun _ _ _ h => h) (Or.inl ⟨(by rfl), ?hynttf0⟩) (Below.refl _ _) ?restnttf0
            case hynttf0 =>
              intro W hW
              go_simp
              exact rfl
            simp only [List.getElem_toArray, List.getElem_cons_succ, List.getElem_cons_zero, Act.put, List.setIfInBounds_toArray, List.set_cons_zero, List.set_cons_succ]
            refine but_take (f := 20) (i := 1) (v := ?vnttf1) rfl (by kernel_rfl) (by kernel_rfl) (by kernel_rfl) (by kernel_rfl) (by kernel_rfl) (fun _ _ _ h => h) (Or.inl ⟨(by rfl), ?hynttf1⟩) (Below.refl _ _) ?restnttf1
            case hynttf1 =>
              intro W hW
              go_simp
              exact rfl
            simp only [List.getElem_toArray, List.getElem_cons_succ, List.getElem_cons_zero, Act.put, List.setIfInBounds_toArray, List.set_cons_zero, List.set_cons_succ]
            refine but_take (f := 20) (i := 2) (v := ?vnttf2) rfl (by kernel_rfl) (by kernel_rfl) (by kernel_rfl) (by kernel_rfl) (by kernel_rfl) (fun _ _ _ h => h) (Or.inl ⟨(by rfl), ?hynttf2⟩) (Below.refl _ _) ?restnttf2
            case hynttf2 =>
              intro W hW
              go_simp
              exact rfl
            simp only [List.getElem_toArray, List.getElem_cons_succ, List.getElem_cons_zero, Act.put, List.setIfInBounds_toArray, List.set_cons_zero, List.set_cons_succ]
            refine but_take (f := 20) (i := 3) (v := ?vnttf3) rfl (by kernel_rfl) (by kernel_rfl) (by kernel_rfl) (by kernel_rfl) (by kernel_rfl) (fun _ _ _ h => h) (Or.inl ⟨(by rfl), ?hynttf3⟩) (Below.refl _ _) ?restnttf3
            case hynttf3 =>
              intro W hW
              go_simp
              exact rfl
            simp only [List.getElem_toArray, List.getElem_cons_succ, List.getElem_cons_zero, Act.put, List.setIfInBounds_toArray, List.set_cons_zero, List.set_cons_succ]
            refine but_take (f := 20) (i := 4) (v := ?vnttf4) rfl (by kernel_rfl) (by kernel_rfl) (by kernel_rfl) (by kernel_rfl) (by kernel_rfl) (fun _ _ _ h => h) (Or.inl ⟨(by rfl), ?hynttf4⟩) (Below.refl _ _) ?restnttf4
            case hynttf4 =>
              intro W hW
              go_simp
              exact rfl
            simp only [List.getElem_toArray, List.getElem_cons_succ, List.getElem_cons_zero, Act.put, List.setIfInBounds_toArray, List.set_cons_zero, List.set_cons_succ]
            refine but_take (f := 20) (i := 5) (v := ?vnttf5) rfl (by kernel_rfl) (by kernel_rfl) (by kernel_rfl) (by kernel_rfl) (by kernel_rfl) (fun _ _ _ h => h) (Or.inl ⟨(by rfl), ?hynttf5⟩) (Below.refl _ _) ?restnttf5
            case hynttf5 =>
              intro W hW
              have hb0 : Below wr.heap.size wr W := bstep (Below.drew1 _) hW
              obtain ⟨c0, c1, c2, c3, c4⟩ := FK.out.on hbb hb0
              go_simp
              exact rfl
            simp only [List.getElem_toArray, List.getElem_cons_succ, List.getElem_cons_zero, Act.put, List.setIfInBounds_toArray, List.set_cons_zero, List.set_cons_succ]
            refine but_run (i := 6) (by kernel_rfl) rfl (by rfl) ?_
            simp only [List.getElem_toArray, List.getElem_cons_succ, List.getElem_cons_zero]
            intro K HK
            go_wp2_with fail
            refine (l7HasB_any _ path (L[k]).b _ (HVP.out.on (bstep HB.out (bstep (Below.drew1 _) (Below.refl _ _)))) hnp).mono ?_
            rintro r Vnttf1 ⟨rfl, hBnttf1⟩
            rw [HM.out]
            have hSnttf1 := bstep (Below.refl _ _) hBnttf1
            go_wp2_with fail
            refine HK.out _ Vnttf1 (fun _ => hSnttf1) ?_
            clear HK
            refine but_take (f := 20) (i := 7) (v := ?vnttf7) rfl (by kernel_rfl) (by kernel_rfl) (by kernel_rfl) (by kernel_rfl) (by kernel_rfl) (fun _ _ _ h => h) (Or.inl ⟨(by rfl), ?hynttf7⟩) hSnttf1 ?restnttf7
            case hynttf7 =>
              intro W hW
              go_simp
              exact rfl
            simp only [List.getElem_toArray, List.getElem_cons_succ, List.getElem_cons_zero, Act.put, List.setIfInBounds_toArray, List.set_cons_zero, List.set_cons_succ]
            refine but_take (f := 20) (i := 8) (v := ?vnttf8) rfl (by kernel_rfl) (by kernel_rfl) (by kernel_rfl) (by kernel_rfl) (by kernel_rfl) (fun _ _ _ h => h) (Or.inl ⟨((wanted_at rfl rfl rfl rfl).trans rfl), ?hynttf8⟩) hSnttf1 ?restnttf8
            case hynttf8 =>
              intro W hW
              go_simp
              exact rfl
            simp only [List.getElem_toArray, List.getElem_cons_succ, List.getElem_cons_zero, Act.put, List.setIfInBounds_toArray, List.set_cons_zero, List.set_cons_succ]
            refine but_take (f := 20) (i := 9) (v := ?vnttf9) rfl (by kernel_rfl) (by kernel_rfl) (by kernel_rfl) (by kernel_rfl) (by kernel_rfl) (fun _ _ _ h => h) (Or.inl ⟨((wanted_at rfl rfl rfl rfl).trans rfl), ?hynttf9⟩) hSnttf1 ?restnttf9
            case hynttf9 =>
              intro W hW
              go_simp
              exact rfl
            simp only [List.getElem_toArray, List.getElem_cons_succ, List.getElem_cons_zero, Act.put, List.setIfInBounds_toArray, List.set_cons_zero, List.set_cons_succ]
            refine but_take (f := 20) (i := 10) (v := ?vnttf10) rfl (by kernel_rfl) (by kernel_rfl) (by kernel_rfl) (by kernel_rfl) (by kernel_rfl) (fun _ _ _ h => h) (Or.inl ⟨((wanted_at rfl rfl rfl rfl).trans rfl), ?hynttf10⟩) hSnttf1 ?restnttf10
            case hynttf10 =>
              intro W hW
              go_simp
              exact rfl
            simp only [List.getElem_toArray, List.getElem_cons_succ, List.getElem_cons_zero, Act.put, List.setIfInBounds_toArray, List.set_cons_zero, List.set_cons_succ]
            refine but_take (f := 20) (i := 11) (v := ?vnttf11) rfl (by kernel_rfl) (by kernel_rfl) (by kernel_rfl) (by kernel_rfl) (by kernel_rfl) (fun _ _ _ h => h) (Or.inl ⟨((wanted_at rfl rfl rfl rfl).trans rfl), ?hynttf11⟩) hSnttf1 ?restnttf11
            case hynttf11 =>
              intro W hW
              go_simp
              exact rfl
            simp only [List.getElem_toArray, List.getElem_cons_succ, List.getElem_cons_zero, Act.put, List.setIfInBounds_toArray, List.set_cons_zero, List.set_cons_succ]
            refine but_take (f := 20) (i := 12) (v := ?vnttf12) rfl (by kernel_rfl) (by kernel_rfl) (by kernel_rfl) (by kernel_rfl) (by kernel_rfl) (fun _ _ _ h => h) (Or.inl ⟨((wanted_at rfl rfl rfl rfl).trans rfl), ?hynttf12⟩) hSnttf1 ?restnttf12
            case hynttf12 =>
              intro W hW
              go_simp
              exact rfl
            simp only [List.getElem_toArray, List.getElem_cons_succ, List.getElem_cons_zero, Act.put, List.setIfInBounds_toArray, List.set_cons_zero, List.set_cons_succ]
            refine but_take (f := 20) (i := 13) (v := ?vnttf13) rfl (by kernel_rfl) (by kernel_rfl) (by kernel_rfl) (by kernel_rfl) (by kernel_rfl) (fun _ _ _ h => h) (Or.inl ⟨((wanted_at rfl rfl rfl rfl).trans rfl), ?hynttf13⟩) hSnttf1 ?restnttf13
            case hynttf13 =>
              intro W hW
              go_simp
              exact rfl
            simp only [List.getElem_toArray, List.getElem_cons_succ, List.getElem_cons_zero, Act.put, List.setIfInBounds_toArray, List.set_cons_zero, List.set_cons_succ]
            refine but_take (f := 20) (i := 14) (v := ?vnttf14) rfl (by kernel_rfl) (by kernel_rfl) (by kernel_rfl) (by kernel_rfl) (by kernel_rfl) (fun _ _ _ h => h) (Or.inl ⟨((wanted_at rfl rfl rfl rfl).trans rfl), ?hynttf14⟩) hSnttf1 ?restnttf14
            case hynttf14 =>
              intro W hW
              go_simp
              exact rfl
            simp only [List.getElem_toArray, List.getElem_cons_succ, List.getElem_cons_zero, Act.put, List.setIfInBounds_toArray, List.set_cons_zero, List.set_cons_succ]
            refine but_take (f := 20) (i := 15) (v := ?vnttf15) rfl (by kernel_rfl) (by kernel_rfl) (by kernel_rfl) (by kernel_rfl) (by kernel_rfl) (fun _ _ _ h => h) (Or.inl ⟨((wanted_at rfl rfl rfl rfl).trans rfl), ?hynttf15⟩) hSnttf1 ?restnttf15
            case hynttf15 =>
              intro W hW
              have hb0 : Below wr.heap.size wr W := bstep (Below.drew1 _) hW
              obtain ⟨c0, c1, c2, c3, c4⟩ := FK.out.on hbb hb0
              go_simp
              exact rfl
            simp only [List.getElem_toArray, List.getElem_cons_succ, List.getElem_cons_zero, Act.put, List.setIfInBounds_toArray, List.set_cons_zero, List.set_cons_succ]
            refine but_take (f := 20) (i := 16) (v := ?vnttf16) rfl (by kernel_rfl) (by kernel_rfl) (by kernel_rfl) (by kernel_rfl) (by kernel_rfl) (fun _ _ _ h => h) (Or.inl ⟨((wanted_at rfl rfl rfl rfl).trans rfl), ?hynttf16⟩) hSnttf1 ?restnttf16
            case hynttf16 =>
              intro W hW
              go_simp
              exact rfl
            simp only [List.getElem_toArray, List.getElem_cons_succ, List.getElem_cons_zero, Act.put, List.setIfInBounds_toArray, List.set_cons_zero, List.set_cons_succ]
            refine but_take (f := 20) (i := 17) (v := ?vnttf17) rfl (by kernel_rfl) (by kernel_rfl) (by kernel_rfl) (by kernel_rfl) (by kernel_rfl) (fun _ _ _ h => h) (Or.inl ⟨((wanted_at rfl rfl rfl rfl).trans rfl), ?hynttf17⟩) hSnttf1 ?restnttf17
            case hynttf17 =>
              intro W hW
              have hb0 : Below wr.heap.size wr W := bstep (Below.drew1 _) hW
              obtain ⟨z0, z1, z2, z3, z4, z5⟩ := box5 (box_on Q2.out hb0)
              go_simp
              exact rfl
            simp only [List.getElem_toArray, List.getElem_cons_succ, List.getElem_cons_zero, Act.put, List.setIfInBounds_toArray, List.set_cons_zero, List.set_cons_succ]
            refine but_take (f := 20) (i := 18) (v := ?vnttf18) rfl (by kernel_rfl) (by kernel_rfl) (by kernel_rfl) (by kernel_rfl) (by kernel_rfl) (fun _ _ _ h => h) (Or.inl ⟨((wanted_at rfl rfl rfl rfl).trans rfl), ?hynttf18⟩) hSnttf1 ?restnttf18
            case hynttf18 =>
              intro W hW
              go_simp
              exact rfl
            simp only [List.getElem_toArray, List.getElem_cons_succ, List.getElem_cons_zero, Act.put, List.setIfInBounds_toArray, List.set_cons_zero, List.set_cons_succ]
            refine but_take (f := 20) (i := 19) (v := ?vnttf19) rfl (by kernel_rfl) (by kernel_rfl) (by kernel_rfl) (by kernel_rfl) (by kernel_rfl) (fun _ _ _ h => h) (Or.inl ⟨((wanted_at rfl rfl rfl rfl).trans rfl), ?hynttf19⟩) hSnttf1 ?restnttf19
            case hynttf19 =>
              intro W hW
              go_simp
              exact rfl
            simp only [List.getElem_toArray, List.getElem_cons_succ, List.getElem_cons_zero, Act.put, List.setIfInBounds_toArray, List.set_cons_zero, List.set_cons_succ]
            refine but_run (i := 20) (by kernel_rfl) rfl (by rfl) ?_
            simp only [List.getElem_toArray, List.getElem_cons_succ, List.getElem_cons_zero]
            intro K HK
            go_wp2_with fail
            refine HK.out _ Vnttf1 (fun h => absurd rfl h) ?_
            clear HK
            refine but_done (by kernel_rfl) ?_
            go_wp2_with fail
            go_roundw
            case rel => exact ⟨k + 1, x, true, o, by omega, by go_num, rfl, HO, Lib.hid (near_no hlt HNB.out HI.out), Lib.hid (box_on Q1.out (bstep (Below.drew1 _) hSnttf1)), Lib.hid (box_on Q2.out (bstep (Below.drew1 _) hSnttf1)), Lib.hid (HRow.out.on (bstep (Below.drew1 _) hSnttf1)), Lib.hid (bstep HB.out (bstep (Below.drew1 _) hSnttf1)), Lib.hid (Nat.le_trans HZ.out ((bstep (Below.drew1 _) hSnttf1)).size)⟩
            case measure => simp [intOf]; omega
          · refine but_begin (f := 20) (S := fun V => Below wr.drew.heap.size wr.drew V) (by kernel_rfl) ?_
            refine but_take (f := 20) (i := 0) (v := ?vnttt0) rfl (by kernel_rfl) (by kernel_rfl) (by kernel_rfl) (by kernel_rfl) (by kernel_rfl) (fun _ _ _ h => h) (Or.inl ⟨(by rfl), ?hynttt0⟩) (Below.refl _ _) ?restnttt0
            case hynttt0 =>
              intro W hW
              go_simp
              exact rfl
            simp only [List.getElem_toArray, List.getElem_cons_succ, List.getElem_cons_zero, Act.put, List.setIfInBounds_toArray, List.set_cons_zero, List.set_cons_succ]
            refine but_take (f := 20) (i := 1) (v := ?vnttt1) rfl (by kernel_rfl) (by kernel_rfl) (by kernel_rfl) (by kernel_rfl) (by kernel_rfl) (fun _ _ _ h => h) (Or.inl ⟨(by rfl), ?hynttt1⟩) (Below.refl _ _) ?restnttt1
            case hynttt1 =>
              intro W hW
              go_simp
              exact rfl
            simp only [List.getElem_toArray, List.getElem_cons_succ, List.getElem_cons_zero, Act.put, List.setIfInBounds_toArray, List.set_cons_zero, List.set_cons_succ]
            refine but_take (f := 20) (i := 2) (v := ?vnttt2) rfl (by kernel_rfl) (by kernel_rfl) (by kernel_rfl) (by kernel_rfl) (by kernel_rfl) (fun _ _ _ h => h) (Or.inl ⟨(by rfl), ?hynttt2⟩) (Below.refl _ _) ?restnttt2
            case hynttt2 =>
              intro W hW
              go_simp
              exact rfl
            simp only [List.getElem_toArray, List.getElem_cons_succ, List.getElem_cons_zero, Act.put, List.setIfInBounds_toArray, List.set_cons_zero, List.set_cons_succ]
            refine but_take (f := 20) (i := 3) (v := ?vnttt3) rfl (by kernel_rfl) (by kernel_rfl) (by kernel_rfl) (by kernel_rfl) (by kernel_rfl) (fun _ _ _ h => h) (Or.inl ⟨(by rfl), ?hynttt3⟩) (Below.refl _ _) ?restnttt3
            case hynttt3 =>
              intro W hW
              go_simp
              exact rfl
            simp only [List.getElem_toArray, List.getElem_cons_succ, List.getElem_cons_zero, Act.put, List.setIfInBounds_toArray, List.set_cons_zero, List.set_cons_succ]
            refine but_take (f := 20) (i := 4) (v := ?vnttt4) rfl (by kernel_rfl) (by kernel_rfl) (by kernel_rfl) (by kernel_rfl) (by kernel_rfl) (fun _ _ _ h => h) (Or.inl ⟨(by rfl), ?hynttt4⟩) (Below.refl _ _) ?restnttt4
            case hynttt4 =>
              intro W hW
              go_simp
              exact rfl
            simp only [List.getElem_toArray, List.getElem_cons_succ, List.getElem_cons_zero, Act.put, List.setIfInBounds_toArray, List.set_cons_zero, List.set_cons_succ]
            refine but_take (f := 20) (i := 5) (v := ?vnttt5) rfl (by kernel_rfl) (by kernel_rfl) (by kernel_rfl) (by kernel_rfl) (by kernel_rfl) (fun _ _ _ h => h) (Or.inl ⟨(by rfl), ?hynttt5⟩) (Below.refl _ _) ?restnttt5
            case hynttt5 =>
              intro W hW
              have hb0 : Below wr.heap.size wr W := bstep (Below.drew1 _) hW
              obtain ⟨c0, c1, c2, c3, c4⟩ := FK.out.on hbb hb0
              go_simp
              exact rfl
            simp only [List.getElem_toArray, List.getElem_cons_succ, List.getElem_cons_zero, Act.put, List.setIfInBounds_toArray, List.set_cons_zero, List.set_cons_succ]
            refine but_run (i := 6) (by kernel_rfl) rfl (by rfl) ?_
            simp only [List.getElem_toArray, List.getElem_cons_succ, List.getElem_cons_zero]
            intro K HK
            go_wp2_with fail
            refine (l7HasB_any _ path (L[k]).b _ (HVP.out.on (bstep HB.out (bstep (Below.drew1 _) (Below.refl _ _)))) hnp).mono ?_
            rintro r Vnttt1 ⟨rfl, hBnttt1⟩
            rw [HM.out]
            have hSnttt1 := bstep (Below.refl _ _) hBnttt1
            go_wp2_with fail
            refine HK.out _ Vnttt1 (fun _ => hSnttt1) ?_
            clear HK
            refine but_take (f := 20) (i := 7) (v := ?vnttt7) rfl (by kernel_rfl) (by kernel_rfl) (by kernel_rfl) (by kernel_rfl) (by kernel_rfl) (fun _ _ _ h => h) (Or.inl ⟨(by rfl), ?hynttt7⟩) hSnttt1 ?restnttt7
            case hynttt7 =>
              intro W hW
              go_simp
              exact rfl
            simp only [List.getElem_toArray, List.getElem_cons_succ, List.getElem_cons_zero, Act.put, List.setIfInBounds_toArray, List.set_cons_zero, List.set_cons_succ]
            refine but_take (f := 20) (i := 8) (v := ?vnttt8) rfl (by kernel_rfl) (by kernel_rfl) (by kernel_rfl) (by kernel_rfl) (by kernel_rfl) (fun _ _ _ h => h) (Or.inl ⟨((wanted_at rfl rfl rfl rfl).trans rfl), ?hynttt8⟩) hSnttt1 ?restnttt8
            case hynttt8 =>
              intro W hW
              go_simp
              exact rfl
            simp only [List.getElem_toArray, List.getElem_cons_succ, List.getElem_cons_zero, Act.put, List.setIfInBounds_toArray, List.set_cons_zero, List.set_cons_succ]
            refine but_take (f := 20) (i := 9) (v := ?vnttt9) rfl (by kernel_rfl) (by kernel_rfl) (by kernel_rfl) (by kernel_rfl) (by kernel_rfl) (fun _ _ _ h => h) (Or.inl ⟨((wanted_at rfl rfl rfl rfl).trans rfl), ?hynttt9⟩) hSnttt1 ?restnttt9
            case hynttt9 =>
              intro W hW
              go_simp
              exact rfl
            simp only [List.getElem_toArray, List.getElem_cons_succ, List.getElem_cons_zero, Act.put, List.setIfInBounds_toArray, List.set_cons_zero, List.set_cons_succ]
            refine but_take (f := 20) (i := 10) (v := ?vnttt10) rfl (by kernel_rfl) (by kernel_rfl) (by kernel_rfl) (by kernel_rfl) (by kernel_rfl) (fun _ _ _ h => h) (Or.inl ⟨((wanted_at rfl rfl rfl rfl).trans rfl), ?hynttt10⟩) hSnttt1 ?restnttt10
            case hynttt10 =>
              intro W hW
              go_simp
              exact rfl
            simp only [List.getElem_toArray, List.getElem_cons_succ, List.getElem_cons_zero, Act.put, List.setIfInBounds_toArray, List.set_cons_zero, List.set_cons_succ]
            refine but_take (f := 20) (i := 11) (v := ?vnttt11) rfl (by kernel_rfl) (by kernel_rfl) (by kernel_rfl) (by kernel_rfl) (by kernel_rfl) (fun _ _ _ h => h) (Or.inl ⟨((wanted_at rfl rfl rfl rfl).trans rfl), ?hynttt11⟩) hSnttt1 ?restnttt11
            case hynttt11 =>
              intro W hW
              go_simp
              exact rfl
            simp only [List.getElem_toArray, List.getElem_cons_succ, List.getElem_cons_zero, Act.put, List.setIfInBounds_toArray, List.set_cons_zero, List.set_cons_succ]
            refine but_take (f := 20) (i := 12) (v := ?vnttt12) rfl (by kernel_rfl) (by kernel_rfl) (by kernel_rfl) (by kernel_rfl) (by kernel_rfl) (fun _ _ _ h => h) (Or.inl ⟨((wanted_at rfl rfl rfl rfl).trans rfl), ?hynttt12⟩) hSnttt1 ?restnttt12
            case hynttt12 =>
              intro W hW
              go_simp
              exact rfl
            simp only [List.getElem_toArray, List.getElem_cons_succ, List.getElem_cons_zero, Act.put, List.setIfInBounds_toArray, List.set_cons_zero, List.set_cons_succ]
            refine but_take (f := 20) (i := 13) (v := ?vnttt13) rfl (by kernel_rfl) (by kernel_rfl) (by kernel_rfl) (by kernel_rfl) (by kernel_rfl) (fun _ _ _ h => h) (Or.inl ⟨((wanted_at rfl rfl rfl rfl).trans rfl), ?hynttt13⟩) hSnttt1 ?restnttt13
            case hynttt13 =>
              intro W hW
              go_simp
              exact rfl
            simp only [List.getElem_toArray, List.getElem_cons_succ, List.getElem_cons_zero, Act.put, List.setIfInBounds_toArray, List.set_cons_zero, List.set_cons_succ]
            refine but_take (f := 20) (i := 14) (v := ?vnttt14) rfl (by kernel_rfl) (by kernel_rfl) (by kernel_rfl) (by kernel_rfl) (by kernel_rfl) (fun _ _ _ h => h) (Or.inl ⟨((wanted_at rfl rfl rfl rfl).trans rfl), ?hynttt14⟩) hSnttt1 ?restnttt14
            case hynttt14 =>
              intro W hW
              go_simp
              exact rfl
            simp only [List.getElem_toArray, List.getElem_cons_succ, List.getElem_cons_zero, Act.put, List.setIfInBounds_toArray, List.set_cons_zero, List.set_cons_succ]
            refine but_take (f := 20) (i := 15) (v := ?vnttt15) rfl (by kernel_rfl) (by kernel_rfl) (by kernel_rfl) (by kernel_rfl) (by kernel_rfl) (fun _ _ _ h => h) (Or.inl ⟨((wanted_at rfl rfl rfl rfl).trans rfl), ?hynttt15⟩) hSnttt1 ?restnttt15
            case hynttt15 =>
              intro W hW
              have hb0 : Below wr.heap.size wr W := bstep (Below.drew1 _) hW
              obtain ⟨c0, c1, c2, c3, c4⟩ := FK.out.on hbb hb0
              go_simp
              exact rfl
            simp only [List.getElem_toArray, List.getElem_cons_succ, List.getElem_cons_zero, Act.put, List.setIfInBounds_toArray, List.set_cons_zero, List.set_cons_succ]
            refine but_take (f := 20) (i := 16) (v := ?vnttt16) rfl (by kernel_rfl) (by kernel_rfl) (by kernel_rfl) (by kernel_rfl) (by kernel_rfl) (fun _ _ _ h => h) (Or.inl ⟨((wanted_at rfl rfl rfl rfl).trans rfl), ?hynttt16⟩) hSnttt1 ?restnttt16
            case hynttt16 =>
              intro W hW
              go_simp
              exact rfl
            simp only [List.getElem_toArray, List.getElem_cons_succ, List.getElem_cons_zero, Act.put, List.setIfInBounds_toArray, List.set_cons_zero, List.set_cons_succ]
            refine but_take (f := 20) (i := 17) (v := ?vnttt17) rfl (by kernel_rfl) (by kernel_rfl) (by kernel_rfl) (by kernel_rfl) (by kernel_rfl) (fun _ _ _ h => h) (Or.inl ⟨((wanted_at rfl rfl rfl rfl).trans rfl), ?hynttt17⟩) hSnttt1 ?restnttt17
            case hynttt17 =>
              intro W hW
              have hb0 : Below wr.heap.size wr W := bstep (Below.drew1 _) hW
              obtain ⟨z0, z1, z2, z3, z4, z5⟩ := box5 (box_on Q2.out hb0)
              go_simp
              exact rfl
            simp only [List.getElem_toArray, List.getElem_cons_succ, List.getElem_cons_zero, Act.put, List.setIfInBounds_toArray, List.set_cons_zero, List.set_cons_succ]
            refine but_take (f := 20) (i := 18) (v := ?vnttt18) rfl (by kernel_rfl) (by kernel_rfl) (by kernel_rfl) (by kernel_rfl) (by kernel_rfl) (fun _ _ _ h => h) (Or.inl ⟨((wanted_at rfl rfl rfl rfl).trans rfl), ?hynttt18⟩) hSnttt1 ?restnttt18
            case hynttt18 =>
              intro W hW
              go_simp
              exact rfl
            simp only [List.getElem_toArray, List.getElem_cons_succ, List.getElem_cons_zero, Act.put, List.setIfInBounds_toArray, List.set_cons_zero, List.set_cons_succ]
            refine but_take (f := 20) (i := 19) (v := ?vnttt19) rfl (by kernel_rfl) (by kernel_rfl) (by kernel_rfl) (by kernel_rfl) (by kernel_rfl) (fun _ _ _ h => h) (Or.inl ⟨((wanted_at rfl rfl rfl rfl).trans rfl), ?hynttt19⟩) hSnttt1 ?restnttt19
            case hynttt19 =>
              intro W hW
              go_simp
              exact rfl
            simp only [List.getElem_toArray, List.getElem_cons_succ, List.getElem_cons_zero, Act.put, List.setIfInBounds_toArray, List.set_cons_zero, List.set_cons_succ]
            refine but_run (i := 20) (by kernel_rfl) rfl (by rfl) ?_
            simp only [List.getElem_toArray, List.getElem_cons_succ, List.getElem_cons_zero]
            intro K HK
            go_wp2_with fail
            refine HK.out _ Vnttt1 (fun h => absurd rfl h) ?_
            clear HK
            refine but_done (by kernel_rfl) ?_
            obtain ⟨c0, c1, c2, c3, c4⟩ := FK.out.on hbb (bstep (Below.drew1 _) hSnttt1)
            obtain ⟨z0, z1, z2, z3, z4, z5⟩ := box5 (box_on Q2.out (bstep (Below.drew1 _) hSnttt1))
            go_wp2
            go_roundw
            case rel => exact ⟨k + 1, L[k], true, some L[k], by omega, by go_num, rfl, Lib.hid ⟨rfl, rfl⟩, Lib.hid (near_yes hlt HNB.out HI.out), Lib.hid (heap_far5 (box_on Q1.out (bstep (Below.drew1 _) hSnttt1)) (by omega)), Lib.hid (box_setsK (box_on Q2.out (bstep (Below.drew1 _) hSnttt1))), Lib.hid ((HRow.out.on (bstep (Below.drew1 _) hSnttt1)).set5 (by omega)), Lib.hid (b5' (bstep HB.out (bstep (Below.drew1 _) hSnttt1)) (by omega)), Lib.hid (by simp only [World.size_setCell]; exact Nat.le_trans HZ.out ((bstep (Below.drew1 _) hSnttt1)).size)⟩
            case measure => simp [intOf]; omega
    · have hF : R = o := by
        rw [← HI.out, List.drop_eq_nil_of_le (by omega)]
        rfl
      subst hF
      obtain ⟨z0, z1, z2, z3, z4, z5⟩ := box5 Q1.out
      obtain ⟨y0, y1, y2, y3, y4, y5⟩ := box5 Q2.out
      have hx := HO.out.2
      have hf := HO.out.1
      clear HO HI
      go_wp2
      refine bodyPost_ret (v := .tuple #[x.v, .bool y]) (by simp [results, Try.results50, go_sem, keyV, KeyD.v, *]) rfl ⟨by rw [hx, hf]; rfl, ?_⟩
      exact b5' (g := w.heap.size + 1) HB.out (by omega)
set_option maxHeartbeats 4000000 in
theorem specSeen_any (vl vn va : Value) (lo : List Int) (ts : List NodeD) (l : List AgeD) (p d : Int) (w : World) (hv : RdT w w.heap.size vl vn lo ts) (ha : Reads w w.heap.size va (agesD l)) (hn : ts.length ≤ 1048576) (hs : sumT ts ≤ 1048576) (hl : l.length ≤ 1048576) :
    Calls Try.prog 14 #[.agg #[vl, vn], va, .int .i64 p, .int .i64 d] w (SaysFind w (nearK (keysOfK ts p) (pathSK l d))) := by
  obtain ⟨A, c, A', c', rfl, rfl⟩ := hv.shape
  obtain ⟨Aa, ca, rfl, _, _⟩ := ha.shapeG
  have HN := Lib.hid l8Near_any
  unfold SaysFind KeyD.v keyV at HN
  unfold SaysFind KeyD.v keyV
  obtain ⟨q0, q1⟩ := al2 w (.cells #[.slice A lo.length c, .slice A' ts.length c'] 27) (.cells #[.int .i64 0, .int .i64 0, .int .i64 0, .int .i64 0, .int .i64 0] 32)
  have hb := bal2 w (.cells #[.slice A lo.length c, .slice A' ts.length c'] 27) (.cells #[.int .i64 0, .int .i64 0, .int .i64 0, .int .i64 0, .int .i64 0] 32)
  have HV := Lib.hid (hv.on hb)
  have HA := Lib.hid (ha.on hb)
  have HB := Lib.hid hb
  have Q0 := Lib.hid q0
  have Q1 := Lib.hid q1
  have HPL := Lib.hid (pathSK_len l d)
  obtain ⟨F, hF⟩ : ∃ F, nearK (keysOfK ts p) (pathSK l d) = F := ⟨_, rfl⟩
  rw [hF]
  have HF := Lib.hid hF
  clear hv ha hb q0 q1 hF
  go_enter Try.func14, Try.ntmps14
  go_upto_region 1 with (fail)
  generalize (w.alloc (.cells #[.slice A lo.length c, .slice A' ts.length c'] 27)).alloc (.cells #[.int .i64 0, .int .i64 0, .int .i64 0, .int .i64 0, .int .i64 0] 32) = W at *
  refine but_begin (f := 9) (S := fun V => V.heap[w.heap.size]? = some (.cells #[.slice A lo.length c, .slice A' ts.length c'] 27 (0, 0))) (by kernel_rfl) ?_
  refine but_take (f := 9) (i := 0) (v := ?vss0) rfl (by kernel_rfl) (by kernel_rfl) (by kernel_rfl) (by kernel_rfl) (by kernel_rfl) (fun _ _ _ h => h) (Or.inl ⟨(by rfl), ?hyss0⟩) (Q0.out) ?restss0
  case hyss0 =>
    intro W hW
    obtain ⟨x0, x1, x2⟩ := box2 hW
    go_simp
    exact rfl
  simp only [List.getElem_toArray, List.getElem_cons_succ, List.getElem_cons_zero, Act.put, List.setIfInBounds_toArray, List.set_cons_zero, List.set_cons_succ]
  refine but_take (f := 9) (i := 1) (v := ?vss1) rfl (by kernel_rfl) (by kernel_rfl) (by kernel_rfl) (by kernel_rfl) (by kernel_rfl) (fun _ _ _ h => h) (Or.inl ⟨(by rfl), ?hyss1⟩) (Q0.out) ?restss1
  case hyss1 =>
    intro W hW
    go_simp
    exact rfl
  simp only [List.getElem_toArray, List.getElem_cons_succ, List.getElem_cons_zero, Act.put, List.setIfInBounds_toArray, List.set_cons_zero, List.set_cons_succ]
  refine but_take (f := 9) (i := 2) (v := ?vss2) rfl (by kernel_rfl) (by kernel_rfl) (by kernel_rfl) (by kernel_rfl) (by kernel_rfl) (fun _ _ _ h => h) (Or.inl ⟨(by rfl), ?hyss2⟩) (Q0.out) ?restss2
  case hyss2 =>
    intro W hW
    go_simp
    exact rfl
  simp only [List.getElem_toArray, List.getElem_cons_succ, List.getElem_cons_zero, Act.put, List.setIfInBounds_toArray, List.set_cons_zero, List.set_cons_succ]
  refine but_take (f := 9) (i := 3) (v := ?vss3) rfl (by kernel_rfl) (by kernel_rfl) (by kernel_rfl) (by kernel_rfl) (by kernel_rfl) (fun _ _ _ h => h) (Or.inl ⟨(by rfl), ?hyss3⟩) (Q0.out) ?restss3
  case hyss3 =>
    intro W hW
    go_simp
    exact rfl
  simp only [List.getElem_toArray, List.getElem_cons_succ, List.getElem_cons_zero, Act.put, List.setIfInBounds_toArray, List.set_cons_zero, List.set_cons_succ]
  refine but_run (i := 4) (by kernel_rfl) rfl (by rfl) ?_
  simp only [List.getElem_toArray, List.getElem_cons_succ, List.getElem_cons_zero]
  intro K HK
  go_wp2_with fail
  refine (specPathOf_any _ l d _ (HA.out.on (Below.drew1 _)) (by omega)).mono ?_
  rintro r Vss1 ⟨v1, rfl, o1, b1⟩
  obtain ⟨A1, c1, rfl, _, _⟩ := o1.shape
  have O1 := Lib.hid o1
  have B1 := Lib.hid (bstep (Below.drew1 _) b1)
  clear o1 b1
  go_wp2_with fail
  have hSss1 : (fun V => V.heap[w.heap.size]? = some (.cells #[.slice A lo.length c, .slice A' ts.length c'] 27 (0, 0))) Vss1 := box_on Q0.out B1.out
  refine HK.out _ _ (fun _ => hSss1) ?_
  clear HK
  refine but_run (i := 5) (by kernel_rfl) rfl (by rfl) ?_
  simp only [List.getElem_toArray, List.getElem_cons_succ, List.getElem_cons_zero]
  intro K HK
  go_wp2_with fail
  refine (HN.out _ _ _ lo ts p (pathSK l d) _ (HV.out.on B1.out) O1.out.owns.reads hn hs (by have := HPL.out; omega)).mono ?_
  rintro r Vss2 ⟨rfl, b2⟩
  rw [HF.out]
  have B2 := Lib.hid b2
  clear b2
  go_wp2_with fail
  have hSss2 : (fun V => V.heap[w.heap.size]? = some (.cells #[.slice A lo.length c, .slice A' ts.length c'] 27 (0, 0))) Vss2 := box_on (box_on Q0.out B1.out) B2.out
  refine HK.out _ _ (fun _ => hSss2) ?_
  clear HK
  refine but_take (f := 9) (i := 6) (v := ?vss6) rfl (by kernel_rfl) (by kernel_rfl) (by kernel_rfl) (by kernel_rfl) (by kernel_rfl) (fun _ _ _ h => h) (Or.inl ⟨(by rfl), ?hyss6⟩) hSss2 ?restss6
  case hyss6 =>
    intro W hW
    go_simp
    exact rfl
  simp only [List.getElem_toArray, List.getElem_cons_succ, List.getElem_cons_zero, Act.put, List.setIfInBounds_toArray, List.set_cons_zero, List.set_cons_succ]
  refine but_take (f := 9) (i := 7) (v := ?vss7) rfl (by kernel_rfl) (by kernel_rfl) (by kernel_rfl) (by kernel_rfl) (by kernel_rfl) (fun _ _ _ h => h) (Or.inl ⟨(by rfl), ?hyss7⟩) hSss2 ?restss7
  case hyss7 =>
    intro W hW
    go_simp
    exact rfl
  simp only [List.getElem_toArray, List.getElem_cons_succ, List.getElem_cons_zero, Act.put, List.setIfInBounds_toArray, List.set_cons_zero, List.set_cons_succ]
  refine but_run (i := 8) (by kernel_rfl) rfl (by rfl) ?_
  simp only [List.getElem_toArray, List.getElem_cons_succ, List.getElem_cons_zero]
  intro K HK
  obtain ⟨y0, y1, y2, y3, y4, y5⟩ := box5 (box_on (box_on Q1.out B1.out) B2.out)
  go_wp2_with fail
  have hSss3 : (fun V => V.heap[w.heap.size]? = some (.cells #[.slice A lo.length c, .slice A' ts.length c'] 27 (0, 0))) ((((((Vss2.setCell ⟨w.heap.size + 1, 0, none⟩ (.int .i64 (F.getD zK).a)).setCell ⟨w.heap.size + 1, 1, none⟩ (.int .i64 (F.getD zK).b)).setCell ⟨w.heap.size + 1, 2, none⟩ (.int .i64 (F.getD zK).c)).setCell ⟨w.heap.size + 1, 3, none⟩ (.int .i64 (F.getD zK).d)).setCell ⟨w.heap.size + 1, 4, none⟩ (.int .i64 (F.getD zK).e))) := heap_far5 hSss2 (by omega)
  refine HK.out _ _ (fun _ => hSss3) ?_
  clear HK
  refine but_run (i := 9) (by kernel_rfl) rfl (by rfl) ?_
  simp only [List.getElem_toArray, List.getElem_cons_succ, List.getElem_cons_zero]
  intro K HK
  go_wp2_with fail
  refine HK.out _ _ (fun h => absurd rfl h) ?_
  clear HK
  refine but_done (by kernel_rfl) ?_
  go_wp2
  refine bodyPost_ret (v := .tuple #[(F.getD zK).v, .bool F.isSome]) (by simp [results, Try.results14, go_sem, keyV, KeyD.v, *]) rfl ⟨rfl, ?_⟩
  exact b5' (bstep (bstep HB.out B1.out) B2.out) (by omega)
end Go.Proofs.Ythopkhpiikiknaa
