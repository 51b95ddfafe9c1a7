/- Contracts for impl.CutAge and spec.CutAge. Conditions: at most 2^20 versions. -/
import Derived.Test.YtjnecehogebjkaaAgeDel
import Derived.Test.YtjnecehogebjkaaAgeLaw
namespace Go.Proofs.Ytjnecehogebjkaa
open Go.RowKit
set_option maxRecDepth 100000
set_option linter.unusedSimpArgs false
set_option linter.unusedVariables false

theorem cutK_yes {l : List AgeD} {d : Int} (h : cutOk l d = true) : cutK l d = cutL l d := by rw [cutK, h]; rfl
theorem cutK_no {l : List AgeD} {d : Int} (h : cutOk l d = false) : cutK l d = l := by rw [cutK, h]; rfl
theorem ageAt_has {l : List AgeD} {d : Int} (h : hasG l d = true) : ageI l d < l.length ∧ ageAtK l d = (ageI l d : Int) := by
  have h1 : ageI l d < l.length := of_decide_eq_true h
  exact ⟨h1, by rw [ageAtK, if_pos h1]⟩
theorem cutL_at {l : List AgeD} {d : Int} (h : ageI l d < l.length) : cutL l d = (l.eraseIdx (ageI l d)).map (reP d (l[ageI l d]).b) := by
  unfold cutL parG
  rw [List.getElem?_eq_getElem h]
theorem gvl_setB (l : List AgeD) (i : Nat) (k : AgeD) (h : i < l.length) (ha : k.a = (l[i]).a) : gvl (l.set i k) = (gvl l).set (i * 2 + 1) (.int .i64 k.b) := by
  rw [gvl_set l i k h]
  congr 1
  refine List.ext_getElem? (fun j => ?_)
  rw [List.getElem?_set]
  split
  · next hj =>
    subst hj
    have hl := gvl_len l
    rw [if_pos (by omega)]
    have h1 : ∀ (t : List AgeD) (n : Nat) (hn : n < t.length), (gvl t)[n * 2]? = some (.int .i64 (t[n]).a) := by
      intro t
      induction t with
      | nil => intro n hn; simp at hn
      | cons y t ih =>
        intro n hn
        rw [gvl_cons]
        cases n with
        | zero => rfl
        | succ n =>
          rw [List.getElem?_append_right (by simp [gX]; omega), show (n + 1) * 2 - (gX y).length = n * 2 by simp [gX]; omega]
          simpa using ih n (by simpa using hn)
    rw [h1 l i h, ha]
  · rfl
theorem RwG.setB {w : World} {g cap : Nat} {l : List AgeD} (h : RwG w g cap l) {i : Nat} (hi : i < l.length) (p : Int) : RwG (w.setCell ⟨g, i * 2 + 1, none⟩ (.int .i64 p)) g cap (l.set i ⟨(l[i]).a, p⟩) := by
  have h5 := Rw.set h (i * 2 + 1) (.int .i64 p)
  unfold RwG
  rw [List.length_set, gvl_setB l i ⟨(l[i]).a, p⟩ hi rfl]
  exact h5
theorem RwG.at2 {w : World} {g cap : Nat} {l : List AgeD} (h : RwG w g cap l) {i : Nat} (hi : i < l.length) : w.cell? ⟨g, i * 2, none⟩ = some (.int .i64 (l[i]).a) ∧ w.cell? ⟨g, i * 2 + 1, none⟩ = some (.int .i64 (l[i]).b) := by
  have hl := gvl_len l
  have key : ∀ (t : List AgeD) (n : Nat) (hn : n < t.length), (gvl t)[n * 2]? = some (.int .i64 (t[n]).a) ∧ (gvl t)[n * 2 + 1]? = some (.int .i64 (t[n]).b) := by
    intro t
    induction t with
    | nil => intro n hn; simp at hn
    | cons y t ih =>
      intro n hn
      rw [gvl_cons]
      cases n with
      | zero => exact ⟨rfl, rfl⟩
      | succ n =>
        obtain ⟨h1, h2⟩ := ih n (by simpa using hn)
        rw [List.getElem?_append_right (by simp [gX]; omega), show (n + 1) * 2 - (gX y).length = n * 2 by simp [gX]; omega, List.getElem?_append_right (by simp [gX]; omega), show (n + 1) * 2 + 1 - (gX y).length = n * 2 + 1 by simp [gX]; omega]
        simpa using ⟨h1, h2⟩
  obtain ⟨h1, h2⟩ := key l i hi
  rw [List.getElem?_eq_getElem (by omega)] at h1 h2
  have c1 := Rw.cell h (i := i * 2) (by omega)
  have c2 := Rw.cell h (i := i * 2 + 1) (by omega)
  rw [Option.some.inj h1] at c1
  rw [Option.some.inj h2] at c2
  exact ⟨c1, c2⟩
/-- The first k turned, the others not yet. -/
def turnL (re : AgeD → AgeD) (t : List AgeD) (k : Nat) : List AgeD := (t.take k).map re ++ t.drop k
theorem turnL_len (re : AgeD → AgeD) (t : List AgeD) (k : Nat) : (turnL re t k).length = t.length := by
  unfold turnL
  simp
  omega
theorem turnL_zero (re : AgeD → AgeD) (t : List AgeD) : turnL re t 0 = t := by simp [turnL]
theorem turnL_at (re : AgeD → AgeD) (t : List AgeD) (k : Nat) (h : k < t.length) : (turnL re t k)[k]'(by rw [turnL_len]; exact h) = t[k] := by
  unfold turnL
  have : ((t.take k).map re).length = k := by simp; omega
  rw [List.getElem_append_right (by omega)]
  simp only [List.getElem_drop]
  congr 1
  omega
theorem turnL_step (re : AgeD → AgeD) (t : List AgeD) (k : Nat) (h : k < t.length) : turnL re t (k + 1) = (turnL re t k).set k (re t[k]) := by
  unfold turnL
  have hl : ((t.take k).map re).length = k := by simp; omega
  rw [List.take_succ_eq_append_getElem h, List.map_append, gdrop_at h, List.set_append_right _ _ (by omega), hl, Nat.sub_self, List.set_cons_zero]
  simp
theorem reP_same {d p : Int} {x : AgeD} (h : (x.b == d) = false) : reP d p x = x := by rw [reP, h]; rfl
theorem reP_turn {d p : Int} {x : AgeD} (h : (x.b == d) = true) : reP d p x = ⟨x.a, p⟩ := by rw [reP, h]; rfl
theorem turnL_same (re : AgeD → AgeD) (t : List AgeD) (k : Nat) (h : k < t.length) (hs : re t[k] = t[k]) : turnL re t (k + 1) = turnL re t k := by
  rw [turnL_step re t k h, hs]
  have h2 := turnL_at re t k h
  rw [← h2]
  exact List.set_getElem_self _
set_option maxHeartbeats 4000000 in
theorem implCutAge_any (v : Value) (l : List AgeD) (d : Int) (w : World) (hv : Reads w w.heap.size v (agesD l)) (hn : l.length ≤ 2000000) : Calls Try.prog 20 #[v, .int .i64 d] w (NewGB w (cutK l d) (cutOk l d)) := by
  obtain ⟨A, c, rfl, _, _⟩ := hv.shapeG
  have HV := Lib.hid hv
  have HG := Lib.hid (ageAt_neg l d)
  clear hv
  go_enter Try.func20, Try.ntmps20
  go_wp2_with fail
  refine (cloneG_any _ l _ HV.out (by omega)).mono ?_
  rintro e w1 ⟨v1, rfl, o1, b1⟩
  have O1 := Lib.hid o1
  have B1 := Lib.hid b1
  obtain ⟨A1, c1, rfl, _, _⟩ := o1.shape
  clear o1 b1
  go_wp2_with fail
  refine (implAgeAt_any _ l d _ (HV.out.on B1.out) (by omega)).mono ?_
  rintro e w2 ⟨rfl, b2⟩
  have O2 := Lib.hid (O1.out.on b2)
  have B2 := Lib.hid (bstep B1.out b2)
  clear O1 B1 b2
  cases hh : hasG l d
  · have hno : cutOk l d = false := by rw [cutOk, hh]; rfl
    have HNO := Lib.hid hno
    rw [hh] at HG
    generalize ageAtK l d = q at *
    have hq : decide (q < 0) = true := HG.out
    clear hno hh
    go_wp2
    refine bodyPost_ret (v := .tuple #[.slice A1 l.length c1, .bool false]) (by simp [results, Try.results20, go_sem]) rfl ?_
    rw [HNO.out, cutK_no HNO.out]
    exact ⟨_, rfl, O2.out, B2.out⟩
  · obtain ⟨hN, hq0⟩ := ageAt_has hh
    rw [hh] at HG
    have hcl := cutL_at hN
    have HH := Lib.hid hh
    have hq : decide (ageAtK l d < 0) = false := HG.out
    obtain ⟨p, hp⟩ : ∃ p, (l[ageI l d]).b = p := ⟨_, rfl⟩
    rw [hp] at hcl
    have HPN : Hid (∀ W, Reads W W.heap.size (.slice A l.length c) (agesD l) → ∃ b off, A = some ⟨b, off, none⟩ ∧ W.cell? ⟨b, off + ageI l d * 2 + 1, none⟩ = some (.int .i64 p)) := Lib.hid (fun W hW => by
      obtain ⟨b, off, hA, _, hc⟩ := hW.ages hN
      exact ⟨b, off, hA, by have := (hc _ hN).2; rw [hp] at this; exact this⟩)
    generalize ageI l d = N at *
    rw [hq0] at hq ⊢
    have i1 : (N : Int) < (l.length : Int) := by omega
    have i2 : (0 : Int) ≤ (N : Int) := by omega
    have i3 : IntKind.i64.wrap ((N : Int) + 1) = (N : Int) + 1 := by rw [IntKind.wrap_i64]; omega
    have HCL := Lib.hid hcl
    clear hh hq0 hcl hp HG
    go_wp2_with fail
    refine (implAgesOk_any _ l _ (HV.out.on B2.out) (by omega)).mono ?_
    rintro e w3 ⟨rfl, b3⟩
    have O3 := Lib.hid (O2.out.on b3)
    have B3 := Lib.hid (bstep B2.out b3)
    clear O2 B2 b3
    cases hok : agesOkB l
    · have hno : cutOk l d = false := by rw [cutOk, hok]; simp
      have HNO := Lib.hid hno
      clear hno hok
      go_wp2
      refine bodyPost_ret (v := .tuple #[.slice A1 l.length c1, .bool false]) (by simp [results, Try.results20, go_sem]) rfl ?_
      rw [HNO.out, cutK_no HNO.out]
      exact ⟨_, rfl, O3.out, B3.out⟩
    · have hyes : cutOk l d = true := by rw [cutOk, hok, HH.out]; rfl
      have HYES := Lib.hid hyes
      clear hyes hok
      go_wp2_with fail
      refine (deleteG_any _ l N w.heap.size _ O3.out B3.out.size hN (by omega)).mono ?_
      rintro e w4 ⟨v4, rfl, o4, b4⟩
      have B4 := Lib.hid (B3.out.trans b4)
      have htl : (l.eraseIdx N).length ≤ l.length := List.length_eraseIdx_le _ _
      clear O3 B3 b4
      obtain ⟨t, ht⟩ : ∃ t, l.eraseIdx N = t := ⟨_, rfl⟩
      rw [ht] at o4 htl
      have HCT : Hid (cutL l d = t.map (reP d p)) := Lib.hid (by rw [HCL.out, ht])
      clear ht HCL hq
      rcases row_cases o4 with ⟨rfl, hl0, _⟩ | ⟨g, cap, rfl, hbg, hR, hcap, hmax, _⟩
      · have : t = [] := List.length_eq_zero_iff.1 hl0
        subst this
        have O4 := Lib.hid o4
        clear o4
        go_wp2
        go_loopw [8, 9, 30] (fun _ _ i wr => i = .int .i64 0 ∧ w4 = wr) (fun _ _ _ _ => 0)
        case atStart => exact ⟨rfl, rfl⟩
        case round =>
          obtain ⟨rfl, rfl⟩ := hrel
          go_wp2
          refine bodyPost_ret (v := .tuple #[.slice none 0 0, .bool true]) (by simp [results, Try.results20, go_sem]) rfl ?_
          rw [HYES.out, cutK_yes HYES.out, HCT.out]
          exact ⟨_, rfl, O4.out, B4.out⟩
      · have HR : Hid (RwG w4 g cap (turnL (reP d p) t 0)) := Lib.hid (by rw [turnL_zero]; exact hR)
        clear o4 hR
        go_wp2
        go_loopw [8, 9, 30] (fun _ _ i wr => ∃ k : Nat, k ≤ t.length ∧ i = .int .i64 k ∧ Hid (RwG wr g cap (turnL (reP d p) t k)) ∧ Hid (Below w.heap.size w wr)) (fun _ _ i _ => t.length - (intOf i).toNat)
        case atStart => exact ⟨0, Nat.zero_le _, rfl, HR, B4⟩
        case round =>
          clear HR B4
          obtain ⟨k, hk, rfl, HR, HB⟩ := hrel
          by_cases hlt : k < t.length
          · have hlt2 : k < (turnL (reP d p) t k).length := by rw [turnL_len]; exact hlt
            obtain ⟨c3, c4⟩ := HR.out.at2 hlt2
            rw [turnL_at _ _ _ hlt] at c3 c4
            have j1 : (k : Int) < (t.length : Int) := by omega
            have j2 : (0 : Int) ≤ (k : Int) := by omega
            have hzr := HB.out.size
            have bA := bal1 wr (.cells #[.int .i64 (t[k]).a, .int .i64 (t[k]).b] 39)
            have BA := Lib.hid (HB.out.trans (bA.mono hzr))
            have RA := Lib.hid (Rw.keep HR.out (bA.block g (Rw.lt HR.out)))
            have hgne : ¬ g = wr.heap.size := by have := Rw.lt HR.out; omega
            cases hs : ((t[k]).b == d)
            · have HS := Lib.hid hs
              have RA2 : Hid (RwG (wr.alloc (.cells #[.int .i64 (t[k]).a, .int .i64 (t[k]).b] 39)) g cap (turnL (reP d p) t (k + 1))) := Lib.hid (by rw [turnL_same _ _ _ hlt (reP_same hs)]; exact RA.out)
              clear bA RA hlt2
              go_wp2
              go_roundw
              case rel => exact ⟨k + 1, by omega, by go_num, RA2, BA⟩
              case measure => simp [intOf]; omega
            · have hst : turnL (reP d p) t (k + 1) = (turnL (reP d p) t k).set k ⟨((turnL (reP d p) t k)[k]'hlt2).a, p⟩ := by
                rw [turnL_step _ _ _ hlt, reP_turn hs, turnL_at _ _ _ hlt]
              have RS : Hid (RwG ((wr.alloc (.cells #[.int .i64 (t[k]).a, .int .i64 (t[k]).b] 39)).setCell ⟨g, k * 2 + 1, none⟩ (.int .i64 p)) g cap (turnL (reP d p) t (k + 1))) := Lib.hid (by rw [hst]; exact RwG.setB RA.out hlt2 p)
              have BS := Lib.hid (BA.out.setCell (p := ⟨g, k * 2 + 1, none⟩) hbg (.int .i64 p))
              have c5 := (RwG.at2 RA.out hlt2).2
              rw [turnL_at _ _ _ hlt] at c5
              have f5 := Rw.frozen RA.out (k * 2 + 1)
              obtain ⟨b, off, rfl, hcp⟩ := HPN.out _ (HV.out.on BA.out)
              clear bA RA hlt2 hst
              go_wp2
              go_roundw
              case rel => exact ⟨k + 1, by omega, by go_num, RS, BS⟩
              case measure => simp [intOf]; omega
          · have hke : k = t.length := by omega
            subst hke
            have hfin : turnL (reP d p) t t.length = t.map (reP d p) := by simp [turnL]
            have hr := HR.out
            rw [hfin] at hr
            have ho : RowG wr w.heap.size (.slice (some ⟨g, 0, none⟩) t.length cap) (t.map (reP d p)) := by
              have := (RwG.owns (S := fun b => w.heap.size ≤ b) hr hbg (by simpa using hcap) hmax).rowG (base := w.heap.size) (fun b hb => hb)
              simpa using this
            have HO := Lib.hid ho
            clear hr ho hfin
            go_wp2
            refine bodyPost_ret (v := .tuple #[.slice (some ⟨g, 0, none⟩) t.length cap, .bool true]) (by simp [results, Try.results20, go_sem]) rfl ?_
            rw [HYES.out, cutK_yes HYES.out, HCT.out]
            exact ⟨_, rfl, HO.out, HB.out⟩
theorem er_ne {l : List AgeD} {N k : Nat} (hk : k < l.length) (h : k ≠ N) : (l.take (k + 1)).eraseIdx N = (l.take k).eraseIdx N ++ [l[k]] := by
  rw [List.take_succ_eq_append_getElem hk]
  by_cases h2 : k < N
  · rw [List.eraseIdx_of_length_le (by simp; omega), List.eraseIdx_of_length_le (by simp; omega)]
  · rw [List.eraseIdx_append_of_lt_length (by simp; omega)]
theorem er_eq {l : List AgeD} {N : Nat} (hk : N < l.length) : (l.take (N + 1)).eraseIdx N = (l.take N).eraseIdx N := by
  rw [List.take_succ_eq_append_getElem hk, List.eraseIdx_append_of_length_le (by simp; omega), List.eraseIdx_of_length_le (l := l.take N) (by simp; omega)]
  have : (l.take N).length = N := by simp; omega
  simp [this]
set_option maxHeartbeats 4000000 in
theorem specCutAge_any (v : Value) (l : List AgeD) (d : Int) (w : World) (hv : Reads w w.heap.size v (agesD l)) (hn : l.length ≤ 2000000) : Calls Try.prog 36 #[v, .int .i64 d] w (NewGB w (cutK l d) (cutOk l d)) := by
  obtain ⟨A, c, rfl, _, _⟩ := hv.shapeG
  have HV := Lib.hid hv
  have HG := Lib.hid (ageAt_neg l d)
  have HAt := Lib.hid (Reads.atG hv)
  clear hv
  go_enter Try.func36, Try.ntmps36
  go_wp2_with fail
  refine (specAgeAt_any _ l d _ HV.out (by omega)).mono ?_
  rintro e w2 ⟨rfl, rfl⟩
  cases hh : hasG l d
  · have hno : cutOk l d = false := by rw [cutOk, hh]; rfl
    have HNO := Lib.hid hno
    rw [hh] at HG
    generalize ageAtK l d = q at *
    have hq : decide (q < 0) = true := HG.out
    have HA2 := Lib.hid (HAt.out.on (bal1 w (.cells #[] 39)))
    have HRow := Lib.hid (RowG.lit w)
    have HB2 := Lib.hid (bal1 w (.cells #[] 39))
    have HZ := Lib.hid HB2.out.size
    clear hno hh
    go_wp2_with (at_builtin; refine wpList_appG _ rfl (.tmp 20) (.tmp 21) rfl w.heap.size _ [] rfl HRow.out A l.length c l rfl rfl HA2.out (by simp; omega) HZ.out ?_; intro v7 w7 o7 b7; clear HRow HA2)
    rw [List.nil_append] at o7
    have B7 := Lib.hid (HB2.out.trans b7)
    refine bodyPost_ret (v := .tuple #[v7, .bool false]) (by simp [results, Try.results36, go_sem]) rfl ?_
    rw [HNO.out, cutK_no HNO.out]
    exact ⟨_, rfl, o7, B7.out⟩
  · obtain ⟨hN, hq0⟩ := ageAt_has hh
    rw [hh] at HG
    have hcl := cutL_at hN
    have HH := Lib.hid hh
    have hq : decide (ageAtK l d < 0) = false := HG.out
    obtain ⟨p, hp⟩ : ∃ p, (l[ageI l d]).b = p := ⟨_, rfl⟩
    rw [hp] at hcl
    have HPN : Hid (∀ W, Reads W W.heap.size (.slice A l.length c) (agesD l) → ∃ b off, A = some ⟨b, off, none⟩ ∧ W.cell? ⟨b, off + ageI l d * 2 + 1, none⟩ = some (.int .i64 p)) := Lib.hid (fun W hW => by
      obtain ⟨b, off, hA, _, hc⟩ := hW.ages hN
      exact ⟨b, off, hA, by have := (hc _ hN).2; rw [hp] at this; exact this⟩)
    generalize ageI l d = N at *
    rw [hq0] at hq ⊢
    have i1 : (N : Int) < (l.length : Int) := by omega
    have i2 : (0 : Int) ≤ (N : Int) := by omega
    have HCL := Lib.hid hcl
    clear hh hq0 hcl hp HG
    go_wp2_with fail
    refine (specAgesOk_any _ l _ HV.out (by omega)).mono ?_
    rintro e w3 ⟨rfl, b3⟩
    have B3 := Lib.hid b3
    clear b3
    cases hok : agesOkB l
    · have hno : cutOk l d = false := by rw [cutOk, hok]; simp
      have HNO := Lib.hid hno
      have HA2 := Lib.hid ((HAt.out.on B3.out).on (bal1 w3 (.cells #[] 39)))
      have HRow := Lib.hid (RowG.lit w3)
      have HB2 := Lib.hid (bal1 w3 (.cells #[] 39))
      have HZ := Lib.hid HB2.out.size
      clear hno hok
      go_wp2_with (at_builtin; refine wpList_appG _ rfl (.tmp 20) (.tmp 21) rfl w3.heap.size _ [] rfl HRow.out A l.length c l rfl rfl HA2.out (by simp; omega) HZ.out ?_; intro v7 w7 o7 b7; clear HRow HA2)
      rw [List.nil_append] at o7
      have B7 := Lib.hid (bstep B3.out (HB2.out.trans b7))
      refine bodyPost_ret (v := .tuple #[v7, .bool false]) (by simp [results, Try.results36, go_sem]) rfl ?_
      rw [HNO.out, cutK_no HNO.out]
      exact ⟨_, rfl, o7.mono B3.out.size, B7.out⟩
    · have hyes : cutOk l d = true := by rw [cutOk, hok, HH.out]; rfl
      have HYES := Lib.hid hyes
      have HG0 := Lib.hid (show GrowG w3 _ _ [] from ⟨RowG.lit w3, bal1 _ _⟩)
      clear hyes hok
      go_wp2
      clear hq
      go_loopw [7, 8, 9] (fun o i _ wr => ∃ (k : Nat) (m : List AgeD), k ≤ l.length ∧ i = .int .i64 k ∧ Hid (m.length ≤ k) ∧ Hid (m = ((l.take k).eraseIdx N).map (reP d p)) ∧ Hid (GrowG w3 wr o m)) (fun _ i _ _ => l.length - (intOf i).toNat)
      case atStart => exact ⟨0, [], Nat.zero_le _, rfl, Lib.hid (Nat.zero_le _), Lib.hid (by simp), HG0⟩
      case round =>
        clear HG0
        obtain ⟨k, m, hk, rfl, HM, HI, HX⟩ := hrel
        obtain ⟨hrow, hb⟩ := HX.out
        by_cases hlt : k < l.length
        · obtain ⟨b, off, hA, hcp⟩ := HPN.out _ ((HV.out.on B3.out).on hb)
          subst hA
          obtain ⟨b', off', hA, hbb, hc⟩ := ((HV.out.on B3.out).on hb).ages hlt
          cases hA
          have j1 : (k : Int) < (l.length : Int) := by omega
          have j2 : (0 : Int) ≤ (k : Int) := by omega
          obtain ⟨c0, c1⟩ := hc k hlt
          have hbne : ¬ b = wr.heap.size := by omega
          clear hc
          obtain ⟨Ao, co, rfl, _, _⟩ := hrow.shape
          have hzr := hb.size
          by_cases hkN : k = N
          · have hne : ((k : Int) != (N : Int)) = false := by simp [hkN]
            have HI2 : Hid (m = ((l.take (k + 1)).eraseIdx N).map (reP d p)) := Lib.hid (by subst hkN; rw [er_eq hN]; exact HI.out)
            clear hkN hrow hb
            cases hs : ((l[k]).b == d)
            · have HX2 := Lib.hid (HX.out.on (bal1 wr (.cells #[.int .i64 (l[k]).a, .int .i64 (l[k]).b] 39)))
              go_wp2
              go_roundw
              case rel => exact ⟨k + 1, m, by omega, by go_num, Lib.hid (Nat.le_succ_of_le HM.out), HI2, HX2⟩
              case measure => simp [intOf]; omega
            · have HX2 := Lib.hid (HX.out.on (bal1 wr (.cells #[.int .i64 (l[k]).a, .int .i64 p] 39)))
              go_wp2
              go_roundw
              case rel => exact ⟨k + 1, m, by omega, by go_num, Lib.hid (Nat.le_succ_of_le HM.out), HI2, HX2⟩
              case measure => simp [intOf]; omega
          · have hne : ((k : Int) != (N : Int)) = true := by simp; omega
            have HI2 : Hid (m ++ [reP d p l[k]] = ((l.take (k + 1)).eraseIdx N).map (reP d p)) := Lib.hid (by rw [er_ne hlt hkN, List.map_append, ← HI.out]; rfl)
            clear hkN hrow hb
            cases hs : ((l[k]).b == d)
            · have HI3 : Hid (m ++ [l[k]] = ((l.take (k + 1)).eraseIdx N).map (reP d p)) := Lib.hid (by rw [← HI2.out, reP_same hs])
              have hat := At.age (wr.alloc (.cells #[.int .i64 (l[k]).a, .int .i64 (l[k]).b] 39)) l[k] 39
              simp only [World.size_alloc] at hat
              have HA2 := Lib.hid hat
              have HX2 := HX.out.on (bal2 wr (.cells #[.int .i64 (l[k]).a, .int .i64 (l[k]).b] 39) (.cells #[.int .i64 (l[k]).a, .int .i64 (l[k]).b] 39))
              have HRow := Lib.hid HX2.1
              have HB2 := Lib.hid HX2.2
              have HZ := Lib.hid HB2.out.size
              clear HX HX2 hat
              go_wp2_with (at_builtin; refine wpList_appG _ rfl (.tmp 47) (.tmp 49) rfl w3.heap.size _ m rfl HRow.out (some ⟨wr.heap.size + 1, 0, none⟩) 1 1 [l[k]] rfl rfl HA2.out (by have := HM.out; simp; omega) HZ.out ?_; intro v7 w7 o7 b7; clear HRow HA2)
              have HX := Lib.hid (show GrowG w3 w7 v7 (m ++ [l[k]]) from ⟨o7, HB2.out.trans b7⟩)
              clear o7 b7
              go_roundw
              case rel => exact ⟨k + 1, m ++ [l[k]], by omega, by go_num, Lib.hid (by have := HM.out; simp; omega), HI3, HX⟩
              case measure => simp [intOf]; omega
            · have HI3 : Hid (m ++ [⟨(l[k]).a, p⟩] = ((l.take (k + 1)).eraseIdx N).map (reP d p)) := Lib.hid (by rw [← HI2.out, reP_turn hs])
              have hat := At.age (wr.alloc (.cells #[.int .i64 (l[k]).a, .int .i64 p] 39)) ⟨(l[k]).a, p⟩ 39
              simp only [World.size_alloc] at hat
              have HA2 := Lib.hid hat
              have HX2 := HX.out.on (bal2 wr (.cells #[.int .i64 (l[k]).a, .int .i64 p] 39) (.cells #[.int .i64 (l[k]).a, .int .i64 p] 39))
              have HRow := Lib.hid HX2.1
              have HB2 := Lib.hid HX2.2
              have HZ := Lib.hid HB2.out.size
              clear HX HX2 hat
              go_wp2_with (at_builtin; refine wpList_appG _ rfl (.tmp 47) (.tmp 49) rfl w3.heap.size _ m rfl HRow.out (some ⟨wr.heap.size + 1, 0, none⟩) 1 1 [⟨(l[k]).a, p⟩] rfl rfl HA2.out (by have := HM.out; simp; omega) HZ.out ?_; intro v7 w7 o7 b7; clear HRow HA2)
              have HX := Lib.hid (show GrowG w3 w7 v7 (m ++ [⟨(l[k]).a, p⟩]) from ⟨o7, HB2.out.trans b7⟩)
              clear o7 b7
              go_roundw
              case rel => exact ⟨k + 1, m ++ [⟨(l[k]).a, p⟩], by omega, by go_num, Lib.hid (by have := HM.out; simp; omega), HI3, HX⟩
              case measure => simp [intOf]; omega
        · have hke : k = l.length := by omega
          have hfin := HI.out
          rw [hke, List.take_length, ← HCL.out] at hfin
          have HFIN := Lib.hid hfin
          obtain ⟨Ao, co, rfl, _, _⟩ := hrow.shape
          clear hfin hke hrow hb
          go_wp2
          refine bodyPost_ret (v := .tuple #[.slice Ao m.length co, .bool true]) (by simp [results, Try.results36, go_sem]) rfl ?_
          rw [HYES.out, cutK_yes HYES.out, ← HFIN.out]
          exact ⟨_, rfl, HX.out.1.mono B3.out.size, bstep B3.out HX.out.2⟩
end Go.Proofs.Ytjnecehogebjkaa
