/- Contracts for impl.AgeAt, spec.AgeAt, impl.parentOk, impl.KidsOf and spec.KidsOf. Conditions: at most 2^21 versions. -/
import Derived.Test.YtjnecehogebjkaaAgePure
namespace Go.Proofs.Ytjnecehogebjkaa
open Go.RowKit
set_option maxRecDepth 100000
set_option linter.unusedSimpArgs false
set_option linter.unusedVariables false

theorem l1InG_any (a lo hi : Int) (w : World) : Calls Try.prog 47 #[.int .i64 a, .int .i64 lo, .int .i64 hi] w fun e w' => e = .returned (.bool (decide (lo ≤ a) && decide (a ≤ hi))) ∧ w = w' := by
  by_cases h1 : lo ≤ a
  · by_cases h2 : a ≤ hi
    · rw [decide_eq_true h1, decide_eq_true h2]
      go_enter Try.func47, Try.ntmps47
      go_wp2
      go_ret
      exact ⟨rfl, rfl⟩
    · have h3 : hi < a := by omega
      rw [decide_eq_true h1, decide_eq_false h2]
      go_enter Try.func47, Try.ntmps47
      go_wp2
      go_ret
      exact ⟨rfl, rfl⟩
  · have h3 : a < lo := by omega
    rw [decide_eq_false h1, Bool.false_and]
    go_enter Try.func47, Try.ntmps47
    go_wp2
    go_ret
    exact ⟨rfl, rfl⟩
def SaysG (w : World) (n : Int) (e : Ending) (w' : World) : Prop := e = .returned (.int .i64 n) ∧ Below w.heap.size w w'
set_option maxHeartbeats 1000000 in
theorem implAgeAt_any (v : Value) (l : List AgeD) (d : Int) (w : World) (hv : Reads w w.heap.size v (agesD l)) (hn : l.length ≤ 2097152) : Calls Try.prog 15 #[v, .int .i64 d] w (SaysG w (ageAtK l d)) := by
  obtain ⟨A, c, rfl, _, _⟩ := hv.shapeG
  obtain ⟨N, hN⟩ : ∃ N, ageAtK l d = N := ⟨_, rfl⟩
  rw [hN]
  have HN := Lib.hid hN
  have HV := Lib.hid hv
  clear hv hN
  go_enter Try.func15, Try.ntmps15
  go_wp2
  go_loopw [5, 6, 9] (fun _ _ i wr => ∃ k : Nat, k ≤ l.length ∧ i = .int .i64 k ∧ Hid (ageI l d = k + ageI (l.drop k) d) ∧ Hid (Below w.heap.size w wr)) (fun _ _ i _ => l.length - (intOf i).toNat)
  case atStart => exact ⟨0, Nat.zero_le _, rfl, Lib.hid (by simp), Lib.hid (Below.refl _ _)⟩
  case round =>
    obtain ⟨k, hk, rfl, HI, HW⟩ := hrel
    have hzr := HW.out.size
    by_cases hlt : k < l.length
    · obtain ⟨b, off, rfl, hbb, hc⟩ := (HV.out.on HW.out).ages hlt
      have i1 : (k : Int) < (l.length : Int) := by omega
      have i2 : (0 : Int) ≤ (k : Int) := by omega
      obtain ⟨c0, c1⟩ := hc k hlt
      have BA := Lib.hid (HW.out.trans ((bal1 wr (.cells #[.int .i64 (l[k]).a, .int .i64 (l[k]).b] 39)).mono hzr))
      clear hc
      cases hs : ((l[k]).a == d)
      · have HS := Lib.hid hs
        go_wp2
        go_roundw
        case rel => exact ⟨k + 1, by omega, by go_num, Lib.hid (ageI_step hlt HS.out HI.out), BA⟩
        case measure => simp [intOf]; omega
      · have HS := Lib.hid hs
        go_wp2
        go_ret
        exact ⟨ret_intB (by rw [← HN.out]; unfold ageAtK; rw [ageI_hit hlt HS.out HI.out, if_pos hlt]), BA.out⟩
    · go_wp2
      go_ret
      refine ⟨ret_intB ?_, HW.out⟩
      rw [← HN.out]
      unfold ageAtK
      rw [if_neg (by rw [HI.out]; omega)]
set_option maxHeartbeats 1000000 in
theorem specAgeAt_any (v : Value) (l : List AgeD) (d : Int) (w : World) (hv : Reads w w.heap.size v (agesD l)) (hn : l.length ≤ 2097152) : Calls Try.prog 27 #[v, .int .i64 d] w fun e w' => e = .returned (.int .i64 (ageAtK l d)) ∧ w = w' := by
  obtain ⟨A, c, rfl, _, _⟩ := hv.shapeG
  obtain ⟨N, hN⟩ : ∃ N, ageAtK l d = N := ⟨_, rfl⟩
  rw [hN]
  have HN := Lib.hid hN
  have HV := Lib.hid hv
  clear hv hN
  go_enter Try.func27, Try.ntmps27
  go_wp2
  go_loop [5] (fun i => ∃ k : Nat, k ≤ l.length ∧ i = .int .i64 k ∧ Hid (ageI l d = k + ageI (l.drop k) d)) (fun i => l.length - (intOf i).toNat)
  case atStart => exact ⟨0, Nat.zero_le _, rfl, Lib.hid (by simp)⟩
  case round =>
    obtain ⟨k, hk, rfl, HI⟩ := hrel
    by_cases hlt : k < l.length
    · obtain ⟨b, off, rfl, hbb, hc⟩ := HV.out.ages hlt
      have i1 : (k : Int) < (l.length : Int) := by omega
      have i2 : (0 : Int) ≤ (k : Int) := by omega
      obtain ⟨c0, c1⟩ := hc k hlt
      clear hc
      cases hs : ((l[k]).a == d)
      · have HS := Lib.hid hs
        go_wp2
        go_round
        case rel => exact ⟨k + 1, by omega, by go_num, Lib.hid (ageI_step hlt HS.out HI.out)⟩
        case measure => simp [intOf]; omega
      · have HS := Lib.hid hs
        go_wp2
        go_ret
        exact ⟨ret_intB (by rw [← HN.out]; unfold ageAtK; rw [ageI_hit hlt HS.out HI.out, if_pos hlt]), rfl⟩
    · go_wp2
      go_ret
      refine ⟨ret_intB ?_, rfl⟩
      rw [← HN.out]
      unfold ageAtK
      rw [if_neg (by rw [HI.out]; omega)]
theorem parentOk_any (v : Value) (l : List AgeD) (f : Int) (w : World) (hv : Reads w w.heap.size v (agesD l)) (hn : l.length ≤ 2097152) : Calls Try.prog 40 #[v, .int .i64 f] w (SaysBool w (f == 0 || hasG l f)) := by
  obtain ⟨A, c, rfl, _, _⟩ := hv.shapeG
  have HV := Lib.hid hv
  have HG := Lib.hid (ageAt_geq l f)
  clear hv
  cases hf : (f == 0)
  · go_enter Try.func40, Try.ntmps40
    go_wp2_with fail
    refine (implAgeAt_any _ l f _ HV.out hn).mono ?_
    rintro e w1 ⟨rfl, b1⟩
    generalize ageAtK l f = q at *
    have hq := HG.out
    generalize hasG l f = g at *
    cases g
    all_goals
      have hq2 : decide (0 ≤ q) = _ := hq
      go_wp2
      go_ret
      exact ⟨by simp [*], b1⟩
  · go_enter Try.func40, Try.ntmps40
    go_wp2
    go_ret
    exact ⟨rfl, Below.refl _ _⟩
theorem kids_yes {l : List AgeD} {m : List Int} {k : Nat} {d : Int} (h : k < l.length) (hp : ((l[k]).b == d) = true) {R : List Int} (hf : m ++ ((l.drop k).filter (fun x => x.b == d)).map (·.a) = R) : (m ++ [(l[k]).a]) ++ ((l.drop (k + 1)).filter (fun x => x.b == d)).map (·.a) = R := by
  rw [gdrop_at h, List.filter_cons, hp] at hf
  simpa using hf
theorem kids_no {l : List AgeD} {m : List Int} {k : Nat} {d : Int} (h : k < l.length) (hp : ((l[k]).b == d) = false) {R : List Int} (hf : m ++ ((l.drop k).filter (fun x => x.b == d)).map (·.a) = R) : m ++ ((l.drop (k + 1)).filter (fun x => x.b == d)).map (·.a) = R := by
  rw [gdrop_at h, List.filter_cons, hp] at hf
  simpa using hf
/-- What a loop that appends ints to a row of its own holds on to. -/
def GrowI (w wr : World) (o : Value) (m : List Int) : Prop := RowI wr w.heap.size o m ∧ Below w.heap.size w wr
set_option maxHeartbeats 1000000 in
theorem implKidsOf_any (v : Value) (l : List AgeD) (d : Int) (w : World) (hv : Reads w w.heap.size v (agesD l)) (hn : l.length ≤ 2097152) : Calls Try.prog 17 #[v, .int .i64 d] w (NewI w (kidsK l d)) := by
  obtain ⟨A, c, rfl, _, _⟩ := hv.shapeG
  obtain ⟨R, hR⟩ : ∃ R, kidsK l d = R := ⟨_, rfl⟩
  rw [hR]
  unfold kidsK at hR
  have HV := Lib.hid hv
  clear hv
  cases hd : (d == 0)
  · rw [hd] at hR
    simp only [Bool.false_eq_true, if_false] at hR
    have HR := Lib.hid hR
    clear hR
    go_enter Try.func17, Try.ntmps17
    go_wp2
    go_loopw [5, 7, 14] (fun o _ i wr => ∃ (k : Nat) (m : List Int), k ≤ l.length ∧ i = .int .i64 k ∧ Hid (m.length ≤ k) ∧ Hid (m ++ ((l.drop k).filter (fun x => x.b == d)).map (·.a) = R) ∧ Hid (GrowI w wr o m)) (fun _ _ i _ => l.length - (intOf i).toNat)
    case atStart => exact ⟨0, [], Nat.zero_le _, rfl, Lib.hid (Nat.zero_le _), Lib.hid HR.out, Lib.hid ⟨RowI.lit w, bal1 _ _⟩⟩
    case round =>
      obtain ⟨k, m, hk, rfl, HM, HI, HG⟩ := hrel
      obtain ⟨hrow, hb⟩ := HG.out
      by_cases hlt : k < l.length
      · obtain ⟨b, off, rfl, hbb, hc⟩ := (HV.out.on hb).ages hlt
        have i1 : (k : Int) < (l.length : Int) := by omega
        have i2 : (0 : Int) ≤ (k : Int) := by omega
        obtain ⟨c0, c1⟩ := hc k hlt
        clear hc
        have ba := bal1 wr (.cells #[.int .i64 (l[k]).a, .int .i64 (l[k]).b] 39)
        obtain ⟨Ao, co, rfl, _, _⟩ := hrow.shape
        have HG1 := Lib.hid (show GrowI w (wr.alloc (.cells #[.int .i64 (l[k]).a, .int .i64 (l[k]).b] 39)) (.slice Ao m.length co) m from ⟨hrow.on ba, hb.trans (ba.mono hb.size)⟩)
        cases hs : ((l[k]).b == d)
        · have HS := Lib.hid hs
          clear hrow hb ba
          go_wp2
          go_roundw
          case rel => exact ⟨k + 1, m, by omega, by go_num, Lib.hid (Nat.le_succ_of_le HM.out), Lib.hid (kids_no hlt HS.out HI.out), HG1⟩
          case measure => simp [intOf]; omega
        · have HS := Lib.hid hs
          have hat := At.intOne (wr.alloc (.cells #[.int .i64 (l[k]).a, .int .i64 (l[k]).b] 39)) (l[k]).a 3
          simp only [World.size_alloc] at hat
          have HAt := Lib.hid hat
          have bb := bal1 (wr.alloc (.cells #[.int .i64 (l[k]).a, .int .i64 (l[k]).b] 39)) (.cells #[.int .i64 (l[k]).a] 3)
          have HRow := Lib.hid (HG1.out.1.on bb)
          have HB := Lib.hid (HG1.out.2.trans (bb.mono HG1.out.2.size))
          have HZ := Lib.hid HB.out.size
          clear hrow hb ba bb hat HG HG1
          go_wp2_with (at_builtin; refine wpList_appI _ rfl (.tmp 22) (.tmp 25) rfl w.heap.size _ m rfl HRow.out (some ⟨wr.heap.size + 1, 0, none⟩) 1 1 [(l[k]).a] rfl rfl HAt.out (by have := HM.out; simp; omega) HZ.out ?_; intro v1 w1 o1 b1; clear HRow HAt)
          have HG := Lib.hid (show GrowI w w1 v1 (m ++ [(l[k]).a]) from ⟨o1, HB.out.trans b1⟩)
          clear o1 b1
          go_roundw
          case rel => exact ⟨k + 1, m ++ [(l[k]).a], by omega, by go_num, Lib.hid (by have := HM.out; simp; omega), Lib.hid (kids_yes hlt HS.out HI.out), HG⟩
          case measure => simp [intOf]; omega
      · have e : m = R := by
          have := HI.out
          rw [List.drop_eq_nil_of_le (by omega)] at this
          simpa using this
        subst e
        obtain ⟨Ao, co, rfl, _, _⟩ := hrow.shape
        go_wp2
        go_ret
        exact ⟨_, rfl, HG.out.1, HG.out.2⟩
  · rw [hd] at hR
    simp only [if_true] at hR
    subst hR
    go_enter Try.func17, Try.ntmps17
    go_wp2
    go_ret
    exact ⟨_, rfl, RowI.lit w, bal1 _ _⟩
set_option maxHeartbeats 1000000 in
theorem specKidsOf_any (v : Value) (l : List AgeD) (d : Int) (w : World) (hv : Reads w w.heap.size v (agesD l)) (hn : l.length ≤ 2097152) : Calls Try.prog 29 #[v, .int .i64 d] w (NewI w (kidsK l d)) := by
  obtain ⟨A, c, rfl, _, _⟩ := hv.shapeG
  obtain ⟨R, hR⟩ : ∃ R, kidsK l d = R := ⟨_, rfl⟩
  rw [hR]
  unfold kidsK at hR
  have HV := Lib.hid hv
  clear hv
  cases hd : (d != 0)
  · have hd2 : (d == 0) = true := by simpa using hd
    rw [hd2] at hR
    simp only [if_true] at hR
    subst hR
    clear hd2
    go_enter Try.func29, Try.ntmps29
    go_wp2
    go_loopw [5, 6] (fun o i wr => ∃ (k : Nat), k ≤ l.length ∧ i = .int .i64 k ∧ o = .slice (some ⟨w.heap.size, 0, none⟩) 0 0 ∧ w.alloc (.cells #[] 3) = wr) (fun _ i _ => l.length - (intOf i).toNat)
    case atStart => exact ⟨0, Nat.zero_le _, rfl, rfl, rfl⟩
    case round =>
      obtain ⟨k, hk, rfl, rfl, rfl⟩ := hrel
      by_cases hlt : k < l.length
      · obtain ⟨b, off, rfl, hbb, hc⟩ := (HV.out.on (bal1 w (.cells #[] 3))).ages hlt
        have i1 : (k : Int) < (l.length : Int) := by omega
        have i2 : (0 : Int) ≤ (k : Int) := by omega
        obtain ⟨c0, c1⟩ := hc k hlt
        clear hc
        cases hs : ((l[k]).b == d)
        all_goals
          go_wp2
          go_roundw
          case rel => exact ⟨k + 1, by omega, by go_num, rfl, by first | trivial | rfl⟩
          case measure => simp [intOf]; omega
      · go_wp2
        go_ret
        exact ⟨_, rfl, RowI.lit w, bal1 _ _⟩
  · have hd2 : (d == 0) = false := by simpa using hd
    rw [hd2] at hR
    simp only [Bool.false_eq_true, if_false] at hR
    have HR := Lib.hid hR
    clear hR hd2
    go_enter Try.func29, Try.ntmps29
    go_wp2
    go_loopw [5, 6] (fun o i wr => ∃ (k : Nat) (m : List Int), k ≤ l.length ∧ i = .int .i64 k ∧ Hid (m.length ≤ k) ∧ Hid (m ++ ((l.drop k).filter (fun x => x.b == d)).map (·.a) = R) ∧ Hid (GrowI w wr o m)) (fun _ i _ => l.length - (intOf i).toNat)
    case atStart => exact ⟨0, [], Nat.zero_le _, rfl, Lib.hid (Nat.zero_le _), Lib.hid HR.out, Lib.hid ⟨RowI.lit w, bal1 _ _⟩⟩
    case round =>
      obtain ⟨k, m, hk, rfl, HM, HI, HG⟩ := hrel
      obtain ⟨hrow, hb⟩ := HG.out
      by_cases hlt : k < l.length
      · obtain ⟨b, off, rfl, hbb, hc⟩ := (HV.out.on hb).ages hlt
        have i1 : (k : Int) < (l.length : Int) := by omega
        have i2 : (0 : Int) ≤ (k : Int) := by omega
        obtain ⟨c0, c1⟩ := hc k hlt
        clear hc
        obtain ⟨Ao, co, rfl, _, _⟩ := hrow.shape
        cases hs : ((l[k]).b == d)
        · have HS := Lib.hid hs
          clear hrow hb
          go_wp2
          go_roundw
          case rel => exact ⟨k + 1, m, by omega, by go_num, Lib.hid (Nat.le_succ_of_le HM.out), Lib.hid (kids_no hlt HS.out HI.out), HG⟩
          case measure => simp [intOf]; omega
        · have HS := Lib.hid hs
          have HAt := Lib.hid (At.intOne wr (l[k]).a 3)
          have bb := bal1 wr (.cells #[.int .i64 (l[k]).a] 3)
          have HRow := Lib.hid (HG.out.1.on bb)
          have HB := Lib.hid (HG.out.2.trans (bb.mono HG.out.2.size))
          have HZ := Lib.hid HB.out.size
          clear hrow hb bb HG
          go_wp2_with (at_builtin; refine wpList_appI _ rfl (.tmp 25) (.tmp 31) rfl w.heap.size _ m rfl HRow.out (some ⟨wr.heap.size, 0, none⟩) 1 1 [(l[k]).a] rfl rfl HAt.out (by have := HM.out; simp; omega) HZ.out ?_; intro v1 w1 o1 b1; clear HRow HAt)
          have HG := Lib.hid (show GrowI w w1 v1 (m ++ [(l[k]).a]) from ⟨o1, HB.out.trans b1⟩)
          clear o1 b1
          go_roundw
          case rel => exact ⟨k + 1, m ++ [(l[k]).a], by omega, by go_num, Lib.hid (by have := HM.out; simp; omega), Lib.hid (kids_yes hlt HS.out HI.out), HG⟩
          case measure => simp [intOf]; omega
      · have e : m = R := by
          have := HI.out
          rw [List.drop_eq_nil_of_le (by omega)] at this
          simpa using this
        subst e
        obtain ⟨Ao, co, rfl, _, _⟩ := hrow.shape
        go_wp2
        go_ret
        exact ⟨_, rfl, HG.out.1, HG.out.2⟩
end Go.Proofs.Ytjnecehogebjkaa
