/- Several texts in one: AgePure, AgeFind, Last, Last2, Last3, AgeOkA, TreeWhere, TreeKeys, TreeOk, PoolPure, NodeCopy, TreeCopy, NodeBox, TreePutPure, SeeKeysP, AgePut, AgeOkI. -/
import Derived.OrdersHeld
import Derived.Deep.RegionHeld3
import Derived.Deep.DeepCutAuto
import Derived.Test.YtpfepcjbhchpcaaGreatPkNB
namespace Go.Proofs.YtpfepcjbhchpcaaGreat
open Go.RowKit
set_option maxRecDepth 100000
set_option linter.unusedSimpArgs false
set_option linter.unusedVariables false

/-- The place of the first version id, or the length. -/
def ageI (l : List AgeD) (id : Int) : Nat := l.findIdx (fun x => x.a == id)
def ageAtK (l : List AgeD) (id : Int) : Int := if ageI l id < l.length then (ageI l id : Int) else -1
def hasG (l : List AgeD) (id : Int) : Bool := decide (ageI l id < l.length)
theorem ageAt_neg (l : List AgeD) (id : Int) : (decide (ageAtK l id < 0)) = !hasG l id := by
  unfold ageAtK hasG
  by_cases h : ageI l id < l.length
  · rw [if_pos h]; simp [h]
  · rw [if_neg h]; simp [h]
theorem ageAt_geq (l : List AgeD) (id : Int) : (decide (ageAtK l id ≥ 0)) = hasG l id := by
  unfold ageAtK hasG
  by_cases h : ageI l id < l.length
  · rw [if_pos h]; simp [h]
  · rw [if_neg h]; simp [h]
theorem ageI_step {l : List AgeD} {k : Nat} {id : Int} (h : k < l.length) (hp : ((l[k]).a == id) = false) (hf : ageI l id = k + ageI (l.drop k) id) : ageI l id = (k + 1) + ageI (l.drop (k + 1)) id := by
  rw [gdrop_at h] at hf
  unfold ageI at hf ⊢
  rw [List.findIdx_cons, hp] at hf
  simp only [cond_false] at hf
  omega
theorem ageI_hit {l : List AgeD} {k : Nat} {id : Int} (h : k < l.length) (hp : ((l[k]).a == id) = true) (hf : ageI l id = k + ageI (l.drop k) id) : ageI l id = k := by
  rw [gdrop_at h] at hf
  unfold ageI at hf ⊢
  rw [List.findIdx_cons, hp] at hf
  simpa using hf
theorem ageI_get {l : List AgeD} {id : Int} (h : ageI l id < l.length) : (l[ageI l id]).a = id := by
  have h1 := List.findIdx_getElem (p := fun x : AgeD => x.a == id) (xs := l) (w := h)
  have h2 : (l[l.findIdx (fun x => x.a == id)]'h).a = id := by simpa using h1
  exact h2
def parGB (l : List AgeD) (i : Nat) (f : Int) : Bool := f == 0 || hasG (l.take i) f
def idG (n : Int) : Bool := decide (1 ≤ n) && decide (n ≤ 60)
def riseG (l : List AgeD) : Bool := decide (∀ i (h : i < l.length - 1), (l[i]'(by omega)).a < (l[i + 1]'(by omega)).a)
/-- The version at place i has an Id in range and a parent ahead. -/
def fitG (l : List AgeD) (i : Nat) : Bool := match l[i]? with | none => true | some x => idG x.a && parGB l i x.b
def agesOkB (l : List AgeD) : Bool := decide (∀ i, i < l.length → fitG l i = true) && riseG l && decide (l.length ≤ 16)
def kidsK (l : List AgeD) (id : Int) : List Int := if id == 0 then [] else (l.filter (fun x => x.b == id)).map (·.a)
/-- The place of the first version whose Id is not less. -/
def plG (l : List AgeD) (id : Int) : Nat := l.findIdx (fun x => !decide (x.a < id))
def insG (l : List AgeD) (x : AgeD) : List AgeD := l.take (plG l x.a) ++ x :: l.drop (plG l x.a)
def newOk (l : List AgeD) (id f : Int) : Bool := !hasG l id && agesOkB (insG l ⟨id, f⟩)
def newK (l : List AgeD) (id f : Int) : List AgeD := if newOk l id f then insG l ⟨id, f⟩ else l
def parG (l : List AgeD) (id : Int) : Int := match l[ageI l id]? with | none => 0 | some x => x.b
end Go.Proofs.YtpfepcjbhchpcaaGreat
namespace Go.Proofs.YtpfepcjbhchpcaaGreat
open Go.RowKit
set_option maxRecDepth 100000
set_option linter.unusedSimpArgs false
set_option linter.unusedVariables false

theorem l1InG_any (a lo hi : Int) (w : World) : Calls Tryz.prog 58 #[.int .i64 a, .int .i64 lo, .int .i64 hi] w fun e w' => e = .returned (.bool (decide (lo ≤ a) && decide (a ≤ hi))) ∧ w = w' := by
  by_cases h1 : lo ≤ a
  · by_cases h2 : a ≤ hi
    · rw [decide_eq_true h1, decide_eq_true h2]
      go_enter Tryz.func58, Tryz.ntmps58
      go_wp2
      go_ret
      exact ⟨rfl, rfl⟩
    · have h3 : hi < a := by omega
      rw [decide_eq_true h1, decide_eq_false h2]
      go_enter Tryz.func58, Tryz.ntmps58
      go_wp2
      go_ret
      exact ⟨rfl, rfl⟩
  · have h3 : a < lo := by omega
    rw [decide_eq_false h1, Bool.false_and]
    go_enter Tryz.func58, Tryz.ntmps58
    go_wp2
    go_ret
    exact ⟨rfl, rfl⟩
def SaysG (w : World) (n : Int) (e : Ending) (w' : World) : Prop := e = .returned (.int .i64 n) ∧ Below w.heap.size w w'
set_option maxHeartbeats 1000000 in
theorem implAgeAt_any (v : Value) (l : List AgeD) (d : Int) (w : World) (hv : Reads w w.heap.size v (agesD l)) (hn : l.length ≤ 2097152) : Calls Tryz.prog 147 #[v, .int .i64 d] w (SaysG w (ageAtK l d)) := by
  obtain ⟨A, c, rfl, _, _⟩ := hv.shapeG
  obtain ⟨N, hN⟩ : ∃ N, ageAtK l d = N := ⟨_, rfl⟩
  rw [hN]
  have HN := Lib.hid hN
  have HV := Lib.hid hv
  clear hv hN
  go_enter Tryz.func147, Tryz.ntmps147
  go_wp2
  go_loopw [5, 6, 9] (fun _ _ i wr => ∃ k : Nat, k ≤ l.length ∧ i = .int .i64 k ∧ Hid (ageI l d = k + ageI (l.drop k) d) ∧ Hid (Below w.heap.size w wr)) (fun _ _ i _ => l.length - (intOf i).toNat)
  case atStart => exact ⟨0, Nat.zero_le _, rfl, Lib.hid (by simp), Lib.hid (Below.refl _ _)⟩
  case round =>
    obtain ⟨k, hk, rfl, HI, HW⟩ := hrel
    have hzr := HW.out.size
    by_cases hlt : k < l.length
    · obtain ⟨b, off, rfl, hbb, hc⟩ := (HV.out.on HW.out).ages hlt
      have i1 : (k : Int) < (l.length : Int) := by omega
      have i2 : (0 : Int) ≤ (k : Int) := by omega
      obtain ⟨c0, c1⟩ := hc k hlt
      have BA := Lib.hid (HW.out.trans ((bal1 wr (.cells #[.int .i64 (l[k]).a, .int .i64 (l[k]).b] 61)).mono hzr))
      clear hc
      cases hs : ((l[k]).a == d)
      · have HS := Lib.hid hs
        go_wp2
        go_roundw
        case rel => exact ⟨k + 1, by omega, by go_num, Lib.hid (ageI_step hlt HS.out HI.out), BA⟩
        case measure => simp [intOf]; omega
      · have HS := Lib.hid hs
        go_wp2
        go_ret
        exact ⟨ret_intB (by rw [← HN.out]; unfold ageAtK; rw [ageI_hit hlt HS.out HI.out, if_pos hlt]), BA.out⟩
    · go_wp2
      go_ret
      refine ⟨ret_intB ?_, HW.out⟩
      rw [← HN.out]
      unfold ageAtK
      rw [if_neg (by rw [HI.out]; omega)]
set_option maxHeartbeats 1000000 in
theorem specAgeAt_any (v : Value) (l : List AgeD) (d : Int) (w : World) (hv : Reads w w.heap.size v (agesD l)) (hn : l.length ≤ 2097152) : Calls Tryz.prog 100 #[v, .int .i64 d] w fun e w' => e = .returned (.int .i64 (ageAtK l d)) ∧ w = w' := by
  obtain ⟨A, c, rfl, _, _⟩ := hv.shapeG
  obtain ⟨N, hN⟩ : ∃ N, ageAtK l d = N := ⟨_, rfl⟩
  rw [hN]
  have HN := Lib.hid hN
  have HV := Lib.hid hv
  clear hv hN
  go_enter Tryz.func100, Tryz.ntmps100
  go_wp2
  go_loop [5] (fun i => ∃ k : Nat, k ≤ l.length ∧ i = .int .i64 k ∧ Hid (ageI l d = k + ageI (l.drop k) d)) (fun i => l.length - (intOf i).toNat)
  case atStart => exact ⟨0, Nat.zero_le _, rfl, Lib.hid (by simp)⟩
  case round =>
    obtain ⟨k, hk, rfl, HI⟩ := hrel
    by_cases hlt : k < l.length
    · obtain ⟨b, off, rfl, hbb, hc⟩ := HV.out.ages hlt
      have i1 : (k : Int) < (l.length : Int) := by omega
      have i2 : (0 : Int) ≤ (k : Int) := by omega
      obtain ⟨c0, c1⟩ := hc k hlt
      clear hc
      cases hs : ((l[k]).a == d)
      · have HS := Lib.hid hs
        go_wp2
        go_round
        case rel => exact ⟨k + 1, by omega, by go_num, Lib.hid (ageI_step hlt HS.out HI.out)⟩
        case measure => simp [intOf]; omega
      · have HS := Lib.hid hs
        go_wp2
        go_ret
        exact ⟨ret_intB (by rw [← HN.out]; unfold ageAtK; rw [ageI_hit hlt HS.out HI.out, if_pos hlt]), rfl⟩
    · go_wp2
      go_ret
      refine ⟨ret_intB ?_, rfl⟩
      rw [← HN.out]
      unfold ageAtK
      rw [if_neg (by rw [HI.out]; omega)]
theorem parentOk_any (v : Value) (l : List AgeD) (f : Int) (w : World) (hv : Reads w w.heap.size v (agesD l)) (hn : l.length ≤ 2097152) : Calls Tryz.prog 133 #[v, .int .i64 f] w (SaysBool w (f == 0 || hasG l f)) := by
  obtain ⟨A, c, rfl, _, _⟩ := hv.shapeG
  have HV := Lib.hid hv
  have HG := Lib.hid (ageAt_geq l f)
  clear hv
  cases hf : (f == 0)
  · go_enter Tryz.func133, Tryz.ntmps133
    go_wp2_with fail
    refine (implAgeAt_any _ l f _ HV.out hn).mono ?_
    rintro e w1 ⟨rfl, b1⟩
    generalize ageAtK l f = q at *
    have hq := HG.out
    generalize hasG l f = g at *
    cases g
    all_goals
      have hq2 : decide (0 ≤ q) = _ := hq
      go_wp2
      go_ret
      exact ⟨by simp [*], b1⟩
  · go_enter Tryz.func133, Tryz.ntmps133
    go_wp2
    go_ret
    exact ⟨rfl, Below.refl _ _⟩
theorem kids_yes {l : List AgeD} {m : List Int} {k : Nat} {d : Int} (h : k < l.length) (hp : ((l[k]).b == d) = true) {R : List Int} (hf : m ++ ((l.drop k).filter (fun x => x.b == d)).map (·.a) = R) : (m ++ [(l[k]).a]) ++ ((l.drop (k + 1)).filter (fun x => x.b == d)).map (·.a) = R := by
  rw [gdrop_at h, List.filter_cons, hp] at hf
  simpa using hf
theorem kids_no {l : List AgeD} {m : List Int} {k : Nat} {d : Int} (h : k < l.length) (hp : ((l[k]).b == d) = false) {R : List Int} (hf : m ++ ((l.drop k).filter (fun x => x.b == d)).map (·.a) = R) : m ++ ((l.drop (k + 1)).filter (fun x => x.b == d)).map (·.a) = R := by
  rw [gdrop_at h, List.filter_cons, hp] at hf
  simpa using hf
/-- What a loop that appends ints to a row of its own holds on to. -/
def GrowI (w wr : World) (o : Value) (m : List Int) : Prop := RowI wr w.heap.size o m ∧ Below w.heap.size w wr
set_option maxHeartbeats 1000000 in
theorem implKidsOf_any (v : Value) (l : List AgeD) (d : Int) (w : World) (hv : Reads w w.heap.size v (agesD l)) (hn : l.length ≤ 2097152) : Calls Tryz.prog 156 #[v, .int .i64 d] w (NewI w (kidsK l d)) := by
  obtain ⟨A, c, rfl, _, _⟩ := hv.shapeG
  obtain ⟨R, hR⟩ : ∃ R, kidsK l d = R := ⟨_, rfl⟩
  rw [hR]
  unfold kidsK at hR
  have HV := Lib.hid hv
  clear hv
  cases hd : (d == 0)
  · rw [hd] at hR
    simp only [Bool.false_eq_true, if_false] at hR
    have HR := Lib.hid hR
    clear hR
    go_enter Tryz.func156, Tryz.ntmps156
    go_wp2
    go_loopw [5, 7, 14] (fun o _ i wr => ∃ (k : Nat) (m : List Int), k ≤ l.length ∧ i = .int .i64 k ∧ Hid (m.length ≤ k) ∧ Hid (m ++ ((l.drop k).filter (fun x => x.b == d)).map (·.a) = R) ∧ Hid (GrowI w wr o m)) (fun _ _ i _ => l.length - (intOf i).toNat)
    case atStart => exact ⟨0, [], Nat.zero_le _, rfl, Lib.hid (Nat.zero_le _), Lib.hid HR.out, Lib.hid ⟨RowI.lit w, bal1 _ _⟩⟩
    case round =>
      obtain ⟨k, m, hk, rfl, HM, HI, HG⟩ := hrel
      obtain ⟨hrow, hb⟩ := HG.out
      by_cases hlt : k < l.length
      · obtain ⟨b, off, rfl, hbb, hc⟩ := (HV.out.on hb).ages hlt
        have i1 : (k : Int) < (l.length : Int) := by omega
        have i2 : (0 : Int) ≤ (k : Int) := by omega
        obtain ⟨c0, c1⟩ := hc k hlt
        clear hc
        have ba := bal1 wr (.cells #[.int .i64 (l[k]).a, .int .i64 (l[k]).b] 61)
        obtain ⟨Ao, co, rfl, _, _⟩ := hrow.shape
        have HG1 := Lib.hid (show GrowI w (wr.alloc (.cells #[.int .i64 (l[k]).a, .int .i64 (l[k]).b] 61)) (.slice Ao m.length co) m from ⟨hrow.on ba, hb.trans (ba.mono hb.size)⟩)
        cases hs : ((l[k]).b == d)
        · have HS := Lib.hid hs
          clear hrow hb ba
          go_wp2
          go_roundw
          case rel => exact ⟨k + 1, m, by omega, by go_num, Lib.hid (Nat.le_succ_of_le HM.out), Lib.hid (kids_no hlt HS.out HI.out), HG1⟩
          case measure => simp [intOf]; omega
        · have HS := Lib.hid hs
          have hat := At.intOne (wr.alloc (.cells #[.int .i64 (l[k]).a, .int .i64 (l[k]).b] 61)) (l[k]).a 3
          simp only [World.size_alloc] at hat
          have HAt := Lib.hid hat
          have bb := bal1 (wr.alloc (.cells #[.int .i64 (l[k]).a, .int .i64 (l[k]).b] 61)) (.cells #[.int .i64 (l[k]).a] 3)
          have HRow := Lib.hid (HG1.out.1.on bb)
          have HB := Lib.hid (HG1.out.2.trans (bb.mono HG1.out.2.size))
          have HZ := Lib.hid HB.out.size
          clear hrow hb ba bb hat HG HG1
          go_wp2_with (at_builtin; refine wpList_appI _ rfl (.tmp 22) (.tmp 25) rfl w.heap.size _ m rfl HRow.out (some ⟨wr.heap.size + 1, 0, none⟩) 1 1 [(l[k]).a] rfl rfl HAt.out (by have := HM.out; simp; omega) HZ.out ?_; intro v1 w1 o1 b1; clear HRow HAt)
          have HG := Lib.hid (show GrowI w w1 v1 (m ++ [(l[k]).a]) from ⟨o1, HB.out.trans b1⟩)
          clear o1 b1
          go_roundw
          case rel => exact ⟨k + 1, m ++ [(l[k]).a], by omega, by go_num, Lib.hid (by have := HM.out; simp; omega), Lib.hid (kids_yes hlt HS.out HI.out), HG⟩
          case measure => simp [intOf]; omega
      · have e : m = R := by
          have := HI.out
          rw [List.drop_eq_nil_of_le (by omega)] at this
          simpa using this
        subst e
        obtain ⟨Ao, co, rfl, _, _⟩ := hrow.shape
        go_wp2
        go_ret
        exact ⟨_, rfl, HG.out.1, HG.out.2⟩
  · rw [hd] at hR
    simp only [if_true] at hR
    subst hR
    go_enter Tryz.func156, Tryz.ntmps156
    go_wp2
    go_ret
    exact ⟨_, rfl, RowI.lit w, bal1 _ _⟩
set_option maxHeartbeats 1000000 in
theorem specKidsOf_any (v : Value) (l : List AgeD) (d : Int) (w : World) (hv : Reads w w.heap.size v (agesD l)) (hn : l.length ≤ 2097152) : Calls Tryz.prog 66 #[v, .int .i64 d] w (NewI w (kidsK l d)) := by
  obtain ⟨A, c, rfl, _, _⟩ := hv.shapeG
  obtain ⟨R, hR⟩ : ∃ R, kidsK l d = R := ⟨_, rfl⟩
  rw [hR]
  unfold kidsK at hR
  have HV := Lib.hid hv
  clear hv
  cases hd : (d != 0)
  · have hd2 : (d == 0) = true := by simpa using hd
    rw [hd2] at hR
    simp only [if_true] at hR
    subst hR
    clear hd2
    go_enter Tryz.func66, Tryz.ntmps66
    go_wp2
    go_loopw [5, 6] (fun o i wr => ∃ (k : Nat), k ≤ l.length ∧ i = .int .i64 k ∧ o = .slice (some ⟨w.heap.size, 0, none⟩) 0 0 ∧ w.alloc (.cells #[] 3) = wr) (fun _ i _ => l.length - (intOf i).toNat)
    case atStart => exact ⟨0, Nat.zero_le _, rfl, rfl, rfl⟩
    case round =>
      obtain ⟨k, hk, rfl, rfl, rfl⟩ := hrel
      by_cases hlt : k < l.length
      · obtain ⟨b, off, rfl, hbb, hc⟩ := (HV.out.on (bal1 w (.cells #[] 3))).ages hlt
        have i1 : (k : Int) < (l.length : Int) := by omega
        have i2 : (0 : Int) ≤ (k : Int) := by omega
        obtain ⟨c0, c1⟩ := hc k hlt
        clear hc
        cases hs : ((l[k]).b == d)
        all_goals
          go_wp2
          go_roundw
          case rel => exact ⟨k + 1, by omega, by go_num, rfl, by first | trivial | rfl⟩
          case measure => simp [intOf]; omega
      · go_wp2
        go_ret
        exact ⟨_, rfl, RowI.lit w, bal1 _ _⟩
  · have hd2 : (d == 0) = false := by simpa using hd
    rw [hd2] at hR
    simp only [Bool.false_eq_true, if_false] at hR
    have HR := Lib.hid hR
    clear hR hd2
    go_enter Tryz.func66, Tryz.ntmps66
    go_wp2
    go_loopw [5, 6] (fun o i wr => ∃ (k : Nat) (m : List Int), k ≤ l.length ∧ i = .int .i64 k ∧ Hid (m.length ≤ k) ∧ Hid (m ++ ((l.drop k).filter (fun x => x.b == d)).map (·.a) = R) ∧ Hid (GrowI w wr o m)) (fun _ i _ => l.length - (intOf i).toNat)
    case atStart => exact ⟨0, [], Nat.zero_le _, rfl, Lib.hid (Nat.zero_le _), Lib.hid HR.out, Lib.hid ⟨RowI.lit w, bal1 _ _⟩⟩
    case round =>
      obtain ⟨k, m, hk, rfl, HM, HI, HG⟩ := hrel
      obtain ⟨hrow, hb⟩ := HG.out
      by_cases hlt : k < l.length
      · obtain ⟨b, off, rfl, hbb, hc⟩ := (HV.out.on hb).ages hlt
        have i1 : (k : Int) < (l.length : Int) := by omega
        have i2 : (0 : Int) ≤ (k : Int) := by omega
        obtain ⟨c0, c1⟩ := hc k hlt
        clear hc
        obtain ⟨Ao, co, rfl, _, _⟩ := hrow.shape
        cases hs : ((l[k]).b == d)
        · have HS := Lib.hid hs
          clear hrow hb
          go_wp2
          go_roundw
          case rel => exact ⟨k + 1, m, by omega, by go_num, Lib.hid (Nat.le_succ_of_le HM.out), Lib.hid (kids_no hlt HS.out HI.out), HG⟩
          case measure => simp [intOf]; omega
        · have HS := Lib.hid hs
          have HAt := Lib.hid (At.intOne wr (l[k]).a 3)
          have bb := bal1 wr (.cells #[.int .i64 (l[k]).a] 3)
          have HRow := Lib.hid (HG.out.1.on bb)
          have HB := Lib.hid (HG.out.2.trans (bb.mono HG.out.2.size))
          have HZ := Lib.hid HB.out.size
          clear hrow hb bb HG
          go_wp2_with (at_builtin; refine wpList_appI _ rfl (.tmp 25) (.tmp 31) rfl w.heap.size _ m rfl HRow.out (some ⟨wr.heap.size, 0, none⟩) 1 1 [(l[k]).a] rfl rfl HAt.out (by have := HM.out; simp; omega) HZ.out ?_; intro v1 w1 o1 b1; clear HRow HAt)
          have HG := Lib.hid (show GrowI w w1 v1 (m ++ [(l[k]).a]) from ⟨o1, HB.out.trans b1⟩)
          clear o1 b1
          go_roundw
          case rel => exact ⟨k + 1, m ++ [(l[k]).a], by omega, by go_num, Lib.hid (by have := HM.out; simp; omega), Lib.hid (kids_yes hlt HS.out HI.out), HG⟩
          case measure => simp [intOf]; omega
      · have e : m = R := by
          have := HI.out
          rw [List.drop_eq_nil_of_le (by omega)] at this
          simpa using this
        subst e
        obtain ⟨Ao, co, rfl, _, _⟩ := hrow.shape
        go_wp2
        go_ret
        exact ⟨_, rfl, HG.out.1, HG.out.2⟩
end Go.Proofs.YtpfepcjbhchpcaaGreat
namespace Go.Proofs.YtpfepcjbhchpcaaGreat
open Go.RowKit
set_option maxRecDepth 100000
set_option linter.unusedSimpArgs false
set_option linter.unusedVariables false

section
variable {P : Program} {md : Region.Mode} {ops : Array Oper} {Q : Exit → Act → World → Prop} {S : World → Prop} {f : Nat}
/-- Whatever order is picked from here on; S holds behind each operation but number f. -/
def anyBut (P : Program) (md : Region.Mode) (ops : Array Oper) (Q : Exit → Act → World → Prop) (S : World → Prop) (f : Nat) : Nat → Array Bool → Act → World → Prop
  | 0, listed, a, w => Region.ready md ops listed = [] ∧ Q .normal a w
  | n + 1, listed, a, w => (Region.ready md ops listed = [] → Q .normal a w) ∧ ∀ i ∈ Region.ready md ops listed, wpOp P ops Q i (fun a' w' => (i ≠ f → S w') ∧ anyBut P md ops Q S f n (listed.setIfInBounds i true) a' w') a w
theorem anyBut_any : ∀ (n : Nat) (listed : Array Bool) (a : Act) (w : World), anyBut P md ops Q S f n listed a w → wpAny P md ops Q n listed a w
  | 0, _, _, _, h => h
  | n + 1, _, _, _, h => ⟨h.1, fun i hi => wpOp_mono (fun a' w' h' => anyBut_any n _ a' w' h'.2) (h.2 i hi)⟩
/-- What has come up is not what has not. -/
theorem on_ne {listed : Array Bool} {i k : Nat} (hun : listed.getD i true = false) (hk : listed.getD k false = true) : k ≠ i := by
  rintro rfl
  rcases Nat.lt_or_ge k listed.size with h | h
  · simp [h] at hk hun; rw [hk] at hun; cases hun
  · simp [Array.getElem?_eq_none h] at hk
/-- What has come up came up behind what it waits for. -/
def Closed (md : Region.Mode) (ops : Array Oper) (listed : Array Bool) : Prop := ∀ k o, ops[k]? = some o → listed.getD k false = true → ∀ e ∈ o.after, Region.binds md e = true → listed.getD e.on false = true
def closedB (md : Region.Mode) (ops : Array Oper) (listed : Array Bool) : Bool := (List.range ops.size).all (fun k => match ops[k]? with | some o => !listed.getD k false || o.after.toList.all (fun e => !Region.binds md e || listed.getD e.on false) | none => true)
theorem closedB_spec {listed : Array Bool} (h : closedB md ops listed = true) : Closed md ops listed := by
  intro k o ho hk e he hb
  have hlt : k < ops.size := (Array.getElem?_eq_some_iff.1 ho).1
  have h1 := List.all_eq_true.1 h k (List.mem_range.2 hlt)
  simp only [ho, hk, Bool.not_true, Bool.false_or] at h1
  have h2 := List.all_eq_true.1 h1 e (Array.mem_toList_iff.2 he)
  simpa [hb] using h2
theorem Closed.set {listed : Array Bool} {j : Nat} (h : Closed md ops listed) (hj : j ∈ Region.ready md ops listed) : Closed md ops (listed.setIfInBounds j true) := by
  obtain ⟨hun, oj, hoj, hall⟩ := mem_ready.1 hj
  have up : ∀ m, listed.getD m false = true → (listed.setIfInBounds j true).getD m false = true := fun m hm => by rw [getD_set_ne false (fun hh => on_ne hun hm hh.symm)]; exact hm
  intro k o ho hk e he hb
  by_cases hkj : j = k
  · subst hkj; rw [hoj] at ho; cases ho; exact up _ (hall e he hb)
  · rw [getD_set_ne false hkj] at hk; exact up _ (h k o ho hk e he hb)
/-- Operation f waits for operation i, itself or through others. -/
def waits (md : Region.Mode) (ops : Array Oper) (i : Nat) : Nat → Nat → Bool
  | 0, _ => false
  | n + 1, f => match ops[f]? with | some o => o.after.toList.any (fun e => Region.binds md e && (e.on == i || waits md ops i n e.on)) | none => false
theorem waits_out {i : Nat} {listed : Array Bool} (hc : Closed md ops listed) (hun : listed.getD i true = false) : ∀ (n g : Nat), waits md ops i n g = true → g ∉ Region.ready md ops listed ∧ ¬ listed.getD g false = true
  | 0, _, h => by simp [waits] at h
  | n + 1, g, h => by
    unfold waits at h
    split at h
    · rename_i o ho
      simp only [List.any_eq_true, Bool.and_eq_true, Bool.or_eq_true, beq_iff_eq] at h
      obtain ⟨e, he, hb, hi⟩ := h
      have hn : ¬ listed.getD e.on false = true := by
        rcases hi with hi | hi
        · exact fun hh => on_ne hun hh hi
        · exact (waits_out hc hun n e.on hi).2
      refine ⟨fun hf => ?_, fun hh => hn (hc g o ho hh e (Array.mem_toList_iff.1 he) hb)⟩
      obtain ⟨_, o', ho', hall⟩ := mem_ready.1 hf
      rw [ho] at ho'; cases ho'
      exact hn (hall e (Array.mem_toList_iff.1 he) hb)
    · cases h
theorem anyBut_take {i m : Nat} {oi : Oper} {v : Value} (hi : ops[i]? = some oi) (hs : Region.noSelect ops = true) (hwt : waits md ops i m f = true) (hQ : ∀ c a w, Q (.panic c) (a.put oi.dst v) w → Q (.panic c) a w) :
    ∀ (n : Nat) (listed : Array Bool) (a : Act) (w : World), Closed md ops listed → (∀ j oj, ops[j]? = some oj → j ≠ i → listed.getD j true = false → (∀ e ∈ oj.after, Region.binds md e = true → e.on ≠ i) → oi.apart ops oj = true) →
      i ∈ Region.ready md ops listed → YieldsIf P ops S oi v a → S w → anyBut P md ops Q S f n (listed.setIfInBounds i true) (a.put oi.dst v) w → anyBut P md ops Q S f (n + 1) listed a w := by
  have hsel := Region.noSelect_spec hs
  intro n
  induction n with
  | zero =>
    intro listed a w _ _ hr hy hS H
    refine ⟨fun h => (by rw [h] at hr; cases hr), fun j hj => ?_⟩
    by_cases hji : j = i
    · subst hji; exact hy.wpOp hi hS ⟨fun _ => hS, H⟩
    · have h := ready_mono hj hji
      rw [H.1] at h
      cases h
  | succ n ih =>
    intro listed a w hcl hfree hr hy hS H
    refine ⟨fun h => (by rw [h] at hr; cases hr), fun j hj => ?_⟩
    by_cases hji : j = i
    · subst hji; exact hy.wpOp hi hS ⟨fun _ => hS, H⟩
    · have hjf : j ≠ f := fun h => (waits_out hcl (mem_ready.1 hr).1 m f hwt).1 (h ▸ hj)
      obtain ⟨hjun, oj, hoj, hall⟩ := mem_ready.1 hj
      have h2 := wpOp_putIf hoj (hfree j oj hoj hji hjun (fun e he hb => on_ne (mem_ready.1 hr).1 (hall e he hb))) (fun cs b => hsel i oi cs b hi) (fun cs b => hsel j oj cs b hoj) hQ hy (H.2 j (ready_mono hj hji))
      refine wpOp_mono (fun a' w' h3 => ⟨fun _ => h3.2.1 hjf, ih (listed.setIfInBounds j true) a' w' (hcl.set hj) (fun k ok hk hki hun hno => hfree k ok hk hki ?_ hno) (ready_mono hr (Ne.symm hji)) h3.1 (h3.2.1 hjf) ?_⟩) h2
      · by_cases hjk : j = k
        · subst hjk; exact hjun
        · rw [getD_set_ne true hjk] at hun; exact hun
      · rw [Array.setIfInBounds_comm _ _ hji]
        exact h3.2.2
/-- Take number i first. -/
theorem but_take {i : Nat} {oi : Oper} {v : Value} {n : Nat} {listed : Array Bool} {a : Act} {w : World} (hi : ops[i]? = some oi) (hs : Region.noSelect ops = true) (hwt : waits md ops i ops.size f = true) (hcl : closedB md ops listed = true) (hf : Region.free md ops listed i = true) (hr : (Region.ready md ops listed).contains i = true)
    (hQ : ∀ c a w, Q (.panic c) (a.put oi.dst v) w → Q (.panic c) a w) (hy : YieldsIf P ops S oi v a) (hS : S w) (h : anyBut P md ops Q S f n (listed.setIfInBounds i true) (a.put oi.dst v) w) : anyBut P md ops Q S f (n + 1) listed a w :=
  anyBut_take hi hs hwt hQ n listed a w (closedB_spec hcl) (Region.free_spec hi hf) (by simpa using hr) hy hS h
/-- One alone may come up: it is carried out. -/
theorem but_one {i : Nat} {o : Oper} {n : Nat} {listed : Array Bool} {a : Act} {w : World} (hr : Region.ready md ops listed = [i]) (ho : ops[i]? = some o)
    (h : ∀ K : Act → World → Prop, Hid (∀ a' w', (i ≠ f → S w') → anyBut P md ops Q S f n (listed.setIfInBounds i true) a' w' → K a' w') → if Region.wanted o (yielded ops a.tmps) = true then Oper.wp P o a w K Q else K (a.put o.dst undef) w) : anyBut P md ops Q S f (n + 1) listed a w := by
  refine ⟨fun h0 => (by rw [h0] at hr; cases hr), fun j hj => ?_⟩
  rw [hr, List.mem_singleton] at hj
  subst hj
  have h1 := h (fun a' w' => (j ≠ f → S w') ∧ anyBut P md ops Q S f n (listed.setIfInBounds j true) a' w') (Lib.hid (fun a' w' h2 h3 => ⟨h2, h3⟩))
  unfold wpOp
  simp only [ho]
  split
  · rename_i hw; rw [if_pos hw] at h1; exact .inl h1
  · rename_i hw; rw [if_neg hw] at h1; exact h1
/-- The same, where it is wanted. -/
theorem but_run {i : Nat} {o : Oper} {n : Nat} {listed : Array Bool} {a : Act} {w : World} (hr : Region.ready md ops listed = [i]) (ho : ops[i]? = some o) (hw : Region.wanted o (yielded ops a.tmps) = true)
    (h : ∀ K : Act → World → Prop, Hid (∀ a' w', (i ≠ f → S w') → anyBut P md ops Q S f n (listed.setIfInBounds i true) a' w' → K a' w') → Oper.wp P o a w K Q) : anyBut P md ops Q S f (n + 1) listed a w :=
  but_one hr ho (fun K hK => by rw [if_pos hw]; exact h K hK)
theorem but_done {n : Nat} {listed : Array Bool} {a : Act} {w : World} (hr : Region.ready md ops listed = []) (h : Q .normal a w) : anyBut P md ops Q S f n listed a w := by
  cases n with
  | zero => exact ⟨hr, h⟩
  | succ n => exact ⟨fun _ => h, by rw [hr]; simp⟩
theorem but_begin {id : Nat} {a : Act} {w : World} (hm : P.follows .mixedOrders = true) (h : anyBut P .any ops Q S f ops.size (Array.replicate ops.size false) a w.drew) : (Code.region id ops true).wp P Q a w := wp_region_any hm (anyBut_any _ _ _ _ h)
end
end Go.Proofs.YtpfepcjbhchpcaaGreat
namespace Go.Proofs.YtpfepcjbhchpcaaGreat
open Go.RowKit
set_option maxRecDepth 100000
set_option linter.unusedSimpArgs false
set_option linter.unusedVariables false

section
variable {P : Program} {md : Region.Mode} {ops : Array Oper} {Q : Exit → Act → World → Prop} {S : World → Prop} {f : Nat}
/-- Two may come up: each is carried out. -/
theorem but_two {i j : Nat} {oi oj : Oper} {n : Nat} {listed : Array Bool} {a : Act} {w : World} (hr : Region.ready md ops listed = [i, j]) (hoi : ops[i]? = some oi) (hoj : ops[j]? = some oj) (hwi : Region.wanted oi (yielded ops a.tmps) = true) (hwj : Region.wanted oj (yielded ops a.tmps) = true)
    (h : ∀ K : Act → World → Prop, Hid (∀ a' w', (i ≠ f → S w') → anyBut P md ops Q S f n (listed.setIfInBounds i true) a' w' → K a' w') → Oper.wp P oi a w K Q)
    (h' : ∀ K : Act → World → Prop, Hid (∀ a' w', (j ≠ f → S w') → anyBut P md ops Q S f n (listed.setIfInBounds j true) a' w' → K a' w') → Oper.wp P oj a w K Q) : anyBut P md ops Q S f (n + 1) listed a w := by
  refine ⟨fun h0 => (by rw [h0] at hr; cases hr), fun m hm => ?_⟩
  rw [hr] at hm
  simp only [List.mem_cons, List.not_mem_nil, or_false] at hm
  rcases hm with rfl | rfl
  · have h1 := h (fun a' w' => (m ≠ f → S w') ∧ anyBut P md ops Q S f n (listed.setIfInBounds m true) a' w') (Lib.hid (fun a' w' h2 h3 => ⟨h2, h3⟩))
    unfold wpOp
    simp only [hoi, hwi, if_true]
    exact .inl h1
  · have h1 := h' (fun a' w' => (m ≠ f → S w') ∧ anyBut P md ops Q S f n (listed.setIfInBounds m true) a' w') (Lib.hid (fun a' w' h2 h3 => ⟨h2, h3⟩))
    unfold wpOp
    simp only [hoj, hwj, if_true]
    exact .inl h1
end
end Go.Proofs.YtpfepcjbhchpcaaGreat
namespace Go.Proofs.YtpfepcjbhchpcaaGreat
open Go.RowKit
set_option maxRecDepth 100000
set_option linter.unusedSimpArgs false
set_option linter.unusedVariables false

theorem wanted_at {o og : Oper} {ops : Array Oper} {tmps : Array Value} {g s : Nat} {b v : Bool} (hg : o.guard = some (g, b)) (ho : ops[g]? = some og) (hd : og.dst = some s) (hv : tmps[s]? = some (.bool v)) : Region.wanted o (yielded ops tmps) = (v == b) := by
  simp [Region.wanted, yielded, hg, ho, hd, hv]
theorem wanted_un {o og : Oper} {ops : Array Oper} {tmps : Array Value} {g s : Nat} {b : Bool} (hg : o.guard = some (g, b)) (ho : ops[g]? = some og) (hd : og.dst = some s) (hv : tmps[s]? = some undef) : Region.wanted o (yielded ops tmps) = false := by
  simp [Region.wanted, yielded, hg, ho, hd, hv, undef]
end Go.Proofs.YtpfepcjbhchpcaaGreat
namespace Go.Proofs.YtpfepcjbhchpcaaGreat
open Go.RowKit
set_option maxRecDepth 100000
set_option linter.unusedSimpArgs false
set_option linter.unusedVariables false

def lessVG : Value := .func (.func 186) #[] #[]
theorem store_lessG (a : Addr) (m : Mode) (w : World) : (store a (.func (.func 186) #[] #[]) m).run Tryz.prog w = stored Tryz.prog w a (.func (.func 186) #[] #[]) m := run_store _ w a _ m rfl
theorem ageSet_any (A : Option Addr) (n c : Nat) (w : World) : Calls Tryz.prog 134 #[.slice A n c] w fun e w' => e = .returned (.agg #[.slice A n c, lessVG]) ∧ Below w.heap.size w w' := by
  have hst := store_lessG
  go_enter Tryz.func134, Tryz.ntmps134
  go_wp2
  exact bodyPost_ret (v := .agg #[.slice A n c, lessVG]) (by simp [results, Tryz.results134, go_sem, lessVG]) rfl ⟨rfl, bal1 _ _⟩
theorem lessAge_any (x y : AgeD) (w : World) : Calls Tryz.prog 186 #[.agg #[.int .i64 x.a, .int .i64 x.b], .agg #[.int .i64 y.a, .int .i64 y.b]] w (SaysBool w (decide (x.a < y.a))) := by
  obtain ⟨R, hR⟩ : ∃ R, decide (x.a < y.a) = R := ⟨_, rfl⟩
  rw [hR]
  go_enter Tryz.func186, Tryz.ntmps186
  go_wp2
  all_goals
    go_ret
    first
      | exact ⟨ret_boolB (by simp_all), bal2 _ _ _⟩
      | exact ⟨rfl, bal2 _ _ _⟩
theorem riseG_snoc {l : List AgeD} {j : Nat} (hlt : j + 1 < l.length) (h : ∀ i (h : i < j) (h2 : i + 1 < l.length), (l[i]).a < (l[i + 1]).a) (h2 : decide ((l[j]).a < (l[j + 1]).a) = true) : ∀ i (h : i < j + 1) (h2 : i + 1 < l.length), (l[i]).a < (l[i + 1]).a := by
  intro i hi h4
  by_cases h3 : i < j
  · exact h i h3 h4
  · have : i = j := by omega
    subst this
    exact of_decide_eq_true h2
set_option maxHeartbeats 1000000 in
theorem ascendingG_any (v : Value) (l : List AgeD) (w : World) (hv : Reads w w.heap.size v (agesD l)) (hn : l.length ≤ 2097152) : Calls Tryz.prog 135 #[.agg #[v, lessVG]] w (SaysBool w (riseG l)) := by
  obtain ⟨A, c, rfl, _, _⟩ := hv.shapeG
  have HT := Lib.hid lessAge_any
  unfold lessVG
  have HV := Lib.hid (hv.on (bal1 w (.cells #[.slice A l.length c, .func (.func 186) #[] #[]] 167)))
  have Q0 := Lib.hid (al1 w (.cells #[.slice A l.length c, .func (.func 186) #[] #[]] 167))
  have HB := Lib.hid (bal1 w (.cells #[.slice A l.length c, .func (.func 186) #[] #[]] 167))
  clear hv
  go_enter Tryz.func135, Tryz.ntmps135
  go_wp2
  generalize w.alloc (.cells #[.slice A l.length c, .func (.func 186) #[] #[]] 167) = W at *
  go_loopw [3] (fun i wr => ∃ j : Nat, (j < l.length ∨ j = 0) ∧ i = .int .i64 ((j : Int) + 1) ∧ Hid (∀ i (h : i < j) (h2 : i + 1 < l.length), (l[i]).a < (l[i + 1]).a) ∧ Hid (Below W.heap.size W wr)) (fun i _ => l.length - (intOf i).toNat)
  case atStart => exact ⟨0, .inr rfl, rfl, Lib.hid (fun i h => by omega), Lib.hid (Below.refl _ _)⟩
  case round =>
    obtain ⟨j, hj, rfl, HI, HW⟩ := hrel
    obtain ⟨x0, x1, x2⟩ := box2 (box_on Q0.out HW.out)
    by_cases hlt : j + 1 < l.length
    · obtain ⟨b, off, rfl, hbb, hc⟩ := (HV.out.on HW.out).ages hlt
      have F := Lib.hid (hc j (by omega))
      have F' := Lib.hid (hc (j + 1) hlt)
      have i1 : (j : Int) + 1 < (l.length : Int) := by omega
      have i2 : (0 : Int) ≤ (j : Int) + 1 := by omega
      have i3 : IntKind.i64.wrap ((j : Int) + 1 - 1) = (j : Int) := by rw [IntKind.wrap_i64]; omega
      have i7 : IntKind.i64.wrap (j : Int) = (j : Int) := by rw [IntKind.wrap_i64]; omega
      have i4 : (j : Int) < (l.length : Int) := by omega
      have i5 : (0 : Int) ≤ (j : Int) := by omega
      have i6 : ((j : Int) + 1).toNat = j + 1 := by omega
      have HP := Lib.hid (box_on Q0.out HW.out)
      clear hc
      obtain ⟨c0, c1⟩ := F.out
      obtain ⟨d0, d1⟩ := F'.out
      cases hless : decide ((l[j]).a < (l[j + 1]).a)
      all_goals
        have HL := Lib.hid hless
        clear hless
        go_wp2
        go_region_held3 (fun W => W.cell? ⟨w.heap.size, 0, none⟩ = some (.slice (some ⟨b, off, none⟩) l.length c) ∧ W.cell? ⟨w.heap.size, 1, none⟩ = some (.func (.func 186) #[] #[]) ∧ W.cell? ⟨b, off + j * 2, none⟩ = some (.int .i64 (l[j]).a) ∧ W.cell? ⟨b, off + j * 2 + 1, none⟩ = some (.int .i64 (l[j]).b) ∧ W.cell? ⟨b, off + (j + 1) * 2, none⟩ = some (.int .i64 (l[j + 1]).a) ∧ W.cell? ⟨b, off + (j + 1) * 2 + 1, none⟩ = some (.int .i64 (l[j + 1]).b))
          (first | with_reducible exact ⟨(box2 (box_on HP.out B8)).1, (box2 (box_on HP.out B8)).2.1, ⟨(F.out.on hbb B8).1, (F.out.on hbb B8).2, (F'.out.on hbb B8).1, (F'.out.on hbb B8).2⟩⟩ | with_reducible exact ⟨(box2 (box_on HP.out (Below.drew1 _))).1, (box2 (box_on HP.out (Below.drew1 _))).2.1, ⟨(F.out.on hbb (Below.drew1 _)).1, (F.out.on hbb (Below.drew1 _)).2, (F'.out.on hbb (Below.drew1 _)).1, (F'.out.on hbb (Below.drew1 _)).2⟩⟩ | exact ⟨x0, x1, F.out.1, F.out.2, F'.out.1, F'.out.2⟩ | fail)
          (first
            | (go_at_call 186; refine (HT.out l[j] l[j + 1] _).mono ?_; rintro r w8 ⟨rfl, b8⟩; rw [HL.out]; have B8 := bstep (Below.drew1 _) b8)
            | fail)
        all_goals
          have BC := Lib.hid (HW.out.trans (B8.mono HW.out.size))
          clear B8 b8 c0 c1 d0 d1 x0 x1 x2
          go_wp2
          first
            | go_ret
              refine ⟨ret_boolB ?_, bstep HB.out BC.out⟩
              symm
              refine decide_eq_false (fun h => ?_)
              have h2 := h j (by omega)
              have h3 := of_decide_eq_false HL.out
              exact h3 h2
            | go_roundw
              case rel => exact ⟨j + 1, .inl hlt, by go_num, Lib.hid (riseG_snoc hlt HI.out HL.out), BC⟩
              case measure => simp [intOf]; omega
    · have i2 : ¬ (j : Int) + 1 < (l.length : Int) := by omega
      go_wp2
      go_ret
      refine ⟨ret_boolB ?_, bstep HB.out HW.out⟩
      symm
      exact decide_eq_true (fun i h => HI.out i (by omega) (by omega))
theorem gfit_at {l : List AgeD} {k : Nat} (h : k < l.length) : fitG l k = (idG (l[k]).a && parGB l k (l[k]).b) := by
  unfold fitG
  rw [List.getElem?_eq_getElem h]
theorem fit_miss {l : List AgeD} {k : Nat} (h : k < l.length) (hf : fitG l k = false) : agesOkB l = false := by
  unfold agesOkB
  rw [decide_eq_false (fun hh => by rw [hh k h] at hf; cases hf)]
  rfl
theorem rise_miss {l : List AgeD} {j : Nat} (h : j + 1 < l.length) (hf : ¬ (l[j]).a < (l[j + 1]).a) : agesOkB l = false := by
  unfold agesOkB riseG
  rw [decide_eq_false (p := ∀ i (h : i < l.length - 1), (l[i]'(by omega)).a < (l[i + 1]'(by omega)).a) (fun hh => hf (hh j (by omega)))]
  simp
theorem fit_step {l : List AgeD} {k : Nat} (h : ∀ j, j < k → fitG l j = true) (hf : fitG l k = true) : ∀ j, j < k + 1 → fitG l j = true := by
  intro j hj
  by_cases h2 : j < k
  · exact h j h2
  · have : j = k := by omega
    subst this
    exact hf
/-- l1In at the range of an Id. -/
theorem inG_any (a : Int) (w : World) : Calls Tryz.prog 58 #[.int .i64 a, .int .i64 1, .int .i64 60] w (SaysBool w (idG a)) :=
  (l1InG_any a 1 60 w).mono (fun _ _ h => ⟨h.1, h.2 ▸ Below.refl _ _⟩)
theorem specAgeAtB (v : Value) (l : List AgeD) (d : Int) (w : World) (hv : Reads w w.heap.size v (agesD l)) (hn : l.length ≤ 2097152) : Calls Tryz.prog 100 #[v, .int .i64 d] w (SaysG w (ageAtK l d)) :=
  (specAgeAt_any v l d w hv hn).mono (fun _ _ h => ⟨h.1, h.2 ▸ Below.refl _ _⟩)
end Go.Proofs.YtpfepcjbhchpcaaGreat
namespace Go.Proofs.YtpfepcjbhchpcaaGreat
open Go.RowKit Go.Shelf
set_option maxRecDepth 100000
set_option linter.unusedSimpArgs false
set_option linter.unusedVariables false
attribute [local go_sem] Oper.semAt_some

def idxL (lo : List Int) : List (Nat × Int) := lo.mapIdx (fun i a => (i, a))
theorem idxL_len (lo : List Int) : (idxL lo).length = lo.length := by simp [idxL]
theorem idxL_get (lo : List Int) (k : Nat) (h : k < (idxL lo).length) : (idxL lo)[k] = (k, lo[k]'(by rw [idxL_len] at h; exact h)) := by simp [idxL]
theorem idxL_snoc (l : List Int) (a : Int) : idxL (l ++ [a]) = idxL l ++ [(l.length, a)] := by simp [idxL, List.mapIdx_append]
def foundI : Option (Nat × Int) → Int
  | some y => (y.1 : Int)
  | none => -1
def whereK (lo : List Int) (s : Int) : Int := foundI ((idxL lo).reverse.find? (fun y => decide (y.2 ≤ s)))
theorem whereK_nil (s : Int) : whereK [] s = -1 := rfl
theorem whereK_snoc (l : List Int) (a s : Int) : whereK (l ++ [a]) s = if a ≤ s then (l.length : Int) else whereK l s := by
  unfold whereK
  rw [idxL_snoc, List.reverse_append]
  simp only [List.reverse_cons, List.reverse_nil, List.nil_append, List.singleton_append, List.find?_cons]
  by_cases h : a ≤ s <;> simp [h, foundI]
theorem whereK_take {lo : List Int} {k : Nat} (h : k < lo.length) (s : Int) : whereK (lo.take (k + 1)) s = if lo[k] ≤ s then (k : Int) else whereK (lo.take k) s := by
  rw [List.take_succ_eq_append_getElem h, whereK_snoc]
  simp only [List.length_take, Nat.min_eq_left (Nat.le_of_lt h)]
theorem whereK_le (lo : List Int) (s : Int) : -1 ≤ whereK lo s ∧ whereK lo s < (lo.length : Int) := by
  unfold whereK
  cases h : (idxL lo).reverse.find? (fun y => decide (y.2 ≤ s)) with
  | none => simp [foundI]; omega
  | some y =>
    have h1 := List.mem_of_find?_eq_some h
    rw [List.mem_reverse] at h1
    obtain ⟨k, hk, rfl⟩ := List.getElem_of_mem h1
    rw [idxL_get]
    rw [idxL_len] at hk
    simp only [foundI]
    omega
theorem find_preG {α : Type} {K pre : List α} {x : α} {p : α → Bool} (h : pre ++ [x] <+: K) (h1 : ∀ y ∈ pre, p y = false) (h2 : p x = true) : K.find? p = some x := by
  obtain ⟨t, rfl⟩ := h
  rw [List.append_assoc, List.find?_append, List.find?_eq_none.2 (fun y hy => by simp [h1 y hy])]
  simp [List.find?_cons, h2]
/-- A number as the answer, nothing old written. -/
def SaysInt (w : World) (x : Int) (e : Ending) (w' : World) : Prop := e = .returned (.int .i64 x) ∧ Below w.heap.size w w'
set_option maxHeartbeats 2000000 in
theorem specWhereIn_any (vl vn : Value) (lo : List Int) (ts : List NodeD) (p q : Int) (w : World) (hv : RdT w w.heap.size vl vn lo ts) (hn : lo.length ≤ 1100000) :
    Calls Tryz.prog 92 #[.agg #[vl, vn], .int .i64 p, .int .i64 q] w (SaysInt w (whereK lo (spotI p q))) := by
  obtain ⟨A, c, A', c', rfl, rfl⟩ := hv.shape
  have HV := Lib.hid hv.1
  have HP := Lib.hid (specSpotOf_any p q)
  generalize spotI p q = s at *
  have HB := Lib.hid (bal1 w (.cells #[.slice A lo.length c, .slice A' ts.length c'] 36))
  have Q0 := Lib.hid (al1 w (.cells #[.slice A lo.length c, .slice A' ts.length c'] 36))
  clear hv
  go_enter Tryz.func92, Tryz.ntmps92
  go_upto_region 2 with (fail)
  generalize w.alloc (.cells #[.slice A lo.length c, .slice A' ts.length c'] 36) = W at *
  go_wp2
  go_loopw [7, 8] (fun x i wr => ∃ k : Nat, k ≤ lo.length ∧ i = .int .i64 k ∧ x = .int .i64 (whereK (lo.take k) s) ∧ Hid (Below W.heap.size W wr)) (fun _ i _ => lo.length - (intOf i).toNat)
  case atStart => exact ⟨0, Nat.zero_le _, rfl, rfl, Lib.hid (Below.refl _ _)⟩
  case round =>
    obtain ⟨k, hk, rfl, rfl, HX⟩ := hrel
    obtain ⟨x0, x1, x2⟩ := box2 (box_on Q0.out HX.out)
    by_cases hlt : k < lo.length
    · obtain ⟨b, off, rfl, hbb, hc⟩ := (HV.out.on (bstep HB.out HX.out)).int hlt
      have c1 := hc k hlt
      unfold iV at c1
      have HT := Lib.hid (whereK_take hlt s)
      have i1 : (k : Int) < (lo.length : Int) := by omega
      have i2 : (0 : Int) ≤ (k : Int) := by omega
      have HX1 := Lib.hid (bstep HX.out (Below.drew1 _))
      clear hc
      generalize whereK (lo.take k) s = y at *
      go_wp2
      go_region_held3 (fun V => V.cell? ⟨w.heap.size, 0, none⟩ = some (.slice (some ⟨b, off, none⟩) lo.length c) ∧ V.cell? ⟨b, off + k, none⟩ = some (.int .i64 lo[k]))
        (first | exact ⟨x0, c1⟩ | fail)
        (first | (go_at_call 160; refine (HP.out _).mono ?_; rintro r u ⟨rfl, rfl⟩) | fail)
      clear x0 x1 x2 c1
      change Hid (Below W.heap.size W wr.drew) at HX1
      generalize wr.drew = wd at *
      by_cases hle : lo[k] ≤ s
      · have hT := HT.out
        rw [if_pos hle] at hT
        have HT2 := Lib.hid hT
        clear hT HT
        go_wp2
        go_roundw
        case rel => exact ⟨k + 1, by omega, by go_num, by rw [HT2.out], HX1⟩
        case measure => simp [intOf]; omega
      · have hT := HT.out
        rw [if_neg hle] at hT
        have HT2 := Lib.hid hT
        have hgt : s < lo[k] := by omega
        clear hT HT hle
        go_wp2
        go_roundw
        case rel => exact ⟨k + 1, by omega, by go_num, by rw [HT2.out], HX1⟩
        case measure => simp [intOf]; omega
    · go_wp2
      go_ret
      have e : k = lo.length := by omega
      subst e
      exact ⟨by rw [List.take_length]; rfl, bstep HB.out HX.out⟩
def encI (x : Nat × Int) : Array Value := #[.int .i64 (x.1 : Int), .int .i64 x.2]
/-- The cells of the ints lie below n₀. -/
def IntsAt (W : World) (n₀ : Nat) (A : Option Addr) (lo : List Int) : Prop := lo = [] ∨ ∃ b off, A = some ⟨b, off, none⟩ ∧ b < n₀ ∧ ∀ k (h : k < lo.length), W.cell? ⟨b, off + k, none⟩ = some (.int .i64 lo[k])
theorem IntsAt.below {W W' : World} {n₀ : Nat} {A : Option Addr} {lo : List Int} (h : IntsAt W n₀ A lo) (hb : Below n₀ W W') : IntsAt W' n₀ A lo := by
  rcases h with h | ⟨b, off, h2, h3, h4⟩
  · exact .inl h
  · exact .inr ⟨b, off, h2, h3, fun k hk => (hb.cell (p := ⟨b, off + k, none⟩) h3).trans (h4 k hk)⟩
theorem IntsAt.mono {W : World} {n₀ n₁ : Nat} {A : Option Addr} {lo : List Int} (h : IntsAt W n₀ A lo) (hn : n₀ ≤ n₁) : IntsAt W n₁ A lo := by
  rcases h with h | ⟨b, off, h2, h3, h4⟩
  · exact .inl h
  · exact .inr ⟨b, off, h2, by omega, h4⟩
theorem Reads.intsAt {w : World} {A : Option Addr} {c : Nat} {lo : List Int} (h : Reads w w.heap.size (.slice A lo.length c) (intsD lo)) : IntsAt w w.heap.size A lo := by
  by_cases h0 : 0 < lo.length
  · obtain ⟨b, off, h1, h2, h3⟩ := h.int h0
    exact .inr ⟨b, off, h1, h2, h3⟩
  · exact .inl (List.length_eq_zero_iff.1 (by omega))
set_option maxHeartbeats 2000000 in
theorem backI_seq (E : TypeId) (Bs n₀ : Nat) (A : Option Addr) (c : Nat) (lo : List Int) (hm : lo.length ≤ 1100000) (hBs : Bs < n₀) (w : World) (hn₀ : n₀ ≤ w.heap.size) (hc : w.cell? ⟨Bs, 0, none⟩ = some (.slice A lo.length c)) (hz : IntsAt w n₀ A lo) :
    SeqL E Tryz.prog 243 #[.pointer (some ⟨Bs, 0, none⟩)] encI n₀ (idxL lo).reverse w := by
  intro l J Jx W hW hJ hJx hY h0
  have hc' : W.cell? ⟨Bs, 0, none⟩ = some (.slice A lo.length c) := (hW.cell (p := ⟨Bs, 0, none⟩) (show Bs < w.heap.size by omega)).trans hc
  have HZ := Lib.hid (hz.below (hW.mono hn₀))
  have hnW : n₀ ≤ W.heap.size := Nat.le_trans hn₀ hW.size
  clear hc hz hW hJ hJx
  refine (callsIn_wide (n := 1)).1 ?_
  refine callsIn_of_wp Tryz.func243 rfl trivial ?_ rfl
  simp only [Tryz.ntmps243, List.size_toArray, List.length_cons, List.length_nil, Nat.reduceAdd, Nat.reduceSub, Array.replicate_succ, Array.replicate_zero, List.push_toArray, List.append_toArray, List.nil_append, List.cons_append]
  gi_wp2
  gi_loopw [3] (fun i wr => ∃ r : Nat, r ≤ lo.length ∧ i = .int .i64 ((r : Int) - 1) ∧ Hid (J ((idxL lo).reverse.take ((idxL lo).length - r)) wr) ∧ Hid (Below n₀ W wr)) (fun i _ => (intOf i + 1).toNat)
  case atStart => exact ⟨lo.length, Nat.le_refl _, rfl, Lib.hid (by rw [idxL_len, Nat.sub_self]; exact h0), Lib.hid (Below.refl _ _)⟩
  case round =>
    obtain ⟨r, hr, rfl, HJ, HX⟩ := hrel
    have hB2 : wr.cell? ⟨Bs, 0, none⟩ = some (.slice A lo.length c) := (HX.out.cell (p := ⟨Bs, 0, none⟩) hBs).trans hc'
    rcases Nat.eq_zero_or_pos r with rfl | hpos
    · have t0 : decide ((0 : Int) ≤ ((0 : Nat) : Int) - 1) = false := by decide
      have HJ2 := HJ.out
      rw [Nat.sub_zero, List.take_of_length_le (by simp)] at HJ2
      gi_wp2
      go_end0
      exact ⟨⟨_, rfl⟩, .inl HJ2⟩
    · obtain ⟨k, rfl⟩ : ∃ k, r = k + 1 := ⟨r - 1, by omega⟩
      have hlt : k < lo.length := by omega
      have hlz : k < (idxL lo).length := by rw [idxL_len]; exact hlt
      have e1 : ((k + 1 : Nat) : Int) - 1 = (k : Int) := by omega
      rw [e1]
      obtain ⟨b, off, rfl, hb, hcc⟩ : ∃ b off, A = some ⟨b, off, none⟩ ∧ b < n₀ ∧ ∀ k (h : k < lo.length), W.cell? ⟨b, off + k, none⟩ = some (.int .i64 lo[k]) := by
        rcases HZ.out with h | h
        · rw [h] at hlt; simp at hlt
        · exact h
      have y0 := (HX.out.cell (p := ⟨b, off + k, none⟩) hb).trans (hcc k hlt)
      obtain ⟨fn, tmps, assign, body, hy, hR⟩ := hY _ (idxL lo)[k] wr (rev_pre hlz) HJ.out
      rw [idxL_get] at hy
      unfold encI at hy
      have HR := Lib.hid hR
      have hsz := HX.out.size
      have HT := Lib.hid (rev_take hlz)
      have HPX := Lib.hid (rev_pre hlz)
      have i2 : (k : Int) < (lo.length : Int) := by omega
      have i3 : (0 : Int) ≤ (k : Int) := by omega
      clear hcc hR e1 hpos
      gi_wp2
      refine (HR.out _).mono ?_
      rintro e W3 (⟨rfl, hJ3, ho3⟩ | ⟨rfl, hJx3, ho3⟩)
      · gi_wp2
        go_roundw
        case rel => exact ⟨k, by omega, by go_num, Lib.hid (by rw [HT.out]; exact hJ3), Lib.hid (HX.out.trans (only_below ho3 (Nat.le_trans hnW hsz)))⟩
        case measure => simp [intOf]
      · gi_wp2
        refine bodyPost_ret (results_none rfl _ _ _) rfl ?_
        exact ⟨⟨_, rfl⟩, .inr ⟨_, HPX.out, hJx3⟩⟩
theorem backIF_any (a : Option Addr) (len cap : Nat) (w : World) :
    Calls Tryz.prog 225 #[.slice a len cap] w fun e w' => e = .returned (.func (.func 243) #[] #[.pointer (some ⟨w.heap.size, 0, none⟩)]) ∧ w' = w.alloc (.cells #[.slice a len cap] 22) := by
  go_enter Tryz.func225, Tryz.ntmps225
  go_wp2
  go_ret
  exact ⟨rfl, rfl⟩
set_option maxHeartbeats 4000000 in
theorem implWhereIn_any (vl vn : Value) (lo : List Int) (ts : List NodeD) (p q : Int) (w : World) (hv : RdT w w.heap.size vl vn lo ts) (hn : lo.length ≤ 1100000) :
    Calls Tryz.prog 185 #[.agg #[vl, vn], .int .i64 p, .int .i64 q] w (SaysInt w (whereK lo (spotI p q))) := by
  obtain ⟨A, c, A', c', rfl, rfl⟩ := hv.shape
  have HV := Lib.hid hv.1.intsAt
  have HP := Lib.hid implSpotOf_any
  have HF1 : Hid (∀ s x pre, pre ++ [x] <+: (idxL lo).reverse → (∀ y ∈ pre, decide (y.2 ≤ s) = false) → decide (x.2 ≤ s) = true → whereK lo s = (x.1 : Int)) := Lib.hid (fun s x pre h1 h2 h3 => by unfold whereK; rw [find_preG h1 h2 h3]; rfl)
  have HF0 : Hid (∀ s, (∀ y ∈ (idxL lo).reverse, decide (y.2 ≤ s) = false) → whereK lo s = -1) := Lib.hid (fun s h => by unfold whereK; rw [List.find?_eq_none.2 (fun y hy => by simp [h y hy])]; rfl)
  clear hv
  refine (callsIn_wide (n := 3)).1 ?_
  refine callsIn_of_wp_marks Tryz.func185 rfl trivial ?_ rfl
  simp only [Tryz.ntmps185, List.size_toArray, List.length_cons, List.length_nil, Nat.reduceAdd, Nat.reduceSub, Array.replicate_succ, Array.replicate_zero, List.push_toArray, List.append_toArray, List.nil_append, List.cons_append]
  gi_wp2_with fail
  refine ⟨trivial, (callsIn_wide.2 (HP.out _ _ _)).mono ?_⟩
  rintro r w1 ⟨rfl, rfl⟩
  generalize spotI p q = s at *
  gi_wp2_with fail
  refine ⟨trivial, (callsIn_wide.2 (backIF_any _ _ _ _)).mono ?_⟩
  rintro r w1 ⟨rfl, rfl⟩
  gi_wp2_with fail
  obtain ⟨q0, q1⟩ := al2 w (.cells #[.slice A lo.length c, .slice A' ts.length c'] 36) (.cells #[.int .i64 0] 3)
  have hb2 := bal2 w (.cells #[.slice A lo.length c, .slice A' ts.length c'] 36) (.cells #[.int .i64 0] 3)
  obtain ⟨r0, r1⟩ := al2 ((w.alloc (.cells #[.slice A lo.length c, .slice A' ts.length c'] 36)).alloc (.cells #[.int .i64 0] 3)) (.cells #[.int .i64 s] 3) (.cells #[.slice A lo.length c] 22)
  have hb3 := bal2 ((w.alloc (.cells #[.slice A lo.length c, .slice A' ts.length c'] 36)).alloc (.cells #[.int .i64 0] 3)) (.cells #[.int .i64 s] 3) (.cells #[.slice A lo.length c] 22)
  have hz6 : ((((w.alloc (.cells #[.slice A lo.length c, .slice A' ts.length c'] 36)).alloc (.cells #[.int .i64 0] 3)).alloc (.cells #[.int .i64 s] 3)).alloc (.cells #[.slice A lo.length c] 22)).heap.size = w.heap.size + 4 := by simp
  simp only [World.size_alloc] at r0 r1
  have HB6 := Lib.hid (bstep hb2 hb3)
  have P1 := Lib.hid (box_on q1 hb3)
  clear hb2 hb3 q0 q1
  generalize (((w.alloc (.cells #[.slice A lo.length c, .slice A' ts.length c'] 36)).alloc (.cells #[.int .i64 0] 3)).alloc (.cells #[.int .i64 s] 3)).alloc (.cells #[.slice A lo.length c] 22) = W0 at *
  have R0 := Lib.hid r0
  have hww := HB6.out.size
  refine rangeL (E := 58) (gf := 243) (lb := #[.pointer (some ⟨w.heap.size + 1 + 1 + 1, 0, none⟩)]) rfl (enters_of Tryz.func243 (by kernel_rfl) rfl)
    (backI_seq 58 (w.heap.size + 1 + 1 + 1) W0.heap.size A c lo hn (by omega) W0 (Nat.le_refl _) (box1N r1).1 ((HV.out.below HB6.out).mono hww))
    (Below.refl _ _) (Nat.le_refl _) (fun _ => rfl)
    (fun pre V => Below W0.heap.size W0 V ∧ ∀ y ∈ pre, decide (y.2 ≤ s) = false)
    (fun cd _ V => cd = .ret ∧ V.heap[w.heap.size + 1]? = some (.cells #[.int .i64 (whereK lo s)] 3 (0, 0)) ∧ Below w.heap.size w V)
    (OwnFrom.and (ownFrom_below (Nat.le_refl _) (Nat.le_refl _)) (ownFrom_pure _ _))
    (fun cd _ X Y row hs hg hr => by
      obtain ⟨h1, h2, h4⟩ := hs
      have hr' : ∀ r, row = some r → ∃ o : Obj, X.heap[r]? = some o ∧ o.isCells = false := fun r e => (hr r e).2
      exact ⟨h1, cellsN hg hr' h2, ownFrom_below (β := Unit) (Nat.le_refl _) hww () X Y row h4 hg hr⟩)
    ⟨Below.refl _ _, fun y hy => by cases hy⟩
    (fun x a' _ => a' = { tmps := #[.agg #[.slice A lo.length c, .slice A' ts.length c'], .int .i64 p, .int .i64 q, .pointer (some ⟨w.heap.size, 0, none⟩), undef, undef, .pointer (some ⟨w.heap.size + 1, 0, none⟩), .pointer (some ⟨w.heap.size + 1 + 1, 0, none⟩), .int .i64 (x.1 : Int), .int .i64 x.2, .int .i64 p, .int .i64 q, .int .i64 s, .pointer (some ⟨w.heap.size, 0, none⟩), .slice A lo.length c, .func (.func 243) #[] #[.pointer (some ⟨w.heap.size + 1 + 1 + 1, 0, none⟩)], .int .i64 (x.1 : Int), .int .i64 x.2, undef, undef, undef, undef], defers := [] })
    (fun x a' => fun _ _ _ _ hs _ _ => hs)
    ?assign ?body ?done ?stop
  case assign =>
    rintro l pre x V K hpx hi hK
    simp only [encI]
    gi_wp2
    exact hK _ _ (Only.refl _ _) hi rfl
  case body =>
    rintro l pre x a' V hpx ⟨hB, hpre⟩ rfl
    have HBV := Lib.hid hB
    have HPR := Lib.hid hpre
    have HPX := Lib.hid hpx
    have hzV := hB.size
    obtain ⟨a0, a1⟩ := box1N (box_on R0.out hB)
    have p1 := box_on P1.out hB
    obtain ⟨c0, c1⟩ := box1N p1
    have P1' := Lib.hid p1
    clear hB hpre hpx p1
    cases hsp : decide (x.2 ≤ s)
    · have HSx := Lib.hid hsp
      gi_wp2
      exact ⟨Kept.refl _ _ _ _, HBV.out, fun y hy => (List.mem_append.1 hy).elim (HPR.out y) (fun e => by simp at e; subst e; exact HSx.out)⟩
    · have HFx := Lib.hid (HF1.out s x pre HPX.out HPR.out hsp)
      gi_wp2
      refine ⟨((Only.refl (fun b => b < W0.heap.size) V).setCell (g := w.heap.size + 1) (j := 0) (by omega) _).kept _ (fun b hb => ⟨Nat.zero_le _, fun h => by omega⟩), rfl, ?_, (bstep HB6.out HBV.out).setCell (p := ⟨w.heap.size + 1, 0, none⟩) (show w.heap.size ≤ w.heap.size + 1 by omega) _⟩
      rw [HFx.out]
      exact box_set P1'.out
  case done =>
    rintro D V hD ⟨hB, hall⟩ hK
    have HFx := Lib.hid (HF0.out s hall)
    have HBV := Lib.hid hB
    have HKD := Lib.hid hK
    have hDV : D < V.heap.size := (Array.getElem?_eq_some_iff.1 hK).1
    have p1 := box_on P1.out hB
    obtain ⟨c0, c1⟩ := box1N p1
    have P1' := Lib.hid p1
    clear hB hall hK p1
    gi_wp2
    have hK5 : (V.setCell ⟨w.heap.size + 1, 0, none⟩ (.int .i64 (-1))).heap[D]? = some (.deferred (some [])) := box_far HKD.out (by omega)
    refine ⟨by simp, .inl ⟨_, _, rfl, run_takeDeferred hK5, ?_⟩⟩
    have hput := fun {b cur e} => cellsN (b := b) (cur := cur) (e := e) (grownBy_putObj' _ D (.deferred none)) (fun r e => by cases e; exact ⟨_, hK5, rfl⟩)
    obtain ⟨d0, d1⟩ := box1N (hput (box_set (i := 0) (u := .int .i64 (-1)) P1'.out))
    have hFn := HFx.out
    refine ⟨.int .i64 (-1), by simp [results, Tryz.results185, go_sem, d0], by rw [hFn], ((bstep HB6.out HBV.out).setCell (p := ⟨w.heap.size + 1, 0, none⟩) (show w.heap.size ≤ w.heap.size + 1 by omega) _).trans (belowK_b (w := w) (Nat.le_refl _) _ D _ _ (by omega) hK5 rfl rfl)⟩
  case stop =>
    rintro D cd pre V hD _ ⟨rfl, h1, h3⟩ hK
    gi_wp2
    refine ⟨by simp, .inl ⟨_, _, rfl, run_takeDeferred hK, ?_⟩⟩
    have hput := fun {b cur e} => cellsN (b := b) (cur := cur) (e := e) (grownBy_putObj' V D (.deferred none)) (fun r e => by cases e; exact ⟨_, hK, rfl⟩)
    obtain ⟨a0, a1⟩ := box1N (hput h1)
    refine ⟨.int .i64 (whereK lo s), by simp [results, Tryz.results185, go_sem, a0], rfl, h3.trans (belowK_b (w := w) (Nat.le_refl _) _ D _ _ (by omega) hK rfl rfl)⟩
end Go.Proofs.YtpfepcjbhchpcaaGreat
namespace Go.Proofs.YtpfepcjbhchpcaaGreat
open Go.RowKit
set_option maxRecDepth 100000
set_option linter.unusedSimpArgs false
set_option linter.unusedVariables false

theorem l1In_any (a lo hi : Int) (w : World) : Calls Tryz.prog 58 #[.int .i64 a, .int .i64 lo, .int .i64 hi] w fun e w' => e = .returned (.bool (decide (lo ≤ a) && decide (a ≤ hi))) ∧ w = w' := by
  by_cases h1 : lo ≤ a
  · by_cases h2 : a ≤ hi
    · rw [decide_eq_true h1, decide_eq_true h2]
      go_enter Tryz.func58, Tryz.ntmps58
      go_wp2
      go_ret
      exact ⟨rfl, rfl⟩
    · have h3 : hi < a := by omega
      rw [decide_eq_true h1, decide_eq_false h2]
      go_enter Tryz.func58, Tryz.ntmps58
      go_wp2
      go_ret
      exact ⟨rfl, rfl⟩
  · have h3 : a < lo := by omega
    rw [decide_eq_false h1, Bool.false_and]
    go_enter Tryz.func58, Tryz.ntmps58
    go_wp2
    go_ret
    exact ⟨rfl, rfl⟩
def treeKeysK (ts : List NodeD) : List KeyD := (ts.map nodeKeysK).flatten
theorem treeKeys_cons (n : NodeD) (ts : List NodeD) : treeKeysK (n :: ts) = nodeKeysK n ++ treeKeysK ts := rfl
theorem treeKeys_append (a b : List NodeD) : treeKeysK (a ++ b) = treeKeysK a ++ treeKeysK b := by simp [treeKeysK]
theorem treeKeys_take {ts : List NodeD} {k : Nat} (h : k < ts.length) : treeKeysK (ts.take (k + 1)) = treeKeysK (ts.take k) ++ nodeKeysK ts[k] := by
  rw [List.take_succ_eq_append_getElem h, treeKeys_append]
  simp [treeKeysK]
theorem treeKeys_len (ts : List NodeD) : (treeKeysK ts).length ≤ sumT ts := by
  induction ts with
  | nil => simp [treeKeysK, sumT]
  | cons n ts ih =>
    have := nodeKeys_len n
    rw [treeKeys_cons, List.length_append, sumT_cons]
    omega
theorem treeKeys_takelen (ts : List NodeD) (k : Nat) : (treeKeysK (ts.take k)).length ≤ sumT ts := Nat.le_trans (treeKeys_len _) (sumT_take_le ts k)
set_option maxHeartbeats 1000000 in
theorem specTreeKeys_any (vl vn : Value) (lo : List Int) (ts : List NodeD) (w : World) (hv : RdT w w.heap.size vl vn lo ts) (hn : ts.length ≤ 1048576) (hs : sumT ts ≤ 1048576) :
    Calls Tryz.prog 22 #[.agg #[vl, vn]] w (NewK w (treeKeysK ts)) := by
  obtain ⟨A, c, A', c', rfl, rfl⟩ := hv.shape
  have HV := Lib.hid hv.2
  have HB := Lib.hid (bal1 w (.cells #[.slice A lo.length c, .slice A' ts.length c'] 36))
  have Q0 := Lib.hid (al1 w (.cells #[.slice A lo.length c, .slice A' ts.length c'] 36))
  clear hv
  go_enter Tryz.func22, Tryz.ntmps22
  go_upto_region 1 with (fail)
  generalize w.alloc (.cells #[.slice A lo.length c, .slice A' ts.length c'] 36) = W at *
  go_wp2
  go_loopw [3, 4] (fun o i wr => ∃ k : Nat, k ≤ ts.length ∧ i = .int .i64 k ∧ Hid (RowK wr W.heap.size o (treeKeysK (ts.take k))) ∧ Hid (Below W.heap.size W wr)) (fun _ i _ => ts.length - (intOf i).toNat)
  case atStart => exact ⟨0, Nat.zero_le _, rfl, Lib.hid (RowK.lit W), Lib.hid (bal1 _ _)⟩
  case round =>
    obtain ⟨k, hk, rfl, HR, HX⟩ := hrel
    obtain ⟨x0, x1, x2⟩ := box2 (box_on Q0.out HX.out)
    obtain ⟨Ao, co, rfl, _, _⟩ := HR.out.shape
    by_cases hlt : k < ts.length
    · obtain ⟨b, off, rfl, hbb, hc⟩ := (HV.out.on (bstep HB.out HX.out)).node hlt
      obtain ⟨A1, d1, c1, _, _, r1⟩ := hc k hlt
      have R1 := Lib.hid r1
      have HT := Lib.hid (treeKeys_take hlt)
      have HL := Lib.hid (treeKeys_takelen ts k)
      have hl := sumT_mem (List.getElem_mem hlt)
      have hlk := nodeKeys_len ts[k]
      have i1 : (k : Int) < (ts.length : Int) := by omega
      have i2 : (0 : Int) ≤ (k : Int) := by omega
      clear hc r1
      go_wp2_with fail
      refine (specNodeKeys_any _ ts[k] _ R1.out (by omega) (by omega)).mono ?_
      rintro e w2 ⟨v2, rfl, o2, b2⟩
      obtain ⟨A2, c2, rfl, _, _⟩ := o2.shape
      have HRow := Lib.hid (HR.out.on b2)
      have HAt := Lib.hid (o2.owns.reads.atK)
      have B2 := Lib.hid (bstep HX.out b2)
      have HZ := Lib.hid B2.out.size
      clear o2 b2 x0 x1 x2 c1
      go_wp2_with (at_builtin; refine wpList_appK _ rfl (.tmp 13) (.tmp 19) rfl W.heap.size _ (treeKeysK (ts.take k)) rfl HRow.out A2 (nodeKeysK ts[k]).length c2 (nodeKeysK ts[k]) rfl rfl HAt.out (by have := HL.out; omega) HZ.out ?_; intro v1 w1 o1 b1; clear HRow HAt)
      have HO := Lib.hid o1
      have B3 := Lib.hid (B2.out.trans b1)
      clear o1 b1
      go_roundw
      case rel => exact ⟨k + 1, by omega, by go_num, Lib.hid (by rw [HT.out]; exact HO.out), B3⟩
      case measure => simp [intOf]; omega
    · have e : k = ts.length := by omega
      subst e
      have h := HR.out
      rw [List.take_length] at h
      have HF := Lib.hid h
      clear h
      go_wp2
      go_ret
      refine ⟨_, rfl, ?_, bstep HB.out HX.out⟩
      have h := HF.out.mono (base' := w.heap.size) HB.out.size
      rw [List.take_length]
      exact h
set_option maxHeartbeats 1000000 in
theorem implTreeKeys_any (vl vn : Value) (lo : List Int) (ts : List NodeD) (w : World) (hv : RdT w w.heap.size vl vn lo ts) (hn : ts.length ≤ 1048576) (hs : sumT ts ≤ 1048576) :
    Calls Tryz.prog 80 #[.agg #[vl, vn]] w (NewK w (treeKeysK ts)) := by
  obtain ⟨A, c, A', c', rfl, rfl⟩ := hv.shape
  have HV := Lib.hid hv.2
  have HB := Lib.hid (bal1 w (.cells #[.slice A lo.length c, .slice A' ts.length c'] 36))
  have Q0 := Lib.hid (al1 w (.cells #[.slice A lo.length c, .slice A' ts.length c'] 36))
  clear hv
  go_enter Tryz.func80, Tryz.ntmps80
  go_upto_region 1 with (fail)
  generalize w.alloc (.cells #[.slice A lo.length c, .slice A' ts.length c'] 36) = W at *
  obtain ⟨x0, x1, x2⟩ := box2 (box_on Q0.out (bal1 W (.cells #[] 58)))
  go_wp2
  clear x0 x1 x2
  go_loopw [3, 10] (fun o i wr => ∃ k : Nat, k ≤ ts.length ∧ i = .int .i64 k ∧ Hid (RowK wr W.heap.size o (treeKeysK (ts.take k))) ∧ Hid (Below W.heap.size W wr)) (fun _ i _ => ts.length - (intOf i).toNat)
  case atStart => exact ⟨0, Nat.zero_le _, rfl, Lib.hid (RowK.lit W), Lib.hid (bal1 _ _)⟩
  case round =>
    obtain ⟨k, hk, rfl, HR, HX⟩ := hrel
    obtain ⟨Ao, co, rfl, _, _⟩ := HR.out.shape
    by_cases hlt : k < ts.length
    · obtain ⟨b, off, rfl, hbb, hc⟩ := (HV.out.on (bstep HB.out HX.out)).node hlt
      obtain ⟨A1, d1, c1, _, _, r1⟩ := hc k hlt
      have ba := bal1 wr (.cells #[.slice A1 (ts[k]).length d1] 97)
      have R1 := Lib.hid (r1.on ba)
      have HT := Lib.hid (treeKeys_take hlt)
      have HL := Lib.hid (treeKeys_takelen ts k)
      have hl := sumT_mem (List.getElem_mem hlt)
      have hlk := nodeKeys_len ts[k]
      have i1 : (k : Int) < (ts.length : Int) := by omega
      have i2 : (0 : Int) ≤ (k : Int) := by omega
      replace HX := Lib.hid (bstep HX.out ba)
      replace HR := Lib.hid (HR.out.on ba)
      clear hc r1 ba
      go_wp2_with fail
      refine (implNodeKeys_any _ ts[k] _ R1.out (by omega) (by omega)).mono ?_
      rintro e w2 ⟨v2, rfl, o2, b2⟩
      obtain ⟨A2, c2, rfl, _, _⟩ := o2.shape
      have HRow := Lib.hid (HR.out.on b2)
      have HAt := Lib.hid (o2.owns.reads.atK)
      have B2 := Lib.hid (bstep HX.out b2)
      have HZ := Lib.hid B2.out.size
      clear o2 b2 c1
      go_wp2_with (at_builtin; refine wpList_appK _ rfl (.tmp 14) (.tmp 16) rfl W.heap.size _ (treeKeysK (ts.take k)) rfl HRow.out A2 (nodeKeysK ts[k]).length c2 (nodeKeysK ts[k]) rfl rfl HAt.out (by have := HL.out; omega) HZ.out ?_; intro v1 w1 o1 b1; clear HRow HAt)
      have HO := Lib.hid o1
      have B3 := Lib.hid (B2.out.trans b1)
      clear o1 b1
      go_roundw
      case rel => exact ⟨k + 1, by omega, by go_num, Lib.hid (by rw [HT.out]; exact HO.out), B3⟩
      case measure => simp [intOf]; omega
    · have e : k = ts.length := by omega
      subst e
      have h := HR.out
      rw [List.take_length] at h
      have HF := Lib.hid h
      clear h
      go_wp2
      go_ret
      refine ⟨_, rfl, ?_, bstep HB.out HX.out⟩
      have h := HF.out.mono (base' := w.heap.size) HB.out.size
      rw [List.take_length]
      exact h
def treeAtK (lo : List Int) (ts : List NodeD) (p q : Int) : Option KeyD :=
  if h : 0 ≤ whereK lo (spotI p q) ∧ (whereK lo (spotI p q)).toNat < ts.length then nodeAtK (ts[(whereK lo (spotI p q)).toNat]'h.2) p q else none
set_option maxHeartbeats 2000000 in
theorem specTreeAt_any (vl vn : Value) (lo : List Int) (ts : List NodeD) (p q : Int) (w : World) (hv : RdT w w.heap.size vl vn lo ts) (hs : SmallT lo ts) :
    Calls Tryz.prog 128 #[.agg #[vl, vn], .int .i64 p, .int .i64 q] w (SaysFind w (treeAtK lo ts p q)) := by
  obtain ⟨A, c, A', c', rfl, rfl⟩ := hv.shape
  obtain ⟨q0, q1⟩ := al2 w (.cells #[.slice A lo.length c, .slice A' ts.length c'] 36) (.cells #[.int .i64 0, .int .i64 0, .int .i64 0, .int .i64 0, .int .i64 0] 58)
  have hb := bal2 w (.cells #[.slice A lo.length c, .slice A' ts.length c'] 36) (.cells #[.int .i64 0, .int .i64 0, .int .i64 0, .int .i64 0, .int .i64 0] 58)
  have HV := Lib.hid (hv.on hb)
  have HB := Lib.hid hb
  have Q0 := Lib.hid q0
  have Q1 := Lib.hid q1
  have HW := Lib.hid specWhereIn_any
  have HN := Lib.hid specNodeAt_any
  unfold SaysFind KeyD.v keyV at HN
  unfold SaysFind KeyD.v keyV
  have HT : Hid (∀ i, whereK lo (spotI p q) = i → treeAtK lo ts p q = if h : 0 ≤ i ∧ i.toNat < ts.length then nodeAtK (ts[i.toNat]'h.2) p q else none) := Lib.hid (fun i h => by subst h; rfl)
  generalize treeAtK lo ts p q = F at *
  have hn1 := hs.1
  have hn2 := hs.2.1
  have HS := Lib.hid hs
  have hwl := whereK_le lo (spotI p q)
  obtain ⟨i, hi⟩ : ∃ i, whereK lo (spotI p q) = i := ⟨_, rfl⟩
  rw [hi] at hwl
  have HT2 := Lib.hid (HT.out i hi)
  have HI := Lib.hid hi
  clear hv hb q0 q1 hs HT hi
  go_enter Tryz.func128, Tryz.ntmps128
  go_upto_region 1 with (fail)
  generalize (w.alloc (.cells #[.slice A lo.length c, .slice A' ts.length c'] 36)).alloc (.cells #[.int .i64 0, .int .i64 0, .int .i64 0, .int .i64 0, .int .i64 0] 58) = W at *
  obtain ⟨x0, x1, x2⟩ := box2 Q0.out
  go_wp2_with fail
  refine (HW.out _ _ lo ts p q _ HV.out (by omega)).mono ?_
  rintro e w1 ⟨rfl, b1⟩
  rw [HI.out]
  replace HV := Lib.hid (HV.out.on b1)
  replace Q0 := Lib.hid (box_on Q0.out b1)
  replace Q1 := Lib.hid (box_on Q1.out b1)
  replace HB := Lib.hid (bstep HB.out b1)
  clear x0 x1 x2 b1
  obtain ⟨x0, x1, x2⟩ := box2 Q0.out
  obtain ⟨y0, y1, y2, y3, y4, y5⟩ := box5 Q1.out
  go_wp2_with fail
  refine (l1In_any i 0 ((ts.length : Int) - 1) _).mono ?_
  rintro e w2 ⟨rfl, rfl⟩
  by_cases hin : 0 ≤ i ∧ i.toNat < ts.length
  · obtain ⟨k, rfl⟩ := Int.eq_ofNat_of_zero_le hin.1
    have hlt : k < ts.length := by have := hin.2; omega
    have d1 : (decide ((0 : Int) ≤ (k : Int)) && decide ((k : Int) ≤ (ts.length : Int) - 1)) = true := by simp; omega
    rw [d1]
    have hF := HT2.out
    rw [dif_pos hin] at hF
    obtain ⟨b, off, rfl, hbb, hc⟩ := HV.out.2.node hlt
    obtain ⟨A1, e1, c1, _, _, r1⟩ := hc k hlt
    have R1 := Lib.hid r1
    have HSk := Lib.hid (HS.out.at hlt)
    have HF : Hid (F = nodeAtK ts[k] p q) := Lib.hid hF
    have i1 : (k : Int) < (ts.length : Int) := by omega
    have i2 : (0 : Int) ≤ (k : Int) := by omega
    clear hc r1 hF d1 HT2 hin hwl
    go_wp2_with fail
    refine (HN.out _ ts[k] p q _ R1.out HSk.out).mono ?_
    rintro e w3 ⟨rfl, b3⟩
    rw [← HF.out]
    replace HB := Lib.hid (bstep HB.out b3)
    replace Q1 := Lib.hid (box_on Q1.out b3)
    clear x0 x1 x2 y0 y1 y2 y3 y4 y5 b3 c1
    obtain ⟨y0, y1, y2, y3, y4, y5⟩ := box5 Q1.out
    go_wp2
    refine bodyPost_ret (v := .tuple #[(F.getD zK).v, .bool F.isSome]) (by simp [results, Tryz.results128, go_sem, keyV, KeyD.v, *]) rfl ⟨rfl, ?_⟩
    exact b5' HB.out (by omega)
  · have d1 : (decide ((0 : Int) ≤ i) && decide (i ≤ (ts.length : Int) - 1)) = false := by
      rcases Int.lt_or_le i 0 with h | h
      · rw [decide_eq_false (by omega)]; rfl
      · rw [decide_eq_false (show ¬ i ≤ (ts.length : Int) - 1 by omega), Bool.and_false]
    rw [d1]
    have hF := HT2.out
    rw [dif_neg hin] at hF
    clear d1 hin HT2
    go_wp2
    refine bodyPost_ret (v := .tuple #[(F.getD zK).v, .bool F.isSome]) (by simp [results, Tryz.results128, go_sem, keyV, KeyD.v, hF, zK, *]) rfl ⟨rfl, ?_⟩
    exact b5' HB.out (by omega)
theorem hasNode_any (vl vn : Value) (lo : List Int) (ts : List NodeD) (i : Int) (w : World) (hv : RdT w w.heap.size vl vn lo ts) (hn : ts.length ≤ 1100000) :
    Calls Tryz.prog 209 #[.agg #[vl, vn], .int .i64 i] w (SaysBool w (decide (0 ≤ i) && decide (i < (ts.length : Int)))) := by
  obtain ⟨A, c, A', c', rfl, rfl⟩ := hv.shape
  have HB := Lib.hid (bal1 w (.cells #[.slice A lo.length c, .slice A' ts.length c'] 36))
  clear hv
  by_cases h1 : 0 ≤ i
  · by_cases h2 : i < (ts.length : Int)
    · rw [decide_eq_true h1, decide_eq_true h2]
      go_enter Tryz.func209, Tryz.ntmps209
      go_wp2
      go_ret
      exact ⟨rfl, HB.out⟩
    · have h3 : (ts.length : Int) ≤ i := by omega
      rw [decide_eq_true h1, decide_eq_false h2]
      go_enter Tryz.func209, Tryz.ntmps209
      go_wp2
      go_ret
      exact ⟨rfl, HB.out⟩
  · have h3 : i < 0 := by omega
    rw [decide_eq_false h1, Bool.false_and]
    go_enter Tryz.func209, Tryz.ntmps209
    go_wp2
    go_ret
    exact ⟨rfl, HB.out⟩
set_option maxHeartbeats 2000000 in
theorem implTreeAt_any (vl vn : Value) (lo : List Int) (ts : List NodeD) (p q : Int) (w : World) (hv : RdT w w.heap.size vl vn lo ts) (hs : SmallT lo ts) :
    Calls Tryz.prog 166 #[.agg #[vl, vn], .int .i64 p, .int .i64 q] w (SaysFind w (treeAtK lo ts p q)) := by
  obtain ⟨A, c, A', c', rfl, rfl⟩ := hv.shape
  obtain ⟨q0, q1⟩ := al2 w (.cells #[.slice A lo.length c, .slice A' ts.length c'] 36) (.cells #[.int .i64 0, .int .i64 0, .int .i64 0, .int .i64 0, .int .i64 0] 58)
  have hb := bal2 w (.cells #[.slice A lo.length c, .slice A' ts.length c'] 36) (.cells #[.int .i64 0, .int .i64 0, .int .i64 0, .int .i64 0, .int .i64 0] 58)
  have HV := Lib.hid (hv.on hb)
  have HB := Lib.hid hb
  have Q0 := Lib.hid q0
  have Q1 := Lib.hid q1
  have HW := Lib.hid implWhereIn_any
  have HN := Lib.hid implNodeAt_any
  unfold SaysFind KeyD.v keyV at HN
  unfold SaysFind KeyD.v keyV
  have HT : Hid (∀ i, whereK lo (spotI p q) = i → treeAtK lo ts p q = if h : 0 ≤ i ∧ i.toNat < ts.length then nodeAtK (ts[i.toNat]'h.2) p q else none) := Lib.hid (fun i h => by subst h; rfl)
  generalize treeAtK lo ts p q = F at *
  have hn1 := hs.1
  have hn2 := hs.2.1
  have HS := Lib.hid hs
  have hwl := whereK_le lo (spotI p q)
  obtain ⟨i, hi⟩ : ∃ i, whereK lo (spotI p q) = i := ⟨_, rfl⟩
  rw [hi] at hwl
  have HT2 := Lib.hid (HT.out i hi)
  have HI := Lib.hid hi
  clear hv hb q0 q1 hs HT hi
  go_enter Tryz.func166, Tryz.ntmps166
  go_upto_region 1 with (fail)
  generalize (w.alloc (.cells #[.slice A lo.length c, .slice A' ts.length c'] 36)).alloc (.cells #[.int .i64 0, .int .i64 0, .int .i64 0, .int .i64 0, .int .i64 0] 58) = W at *
  obtain ⟨x0, x1, x2⟩ := box2 Q0.out
  go_wp2_with fail
  refine (HW.out _ _ lo ts p q _ HV.out (by omega)).mono ?_
  rintro e w1 ⟨rfl, b1⟩
  rw [HI.out]
  replace HV := Lib.hid (HV.out.on b1)
  replace Q0 := Lib.hid (box_on Q0.out b1)
  replace Q1 := Lib.hid (box_on Q1.out b1)
  replace HB := Lib.hid (bstep HB.out b1)
  clear x0 x1 x2 b1
  obtain ⟨x0, x1, x2⟩ := box2 Q0.out
  go_wp2_with fail
  refine (hasNode_any _ _ lo ts i _ HV.out (by omega)).mono ?_
  rintro e w2 ⟨rfl, b1⟩
  replace HV := Lib.hid (HV.out.on b1)
  replace Q0 := Lib.hid (box_on Q0.out b1)
  replace Q1 := Lib.hid (box_on Q1.out b1)
  replace HB := Lib.hid (bstep HB.out b1)
  clear x0 x1 x2 b1
  obtain ⟨x0, x1, x2⟩ := box2 Q0.out
  obtain ⟨y0, y1, y2, y3, y4, y5⟩ := box5 Q1.out
  by_cases hin : 0 ≤ i ∧ i.toNat < ts.length
  · obtain ⟨k, rfl⟩ := Int.eq_ofNat_of_zero_le hin.1
    have hlt : k < ts.length := by have := hin.2; omega
    have d1 : (decide ((0 : Int) ≤ (k : Int)) && decide ((k : Int) < (ts.length : Int))) = true := by simp; omega
    rw [d1]
    have hF := HT2.out
    rw [dif_pos hin] at hF
    obtain ⟨b, off, rfl, hbb, hc⟩ := HV.out.2.node hlt
    obtain ⟨A1, e1, c1, _, _, r1⟩ := hc k hlt
    have R1 := Lib.hid r1
    have HSk := Lib.hid (HS.out.at hlt)
    have HF : Hid (F = nodeAtK ts[k] p q) := Lib.hid hF
    have i1 : (k : Int) < (ts.length : Int) := by omega
    have i2 : (0 : Int) ≤ (k : Int) := by omega
    clear hc r1 hF d1 HT2 hin hwl
    go_wp2_with fail
    refine (HN.out _ ts[k] p q _ R1.out HSk.out).mono ?_
    rintro e w3 ⟨rfl, b3⟩
    rw [← HF.out]
    replace HB := Lib.hid (bstep HB.out b3)
    replace Q1 := Lib.hid (box_on Q1.out b3)
    clear x0 x1 x2 y0 y1 y2 y3 y4 y5 b3 c1
    obtain ⟨y0, y1, y2, y3, y4, y5⟩ := box5 Q1.out
    go_wp2
    refine bodyPost_ret (v := .tuple #[(F.getD zK).v, .bool F.isSome]) (by simp [results, Tryz.results166, go_sem, keyV, KeyD.v, *]) rfl ⟨rfl, ?_⟩
    exact b5' HB.out (by omega)
  · have d1 : (decide ((0 : Int) ≤ i) && decide (i < (ts.length : Int))) = false := by
      rcases Int.lt_or_le i 0 with h | h
      · rw [decide_eq_false (by omega)]; rfl
      · rw [decide_eq_false (show ¬ i < (ts.length : Int) by omega), Bool.and_false]
    rw [d1]
    have hF := HT2.out
    rw [dif_neg hin] at hF
    clear d1 hin HT2
    go_wp2
    refine bodyPost_ret (v := .tuple #[(F.getD zK).v, .bool F.isSome]) (by simp [results, Tryz.results166, go_sem, keyV, KeyD.v, hF, zK, *]) rfl ⟨rfl, ?_⟩
    exact b5' HB.out (by omega)
end Go.Proofs.YtpfepcjbhchpcaaGreat
namespace Go.Proofs.YtpfepcjbhchpcaaGreat
open Go.RowKit
set_option maxRecDepth 100000
set_option linter.unusedSimpArgs false
set_option linter.unusedVariables false

def InP (lo : List Int) (i : Nat) (x : Int) : Prop := lo.getD i 0 ≤ x ∧ (i + 1 < lo.length → x < lo.getD (i + 1) 0)
instance (lo : List Int) (i : Nat) (x : Int) : Decidable (InP lo i x) := inferInstanceAs (Decidable (_ ∧ _))
def FitP (lo : List Int) (i : Nat) (ns : NodeD) : Prop := nodeOkB ns = true ∧ (i = 0 ∨ 0 < (nodeKeysK ns).length) ∧ ∀ l ∈ ns, ∀ x ∈ l, InP lo i (spotI x.a x.b)
instance (lo : List Int) (i : Nat) (ns : NodeD) : Decidable (FitP lo i ns) := inferInstanceAs (Decidable (_ ∧ _ ∧ _))
def fitB (lo : List Int) (i : Nat) (ns : NodeD) : Bool := decide (FitP lo i ns)
def RiseP (lo : List Int) : Prop := ∀ i, i < lo.length - 1 → lo.getD i 0 < lo.getD (i + 1) 0
instance (lo : List Int) : Decidable (RiseP lo) := inferInstanceAs (Decidable (∀ i, i < lo.length - 1 → _))
def TreeP (lo : List Int) (ts : List NodeD) : Prop := 1 ≤ ts.length ∧ ts.length ≤ 20 ∧ lo.length = ts.length ∧ lo.getD 0 0 = 0 ∧ RiseP lo ∧ (∀ i, i < ts.length → fitB lo i (ts.getD i []) = true) ∧ (treeKeysK ts).length ≤ 60
instance (lo : List Int) (ts : List NodeD) : Decidable (TreeP lo ts) := inferInstanceAs (Decidable (_ ∧ _ ∧ _ ∧ _ ∧ _ ∧ (∀ i, i < ts.length → _) ∧ _))
def treeOkB (lo : List Int) (ts : List NodeD) : Bool := decide (TreeP lo ts)
theorem getD_at {lo : List Int} {i : Nat} (h : i < lo.length) : lo.getD i 0 = lo[i] := by simp [List.getD_eq_getElem?_getD, h]
theorem getD_node {ts : List NodeD} {i : Nat} (h : i < ts.length) : ts.getD i [] = ts[i] := by simp [List.getD_eq_getElem?_getD, h]
theorem fit_bad {lo : List Int} {i : Nat} {ns : NodeD} {k j : Nat} (hk : k < ns.length) (hj : j < (ns[k]).length) (h : ¬ InP lo i (spotI ((ns[k])[j]).a ((ns[k])[j]).b)) : fitB lo i ns = false :=
  decide_eq_false (fun hf => h (hf.2.2 _ (List.getElem_mem hk) _ (List.getElem_mem hj)))
theorem all_snoc {P : KeyD → Prop} {l : List KeyD} {j : Nat} (hj : j < l.length) (h : ∀ x ∈ l.take j, P x) (h2 : P l[j]) : ∀ x ∈ l.take (j + 1), P x := by
  rw [List.take_succ_eq_append_getElem hj]
  intro x hx
  rcases List.mem_append.1 hx with hx | hx
  · exact h x hx
  · simp at hx; subst hx; exact h2
theorem alls_snoc {P : KeyD → Prop} {ns : NodeD} {k : Nat} (hk : k < ns.length) (h : ∀ l ∈ ns.take k, ∀ x ∈ l, P x) (h2 : ∀ x ∈ ns[k], P x) : ∀ l ∈ ns.take (k + 1), ∀ x ∈ l, P x := by
  rw [List.take_succ_eq_append_getElem hk]
  intro l hl
  rcases List.mem_append.1 hl with hl | hl
  · exact h l hl
  · simp at hl; subst hl; exact h2
theorem l6Spot_any (x : KeyD) (w : World) : Calls Tryz.prog 97 #[x.v] w (SaysInt w (spotI x.a x.b)) := by
  have HP := Lib.hid (specSpotOf_any x.a x.b)
  have HB := Lib.hid (bal1 w (.cells #[.int .i64 x.a, .int .i64 x.b, .int .i64 x.c, .int .i64 x.d, .int .i64 x.e] 58))
  generalize spotI x.a x.b = s at *
  unfold KeyD.v keyV
  go_enter Tryz.func97, Tryz.ntmps97
  go_wp2_with fail
  refine (HP.out _).mono ?_
  rintro e w1 ⟨rfl, rfl⟩
  go_wp2
  go_ret
  exact ⟨rfl, HB.out⟩
set_option maxHeartbeats 8000000 in
theorem l6Node_any (vl vn : Value) (lo : List Int) (ts : List NodeD) (i : Nat) (w : World) (hv : RdT w w.heap.size vl vn lo ts) (hi : i < ts.length) (hiL : i < lo.length) (hn : ts.length ≤ 1048576) (hm : lo.length ≤ 1048576) (hs : sumT ts ≤ 1048576) :
    Calls Tryz.prog 119 #[.agg #[vl, vn], .int .i64 (i : Int)] w (SaysBool w (fitB lo i ts[i])) := by
  obtain ⟨A, c, B, d, rfl, rfl⟩ := hv.shape
  have HVL := Lib.hid hv.1
  obtain ⟨b0, off0, rfl, _, hc0⟩ := hv.2.node hi
  obtain ⟨A1, d1, c1, _, _, r1⟩ := hc0 i hi
  have HS := Lib.hid (small_at (by omega) hi)
  have hsm := sumT_mem (List.getElem_mem hi)
  have i3 : (i : Int) < (ts.length : Int) := by omega
  have i4 : (0 : Int) ≤ (i : Int) := by omega
  have i5 : (i : Int) < (lo.length : Int) := by omega
  generalize ts[i] = ns at *
  have hb2 := bal2 w (.cells #[.slice A lo.length c, .slice (some ⟨b0, off0, none⟩) ts.length d] 36) (.cells #[.slice A1 ns.length d1] 97)
  obtain ⟨q0, q1⟩ := al2 w (.cells #[.slice A lo.length c, .slice (some ⟨b0, off0, none⟩) ts.length d] 36) (.cells #[.slice A1 ns.length d1] 97)
  have HV2 := Lib.hid (r1.on hb2)
  have HB := Lib.hid hb2
  have Q0 := Lib.hid q0
  have Q1 := Lib.hid q1
  have c1' := (bcell (bal1 w (.cells #[.slice A lo.length c, .slice (some ⟨b0, off0, none⟩) ts.length d] 36))).1 b0 (off0 + i) (by assumption)
  rw [c1] at c1'
  clear hv hc0 r1 hb2 q0 q1
  go_enter Tryz.func119, Tryz.ntmps119
  go_upto_region 2 with (fail)
  clear c1 c1'
  generalize (w.alloc (.cells #[.slice A lo.length c, .slice (some ⟨b0, off0, none⟩) ts.length d] 36)).alloc (.cells #[.slice A1 ns.length d1] 97) = W at *
  obtain ⟨y0, y1⟩ := box1N Q1.out
  go_wp2_with fail
  refine (specNodeOk_any _ ns _ HV2.out HS.out).mono ?_
  rintro e W1 ⟨rfl, b1⟩
  have HVN := Lib.hid (HV2.out.on b1)
  replace Q0 := Lib.hid (box_on Q0.out b1)
  replace Q1 := Lib.hid (box_on Q1.out b1)
  have HB1 := Lib.hid (bstep HB.out b1)
  clear y0 y1 b1
  obtain ⟨x0, x1, x2⟩ := box2 Q0.out
  obtain ⟨y0, y1⟩ := box1N Q1.out
  cases hok : nodeOkB ns
  · have HF : Hid (fitB lo i ns = false) := Lib.hid (decide_eq_false (fun h => by have := h.1; rw [hok] at this; cases this))
    go_wp2
    go_ret
    exact ⟨ret_boolB HF.out.symm, HB1.out⟩
  · have HOK := Lib.hid hok
    clear hok
    by_cases hi0 : i = 0
    · have z0 : ¬ (0 : Int) < (i : Int) := by omega
      have z1 : (i : Int) ≤ 0 := by omega
      have HNE : Hid (i = 0 ∨ 0 < (nodeKeysK ns).length) := Lib.hid (.inl hi0)
      clear hi0 HV2 HB
      go_wp2
      go_loopw [6] (fun q wr => ∃ k : Nat, k ≤ ns.length ∧ q = .int .i64 k ∧ Hid (∀ l ∈ ns.take k, ∀ x ∈ l, InP lo i (spotI x.a x.b)) ∧ Hid (Below W1.heap.size W1 wr)) (fun q _ => ns.length - (intOf q).toNat)
      case atStart => exact ⟨0, Nat.zero_le _, rfl, Lib.hid (fun l hl => by simp at hl), Lib.hid (Below.refl _ _)⟩
      case round =>
        clear x0 x1 x2 y0 y1
        obtain ⟨k, hk, rfl, HI, HX⟩ := hrel
        obtain ⟨x0, x1, x2⟩ := box2 (box_on Q0.out HX.out)
        obtain ⟨y0, y1⟩ := box1N (box_on Q1.out HX.out)
        by_cases hlt : k < ns.length
        · have hlk := HS.out.at hlt
          have i1 : (k : Int) < (ns.length : Int) := by omega
          have i2 : (0 : Int) ≤ (k : Int) := by omega
          go_wp2
          go_loopw [7] (fun q wr => ∃ j : Nat, j ≤ (ns[k]).length ∧ q = .int .i64 j ∧ Hid (∀ x ∈ (ns[k]).take j, InP lo i (spotI x.a x.b)) ∧ Hid (Below W1.heap.size W1 wr)) (fun q _ => (ns[k]).length - (intOf q).toNat)
          case atStart => exact ⟨0, Nat.zero_le _, rfl, Lib.hid (fun l hl => by simp at hl), HX⟩
          case round =>
            clear x0 x1 x2 y0 y1 HX
            obtain ⟨j, hj, rfl, HJ, HX⟩ := hrel
            obtain ⟨x0, x1, x2⟩ := box2 (box_on Q0.out HX.out)
            obtain ⟨y0, y1⟩ := box1N (box_on Q1.out HX.out)
            obtain ⟨b, off, hA1, hbb, hc⟩ := (HVN.out.on HX.out).set hlt
            subst hA1
            obtain ⟨A2, d2, c1, _, _, r1⟩ := hc k hlt
            by_cases hlj : j < (ns[k]).length
            · obtain ⟨b3, off3, rfl, hbb3, hc3⟩ := r1.keys hlj
              obtain ⟨e0, e1, e2, e3, e4⟩ := hc3 j hlj
              have j1 : (j : Int) < ((ns[k]).length : Int) := by omega
              have j2 : (0 : Int) ≤ (j : Int) := by omega
              have HBAD := Lib.hid (fun h => fit_bad (lo := lo) (i := i) hlt hlj h)
              have HSN := Lib.hid (all_snoc (P := fun x => InP lo i (spotI x.a x.b)) hlj HJ.out)
              obtain ⟨s, hs⟩ : ∃ s, spotI ((ns[k])[j]).a ((ns[k])[j]).b = s := ⟨_, rfl⟩
              have HSP := Lib.hid (l6Spot_any (ns[k])[j])
              unfold KeyD.v keyV at HSP
              rw [hs] at HBAD HSN HSP
              clear hc hc3 r1 hs
              go_wp2_with fail
              refine (HSP.out _).mono ?_
              rintro e w5 ⟨rfl, b5⟩
              have HX5 := Lib.hid (bstep HX.out b5)
              clear x0 x1 x2 y0 y1 b5 c1 e0 e1 e2 e3 e4
              obtain ⟨x0, x1, x2⟩ := box2 (box_on Q0.out HX5.out)
              obtain ⟨b6, off6, hA6, hbb6, hc6⟩ := (HVL.out.on (bstep HB1.out HX5.out)).int hiL
              subst hA6
              have f1 := hc6 i hiL
              unfold iV at f1
              have g1 := getD_at hiL
              by_cases p1 : lo[i] ≤ s
              · by_cases p2 : i + 1 < lo.length
                · have f2 := hc6 (i + 1) p2
                  unfold iV at f2
                  have g2 := getD_at p2
                  have k1 : (i : Int) + 1 < (lo.length : Int) := by omega
                  have k2 : ((i : Int) + 1).toNat = i + 1 := by omega
                  have k3 : (0 : Int) ≤ (i : Int) + 1 := by omega
                  by_cases p3 : s < lo[i + 1]
                  · have HIN : Hid (InP lo i s) := Lib.hid ⟨by rw [g1]; exact p1, fun _ => by rw [g2]; exact p3⟩
                    clear hc6 g1 g2
                    go_wp2
                    go_roundw
                    case rel => exact ⟨j + 1, by omega, by go_num, Lib.hid (HSN.out HIN.out), HX5⟩
                    case measure => simp [intOf]; omega
                  · have p4 : lo[i + 1] ≤ s := by omega
                    have HN : Hid (¬ InP lo i s) := Lib.hid (fun h => by have := h.2 p2; rw [g2] at this; omega)
                    clear hc6 g1 g2 p3
                    go_wp2
                    go_ret
                    exact ⟨ret_boolB (HBAD.out HN.out).symm, bstep HB1.out HX5.out⟩
                · have k1 : ¬ (i : Int) + 1 < (lo.length : Int) := by omega
                  have k4 : (lo.length : Int) ≤ (i : Int) + 1 := by omega
                  have HIN : Hid (InP lo i s) := Lib.hid ⟨by rw [g1]; exact p1, fun h => absurd h p2⟩
                  clear hc6 g1 p2
                  go_wp2
                  go_roundw
                  case rel => exact ⟨j + 1, by omega, by go_num, Lib.hid (HSN.out HIN.out), HX5⟩
                  case measure => simp [intOf]; omega
              · have p4 : s < lo[i] := by omega
                have HN : Hid (¬ InP lo i s) := Lib.hid (fun h => by have := h.1; rw [g1] at this; omega)
                clear hc6 g1 p1
                go_wp2
                go_ret
                exact ⟨ret_boolB (HBAD.out HN.out).symm, bstep HB1.out HX5.out⟩
            · have e : j = (ns[k]).length := by omega
              subst e
              have h := HJ.out
              rw [List.take_length] at h
              have HSN := Lib.hid (alls_snoc (P := fun x => InP lo i (spotI x.a x.b)) hlt HI.out h)
              clear hc r1 h
              go_wp2
              go_roundw
              case rel => exact ⟨k + 1, by omega, by go_num, HSN, HX⟩
              case measure => simp [intOf]; omega
        · have e : k = ns.length := by omega
          subst e
          have h := HI.out
          rw [List.take_length] at h
          have HF := Lib.hid h
          clear h
          go_wp2
          go_ret
          exact ⟨ret_boolB (by symm; exact decide_eq_true ⟨HOK.out, HNE.out, HF.out⟩), bstep HB1.out HX.out⟩
    · have z0 : (0 : Int) < (i : Int) := by omega
      clear HB
      go_wp2_with fail
      refine (specNodeKeys_any _ ns _ HVN.out (by omega) (by omega)).mono ?_
      clear x0 x1 x2 y0 y1
      rintro e w2 ⟨v2, rfl, o2, b1⟩
      obtain ⟨A2, c2, rfl, _, _⟩ := o2.shape
      replace HVN := Lib.hid (HVN.out.on b1)
      replace Q0 := Lib.hid (box_on Q0.out b1)
      replace Q1 := Lib.hid (box_on Q1.out b1)
      replace HB1 := Lib.hid (bstep HB1.out b1)
      clear o2 b1 HV2
      obtain ⟨W1, rfl⟩ : ∃ W1, W1 = w2 := ⟨_, rfl⟩
      obtain ⟨x0, x1, x2⟩ := box2 Q0.out
      obtain ⟨y0, y1⟩ := box1N Q1.out
      by_cases hke : (nodeKeysK ns).length = 0
      · have hz : (((nodeKeysK ns).length : Int) == 0) = true := by simp [hke]
        have HF : Hid (fitB lo i ns = false) := Lib.hid (decide_eq_false (fun h => by have := h.2.1; omega))
        clear hke
        go_wp2
        go_ret
        exact ⟨ret_boolB HF.out.symm, HB1.out⟩
      · have hz : (((nodeKeysK ns).length : Int) == 0) = false := by simp; simpa using hke
        have HNE : Hid (i = 0 ∨ 0 < (nodeKeysK ns).length) := Lib.hid (.inr (by omega))
        clear hke
        go_wp2
        go_loopw [6] (fun q wr => ∃ k : Nat, k ≤ ns.length ∧ q = .int .i64 k ∧ Hid (∀ l ∈ ns.take k, ∀ x ∈ l, InP lo i (spotI x.a x.b)) ∧ Hid (Below W1.heap.size W1 wr)) (fun q _ => ns.length - (intOf q).toNat)
        case atStart => exact ⟨0, Nat.zero_le _, rfl, Lib.hid (fun l hl => by simp at hl), Lib.hid (Below.refl _ _)⟩
        case round =>
          clear x0 x1 x2 y0 y1
          obtain ⟨k, hk, rfl, HI, HX⟩ := hrel
          obtain ⟨x0, x1, x2⟩ := box2 (box_on Q0.out HX.out)
          obtain ⟨y0, y1⟩ := box1N (box_on Q1.out HX.out)
          by_cases hlt : k < ns.length
          · have hlk := HS.out.at hlt
            have i1 : (k : Int) < (ns.length : Int) := by omega
            have i2 : (0 : Int) ≤ (k : Int) := by omega
            go_wp2
            go_loopw [7] (fun q wr => ∃ j : Nat, j ≤ (ns[k]).length ∧ q = .int .i64 j ∧ Hid (∀ x ∈ (ns[k]).take j, InP lo i (spotI x.a x.b)) ∧ Hid (Below W1.heap.size W1 wr)) (fun q _ => (ns[k]).length - (intOf q).toNat)
            case atStart => exact ⟨0, Nat.zero_le _, rfl, Lib.hid (fun l hl => by simp at hl), HX⟩
            case round =>
              clear x0 x1 x2 y0 y1 HX
              obtain ⟨j, hj, rfl, HJ, HX⟩ := hrel
              obtain ⟨x0, x1, x2⟩ := box2 (box_on Q0.out HX.out)
              obtain ⟨y0, y1⟩ := box1N (box_on Q1.out HX.out)
              obtain ⟨b, off, hA1, hbb, hc⟩ := (HVN.out.on HX.out).set hlt
              subst hA1
              obtain ⟨A2, d2, c1, _, _, r1⟩ := hc k hlt
              by_cases hlj : j < (ns[k]).length
              · obtain ⟨b3, off3, rfl, hbb3, hc3⟩ := r1.keys hlj
                obtain ⟨e0, e1, e2, e3, e4⟩ := hc3 j hlj
                have j1 : (j : Int) < ((ns[k]).length : Int) := by omega
                have j2 : (0 : Int) ≤ (j : Int) := by omega
                have HBAD := Lib.hid (fun h => fit_bad (lo := lo) (i := i) hlt hlj h)
                have HSN := Lib.hid (all_snoc (P := fun x => InP lo i (spotI x.a x.b)) hlj HJ.out)
                obtain ⟨s, hs⟩ : ∃ s, spotI ((ns[k])[j]).a ((ns[k])[j]).b = s := ⟨_, rfl⟩
                have HSP := Lib.hid (l6Spot_any (ns[k])[j])
                unfold KeyD.v keyV at HSP
                rw [hs] at HBAD HSN HSP
                clear hc hc3 r1 hs
                go_wp2_with fail
                refine (HSP.out _).mono ?_
                rintro e w5 ⟨rfl, b5⟩
                have HX5 := Lib.hid (bstep HX.out b5)
                clear x0 x1 x2 y0 y1 b5 c1 e0 e1 e2 e3 e4
                obtain ⟨x0, x1, x2⟩ := box2 (box_on Q0.out HX5.out)
                obtain ⟨b6, off6, hA6, hbb6, hc6⟩ := (HVL.out.on (bstep HB1.out HX5.out)).int hiL
                subst hA6
                have f1 := hc6 i hiL
                unfold iV at f1
                have g1 := getD_at hiL
                by_cases p1 : lo[i] ≤ s
                · by_cases p2 : i + 1 < lo.length
                  · have f2 := hc6 (i + 1) p2
                    unfold iV at f2
                    have g2 := getD_at p2
                    have k1 : (i : Int) + 1 < (lo.length : Int) := by omega
                    have k2 : ((i : Int) + 1).toNat = i + 1 := by omega
                    have k3 : (0 : Int) ≤ (i : Int) + 1 := by omega
                    by_cases p3 : s < lo[i + 1]
                    · have HIN : Hid (InP lo i s) := Lib.hid ⟨by rw [g1]; exact p1, fun _ => by rw [g2]; exact p3⟩
                      clear hc6 g1 g2
                      go_wp2
                      go_roundw
                      case rel => exact ⟨j + 1, by omega, by go_num, Lib.hid (HSN.out HIN.out), HX5⟩
                      case measure => simp [intOf]; omega
                    · have p4 : lo[i + 1] ≤ s := by omega
                      have HN : Hid (¬ InP lo i s) := Lib.hid (fun h => by have := h.2 p2; rw [g2] at this; omega)
                      clear hc6 g1 g2 p3
                      go_wp2
                      go_ret
                      exact ⟨ret_boolB (HBAD.out HN.out).symm, bstep HB1.out HX5.out⟩
                  · have k1 : ¬ (i : Int) + 1 < (lo.length : Int) := by omega
                    have k4 : (lo.length : Int) ≤ (i : Int) + 1 := by omega
                    have HIN : Hid (InP lo i s) := Lib.hid ⟨by rw [g1]; exact p1, fun h => absurd h p2⟩
                    clear hc6 g1 p2
                    go_wp2
                    go_roundw
                    case rel => exact ⟨j + 1, by omega, by go_num, Lib.hid (HSN.out HIN.out), HX5⟩
                    case measure => simp [intOf]; omega
                · have p4 : s < lo[i] := by omega
                  have HN : Hid (¬ InP lo i s) := Lib.hid (fun h => by have := h.1; rw [g1] at this; omega)
                  clear hc6 g1 p1
                  go_wp2
                  go_ret
                  exact ⟨ret_boolB (HBAD.out HN.out).symm, bstep HB1.out HX5.out⟩
              · have e : j = (ns[k]).length := by omega
                subst e
                have h := HJ.out
                rw [List.take_length] at h
                have HSN := Lib.hid (alls_snoc (P := fun x => InP lo i (spotI x.a x.b)) hlt HI.out h)
                clear hc r1 h
                go_wp2
                go_roundw
                case rel => exact ⟨k + 1, by omega, by go_num, HSN, HX⟩
                case measure => simp [intOf]; omega
          · have e : k = ns.length := by omega
            subst e
            have h := HI.out
            rw [List.take_length] at h
            have HF := Lib.hid h
            clear h
            go_wp2
            go_ret
            exact ⟨ret_boolB (by symm; exact decide_eq_true ⟨HOK.out, HNE.out, HF.out⟩), bstep HB1.out HX.out⟩
/-- A row of ints, laid down as cells. -/
def IntsIn (w : World) (b off : Nat) (lo : List Int) : Prop := b < w.heap.size ∧ ∀ k (hk : k < lo.length), w.cell? ⟨b, off + k, none⟩ = some (.int .i64 lo[k])
theorem IntsIn.on {w w' : World} {b off : Nat} {lo : List Int} (h : IntsIn w b off lo) (hb : Below w.heap.size w w') : IntsIn w' b off lo := ⟨Nat.lt_of_lt_of_le h.1 hb.size, fun k hk => (hb.cell (p := ⟨b, off + k, none⟩) h.1).trans (h.2 k hk)⟩
theorem IntsIn.cellI {w : World} {b off : Nat} {lo : List Int} (h : IntsIn w b off lo) {k : Nat} (hk : k < lo.length) : w.cell? ⟨b, off + k, none⟩ = some (.int .i64 lo[k]) := h.2 k hk
theorem tree_bad {lo : List Int} {ts : List NodeD} (h : ¬ TreeP lo ts) : treeOkB lo ts = false := decide_eq_false h
set_option maxHeartbeats 8000000 in
theorem specTreeOk_any (vl vn : Value) (lo : List Int) (ts : List NodeD) (w : World) (hv : RdT w w.heap.size vl vn lo ts) (hn : ts.length ≤ 1048576) (hm : lo.length ≤ 1048576) (hs : sumT ts ≤ 1048576) :
    Calls Tryz.prog 55 #[.agg #[vl, vn]] w (SaysBool w (treeOkB lo ts)) := by
  obtain ⟨A, c, B, d, rfl, rfl⟩ := hv.shape
  have HB := Lib.hid (bal1 w (.cells #[.slice A lo.length c, .slice B ts.length d] 36))
  have Q0 := Lib.hid (al1 w (.cells #[.slice A lo.length c, .slice B ts.length d] 36))
  have HV := Lib.hid (hv.on (bal1 w (.cells #[.slice A lo.length c, .slice B ts.length d] 36)))
  clear hv
  go_enter Tryz.func55, Tryz.ntmps55
  go_upto_region 1 with (fail)
  generalize w.alloc (.cells #[.slice A lo.length c, .slice B ts.length d] 36) = W at *
  obtain ⟨x0, x1, x2⟩ := box2 Q0.out
  go_wp2_with fail
  refine (l1In_any (ts.length : Int) 1 20 _).mono ?_
  rintro e w1 ⟨rfl, rfl⟩
  by_cases h1 : 1 ≤ ts.length ∧ ts.length ≤ 20
  · have d1 : (decide ((1 : Int) ≤ (ts.length : Int)) && decide ((ts.length : Int) ≤ 20)) = true := by simp; omega
    rw [d1]
    by_cases h2 : lo.length = ts.length
    · have d2 : ((lo.length : Int) != (ts.length : Int)) = false := by simp [h2]
      have h0 : 0 < lo.length := by omega
      obtain ⟨b, off, rfl, hbb, hc⟩ := HV.out.1.int h0
      have HLI : Hid (IntsIn W b off lo) := Lib.hid ⟨hbb, hc⟩
      have f0 := hc 0 h0
      unfold iV at f0
      rw [Nat.add_zero] at f0
      have i0 : (0 : Int) < (lo.length : Int) := by omega
      have g0 := getD_at h0
      by_cases h3 : lo[0] = 0
      · have d3 : (lo[0] != 0) = false := by simp [h3]
        have H3 : Hid (lo.getD 0 0 = 0) := Lib.hid (by rw [g0]; exact h3)
        have H12 := Lib.hid h1
        have H2 := Lib.hid h2
        have h2a := Nat.le_of_eq h2
        have h2b := Nat.le_of_eq h2.symm
        clear hc g0 h3 h1 d1
        go_wp2
        clear x0 x1 x2 f0 d2 d3 h2
        go_loopw [3] (fun q wr => ∃ k : Nat, k ≤ ts.length ∧ q = .int .i64 k ∧ Hid (∀ j, j < k → fitB lo j (ts.getD j []) = true) ∧ Hid (∀ j, j + 1 < k → lo.getD j 0 < lo.getD (j + 1) 0) ∧ Hid (Below W.heap.size W wr)) (fun q _ => ts.length - (intOf q).toNat)
        case atStart => exact ⟨0, Nat.zero_le _, rfl, Lib.hid (fun j h => by omega), Lib.hid (fun j h => by omega), Lib.hid (Below.refl _ _)⟩
        case round =>
          obtain ⟨k, hk, rfl, HI1, HI2, HX⟩ := hrel
          have QW := Lib.hid (box_on Q0.out HX.out)
          obtain ⟨x0, x1, x2⟩ := box2 QW.out
          by_cases hlt : k < ts.length
          · have HLO := Lib.hid (HLI.out.on HX.out)
            have HVV := Lib.hid (HV.out.on HX.out)
            have hkL : k < lo.length := by omega
            have i1 : (k : Int) < (ts.length : Int) := by omega
            have i2 : (0 : Int) ≤ (k : Int) := by omega
            have i3 : (k : Int) < (lo.length : Int) := by omega
            have gk := getD_at hkL
            by_cases hk0 : k = 0
            · have z0 : decide (0 < k) = false := decide_eq_false (by omega)
              have HR : Hid (∀ j, j + 1 < k + 1 → lo.getD j 0 < lo.getD (j + 1) 0) := Lib.hid (fun j h => by omega)
              clear hk0
              cases hfb : fitB lo k ts[k]
              · have HFB := Lib.hid hfb
                have HBAD : Hid (treeOkB lo ts = false) := Lib.hid (tree_bad (fun h => by have := h.2.2.2.2.2.1 k hlt; rw [getD_node hlt, hfb] at this; cases this))
                clear hfb
                go_wp2
                refine but_begin (f := 21) (S := fun V => Below wr.drew.heap.size wr.drew V) (by kernel_rfl) ?_
                refine but_take (f := 21) (i := 0) (v := ?vk0b0) rfl (by kernel_rfl) (by kernel_rfl) (by kernel_rfl) (by kernel_rfl) (by kernel_rfl) (fun _ _ _ h => h) (Or.inl ⟨(by rfl), ?hyk0b0⟩) (Below.refl _ _) ?restk0b0
                case hyk0b0 =>
                  intro W hW
                  go_simp
                  exact rfl
                simp only [List.getElem_toArray, List.getElem_cons_succ, List.getElem_cons_zero, Act.put, List.setIfInBounds_toArray, List.set_cons_zero, List.set_cons_succ]
                refine but_take (f := 21) (i := 1) (v := ?vk0b1) rfl (by kernel_rfl) (by kernel_rfl) (by kernel_rfl) (by kernel_rfl) (by kernel_rfl) (fun _ _ _ h => h) (Or.inl ⟨(by rfl), ?hyk0b1⟩) (Below.refl _ _) ?restk0b1
                case hyk0b1 =>
                  intro W hW
                  go_simp
                  exact rfl
                simp only [List.getElem_toArray, List.getElem_cons_succ, List.getElem_cons_zero, Act.put, List.setIfInBounds_toArray, List.set_cons_zero, List.set_cons_succ]
                refine but_take (f := 21) (i := 2) (v := ?vk0b2) rfl (by kernel_rfl) (by kernel_rfl) (by kernel_rfl) (by kernel_rfl) (by kernel_rfl) (fun _ _ _ h => h) (Or.inl ⟨(by rfl), ?hyk0b2⟩) (Below.refl _ _) ?restk0b2
                case hyk0b2 =>
                  intro W hW
                  go_simp
                  exact rfl
                simp only [List.getElem_toArray, List.getElem_cons_succ, List.getElem_cons_zero, Act.put, List.setIfInBounds_toArray, List.set_cons_zero, List.set_cons_succ]
                refine but_take (f := 21) (i := 3) (v := undef) rfl (by kernel_rfl) (by kernel_rfl) (by kernel_rfl) (by kernel_rfl) (by kernel_rfl) (fun _ _ _ h => h) (Or.inr ⟨((wanted_at rfl rfl rfl rfl).trans rfl), rfl⟩) (Below.refl _ _) ?_
                simp only [List.getElem_toArray, List.getElem_cons_succ, List.getElem_cons_zero, Act.put, List.setIfInBounds_toArray, List.set_cons_zero, List.set_cons_succ]
                refine but_take (f := 21) (i := 4) (v := undef) rfl (by kernel_rfl) (by kernel_rfl) (by kernel_rfl) (by kernel_rfl) (by kernel_rfl) (fun _ _ _ h => h) (Or.inr ⟨((wanted_at rfl rfl rfl rfl).trans rfl), rfl⟩) (Below.refl _ _) ?_
                simp only [List.getElem_toArray, List.getElem_cons_succ, List.getElem_cons_zero, Act.put, List.setIfInBounds_toArray, List.set_cons_zero, List.set_cons_succ]
                refine but_take (f := 21) (i := 5) (v := undef) rfl (by kernel_rfl) (by kernel_rfl) (by kernel_rfl) (by kernel_rfl) (by kernel_rfl) (fun _ _ _ h => h) (Or.inr ⟨((wanted_at rfl rfl rfl rfl).trans rfl), rfl⟩) (Below.refl _ _) ?_
                simp only [List.getElem_toArray, List.getElem_cons_succ, List.getElem_cons_zero, Act.put, List.setIfInBounds_toArray, List.set_cons_zero, List.set_cons_succ]
                refine but_take (f := 21) (i := 6) (v := undef) rfl (by kernel_rfl) (by kernel_rfl) (by kernel_rfl) (by kernel_rfl) (by kernel_rfl) (fun _ _ _ h => h) (Or.inr ⟨((wanted_at rfl rfl rfl rfl).trans rfl), rfl⟩) (Below.refl _ _) ?_
                simp only [List.getElem_toArray, List.getElem_cons_succ, List.getElem_cons_zero, Act.put, List.setIfInBounds_toArray, List.set_cons_zero, List.set_cons_succ]
                refine but_take (f := 21) (i := 7) (v := undef) rfl (by kernel_rfl) (by kernel_rfl) (by kernel_rfl) (by kernel_rfl) (by kernel_rfl) (fun _ _ _ h => h) (Or.inr ⟨((wanted_at rfl rfl rfl rfl).trans rfl), rfl⟩) (Below.refl _ _) ?_
                simp only [List.getElem_toArray, List.getElem_cons_succ, List.getElem_cons_zero, Act.put, List.setIfInBounds_toArray, List.set_cons_zero, List.set_cons_succ]
                refine but_take (f := 21) (i := 8) (v := undef) rfl (by kernel_rfl) (by kernel_rfl) (by kernel_rfl) (by kernel_rfl) (by kernel_rfl) (fun _ _ _ h => h) (Or.inr ⟨((wanted_at rfl rfl rfl rfl).trans rfl), rfl⟩) (Below.refl _ _) ?_
                simp only [List.getElem_toArray, List.getElem_cons_succ, List.getElem_cons_zero, Act.put, List.setIfInBounds_toArray, List.set_cons_zero, List.set_cons_succ]
                refine but_take (f := 21) (i := 9) (v := undef) rfl (by kernel_rfl) (by kernel_rfl) (by kernel_rfl) (by kernel_rfl) (by kernel_rfl) (fun _ _ _ h => h) (Or.inr ⟨((wanted_at rfl rfl rfl rfl).trans rfl), rfl⟩) (Below.refl _ _) ?_
                simp only [List.getElem_toArray, List.getElem_cons_succ, List.getElem_cons_zero, Act.put, List.setIfInBounds_toArray, List.set_cons_zero, List.set_cons_succ]
                refine but_take (f := 21) (i := 10) (v := undef) rfl (by kernel_rfl) (by kernel_rfl) (by kernel_rfl) (by kernel_rfl) (by kernel_rfl) (fun _ _ _ h => h) (Or.inr ⟨((wanted_at rfl rfl rfl rfl).trans rfl), rfl⟩) (Below.refl _ _) ?_
                simp only [List.getElem_toArray, List.getElem_cons_succ, List.getElem_cons_zero, Act.put, List.setIfInBounds_toArray, List.set_cons_zero, List.set_cons_succ]
                refine but_take (f := 21) (i := 11) (v := undef) rfl (by kernel_rfl) (by kernel_rfl) (by kernel_rfl) (by kernel_rfl) (by kernel_rfl) (fun _ _ _ h => h) (Or.inr ⟨((wanted_at rfl rfl rfl rfl).trans rfl), rfl⟩) (Below.refl _ _) ?_
                simp only [List.getElem_toArray, List.getElem_cons_succ, List.getElem_cons_zero, Act.put, List.setIfInBounds_toArray, List.set_cons_zero, List.set_cons_succ]
                refine but_take (f := 21) (i := 12) (v := undef) rfl (by kernel_rfl) (by kernel_rfl) (by kernel_rfl) (by kernel_rfl) (by kernel_rfl) (fun _ _ _ h => h) (Or.inr ⟨((wanted_at rfl rfl rfl rfl).trans rfl), rfl⟩) (Below.refl _ _) ?_
                simp only [List.getElem_toArray, List.getElem_cons_succ, List.getElem_cons_zero, Act.put, List.setIfInBounds_toArray, List.set_cons_zero, List.set_cons_succ]
                refine but_take (f := 21) (i := 13) (v := undef) rfl (by kernel_rfl) (by kernel_rfl) (by kernel_rfl) (by kernel_rfl) (by kernel_rfl) (fun _ _ _ h => h) (Or.inr ⟨((wanted_at rfl rfl rfl rfl).trans rfl), rfl⟩) (Below.refl _ _) ?_
                simp only [List.getElem_toArray, List.getElem_cons_succ, List.getElem_cons_zero, Act.put, List.setIfInBounds_toArray, List.set_cons_zero, List.set_cons_succ]
                refine but_take (f := 21) (i := 14) (v := undef) rfl (by kernel_rfl) (by kernel_rfl) (by kernel_rfl) (by kernel_rfl) (by kernel_rfl) (fun _ _ _ h => h) (Or.inr ⟨((wanted_at rfl rfl rfl rfl).trans rfl), rfl⟩) (Below.refl _ _) ?_
                simp only [List.getElem_toArray, List.getElem_cons_succ, List.getElem_cons_zero, Act.put, List.setIfInBounds_toArray, List.set_cons_zero, List.set_cons_succ]
                refine but_take (f := 21) (i := 15) (v := ?vk0b15) rfl (by kernel_rfl) (by kernel_rfl) (by kernel_rfl) (by kernel_rfl) (by kernel_rfl) (fun _ _ _ h => h) (Or.inl ⟨(by rfl), ?hyk0b15⟩) (Below.refl _ _) ?restk0b15
                case hyk0b15 =>
                  intro W hW
                  go_simp
                  exact rfl
                simp only [List.getElem_toArray, List.getElem_cons_succ, List.getElem_cons_zero, Act.put, List.setIfInBounds_toArray, List.set_cons_zero, List.set_cons_succ]
                refine but_take (f := 21) (i := 16) (v := ?vk0b16) rfl (by kernel_rfl) (by kernel_rfl) (by kernel_rfl) (by kernel_rfl) (by kernel_rfl) (fun _ _ _ h => h) (Or.inl ⟨(by rfl), ?hyk0b16⟩) (Below.refl _ _) ?restk0b16
                case hyk0b16 =>
                  intro W hW
                  go_simp
                  exact rfl
                simp only [List.getElem_toArray, List.getElem_cons_succ, List.getElem_cons_zero, Act.put, List.setIfInBounds_toArray, List.set_cons_zero, List.set_cons_succ]
                refine but_take (f := 21) (i := 17) (v := ?vk0b17) rfl (by kernel_rfl) (by kernel_rfl) (by kernel_rfl) (by kernel_rfl) (by kernel_rfl) (fun _ _ _ h => h) (Or.inl ⟨((wanted_at rfl rfl rfl rfl).trans rfl), ?hyk0b17⟩) (Below.refl _ _) ?restk0b17
                case hyk0b17 =>
                  intro W hW
                  have hb0 : Below wr.heap.size wr W := bstep (Below.drew1 _) hW
                  obtain ⟨x0, x1, x2⟩ := box2 (box_on QW.out hb0)
                  go_simp
                  exact rfl
                simp only [List.getElem_toArray, List.getElem_cons_succ, List.getElem_cons_zero, Act.put, List.setIfInBounds_toArray, List.set_cons_zero, List.set_cons_succ]
                refine but_take (f := 21) (i := 18) (v := ?vk0b18) rfl (by kernel_rfl) (by kernel_rfl) (by kernel_rfl) (by kernel_rfl) (by kernel_rfl) (fun _ _ _ h => h) (Or.inl ⟨((wanted_at rfl rfl rfl rfl).trans rfl), ?hyk0b18⟩) (Below.refl _ _) ?restk0b18
                case hyk0b18 =>
                  intro W hW
                  go_simp
                  exact rfl
                simp only [List.getElem_toArray, List.getElem_cons_succ, List.getElem_cons_zero, Act.put, List.setIfInBounds_toArray, List.set_cons_zero, List.set_cons_succ]
                refine but_run (i := 19) (by kernel_rfl) rfl ((wanted_at rfl rfl rfl rfl).trans rfl) ?_
                simp only [List.getElem_toArray, List.getElem_cons_succ, List.getElem_cons_zero]
                intro K HK
                go_wp2_with fail
                refine (l6Node_any _ _ lo ts k _ (HVV.out.on (bstep (Below.drew1 _) (Below.refl _ _))) hlt (by omega) (by omega) (by omega) (by omega)).mono ?_
                rintro r Vk0b1 ⟨rfl, hBk0b1⟩
                rw [HFB.out]
                have hSk0b1 := bstep (Below.refl _ _) hBk0b1
                go_wp2_with fail
                refine HK.out _ Vk0b1 (fun _ => hSk0b1) ?_
                clear HK
                refine but_take (f := 21) (i := 20) (v := ?vk0b20) rfl (by kernel_rfl) (by kernel_rfl) (by kernel_rfl) (by kernel_rfl) (by kernel_rfl) (fun _ _ _ h => h) (Or.inl ⟨((wanted_at rfl rfl rfl rfl).trans rfl), ?hyk0b20⟩) hSk0b1 ?restk0b20
                case hyk0b20 =>
                  intro W hW
                  go_simp
                  exact rfl
                simp only [List.getElem_toArray, List.getElem_cons_succ, List.getElem_cons_zero, Act.put, List.setIfInBounds_toArray, List.set_cons_zero, List.set_cons_succ]
                refine but_run (i := 21) (by kernel_rfl) rfl (by rfl) ?_
                simp only [List.getElem_toArray, List.getElem_cons_succ, List.getElem_cons_zero]
                intro K HK
                go_wp2_with fail
                refine HK.out _ Vk0b1 (fun h => absurd rfl h) ?_
                clear HK
                refine but_done (by kernel_rfl) ?_
                go_wp2_with fail
                go_ret
                exact ⟨ret_boolB HBAD.out.symm, bstep HB.out (bstep HX.out (bstep (Below.drew1 _) hSk0b1))⟩
              · have HFB := Lib.hid hfb
                have HN1 : Hid (∀ j, j < k + 1 → fitB lo j (ts.getD j []) = true) := Lib.hid (fun j h => by
                  rcases Nat.lt_or_ge j k with h' | h'
                  · exact HI1.out j h'
                  · have : j = k := by omega
                    subst this; rw [getD_node hlt]; exact hfb)
                have HN2 := HR
                clear hfb
                go_wp2
                refine but_begin (f := 21) (S := fun V => Below wr.drew.heap.size wr.drew V) (by kernel_rfl) ?_
                refine but_take (f := 21) (i := 0) (v := ?vk0g0) rfl (by kernel_rfl) (by kernel_rfl) (by kernel_rfl) (by kernel_rfl) (by kernel_rfl) (fun _ _ _ h => h) (Or.inl ⟨(by rfl), ?hyk0g0⟩) (Below.refl _ _) ?restk0g0
                case hyk0g0 =>
                  intro W hW
                  go_simp
                  exact rfl
                simp only [List.getElem_toArray, List.getElem_cons_succ, List.getElem_cons_zero, Act.put, List.setIfInBounds_toArray, List.set_cons_zero, List.set_cons_succ]
                refine but_take (f := 21) (i := 1) (v := ?vk0g1) rfl (by kernel_rfl) (by kernel_rfl) (by kernel_rfl) (by kernel_rfl) (by kernel_rfl) (fun _ _ _ h => h) (Or.inl ⟨(by rfl), ?hyk0g1⟩) (Below.refl _ _) ?restk0g1
                case hyk0g1 =>
                  intro W hW
                  go_simp
                  exact rfl
                simp only [List.getElem_toArray, List.getElem_cons_succ, List.getElem_cons_zero, Act.put, List.setIfInBounds_toArray, List.set_cons_zero, List.set_cons_succ]
                refine but_take (f := 21) (i := 2) (v := ?vk0g2) rfl (by kernel_rfl) (by kernel_rfl) (by kernel_rfl) (by kernel_rfl) (by kernel_rfl) (fun _ _ _ h => h) (Or.inl ⟨(by rfl), ?hyk0g2⟩) (Below.refl _ _) ?restk0g2
                case hyk0g2 =>
                  intro W hW
                  go_simp
                  exact rfl
                simp only [List.getElem_toArray, List.getElem_cons_succ, List.getElem_cons_zero, Act.put, List.setIfInBounds_toArray, List.set_cons_zero, List.set_cons_succ]
                refine but_take (f := 21) (i := 3) (v := undef) rfl (by kernel_rfl) (by kernel_rfl) (by kernel_rfl) (by kernel_rfl) (by kernel_rfl) (fun _ _ _ h => h) (Or.inr ⟨((wanted_at rfl rfl rfl rfl).trans rfl), rfl⟩) (Below.refl _ _) ?_
                simp only [List.getElem_toArray, List.getElem_cons_succ, List.getElem_cons_zero, Act.put, List.setIfInBounds_toArray, List.set_cons_zero, List.set_cons_succ]
                refine but_take (f := 21) (i := 4) (v := undef) rfl (by kernel_rfl) (by kernel_rfl) (by kernel_rfl) (by kernel_rfl) (by kernel_rfl) (fun _ _ _ h => h) (Or.inr ⟨((wanted_at rfl rfl rfl rfl).trans rfl), rfl⟩) (Below.refl _ _) ?_
                simp only [List.getElem_toArray, List.getElem_cons_succ, List.getElem_cons_zero, Act.put, List.setIfInBounds_toArray, List.set_cons_zero, List.set_cons_succ]
                refine but_take (f := 21) (i := 5) (v := undef) rfl (by kernel_rfl) (by kernel_rfl) (by kernel_rfl) (by kernel_rfl) (by kernel_rfl) (fun _ _ _ h => h) (Or.inr ⟨((wanted_at rfl rfl rfl rfl).trans rfl), rfl⟩) (Below.refl _ _) ?_
                simp only [List.getElem_toArray, List.getElem_cons_succ, List.getElem_cons_zero, Act.put, List.setIfInBounds_toArray, List.set_cons_zero, List.set_cons_succ]
                refine but_take (f := 21) (i := 6) (v := undef) rfl (by kernel_rfl) (by kernel_rfl) (by kernel_rfl) (by kernel_rfl) (by kernel_rfl) (fun _ _ _ h => h) (Or.inr ⟨((wanted_at rfl rfl rfl rfl).trans rfl), rfl⟩) (Below.refl _ _) ?_
                simp only [List.getElem_toArray, List.getElem_cons_succ, List.getElem_cons_zero, Act.put, List.setIfInBounds_toArray, List.set_cons_zero, List.set_cons_succ]
                refine but_take (f := 21) (i := 7) (v := undef) rfl (by kernel_rfl) (by kernel_rfl) (by kernel_rfl) (by kernel_rfl) (by kernel_rfl) (fun _ _ _ h => h) (Or.inr ⟨((wanted_at rfl rfl rfl rfl).trans rfl), rfl⟩) (Below.refl _ _) ?_
                simp only [List.getElem_toArray, List.getElem_cons_succ, List.getElem_cons_zero, Act.put, List.setIfInBounds_toArray, List.set_cons_zero, List.set_cons_succ]
                refine but_take (f := 21) (i := 8) (v := undef) rfl (by kernel_rfl) (by kernel_rfl) (by kernel_rfl) (by kernel_rfl) (by kernel_rfl) (fun _ _ _ h => h) (Or.inr ⟨((wanted_at rfl rfl rfl rfl).trans rfl), rfl⟩) (Below.refl _ _) ?_
                simp only [List.getElem_toArray, List.getElem_cons_succ, List.getElem_cons_zero, Act.put, List.setIfInBounds_toArray, List.set_cons_zero, List.set_cons_succ]
                refine but_take (f := 21) (i := 9) (v := undef) rfl (by kernel_rfl) (by kernel_rfl) (by kernel_rfl) (by kernel_rfl) (by kernel_rfl) (fun _ _ _ h => h) (Or.inr ⟨((wanted_at rfl rfl rfl rfl).trans rfl), rfl⟩) (Below.refl _ _) ?_
                simp only [List.getElem_toArray, List.getElem_cons_succ, List.getElem_cons_zero, Act.put, List.setIfInBounds_toArray, List.set_cons_zero, List.set_cons_succ]
                refine but_take (f := 21) (i := 10) (v := undef) rfl (by kernel_rfl) (by kernel_rfl) (by kernel_rfl) (by kernel_rfl) (by kernel_rfl) (fun _ _ _ h => h) (Or.inr ⟨((wanted_at rfl rfl rfl rfl).trans rfl), rfl⟩) (Below.refl _ _) ?_
                simp only [List.getElem_toArray, List.getElem_cons_succ, List.getElem_cons_zero, Act.put, List.setIfInBounds_toArray, List.set_cons_zero, List.set_cons_succ]
                refine but_take (f := 21) (i := 11) (v := undef) rfl (by kernel_rfl) (by kernel_rfl) (by kernel_rfl) (by kernel_rfl) (by kernel_rfl) (fun _ _ _ h => h) (Or.inr ⟨((wanted_at rfl rfl rfl rfl).trans rfl), rfl⟩) (Below.refl _ _) ?_
                simp only [List.getElem_toArray, List.getElem_cons_succ, List.getElem_cons_zero, Act.put, List.setIfInBounds_toArray, List.set_cons_zero, List.set_cons_succ]
                refine but_take (f := 21) (i := 12) (v := undef) rfl (by kernel_rfl) (by kernel_rfl) (by kernel_rfl) (by kernel_rfl) (by kernel_rfl) (fun _ _ _ h => h) (Or.inr ⟨((wanted_at rfl rfl rfl rfl).trans rfl), rfl⟩) (Below.refl _ _) ?_
                simp only [List.getElem_toArray, List.getElem_cons_succ, List.getElem_cons_zero, Act.put, List.setIfInBounds_toArray, List.set_cons_zero, List.set_cons_succ]
                refine but_take (f := 21) (i := 13) (v := undef) rfl (by kernel_rfl) (by kernel_rfl) (by kernel_rfl) (by kernel_rfl) (by kernel_rfl) (fun _ _ _ h => h) (Or.inr ⟨((wanted_at rfl rfl rfl rfl).trans rfl), rfl⟩) (Below.refl _ _) ?_
                simp only [List.getElem_toArray, List.getElem_cons_succ, List.getElem_cons_zero, Act.put, List.setIfInBounds_toArray, List.set_cons_zero, List.set_cons_succ]
                refine but_take (f := 21) (i := 14) (v := undef) rfl (by kernel_rfl) (by kernel_rfl) (by kernel_rfl) (by kernel_rfl) (by kernel_rfl) (fun _ _ _ h => h) (Or.inr ⟨((wanted_at rfl rfl rfl rfl).trans rfl), rfl⟩) (Below.refl _ _) ?_
                simp only [List.getElem_toArray, List.getElem_cons_succ, List.getElem_cons_zero, Act.put, List.setIfInBounds_toArray, List.set_cons_zero, List.set_cons_succ]
                refine but_take (f := 21) (i := 15) (v := ?vk0g15) rfl (by kernel_rfl) (by kernel_rfl) (by kernel_rfl) (by kernel_rfl) (by kernel_rfl) (fun _ _ _ h => h) (Or.inl ⟨(by rfl), ?hyk0g15⟩) (Below.refl _ _) ?restk0g15
                case hyk0g15 =>
                  intro W hW
                  go_simp
                  exact rfl
                simp only [List.getElem_toArray, List.getElem_cons_succ, List.getElem_cons_zero, Act.put, List.setIfInBounds_toArray, List.set_cons_zero, List.set_cons_succ]
                refine but_take (f := 21) (i := 16) (v := ?vk0g16) rfl (by kernel_rfl) (by kernel_rfl) (by kernel_rfl) (by kernel_rfl) (by kernel_rfl) (fun _ _ _ h => h) (Or.inl ⟨(by rfl), ?hyk0g16⟩) (Below.refl _ _) ?restk0g16
                case hyk0g16 =>
                  intro W hW
                  go_simp
                  exact rfl
                simp only [List.getElem_toArray, List.getElem_cons_succ, List.getElem_cons_zero, Act.put, List.setIfInBounds_toArray, List.set_cons_zero, List.set_cons_succ]
                refine but_take (f := 21) (i := 17) (v := ?vk0g17) rfl (by kernel_rfl) (by kernel_rfl) (by kernel_rfl) (by kernel_rfl) (by kernel_rfl) (fun _ _ _ h => h) (Or.inl ⟨((wanted_at rfl rfl rfl rfl).trans rfl), ?hyk0g17⟩) (Below.refl _ _) ?restk0g17
                case hyk0g17 =>
                  intro W hW
                  have hb0 : Below wr.heap.size wr W := bstep (Below.drew1 _) hW
                  obtain ⟨x0, x1, x2⟩ := box2 (box_on QW.out hb0)
                  go_simp
                  exact rfl
                simp only [List.getElem_toArray, List.getElem_cons_succ, List.getElem_cons_zero, Act.put, List.setIfInBounds_toArray, List.set_cons_zero, List.set_cons_succ]
                refine but_take (f := 21) (i := 18) (v := ?vk0g18) rfl (by kernel_rfl) (by kernel_rfl) (by kernel_rfl) (by kernel_rfl) (by kernel_rfl) (fun _ _ _ h => h) (Or.inl ⟨((wanted_at rfl rfl rfl rfl).trans rfl), ?hyk0g18⟩) (Below.refl _ _) ?restk0g18
                case hyk0g18 =>
                  intro W hW
                  go_simp
                  exact rfl
                simp only [List.getElem_toArray, List.getElem_cons_succ, List.getElem_cons_zero, Act.put, List.setIfInBounds_toArray, List.set_cons_zero, List.set_cons_succ]
                refine but_run (i := 19) (by kernel_rfl) rfl ((wanted_at rfl rfl rfl rfl).trans rfl) ?_
                simp only [List.getElem_toArray, List.getElem_cons_succ, List.getElem_cons_zero]
                intro K HK
                go_wp2_with fail
                refine (l6Node_any _ _ lo ts k _ (HVV.out.on (bstep (Below.drew1 _) (Below.refl _ _))) hlt (by omega) (by omega) (by omega) (by omega)).mono ?_
                rintro r Vk0g1 ⟨rfl, hBk0g1⟩
                rw [HFB.out]
                have hSk0g1 := bstep (Below.refl _ _) hBk0g1
                go_wp2_with fail
                refine HK.out _ Vk0g1 (fun _ => hSk0g1) ?_
                clear HK
                refine but_take (f := 21) (i := 20) (v := ?vk0g20) rfl (by kernel_rfl) (by kernel_rfl) (by kernel_rfl) (by kernel_rfl) (by kernel_rfl) (fun _ _ _ h => h) (Or.inl ⟨((wanted_at rfl rfl rfl rfl).trans rfl), ?hyk0g20⟩) hSk0g1 ?restk0g20
                case hyk0g20 =>
                  intro W hW
                  go_simp
                  exact rfl
                simp only [List.getElem_toArray, List.getElem_cons_succ, List.getElem_cons_zero, Act.put, List.setIfInBounds_toArray, List.set_cons_zero, List.set_cons_succ]
                refine but_run (i := 21) (by kernel_rfl) rfl (by rfl) ?_
                simp only [List.getElem_toArray, List.getElem_cons_succ, List.getElem_cons_zero]
                intro K HK
                go_wp2_with fail
                refine HK.out _ Vk0g1 (fun h => absurd rfl h) ?_
                clear HK
                refine but_done (by kernel_rfl) ?_
                go_wp2_with fail
                go_roundw
                case rel => exact ⟨k + 1, by omega, by go_num, HN1, HN2, Lib.hid (bstep HX.out (bstep (Below.drew1 _) hSk0g1))⟩
                case measure => simp [intOf]; omega
            · have hkP : k - 1 < lo.length := by omega
              have z0 : decide (0 < k) = true := decide_eq_true (by omega)
              have i4 : IntKind.i64.wrap ((k : Int) - 1) = (k : Int) - 1 := by rw [IntKind.wrap_i64]; omega
              have i5 : (0 : Int) ≤ (k : Int) - 1 := by omega
              have i8 : (1 : Int) ≤ (k : Int) := by omega
              have i6 : (k : Int) - 1 < (lo.length : Int) := by omega
              have i7 : ((k : Int) - 1).toNat = k - 1 := by omega
              have gp := getD_at hkP
              have hkk : k - 1 + 1 = k := by omega
              by_cases hr : lo[k - 1] < lo[k]
              · have z1 : decide (lo[k] ≤ lo[k - 1]) = false := decide_eq_false (by omega)
                have HR : Hid (∀ j, j + 1 < k + 1 → lo.getD j 0 < lo.getD (j + 1) 0) := Lib.hid (fun j h => by
                  rcases Nat.lt_or_ge (j + 1) k with h' | h'
                  · exact HI2.out j h'
                  · have : j = k - 1 := by omega
                    subst this; rw [hkk, gk, gp]; exact hr)
                clear hkk gp gk hr hk0
                cases hfb : fitB lo k ts[k]
                · have HFB := Lib.hid hfb
                  have HBAD : Hid (treeOkB lo ts = false) := Lib.hid (tree_bad (fun h => by have := h.2.2.2.2.2.1 k hlt; rw [getD_node hlt, hfb] at this; cases this))
                  clear hfb
                  go_wp2
                  refine but_begin (f := 21) (S := fun V => Below wr.drew.heap.size wr.drew V) (by kernel_rfl) ?_
                  refine but_take (f := 21) (i := 0) (v := ?vkub0) rfl (by kernel_rfl) (by kernel_rfl) (by kernel_rfl) (by kernel_rfl) (by kernel_rfl) (fun _ _ _ h => h) (Or.inl ⟨(by rfl), ?hykub0⟩) (Below.refl _ _) ?restkub0
                  case hykub0 =>
                    intro W hW
                    go_simp
                    exact rfl
                  simp only [List.getElem_toArray, List.getElem_cons_succ, List.getElem_cons_zero, Act.put, List.setIfInBounds_toArray, List.set_cons_zero, List.set_cons_succ]
                  refine but_take (f := 21) (i := 1) (v := ?vkub1) rfl (by kernel_rfl) (by kernel_rfl) (by kernel_rfl) (by kernel_rfl) (by kernel_rfl) (fun _ _ _ h => h) (Or.inl ⟨(by rfl), ?hykub1⟩) (Below.refl _ _) ?restkub1
                  case hykub1 =>
                    intro W hW
                    go_simp
                    exact rfl
                  simp only [List.getElem_toArray, List.getElem_cons_succ, List.getElem_cons_zero, Act.put, List.setIfInBounds_toArray, List.set_cons_zero, List.set_cons_succ]
                  refine but_take (f := 21) (i := 2) (v := ?vkub2) rfl (by kernel_rfl) (by kernel_rfl) (by kernel_rfl) (by kernel_rfl) (by kernel_rfl) (fun _ _ _ h => h) (Or.inl ⟨(by rfl), ?hykub2⟩) (Below.refl _ _) ?restkub2
                  case hykub2 =>
                    intro W hW
                    go_simp
                    exact rfl
                  simp only [List.getElem_toArray, List.getElem_cons_succ, List.getElem_cons_zero, Act.put, List.setIfInBounds_toArray, List.set_cons_zero, List.set_cons_succ]
                  refine but_take (f := 21) (i := 3) (v := ?vkub3) rfl (by kernel_rfl) (by kernel_rfl) (by kernel_rfl) (by kernel_rfl) (by kernel_rfl) (fun _ _ _ h => h) (Or.inl ⟨((wanted_at rfl rfl rfl rfl).trans rfl), ?hykub3⟩) (Below.refl _ _) ?restkub3
                  case hykub3 =>
                    intro W hW
                    go_simp
                    exact rfl
                  simp only [List.getElem_toArray, List.getElem_cons_succ, List.getElem_cons_zero, Act.put, List.setIfInBounds_toArray, List.set_cons_zero, List.set_cons_succ]
                  refine but_take (f := 21) (i := 4) (v := ?vkub4) rfl (by kernel_rfl) (by kernel_rfl) (by kernel_rfl) (by kernel_rfl) (by kernel_rfl) (fun _ _ _ h => h) (Or.inl ⟨((wanted_at rfl rfl rfl rfl).trans rfl), ?hykub4⟩) (Below.refl _ _) ?restkub4
                  case hykub4 =>
                    intro W hW
                    have hb0 : Below wr.heap.size wr W := bstep (Below.drew1 _) hW
                    obtain ⟨x0, x1, x2⟩ := box2 (box_on QW.out hb0)
                    go_simp
                    exact rfl
                  simp only [List.getElem_toArray, List.getElem_cons_succ, List.getElem_cons_zero, Act.put, List.setIfInBounds_toArray, List.set_cons_zero, List.set_cons_succ]
                  refine but_take (f := 21) (i := 5) (v := ?vkub5) rfl (by kernel_rfl) (by kernel_rfl) (by kernel_rfl) (by kernel_rfl) (by kernel_rfl) (fun _ _ _ h => h) (Or.inl ⟨((wanted_at rfl rfl rfl rfl).trans rfl), ?hykub5⟩) (Below.refl _ _) ?restkub5
                  case hykub5 =>
                    intro W hW
                    go_simp
                    exact rfl
                  simp only [List.getElem_toArray, List.getElem_cons_succ, List.getElem_cons_zero, Act.put, List.setIfInBounds_toArray, List.set_cons_zero, List.set_cons_succ]
                  refine but_take (f := 21) (i := 6) (v := ?vkub6) rfl (by kernel_rfl) (by kernel_rfl) (by kernel_rfl) (by kernel_rfl) (by kernel_rfl) (fun _ _ _ h => h) (Or.inl ⟨((wanted_at rfl rfl rfl rfl).trans rfl), ?hykub6⟩) (Below.refl _ _) ?restkub6
                  case hykub6 =>
                    intro W hW
                    go_simp
                    exact rfl
                  simp only [List.getElem_toArray, List.getElem_cons_succ, List.getElem_cons_zero, Act.put, List.setIfInBounds_toArray, List.set_cons_zero, List.set_cons_succ]
                  refine but_take (f := 21) (i := 7) (v := ?vkub7) rfl (by kernel_rfl) (by kernel_rfl) (by kernel_rfl) (by kernel_rfl) (by kernel_rfl) (fun _ _ _ h => h) (Or.inl ⟨((wanted_at rfl rfl rfl rfl).trans rfl), ?hykub7⟩) (Below.refl _ _) ?restkub7
                  case hykub7 =>
                    intro W hW
                    go_simp
                    exact rfl
                  simp only [List.getElem_toArray, List.getElem_cons_succ, List.getElem_cons_zero, Act.put, List.setIfInBounds_toArray, List.set_cons_zero, List.set_cons_succ]
                  refine but_take (f := 21) (i := 8) (v := ?vkub8) rfl (by kernel_rfl) (by kernel_rfl) (by kernel_rfl) (by kernel_rfl) (by kernel_rfl) (fun _ _ _ h => h) (Or.inl ⟨((wanted_at rfl rfl rfl rfl).trans rfl), ?hykub8⟩) (Below.refl _ _) ?restkub8
                  case hykub8 =>
                    intro W hW
                    have hb0 : Below wr.heap.size wr W := bstep (Below.drew1 _) hW
                    have f1 := (HLO.out.on hb0).cellI hkL
                    have f2 := (HLO.out.on hb0).cellI hkP
                    go_simp
                    exact rfl
                  simp only [List.getElem_toArray, List.getElem_cons_succ, List.getElem_cons_zero, Act.put, List.setIfInBounds_toArray, List.set_cons_zero, List.set_cons_succ]
                  refine but_take (f := 21) (i := 9) (v := ?vkub9) rfl (by kernel_rfl) (by kernel_rfl) (by kernel_rfl) (by kernel_rfl) (by kernel_rfl) (fun _ _ _ h => h) (Or.inl ⟨((wanted_at rfl rfl rfl rfl).trans rfl), ?hykub9⟩) (Below.refl _ _) ?restkub9
                  case hykub9 =>
                    intro W hW
                    go_simp
                    exact rfl
                  simp only [List.getElem_toArray, List.getElem_cons_succ, List.getElem_cons_zero, Act.put, List.setIfInBounds_toArray, List.set_cons_zero, List.set_cons_succ]
                  refine but_take (f := 21) (i := 10) (v := ?vkub10) rfl (by kernel_rfl) (by kernel_rfl) (by kernel_rfl) (by kernel_rfl) (by kernel_rfl) (fun _ _ _ h => h) (Or.inl ⟨((wanted_at rfl rfl rfl rfl).trans rfl), ?hykub10⟩) (Below.refl _ _) ?restkub10
                  case hykub10 =>
                    intro W hW
                    have hb0 : Below wr.heap.size wr W := bstep (Below.drew1 _) hW
                    obtain ⟨x0, x1, x2⟩ := box2 (box_on QW.out hb0)
                    go_simp
                    exact rfl
                  simp only [List.getElem_toArray, List.getElem_cons_succ, List.getElem_cons_zero, Act.put, List.setIfInBounds_toArray, List.set_cons_zero, List.set_cons_succ]
                  refine but_take (f := 21) (i := 11) (v := ?vkub11) rfl (by kernel_rfl) (by kernel_rfl) (by kernel_rfl) (by kernel_rfl) (by kernel_rfl) (fun _ _ _ h => h) (Or.inl ⟨((wanted_at rfl rfl rfl rfl).trans rfl), ?hykub11⟩) (Below.refl _ _) ?restkub11
                  case hykub11 =>
                    intro W hW
                    go_simp
                    exact rfl
                  simp only [List.getElem_toArray, List.getElem_cons_succ, List.getElem_cons_zero, Act.put, List.setIfInBounds_toArray, List.set_cons_zero, List.set_cons_succ]
                  refine but_take (f := 21) (i := 12) (v := ?vkub12) rfl (by kernel_rfl) (by kernel_rfl) (by kernel_rfl) (by kernel_rfl) (by kernel_rfl) (fun _ _ _ h => h) (Or.inl ⟨((wanted_at rfl rfl rfl rfl).trans rfl), ?hykub12⟩) (Below.refl _ _) ?restkub12
                  case hykub12 =>
                    intro W hW
                    go_simp
                    exact rfl
                  simp only [List.getElem_toArray, List.getElem_cons_succ, List.getElem_cons_zero, Act.put, List.setIfInBounds_toArray, List.set_cons_zero, List.set_cons_succ]
                  refine but_take (f := 21) (i := 13) (v := ?vkub13) rfl (by kernel_rfl) (by kernel_rfl) (by kernel_rfl) (by kernel_rfl) (by kernel_rfl) (fun _ _ _ h => h) (Or.inl ⟨((wanted_at rfl rfl rfl rfl).trans rfl), ?hykub13⟩) (Below.refl _ _) ?restkub13
                  case hykub13 =>
                    intro W hW
                    have hb0 : Below wr.heap.size wr W := bstep (Below.drew1 _) hW
                    have f1 := (HLO.out.on hb0).cellI hkL
                    have f2 := (HLO.out.on hb0).cellI hkP
                    go_simp
                    exact rfl
                  simp only [List.getElem_toArray, List.getElem_cons_succ, List.getElem_cons_zero, Act.put, List.setIfInBounds_toArray, List.set_cons_zero, List.set_cons_succ]
                  refine but_take (f := 21) (i := 14) (v := ?vkub14) rfl (by kernel_rfl) (by kernel_rfl) (by kernel_rfl) (by kernel_rfl) (by kernel_rfl) (fun _ _ _ h => h) (Or.inl ⟨((wanted_at rfl rfl rfl rfl).trans rfl), ?hykub14⟩) (Below.refl _ _) ?restkub14
                  case hykub14 =>
                    intro W hW
                    go_simp
                    exact rfl
                  simp only [List.getElem_toArray, List.getElem_cons_succ, List.getElem_cons_zero, Act.put, List.setIfInBounds_toArray, List.set_cons_zero, List.set_cons_succ]
                  refine but_take (f := 21) (i := 15) (v := ?vkub15) rfl (by kernel_rfl) (by kernel_rfl) (by kernel_rfl) (by kernel_rfl) (by kernel_rfl) (fun _ _ _ h => h) (Or.inl ⟨(by rfl), ?hykub15⟩) (Below.refl _ _) ?restkub15
                  case hykub15 =>
                    intro W hW
                    go_simp
                    exact rfl
                  simp only [List.getElem_toArray, List.getElem_cons_succ, List.getElem_cons_zero, Act.put, List.setIfInBounds_toArray, List.set_cons_zero, List.set_cons_succ]
                  refine but_take (f := 21) (i := 16) (v := ?vkub16) rfl (by kernel_rfl) (by kernel_rfl) (by kernel_rfl) (by kernel_rfl) (by kernel_rfl) (fun _ _ _ h => h) (Or.inl ⟨(by rfl), ?hykub16⟩) (Below.refl _ _) ?restkub16
                  case hykub16 =>
                    intro W hW
                    go_simp
                    exact rfl
                  simp only [List.getElem_toArray, List.getElem_cons_succ, List.getElem_cons_zero, Act.put, List.setIfInBounds_toArray, List.set_cons_zero, List.set_cons_succ]
                  refine but_take (f := 21) (i := 17) (v := ?vkub17) rfl (by kernel_rfl) (by kernel_rfl) (by kernel_rfl) (by kernel_rfl) (by kernel_rfl) (fun _ _ _ h => h) (Or.inl ⟨((wanted_at rfl rfl rfl rfl).trans rfl), ?hykub17⟩) (Below.refl _ _) ?restkub17
                  case hykub17 =>
                    intro W hW
                    have hb0 : Below wr.heap.size wr W := bstep (Below.drew1 _) hW
                    obtain ⟨x0, x1, x2⟩ := box2 (box_on QW.out hb0)
                    go_simp
                    exact rfl
                  simp only [List.getElem_toArray, List.getElem_cons_succ, List.getElem_cons_zero, Act.put, List.setIfInBounds_toArray, List.set_cons_zero, List.set_cons_succ]
                  refine but_take (f := 21) (i := 18) (v := ?vkub18) rfl (by kernel_rfl) (by kernel_rfl) (by kernel_rfl) (by kernel_rfl) (by kernel_rfl) (fun _ _ _ h => h) (Or.inl ⟨((wanted_at rfl rfl rfl rfl).trans rfl), ?hykub18⟩) (Below.refl _ _) ?restkub18
                  case hykub18 =>
                    intro W hW
                    go_simp
                    exact rfl
                  simp only [List.getElem_toArray, List.getElem_cons_succ, List.getElem_cons_zero, Act.put, List.setIfInBounds_toArray, List.set_cons_zero, List.set_cons_succ]
                  refine but_run (i := 19) (by kernel_rfl) rfl ((wanted_at rfl rfl rfl rfl).trans rfl) ?_
                  simp only [List.getElem_toArray, List.getElem_cons_succ, List.getElem_cons_zero]
                  intro K HK
                  go_wp2_with fail
                  refine (l6Node_any _ _ lo ts k _ (HVV.out.on (bstep (Below.drew1 _) (Below.refl _ _))) hlt (by omega) (by omega) (by omega) (by omega)).mono ?_
                  rintro r Vkub1 ⟨rfl, hBkub1⟩
                  rw [HFB.out]
                  have hSkub1 := bstep (Below.refl _ _) hBkub1
                  go_wp2_with fail
                  refine HK.out _ Vkub1 (fun _ => hSkub1) ?_
                  clear HK
                  refine but_take (f := 21) (i := 20) (v := ?vkub20) rfl (by kernel_rfl) (by kernel_rfl) (by kernel_rfl) (by kernel_rfl) (by kernel_rfl) (fun _ _ _ h => h) (Or.inl ⟨((wanted_at rfl rfl rfl rfl).trans rfl), ?hykub20⟩) hSkub1 ?restkub20
                  case hykub20 =>
                    intro W hW
                    go_simp
                    exact rfl
                  simp only [List.getElem_toArray, List.getElem_cons_succ, List.getElem_cons_zero, Act.put, List.setIfInBounds_toArray, List.set_cons_zero, List.set_cons_succ]
                  refine but_run (i := 21) (by kernel_rfl) rfl (by rfl) ?_
                  simp only [List.getElem_toArray, List.getElem_cons_succ, List.getElem_cons_zero]
                  intro K HK
                  go_wp2_with fail
                  refine HK.out _ Vkub1 (fun h => absurd rfl h) ?_
                  clear HK
                  refine but_done (by kernel_rfl) ?_
                  go_wp2_with fail
                  go_ret
                  exact ⟨ret_boolB HBAD.out.symm, bstep HB.out (bstep HX.out (bstep (Below.drew1 _) hSkub1))⟩
                · have HFB := Lib.hid hfb
                  have HN1 : Hid (∀ j, j < k + 1 → fitB lo j (ts.getD j []) = true) := Lib.hid (fun j h => by
                    rcases Nat.lt_or_ge j k with h' | h'
                    · exact HI1.out j h'
                    · have : j = k := by omega
                      subst this; rw [getD_node hlt]; exact hfb)
                  have HN2 := HR
                  clear hfb
                  go_wp2
                  refine but_begin (f := 21) (S := fun V => Below wr.drew.heap.size wr.drew V) (by kernel_rfl) ?_
                  refine but_take (f := 21) (i := 0) (v := ?vkug0) rfl (by kernel_rfl) (by kernel_rfl) (by kernel_rfl) (by kernel_rfl) (by kernel_rfl) (fun _ _ _ h => h) (Or.inl ⟨(by rfl), ?hykug0⟩) (Below.refl _ _) ?restkug0
                  case hykug0 =>
                    intro W hW
                    go_simp
                    exact rfl
                  simp only [List.getElem_toArray, List.getElem_cons_succ, List.getElem_cons_zero, Act.put, List.setIfInBounds_toArray, List.set_cons_zero, List.set_cons_succ]
                  refine but_take (f := 21) (i := 1) (v := ?vkug1) rfl (by kernel_rfl) (by kernel_rfl) (by kernel_rfl) (by kernel_rfl) (by kernel_rfl) (fun _ _ _ h => h) (Or.inl ⟨(by rfl), ?hykug1⟩) (Below.refl _ _) ?restkug1
                  case hykug1 =>
                    intro W hW
                    go_simp
                    exact rfl
                  simp only [List.getElem_toArray, List.getElem_cons_succ, List.getElem_cons_zero, Act.put, List.setIfInBounds_toArray, List.set_cons_zero, List.set_cons_succ]
                  refine but_take (f := 21) (i := 2) (v := ?vkug2) rfl (by kernel_rfl) (by kernel_rfl) (by kernel_rfl) (by kernel_rfl) (by kernel_rfl) (fun _ _ _ h => h) (Or.inl ⟨(by rfl), ?hykug2⟩) (Below.refl _ _) ?restkug2
                  case hykug2 =>
                    intro W hW
                    go_simp
                    exact rfl
                  simp only [List.getElem_toArray, List.getElem_cons_succ, List.getElem_cons_zero, Act.put, List.setIfInBounds_toArray, List.set_cons_zero, List.set_cons_succ]
                  refine but_take (f := 21) (i := 3) (v := ?vkug3) rfl (by kernel_rfl) (by kernel_rfl) (by kernel_rfl) (by kernel_rfl) (by kernel_rfl) (fun _ _ _ h => h) (Or.inl ⟨((wanted_at rfl rfl rfl rfl).trans rfl), ?hykug3⟩) (Below.refl _ _) ?restkug3
                  case hykug3 =>
                    intro W hW
                    go_simp
                    exact rfl
                  simp only [List.getElem_toArray, List.getElem_cons_succ, List.getElem_cons_zero, Act.put, List.setIfInBounds_toArray, List.set_cons_zero, List.set_cons_succ]
                  refine but_take (f := 21) (i := 4) (v := ?vkug4) rfl (by kernel_rfl) (by kernel_rfl) (by kernel_rfl) (by kernel_rfl) (by kernel_rfl) (fun _ _ _ h => h) (Or.inl ⟨((wanted_at rfl rfl rfl rfl).trans rfl), ?hykug4⟩) (Below.refl _ _) ?restkug4
                  case hykug4 =>
                    intro W hW
                    have hb0 : Below wr.heap.size wr W := bstep (Below.drew1 _) hW
                    obtain ⟨x0, x1, x2⟩ := box2 (box_on QW.out hb0)
                    go_simp
                    exact rfl
                  simp only [List.getElem_toArray, List.getElem_cons_succ, List.getElem_cons_zero, Act.put, List.setIfInBounds_toArray, List.set_cons_zero, List.set_cons_succ]
                  refine but_take (f := 21) (i := 5) (v := ?vkug5) rfl (by kernel_rfl) (by kernel_rfl) (by kernel_rfl) (by kernel_rfl) (by kernel_rfl) (fun _ _ _ h => h) (Or.inl ⟨((wanted_at rfl rfl rfl rfl).trans rfl), ?hykug5⟩) (Below.refl _ _) ?restkug5
                  case hykug5 =>
                    intro W hW
                    go_simp
                    exact rfl
                  simp only [List.getElem_toArray, List.getElem_cons_succ, List.getElem_cons_zero, Act.put, List.setIfInBounds_toArray, List.set_cons_zero, List.set_cons_succ]
                  refine but_take (f := 21) (i := 6) (v := ?vkug6) rfl (by kernel_rfl) (by kernel_rfl) (by kernel_rfl) (by kernel_rfl) (by kernel_rfl) (fun _ _ _ h => h) (Or.inl ⟨((wanted_at rfl rfl rfl rfl).trans rfl), ?hykug6⟩) (Below.refl _ _) ?restkug6
                  case hykug6 =>
                    intro W hW
                    go_simp
                    exact rfl
                  simp only [List.getElem_toArray, List.getElem_cons_succ, List.getElem_cons_zero, Act.put, List.setIfInBounds_toArray, List.set_cons_zero, List.set_cons_succ]
                  refine but_take (f := 21) (i := 7) (v := ?vkug7) rfl (by kernel_rfl) (by kernel_rfl) (by kernel_rfl) (by kernel_rfl) (by kernel_rfl) (fun _ _ _ h => h) (Or.inl ⟨((wanted_at rfl rfl rfl rfl).trans rfl), ?hykug7⟩) (Below.refl _ _) ?restkug7
                  case hykug7 =>
                    intro W hW
                    go_simp
                    exact rfl
                  simp only [List.getElem_toArray, List.getElem_cons_succ, List.getElem_cons_zero, Act.put, List.setIfInBounds_toArray, List.set_cons_zero, List.set_cons_succ]
                  refine but_take (f := 21) (i := 8) (v := ?vkug8) rfl (by kernel_rfl) (by kernel_rfl) (by kernel_rfl) (by kernel_rfl) (by kernel_rfl) (fun _ _ _ h => h) (Or.inl ⟨((wanted_at rfl rfl rfl rfl).trans rfl), ?hykug8⟩) (Below.refl _ _) ?restkug8
                  case hykug8 =>
                    intro W hW
                    have hb0 : Below wr.heap.size wr W := bstep (Below.drew1 _) hW
                    have f1 := (HLO.out.on hb0).cellI hkL
                    have f2 := (HLO.out.on hb0).cellI hkP
                    go_simp
                    exact rfl
                  simp only [List.getElem_toArray, List.getElem_cons_succ, List.getElem_cons_zero, Act.put, List.setIfInBounds_toArray, List.set_cons_zero, List.set_cons_succ]
                  refine but_take (f := 21) (i := 9) (v := ?vkug9) rfl (by kernel_rfl) (by kernel_rfl) (by kernel_rfl) (by kernel_rfl) (by kernel_rfl) (fun _ _ _ h => h) (Or.inl ⟨((wanted_at rfl rfl rfl rfl).trans rfl), ?hykug9⟩) (Below.refl _ _) ?restkug9
                  case hykug9 =>
                    intro W hW
                    go_simp
                    exact rfl
                  simp only [List.getElem_toArray, List.getElem_cons_succ, List.getElem_cons_zero, Act.put, List.setIfInBounds_toArray, List.set_cons_zero, List.set_cons_succ]
                  refine but_take (f := 21) (i := 10) (v := ?vkug10) rfl (by kernel_rfl) (by kernel_rfl) (by kernel_rfl) (by kernel_rfl) (by kernel_rfl) (fun _ _ _ h => h) (Or.inl ⟨((wanted_at rfl rfl rfl rfl).trans rfl), ?hykug10⟩) (Below.refl _ _) ?restkug10
                  case hykug10 =>
                    intro W hW
                    have hb0 : Below wr.heap.size wr W := bstep (Below.drew1 _) hW
                    obtain ⟨x0, x1, x2⟩ := box2 (box_on QW.out hb0)
                    go_simp
                    exact rfl
                  simp only [List.getElem_toArray, List.getElem_cons_succ, List.getElem_cons_zero, Act.put, List.setIfInBounds_toArray, List.set_cons_zero, List.set_cons_succ]
                  refine but_take (f := 21) (i := 11) (v := ?vkug11) rfl (by kernel_rfl) (by kernel_rfl) (by kernel_rfl) (by kernel_rfl) (by kernel_rfl) (fun _ _ _ h => h) (Or.inl ⟨((wanted_at rfl rfl rfl rfl).trans rfl), ?hykug11⟩) (Below.refl _ _) ?restkug11
                  case hykug11 =>
                    intro W hW
                    go_simp
                    exact rfl
                  simp only [List.getElem_toArray, List.getElem_cons_succ, List.getElem_cons_zero, Act.put, List.setIfInBounds_toArray, List.set_cons_zero, List.set_cons_succ]
                  refine but_take (f := 21) (i := 12) (v := ?vkug12) rfl (by kernel_rfl) (by kernel_rfl) (by kernel_rfl) (by kernel_rfl) (by kernel_rfl) (fun _ _ _ h => h) (Or.inl ⟨((wanted_at rfl rfl rfl rfl).trans rfl), ?hykug12⟩) (Below.refl _ _) ?restkug12
                  case hykug12 =>
                    intro W hW
                    go_simp
                    exact rfl
                  simp only [List.getElem_toArray, List.getElem_cons_succ, List.getElem_cons_zero, Act.put, List.setIfInBounds_toArray, List.set_cons_zero, List.set_cons_succ]
                  refine but_take (f := 21) (i := 13) (v := ?vkug13) rfl (by kernel_rfl) (by kernel_rfl) (by kernel_rfl) (by kernel_rfl) (by kernel_rfl) (fun _ _ _ h => h) (Or.inl ⟨((wanted_at rfl rfl rfl rfl).trans rfl), ?hykug13⟩) (Below.refl _ _) ?restkug13
                  case hykug13 =>
                    intro W hW
                    have hb0 : Below wr.heap.size wr W := bstep (Below.drew1 _) hW
                    have f1 := (HLO.out.on hb0).cellI hkL
                    have f2 := (HLO.out.on hb0).cellI hkP
                    go_simp
                    exact rfl
                  simp only [List.getElem_toArray, List.getElem_cons_succ, List.getElem_cons_zero, Act.put, List.setIfInBounds_toArray, List.set_cons_zero, List.set_cons_succ]
                  refine but_take (f := 21) (i := 14) (v := ?vkug14) rfl (by kernel_rfl) (by kernel_rfl) (by kernel_rfl) (by kernel_rfl) (by kernel_rfl) (fun _ _ _ h => h) (Or.inl ⟨((wanted_at rfl rfl rfl rfl).trans rfl), ?hykug14⟩) (Below.refl _ _) ?restkug14
                  case hykug14 =>
                    intro W hW
                    go_simp
                    exact rfl
                  simp only [List.getElem_toArray, List.getElem_cons_succ, List.getElem_cons_zero, Act.put, List.setIfInBounds_toArray, List.set_cons_zero, List.set_cons_succ]
                  refine but_take (f := 21) (i := 15) (v := ?vkug15) rfl (by kernel_rfl) (by kernel_rfl) (by kernel_rfl) (by kernel_rfl) (by kernel_rfl) (fun _ _ _ h => h) (Or.inl ⟨(by rfl), ?hykug15⟩) (Below.refl _ _) ?restkug15
                  case hykug15 =>
                    intro W hW
                    go_simp
                    exact rfl
                  simp only [List.getElem_toArray, List.getElem_cons_succ, List.getElem_cons_zero, Act.put, List.setIfInBounds_toArray, List.set_cons_zero, List.set_cons_succ]
                  refine but_take (f := 21) (i := 16) (v := ?vkug16) rfl (by kernel_rfl) (by kernel_rfl) (by kernel_rfl) (by kernel_rfl) (by kernel_rfl) (fun _ _ _ h => h) (Or.inl ⟨(by rfl), ?hykug16⟩) (Below.refl _ _) ?restkug16
                  case hykug16 =>
                    intro W hW
                    go_simp
                    exact rfl
                  simp only [List.getElem_toArray, List.getElem_cons_succ, List.getElem_cons_zero, Act.put, List.setIfInBounds_toArray, List.set_cons_zero, List.set_cons_succ]
                  refine but_take (f := 21) (i := 17) (v := ?vkug17) rfl (by kernel_rfl) (by kernel_rfl) (by kernel_rfl) (by kernel_rfl) (by kernel_rfl) (fun _ _ _ h => h) (Or.inl ⟨((wanted_at rfl rfl rfl rfl).trans rfl), ?hykug17⟩) (Below.refl _ _) ?restkug17
                  case hykug17 =>
                    intro W hW
                    have hb0 : Below wr.heap.size wr W := bstep (Below.drew1 _) hW
                    obtain ⟨x0, x1, x2⟩ := box2 (box_on QW.out hb0)
                    go_simp
                    exact rfl
                  simp only [List.getElem_toArray, List.getElem_cons_succ, List.getElem_cons_zero, Act.put, List.setIfInBounds_toArray, List.set_cons_zero, List.set_cons_succ]
                  refine but_take (f := 21) (i := 18) (v := ?vkug18) rfl (by kernel_rfl) (by kernel_rfl) (by kernel_rfl) (by kernel_rfl) (by kernel_rfl) (fun _ _ _ h => h) (Or.inl ⟨((wanted_at rfl rfl rfl rfl).trans rfl), ?hykug18⟩) (Below.refl _ _) ?restkug18
                  case hykug18 =>
                    intro W hW
                    go_simp
                    exact rfl
                  simp only [List.getElem_toArray, List.getElem_cons_succ, List.getElem_cons_zero, Act.put, List.setIfInBounds_toArray, List.set_cons_zero, List.set_cons_succ]
                  refine but_run (i := 19) (by kernel_rfl) rfl ((wanted_at rfl rfl rfl rfl).trans rfl) ?_
                  simp only [List.getElem_toArray, List.getElem_cons_succ, List.getElem_cons_zero]
                  intro K HK
                  go_wp2_with fail
                  refine (l6Node_any _ _ lo ts k _ (HVV.out.on (bstep (Below.drew1 _) (Below.refl _ _))) hlt (by omega) (by omega) (by omega) (by omega)).mono ?_
                  rintro r Vkug1 ⟨rfl, hBkug1⟩
                  rw [HFB.out]
                  have hSkug1 := bstep (Below.refl _ _) hBkug1
                  go_wp2_with fail
                  refine HK.out _ Vkug1 (fun _ => hSkug1) ?_
                  clear HK
                  refine but_take (f := 21) (i := 20) (v := ?vkug20) rfl (by kernel_rfl) (by kernel_rfl) (by kernel_rfl) (by kernel_rfl) (by kernel_rfl) (fun _ _ _ h => h) (Or.inl ⟨((wanted_at rfl rfl rfl rfl).trans rfl), ?hykug20⟩) hSkug1 ?restkug20
                  case hykug20 =>
                    intro W hW
                    go_simp
                    exact rfl
                  simp only [List.getElem_toArray, List.getElem_cons_succ, List.getElem_cons_zero, Act.put, List.setIfInBounds_toArray, List.set_cons_zero, List.set_cons_succ]
                  refine but_run (i := 21) (by kernel_rfl) rfl (by rfl) ?_
                  simp only [List.getElem_toArray, List.getElem_cons_succ, List.getElem_cons_zero]
                  intro K HK
                  go_wp2_with fail
                  refine HK.out _ Vkug1 (fun h => absurd rfl h) ?_
                  clear HK
                  refine but_done (by kernel_rfl) ?_
                  go_wp2_with fail
                  go_roundw
                  case rel => exact ⟨k + 1, by omega, by go_num, HN1, HN2, Lib.hid (bstep HX.out (bstep (Below.drew1 _) hSkug1))⟩
                  case measure => simp [intOf]; omega
              · have z1 : decide (lo[k] ≤ lo[k - 1]) = true := decide_eq_true (by omega)
                have HBAD : Hid (treeOkB lo ts = false) := Lib.hid (tree_bad (fun h => by have := h.2.2.2.2.1 (k - 1) (by omega); rw [hkk, gk, gp] at this; omega))
                clear hkk gp gk hr hk0
                go_wp2
                refine but_begin (f := 21) (S := fun V => Below wr.drew.heap.size wr.drew V) (by kernel_rfl) ?_
                refine but_take (f := 21) (i := 0) (v := ?vkdb0) rfl (by kernel_rfl) (by kernel_rfl) (by kernel_rfl) (by kernel_rfl) (by kernel_rfl) (fun _ _ _ h => h) (Or.inl ⟨(by rfl), ?hykdb0⟩) (Below.refl _ _) ?restkdb0
                case hykdb0 =>
                  intro W hW
                  go_simp
                  exact rfl
                simp only [List.getElem_toArray, List.getElem_cons_succ, List.getElem_cons_zero, Act.put, List.setIfInBounds_toArray, List.set_cons_zero, List.set_cons_succ]
                refine but_take (f := 21) (i := 1) (v := ?vkdb1) rfl (by kernel_rfl) (by kernel_rfl) (by kernel_rfl) (by kernel_rfl) (by kernel_rfl) (fun _ _ _ h => h) (Or.inl ⟨(by rfl), ?hykdb1⟩) (Below.refl _ _) ?restkdb1
                case hykdb1 =>
                  intro W hW
                  go_simp
                  exact rfl
                simp only [List.getElem_toArray, List.getElem_cons_succ, List.getElem_cons_zero, Act.put, List.setIfInBounds_toArray, List.set_cons_zero, List.set_cons_succ]
                refine but_take (f := 21) (i := 2) (v := ?vkdb2) rfl (by kernel_rfl) (by kernel_rfl) (by kernel_rfl) (by kernel_rfl) (by kernel_rfl) (fun _ _ _ h => h) (Or.inl ⟨(by rfl), ?hykdb2⟩) (Below.refl _ _) ?restkdb2
                case hykdb2 =>
                  intro W hW
                  go_simp
                  exact rfl
                simp only [List.getElem_toArray, List.getElem_cons_succ, List.getElem_cons_zero, Act.put, List.setIfInBounds_toArray, List.set_cons_zero, List.set_cons_succ]
                refine but_take (f := 21) (i := 3) (v := ?vkdb3) rfl (by kernel_rfl) (by kernel_rfl) (by kernel_rfl) (by kernel_rfl) (by kernel_rfl) (fun _ _ _ h => h) (Or.inl ⟨((wanted_at rfl rfl rfl rfl).trans rfl), ?hykdb3⟩) (Below.refl _ _) ?restkdb3
                case hykdb3 =>
                  intro W hW
                  go_simp
                  exact rfl
                simp only [List.getElem_toArray, List.getElem_cons_succ, List.getElem_cons_zero, Act.put, List.setIfInBounds_toArray, List.set_cons_zero, List.set_cons_succ]
                refine but_take (f := 21) (i := 4) (v := ?vkdb4) rfl (by kernel_rfl) (by kernel_rfl) (by kernel_rfl) (by kernel_rfl) (by kernel_rfl) (fun _ _ _ h => h) (Or.inl ⟨((wanted_at rfl rfl rfl rfl).trans rfl), ?hykdb4⟩) (Below.refl _ _) ?restkdb4
                case hykdb4 =>
                  intro W hW
                  have hb0 : Below wr.heap.size wr W := bstep (Below.drew1 _) hW
                  obtain ⟨x0, x1, x2⟩ := box2 (box_on QW.out hb0)
                  go_simp
                  exact rfl
                simp only [List.getElem_toArray, List.getElem_cons_succ, List.getElem_cons_zero, Act.put, List.setIfInBounds_toArray, List.set_cons_zero, List.set_cons_succ]
                refine but_take (f := 21) (i := 5) (v := ?vkdb5) rfl (by kernel_rfl) (by kernel_rfl) (by kernel_rfl) (by kernel_rfl) (by kernel_rfl) (fun _ _ _ h => h) (Or.inl ⟨((wanted_at rfl rfl rfl rfl).trans rfl), ?hykdb5⟩) (Below.refl _ _) ?restkdb5
                case hykdb5 =>
                  intro W hW
                  go_simp
                  exact rfl
                simp only [List.getElem_toArray, List.getElem_cons_succ, List.getElem_cons_zero, Act.put, List.setIfInBounds_toArray, List.set_cons_zero, List.set_cons_succ]
                refine but_take (f := 21) (i := 6) (v := ?vkdb6) rfl (by kernel_rfl) (by kernel_rfl) (by kernel_rfl) (by kernel_rfl) (by kernel_rfl) (fun _ _ _ h => h) (Or.inl ⟨((wanted_at rfl rfl rfl rfl).trans rfl), ?hykdb6⟩) (Below.refl _ _) ?restkdb6
                case hykdb6 =>
                  intro W hW
                  go_simp
                  exact rfl
                simp only [List.getElem_toArray, List.getElem_cons_succ, List.getElem_cons_zero, Act.put, List.setIfInBounds_toArray, List.set_cons_zero, List.set_cons_succ]
                refine but_take (f := 21) (i := 7) (v := ?vkdb7) rfl (by kernel_rfl) (by kernel_rfl) (by kernel_rfl) (by kernel_rfl) (by kernel_rfl) (fun _ _ _ h => h) (Or.inl ⟨((wanted_at rfl rfl rfl rfl).trans rfl), ?hykdb7⟩) (Below.refl _ _) ?restkdb7
                case hykdb7 =>
                  intro W hW
                  go_simp
                  exact rfl
                simp only [List.getElem_toArray, List.getElem_cons_succ, List.getElem_cons_zero, Act.put, List.setIfInBounds_toArray, List.set_cons_zero, List.set_cons_succ]
                refine but_take (f := 21) (i := 8) (v := ?vkdb8) rfl (by kernel_rfl) (by kernel_rfl) (by kernel_rfl) (by kernel_rfl) (by kernel_rfl) (fun _ _ _ h => h) (Or.inl ⟨((wanted_at rfl rfl rfl rfl).trans rfl), ?hykdb8⟩) (Below.refl _ _) ?restkdb8
                case hykdb8 =>
                  intro W hW
                  have hb0 : Below wr.heap.size wr W := bstep (Below.drew1 _) hW
                  have f1 := (HLO.out.on hb0).cellI hkL
                  have f2 := (HLO.out.on hb0).cellI hkP
                  go_simp
                  exact rfl
                simp only [List.getElem_toArray, List.getElem_cons_succ, List.getElem_cons_zero, Act.put, List.setIfInBounds_toArray, List.set_cons_zero, List.set_cons_succ]
                refine but_take (f := 21) (i := 9) (v := ?vkdb9) rfl (by kernel_rfl) (by kernel_rfl) (by kernel_rfl) (by kernel_rfl) (by kernel_rfl) (fun _ _ _ h => h) (Or.inl ⟨((wanted_at rfl rfl rfl rfl).trans rfl), ?hykdb9⟩) (Below.refl _ _) ?restkdb9
                case hykdb9 =>
                  intro W hW
                  go_simp
                  exact rfl
                simp only [List.getElem_toArray, List.getElem_cons_succ, List.getElem_cons_zero, Act.put, List.setIfInBounds_toArray, List.set_cons_zero, List.set_cons_succ]
                refine but_take (f := 21) (i := 10) (v := ?vkdb10) rfl (by kernel_rfl) (by kernel_rfl) (by kernel_rfl) (by kernel_rfl) (by kernel_rfl) (fun _ _ _ h => h) (Or.inl ⟨((wanted_at rfl rfl rfl rfl).trans rfl), ?hykdb10⟩) (Below.refl _ _) ?restkdb10
                case hykdb10 =>
                  intro W hW
                  have hb0 : Below wr.heap.size wr W := bstep (Below.drew1 _) hW
                  obtain ⟨x0, x1, x2⟩ := box2 (box_on QW.out hb0)
                  go_simp
                  exact rfl
                simp only [List.getElem_toArray, List.getElem_cons_succ, List.getElem_cons_zero, Act.put, List.setIfInBounds_toArray, List.set_cons_zero, List.set_cons_succ]
                refine but_take (f := 21) (i := 11) (v := ?vkdb11) rfl (by kernel_rfl) (by kernel_rfl) (by kernel_rfl) (by kernel_rfl) (by kernel_rfl) (fun _ _ _ h => h) (Or.inl ⟨((wanted_at rfl rfl rfl rfl).trans rfl), ?hykdb11⟩) (Below.refl _ _) ?restkdb11
                case hykdb11 =>
                  intro W hW
                  go_simp
                  exact rfl
                simp only [List.getElem_toArray, List.getElem_cons_succ, List.getElem_cons_zero, Act.put, List.setIfInBounds_toArray, List.set_cons_zero, List.set_cons_succ]
                refine but_take (f := 21) (i := 12) (v := ?vkdb12) rfl (by kernel_rfl) (by kernel_rfl) (by kernel_rfl) (by kernel_rfl) (by kernel_rfl) (fun _ _ _ h => h) (Or.inl ⟨((wanted_at rfl rfl rfl rfl).trans rfl), ?hykdb12⟩) (Below.refl _ _) ?restkdb12
                case hykdb12 =>
                  intro W hW
                  go_simp
                  exact rfl
                simp only [List.getElem_toArray, List.getElem_cons_succ, List.getElem_cons_zero, Act.put, List.setIfInBounds_toArray, List.set_cons_zero, List.set_cons_succ]
                refine but_take (f := 21) (i := 13) (v := ?vkdb13) rfl (by kernel_rfl) (by kernel_rfl) (by kernel_rfl) (by kernel_rfl) (by kernel_rfl) (fun _ _ _ h => h) (Or.inl ⟨((wanted_at rfl rfl rfl rfl).trans rfl), ?hykdb13⟩) (Below.refl _ _) ?restkdb13
                case hykdb13 =>
                  intro W hW
                  have hb0 : Below wr.heap.size wr W := bstep (Below.drew1 _) hW
                  have f1 := (HLO.out.on hb0).cellI hkL
                  have f2 := (HLO.out.on hb0).cellI hkP
                  go_simp
                  exact rfl
                simp only [List.getElem_toArray, List.getElem_cons_succ, List.getElem_cons_zero, Act.put, List.setIfInBounds_toArray, List.set_cons_zero, List.set_cons_succ]
                refine but_take (f := 21) (i := 14) (v := ?vkdb14) rfl (by kernel_rfl) (by kernel_rfl) (by kernel_rfl) (by kernel_rfl) (by kernel_rfl) (fun _ _ _ h => h) (Or.inl ⟨((wanted_at rfl rfl rfl rfl).trans rfl), ?hykdb14⟩) (Below.refl _ _) ?restkdb14
                case hykdb14 =>
                  intro W hW
                  go_simp
                  exact rfl
                simp only [List.getElem_toArray, List.getElem_cons_succ, List.getElem_cons_zero, Act.put, List.setIfInBounds_toArray, List.set_cons_zero, List.set_cons_succ]
                refine but_take (f := 21) (i := 15) (v := ?vkdb15) rfl (by kernel_rfl) (by kernel_rfl) (by kernel_rfl) (by kernel_rfl) (by kernel_rfl) (fun _ _ _ h => h) (Or.inl ⟨(by rfl), ?hykdb15⟩) (Below.refl _ _) ?restkdb15
                case hykdb15 =>
                  intro W hW
                  go_simp
                  exact rfl
                simp only [List.getElem_toArray, List.getElem_cons_succ, List.getElem_cons_zero, Act.put, List.setIfInBounds_toArray, List.set_cons_zero, List.set_cons_succ]
                refine but_take (f := 21) (i := 16) (v := ?vkdb16) rfl (by kernel_rfl) (by kernel_rfl) (by kernel_rfl) (by kernel_rfl) (by kernel_rfl) (fun _ _ _ h => h) (Or.inl ⟨(by rfl), ?hykdb16⟩) (Below.refl _ _) ?restkdb16
                case hykdb16 =>
                  intro W hW
                  go_simp
                  exact rfl
                simp only [List.getElem_toArray, List.getElem_cons_succ, List.getElem_cons_zero, Act.put, List.setIfInBounds_toArray, List.set_cons_zero, List.set_cons_succ]
                refine but_take (f := 21) (i := 17) (v := undef) rfl (by kernel_rfl) (by kernel_rfl) (by kernel_rfl) (by kernel_rfl) (by kernel_rfl) (fun _ _ _ h => h) (Or.inr ⟨((wanted_at rfl rfl rfl rfl).trans rfl), rfl⟩) (Below.refl _ _) ?_
                simp only [List.getElem_toArray, List.getElem_cons_succ, List.getElem_cons_zero, Act.put, List.setIfInBounds_toArray, List.set_cons_zero, List.set_cons_succ]
                refine but_take (f := 21) (i := 18) (v := undef) rfl (by kernel_rfl) (by kernel_rfl) (by kernel_rfl) (by kernel_rfl) (by kernel_rfl) (fun _ _ _ h => h) (Or.inr ⟨((wanted_at rfl rfl rfl rfl).trans rfl), rfl⟩) (Below.refl _ _) ?_
                simp only [List.getElem_toArray, List.getElem_cons_succ, List.getElem_cons_zero, Act.put, List.setIfInBounds_toArray, List.set_cons_zero, List.set_cons_succ]
                refine but_take (f := 21) (i := 19) (v := undef) rfl (by kernel_rfl) (by kernel_rfl) (by kernel_rfl) (by kernel_rfl) (by kernel_rfl) (fun _ _ _ h => h) (Or.inr ⟨((wanted_at rfl rfl rfl rfl).trans rfl), rfl⟩) (Below.refl _ _) ?_
                simp only [List.getElem_toArray, List.getElem_cons_succ, List.getElem_cons_zero, Act.put, List.setIfInBounds_toArray, List.set_cons_zero, List.set_cons_succ]
                refine but_take (f := 21) (i := 20) (v := undef) rfl (by kernel_rfl) (by kernel_rfl) (by kernel_rfl) (by kernel_rfl) (by kernel_rfl) (fun _ _ _ h => h) (Or.inr ⟨((wanted_at rfl rfl rfl rfl).trans rfl), rfl⟩) (Below.refl _ _) ?_
                simp only [List.getElem_toArray, List.getElem_cons_succ, List.getElem_cons_zero, Act.put, List.setIfInBounds_toArray, List.set_cons_zero, List.set_cons_succ]
                refine but_run (i := 21) (by kernel_rfl) rfl (by rfl) ?_
                simp only [List.getElem_toArray, List.getElem_cons_succ, List.getElem_cons_zero]
                intro K HK
                go_wp2_with fail
                refine HK.out _ wr.drew (fun h => absurd rfl h) ?_
                clear HK
                refine but_done (by kernel_rfl) ?_
                go_wp2_with fail
                go_ret
                exact ⟨ret_boolB HBAD.out.symm, bstep HB.out (bstep HX.out (bstep (Below.drew1 _) (Below.refl _ _)))⟩
          · have e : k = ts.length := by omega
            subst e
            go_wp2_with fail
            refine (specTreeKeys_any _ _ lo ts _ (HV.out.on HX.out) (by omega) (by omega)).mono ?_
            rintro e w2 ⟨v2, rfl, o2, b2⟩
            obtain ⟨A2, c2, rfl, _, _⟩ := o2.shape
            have HB2 := Lib.hid (bstep HB.out (bstep HX.out b2))
            clear o2 b2 x0 x1 x2
            go_wp2
            go_ret
            refine ⟨ret_boolB ?_, HB2.out⟩
            unfold treeOkB
            refine decide_eq_decide.2 ⟨fun h => ⟨H12.out.1, H12.out.2, H2.out, H3.out, fun j hj => HI2.out j (by omega), HI1.out, by omega⟩, fun h => by have := h.2.2.2.2.2.2; omega⟩
      · have d3 : (lo[0] != 0) = true := by simp [h3]
        have HBAD : Hid (treeOkB lo ts = false) := Lib.hid (tree_bad (fun h => h3 (by rw [← g0]; exact h.2.2.2.1)))
        clear hc g0 h3 d1 h1 h2
        go_wp2
        go_ret
        exact ⟨ret_boolB HBAD.out.symm, HB.out⟩
    · have d2 : ((lo.length : Int) != (ts.length : Int)) = true := by simp; omega
      have HBAD : Hid (treeOkB lo ts = false) := Lib.hid (tree_bad (fun h => h2 h.2.2.1))
      clear d1 h1 h2
      go_wp2
      go_ret
      exact ⟨ret_boolB HBAD.out.symm, HB.out⟩
  · have d1 : (decide ((1 : Int) ≤ (ts.length : Int)) && decide ((ts.length : Int) ≤ 20)) = false := by
      rcases Nat.lt_or_ge ts.length 1 with h | h
      · rw [decide_eq_false (by omega)]; rfl
      · rw [decide_eq_false (show ¬ (ts.length : Int) ≤ 20 by omega), Bool.and_false]
    rw [d1]
    have HBAD : Hid (treeOkB lo ts = false) := Lib.hid (tree_bad (fun h => h1 ⟨h.1, h.2.1⟩))
    clear d1 h1
    go_wp2
    go_ret
    exact ⟨ret_boolB HBAD.out.symm, HB.out⟩
end Go.Proofs.YtpfepcjbhchpcaaGreat
namespace Go.Proofs.YtpfepcjbhchpcaaGreat
open Go.RowKit
set_option maxRecDepth 100000
set_option linter.unusedSimpArgs false
set_option linter.unusedVariables false

def ltV (x y : VolD) : Bool := Go.Op.bytesLess x.a.toList y.a.toList
def ascB (l : List VolD) : Bool := decide (∀ i (h : i < l.length - 1), ltV (l[i]'(by omega)) (l[i + 1]'(by omega)) = true)
def sizeB (n : Int) : Bool := decide (1 ≤ n) && decide (n ≤ 12)
def kidlessB (d : PoolD) (id : Int) : Bool := decide (0 ≤ ageAtK d.ag id) && decide ((kidsK d.ag id).length = 0)
def ownB (d : PoolD) (id : Int) : Bool := kidlessB d id && decide (usesK id d.vo = 1)
def okV (d : PoolD) (v : VolD) : Bool := nameOkB v.a && sizeB v.c && ownB d v.b
def volsB (d : PoolD) : Bool := decide (d.vo.length ≤ 6) && ascB d.vo && d.vo.all (okV d)
def nextB (d : PoolD) : Bool := (decide (1 ≤ d.nx) && decide (d.nx ≤ 61)) && d.ag.all (fun a => decide (a.a < d.nx))
def refsK (l : List KeyD) : List KeyD := l.filter (fun k => k.c == 1)
def agesB (d : PoolD) : Bool := (treeKeysK d.ts).all (fun k => decide (0 ≤ ageAtK d.ag k.b))
def cellsB (d : PoolD) : Bool := (refsK (treeKeysK d.ts)).all (fun k => cellB d.ce k.d k.e) && decide (((refsK (treeKeysK d.ts)).map (·.d)).Nodup) && decide ((refsK (treeKeysK d.ts)).length = usedK d.ce)
def poolOkB (d : PoolD) : Bool := treeOkB d.lo d.ts && agesOkB d.ag && celsOkB d.ce && nextB d && volsB d && agesB d && cellsB d
theorem uses_two {l : List VolD} {i j : Nat} (hij : i < j) (hj : j < l.length) (h : (l[i]'(by omega)).b = (l[j]).b) : usesK (l[j]).b l ≠ 1 := by
  unfold usesK
  have e : l.countP (fun k => k.b == (l[j]).b) = (l.take j).countP (fun k => k.b == (l[j]).b) + (l.drop j).countP (fun k => k.b == (l[j]).b) := by
    rw [← List.countP_append, List.take_append_drop]
  have h1 : 0 < (l.take j).countP (fun k => k.b == (l[j]).b) := by
    rw [List.countP_pos_iff]
    exact ⟨l[i], List.mem_take_iff_getElem.2 ⟨i, by omega, rfl⟩, by simp [h]⟩
  have h2 : 0 < (l.drop j).countP (fun k => k.b == (l[j]).b) := by
    rw [List.countP_pos_iff]
    refine ⟨l[j], ?_, by simp⟩
    rw [vol_drop hj]
    exact List.mem_cons_self
  omega
theorem uses_one {l : List VolD} (h : ∀ i j (hij : i < j) (hj : j < l.length), (l[i]'(by omega)).b ≠ (l[j]).b) {i : Nat} (hi : i < l.length) : usesK (l[i]).b l = 1 := by
  unfold usesK
  have e : l.countP (fun k => k.b == (l[i]).b) = (l.take i).countP (fun k => k.b == (l[i]).b) + (l.drop i).countP (fun k => k.b == (l[i]).b) := by
    rw [← List.countP_append, List.take_append_drop]
  have h1 : (l.take i).countP (fun k => k.b == (l[i]).b) = 0 := by
    rw [List.countP_eq_zero]
    intro a ha
    obtain ⟨j, hj, rfl⟩ := List.mem_take_iff_getElem.1 ha
    have := h j i (by omega) hi
    simpa using this
  have h2 : (l.drop (i + 1)).countP (fun k => k.b == (l[i]).b) = 0 := by
    rw [List.countP_eq_zero]
    intro a ha
    obtain ⟨j, hj, rfl⟩ := List.mem_iff_getElem.1 ha
    rw [List.length_drop] at hj
    have := h i (i + 1 + j) (by omega) (by omega)
    rw [List.getElem_drop]
    simp
    exact fun h => this h.symm
  rw [e, h1, vol_drop hi, List.countP_cons, h2]
  simp
/-- What the model asks of the volume in place i. -/
def fitV (d : PoolD) (i : Nat) (h : i < d.vo.length) : Prop := nameOkB (d.vo[i]).a = true ∧ sizeB (d.vo[i]).c = true ∧ kidlessB d (d.vo[i]).b = true ∧ (∀ j (hj : j + 1 = i), ltV (d.vo[j]'(by omega)) d.vo[i] = true) ∧ ∀ j (hj : j < i), (d.vo[j]'(by omega)).b ≠ (d.vo[i]).b
theorem vols_fit {d : PoolD} (h : volsB d = true) {i : Nat} (hi : i < d.vo.length) : fitV d i hi := by
  unfold volsB at h
  simp only [Bool.and_eq_true, decide_eq_true_eq] at h
  obtain ⟨⟨_, ha⟩, hall⟩ := h
  have hv := List.all_eq_true.1 hall _ (List.getElem_mem hi)
  unfold okV ownB at hv
  simp only [Bool.and_eq_true, decide_eq_true_eq] at hv
  obtain ⟨⟨h1, h2⟩, h3, h4⟩ := hv
  refine ⟨h1, h2, h3, ?_, ?_⟩
  · rintro j rfl
    unfold ascB at ha
    exact of_decide_eq_true ha j (by omega)
  · intro j hj he
    exact uses_two hj hi he h4
theorem fit_vols {d : PoolD} (h : ∀ i (hi : i < d.vo.length), fitV d i hi) : volsB d = decide (d.vo.length ≤ 6) := by
  have h1 : ascB d.vo = true := by
    unfold ascB
    exact decide_eq_true (fun i hi => (h (i + 1) (by omega)).2.2.2.1 i rfl)
  have h2 : d.vo.all (okV d) = true := by
    rw [List.all_eq_true]
    intro v hv
    obtain ⟨i, hi, rfl⟩ := List.mem_iff_getElem.1 hv
    obtain ⟨a, b, c, _, _⟩ := h i hi
    unfold okV ownB
    rw [a, b, c, uses_one (fun i j hij hj => (h j hj).2.2.2.2 i hij) hi]
    rfl
  unfold volsB
  rw [h1, h2]
  simp
theorem unfit {d : PoolD} {i : Nat} (hi : i < d.vo.length) (h : ¬ fitV d i hi) : volsB d = false := by
  cases hv : volsB d
  · rfl
  · exact absurd (vols_fit hv hi) h
theorem okV_miss {d : PoolD} {i : Nat} (hi : i < d.vo.length) (h : okV d d.vo[i] = false) : volsB d = false := by
  have : d.vo.all (okV d) = false := by
    rw [List.all_eq_false]
    exact ⟨_, List.getElem_mem hi, by rw [h]; simp⟩
  unfold volsB
  rw [this, Bool.and_false]
theorem okV_step {d : PoolD} {k : Nat} (hi : k < d.vo.length) (h : ∀ j (hj : j < k) (hl : j < d.vo.length), okV d d.vo[j] = true) (h2 : okV d d.vo[k] = true) : ∀ j (hj : j < k + 1) (hl : j < d.vo.length), okV d d.vo[j] = true := by
  intro j hj hl
  by_cases h3 : j < k
  · exact h j h3 hl
  · have : j = k := by omega
    subst this
    exact h2
theorem okV_all {d : PoolD} (h : ∀ j (hl : j < d.vo.length), okV d d.vo[j] = true) : d.vo.all (okV d) = true := by
  rw [List.all_eq_true]
  intro v hv
  obtain ⟨i, hi, rfl⟩ := List.mem_iff_getElem.1 hv
  exact h i hi
theorem fitV_step {d : PoolD} {k : Nat} (hi : k < d.vo.length) (h : ∀ j (hj : j < k) (hl : j < d.vo.length), fitV d j hl) (h2 : fitV d k hi) : ∀ j (hj : j < k + 1) (hl : j < d.vo.length), fitV d j hl := by
  intro j hj hl
  by_cases h3 : j < k
  · exact h j h3 hl
  · have : j = k := by omega
    subst this
    exact h2
/-- The keys ahead of place i that refer to cells. -/
theorem refs_snoc {l : List KeyD} {k : Nat} (h : k < l.length) : refsK (l.take (k + 1)) = refsK (l.take k) ++ (if ((l[k]).c == 1) = true then [l[k]] else []) := by
  unfold refsK
  rw [List.take_succ_eq_append_getElem h, List.filter_append]
  simp [List.filter_cons]
theorem refs_mem {l : List KeyD} {k : Nat} {x : Int} : x ∈ (refsK (l.take k)).map (·.d) ↔ ∃ j, ∃ hj : j < l.length, j < k ∧ (l[j]).c = 1 ∧ (l[j]).d = x := by
  unfold refsK
  simp only [List.mem_map, List.mem_filter, beq_iff_eq]
  constructor
  · rintro ⟨y, ⟨hy, hc⟩, hd⟩
    obtain ⟨j, hj, rfl⟩ := List.mem_take_iff_getElem.1 hy
    exact ⟨j, by omega, by omega, hc, hd⟩
  · rintro ⟨j, hj, hk, hc, hd⟩
    exact ⟨l[j], ⟨List.mem_take_iff_getElem.2 ⟨j, by omega, rfl⟩, hc⟩, hd⟩
theorem refs_sub {l : List KeyD} (k : Nat) : (refsK (l.take k)).Sublist (refsK l) := (List.take_sublist k l).filter _
theorem refs_len (l : List KeyD) : (refsK l).length ≤ l.length := List.length_filter_le _ _
theorem nodup_snoc {l : List Int} {x : Int} (h : l.Nodup) (hx : x ∉ l) : (l ++ [x]).Nodup := by
  rw [List.nodup_append]
  refine ⟨h, by simp, ?_⟩
  intro a ha b hb e
  simp at hb
  subst hb
  subst e
  exact hx ha
theorem cells_miss1 {d : PoolD} {k : KeyD} (hk : k ∈ refsK (treeKeysK d.ts)) (h : cellB d.ce k.d k.e = false) : cellsB d = false := by
  have : (refsK (treeKeysK d.ts)).all (fun k => cellB d.ce k.d k.e) = false := by
    rw [List.all_eq_false]
    exact ⟨k, hk, by rw [h]; simp⟩
  unfold cellsB
  rw [this]
  rfl
theorem cells_miss2 {d : PoolD} (h : ¬ ((refsK (treeKeysK d.ts)).map (·.d)).Nodup) : cellsB d = false := by
  unfold cellsB
  rw [decide_eq_false h, Bool.and_false]
  rfl
theorem cells_end {d : PoolD} (h : ∀ k ∈ refsK (treeKeysK d.ts), cellB d.ce k.d k.e = true) (h2 : ((refsK (treeKeysK d.ts)).map (·.d)).Nodup) : cellsB d = decide ((refsK (treeKeysK d.ts)).length = usedK d.ce) := by
  unfold cellsB
  rw [List.all_eq_true.2 h, decide_eq_true h2]
  rfl
theorem cell_nat {l : List CelD} {i g : Int} (h : cellB l i g = true) : 0 ≤ i := by
  unfold cellB hasC at h
  simp only [Bool.and_eq_true, decide_eq_true_eq] at h
  exact h.1.1.1
end Go.Proofs.YtpfepcjbhchpcaaGreat
namespace Go.Proofs.YtpfepcjbhchpcaaGreat
open Go.RowKit
set_option maxRecDepth 100000
set_option linter.unusedSimpArgs false
set_option linter.unusedVariables false

/-- What the region of spec.l5Copy reads: two boxes and an element. -/
def NC1 (p1 b1 : Nat) (o1 : Nat) (v1 e1 : Value) (p3 : Nat) (v3 : Value) (W : World) : Prop := W.cell? ⟨p1, 0, none⟩ = some v1 ∧ W.cell? ⟨b1, o1, none⟩ = some e1 ∧ W.cell? ⟨p3, 0, none⟩ = some v3
theorem NC1.on {p1 b1 o1 : Nat} {v1 e1 : Value} {p3 : Nat} {v3 : Value} {wr W : World} (h : NC1 p1 b1 o1 v1 e1 p3 v3 wr) (hb : Below wr.heap.size wr W) : NC1 p1 b1 o1 v1 e1 p3 v3 W :=
  have k : ∀ (b o : Nat) (v : Value), wr.cell? ⟨b, o, none⟩ = some v → W.cell? ⟨b, o, none⟩ = some v := fun b o _ hc => (World.cell?_of_block (a := ⟨b, o, none⟩) (hb.block b (World.block_lt_of_cell? wr _ hc))).trans hc
  ⟨k _ _ _ h.1, k _ _ _ h.2.1, k _ _ _ h.2.2⟩
theorem NC1.grown {p1 b1 o1 : Nat} {v1 e1 : Value} {p3 : Nat} {v3 : Value} {wr W : World} {g : Option Nat} (h : NC1 p1 b1 o1 v1 e1 p3 v3 wr) (hg : wr.grownBy W g) (h1 : g ≠ some p1) (h2 : g ≠ some b1) (h3 : g ≠ some p3) : NC1 p1 b1 o1 v1 e1 p3 v3 W :=
  have k : ∀ (b o : Nat) (v : Value), g ≠ some b → wr.cell? ⟨b, o, none⟩ = some v → W.cell? ⟨b, o, none⟩ = some v := fun b o _ hn hc => (World.cell?_of_block (a := ⟨b, o, none⟩) (hg.block b (World.block_lt_of_cell? wr _ hc) (fun e => hn e.symm))).trans hc
  ⟨k _ _ _ h1 h.1, k _ _ _ h2 h.2.1, k _ _ _ h3 h.2.2⟩
end Go.Proofs.YtpfepcjbhchpcaaGreat
namespace Go.Proofs.YtpfepcjbhchpcaaGreat
open Go.RowKit
set_option maxRecDepth 100000
set_option linter.unusedSimpArgs false
set_option linter.unusedVariables false
theorem Reads.atI {w : World} {B : Nat} {A : Option Addr} {n c : Nat} {lo : List Int} (h : Reads w B (.slice A n c) (intsD lo)) : At w A (lo.map iV) := by
  obtain ⟨xs, hat, hrs, _⟩ := h.cells
  rw [← lits_eq hrs]
  exact hat
/-- What the region of spec.l6Copy reads. -/
def NC2 (p1 b1 o1 : Nat) (v1 e1 : Value) (p3 : Nat) (v3 : Value) (W : World) : Prop := W.cell? ⟨p1, 1, none⟩ = some v1 ∧ W.cell? ⟨b1, o1, none⟩ = some e1 ∧ W.cell? ⟨p3, 1, none⟩ = some v3
theorem NC2.on {p1 b1 o1 : Nat} {v1 e1 : Value} {p3 : Nat} {v3 : Value} {wr W : World} (h : NC2 p1 b1 o1 v1 e1 p3 v3 wr) (hb : Below wr.heap.size wr W) : NC2 p1 b1 o1 v1 e1 p3 v3 W :=
  have k : ∀ (b o : Nat) (v : Value), wr.cell? ⟨b, o, none⟩ = some v → W.cell? ⟨b, o, none⟩ = some v := fun b o _ hc => (World.cell?_of_block (a := ⟨b, o, none⟩) (hb.block b (World.block_lt_of_cell? wr _ hc))).trans hc
  ⟨k _ _ _ h.1, k _ _ _ h.2.1, k _ _ _ h.2.2⟩
theorem NC2.grown {p1 b1 o1 : Nat} {v1 e1 : Value} {p3 : Nat} {v3 : Value} {wr W : World} {g : Option Nat} (h : NC2 p1 b1 o1 v1 e1 p3 v3 wr) (hg : wr.grownBy W g) (h1 : g ≠ some p1) (h2 : g ≠ some b1) (h3 : g ≠ some p3) : NC2 p1 b1 o1 v1 e1 p3 v3 W :=
  have k : ∀ (b o : Nat) (v : Value), g ≠ some b → wr.cell? ⟨b, o, none⟩ = some v → W.cell? ⟨b, o, none⟩ = some v := fun b o _ hn hc => (World.cell?_of_block (a := ⟨b, o, none⟩) (hg.block b (World.block_lt_of_cell? wr _ hc) (fun e => hn e.symm))).trans hc
  ⟨k _ _ _ h1 h.1, k _ _ _ h2 h.2.1, k _ _ _ h3 h.2.2⟩
theorem Below.of {B : Nat} {a b c : World} (h : Below B a b) (k : Below b.heap.size b c) (hB : B ≤ b.heap.size) : Below B a c := h.trans (k.mono hB)
end Go.Proofs.YtpfepcjbhchpcaaGreat
namespace Go.Proofs.YtpfepcjbhchpcaaGreat
open Go.RowKit
set_option maxRecDepth 100000
set_option linter.unusedSimpArgs false
set_option linter.unusedVariables false

/-- u is a row of sets in blocks from base on, none of them bo. -/
def NOwn (w : World) (base bo : Nat) (u : Value) (ns : List (List KeyD)) : Prop :=
  ∃ xs, w.ownsRow base 54 1 u ns.length xs ∧ OwnsL w (fun b => (base ≤ b ∧ b ≠ bo) ∧ u.ownBlock ≠ some b) xs (ns.map keysD) ∧ u.ownBlock ≠ some bo
theorem NOwn.of {w : World} {base : Nat} {u : Value} {ns : List (List KeyD)} (h : Owns w (fun b => base ≤ b) u (setsD ns)) (o : Obj) : NOwn (w.alloc o) base w.heap.size u ns := by
  rcases h.rw' with ⟨rfl, h0, hc⟩ | ⟨g, cap, xs, rfl, hS, hR, hn, hc, hl, hx, ho⟩
  · have : ns = [] := List.length_eq_zero_iff.1 h0
    subst this
    exact ⟨[], row_nil _ _ _ _, OwnsL.nil _ _, by simp [Value.ownBlock]⟩
  · have hlt := hR.lt
    refine ⟨xs, row_on (hR.row hS hn hc (by simpa using hx)) (bal1 _ _), ?_, by simp [Value.ownBlock]; omega⟩
    exact (ho.lt.on (bal1 w o)).mono (fun b hb => ⟨⟨hb.1.1, by omega⟩, fun e => hb.1.2 (by simp [Value.ownBlock] at e; exact e.symm)⟩)
theorem NOwn.on {w w' : World} {base bo : Nat} {u : Value} {ns : List (List KeyD)} (h : NOwn w base bo u ns) (hb : Below w.heap.size w w') : NOwn w' base bo u ns := by
  obtain ⟨xs, h1, h2, h3⟩ := h
  exact ⟨xs, row_on h1 hb, h2.on hb, h3⟩
theorem rowP_owns {P : Nat → Prop} {w : World} {base e z n : Nat} {v : Value} {xs : List Value} {cs : List Dat} (h : w.ownsRow base e z v n xs) (ho : OwnsL w (fun b => P b ∧ v.ownBlock ≠ some b) xs cs) (hP : ∀ g, v.ownBlock = some g → P g) (hl : cs.length = n * z) : Owns w P v (.row e z n cs) := by
  rcases row_cases h with ⟨rfl, rfl, rfl⟩ | ⟨g, cap, rfl, hb, hR, hn, hc, _⟩
  · have : cs = [] := List.length_eq_zero_iff.1 (by simpa using hl)
    subst this
    exact .nil _ _ _
  · exact hR.owns (hP g rfl) (ho.mono (fun b hb => ⟨hb.1, fun e => hb.2 (by rw [e]; rfl)⟩)) hn hc hl
theorem NOwn.owns {w : World} {base bo : Nat} {u : Value} {ns : List (List KeyD)} (h : NOwn w base bo u ns) : Owns w (fun b => base ≤ b ∧ b ≠ bo) u (setsD ns) := by
  obtain ⟨xs, h1, h2, h3⟩ := h
  exact rowP_owns h1 h2 (fun g hg => ⟨(row_lt h1 g hg).2, fun e => h3 (by rw [← e]; exact hg)⟩) (by simp)
theorem OwnsL.setN {w : World} {S T : Nat → Prop} {vs : List Value} {cs : List Dat} {i : Nat} {u : Value} {c : Dat} (h : OwnsL w S vs cs) (hu : Owns w T u c) (hd : ∀ b, S b → ¬ T b) : OwnsL w (fun b => S b ∨ T b) (vs.set i u) (cs.set i c) := by
  obtain ⟨hl, F, ho, hF, hj⟩ := h
  refine ⟨by simp [hl], fun j b => (j = i ∧ T b) ∨ (j ≠ i ∧ F j b), fun j a b => ?_, fun j b hb => ?_, fun j k b hjk hb hb' => ?_⟩
  · simp only [List.length_set] at a b
    by_cases hij : i = j
    · subst hij; rw [List.getElem_set_self, List.getElem_set_self]; exact hu.mono (fun b hb => .inl ⟨rfl, hb⟩)
    · rw [List.getElem_set_ne hij, List.getElem_set_ne hij]; exact (ho j a b).mono (fun b hb => .inr ⟨Ne.symm hij, hb⟩)
  · rcases hb with ⟨_, hb⟩ | ⟨_, hb⟩
    · exact .inr hb
    · exact .inl (hF j b hb)
  · rcases hb with ⟨h1, hb⟩ | ⟨h1, hb⟩ <;> rcases hb' with ⟨h2, hb'⟩ | ⟨h2, hb'⟩
    · omega
    · exact hd b (hF k b hb') hb
    · exact hd b (hF j b hb) hb'
    · exact hj j k b hjk hb hb'
theorem NOwn.put {w w' : World} {base bo g cap : Nat} {ns : List (List KeyD)} {x : Value} {l : List KeyD} {i : Nat} (h : NOwn w base bo (.slice (some ⟨g, 0, none⟩) ns.length cap) ns) (hi : i < ns.length) (hb : Below w.heap.size w w') (hx : RowK w' w.heap.size x l) (hbo : bo < w.heap.size) (hbase : base ≤ w.heap.size) :
    NOwn (w'.setCell ⟨g, i, none⟩ x) base bo (.slice (some ⟨g, 0, none⟩) ns.length cap) (ns.set i l) := by
  obtain ⟨xs, h1, h2, h3⟩ := h
  have hg := (row_lt h1 g rfl).1
  refine ⟨xs.set i x, ?_, ?_, h3⟩
  · have h := row_set (row_on h1 hb) i x
    rw [List.length_set]
    exact h
  · have k1 := (h2.lt.on hb).setN (i := i) hx.owns (fun b hb hb' => by have := hb.2; omega)
    rw [List.map_set]
    refine OwnsL.mono (k1.keep (w' := w'.setCell ⟨g, i, none⟩ x) (fun b hb _ => Below.heap_setCell _ _ _ _ ?_)) ?_
    · rintro rfl
      rcases hb with hb | hb
      · exact hb.1.2 rfl
      · omega
    · rintro b (hb | hb)
      · exact hb.1
      · exact ⟨⟨by omega, by omega⟩, by simp [Value.ownBlock]; omega⟩
end Go.Proofs.YtpfepcjbhchpcaaGreat
namespace Go.Proofs.YtpfepcjbhchpcaaGreat
open Go.RowKit
set_option maxRecDepth 100000
set_option linter.unusedSimpArgs false
set_option linter.unusedVariables false

/-- Owned cells, parted. -/
theorem OwnsL.split {w : World} {S : Nat → Prop} {vs : List Value} {cs : List Dat} (h : OwnsL w S vs cs) (i : Nat) : ∃ S1 S2 : Nat → Prop, OwnsL w S1 (vs.take i) (cs.take i) ∧ OwnsL w S2 (vs.drop i) (cs.drop i) ∧ (∀ b, S1 b → S b) ∧ (∀ b, S2 b → S b) ∧ ∀ b, S1 b → ¬ S2 b := by
  obtain ⟨hl, F, ho, hF, hd⟩ := h
  refine ⟨fun b => ∃ k, k < i ∧ F k b, fun b => ∃ k, i ≤ k ∧ F k b, ⟨by simp [hl], fun k b => k < i ∧ F k b, fun k a b => ?_, fun k b h => ⟨k, h⟩, fun k j b hkj h1 h2 => hd k j b hkj h1.2 h2.2⟩, ⟨by simp [hl], fun k b => F (i + k) b, fun k a b => ?_, fun k b h => ⟨i + k, by omega, h⟩, fun k j b hkj h1 h2 => hd _ _ b (by omega) h1 h2⟩, fun b ⟨k, _, h⟩ => hF k b h, fun b ⟨k, _, h⟩ => hF k b h, fun b ⟨k, h1, h2⟩ ⟨j, h3, h4⟩ => hd k j b (by omega) h2 h4⟩
  · simp only [List.length_take] at a b
    rw [List.getElem_take, List.getElem_take]
    exact (ho k (by omega) (by omega)).mono (fun b hb => ⟨by omega, hb⟩)
  · simp only [List.length_drop] at a b
    rw [List.getElem_drop, List.getElem_drop]
    exact ho (i + k) (by omega) (by omega)
/-- The tail of a row, as slicing spells its address. -/
def tailA (A : Option Addr) (c j : Nat) : Option Addr := if c = j then A else A.map (fun a => a.add j)
theorem At.tailV {w : World} {A : Option Addr} {xs : List Value} (h : At w A xs) {c j : Nat} (hc : xs.length ≤ c) : At w (tailA A c j) (xs.drop j) := by
  unfold tailA
  split
  · exact .inl (List.drop_eq_nil_of_le (by omega))
  · rcases h with rfl | ⟨b, off, rfl, hcell⟩
    · exact .inl (by simp)
    · refine .inr ⟨b, off + j, by rw [Option.map_some, Addr.add_lit], fun k hk => ?_⟩
      simp only [List.length_drop] at hk
      rw [List.getElem_drop, ← hcell (j + k) (by omega), Nat.add_assoc]
theorem run_tailI {w : World} (A : Option Addr) (n c j : Nat) (h1 : j ≤ n) (h2 : n ≤ c) : (Instr.slice 22 (.slice A n c) (some (.int .i64 (j : Int))) none none).run Tryz.prog w = .ok (.slice (tailA A c j) (n - j) (c - j)) w := by
  obtain ⟨i, hi, h0, h3, h4⟩ := info_parts int_info
  have e1 : (0 : Int) ≤ (j : Int) := by omega
  have e2 : (j : Int) ≤ (n : Int) := by omega
  simp [Instr.slice, Instr.sliceBounds, Instr.sliceBound, run_underlying Tryz.underlying22, sizeOf, typeInfo, hi, h3, tailA, e2, go_sem]
  intro h; omega
end Go.Proofs.YtpfepcjbhchpcaaGreat
namespace Go.Proofs.YtpfepcjbhchpcaaGreat
open Go.RowKit
set_option maxRecDepth 100000
set_option linter.unusedSimpArgs false
set_option linter.unusedVariables false

/-- The keys of a block. -/
def keysOfK (ts : List NodeD) (p : Int) : List KeyD := (treeKeysK ts).filter (fun k => k.a == p)
theorem keysOf_len (ts : List NodeD) (p : Int) : (keysOfK ts p).length ≤ sumT ts := Nat.le_trans (List.length_filter_le _ _) (treeKeys_len ts)
end Go.Proofs.YtpfepcjbhchpcaaGreat
namespace Go.Proofs.YtpfepcjbhchpcaaGreat
open Go.RowKit
set_option maxRecDepth 100000
set_option linter.unusedSimpArgs false
set_option linter.unusedVariables false

/-- What a loop that appends versions to a row of its own holds on to. -/
def GrowG (w wr : World) (o : Value) (m : List AgeD) : Prop := RowG wr w.heap.size o m ∧ Below w.heap.size w wr
theorem GrowG.on {w wr w' : World} {o : Value} {m : List AgeD} (h : GrowG w wr o m) (hb : Below wr.heap.size wr w') : GrowG w w' o m := ⟨h.1.on hb, bstep h.2 hb⟩
end Go.Proofs.YtpfepcjbhchpcaaGreat
namespace Go.Proofs.YtpfepcjbhchpcaaGreat
open Go.RowKit
set_option maxRecDepth 100000
set_option linter.unusedSimpArgs false
set_option linter.unusedVariables false

set_option maxHeartbeats 4000000 in
theorem implAgesOk_any (v : Value) (l : List AgeD) (w : World) (hv : Reads w w.heap.size v (agesD l)) (hn : l.length ≤ 2097152) : Calls Tryz.prog 74 #[v] w (SaysBool w (agesOkB l)) := by
  obtain ⟨A, c, rfl, hcap, hmax⟩ := hv.shapeG
  have HK := Lib.hid (ageSet_any A l.length c)
  have HA := Lib.hid (fun w => ascendingG_any (.slice A l.length c) l w)
  unfold lessVG at HK HA
  obtain ⟨R, hR⟩ : ∃ R, agesOkB l = R := ⟨_, rfl⟩
  rw [hR]
  have HR := Lib.hid hR
  have HV := Lib.hid hv
  clear hv hR
  by_cases h16 : l.length ≤ 16
  · have d0 : decide ((16 : Int) < (l.length : Int)) = false := decide_eq_false (by omega)
    go_enter Tryz.func74, Tryz.ntmps74
    go_wp2
    go_loopw [3, 4, 10] (fun _ _ i wr => ∃ k : Nat, k ≤ l.length ∧ i = .int .i64 k ∧ Hid (∀ j, j < k → fitG l j = true) ∧ Hid (Below w.heap.size w wr)) (fun _ _ i _ => l.length - (intOf i).toNat)
    case atStart => exact ⟨0, Nat.zero_le _, rfl, Lib.hid (fun j h => by omega), Lib.hid (Below.refl _ _)⟩
    case round =>
      clear d0
      obtain ⟨k, hk, rfl, HI, HW⟩ := hrel
      have hzr := HW.out.size
      by_cases hlt : k < l.length
      · have HTK := Lib.hid (((HV.out.on HW.out).on (bal1 wr (.cells #[.int .i64 (l[k]).a, .int .i64 (l[k]).b] 61))).takeG k hk)
        obtain ⟨b, off, rfl, hbb, hc⟩ := (HV.out.on HW.out).ages hlt
        have i1 : (k : Int) < (l.length : Int) := by omega
        have i2 : (0 : Int) ≤ (k : Int) := by omega
        have i3 : (k : Int) ≤ (c : Int) := by omega
        have i4 : k ≤ c := by omega
        obtain ⟨c0, c1⟩ := hc k hlt
        have QA := Lib.hid (al1 wr (.cells #[.int .i64 (l[k]).a, .int .i64 (l[k]).b] 61))
        have BA := Lib.hid (HW.out.trans ((bal1 wr (.cells #[.int .i64 (l[k]).a, .int .i64 (l[k]).b] 61)).mono hzr))
        have hfit := gfit_at hlt
        clear hc
        go_upto_region 6 with (fail)
        clear c0 c1
        generalize wr.alloc (.cells #[.int .i64 (l[k]).a, .int .i64 (l[k]).b] 61) = wa at *
        by_cases p1 : (l[k]).a < 1
        · have HF : Hid (fitG l k = false) := Lib.hid (by rw [hfit, show idG (l[k]).a = false by simp [idG]; omega]; rfl)
          have d1 : decide ((l[k]).a < 1) = true := decide_eq_true p1
          clear p1 hfit
          refine but_begin (f := 16) (S := fun V => Below wa.drew.heap.size wa.drew V) (by kernel_rfl) ?_
          refine but_take (f := 16) (i := 0) (v := ?via0) rfl (by kernel_rfl) (by kernel_rfl) (by kernel_rfl) (by kernel_rfl) (by kernel_rfl) (fun _ _ _ h => h) (Or.inl ⟨(by rfl), ?hyia0⟩) (Below.refl _ _) ?restia0
          case hyia0 =>
            intro W hW
            go_simp
            exact rfl
          simp only [List.getElem_toArray, List.getElem_cons_succ, List.getElem_cons_zero, Act.put, List.setIfInBounds_toArray, List.set_cons_zero, List.set_cons_succ]
          refine but_take (f := 16) (i := 1) (v := ?via1) rfl (by kernel_rfl) (by kernel_rfl) (by kernel_rfl) (by kernel_rfl) (by kernel_rfl) (fun _ _ _ h => h) (Or.inl ⟨(by rfl), ?hyia1⟩) (Below.refl _ _) ?restia1
          case hyia1 =>
            intro W hW
            have hb0 : Below wa.heap.size wa W := bstep (Below.drew1 _) hW
            obtain ⟨y0, y1, y2⟩ := box2 (box_on QA.out hb0)
            go_simp
            exact rfl
          simp only [List.getElem_toArray, List.getElem_cons_succ, List.getElem_cons_zero, Act.put, List.setIfInBounds_toArray, List.set_cons_zero, List.set_cons_succ]
          refine but_take (f := 16) (i := 2) (v := ?via2) rfl (by kernel_rfl) (by kernel_rfl) (by kernel_rfl) (by kernel_rfl) (by kernel_rfl) (fun _ _ _ h => h) (Or.inl ⟨(by rfl), ?hyia2⟩) (Below.refl _ _) ?restia2
          case hyia2 =>
            intro W hW
            go_simp
            exact rfl
          simp only [List.getElem_toArray, List.getElem_cons_succ, List.getElem_cons_zero, Act.put, List.setIfInBounds_toArray, List.set_cons_zero, List.set_cons_succ]
          refine but_take (f := 16) (i := 3) (v := ?via3) rfl (by kernel_rfl) (by kernel_rfl) (by kernel_rfl) (by kernel_rfl) (by kernel_rfl) (fun _ _ _ h => h) (Or.inl ⟨(by rfl), ?hyia3⟩) (Below.refl _ _) ?restia3
          case hyia3 =>
            intro W hW
            go_simp
            exact rfl
          simp only [List.getElem_toArray, List.getElem_cons_succ, List.getElem_cons_zero, Act.put, List.setIfInBounds_toArray, List.set_cons_zero, List.set_cons_succ]
          refine but_take (f := 16) (i := 4) (v := undef) rfl (by kernel_rfl) (by kernel_rfl) (by kernel_rfl) (by kernel_rfl) (by kernel_rfl) (fun _ _ _ h => h) (Or.inr ⟨((wanted_at rfl rfl rfl rfl).trans rfl), rfl⟩) (Below.refl _ _) ?_
          simp only [List.getElem_toArray, List.getElem_cons_succ, List.getElem_cons_zero, Act.put, List.setIfInBounds_toArray, List.set_cons_zero, List.set_cons_succ]
          refine but_take (f := 16) (i := 5) (v := undef) rfl (by kernel_rfl) (by kernel_rfl) (by kernel_rfl) (by kernel_rfl) (by kernel_rfl) (fun _ _ _ h => h) (Or.inr ⟨((wanted_at rfl rfl rfl rfl).trans rfl), rfl⟩) (Below.refl _ _) ?_
          simp only [List.getElem_toArray, List.getElem_cons_succ, List.getElem_cons_zero, Act.put, List.setIfInBounds_toArray, List.set_cons_zero, List.set_cons_succ]
          refine but_take (f := 16) (i := 6) (v := undef) rfl (by kernel_rfl) (by kernel_rfl) (by kernel_rfl) (by kernel_rfl) (by kernel_rfl) (fun _ _ _ h => h) (Or.inr ⟨((wanted_at rfl rfl rfl rfl).trans rfl), rfl⟩) (Below.refl _ _) ?_
          simp only [List.getElem_toArray, List.getElem_cons_succ, List.getElem_cons_zero, Act.put, List.setIfInBounds_toArray, List.set_cons_zero, List.set_cons_succ]
          refine but_take (f := 16) (i := 7) (v := ?via7) rfl (by kernel_rfl) (by kernel_rfl) (by kernel_rfl) (by kernel_rfl) (by kernel_rfl) (fun _ _ _ h => h) (Or.inl ⟨(by rfl), ?hyia7⟩) (Below.refl _ _) ?restia7
          case hyia7 =>
            intro W hW
            go_simp
            exact rfl
          simp only [List.getElem_toArray, List.getElem_cons_succ, List.getElem_cons_zero, Act.put, List.setIfInBounds_toArray, List.set_cons_zero, List.set_cons_succ]
          refine but_take (f := 16) (i := 8) (v := ?via8) rfl (by kernel_rfl) (by kernel_rfl) (by kernel_rfl) (by kernel_rfl) (by kernel_rfl) (fun _ _ _ h => h) (Or.inl ⟨(by rfl), ?hyia8⟩) (Below.refl _ _) ?restia8
          case hyia8 =>
            intro W hW
            go_simp
            exact rfl
          simp only [List.getElem_toArray, List.getElem_cons_succ, List.getElem_cons_zero, Act.put, List.setIfInBounds_toArray, List.set_cons_zero, List.set_cons_succ]
          refine but_take (f := 16) (i := 9) (v := undef) rfl (by kernel_rfl) (by kernel_rfl) (by kernel_rfl) (by kernel_rfl) (by kernel_rfl) (fun _ _ _ h => h) (Or.inr ⟨((wanted_at rfl rfl rfl rfl).trans rfl), rfl⟩) (Below.refl _ _) ?_
          simp only [List.getElem_toArray, List.getElem_cons_succ, List.getElem_cons_zero, Act.put, List.setIfInBounds_toArray, List.set_cons_zero, List.set_cons_succ]
          refine but_take (f := 16) (i := 10) (v := undef) rfl (by kernel_rfl) (by kernel_rfl) (by kernel_rfl) (by kernel_rfl) (by kernel_rfl) (fun _ _ _ h => h) (Or.inr ⟨((wanted_at rfl rfl rfl rfl).trans rfl), rfl⟩) (Below.refl _ _) ?_
          simp only [List.getElem_toArray, List.getElem_cons_succ, List.getElem_cons_zero, Act.put, List.setIfInBounds_toArray, List.set_cons_zero, List.set_cons_succ]
          refine but_take (f := 16) (i := 11) (v := undef) rfl (by kernel_rfl) (by kernel_rfl) (by kernel_rfl) (by kernel_rfl) (by kernel_rfl) (fun _ _ _ h => h) (Or.inr ⟨((wanted_at rfl rfl rfl rfl).trans rfl), rfl⟩) (Below.refl _ _) ?_
          simp only [List.getElem_toArray, List.getElem_cons_succ, List.getElem_cons_zero, Act.put, List.setIfInBounds_toArray, List.set_cons_zero, List.set_cons_succ]
          refine but_take (f := 16) (i := 12) (v := undef) rfl (by kernel_rfl) (by kernel_rfl) (by kernel_rfl) (by kernel_rfl) (by kernel_rfl) (fun _ _ _ h => h) (Or.inr ⟨((wanted_at rfl rfl rfl rfl).trans rfl), rfl⟩) (Below.refl _ _) ?_
          simp only [List.getElem_toArray, List.getElem_cons_succ, List.getElem_cons_zero, Act.put, List.setIfInBounds_toArray, List.set_cons_zero, List.set_cons_succ]
          refine but_take (f := 16) (i := 13) (v := undef) rfl (by kernel_rfl) (by kernel_rfl) (by kernel_rfl) (by kernel_rfl) (by kernel_rfl) (fun _ _ _ h => h) (Or.inr ⟨((wanted_at rfl rfl rfl rfl).trans rfl), rfl⟩) (Below.refl _ _) ?_
          simp only [List.getElem_toArray, List.getElem_cons_succ, List.getElem_cons_zero, Act.put, List.setIfInBounds_toArray, List.set_cons_zero, List.set_cons_succ]
          refine but_take (f := 16) (i := 14) (v := undef) rfl (by kernel_rfl) (by kernel_rfl) (by kernel_rfl) (by kernel_rfl) (by kernel_rfl) (fun _ _ _ h => h) (Or.inr ⟨((wanted_at rfl rfl rfl rfl).trans rfl), rfl⟩) (Below.refl _ _) ?_
          simp only [List.getElem_toArray, List.getElem_cons_succ, List.getElem_cons_zero, Act.put, List.setIfInBounds_toArray, List.set_cons_zero, List.set_cons_succ]
          refine but_take (f := 16) (i := 15) (v := undef) rfl (by kernel_rfl) (by kernel_rfl) (by kernel_rfl) (by kernel_rfl) (by kernel_rfl) (fun _ _ _ h => h) (Or.inr ⟨((wanted_at rfl rfl rfl rfl).trans rfl), rfl⟩) (Below.refl _ _) ?_
          simp only [List.getElem_toArray, List.getElem_cons_succ, List.getElem_cons_zero, Act.put, List.setIfInBounds_toArray, List.set_cons_zero, List.set_cons_succ]
          refine but_run (i := 16) (by kernel_rfl) rfl (by rfl) ?_
          simp only [List.getElem_toArray, List.getElem_cons_succ, List.getElem_cons_zero]
          intro K HK
          go_wp2_with fail
          refine HK.out _ wa.drew (fun h => absurd rfl h) ?_
          clear HK
          refine but_done (by kernel_rfl) ?_
          go_wp2_with fail
          go_ret
          exact ⟨ret_boolB (by rw [← HR.out]; exact (fit_miss hlt HF.out).symm), bstep BA.out (bstep (Below.drew1 _) (Below.refl _ _))⟩
        · by_cases p2 : 60 < (l[k]).a
          · have HF : Hid (fitG l k = false) := Lib.hid (by rw [hfit, show idG (l[k]).a = false by simp [idG]; omega]; rfl)
            have d1 : decide ((l[k]).a < 1) = false := decide_eq_false p1
            have d2 : decide (60 < (l[k]).a) = true := decide_eq_true p2
            clear p1 p2 hfit
            refine but_begin (f := 16) (S := fun V => Below wa.drew.heap.size wa.drew V) (by kernel_rfl) ?_
            refine but_take (f := 16) (i := 0) (v := ?vib0) rfl (by kernel_rfl) (by kernel_rfl) (by kernel_rfl) (by kernel_rfl) (by kernel_rfl) (fun _ _ _ h => h) (Or.inl ⟨(by rfl), ?hyib0⟩) (Below.refl _ _) ?restib0
            case hyib0 =>
              intro W hW
              go_simp
              exact rfl
            simp only [List.getElem_toArray, List.getElem_cons_succ, List.getElem_cons_zero, Act.put, List.setIfInBounds_toArray, List.set_cons_zero, List.set_cons_succ]
            refine but_take (f := 16) (i := 1) (v := ?vib1) rfl (by kernel_rfl) (by kernel_rfl) (by kernel_rfl) (by kernel_rfl) (by kernel_rfl) (fun _ _ _ h => h) (Or.inl ⟨(by rfl), ?hyib1⟩) (Below.refl _ _) ?restib1
            case hyib1 =>
              intro W hW
              have hb0 : Below wa.heap.size wa W := bstep (Below.drew1 _) hW
              obtain ⟨y0, y1, y2⟩ := box2 (box_on QA.out hb0)
              go_simp
              exact rfl
            simp only [List.getElem_toArray, List.getElem_cons_succ, List.getElem_cons_zero, Act.put, List.setIfInBounds_toArray, List.set_cons_zero, List.set_cons_succ]
            refine but_take (f := 16) (i := 2) (v := ?vib2) rfl (by kernel_rfl) (by kernel_rfl) (by kernel_rfl) (by kernel_rfl) (by kernel_rfl) (fun _ _ _ h => h) (Or.inl ⟨(by rfl), ?hyib2⟩) (Below.refl _ _) ?restib2
            case hyib2 =>
              intro W hW
              go_simp
              exact rfl
            simp only [List.getElem_toArray, List.getElem_cons_succ, List.getElem_cons_zero, Act.put, List.setIfInBounds_toArray, List.set_cons_zero, List.set_cons_succ]
            refine but_take (f := 16) (i := 3) (v := ?vib3) rfl (by kernel_rfl) (by kernel_rfl) (by kernel_rfl) (by kernel_rfl) (by kernel_rfl) (fun _ _ _ h => h) (Or.inl ⟨(by rfl), ?hyib3⟩) (Below.refl _ _) ?restib3
            case hyib3 =>
              intro W hW
              go_simp
              exact rfl
            simp only [List.getElem_toArray, List.getElem_cons_succ, List.getElem_cons_zero, Act.put, List.setIfInBounds_toArray, List.set_cons_zero, List.set_cons_succ]
            refine but_take (f := 16) (i := 4) (v := ?vib4) rfl (by kernel_rfl) (by kernel_rfl) (by kernel_rfl) (by kernel_rfl) (by kernel_rfl) (fun _ _ _ h => h) (Or.inl ⟨((wanted_at rfl rfl rfl rfl).trans rfl), ?hyib4⟩) (Below.refl _ _) ?restib4
            case hyib4 =>
              intro W hW
              go_simp
              exact rfl
            simp only [List.getElem_toArray, List.getElem_cons_succ, List.getElem_cons_zero, Act.put, List.setIfInBounds_toArray, List.set_cons_zero, List.set_cons_succ]
            refine but_take (f := 16) (i := 5) (v := ?vib5) rfl (by kernel_rfl) (by kernel_rfl) (by kernel_rfl) (by kernel_rfl) (by kernel_rfl) (fun _ _ _ h => h) (Or.inl ⟨((wanted_at rfl rfl rfl rfl).trans rfl), ?hyib5⟩) (Below.refl _ _) ?restib5
            case hyib5 =>
              intro W hW
              have hb0 : Below wa.heap.size wa W := bstep (Below.drew1 _) hW
              obtain ⟨y0, y1, y2⟩ := box2 (box_on QA.out hb0)
              go_simp
              exact rfl
            simp only [List.getElem_toArray, List.getElem_cons_succ, List.getElem_cons_zero, Act.put, List.setIfInBounds_toArray, List.set_cons_zero, List.set_cons_succ]
            refine but_take (f := 16) (i := 6) (v := ?vib6) rfl (by kernel_rfl) (by kernel_rfl) (by kernel_rfl) (by kernel_rfl) (by kernel_rfl) (fun _ _ _ h => h) (Or.inl ⟨((wanted_at rfl rfl rfl rfl).trans rfl), ?hyib6⟩) (Below.refl _ _) ?restib6
            case hyib6 =>
              intro W hW
              go_simp
              exact rfl
            simp only [List.getElem_toArray, List.getElem_cons_succ, List.getElem_cons_zero, Act.put, List.setIfInBounds_toArray, List.set_cons_zero, List.set_cons_succ]
            refine but_take (f := 16) (i := 7) (v := ?vib7) rfl (by kernel_rfl) (by kernel_rfl) (by kernel_rfl) (by kernel_rfl) (by kernel_rfl) (fun _ _ _ h => h) (Or.inl ⟨(by rfl), ?hyib7⟩) (Below.refl _ _) ?restib7
            case hyib7 =>
              intro W hW
              go_simp
              exact rfl
            simp only [List.getElem_toArray, List.getElem_cons_succ, List.getElem_cons_zero, Act.put, List.setIfInBounds_toArray, List.set_cons_zero, List.set_cons_succ]
            refine but_take (f := 16) (i := 8) (v := ?vib8) rfl (by kernel_rfl) (by kernel_rfl) (by kernel_rfl) (by kernel_rfl) (by kernel_rfl) (fun _ _ _ h => h) (Or.inl ⟨(by rfl), ?hyib8⟩) (Below.refl _ _) ?restib8
            case hyib8 =>
              intro W hW
              go_simp
              exact rfl
            simp only [List.getElem_toArray, List.getElem_cons_succ, List.getElem_cons_zero, Act.put, List.setIfInBounds_toArray, List.set_cons_zero, List.set_cons_succ]
            refine but_take (f := 16) (i := 9) (v := undef) rfl (by kernel_rfl) (by kernel_rfl) (by kernel_rfl) (by kernel_rfl) (by kernel_rfl) (fun _ _ _ h => h) (Or.inr ⟨((wanted_at rfl rfl rfl rfl).trans rfl), rfl⟩) (Below.refl _ _) ?_
            simp only [List.getElem_toArray, List.getElem_cons_succ, List.getElem_cons_zero, Act.put, List.setIfInBounds_toArray, List.set_cons_zero, List.set_cons_succ]
            refine but_take (f := 16) (i := 10) (v := undef) rfl (by kernel_rfl) (by kernel_rfl) (by kernel_rfl) (by kernel_rfl) (by kernel_rfl) (fun _ _ _ h => h) (Or.inr ⟨((wanted_at rfl rfl rfl rfl).trans rfl), rfl⟩) (Below.refl _ _) ?_
            simp only [List.getElem_toArray, List.getElem_cons_succ, List.getElem_cons_zero, Act.put, List.setIfInBounds_toArray, List.set_cons_zero, List.set_cons_succ]
            refine but_take (f := 16) (i := 11) (v := undef) rfl (by kernel_rfl) (by kernel_rfl) (by kernel_rfl) (by kernel_rfl) (by kernel_rfl) (fun _ _ _ h => h) (Or.inr ⟨((wanted_at rfl rfl rfl rfl).trans rfl), rfl⟩) (Below.refl _ _) ?_
            simp only [List.getElem_toArray, List.getElem_cons_succ, List.getElem_cons_zero, Act.put, List.setIfInBounds_toArray, List.set_cons_zero, List.set_cons_succ]
            refine but_take (f := 16) (i := 12) (v := undef) rfl (by kernel_rfl) (by kernel_rfl) (by kernel_rfl) (by kernel_rfl) (by kernel_rfl) (fun _ _ _ h => h) (Or.inr ⟨((wanted_at rfl rfl rfl rfl).trans rfl), rfl⟩) (Below.refl _ _) ?_
            simp only [List.getElem_toArray, List.getElem_cons_succ, List.getElem_cons_zero, Act.put, List.setIfInBounds_toArray, List.set_cons_zero, List.set_cons_succ]
            refine but_take (f := 16) (i := 13) (v := undef) rfl (by kernel_rfl) (by kernel_rfl) (by kernel_rfl) (by kernel_rfl) (by kernel_rfl) (fun _ _ _ h => h) (Or.inr ⟨((wanted_at rfl rfl rfl rfl).trans rfl), rfl⟩) (Below.refl _ _) ?_
            simp only [List.getElem_toArray, List.getElem_cons_succ, List.getElem_cons_zero, Act.put, List.setIfInBounds_toArray, List.set_cons_zero, List.set_cons_succ]
            refine but_take (f := 16) (i := 14) (v := undef) rfl (by kernel_rfl) (by kernel_rfl) (by kernel_rfl) (by kernel_rfl) (by kernel_rfl) (fun _ _ _ h => h) (Or.inr ⟨((wanted_at rfl rfl rfl rfl).trans rfl), rfl⟩) (Below.refl _ _) ?_
            simp only [List.getElem_toArray, List.getElem_cons_succ, List.getElem_cons_zero, Act.put, List.setIfInBounds_toArray, List.set_cons_zero, List.set_cons_succ]
            refine but_take (f := 16) (i := 15) (v := undef) rfl (by kernel_rfl) (by kernel_rfl) (by kernel_rfl) (by kernel_rfl) (by kernel_rfl) (fun _ _ _ h => h) (Or.inr ⟨((wanted_at rfl rfl rfl rfl).trans rfl), rfl⟩) (Below.refl _ _) ?_
            simp only [List.getElem_toArray, List.getElem_cons_succ, List.getElem_cons_zero, Act.put, List.setIfInBounds_toArray, List.set_cons_zero, List.set_cons_succ]
            refine but_run (i := 16) (by kernel_rfl) rfl (by rfl) ?_
            simp only [List.getElem_toArray, List.getElem_cons_succ, List.getElem_cons_zero]
            intro K HK
            go_wp2_with fail
            refine HK.out _ wa.drew (fun h => absurd rfl h) ?_
            clear HK
            refine but_done (by kernel_rfl) ?_
            go_wp2_with fail
            go_ret
            exact ⟨ret_boolB (by rw [← HR.out]; exact (fit_miss hlt HF.out).symm), bstep BA.out (bstep (Below.drew1 _) (Below.refl _ _))⟩
          · have hid : idG (l[k]).a = true := by simp [idG]; omega
            have d1 : decide ((l[k]).a < 1) = false := decide_eq_false p1
            have d2 : decide (60 < (l[k]).a) = false := decide_eq_false p2
            cases hp : ((l[k]).b == 0 || hasG (l.take k) (l[k]).b)
            · have HP := Lib.hid hp
              have HF : Hid (fitG l k = false) := Lib.hid (by rw [hfit, hid, parGB, hp]; rfl)
              clear p1 p2 hfit hid hp
              refine but_begin (f := 16) (S := fun V => Below wa.drew.heap.size wa.drew V) (by kernel_rfl) ?_
              refine but_take (f := 16) (i := 0) (v := ?vic0) rfl (by kernel_rfl) (by kernel_rfl) (by kernel_rfl) (by kernel_rfl) (by kernel_rfl) (fun _ _ _ h => h) (Or.inl ⟨(by rfl), ?hyic0⟩) (Below.refl _ _) ?restic0
              case hyic0 =>
                intro W hW
                go_simp
                exact rfl
              simp only [List.getElem_toArray, List.getElem_cons_succ, List.getElem_cons_zero, Act.put, List.setIfInBounds_toArray, List.set_cons_zero, List.set_cons_succ]
              refine but_take (f := 16) (i := 1) (v := ?vic1) rfl (by kernel_rfl) (by kernel_rfl) (by kernel_rfl) (by kernel_rfl) (by kernel_rfl) (fun _ _ _ h => h) (Or.inl ⟨(by rfl), ?hyic1⟩) (Below.refl _ _) ?restic1
              case hyic1 =>
                intro W hW
                have hb0 : Below wa.heap.size wa W := bstep (Below.drew1 _) hW
                obtain ⟨y0, y1, y2⟩ := box2 (box_on QA.out hb0)
                go_simp
                exact rfl
              simp only [List.getElem_toArray, List.getElem_cons_succ, List.getElem_cons_zero, Act.put, List.setIfInBounds_toArray, List.set_cons_zero, List.set_cons_succ]
              refine but_take (f := 16) (i := 2) (v := ?vic2) rfl (by kernel_rfl) (by kernel_rfl) (by kernel_rfl) (by kernel_rfl) (by kernel_rfl) (fun _ _ _ h => h) (Or.inl ⟨(by rfl), ?hyic2⟩) (Below.refl _ _) ?restic2
              case hyic2 =>
                intro W hW
                go_simp
                exact rfl
              simp only [List.getElem_toArray, List.getElem_cons_succ, List.getElem_cons_zero, Act.put, List.setIfInBounds_toArray, List.set_cons_zero, List.set_cons_succ]
              refine but_take (f := 16) (i := 3) (v := ?vic3) rfl (by kernel_rfl) (by kernel_rfl) (by kernel_rfl) (by kernel_rfl) (by kernel_rfl) (fun _ _ _ h => h) (Or.inl ⟨(by rfl), ?hyic3⟩) (Below.refl _ _) ?restic3
              case hyic3 =>
                intro W hW
                go_simp
                exact rfl
              simp only [List.getElem_toArray, List.getElem_cons_succ, List.getElem_cons_zero, Act.put, List.setIfInBounds_toArray, List.set_cons_zero, List.set_cons_succ]
              refine but_take (f := 16) (i := 4) (v := ?vic4) rfl (by kernel_rfl) (by kernel_rfl) (by kernel_rfl) (by kernel_rfl) (by kernel_rfl) (fun _ _ _ h => h) (Or.inl ⟨((wanted_at rfl rfl rfl rfl).trans rfl), ?hyic4⟩) (Below.refl _ _) ?restic4
              case hyic4 =>
                intro W hW
                go_simp
                exact rfl
              simp only [List.getElem_toArray, List.getElem_cons_succ, List.getElem_cons_zero, Act.put, List.setIfInBounds_toArray, List.set_cons_zero, List.set_cons_succ]
              refine but_take (f := 16) (i := 5) (v := ?vic5) rfl (by kernel_rfl) (by kernel_rfl) (by kernel_rfl) (by kernel_rfl) (by kernel_rfl) (fun _ _ _ h => h) (Or.inl ⟨((wanted_at rfl rfl rfl rfl).trans rfl), ?hyic5⟩) (Below.refl _ _) ?restic5
              case hyic5 =>
                intro W hW
                have hb0 : Below wa.heap.size wa W := bstep (Below.drew1 _) hW
                obtain ⟨y0, y1, y2⟩ := box2 (box_on QA.out hb0)
                go_simp
                exact rfl
              simp only [List.getElem_toArray, List.getElem_cons_succ, List.getElem_cons_zero, Act.put, List.setIfInBounds_toArray, List.set_cons_zero, List.set_cons_succ]
              refine but_take (f := 16) (i := 6) (v := ?vic6) rfl (by kernel_rfl) (by kernel_rfl) (by kernel_rfl) (by kernel_rfl) (by kernel_rfl) (fun _ _ _ h => h) (Or.inl ⟨((wanted_at rfl rfl rfl rfl).trans rfl), ?hyic6⟩) (Below.refl _ _) ?restic6
              case hyic6 =>
                intro W hW
                go_simp
                exact rfl
              simp only [List.getElem_toArray, List.getElem_cons_succ, List.getElem_cons_zero, Act.put, List.setIfInBounds_toArray, List.set_cons_zero, List.set_cons_succ]
              refine but_take (f := 16) (i := 7) (v := ?vic7) rfl (by kernel_rfl) (by kernel_rfl) (by kernel_rfl) (by kernel_rfl) (by kernel_rfl) (fun _ _ _ h => h) (Or.inl ⟨(by rfl), ?hyic7⟩) (Below.refl _ _) ?restic7
              case hyic7 =>
                intro W hW
                go_simp
                exact rfl
              simp only [List.getElem_toArray, List.getElem_cons_succ, List.getElem_cons_zero, Act.put, List.setIfInBounds_toArray, List.set_cons_zero, List.set_cons_succ]
              refine but_take (f := 16) (i := 8) (v := ?vic8) rfl (by kernel_rfl) (by kernel_rfl) (by kernel_rfl) (by kernel_rfl) (by kernel_rfl) (fun _ _ _ h => h) (Or.inl ⟨(by rfl), ?hyic8⟩) (Below.refl _ _) ?restic8
              case hyic8 =>
                intro W hW
                go_simp
                exact rfl
              simp only [List.getElem_toArray, List.getElem_cons_succ, List.getElem_cons_zero, Act.put, List.setIfInBounds_toArray, List.set_cons_zero, List.set_cons_succ]
              refine but_take (f := 16) (i := 9) (v := ?vic9) rfl (by kernel_rfl) (by kernel_rfl) (by kernel_rfl) (by kernel_rfl) (by kernel_rfl) (fun _ _ _ h => h) (Or.inl ⟨((wanted_at rfl rfl rfl rfl).trans rfl), ?hyic9⟩) (Below.refl _ _) ?restic9
              case hyic9 =>
                intro W hW
                go_simp
                exact rfl
              simp only [List.getElem_toArray, List.getElem_cons_succ, List.getElem_cons_zero, Act.put, List.setIfInBounds_toArray, List.set_cons_zero, List.set_cons_succ]
              refine but_take (f := 16) (i := 10) (v := ?vic10) rfl (by kernel_rfl) (by kernel_rfl) (by kernel_rfl) (by kernel_rfl) (by kernel_rfl) (fun _ _ _ h => h) (Or.inl ⟨((wanted_at rfl rfl rfl rfl).trans rfl), ?hyic10⟩) (Below.refl _ _) ?restic10
              case hyic10 =>
                intro W hW
                go_simp
                exact rfl
              simp only [List.getElem_toArray, List.getElem_cons_succ, List.getElem_cons_zero, Act.put, List.setIfInBounds_toArray, List.set_cons_zero, List.set_cons_succ]
              refine but_take (f := 16) (i := 11) (v := ?vic11) rfl (by kernel_rfl) (by kernel_rfl) (by kernel_rfl) (by kernel_rfl) (by kernel_rfl) (fun _ _ _ h => h) (Or.inl ⟨((wanted_at rfl rfl rfl rfl).trans rfl), ?hyic11⟩) (Below.refl _ _) ?restic11
              case hyic11 =>
                intro W hW
                go_simp
                exact rfl
              simp only [List.getElem_toArray, List.getElem_cons_succ, List.getElem_cons_zero, Act.put, List.setIfInBounds_toArray, List.set_cons_zero, List.set_cons_succ]
              refine but_take (f := 16) (i := 12) (v := ?vic12) rfl (by kernel_rfl) (by kernel_rfl) (by kernel_rfl) (by kernel_rfl) (by kernel_rfl) (fun _ _ _ h => h) (Or.inl ⟨((wanted_at rfl rfl rfl rfl).trans rfl), ?hyic12⟩) (Below.refl _ _) ?restic12
              case hyic12 =>
                intro W hW
                go_simp
                exact rfl
              simp only [List.getElem_toArray, List.getElem_cons_succ, List.getElem_cons_zero, Act.put, List.setIfInBounds_toArray, List.set_cons_zero, List.set_cons_succ]
              refine but_take (f := 16) (i := 13) (v := ?vic13) rfl (by kernel_rfl) (by kernel_rfl) (by kernel_rfl) (by kernel_rfl) (by kernel_rfl) (fun _ _ _ h => h) (Or.inl ⟨((wanted_at rfl rfl rfl rfl).trans rfl), ?hyic13⟩) (Below.refl _ _) ?restic13
              case hyic13 =>
                intro W hW
                have hb0 : Below wa.heap.size wa W := bstep (Below.drew1 _) hW
                obtain ⟨y0, y1, y2⟩ := box2 (box_on QA.out hb0)
                go_simp
                exact rfl
              simp only [List.getElem_toArray, List.getElem_cons_succ, List.getElem_cons_zero, Act.put, List.setIfInBounds_toArray, List.set_cons_zero, List.set_cons_succ]
              refine but_run (i := 14) (by kernel_rfl) rfl ((wanted_at rfl rfl rfl rfl).trans rfl) ?_
              simp only [List.getElem_toArray, List.getElem_cons_succ, List.getElem_cons_zero]
              intro K HK
              go_wp2_with fail
              refine (parentOk_any _ (l.take k) (l[k]).b _ (HTK.out.on (bstep (Below.drew1 _) (Below.refl _ _))) (by simp; omega)).mono ?_
              rintro r Vic1 ⟨rfl, hBic1⟩
              rw [HP.out]
              have hSic1 := bstep (Below.refl _ _) hBic1
              go_wp2_with fail
              refine HK.out _ Vic1 (fun _ => hSic1) ?_
              clear HK
              refine but_take (f := 16) (i := 15) (v := ?vic15) rfl (by kernel_rfl) (by kernel_rfl) (by kernel_rfl) (by kernel_rfl) (by kernel_rfl) (fun _ _ _ h => h) (Or.inl ⟨((wanted_at rfl rfl rfl rfl).trans rfl), ?hyic15⟩) hSic1 ?restic15
              case hyic15 =>
                intro W hW
                go_simp
                exact rfl
              simp only [List.getElem_toArray, List.getElem_cons_succ, List.getElem_cons_zero, Act.put, List.setIfInBounds_toArray, List.set_cons_zero, List.set_cons_succ]
              refine but_run (i := 16) (by kernel_rfl) rfl (by rfl) ?_
              simp only [List.getElem_toArray, List.getElem_cons_succ, List.getElem_cons_zero]
              intro K HK
              go_wp2_with fail
              refine HK.out _ Vic1 (fun h => absurd rfl h) ?_
              clear HK
              refine but_done (by kernel_rfl) ?_
              go_wp2_with fail
              go_ret
              exact ⟨ret_boolB (by rw [← HR.out]; exact (fit_miss hlt HF.out).symm), bstep BA.out (bstep (Below.drew1 _) hSic1)⟩
            · have HP := Lib.hid hp
              have HF : Hid (fitG l k = true) := Lib.hid (by rw [hfit, hid, parGB, hp]; rfl)
              clear p1 p2 hfit hid hp
              refine but_begin (f := 16) (S := fun V => Below wa.drew.heap.size wa.drew V) (by kernel_rfl) ?_
              refine but_take (f := 16) (i := 0) (v := ?vid0) rfl (by kernel_rfl) (by kernel_rfl) (by kernel_rfl) (by kernel_rfl) (by kernel_rfl) (fun _ _ _ h => h) (Or.inl ⟨(by rfl), ?hyid0⟩) (Below.refl _ _) ?restid0
              case hyid0 =>
                intro W hW
                go_simp
                exact rfl
              simp only [List.getElem_toArray, List.getElem_cons_succ, List.getElem_cons_zero, Act.put, List.setIfInBounds_toArray, List.set_cons_zero, List.set_cons_succ]
              refine but_take (f := 16) (i := 1) (v := ?vid1) rfl (by kernel_rfl) (by kernel_rfl) (by kernel_rfl) (by kernel_rfl) (by kernel_rfl) (fun _ _ _ h => h) (Or.inl ⟨(by rfl), ?hyid1⟩) (Below.refl _ _) ?restid1
              case hyid1 =>
                intro W hW
                have hb0 : Below wa.heap.size wa W := bstep (Below.drew1 _) hW
                obtain ⟨y0, y1, y2⟩ := box2 (box_on QA.out hb0)
                go_simp
                exact rfl
              simp only [List.getElem_toArray, List.getElem_cons_succ, List.getElem_cons_zero, Act.put, List.setIfInBounds_toArray, List.set_cons_zero, List.set_cons_succ]
              refine but_take (f := 16) (i := 2) (v := ?vid2) rfl (by kernel_rfl) (by kernel_rfl) (by kernel_rfl) (by kernel_rfl) (by kernel_rfl) (fun _ _ _ h => h) (Or.inl ⟨(by rfl), ?hyid2⟩) (Below.refl _ _) ?restid2
              case hyid2 =>
                intro W hW
                go_simp
                exact rfl
              simp only [List.getElem_toArray, List.getElem_cons_succ, List.getElem_cons_zero, Act.put, List.setIfInBounds_toArray, List.set_cons_zero, List.set_cons_succ]
              refine but_take (f := 16) (i := 3) (v := ?vid3) rfl (by kernel_rfl) (by kernel_rfl) (by kernel_rfl) (by kernel_rfl) (by kernel_rfl) (fun _ _ _ h => h) (Or.inl ⟨(by rfl), ?hyid3⟩) (Below.refl _ _) ?restid3
              case hyid3 =>
                intro W hW
                go_simp
                exact rfl
              simp only [List.getElem_toArray, List.getElem_cons_succ, List.getElem_cons_zero, Act.put, List.setIfInBounds_toArray, List.set_cons_zero, List.set_cons_succ]
              refine but_take (f := 16) (i := 4) (v := ?vid4) rfl (by kernel_rfl) (by kernel_rfl) (by kernel_rfl) (by kernel_rfl) (by kernel_rfl) (fun _ _ _ h => h) (Or.inl ⟨((wanted_at rfl rfl rfl rfl).trans rfl), ?hyid4⟩) (Below.refl _ _) ?restid4
              case hyid4 =>
                intro W hW
                go_simp
                exact rfl
              simp only [List.getElem_toArray, List.getElem_cons_succ, List.getElem_cons_zero, Act.put, List.setIfInBounds_toArray, List.set_cons_zero, List.set_cons_succ]
              refine but_take (f := 16) (i := 5) (v := ?vid5) rfl (by kernel_rfl) (by kernel_rfl) (by kernel_rfl) (by kernel_rfl) (by kernel_rfl) (fun _ _ _ h => h) (Or.inl ⟨((wanted_at rfl rfl rfl rfl).trans rfl), ?hyid5⟩) (Below.refl _ _) ?restid5
              case hyid5 =>
                intro W hW
                have hb0 : Below wa.heap.size wa W := bstep (Below.drew1 _) hW
                obtain ⟨y0, y1, y2⟩ := box2 (box_on QA.out hb0)
                go_simp
                exact rfl
              simp only [List.getElem_toArray, List.getElem_cons_succ, List.getElem_cons_zero, Act.put, List.setIfInBounds_toArray, List.set_cons_zero, List.set_cons_succ]
              refine but_take (f := 16) (i := 6) (v := ?vid6) rfl (by kernel_rfl) (by kernel_rfl) (by kernel_rfl) (by kernel_rfl) (by kernel_rfl) (fun _ _ _ h => h) (Or.inl ⟨((wanted_at rfl rfl rfl rfl).trans rfl), ?hyid6⟩) (Below.refl _ _) ?restid6
              case hyid6 =>
                intro W hW
                go_simp
                exact rfl
              simp only [List.getElem_toArray, List.getElem_cons_succ, List.getElem_cons_zero, Act.put, List.setIfInBounds_toArray, List.set_cons_zero, List.set_cons_succ]
              refine but_take (f := 16) (i := 7) (v := ?vid7) rfl (by kernel_rfl) (by kernel_rfl) (by kernel_rfl) (by kernel_rfl) (by kernel_rfl) (fun _ _ _ h => h) (Or.inl ⟨(by rfl), ?hyid7⟩) (Below.refl _ _) ?restid7
              case hyid7 =>
                intro W hW
                go_simp
                exact rfl
              simp only [List.getElem_toArray, List.getElem_cons_succ, List.getElem_cons_zero, Act.put, List.setIfInBounds_toArray, List.set_cons_zero, List.set_cons_succ]
              refine but_take (f := 16) (i := 8) (v := ?vid8) rfl (by kernel_rfl) (by kernel_rfl) (by kernel_rfl) (by kernel_rfl) (by kernel_rfl) (fun _ _ _ h => h) (Or.inl ⟨(by rfl), ?hyid8⟩) (Below.refl _ _) ?restid8
              case hyid8 =>
                intro W hW
                go_simp
                exact rfl
              simp only [List.getElem_toArray, List.getElem_cons_succ, List.getElem_cons_zero, Act.put, List.setIfInBounds_toArray, List.set_cons_zero, List.set_cons_succ]
              refine but_take (f := 16) (i := 9) (v := ?vid9) rfl (by kernel_rfl) (by kernel_rfl) (by kernel_rfl) (by kernel_rfl) (by kernel_rfl) (fun _ _ _ h => h) (Or.inl ⟨((wanted_at rfl rfl rfl rfl).trans rfl), ?hyid9⟩) (Below.refl _ _) ?restid9
              case hyid9 =>
                intro W hW
                go_simp
                exact rfl
              simp only [List.getElem_toArray, List.getElem_cons_succ, List.getElem_cons_zero, Act.put, List.setIfInBounds_toArray, List.set_cons_zero, List.set_cons_succ]
              refine but_take (f := 16) (i := 10) (v := ?vid10) rfl (by kernel_rfl) (by kernel_rfl) (by kernel_rfl) (by kernel_rfl) (by kernel_rfl) (fun _ _ _ h => h) (Or.inl ⟨((wanted_at rfl rfl rfl rfl).trans rfl), ?hyid10⟩) (Below.refl _ _) ?restid10
              case hyid10 =>
                intro W hW
                go_simp
                exact rfl
              simp only [List.getElem_toArray, List.getElem_cons_succ, List.getElem_cons_zero, Act.put, List.setIfInBounds_toArray, List.set_cons_zero, List.set_cons_succ]
              refine but_take (f := 16) (i := 11) (v := ?vid11) rfl (by kernel_rfl) (by kernel_rfl) (by kernel_rfl) (by kernel_rfl) (by kernel_rfl) (fun _ _ _ h => h) (Or.inl ⟨((wanted_at rfl rfl rfl rfl).trans rfl), ?hyid11⟩) (Below.refl _ _) ?restid11
              case hyid11 =>
                intro W hW
                go_simp
                exact rfl
              simp only [List.getElem_toArray, List.getElem_cons_succ, List.getElem_cons_zero, Act.put, List.setIfInBounds_toArray, List.set_cons_zero, List.set_cons_succ]
              refine but_take (f := 16) (i := 12) (v := ?vid12) rfl (by kernel_rfl) (by kernel_rfl) (by kernel_rfl) (by kernel_rfl) (by kernel_rfl) (fun _ _ _ h => h) (Or.inl ⟨((wanted_at rfl rfl rfl rfl).trans rfl), ?hyid12⟩) (Below.refl _ _) ?restid12
              case hyid12 =>
                intro W hW
                go_simp
                exact rfl
              simp only [List.getElem_toArray, List.getElem_cons_succ, List.getElem_cons_zero, Act.put, List.setIfInBounds_toArray, List.set_cons_zero, List.set_cons_succ]
              refine but_take (f := 16) (i := 13) (v := ?vid13) rfl (by kernel_rfl) (by kernel_rfl) (by kernel_rfl) (by kernel_rfl) (by kernel_rfl) (fun _ _ _ h => h) (Or.inl ⟨((wanted_at rfl rfl rfl rfl).trans rfl), ?hyid13⟩) (Below.refl _ _) ?restid13
              case hyid13 =>
                intro W hW
                have hb0 : Below wa.heap.size wa W := bstep (Below.drew1 _) hW
                obtain ⟨y0, y1, y2⟩ := box2 (box_on QA.out hb0)
                go_simp
                exact rfl
              simp only [List.getElem_toArray, List.getElem_cons_succ, List.getElem_cons_zero, Act.put, List.setIfInBounds_toArray, List.set_cons_zero, List.set_cons_succ]
              refine but_run (i := 14) (by kernel_rfl) rfl ((wanted_at rfl rfl rfl rfl).trans rfl) ?_
              simp only [List.getElem_toArray, List.getElem_cons_succ, List.getElem_cons_zero]
              intro K HK
              go_wp2_with fail
              refine (parentOk_any _ (l.take k) (l[k]).b _ (HTK.out.on (bstep (Below.drew1 _) (Below.refl _ _))) (by simp; omega)).mono ?_
              rintro r Vid1 ⟨rfl, hBid1⟩
              rw [HP.out]
              have hSid1 := bstep (Below.refl _ _) hBid1
              go_wp2_with fail
              refine HK.out _ Vid1 (fun _ => hSid1) ?_
              clear HK
              refine but_take (f := 16) (i := 15) (v := ?vid15) rfl (by kernel_rfl) (by kernel_rfl) (by kernel_rfl) (by kernel_rfl) (by kernel_rfl) (fun _ _ _ h => h) (Or.inl ⟨((wanted_at rfl rfl rfl rfl).trans rfl), ?hyid15⟩) hSid1 ?restid15
              case hyid15 =>
                intro W hW
                go_simp
                exact rfl
              simp only [List.getElem_toArray, List.getElem_cons_succ, List.getElem_cons_zero, Act.put, List.setIfInBounds_toArray, List.set_cons_zero, List.set_cons_succ]
              refine but_run (i := 16) (by kernel_rfl) rfl (by rfl) ?_
              simp only [List.getElem_toArray, List.getElem_cons_succ, List.getElem_cons_zero]
              intro K HK
              go_wp2_with fail
              refine HK.out _ Vid1 (fun h => absurd rfl h) ?_
              clear HK
              refine but_done (by kernel_rfl) ?_
              go_wp2_with fail
              go_roundw
              case rel => exact ⟨k + 1, by omega, by go_num, Lib.hid (fit_step HI.out HF.out), Lib.hid (bstep BA.out (bstep (Below.drew1 _) hSid1))⟩
              case measure => simp [intOf]; omega
      · have hall : decide (∀ i, i < l.length → fitG l i = true) = true := decide_eq_true (fun i hi => HI.out i (by omega))
        have HL := Lib.hid hall
        clear hall
        go_wp2_with fail
        refine (HK.out _).mono ?_
        rintro r w1 ⟨rfl, b1⟩
        have B1 := Lib.hid (HW.out.trans (b1.mono hzr))
        clear b1
        go_wp2_with fail
        refine (HA.out _ (HV.out.on B1.out) hn).mono ?_
        rintro r w2 ⟨rfl, b2⟩
        have B2 := Lib.hid (bstep B1.out b2)
        clear b2
        go_wp2
        go_ret
        refine ⟨ret_boolB ?_, B2.out⟩
        rw [← HR.out, agesOkB, HL.out, decide_eq_true h16]
        simp
  · have d0 : decide ((16 : Int) < (l.length : Int)) = true := decide_eq_true (by omega)
    go_enter Tryz.func74, Tryz.ntmps74
    go_wp2
    go_ret
    refine ⟨ret_boolB ?_, Below.refl _ _⟩
    rw [← HR.out, agesOkB, decide_eq_false h16]
    simp
end Go.Proofs.YtpfepcjbhchpcaaGreat
