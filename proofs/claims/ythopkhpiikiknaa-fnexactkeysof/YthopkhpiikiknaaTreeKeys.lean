/- Contracts of TreeKeys and TreeAt, spec's and impl's. Conditions: at most 2^20 bounds, nodes, sets and keys. -/
import Derived.Test.YthopkhpiikiknaaTreeWhere
import Derived.Test.YthopkhpiikiknaaNodeSKeys
namespace Go.Proofs.Ythopkhpiikiknaa
open Go.RowKit
set_option maxRecDepth 100000
set_option linter.unusedSimpArgs false
set_option linter.unusedVariables false

theorem l1In_any (a lo hi : Int) (w : World) : Calls Try.prog 117 #[.int .i64 a, .int .i64 lo, .int .i64 hi] w fun e w' => e = .returned (.bool (decide (lo ≤ a) && decide (a ≤ hi))) ∧ w = w' := by
  by_cases h1 : lo ≤ a
  · by_cases h2 : a ≤ hi
    · rw [decide_eq_true h1, decide_eq_true h2]
      go_enter Try.func117, Try.ntmps117
      go_wp2
      go_ret
      exact ⟨rfl, rfl⟩
    · have h3 : hi < a := by omega
      rw [decide_eq_true h1, decide_eq_false h2]
      go_enter Try.func117, Try.ntmps117
      go_wp2
      go_ret
      exact ⟨rfl, rfl⟩
  · have h3 : a < lo := by omega
    rw [decide_eq_false h1, Bool.false_and]
    go_enter Try.func117, Try.ntmps117
    go_wp2
    go_ret
    exact ⟨rfl, rfl⟩
def treeKeysK (ts : List NodeD) : List KeyD := (ts.map nodeKeysK).flatten
theorem treeKeys_nil : treeKeysK [] = [] := rfl
theorem treeKeys_cons (n : NodeD) (ts : List NodeD) : treeKeysK (n :: ts) = nodeKeysK n ++ treeKeysK ts := rfl
theorem treeKeys_append (a b : List NodeD) : treeKeysK (a ++ b) = treeKeysK a ++ treeKeysK b := by simp [treeKeysK]
theorem treeKeys_take {ts : List NodeD} {k : Nat} (h : k < ts.length) : treeKeysK (ts.take (k + 1)) = treeKeysK (ts.take k) ++ nodeKeysK ts[k] := by
  rw [List.take_succ_eq_append_getElem h, treeKeys_append]
  simp [treeKeysK]
theorem treeKeys_len (ts : List NodeD) : (treeKeysK ts).length ≤ sumT ts := by
  induction ts with
  | nil => simp [treeKeysK, sumT]
  | cons n ts ih =>
    have := nodeKeys_len n
    rw [treeKeys_cons, List.length_append, sumT_cons]
    omega
theorem treeKeys_takelen (ts : List NodeD) (k : Nat) : (treeKeysK (ts.take k)).length ≤ sumT ts := Nat.le_trans (treeKeys_len _) (sumT_take_le ts k)
set_option maxHeartbeats 1000000 in
theorem specTreeKeys_any (vl vn : Value) (lo : List Int) (ts : List NodeD) (w : World) (hv : RdT w w.heap.size vl vn lo ts) (hn : ts.length ≤ 1048576) (hs : sumT ts ≤ 1048576) :
    Calls Try.prog 52 #[.agg #[vl, vn]] w (NewK w (treeKeysK ts)) := by
  obtain ⟨A, c, A', c', rfl, rfl⟩ := hv.shape
  have HV := Lib.hid hv.2
  have HB := Lib.hid (bal1 w (.cells #[.slice A lo.length c, .slice A' ts.length c'] 27))
  have Q0 := Lib.hid (al1 w (.cells #[.slice A lo.length c, .slice A' ts.length c'] 27))
  clear hv
  go_enter Try.func52, Try.ntmps52
  go_upto_region 1 with (fail)
  generalize w.alloc (.cells #[.slice A lo.length c, .slice A' ts.length c'] 27) = W at *
  go_wp2
  go_loopw [3, 4] (fun o i wr => ∃ k : Nat, k ≤ ts.length ∧ i = .int .i64 k ∧ Hid (RowK wr W.heap.size o (treeKeysK (ts.take k))) ∧ Hid (Below W.heap.size W wr)) (fun _ i _ => ts.length - (intOf i).toNat)
  case atStart => exact ⟨0, Nat.zero_le _, rfl, Lib.hid (RowK.lit W), Lib.hid (bal1 _ _)⟩
  case round =>
    obtain ⟨k, hk, rfl, HR, HX⟩ := hrel
    obtain ⟨x0, x1, x2⟩ := box2 (box_on Q0.out HX.out)
    obtain ⟨Ao, co, rfl, _, _⟩ := HR.out.shape
    by_cases hlt : k < ts.length
    · obtain ⟨b, off, rfl, hbb, hc⟩ := (HV.out.on (bstep HB.out HX.out)).node hlt
      obtain ⟨A1, d1, c1, _, _, r1⟩ := hc k hlt
      have R1 := Lib.hid r1
      have HT := Lib.hid (treeKeys_take hlt)
      have HL := Lib.hid (treeKeys_takelen ts k)
      have hl := sumT_mem (List.getElem_mem hlt)
      have hlk := nodeKeys_len ts[k]
      have i1 : (k : Int) < (ts.length : Int) := by omega
      have i2 : (0 : Int) ≤ (k : Int) := by omega
      clear hc r1
      go_wp2_with fail
      refine (specNodeKeys_any _ ts[k] _ R1.out (by omega) (by omega)).mono ?_
      rintro e w2 ⟨v2, rfl, o2, b2⟩
      obtain ⟨A2, c2, rfl, _, _⟩ := o2.shape
      have HRow := Lib.hid (HR.out.on b2)
      have HAt := Lib.hid (o2.owns.reads.atK)
      have B2 := Lib.hid (bstep HX.out b2)
      have HZ := Lib.hid B2.out.size
      clear o2 b2 x0 x1 x2 c1
      go_wp2_with (at_builtin; refine wpList_appK _ rfl (.tmp 13) (.tmp 19) rfl W.heap.size _ (treeKeysK (ts.take k)) rfl HRow.out A2 (nodeKeysK ts[k]).length c2 (nodeKeysK ts[k]) rfl rfl HAt.out (by have := HL.out; omega) HZ.out ?_; intro v1 w1 o1 b1; clear HRow HAt)
      have HO := Lib.hid o1
      have B3 := Lib.hid (B2.out.trans b1)
      clear o1 b1
      go_roundw
      case rel => exact ⟨k + 1, by omega, by go_num, Lib.hid (by rw [HT.out]; exact HO.out), B3⟩
      case measure => simp [intOf]; omega
    · have e : k = ts.length := by omega
      subst e
      have h := HR.out
      rw [List.take_length] at h
      have HF := Lib.hid h
      clear h
      go_wp2
      go_ret
      refine ⟨_, rfl, ?_, bstep HB.out HX.out⟩
      have h := HF.out.mono (base' := w.heap.size) HB.out.size
      rw [List.take_length]
      exact h
set_option maxHeartbeats 1000000 in
theorem implTreeKeys_any (vl vn : Value) (lo : List Int) (ts : List NodeD) (w : World) (hv : RdT w w.heap.size vl vn lo ts) (hn : ts.length ≤ 1048576) (hs : sumT ts ≤ 1048576) :
    Calls Try.prog 48 #[.agg #[vl, vn]] w (NewK w (treeKeysK ts)) := by
  obtain ⟨A, c, A', c', rfl, rfl⟩ := hv.shape
  have HV := Lib.hid hv.2
  have HB := Lib.hid (bal1 w (.cells #[.slice A lo.length c, .slice A' ts.length c'] 27))
  have Q0 := Lib.hid (al1 w (.cells #[.slice A lo.length c, .slice A' ts.length c'] 27))
  clear hv
  go_enter Try.func48, Try.ntmps48
  go_upto_region 1 with (fail)
  generalize w.alloc (.cells #[.slice A lo.length c, .slice A' ts.length c'] 27) = W at *
  obtain ⟨x0, x1, x2⟩ := box2 (box_on Q0.out (bal1 W (.cells #[] 32)))
  go_wp2
  clear x0 x1 x2
  go_loopw [3, 10] (fun o i wr => ∃ k : Nat, k ≤ ts.length ∧ i = .int .i64 k ∧ Hid (RowK wr W.heap.size o (treeKeysK (ts.take k))) ∧ Hid (Below W.heap.size W wr)) (fun _ i _ => ts.length - (intOf i).toNat)
  case atStart => exact ⟨0, Nat.zero_le _, rfl, Lib.hid (RowK.lit W), Lib.hid (bal1 _ _)⟩
  case round =>
    obtain ⟨k, hk, rfl, HR, HX⟩ := hrel
    obtain ⟨Ao, co, rfl, _, _⟩ := HR.out.shape
    by_cases hlt : k < ts.length
    · obtain ⟨b, off, rfl, hbb, hc⟩ := (HV.out.on (bstep HB.out HX.out)).node hlt
      obtain ⟨A1, d1, c1, _, _, r1⟩ := hc k hlt
      have ba := bal1 wr (.cells #[.slice A1 (ts[k]).length d1] 77)
      have R1 := Lib.hid (r1.on ba)
      have HT := Lib.hid (treeKeys_take hlt)
      have HL := Lib.hid (treeKeys_takelen ts k)
      have hl := sumT_mem (List.getElem_mem hlt)
      have hlk := nodeKeys_len ts[k]
      have i1 : (k : Int) < (ts.length : Int) := by omega
      have i2 : (0 : Int) ≤ (k : Int) := by omega
      replace HX := Lib.hid (bstep HX.out ba)
      replace HR := Lib.hid (HR.out.on ba)
      clear hc r1 ba
      go_wp2_with fail
      refine (implNodeKeys_any _ ts[k] _ R1.out (by omega) (by omega)).mono ?_
      rintro e w2 ⟨v2, rfl, o2, b2⟩
      obtain ⟨A2, c2, rfl, _, _⟩ := o2.shape
      have HRow := Lib.hid (HR.out.on b2)
      have HAt := Lib.hid (o2.owns.reads.atK)
      have B2 := Lib.hid (bstep HX.out b2)
      have HZ := Lib.hid B2.out.size
      clear o2 b2 c1
      go_wp2_with (at_builtin; refine wpList_appK _ rfl (.tmp 14) (.tmp 16) rfl W.heap.size _ (treeKeysK (ts.take k)) rfl HRow.out A2 (nodeKeysK ts[k]).length c2 (nodeKeysK ts[k]) rfl rfl HAt.out (by have := HL.out; omega) HZ.out ?_; intro v1 w1 o1 b1; clear HRow HAt)
      have HO := Lib.hid o1
      have B3 := Lib.hid (B2.out.trans b1)
      clear o1 b1
      go_roundw
      case rel => exact ⟨k + 1, by omega, by go_num, Lib.hid (by rw [HT.out]; exact HO.out), B3⟩
      case measure => simp [intOf]; omega
    · have e : k = ts.length := by omega
      subst e
      have h := HR.out
      rw [List.take_length] at h
      have HF := Lib.hid h
      clear h
      go_wp2
      go_ret
      refine ⟨_, rfl, ?_, bstep HB.out HX.out⟩
      have h := HF.out.mono (base' := w.heap.size) HB.out.size
      rw [List.take_length]
      exact h
def treeAtK (lo : List Int) (ts : List NodeD) (p q : Int) : Option KeyD :=
  if h : 0 ≤ whereK lo (spotI p q) ∧ (whereK lo (spotI p q)).toNat < ts.length then nodeAtK (ts[(whereK lo (spotI p q)).toNat]'h.2) p q else none
theorem hasNode_any (vl vn : Value) (lo : List Int) (ts : List NodeD) (i : Int) (w : World) (hv : RdT w w.heap.size vl vn lo ts) (hn : ts.length ≤ 1100000) :
    Calls Try.prog 45 #[.agg #[vl, vn], .int .i64 i] w (SaysBool w (decide (0 ≤ i) && decide (i < (ts.length : Int)))) := by
  obtain ⟨A, c, A', c', rfl, rfl⟩ := hv.shape
  have HB := Lib.hid (bal1 w (.cells #[.slice A lo.length c, .slice A' ts.length c'] 27))
  clear hv
  by_cases h1 : 0 ≤ i
  · by_cases h2 : i < (ts.length : Int)
    · rw [decide_eq_true h1, decide_eq_true h2]
      go_enter Try.func45, Try.ntmps45
      go_wp2
      go_ret
      exact ⟨rfl, HB.out⟩
    · have h3 : (ts.length : Int) ≤ i := by omega
      rw [decide_eq_true h1, decide_eq_false h2]
      go_enter Try.func45, Try.ntmps45
      go_wp2
      go_ret
      exact ⟨rfl, HB.out⟩
  · have h3 : i < 0 := by omega
    rw [decide_eq_false h1, Bool.false_and]
    go_enter Try.func45, Try.ntmps45
    go_wp2
    go_ret
    exact ⟨rfl, HB.out⟩
set_option maxHeartbeats 2000000 in
theorem implTreeAt_any (vl vn : Value) (lo : List Int) (ts : List NodeD) (p q : Int) (w : World) (hv : RdT w w.heap.size vl vn lo ts) (hs : SmallT lo ts) :
    Calls Try.prog 12 #[.agg #[vl, vn], .int .i64 p, .int .i64 q] w (SaysFind w (treeAtK lo ts p q)) := by
  obtain ⟨A, c, A', c', rfl, rfl⟩ := hv.shape
  obtain ⟨q0, q1⟩ := al2 w (.cells #[.slice A lo.length c, .slice A' ts.length c'] 27) (.cells #[.int .i64 0, .int .i64 0, .int .i64 0, .int .i64 0, .int .i64 0] 32)
  have hb := bal2 w (.cells #[.slice A lo.length c, .slice A' ts.length c'] 27) (.cells #[.int .i64 0, .int .i64 0, .int .i64 0, .int .i64 0, .int .i64 0] 32)
  have HV := Lib.hid (hv.on hb)
  have HB := Lib.hid hb
  have Q0 := Lib.hid q0
  have Q1 := Lib.hid q1
  have HW := Lib.hid implWhereIn_any
  have HN := Lib.hid implNodeAt_any
  unfold SaysFind KeyD.v keyV at HN
  unfold SaysFind KeyD.v keyV
  have HT : Hid (∀ i, whereK lo (spotI p q) = i → treeAtK lo ts p q = if h : 0 ≤ i ∧ i.toNat < ts.length then nodeAtK (ts[i.toNat]'h.2) p q else none) := Lib.hid (fun i h => by subst h; rfl)
  generalize treeAtK lo ts p q = F at *
  have hn1 := hs.1
  have hn2 := hs.2.1
  have HS := Lib.hid hs
  have hwl := whereK_le lo (spotI p q)
  obtain ⟨i, hi⟩ : ∃ i, whereK lo (spotI p q) = i := ⟨_, rfl⟩
  rw [hi] at hwl
  have HT2 := Lib.hid (HT.out i hi)
  have HI := Lib.hid hi
  clear hv hb q0 q1 hs HT hi
  go_enter Try.func12, Try.ntmps12
  go_upto_region 1 with (fail)
  generalize (w.alloc (.cells #[.slice A lo.length c, .slice A' ts.length c'] 27)).alloc (.cells #[.int .i64 0, .int .i64 0, .int .i64 0, .int .i64 0, .int .i64 0] 32) = W at *
  obtain ⟨x0, x1, x2⟩ := box2 Q0.out
  go_wp2_with fail
  refine (HW.out _ _ lo ts p q _ HV.out (by omega)).mono ?_
  rintro e w1 ⟨rfl, b1⟩
  rw [HI.out]
  replace HV := Lib.hid (HV.out.on b1)
  replace Q0 := Lib.hid (box_on Q0.out b1)
  replace Q1 := Lib.hid (box_on Q1.out b1)
  replace HB := Lib.hid (bstep HB.out b1)
  clear x0 x1 x2 b1
  obtain ⟨x0, x1, x2⟩ := box2 Q0.out
  go_wp2_with fail
  refine (hasNode_any _ _ lo ts i _ HV.out (by omega)).mono ?_
  rintro e w2 ⟨rfl, b1⟩
  replace HV := Lib.hid (HV.out.on b1)
  replace Q0 := Lib.hid (box_on Q0.out b1)
  replace Q1 := Lib.hid (box_on Q1.out b1)
  replace HB := Lib.hid (bstep HB.out b1)
  clear x0 x1 x2 b1
  obtain ⟨x0, x1, x2⟩ := box2 Q0.out
  obtain ⟨y0, y1, y2, y3, y4, y5⟩ := box5 Q1.out
  by_cases hin : 0 ≤ i ∧ i.toNat < ts.length
  · obtain ⟨k, rfl⟩ := Int.eq_ofNat_of_zero_le hin.1
    have hlt : k < ts.length := by have := hin.2; omega
    have d1 : (decide ((0 : Int) ≤ (k : Int)) && decide ((k : Int) < (ts.length : Int))) = true := by simp; omega
    rw [d1]
    have hF := HT2.out
    rw [dif_pos hin] at hF
    obtain ⟨b, off, rfl, hbb, hc⟩ := HV.out.2.node hlt
    obtain ⟨A1, e1, c1, _, _, r1⟩ := hc k hlt
    have R1 := Lib.hid r1
    have HSk := Lib.hid (HS.out.at hlt)
    have HF : Hid (F = nodeAtK ts[k] p q) := Lib.hid hF
    have i1 : (k : Int) < (ts.length : Int) := by omega
    have i2 : (0 : Int) ≤ (k : Int) := by omega
    clear hc r1 hF d1 HT2 hin hwl
    go_wp2_with fail
    refine (HN.out _ ts[k] p q _ R1.out HSk.out).mono ?_
    rintro e w3 ⟨rfl, b3⟩
    rw [← HF.out]
    replace HB := Lib.hid (bstep HB.out b3)
    replace Q1 := Lib.hid (box_on Q1.out b3)
    clear x0 x1 x2 y0 y1 y2 y3 y4 y5 b3 c1
    obtain ⟨y0, y1, y2, y3, y4, y5⟩ := box5 Q1.out
    go_wp2
    refine bodyPost_ret (v := .tuple #[(F.getD zK).v, .bool F.isSome]) (by simp [results, Try.results12, go_sem, keyV, KeyD.v, *]) rfl ⟨rfl, ?_⟩
    exact b5' HB.out (by omega)
  · have d1 : (decide ((0 : Int) ≤ i) && decide (i < (ts.length : Int))) = false := by
      rcases Int.lt_or_le i 0 with h | h
      · rw [decide_eq_false (by omega)]; rfl
      · rw [decide_eq_false (show ¬ i < (ts.length : Int) by omega), Bool.and_false]
    rw [d1]
    have hF := HT2.out
    rw [dif_neg hin] at hF
    clear d1 hin HT2
    go_wp2
    refine bodyPost_ret (v := .tuple #[(F.getD zK).v, .bool F.isSome]) (by simp [results, Try.results12, go_sem, keyV, KeyD.v, hF, zK, *]) rfl ⟨rfl, ?_⟩
    exact b5' HB.out (by omega)
end Go.Proofs.Ythopkhpiikiknaa
