/- Several texts in one: TreeIPair, Concat, TreeIJoin, TreeISplit. -/
import Derived.Test.YtkcafbdlealbpaaGreatMergeB
import Derived.Test.YtkcafbdlealbpaaGreatNodeIKeys
import Derived.Lib.AppendZeros
import Derived.Test.YtkcafbdlealbpaaGreatMergeE
/- The contract of impl.smallPair. Conditions: at most 2^20 nodes, sets and keys. -/
namespace Go.Proofs.YtkcafbdlealbpaaGreat
open Go.RowKit
set_option maxRecDepth 100000
set_option linter.unusedSimpArgs false
set_option linter.unusedVariables false
set_option maxHeartbeats 8000000 in
theorem implPair_any (vl vn : Value) (lo : List Int) (ts : List NodeD) (w : World) (hv : RdT w w.heap.size vl vn lo ts) (hn : ts.length ≤ 1048576) (hs : sumT ts ≤ 1048576) :
    Calls Tryz.prog 92 #[.agg #[vl, vn]] w (SaysInt w (pairK ts)) := by
  obtain ⟨A, c, B, d, rfl, rfl⟩ := hv.shape
  have HB := Lib.hid (bal1 w (.cells #[.slice A lo.length c, .slice B ts.length d] 27))
  have Q0 := Lib.hid (al1 w (.cells #[.slice A lo.length c, .slice B ts.length d] 27))
  have HV := Lib.hid (hv.2.on (bal1 w (.cells #[.slice A lo.length c, .slice B ts.length d] 27)))
  clear hv
  go_enter Tryz.func92, Tryz.ntmps92
  go_upto_region 1 with (fail)
  generalize w.alloc (.cells #[.slice A lo.length c, .slice B ts.length d] 27) = W at *
  go_wp2
  go_loopw [3] (fun q wr => ∃ k : Nat, k ≤ ts.length ∧ q = .int .i64 ((k : Int) + 1) ∧ Hid (∀ j (hj : j < k) (h : j + 1 < ts.length), fewB ts[j] ts[j + 1] = false) ∧ Hid (Below W.heap.size W wr)) (fun q _ => ts.length + 1 - (intOf q).toNat)
  case atStart => exact ⟨0, Nat.zero_le _, rfl, Lib.hid (fun j h => by omega), Lib.hid (Below.refl _ _)⟩
  case round =>
    obtain ⟨k, hk, rfl, HI, HX⟩ := hrel
    have QW := Lib.hid (box_on Q0.out HX.out)
    obtain ⟨x0, x1, x2⟩ := box2 QW.out
    by_cases hlt : k + 1 < ts.length
    · obtain ⟨b, off, hBe, hbb, hc⟩ := (HV.out.on HX.out).node hlt
      subst hBe
      obtain ⟨A1, d1, e1, _, _, r1⟩ := hc k (by omega)
      obtain ⟨A2, d2, e2, _, _, r2⟩ := hc (k + 1) hlt
      have hl1 := sumT_mem (List.getElem_mem (show k < ts.length by omega))
      have hl2 := sumT_mem (List.getElem_mem hlt)
      have hk1 := nodeKeys_len ts[k]
      have hk2 := nodeKeys_len ts[k + 1]
      have R1 := Lib.hid r1
      have R2 := Lib.hid r2
      have E1 := Lib.hid e1
      have E2 := Lib.hid e2
      have i1 : (k : Int) + 1 < (ts.length : Int) := by omega
      have i2 : (0 : Int) ≤ (k : Int) := by omega
      have i3 : (0 : Int) ≤ (k : Int) + 1 := by omega
      have i4 : (k : Int) < (ts.length : Int) := by omega
      have i5 : ((k : Int) + 1).toNat = k + 1 := by omega
      have i8 : IntKind.i64.wrap (k : Int) = (k : Int) := by rw [IntKind.wrap_i64]; omega
      have i9 : IntKind.i64.wrap ((k : Int) + 1 + 1) = (k : Int) + 1 + 1 := by rw [IntKind.wrap_i64]; omega
      have i10 : (k : Int) + 1 - 1 = (k : Int) := by omega
      have i6 : IntKind.i64.wrap ((k : Int) + 1) = (k : Int) + 1 := by rw [IntKind.wrap_i64]; omega
      have i7 : IntKind.i64.wrap (((nodeKeysK ts[k]).length : Int) + ((nodeKeysK ts[k + 1]).length : Int)) = ((nodeKeysK ts[k]).length : Int) + ((nodeKeysK ts[k + 1]).length : Int) := by rw [IntKind.wrap_i64]; omega
      have HFW := Lib.hid (few_iff ts[k] ts[k + 1])
      clear hc r1 r2 e1 e2 x0 x1 x2
      obtain ⟨K1, hK1⟩ : ∃ K, nodeKeysK ts[k] = K := ⟨_, rfl⟩
      obtain ⟨K2, hK2⟩ : ∃ K, nodeKeysK ts[k + 1] = K := ⟨_, rfl⟩
      rw [hK1] at i7 HFW hk1
      rw [hK2] at i7 HFW hk2
      have HK1 := Lib.hid hK1
      have HK2 := Lib.hid hK2
      clear hK1 hK2
      by_cases hf : (K1.length : Int) + (K2.length : Int) ≤ 6
      · have HRES := Lib.hid (pair_hit hlt (HFW.out.2 hf) (fun j hj => HI.out j hj (by omega)))
        obtain ⟨x0, x1, x2⟩ := box2 QW.out
        go_wp2
        clear x0 x1 x2
        refine but_begin (f := 16) (S := fun V => Below wr.drew.heap.size wr.drew V) (by kernel_rfl) ?_
        refine but_take (f := 16) (i := 0) (v := ?vpa0) rfl (by kernel_rfl) (by kernel_rfl) (by kernel_rfl) (by kernel_rfl) (by kernel_rfl) (fun _ _ _ h => h) (Or.inl ⟨(by rfl), ?hypa0⟩) (Below.refl _ _) ?restpa0
        case hypa0 =>
          intro W hW
          go_simp
          exact rfl
        simp only [List.getElem_toArray, List.getElem_cons_succ, List.getElem_cons_zero, Act.put, List.setIfInBounds_toArray, List.set_cons_zero, List.set_cons_succ]
        refine but_take (f := 16) (i := 1) (v := ?vpa1) rfl (by kernel_rfl) (by kernel_rfl) (by kernel_rfl) (by kernel_rfl) (by kernel_rfl) (fun _ _ _ h => h) (Or.inl ⟨(by rfl), ?hypa1⟩) (Below.refl _ _) ?restpa1
        case hypa1 =>
          intro W hW
          have hb0 : Below wr.heap.size wr W := bstep (Below.drew1 _) hW
          obtain ⟨x0, x1, x2⟩ := box2 (box_on QW.out hb0)
          go_simp
          exact rfl
        simp only [List.getElem_toArray, List.getElem_cons_succ, List.getElem_cons_zero, Act.put, List.setIfInBounds_toArray, List.set_cons_zero, List.set_cons_succ]
        refine but_take (f := 16) (i := 2) (v := ?vpa2) rfl (by kernel_rfl) (by kernel_rfl) (by kernel_rfl) (by kernel_rfl) (by kernel_rfl) (fun _ _ _ h => h) (Or.inl ⟨(by rfl), ?hypa2⟩) (Below.refl _ _) ?restpa2
        case hypa2 =>
          intro W hW
          go_simp
          exact rfl
        simp only [List.getElem_toArray, List.getElem_cons_succ, List.getElem_cons_zero, Act.put, List.setIfInBounds_toArray, List.set_cons_zero, List.set_cons_succ]
        refine but_take (f := 16) (i := 3) (v := ?vpa3) rfl (by kernel_rfl) (by kernel_rfl) (by kernel_rfl) (by kernel_rfl) (by kernel_rfl) (fun _ _ _ h => h) (Or.inl ⟨(by rfl), ?hypa3⟩) (Below.refl _ _) ?restpa3
        case hypa3 =>
          intro W hW
          go_simp
          exact rfl
        simp only [List.getElem_toArray, List.getElem_cons_succ, List.getElem_cons_zero, Act.put, List.setIfInBounds_toArray, List.set_cons_zero, List.set_cons_succ]
        refine but_take (f := 16) (i := 4) (v := ?vpa4) rfl (by kernel_rfl) (by kernel_rfl) (by kernel_rfl) (by kernel_rfl) (by kernel_rfl) (fun _ _ _ h => h) (Or.inl ⟨(by rfl), ?hypa4⟩) (Below.refl _ _) ?restpa4
        case hypa4 =>
          intro W hW
          go_simp
          exact rfl
        simp only [List.getElem_toArray, List.getElem_cons_succ, List.getElem_cons_zero, Act.put, List.setIfInBounds_toArray, List.set_cons_zero, List.set_cons_succ]
        refine but_take (f := 16) (i := 5) (v := ?vpa5) rfl (by kernel_rfl) (by kernel_rfl) (by kernel_rfl) (by kernel_rfl) (by kernel_rfl) (fun _ _ _ h => h) (Or.inl ⟨(by rfl), ?hypa5⟩) (Below.refl _ _) ?restpa5
        case hypa5 =>
          intro W hW
          have hb0 : Below wr.heap.size wr W := bstep (Below.drew1 _) hW
          have e1 := (hb0.cell (p := ⟨b, off + k, none⟩) hbb).trans E1.out
          have e2 := (hb0.cell (p := ⟨b, off + (k + 1), none⟩) hbb).trans E2.out
          go_simp
          exact rfl
        simp only [List.getElem_toArray, List.getElem_cons_succ, List.getElem_cons_zero, Act.put, List.setIfInBounds_toArray, List.set_cons_zero, List.set_cons_succ]
        refine but_take (f := 16) (i := 8) (v := ?vpa8) rfl (by kernel_rfl) (by kernel_rfl) (by kernel_rfl) (by kernel_rfl) (by kernel_rfl) (fun _ _ _ h => h) (Or.inl ⟨(by rfl), ?hypa8⟩) (Below.refl _ _) ?restpa8
        case hypa8 =>
          intro W hW
          go_simp
          exact rfl
        simp only [List.getElem_toArray, List.getElem_cons_succ, List.getElem_cons_zero, Act.put, List.setIfInBounds_toArray, List.set_cons_zero, List.set_cons_succ]
        refine but_take (f := 16) (i := 9) (v := ?vpa9) rfl (by kernel_rfl) (by kernel_rfl) (by kernel_rfl) (by kernel_rfl) (by kernel_rfl) (fun _ _ _ h => h) (Or.inl ⟨(by rfl), ?hypa9⟩) (Below.refl _ _) ?restpa9
        case hypa9 =>
          intro W hW
          have hb0 : Below wr.heap.size wr W := bstep (Below.drew1 _) hW
          obtain ⟨x0, x1, x2⟩ := box2 (box_on QW.out hb0)
          go_simp
          exact rfl
        simp only [List.getElem_toArray, List.getElem_cons_succ, List.getElem_cons_zero, Act.put, List.setIfInBounds_toArray, List.set_cons_zero, List.set_cons_succ]
        refine but_take (f := 16) (i := 10) (v := ?vpa10) rfl (by kernel_rfl) (by kernel_rfl) (by kernel_rfl) (by kernel_rfl) (by kernel_rfl) (fun _ _ _ h => h) (Or.inl ⟨(by rfl), ?hypa10⟩) (Below.refl _ _) ?restpa10
        case hypa10 =>
          intro W hW
          go_simp
          exact rfl
        simp only [List.getElem_toArray, List.getElem_cons_succ, List.getElem_cons_zero, Act.put, List.setIfInBounds_toArray, List.set_cons_zero, List.set_cons_succ]
        refine but_take (f := 16) (i := 11) (v := ?vpa11) rfl (by kernel_rfl) (by kernel_rfl) (by kernel_rfl) (by kernel_rfl) (by kernel_rfl) (fun _ _ _ h => h) (Or.inl ⟨(by rfl), ?hypa11⟩) (Below.refl _ _) ?restpa11
        case hypa11 =>
          intro W hW
          go_simp
          exact rfl
        simp only [List.getElem_toArray, List.getElem_cons_succ, List.getElem_cons_zero, Act.put, List.setIfInBounds_toArray, List.set_cons_zero, List.set_cons_succ]
        refine but_take (f := 16) (i := 12) (v := ?vpa12) rfl (by kernel_rfl) (by kernel_rfl) (by kernel_rfl) (by kernel_rfl) (by kernel_rfl) (fun _ _ _ h => h) (Or.inl ⟨(by rfl), ?hypa12⟩) (Below.refl _ _) ?restpa12
        case hypa12 =>
          intro W hW
          have hb0 : Below wr.heap.size wr W := bstep (Below.drew1 _) hW
          have e1 := (hb0.cell (p := ⟨b, off + k, none⟩) hbb).trans E1.out
          have e2 := (hb0.cell (p := ⟨b, off + (k + 1), none⟩) hbb).trans E2.out
          go_simp
          exact rfl
        simp only [List.getElem_toArray, List.getElem_cons_succ, List.getElem_cons_zero, Act.put, List.setIfInBounds_toArray, List.set_cons_zero, List.set_cons_succ]
        refine but_run (i := 6) (by kernel_rfl) rfl (by rfl) ?_
        simp only [List.getElem_toArray, List.getElem_cons_succ, List.getElem_cons_zero]
        intro K HK
        go_wp2_with fail
        refine (implNodeKeys_any _ ts[k] _ (R1.out.on (bstep (Below.drew1 _) (Below.refl _ _))) (by omega) (by omega)).mono ?_
        rintro r Vpa1 ⟨va, rfl, oa, hBpa1⟩
        rw [HK1.out] at oa
        obtain ⟨Aa, ca, rfl, _, _⟩ := oa.shape
        clear oa
        have hSpa1 := bstep (Below.refl _ _) hBpa1
        go_wp2_with fail
        refine HK.out _ Vpa1 (fun _ => hSpa1) ?_
        clear HK
        refine but_take (f := 16) (i := 7) (v := ?vpa7) rfl (by kernel_rfl) (by kernel_rfl) (by kernel_rfl) (by kernel_rfl) (by kernel_rfl) (fun _ _ _ h => h) (Or.inl ⟨(by rfl), ?hypa7⟩) hSpa1 ?restpa7
        case hypa7 =>
          intro W hW
          go_simp
          exact rfl
        simp only [List.getElem_toArray, List.getElem_cons_succ, List.getElem_cons_zero, Act.put, List.setIfInBounds_toArray, List.set_cons_zero, List.set_cons_succ]
        refine but_run (i := 13) (by kernel_rfl) rfl (by rfl) ?_
        simp only [List.getElem_toArray, List.getElem_cons_succ, List.getElem_cons_zero]
        intro K HK
        go_wp2_with fail
        refine (implNodeKeys_any _ ts[k + 1] _ (R2.out.on (bstep (Below.drew1 _) hSpa1)) (by omega) (by omega)).mono ?_
        rintro r Vpa2 ⟨vb, rfl, ob, hBpa2⟩
        rw [HK2.out] at ob
        obtain ⟨Ab, cb, rfl, _, _⟩ := ob.shape
        clear ob
        have hSpa2 := bstep hSpa1 hBpa2
        go_wp2_with fail
        refine HK.out _ Vpa2 (fun _ => hSpa2) ?_
        clear HK
        refine but_take (f := 16) (i := 14) (v := ?vpa14) rfl (by kernel_rfl) (by kernel_rfl) (by kernel_rfl) (by kernel_rfl) (by kernel_rfl) (fun _ _ _ h => h) (Or.inl ⟨(by rfl), ?hypa14⟩) hSpa2 ?restpa14
        case hypa14 =>
          intro W hW
          go_simp
          exact rfl
        simp only [List.getElem_toArray, List.getElem_cons_succ, List.getElem_cons_zero, Act.put, List.setIfInBounds_toArray, List.set_cons_zero, List.set_cons_succ]
        refine but_take (f := 16) (i := 15) (v := ?vpa15) rfl (by kernel_rfl) (by kernel_rfl) (by kernel_rfl) (by kernel_rfl) (by kernel_rfl) (fun _ _ _ h => h) (Or.inl ⟨(by rfl), ?hypa15⟩) hSpa2 ?restpa15
        case hypa15 =>
          intro W hW
          go_simp
          exact rfl
        simp only [List.getElem_toArray, List.getElem_cons_succ, List.getElem_cons_zero, Act.put, List.setIfInBounds_toArray, List.set_cons_zero, List.set_cons_succ]
        refine but_run (i := 16) (by kernel_rfl) rfl (by rfl) ?_
        simp only [List.getElem_toArray, List.getElem_cons_succ, List.getElem_cons_zero]
        intro K HK
        go_wp2_with fail
        refine HK.out _ Vpa2 (fun h => absurd rfl h) ?_
        clear HK
        refine but_done (by kernel_rfl) ?_
        go_wp2_with fail
        go_ret
        exact ⟨by rw [HRES.out]; go_num, bstep HB.out (bstep HX.out (bstep (Below.drew1 _) hSpa2))⟩
      · have hf' : (6 : Int) < (K1.length : Int) + (K2.length : Int) := by omega
        have HNX : Hid (∀ j (hj : j < k + 1) (h : j + 1 < ts.length), fewB ts[j] ts[j + 1] = false) := Lib.hid (fun j hj h => by
          rcases Nat.lt_or_ge j k with h' | h'
          · exact HI.out j h' h
          · have e : j = k := by omega
            subst e
            cases hfe : fewB ts[j] ts[j + 1]
            · rfl
            · exact absurd (HFW.out.1 hfe) hf)
        clear hf
        obtain ⟨x0, x1, x2⟩ := box2 QW.out
        go_wp2
        clear x0 x1 x2
        refine but_begin (f := 16) (S := fun V => Below wr.drew.heap.size wr.drew V) (by kernel_rfl) ?_
        refine but_take (f := 16) (i := 0) (v := ?vpb0) rfl (by kernel_rfl) (by kernel_rfl) (by kernel_rfl) (by kernel_rfl) (by kernel_rfl) (fun _ _ _ h => h) (Or.inl ⟨(by rfl), ?hypb0⟩) (Below.refl _ _) ?restpb0
        case hypb0 =>
          intro W hW
          go_simp
          exact rfl
        simp only [List.getElem_toArray, List.getElem_cons_succ, List.getElem_cons_zero, Act.put, List.setIfInBounds_toArray, List.set_cons_zero, List.set_cons_succ]
        refine but_take (f := 16) (i := 1) (v := ?vpb1) rfl (by kernel_rfl) (by kernel_rfl) (by kernel_rfl) (by kernel_rfl) (by kernel_rfl) (fun _ _ _ h => h) (Or.inl ⟨(by rfl), ?hypb1⟩) (Below.refl _ _) ?restpb1
        case hypb1 =>
          intro W hW
          have hb0 : Below wr.heap.size wr W := bstep (Below.drew1 _) hW
          obtain ⟨x0, x1, x2⟩ := box2 (box_on QW.out hb0)
          go_simp
          exact rfl
        simp only [List.getElem_toArray, List.getElem_cons_succ, List.getElem_cons_zero, Act.put, List.setIfInBounds_toArray, List.set_cons_zero, List.set_cons_succ]
        refine but_take (f := 16) (i := 2) (v := ?vpb2) rfl (by kernel_rfl) (by kernel_rfl) (by kernel_rfl) (by kernel_rfl) (by kernel_rfl) (fun _ _ _ h => h) (Or.inl ⟨(by rfl), ?hypb2⟩) (Below.refl _ _) ?restpb2
        case hypb2 =>
          intro W hW
          go_simp
          exact rfl
        simp only [List.getElem_toArray, List.getElem_cons_succ, List.getElem_cons_zero, Act.put, List.setIfInBounds_toArray, List.set_cons_zero, List.set_cons_succ]
        refine but_take (f := 16) (i := 3) (v := ?vpb3) rfl (by kernel_rfl) (by kernel_rfl) (by kernel_rfl) (by kernel_rfl) (by kernel_rfl) (fun _ _ _ h => h) (Or.inl ⟨(by rfl), ?hypb3⟩) (Below.refl _ _) ?restpb3
        case hypb3 =>
          intro W hW
          go_simp
          exact rfl
        simp only [List.getElem_toArray, List.getElem_cons_succ, List.getElem_cons_zero, Act.put, List.setIfInBounds_toArray, List.set_cons_zero, List.set_cons_succ]
        refine but_take (f := 16) (i := 4) (v := ?vpb4) rfl (by kernel_rfl) (by kernel_rfl) (by kernel_rfl) (by kernel_rfl) (by kernel_rfl) (fun _ _ _ h => h) (Or.inl ⟨(by rfl), ?hypb4⟩) (Below.refl _ _) ?restpb4
        case hypb4 =>
          intro W hW
          go_simp
          exact rfl
        simp only [List.getElem_toArray, List.getElem_cons_succ, List.getElem_cons_zero, Act.put, List.setIfInBounds_toArray, List.set_cons_zero, List.set_cons_succ]
        refine but_take (f := 16) (i := 5) (v := ?vpb5) rfl (by kernel_rfl) (by kernel_rfl) (by kernel_rfl) (by kernel_rfl) (by kernel_rfl) (fun _ _ _ h => h) (Or.inl ⟨(by rfl), ?hypb5⟩) (Below.refl _ _) ?restpb5
        case hypb5 =>
          intro W hW
          have hb0 : Below wr.heap.size wr W := bstep (Below.drew1 _) hW
          have e1 := (hb0.cell (p := ⟨b, off + k, none⟩) hbb).trans E1.out
          have e2 := (hb0.cell (p := ⟨b, off + (k + 1), none⟩) hbb).trans E2.out
          go_simp
          exact rfl
        simp only [List.getElem_toArray, List.getElem_cons_succ, List.getElem_cons_zero, Act.put, List.setIfInBounds_toArray, List.set_cons_zero, List.set_cons_succ]
        refine but_take (f := 16) (i := 8) (v := ?vpb8) rfl (by kernel_rfl) (by kernel_rfl) (by kernel_rfl) (by kernel_rfl) (by kernel_rfl) (fun _ _ _ h => h) (Or.inl ⟨(by rfl), ?hypb8⟩) (Below.refl _ _) ?restpb8
        case hypb8 =>
          intro W hW
          go_simp
          exact rfl
        simp only [List.getElem_toArray, List.getElem_cons_succ, List.getElem_cons_zero, Act.put, List.setIfInBounds_toArray, List.set_cons_zero, List.set_cons_succ]
        refine but_take (f := 16) (i := 9) (v := ?vpb9) rfl (by kernel_rfl) (by kernel_rfl) (by kernel_rfl) (by kernel_rfl) (by kernel_rfl) (fun _ _ _ h => h) (Or.inl ⟨(by rfl), ?hypb9⟩) (Below.refl _ _) ?restpb9
        case hypb9 =>
          intro W hW
          have hb0 : Below wr.heap.size wr W := bstep (Below.drew1 _) hW
          obtain ⟨x0, x1, x2⟩ := box2 (box_on QW.out hb0)
          go_simp
          exact rfl
        simp only [List.getElem_toArray, List.getElem_cons_succ, List.getElem_cons_zero, Act.put, List.setIfInBounds_toArray, List.set_cons_zero, List.set_cons_succ]
        refine but_take (f := 16) (i := 10) (v := ?vpb10) rfl (by kernel_rfl) (by kernel_rfl) (by kernel_rfl) (by kernel_rfl) (by kernel_rfl) (fun _ _ _ h => h) (Or.inl ⟨(by rfl), ?hypb10⟩) (Below.refl _ _) ?restpb10
        case hypb10 =>
          intro W hW
          go_simp
          exact rfl
        simp only [List.getElem_toArray, List.getElem_cons_succ, List.getElem_cons_zero, Act.put, List.setIfInBounds_toArray, List.set_cons_zero, List.set_cons_succ]
        refine but_take (f := 16) (i := 11) (v := ?vpb11) rfl (by kernel_rfl) (by kernel_rfl) (by kernel_rfl) (by kernel_rfl) (by kernel_rfl) (fun _ _ _ h => h) (Or.inl ⟨(by rfl), ?hypb11⟩) (Below.refl _ _) ?restpb11
        case hypb11 =>
          intro W hW
          go_simp
          exact rfl
        simp only [List.getElem_toArray, List.getElem_cons_succ, List.getElem_cons_zero, Act.put, List.setIfInBounds_toArray, List.set_cons_zero, List.set_cons_succ]
        refine but_take (f := 16) (i := 12) (v := ?vpb12) rfl (by kernel_rfl) (by kernel_rfl) (by kernel_rfl) (by kernel_rfl) (by kernel_rfl) (fun _ _ _ h => h) (Or.inl ⟨(by rfl), ?hypb12⟩) (Below.refl _ _) ?restpb12
        case hypb12 =>
          intro W hW
          have hb0 : Below wr.heap.size wr W := bstep (Below.drew1 _) hW
          have e1 := (hb0.cell (p := ⟨b, off + k, none⟩) hbb).trans E1.out
          have e2 := (hb0.cell (p := ⟨b, off + (k + 1), none⟩) hbb).trans E2.out
          go_simp
          exact rfl
        simp only [List.getElem_toArray, List.getElem_cons_succ, List.getElem_cons_zero, Act.put, List.setIfInBounds_toArray, List.set_cons_zero, List.set_cons_succ]
        refine but_run (i := 6) (by kernel_rfl) rfl (by rfl) ?_
        simp only [List.getElem_toArray, List.getElem_cons_succ, List.getElem_cons_zero]
        intro K HK
        go_wp2_with fail
        refine (implNodeKeys_any _ ts[k] _ (R1.out.on (bstep (Below.drew1 _) (Below.refl _ _))) (by omega) (by omega)).mono ?_
        rintro r Vpb1 ⟨va, rfl, oa, hBpb1⟩
        rw [HK1.out] at oa
        obtain ⟨Aa, ca, rfl, _, _⟩ := oa.shape
        clear oa
        have hSpb1 := bstep (Below.refl _ _) hBpb1
        go_wp2_with fail
        refine HK.out _ Vpb1 (fun _ => hSpb1) ?_
        clear HK
        refine but_take (f := 16) (i := 7) (v := ?vpb7) rfl (by kernel_rfl) (by kernel_rfl) (by kernel_rfl) (by kernel_rfl) (by kernel_rfl) (fun _ _ _ h => h) (Or.inl ⟨(by rfl), ?hypb7⟩) hSpb1 ?restpb7
        case hypb7 =>
          intro W hW
          go_simp
          exact rfl
        simp only [List.getElem_toArray, List.getElem_cons_succ, List.getElem_cons_zero, Act.put, List.setIfInBounds_toArray, List.set_cons_zero, List.set_cons_succ]
        refine but_run (i := 13) (by kernel_rfl) rfl (by rfl) ?_
        simp only [List.getElem_toArray, List.getElem_cons_succ, List.getElem_cons_zero]
        intro K HK
        go_wp2_with fail
        refine (implNodeKeys_any _ ts[k + 1] _ (R2.out.on (bstep (Below.drew1 _) hSpb1)) (by omega) (by omega)).mono ?_
        rintro r Vpb2 ⟨vb, rfl, ob, hBpb2⟩
        rw [HK2.out] at ob
        obtain ⟨Ab, cb, rfl, _, _⟩ := ob.shape
        clear ob
        have hSpb2 := bstep hSpb1 hBpb2
        go_wp2_with fail
        refine HK.out _ Vpb2 (fun _ => hSpb2) ?_
        clear HK
        refine but_take (f := 16) (i := 14) (v := ?vpb14) rfl (by kernel_rfl) (by kernel_rfl) (by kernel_rfl) (by kernel_rfl) (by kernel_rfl) (fun _ _ _ h => h) (Or.inl ⟨(by rfl), ?hypb14⟩) hSpb2 ?restpb14
        case hypb14 =>
          intro W hW
          go_simp
          exact rfl
        simp only [List.getElem_toArray, List.getElem_cons_succ, List.getElem_cons_zero, Act.put, List.setIfInBounds_toArray, List.set_cons_zero, List.set_cons_succ]
        refine but_take (f := 16) (i := 15) (v := ?vpb15) rfl (by kernel_rfl) (by kernel_rfl) (by kernel_rfl) (by kernel_rfl) (by kernel_rfl) (fun _ _ _ h => h) (Or.inl ⟨(by rfl), ?hypb15⟩) hSpb2 ?restpb15
        case hypb15 =>
          intro W hW
          go_simp
          exact rfl
        simp only [List.getElem_toArray, List.getElem_cons_succ, List.getElem_cons_zero, Act.put, List.setIfInBounds_toArray, List.set_cons_zero, List.set_cons_succ]
        refine but_run (i := 16) (by kernel_rfl) rfl (by rfl) ?_
        simp only [List.getElem_toArray, List.getElem_cons_succ, List.getElem_cons_zero]
        intro K HK
        go_wp2_with fail
        refine HK.out _ Vpb2 (fun h => absurd rfl h) ?_
        clear HK
        refine but_done (by kernel_rfl) ?_
        go_wp2_with fail
        go_roundw
        case rel => exact ⟨k + 1, by omega, by go_num, HNX, Lib.hid (bstep HX.out (bstep (Below.drew1 _) hSpb2))⟩
        case measure => simp [intOf]; omega
    · have i1 : ¬ (k : Int) + 1 < (ts.length : Int) := by omega
      have i8 : IntKind.i64.wrap (k : Int) = (k : Int) := by rw [IntKind.wrap_i64]; omega
      have i9 : IntKind.i64.wrap ((k : Int) + 1 + 1) = (k : Int) + 1 + 1 := by rw [IntKind.wrap_i64]; omega
      have i10 : (k : Int) + 1 - 1 = (k : Int) := by omega
      have i6 : IntKind.i64.wrap ((k : Int) + 1) = (k : Int) + 1 := by rw [IntKind.wrap_i64]; omega
      have HRES := Lib.hid (pair_miss (fun j hj => HI.out j (by omega) hj))
      go_wp2
      go_ret
      exact ⟨by rw [HRES.out]; rfl, bstep HB.out HX.out⟩
end Go.Proofs.YtkcafbdlealbpaaGreat
/- Contracts of slices.Grow on nil and of slices.Concat, for keys. Condition: at most 2^20 lists and keys. -/
namespace Go.Proofs.YtkcafbdlealbpaaGreat
open Go.RowKit
set_option maxRecDepth 100000
set_option linter.unusedSimpArgs false
set_option linter.unusedVariables false
theorem wpList_zeros {P : Program} {ops : Array Oper} {rest : List Oper} {o : Oper} {a : Act} {Q : Exit → Act → World → Prop} (w : World) (hgd : o.guard = none) (s x : Operand) (t tn : Nat)
    (hop : o.op = .call { callee := .builtin .append, args := #[s, x], argTypes := #[t, tn] }) (v u v' : Value) (w' : World) (hs : a.eval s = v) (hx : a.eval x = u) (hrun : ∀ ty, (Builtin.append_ #[t, tn] ty #[v, u]).run P w = .ok v' w')
    (h : wpList P ops Q rest (a.put o.dst v') w') : wpList P ops Q (o :: rest) a w := by
  refine wpList_plain hgd fun K hK => ?_
  unfold Oper.wp execOp
  simp only [hop, resolve, invoke, builtin, Sem.run_bind, Sem.run_pure, Result.andThen_ok, List.map_toArray, List.map_cons, List.map_nil, hs, hx, hrun]
  exact hK _ _ h
def GrowsK (w : World) (e : Ending) (w' : World) : Prop := ∃ v, e = .returned v ∧ RowK w' w.heap.size v [] ∧ Below w.heap.size w w'
set_option maxHeartbeats 1000000 in
theorem grow_any (n : Nat) (w : World) (hn : n ≤ 2097152) : Calls Tryz.prog 124 #[.slice none 0 0, .int .i64 (n : Int)] w (GrowsK w) := by
  have h1 : ¬ ((n : Int) < 0) := by omega
  have h3 : IntKind.i64.wrap (n : Int) = (n : Int) := by rw [IntKind.wrap_i64]; omega
  have h5 : IntKind.i64.wrap 0 = 0 := by rw [IntKind.wrap_i64]; omega
  rcases Nat.eq_zero_or_pos n with h0 | h0
  · subst h0
    go_enter Tryz.func124, Tryz.ntmps124
    go_wp2
    go_ret
    exact ⟨_, rfl, ⟨rfl, .inl ⟨rfl, rfl⟩⟩, Below.refl _ _⟩
  · obtain ⟨i, hi, hz, hs, hb⟩ := info_parts key_info
    have h4 : (0 : Int) < (n : Int) := by omega
    have h6 : ¬ n = 0 := by omega
    have hrz : ∀ ty, (Builtin.append_ #[36, 3] ty #[.slice none 0 0, .int .i64 (n : Int)]).run Tryz.prog w = .ok (.slice (some ⟨w.heap.size, 0, none⟩) n (grownCap w n 0 29)) (w.drew.alloc (.cells (Builtin.zeroCells (Value.agg #[.int .i64 0, .int .i64 0, .int .i64 0, .int .i64 0, .int .i64 0]).cells n ++ Builtin.zeroCells (Value.agg #[.int .i64 0, .int .i64 0, .int .i64 0, .int .i64 0, .int .i64 0]).cells (grownCap w n 0 29 - n)) 29)) := fun ty =>
      Lib.run_append_nil_zeros w 36 3 ty 29 i _ .i64 .i64 Tryz.underlying36 Tryz.underlying3 hi hz n h0 (by omega) (by omega) (by rw [hb]; omega)
    have hG1 : n ≤ grownCap w n 0 29 := grownCap_ge w n 0 _
    have hG2 : grownCap w n 0 29 ≤ maxLen := grownCap_le_maxLen w n 0 _ (by unfold maxLen; omega)
    obtain ⟨G, hG⟩ : ∃ G, G = grownCap w n 0 29 := ⟨_, rfl⟩
    rw [← hG] at hrz hG1 hG2
    obtain ⟨ob, hob⟩ : ∃ o : Array Value, o = Builtin.zeroCells (Value.agg #[.int .i64 0, .int .i64 0, .int .i64 0, .int .i64 0, .int .i64 0]).cells n ++ Builtin.zeroCells (Value.agg #[.int .i64 0, .int .i64 0, .int .i64 0, .int .i64 0, .int .i64 0]).cells (G - n) := ⟨_, rfl⟩
    rw [← hob] at hrz
    have hsz : ob.size = G * 5 := by
      rw [hob, Array.size_append, size_zeroCells, size_zeroCells]
      show n * 5 + (G - n) * 5 = G * 5
      omega
    have HR := Lib.hid hsz
    clear hsz hob hG hi hz hs hb
    have hG3 : (0 : Int) ≤ (G : Int) := by omega
    go_enter Tryz.func124, Tryz.ntmps124
    go_wp2_with (first | (at_builtin; refine wpList_zeros _ rfl (.tmp 20) (.tmp 21) 36 3 rfl _ _ _ _ rfl rfl hrz ?_) | fail)
    go_wp2
    go_ret
    exact ⟨_, rfl, ⟨rfl, .inr ⟨w.heap.size, G, ob, rfl, Nat.le_refl _, heap_alloc_new w.drew _, Nat.zero_le _, hG2, HR.out, rfl⟩⟩, (Below.refl _ _).drew.alloc (Nat.le_refl _) _⟩
theorem flat_take {ns : List (List KeyD)} {k : Nat} (h : k < ns.length) : (ns.take (k + 1)).flatten = (ns.take k).flatten ++ ns[k] := by
  rw [List.take_succ_eq_append_getElem h, List.flatten_append]
  simp
theorem flat_takelen (ns : List (List KeyD)) (k : Nat) : ((ns.take k).flatten).length ≤ sumN ns := by
  rw [flat_sum]
  exact sumN_take_le ns k
set_option maxHeartbeats 4000000 in
theorem concat_any (v : Value) (ns : List (List KeyD)) (w : World) (hv : Reads w w.heap.size v (setsD ns)) (h1 : ns.length ≤ 1048576) (h2 : sumN ns ≤ 1048576) :
    Calls Tryz.prog 93 #[v] w (NewK w ns.flatten) := by
  obtain ⟨A, c, rfl, _, _⟩ := hv.lenN
  have HV := Lib.hid hv
  have HS2 := Lib.hid h2
  clear hv
  go_enter Tryz.func93, Tryz.ntmps93
  go_wp2
  go_loopw [3, 11] (fun t i wr => ∃ k : Nat, k ≤ ns.length ∧ i = .int .i64 k ∧ t = .int .i64 (sumN (ns.take k) : Nat) ∧ Hid (Below w.heap.size w wr)) (fun _ i _ => ns.length - (intOf i).toNat)
  case atStart => exact ⟨0, Nat.zero_le _, rfl, by simp [sumN], Lib.hid (Below.refl _ _)⟩
  case round =>
    obtain ⟨k, hk, rfl, rfl, HW⟩ := hrel
    by_cases hlt : k < ns.length
    · obtain ⟨b, off, rfl, hbb, hc⟩ := (HV.out.on HW.out).set hlt
      obtain ⟨A1, d1, c1, _, _, _⟩ := hc k hlt
      have T1 := Lib.hid (sumN_take hlt)
      have hsum := sumN_take_le ns k
      have hl := sumN_mem (List.getElem_mem hlt)
      have i1 : (k : Int) < (ns.length : Int) := by omega
      have i2 : (0 : Int) ≤ (k : Int) := by omega
      clear hc
      generalize hq : sumN (ns.take k) = q at *
      have i3 : IntKind.i64.wrap ((q : Int) + ((ns[k]).length : Int)) = (q : Int) + ((ns[k]).length : Int) := by rw [IntKind.wrap_i64]; omega
      have i4 : ¬ ((q : Int) + ((ns[k]).length : Int) < 0) := by omega
      clear hq
      go_wp2
      go_roundw
      case rel => exact ⟨k + 1, by omega, by go_num, by rw [T1.out]; go_num, HW⟩
      case measure => simp [intOf]; omega
    · have e : k = ns.length := by omega
      subst e
      rw [List.take_length]
      go_wp2_with fail
      refine (grow_any (sumN ns) _ (by omega)).mono ?_
      rintro r w1 ⟨vg, rfl, og, bg⟩
      have HG := Lib.hid og
      have BG := Lib.hid (bstep HW.out bg)
      have HZ := Lib.hid HW.out.size
      clear og bg
      obtain ⟨Ag, cg, rfl, _, _⟩ := HG.out.shape
      go_wp2
      go_loopw [6, 27] (fun o i wr => ∃ k : Nat, k ≤ ns.length ∧ i = .int .i64 k ∧ Hid (RowK wr w.heap.size o (ns.take k).flatten) ∧ Hid (Below w.heap.size w wr)) (fun _ i _ => ns.length - (intOf i).toNat)
      case atStart => exact ⟨0, Nat.zero_le _, rfl, Lib.hid (HG.out.mono HZ.out), BG⟩
      case round =>
        clear HG BG HZ HW
        obtain ⟨k, hk, rfl, HR, HW⟩ := hrel
        obtain ⟨Ao, co, rfl, _, _⟩ := HR.out.shape
        by_cases hlt : k < ns.length
        · obtain ⟨b, off, rfl, hbb, hc⟩ := (HV.out.on HW.out).set hlt
          obtain ⟨A1, d1, c1, _, _, r1⟩ := hc k hlt
          have T1 := Lib.hid (flat_take hlt)
          have HL := Lib.hid (flat_takelen ns k)
          have hl := sumN_mem (List.getElem_mem hlt)
          have HAt := Lib.hid r1.atK
          have HZ := Lib.hid HW.out.size
          have i1 : (k : Int) < (ns.length : Int) := by omega
          have i2 : (0 : Int) ≤ (k : Int) := by omega
          clear hc r1
          go_wp2_with (at_builtin; refine wpList_appK _ rfl (.tmp 31) (.tmp 32) rfl w.heap.size _ (ns.take k).flatten rfl HR.out A1 (ns[k]).length d1 ns[k] rfl rfl HAt.out (by have := HL.out; omega) HZ.out ?_; intro v1 w1 o1 b1; clear HR HAt)
          have HO := Lib.hid o1
          have B3 := Lib.hid (HW.out.trans b1)
          clear o1 b1
          go_roundw
          case rel => exact ⟨k + 1, by omega, by go_num, Lib.hid (by rw [T1.out]; exact HO.out), B3⟩
          case measure => simp [intOf]; omega
        · have e : k = ns.length := by omega
          subst e
          have h := HR.out
          rw [List.take_length] at h
          have HF := Lib.hid h
          clear h
          go_wp2
          go_ret
          refine ⟨_, rfl, ?_, HW.out⟩
          rw [List.take_length]
          exact HF.out
end Go.Proofs.YtkcafbdlealbpaaGreat
/- The contract of impl.joinNodes. Conditions: at most 10^6 nodes, 2^20 sets and keys. -/
namespace Go.Proofs.YtkcafbdlealbpaaGreat
open Go.RowKit
set_option maxRecDepth 100000
set_option linter.unusedSimpArgs false
set_option linter.unusedVariables false

theorem reads_two {w : World} {b : Nat} {v1 v2 : Value} {K1 K2 : List KeyD} (h : w.heap[b]? = some (.cells #[v1, v2] 36 (0, 0))) (h1 : Reads w w.heap.size v1 (keysD K1)) (h2 : Reads w w.heap.size v2 (keysD K2)) (hb : b < w.heap.size) : Reads w w.heap.size (.slice (some ⟨b, 0, none⟩) 2 2) (setsD [K1, K2]) := by
  refine .row b 0 2 2 _ 1 [v1, v2] _ hb (Nat.le_refl _) (by unfold maxLen; omega) rfl rfl (fun i hi => ?_) (fun i hi h' => ?_)
  · rw [Nat.zero_add, cell_of_row _ _ _ _ _ _ h]
    match i, hi with
    | 0, _ => rfl
    | 1, _ => rfl
  · match i, hi with
    | 0, _ => exact h1
    | 1, _ => exact h2
/-- Between two rounds of impl.joinNodes. -/
def JoinI (w : World) (S : Nat → Prop) (J : TreeD) (wr : World) (q : Value) : Prop := ∃ (lo : List Int) (ts : List NodeD) (A : Option Addr) (c : Nat) (B : Option Addr) (d : Nat), q = .int .i64 (pairK ts) ∧ wr.heap[w.heap.size]? = some (.cells #[.slice A lo.length c, .slice B ts.length d] 27 (0, 0)) ∧ wr.heap[w.heap.size + 1]? = some (.cells #[.slice none 0 0, .slice none 0 0] 27 (0, 0)) ∧
  TreeC wr (fun b => (S b ∧ b < w.heap.size) ∨ w.heap.size + 2 ≤ b) (.slice A lo.length c) (.slice B ts.length d) lo ts ∧ joinK (lo, ts) = J ∧ lo.length = ts.length ∧ ts.length ≤ 1000000 ∧ sumT ts ≤ 1048576 ∧ Below w.heap.size w wr
theorem joinAt_set {lo : List Int} {ts : List NodeD} {i : Nat} (hl : i < lo.length) (h1 : i < ts.length) (h2 : i + 1 < ts.length) : joinAt (lo, ts) i = (setL lo i [lo[i]] (i + 2), setL ts i [nodeNewK (nodeKeysK ts[i] ++ nodeKeysK ts[i + 1])] (i + 2)) := by
  unfold joinAt
  simp only [getD_node h1, getD_node h2]
  congr 1
  unfold setL
  rw [List.take_succ_eq_append_getElem hl]
set_option maxHeartbeats 16000000 in
theorem joinNodes_any (vl vn : Value) (lo : List Int) (ts : List NodeD) (S : Nat → Prop) (w : World) (hv : TreeC w S vl vn lo ts) (hlen : lo.length = ts.length) (hn : ts.length ≤ 1000000) (hs : sumT ts ≤ 1048576) :
    Calls Tryz.prog 43 #[.agg #[vl, vn]] w (MakesC w (fun b => S b ∨ w.heap.size ≤ b) (joinK (lo, ts)).1 (joinK (lo, ts)).2) := by
  obtain ⟨J, hJ⟩ : ∃ J, joinK (lo, ts) = J := ⟨_, rfl⟩
  rw [hJ]
  obtain ⟨A, c, B, d, rfl, rfl⟩ := hv.reads.shape
  have hb2 := bal2 w (.cells #[.slice A lo.length c, .slice B ts.length d] 27) (.cells #[.slice none 0 0, .slice none 0 0] 27)
  obtain ⟨q0, q1⟩ := al2 w (.cells #[.slice A lo.length c, .slice B ts.length d] 27) (.cells #[.slice none 0 0, .slice none 0 0] 27)
  have HV := Lib.hid (hv.lt.on hb2)
  have HB := Lib.hid hb2
  have Q0 := Lib.hid q0
  have Q1 := Lib.hid q1
  have HJ := Lib.hid hJ
  have HLEN := Lib.hid hlen
  clear hv hb2 q0 q1 hJ hlen
  go_enter Tryz.func43, Tryz.ntmps43
  go_upto_region 1 with (fail)
  generalize (w.alloc (.cells #[.slice A lo.length c, .slice B ts.length d] 27)).alloc (.cells #[.slice none 0 0, .slice none 0 0] 27) = W at *
  obtain ⟨x0, x1, x2⟩ := box2 Q0.out
  go_wp2_with fail
  refine (implPair_any _ _ lo ts _ HV.out.reads (by omega) (by omega)).mono ?_
  rintro e w1 ⟨rfl, b1⟩
  have REL : Hid (JoinI w S J w1 (.int .i64 (pairK ts))) := Lib.hid ⟨lo, ts, A, c, B, d, rfl, box_on Q0.out b1, box_on Q1.out b1, (HV.out.on b1).mono (fun b hb => .inl hb), HJ.out, HLEN.out, hn, hs, bstep HB.out b1⟩
  clear x0 x1 x2 b1 Q0 Q1 HV HB HLEN HJ
  go_wp2
  go_loopw [3] (fun q wr => Hid (JoinI w S J wr q)) (fun _ wr => lenN1 w.heap.size wr)
  case atStart => exact REL
  case round =>
    clear REL hn hs
    obtain ⟨lo, ts, A, c, B, d, rfl, q0, q1, hv, hJ, hlen, hn, hs, hb⟩ := hrel.out
    rcases pair_spec ts with ⟨hp, _⟩ | ⟨i, hp, hlt, hfew, _⟩
    · have hj : J = (lo, ts) := by rw [← hJ]; exact join_done hp
      rw [hp]
      have QR := Lib.hid q1
      have HO := Lib.hid (only_two wr (w.heap.size + 1) 0 1 (.slice A lo.length c) (.slice B ts.length d))
      have HV := Lib.hid hv
      have HB := Lib.hid hb
      have HJ := Lib.hid hj
      clear hlen
      obtain ⟨x0, x1, x2⟩ := box2 q0
      obtain ⟨y0, y1, y2⟩ := box2 q1
      clear hrel hJ hj hv hb q0 q1 hp
      go_wp2
      refine bodyPost_ret (v := .agg #[.slice A lo.length c, .slice B ts.length d]) (by simp [results, Tryz.results43, go_sem, *]) rfl ?_
      rw [HJ.out]
      refine ⟨_, _, rfl, (HV.out.keep (fun b hb hl => HO.out.block b hl (fun e => ?_))).mono (fun b hb => ?_), HB.out.trans (HO.out.below HB.out.size (fun b hb => by omega))⟩
      · rcases hb with hb | hb <;> omega
      · rcases hb with hb | hb
        · exact .inl hb.1
        · exact .inr (by omega)
    · have hii : i < ts.length := by omega
      have hil : i < lo.length := by omega
      have hj := join_step (t := (lo, ts)) hp
      rw [joinAt_set hil hii hlt] at hj
      have hjs := joinAt_sum (lo, ts) i hlt
      have hjl := joinAt_len (lo, ts) i hlt
      rw [joinAt_set hil hii hlt] at hjs hjl
      rw [hp]
      obtain ⟨K1, hK1⟩ : ∃ K, nodeKeysK ts[i] = K := ⟨_, rfl⟩
      obtain ⟨K2, hK2⟩ : ∃ K, nodeKeysK ts[i + 1] = K := ⟨_, rfl⟩
      have hk1 := nodeKeys_len ts[i]
      have hk2 := nodeKeys_len ts[i + 1]
      have hm1 := small_at (show sumT ts ≤ 1100000 by omega) hii
      have hm2 := small_at (show sumT ts ≤ 1100000 by omega) hlt
      have hst1 := sumT_mem (List.getElem_mem hii)
      have hst2 := sumT_mem (List.getElem_mem hlt)
      have hfw := of_decide_eq_true hfew
      rw [hK1, hK2] at hfw
      rw [hK1] at hk1
      rw [hK2] at hk2
      rw [hK1, hK2] at hj hjs hjl
      obtain ⟨KK, hKK⟩ : ∃ K, K1 ++ K2 = K := ⟨_, rfl⟩
      have hkl : KK.length = K1.length + K2.length := by rw [← hKK]; simp
      have hkle : KK.length ≤ 6 := by omega
      rw [hKK] at hj hjs hjl
      have HKK : Hid ([K1, K2].flatten = KK) := Lib.hid (by rw [← hKK]; simp)
      have HK1 := Lib.hid hK1
      have HK2 := Lib.hid hK2
      obtain ⟨gl, offl, hAe, hbl, hcl⟩ := hv.reads.1.int hil
      subst hAe
      have E3 : Hid (wr.cell? ⟨gl, offl + i, none⟩ = some (.int .i64 lo[i])) := Lib.hid (hcl i hil)
      obtain ⟨b, off, hBe, hbb, hc⟩ := hv.reads.2.node hlt
      subst hBe
      obtain ⟨Aa, da, e1, _, _, r1⟩ := hc i hii
      obtain ⟨Ab, db, e2, _, _, r2⟩ := hc (i + 1) hlt
      have R1 := Lib.hid r1
      have R2 := Lib.hid r2
      have E1 := Lib.hid e1
      have E2 := Lib.hid e2
      have QW := Lib.hid q0
      have Q1 := Lib.hid q1
      have HB := Lib.hid hb
      have HT := Lib.hid hv.lt
      have HLEN := Lib.hid hlen
      have HD := Lib.hid (lenN1_box q0)
      have HJ2 := Lib.hid (hj.symm.trans hJ)
      have HJS := Lib.hid hjs
      have HJL := Lib.hid hjl
      have h2a := Nat.le_of_eq hlen
      have h2b := Nat.le_of_eq hlen.symm
      have hwr : w.heap.size + 1 < wr.heap.size := (Array.getElem?_eq_some_iff.1 q1).1
      have i1 : (i : Int) + 1 < (ts.length : Int) := by omega
      have i2 : (0 : Int) ≤ (i : Int) := by omega
      have i3 : (0 : Int) ≤ (i : Int) + 1 := by omega
      have i4 : (i : Int) < (ts.length : Int) := by omega
      have i16 : (i : Int) < (lo.length : Int) := by omega
      have i5 : ((i : Int) + 1).toNat = i + 1 := by omega
      have i6 : IntKind.i64.wrap ((i : Int) + 1) = (i : Int) + 1 := by rw [IntKind.wrap_i64]; omega
      have i7 : IntKind.i64.wrap ((i : Int) + 2) = (i : Int) + 2 := by rw [IntKind.wrap_i64]; omega
      clear hrel hj hjs hjl hJ hlen hb q0 q1 hv hc r1 r2 e1 e2 hp hfew hcl hK1 hK2 hKK hkl
      obtain ⟨x0, x1, x2⟩ := box2 QW.out
      go_upto_region 4 with (fail)
      clear x0 x1 x2
      refine but_begin (f := 15) (S := fun V => Below wr.heap.size wr V) (by kernel_rfl) ?_
      refine but_take (f := 15) (i := 0) (v := ?vd0) rfl (by kernel_rfl) (by kernel_rfl) (by kernel_rfl) (by kernel_rfl) (by kernel_rfl) (fun _ _ _ h => h) (Or.inl ⟨(by rfl), ?hyd0⟩) (Below.drew1 _) ?restd0
      case hyd0 =>
        intro W hW
        go_simp
        exact rfl
      simp only [List.getElem_toArray, List.getElem_cons_succ, List.getElem_cons_zero, Act.put, List.setIfInBounds_toArray, List.set_cons_zero, List.set_cons_succ]
      refine but_take (f := 15) (i := 1) (v := ?vd1) rfl (by kernel_rfl) (by kernel_rfl) (by kernel_rfl) (by kernel_rfl) (by kernel_rfl) (fun _ _ _ h => h) (Or.inl ⟨(by rfl), ?hyd1⟩) (Below.drew1 _) ?restd1
      case hyd1 =>
        intro W hW
        obtain ⟨x0, x1, x2⟩ := box2 (box_on QW.out hW)
        go_simp
        exact rfl
      simp only [List.getElem_toArray, List.getElem_cons_succ, List.getElem_cons_zero, Act.put, List.setIfInBounds_toArray, List.set_cons_zero, List.set_cons_succ]
      refine but_take (f := 15) (i := 2) (v := ?vd2) rfl (by kernel_rfl) (by kernel_rfl) (by kernel_rfl) (by kernel_rfl) (by kernel_rfl) (fun _ _ _ h => h) (Or.inl ⟨(by rfl), ?hyd2⟩) (Below.drew1 _) ?restd2
      case hyd2 =>
        intro W hW
        go_simp
        exact rfl
      simp only [List.getElem_toArray, List.getElem_cons_succ, List.getElem_cons_zero, Act.put, List.setIfInBounds_toArray, List.set_cons_zero, List.set_cons_succ]
      refine but_take (f := 15) (i := 3) (v := ?vd3) rfl (by kernel_rfl) (by kernel_rfl) (by kernel_rfl) (by kernel_rfl) (by kernel_rfl) (fun _ _ _ h => h) (Or.inl ⟨(by rfl), ?hyd3⟩) (Below.drew1 _) ?restd3
      case hyd3 =>
        intro W hW
        go_simp
        exact rfl
      simp only [List.getElem_toArray, List.getElem_cons_succ, List.getElem_cons_zero, Act.put, List.setIfInBounds_toArray, List.set_cons_zero, List.set_cons_succ]
      refine but_take (f := 15) (i := 4) (v := ?vd4) rfl (by kernel_rfl) (by kernel_rfl) (by kernel_rfl) (by kernel_rfl) (by kernel_rfl) (fun _ _ _ h => h) (Or.inl ⟨(by rfl), ?hyd4⟩) (Below.drew1 _) ?restd4
      case hyd4 =>
        intro W hW
        have e1 := (hW.cell (p := ⟨b, off + i, none⟩) hbb).trans E1.out
        have e2 := (hW.cell (p := ⟨b, off + (i + 1), none⟩) hbb).trans E2.out
        go_simp
        exact rfl
      simp only [List.getElem_toArray, List.getElem_cons_succ, List.getElem_cons_zero, Act.put, List.setIfInBounds_toArray, List.set_cons_zero, List.set_cons_succ]
      refine but_take (f := 15) (i := 6) (v := ?vd6) rfl (by kernel_rfl) (by kernel_rfl) (by kernel_rfl) (by kernel_rfl) (by kernel_rfl) (fun _ _ _ h => h) (Or.inl ⟨(by rfl), ?hyd6⟩) (Below.drew1 _) ?restd6
      case hyd6 =>
        intro W hW
        go_simp
        exact rfl
      simp only [List.getElem_toArray, List.getElem_cons_succ, List.getElem_cons_zero, Act.put, List.setIfInBounds_toArray, List.set_cons_zero, List.set_cons_succ]
      refine but_take (f := 15) (i := 7) (v := ?vd7) rfl (by kernel_rfl) (by kernel_rfl) (by kernel_rfl) (by kernel_rfl) (by kernel_rfl) (fun _ _ _ h => h) (Or.inl ⟨(by rfl), ?hyd7⟩) (Below.drew1 _) ?restd7
      case hyd7 =>
        intro W hW
        obtain ⟨x0, x1, x2⟩ := box2 (box_on QW.out hW)
        go_simp
        exact rfl
      simp only [List.getElem_toArray, List.getElem_cons_succ, List.getElem_cons_zero, Act.put, List.setIfInBounds_toArray, List.set_cons_zero, List.set_cons_succ]
      refine but_take (f := 15) (i := 8) (v := ?vd8) rfl (by kernel_rfl) (by kernel_rfl) (by kernel_rfl) (by kernel_rfl) (by kernel_rfl) (fun _ _ _ h => h) (Or.inl ⟨(by rfl), ?hyd8⟩) (Below.drew1 _) ?restd8
      case hyd8 =>
        intro W hW
        go_simp
        exact rfl
      simp only [List.getElem_toArray, List.getElem_cons_succ, List.getElem_cons_zero, Act.put, List.setIfInBounds_toArray, List.set_cons_zero, List.set_cons_succ]
      refine but_take (f := 15) (i := 9) (v := ?vd9) rfl (by kernel_rfl) (by kernel_rfl) (by kernel_rfl) (by kernel_rfl) (by kernel_rfl) (fun _ _ _ h => h) (Or.inl ⟨(by rfl), ?hyd9⟩) (Below.drew1 _) ?restd9
      case hyd9 =>
        intro W hW
        go_simp
        exact rfl
      simp only [List.getElem_toArray, List.getElem_cons_succ, List.getElem_cons_zero, Act.put, List.setIfInBounds_toArray, List.set_cons_zero, List.set_cons_succ]
      refine but_take (f := 15) (i := 10) (v := ?vd10) rfl (by kernel_rfl) (by kernel_rfl) (by kernel_rfl) (by kernel_rfl) (by kernel_rfl) (fun _ _ _ h => h) (Or.inl ⟨(by rfl), ?hyd10⟩) (Below.drew1 _) ?restd10
      case hyd10 =>
        intro W hW
        go_simp
        exact rfl
      simp only [List.getElem_toArray, List.getElem_cons_succ, List.getElem_cons_zero, Act.put, List.setIfInBounds_toArray, List.set_cons_zero, List.set_cons_succ]
      refine but_take (f := 15) (i := 11) (v := ?vd11) rfl (by kernel_rfl) (by kernel_rfl) (by kernel_rfl) (by kernel_rfl) (by kernel_rfl) (fun _ _ _ h => h) (Or.inl ⟨(by rfl), ?hyd11⟩) (Below.drew1 _) ?restd11
      case hyd11 =>
        intro W hW
        have e1 := (hW.cell (p := ⟨b, off + i, none⟩) hbb).trans E1.out
        have e2 := (hW.cell (p := ⟨b, off + (i + 1), none⟩) hbb).trans E2.out
        go_simp
        exact rfl
      simp only [List.getElem_toArray, List.getElem_cons_succ, List.getElem_cons_zero, Act.put, List.setIfInBounds_toArray, List.set_cons_zero, List.set_cons_succ]
      refine but_run (i := 5) (by kernel_rfl) rfl (by rfl) ?_
      simp only [List.getElem_toArray, List.getElem_cons_succ, List.getElem_cons_zero]
      intro K HK
      go_wp2_with fail
      refine (implNodeKeys_any _ ts[i] _ (R1.out.on (Below.drew1 _)) (by omega) (by omega)).mono ?_
      rintro r Vd1 ⟨va, rfl, oa, hbd1⟩
      rw [HK1.out] at oa
      obtain ⟨A1, c1, rfl, _, _⟩ := oa.shape
      go_wp2_with fail
      have hSd1 : (fun V => Below wr.heap.size wr V) Vd1 := bstep (Below.drew1 _) hbd1
      refine HK.out _ _ (fun _ => hSd1) ?_
      clear HK
      have OA := Lib.hid oa.owns.reads
      clear oa
      refine but_run (i := 12) (by kernel_rfl) rfl (by rfl) ?_
      simp only [List.getElem_toArray, List.getElem_cons_succ, List.getElem_cons_zero]
      intro K HK
      go_wp2_with fail
      refine (implNodeKeys_any _ ts[i + 1] _ (R2.out.on hSd1) (by omega) (by omega)).mono ?_
      rintro r Vd2 ⟨vb, rfl, ob, hbd2⟩
      rw [HK2.out] at ob
      obtain ⟨A2, c2, rfl, _, _⟩ := ob.shape
      go_wp2_with fail
      have hSd2 : (fun V => Below wr.heap.size wr V) Vd2 := bstep hSd1 hbd2
      refine HK.out _ _ (fun _ => hSd2) ?_
      clear HK
      replace OA := Lib.hid (OA.out.on hbd2)
      have OB := Lib.hid ob.owns.reads
      clear ob
      refine but_run (i := 13) (by kernel_rfl) rfl (by rfl) ?_
      simp only [List.getElem_toArray, List.getElem_cons_succ, List.getElem_cons_zero]
      intro K HK
      go_wp2_with fail
      have hSd3 : (fun V => Below wr.heap.size wr V) (Vd2.alloc (.cells #[.slice A1 K1.length c1, .slice A2 K2.length c2] 36)) := bstep hSd2 (bal1 _ _)
      refine HK.out _ _ (fun _ => hSd3) ?_
      clear HK
      have hzd3 : Vd2.heap.size < (Vd2.alloc (.cells #[.slice A1 K1.length c1, .slice A2 K2.length c2] 36)).heap.size := by simp
      have OC := Lib.hid (reads_two (al1 Vd2 (.cells #[.slice A1 K1.length c1, .slice A2 K2.length c2] 36)) (OA.out.on (bal1 Vd2 (.cells #[.slice A1 K1.length c1, .slice A2 K2.length c2] 36))) (OB.out.on (bal1 Vd2 (.cells #[.slice A1 K1.length c1, .slice A2 K2.length c2] 36))) hzd3)
      generalize Vd2.alloc (.cells #[.slice A1 K1.length c1, .slice A2 K2.length c2] 36) = Vnd3 at *
      refine but_run (i := 14) (by kernel_rfl) rfl (by rfl) ?_
      simp only [List.getElem_toArray, List.getElem_cons_succ, List.getElem_cons_zero]
      intro K HK
      go_wp2_with fail
      refine (concat_any _ [K1, K2] _ OC.out (by simp) (by simp [sumN]; omega)).mono ?_
      rintro r Vd4 ⟨vk, rfl, ok, hbd4⟩
      rw [HKK.out] at ok
      obtain ⟨A3, c3, rfl, _, _⟩ := ok.shape
      go_wp2_with fail
      have hSd4 : (fun V => Below wr.heap.size wr V) Vd4 := bstep hSd3 hbd4
      refine HK.out _ _ (fun _ => hSd4) ?_
      clear HK
      have OKK := Lib.hid ok
      clear ok OA OB OC
      refine but_run (i := 15) (by kernel_rfl) rfl (by rfl) ?_
      simp only [List.getElem_toArray, List.getElem_cons_succ, List.getElem_cons_zero]
      intro K HK
      go_wp2_with fail
      refine HK.out _ _ (fun h => absurd rfl h) ?_
      clear HK
      refine but_done (by kernel_rfl) ?_
      have B4 : Below wr.heap.size wr Vd4 := hSd4
      have HB4 := Lib.hid B4
      have OKW := Lib.hid (OKK.out.on (Below.refl _ _))
      obtain ⟨W4, hW4⟩ : ∃ W, Vd4 = W := ⟨_, rfl⟩
      rw [hW4] at HB4 OKW ⊢
      clear B4 OKK hW4
      have hz4 := HB4.out.size
      replace QW := Lib.hid (box_on QW.out HB4.out)
      replace Q1 := Lib.hid (box_on Q1.out HB4.out)
      replace HT := Lib.hid (HT.out.on HB4.out)
      replace E3 := Lib.hid ((HB4.out.cell (p := ⟨gl, offl + i, none⟩) hbl).trans E3.out)
      have hbl4 : gl < W4.heap.size := by omega
      go_upto_region 5 with (fail)
      refine but_begin (f := 14) (S := fun V => Below W4.heap.size W4 V) (by kernel_rfl) ?_
      refine but_take (f := 14) (i := 0) (v := ?ve0) rfl (by kernel_rfl) (by kernel_rfl) (by kernel_rfl) (by kernel_rfl) (by kernel_rfl) (fun _ _ _ h => h) (Or.inl ⟨(by rfl), ?hye0⟩) (Below.drew1 _) ?reste0
      case hye0 =>
        intro W hW
        obtain ⟨x0, x1, x2⟩ := box2 (box_on QW.out hW)
        go_simp
        exact rfl
      simp only [List.getElem_toArray, List.getElem_cons_succ, List.getElem_cons_zero, Act.put, List.setIfInBounds_toArray, List.set_cons_zero, List.set_cons_succ]
      refine but_take (f := 14) (i := 1) (v := ?ve1) rfl (by kernel_rfl) (by kernel_rfl) (by kernel_rfl) (by kernel_rfl) (by kernel_rfl) (fun _ _ _ h => h) (Or.inl ⟨(by rfl), ?hye1⟩) (Below.drew1 _) ?reste1
      case hye1 =>
        intro W hW
        go_simp
        exact rfl
      simp only [List.getElem_toArray, List.getElem_cons_succ, List.getElem_cons_zero, Act.put, List.setIfInBounds_toArray, List.set_cons_zero, List.set_cons_succ]
      refine but_take (f := 14) (i := 2) (v := ?ve2) rfl (by kernel_rfl) (by kernel_rfl) (by kernel_rfl) (by kernel_rfl) (by kernel_rfl) (fun _ _ _ h => h) (Or.inl ⟨(by rfl), ?hye2⟩) (Below.drew1 _) ?reste2
      case hye2 =>
        intro W hW
        go_simp
        exact rfl
      simp only [List.getElem_toArray, List.getElem_cons_succ, List.getElem_cons_zero, Act.put, List.setIfInBounds_toArray, List.set_cons_zero, List.set_cons_succ]
      refine but_take (f := 14) (i := 3) (v := ?ve3) rfl (by kernel_rfl) (by kernel_rfl) (by kernel_rfl) (by kernel_rfl) (by kernel_rfl) (fun _ _ _ h => h) (Or.inl ⟨(by rfl), ?hye3⟩) (Below.drew1 _) ?reste3
      case hye3 =>
        intro W hW
        go_simp
        exact rfl
      simp only [List.getElem_toArray, List.getElem_cons_succ, List.getElem_cons_zero, Act.put, List.setIfInBounds_toArray, List.set_cons_zero, List.set_cons_succ]
      refine but_take (f := 14) (i := 4) (v := ?ve4) rfl (by kernel_rfl) (by kernel_rfl) (by kernel_rfl) (by kernel_rfl) (by kernel_rfl) (fun _ _ _ h => h) (Or.inl ⟨(by rfl), ?hye4⟩) (Below.drew1 _) ?reste4
      case hye4 =>
        intro W hW
        go_simp
        exact rfl
      simp only [List.getElem_toArray, List.getElem_cons_succ, List.getElem_cons_zero, Act.put, List.setIfInBounds_toArray, List.set_cons_zero, List.set_cons_succ]
      refine but_take (f := 14) (i := 5) (v := ?ve5) rfl (by kernel_rfl) (by kernel_rfl) (by kernel_rfl) (by kernel_rfl) (by kernel_rfl) (fun _ _ _ h => h) (Or.inl ⟨(by rfl), ?hye5⟩) (Below.drew1 _) ?reste5
      case hye5 =>
        intro W hW
        obtain ⟨x0, x1, x2⟩ := box2 (box_on QW.out hW)
        go_simp
        exact rfl
      simp only [List.getElem_toArray, List.getElem_cons_succ, List.getElem_cons_zero, Act.put, List.setIfInBounds_toArray, List.set_cons_zero, List.set_cons_succ]
      refine but_take (f := 14) (i := 6) (v := ?ve6) rfl (by kernel_rfl) (by kernel_rfl) (by kernel_rfl) (by kernel_rfl) (by kernel_rfl) (fun _ _ _ h => h) (Or.inl ⟨(by rfl), ?hye6⟩) (Below.drew1 _) ?reste6
      case hye6 =>
        intro W hW
        go_simp
        exact rfl
      simp only [List.getElem_toArray, List.getElem_cons_succ, List.getElem_cons_zero, Act.put, List.setIfInBounds_toArray, List.set_cons_zero, List.set_cons_succ]
      refine but_take (f := 14) (i := 7) (v := ?ve7) rfl (by kernel_rfl) (by kernel_rfl) (by kernel_rfl) (by kernel_rfl) (by kernel_rfl) (fun _ _ _ h => h) (Or.inl ⟨(by rfl), ?hye7⟩) (Below.drew1 _) ?reste7
      case hye7 =>
        intro W hW
        go_simp
        exact rfl
      simp only [List.getElem_toArray, List.getElem_cons_succ, List.getElem_cons_zero, Act.put, List.setIfInBounds_toArray, List.set_cons_zero, List.set_cons_succ]
      refine but_take (f := 14) (i := 8) (v := ?ve8) rfl (by kernel_rfl) (by kernel_rfl) (by kernel_rfl) (by kernel_rfl) (by kernel_rfl) (fun _ _ _ h => h) (Or.inl ⟨(by rfl), ?hye8⟩) (Below.drew1 _) ?reste8
      case hye8 =>
        intro W hW
        have e3 := (hW.cell (p := ⟨gl, offl + i, none⟩) hbl4).trans E3.out
        go_simp
        exact rfl
      simp only [List.getElem_toArray, List.getElem_cons_succ, List.getElem_cons_zero, Act.put, List.setIfInBounds_toArray, List.set_cons_zero, List.set_cons_succ]
      refine but_take (f := 14) (i := 9) (v := ?ve9) rfl (by kernel_rfl) (by kernel_rfl) (by kernel_rfl) (by kernel_rfl) (by kernel_rfl) (fun _ _ _ h => h) (Or.inl ⟨(by rfl), ?hye9⟩) (Below.drew1 _) ?reste9
      case hye9 =>
        intro W hW
        go_simp
        exact rfl
      simp only [List.getElem_toArray, List.getElem_cons_succ, List.getElem_cons_zero, Act.put, List.setIfInBounds_toArray, List.set_cons_zero, List.set_cons_succ]
      refine but_run (i := 10) (by kernel_rfl) rfl (by rfl) ?_
      simp only [List.getElem_toArray, List.getElem_cons_succ, List.getElem_cons_zero]
      intro K HK
      go_wp2_with fail
      refine (implNodeNew_any _ KK _ (OKW.out.owns.reads.on (Below.drew1 _)) (by omega)).mono ?_
      rintro r Ve1 ⟨vx, rfl, ox, hbe1⟩
      obtain ⟨Ax, cx, rfl, _, _⟩ := ox.reads.lenN
      go_wp2_with fail
      have hSe1 : (fun V => Below W4.heap.size W4 V) Ve1 := bstep (Below.drew1 _) hbe1
      refine HK.out _ _ (fun _ => hSe1) ?_
      clear HK
      have OX := Lib.hid (ox.mono (fun b hb => Nat.le_trans ((Below.drew1 _)).size hb))
      replace HT := Lib.hid (HT.out.on (bstep (Below.drew1 _) hbe1))
      clear ox
      refine but_take (f := 14) (i := 11) (v := ?ve11) rfl (by kernel_rfl) (by kernel_rfl) (by kernel_rfl) (by kernel_rfl) (by kernel_rfl) (fun _ _ _ h => h) (Or.inl ⟨(by rfl), ?hye11⟩) hSe1 ?reste11
      case hye11 =>
        intro W hW
        go_simp
        exact rfl
      simp only [List.getElem_toArray, List.getElem_cons_succ, List.getElem_cons_zero, Act.put, List.setIfInBounds_toArray, List.set_cons_zero, List.set_cons_succ]
      refine but_run (i := 12) (by kernel_rfl) rfl (by rfl) ?_
      simp only [List.getElem_toArray, List.getElem_cons_succ, List.getElem_cons_zero]
      intro K HK
      go_wp2_with fail
      have hSe2 : (fun V => Below W4.heap.size W4 V) (Ve1.alloc (.cells #[.int .i64 lo[i], .slice Ax (nodeNewK KK).length cx] 113)) := bstep hSe1 (bal1 _ _)
      refine HK.out _ _ (fun _ => hSe2) ?_
      clear HK
      have AX := Lib.hid (At.lit2 Ve1 (.int .i64 lo[i]) (.slice Ax (nodeNewK KK).length cx) 113)
      replace OX := Lib.hid (OX.out.on (bal1 Ve1 (.cells #[.int .i64 lo[i], .slice Ax (nodeNewK KK).length cx] 113)))
      replace HT := Lib.hid (HT.out.on (bal1 Ve1 (.cells #[.int .i64 lo[i], .slice Ax (nodeNewK KK).length cx] 113)))
      generalize Ve1.alloc (.cells #[.int .i64 lo[i], .slice Ax (nodeNewK KK).length cx] 113) = Vne2 at *
      refine but_run (i := 13) (by kernel_rfl) rfl (by rfl) ?_
      simp only [List.getElem_toArray, List.getElem_cons_succ, List.getElem_cons_zero]
      intro K HK
      have hrep := replaceNodes_any _ _ lo ts i (i + 2) _ 1 [lo[i]] [nodeNewK KK] [.slice Ax (nodeNewK KK).length cx] (fun b => ((S b ∧ b < w.heap.size) ∨ w.heap.size + 2 ≤ b) ∧ b < wr.heap.size) (fun b => W4.heap.size ≤ b) _ HT.out (show At _ _ (brX ([lo[i]].zip [.slice Ax (nodeNewK KK).length cx])) from AX.out) rfl rfl (by simp) (OwnsL.one OX.out) (fun b hb hb' => by have := hb.2; omega) (by omega) (by omega) HLEN.out (by omega) (by omega) (by simp)
      go_wp2_with fail
      refine (hrep).mono ?_
      rintro r Ve3 ⟨vl2, vn2, rfl, tv2, hbe3⟩
      clear hrep
      obtain ⟨A5, c5, B5, d5, rfl, rfl⟩ := tv2.reads.shape
      go_wp2_with fail
      have hSe3 : (fun V => Below W4.heap.size W4 V) Ve3 := bstep hSe2 hbe3
      refine HK.out _ _ (fun _ => hSe3) ?_
      clear HK
      have TV := Lib.hid tv2
      have hzc := (hSe2).size
      clear tv2 HT AX OX
      obtain ⟨y0, y1, y2⟩ := box2 (box_on QW.out hSe3)
      refine but_run (i := 14) (by kernel_rfl) rfl (by rfl) ?_
      simp only [List.getElem_toArray, List.getElem_cons_succ, List.getElem_cons_zero]
      intro K HK
      go_wp2_with fail
      refine HK.out _ _ (fun h => absurd rfl h) ?_
      clear HK
      refine but_done (by kernel_rfl) ?_
      have B5' : Below W4.heap.size W4 Ve3 := hSe3
      obtain ⟨W5, hW5⟩ : ∃ W, Ve3 = W := ⟨_, rfl⟩
      rw [hW5] at B5' TV ⊢
      clear hW5
      have q5 := box_on QW.out B5'
      have q6 := box_on Q1.out B5'
      have hz5 := B5'.size
      have hb5 := bstep (bstep HB.out HB4.out) B5'
      have HO := Lib.hid (only_two W5 w.heap.size 0 1 (.slice A5 (setL lo i [lo[i]] (i + 2)).length c5) (.slice B5 (setL ts i [nodeNewK KK] (i + 2)).length d5))
      have X8 := Lib.hid (box_set (i := 1) (u := .slice B5 (setL ts i [nodeNewK KK] (i + 2)).length d5) (box_set (i := 0) (u := .slice A5 (setL lo i [lo[i]] (i + 2)).length c5) q5))
      have QR8 := Lib.hid (box_only q6 HO.out (fun e => by omega))
      have TV8 := Lib.hid ((TV.out.keep (w' := (W5.setCell ⟨w.heap.size, 0, none⟩ (.slice A5 (setL lo i [lo[i]] (i + 2)).length c5)).setCell ⟨w.heap.size, 1, none⟩ (.slice B5 (setL ts i [nodeNewK KK] (i + 2)).length d5)) (fun b hb hl => HO.out.block b hl (fun e => by rcases hb with hb | hb | hb; (rcases hb.1 with h | h <;> omega); all_goals omega))).mono (T := fun b => (S b ∧ b < w.heap.size) ∨ w.heap.size + 2 ≤ b) (fun b hb => by rcases hb with hb | hb | hb; (exact hb.1); all_goals exact .inr (by omega)))
      have HB8 := Lib.hid (hb5.trans (HO.out.below hb5.size (fun b hb => by omega)))
      have HLL : Hid ((setL lo i [lo[i]] (i + 2)).length = (setL ts i [nodeNewK KK] (i + 2)).length) := Lib.hid (by have := HLEN.out; rw [setL_len _ _ _ _ (by omega) (by omega), setL_len _ _ _ _ (by omega) (by omega)]; simp; omega)
      clear B5' q5 q6 hb5 HO TV
      generalize setL lo i [lo[i]] (i + 2) = rl at *
      generalize setL ts i [nodeNewK KK] (i + 2) = rn at *
      go_upto_region 3 with (fail)
      generalize (W5.setCell ⟨w.heap.size, 0, none⟩ (.slice A5 rl.length c5)).setCell ⟨w.heap.size, 1, none⟩ (.slice B5 rn.length d5) = W8 at *
      have hn8 : rn.length + 1 = ts.length := HJL.out
      have hn9 : rn.length ≤ 1000000 := by omega
      have hs8 : sumT rn ≤ 1048576 := by have : sumT rn ≤ sumT ts := HJS.out; omega
      have HN8 := Lib.hid hn8
      clear hn8
      obtain ⟨z0, z1, z2⟩ := box2 X8.out
      go_wp2_with fail
      refine (implPair_any _ _ rl rn _ TV8.out.reads (by omega) (by omega)).mono ?_
      rintro e w9 ⟨rfl, b9⟩
      have X9 := Lib.hid (box_on X8.out b9)
      have REL : Hid (JoinI w S J w9 (.int .i64 (pairK rn))) := Lib.hid ⟨rl, rn, A5, c5, B5, d5, rfl, X9.out, box_on QR8.out b9, TV8.out.on b9, HJ2.out, HLL.out, hn9, hs8, bstep HB8.out b9⟩
      clear z0 z1 z2 b9
      go_wp2
      go_roundw
      case rel => exact REL
      case measure => rw [lenN1_box X9.out, HD.out]; have := HN8.out; omega
end Go.Proofs.YtkcafbdlealbpaaGreat
/- The contract of impl.splitNode, at nine keys. Conditions: at most 10^6 nodes. -/
namespace Go.Proofs.YtkcafbdlealbpaaGreat
open Go.RowKit
set_option maxRecDepth 100000
set_option linter.unusedSimpArgs false
set_option linter.unusedVariables false

theorem spotB_any (b a : Int) (w : World) : Calls Tryz.prog 27 #[.int .i64 b, .int .i64 a] w fun e w' => e = .returned (.int .i64 (spotI b a)) ∧ Below w.heap.size w w' := (implSpotOf_any b a w).mono (fun _ _ h => ⟨h.1, h.2 ▸ Below.refl _ _⟩)
theorem At.lit4 (w : World) (a b c d : Value) (e : TypeId) : At (w.alloc (.cells #[a, b, c, d] e)) (some ⟨w.heap.size, 0, none⟩) [a, b, c, d] := by
  refine .inr ⟨w.heap.size, 0, rfl, fun i hi => ?_⟩
  rw [cell_of_row _ _ _ _ _ _ (heap_alloc_new w _)]
  match i, hi with
  | 0, _ => rfl
  | 1, _ => rfl
  | 2, _ => rfl
  | 3, _ => rfl
theorem reads_atK {w : World} {B b off n cap : Nat} {l : List KeyD} (h : At w (some ⟨b, off, none⟩) (kvl l)) (hb : b < B) (hn : l.length = n) (hc : n ≤ cap) (hm : cap ≤ maxLen) : Reads w B (.slice (some ⟨b, off, none⟩) n cap) (keysD l) := by
  subst hn
  refine Reads.ofBytes (xs := kvl l) hc hm (keys_len l) (by omega) ?_
  rcases h with h | ⟨b', off', he, hcell⟩
  · left
    have := congrArg List.length h
    rw [kvl_len] at this
    have : l = [] := List.length_eq_zero_iff.1 (by simp at this; omega)
    subst this
    rfl
  · right
    injection he with he
    injection he with he he'
    subst he he'
    refine ⟨b, off, rfl, hb, by rw [kvl_len, keys_len], hcell, fun i hi h' => ?_⟩
    simp only [kC_map, List.getElem_map]
    exact .lit _
theorem kvl_drop (l : List KeyD) (k : Nat) (hk : k ≤ l.length) : (kvl l).drop (k * 5) = kvl (l.drop k) := by
  have he : kvl l = kvl (l.take k) ++ kvl (l.drop k) := by rw [← kvl_append, List.take_append_drop]
  have hl : (kvl (l.take k)).length = k * 5 := by rw [kvl_len, List.length_take]; omega
  rw [he, ← hl, List.drop_left']
  rfl
set_option maxHeartbeats 16000000 in
theorem splitNode_any (vl vn : Value) (lo : List Int) (ts : List NodeD) (i : Nat) (AK : Option Addr) (cK : Nat) (L : List KeyD) (S : Nat → Prop) (w : World) (hv : TreeC w S vl vn lo ts) (hlen : lo.length = ts.length) (hi : i < lo.length) (hn : lo.length ≤ 1000000) (h9 : L.length = 9) (hk : Reads w w.heap.size (.slice AK 9 cK) (keysD L)) :
    Calls Tryz.prog 97 #[.agg #[vl, vn], .int .i64 (i : Int), .slice AK 9 cK] w (MakesC w (fun b => S b ∨ w.heap.size ≤ b) (setL lo i [lo[i], spotI (L[5]'(by omega)).a (L[5]'(by omega)).b] (i + 1)) (setL ts i [nodeNewK (L.take 5), nodeNewK (L.drop 5)] (i + 1))) := by
  obtain ⟨A, c, B, d, rfl, rfl⟩ := hv.reads.shape
  have hb2 := bal2 w (.cells #[.slice A lo.length c, .slice B ts.length d] 27) (.cells #[.slice none 0 0, .slice none 0 0] 27)
  obtain ⟨q0, q1⟩ := al2 w (.cells #[.slice A lo.length c, .slice B ts.length d] 27) (.cells #[.slice none 0 0, .slice none 0 0] 27)
  have hz2 : ((w.alloc (.cells #[.slice A lo.length c, .slice B ts.length d] 27)).alloc (.cells #[.slice none 0 0, .slice none 0 0] 27)).heap.size = w.heap.size + 2 := by simp
  obtain ⟨L5, hL5⟩ : ∃ k, L[5]'(by omega) = k := ⟨_, rfl⟩
  obtain ⟨sp, hsp⟩ : ∃ s, spotI L5.a L5.b = s := ⟨_, rfl⟩
  have hkr := hk.on hb2
  obtain ⟨gk, offk, hAK, hbk, hfive⟩ := Reads.keys (e := 29) hkr (i := 5) (by omega)
  subst hAK
  have hat := Reads.atK (e := 29) hkr
  obtain ⟨_, _, hsl, hck9, hckm, _⟩ := Reads.row' hk
  have hcK : 9 ≤ cK := by injection hsl with _ _ h3; subst h3; omega
  have hcKm : cK ≤ maxLen := by injection hsl with _ _ h3; subst h3; exact hckm
  have e5 := hfive 5 (by omega)
  rw [hL5] at e5
  have hF : (L.take 5).length = 5 := by simp; omega
  have hD : (L.drop 5).length = 4 := by simp; omega
  have RF := Lib.hid (reads_atK (cap := 5) (hat.take 5) hbk hF (Nat.le_refl _) (by unfold maxLen; omega))
  have hdr := At.drop hat (5 * 5)
  rw [kvl_drop L 5 (by omega)] at hdr
  have RD := Lib.hid (reads_atK (cap := cK - 5) hdr hbk hD (by omega) (by omega))
  rw [hL5, hsp]
  generalize L.take 5 = F at *
  generalize L.drop 5 = D at *
  have hFl : F.length ≤ 5 := by omega
  have hDl : D.length ≤ 4 := by omega
  obtain ⟨gl, offl, hAe, hbl, hcl⟩ := (hv.reads.1.on hb2).int hi
  subst hAe
  have E3 : Hid (((w.alloc (.cells #[.slice (some ⟨gl, offl, none⟩) lo.length c, .slice B ts.length d] 27)).alloc (.cells #[.slice none 0 0, .slice none 0 0] 27)).cell? ⟨gl, offl + i, none⟩ = some (.int .i64 lo[i])) := Lib.hid (hcl i hi)
  have E4 := Lib.hid e5.1
  have E5 := Lib.hid e5.2.1
  have QW := Lib.hid q0
  have Q1 := Lib.hid q1
  have HB := Lib.hid hb2
  have HT := Lib.hid (hv.lt.on hb2)
  have HLEN := Lib.hid hlen
  have HSP := Lib.hid hsp
  have HZ := Lib.hid hz2
  have hn2 : ts.length ≤ 1000000 := by omega
  have i2 : (0 : Int) ≤ (i : Int) := by omega
  have i16 : (i : Int) < (lo.length : Int) := by omega
  have i6 : IntKind.i64.wrap ((i : Int) + 1) = (i : Int) + 1 := by rw [IntKind.wrap_i64]; omega
  have k1 : ¬ cK = 5 := by omega
  have k2 : (5 : Int) ≤ (cK : Int) := by omega
  have k3 : 5 ≤ cK := by omega
  clear hv hb2 q0 q1 hz2 hkr hat hfive hsl hck9 hckm e5 hF hD hdr hcl hlen hsp hk hL5
  go_enter Tryz.func97, Tryz.ntmps97
  go_upto_region 2 with (fail)
  generalize (w.alloc (.cells #[.slice (some ⟨gl, offl, none⟩) lo.length c, .slice B ts.length d] 27)).alloc (.cells #[.slice none 0 0, .slice none 0 0] 27) = W at *
  have hzW := Nat.le_of_eq HZ.out.symm
  refine but_begin (f := 8) (S := fun V => Below W.heap.size W V) (by kernel_rfl) ?_
  refine but_take (f := 8) (i := 0) (v := ?vf0) rfl (by kernel_rfl) (by kernel_rfl) (by kernel_rfl) (by kernel_rfl) (by kernel_rfl) (fun _ _ _ h => h) (Or.inl ⟨(by rfl), ?hyf0⟩) (Below.drew1 _) ?restf0
  case hyf0 =>
    intro W hW
    go_simp
    exact rfl
  simp only [List.getElem_toArray, List.getElem_cons_succ, List.getElem_cons_zero, Act.put, List.setIfInBounds_toArray, List.set_cons_zero, List.set_cons_succ]
  refine but_take (f := 8) (i := 1) (v := ?vf1) rfl (by kernel_rfl) (by kernel_rfl) (by kernel_rfl) (by kernel_rfl) (by kernel_rfl) (fun _ _ _ h => h) (Or.inl ⟨(by rfl), ?hyf1⟩) (Below.drew1 _) ?restf1
  case hyf1 =>
    intro W hW
    go_simp
    exact rfl
  simp only [List.getElem_toArray, List.getElem_cons_succ, List.getElem_cons_zero, Act.put, List.setIfInBounds_toArray, List.set_cons_zero, List.set_cons_succ]
  refine but_take (f := 8) (i := 2) (v := ?vf2) rfl (by kernel_rfl) (by kernel_rfl) (by kernel_rfl) (by kernel_rfl) (by kernel_rfl) (fun _ _ _ h => h) (Or.inl ⟨(by rfl), ?hyf2⟩) (Below.drew1 _) ?restf2
  case hyf2 =>
    intro W hW
    go_simp
    exact rfl
  simp only [List.getElem_toArray, List.getElem_cons_succ, List.getElem_cons_zero, Act.put, List.setIfInBounds_toArray, List.set_cons_zero, List.set_cons_succ]
  refine but_take (f := 8) (i := 3) (v := ?vf3) rfl (by kernel_rfl) (by kernel_rfl) (by kernel_rfl) (by kernel_rfl) (by kernel_rfl) (fun _ _ _ h => h) (Or.inl ⟨(by rfl), ?hyf3⟩) (Below.drew1 _) ?restf3
  case hyf3 =>
    intro W hW
    go_simp
    exact rfl
  simp only [List.getElem_toArray, List.getElem_cons_succ, List.getElem_cons_zero, Act.put, List.setIfInBounds_toArray, List.set_cons_zero, List.set_cons_succ]
  refine but_take (f := 8) (i := 4) (v := ?vf4) rfl (by kernel_rfl) (by kernel_rfl) (by kernel_rfl) (by kernel_rfl) (by kernel_rfl) (fun _ _ _ h => h) (Or.inl ⟨(by rfl), ?hyf4⟩) (Below.drew1 _) ?restf4
  case hyf4 =>
    intro W hW
    go_simp
    exact rfl
  simp only [List.getElem_toArray, List.getElem_cons_succ, List.getElem_cons_zero, Act.put, List.setIfInBounds_toArray, List.set_cons_zero, List.set_cons_succ]
  refine but_take (f := 8) (i := 5) (v := ?vf5) rfl (by kernel_rfl) (by kernel_rfl) (by kernel_rfl) (by kernel_rfl) (by kernel_rfl) (fun _ _ _ h => h) (Or.inl ⟨(by rfl), ?hyf5⟩) (Below.drew1 _) ?restf5
  case hyf5 =>
    intro W hW
    go_simp
    exact rfl
  simp only [List.getElem_toArray, List.getElem_cons_succ, List.getElem_cons_zero, Act.put, List.setIfInBounds_toArray, List.set_cons_zero, List.set_cons_succ]
  refine but_take (f := 8) (i := 6) (v := ?vf6) rfl (by kernel_rfl) (by kernel_rfl) (by kernel_rfl) (by kernel_rfl) (by kernel_rfl) (fun _ _ _ h => h) (Or.inl ⟨(by rfl), ?hyf6⟩) (Below.drew1 _) ?restf6
  case hyf6 =>
    intro W hW
    go_simp
    exact rfl
  simp only [List.getElem_toArray, List.getElem_cons_succ, List.getElem_cons_zero, Act.put, List.setIfInBounds_toArray, List.set_cons_zero, List.set_cons_succ]
  refine but_run (i := 7) (by kernel_rfl) rfl (by rfl) ?_
  simp only [List.getElem_toArray, List.getElem_cons_succ, List.getElem_cons_zero]
  intro K HK
  go_wp2_with fail
  have hSf1 : (fun V => Below W.heap.size W V) (W.drew) := (Below.drew1 _)
  refine HK.out _ _ (fun _ => hSf1) ?_
  clear HK
  refine but_run (i := 8) (by kernel_rfl) rfl (by rfl) ?_
  simp only [List.getElem_toArray, List.getElem_cons_succ, List.getElem_cons_zero]
  intro K HK
  go_wp2_with fail
  refine HK.out _ _ (fun h => absurd rfl h) ?_
  clear HK
  refine but_done (by kernel_rfl) ?_
  have HBd := Lib.hid (Below.drew1 W)
  go_upto_region 3 with (fail)
  generalize W.drew = Wd at *
  replace QW := Lib.hid (box_on QW.out HBd.out)
  replace Q1 := Lib.hid (box_on Q1.out HBd.out)
  replace HT := Lib.hid (HT.out.on HBd.out)
  replace E3 := Lib.hid ((HBd.out.cell (p := ⟨gl, offl + i, none⟩) hbl).trans E3.out)
  replace E4 := Lib.hid ((HBd.out.cell (p := ⟨gk, offk + 25, none⟩) hbk).trans E4.out)
  replace E5 := Lib.hid ((HBd.out.cell (p := ⟨gk, offk + 25 + 1, none⟩) hbk).trans E5.out)
  replace RF := Lib.hid (RF.out.on HBd.out)
  replace RD := Lib.hid (RD.out.on HBd.out)
  replace HB := Lib.hid (bstep HB.out HBd.out)
  have hzd := HBd.out.size
  have hbl2 : gl < Wd.heap.size := by omega
  have hbk2 : gk < Wd.heap.size := by omega
  refine but_begin (f := 26) (S := fun V => Below Wd.heap.size Wd V) (by kernel_rfl) ?_
  refine but_take (f := 26) (i := 0) (v := ?vh0) rfl (by kernel_rfl) (by kernel_rfl) (by kernel_rfl) (by kernel_rfl) (by kernel_rfl) (fun _ _ _ h => h) (Or.inl ⟨(by rfl), ?hyh0⟩) (Below.drew1 _) ?resth0
  case hyh0 =>
    intro W hW
    obtain ⟨x0, x1, x2⟩ := box2 (box_on QW.out hW)
    go_simp
    exact rfl
  simp only [List.getElem_toArray, List.getElem_cons_succ, List.getElem_cons_zero, Act.put, List.setIfInBounds_toArray, List.set_cons_zero, List.set_cons_succ]
  refine but_take (f := 26) (i := 1) (v := ?vh1) rfl (by kernel_rfl) (by kernel_rfl) (by kernel_rfl) (by kernel_rfl) (by kernel_rfl) (fun _ _ _ h => h) (Or.inl ⟨(by rfl), ?hyh1⟩) (Below.drew1 _) ?resth1
  case hyh1 =>
    intro W hW
    go_simp
    exact rfl
  simp only [List.getElem_toArray, List.getElem_cons_succ, List.getElem_cons_zero, Act.put, List.setIfInBounds_toArray, List.set_cons_zero, List.set_cons_succ]
  refine but_take (f := 26) (i := 2) (v := ?vh2) rfl (by kernel_rfl) (by kernel_rfl) (by kernel_rfl) (by kernel_rfl) (by kernel_rfl) (fun _ _ _ h => h) (Or.inl ⟨(by rfl), ?hyh2⟩) (Below.drew1 _) ?resth2
  case hyh2 =>
    intro W hW
    go_simp
    exact rfl
  simp only [List.getElem_toArray, List.getElem_cons_succ, List.getElem_cons_zero, Act.put, List.setIfInBounds_toArray, List.set_cons_zero, List.set_cons_succ]
  refine but_take (f := 26) (i := 3) (v := ?vh3) rfl (by kernel_rfl) (by kernel_rfl) (by kernel_rfl) (by kernel_rfl) (by kernel_rfl) (fun _ _ _ h => h) (Or.inl ⟨(by rfl), ?hyh3⟩) (Below.drew1 _) ?resth3
  case hyh3 =>
    intro W hW
    go_simp
    exact rfl
  simp only [List.getElem_toArray, List.getElem_cons_succ, List.getElem_cons_zero, Act.put, List.setIfInBounds_toArray, List.set_cons_zero, List.set_cons_succ]
  refine but_take (f := 26) (i := 4) (v := ?vh4) rfl (by kernel_rfl) (by kernel_rfl) (by kernel_rfl) (by kernel_rfl) (by kernel_rfl) (fun _ _ _ h => h) (Or.inl ⟨(by rfl), ?hyh4⟩) (Below.drew1 _) ?resth4
  case hyh4 =>
    intro W hW
    go_simp
    exact rfl
  simp only [List.getElem_toArray, List.getElem_cons_succ, List.getElem_cons_zero, Act.put, List.setIfInBounds_toArray, List.set_cons_zero, List.set_cons_succ]
  refine but_take (f := 26) (i := 5) (v := ?vh5) rfl (by kernel_rfl) (by kernel_rfl) (by kernel_rfl) (by kernel_rfl) (by kernel_rfl) (fun _ _ _ h => h) (Or.inl ⟨(by rfl), ?hyh5⟩) (Below.drew1 _) ?resth5
  case hyh5 =>
    intro W hW
    obtain ⟨x0, x1, x2⟩ := box2 (box_on QW.out hW)
    go_simp
    exact rfl
  simp only [List.getElem_toArray, List.getElem_cons_succ, List.getElem_cons_zero, Act.put, List.setIfInBounds_toArray, List.set_cons_zero, List.set_cons_succ]
  refine but_take (f := 26) (i := 6) (v := ?vh6) rfl (by kernel_rfl) (by kernel_rfl) (by kernel_rfl) (by kernel_rfl) (by kernel_rfl) (fun _ _ _ h => h) (Or.inl ⟨(by rfl), ?hyh6⟩) (Below.drew1 _) ?resth6
  case hyh6 =>
    intro W hW
    go_simp
    exact rfl
  simp only [List.getElem_toArray, List.getElem_cons_succ, List.getElem_cons_zero, Act.put, List.setIfInBounds_toArray, List.set_cons_zero, List.set_cons_succ]
  refine but_take (f := 26) (i := 7) (v := ?vh7) rfl (by kernel_rfl) (by kernel_rfl) (by kernel_rfl) (by kernel_rfl) (by kernel_rfl) (fun _ _ _ h => h) (Or.inl ⟨(by rfl), ?hyh7⟩) (Below.drew1 _) ?resth7
  case hyh7 =>
    intro W hW
    go_simp
    exact rfl
  simp only [List.getElem_toArray, List.getElem_cons_succ, List.getElem_cons_zero, Act.put, List.setIfInBounds_toArray, List.set_cons_zero, List.set_cons_succ]
  refine but_take (f := 26) (i := 8) (v := ?vh8) rfl (by kernel_rfl) (by kernel_rfl) (by kernel_rfl) (by kernel_rfl) (by kernel_rfl) (fun _ _ _ h => h) (Or.inl ⟨(by rfl), ?hyh8⟩) (Below.drew1 _) ?resth8
  case hyh8 =>
    intro W hW
    have e3 := (hW.cell (p := ⟨gl, offl + i, none⟩) hbl2).trans E3.out
    have e4 := (hW.cell (p := ⟨gk, offk + 25, none⟩) hbk2).trans E4.out
    have e5 := (hW.cell (p := ⟨gk, offk + 25 + 1, none⟩) hbk2).trans E5.out
    go_simp
    exact rfl
  simp only [List.getElem_toArray, List.getElem_cons_succ, List.getElem_cons_zero, Act.put, List.setIfInBounds_toArray, List.set_cons_zero, List.set_cons_succ]
  refine but_take (f := 26) (i := 9) (v := ?vh9) rfl (by kernel_rfl) (by kernel_rfl) (by kernel_rfl) (by kernel_rfl) (by kernel_rfl) (fun _ _ _ h => h) (Or.inl ⟨(by rfl), ?hyh9⟩) (Below.drew1 _) ?resth9
  case hyh9 =>
    intro W hW
    go_simp
    exact rfl
  simp only [List.getElem_toArray, List.getElem_cons_succ, List.getElem_cons_zero, Act.put, List.setIfInBounds_toArray, List.set_cons_zero, List.set_cons_succ]
  refine but_take (f := 26) (i := 12) (v := ?vh12) rfl (by kernel_rfl) (by kernel_rfl) (by kernel_rfl) (by kernel_rfl) (by kernel_rfl) (fun _ _ _ h => h) (Or.inl ⟨(by rfl), ?hyh12⟩) (Below.drew1 _) ?resth12
  case hyh12 =>
    intro W hW
    go_simp
    exact rfl
  simp only [List.getElem_toArray, List.getElem_cons_succ, List.getElem_cons_zero, Act.put, List.setIfInBounds_toArray, List.set_cons_zero, List.set_cons_succ]
  refine but_take (f := 26) (i := 13) (v := ?vh13) rfl (by kernel_rfl) (by kernel_rfl) (by kernel_rfl) (by kernel_rfl) (by kernel_rfl) (fun _ _ _ h => h) (Or.inl ⟨(by rfl), ?hyh13⟩) (Below.drew1 _) ?resth13
  case hyh13 =>
    intro W hW
    go_simp
    exact rfl
  simp only [List.getElem_toArray, List.getElem_cons_succ, List.getElem_cons_zero, Act.put, List.setIfInBounds_toArray, List.set_cons_zero, List.set_cons_succ]
  refine but_take (f := 26) (i := 14) (v := ?vh14) rfl (by kernel_rfl) (by kernel_rfl) (by kernel_rfl) (by kernel_rfl) (by kernel_rfl) (fun _ _ _ h => h) (Or.inl ⟨(by rfl), ?hyh14⟩) (Below.drew1 _) ?resth14
  case hyh14 =>
    intro W hW
    go_simp
    exact rfl
  simp only [List.getElem_toArray, List.getElem_cons_succ, List.getElem_cons_zero, Act.put, List.setIfInBounds_toArray, List.set_cons_zero, List.set_cons_succ]
  refine but_take (f := 26) (i := 15) (v := ?vh15) rfl (by kernel_rfl) (by kernel_rfl) (by kernel_rfl) (by kernel_rfl) (by kernel_rfl) (fun _ _ _ h => h) (Or.inl ⟨(by rfl), ?hyh15⟩) (Below.drew1 _) ?resth15
  case hyh15 =>
    intro W hW
    have e3 := (hW.cell (p := ⟨gl, offl + i, none⟩) hbl2).trans E3.out
    have e4 := (hW.cell (p := ⟨gk, offk + 25, none⟩) hbk2).trans E4.out
    have e5 := (hW.cell (p := ⟨gk, offk + 25 + 1, none⟩) hbk2).trans E5.out
    go_simp
    exact rfl
  simp only [List.getElem_toArray, List.getElem_cons_succ, List.getElem_cons_zero, Act.put, List.setIfInBounds_toArray, List.set_cons_zero, List.set_cons_succ]
  refine but_take (f := 26) (i := 16) (v := ?vh16) rfl (by kernel_rfl) (by kernel_rfl) (by kernel_rfl) (by kernel_rfl) (by kernel_rfl) (fun _ _ _ h => h) (Or.inl ⟨(by rfl), ?hyh16⟩) (Below.drew1 _) ?resth16
  case hyh16 =>
    intro W hW
    go_simp
    exact rfl
  simp only [List.getElem_toArray, List.getElem_cons_succ, List.getElem_cons_zero, Act.put, List.setIfInBounds_toArray, List.set_cons_zero, List.set_cons_succ]
  refine but_take (f := 26) (i := 17) (v := ?vh17) rfl (by kernel_rfl) (by kernel_rfl) (by kernel_rfl) (by kernel_rfl) (by kernel_rfl) (fun _ _ _ h => h) (Or.inl ⟨(by rfl), ?hyh17⟩) (Below.drew1 _) ?resth17
  case hyh17 =>
    intro W hW
    go_simp
    exact rfl
  simp only [List.getElem_toArray, List.getElem_cons_succ, List.getElem_cons_zero, Act.put, List.setIfInBounds_toArray, List.set_cons_zero, List.set_cons_succ]
  refine but_take (f := 26) (i := 18) (v := ?vh18) rfl (by kernel_rfl) (by kernel_rfl) (by kernel_rfl) (by kernel_rfl) (by kernel_rfl) (fun _ _ _ h => h) (Or.inl ⟨(by rfl), ?hyh18⟩) (Below.drew1 _) ?resth18
  case hyh18 =>
    intro W hW
    go_simp
    exact rfl
  simp only [List.getElem_toArray, List.getElem_cons_succ, List.getElem_cons_zero, Act.put, List.setIfInBounds_toArray, List.set_cons_zero, List.set_cons_succ]
  refine but_take (f := 26) (i := 19) (v := ?vh19) rfl (by kernel_rfl) (by kernel_rfl) (by kernel_rfl) (by kernel_rfl) (by kernel_rfl) (fun _ _ _ h => h) (Or.inl ⟨(by rfl), ?hyh19⟩) (Below.drew1 _) ?resth19
  case hyh19 =>
    intro W hW
    have e3 := (hW.cell (p := ⟨gl, offl + i, none⟩) hbl2).trans E3.out
    have e4 := (hW.cell (p := ⟨gk, offk + 25, none⟩) hbk2).trans E4.out
    have e5 := (hW.cell (p := ⟨gk, offk + 25 + 1, none⟩) hbk2).trans E5.out
    go_simp
    exact rfl
  simp only [List.getElem_toArray, List.getElem_cons_succ, List.getElem_cons_zero, Act.put, List.setIfInBounds_toArray, List.set_cons_zero, List.set_cons_succ]
  refine but_take (f := 26) (i := 21) (v := ?vh21) rfl (by kernel_rfl) (by kernel_rfl) (by kernel_rfl) (by kernel_rfl) (by kernel_rfl) (fun _ _ _ h => h) (Or.inl ⟨(by rfl), ?hyh21⟩) (Below.drew1 _) ?resth21
  case hyh21 =>
    intro W hW
    go_simp
    exact rfl
  simp only [List.getElem_toArray, List.getElem_cons_succ, List.getElem_cons_zero, Act.put, List.setIfInBounds_toArray, List.set_cons_zero, List.set_cons_succ]
  refine but_run (i := 10) (by kernel_rfl) rfl (by rfl) ?_
  simp only [List.getElem_toArray, List.getElem_cons_succ, List.getElem_cons_zero]
  intro K HK
  go_wp2_with fail
  refine (implNodeNew_any _ F _ (RF.out.on (Below.drew1 _)) (by omega)).mono ?_
  rintro r Vh1 ⟨vx, rfl, ox, hbh1⟩
  obtain ⟨Ax, cx, rfl, _, _⟩ := ox.reads.lenN
  go_wp2_with fail
  have hSh1 : (fun V => Below Wd.heap.size Wd V) Vh1 := bstep (Below.drew1 _) hbh1
  refine HK.out _ _ (fun _ => hSh1) ?_
  clear HK
  have OX := Lib.hid (ox.lt.mono (T := fun b => Wd.heap.size ≤ b ∧ b < Vh1.heap.size) (fun b hb => ⟨Nat.le_trans ((Below.drew1 _)).size hb.1, hb.2⟩))
  have zx : Hid (Vh1.heap.size ≤ Vh1.heap.size) := Lib.hid (Nat.le_refl _)
  obtain ⟨mx, hmx⟩ : ∃ m, Vh1.heap.size = m := ⟨_, rfl⟩
  rw [hmx] at OX
  have HMX := Lib.hid (Nat.le_of_eq hmx.symm)
  clear ox zx hmx
  refine but_take (f := 26) (i := 11) (v := ?vh11) rfl (by kernel_rfl) (by kernel_rfl) (by kernel_rfl) (by kernel_rfl) (by kernel_rfl) (fun _ _ _ h => h) (Or.inl ⟨(by rfl), ?hyh11⟩) hSh1 ?resth11
  case hyh11 =>
    intro W hW
    go_simp
    exact rfl
  simp only [List.getElem_toArray, List.getElem_cons_succ, List.getElem_cons_zero, Act.put, List.setIfInBounds_toArray, List.set_cons_zero, List.set_cons_succ]
  refine but_run (i := 20) (by kernel_rfl) rfl (by rfl) ?_
  simp only [List.getElem_toArray, List.getElem_cons_succ, List.getElem_cons_zero]
  intro K HK
  go_wp2_with fail
  refine (spotB_any L5.a L5.b _).mono ?_
  rintro r Vh2 ⟨rfl, hbh2⟩
  rw [HSP.out]
  go_wp2_with fail
  have hSh2 : (fun V => Below Wd.heap.size Wd V) Vh2 := bstep hSh1 hbh2
  refine HK.out _ _ (fun _ => hSh2) ?_
  clear HK
  replace OX := Lib.hid (OX.out.on hbh2)
  replace HMX := Lib.hid (Nat.le_trans HMX.out hbh2.size)
  refine but_run (i := 22) (by kernel_rfl) rfl (by rfl) ?_
  simp only [List.getElem_toArray, List.getElem_cons_succ, List.getElem_cons_zero]
  intro K HK
  go_wp2_with fail
  refine (implNodeNew_any _ D _ (RD.out.on hSh2) (by omega)).mono ?_
  rintro r Vh3 ⟨vy, rfl, oy, hbh3⟩
  obtain ⟨Ay, cy, rfl, _, _⟩ := oy.reads.lenN
  go_wp2_with fail
  have hSh3 : (fun V => Below Wd.heap.size Wd V) Vh3 := bstep hSh2 hbh3
  refine HK.out _ _ (fun _ => hSh3) ?_
  clear HK
  have OY := Lib.hid (oy.mono (T := fun b => mx ≤ b ∧ Wd.heap.size ≤ b) (fun b hb => ⟨Nat.le_trans HMX.out hb, Nat.le_trans (hSh2).size hb⟩))
  replace OX := Lib.hid (OX.out.on hbh3)
  clear oy
  refine but_take (f := 26) (i := 23) (v := ?vh23) rfl (by kernel_rfl) (by kernel_rfl) (by kernel_rfl) (by kernel_rfl) (by kernel_rfl) (fun _ _ _ h => h) (Or.inl ⟨(by rfl), ?hyh23⟩) hSh3 ?resth23
  case hyh23 =>
    intro W hW
    go_simp
    exact rfl
  simp only [List.getElem_toArray, List.getElem_cons_succ, List.getElem_cons_zero, Act.put, List.setIfInBounds_toArray, List.set_cons_zero, List.set_cons_succ]
  refine but_run (i := 24) (by kernel_rfl) rfl (by rfl) ?_
  simp only [List.getElem_toArray, List.getElem_cons_succ, List.getElem_cons_zero]
  intro K HK
  go_wp2_with fail
  have hSh4 : (fun V => Below Wd.heap.size Wd V) (Vh3.alloc (.cells #[.int .i64 lo[i], .slice Ax (nodeNewK F).length cx, .int .i64 sp, .slice Ay (nodeNewK D).length cy] 113)) := bstep hSh3 (bal1 _ _)
  refine HK.out _ _ (fun _ => hSh4) ?_
  clear HK
  have AX := Lib.hid (At.lit4 Vh3 (.int .i64 lo[i]) (.slice Ax (nodeNewK F).length cx) (.int .i64 sp) (.slice Ay (nodeNewK D).length cy) 113)
  replace OX := Lib.hid (OX.out.on (bal1 Vh3 (.cells #[.int .i64 lo[i], .slice Ax (nodeNewK F).length cx, .int .i64 sp, .slice Ay (nodeNewK D).length cy] 113)))
  replace OY := Lib.hid (OY.out.on (bal1 Vh3 (.cells #[.int .i64 lo[i], .slice Ax (nodeNewK F).length cx, .int .i64 sp, .slice Ay (nodeNewK D).length cy] 113)))
  replace HT := Lib.hid (HT.out.on (bstep hSh3 (bal1 Vh3 (.cells #[.int .i64 lo[i], .slice Ax (nodeNewK F).length cx, .int .i64 sp, .slice Ay (nodeNewK D).length cy] 113))))
  generalize Vh3.alloc (.cells #[.int .i64 lo[i], .slice Ax (nodeNewK F).length cx, .int .i64 sp, .slice Ay (nodeNewK D).length cy] 113) = Vnh4 at *
  refine but_run (i := 25) (by kernel_rfl) rfl (by rfl) ?_
  simp only [List.getElem_toArray, List.getElem_cons_succ, List.getElem_cons_zero]
  intro K HK
  have hrep := replaceNodes_any _ _ lo ts i (i + 1) _ 2 [lo[i], sp] [nodeNewK F, nodeNewK D] [.slice Ax (nodeNewK F).length cx, .slice Ay (nodeNewK D).length cy] (fun b => S b ∧ b < w.heap.size) (fun b => Wd.heap.size ≤ b) _ HT.out (show At _ _ (brX ([lo[i], sp].zip [.slice Ax (nodeNewK F).length cx, .slice Ay (nodeNewK D).length cy])) from AX.out) rfl rfl (by simp) (OwnsL.two OX.out OY.out (fun b hb => hb.1) (fun b hb => hb.2) (fun b hb hb' => by have := hb.2; have := hb'.1; omega)) (fun b hb hb' => by have := hb.2; omega) (by omega) (by omega) HLEN.out (by omega) (by omega) (by simp)
  go_wp2_with fail
  refine (hrep).mono ?_
  rintro r Vh5 ⟨vl2, vn2, rfl, tv2, hbh5⟩
  clear hrep
  obtain ⟨A5, c5, B5, d5, rfl, rfl⟩ := tv2.reads.shape
  go_wp2_with fail
  have hSh5 : (fun V => Below Wd.heap.size Wd V) Vh5 := bstep hSh4 hbh5
  refine HK.out _ _ (fun _ => hSh5) ?_
  clear HK
  have TV := Lib.hid tv2
  have hzc := (hSh4).size
  clear tv2 HT AX OX OY
  obtain ⟨y0, y1, y2⟩ := box2 (box_on Q1.out hSh5)
  refine but_run (i := 26) (by kernel_rfl) rfl (by rfl) ?_
  simp only [List.getElem_toArray, List.getElem_cons_succ, List.getElem_cons_zero]
  intro K HK
  go_wp2_with fail
  refine HK.out _ _ (fun h => absurd rfl h) ?_
  clear HK
  refine but_done (by kernel_rfl) ?_
  have B5' : Below Wd.heap.size Wd Vh5 := hSh5
  have HO := Lib.hid (only_two Vh5 (w.heap.size + 1) 0 1 (.slice A5 (setL lo i [lo[i], sp] (i + 1)).length c5) (.slice B5 (setL ts i [nodeNewK F, nodeNewK D] (i + 1)).length d5))
  have hz5 := B5'.size
  have hb5 := bstep HB.out B5'
  have HR := Lib.hid hb5
  have TV8 := Lib.hid ((TV.out.keep (w' := (Vh5.setCell ⟨w.heap.size + 1, 0, none⟩ (.slice A5 (setL lo i [lo[i], sp] (i + 1)).length c5)).setCell ⟨w.heap.size + 1, 1, none⟩ (.slice B5 (setL ts i [nodeNewK F, nodeNewK D] (i + 1)).length d5)) (fun b hb hl => HO.out.block b hl (fun e => by rcases hb with hb | hb | hb; (have := hb.2; omega); all_goals omega))).mono (T := fun b => S b ∨ w.heap.size ≤ b) (fun b hb => by rcases hb with hb | hb | hb; (exact .inl hb.1); all_goals exact .inr (by omega)))
  have HB8 := Lib.hid (hb5.trans (HO.out.below hb5.size (fun b hb => by omega)))
  clear B5' hb5 HO TV HR
  go_wp2_with fail
  refine bodyPost_ret (v := .agg #[.slice A5 (setL lo i [lo[i], sp] (i + 1)).length c5, .slice B5 (setL ts i [nodeNewK F, nodeNewK D] (i + 1)).length d5]) (by simp [results, Tryz.results97, go_sem, *]) rfl ?_
  exact ⟨_, _, rfl, TV8.out, HB8.out⟩
end Go.Proofs.YtkcafbdlealbpaaGreat
