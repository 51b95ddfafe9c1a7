/- Several texts in one: TreeIPair, TreeSet, TreeJoin, Concat, TreeIJoin, TreeISplit, KSetMath, NodesMath. -/
import Derived.Lib.AppendZeros
import Derived.Test.YthopkhpiikiknaaGreatPkBC
namespace Go.Proofs.YthopkhpiikiknaaGreat
open Go.RowKit
set_option maxRecDepth 100000
set_option linter.unusedSimpArgs false
set_option linter.unusedVariables false
set_option maxHeartbeats 8000000 in
theorem implPair_any (vl vn : Value) (lo : List Int) (ts : List NodeD) (w : World) (hv : RdT w w.heap.size vl vn lo ts) (hn : ts.length ≤ 1048576) (hs : sumT ts ≤ 1048576) :
  Calls Tryz.prog 75 #[.agg #[vl, vn]] w (SaysInt w (pairK ts)) := by
 obtain ⟨A, c, B, d, rfl, rfl⟩ := hv.shape
 have HB := Lib.hid (bal1 w (.cells #[.slice A lo.length c, .slice B ts.length d] 27))
 have Q0 := Lib.hid (al1 w (.cells #[.slice A lo.length c, .slice B ts.length d] 27))
 have HV := Lib.hid (hv.2.on (bal1 w (.cells #[.slice A lo.length c, .slice B ts.length d] 27)))
 clear hv
 go_enter Tryz.func75, Tryz.ntmps75
 go_upto_region 1 with (fail)
 generalize w.alloc (.cells #[.slice A lo.length c, .slice B ts.length d] 27) = W at *
 go_wp2
 go_loopw [3] (fun q wr => ∃ k : Nat, k ≤ ts.length ∧ q = .int .i64 ((k : Int) + 1) ∧ Hid (∀ j (hj : j < k) (h : j + 1 < ts.length), fewB ts[j] ts[j + 1] = false) ∧ Hid (Below W.heap.size W wr)) (fun q _ => ts.length + 1 - (intOf q).toNat)
 case atStart => exact ⟨0, Nat.zero_le _, rfl, Lib.hid (fun j h => by omega), Lib.hid (Below.refl _ _)⟩
 case round =>
  obtain ⟨k, hk, rfl, HI, HX⟩ := hrel
  have QW := Lib.hid (box_on Q0.out HX.out)
  obtain ⟨x0, x1, x2⟩ := box2 QW.out
  by_cases hlt : k + 1 < ts.length
  ·obtain ⟨b, off, hBe, hbb, hc⟩ := (HV.out.on HX.out).node hlt
   subst hBe
   obtain ⟨A1, d1, e1, _, _, r1⟩ := hc k (by omega)
   obtain ⟨A2, d2, e2, _, _, r2⟩ := hc (k + 1) hlt
   have hl1 := sumT_mem (List.getElem_mem (show k < ts.length by omega))
   have hl2 := sumT_mem (List.getElem_mem hlt)
   have hk1 := nodeKeys_len ts[k]
   have hk2 := nodeKeys_len ts[k + 1]
   have R1 := Lib.hid r1
   have R2 := Lib.hid r2
   have E1 := Lib.hid e1
   have E2 := Lib.hid e2
   have i1 : (k : Int) + 1 < (ts.length : Int) := by omega
   have i2 : (0 : Int) ≤ (k : Int) := by omega
   have i3 : (0 : Int) ≤ (k : Int) + 1 := by omega
   have i4 : (k : Int) < (ts.length : Int) := by omega
   have i5 : ((k : Int) + 1).toNat = k + 1 := by omega
   have i8 : IntKind.i64.wrap (k : Int) = (k : Int) := by rw [IntKind.wrap_i64]; omega
   have i9 : IntKind.i64.wrap ((k : Int) + 1 + 1) = (k : Int) + 1 + 1 := by rw [IntKind.wrap_i64]; omega
   have i10 : (k : Int) + 1 - 1 = (k : Int) := by omega
   have i6 : IntKind.i64.wrap ((k : Int) + 1) = (k : Int) + 1 := by rw [IntKind.wrap_i64]; omega
   have i7 : IntKind.i64.wrap (((nodeKeysK ts[k]).length : Int) + ((nodeKeysK ts[k + 1]).length : Int)) = ((nodeKeysK ts[k]).length : Int) + ((nodeKeysK ts[k + 1]).length : Int) := by rw [IntKind.wrap_i64]; omega
   have HFW := Lib.hid (few_iff ts[k] ts[k + 1])
   clear hc r1 r2 e1 e2 x0 x1 x2
   obtain ⟨K1, hK1⟩ : ∃ K, nodeKeysK ts[k] = K := ⟨_, rfl⟩
   obtain ⟨K2, hK2⟩ : ∃ K, nodeKeysK ts[k + 1] = K := ⟨_, rfl⟩
   rw [hK1] at i7 HFW hk1
   rw [hK2] at i7 HFW hk2
   have HK1 := Lib.hid hK1
   have HK2 := Lib.hid hK2
   clear hK1 hK2
   by_cases hf : (K1.length : Int) + (K2.length : Int) ≤ 6
   ·have HRES := Lib.hid (pair_hit hlt (HFW.out.2 hf) (fun j hj => HI.out j hj (by omega)))
    obtain ⟨x0, x1, x2⟩ := box2 QW.out
    go_wp2
    clear x0 x1 x2
    refine but_begin (f := 16) (S := fun V => Below wr.drew.heap.size wr.drew V) (by kernel_rfl) ?_
    refine but_take (f := 16) (i := 0) (v := ?vpa0) rfl (by kernel_rfl) (by kernel_rfl) (by kernel_rfl) (by kernel_rfl) (by kernel_rfl) (fun _ _ _ h => h) (Or.inl ⟨(by rfl), ?hypa0⟩) (Below.refl _ _) ?restpa0
    case hypa0 =>
     intro W hW
     go_simp
     exact rfl
    simp only [List.getElem_toArray, List.getElem_cons_succ, List.getElem_cons_zero, Act.put, List.setIfInBounds_toArray, List.set_cons_zero, List.set_cons_succ]
    refine but_take (f := 16) (i := 1) (v := ?vpa1) rfl (by kernel_rfl) (by kernel_rfl) (by kernel_rfl) (by kernel_rfl) (by kernel_rfl) (fun _ _ _ h => h) (Or.inl ⟨(by rfl), ?hypa1⟩) (Below.refl _ _) ?restpa1
    case hypa1 =>
     intro W hW
     have hb0 : Below wr.heap.size wr W := bstep (Below.drew1 _) hW
     obtain ⟨x0, x1, x2⟩ := box2 (box_on QW.out hb0)
     go_simp
     exact rfl
    simp only [List.getElem_toArray, List.getElem_cons_succ, List.getElem_cons_zero, Act.put, List.setIfInBounds_toArray, List.set_cons_zero, List.set_cons_succ]
    refine but_take (f := 16) (i := 2) (v := ?vpa2) rfl (by kernel_rfl) (by kernel_rfl) (by kernel_rfl) (by kernel_rfl) (by kernel_rfl) (fun _ _ _ h => h) (Or.inl ⟨(by rfl), ?hypa2⟩) (Below.refl _ _) ?restpa2
    case hypa2 =>
     intro W hW
     go_simp
     exact rfl
    simp only [List.getElem_toArray, List.getElem_cons_succ, List.getElem_cons_zero, Act.put, List.setIfInBounds_toArray, List.set_cons_zero, List.set_cons_succ]
    refine but_take (f := 16) (i := 3) (v := ?vpa3) rfl (by kernel_rfl) (by kernel_rfl) (by kernel_rfl) (by kernel_rfl) (by kernel_rfl) (fun _ _ _ h => h) (Or.inl ⟨(by rfl), ?hypa3⟩) (Below.refl _ _) ?restpa3
    case hypa3 =>
     intro W hW
     go_simp
     exact rfl
    simp only [List.getElem_toArray, List.getElem_cons_succ, List.getElem_cons_zero, Act.put, List.setIfInBounds_toArray, List.set_cons_zero, List.set_cons_succ]
    refine but_take (f := 16) (i := 4) (v := ?vpa4) rfl (by kernel_rfl) (by kernel_rfl) (by kernel_rfl) (by kernel_rfl) (by kernel_rfl) (fun _ _ _ h => h) (Or.inl ⟨(by rfl), ?hypa4⟩) (Below.refl _ _) ?restpa4
    case hypa4 =>
     intro W hW
     go_simp
     exact rfl
    simp only [List.getElem_toArray, List.getElem_cons_succ, List.getElem_cons_zero, Act.put, List.setIfInBounds_toArray, List.set_cons_zero, List.set_cons_succ]
    refine but_take (f := 16) (i := 5) (v := ?vpa5) rfl (by kernel_rfl) (by kernel_rfl) (by kernel_rfl) (by kernel_rfl) (by kernel_rfl) (fun _ _ _ h => h) (Or.inl ⟨(by rfl), ?hypa5⟩) (Below.refl _ _) ?restpa5
    case hypa5 =>
     intro W hW
     have hb0 : Below wr.heap.size wr W := bstep (Below.drew1 _) hW
     have e1 := (hb0.cell (p := ⟨b, off + k, none⟩) hbb).trans E1.out
     have e2 := (hb0.cell (p := ⟨b, off + (k + 1), none⟩) hbb).trans E2.out
     go_simp
     exact rfl
    simp only [List.getElem_toArray, List.getElem_cons_succ, List.getElem_cons_zero, Act.put, List.setIfInBounds_toArray, List.set_cons_zero, List.set_cons_succ]
    refine but_take (f := 16) (i := 8) (v := ?vpa8) rfl (by kernel_rfl) (by kernel_rfl) (by kernel_rfl) (by kernel_rfl) (by kernel_rfl) (fun _ _ _ h => h) (Or.inl ⟨(by rfl), ?hypa8⟩) (Below.refl _ _) ?restpa8
    case hypa8 =>
     intro W hW
     go_simp
     exact rfl
    simp only [List.getElem_toArray, List.getElem_cons_succ, List.getElem_cons_zero, Act.put, List.setIfInBounds_toArray, List.set_cons_zero, List.set_cons_succ]
    refine but_take (f := 16) (i := 9) (v := ?vpa9) rfl (by kernel_rfl) (by kernel_rfl) (by kernel_rfl) (by kernel_rfl) (by kernel_rfl) (fun _ _ _ h => h) (Or.inl ⟨(by rfl), ?hypa9⟩) (Below.refl _ _) ?restpa9
    case hypa9 =>
     intro W hW
     have hb0 : Below wr.heap.size wr W := bstep (Below.drew1 _) hW
     obtain ⟨x0, x1, x2⟩ := box2 (box_on QW.out hb0)
     go_simp
     exact rfl
    simp only [List.getElem_toArray, List.getElem_cons_succ, List.getElem_cons_zero, Act.put, List.setIfInBounds_toArray, List.set_cons_zero, List.set_cons_succ]
    refine but_take (f := 16) (i := 10) (v := ?vpa10) rfl (by kernel_rfl) (by kernel_rfl) (by kernel_rfl) (by kernel_rfl) (by kernel_rfl) (fun _ _ _ h => h) (Or.inl ⟨(by rfl), ?hypa10⟩) (Below.refl _ _) ?restpa10
    case hypa10 =>
     intro W hW
     go_simp
     exact rfl
    simp only [List.getElem_toArray, List.getElem_cons_succ, List.getElem_cons_zero, Act.put, List.setIfInBounds_toArray, List.set_cons_zero, List.set_cons_succ]
    refine but_take (f := 16) (i := 11) (v := ?vpa11) rfl (by kernel_rfl) (by kernel_rfl) (by kernel_rfl) (by kernel_rfl) (by kernel_rfl) (fun _ _ _ h => h) (Or.inl ⟨(by rfl), ?hypa11⟩) (Below.refl _ _) ?restpa11
    case hypa11 =>
     intro W hW
     go_simp
     exact rfl
    simp only [List.getElem_toArray, List.getElem_cons_succ, List.getElem_cons_zero, Act.put, List.setIfInBounds_toArray, List.set_cons_zero, List.set_cons_succ]
    refine but_take (f := 16) (i := 12) (v := ?vpa12) rfl (by kernel_rfl) (by kernel_rfl) (by kernel_rfl) (by kernel_rfl) (by kernel_rfl) (fun _ _ _ h => h) (Or.inl ⟨(by rfl), ?hypa12⟩) (Below.refl _ _) ?restpa12
    case hypa12 =>
     intro W hW
     have hb0 : Below wr.heap.size wr W := bstep (Below.drew1 _) hW
     have e1 := (hb0.cell (p := ⟨b, off + k, none⟩) hbb).trans E1.out
     have e2 := (hb0.cell (p := ⟨b, off + (k + 1), none⟩) hbb).trans E2.out
     go_simp
     exact rfl
    simp only [List.getElem_toArray, List.getElem_cons_succ, List.getElem_cons_zero, Act.put, List.setIfInBounds_toArray, List.set_cons_zero, List.set_cons_succ]
    refine but_run (i := 6) (by kernel_rfl) rfl (by rfl) ?_
    simp only [List.getElem_toArray, List.getElem_cons_succ, List.getElem_cons_zero]
    intro K HK
    go_wp2_with fail
    refine (implNodeKeys_any _ ts[k] _ (R1.out.on (bstep (Below.drew1 _) (Below.refl _ _))) (by omega) (by omega)).mono ?_
    rintro r Vpa1 ⟨va, rfl, oa, hBpa1⟩
    rw [HK1.out] at oa
    obtain ⟨Aa, ca, rfl, _, _⟩ := oa.shape
    clear oa
    have hSpa1 := bstep (Below.refl _ _) hBpa1
    go_wp2_with fail
    refine HK.out _ Vpa1 (fun _ => hSpa1) ?_
    clear HK
    refine but_take (f := 16) (i := 7) (v := ?vpa7) rfl (by kernel_rfl) (by kernel_rfl) (by kernel_rfl) (by kernel_rfl) (by kernel_rfl) (fun _ _ _ h => h) (Or.inl ⟨(by rfl), ?hypa7⟩) hSpa1 ?restpa7
    case hypa7 =>
     intro W hW
     go_simp
     exact rfl
    simp only [List.getElem_toArray, List.getElem_cons_succ, List.getElem_cons_zero, Act.put, List.setIfInBounds_toArray, List.set_cons_zero, List.set_cons_succ]
    refine but_run (i := 13) (by kernel_rfl) rfl (by rfl) ?_
    simp only [List.getElem_toArray, List.getElem_cons_succ, List.getElem_cons_zero]
    intro K HK
    go_wp2_with fail
    refine (implNodeKeys_any _ ts[k + 1] _ (R2.out.on (bstep (Below.drew1 _) hSpa1)) (by omega) (by omega)).mono ?_
    rintro r Vpa2 ⟨vb, rfl, ob, hBpa2⟩
    rw [HK2.out] at ob
    obtain ⟨Ab, cb, rfl, _, _⟩ := ob.shape
    clear ob
    have hSpa2 := bstep hSpa1 hBpa2
    go_wp2_with fail
    refine HK.out _ Vpa2 (fun _ => hSpa2) ?_
    clear HK
    refine but_take (f := 16) (i := 14) (v := ?vpa14) rfl (by kernel_rfl) (by kernel_rfl) (by kernel_rfl) (by kernel_rfl) (by kernel_rfl) (fun _ _ _ h => h) (Or.inl ⟨(by rfl), ?hypa14⟩) hSpa2 ?restpa14
    case hypa14 =>
     intro W hW
     go_simp
     exact rfl
    simp only [List.getElem_toArray, List.getElem_cons_succ, List.getElem_cons_zero, Act.put, List.setIfInBounds_toArray, List.set_cons_zero, List.set_cons_succ]
    refine but_take (f := 16) (i := 15) (v := ?vpa15) rfl (by kernel_rfl) (by kernel_rfl) (by kernel_rfl) (by kernel_rfl) (by kernel_rfl) (fun _ _ _ h => h) (Or.inl ⟨(by rfl), ?hypa15⟩) hSpa2 ?restpa15
    case hypa15 =>
     intro W hW
     go_simp
     exact rfl
    simp only [List.getElem_toArray, List.getElem_cons_succ, List.getElem_cons_zero, Act.put, List.setIfInBounds_toArray, List.set_cons_zero, List.set_cons_succ]
    refine but_run (i := 16) (by kernel_rfl) rfl (by rfl) ?_
    simp only [List.getElem_toArray, List.getElem_cons_succ, List.getElem_cons_zero]
    intro K HK
    go_wp2_with fail
    refine HK.out _ Vpa2 (fun h => absurd rfl h) ?_
    clear HK
    refine but_done (by kernel_rfl) ?_
    go_wp2_with fail
    go_ret
    exact ⟨by rw [HRES.out]; go_num, bstep HB.out (bstep HX.out (bstep (Below.drew1 _) hSpa2))⟩
   ·have hf' : (6 : Int) < (K1.length : Int) + (K2.length : Int) := by omega
    have HNX : Hid (∀ j (hj : j < k + 1) (h : j + 1 < ts.length), fewB ts[j] ts[j + 1] = false) := Lib.hid (fun j hj h => by
     rcases Nat.lt_or_ge j k with h' | h'
     ·exact HI.out j h' h
     ·have e : j = k := by omega
      subst e
      cases hfe : fewB ts[j] ts[j + 1]
      ·rfl
      ·exact absurd (HFW.out.1 hfe) hf)
    clear hf
    obtain ⟨x0, x1, x2⟩ := box2 QW.out
    go_wp2
    clear x0 x1 x2
    refine but_begin (f := 16) (S := fun V => Below wr.drew.heap.size wr.drew V) (by kernel_rfl) ?_
    refine but_take (f := 16) (i := 0) (v := ?vpb0) rfl (by kernel_rfl) (by kernel_rfl) (by kernel_rfl) (by kernel_rfl) (by kernel_rfl) (fun _ _ _ h => h) (Or.inl ⟨(by rfl), ?hypb0⟩) (Below.refl _ _) ?restpb0
    case hypb0 =>
     intro W hW
     go_simp
     exact rfl
    simp only [List.getElem_toArray, List.getElem_cons_succ, List.getElem_cons_zero, Act.put, List.setIfInBounds_toArray, List.set_cons_zero, List.set_cons_succ]
    refine but_take (f := 16) (i := 1) (v := ?vpb1) rfl (by kernel_rfl) (by kernel_rfl) (by kernel_rfl) (by kernel_rfl) (by kernel_rfl) (fun _ _ _ h => h) (Or.inl ⟨(by rfl), ?hypb1⟩) (Below.refl _ _) ?restpb1
    case hypb1 =>
     intro W hW
     have hb0 : Below wr.heap.size wr W := bstep (Below.drew1 _) hW
     obtain ⟨x0, x1, x2⟩ := box2 (box_on QW.out hb0)
     go_simp
     exact rfl
    simp only [List.getElem_toArray, List.getElem_cons_succ, List.getElem_cons_zero, Act.put, List.setIfInBounds_toArray, List.set_cons_zero, List.set_cons_succ]
    refine but_take (f := 16) (i := 2) (v := ?vpb2) rfl (by kernel_rfl) (by kernel_rfl) (by kernel_rfl) (by kernel_rfl) (by kernel_rfl) (fun _ _ _ h => h) (Or.inl ⟨(by rfl), ?hypb2⟩) (Below.refl _ _) ?restpb2
    case hypb2 =>
     intro W hW
     go_simp
     exact rfl
    simp only [List.getElem_toArray, List.getElem_cons_succ, List.getElem_cons_zero, Act.put, List.setIfInBounds_toArray, List.set_cons_zero, List.set_cons_succ]
    refine but_take (f := 16) (i := 3) (v := ?vpb3) rfl (by kernel_rfl) (by kernel_rfl) (by kernel_rfl) (by kernel_rfl) (by kernel_rfl) (fun _ _ _ h => h) (Or.inl ⟨(by rfl), ?hypb3⟩) (Below.refl _ _) ?restpb3
    case hypb3 =>
     intro W hW
     go_simp
     exact rfl
    simp only [List.getElem_toArray, List.getElem_cons_succ, List.getElem_cons_zero, Act.put, List.setIfInBounds_toArray, List.set_cons_zero, List.set_cons_succ]
    refine but_take (f := 16) (i := 4) (v := ?vpb4) rfl (by kernel_rfl) (by kernel_rfl) (by kernel_rfl) (by kernel_rfl) (by kernel_rfl) (fun _ _ _ h => h) (Or.inl ⟨(by rfl), ?hypb4⟩) (Below.refl _ _) ?restpb4
    case hypb4 =>
     intro W hW
     go_simp
     exact rfl
    simp only [List.getElem_toArray, List.getElem_cons_succ, List.getElem_cons_zero, Act.put, List.setIfInBounds_toArray, List.set_cons_zero, List.set_cons_succ]
    refine but_take (f := 16) (i := 5) (v := ?vpb5) rfl (by kernel_rfl) (by kernel_rfl) (by kernel_rfl) (by kernel_rfl) (by kernel_rfl) (fun _ _ _ h => h) (Or.inl ⟨(by rfl), ?hypb5⟩) (Below.refl _ _) ?restpb5
    case hypb5 =>
     intro W hW
     have hb0 : Below wr.heap.size wr W := bstep (Below.drew1 _) hW
     have e1 := (hb0.cell (p := ⟨b, off + k, none⟩) hbb).trans E1.out
     have e2 := (hb0.cell (p := ⟨b, off + (k + 1), none⟩) hbb).trans E2.out
     go_simp
     exact rfl
    simp only [List.getElem_toArray, List.getElem_cons_succ, List.getElem_cons_zero, Act.put, List.setIfInBounds_toArray, List.set_cons_zero, List.set_cons_succ]
    refine but_take (f := 16) (i := 8) (v := ?vpb8) rfl (by kernel_rfl) (by kernel_rfl) (by kernel_rfl) (by kernel_rfl) (by kernel_rfl) (fun _ _ _ h => h) (Or.inl ⟨(by rfl), ?hypb8⟩) (Below.refl _ _) ?restpb8
    case hypb8 =>
     intro W hW
     go_simp
     exact rfl
    simp only [List.getElem_toArray, List.getElem_cons_succ, List.getElem_cons_zero, Act.put, List.setIfInBounds_toArray, List.set_cons_zero, List.set_cons_succ]
    refine but_take (f := 16) (i := 9) (v := ?vpb9) rfl (by kernel_rfl) (by kernel_rfl) (by kernel_rfl) (by kernel_rfl) (by kernel_rfl) (fun _ _ _ h => h) (Or.inl ⟨(by rfl), ?hypb9⟩) (Below.refl _ _) ?restpb9
    case hypb9 =>
     intro W hW
     have hb0 : Below wr.heap.size wr W := bstep (Below.drew1 _) hW
     obtain ⟨x0, x1, x2⟩ := box2 (box_on QW.out hb0)
     go_simp
     exact rfl
    simp only [List.getElem_toArray, List.getElem_cons_succ, List.getElem_cons_zero, Act.put, List.setIfInBounds_toArray, List.set_cons_zero, List.set_cons_succ]
    refine but_take (f := 16) (i := 10) (v := ?vpb10) rfl (by kernel_rfl) (by kernel_rfl) (by kernel_rfl) (by kernel_rfl) (by kernel_rfl) (fun _ _ _ h => h) (Or.inl ⟨(by rfl), ?hypb10⟩) (Below.refl _ _) ?restpb10
    case hypb10 =>
     intro W hW
     go_simp
     exact rfl
    simp only [List.getElem_toArray, List.getElem_cons_succ, List.getElem_cons_zero, Act.put, List.setIfInBounds_toArray, List.set_cons_zero, List.set_cons_succ]
    refine but_take (f := 16) (i := 11) (v := ?vpb11) rfl (by kernel_rfl) (by kernel_rfl) (by kernel_rfl) (by kernel_rfl) (by kernel_rfl) (fun _ _ _ h => h) (Or.inl ⟨(by rfl), ?hypb11⟩) (Below.refl _ _) ?restpb11
    case hypb11 =>
     intro W hW
     go_simp
     exact rfl
    simp only [List.getElem_toArray, List.getElem_cons_succ, List.getElem_cons_zero, Act.put, List.setIfInBounds_toArray, List.set_cons_zero, List.set_cons_succ]
    refine but_take (f := 16) (i := 12) (v := ?vpb12) rfl (by kernel_rfl) (by kernel_rfl) (by kernel_rfl) (by kernel_rfl) (by kernel_rfl) (fun _ _ _ h => h) (Or.inl ⟨(by rfl), ?hypb12⟩) (Below.refl _ _) ?restpb12
    case hypb12 =>
     intro W hW
     have hb0 : Below wr.heap.size wr W := bstep (Below.drew1 _) hW
     have e1 := (hb0.cell (p := ⟨b, off + k, none⟩) hbb).trans E1.out
     have e2 := (hb0.cell (p := ⟨b, off + (k + 1), none⟩) hbb).trans E2.out
     go_simp
     exact rfl
    simp only [List.getElem_toArray, List.getElem_cons_succ, List.getElem_cons_zero, Act.put, List.setIfInBounds_toArray, List.set_cons_zero, List.set_cons_succ]
    refine but_run (i := 6) (by kernel_rfl) rfl (by rfl) ?_
    simp only [List.getElem_toArray, List.getElem_cons_succ, List.getElem_cons_zero]
    intro K HK
    go_wp2_with fail
    refine (implNodeKeys_any _ ts[k] _ (R1.out.on (bstep (Below.drew1 _) (Below.refl _ _))) (by omega) (by omega)).mono ?_
    rintro r Vpb1 ⟨va, rfl, oa, hBpb1⟩
    rw [HK1.out] at oa
    obtain ⟨Aa, ca, rfl, _, _⟩ := oa.shape
    clear oa
    have hSpb1 := bstep (Below.refl _ _) hBpb1
    go_wp2_with fail
    refine HK.out _ Vpb1 (fun _ => hSpb1) ?_
    clear HK
    refine but_take (f := 16) (i := 7) (v := ?vpb7) rfl (by kernel_rfl) (by kernel_rfl) (by kernel_rfl) (by kernel_rfl) (by kernel_rfl) (fun _ _ _ h => h) (Or.inl ⟨(by rfl), ?hypb7⟩) hSpb1 ?restpb7
    case hypb7 =>
     intro W hW
     go_simp
     exact rfl
    simp only [List.getElem_toArray, List.getElem_cons_succ, List.getElem_cons_zero, Act.put, List.setIfInBounds_toArray, List.set_cons_zero, List.set_cons_succ]
    refine but_run (i := 13) (by kernel_rfl) rfl (by rfl) ?_
    simp only [List.getElem_toArray, List.getElem_cons_succ, List.getElem_cons_zero]
    intro K HK
    go_wp2_with fail
    refine (implNodeKeys_any _ ts[k + 1] _ (R2.out.on (bstep (Below.drew1 _) hSpb1)) (by omega) (by omega)).mono ?_
    rintro r Vpb2 ⟨vb, rfl, ob, hBpb2⟩
    rw [HK2.out] at ob
    obtain ⟨Ab, cb, rfl, _, _⟩ := ob.shape
    clear ob
    have hSpb2 := bstep hSpb1 hBpb2
    go_wp2_with fail
    refine HK.out _ Vpb2 (fun _ => hSpb2) ?_
    clear HK
    refine but_take (f := 16) (i := 14) (v := ?vpb14) rfl (by kernel_rfl) (by kernel_rfl) (by kernel_rfl) (by kernel_rfl) (by kernel_rfl) (fun _ _ _ h => h) (Or.inl ⟨(by rfl), ?hypb14⟩) hSpb2 ?restpb14
    case hypb14 =>
     intro W hW
     go_simp
     exact rfl
    simp only [List.getElem_toArray, List.getElem_cons_succ, List.getElem_cons_zero, Act.put, List.setIfInBounds_toArray, List.set_cons_zero, List.set_cons_succ]
    refine but_take (f := 16) (i := 15) (v := ?vpb15) rfl (by kernel_rfl) (by kernel_rfl) (by kernel_rfl) (by kernel_rfl) (by kernel_rfl) (fun _ _ _ h => h) (Or.inl ⟨(by rfl), ?hypb15⟩) hSpb2 ?restpb15
    case hypb15 =>
     intro W hW
     go_simp
     exact rfl
    simp only [List.getElem_toArray, List.getElem_cons_succ, List.getElem_cons_zero, Act.put, List.setIfInBounds_toArray, List.set_cons_zero, List.set_cons_succ]
    refine but_run (i := 16) (by kernel_rfl) rfl (by rfl) ?_
    simp only [List.getElem_toArray, List.getElem_cons_succ, List.getElem_cons_zero]
    intro K HK
    go_wp2_with fail
    refine HK.out _ Vpb2 (fun h => absurd rfl h) ?_
    clear HK
    refine but_done (by kernel_rfl) ?_
    go_wp2_with fail
    go_roundw
    case rel => exact ⟨k + 1, by omega, by go_num, HNX, Lib.hid (bstep HX.out (bstep (Below.drew1 _) hSpb2))⟩
    case measure => simp [intOf]; omega
  ·have i1 : ¬ (k : Int) + 1 < (ts.length : Int) := by omega
   have i8 : IntKind.i64.wrap (k : Int) = (k : Int) := by rw [IntKind.wrap_i64]; omega
   have i9 : IntKind.i64.wrap ((k : Int) + 1 + 1) = (k : Int) + 1 + 1 := by rw [IntKind.wrap_i64]; omega
   have i10 : (k : Int) + 1 - 1 = (k : Int) := by omega
   have i6 : IntKind.i64.wrap ((k : Int) + 1) = (k : Int) + 1 := by rw [IntKind.wrap_i64]; omega
   have HRES := Lib.hid (pair_miss (fun j hj => HI.out j (by omega) hj))
   go_wp2
   go_ret
   exact ⟨by rw [HRES.out]; rfl, bstep HB.out HX.out⟩
end Go.Proofs.YthopkhpiikiknaaGreat
namespace Go.Proofs.YthopkhpiikiknaaGreat
open Go.RowKit
set_option maxRecDepth 100000
set_option linter.unusedSimpArgs false
set_option linter.unusedVariables false
theorem row_nodes {w : World} {P : Nat → Prop} {N M : Nat} {v : Value} {ts : List NodeD} {xs : List Value} (h : w.ownsRow N 62 1 v ts.length xs) (ho : OwnsL w (fun b => P b ∧ b < M) xs (ts.map setsD)) (hM : M ≤ N) : Owns w (fun b => (P b ∧ b < M) ∨ N ≤ b) v (nodesD ts) := by
 refine rowP_owns h (ho.mono (fun b hb => ⟨.inl hb, fun e => ?_⟩)) (fun g hg => .inr (row_lt h g hg).2) (by simp)
 have := (row_lt h b e).2
 have := hb.2
 omega
theorem Owns.nodeCells {w : World} {S : Nat → Prop} {A : Option Addr} {n c : Nat} {ts : List NodeD} (h : Owns w S (.slice A n c) (nodesD ts)) : ∃ xs, At w A xs ∧ xs.length = ts.length ∧ OwnsL w S xs (ts.map setsD) ∧ (∀ u ∈ xs, u.oneCell' = true) ∧ ts.length ≤ c := by
 rcases h.rw' with ⟨hv, h0, hc⟩ | ⟨g, cap, xs, hv, hS, hR, hn, hc, hl, hx, ho⟩
 ·cases hv
  have : ts = [] := List.length_eq_zero_iff.1 h0
  subst this
  exact ⟨[], .inl rfl, rfl, OwnsL.nil _ _, fun u hu => by simp at hu, Nat.zero_le _⟩
 ·cases hv
  refine ⟨xs, .inr ⟨g, 0, rfl, fun i hi => by rw [Nat.zero_add]; exact hR.cell hi⟩, by simpa using hx, ho.mono (fun b hb => hb.1), ho.reads.ones (fun c hc => by simp at hc; obtain ⟨l, _, rfl⟩ := hc; rfl), hn⟩
theorem Owns.lenC {w : World} {S : Nat → Prop} {A : Option Addr} {n c : Nat} {lo : List Int} (h : Owns w S (.slice A n c) (intsD lo)) : lo.length ≤ c := by
 rcases h.rw' with ⟨hv, h0, hc⟩ | ⟨g, cap, xs, hv, hS, hR, hn, _⟩
 ·cases hv; omega
 ·cases hv; exact hn
/-- What a call that lays a tree anew out of an owned one leaves. -/
def MakesT (w : World) (B X : Nat) (lo : List Int) (ts : List NodeD) (e : Ending) (w' : World) : Prop := ∃ vl vn, e = .returned (.agg #[vl, vn]) ∧ TreeS w' (fun b => B ≤ b ∧ b ≠ X) vl vn lo ts ∧ Below w.heap.size w w'
theorem set_map {α β : Type} (f : α → β) (l : List α) (i : Nat) (m : List α) (j : Nat) : (setL l i m j).map f = (l.map f).take i ++ m.map f ++ (l.map f).drop j := by simp [setL, List.map_take, List.map_drop]
/-- Between the two rows that spec.l6Set lays. -/
def SetMid (w W : World) (bt bz : Obj) (rl : List Int) (wx : World) : Prop := ∃ Ak ck, wx.heap[w.heap.size]? = some bt ∧ wx.heap[w.heap.size + 1]? = some bz ∧ wx.heap[w.heap.size + 1 + 1]? = some (.cells #[.slice Ak rl.length ck, .slice none 0 0] 27 (0, 0)) ∧ Below w.heap.size w wx ∧ Owns wx (fun b => W.heap.size ≤ b ∧ b < wx.heap.size) (.slice Ak rl.length ck) (intsD rl) ∧ W.heap.size ≤ wx.heap.size
set_option maxHeartbeats 16000000 in
theorem l6Set_any (vl vn : Value) (lo : List Int) (ts : List NodeD) (i : Nat) (Al : Option Addr) (cl : Nat) (los : List Int) (An : Option Addr) (cn : Nat) (nds : List NodeD) (us : List Value) (Bb M X : Nat) (w : World) (hv : TreeS w (fun b => Bb ≤ b ∧ b < M ∧ b ≠ X) vl vn lo ts)
  (hal : At w Al (los.map iV)) (han : At w An us) (hus : us.length = nds.length) (hou : OwnsL w (fun b => M ≤ b ∧ b ≠ X) us (nds.map setsD)) (hX : X < w.heap.size) (h1u : ∀ u ∈ us, u.oneCell' = true) (hi : i < lo.length) (hit : i < ts.length) (hBb : Bb ≤ w.heap.size) (hBM : Bb ≤ M) (hs1 : lo.length ≤ 1100000) (hs2 : ts.length ≤ 1100000) (hs3 : los.length ≤ 2) (hs4 : nds.length ≤ 2) :
  Calls Tryz.prog 41 #[.agg #[vl, vn], .int .i64 (i : Int), .slice Al los.length cl, .slice An nds.length cn] w (MakesT w Bb X (setL lo i los (i + 1)) (setL ts i nds (i + 1))) := by
 obtain ⟨A, c, B, d, rfl, rfl⟩ := hv.reads.shape
 obtain ⟨P, Q, hP, hQ, hPQ, hvl, hvn⟩ := hv
 have hcl := hvl.lenC
 have HAL := hvl.reads.atI
 obtain ⟨xs, hxa, hxl, hxo, hx1, hcn⟩ := hvn.nodeCells
 have hb3 := bal3 w (.cells #[.slice A lo.length c, .slice B ts.length d] 27) (.cells #[.slice none 0 0, .slice none 0 0] 27) (.cells #[.slice none 0 0, .slice none 0 0] 27)
 obtain ⟨q0, q1, q2⟩ := al3 w (.cells #[.slice A lo.length c, .slice B ts.length d] 27) (.cells #[.slice none 0 0, .slice none 0 0] 27) (.cells #[.slice none 0 0, .slice none 0 0] 27)
 have hz3 : (((w.alloc (.cells #[.slice A lo.length c, .slice B ts.length d] 27)).alloc (.cells #[.slice none 0 0, .slice none 0 0] 27)).alloc (.cells #[.slice none 0 0, .slice none 0 0] 27)).heap.size = w.heap.size + 3 := by simp
 have HOS := Lib.hid (OwnsL.swap (U := fun b => (Bb ≤ b ∧ b ≠ X) ∧ b < w.heap.size) hxo.lt hou.lt i (i + 1) (by omega) (fun b hb => ⟨⟨(hQ b hb.1).1, (hQ b hb.1).2.2⟩, hb.2⟩) (fun b hb => ⟨⟨by have := hb.1.1; omega, hb.1.2⟩, hb.2⟩) (fun b hb hb' => by have := (hQ b hb.1).2.1; have := hb'.1.1; omega))
 have HAT := Lib.hid (HAL.on hb3)
 have HXA := Lib.hid hxa
 have HSL := Lib.hid (hal.on hb3)
 have HSA := Lib.hid han
 have HB := Lib.hid hb3
 have QT := Lib.hid q0
 have QR := Lib.hid q1
 have QO := Lib.hid q2
 have HZ := Lib.hid hz3
 have HXL := Lib.hid hxl
 have HUS := Lib.hid hus
 have HX1 := Lib.hid hx1
 have HU1 := Lib.hid h1u
 have HI1 := Lib.hid (one_iV lo)
 have HI2 := Lib.hid (one_iV los)
 have HLE : Hid ((setL lo i los (i + 1)).length = i + los.length + (lo.length - (i + 1))) := Lib.hid (by unfold setL; simp; omega)
 have HLN : Hid ((setL ts i nds (i + 1)).length = i + nds.length + (ts.length - (i + 1))) := Lib.hid (by unfold setL; simp; omega)
 have HM1 := Lib.hid (set_map iV lo i los (i + 1))
 have HM2 := Lib.hid (set_map setsD ts i nds (i + 1))
 generalize setL lo i los (i + 1) = rl at *
 generalize setL ts i nds (i + 1) = rn at *
 clear hvl hvn HAL hxa hxl hxo hx1 hal han hus hou h1u hb3 q0 q1 q2 hz3 hP hQ hPQ
 have i1 : (0 : Int) ≤ (i : Int) := by omega
 have i2 : (i : Int) ≤ (c : Int) := by omega
 have i3 : (i : Int) ≤ (d : Int) := by omega
 have i4 : (i : Int) + 1 ≤ (lo.length : Int) := by omega
 have i5 : (i : Int) + 1 ≤ (ts.length : Int) := by omega
 have i6 : (0 : Int) ≤ (i : Int) + 1 := by omega
 have i7 : ((i : Int) + 1).toNat = i + 1 := by omega
 have i9 : (i : Int) ≤ (i : Int) + 1 := by omega
 have i8 : IntKind.i64.wrap ((i : Int) + 1) = (i : Int) + 1 := by rw [IntKind.wrap_i64]; omega
 go_enter Tryz.func41, Tryz.ntmps41
 go_upto_region 2 with (fail)
 generalize ((w.alloc (.cells #[.slice A lo.length c, .slice B ts.length d] 27)).alloc (.cells #[.slice none 0 0, .slice none 0 0] 27)).alloc (.cells #[.slice none 0 0, .slice none 0 0] 27) = W at *
 have hz1 := Nat.le_of_eq HZ.out
 have hz2 := Nat.le_of_eq HZ.out.symm
 go_cut [24] (fun _ wx => Hid (SetMid w W (.cells #[.slice A lo.length c, .slice B ts.length d] 27) (.cells #[.slice none 0 0, .slice none 0 0] 27) rl wx))
 case first =>
  by_cases hcN : c = i + 1
  ·subst hcN
   refine but_begin (f := 15) (S := fun V => Below W.heap.size W V) (by kernel_rfl) ?_
   refine but_take (f := 15) (i := 1) (v := ?va1) rfl (by kernel_rfl) (by kernel_rfl) (by kernel_rfl) (by kernel_rfl) (by kernel_rfl) (fun _ _ _ h => h) (Or.inl ⟨(by rfl), ?hya1⟩) (Below.drew1 _) ?resta1
   case hya1 =>
    intro W hW
    go_simp
    exact rfl
   simp only [List.getElem_toArray, List.getElem_cons_succ, List.getElem_cons_zero, Act.put, List.setIfInBounds_toArray, List.set_cons_zero, List.set_cons_succ]
   refine but_take (f := 15) (i := 2) (v := ?va2) rfl (by kernel_rfl) (by kernel_rfl) (by kernel_rfl) (by kernel_rfl) (by kernel_rfl) (fun _ _ _ h => h) (Or.inl ⟨(by rfl), ?hya2⟩) (Below.drew1 _) ?resta2
   case hya2 =>
    intro W hW
    obtain ⟨x0, x1, x2⟩ := box2 (box_on QT.out hW)
    go_simp
    exact rfl
   simp only [List.getElem_toArray, List.getElem_cons_succ, List.getElem_cons_zero, Act.put, List.setIfInBounds_toArray, List.set_cons_zero, List.set_cons_succ]
   refine but_take (f := 15) (i := 3) (v := ?va3) rfl (by kernel_rfl) (by kernel_rfl) (by kernel_rfl) (by kernel_rfl) (by kernel_rfl) (fun _ _ _ h => h) (Or.inl ⟨(by rfl), ?hya3⟩) (Below.drew1 _) ?resta3
   case hya3 =>
    intro W hW
    go_simp
    exact rfl
   simp only [List.getElem_toArray, List.getElem_cons_succ, List.getElem_cons_zero, Act.put, List.setIfInBounds_toArray, List.set_cons_zero, List.set_cons_succ]
   refine but_take (f := 15) (i := 4) (v := ?va4) rfl (by kernel_rfl) (by kernel_rfl) (by kernel_rfl) (by kernel_rfl) (by kernel_rfl) (fun _ _ _ h => h) (Or.inl ⟨(by rfl), ?hya4⟩) (Below.drew1 _) ?resta4
   case hya4 =>
    intro W hW
    go_simp
    exact rfl
   simp only [List.getElem_toArray, List.getElem_cons_succ, List.getElem_cons_zero, Act.put, List.setIfInBounds_toArray, List.set_cons_zero, List.set_cons_succ]
   refine but_take (f := 15) (i := 6) (v := ?va6) rfl (by kernel_rfl) (by kernel_rfl) (by kernel_rfl) (by kernel_rfl) (by kernel_rfl) (fun _ _ _ h => h) (Or.inl ⟨(by rfl), ?hya6⟩) (Below.drew1 _) ?resta6
   case hya6 =>
    intro W hW
    go_simp
    exact rfl
   simp only [List.getElem_toArray, List.getElem_cons_succ, List.getElem_cons_zero, Act.put, List.setIfInBounds_toArray, List.set_cons_zero, List.set_cons_succ]
   refine but_take (f := 15) (i := 8) (v := ?va8) rfl (by kernel_rfl) (by kernel_rfl) (by kernel_rfl) (by kernel_rfl) (by kernel_rfl) (fun _ _ _ h => h) (Or.inl ⟨(by rfl), ?hya8⟩) (Below.drew1 _) ?resta8
   case hya8 =>
    intro W hW
    go_simp
    exact rfl
   simp only [List.getElem_toArray, List.getElem_cons_succ, List.getElem_cons_zero, Act.put, List.setIfInBounds_toArray, List.set_cons_zero, List.set_cons_succ]
   refine but_take (f := 15) (i := 9) (v := ?va9) rfl (by kernel_rfl) (by kernel_rfl) (by kernel_rfl) (by kernel_rfl) (by kernel_rfl) (fun _ _ _ h => h) (Or.inl ⟨(by rfl), ?hya9⟩) (Below.drew1 _) ?resta9
   case hya9 =>
    intro W hW
    obtain ⟨x0, x1, x2⟩ := box2 (box_on QT.out hW)
    go_simp
    exact rfl
   simp only [List.getElem_toArray, List.getElem_cons_succ, List.getElem_cons_zero, Act.put, List.setIfInBounds_toArray, List.set_cons_zero, List.set_cons_succ]
   refine but_take (f := 15) (i := 10) (v := ?va10) rfl (by kernel_rfl) (by kernel_rfl) (by kernel_rfl) (by kernel_rfl) (by kernel_rfl) (fun _ _ _ h => h) (Or.inl ⟨(by rfl), ?hya10⟩) (Below.drew1 _) ?resta10
   case hya10 =>
    intro W hW
    go_simp
    exact rfl
   simp only [List.getElem_toArray, List.getElem_cons_succ, List.getElem_cons_zero, Act.put, List.setIfInBounds_toArray, List.set_cons_zero, List.set_cons_succ]
   refine but_take (f := 15) (i := 11) (v := ?va11) rfl (by kernel_rfl) (by kernel_rfl) (by kernel_rfl) (by kernel_rfl) (by kernel_rfl) (fun _ _ _ h => h) (Or.inl ⟨(by rfl), ?hya11⟩) (Below.drew1 _) ?resta11
   case hya11 =>
    intro W hW
    go_simp
    exact rfl
   simp only [List.getElem_toArray, List.getElem_cons_succ, List.getElem_cons_zero, Act.put, List.setIfInBounds_toArray, List.set_cons_zero, List.set_cons_succ]
   refine but_take (f := 15) (i := 12) (v := ?va12) rfl (by kernel_rfl) (by kernel_rfl) (by kernel_rfl) (by kernel_rfl) (by kernel_rfl) (fun _ _ _ h => h) (Or.inl ⟨(by rfl), ?hya12⟩) (Below.drew1 _) ?resta12
   case hya12 =>
    intro W hW
    go_simp
    exact rfl
   simp only [List.getElem_toArray, List.getElem_cons_succ, List.getElem_cons_zero, Act.put, List.setIfInBounds_toArray, List.set_cons_zero, List.set_cons_succ]
   refine but_run (i := 0) (by kernel_rfl) rfl (by rfl) ?_
   simp only [List.getElem_toArray, List.getElem_cons_succ, List.getElem_cons_zero]
   intro K HK
   go_wp2_with fail
   have hSa1 : (fun V => Below W.heap.size W V) (W.drew.alloc (.cells #[] 3)) := bstep (Below.drew1 _) (bal1 _ _)
   refine HK.out _ _ (fun _ => hSa1) ?_
   clear HK
   have Ra1 := Lib.hid (row_lit W.drew 3 1)
   refine but_run (i := 5) (by kernel_rfl) rfl (by rfl) ?_
   simp only [List.getElem_toArray, List.getElem_cons_succ, List.getElem_cons_zero]
   intro K HK
   refine operAppN _ (by rfl) (.tmp 11) (.tmp 15) 24 3 1 8 (.int .i64 0) (by rfl) Tryz.underlying24 (by kernel_rfl) rfl (by omega) (by omega) W.heap.size (0) _ ([]) (by rfl) Ra1.out (A) (i) ((i + 1)) ((lo.map iV).take i) (by rfl) (by simp; omega) (((HAT.out.on hSa1).takeV i)) (fun u hu => HI1.out u (List.mem_of_mem_take hu)) (by omega) (Nat.le_trans (Nat.le_refl _) (hSa1.size)) ?_
   intro va2 Va2 oa2 ga2 _ aa2
   rw [Nat.zero_add, List.nil_append] at oa2
   obtain ⟨Aa2, ca2, rfl⟩ := row_form oa2
   have hSa2 : (fun V => Below W.heap.size W V) Va2 := grown_below hSa1 ga2 Ra1.out (Nat.le_refl _)
   refine HK.out _ _ (fun _ => hSa2) ?_
   clear HK
   have Ra2 := Lib.hid oa2
   clear oa2
   simp only [List.getElem_toArray, List.getElem_cons_succ, List.getElem_cons_zero, Act.put, List.setIfInBounds_toArray, List.set_cons_zero, List.set_cons_succ]
   refine but_run (i := 7) (by kernel_rfl) rfl (by rfl) ?_
   simp only [List.getElem_toArray, List.getElem_cons_succ, List.getElem_cons_zero]
   intro K HK
   refine operAppN _ (by rfl) (.tmp 16) (.tmp 17) 24 3 1 8 (.int .i64 0) (by rfl) Tryz.underlying24 (by kernel_rfl) rfl (by omega) (by omega) W.heap.size (i) _ ((lo.map iV).take i) (by rfl) Ra2.out (Al) (los.length) (cl) (los.map iV) (by rfl) (by simp) (HSL.out.on hSa2) (HI2.out) (by omega) (Nat.le_trans (Nat.le_refl _) (hSa2.size)) ?_
   intro va3 Va3 oa3 ga3 _ aa3
   obtain ⟨Aa3, ca3, rfl⟩ := row_form oa3
   have hSa3 : (fun V => Below W.heap.size W V) Va3 := grown_below hSa2 ga3 Ra2.out (Nat.le_refl _)
   refine HK.out _ _ (fun _ => hSa3) ?_
   clear HK
   have Ra3 := Lib.hid oa3
   clear oa3
   simp only [List.getElem_toArray, List.getElem_cons_succ, List.getElem_cons_zero, Act.put, List.setIfInBounds_toArray, List.set_cons_zero, List.set_cons_succ]
   refine but_run (i := 13) (by kernel_rfl) rfl (by rfl) ?_
   simp only [List.getElem_toArray, List.getElem_cons_succ, List.getElem_cons_zero]
   intro K HK
   refine operAppN _ (by rfl) (.tmp 18) (.tmp 23) 24 3 1 8 (.int .i64 0) (by rfl) Tryz.underlying24 (by kernel_rfl) rfl (by omega) (by omega) W.heap.size (i + los.length) _ ((lo.map iV).take i ++ los.map iV) (by rfl) Ra3.out (_) (0) (_) ([]) (by rfl) (rfl) (.inl rfl) (fun u hu => by simp at hu) (by omega) (Nat.le_trans (Nat.le_refl _) (hSa3.size)) ?_
   intro va4 Va4 oa4 ga4 _ aa4
   have e1 : i + los.length + 0 = rl.length := by rw [HLE.out]; omega
   have e2 : (lo.map iV).take i ++ los.map iV ++ [] = rl.map iV := by rw [HM1.out, show (lo.map iV).drop (i + 1) = [] from List.drop_eq_nil_of_le (by simp; omega)]
   rw [e2, e1] at oa4
   clear e1 e2
   obtain ⟨o0, o1, o2⟩ := box2 (box_on QO.out (grown_below hSa3 ga4 Ra3.out (Nat.le_refl _)))
   obtain ⟨Aa4, ca4, rfl⟩ := row_form oa4
   have hSa4 : (fun V => Below W.heap.size W V) Va4 := grown_below hSa3 ga4 Ra3.out (Nat.le_refl _)
   refine HK.out _ _ (fun _ => hSa4) ?_
   clear HK
   have Ra4 := Lib.hid oa4
   clear oa4
   simp only [List.getElem_toArray, List.getElem_cons_succ, List.getElem_cons_zero, Act.put, List.setIfInBounds_toArray, List.set_cons_zero, List.set_cons_succ]
   refine but_take (f := 15) (i := 14) (v := ?va14) rfl (by kernel_rfl) (by kernel_rfl) (by kernel_rfl) (by kernel_rfl) (by kernel_rfl) (fun _ _ _ h => h) (Or.inl ⟨(by rfl), ?hya14⟩) hSa4 ?resta14
   case hya14 =>
    intro W hW
    go_simp
    exact rfl
   simp only [List.getElem_toArray, List.getElem_cons_succ, List.getElem_cons_zero, Act.put, List.setIfInBounds_toArray, List.set_cons_zero, List.set_cons_succ]
   refine but_run (i := 15) (by kernel_rfl) rfl (by rfl) ?_
   simp only [List.getElem_toArray, List.getElem_cons_succ, List.getElem_cons_zero]
   intro K HK
   go_wp2_with fail
   refine HK.out _ _ (fun h => absurd rfl h) ?_
   clear HK
   refine but_done (by kernel_rfl) ?_
   have hW3 : Below W.heap.size W Va4 := hSa4
   have hsz := hW3.size
   have FIN : Hid (SetMid w W _ _ rl (Va4.setCell ⟨w.heap.size + 1 + 1, 0, none⟩ (.slice Aa4 rl.length ca4))) := Lib.hid ⟨_, _, box_far (box_on QT.out hW3) (by omega), box_far (box_on QR.out hW3) (by omega), box_set (i := 0) (u := .slice Aa4 rl.length ca4) (box_on QO.out hW3), (HB.out.trans (hW3.mono HB.out.size)).setCell (p := ⟨w.heap.size + 1 + 1, 0, none⟩) (show w.heap.size ≤ w.heap.size + 1 + 1 by omega) (.slice Aa4 rl.length ca4), (row_ints (row_keep Ra4.out (w' := Va4.setCell ⟨w.heap.size + 1 + 1, 0, none⟩ (.slice Aa4 rl.length ca4)) (fun g hg => Below.heap_setCell _ _ _ _ (by have := (row_lt Ra4.out g hg).2; simp; omega)))).lt, by simpa using hsz⟩
   go_wp2_with fail
   go_meet
   exact FIN
  ·have hcc : i + 1 < c := by omega
   refine but_begin (f := 15) (S := fun V => Below W.heap.size W V) (by kernel_rfl) ?_
   refine but_take (f := 15) (i := 1) (v := ?vb1) rfl (by kernel_rfl) (by kernel_rfl) (by kernel_rfl) (by kernel_rfl) (by kernel_rfl) (fun _ _ _ h => h) (Or.inl ⟨(by rfl), ?hyb1⟩) (Below.drew1 _) ?restb1
   case hyb1 =>
    intro W hW
    go_simp
    exact rfl
   simp only [List.getElem_toArray, List.getElem_cons_succ, List.getElem_cons_zero, Act.put, List.setIfInBounds_toArray, List.set_cons_zero, List.set_cons_succ]
   refine but_take (f := 15) (i := 2) (v := ?vb2) rfl (by kernel_rfl) (by kernel_rfl) (by kernel_rfl) (by kernel_rfl) (by kernel_rfl) (fun _ _ _ h => h) (Or.inl ⟨(by rfl), ?hyb2⟩) (Below.drew1 _) ?restb2
   case hyb2 =>
    intro W hW
    obtain ⟨x0, x1, x2⟩ := box2 (box_on QT.out hW)
    go_simp
    exact rfl
   simp only [List.getElem_toArray, List.getElem_cons_succ, List.getElem_cons_zero, Act.put, List.setIfInBounds_toArray, List.set_cons_zero, List.set_cons_succ]
   refine but_take (f := 15) (i := 3) (v := ?vb3) rfl (by kernel_rfl) (by kernel_rfl) (by kernel_rfl) (by kernel_rfl) (by kernel_rfl) (fun _ _ _ h => h) (Or.inl ⟨(by rfl), ?hyb3⟩) (Below.drew1 _) ?restb3
   case hyb3 =>
    intro W hW
    go_simp
    exact rfl
   simp only [List.getElem_toArray, List.getElem_cons_succ, List.getElem_cons_zero, Act.put, List.setIfInBounds_toArray, List.set_cons_zero, List.set_cons_succ]
   refine but_take (f := 15) (i := 4) (v := ?vb4) rfl (by kernel_rfl) (by kernel_rfl) (by kernel_rfl) (by kernel_rfl) (by kernel_rfl) (fun _ _ _ h => h) (Or.inl ⟨(by rfl), ?hyb4⟩) (Below.drew1 _) ?restb4
   case hyb4 =>
    intro W hW
    go_simp
    exact rfl
   simp only [List.getElem_toArray, List.getElem_cons_succ, List.getElem_cons_zero, Act.put, List.setIfInBounds_toArray, List.set_cons_zero, List.set_cons_succ]
   refine but_take (f := 15) (i := 6) (v := ?vb6) rfl (by kernel_rfl) (by kernel_rfl) (by kernel_rfl) (by kernel_rfl) (by kernel_rfl) (fun _ _ _ h => h) (Or.inl ⟨(by rfl), ?hyb6⟩) (Below.drew1 _) ?restb6
   case hyb6 =>
    intro W hW
    go_simp
    exact rfl
   simp only [List.getElem_toArray, List.getElem_cons_succ, List.getElem_cons_zero, Act.put, List.setIfInBounds_toArray, List.set_cons_zero, List.set_cons_succ]
   refine but_take (f := 15) (i := 8) (v := ?vb8) rfl (by kernel_rfl) (by kernel_rfl) (by kernel_rfl) (by kernel_rfl) (by kernel_rfl) (fun _ _ _ h => h) (Or.inl ⟨(by rfl), ?hyb8⟩) (Below.drew1 _) ?restb8
   case hyb8 =>
    intro W hW
    go_simp
    exact rfl
   simp only [List.getElem_toArray, List.getElem_cons_succ, List.getElem_cons_zero, Act.put, List.setIfInBounds_toArray, List.set_cons_zero, List.set_cons_succ]
   refine but_take (f := 15) (i := 9) (v := ?vb9) rfl (by kernel_rfl) (by kernel_rfl) (by kernel_rfl) (by kernel_rfl) (by kernel_rfl) (fun _ _ _ h => h) (Or.inl ⟨(by rfl), ?hyb9⟩) (Below.drew1 _) ?restb9
   case hyb9 =>
    intro W hW
    obtain ⟨x0, x1, x2⟩ := box2 (box_on QT.out hW)
    go_simp
    exact rfl
   simp only [List.getElem_toArray, List.getElem_cons_succ, List.getElem_cons_zero, Act.put, List.setIfInBounds_toArray, List.set_cons_zero, List.set_cons_succ]
   refine but_take (f := 15) (i := 10) (v := ?vb10) rfl (by kernel_rfl) (by kernel_rfl) (by kernel_rfl) (by kernel_rfl) (by kernel_rfl) (fun _ _ _ h => h) (Or.inl ⟨(by rfl), ?hyb10⟩) (Below.drew1 _) ?restb10
   case hyb10 =>
    intro W hW
    go_simp
    exact rfl
   simp only [List.getElem_toArray, List.getElem_cons_succ, List.getElem_cons_zero, Act.put, List.setIfInBounds_toArray, List.set_cons_zero, List.set_cons_succ]
   refine but_take (f := 15) (i := 11) (v := ?vb11) rfl (by kernel_rfl) (by kernel_rfl) (by kernel_rfl) (by kernel_rfl) (by kernel_rfl) (fun _ _ _ h => h) (Or.inl ⟨(by rfl), ?hyb11⟩) (Below.drew1 _) ?restb11
   case hyb11 =>
    intro W hW
    go_simp
    exact rfl
   simp only [List.getElem_toArray, List.getElem_cons_succ, List.getElem_cons_zero, Act.put, List.setIfInBounds_toArray, List.set_cons_zero, List.set_cons_succ]
   refine but_take (f := 15) (i := 12) (v := ?vb12) rfl (by kernel_rfl) (by kernel_rfl) (by kernel_rfl) (by kernel_rfl) (by kernel_rfl) (fun _ _ _ h => h) (Or.inl ⟨(by rfl), ?hyb12⟩) (Below.drew1 _) ?restb12
   case hyb12 =>
    intro W hW
    go_simp
    exact rfl
   simp only [List.getElem_toArray, List.getElem_cons_succ, List.getElem_cons_zero, Act.put, List.setIfInBounds_toArray, List.set_cons_zero, List.set_cons_succ]
   refine but_run (i := 0) (by kernel_rfl) rfl (by rfl) ?_
   simp only [List.getElem_toArray, List.getElem_cons_succ, List.getElem_cons_zero]
   intro K HK
   go_wp2_with fail
   have hSb1 : (fun V => Below W.heap.size W V) (W.drew.alloc (.cells #[] 3)) := bstep (Below.drew1 _) (bal1 _ _)
   refine HK.out _ _ (fun _ => hSb1) ?_
   clear HK
   have Rb1 := Lib.hid (row_lit W.drew 3 1)
   refine but_run (i := 5) (by kernel_rfl) rfl (by rfl) ?_
   simp only [List.getElem_toArray, List.getElem_cons_succ, List.getElem_cons_zero]
   intro K HK
   refine operAppN _ (by rfl) (.tmp 11) (.tmp 15) 24 3 1 8 (.int .i64 0) (by rfl) Tryz.underlying24 (by kernel_rfl) rfl (by omega) (by omega) W.heap.size (0) _ ([]) (by rfl) Rb1.out (A) (i) (c) ((lo.map iV).take i) (by rfl) (by simp; omega) (((HAT.out.on hSb1).takeV i)) (fun u hu => HI1.out u (List.mem_of_mem_take hu)) (by omega) (Nat.le_trans (Nat.le_refl _) (hSb1.size)) ?_
   intro vb2 Vb2 ob2 gb2 _ ab2
   rw [Nat.zero_add, List.nil_append] at ob2
   obtain ⟨Ab2, cb2, rfl⟩ := row_form ob2
   have hSb2 : (fun V => Below W.heap.size W V) Vb2 := grown_below hSb1 gb2 Rb1.out (Nat.le_refl _)
   refine HK.out _ _ (fun _ => hSb2) ?_
   clear HK
   have Rb2 := Lib.hid ob2
   clear ob2
   simp only [List.getElem_toArray, List.getElem_cons_succ, List.getElem_cons_zero, Act.put, List.setIfInBounds_toArray, List.set_cons_zero, List.set_cons_succ]
   refine but_run (i := 7) (by kernel_rfl) rfl (by rfl) ?_
   simp only [List.getElem_toArray, List.getElem_cons_succ, List.getElem_cons_zero]
   intro K HK
   refine operAppN _ (by rfl) (.tmp 16) (.tmp 17) 24 3 1 8 (.int .i64 0) (by rfl) Tryz.underlying24 (by kernel_rfl) rfl (by omega) (by omega) W.heap.size (i) _ ((lo.map iV).take i) (by rfl) Rb2.out (Al) (los.length) (cl) (los.map iV) (by rfl) (by simp) (HSL.out.on hSb2) (HI2.out) (by omega) (Nat.le_trans (Nat.le_refl _) (hSb2.size)) ?_
   intro vb3 Vb3 ob3 gb3 _ ab3
   obtain ⟨Ab3, cb3, rfl⟩ := row_form ob3
   have hSb3 : (fun V => Below W.heap.size W V) Vb3 := grown_below hSb2 gb3 Rb2.out (Nat.le_refl _)
   refine HK.out _ _ (fun _ => hSb3) ?_
   clear HK
   have Rb3 := Lib.hid ob3
   clear ob3
   simp only [List.getElem_toArray, List.getElem_cons_succ, List.getElem_cons_zero, Act.put, List.setIfInBounds_toArray, List.set_cons_zero, List.set_cons_succ]
   refine but_run (i := 13) (by kernel_rfl) rfl (by rfl) ?_
   simp only [List.getElem_toArray, List.getElem_cons_succ, List.getElem_cons_zero]
   intro K HK
   refine operAppN _ (by rfl) (.tmp 18) (.tmp 23) 24 3 1 8 (.int .i64 0) (by rfl) Tryz.underlying24 (by kernel_rfl) rfl (by omega) (by omega) W.heap.size (i + los.length) _ ((lo.map iV).take i ++ los.map iV) (by rfl) Rb3.out (_) (lo.length - (i + 1)) (_) ((lo.map iV).drop (i + 1)) (by rfl) (by simp) ((by have h := At.tailV (c := c) (j := i + 1) (HAT.out.on hSb3) (by simp; omega); unfold tailA at h; rw [if_neg hcN] at h; exact h)) (fun u hu => HI1.out u (List.mem_of_mem_drop hu)) (by omega) (Nat.le_trans (Nat.le_refl _) (hSb3.size)) ?_
   intro vb4 Vb4 ob4 gb4 _ ab4
   rw [← HLE.out, ← HM1.out] at ob4
   obtain ⟨o0, o1, o2⟩ := box2 (box_on QO.out (grown_below hSb3 gb4 Rb3.out (Nat.le_refl _)))
   obtain ⟨Ab4, cb4, rfl⟩ := row_form ob4
   have hSb4 : (fun V => Below W.heap.size W V) Vb4 := grown_below hSb3 gb4 Rb3.out (Nat.le_refl _)
   refine HK.out _ _ (fun _ => hSb4) ?_
   clear HK
   have Rb4 := Lib.hid ob4
   clear ob4
   simp only [List.getElem_toArray, List.getElem_cons_succ, List.getElem_cons_zero, Act.put, List.setIfInBounds_toArray, List.set_cons_zero, List.set_cons_succ]
   refine but_take (f := 15) (i := 14) (v := ?vb14) rfl (by kernel_rfl) (by kernel_rfl) (by kernel_rfl) (by kernel_rfl) (by kernel_rfl) (fun _ _ _ h => h) (Or.inl ⟨(by rfl), ?hyb14⟩) hSb4 ?restb14
   case hyb14 =>
    intro W hW
    go_simp
    exact rfl
   simp only [List.getElem_toArray, List.getElem_cons_succ, List.getElem_cons_zero, Act.put, List.setIfInBounds_toArray, List.set_cons_zero, List.set_cons_succ]
   refine but_run (i := 15) (by kernel_rfl) rfl (by rfl) ?_
   simp only [List.getElem_toArray, List.getElem_cons_succ, List.getElem_cons_zero]
   intro K HK
   go_wp2_with fail
   refine HK.out _ _ (fun h => absurd rfl h) ?_
   clear HK
   refine but_done (by kernel_rfl) ?_
   have hW3 : Below W.heap.size W Vb4 := hSb4
   have hsz := hW3.size
   have FIN : Hid (SetMid w W _ _ rl (Vb4.setCell ⟨w.heap.size + 1 + 1, 0, none⟩ (.slice Ab4 rl.length cb4))) := Lib.hid ⟨_, _, box_far (box_on QT.out hW3) (by omega), box_far (box_on QR.out hW3) (by omega), box_set (i := 0) (u := .slice Ab4 rl.length cb4) (box_on QO.out hW3), (HB.out.trans (hW3.mono HB.out.size)).setCell (p := ⟨w.heap.size + 1 + 1, 0, none⟩) (show w.heap.size ≤ w.heap.size + 1 + 1 by omega) (.slice Ab4 rl.length cb4), (row_ints (row_keep Rb4.out (w' := Vb4.setCell ⟨w.heap.size + 1 + 1, 0, none⟩ (.slice Ab4 rl.length cb4)) (fun g hg => Below.heap_setCell _ _ _ _ (by have := (row_lt Rb4.out g hg).2; simp; omega)))).lt, by simpa using hsz⟩
   go_wp2_with fail
   go_meet
   exact FIN
 case rest =>
  obtain ⟨Ak, ck, qt, qr, qo, hb2, rl2, hsz⟩ := hcut.out
  obtain ⟨W2, rfl⟩ : ∃ W, W = wc := ⟨_, rfl⟩
  have QT2 := Lib.hid qt
  have QR2 := Lib.hid qr
  have QO2 := Lib.hid qo
  have HB2 := Lib.hid hb2
  have RL := Lib.hid rl2
  have HAN := Lib.hid (HXA.out.on hb2)
  have HSN := Lib.hid (HSA.out.on hb2)
  clear qt qr qo hb2 rl2 hcut QT QR QO HB HAT HSL
  by_cases hcN : d = i + 1
  ·subst hcN
   go_wp2
   refine but_begin (f := 15) (S := fun V => Below W2.heap.size W2 V) (by kernel_rfl) ?_
   refine but_take (f := 15) (i := 1) (v := ?ve1) rfl (by kernel_rfl) (by kernel_rfl) (by kernel_rfl) (by kernel_rfl) (by kernel_rfl) (fun _ _ _ h => h) (Or.inl ⟨(by rfl), ?hye1⟩) (Below.drew1 _) ?reste1
   case hye1 =>
    intro W hW
    go_simp
    exact rfl
   simp only [List.getElem_toArray, List.getElem_cons_succ, List.getElem_cons_zero, Act.put, List.setIfInBounds_toArray, List.set_cons_zero, List.set_cons_succ]
   refine but_take (f := 15) (i := 2) (v := ?ve2) rfl (by kernel_rfl) (by kernel_rfl) (by kernel_rfl) (by kernel_rfl) (by kernel_rfl) (fun _ _ _ h => h) (Or.inl ⟨(by rfl), ?hye2⟩) (Below.drew1 _) ?reste2
   case hye2 =>
    intro W hW
    obtain ⟨x0, x1, x2⟩ := box2 (box_on QT2.out hW)
    go_simp
    exact rfl
   simp only [List.getElem_toArray, List.getElem_cons_succ, List.getElem_cons_zero, Act.put, List.setIfInBounds_toArray, List.set_cons_zero, List.set_cons_succ]
   refine but_take (f := 15) (i := 3) (v := ?ve3) rfl (by kernel_rfl) (by kernel_rfl) (by kernel_rfl) (by kernel_rfl) (by kernel_rfl) (fun _ _ _ h => h) (Or.inl ⟨(by rfl), ?hye3⟩) (Below.drew1 _) ?reste3
   case hye3 =>
    intro W hW
    go_simp
    exact rfl
   simp only [List.getElem_toArray, List.getElem_cons_succ, List.getElem_cons_zero, Act.put, List.setIfInBounds_toArray, List.set_cons_zero, List.set_cons_succ]
   refine but_take (f := 15) (i := 4) (v := ?ve4) rfl (by kernel_rfl) (by kernel_rfl) (by kernel_rfl) (by kernel_rfl) (by kernel_rfl) (fun _ _ _ h => h) (Or.inl ⟨(by rfl), ?hye4⟩) (Below.drew1 _) ?reste4
   case hye4 =>
    intro W hW
    go_simp
    exact rfl
   simp only [List.getElem_toArray, List.getElem_cons_succ, List.getElem_cons_zero, Act.put, List.setIfInBounds_toArray, List.set_cons_zero, List.set_cons_succ]
   refine but_take (f := 15) (i := 6) (v := ?ve6) rfl (by kernel_rfl) (by kernel_rfl) (by kernel_rfl) (by kernel_rfl) (by kernel_rfl) (fun _ _ _ h => h) (Or.inl ⟨(by rfl), ?hye6⟩) (Below.drew1 _) ?reste6
   case hye6 =>
    intro W hW
    go_simp
    exact rfl
   simp only [List.getElem_toArray, List.getElem_cons_succ, List.getElem_cons_zero, Act.put, List.setIfInBounds_toArray, List.set_cons_zero, List.set_cons_succ]
   refine but_take (f := 15) (i := 8) (v := ?ve8) rfl (by kernel_rfl) (by kernel_rfl) (by kernel_rfl) (by kernel_rfl) (by kernel_rfl) (fun _ _ _ h => h) (Or.inl ⟨(by rfl), ?hye8⟩) (Below.drew1 _) ?reste8
   case hye8 =>
    intro W hW
    go_simp
    exact rfl
   simp only [List.getElem_toArray, List.getElem_cons_succ, List.getElem_cons_zero, Act.put, List.setIfInBounds_toArray, List.set_cons_zero, List.set_cons_succ]
   refine but_take (f := 15) (i := 9) (v := ?ve9) rfl (by kernel_rfl) (by kernel_rfl) (by kernel_rfl) (by kernel_rfl) (by kernel_rfl) (fun _ _ _ h => h) (Or.inl ⟨(by rfl), ?hye9⟩) (Below.drew1 _) ?reste9
   case hye9 =>
    intro W hW
    obtain ⟨x0, x1, x2⟩ := box2 (box_on QT2.out hW)
    go_simp
    exact rfl
   simp only [List.getElem_toArray, List.getElem_cons_succ, List.getElem_cons_zero, Act.put, List.setIfInBounds_toArray, List.set_cons_zero, List.set_cons_succ]
   refine but_take (f := 15) (i := 10) (v := ?ve10) rfl (by kernel_rfl) (by kernel_rfl) (by kernel_rfl) (by kernel_rfl) (by kernel_rfl) (fun _ _ _ h => h) (Or.inl ⟨(by rfl), ?hye10⟩) (Below.drew1 _) ?reste10
   case hye10 =>
    intro W hW
    go_simp
    exact rfl
   simp only [List.getElem_toArray, List.getElem_cons_succ, List.getElem_cons_zero, Act.put, List.setIfInBounds_toArray, List.set_cons_zero, List.set_cons_succ]
   refine but_take (f := 15) (i := 11) (v := ?ve11) rfl (by kernel_rfl) (by kernel_rfl) (by kernel_rfl) (by kernel_rfl) (by kernel_rfl) (fun _ _ _ h => h) (Or.inl ⟨(by rfl), ?hye11⟩) (Below.drew1 _) ?reste11
   case hye11 =>
    intro W hW
    go_simp
    exact rfl
   simp only [List.getElem_toArray, List.getElem_cons_succ, List.getElem_cons_zero, Act.put, List.setIfInBounds_toArray, List.set_cons_zero, List.set_cons_succ]
   refine but_take (f := 15) (i := 12) (v := ?ve12) rfl (by kernel_rfl) (by kernel_rfl) (by kernel_rfl) (by kernel_rfl) (by kernel_rfl) (fun _ _ _ h => h) (Or.inl ⟨(by rfl), ?hye12⟩) (Below.drew1 _) ?reste12
   case hye12 =>
    intro W hW
    go_simp
    exact rfl
   simp only [List.getElem_toArray, List.getElem_cons_succ, List.getElem_cons_zero, Act.put, List.setIfInBounds_toArray, List.set_cons_zero, List.set_cons_succ]
   refine but_run (i := 0) (by kernel_rfl) rfl (by rfl) ?_
   simp only [List.getElem_toArray, List.getElem_cons_succ, List.getElem_cons_zero]
   intro K HK
   go_wp2_with fail
   have hSe1 : (fun V => Below W2.heap.size W2 V) (W2.drew.alloc (.cells #[] 62)) := bstep (Below.drew1 _) (bal1 _ _)
   refine HK.out _ _ (fun _ => hSe1) ?_
   clear HK
   have Re1 := Lib.hid (row_lit W2.drew 62 1)
   refine but_run (i := 5) (by kernel_rfl) rfl (by rfl) ?_
   simp only [List.getElem_toArray, List.getElem_cons_succ, List.getElem_cons_zero]
   intro K HK
   refine operAppN _ (by rfl) (.tmp 26) (.tmp 30) 25 62 1 24 (.agg #[.slice none 0 0]) (by rfl) Tryz.underlying25 (by kernel_rfl) rfl (by omega) (by omega) W2.heap.size (0) _ ([]) (by rfl) Re1.out (B) (i) ((i + 1)) (xs.take i) (by rfl) (by rw [List.length_take, HXL.out]; omega) (((HAN.out.on hSe1).takeV i)) (fun u hu => HX1.out u (List.mem_of_mem_take hu)) (by omega) (Nat.le_trans (Nat.le_refl _) (hSe1.size)) ?_
   intro ve2 Ve2 oe2 ge2 _ ae2
   rw [Nat.zero_add, List.nil_append] at oe2
   obtain ⟨Ae2, ce2, rfl⟩ := row_form oe2
   have hSe2 : (fun V => Below W2.heap.size W2 V) Ve2 := grown_below hSe1 ge2 Re1.out (Nat.le_refl _)
   refine HK.out _ _ (fun _ => hSe2) ?_
   clear HK
   have Re2 := Lib.hid oe2
   clear oe2
   simp only [List.getElem_toArray, List.getElem_cons_succ, List.getElem_cons_zero, Act.put, List.setIfInBounds_toArray, List.set_cons_zero, List.set_cons_succ]
   refine but_run (i := 7) (by kernel_rfl) rfl (by rfl) ?_
   simp only [List.getElem_toArray, List.getElem_cons_succ, List.getElem_cons_zero]
   intro K HK
   refine operAppN _ (by rfl) (.tmp 31) (.tmp 32) 25 62 1 24 (.agg #[.slice none 0 0]) (by rfl) Tryz.underlying25 (by kernel_rfl) rfl (by omega) (by omega) W2.heap.size (i) _ (xs.take i) (by rfl) Re2.out (An) (nds.length) (cn) (us) (by rfl) (by rw [HUS.out]; omega) (HSN.out.on hSe2) (HU1.out) (by omega) (Nat.le_trans (Nat.le_refl _) (hSe2.size)) ?_
   intro ve3 Ve3 oe3 ge3 _ ae3
   obtain ⟨Ae3, ce3, rfl⟩ := row_form oe3
   have hSe3 : (fun V => Below W2.heap.size W2 V) Ve3 := grown_below hSe2 ge3 Re2.out (Nat.le_refl _)
   refine HK.out _ _ (fun _ => hSe3) ?_
   clear HK
   have Re3 := Lib.hid oe3
   clear oe3
   simp only [List.getElem_toArray, List.getElem_cons_succ, List.getElem_cons_zero, Act.put, List.setIfInBounds_toArray, List.set_cons_zero, List.set_cons_succ]
   refine but_run (i := 13) (by kernel_rfl) rfl (by rfl) ?_
   simp only [List.getElem_toArray, List.getElem_cons_succ, List.getElem_cons_zero]
   intro K HK
   refine operAppN _ (by rfl) (.tmp 33) (.tmp 38) 25 62 1 24 (.agg #[.slice none 0 0]) (by rfl) Tryz.underlying25 (by kernel_rfl) rfl (by omega) (by omega) W2.heap.size (i + nds.length) _ (xs.take i ++ us) (by rfl) Re3.out (_) (0) (_) ([]) (by rfl) (rfl) (.inl rfl) (fun u hu => by simp at hu) (by omega) (Nat.le_trans (Nat.le_refl _) (hSe3.size)) ?_
   intro ve4 Ve4 oe4 ge4 _ ae4
   have e1 : i + nds.length + 0 = rn.length := by rw [HLN.out]; omega
   have e2 : xs.take i ++ us ++ [] = xs.take i ++ us ++ xs.drop (i + 1) := by rw [show xs.drop (i + 1) = [] from List.drop_eq_nil_of_le (by rw [HXL.out]; omega)]
   rw [e2, e1] at oe4
   clear e1 e2
   obtain ⟨o0, o1, o2⟩ := box2 (box_on QO2.out (grown_below hSe3 ge4 Re3.out (Nat.le_refl _)))
   obtain ⟨Ae4, ce4, rfl⟩ := row_form oe4
   have hSe4 : (fun V => Below W2.heap.size W2 V) Ve4 := grown_below hSe3 ge4 Re3.out (Nat.le_refl _)
   refine HK.out _ _ (fun _ => hSe4) ?_
   clear HK
   have Re4 := Lib.hid oe4
   clear oe4
   simp only [List.getElem_toArray, List.getElem_cons_succ, List.getElem_cons_zero, Act.put, List.setIfInBounds_toArray, List.set_cons_zero, List.set_cons_succ]
   refine but_take (f := 15) (i := 14) (v := ?ve14) rfl (by kernel_rfl) (by kernel_rfl) (by kernel_rfl) (by kernel_rfl) (by kernel_rfl) (fun _ _ _ h => h) (Or.inl ⟨(by rfl), ?hye14⟩) hSe4 ?reste14
   case hye14 =>
    intro W hW
    go_simp
    exact rfl
   simp only [List.getElem_toArray, List.getElem_cons_succ, List.getElem_cons_zero, Act.put, List.setIfInBounds_toArray, List.set_cons_zero, List.set_cons_succ]
   refine but_run (i := 15) (by kernel_rfl) rfl (by rfl) ?_
   simp only [List.getElem_toArray, List.getElem_cons_succ, List.getElem_cons_zero]
   intro K HK
   go_wp2_with fail
   refine HK.out _ _ (fun h => absurd rfl h) ?_
   clear HK
   refine but_done (by kernel_rfl) ?_
   have hW4 : Below W2.heap.size W2 Ve4 := hSe4
   have hs4 := hW4.size
   have QR4 := Lib.hid (box_far (g := w.heap.size + 1 + 1) (j := 1) (u := .slice Ae4 rn.length ce4) (box_on QR2.out hW4) (by omega))
   have QO4 : Hid ((Ve4.setCell ⟨w.heap.size + 1 + 1, 1, none⟩ (.slice Ae4 rn.length ce4)).heap[w.heap.size + 1 + 1]? = some (.cells #[.slice Ak rl.length ck, .slice Ae4 rn.length ce4] 27 (0, 0))) := Lib.hid (box_set (i := 1) (u := .slice Ae4 rn.length ce4) (box_on QO2.out hW4))
   have HB4 := Lib.hid ((HB2.out.trans (hW4.mono HB2.out.size)).setCell (p := ⟨w.heap.size + 1 + 1, 1, none⟩) (show w.heap.size ≤ w.heap.size + 1 + 1 by omega) (.slice Ae4 rn.length ce4))
   have HON : Hid (OwnsL Ve4 (fun b => (Bb ≤ b ∧ b ≠ X) ∧ b < w.heap.size) (xs.take i ++ us ++ xs.drop (i + 1)) (rn.map setsD)) := Lib.hid (by rw [HM2.out]; exact HOS.out.on (HB2.out.trans (hW4.mono HB2.out.size)))
   have RN := Lib.hid ((row_nodes Re4.out HON.out (by omega)).keep (w' := Ve4.setCell ⟨w.heap.size + 1 + 1, 1, none⟩ (.slice Ae4 rn.length ce4)) (fun b hb _ => Below.heap_setCell _ _ _ _ (by simp; omega)))
   have RL4 := Lib.hid ((RL.out.on hW4).keep (w' := Ve4.setCell ⟨w.heap.size + 1 + 1, 1, none⟩ (.slice Ae4 rn.length ce4)) (fun b hb _ => Below.heap_setCell _ _ _ _ (by have := hb.1; simp; omega)))
   go_upto_region 4 with (fail)
   clear QT2 QR2 QO2 HB2 o0 o1 o2 HAN HSN RL HON HOS
   generalize Ve4.setCell ⟨w.heap.size + 1 + 1, 1, none⟩ (.slice Ae4 rn.length ce4) = W4 at *
   obtain ⟨x0, x1, x2⟩ := box2 QO4.out
   obtain ⟨y0, y1, y2⟩ := box2 QR4.out
   go_wp2
   have HO : ∀ a b, Only (fun b => b = w.heap.size + 1) W4 ((W4.setCell ⟨w.heap.size + 1, 0, none⟩ a).setCell ⟨w.heap.size + 1, 1, none⟩ b) := fun a b => only_two _ _ _ _ _ _
   exact bodyPost_ret (v := .agg #[.slice Ak rl.length ck, .slice Ae4 rn.length ce4]) (by simp [results, Tryz.results41, go_sem, y0, y1, y2]) rfl ⟨_, _, rfl, ⟨fun b => W.heap.size ≤ b ∧ b < W2.heap.size, fun b => ((Bb ≤ b ∧ b ≠ X) ∧ b < w.heap.size) ∨ W2.heap.size ≤ b, fun b hb => by omega, fun b hb => by omega, fun b hb hb' => by omega, RL4.out.far (HO _ _) (fun b hb _ hb' => by omega), RN.out.far (HO _ _) (fun b hb _ hb' => by omega)⟩, HB4.out.trans ((HO _ _).below HB4.out.size (fun b hb => by omega))⟩
  ·have hcc : i + 1 < d := by omega
   go_wp2
   refine but_begin (f := 15) (S := fun V => Below W2.heap.size W2 V) (by kernel_rfl) ?_
   refine but_take (f := 15) (i := 1) (v := ?vf1) rfl (by kernel_rfl) (by kernel_rfl) (by kernel_rfl) (by kernel_rfl) (by kernel_rfl) (fun _ _ _ h => h) (Or.inl ⟨(by rfl), ?hyf1⟩) (Below.drew1 _) ?restf1
   case hyf1 =>
    intro W hW
    go_simp
    exact rfl
   simp only [List.getElem_toArray, List.getElem_cons_succ, List.getElem_cons_zero, Act.put, List.setIfInBounds_toArray, List.set_cons_zero, List.set_cons_succ]
   refine but_take (f := 15) (i := 2) (v := ?vf2) rfl (by kernel_rfl) (by kernel_rfl) (by kernel_rfl) (by kernel_rfl) (by kernel_rfl) (fun _ _ _ h => h) (Or.inl ⟨(by rfl), ?hyf2⟩) (Below.drew1 _) ?restf2
   case hyf2 =>
    intro W hW
    obtain ⟨x0, x1, x2⟩ := box2 (box_on QT2.out hW)
    go_simp
    exact rfl
   simp only [List.getElem_toArray, List.getElem_cons_succ, List.getElem_cons_zero, Act.put, List.setIfInBounds_toArray, List.set_cons_zero, List.set_cons_succ]
   refine but_take (f := 15) (i := 3) (v := ?vf3) rfl (by kernel_rfl) (by kernel_rfl) (by kernel_rfl) (by kernel_rfl) (by kernel_rfl) (fun _ _ _ h => h) (Or.inl ⟨(by rfl), ?hyf3⟩) (Below.drew1 _) ?restf3
   case hyf3 =>
    intro W hW
    go_simp
    exact rfl
   simp only [List.getElem_toArray, List.getElem_cons_succ, List.getElem_cons_zero, Act.put, List.setIfInBounds_toArray, List.set_cons_zero, List.set_cons_succ]
   refine but_take (f := 15) (i := 4) (v := ?vf4) rfl (by kernel_rfl) (by kernel_rfl) (by kernel_rfl) (by kernel_rfl) (by kernel_rfl) (fun _ _ _ h => h) (Or.inl ⟨(by rfl), ?hyf4⟩) (Below.drew1 _) ?restf4
   case hyf4 =>
    intro W hW
    go_simp
    exact rfl
   simp only [List.getElem_toArray, List.getElem_cons_succ, List.getElem_cons_zero, Act.put, List.setIfInBounds_toArray, List.set_cons_zero, List.set_cons_succ]
   refine but_take (f := 15) (i := 6) (v := ?vf6) rfl (by kernel_rfl) (by kernel_rfl) (by kernel_rfl) (by kernel_rfl) (by kernel_rfl) (fun _ _ _ h => h) (Or.inl ⟨(by rfl), ?hyf6⟩) (Below.drew1 _) ?restf6
   case hyf6 =>
    intro W hW
    go_simp
    exact rfl
   simp only [List.getElem_toArray, List.getElem_cons_succ, List.getElem_cons_zero, Act.put, List.setIfInBounds_toArray, List.set_cons_zero, List.set_cons_succ]
   refine but_take (f := 15) (i := 8) (v := ?vf8) rfl (by kernel_rfl) (by kernel_rfl) (by kernel_rfl) (by kernel_rfl) (by kernel_rfl) (fun _ _ _ h => h) (Or.inl ⟨(by rfl), ?hyf8⟩) (Below.drew1 _) ?restf8
   case hyf8 =>
    intro W hW
    go_simp
    exact rfl
   simp only [List.getElem_toArray, List.getElem_cons_succ, List.getElem_cons_zero, Act.put, List.setIfInBounds_toArray, List.set_cons_zero, List.set_cons_succ]
   refine but_take (f := 15) (i := 9) (v := ?vf9) rfl (by kernel_rfl) (by kernel_rfl) (by kernel_rfl) (by kernel_rfl) (by kernel_rfl) (fun _ _ _ h => h) (Or.inl ⟨(by rfl), ?hyf9⟩) (Below.drew1 _) ?restf9
   case hyf9 =>
    intro W hW
    obtain ⟨x0, x1, x2⟩ := box2 (box_on QT2.out hW)
    go_simp
    exact rfl
   simp only [List.getElem_toArray, List.getElem_cons_succ, List.getElem_cons_zero, Act.put, List.setIfInBounds_toArray, List.set_cons_zero, List.set_cons_succ]
   refine but_take (f := 15) (i := 10) (v := ?vf10) rfl (by kernel_rfl) (by kernel_rfl) (by kernel_rfl) (by kernel_rfl) (by kernel_rfl) (fun _ _ _ h => h) (Or.inl ⟨(by rfl), ?hyf10⟩) (Below.drew1 _) ?restf10
   case hyf10 =>
    intro W hW
    go_simp
    exact rfl
   simp only [List.getElem_toArray, List.getElem_cons_succ, List.getElem_cons_zero, Act.put, List.setIfInBounds_toArray, List.set_cons_zero, List.set_cons_succ]
   refine but_take (f := 15) (i := 11) (v := ?vf11) rfl (by kernel_rfl) (by kernel_rfl) (by kernel_rfl) (by kernel_rfl) (by kernel_rfl) (fun _ _ _ h => h) (Or.inl ⟨(by rfl), ?hyf11⟩) (Below.drew1 _) ?restf11
   case hyf11 =>
    intro W hW
    go_simp
    exact rfl
   simp only [List.getElem_toArray, List.getElem_cons_succ, List.getElem_cons_zero, Act.put, List.setIfInBounds_toArray, List.set_cons_zero, List.set_cons_succ]
   refine but_take (f := 15) (i := 12) (v := ?vf12) rfl (by kernel_rfl) (by kernel_rfl) (by kernel_rfl) (by kernel_rfl) (by kernel_rfl) (fun _ _ _ h => h) (Or.inl ⟨(by rfl), ?hyf12⟩) (Below.drew1 _) ?restf12
   case hyf12 =>
    intro W hW
    go_simp
    exact rfl
   simp only [List.getElem_toArray, List.getElem_cons_succ, List.getElem_cons_zero, Act.put, List.setIfInBounds_toArray, List.set_cons_zero, List.set_cons_succ]
   refine but_run (i := 0) (by kernel_rfl) rfl (by rfl) ?_
   simp only [List.getElem_toArray, List.getElem_cons_succ, List.getElem_cons_zero]
   intro K HK
   go_wp2_with fail
   have hSf1 : (fun V => Below W2.heap.size W2 V) (W2.drew.alloc (.cells #[] 62)) := bstep (Below.drew1 _) (bal1 _ _)
   refine HK.out _ _ (fun _ => hSf1) ?_
   clear HK
   have Rf1 := Lib.hid (row_lit W2.drew 62 1)
   refine but_run (i := 5) (by kernel_rfl) rfl (by rfl) ?_
   simp only [List.getElem_toArray, List.getElem_cons_succ, List.getElem_cons_zero]
   intro K HK
   refine operAppN _ (by rfl) (.tmp 26) (.tmp 30) 25 62 1 24 (.agg #[.slice none 0 0]) (by rfl) Tryz.underlying25 (by kernel_rfl) rfl (by omega) (by omega) W2.heap.size (0) _ ([]) (by rfl) Rf1.out (B) (i) (d) (xs.take i) (by rfl) (by rw [List.length_take, HXL.out]; omega) (((HAN.out.on hSf1).takeV i)) (fun u hu => HX1.out u (List.mem_of_mem_take hu)) (by omega) (Nat.le_trans (Nat.le_refl _) (hSf1.size)) ?_
   intro vf2 Vf2 of2 gf2 _ af2
   rw [Nat.zero_add, List.nil_append] at of2
   obtain ⟨Af2, cf2, rfl⟩ := row_form of2
   have hSf2 : (fun V => Below W2.heap.size W2 V) Vf2 := grown_below hSf1 gf2 Rf1.out (Nat.le_refl _)
   refine HK.out _ _ (fun _ => hSf2) ?_
   clear HK
   have Rf2 := Lib.hid of2
   clear of2
   simp only [List.getElem_toArray, List.getElem_cons_succ, List.getElem_cons_zero, Act.put, List.setIfInBounds_toArray, List.set_cons_zero, List.set_cons_succ]
   refine but_run (i := 7) (by kernel_rfl) rfl (by rfl) ?_
   simp only [List.getElem_toArray, List.getElem_cons_succ, List.getElem_cons_zero]
   intro K HK
   refine operAppN _ (by rfl) (.tmp 31) (.tmp 32) 25 62 1 24 (.agg #[.slice none 0 0]) (by rfl) Tryz.underlying25 (by kernel_rfl) rfl (by omega) (by omega) W2.heap.size (i) _ (xs.take i) (by rfl) Rf2.out (An) (nds.length) (cn) (us) (by rfl) (by rw [HUS.out]; omega) (HSN.out.on hSf2) (HU1.out) (by omega) (Nat.le_trans (Nat.le_refl _) (hSf2.size)) ?_
   intro vf3 Vf3 of3 gf3 _ af3
   obtain ⟨Af3, cf3, rfl⟩ := row_form of3
   have hSf3 : (fun V => Below W2.heap.size W2 V) Vf3 := grown_below hSf2 gf3 Rf2.out (Nat.le_refl _)
   refine HK.out _ _ (fun _ => hSf3) ?_
   clear HK
   have Rf3 := Lib.hid of3
   clear of3
   simp only [List.getElem_toArray, List.getElem_cons_succ, List.getElem_cons_zero, Act.put, List.setIfInBounds_toArray, List.set_cons_zero, List.set_cons_succ]
   refine but_run (i := 13) (by kernel_rfl) rfl (by rfl) ?_
   simp only [List.getElem_toArray, List.getElem_cons_succ, List.getElem_cons_zero]
   intro K HK
   refine operAppN _ (by rfl) (.tmp 33) (.tmp 38) 25 62 1 24 (.agg #[.slice none 0 0]) (by rfl) Tryz.underlying25 (by kernel_rfl) rfl (by omega) (by omega) W2.heap.size (i + nds.length) _ (xs.take i ++ us) (by rfl) Rf3.out (_) (ts.length - (i + 1)) (_) (xs.drop (i + 1)) (by rfl) (by rw [List.length_drop, HXL.out]; omega) ((by have h := At.tailV (c := d) (j := i + 1) (HAN.out.on hSf3) (by rw [HXL.out]; omega); unfold tailA at h; rw [if_neg hcN] at h; exact h)) (fun u hu => HX1.out u (List.mem_of_mem_drop hu)) (by omega) (Nat.le_trans (Nat.le_refl _) (hSf3.size)) ?_
   intro vf4 Vf4 of4 gf4 _ af4
   rw [← HLN.out] at of4
   obtain ⟨o0, o1, o2⟩ := box2 (box_on QO2.out (grown_below hSf3 gf4 Rf3.out (Nat.le_refl _)))
   obtain ⟨Af4, cf4, rfl⟩ := row_form of4
   have hSf4 : (fun V => Below W2.heap.size W2 V) Vf4 := grown_below hSf3 gf4 Rf3.out (Nat.le_refl _)
   refine HK.out _ _ (fun _ => hSf4) ?_
   clear HK
   have Rf4 := Lib.hid of4
   clear of4
   simp only [List.getElem_toArray, List.getElem_cons_succ, List.getElem_cons_zero, Act.put, List.setIfInBounds_toArray, List.set_cons_zero, List.set_cons_succ]
   refine but_take (f := 15) (i := 14) (v := ?vf14) rfl (by kernel_rfl) (by kernel_rfl) (by kernel_rfl) (by kernel_rfl) (by kernel_rfl) (fun _ _ _ h => h) (Or.inl ⟨(by rfl), ?hyf14⟩) hSf4 ?restf14
   case hyf14 =>
    intro W hW
    go_simp
    exact rfl
   simp only [List.getElem_toArray, List.getElem_cons_succ, List.getElem_cons_zero, Act.put, List.setIfInBounds_toArray, List.set_cons_zero, List.set_cons_succ]
   refine but_run (i := 15) (by kernel_rfl) rfl (by rfl) ?_
   simp only [List.getElem_toArray, List.getElem_cons_succ, List.getElem_cons_zero]
   intro K HK
   go_wp2_with fail
   refine HK.out _ _ (fun h => absurd rfl h) ?_
   clear HK
   refine but_done (by kernel_rfl) ?_
   have hW4 : Below W2.heap.size W2 Vf4 := hSf4
   have hs4 := hW4.size
   have QR4 := Lib.hid (box_far (g := w.heap.size + 1 + 1) (j := 1) (u := .slice Af4 rn.length cf4) (box_on QR2.out hW4) (by omega))
   have QO4 : Hid ((Vf4.setCell ⟨w.heap.size + 1 + 1, 1, none⟩ (.slice Af4 rn.length cf4)).heap[w.heap.size + 1 + 1]? = some (.cells #[.slice Ak rl.length ck, .slice Af4 rn.length cf4] 27 (0, 0))) := Lib.hid (box_set (i := 1) (u := .slice Af4 rn.length cf4) (box_on QO2.out hW4))
   have HB4 := Lib.hid ((HB2.out.trans (hW4.mono HB2.out.size)).setCell (p := ⟨w.heap.size + 1 + 1, 1, none⟩) (show w.heap.size ≤ w.heap.size + 1 + 1 by omega) (.slice Af4 rn.length cf4))
   have HON : Hid (OwnsL Vf4 (fun b => (Bb ≤ b ∧ b ≠ X) ∧ b < w.heap.size) (xs.take i ++ us ++ xs.drop (i + 1)) (rn.map setsD)) := Lib.hid (by rw [HM2.out]; exact HOS.out.on (HB2.out.trans (hW4.mono HB2.out.size)))
   have RN := Lib.hid ((row_nodes Rf4.out HON.out (by omega)).keep (w' := Vf4.setCell ⟨w.heap.size + 1 + 1, 1, none⟩ (.slice Af4 rn.length cf4)) (fun b hb _ => Below.heap_setCell _ _ _ _ (by simp; omega)))
   have RL4 := Lib.hid ((RL.out.on hW4).keep (w' := Vf4.setCell ⟨w.heap.size + 1 + 1, 1, none⟩ (.slice Af4 rn.length cf4)) (fun b hb _ => Below.heap_setCell _ _ _ _ (by have := hb.1; simp; omega)))
   go_upto_region 4 with (fail)
   clear QT2 QR2 QO2 HB2 o0 o1 o2 HAN HSN RL HON HOS
   generalize Vf4.setCell ⟨w.heap.size + 1 + 1, 1, none⟩ (.slice Af4 rn.length cf4) = W4 at *
   obtain ⟨x0, x1, x2⟩ := box2 QO4.out
   obtain ⟨y0, y1, y2⟩ := box2 QR4.out
   go_wp2
   have HO : ∀ a b, Only (fun b => b = w.heap.size + 1) W4 ((W4.setCell ⟨w.heap.size + 1, 0, none⟩ a).setCell ⟨w.heap.size + 1, 1, none⟩ b) := fun a b => only_two _ _ _ _ _ _
   exact bodyPost_ret (v := .agg #[.slice Ak rl.length ck, .slice Af4 rn.length cf4]) (by simp [results, Tryz.results41, go_sem, y0, y1, y2]) rfl ⟨_, _, rfl, ⟨fun b => W.heap.size ≤ b ∧ b < W2.heap.size, fun b => ((Bb ≤ b ∧ b ≠ X) ∧ b < w.heap.size) ∨ W2.heap.size ≤ b, fun b hb => by omega, fun b hb => by omega, fun b hb hb' => by omega, RL4.out.far (HO _ _) (fun b hb _ hb' => by omega), RN.out.far (HO _ _) (fun b hb _ hb' => by omega)⟩, HB4.out.trans ((HO _ _).below HB4.out.size (fun b hb => by omega))⟩
end Go.Proofs.YthopkhpiikiknaaGreat
namespace Go.Proofs.YthopkhpiikiknaaGreat
open Go.RowKit
set_option maxRecDepth 100000
set_option linter.unusedSimpArgs false
set_option linter.unusedVariables false
/-- Between two rounds of spec.l6Join. -/
def JoinR (w : World) (Bb X : Nat) (J : TreeD) (wr : World) (q : Value) : Prop := ∃ (lo : List Int) (ts : List NodeD) (A : Option Addr) (c : Nat) (B : Option Addr) (d : Nat), q = .int .i64 (pairK ts) ∧ wr.heap[w.heap.size]? = some (.cells #[.slice A lo.length c, .slice B ts.length d] 27 (0, 0)) ∧ wr.heap[w.heap.size + 1]? = some (.cells #[.slice none 0 0, .slice none 0 0] 27) ∧
 TreeS wr (fun b => (Bb ≤ b ∧ b ≠ X) ∧ b ≠ w.heap.size ∧ b ≠ w.heap.size + 1) (.slice A lo.length c) (.slice B ts.length d) lo ts ∧ joinK (lo, ts) = J ∧ lo.length = ts.length ∧ ts.length ≤ 1048576 ∧ sumT ts ≤ 1048576 ∧ Below w.heap.size w wr
def lenN1 (q : Nat) (wr : World) : Nat := match wr.cell? ⟨q, 1, none⟩ with | some (.slice _ n _) => n | _ => 0
theorem lenN1_box {w : World} {q : Nat} {a : Value} {A : Option Addr} {n m : Nat} {t : TypeId} (h : w.heap[q]? = some (.cells #[a, .slice A n m] t (0, 0))) : lenN1 q w = n := by
 unfold lenN1; rw [(box2 h).2.1]
theorem joinAt_sum (t : TreeD) (i : Nat) (h : i + 1 < t.2.length) : sumT (joinAt t i).2 ≤ sumT t.2 := by
 have e : t.2 = t.2.take i ++ ([t.2[i], t.2[i + 1]] ++ t.2.drop (i + 2)) := by
  conv => lhs; rw [← List.take_append_drop i t.2]
  rw [List.drop_eq_getElem_cons (show i < t.2.length by omega), List.drop_eq_getElem_cons h]
  rfl
 have h1 : sumT t.2 = sumT (t.2.take i) + ((t.2[i].length + sumN t.2[i]) + (t.2[i + 1].length + sumN t.2[i + 1]) + sumT (t.2.drop (i + 2))) := by
  conv => lhs; rw [e]
  rw [sumT_append, sumT_append]
  simp only [sumT_cons, sumT_nil]
  omega
 unfold joinAt setL
 simp only [sumT_append, sumT_cons, sumT_nil]
 rw [getD_node (show i < t.2.length by omega), getD_node h, sum_new, List.length_append]
 have h2 := nodeKeys_len t.2[i]
 have h3 := nodeKeys_len t.2[i + 1]
 have h4 : (nodeNewK (nodeKeysK t.2[i] ++ nodeKeysK t.2[i + 1])).length ≤ t.2[i].length + t.2[i + 1].length := by
  unfold nodeNewK
  split
  ·simp
  ·rename_i hne
   simp only [List.length_append] at hne
   have : t.2[i] ≠ [] ∨ t.2[i + 1] ≠ [] := by
    by_cases ha : t.2[i] = []
    ·refine .inr (fun hb => hne ?_)
     rw [ha, hb]; rfl
    ·exact .inl ha
   rcases this with h | h
   ·have := List.length_pos_iff.2 h; simp; omega
   ·have := List.length_pos_iff.2 h; simp; omega
 omega
/-- Between the two rows that a round of spec.l6Join lays. -/
def JoinMid (V4 : World) (rl : List Int) (wx : World) : Prop := ∃ Ak ck, wx.heap[V4.heap.size]? = some (.cells #[.slice Ak rl.length ck, .slice none 0 0] 27 (0, 0)) ∧ Below V4.heap.size V4 wx ∧ Owns wx (fun b => V4.heap.size < b ∧ b < wx.heap.size) (.slice Ak rl.length ck) (intsD rl) ∧ V4.heap.size + 1 ≤ wx.heap.size
def JoinEnd (w V4 : World) (Bb X : Nat) (rl : List Int) (rn : List NodeD) (wx : World) : Prop := ∃ Ak ck An cn, wx.heap[V4.heap.size]? = some (.cells #[.slice Ak rl.length ck, .slice An rn.length cn] 27 (0, 0)) ∧ Below V4.heap.size V4 wx ∧ TreeS wx (fun b => (Bb ≤ b ∧ b ≠ X) ∧ b ≠ w.heap.size ∧ b ≠ w.heap.size + 1) (.slice Ak rl.length ck) (.slice An rn.length cn) rl rn
set_option maxHeartbeats 32000000 in
theorem l6Join_any (vl vn : Value) (lo : List Int) (ts : List NodeD) (Bb X : Nat) (w : World) (hv : TreeS w (fun b => Bb ≤ b ∧ b ≠ X) vl vn lo ts) (hX : X < w.heap.size) (hlen : lo.length = ts.length) (hn : ts.length ≤ 1048576) (hs : sumT ts ≤ 1048576) (hBb : Bb ≤ w.heap.size) :
  Calls Tryz.prog 47 #[.agg #[vl, vn]] w (MakesT w Bb X (joinK (lo, ts)).1 (joinK (lo, ts)).2) := by
 obtain ⟨J, hJ⟩ : ∃ J, joinK (lo, ts) = J := ⟨_, rfl⟩
 rw [hJ]
 obtain ⟨A, c, B, d, rfl, rfl⟩ := hv.reads.shape
 have hb2 := bal2 w (.cells #[.slice A lo.length c, .slice B ts.length d] 27) (.cells #[.slice none 0 0, .slice none 0 0] 27)
 obtain ⟨q0, q1⟩ := al2 w (.cells #[.slice A lo.length c, .slice B ts.length d] 27) (.cells #[.slice none 0 0, .slice none 0 0] 27)
 have HV := Lib.hid (hv.lt.on hb2)
 have HB := Lib.hid hb2
 have Q0 := Lib.hid q0
 have Q1 := Lib.hid q1
 have HJ := Lib.hid hJ
 have HLEN := Lib.hid hlen
 clear hv hb2 q0 q1 hJ hlen
 go_enter Tryz.func47, Tryz.ntmps47
 go_upto_region 1 with (fail)
 generalize (w.alloc (.cells #[.slice A lo.length c, .slice B ts.length d] 27)).alloc (.cells #[.slice none 0 0, .slice none 0 0] 27) = W at *
 obtain ⟨x0, x1, x2⟩ := box2 Q0.out
 go_wp2_with fail
 refine (l6Pair_any _ _ lo ts _ HV.out.reads (by omega) (by omega)).mono ?_
 rintro e w1 ⟨rfl, b1⟩
 have REL : Hid (JoinR w Bb X J w1 (.int .i64 (pairK ts))) := Lib.hid ⟨lo, ts, A, c, B, d, rfl, box_on Q0.out b1, box_on Q1.out b1, (HV.out.on b1).mono (fun b hb => ⟨hb.1, by omega, by omega⟩), HJ.out, HLEN.out, hn, hs, bstep HB.out b1⟩
 clear x0 x1 x2 b1 Q0 Q1 HV HB HLEN HJ
 go_wp2
 go_loopw [3] (fun q wr => Hid (JoinR w Bb X J wr q)) (fun _ wr => lenN1 w.heap.size wr)
 case atStart => exact REL
 case round =>
  clear REL hn hs
  obtain ⟨lo, ts, A, c, B, d, rfl, q0, q1, hv, hJ, hlen, hn, hs, hb⟩ := hrel.out
  rcases pair_spec ts with ⟨hp, _⟩ | ⟨i, hp, hlt, hfew, _⟩
  ·rw [hp]
   have hj := join_done (t := (lo, ts)) hp
   rw [hJ] at hj
   have HJ : Hid (J.1 = lo ∧ J.2 = ts) := Lib.hid ⟨by rw [hj], by rw [hj]⟩
   obtain ⟨x0, x1, x2⟩ := box2 q0
   obtain ⟨y0, y1, y2⟩ := box2 q1
   have HV := Lib.hid hv
   have HB := Lib.hid hb
   clear hj hJ hv hb q0 q1 hp hrel hlen
   go_wp2
   have HO : ∀ a b, Only (fun b => b = w.heap.size + 1) wr ((wr.setCell ⟨w.heap.size + 1, 0, none⟩ a).setCell ⟨w.heap.size + 1, 1, none⟩ b) := fun a b => only_two _ _ _ _ _ _
   refine bodyPost_ret (v := .agg #[.slice A lo.length c, .slice B ts.length d]) (by simp [results, Tryz.results47, go_sem, y0, y1, y2]) rfl ⟨_, _, rfl, ?_, HB.out.trans ((HO _ _).below HB.out.size (fun b hb => by omega))⟩
   rw [HJ.out.1, HJ.out.2]
   exact (HV.out.keep (fun b hb hl => (HO _ _).block b hl (fun e => hb.2.2 e))).mono (fun b hb => hb.1)
  ·have hj := join_step (t := (lo, ts)) hp
   rw [hJ] at hj
   have hjs := joinAt_sum (lo, ts) i hlt
   have hjl := joinAt_len (lo, ts) i hlt
   rw [hp]
   have hltL : i + 1 < lo.length := by omega
   have hii : i < ts.length := by omega
   obtain ⟨K1, hK1⟩ : ∃ K, nodeKeysK ts[i] = K := ⟨_, rfl⟩
   obtain ⟨K2, hK2⟩ : ∃ K, nodeKeysK ts[i + 1] = K := ⟨_, rfl⟩
   have hja : joinAt (lo, ts) i = (lo.take (i + 1) ++ lo.drop (i + 2), setL ts i [nodeNewK (K1 ++ K2)] (i + 2)) := by
    unfold joinAt
    rw [getD_node (show i < ts.length by omega), getD_node hlt, hK1, hK2]
   have HLE : Hid ((lo.take (i + 1) ++ lo.drop (i + 2)).length = i + 1 + (lo.length - (i + 2))) := Lib.hid (by simp; omega)
   have HLN : Hid ((setL ts i [nodeNewK (K1 ++ K2)] (i + 2)).length = i + 1 + (ts.length - (i + 2))) := Lib.hid (by unfold setL; simp; omega)
   have HM1 : Hid ((lo.take (i + 1) ++ lo.drop (i + 2)).map iV = (lo.map iV).take (i + 1) ++ (lo.map iV).drop (i + 2)) := Lib.hid (by simp [List.map_take, List.map_drop])
   have HM2 := Lib.hid (set_map setsD ts i [nodeNewK (K1 ++ K2)] (i + 2))
   rw [hja] at hj hjs hjl
   have HJ2 := Lib.hid hj.symm
   have HJS := Lib.hid hjs
   have HJL := Lib.hid hjl
   have HEQ : Hid ((lo.take (i + 1) ++ lo.drop (i + 2)).length = (setL ts i [nodeNewK (K1 ++ K2)] (i + 2)).length) := Lib.hid (by rw [HLE.out, HLN.out, hlen])
   generalize lo.take (i + 1) ++ lo.drop (i + 2) = rl at *
   generalize setL ts i [nodeNewK (K1 ++ K2)] (i + 2) = rn at *
   obtain ⟨KK, hKK⟩ : ∃ KK, K1 ++ K2 = KK := ⟨_, rfl⟩
   have hkl : KK.length = K1.length + K2.length := by rw [← hKK, List.length_append]
   have HKK := Lib.hid hKK
   have hkl1 := Nat.le_of_eq hkl
   rw [hKK] at HM2
   clear hKK hkl
   have hk1 := nodeKeys_len ts[i]
   have hk2 := nodeKeys_len ts[i + 1]
   have hl1 := sumT_mem (List.getElem_mem (show i < ts.length by omega))
   have hl2 := sumT_mem (List.getElem_mem hlt)
   rw [hK1] at hk1
   rw [hK2] at hk2
   have hf6 := (few_iff _ _).1 hfew
   rw [hK1, hK2] at hf6
   have HK1 := Lib.hid hK1
   have HK2 := Lib.hid hK2
   obtain ⟨P, Q, hP, hQ, hPQ, hvl, hvn⟩ := hv
   have hcl := hvl.lenC
   have HAL := Lib.hid hvl.reads.atI
   obtain ⟨xs, hxa, hxl, hxo, hx1, hcn⟩ := hvn.nodeCells
   have HXA := Lib.hid hxa
   have HXL := Lib.hid hxl
   have HXO := Lib.hid hxo.lt
   have HX1 := Lib.hid hx1
   have HI1 := Lib.hid (one_iV lo)
   have HQ := Lib.hid hQ
   obtain ⟨b, off, hBe, hbb, hc⟩ := hvn.reads.node hlt
   subst hBe
   obtain ⟨Aa, da, e1, _, _, r1⟩ := hc i hii
   obtain ⟨Ab, db, e2, _, _, r2⟩ := hc (i + 1) hlt
   have R1 := Lib.hid r1
   have R2 := Lib.hid r2
   have E1 := Lib.hid e1
   have E2 := Lib.hid e2
   have QW := Lib.hid q0
   have Q1 := Lib.hid q1
   have HB := Lib.hid hb
   have hwr : w.heap.size + 1 < wr.heap.size := (Array.getElem?_eq_some_iff.1 q1).1
   have h2a := Nat.le_of_eq hlen
   have h2b := Nat.le_of_eq hlen.symm
   have HD := Lib.hid (lenN1_box q0)
   have i1 : (i : Int) + 1 < (ts.length : Int) := by omega
   have i2 : (0 : Int) ≤ (i : Int) := by omega
   have i3 : (0 : Int) ≤ (i : Int) + 1 := by omega
   have i4 : (i : Int) < (ts.length : Int) := by omega
   have i5 : ((i : Int) + 1).toNat = i + 1 := by omega
   have i6 : IntKind.i64.wrap ((i : Int) + 1) = (i : Int) + 1 := by rw [IntKind.wrap_i64]; omega
   have i7 : IntKind.i64.wrap ((i : Int) + 2) = (i : Int) + 2 := by rw [IntKind.wrap_i64]; omega
   have i8 : (i : Int) + 1 ≤ (c : Int) := by omega
   have i9 : (i : Int) + 2 ≤ (lo.length : Int) := by omega
   have i10 : (0 : Int) ≤ (i : Int) + 2 := by omega
   have i11 : ((i : Int) + 2).toNat = i + 2 := by omega
   have i12 : (i : Int) + 2 ≤ (ts.length : Int) := by omega
   have i13 : (i : Int) ≤ (d : Int) := by omega
   have i14 : (i : Int) + 1 ≤ (i : Int) + 2 := by omega
   have i15 : (i : Int) ≤ (i : Int) + 2 := by omega
   clear hrel hj hja hjs hjl hJ hlen hb q0 q1 hvl hvn hxa hxl hxo hx1 hQ hc r1 r2 e1 e2 hP hPQ hK1 hK2 hp hfew
   obtain ⟨x0, x1, x2⟩ := box2 QW.out
   go_wp2
   clear x0 x1 x2
   refine but_begin (f := 14) (S := fun V => Below wr.heap.size wr V) (by kernel_rfl) ?_
   refine but_take (f := 14) (i := 0) (v := ?vj0) rfl (by kernel_rfl) (by kernel_rfl) (by kernel_rfl) (by kernel_rfl) (by kernel_rfl) (fun _ _ _ h => h) (Or.inl ⟨(by rfl), ?hyj0⟩) (Below.drew1 _) ?restj0
   case hyj0 =>
    intro W hW
    go_simp
    exact rfl
   simp only [List.getElem_toArray, List.getElem_cons_succ, List.getElem_cons_zero, Act.put, List.setIfInBounds_toArray, List.set_cons_zero, List.set_cons_succ]
   refine but_take (f := 14) (i := 1) (v := ?vj1) rfl (by kernel_rfl) (by kernel_rfl) (by kernel_rfl) (by kernel_rfl) (by kernel_rfl) (fun _ _ _ h => h) (Or.inl ⟨(by rfl), ?hyj1⟩) (Below.drew1 _) ?restj1
   case hyj1 =>
    intro W hW
    obtain ⟨x0, x1, x2⟩ := box2 (box_on QW.out hW)
    go_simp
    exact rfl
   simp only [List.getElem_toArray, List.getElem_cons_succ, List.getElem_cons_zero, Act.put, List.setIfInBounds_toArray, List.set_cons_zero, List.set_cons_succ]
   refine but_take (f := 14) (i := 2) (v := ?vj2) rfl (by kernel_rfl) (by kernel_rfl) (by kernel_rfl) (by kernel_rfl) (by kernel_rfl) (fun _ _ _ h => h) (Or.inl ⟨(by rfl), ?hyj2⟩) (Below.drew1 _) ?restj2
   case hyj2 =>
    intro W hW
    go_simp
    exact rfl
   simp only [List.getElem_toArray, List.getElem_cons_succ, List.getElem_cons_zero, Act.put, List.setIfInBounds_toArray, List.set_cons_zero, List.set_cons_succ]
   refine but_take (f := 14) (i := 3) (v := ?vj3) rfl (by kernel_rfl) (by kernel_rfl) (by kernel_rfl) (by kernel_rfl) (by kernel_rfl) (fun _ _ _ h => h) (Or.inl ⟨(by rfl), ?hyj3⟩) (Below.drew1 _) ?restj3
   case hyj3 =>
    intro W hW
    go_simp
    exact rfl
   simp only [List.getElem_toArray, List.getElem_cons_succ, List.getElem_cons_zero, Act.put, List.setIfInBounds_toArray, List.set_cons_zero, List.set_cons_succ]
   refine but_take (f := 14) (i := 4) (v := ?vj4) rfl (by kernel_rfl) (by kernel_rfl) (by kernel_rfl) (by kernel_rfl) (by kernel_rfl) (fun _ _ _ h => h) (Or.inl ⟨(by rfl), ?hyj4⟩) (Below.drew1 _) ?restj4
   case hyj4 =>
    intro W hW
    have e1 := (hW.cell (p := ⟨b, off + i, none⟩) hbb).trans E1.out
    have e2 := (hW.cell (p := ⟨b, off + (i + 1), none⟩) hbb).trans E2.out
    go_simp
    exact rfl
   simp only [List.getElem_toArray, List.getElem_cons_succ, List.getElem_cons_zero, Act.put, List.setIfInBounds_toArray, List.set_cons_zero, List.set_cons_succ]
   refine but_take (f := 14) (i := 6) (v := ?vj6) rfl (by kernel_rfl) (by kernel_rfl) (by kernel_rfl) (by kernel_rfl) (by kernel_rfl) (fun _ _ _ h => h) (Or.inl ⟨(by rfl), ?hyj6⟩) (Below.drew1 _) ?restj6
   case hyj6 =>
    intro W hW
    go_simp
    exact rfl
   simp only [List.getElem_toArray, List.getElem_cons_succ, List.getElem_cons_zero, Act.put, List.setIfInBounds_toArray, List.set_cons_zero, List.set_cons_succ]
   refine but_take (f := 14) (i := 7) (v := ?vj7) rfl (by kernel_rfl) (by kernel_rfl) (by kernel_rfl) (by kernel_rfl) (by kernel_rfl) (fun _ _ _ h => h) (Or.inl ⟨(by rfl), ?hyj7⟩) (Below.drew1 _) ?restj7
   case hyj7 =>
    intro W hW
    obtain ⟨x0, x1, x2⟩ := box2 (box_on QW.out hW)
    go_simp
    exact rfl
   simp only [List.getElem_toArray, List.getElem_cons_succ, List.getElem_cons_zero, Act.put, List.setIfInBounds_toArray, List.set_cons_zero, List.set_cons_succ]
   refine but_take (f := 14) (i := 8) (v := ?vj8) rfl (by kernel_rfl) (by kernel_rfl) (by kernel_rfl) (by kernel_rfl) (by kernel_rfl) (fun _ _ _ h => h) (Or.inl ⟨(by rfl), ?hyj8⟩) (Below.drew1 _) ?restj8
   case hyj8 =>
    intro W hW
    go_simp
    exact rfl
   simp only [List.getElem_toArray, List.getElem_cons_succ, List.getElem_cons_zero, Act.put, List.setIfInBounds_toArray, List.set_cons_zero, List.set_cons_succ]
   refine but_take (f := 14) (i := 9) (v := ?vj9) rfl (by kernel_rfl) (by kernel_rfl) (by kernel_rfl) (by kernel_rfl) (by kernel_rfl) (fun _ _ _ h => h) (Or.inl ⟨(by rfl), ?hyj9⟩) (Below.drew1 _) ?restj9
   case hyj9 =>
    intro W hW
    go_simp
    exact rfl
   simp only [List.getElem_toArray, List.getElem_cons_succ, List.getElem_cons_zero, Act.put, List.setIfInBounds_toArray, List.set_cons_zero, List.set_cons_succ]
   refine but_take (f := 14) (i := 10) (v := ?vj10) rfl (by kernel_rfl) (by kernel_rfl) (by kernel_rfl) (by kernel_rfl) (by kernel_rfl) (fun _ _ _ h => h) (Or.inl ⟨(by rfl), ?hyj10⟩) (Below.drew1 _) ?restj10
   case hyj10 =>
    intro W hW
    go_simp
    exact rfl
   simp only [List.getElem_toArray, List.getElem_cons_succ, List.getElem_cons_zero, Act.put, List.setIfInBounds_toArray, List.set_cons_zero, List.set_cons_succ]
   refine but_take (f := 14) (i := 11) (v := ?vj11) rfl (by kernel_rfl) (by kernel_rfl) (by kernel_rfl) (by kernel_rfl) (by kernel_rfl) (fun _ _ _ h => h) (Or.inl ⟨(by rfl), ?hyj11⟩) (Below.drew1 _) ?restj11
   case hyj11 =>
    intro W hW
    have e1 := (hW.cell (p := ⟨b, off + i, none⟩) hbb).trans E1.out
    have e2 := (hW.cell (p := ⟨b, off + (i + 1), none⟩) hbb).trans E2.out
    go_simp
    exact rfl
   simp only [List.getElem_toArray, List.getElem_cons_succ, List.getElem_cons_zero, Act.put, List.setIfInBounds_toArray, List.set_cons_zero, List.set_cons_succ]
   refine but_run (i := 5) (by kernel_rfl) rfl (by rfl) ?_
   simp only [List.getElem_toArray, List.getElem_cons_succ, List.getElem_cons_zero]
   intro K HK
   go_wp2_with fail
   refine (specNodeKeys_any _ ts[i] _ (R1.out.on (Below.drew1 _)) (by omega) (by omega)).mono ?_
   rintro r Vj1 ⟨va, rfl, oa, hbj1⟩
   rw [HK1.out] at oa
   obtain ⟨A1, c1, rfl, _, _⟩ := oa.shape
   go_wp2_with fail
   have hSj1 : (fun V => Below wr.heap.size wr V) Vj1 := bstep (Below.drew1 _) hbj1
   refine HK.out _ _ (fun _ => hSj1) ?_
   clear HK
   have OA := Lib.hid (oa.mono (base' := wr.heap.size) ((Below.drew1 _)).size)
   clear oa
   refine but_run (i := 12) (by kernel_rfl) rfl (by rfl) ?_
   simp only [List.getElem_toArray, List.getElem_cons_succ, List.getElem_cons_zero]
   intro K HK
   go_wp2_with fail
   refine (specNodeKeys_any _ ts[i + 1] _ (R2.out.on hSj1) (by omega) (by omega)).mono ?_
   rintro r Vj2 ⟨vb, rfl, ob, hbj2⟩
   rw [HK2.out] at ob
   obtain ⟨A2, c2, rfl, _, _⟩ := ob.shape
   go_wp2_with fail
   have hSj2 : (fun V => Below wr.heap.size wr V) Vj2 := bstep hSj1 hbj2
   refine HK.out _ _ (fun _ => hSj2) ?_
   clear HK
   replace OA := Lib.hid (OA.out.on hbj2)
   have AB := Lib.hid ob.owns.reads.atK
   clear ob
   refine but_run (i := 13) (by kernel_rfl) rfl (by rfl) ?_
   simp only [List.getElem_toArray, List.getElem_cons_succ, List.getElem_cons_zero]
   intro K HK
   refine operAppN _ (by rfl) (.tmp 17) (.tmp 24) 36 29 5 40 (.agg #[.int .i64 0, .int .i64 0, .int .i64 0, .int .i64 0, .int .i64 0]) (by rfl) Tryz.underlying36 (by kernel_rfl) rfl (by omega) (by omega) wr.heap.size K1.length _ (kvl K1) (by rfl) OA.out A2 K2.length c2 (kvl K2) (by rfl) (kvl_len _) AB.out (kvl_cells _) (by omega) hSj2.size ?_
   intro vj3 Vj3 oj3 gj3 _ aj3
   have hgbj3 := grown_below hSj2 gj3 OA.out (Nat.le_refl _)
   have OK : RowK Vj3 wr.heap.size vj3 KK := by
    rw [← HKK.out]
    unfold RowK
    rw [List.length_append, kvl_append]
    exact oj3
   obtain ⟨Aj3, cj3, rfl, _, _⟩ := OK.shape
   have hSj3 : (fun V => Below wr.heap.size wr V) Vj3 := hgbj3
   refine HK.out _ _ (fun _ => hSj3) ?_
   clear HK
   have OKK := Lib.hid OK
   clear OK oj3 OA AB
   simp only [List.getElem_toArray, List.getElem_cons_succ, List.getElem_cons_zero, Act.put, List.setIfInBounds_toArray, List.set_cons_zero, List.set_cons_succ]
   refine but_run (i := 14) (by kernel_rfl) rfl (by rfl) ?_
   simp only [List.getElem_toArray, List.getElem_cons_succ, List.getElem_cons_zero]
   intro K HK
   go_wp2_with fail
   refine HK.out _ _ (fun h => absurd rfl h) ?_
   clear HK
   refine but_done (by kernel_rfl) ?_
   have B4 : Below wr.heap.size wr Vj3 := hSj3
   have V4z := B4.size
   have QZ := Lib.hid (al1 Vj3 (.cells #[.slice none 0 0, .slice none 0 0] 27))
   have BZ := Lib.hid (bal1 Vj3 (.cells #[.slice none 0 0, .slice none 0 0] 27))
   have HBW := Lib.hid B4
   have hz5 : (Vj3.alloc (.cells #[.slice none 0 0, .slice none 0 0] 27)).heap.size = Vj3.heap.size + 1 := by simp
   have HZ5 := Lib.hid hz5
   clear hz5 B4
   go_upto_region 6 with (fail)
   obtain ⟨V4, rfl⟩ : ∃ V, V = Vj3 := ⟨_, rfl⟩
   have QT5 := Lib.hid (box_on (box_on QW.out HBW.out) BZ.out)
   generalize V4.alloc (.cells #[.slice none 0 0, .slice none 0 0] 27) = W5 at *
   have hy1 := Nat.le_of_eq HZ5.out
   have hy2 := Nat.le_of_eq HZ5.out.symm
   have HAT := Lib.hid ((HAL.out.on HBW.out).on BZ.out)
   go_cut [39] (fun _ wx => Hid (JoinMid V4 rl wx))
   case first =>
    by_cases hcN : c = i + 2
    ·subst hcN
     refine but_begin (f := 14) (S := fun V => Below W5.heap.size W5 V) (by kernel_rfl) ?_
     refine but_take (f := 14) (i := 1) (v := ?vp1) rfl (by kernel_rfl) (by kernel_rfl) (by kernel_rfl) (by kernel_rfl) (by kernel_rfl) (fun _ _ _ h => h) (Or.inl ⟨(by rfl), ?hyp1⟩) (Below.drew1 _) ?restp1
     case hyp1 =>
      intro W hW
      go_simp
      exact rfl
     simp only [List.getElem_toArray, List.getElem_cons_succ, List.getElem_cons_zero, Act.put, List.setIfInBounds_toArray, List.set_cons_zero, List.set_cons_succ]
     refine but_take (f := 14) (i := 2) (v := ?vp2) rfl (by kernel_rfl) (by kernel_rfl) (by kernel_rfl) (by kernel_rfl) (by kernel_rfl) (fun _ _ _ h => h) (Or.inl ⟨(by rfl), ?hyp2⟩) (Below.drew1 _) ?restp2
     case hyp2 =>
      intro W hW
      obtain ⟨x0, x1, x2⟩ := box2 (box_on QT5.out hW)
      go_simp
      exact rfl
     simp only [List.getElem_toArray, List.getElem_cons_succ, List.getElem_cons_zero, Act.put, List.setIfInBounds_toArray, List.set_cons_zero, List.set_cons_succ]
     refine but_take (f := 14) (i := 3) (v := ?vp3) rfl (by kernel_rfl) (by kernel_rfl) (by kernel_rfl) (by kernel_rfl) (by kernel_rfl) (fun _ _ _ h => h) (Or.inl ⟨(by rfl), ?hyp3⟩) (Below.drew1 _) ?restp3
     case hyp3 =>
      intro W hW
      go_simp
      exact rfl
     simp only [List.getElem_toArray, List.getElem_cons_succ, List.getElem_cons_zero, Act.put, List.setIfInBounds_toArray, List.set_cons_zero, List.set_cons_succ]
     refine but_take (f := 14) (i := 4) (v := ?vp4) rfl (by kernel_rfl) (by kernel_rfl) (by kernel_rfl) (by kernel_rfl) (by kernel_rfl) (fun _ _ _ h => h) (Or.inl ⟨(by rfl), ?hyp4⟩) (Below.drew1 _) ?restp4
     case hyp4 =>
      intro W hW
      go_simp
      exact rfl
     simp only [List.getElem_toArray, List.getElem_cons_succ, List.getElem_cons_zero, Act.put, List.setIfInBounds_toArray, List.set_cons_zero, List.set_cons_succ]
     refine but_take (f := 14) (i := 5) (v := ?vp5) rfl (by kernel_rfl) (by kernel_rfl) (by kernel_rfl) (by kernel_rfl) (by kernel_rfl) (fun _ _ _ h => h) (Or.inl ⟨(by rfl), ?hyp5⟩) (Below.drew1 _) ?restp5
     case hyp5 =>
      intro W hW
      go_simp
      exact rfl
     simp only [List.getElem_toArray, List.getElem_cons_succ, List.getElem_cons_zero, Act.put, List.setIfInBounds_toArray, List.set_cons_zero, List.set_cons_succ]
     refine but_take (f := 14) (i := 7) (v := ?vp7) rfl (by kernel_rfl) (by kernel_rfl) (by kernel_rfl) (by kernel_rfl) (by kernel_rfl) (fun _ _ _ h => h) (Or.inl ⟨(by rfl), ?hyp7⟩) (Below.drew1 _) ?restp7
     case hyp7 =>
      intro W hW
      go_simp
      exact rfl
     simp only [List.getElem_toArray, List.getElem_cons_succ, List.getElem_cons_zero, Act.put, List.setIfInBounds_toArray, List.set_cons_zero, List.set_cons_succ]
     refine but_take (f := 14) (i := 8) (v := ?vp8) rfl (by kernel_rfl) (by kernel_rfl) (by kernel_rfl) (by kernel_rfl) (by kernel_rfl) (fun _ _ _ h => h) (Or.inl ⟨(by rfl), ?hyp8⟩) (Below.drew1 _) ?restp8
     case hyp8 =>
      intro W hW
      obtain ⟨x0, x1, x2⟩ := box2 (box_on QT5.out hW)
      go_simp
      exact rfl
     simp only [List.getElem_toArray, List.getElem_cons_succ, List.getElem_cons_zero, Act.put, List.setIfInBounds_toArray, List.set_cons_zero, List.set_cons_succ]
     refine but_take (f := 14) (i := 9) (v := ?vp9) rfl (by kernel_rfl) (by kernel_rfl) (by kernel_rfl) (by kernel_rfl) (by kernel_rfl) (fun _ _ _ h => h) (Or.inl ⟨(by rfl), ?hyp9⟩) (Below.drew1 _) ?restp9
     case hyp9 =>
      intro W hW
      go_simp
      exact rfl
     simp only [List.getElem_toArray, List.getElem_cons_succ, List.getElem_cons_zero, Act.put, List.setIfInBounds_toArray, List.set_cons_zero, List.set_cons_succ]
     refine but_take (f := 14) (i := 10) (v := ?vp10) rfl (by kernel_rfl) (by kernel_rfl) (by kernel_rfl) (by kernel_rfl) (by kernel_rfl) (fun _ _ _ h => h) (Or.inl ⟨(by rfl), ?hyp10⟩) (Below.drew1 _) ?restp10
     case hyp10 =>
      intro W hW
      go_simp
      exact rfl
     simp only [List.getElem_toArray, List.getElem_cons_succ, List.getElem_cons_zero, Act.put, List.setIfInBounds_toArray, List.set_cons_zero, List.set_cons_succ]
     refine but_take (f := 14) (i := 11) (v := ?vp11) rfl (by kernel_rfl) (by kernel_rfl) (by kernel_rfl) (by kernel_rfl) (by kernel_rfl) (fun _ _ _ h => h) (Or.inl ⟨(by rfl), ?hyp11⟩) (Below.drew1 _) ?restp11
     case hyp11 =>
      intro W hW
      go_simp
      exact rfl
     simp only [List.getElem_toArray, List.getElem_cons_succ, List.getElem_cons_zero, Act.put, List.setIfInBounds_toArray, List.set_cons_zero, List.set_cons_succ]
     refine but_run (i := 0) (by kernel_rfl) rfl (by rfl) ?_
     simp only [List.getElem_toArray, List.getElem_cons_succ, List.getElem_cons_zero]
     intro K HK
     go_wp2_with fail
     have hSp1 : (fun V => Below W5.heap.size W5 V) (W5.drew.alloc (.cells #[] 3)) := bstep (Below.drew1 _) (bal1 _ _)
     refine HK.out _ _ (fun _ => hSp1) ?_
     clear HK
     have Rp1 := Lib.hid (row_lit W5.drew 3 1)
     refine but_run (i := 6) (by kernel_rfl) rfl (by rfl) ?_
     simp only [List.getElem_toArray, List.getElem_cons_succ, List.getElem_cons_zero]
     intro K HK
     refine operAppN _ (by rfl) (.tmp 27) (.tmp 32) 24 3 1 8 (.int .i64 0) (by rfl) Tryz.underlying24 (by kernel_rfl) rfl (by omega) (by omega) W5.heap.size (0) _ ([]) (by rfl) Rp1.out (A) (i + 1) ((i + 2)) ((lo.map iV).take (i + 1)) (by rfl) (by simp; omega) (((HAT.out.on hSp1).takeV (i + 1))) (fun u hu => HI1.out u (List.mem_of_mem_take hu)) (by omega) (Nat.le_trans (Nat.le_refl _) (hSp1.size)) ?_
     intro vp2 Vp2 op2 gp2 _ ap2
     rw [Nat.zero_add, List.nil_append] at op2
     obtain ⟨Ap2, cp2, rfl⟩ := row_form op2
     have hSp2 : (fun V => Below W5.heap.size W5 V) Vp2 := grown_below hSp1 gp2 Rp1.out (Nat.le_refl _)
     refine HK.out _ _ (fun _ => hSp2) ?_
     clear HK
     have Rp2 := Lib.hid op2
     clear op2
     simp only [List.getElem_toArray, List.getElem_cons_succ, List.getElem_cons_zero, Act.put, List.setIfInBounds_toArray, List.set_cons_zero, List.set_cons_succ]
     refine but_run (i := 12) (by kernel_rfl) rfl (by rfl) ?_
     simp only [List.getElem_toArray, List.getElem_cons_succ, List.getElem_cons_zero]
     intro K HK
     refine operAppN _ (by rfl) (.tmp 33) (.tmp 38) 24 3 1 8 (.int .i64 0) (by rfl) Tryz.underlying24 (by kernel_rfl) rfl (by omega) (by omega) W5.heap.size (i + 1) _ ((lo.map iV).take (i + 1)) (by rfl) Rp2.out (_) (0) (_) ([]) (by rfl) (rfl) (.inl rfl) (fun u hu => by simp at hu) (by omega) (Nat.le_trans (Nat.le_refl _) (hSp2.size)) ?_
     intro vp3 Vp3 op3 gp3 _ ap3
     have e1 : i + 1 + 0 = rl.length := by rw [HLE.out]; omega
     have e2 : (lo.map iV).take (i + 1) ++ [] = rl.map iV := by rw [HM1.out, show (lo.map iV).drop (i + 2) = [] from List.drop_eq_nil_of_le (by simp; omega)]
     rw [e2, e1] at op3
     clear e1 e2
     obtain ⟨o0, o1, o2⟩ := box2 (box_on QZ.out (grown_below hSp2 gp3 Rp2.out (Nat.le_refl _)))
     obtain ⟨Ap3, cp3, rfl⟩ := row_form op3
     have hSp3 : (fun V => Below W5.heap.size W5 V) Vp3 := grown_below hSp2 gp3 Rp2.out (Nat.le_refl _)
     refine HK.out _ _ (fun _ => hSp3) ?_
     clear HK
     have Rp3 := Lib.hid op3
     clear op3
     simp only [List.getElem_toArray, List.getElem_cons_succ, List.getElem_cons_zero, Act.put, List.setIfInBounds_toArray, List.set_cons_zero, List.set_cons_succ]
     refine but_take (f := 14) (i := 13) (v := ?vp13) rfl (by kernel_rfl) (by kernel_rfl) (by kernel_rfl) (by kernel_rfl) (by kernel_rfl) (fun _ _ _ h => h) (Or.inl ⟨(by rfl), ?hyp13⟩) hSp3 ?restp13
     case hyp13 =>
      intro W hW
      go_simp
      exact rfl
     simp only [List.getElem_toArray, List.getElem_cons_succ, List.getElem_cons_zero, Act.put, List.setIfInBounds_toArray, List.set_cons_zero, List.set_cons_succ]
     refine but_run (i := 14) (by kernel_rfl) rfl (by rfl) ?_
     simp only [List.getElem_toArray, List.getElem_cons_succ, List.getElem_cons_zero]
     intro K HK
     go_wp2_with fail
     refine HK.out _ _ (fun h => absurd rfl h) ?_
     clear HK
     refine but_done (by kernel_rfl) ?_
     have hW6 : Below W5.heap.size W5 Vp3 := hSp3
     have hsz := hW6.size
     have FIN : Hid (JoinMid V4 rl (Vp3.setCell ⟨V4.heap.size, 0, none⟩ (.slice Ap3 rl.length cp3))) := Lib.hid ⟨_, _, box_set (i := 0) (u := .slice Ap3 rl.length cp3) (box_on QZ.out hW6), (BZ.out.trans (hW6.mono (by omega))).setCell (p := ⟨V4.heap.size, 0, none⟩) (Nat.le_refl _) (.slice Ap3 rl.length cp3), (row_ints (row_keep Rp3.out (w' := Vp3.setCell ⟨V4.heap.size, 0, none⟩ (.slice Ap3 rl.length cp3)) (fun g hg => Below.heap_setCell _ _ _ _ (by have := (row_lt Rp3.out g hg).2; simp; omega)))).lt.mono (fun b hb => ⟨by omega, hb.2⟩), by simp; omega⟩
     go_wp2_with fail
     go_meet
     exact FIN
    ·have hcc : i + 2 < c := by omega
     refine but_begin (f := 14) (S := fun V => Below W5.heap.size W5 V) (by kernel_rfl) ?_
     refine but_take (f := 14) (i := 1) (v := ?vq1) rfl (by kernel_rfl) (by kernel_rfl) (by kernel_rfl) (by kernel_rfl) (by kernel_rfl) (fun _ _ _ h => h) (Or.inl ⟨(by rfl), ?hyq1⟩) (Below.drew1 _) ?restq1
     case hyq1 =>
      intro W hW
      go_simp
      exact rfl
     simp only [List.getElem_toArray, List.getElem_cons_succ, List.getElem_cons_zero, Act.put, List.setIfInBounds_toArray, List.set_cons_zero, List.set_cons_succ]
     refine but_take (f := 14) (i := 2) (v := ?vq2) rfl (by kernel_rfl) (by kernel_rfl) (by kernel_rfl) (by kernel_rfl) (by kernel_rfl) (fun _ _ _ h => h) (Or.inl ⟨(by rfl), ?hyq2⟩) (Below.drew1 _) ?restq2
     case hyq2 =>
      intro W hW
      obtain ⟨x0, x1, x2⟩ := box2 (box_on QT5.out hW)
      go_simp
      exact rfl
     simp only [List.getElem_toArray, List.getElem_cons_succ, List.getElem_cons_zero, Act.put, List.setIfInBounds_toArray, List.set_cons_zero, List.set_cons_succ]
     refine but_take (f := 14) (i := 3) (v := ?vq3) rfl (by kernel_rfl) (by kernel_rfl) (by kernel_rfl) (by kernel_rfl) (by kernel_rfl) (fun _ _ _ h => h) (Or.inl ⟨(by rfl), ?hyq3⟩) (Below.drew1 _) ?restq3
     case hyq3 =>
      intro W hW
      go_simp
      exact rfl
     simp only [List.getElem_toArray, List.getElem_cons_succ, List.getElem_cons_zero, Act.put, List.setIfInBounds_toArray, List.set_cons_zero, List.set_cons_succ]
     refine but_take (f := 14) (i := 4) (v := ?vq4) rfl (by kernel_rfl) (by kernel_rfl) (by kernel_rfl) (by kernel_rfl) (by kernel_rfl) (fun _ _ _ h => h) (Or.inl ⟨(by rfl), ?hyq4⟩) (Below.drew1 _) ?restq4
     case hyq4 =>
      intro W hW
      go_simp
      exact rfl
     simp only [List.getElem_toArray, List.getElem_cons_succ, List.getElem_cons_zero, Act.put, List.setIfInBounds_toArray, List.set_cons_zero, List.set_cons_succ]
     refine but_take (f := 14) (i := 5) (v := ?vq5) rfl (by kernel_rfl) (by kernel_rfl) (by kernel_rfl) (by kernel_rfl) (by kernel_rfl) (fun _ _ _ h => h) (Or.inl ⟨(by rfl), ?hyq5⟩) (Below.drew1 _) ?restq5
     case hyq5 =>
      intro W hW
      go_simp
      exact rfl
     simp only [List.getElem_toArray, List.getElem_cons_succ, List.getElem_cons_zero, Act.put, List.setIfInBounds_toArray, List.set_cons_zero, List.set_cons_succ]
     refine but_take (f := 14) (i := 7) (v := ?vq7) rfl (by kernel_rfl) (by kernel_rfl) (by kernel_rfl) (by kernel_rfl) (by kernel_rfl) (fun _ _ _ h => h) (Or.inl ⟨(by rfl), ?hyq7⟩) (Below.drew1 _) ?restq7
     case hyq7 =>
      intro W hW
      go_simp
      exact rfl
     simp only [List.getElem_toArray, List.getElem_cons_succ, List.getElem_cons_zero, Act.put, List.setIfInBounds_toArray, List.set_cons_zero, List.set_cons_succ]
     refine but_take (f := 14) (i := 8) (v := ?vq8) rfl (by kernel_rfl) (by kernel_rfl) (by kernel_rfl) (by kernel_rfl) (by kernel_rfl) (fun _ _ _ h => h) (Or.inl ⟨(by rfl), ?hyq8⟩) (Below.drew1 _) ?restq8
     case hyq8 =>
      intro W hW
      obtain ⟨x0, x1, x2⟩ := box2 (box_on QT5.out hW)
      go_simp
      exact rfl
     simp only [List.getElem_toArray, List.getElem_cons_succ, List.getElem_cons_zero, Act.put, List.setIfInBounds_toArray, List.set_cons_zero, List.set_cons_succ]
     refine but_take (f := 14) (i := 9) (v := ?vq9) rfl (by kernel_rfl) (by kernel_rfl) (by kernel_rfl) (by kernel_rfl) (by kernel_rfl) (fun _ _ _ h => h) (Or.inl ⟨(by rfl), ?hyq9⟩) (Below.drew1 _) ?restq9
     case hyq9 =>
      intro W hW
      go_simp
      exact rfl
     simp only [List.getElem_toArray, List.getElem_cons_succ, List.getElem_cons_zero, Act.put, List.setIfInBounds_toArray, List.set_cons_zero, List.set_cons_succ]
     refine but_take (f := 14) (i := 10) (v := ?vq10) rfl (by kernel_rfl) (by kernel_rfl) (by kernel_rfl) (by kernel_rfl) (by kernel_rfl) (fun _ _ _ h => h) (Or.inl ⟨(by rfl), ?hyq10⟩) (Below.drew1 _) ?restq10
     case hyq10 =>
      intro W hW
      go_simp
      exact rfl
     simp only [List.getElem_toArray, List.getElem_cons_succ, List.getElem_cons_zero, Act.put, List.setIfInBounds_toArray, List.set_cons_zero, List.set_cons_succ]
     refine but_take (f := 14) (i := 11) (v := ?vq11) rfl (by kernel_rfl) (by kernel_rfl) (by kernel_rfl) (by kernel_rfl) (by kernel_rfl) (fun _ _ _ h => h) (Or.inl ⟨(by rfl), ?hyq11⟩) (Below.drew1 _) ?restq11
     case hyq11 =>
      intro W hW
      go_simp
      exact rfl
     simp only [List.getElem_toArray, List.getElem_cons_succ, List.getElem_cons_zero, Act.put, List.setIfInBounds_toArray, List.set_cons_zero, List.set_cons_succ]
     refine but_run (i := 0) (by kernel_rfl) rfl (by rfl) ?_
     simp only [List.getElem_toArray, List.getElem_cons_succ, List.getElem_cons_zero]
     intro K HK
     go_wp2_with fail
     have hSq1 : (fun V => Below W5.heap.size W5 V) (W5.drew.alloc (.cells #[] 3)) := bstep (Below.drew1 _) (bal1 _ _)
     refine HK.out _ _ (fun _ => hSq1) ?_
     clear HK
     have Rq1 := Lib.hid (row_lit W5.drew 3 1)
     refine but_run (i := 6) (by kernel_rfl) rfl (by rfl) ?_
     simp only [List.getElem_toArray, List.getElem_cons_succ, List.getElem_cons_zero]
     intro K HK
     refine operAppN _ (by rfl) (.tmp 27) (.tmp 32) 24 3 1 8 (.int .i64 0) (by rfl) Tryz.underlying24 (by kernel_rfl) rfl (by omega) (by omega) W5.heap.size (0) _ ([]) (by rfl) Rq1.out (A) (i + 1) (c) ((lo.map iV).take (i + 1)) (by rfl) (by simp; omega) (((HAT.out.on hSq1).takeV (i + 1))) (fun u hu => HI1.out u (List.mem_of_mem_take hu)) (by omega) (Nat.le_trans (Nat.le_refl _) (hSq1.size)) ?_
     intro vq2 Vq2 oq2 gq2 _ aq2
     rw [Nat.zero_add, List.nil_append] at oq2
     obtain ⟨Aq2, cq2, rfl⟩ := row_form oq2
     have hSq2 : (fun V => Below W5.heap.size W5 V) Vq2 := grown_below hSq1 gq2 Rq1.out (Nat.le_refl _)
     refine HK.out _ _ (fun _ => hSq2) ?_
     clear HK
     have Rq2 := Lib.hid oq2
     clear oq2
     simp only [List.getElem_toArray, List.getElem_cons_succ, List.getElem_cons_zero, Act.put, List.setIfInBounds_toArray, List.set_cons_zero, List.set_cons_succ]
     refine but_run (i := 12) (by kernel_rfl) rfl (by rfl) ?_
     simp only [List.getElem_toArray, List.getElem_cons_succ, List.getElem_cons_zero]
     intro K HK
     refine operAppN _ (by rfl) (.tmp 33) (.tmp 38) 24 3 1 8 (.int .i64 0) (by rfl) Tryz.underlying24 (by kernel_rfl) rfl (by omega) (by omega) W5.heap.size (i + 1) _ ((lo.map iV).take (i + 1)) (by rfl) Rq2.out (_) (lo.length - (i + 2)) (_) ((lo.map iV).drop (i + 2)) (by rfl) (by simp) ((by have h := At.tailV (c := c) (j := i + 2) (HAT.out.on hSq2) (by simp; omega); unfold tailA at h; rw [if_neg hcN] at h; exact h)) (fun u hu => HI1.out u (List.mem_of_mem_drop hu)) (by omega) (Nat.le_trans (Nat.le_refl _) (hSq2.size)) ?_
     intro vq3 Vq3 oq3 gq3 _ aq3
     rw [← HLE.out, ← HM1.out] at oq3
     obtain ⟨o0, o1, o2⟩ := box2 (box_on QZ.out (grown_below hSq2 gq3 Rq2.out (Nat.le_refl _)))
     obtain ⟨Aq3, cq3, rfl⟩ := row_form oq3
     have hSq3 : (fun V => Below W5.heap.size W5 V) Vq3 := grown_below hSq2 gq3 Rq2.out (Nat.le_refl _)
     refine HK.out _ _ (fun _ => hSq3) ?_
     clear HK
     have Rq3 := Lib.hid oq3
     clear oq3
     simp only [List.getElem_toArray, List.getElem_cons_succ, List.getElem_cons_zero, Act.put, List.setIfInBounds_toArray, List.set_cons_zero, List.set_cons_succ]
     refine but_take (f := 14) (i := 13) (v := ?vq13) rfl (by kernel_rfl) (by kernel_rfl) (by kernel_rfl) (by kernel_rfl) (by kernel_rfl) (fun _ _ _ h => h) (Or.inl ⟨(by rfl), ?hyq13⟩) hSq3 ?restq13
     case hyq13 =>
      intro W hW
      go_simp
      exact rfl
     simp only [List.getElem_toArray, List.getElem_cons_succ, List.getElem_cons_zero, Act.put, List.setIfInBounds_toArray, List.set_cons_zero, List.set_cons_succ]
     refine but_run (i := 14) (by kernel_rfl) rfl (by rfl) ?_
     simp only [List.getElem_toArray, List.getElem_cons_succ, List.getElem_cons_zero]
     intro K HK
     go_wp2_with fail
     refine HK.out _ _ (fun h => absurd rfl h) ?_
     clear HK
     refine but_done (by kernel_rfl) ?_
     have hW6 : Below W5.heap.size W5 Vq3 := hSq3
     have hsz := hW6.size
     have FIN : Hid (JoinMid V4 rl (Vq3.setCell ⟨V4.heap.size, 0, none⟩ (.slice Aq3 rl.length cq3))) := Lib.hid ⟨_, _, box_set (i := 0) (u := .slice Aq3 rl.length cq3) (box_on QZ.out hW6), (BZ.out.trans (hW6.mono (by omega))).setCell (p := ⟨V4.heap.size, 0, none⟩) (Nat.le_refl _) (.slice Aq3 rl.length cq3), (row_ints (row_keep Rq3.out (w' := Vq3.setCell ⟨V4.heap.size, 0, none⟩ (.slice Aq3 rl.length cq3)) (fun g hg => Below.heap_setCell _ _ _ _ (by have := (row_lt Rq3.out g hg).2; simp; omega)))).lt.mono (fun b hb => ⟨by omega, hb.2⟩), by simp; omega⟩
     go_wp2_with fail
     go_meet
     exact FIN
   case rest =>
    obtain ⟨Ak, ck, qo, hb6, rl6, hz6⟩ := hcut.out
    obtain ⟨W6, rfl⟩ : ∃ W, W = wc := ⟨_, rfl⟩
    have QO6 := Lib.hid qo
    have HB6 := Lib.hid hb6
    have RL := Lib.hid rl6
    have HWW := Lib.hid (bstep HBW.out hb6)
    have QT6 := Lib.hid (box_on QW.out HWW.out)
    have HAN := Lib.hid (HXA.out.on HWW.out)
    have OK6 := Lib.hid (OKK.out.on hb6)
    have hww := HWW.out.size
    clear qo hb6 rl6 hcut QZ BZ QT5 HAT HAL OKK
    go_upto_region 7 with (fail)
    go_cut [56] (fun _ wx => Hid (JoinEnd w V4 Bb X rl rn wx))
    case first =>
     by_cases hcN : d = i + 2
     ·subst hcN
      refine but_begin (f := 17) (S := fun V => Below W6.heap.size W6 V) (by kernel_rfl) ?_
      refine but_take (f := 17) (i := 1) (v := ?vr1) rfl (by kernel_rfl) (by kernel_rfl) (by kernel_rfl) (by kernel_rfl) (by kernel_rfl) (fun _ _ _ h => h) (Or.inl ⟨(by rfl), ?hyr1⟩) (Below.drew1 _) ?restr1
      case hyr1 =>
       intro W hW
       go_simp
       exact rfl
      simp only [List.getElem_toArray, List.getElem_cons_succ, List.getElem_cons_zero, Act.put, List.setIfInBounds_toArray, List.set_cons_zero, List.set_cons_succ]
      refine but_take (f := 17) (i := 2) (v := ?vr2) rfl (by kernel_rfl) (by kernel_rfl) (by kernel_rfl) (by kernel_rfl) (by kernel_rfl) (fun _ _ _ h => h) (Or.inl ⟨(by rfl), ?hyr2⟩) (Below.drew1 _) ?restr2
      case hyr2 =>
       intro W hW
       obtain ⟨x0, x1, x2⟩ := box2 (box_on QT6.out hW)
       go_simp
       exact rfl
      simp only [List.getElem_toArray, List.getElem_cons_succ, List.getElem_cons_zero, Act.put, List.setIfInBounds_toArray, List.set_cons_zero, List.set_cons_succ]
      refine but_take (f := 17) (i := 3) (v := ?vr3) rfl (by kernel_rfl) (by kernel_rfl) (by kernel_rfl) (by kernel_rfl) (by kernel_rfl) (fun _ _ _ h => h) (Or.inl ⟨(by rfl), ?hyr3⟩) (Below.drew1 _) ?restr3
      case hyr3 =>
       intro W hW
       go_simp
       exact rfl
      simp only [List.getElem_toArray, List.getElem_cons_succ, List.getElem_cons_zero, Act.put, List.setIfInBounds_toArray, List.set_cons_zero, List.set_cons_succ]
      refine but_take (f := 17) (i := 4) (v := ?vr4) rfl (by kernel_rfl) (by kernel_rfl) (by kernel_rfl) (by kernel_rfl) (by kernel_rfl) (fun _ _ _ h => h) (Or.inl ⟨(by rfl), ?hyr4⟩) (Below.drew1 _) ?restr4
      case hyr4 =>
       intro W hW
       go_simp
       exact rfl
      simp only [List.getElem_toArray, List.getElem_cons_succ, List.getElem_cons_zero, Act.put, List.setIfInBounds_toArray, List.set_cons_zero, List.set_cons_succ]
      refine but_take (f := 17) (i := 6) (v := ?vr6) rfl (by kernel_rfl) (by kernel_rfl) (by kernel_rfl) (by kernel_rfl) (by kernel_rfl) (fun _ _ _ h => h) (Or.inl ⟨(by rfl), ?hyr6⟩) (Below.drew1 _) ?restr6
      case hyr6 =>
       intro W hW
       go_simp
       exact rfl
      simp only [List.getElem_toArray, List.getElem_cons_succ, List.getElem_cons_zero, Act.put, List.setIfInBounds_toArray, List.set_cons_zero, List.set_cons_succ]
      refine but_take (f := 17) (i := 10) (v := ?vr10) rfl (by kernel_rfl) (by kernel_rfl) (by kernel_rfl) (by kernel_rfl) (by kernel_rfl) (fun _ _ _ h => h) (Or.inl ⟨(by rfl), ?hyr10⟩) (Below.drew1 _) ?restr10
      case hyr10 =>
       intro W hW
       go_simp
       exact rfl
      simp only [List.getElem_toArray, List.getElem_cons_succ, List.getElem_cons_zero, Act.put, List.setIfInBounds_toArray, List.set_cons_zero, List.set_cons_succ]
      refine but_take (f := 17) (i := 11) (v := ?vr11) rfl (by kernel_rfl) (by kernel_rfl) (by kernel_rfl) (by kernel_rfl) (by kernel_rfl) (fun _ _ _ h => h) (Or.inl ⟨(by rfl), ?hyr11⟩) (Below.drew1 _) ?restr11
      case hyr11 =>
       intro W hW
       obtain ⟨x0, x1, x2⟩ := box2 (box_on QT6.out hW)
       go_simp
       exact rfl
      simp only [List.getElem_toArray, List.getElem_cons_succ, List.getElem_cons_zero, Act.put, List.setIfInBounds_toArray, List.set_cons_zero, List.set_cons_succ]
      refine but_take (f := 17) (i := 12) (v := ?vr12) rfl (by kernel_rfl) (by kernel_rfl) (by kernel_rfl) (by kernel_rfl) (by kernel_rfl) (fun _ _ _ h => h) (Or.inl ⟨(by rfl), ?hyr12⟩) (Below.drew1 _) ?restr12
      case hyr12 =>
       intro W hW
       go_simp
       exact rfl
      simp only [List.getElem_toArray, List.getElem_cons_succ, List.getElem_cons_zero, Act.put, List.setIfInBounds_toArray, List.set_cons_zero, List.set_cons_succ]
      refine but_take (f := 17) (i := 13) (v := ?vr13) rfl (by kernel_rfl) (by kernel_rfl) (by kernel_rfl) (by kernel_rfl) (by kernel_rfl) (fun _ _ _ h => h) (Or.inl ⟨(by rfl), ?hyr13⟩) (Below.drew1 _) ?restr13
      case hyr13 =>
       intro W hW
       go_simp
       exact rfl
      simp only [List.getElem_toArray, List.getElem_cons_succ, List.getElem_cons_zero, Act.put, List.setIfInBounds_toArray, List.set_cons_zero, List.set_cons_succ]
      refine but_take (f := 17) (i := 14) (v := ?vr14) rfl (by kernel_rfl) (by kernel_rfl) (by kernel_rfl) (by kernel_rfl) (by kernel_rfl) (fun _ _ _ h => h) (Or.inl ⟨(by rfl), ?hyr14⟩) (Below.drew1 _) ?restr14
      case hyr14 =>
       intro W hW
       go_simp
       exact rfl
      simp only [List.getElem_toArray, List.getElem_cons_succ, List.getElem_cons_zero, Act.put, List.setIfInBounds_toArray, List.set_cons_zero, List.set_cons_succ]
      refine but_run (i := 0) (by kernel_rfl) rfl (by rfl) ?_
      simp only [List.getElem_toArray, List.getElem_cons_succ, List.getElem_cons_zero]
      intro K HK
      go_wp2_with fail
      have hSr1 : (fun V => Below W6.heap.size W6 V) (W6.drew.alloc (.cells #[] 62)) := bstep (Below.drew1 _) (bal1 _ _)
      refine HK.out _ _ (fun _ => hSr1) ?_
      clear HK
      have Rr1 := Lib.hid (row_lit W6.drew 62 1)
      refine but_run (i := 5) (by kernel_rfl) rfl (by rfl) ?_
      simp only [List.getElem_toArray, List.getElem_cons_succ, List.getElem_cons_zero]
      intro K HK
      refine operAppN _ (by rfl) (.tmp 41) (.tmp 45) 25 62 1 24 (.agg #[.slice none 0 0]) (by rfl) Tryz.underlying25 (by kernel_rfl) rfl (by omega) (by omega) W6.heap.size (0) _ ([]) (by rfl) Rr1.out ((some ⟨b, off, none⟩)) (i) ((i + 2)) (xs.take i) (by rfl) (by rw [List.length_take, HXL.out]; omega) (((HAN.out.on hSr1).takeV i)) (fun u hu => HX1.out u (List.mem_of_mem_take hu)) (by omega) (Nat.le_trans (Nat.le_refl _) (hSr1.size)) ?_
      intro vr2 Vr2 or2 gr2 _ ar2
      rw [Nat.zero_add, List.nil_append] at or2
      obtain ⟨Ar2, cr2, rfl⟩ := row_form or2
      have hSr2 : (fun V => Below W6.heap.size W6 V) Vr2 := grown_below hSr1 gr2 Rr1.out (Nat.le_refl _)
      refine HK.out _ _ (fun _ => hSr2) ?_
      clear HK
      have Rr2 := Lib.hid or2
      clear or2
      have GB1 : Hid (∀ g, (Value.slice Ar2 i cr2).ownBlock = some g → g < Vr2.heap.size) := Lib.hid (fun g hg => (row_lt Rr2.out g hg).1)
      simp only [List.getElem_toArray, List.getElem_cons_succ, List.getElem_cons_zero, Act.put, List.setIfInBounds_toArray, List.set_cons_zero, List.set_cons_succ]
      refine but_run (i := 7) (by kernel_rfl) rfl (by rfl) ?_
      simp only [List.getElem_toArray, List.getElem_cons_succ, List.getElem_cons_zero]
      intro K HK
      go_wp2_with fail
      refine (specNodeNew_any _ KK _ (OK6.out.on hSr2).owns.reads (by omega)).mono ?_
      rintro r Vr3 ⟨vn, rfl, on, hbr3⟩
      obtain ⟨Ax, cx, rfl, _, _⟩ := on.reads.lenN
      go_wp2_with fail
      have hSr3 : (fun V => Below W6.heap.size W6 V) Vr3 := bstep hSr2 hbr3
      refine HK.out _ _ (fun _ => hSr3) ?_
      clear HK
      have ON := Lib.hid on.lt
      have N12 := hbr3.size
      have RQ := Lib.hid (row_on Rr2.out hbr3)
      clear on
      refine but_run (i := 8) (by kernel_rfl) rfl (by rfl) ?_
      simp only [List.getElem_toArray, List.getElem_cons_succ, List.getElem_cons_zero]
      intro K HK
      go_wp2_with fail
      have hSr4 : (fun V => Below W6.heap.size W6 V) (Vr3.alloc (.cells #[.slice Ax (nodeNewK KK).length cx] 62)) := bstep hSr3 (bal1 _ _)
      refine HK.out _ _ (fun _ => hSr4) ?_
      clear HK
      replace RQ := Lib.hid (row_on RQ.out (bal1 Vr3 (.cells #[.slice Ax (nodeNewK KK).length cx] 62)))
      have ATX := Lib.hid (At.lit1 Vr3 (.slice Ax (nodeNewK KK).length cx) 62)
      refine but_run (i := 9) (by kernel_rfl) rfl (by rfl) ?_
      simp only [List.getElem_toArray, List.getElem_cons_succ, List.getElem_cons_zero]
      intro K HK
      refine operAppN _ (by rfl) (.tmp 46) (.tmp 49) 25 62 1 24 (.agg #[.slice none 0 0]) (by rfl) Tryz.underlying25 (by kernel_rfl) rfl (by omega) (by omega) W6.heap.size (i) _ (xs.take i) (by rfl) RQ.out (_) (1) (1) ([.slice Ax (nodeNewK KK).length cx]) (by rfl) (rfl) (ATX.out) (by simp [Value.oneCell']) (by omega) (Nat.le_trans (Nat.le_refl _) (hSr4.size)) ?_
      intro vr5 Vr5 or5 gr5 _ ar5
      obtain ⟨Ar5, cr5, rfl⟩ := row_form or5
      have hSr5 : (fun V => Below W6.heap.size W6 V) Vr5 := grown_below hSr4 gr5 RQ.out (Nat.le_refl _)
      refine HK.out _ _ (fun _ => hSr5) ?_
      clear HK
      have Rr5 := Lib.hid or5
      have G2 : Hid (∀ g, (Value.slice Ar5 (i + 1) cr5).ownBlock = some g → g < Vr2.heap.size ∨ Vr3.heap.size ≤ g) := Lib.hid (fun g hg => by
       rcases ar5 with h | h
       ·rw [h] at hg; exact .inl (GB1.out g hg)
       ·rw [h] at hg; injection hg with hg; right; rw [← hg]; simp)
      clear or5
      simp only [List.getElem_toArray, List.getElem_cons_succ, List.getElem_cons_zero, Act.put, List.setIfInBounds_toArray, List.set_cons_zero, List.set_cons_succ]
      refine but_run (i := 15) (by kernel_rfl) rfl (by rfl) ?_
      simp only [List.getElem_toArray, List.getElem_cons_succ, List.getElem_cons_zero]
      intro K HK
      refine operAppN _ (by rfl) (.tmp 50) (.tmp 55) 25 62 1 24 (.agg #[.slice none 0 0]) (by rfl) Tryz.underlying25 (by kernel_rfl) rfl (by omega) (by omega) W6.heap.size (i + 1) _ (xs.take i ++ [.slice Ax (nodeNewK KK).length cx]) (by rfl) Rr5.out (_) (0) (_) ([]) (by rfl) (rfl) (.inl rfl) (fun u hu => by simp at hu) (by omega) (Nat.le_trans (Nat.le_refl _) (hSr5.size)) ?_
      intro vr6 Vr6 or6 gr6 _ ar6
      have e1 : i + 1 + 0 = rn.length := by rw [HLN.out]; omega
      have e2 : xs.take i ++ [.slice Ax (nodeNewK KK).length cx] ++ [] = xs.take i ++ [.slice Ax (nodeNewK KK).length cx] ++ xs.drop (i + 2) := by rw [show xs.drop (i + 2) = [] from List.drop_eq_nil_of_le (by rw [HXL.out]; omega)]
      rw [e2, e1] at or6
      clear e1 e2
      obtain ⟨o0, o1, o2⟩ := box2 (box_on QO6.out (grown_below hSr5 gr6 Rr5.out (Nat.le_refl _)))
      obtain ⟨Ar6, cr6, rfl⟩ := row_form or6
      have hSr6 : (fun V => Below W6.heap.size W6 V) Vr6 := grown_below hSr5 gr6 Rr5.out (Nat.le_refl _)
      refine HK.out _ _ (fun _ => hSr6) ?_
      clear HK
      have Rr6 := Lib.hid or6
      have G3 : Hid (∀ g, (Value.slice Ar6 rn.length cr6).ownBlock = some g → g < Vr2.heap.size ∨ Vr3.heap.size ≤ g) := Lib.hid (fun g hg => by
       rcases ar6 with h | h
       ·rw [h] at hg; exact G2.out g hg
       ·rw [h] at hg; injection hg with hg; right; rw [← hg]; exact Nat.le_trans (by simp) (gr5.size))
      clear or6
      simp only [List.getElem_toArray, List.getElem_cons_succ, List.getElem_cons_zero, Act.put, List.setIfInBounds_toArray, List.set_cons_zero, List.set_cons_succ]
      refine but_take (f := 17) (i := 16) (v := ?vr16) rfl (by kernel_rfl) (by kernel_rfl) (by kernel_rfl) (by kernel_rfl) (by kernel_rfl) (fun _ _ _ h => h) (Or.inl ⟨(by rfl), ?hyr16⟩) hSr6 ?restr16
      case hyr16 =>
       intro W hW
       go_simp
       exact rfl
      simp only [List.getElem_toArray, List.getElem_cons_succ, List.getElem_cons_zero, Act.put, List.setIfInBounds_toArray, List.set_cons_zero, List.set_cons_succ]
      refine but_run (i := 17) (by kernel_rfl) rfl (by rfl) ?_
      simp only [List.getElem_toArray, List.getElem_cons_succ, List.getElem_cons_zero]
      intro K HK
      go_wp2_with fail
      refine HK.out _ _ (fun h => absurd rfl h) ?_
      clear HK
      refine but_done (by kernel_rfl) ?_
      have hW7 : Below W6.heap.size W6 Vr6 := hSr6
      have hsz := hW7.size
      have hN1 : W6.heap.size ≤ Vr2.heap.size := (grown_below (bstep (Below.drew1 _) (bal1 _ _)) gr2 Rr1.out (Nat.le_refl _)).size
      have hX1 : OwnsL Vr6 (fun b => Q b ∧ b < wr.heap.size) xs (ts.map setsD) := HXO.out.on (bstep HWW.out hW7)
      have hX2 : Owns Vr6 (fun b => Vr2.heap.size ≤ b ∧ b < Vr3.heap.size) (.slice Ax (nodeNewK KK).length cx) (setsD (nodeNewK KK)) := by
       have h1 := ON.out.on (bal1 Vr3 (.cells #[.slice Ax (nodeNewK KK).length cx] 62))
       have h2 := h1.keep (w' := Vr5) (fun b hb hl => gr5.block b hl (fun e => by have := GB1.out b e.symm; have := hb.1; omega))
       exact h2.keep (fun b hb hl => gr6.block b hl (fun e => by rcases G2.out b e.symm with h | h <;> omega))
      have hSW := OwnsL.swap (U := fun b => (((Bb ≤ b ∧ b ≠ X) ∧ b ≠ w.heap.size ∧ b ≠ w.heap.size + 1) ∧ b < wr.heap.size) ∨ (Vr2.heap.size ≤ b ∧ b < Vr3.heap.size)) hX1 (.one hX2) i (i + 2) (by omega) (fun b hb => .inl ⟨HQ.out b hb.1, hb.2⟩) (fun b hb => .inr hb) (fun b hb hb' => by have := hb.2; have := hb'.1; omega)
      have HRN := rowP_owns (P := fun b => (((Bb ≤ b ∧ b ≠ X) ∧ b ≠ w.heap.size ∧ b ≠ w.heap.size + 1) ∧ b < wr.heap.size) ∨ W6.heap.size ≤ b) Rr6.out (cs := rn.map setsD) (by
        rw [HM2.out]
        refine hSW.mono (fun b hb => ⟨hb.elim .inl (fun h => .inr (by omega)), fun e => ?_⟩)
        have h1 := G3.out b e
        have h2 := (row_lt Rr6.out b e).2
        omega) (fun g hg => .inr (row_lt Rr6.out g hg).2) (by simp)
      have FIN : Hid (JoinEnd w V4 Bb X rl rn (Vr6.setCell ⟨V4.heap.size, 1, none⟩ (.slice Ar6 rn.length cr6))) := Lib.hid ⟨_, _, _, _, box_set (i := 1) (u := .slice Ar6 rn.length cr6) (box_on QO6.out hW7), (HB6.out.trans (hW7.mono (by omega))).setCell (p := ⟨V4.heap.size, 1, none⟩) (Nat.le_refl _) (.slice Ar6 rn.length cr6), fun b => V4.heap.size < b ∧ b < W6.heap.size, fun b => (((Bb ≤ b ∧ b ≠ X) ∧ b ≠ w.heap.size ∧ b ≠ w.heap.size + 1) ∧ b < wr.heap.size) ∨ W6.heap.size ≤ b, fun b hb => by omega, fun b hb => by omega, fun b hb hb' => by omega, (RL.out.on hW7).keep (fun b hb _ => Below.heap_setCell _ _ _ _ (by have := hb.1; simp; omega)), HRN.keep (fun b hb _ => Below.heap_setCell _ _ _ _ (by simp; omega))⟩
      go_wp2_with fail
      go_meet
      exact FIN
     ·have hcc : i + 2 < d := by omega
      refine but_begin (f := 17) (S := fun V => Below W6.heap.size W6 V) (by kernel_rfl) ?_
      refine but_take (f := 17) (i := 1) (v := ?vs1) rfl (by kernel_rfl) (by kernel_rfl) (by kernel_rfl) (by kernel_rfl) (by kernel_rfl) (fun _ _ _ h => h) (Or.inl ⟨(by rfl), ?hys1⟩) (Below.drew1 _) ?rests1
      case hys1 =>
       intro W hW
       go_simp
       exact rfl
      simp only [List.getElem_toArray, List.getElem_cons_succ, List.getElem_cons_zero, Act.put, List.setIfInBounds_toArray, List.set_cons_zero, List.set_cons_succ]
      refine but_take (f := 17) (i := 2) (v := ?vs2) rfl (by kernel_rfl) (by kernel_rfl) (by kernel_rfl) (by kernel_rfl) (by kernel_rfl) (fun _ _ _ h => h) (Or.inl ⟨(by rfl), ?hys2⟩) (Below.drew1 _) ?rests2
      case hys2 =>
       intro W hW
       obtain ⟨x0, x1, x2⟩ := box2 (box_on QT6.out hW)
       go_simp
       exact rfl
      simp only [List.getElem_toArray, List.getElem_cons_succ, List.getElem_cons_zero, Act.put, List.setIfInBounds_toArray, List.set_cons_zero, List.set_cons_succ]
      refine but_take (f := 17) (i := 3) (v := ?vs3) rfl (by kernel_rfl) (by kernel_rfl) (by kernel_rfl) (by kernel_rfl) (by kernel_rfl) (fun _ _ _ h => h) (Or.inl ⟨(by rfl), ?hys3⟩) (Below.drew1 _) ?rests3
      case hys3 =>
       intro W hW
       go_simp
       exact rfl
      simp only [List.getElem_toArray, List.getElem_cons_succ, List.getElem_cons_zero, Act.put, List.setIfInBounds_toArray, List.set_cons_zero, List.set_cons_succ]
      refine but_take (f := 17) (i := 4) (v := ?vs4) rfl (by kernel_rfl) (by kernel_rfl) (by kernel_rfl) (by kernel_rfl) (by kernel_rfl) (fun _ _ _ h => h) (Or.inl ⟨(by rfl), ?hys4⟩) (Below.drew1 _) ?rests4
      case hys4 =>
       intro W hW
       go_simp
       exact rfl
      simp only [List.getElem_toArray, List.getElem_cons_succ, List.getElem_cons_zero, Act.put, List.setIfInBounds_toArray, List.set_cons_zero, List.set_cons_succ]
      refine but_take (f := 17) (i := 6) (v := ?vs6) rfl (by kernel_rfl) (by kernel_rfl) (by kernel_rfl) (by kernel_rfl) (by kernel_rfl) (fun _ _ _ h => h) (Or.inl ⟨(by rfl), ?hys6⟩) (Below.drew1 _) ?rests6
      case hys6 =>
       intro W hW
       go_simp
       exact rfl
      simp only [List.getElem_toArray, List.getElem_cons_succ, List.getElem_cons_zero, Act.put, List.setIfInBounds_toArray, List.set_cons_zero, List.set_cons_succ]
      refine but_take (f := 17) (i := 10) (v := ?vs10) rfl (by kernel_rfl) (by kernel_rfl) (by kernel_rfl) (by kernel_rfl) (by kernel_rfl) (fun _ _ _ h => h) (Or.inl ⟨(by rfl), ?hys10⟩) (Below.drew1 _) ?rests10
      case hys10 =>
       intro W hW
       go_simp
       exact rfl
      simp only [List.getElem_toArray, List.getElem_cons_succ, List.getElem_cons_zero, Act.put, List.setIfInBounds_toArray, List.set_cons_zero, List.set_cons_succ]
      refine but_take (f := 17) (i := 11) (v := ?vs11) rfl (by kernel_rfl) (by kernel_rfl) (by kernel_rfl) (by kernel_rfl) (by kernel_rfl) (fun _ _ _ h => h) (Or.inl ⟨(by rfl), ?hys11⟩) (Below.drew1 _) ?rests11
      case hys11 =>
       intro W hW
       obtain ⟨x0, x1, x2⟩ := box2 (box_on QT6.out hW)
       go_simp
       exact rfl
      simp only [List.getElem_toArray, List.getElem_cons_succ, List.getElem_cons_zero, Act.put, List.setIfInBounds_toArray, List.set_cons_zero, List.set_cons_succ]
      refine but_take (f := 17) (i := 12) (v := ?vs12) rfl (by kernel_rfl) (by kernel_rfl) (by kernel_rfl) (by kernel_rfl) (by kernel_rfl) (fun _ _ _ h => h) (Or.inl ⟨(by rfl), ?hys12⟩) (Below.drew1 _) ?rests12
      case hys12 =>
       intro W hW
       go_simp
       exact rfl
      simp only [List.getElem_toArray, List.getElem_cons_succ, List.getElem_cons_zero, Act.put, List.setIfInBounds_toArray, List.set_cons_zero, List.set_cons_succ]
      refine but_take (f := 17) (i := 13) (v := ?vs13) rfl (by kernel_rfl) (by kernel_rfl) (by kernel_rfl) (by kernel_rfl) (by kernel_rfl) (fun _ _ _ h => h) (Or.inl ⟨(by rfl), ?hys13⟩) (Below.drew1 _) ?rests13
      case hys13 =>
       intro W hW
       go_simp
       exact rfl
      simp only [List.getElem_toArray, List.getElem_cons_succ, List.getElem_cons_zero, Act.put, List.setIfInBounds_toArray, List.set_cons_zero, List.set_cons_succ]
      refine but_take (f := 17) (i := 14) (v := ?vs14) rfl (by kernel_rfl) (by kernel_rfl) (by kernel_rfl) (by kernel_rfl) (by kernel_rfl) (fun _ _ _ h => h) (Or.inl ⟨(by rfl), ?hys14⟩) (Below.drew1 _) ?rests14
      case hys14 =>
       intro W hW
       go_simp
       exact rfl
      simp only [List.getElem_toArray, List.getElem_cons_succ, List.getElem_cons_zero, Act.put, List.setIfInBounds_toArray, List.set_cons_zero, List.set_cons_succ]
      refine but_run (i := 0) (by kernel_rfl) rfl (by rfl) ?_
      simp only [List.getElem_toArray, List.getElem_cons_succ, List.getElem_cons_zero]
      intro K HK
      go_wp2_with fail
      have hSs1 : (fun V => Below W6.heap.size W6 V) (W6.drew.alloc (.cells #[] 62)) := bstep (Below.drew1 _) (bal1 _ _)
      refine HK.out _ _ (fun _ => hSs1) ?_
      clear HK
      have Rs1 := Lib.hid (row_lit W6.drew 62 1)
      refine but_run (i := 5) (by kernel_rfl) rfl (by rfl) ?_
      simp only [List.getElem_toArray, List.getElem_cons_succ, List.getElem_cons_zero]
      intro K HK
      refine operAppN _ (by rfl) (.tmp 41) (.tmp 45) 25 62 1 24 (.agg #[.slice none 0 0]) (by rfl) Tryz.underlying25 (by kernel_rfl) rfl (by omega) (by omega) W6.heap.size (0) _ ([]) (by rfl) Rs1.out ((some ⟨b, off, none⟩)) (i) (d) (xs.take i) (by rfl) (by rw [List.length_take, HXL.out]; omega) (((HAN.out.on hSs1).takeV i)) (fun u hu => HX1.out u (List.mem_of_mem_take hu)) (by omega) (Nat.le_trans (Nat.le_refl _) (hSs1.size)) ?_
      intro vs2 Vs2 os2 gs2 _ as2
      rw [Nat.zero_add, List.nil_append] at os2
      obtain ⟨As2, cs2, rfl⟩ := row_form os2
      have hSs2 : (fun V => Below W6.heap.size W6 V) Vs2 := grown_below hSs1 gs2 Rs1.out (Nat.le_refl _)
      refine HK.out _ _ (fun _ => hSs2) ?_
      clear HK
      have Rs2 := Lib.hid os2
      clear os2
      have GB1 : Hid (∀ g, (Value.slice As2 i cs2).ownBlock = some g → g < Vs2.heap.size) := Lib.hid (fun g hg => (row_lt Rs2.out g hg).1)
      simp only [List.getElem_toArray, List.getElem_cons_succ, List.getElem_cons_zero, Act.put, List.setIfInBounds_toArray, List.set_cons_zero, List.set_cons_succ]
      refine but_run (i := 7) (by kernel_rfl) rfl (by rfl) ?_
      simp only [List.getElem_toArray, List.getElem_cons_succ, List.getElem_cons_zero]
      intro K HK
      go_wp2_with fail
      refine (specNodeNew_any _ KK _ (OK6.out.on hSs2).owns.reads (by omega)).mono ?_
      rintro r Vs3 ⟨vn, rfl, on, hbs3⟩
      obtain ⟨Ax, cx, rfl, _, _⟩ := on.reads.lenN
      go_wp2_with fail
      have hSs3 : (fun V => Below W6.heap.size W6 V) Vs3 := bstep hSs2 hbs3
      refine HK.out _ _ (fun _ => hSs3) ?_
      clear HK
      have ON := Lib.hid on.lt
      have N12 := hbs3.size
      have RQ := Lib.hid (row_on Rs2.out hbs3)
      clear on
      refine but_run (i := 8) (by kernel_rfl) rfl (by rfl) ?_
      simp only [List.getElem_toArray, List.getElem_cons_succ, List.getElem_cons_zero]
      intro K HK
      go_wp2_with fail
      have hSs4 : (fun V => Below W6.heap.size W6 V) (Vs3.alloc (.cells #[.slice Ax (nodeNewK KK).length cx] 62)) := bstep hSs3 (bal1 _ _)
      refine HK.out _ _ (fun _ => hSs4) ?_
      clear HK
      replace RQ := Lib.hid (row_on RQ.out (bal1 Vs3 (.cells #[.slice Ax (nodeNewK KK).length cx] 62)))
      have ATX := Lib.hid (At.lit1 Vs3 (.slice Ax (nodeNewK KK).length cx) 62)
      refine but_run (i := 9) (by kernel_rfl) rfl (by rfl) ?_
      simp only [List.getElem_toArray, List.getElem_cons_succ, List.getElem_cons_zero]
      intro K HK
      refine operAppN _ (by rfl) (.tmp 46) (.tmp 49) 25 62 1 24 (.agg #[.slice none 0 0]) (by rfl) Tryz.underlying25 (by kernel_rfl) rfl (by omega) (by omega) W6.heap.size (i) _ (xs.take i) (by rfl) RQ.out (_) (1) (1) ([.slice Ax (nodeNewK KK).length cx]) (by rfl) (rfl) (ATX.out) (by simp [Value.oneCell']) (by omega) (Nat.le_trans (Nat.le_refl _) (hSs4.size)) ?_
      intro vs5 Vs5 os5 gs5 _ as5
      obtain ⟨As5, cs5, rfl⟩ := row_form os5
      have hSs5 : (fun V => Below W6.heap.size W6 V) Vs5 := grown_below hSs4 gs5 RQ.out (Nat.le_refl _)
      refine HK.out _ _ (fun _ => hSs5) ?_
      clear HK
      have Rs5 := Lib.hid os5
      have G2 : Hid (∀ g, (Value.slice As5 (i + 1) cs5).ownBlock = some g → g < Vs2.heap.size ∨ Vs3.heap.size ≤ g) := Lib.hid (fun g hg => by
       rcases as5 with h | h
       ·rw [h] at hg; exact .inl (GB1.out g hg)
       ·rw [h] at hg; injection hg with hg; right; rw [← hg]; simp)
      clear os5
      simp only [List.getElem_toArray, List.getElem_cons_succ, List.getElem_cons_zero, Act.put, List.setIfInBounds_toArray, List.set_cons_zero, List.set_cons_succ]
      refine but_run (i := 15) (by kernel_rfl) rfl (by rfl) ?_
      simp only [List.getElem_toArray, List.getElem_cons_succ, List.getElem_cons_zero]
      intro K HK
      refine operAppN _ (by rfl) (.tmp 50) (.tmp 55) 25 62 1 24 (.agg #[.slice none 0 0]) (by rfl) Tryz.underlying25 (by kernel_rfl) rfl (by omega) (by omega) W6.heap.size (i + 1) _ (xs.take i ++ [.slice Ax (nodeNewK KK).length cx]) (by rfl) Rs5.out (_) (ts.length - (i + 2)) (_) (xs.drop (i + 2)) (by rfl) (by rw [List.length_drop, HXL.out]; omega) ((by have h := At.tailV (c := d) (j := i + 2) (HAN.out.on hSs5) (by rw [HXL.out]; omega); unfold tailA at h; rw [if_neg hcN] at h; exact h)) (fun u hu => HX1.out u (List.mem_of_mem_drop hu)) (by omega) (Nat.le_trans (Nat.le_refl _) (hSs5.size)) ?_
      intro vs6 Vs6 os6 gs6 _ as6
      rw [← HLN.out] at os6
      obtain ⟨o0, o1, o2⟩ := box2 (box_on QO6.out (grown_below hSs5 gs6 Rs5.out (Nat.le_refl _)))
      obtain ⟨As6, cs6, rfl⟩ := row_form os6
      have hSs6 : (fun V => Below W6.heap.size W6 V) Vs6 := grown_below hSs5 gs6 Rs5.out (Nat.le_refl _)
      refine HK.out _ _ (fun _ => hSs6) ?_
      clear HK
      have Rs6 := Lib.hid os6
      have G3 : Hid (∀ g, (Value.slice As6 rn.length cs6).ownBlock = some g → g < Vs2.heap.size ∨ Vs3.heap.size ≤ g) := Lib.hid (fun g hg => by
       rcases as6 with h | h
       ·rw [h] at hg; exact G2.out g hg
       ·rw [h] at hg; injection hg with hg; right; rw [← hg]; exact Nat.le_trans (by simp) (gs5.size))
      clear os6
      simp only [List.getElem_toArray, List.getElem_cons_succ, List.getElem_cons_zero, Act.put, List.setIfInBounds_toArray, List.set_cons_zero, List.set_cons_succ]
      refine but_take (f := 17) (i := 16) (v := ?vs16) rfl (by kernel_rfl) (by kernel_rfl) (by kernel_rfl) (by kernel_rfl) (by kernel_rfl) (fun _ _ _ h => h) (Or.inl ⟨(by rfl), ?hys16⟩) hSs6 ?rests16
      case hys16 =>
       intro W hW
       go_simp
       exact rfl
      simp only [List.getElem_toArray, List.getElem_cons_succ, List.getElem_cons_zero, Act.put, List.setIfInBounds_toArray, List.set_cons_zero, List.set_cons_succ]
      refine but_run (i := 17) (by kernel_rfl) rfl (by rfl) ?_
      simp only [List.getElem_toArray, List.getElem_cons_succ, List.getElem_cons_zero]
      intro K HK
      go_wp2_with fail
      refine HK.out _ _ (fun h => absurd rfl h) ?_
      clear HK
      refine but_done (by kernel_rfl) ?_
      have hW7 : Below W6.heap.size W6 Vs6 := hSs6
      have hsz := hW7.size
      have hN1 : W6.heap.size ≤ Vs2.heap.size := (grown_below (bstep (Below.drew1 _) (bal1 _ _)) gs2 Rs1.out (Nat.le_refl _)).size
      have hX1 : OwnsL Vs6 (fun b => Q b ∧ b < wr.heap.size) xs (ts.map setsD) := HXO.out.on (bstep HWW.out hW7)
      have hX2 : Owns Vs6 (fun b => Vs2.heap.size ≤ b ∧ b < Vs3.heap.size) (.slice Ax (nodeNewK KK).length cx) (setsD (nodeNewK KK)) := by
       have h1 := ON.out.on (bal1 Vs3 (.cells #[.slice Ax (nodeNewK KK).length cx] 62))
       have h2 := h1.keep (w' := Vs5) (fun b hb hl => gs5.block b hl (fun e => by have := GB1.out b e.symm; have := hb.1; omega))
       exact h2.keep (fun b hb hl => gs6.block b hl (fun e => by rcases G2.out b e.symm with h | h <;> omega))
      have hSW := OwnsL.swap (U := fun b => (((Bb ≤ b ∧ b ≠ X) ∧ b ≠ w.heap.size ∧ b ≠ w.heap.size + 1) ∧ b < wr.heap.size) ∨ (Vs2.heap.size ≤ b ∧ b < Vs3.heap.size)) hX1 (.one hX2) i (i + 2) (by omega) (fun b hb => .inl ⟨HQ.out b hb.1, hb.2⟩) (fun b hb => .inr hb) (fun b hb hb' => by have := hb.2; have := hb'.1; omega)
      have HRN := rowP_owns (P := fun b => (((Bb ≤ b ∧ b ≠ X) ∧ b ≠ w.heap.size ∧ b ≠ w.heap.size + 1) ∧ b < wr.heap.size) ∨ W6.heap.size ≤ b) Rs6.out (cs := rn.map setsD) (by
        rw [HM2.out]
        refine hSW.mono (fun b hb => ⟨hb.elim .inl (fun h => .inr (by omega)), fun e => ?_⟩)
        have h1 := G3.out b e
        have h2 := (row_lt Rs6.out b e).2
        omega) (fun g hg => .inr (row_lt Rs6.out g hg).2) (by simp)
      have FIN : Hid (JoinEnd w V4 Bb X rl rn (Vs6.setCell ⟨V4.heap.size, 1, none⟩ (.slice As6 rn.length cs6))) := Lib.hid ⟨_, _, _, _, box_set (i := 1) (u := .slice As6 rn.length cs6) (box_on QO6.out hW7), (HB6.out.trans (hW7.mono (by omega))).setCell (p := ⟨V4.heap.size, 1, none⟩) (Nat.le_refl _) (.slice As6 rn.length cs6), fun b => V4.heap.size < b ∧ b < W6.heap.size, fun b => (((Bb ≤ b ∧ b ≠ X) ∧ b ≠ w.heap.size ∧ b ≠ w.heap.size + 1) ∧ b < wr.heap.size) ∨ W6.heap.size ≤ b, fun b hb => by omega, fun b hb => by omega, fun b hb hb' => by omega, (RL.out.on hW7).keep (fun b hb _ => Below.heap_setCell _ _ _ _ (by have := hb.1; simp; omega)), HRN.keep (fun b hb _ => Below.heap_setCell _ _ _ _ (by simp; omega))⟩
      go_wp2_with fail
      go_meet
      exact FIN
    case rest =>
     obtain ⟨Al, cl, An, cn, qe, hb7, tv⟩ := hcut.out
     obtain ⟨W7, rfl⟩ : ∃ W, W = wc := ⟨_, rfl⟩
     have hW7 : Below wr.heap.size wr W7 := bstep HBW.out hb7
     have qs := box_on QW.out hW7
     have qr := box_on Q1.out hW7
     have QE := Lib.hid qe
     obtain ⟨x0, x1, x2⟩ := box2 qe
     obtain ⟨y0, y1, y2⟩ := box2 qs
     have hz7 := hW7.size
     have n1 : ¬ V4.heap.size = w.heap.size := by omega
     have X8 : Hid (((W7.setCell ⟨w.heap.size, 0, none⟩ (.slice Al rl.length cl)).setCell ⟨w.heap.size, 1, none⟩ (.slice An rn.length cn)).heap[w.heap.size]? = some (.cells #[.slice Al rl.length cl, .slice An rn.length cn] 27 (0, 0))) := Lib.hid (box_set (i := 1) (u := .slice An rn.length cn) (box_set (i := 0) (u := .slice Al rl.length cl) qs))
     have HO := Lib.hid (only_two W7 w.heap.size 0 1 (.slice Al rl.length cl) (.slice An rn.length cn))
     have QR8 := Lib.hid (box_only qr HO.out (fun e => by omega))
     have TV8 := Lib.hid (tv.keep (w' := (W7.setCell ⟨w.heap.size, 0, none⟩ (.slice Al rl.length cl)).setCell ⟨w.heap.size, 1, none⟩ (.slice An rn.length cn)) (fun b hb hl => HO.out.block b hl (fun e => hb.2.1 e)))
     have HB8 := Lib.hid ((bstep HB.out hW7).trans (HO.out.below (bstep HB.out hW7).size (fun b hb => by omega)))
     clear qe hb7 tv hcut qs qr HO QO6 HB6 RL HWW QT6 HAN OK6
     go_upto_region 3 with (fail)
     clear x0 x1 x2 y0 y1 y2
     generalize (W7.setCell ⟨w.heap.size, 0, none⟩ (.slice Al rl.length cl)).setCell ⟨w.heap.size, 1, none⟩ (.slice An rn.length cn) = W8 at *
     obtain ⟨x0, x1, x2⟩ := box2 X8.out
     go_wp2_with fail
     refine (l6Pair_any _ _ rl rn _ TV8.out.reads (by have := HJL.out; omega) (by have := HJS.out; omega)).mono ?_
     rintro e w9 ⟨rfl, b9⟩
     have NEW : Hid (JoinR w Bb X J w9 (.int .i64 (pairK rn))) := Lib.hid ⟨rl, rn, _, _, _, _, rfl, box_on X8.out b9, box_on QR8.out b9, TV8.out.on b9, HJ2.out, HEQ.out, by have := HJL.out; omega, by have := HJS.out; omega, bstep HB8.out b9⟩
     have HD9 := Lib.hid (lenN1_box (box_on X8.out b9))
     clear b9 x0 x1 x2
     go_wp2
     go_roundw
     case rel => exact NEW
     case measure => rw [HD.out, HD9.out]; have h9 : rn.length + 1 = ts.length := HJL.out; omega
end Go.Proofs.YthopkhpiikiknaaGreat
namespace Go.Proofs.YthopkhpiikiknaaGreat
open Go.RowKit
set_option maxRecDepth 100000
set_option linter.unusedSimpArgs false
set_option linter.unusedVariables false
theorem wpList_zeros {P : Program} {ops : Array Oper} {rest : List Oper} {o : Oper} {a : Act} {Q : Exit → Act → World → Prop} (w : World) (hgd : o.guard = none) (s x : Operand) (t tn : Nat)
  (hop : o.op = .call { callee := .builtin .append, args := #[s, x], argTypes := #[t, tn] }) (v u v' : Value) (w' : World) (hs : a.eval s = v) (hx : a.eval x = u) (hrun : ∀ ty, (Builtin.append_ #[t, tn] ty #[v, u]).run P w = .ok v' w')
  (h : wpList P ops Q rest (a.put o.dst v') w') : wpList P ops Q (o :: rest) a w := by
 refine wpList_plain hgd fun K hK => ?_
 unfold Oper.wp execOp
 simp only [hop, resolve, invoke, builtin, Sem.run_bind, Sem.run_pure, Result.andThen_ok, List.map_toArray, List.map_cons, List.map_nil, hs, hx, hrun]
 exact hK _ _ h
def GrowsK (w : World) (e : Ending) (w' : World) : Prop := ∃ v, e = .returned v ∧ RowK w' w.heap.size v [] ∧ Below w.heap.size w w'
set_option maxHeartbeats 1000000 in
theorem grow_any (n : Nat) (w : World) (hn : n ≤ 2097152) : Calls Tryz.prog 102 #[.slice none 0 0, .int .i64 (n : Int)] w (GrowsK w) := by
 have h1 : ¬ ((n : Int) < 0) := by omega
 have h3 : IntKind.i64.wrap (n : Int) = (n : Int) := by rw [IntKind.wrap_i64]; omega
 have h5 : IntKind.i64.wrap 0 = 0 := by rw [IntKind.wrap_i64]; omega
 rcases Nat.eq_zero_or_pos n with h0 | h0
 ·subst h0
  go_enter Tryz.func102, Tryz.ntmps102
  go_wp2
  go_ret
  exact ⟨_, rfl, ⟨rfl, .inl ⟨rfl, rfl⟩⟩, Below.refl _ _⟩
 ·obtain ⟨i, hi, hz, hs, hb⟩ := info_parts key_info
  have h4 : (0 : Int) < (n : Int) := by omega
  have h6 : ¬ n = 0 := by omega
  have hrz : ∀ ty, (Builtin.append_ #[36, 3] ty #[.slice none 0 0, .int .i64 (n : Int)]).run Tryz.prog w = .ok (.slice (some ⟨w.heap.size, 0, none⟩) n (grownCap w n 0 29)) (w.drew.alloc (.cells (Builtin.zeroCells (Value.agg #[.int .i64 0, .int .i64 0, .int .i64 0, .int .i64 0, .int .i64 0]).cells n ++ Builtin.zeroCells (Value.agg #[.int .i64 0, .int .i64 0, .int .i64 0, .int .i64 0, .int .i64 0]).cells (grownCap w n 0 29 - n)) 29)) := fun ty =>
   Lib.run_append_nil_zeros w 36 3 ty 29 i _ .i64 .i64 Tryz.underlying36 Tryz.underlying3 hi hz n h0 (by omega) (by omega) (by rw [hb]; omega)
  have hG1 : n ≤ grownCap w n 0 29 := grownCap_ge w n 0 _
  have hG2 : grownCap w n 0 29 ≤ maxLen := grownCap_le_maxLen w n 0 _ (by unfold maxLen; omega)
  obtain ⟨G, hG⟩ : ∃ G, G = grownCap w n 0 29 := ⟨_, rfl⟩
  rw [← hG] at hrz hG1 hG2
  obtain ⟨ob, hob⟩ : ∃ o : Array Value, o = Builtin.zeroCells (Value.agg #[.int .i64 0, .int .i64 0, .int .i64 0, .int .i64 0, .int .i64 0]).cells n ++ Builtin.zeroCells (Value.agg #[.int .i64 0, .int .i64 0, .int .i64 0, .int .i64 0, .int .i64 0]).cells (G - n) := ⟨_, rfl⟩
  rw [← hob] at hrz
  have hsz : ob.size = G * 5 := by
   rw [hob, Array.size_append, size_zeroCells, size_zeroCells]
   show n * 5 + (G - n) * 5 = G * 5
   omega
  have HR := Lib.hid hsz
  clear hsz hob hG hi hz hs hb
  have hG3 : (0 : Int) ≤ (G : Int) := by omega
  go_enter Tryz.func102, Tryz.ntmps102
  go_wp2_with (first | (at_builtin; refine wpList_zeros _ rfl (.tmp 20) (.tmp 21) 36 3 rfl _ _ _ _ rfl rfl hrz ?_) | fail)
  go_wp2
  go_ret
  exact ⟨_, rfl, ⟨rfl, .inr ⟨w.heap.size, G, ob, rfl, Nat.le_refl _, heap_alloc_new w.drew _, Nat.zero_le _, hG2, HR.out, rfl⟩⟩, (Below.refl _ _).drew.alloc (Nat.le_refl _) _⟩
theorem flat_take {ns : List (List KeyD)} {k : Nat} (h : k < ns.length) : (ns.take (k + 1)).flatten = (ns.take k).flatten ++ ns[k] := by
 rw [List.take_succ_eq_append_getElem h, List.flatten_append]
 simp
theorem flat_takelen (ns : List (List KeyD)) (k : Nat) : ((ns.take k).flatten).length ≤ sumN ns := by
 rw [flat_sum]
 exact sumN_take_le ns k
set_option maxHeartbeats 4000000 in
theorem concat_any (v : Value) (ns : List (List KeyD)) (w : World) (hv : Reads w w.heap.size v (setsD ns)) (h1 : ns.length ≤ 1048576) (h2 : sumN ns ≤ 1048576) :
  Calls Tryz.prog 76 #[v] w (NewK w ns.flatten) := by
 obtain ⟨A, c, rfl, _, _⟩ := hv.lenN
 have HV := Lib.hid hv
 have HS2 := Lib.hid h2
 clear hv
 go_enter Tryz.func76, Tryz.ntmps76
 go_wp2
 go_loopw [3, 11] (fun t i wr => ∃ k : Nat, k ≤ ns.length ∧ i = .int .i64 k ∧ t = .int .i64 (sumN (ns.take k) : Nat) ∧ Hid (Below w.heap.size w wr)) (fun _ i _ => ns.length - (intOf i).toNat)
 case atStart => exact ⟨0, Nat.zero_le _, rfl, by simp [sumN], Lib.hid (Below.refl _ _)⟩
 case round =>
  obtain ⟨k, hk, rfl, rfl, HW⟩ := hrel
  by_cases hlt : k < ns.length
  ·obtain ⟨b, off, rfl, hbb, hc⟩ := (HV.out.on HW.out).set hlt
   obtain ⟨A1, d1, c1, _, _, _⟩ := hc k hlt
   have T1 := Lib.hid (sumN_take hlt)
   have hsum := sumN_take_le ns k
   have hl := sumN_mem (List.getElem_mem hlt)
   have i1 : (k : Int) < (ns.length : Int) := by omega
   have i2 : (0 : Int) ≤ (k : Int) := by omega
   clear hc
   generalize hq : sumN (ns.take k) = q at *
   have i3 : IntKind.i64.wrap ((q : Int) + ((ns[k]).length : Int)) = (q : Int) + ((ns[k]).length : Int) := by rw [IntKind.wrap_i64]; omega
   have i4 : ¬ ((q : Int) + ((ns[k]).length : Int) < 0) := by omega
   clear hq
   go_wp2
   go_roundw
   case rel => exact ⟨k + 1, by omega, by go_num, by rw [T1.out]; go_num, HW⟩
   case measure => simp [intOf]; omega
  ·have e : k = ns.length := by omega
   subst e
   rw [List.take_length]
   go_wp2_with fail
   refine (grow_any (sumN ns) _ (by omega)).mono ?_
   rintro r w1 ⟨vg, rfl, og, bg⟩
   have HG := Lib.hid og
   have BG := Lib.hid (bstep HW.out bg)
   have HZ := Lib.hid HW.out.size
   clear og bg
   obtain ⟨Ag, cg, rfl, _, _⟩ := HG.out.shape
   go_wp2
   go_loopw [6, 27] (fun o i wr => ∃ k : Nat, k ≤ ns.length ∧ i = .int .i64 k ∧ Hid (RowK wr w.heap.size o (ns.take k).flatten) ∧ Hid (Below w.heap.size w wr)) (fun _ i _ => ns.length - (intOf i).toNat)
   case atStart => exact ⟨0, Nat.zero_le _, rfl, Lib.hid (HG.out.mono HZ.out), BG⟩
   case round =>
    clear HG BG HZ HW
    obtain ⟨k, hk, rfl, HR, HW⟩ := hrel
    obtain ⟨Ao, co, rfl, _, _⟩ := HR.out.shape
    by_cases hlt : k < ns.length
    ·obtain ⟨b, off, rfl, hbb, hc⟩ := (HV.out.on HW.out).set hlt
     obtain ⟨A1, d1, c1, _, _, r1⟩ := hc k hlt
     have T1 := Lib.hid (flat_take hlt)
     have HL := Lib.hid (flat_takelen ns k)
     have hl := sumN_mem (List.getElem_mem hlt)
     have HAt := Lib.hid r1.atK
     have HZ := Lib.hid HW.out.size
     have i1 : (k : Int) < (ns.length : Int) := by omega
     have i2 : (0 : Int) ≤ (k : Int) := by omega
     clear hc r1
     go_wp2_with (at_builtin; refine wpList_appK _ rfl (.tmp 31) (.tmp 32) rfl w.heap.size _ (ns.take k).flatten rfl HR.out A1 (ns[k]).length d1 ns[k] rfl rfl HAt.out (by have := HL.out; omega) HZ.out ?_; intro v1 w1 o1 b1; clear HR HAt)
     have HO := Lib.hid o1
     have B3 := Lib.hid (HW.out.trans b1)
     clear o1 b1
     go_roundw
     case rel => exact ⟨k + 1, by omega, by go_num, Lib.hid (by rw [T1.out]; exact HO.out), B3⟩
     case measure => simp [intOf]; omega
    ·have e : k = ns.length := by omega
     subst e
     have h := HR.out
     rw [List.take_length] at h
     have HF := Lib.hid h
     clear h
     go_wp2
     go_ret
     refine ⟨_, rfl, ?_, HW.out⟩
     rw [List.take_length]
     exact HF.out
end Go.Proofs.YthopkhpiikiknaaGreat
namespace Go.Proofs.YthopkhpiikiknaaGreat
open Go.RowKit
set_option maxRecDepth 100000
set_option linter.unusedSimpArgs false
set_option linter.unusedVariables false

theorem reads_two {w : World} {b : Nat} {v1 v2 : Value} {K1 K2 : List KeyD} (h : w.heap[b]? = some (.cells #[v1, v2] 36 (0, 0))) (h1 : Reads w w.heap.size v1 (keysD K1)) (h2 : Reads w w.heap.size v2 (keysD K2)) (hb : b < w.heap.size) : Reads w w.heap.size (.slice (some ⟨b, 0, none⟩) 2 2) (setsD [K1, K2]) := by
 refine .row b 0 2 2 _ 1 [v1, v2] _ hb (Nat.le_refl _) (by unfold maxLen; omega) rfl rfl (fun i hi => ?_) (fun i hi h' => ?_)
 ·rw [Nat.zero_add, cell_of_row _ _ _ _ _ _ h]
  match i, hi with
  |0, _ => rfl
  |1, _ => rfl
 ·match i, hi with
  |0, _ => exact h1
  |1, _ => exact h2
/-- Between two rounds of impl.joinNodes. -/
def JoinI (w : World) (S : Nat → Prop) (J : TreeD) (wr : World) (q : Value) : Prop := ∃ (lo : List Int) (ts : List NodeD) (A : Option Addr) (c : Nat) (B : Option Addr) (d : Nat), q = .int .i64 (pairK ts) ∧ wr.heap[w.heap.size]? = some (.cells #[.slice A lo.length c, .slice B ts.length d] 27 (0, 0)) ∧ wr.heap[w.heap.size + 1]? = some (.cells #[.slice none 0 0, .slice none 0 0] 27 (0, 0)) ∧
 TreeC wr (fun b => (S b ∧ b < w.heap.size) ∨ w.heap.size + 2 ≤ b) (.slice A lo.length c) (.slice B ts.length d) lo ts ∧ joinK (lo, ts) = J ∧ lo.length = ts.length ∧ ts.length ≤ 1000000 ∧ sumT ts ≤ 1048576 ∧ Below w.heap.size w wr
theorem joinAt_setI {lo : List Int} {ts : List NodeD} {i : Nat} (hl : i < lo.length) (h1 : i < ts.length) (h2 : i + 1 < ts.length) : joinAt (lo, ts) i = (setL lo i [lo[i]] (i + 2), setL ts i [nodeNewK (nodeKeysK ts[i] ++ nodeKeysK ts[i + 1])] (i + 2)) := by
 unfold joinAt
 simp only [getD_node h1, getD_node h2]
 congr 1
 unfold setL
 rw [List.take_succ_eq_append_getElem hl]
set_option maxHeartbeats 16000000 in
theorem joinNodes_any (vl vn : Value) (lo : List Int) (ts : List NodeD) (S : Nat → Prop) (w : World) (hv : TreeC w S vl vn lo ts) (hlen : lo.length = ts.length) (hn : ts.length ≤ 1000000) (hs : sumT ts ≤ 1048576) :
  Calls Tryz.prog 36 #[.agg #[vl, vn]] w (MakesC w (fun b => S b ∨ w.heap.size ≤ b) (joinK (lo, ts)).1 (joinK (lo, ts)).2) := by
 obtain ⟨J, hJ⟩ : ∃ J, joinK (lo, ts) = J := ⟨_, rfl⟩
 rw [hJ]
 obtain ⟨A, c, B, d, rfl, rfl⟩ := hv.reads.shape
 have hb2 := bal2 w (.cells #[.slice A lo.length c, .slice B ts.length d] 27) (.cells #[.slice none 0 0, .slice none 0 0] 27)
 obtain ⟨q0, q1⟩ := al2 w (.cells #[.slice A lo.length c, .slice B ts.length d] 27) (.cells #[.slice none 0 0, .slice none 0 0] 27)
 have HV := Lib.hid (hv.lt.on hb2)
 have HB := Lib.hid hb2
 have Q0 := Lib.hid q0
 have Q1 := Lib.hid q1
 have HJ := Lib.hid hJ
 have HLEN := Lib.hid hlen
 clear hv hb2 q0 q1 hJ hlen
 go_enter Tryz.func36, Tryz.ntmps36
 go_upto_region 1 with (fail)
 generalize (w.alloc (.cells #[.slice A lo.length c, .slice B ts.length d] 27)).alloc (.cells #[.slice none 0 0, .slice none 0 0] 27) = W at *
 obtain ⟨x0, x1, x2⟩ := box2 Q0.out
 go_wp2_with fail
 refine (implPair_any _ _ lo ts _ HV.out.reads (by omega) (by omega)).mono ?_
 rintro e w1 ⟨rfl, b1⟩
 have REL : Hid (JoinI w S J w1 (.int .i64 (pairK ts))) := Lib.hid ⟨lo, ts, A, c, B, d, rfl, box_on Q0.out b1, box_on Q1.out b1, (HV.out.on b1).mono (fun b hb => .inl hb), HJ.out, HLEN.out, hn, hs, bstep HB.out b1⟩
 clear x0 x1 x2 b1 Q0 Q1 HV HB HLEN HJ
 go_wp2
 go_loopw [3] (fun q wr => Hid (JoinI w S J wr q)) (fun _ wr => lenN1 w.heap.size wr)
 case atStart => exact REL
 case round =>
  clear REL hn hs
  obtain ⟨lo, ts, A, c, B, d, rfl, q0, q1, hv, hJ, hlen, hn, hs, hb⟩ := hrel.out
  rcases pair_spec ts with ⟨hp, _⟩ | ⟨i, hp, hlt, hfew, _⟩
  ·have hj : J = (lo, ts) := by rw [← hJ]; exact join_done hp
   rw [hp]
   have QR := Lib.hid q1
   have HO := Lib.hid (only_two wr (w.heap.size + 1) 0 1 (.slice A lo.length c) (.slice B ts.length d))
   have HV := Lib.hid hv
   have HB := Lib.hid hb
   have HJ := Lib.hid hj
   clear hlen
   obtain ⟨x0, x1, x2⟩ := box2 q0
   obtain ⟨y0, y1, y2⟩ := box2 q1
   clear hrel hJ hj hv hb q0 q1 hp
   go_wp2
   refine bodyPost_ret (v := .agg #[.slice A lo.length c, .slice B ts.length d]) (by simp [results, Tryz.results36, go_sem, *]) rfl ?_
   rw [HJ.out]
   refine ⟨_, _, rfl, (HV.out.keep (fun b hb hl => HO.out.block b hl (fun e => ?_))).mono (fun b hb => ?_), HB.out.trans (HO.out.below HB.out.size (fun b hb => by omega))⟩
   ·rcases hb with hb | hb <;> omega
   ·rcases hb with hb | hb
    ·exact .inl hb.1
    ·exact .inr (by omega)
  ·have hii : i < ts.length := by omega
   have hil : i < lo.length := by omega
   have hj := join_step (t := (lo, ts)) hp
   rw [joinAt_setI hil hii hlt] at hj
   have hjs := joinAt_sum (lo, ts) i hlt
   have hjl := joinAt_len (lo, ts) i hlt
   rw [joinAt_setI hil hii hlt] at hjs hjl
   rw [hp]
   obtain ⟨K1, hK1⟩ : ∃ K, nodeKeysK ts[i] = K := ⟨_, rfl⟩
   obtain ⟨K2, hK2⟩ : ∃ K, nodeKeysK ts[i + 1] = K := ⟨_, rfl⟩
   have hk1 := nodeKeys_len ts[i]
   have hk2 := nodeKeys_len ts[i + 1]
   have hm1 := small_at (show sumT ts ≤ 1100000 by omega) hii
   have hm2 := small_at (show sumT ts ≤ 1100000 by omega) hlt
   have hst1 := sumT_mem (List.getElem_mem hii)
   have hst2 := sumT_mem (List.getElem_mem hlt)
   have hfw := of_decide_eq_true hfew
   rw [hK1, hK2] at hfw
   rw [hK1] at hk1
   rw [hK2] at hk2
   rw [hK1, hK2] at hj hjs hjl
   obtain ⟨KK, hKK⟩ : ∃ K, K1 ++ K2 = K := ⟨_, rfl⟩
   have hkl : KK.length = K1.length + K2.length := by rw [← hKK]; simp
   have hkle : KK.length ≤ 6 := by omega
   rw [hKK] at hj hjs hjl
   have HKK : Hid ([K1, K2].flatten = KK) := Lib.hid (by rw [← hKK]; simp)
   have HK1 := Lib.hid hK1
   have HK2 := Lib.hid hK2
   obtain ⟨gl, offl, hAe, hbl, hcl⟩ := hv.reads.1.int hil
   subst hAe
   have E3 : Hid (wr.cell? ⟨gl, offl + i, none⟩ = some (.int .i64 lo[i])) := Lib.hid (hcl i hil)
   obtain ⟨b, off, hBe, hbb, hc⟩ := hv.reads.2.node hlt
   subst hBe
   obtain ⟨Aa, da, e1, _, _, r1⟩ := hc i hii
   obtain ⟨Ab, db, e2, _, _, r2⟩ := hc (i + 1) hlt
   have R1 := Lib.hid r1
   have R2 := Lib.hid r2
   have E1 := Lib.hid e1
   have E2 := Lib.hid e2
   have QW := Lib.hid q0
   have Q1 := Lib.hid q1
   have HB := Lib.hid hb
   have HT := Lib.hid hv.lt
   have HLEN := Lib.hid hlen
   have HD := Lib.hid (lenN1_box q0)
   have HJ2 := Lib.hid (hj.symm.trans hJ)
   have HJS := Lib.hid hjs
   have HJL := Lib.hid hjl
   have h2a := Nat.le_of_eq hlen
   have h2b := Nat.le_of_eq hlen.symm
   have hwr : w.heap.size + 1 < wr.heap.size := (Array.getElem?_eq_some_iff.1 q1).1
   have i1 : (i : Int) + 1 < (ts.length : Int) := by omega
   have i2 : (0 : Int) ≤ (i : Int) := by omega
   have i3 : (0 : Int) ≤ (i : Int) + 1 := by omega
   have i4 : (i : Int) < (ts.length : Int) := by omega
   have i16 : (i : Int) < (lo.length : Int) := by omega
   have i5 : ((i : Int) + 1).toNat = i + 1 := by omega
   have i6 : IntKind.i64.wrap ((i : Int) + 1) = (i : Int) + 1 := by rw [IntKind.wrap_i64]; omega
   have i7 : IntKind.i64.wrap ((i : Int) + 2) = (i : Int) + 2 := by rw [IntKind.wrap_i64]; omega
   clear hrel hj hjs hjl hJ hlen hb q0 q1 hv hc r1 r2 e1 e2 hp hfew hcl hK1 hK2 hKK hkl
   obtain ⟨x0, x1, x2⟩ := box2 QW.out
   go_upto_region 4 with (fail)
   clear x0 x1 x2
   refine but_begin (f := 15) (S := fun V => Below wr.heap.size wr V) (by kernel_rfl) ?_
   refine but_take (f := 15) (i := 0) (v := ?vd0) rfl (by kernel_rfl) (by kernel_rfl) (by kernel_rfl) (by kernel_rfl) (by kernel_rfl) (fun _ _ _ h => h) (Or.inl ⟨(by rfl), ?hyd0⟩) (Below.drew1 _) ?restd0
   case hyd0 =>
    intro W hW
    go_simp
    exact rfl
   simp only [List.getElem_toArray, List.getElem_cons_succ, List.getElem_cons_zero, Act.put, List.setIfInBounds_toArray, List.set_cons_zero, List.set_cons_succ]
   refine but_take (f := 15) (i := 1) (v := ?vd1) rfl (by kernel_rfl) (by kernel_rfl) (by kernel_rfl) (by kernel_rfl) (by kernel_rfl) (fun _ _ _ h => h) (Or.inl ⟨(by rfl), ?hyd1⟩) (Below.drew1 _) ?restd1
   case hyd1 =>
    intro W hW
    obtain ⟨x0, x1, x2⟩ := box2 (box_on QW.out hW)
    go_simp
    exact rfl
   simp only [List.getElem_toArray, List.getElem_cons_succ, List.getElem_cons_zero, Act.put, List.setIfInBounds_toArray, List.set_cons_zero, List.set_cons_succ]
   refine but_take (f := 15) (i := 2) (v := ?vd2) rfl (by kernel_rfl) (by kernel_rfl) (by kernel_rfl) (by kernel_rfl) (by kernel_rfl) (fun _ _ _ h => h) (Or.inl ⟨(by rfl), ?hyd2⟩) (Below.drew1 _) ?restd2
   case hyd2 =>
    intro W hW
    go_simp
    exact rfl
   simp only [List.getElem_toArray, List.getElem_cons_succ, List.getElem_cons_zero, Act.put, List.setIfInBounds_toArray, List.set_cons_zero, List.set_cons_succ]
   refine but_take (f := 15) (i := 3) (v := ?vd3) rfl (by kernel_rfl) (by kernel_rfl) (by kernel_rfl) (by kernel_rfl) (by kernel_rfl) (fun _ _ _ h => h) (Or.inl ⟨(by rfl), ?hyd3⟩) (Below.drew1 _) ?restd3
   case hyd3 =>
    intro W hW
    go_simp
    exact rfl
   simp only [List.getElem_toArray, List.getElem_cons_succ, List.getElem_cons_zero, Act.put, List.setIfInBounds_toArray, List.set_cons_zero, List.set_cons_succ]
   refine but_take (f := 15) (i := 4) (v := ?vd4) rfl (by kernel_rfl) (by kernel_rfl) (by kernel_rfl) (by kernel_rfl) (by kernel_rfl) (fun _ _ _ h => h) (Or.inl ⟨(by rfl), ?hyd4⟩) (Below.drew1 _) ?restd4
   case hyd4 =>
    intro W hW
    have e1 := (hW.cell (p := ⟨b, off + i, none⟩) hbb).trans E1.out
    have e2 := (hW.cell (p := ⟨b, off + (i + 1), none⟩) hbb).trans E2.out
    go_simp
    exact rfl
   simp only [List.getElem_toArray, List.getElem_cons_succ, List.getElem_cons_zero, Act.put, List.setIfInBounds_toArray, List.set_cons_zero, List.set_cons_succ]
   refine but_take (f := 15) (i := 6) (v := ?vd6) rfl (by kernel_rfl) (by kernel_rfl) (by kernel_rfl) (by kernel_rfl) (by kernel_rfl) (fun _ _ _ h => h) (Or.inl ⟨(by rfl), ?hyd6⟩) (Below.drew1 _) ?restd6
   case hyd6 =>
    intro W hW
    go_simp
    exact rfl
   simp only [List.getElem_toArray, List.getElem_cons_succ, List.getElem_cons_zero, Act.put, List.setIfInBounds_toArray, List.set_cons_zero, List.set_cons_succ]
   refine but_take (f := 15) (i := 7) (v := ?vd7) rfl (by kernel_rfl) (by kernel_rfl) (by kernel_rfl) (by kernel_rfl) (by kernel_rfl) (fun _ _ _ h => h) (Or.inl ⟨(by rfl), ?hyd7⟩) (Below.drew1 _) ?restd7
   case hyd7 =>
    intro W hW
    obtain ⟨x0, x1, x2⟩ := box2 (box_on QW.out hW)
    go_simp
    exact rfl
   simp only [List.getElem_toArray, List.getElem_cons_succ, List.getElem_cons_zero, Act.put, List.setIfInBounds_toArray, List.set_cons_zero, List.set_cons_succ]
   refine but_take (f := 15) (i := 8) (v := ?vd8) rfl (by kernel_rfl) (by kernel_rfl) (by kernel_rfl) (by kernel_rfl) (by kernel_rfl) (fun _ _ _ h => h) (Or.inl ⟨(by rfl), ?hyd8⟩) (Below.drew1 _) ?restd8
   case hyd8 =>
    intro W hW
    go_simp
    exact rfl
   simp only [List.getElem_toArray, List.getElem_cons_succ, List.getElem_cons_zero, Act.put, List.setIfInBounds_toArray, List.set_cons_zero, List.set_cons_succ]
   refine but_take (f := 15) (i := 9) (v := ?vd9) rfl (by kernel_rfl) (by kernel_rfl) (by kernel_rfl) (by kernel_rfl) (by kernel_rfl) (fun _ _ _ h => h) (Or.inl ⟨(by rfl), ?hyd9⟩) (Below.drew1 _) ?restd9
   case hyd9 =>
    intro W hW
    go_simp
    exact rfl
   simp only [List.getElem_toArray, List.getElem_cons_succ, List.getElem_cons_zero, Act.put, List.setIfInBounds_toArray, List.set_cons_zero, List.set_cons_succ]
   refine but_take (f := 15) (i := 10) (v := ?vd10) rfl (by kernel_rfl) (by kernel_rfl) (by kernel_rfl) (by kernel_rfl) (by kernel_rfl) (fun _ _ _ h => h) (Or.inl ⟨(by rfl), ?hyd10⟩) (Below.drew1 _) ?restd10
   case hyd10 =>
    intro W hW
    go_simp
    exact rfl
   simp only [List.getElem_toArray, List.getElem_cons_succ, List.getElem_cons_zero, Act.put, List.setIfInBounds_toArray, List.set_cons_zero, List.set_cons_succ]
   refine but_take (f := 15) (i := 11) (v := ?vd11) rfl (by kernel_rfl) (by kernel_rfl) (by kernel_rfl) (by kernel_rfl) (by kernel_rfl) (fun _ _ _ h => h) (Or.inl ⟨(by rfl), ?hyd11⟩) (Below.drew1 _) ?restd11
   case hyd11 =>
    intro W hW
    have e1 := (hW.cell (p := ⟨b, off + i, none⟩) hbb).trans E1.out
    have e2 := (hW.cell (p := ⟨b, off + (i + 1), none⟩) hbb).trans E2.out
    go_simp
    exact rfl
   simp only [List.getElem_toArray, List.getElem_cons_succ, List.getElem_cons_zero, Act.put, List.setIfInBounds_toArray, List.set_cons_zero, List.set_cons_succ]
   refine but_run (i := 5) (by kernel_rfl) rfl (by rfl) ?_
   simp only [List.getElem_toArray, List.getElem_cons_succ, List.getElem_cons_zero]
   intro K HK
   go_wp2_with fail
   refine (implNodeKeys_any _ ts[i] _ (R1.out.on (Below.drew1 _)) (by omega) (by omega)).mono ?_
   rintro r Vd1 ⟨va, rfl, oa, hbd1⟩
   rw [HK1.out] at oa
   obtain ⟨A1, c1, rfl, _, _⟩ := oa.shape
   go_wp2_with fail
   have hSd1 : (fun V => Below wr.heap.size wr V) Vd1 := bstep (Below.drew1 _) hbd1
   refine HK.out _ _ (fun _ => hSd1) ?_
   clear HK
   have OA := Lib.hid oa.owns.reads
   clear oa
   refine but_run (i := 12) (by kernel_rfl) rfl (by rfl) ?_
   simp only [List.getElem_toArray, List.getElem_cons_succ, List.getElem_cons_zero]
   intro K HK
   go_wp2_with fail
   refine (implNodeKeys_any _ ts[i + 1] _ (R2.out.on hSd1) (by omega) (by omega)).mono ?_
   rintro r Vd2 ⟨vb, rfl, ob, hbd2⟩
   rw [HK2.out] at ob
   obtain ⟨A2, c2, rfl, _, _⟩ := ob.shape
   go_wp2_with fail
   have hSd2 : (fun V => Below wr.heap.size wr V) Vd2 := bstep hSd1 hbd2
   refine HK.out _ _ (fun _ => hSd2) ?_
   clear HK
   replace OA := Lib.hid (OA.out.on hbd2)
   have OB := Lib.hid ob.owns.reads
   clear ob
   refine but_run (i := 13) (by kernel_rfl) rfl (by rfl) ?_
   simp only [List.getElem_toArray, List.getElem_cons_succ, List.getElem_cons_zero]
   intro K HK
   go_wp2_with fail
   have hSd3 : (fun V => Below wr.heap.size wr V) (Vd2.alloc (.cells #[.slice A1 K1.length c1, .slice A2 K2.length c2] 36)) := bstep hSd2 (bal1 _ _)
   refine HK.out _ _ (fun _ => hSd3) ?_
   clear HK
   have hzd3 : Vd2.heap.size < (Vd2.alloc (.cells #[.slice A1 K1.length c1, .slice A2 K2.length c2] 36)).heap.size := by simp
   have OC := Lib.hid (reads_two (al1 Vd2 (.cells #[.slice A1 K1.length c1, .slice A2 K2.length c2] 36)) (OA.out.on (bal1 Vd2 (.cells #[.slice A1 K1.length c1, .slice A2 K2.length c2] 36))) (OB.out.on (bal1 Vd2 (.cells #[.slice A1 K1.length c1, .slice A2 K2.length c2] 36))) hzd3)
   generalize Vd2.alloc (.cells #[.slice A1 K1.length c1, .slice A2 K2.length c2] 36) = Vnd3 at *
   refine but_run (i := 14) (by kernel_rfl) rfl (by rfl) ?_
   simp only [List.getElem_toArray, List.getElem_cons_succ, List.getElem_cons_zero]
   intro K HK
   go_wp2_with fail
   refine (concat_any _ [K1, K2] _ OC.out (by simp) (by simp [sumN]; omega)).mono ?_
   rintro r Vd4 ⟨vk, rfl, ok, hbd4⟩
   rw [HKK.out] at ok
   obtain ⟨A3, c3, rfl, _, _⟩ := ok.shape
   go_wp2_with fail
   have hSd4 : (fun V => Below wr.heap.size wr V) Vd4 := bstep hSd3 hbd4
   refine HK.out _ _ (fun _ => hSd4) ?_
   clear HK
   have OKK := Lib.hid ok
   clear ok OA OB OC
   refine but_run (i := 15) (by kernel_rfl) rfl (by rfl) ?_
   simp only [List.getElem_toArray, List.getElem_cons_succ, List.getElem_cons_zero]
   intro K HK
   go_wp2_with fail
   refine HK.out _ _ (fun h => absurd rfl h) ?_
   clear HK
   refine but_done (by kernel_rfl) ?_
   have B4 : Below wr.heap.size wr Vd4 := hSd4
   have HB4 := Lib.hid B4
   have OKW := Lib.hid (OKK.out.on (Below.refl _ _))
   obtain ⟨W4, hW4⟩ : ∃ W, Vd4 = W := ⟨_, rfl⟩
   rw [hW4] at HB4 OKW ⊢
   clear B4 OKK hW4
   have hz4 := HB4.out.size
   replace QW := Lib.hid (box_on QW.out HB4.out)
   replace Q1 := Lib.hid (box_on Q1.out HB4.out)
   replace HT := Lib.hid (HT.out.on HB4.out)
   replace E3 := Lib.hid ((HB4.out.cell (p := ⟨gl, offl + i, none⟩) hbl).trans E3.out)
   have hbl4 : gl < W4.heap.size := by omega
   go_upto_region 5 with (fail)
   refine but_begin (f := 14) (S := fun V => Below W4.heap.size W4 V) (by kernel_rfl) ?_
   refine but_take (f := 14) (i := 0) (v := ?ve0) rfl (by kernel_rfl) (by kernel_rfl) (by kernel_rfl) (by kernel_rfl) (by kernel_rfl) (fun _ _ _ h => h) (Or.inl ⟨(by rfl), ?hye0⟩) (Below.drew1 _) ?reste0
   case hye0 =>
    intro W hW
    obtain ⟨x0, x1, x2⟩ := box2 (box_on QW.out hW)
    go_simp
    exact rfl
   simp only [List.getElem_toArray, List.getElem_cons_succ, List.getElem_cons_zero, Act.put, List.setIfInBounds_toArray, List.set_cons_zero, List.set_cons_succ]
   refine but_take (f := 14) (i := 1) (v := ?ve1) rfl (by kernel_rfl) (by kernel_rfl) (by kernel_rfl) (by kernel_rfl) (by kernel_rfl) (fun _ _ _ h => h) (Or.inl ⟨(by rfl), ?hye1⟩) (Below.drew1 _) ?reste1
   case hye1 =>
    intro W hW
    go_simp
    exact rfl
   simp only [List.getElem_toArray, List.getElem_cons_succ, List.getElem_cons_zero, Act.put, List.setIfInBounds_toArray, List.set_cons_zero, List.set_cons_succ]
   refine but_take (f := 14) (i := 2) (v := ?ve2) rfl (by kernel_rfl) (by kernel_rfl) (by kernel_rfl) (by kernel_rfl) (by kernel_rfl) (fun _ _ _ h => h) (Or.inl ⟨(by rfl), ?hye2⟩) (Below.drew1 _) ?reste2
   case hye2 =>
    intro W hW
    go_simp
    exact rfl
   simp only [List.getElem_toArray, List.getElem_cons_succ, List.getElem_cons_zero, Act.put, List.setIfInBounds_toArray, List.set_cons_zero, List.set_cons_succ]
   refine but_take (f := 14) (i := 3) (v := ?ve3) rfl (by kernel_rfl) (by kernel_rfl) (by kernel_rfl) (by kernel_rfl) (by kernel_rfl) (fun _ _ _ h => h) (Or.inl ⟨(by rfl), ?hye3⟩) (Below.drew1 _) ?reste3
   case hye3 =>
    intro W hW
    go_simp
    exact rfl
   simp only [List.getElem_toArray, List.getElem_cons_succ, List.getElem_cons_zero, Act.put, List.setIfInBounds_toArray, List.set_cons_zero, List.set_cons_succ]
   refine but_take (f := 14) (i := 4) (v := ?ve4) rfl (by kernel_rfl) (by kernel_rfl) (by kernel_rfl) (by kernel_rfl) (by kernel_rfl) (fun _ _ _ h => h) (Or.inl ⟨(by rfl), ?hye4⟩) (Below.drew1 _) ?reste4
   case hye4 =>
    intro W hW
    go_simp
    exact rfl
   simp only [List.getElem_toArray, List.getElem_cons_succ, List.getElem_cons_zero, Act.put, List.setIfInBounds_toArray, List.set_cons_zero, List.set_cons_succ]
   refine but_take (f := 14) (i := 5) (v := ?ve5) rfl (by kernel_rfl) (by kernel_rfl) (by kernel_rfl) (by kernel_rfl) (by kernel_rfl) (fun _ _ _ h => h) (Or.inl ⟨(by rfl), ?hye5⟩) (Below.drew1 _) ?reste5
   case hye5 =>
    intro W hW
    obtain ⟨x0, x1, x2⟩ := box2 (box_on QW.out hW)
    go_simp
    exact rfl
   simp only [List.getElem_toArray, List.getElem_cons_succ, List.getElem_cons_zero, Act.put, List.setIfInBounds_toArray, List.set_cons_zero, List.set_cons_succ]
   refine but_take (f := 14) (i := 6) (v := ?ve6) rfl (by kernel_rfl) (by kernel_rfl) (by kernel_rfl) (by kernel_rfl) (by kernel_rfl) (fun _ _ _ h => h) (Or.inl ⟨(by rfl), ?hye6⟩) (Below.drew1 _) ?reste6
   case hye6 =>
    intro W hW
    go_simp
    exact rfl
   simp only [List.getElem_toArray, List.getElem_cons_succ, List.getElem_cons_zero, Act.put, List.setIfInBounds_toArray, List.set_cons_zero, List.set_cons_succ]
   refine but_take (f := 14) (i := 7) (v := ?ve7) rfl (by kernel_rfl) (by kernel_rfl) (by kernel_rfl) (by kernel_rfl) (by kernel_rfl) (fun _ _ _ h => h) (Or.inl ⟨(by rfl), ?hye7⟩) (Below.drew1 _) ?reste7
   case hye7 =>
    intro W hW
    go_simp
    exact rfl
   simp only [List.getElem_toArray, List.getElem_cons_succ, List.getElem_cons_zero, Act.put, List.setIfInBounds_toArray, List.set_cons_zero, List.set_cons_succ]
   refine but_take (f := 14) (i := 8) (v := ?ve8) rfl (by kernel_rfl) (by kernel_rfl) (by kernel_rfl) (by kernel_rfl) (by kernel_rfl) (fun _ _ _ h => h) (Or.inl ⟨(by rfl), ?hye8⟩) (Below.drew1 _) ?reste8
   case hye8 =>
    intro W hW
    have e3 := (hW.cell (p := ⟨gl, offl + i, none⟩) hbl4).trans E3.out
    go_simp
    exact rfl
   simp only [List.getElem_toArray, List.getElem_cons_succ, List.getElem_cons_zero, Act.put, List.setIfInBounds_toArray, List.set_cons_zero, List.set_cons_succ]
   refine but_take (f := 14) (i := 9) (v := ?ve9) rfl (by kernel_rfl) (by kernel_rfl) (by kernel_rfl) (by kernel_rfl) (by kernel_rfl) (fun _ _ _ h => h) (Or.inl ⟨(by rfl), ?hye9⟩) (Below.drew1 _) ?reste9
   case hye9 =>
    intro W hW
    go_simp
    exact rfl
   simp only [List.getElem_toArray, List.getElem_cons_succ, List.getElem_cons_zero, Act.put, List.setIfInBounds_toArray, List.set_cons_zero, List.set_cons_succ]
   refine but_run (i := 10) (by kernel_rfl) rfl (by rfl) ?_
   simp only [List.getElem_toArray, List.getElem_cons_succ, List.getElem_cons_zero]
   intro K HK
   go_wp2_with fail
   refine (implNodeNew_any _ KK _ (OKW.out.owns.reads.on (Below.drew1 _)) (by omega)).mono ?_
   rintro r Ve1 ⟨vx, rfl, ox, hbe1⟩
   obtain ⟨Ax, cx, rfl, _, _⟩ := ox.reads.lenN
   go_wp2_with fail
   have hSe1 : (fun V => Below W4.heap.size W4 V) Ve1 := bstep (Below.drew1 _) hbe1
   refine HK.out _ _ (fun _ => hSe1) ?_
   clear HK
   have OX := Lib.hid (ox.mono (fun b hb => Nat.le_trans ((Below.drew1 _)).size hb))
   replace HT := Lib.hid (HT.out.on (bstep (Below.drew1 _) hbe1))
   clear ox
   refine but_take (f := 14) (i := 11) (v := ?ve11) rfl (by kernel_rfl) (by kernel_rfl) (by kernel_rfl) (by kernel_rfl) (by kernel_rfl) (fun _ _ _ h => h) (Or.inl ⟨(by rfl), ?hye11⟩) hSe1 ?reste11
   case hye11 =>
    intro W hW
    go_simp
    exact rfl
   simp only [List.getElem_toArray, List.getElem_cons_succ, List.getElem_cons_zero, Act.put, List.setIfInBounds_toArray, List.set_cons_zero, List.set_cons_succ]
   refine but_run (i := 12) (by kernel_rfl) rfl (by rfl) ?_
   simp only [List.getElem_toArray, List.getElem_cons_succ, List.getElem_cons_zero]
   intro K HK
   go_wp2_with fail
   have hSe2 : (fun V => Below W4.heap.size W4 V) (Ve1.alloc (.cells #[.int .i64 lo[i], .slice Ax (nodeNewK KK).length cx] 99)) := bstep hSe1 (bal1 _ _)
   refine HK.out _ _ (fun _ => hSe2) ?_
   clear HK
   have AX := Lib.hid (At.lit2 Ve1 (.int .i64 lo[i]) (.slice Ax (nodeNewK KK).length cx) 99)
   replace OX := Lib.hid (OX.out.on (bal1 Ve1 (.cells #[.int .i64 lo[i], .slice Ax (nodeNewK KK).length cx] 99)))
   replace HT := Lib.hid (HT.out.on (bal1 Ve1 (.cells #[.int .i64 lo[i], .slice Ax (nodeNewK KK).length cx] 99)))
   generalize Ve1.alloc (.cells #[.int .i64 lo[i], .slice Ax (nodeNewK KK).length cx] 99) = Vne2 at *
   refine but_run (i := 13) (by kernel_rfl) rfl (by rfl) ?_
   simp only [List.getElem_toArray, List.getElem_cons_succ, List.getElem_cons_zero]
   intro K HK
   have hrep := replaceNodes_any _ _ lo ts i (i + 2) _ 1 [lo[i]] [nodeNewK KK] [.slice Ax (nodeNewK KK).length cx] (fun b => ((S b ∧ b < w.heap.size) ∨ w.heap.size + 2 ≤ b) ∧ b < wr.heap.size) (fun b => W4.heap.size ≤ b) _ HT.out (show At _ _ (brX ([lo[i]].zip [.slice Ax (nodeNewK KK).length cx])) from AX.out) rfl rfl (by simp) (OwnsL.one OX.out) (fun b hb hb' => by have := hb.2; omega) (by omega) (by omega) HLEN.out (by omega) (by omega) (by simp)
   go_wp2_with fail
   refine (hrep).mono ?_
   rintro r Ve3 ⟨vl2, vn2, rfl, tv2, hbe3⟩
   clear hrep
   obtain ⟨A5, c5, B5, d5, rfl, rfl⟩ := tv2.reads.shape
   go_wp2_with fail
   have hSe3 : (fun V => Below W4.heap.size W4 V) Ve3 := bstep hSe2 hbe3
   refine HK.out _ _ (fun _ => hSe3) ?_
   clear HK
   have TV := Lib.hid tv2
   have hzc := (hSe2).size
   clear tv2 HT AX OX
   obtain ⟨y0, y1, y2⟩ := box2 (box_on QW.out hSe3)
   refine but_run (i := 14) (by kernel_rfl) rfl (by rfl) ?_
   simp only [List.getElem_toArray, List.getElem_cons_succ, List.getElem_cons_zero]
   intro K HK
   go_wp2_with fail
   refine HK.out _ _ (fun h => absurd rfl h) ?_
   clear HK
   refine but_done (by kernel_rfl) ?_
   have B5' : Below W4.heap.size W4 Ve3 := hSe3
   obtain ⟨W5, hW5⟩ : ∃ W, Ve3 = W := ⟨_, rfl⟩
   rw [hW5] at B5' TV ⊢
   clear hW5
   have q5 := box_on QW.out B5'
   have q6 := box_on Q1.out B5'
   have hz5 := B5'.size
   have hb5 := bstep (bstep HB.out HB4.out) B5'
   have HO := Lib.hid (only_two W5 w.heap.size 0 1 (.slice A5 (setL lo i [lo[i]] (i + 2)).length c5) (.slice B5 (setL ts i [nodeNewK KK] (i + 2)).length d5))
   have X8 := Lib.hid (box_set (i := 1) (u := .slice B5 (setL ts i [nodeNewK KK] (i + 2)).length d5) (box_set (i := 0) (u := .slice A5 (setL lo i [lo[i]] (i + 2)).length c5) q5))
   have QR8 := Lib.hid (box_only q6 HO.out (fun e => by omega))
   have TV8 := Lib.hid ((TV.out.keep (w' := (W5.setCell ⟨w.heap.size, 0, none⟩ (.slice A5 (setL lo i [lo[i]] (i + 2)).length c5)).setCell ⟨w.heap.size, 1, none⟩ (.slice B5 (setL ts i [nodeNewK KK] (i + 2)).length d5)) (fun b hb hl => HO.out.block b hl (fun e => by rcases hb with hb | hb | hb; (rcases hb.1 with h | h <;> omega); all_goals omega))).mono (T := fun b => (S b ∧ b < w.heap.size) ∨ w.heap.size + 2 ≤ b) (fun b hb => by rcases hb with hb | hb | hb; (exact hb.1); all_goals exact .inr (by omega)))
   have HB8 := Lib.hid (hb5.trans (HO.out.below hb5.size (fun b hb => by omega)))
   have HLL : Hid ((setL lo i [lo[i]] (i + 2)).length = (setL ts i [nodeNewK KK] (i + 2)).length) := Lib.hid (by have := HLEN.out; rw [setL_len _ _ _ _ (by omega) (by omega), setL_len _ _ _ _ (by omega) (by omega)]; simp; omega)
   clear B5' q5 q6 hb5 HO TV
   generalize setL lo i [lo[i]] (i + 2) = rl at *
   generalize setL ts i [nodeNewK KK] (i + 2) = rn at *
   go_upto_region 3 with (fail)
   generalize (W5.setCell ⟨w.heap.size, 0, none⟩ (.slice A5 rl.length c5)).setCell ⟨w.heap.size, 1, none⟩ (.slice B5 rn.length d5) = W8 at *
   have hn8 : rn.length + 1 = ts.length := HJL.out
   have hn9 : rn.length ≤ 1000000 := by omega
   have hs8 : sumT rn ≤ 1048576 := by have : sumT rn ≤ sumT ts := HJS.out; omega
   have HN8 := Lib.hid hn8
   clear hn8
   obtain ⟨z0, z1, z2⟩ := box2 X8.out
   go_wp2_with fail
   refine (implPair_any _ _ rl rn _ TV8.out.reads (by omega) (by omega)).mono ?_
   rintro e w9 ⟨rfl, b9⟩
   have X9 := Lib.hid (box_on X8.out b9)
   have REL : Hid (JoinI w S J w9 (.int .i64 (pairK rn))) := Lib.hid ⟨rl, rn, A5, c5, B5, d5, rfl, X9.out, box_on QR8.out b9, TV8.out.on b9, HJ2.out, HLL.out, hn9, hs8, bstep HB8.out b9⟩
   clear z0 z1 z2 b9
   go_wp2
   go_roundw
   case rel => exact REL
   case measure => rw [lenN1_box X9.out, HD.out]; have := HN8.out; omega
end Go.Proofs.YthopkhpiikiknaaGreat
namespace Go.Proofs.YthopkhpiikiknaaGreat
open Go.RowKit
set_option maxRecDepth 100000
set_option linter.unusedSimpArgs false
set_option linter.unusedVariables false

theorem spotB_any (b a : Int) (w : World) : Calls Tryz.prog 26 #[.int .i64 b, .int .i64 a] w fun e w' => e = .returned (.int .i64 (spotI b a)) ∧ Below w.heap.size w w' := (implSpotOf_any b a w).mono (fun _ _ h => ⟨h.1, h.2 ▸ Below.refl _ _⟩)
theorem At.lit4 (w : World) (a b c d : Value) (e : TypeId) : At (w.alloc (.cells #[a, b, c, d] e)) (some ⟨w.heap.size, 0, none⟩) [a, b, c, d] := by
 refine .inr ⟨w.heap.size, 0, rfl, fun i hi => ?_⟩
 rw [cell_of_row _ _ _ _ _ _ (heap_alloc_new w _)]
 match i, hi with
 |0, _ => rfl
 |1, _ => rfl
 |2, _ => rfl
 |3, _ => rfl
theorem reads_atK {w : World} {B b off n cap : Nat} {l : List KeyD} (h : At w (some ⟨b, off, none⟩) (kvl l)) (hb : b < B) (hn : l.length = n) (hc : n ≤ cap) (hm : cap ≤ maxLen) : Reads w B (.slice (some ⟨b, off, none⟩) n cap) (keysD l) := by
 subst hn
 refine Reads.ofBytes (xs := kvl l) hc hm (keys_len l) (by omega) ?_
 rcases h with h | ⟨b', off', he, hcell⟩
 ·left
  have := congrArg List.length h
  rw [kvl_len] at this
  have : l = [] := List.length_eq_zero_iff.1 (by simp at this; omega)
  subst this
  rfl
 ·right
  injection he with he
  injection he with he he'
  subst he he'
  refine ⟨b, off, rfl, hb, by rw [kvl_len, keys_len], hcell, fun i hi h' => ?_⟩
  simp only [kC_map, List.getElem_map]
  exact .lit _
theorem kvl_drop (l : List KeyD) (k : Nat) (hk : k ≤ l.length) : (kvl l).drop (k * 5) = kvl (l.drop k) := by
 have he : kvl l = kvl (l.take k) ++ kvl (l.drop k) := by rw [← kvl_append, List.take_append_drop]
 have hl : (kvl (l.take k)).length = k * 5 := by rw [kvl_len, List.length_take]; omega
 rw [he, ← hl, List.drop_left']
 rfl
set_option maxHeartbeats 16000000 in
theorem splitNode_any (vl vn : Value) (lo : List Int) (ts : List NodeD) (i : Nat) (AK : Option Addr) (cK : Nat) (L : List KeyD) (S : Nat → Prop) (w : World) (hv : TreeC w S vl vn lo ts) (hlen : lo.length = ts.length) (hi : i < lo.length) (hn : lo.length ≤ 1000000) (h9 : L.length = 9) (hk : Reads w w.heap.size (.slice AK 9 cK) (keysD L)) :
  Calls Tryz.prog 80 #[.agg #[vl, vn], .int .i64 (i : Int), .slice AK 9 cK] w (MakesC w (fun b => S b ∨ w.heap.size ≤ b) (setL lo i [lo[i], spotI (L[5]'(by omega)).a (L[5]'(by omega)).b] (i + 1)) (setL ts i [nodeNewK (L.take 5), nodeNewK (L.drop 5)] (i + 1))) := by
 obtain ⟨A, c, B, d, rfl, rfl⟩ := hv.reads.shape
 have hb2 := bal2 w (.cells #[.slice A lo.length c, .slice B ts.length d] 27) (.cells #[.slice none 0 0, .slice none 0 0] 27)
 obtain ⟨q0, q1⟩ := al2 w (.cells #[.slice A lo.length c, .slice B ts.length d] 27) (.cells #[.slice none 0 0, .slice none 0 0] 27)
 have hz2 : ((w.alloc (.cells #[.slice A lo.length c, .slice B ts.length d] 27)).alloc (.cells #[.slice none 0 0, .slice none 0 0] 27)).heap.size = w.heap.size + 2 := by simp
 obtain ⟨L5, hL5⟩ : ∃ k, L[5]'(by omega) = k := ⟨_, rfl⟩
 obtain ⟨sp, hsp⟩ : ∃ s, spotI L5.a L5.b = s := ⟨_, rfl⟩
 have hkr := hk.on hb2
 obtain ⟨gk, offk, hAK, hbk, hfive⟩ := Reads.keys (e := 29) hkr (i := 5) (by omega)
 subst hAK
 have hat := Reads.atK (e := 29) hkr
 obtain ⟨_, _, hsl, hck9, hckm, _⟩ := Reads.row' hk
 have hcK : 9 ≤ cK := by injection hsl with _ _ h3; subst h3; omega
 have hcKm : cK ≤ maxLen := by injection hsl with _ _ h3; subst h3; exact hckm
 have e5 := hfive 5 (by omega)
 rw [hL5] at e5
 have hF : (L.take 5).length = 5 := by simp; omega
 have hD : (L.drop 5).length = 4 := by simp; omega
 have RF := Lib.hid (reads_atK (cap := 5) (hat.take 5) hbk hF (Nat.le_refl _) (by unfold maxLen; omega))
 have hdr := At.drop hat (5 * 5)
 rw [kvl_drop L 5 (by omega)] at hdr
 have RD := Lib.hid (reads_atK (cap := cK - 5) hdr hbk hD (by omega) (by omega))
 rw [hL5, hsp]
 generalize L.take 5 = F at *
 generalize L.drop 5 = D at *
 have hFl : F.length ≤ 5 := by omega
 have hDl : D.length ≤ 4 := by omega
 obtain ⟨gl, offl, hAe, hbl, hcl⟩ := (hv.reads.1.on hb2).int hi
 subst hAe
 have E3 : Hid (((w.alloc (.cells #[.slice (some ⟨gl, offl, none⟩) lo.length c, .slice B ts.length d] 27)).alloc (.cells #[.slice none 0 0, .slice none 0 0] 27)).cell? ⟨gl, offl + i, none⟩ = some (.int .i64 lo[i])) := Lib.hid (hcl i hi)
 have E4 := Lib.hid e5.1
 have E5 := Lib.hid e5.2.1
 have QW := Lib.hid q0
 have Q1 := Lib.hid q1
 have HB := Lib.hid hb2
 have HT := Lib.hid (hv.lt.on hb2)
 have HLEN := Lib.hid hlen
 have HSP := Lib.hid hsp
 have HZ := Lib.hid hz2
 have hn2 : ts.length ≤ 1000000 := by omega
 have i2 : (0 : Int) ≤ (i : Int) := by omega
 have i16 : (i : Int) < (lo.length : Int) := by omega
 have i6 : IntKind.i64.wrap ((i : Int) + 1) = (i : Int) + 1 := by rw [IntKind.wrap_i64]; omega
 have k1 : ¬ cK = 5 := by omega
 have k2 : (5 : Int) ≤ (cK : Int) := by omega
 have k3 : 5 ≤ cK := by omega
 clear hv hb2 q0 q1 hz2 hkr hat hfive hsl hck9 hckm e5 hF hD hdr hcl hlen hsp hk hL5
 go_enter Tryz.func80, Tryz.ntmps80
 go_upto_region 2 with (fail)
 generalize (w.alloc (.cells #[.slice (some ⟨gl, offl, none⟩) lo.length c, .slice B ts.length d] 27)).alloc (.cells #[.slice none 0 0, .slice none 0 0] 27) = W at *
 have hzW := Nat.le_of_eq HZ.out.symm
 refine but_begin (f := 8) (S := fun V => Below W.heap.size W V) (by kernel_rfl) ?_
 refine but_take (f := 8) (i := 0) (v := ?vf0) rfl (by kernel_rfl) (by kernel_rfl) (by kernel_rfl) (by kernel_rfl) (by kernel_rfl) (fun _ _ _ h => h) (Or.inl ⟨(by rfl), ?hyf0⟩) (Below.drew1 _) ?restf0
 case hyf0 =>
  intro W hW
  go_simp
  exact rfl
 simp only [List.getElem_toArray, List.getElem_cons_succ, List.getElem_cons_zero, Act.put, List.setIfInBounds_toArray, List.set_cons_zero, List.set_cons_succ]
 refine but_take (f := 8) (i := 1) (v := ?vf1) rfl (by kernel_rfl) (by kernel_rfl) (by kernel_rfl) (by kernel_rfl) (by kernel_rfl) (fun _ _ _ h => h) (Or.inl ⟨(by rfl), ?hyf1⟩) (Below.drew1 _) ?restf1
 case hyf1 =>
  intro W hW
  go_simp
  exact rfl
 simp only [List.getElem_toArray, List.getElem_cons_succ, List.getElem_cons_zero, Act.put, List.setIfInBounds_toArray, List.set_cons_zero, List.set_cons_succ]
 refine but_take (f := 8) (i := 2) (v := ?vf2) rfl (by kernel_rfl) (by kernel_rfl) (by kernel_rfl) (by kernel_rfl) (by kernel_rfl) (fun _ _ _ h => h) (Or.inl ⟨(by rfl), ?hyf2⟩) (Below.drew1 _) ?restf2
 case hyf2 =>
  intro W hW
  go_simp
  exact rfl
 simp only [List.getElem_toArray, List.getElem_cons_succ, List.getElem_cons_zero, Act.put, List.setIfInBounds_toArray, List.set_cons_zero, List.set_cons_succ]
 refine but_take (f := 8) (i := 3) (v := ?vf3) rfl (by kernel_rfl) (by kernel_rfl) (by kernel_rfl) (by kernel_rfl) (by kernel_rfl) (fun _ _ _ h => h) (Or.inl ⟨(by rfl), ?hyf3⟩) (Below.drew1 _) ?restf3
 case hyf3 =>
  intro W hW
  go_simp
  exact rfl
 simp only [List.getElem_toArray, List.getElem_cons_succ, List.getElem_cons_zero, Act.put, List.setIfInBounds_toArray, List.set_cons_zero, List.set_cons_succ]
 refine but_take (f := 8) (i := 4) (v := ?vf4) rfl (by kernel_rfl) (by kernel_rfl) (by kernel_rfl) (by kernel_rfl) (by kernel_rfl) (fun _ _ _ h => h) (Or.inl ⟨(by rfl), ?hyf4⟩) (Below.drew1 _) ?restf4
 case hyf4 =>
  intro W hW
  go_simp
  exact rfl
 simp only [List.getElem_toArray, List.getElem_cons_succ, List.getElem_cons_zero, Act.put, List.setIfInBounds_toArray, List.set_cons_zero, List.set_cons_succ]
 refine but_take (f := 8) (i := 5) (v := ?vf5) rfl (by kernel_rfl) (by kernel_rfl) (by kernel_rfl) (by kernel_rfl) (by kernel_rfl) (fun _ _ _ h => h) (Or.inl ⟨(by rfl), ?hyf5⟩) (Below.drew1 _) ?restf5
 case hyf5 =>
  intro W hW
  go_simp
  exact rfl
 simp only [List.getElem_toArray, List.getElem_cons_succ, List.getElem_cons_zero, Act.put, List.setIfInBounds_toArray, List.set_cons_zero, List.set_cons_succ]
 refine but_take (f := 8) (i := 6) (v := ?vf6) rfl (by kernel_rfl) (by kernel_rfl) (by kernel_rfl) (by kernel_rfl) (by kernel_rfl) (fun _ _ _ h => h) (Or.inl ⟨(by rfl), ?hyf6⟩) (Below.drew1 _) ?restf6
 case hyf6 =>
  intro W hW
  go_simp
  exact rfl
 simp only [List.getElem_toArray, List.getElem_cons_succ, List.getElem_cons_zero, Act.put, List.setIfInBounds_toArray, List.set_cons_zero, List.set_cons_succ]
 refine but_run (i := 7) (by kernel_rfl) rfl (by rfl) ?_
 simp only [List.getElem_toArray, List.getElem_cons_succ, List.getElem_cons_zero]
 intro K HK
 go_wp2_with fail
 have hSf1 : (fun V => Below W.heap.size W V) (W.drew) := (Below.drew1 _)
 refine HK.out _ _ (fun _ => hSf1) ?_
 clear HK
 refine but_run (i := 8) (by kernel_rfl) rfl (by rfl) ?_
 simp only [List.getElem_toArray, List.getElem_cons_succ, List.getElem_cons_zero]
 intro K HK
 go_wp2_with fail
 refine HK.out _ _ (fun h => absurd rfl h) ?_
 clear HK
 refine but_done (by kernel_rfl) ?_
 have HBd := Lib.hid (Below.drew1 W)
 go_upto_region 3 with (fail)
 generalize W.drew = Wd at *
 replace QW := Lib.hid (box_on QW.out HBd.out)
 replace Q1 := Lib.hid (box_on Q1.out HBd.out)
 replace HT := Lib.hid (HT.out.on HBd.out)
 replace E3 := Lib.hid ((HBd.out.cell (p := ⟨gl, offl + i, none⟩) hbl).trans E3.out)
 replace E4 := Lib.hid ((HBd.out.cell (p := ⟨gk, offk + 25, none⟩) hbk).trans E4.out)
 replace E5 := Lib.hid ((HBd.out.cell (p := ⟨gk, offk + 25 + 1, none⟩) hbk).trans E5.out)
 replace RF := Lib.hid (RF.out.on HBd.out)
 replace RD := Lib.hid (RD.out.on HBd.out)
 replace HB := Lib.hid (bstep HB.out HBd.out)
 have hzd := HBd.out.size
 have hbl2 : gl < Wd.heap.size := by omega
 have hbk2 : gk < Wd.heap.size := by omega
 refine but_begin (f := 26) (S := fun V => Below Wd.heap.size Wd V) (by kernel_rfl) ?_
 refine but_take (f := 26) (i := 0) (v := ?vh0) rfl (by kernel_rfl) (by kernel_rfl) (by kernel_rfl) (by kernel_rfl) (by kernel_rfl) (fun _ _ _ h => h) (Or.inl ⟨(by rfl), ?hyh0⟩) (Below.drew1 _) ?resth0
 case hyh0 =>
  intro W hW
  obtain ⟨x0, x1, x2⟩ := box2 (box_on QW.out hW)
  go_simp
  exact rfl
 simp only [List.getElem_toArray, List.getElem_cons_succ, List.getElem_cons_zero, Act.put, List.setIfInBounds_toArray, List.set_cons_zero, List.set_cons_succ]
 refine but_take (f := 26) (i := 1) (v := ?vh1) rfl (by kernel_rfl) (by kernel_rfl) (by kernel_rfl) (by kernel_rfl) (by kernel_rfl) (fun _ _ _ h => h) (Or.inl ⟨(by rfl), ?hyh1⟩) (Below.drew1 _) ?resth1
 case hyh1 =>
  intro W hW
  go_simp
  exact rfl
 simp only [List.getElem_toArray, List.getElem_cons_succ, List.getElem_cons_zero, Act.put, List.setIfInBounds_toArray, List.set_cons_zero, List.set_cons_succ]
 refine but_take (f := 26) (i := 2) (v := ?vh2) rfl (by kernel_rfl) (by kernel_rfl) (by kernel_rfl) (by kernel_rfl) (by kernel_rfl) (fun _ _ _ h => h) (Or.inl ⟨(by rfl), ?hyh2⟩) (Below.drew1 _) ?resth2
 case hyh2 =>
  intro W hW
  go_simp
  exact rfl
 simp only [List.getElem_toArray, List.getElem_cons_succ, List.getElem_cons_zero, Act.put, List.setIfInBounds_toArray, List.set_cons_zero, List.set_cons_succ]
 refine but_take (f := 26) (i := 3) (v := ?vh3) rfl (by kernel_rfl) (by kernel_rfl) (by kernel_rfl) (by kernel_rfl) (by kernel_rfl) (fun _ _ _ h => h) (Or.inl ⟨(by rfl), ?hyh3⟩) (Below.drew1 _) ?resth3
 case hyh3 =>
  intro W hW
  go_simp
  exact rfl
 simp only [List.getElem_toArray, List.getElem_cons_succ, List.getElem_cons_zero, Act.put, List.setIfInBounds_toArray, List.set_cons_zero, List.set_cons_succ]
 refine but_take (f := 26) (i := 4) (v := ?vh4) rfl (by kernel_rfl) (by kernel_rfl) (by kernel_rfl) (by kernel_rfl) (by kernel_rfl) (fun _ _ _ h => h) (Or.inl ⟨(by rfl), ?hyh4⟩) (Below.drew1 _) ?resth4
 case hyh4 =>
  intro W hW
  go_simp
  exact rfl
 simp only [List.getElem_toArray, List.getElem_cons_succ, List.getElem_cons_zero, Act.put, List.setIfInBounds_toArray, List.set_cons_zero, List.set_cons_succ]
 refine but_take (f := 26) (i := 5) (v := ?vh5) rfl (by kernel_rfl) (by kernel_rfl) (by kernel_rfl) (by kernel_rfl) (by kernel_rfl) (fun _ _ _ h => h) (Or.inl ⟨(by rfl), ?hyh5⟩) (Below.drew1 _) ?resth5
 case hyh5 =>
  intro W hW
  obtain ⟨x0, x1, x2⟩ := box2 (box_on QW.out hW)
  go_simp
  exact rfl
 simp only [List.getElem_toArray, List.getElem_cons_succ, List.getElem_cons_zero, Act.put, List.setIfInBounds_toArray, List.set_cons_zero, List.set_cons_succ]
 refine but_take (f := 26) (i := 6) (v := ?vh6) rfl (by kernel_rfl) (by kernel_rfl) (by kernel_rfl) (by kernel_rfl) (by kernel_rfl) (fun _ _ _ h => h) (Or.inl ⟨(by rfl), ?hyh6⟩) (Below.drew1 _) ?resth6
 case hyh6 =>
  intro W hW
  go_simp
  exact rfl
 simp only [List.getElem_toArray, List.getElem_cons_succ, List.getElem_cons_zero, Act.put, List.setIfInBounds_toArray, List.set_cons_zero, List.set_cons_succ]
 refine but_take (f := 26) (i := 7) (v := ?vh7) rfl (by kernel_rfl) (by kernel_rfl) (by kernel_rfl) (by kernel_rfl) (by kernel_rfl) (fun _ _ _ h => h) (Or.inl ⟨(by rfl), ?hyh7⟩) (Below.drew1 _) ?resth7
 case hyh7 =>
  intro W hW
  go_simp
  exact rfl
 simp only [List.getElem_toArray, List.getElem_cons_succ, List.getElem_cons_zero, Act.put, List.setIfInBounds_toArray, List.set_cons_zero, List.set_cons_succ]
 refine but_take (f := 26) (i := 8) (v := ?vh8) rfl (by kernel_rfl) (by kernel_rfl) (by kernel_rfl) (by kernel_rfl) (by kernel_rfl) (fun _ _ _ h => h) (Or.inl ⟨(by rfl), ?hyh8⟩) (Below.drew1 _) ?resth8
 case hyh8 =>
  intro W hW
  have e3 := (hW.cell (p := ⟨gl, offl + i, none⟩) hbl2).trans E3.out
  have e4 := (hW.cell (p := ⟨gk, offk + 25, none⟩) hbk2).trans E4.out
  have e5 := (hW.cell (p := ⟨gk, offk + 25 + 1, none⟩) hbk2).trans E5.out
  go_simp
  exact rfl
 simp only [List.getElem_toArray, List.getElem_cons_succ, List.getElem_cons_zero, Act.put, List.setIfInBounds_toArray, List.set_cons_zero, List.set_cons_succ]
 refine but_take (f := 26) (i := 9) (v := ?vh9) rfl (by kernel_rfl) (by kernel_rfl) (by kernel_rfl) (by kernel_rfl) (by kernel_rfl) (fun _ _ _ h => h) (Or.inl ⟨(by rfl), ?hyh9⟩) (Below.drew1 _) ?resth9
 case hyh9 =>
  intro W hW
  go_simp
  exact rfl
 simp only [List.getElem_toArray, List.getElem_cons_succ, List.getElem_cons_zero, Act.put, List.setIfInBounds_toArray, List.set_cons_zero, List.set_cons_succ]
 refine but_take (f := 26) (i := 12) (v := ?vh12) rfl (by kernel_rfl) (by kernel_rfl) (by kernel_rfl) (by kernel_rfl) (by kernel_rfl) (fun _ _ _ h => h) (Or.inl ⟨(by rfl), ?hyh12⟩) (Below.drew1 _) ?resth12
 case hyh12 =>
  intro W hW
  go_simp
  exact rfl
 simp only [List.getElem_toArray, List.getElem_cons_succ, List.getElem_cons_zero, Act.put, List.setIfInBounds_toArray, List.set_cons_zero, List.set_cons_succ]
 refine but_take (f := 26) (i := 13) (v := ?vh13) rfl (by kernel_rfl) (by kernel_rfl) (by kernel_rfl) (by kernel_rfl) (by kernel_rfl) (fun _ _ _ h => h) (Or.inl ⟨(by rfl), ?hyh13⟩) (Below.drew1 _) ?resth13
 case hyh13 =>
  intro W hW
  go_simp
  exact rfl
 simp only [List.getElem_toArray, List.getElem_cons_succ, List.getElem_cons_zero, Act.put, List.setIfInBounds_toArray, List.set_cons_zero, List.set_cons_succ]
 refine but_take (f := 26) (i := 14) (v := ?vh14) rfl (by kernel_rfl) (by kernel_rfl) (by kernel_rfl) (by kernel_rfl) (by kernel_rfl) (fun _ _ _ h => h) (Or.inl ⟨(by rfl), ?hyh14⟩) (Below.drew1 _) ?resth14
 case hyh14 =>
  intro W hW
  go_simp
  exact rfl
 simp only [List.getElem_toArray, List.getElem_cons_succ, List.getElem_cons_zero, Act.put, List.setIfInBounds_toArray, List.set_cons_zero, List.set_cons_succ]
 refine but_take (f := 26) (i := 15) (v := ?vh15) rfl (by kernel_rfl) (by kernel_rfl) (by kernel_rfl) (by kernel_rfl) (by kernel_rfl) (fun _ _ _ h => h) (Or.inl ⟨(by rfl), ?hyh15⟩) (Below.drew1 _) ?resth15
 case hyh15 =>
  intro W hW
  have e3 := (hW.cell (p := ⟨gl, offl + i, none⟩) hbl2).trans E3.out
  have e4 := (hW.cell (p := ⟨gk, offk + 25, none⟩) hbk2).trans E4.out
  have e5 := (hW.cell (p := ⟨gk, offk + 25 + 1, none⟩) hbk2).trans E5.out
  go_simp
  exact rfl
 simp only [List.getElem_toArray, List.getElem_cons_succ, List.getElem_cons_zero, Act.put, List.setIfInBounds_toArray, List.set_cons_zero, List.set_cons_succ]
 refine but_take (f := 26) (i := 16) (v := ?vh16) rfl (by kernel_rfl) (by kernel_rfl) (by kernel_rfl) (by kernel_rfl) (by kernel_rfl) (fun _ _ _ h => h) (Or.inl ⟨(by rfl), ?hyh16⟩) (Below.drew1 _) ?resth16
 case hyh16 =>
  intro W hW
  go_simp
  exact rfl
 simp only [List.getElem_toArray, List.getElem_cons_succ, List.getElem_cons_zero, Act.put, List.setIfInBounds_toArray, List.set_cons_zero, List.set_cons_succ]
 refine but_take (f := 26) (i := 17) (v := ?vh17) rfl (by kernel_rfl) (by kernel_rfl) (by kernel_rfl) (by kernel_rfl) (by kernel_rfl) (fun _ _ _ h => h) (Or.inl ⟨(by rfl), ?hyh17⟩) (Below.drew1 _) ?resth17
 case hyh17 =>
  intro W hW
  go_simp
  exact rfl
 simp only [List.getElem_toArray, List.getElem_cons_succ, List.getElem_cons_zero, Act.put, List.setIfInBounds_toArray, List.set_cons_zero, List.set_cons_succ]
 refine but_take (f := 26) (i := 18) (v := ?vh18) rfl (by kernel_rfl) (by kernel_rfl) (by kernel_rfl) (by kernel_rfl) (by kernel_rfl) (fun _ _ _ h => h) (Or.inl ⟨(by rfl), ?hyh18⟩) (Below.drew1 _) ?resth18
 case hyh18 =>
  intro W hW
  go_simp
  exact rfl
 simp only [List.getElem_toArray, List.getElem_cons_succ, List.getElem_cons_zero, Act.put, List.setIfInBounds_toArray, List.set_cons_zero, List.set_cons_succ]
 refine but_take (f := 26) (i := 19) (v := ?vh19) rfl (by kernel_rfl) (by kernel_rfl) (by kernel_rfl) (by kernel_rfl) (by kernel_rfl) (fun _ _ _ h => h) (Or.inl ⟨(by rfl), ?hyh19⟩) (Below.drew1 _) ?resth19
 case hyh19 =>
  intro W hW
  have e3 := (hW.cell (p := ⟨gl, offl + i, none⟩) hbl2).trans E3.out
  have e4 := (hW.cell (p := ⟨gk, offk + 25, none⟩) hbk2).trans E4.out
  have e5 := (hW.cell (p := ⟨gk, offk + 25 + 1, none⟩) hbk2).trans E5.out
  go_simp
  exact rfl
 simp only [List.getElem_toArray, List.getElem_cons_succ, List.getElem_cons_zero, Act.put, List.setIfInBounds_toArray, List.set_cons_zero, List.set_cons_succ]
 refine but_take (f := 26) (i := 21) (v := ?vh21) rfl (by kernel_rfl) (by kernel_rfl) (by kernel_rfl) (by kernel_rfl) (by kernel_rfl) (fun _ _ _ h => h) (Or.inl ⟨(by rfl), ?hyh21⟩) (Below.drew1 _) ?resth21
 case hyh21 =>
  intro W hW
  go_simp
  exact rfl
 simp only [List.getElem_toArray, List.getElem_cons_succ, List.getElem_cons_zero, Act.put, List.setIfInBounds_toArray, List.set_cons_zero, List.set_cons_succ]
 refine but_run (i := 10) (by kernel_rfl) rfl (by rfl) ?_
 simp only [List.getElem_toArray, List.getElem_cons_succ, List.getElem_cons_zero]
 intro K HK
 go_wp2_with fail
 refine (implNodeNew_any _ F _ (RF.out.on (Below.drew1 _)) (by omega)).mono ?_
 rintro r Vh1 ⟨vx, rfl, ox, hbh1⟩
 obtain ⟨Ax, cx, rfl, _, _⟩ := ox.reads.lenN
 go_wp2_with fail
 have hSh1 : (fun V => Below Wd.heap.size Wd V) Vh1 := bstep (Below.drew1 _) hbh1
 refine HK.out _ _ (fun _ => hSh1) ?_
 clear HK
 have OX := Lib.hid (ox.lt.mono (T := fun b => Wd.heap.size ≤ b ∧ b < Vh1.heap.size) (fun b hb => ⟨Nat.le_trans ((Below.drew1 _)).size hb.1, hb.2⟩))
 have zx : Hid (Vh1.heap.size ≤ Vh1.heap.size) := Lib.hid (Nat.le_refl _)
 obtain ⟨mx, hmx⟩ : ∃ m, Vh1.heap.size = m := ⟨_, rfl⟩
 rw [hmx] at OX
 have HMX := Lib.hid (Nat.le_of_eq hmx.symm)
 clear ox zx hmx
 refine but_take (f := 26) (i := 11) (v := ?vh11) rfl (by kernel_rfl) (by kernel_rfl) (by kernel_rfl) (by kernel_rfl) (by kernel_rfl) (fun _ _ _ h => h) (Or.inl ⟨(by rfl), ?hyh11⟩) hSh1 ?resth11
 case hyh11 =>
  intro W hW
  go_simp
  exact rfl
 simp only [List.getElem_toArray, List.getElem_cons_succ, List.getElem_cons_zero, Act.put, List.setIfInBounds_toArray, List.set_cons_zero, List.set_cons_succ]
 refine but_run (i := 20) (by kernel_rfl) rfl (by rfl) ?_
 simp only [List.getElem_toArray, List.getElem_cons_succ, List.getElem_cons_zero]
 intro K HK
 go_wp2_with fail
 refine (spotB_any L5.a L5.b _).mono ?_
 rintro r Vh2 ⟨rfl, hbh2⟩
 rw [HSP.out]
 go_wp2_with fail
 have hSh2 : (fun V => Below Wd.heap.size Wd V) Vh2 := bstep hSh1 hbh2
 refine HK.out _ _ (fun _ => hSh2) ?_
 clear HK
 replace OX := Lib.hid (OX.out.on hbh2)
 replace HMX := Lib.hid (Nat.le_trans HMX.out hbh2.size)
 refine but_run (i := 22) (by kernel_rfl) rfl (by rfl) ?_
 simp only [List.getElem_toArray, List.getElem_cons_succ, List.getElem_cons_zero]
 intro K HK
 go_wp2_with fail
 refine (implNodeNew_any _ D _ (RD.out.on hSh2) (by omega)).mono ?_
 rintro r Vh3 ⟨vy, rfl, oy, hbh3⟩
 obtain ⟨Ay, cy, rfl, _, _⟩ := oy.reads.lenN
 go_wp2_with fail
 have hSh3 : (fun V => Below Wd.heap.size Wd V) Vh3 := bstep hSh2 hbh3
 refine HK.out _ _ (fun _ => hSh3) ?_
 clear HK
 have OY := Lib.hid (oy.mono (T := fun b => mx ≤ b ∧ Wd.heap.size ≤ b) (fun b hb => ⟨Nat.le_trans HMX.out hb, Nat.le_trans (hSh2).size hb⟩))
 replace OX := Lib.hid (OX.out.on hbh3)
 clear oy
 refine but_take (f := 26) (i := 23) (v := ?vh23) rfl (by kernel_rfl) (by kernel_rfl) (by kernel_rfl) (by kernel_rfl) (by kernel_rfl) (fun _ _ _ h => h) (Or.inl ⟨(by rfl), ?hyh23⟩) hSh3 ?resth23
 case hyh23 =>
  intro W hW
  go_simp
  exact rfl
 simp only [List.getElem_toArray, List.getElem_cons_succ, List.getElem_cons_zero, Act.put, List.setIfInBounds_toArray, List.set_cons_zero, List.set_cons_succ]
 refine but_run (i := 24) (by kernel_rfl) rfl (by rfl) ?_
 simp only [List.getElem_toArray, List.getElem_cons_succ, List.getElem_cons_zero]
 intro K HK
 go_wp2_with fail
 have hSh4 : (fun V => Below Wd.heap.size Wd V) (Vh3.alloc (.cells #[.int .i64 lo[i], .slice Ax (nodeNewK F).length cx, .int .i64 sp, .slice Ay (nodeNewK D).length cy] 99)) := bstep hSh3 (bal1 _ _)
 refine HK.out _ _ (fun _ => hSh4) ?_
 clear HK
 have AX := Lib.hid (At.lit4 Vh3 (.int .i64 lo[i]) (.slice Ax (nodeNewK F).length cx) (.int .i64 sp) (.slice Ay (nodeNewK D).length cy) 99)
 replace OX := Lib.hid (OX.out.on (bal1 Vh3 (.cells #[.int .i64 lo[i], .slice Ax (nodeNewK F).length cx, .int .i64 sp, .slice Ay (nodeNewK D).length cy] 99)))
 replace OY := Lib.hid (OY.out.on (bal1 Vh3 (.cells #[.int .i64 lo[i], .slice Ax (nodeNewK F).length cx, .int .i64 sp, .slice Ay (nodeNewK D).length cy] 99)))
 replace HT := Lib.hid (HT.out.on (bstep hSh3 (bal1 Vh3 (.cells #[.int .i64 lo[i], .slice Ax (nodeNewK F).length cx, .int .i64 sp, .slice Ay (nodeNewK D).length cy] 99))))
 generalize Vh3.alloc (.cells #[.int .i64 lo[i], .slice Ax (nodeNewK F).length cx, .int .i64 sp, .slice Ay (nodeNewK D).length cy] 99) = Vnh4 at *
 refine but_run (i := 25) (by kernel_rfl) rfl (by rfl) ?_
 simp only [List.getElem_toArray, List.getElem_cons_succ, List.getElem_cons_zero]
 intro K HK
 have hrep := replaceNodes_any _ _ lo ts i (i + 1) _ 2 [lo[i], sp] [nodeNewK F, nodeNewK D] [.slice Ax (nodeNewK F).length cx, .slice Ay (nodeNewK D).length cy] (fun b => S b ∧ b < w.heap.size) (fun b => Wd.heap.size ≤ b) _ HT.out (show At _ _ (brX ([lo[i], sp].zip [.slice Ax (nodeNewK F).length cx, .slice Ay (nodeNewK D).length cy])) from AX.out) rfl rfl (by simp) (OwnsL.two OX.out OY.out (fun b hb => hb.1) (fun b hb => hb.2) (fun b hb hb' => by have := hb.2; have := hb'.1; omega)) (fun b hb hb' => by have := hb.2; omega) (by omega) (by omega) HLEN.out (by omega) (by omega) (by simp)
 go_wp2_with fail
 refine (hrep).mono ?_
 rintro r Vh5 ⟨vl2, vn2, rfl, tv2, hbh5⟩
 clear hrep
 obtain ⟨A5, c5, B5, d5, rfl, rfl⟩ := tv2.reads.shape
 go_wp2_with fail
 have hSh5 : (fun V => Below Wd.heap.size Wd V) Vh5 := bstep hSh4 hbh5
 refine HK.out _ _ (fun _ => hSh5) ?_
 clear HK
 have TV := Lib.hid tv2
 have hzc := (hSh4).size
 clear tv2 HT AX OX OY
 obtain ⟨y0, y1, y2⟩ := box2 (box_on Q1.out hSh5)
 refine but_run (i := 26) (by kernel_rfl) rfl (by rfl) ?_
 simp only [List.getElem_toArray, List.getElem_cons_succ, List.getElem_cons_zero]
 intro K HK
 go_wp2_with fail
 refine HK.out _ _ (fun h => absurd rfl h) ?_
 clear HK
 refine but_done (by kernel_rfl) ?_
 have B5' : Below Wd.heap.size Wd Vh5 := hSh5
 have HO := Lib.hid (only_two Vh5 (w.heap.size + 1) 0 1 (.slice A5 (setL lo i [lo[i], sp] (i + 1)).length c5) (.slice B5 (setL ts i [nodeNewK F, nodeNewK D] (i + 1)).length d5))
 have hz5 := B5'.size
 have hb5 := bstep HB.out B5'
 have HR := Lib.hid hb5
 have TV8 := Lib.hid ((TV.out.keep (w' := (Vh5.setCell ⟨w.heap.size + 1, 0, none⟩ (.slice A5 (setL lo i [lo[i], sp] (i + 1)).length c5)).setCell ⟨w.heap.size + 1, 1, none⟩ (.slice B5 (setL ts i [nodeNewK F, nodeNewK D] (i + 1)).length d5)) (fun b hb hl => HO.out.block b hl (fun e => by rcases hb with hb | hb | hb; (have := hb.2; omega); all_goals omega))).mono (T := fun b => S b ∨ w.heap.size ≤ b) (fun b hb => by rcases hb with hb | hb | hb; (exact .inl hb.1); all_goals exact .inr (by omega)))
 have HB8 := Lib.hid (hb5.trans (HO.out.below hb5.size (fun b hb => by omega)))
 clear B5' hb5 HO TV HR
 go_wp2_with fail
 refine bodyPost_ret (v := .agg #[.slice A5 (setL lo i [lo[i], sp] (i + 1)).length c5, .slice B5 (setL ts i [nodeNewK F, nodeNewK D] (i + 1)).length d5]) (by simp [results, Tryz.results80, go_sem, *]) rfl ?_
 exact ⟨_, _, rfl, TV8.out, HB8.out⟩
end Go.Proofs.YthopkhpiikiknaaGreat
namespace Go.Proofs.YthopkhpiikiknaaGreat
open Go.RowKit
set_option maxRecDepth 100000
set_option linter.unusedSimpArgs false
set_option linter.unusedVariables false

theorem less_iff (x y : KeyD) : lessK x y = true ↔ (x.a < y.a ∨ (x.a = y.a ∧ x.b < y.b)) := by
 simp only [lessK, lessB]
 by_cases h : x.a = y.a
 ·simp [h]
 ·simp [h]
theorem spot_iff (x y : KeyD) : spotK x y = true ↔ (x.a = y.a ∧ x.b = y.b) := by simp [spotK, spotB]
theorem less_trans {x y z : KeyD} (h : lessK x y = true) (k : lessK y z = true) : lessK x z = true := by
 rw [less_iff] at *
 omega
theorem less_tri {x y : KeyD} (h : lessK y x = false) (k : spotK y x = false) : lessK x y = true := by
 have h' : ¬ lessK y x = true := by rw [h]; simp
 have k' : ¬ spotK y x = true := by rw [k]; simp
 rw [less_iff] at *
 rw [spot_iff] at k'
 omega
/-- Ascending. -/
abbrev Asc (l : List KeyD) : Prop := l.Pairwise (fun x y => lessK x y = true)
theorem Asc.rise {l : List KeyD} (h : Asc l) : riseB l = true := by
 refine decide_eq_true (fun i hi => ?_)
 exact List.pairwise_iff_getElem.1 h i (i + 1) (by omega) (by omega) (by omega)
theorem place_take {l : List KeyD} {k x : KeyD} (h : x ∈ l.take (placeK l k)) : lessK x k = true := by
 obtain ⟨i, hi, rfl⟩ := List.mem_take_iff_getElem.1 h
 have := List.not_of_lt_findIdx (show i < l.findIdx (fun x => !lessK x k) by unfold placeK at hi; omega)
 simpa using this
theorem place_drop {l : List KeyD} {k y : KeyD} (ha : Asc l) (h : y ∈ l.drop (placeK l k)) : lessK y k = false := by
 obtain ⟨i, hi, rfl⟩ := List.mem_drop_iff_getElem.1 h
 have hlt : placeK l k < l.length := by omega
 have h0 : lessK l[placeK l k] k = false := by
  have : (!lessK l[placeK l k] k) = true := List.findIdx_getElem (p := fun x => !lessK x k) (xs := l) (w := hlt)
  simpa using this
 by_cases hi0 : i = 0
 ·subst hi0; simpa using h0
 ·have h1 : lessK l[placeK l k] l[placeK l k + i] = true := List.pairwise_iff_getElem.1 ha _ _ hlt (by omega) (by omega)
  cases hc : lessK l[placeK l k + i] k with
  |false => rfl
  |true => rw [less_trans h1 hc] at h0; cases h0
theorem Asc.put {l : List KeyD} (h : Asc l) (k : KeyD) : Asc (putK l k) := by
 have hs : Asc (l.take (placeK l k) ++ l.drop (placeK l k)) := by rw [List.take_append_drop]; exact h
 rw [put_eq]
 obtain ⟨h1, h2, h3⟩ := List.pairwise_append.1 hs
 refine List.pairwise_append.2 ⟨h1, List.pairwise_cons.2 ⟨fun y hy => ?_, h2.filter _⟩, fun x hx y hy => ?_⟩
 ·obtain ⟨hy1, hy2⟩ := List.mem_filter.1 hy
  exact less_tri (place_drop h hy1) (by simpa using hy2)
 ·rcases List.mem_cons.1 hy with rfl | hy
  ·exact place_take hx
  ·exact h3 x hx y (List.mem_filter.1 hy).1
theorem ok_put {l : List KeyD} {k : KeyD} (h : l.all okK = true) (hk : okK k = true) : (putK l k).all okK = true := by
 rw [List.all_eq_true] at *
 intro x hx
 rw [put_eq] at hx
 rcases List.mem_append.1 hx with hx | hx
 ·exact h x (List.mem_of_mem_take hx)
 ·rcases List.mem_cons.1 hx with rfl | hx
  ·exact hk
  ·exact h x (List.mem_of_mem_drop (List.mem_filter.1 hx).1)
theorem Asc.merge {a b : List KeyD} (h : Asc a) : Asc (mergeK a b) := by
 unfold mergeK
 induction b generalizing a with
 |nil => exact h
 |cons k b ih => exact ih (h.put k)
theorem ok_merge {a b : List KeyD} (h : a.all okK = true) (hb : b.all okK = true) : (mergeK a b).all okK = true := by
 unfold mergeK
 induction b generalizing a with
 |nil => exact h
 |cons k b ih =>
  simp only [List.all_cons, Bool.and_eq_true] at hb
  exact ih (ok_put h hb.1) hb.2
end Go.Proofs.YthopkhpiikiknaaGreat
namespace Go.Proofs.YthopkhpiikiknaaGreat
open Go.RowKit
set_option maxRecDepth 100000
set_option linter.unusedSimpArgs false
set_option linter.unusedVariables false

theorem asc_of {l : List KeyD} (h : ∀ i (h : i + 1 < l.length), lessK l[i] l[i + 1] = true) : Asc l := by
 induction l with
 |nil => exact .nil
 |cons x t ih =>
  have ht : Asc t := ih (fun i hi => by have := h (i + 1) (by simp; omega); simpa using this)
  refine List.pairwise_cons.2 ⟨fun y hy => ?_, ht⟩
  cases t with
  |nil => simp at hy
  |cons z t' =>
   have h0 : lessK x z = true := by have := h 0 (by simp); simpa using this
   rcases List.mem_cons.1 hy with rfl | hy
   ·exact h0
   ·exact less_trans h0 ((List.pairwise_cons.1 ht).1 y hy)
theorem asc_rise {l : List KeyD} (h : riseB l = true) : Asc l := asc_of (fun i hi => (of_decide_eq_true h) i (by omega))
/-- Every set ascends, every key is valid. -/
def FineN (ns : List (List KeyD)) : Prop := ∀ l ∈ ns, Asc l ∧ l.all okK = true
theorem fine_of {ns : List (List KeyD)} (h : nodeOkB ns = true) : FineN ns := by
 intro l hl
 simp only [nodeOkB, Bool.and_eq_true, List.all_eq_true] at h
 have h1 := h.1.1 l hl
 simp only [okL, setOkB, Bool.and_eq_true] at h1
 exact ⟨asc_rise h1.1.1.2, h1.1.1.1⟩
def newest : List (List KeyD) → Int → Int → Option KeyD
 |[], _, _ => none
 |l :: r, p, q => (atK l p q).or (newest r p q)
theorem fold_asc {ns : List (List KeyD)} (a : List KeyD) (ha : Asc a) : Asc (ns.foldl mergeK a) := by
 induction ns generalizing a with
 |nil => exact ha
 |cons l ns ih => exact ih _ ha.merge
theorem fold_ok {ns : List (List KeyD)} (h : FineN ns) (a : List KeyD) (ha : a.all okK = true) : (ns.foldl mergeK a).all okK = true := by
 induction ns generalizing a with
 |nil => exact ha
 |cons l ns ih => exact ih (fun x hx => h x (by simp [hx])) _ (ok_merge ha (h l (by simp)).2)
theorem drop_asc {l : List KeyD} (h : Asc l) : Asc (dropK l) := h.sublist List.filter_sublist
theorem drop_ok {l : List KeyD} (h : l.all okK = true) : (dropK l).all okK = true := by
 rw [List.all_eq_true] at h ⊢
 exact fun x hx => h x (List.mem_filter.1 hx).1
theorem keys_asc (ns : List (List KeyD)) : Asc (nodeKeysK ns) := drop_asc (fold_asc _ .nil)
theorem keys_ok {ns : List (List KeyD)} (h : FineN ns) : (nodeKeysK ns).all okK = true := drop_ok (fold_ok h _ rfl)
theorem new_ok {l : List KeyD} (h : Asc l) (hk : l.all okK = true) (hl : l.length ≤ 8) : nodeOkB (nodeNewK l) = true := by
 unfold nodeNewK
 split
 ·rfl
 ·simp only [nodeOkB, List.all_cons, List.all_nil, Bool.and_true, okL, setOkB, hk, h.rise, Bool.true_and, Bool.and_eq_true, decide_eq_true_eq, List.length_singleton, sumN_cons, sumN_nil]
  omega
end Go.Proofs.YthopkhpiikiknaaGreat
