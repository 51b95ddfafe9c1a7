/- Several texts in one: TreeSPut. -/
import Derived.Test.YthopkhpiikiknaaGreatPkBG
namespace Go.Proofs.YthopkhpiikiknaaGreat
open Go.RowKit
set_option maxRecDepth 100000
set_option linter.unusedSimpArgs false
set_option linter.unusedVariables false
set_option maxHeartbeats 64000000 in
theorem specTreePut_any (vl vn : Value) (lo : List Int) (ts : List NodeD) (x : KeyD) (w : World) (hv : RdT w w.heap.size vl vn lo ts) (hm : lo.length ≤ 1048576) (hn : ts.length ≤ 1048576) (hs : sumT ts ≤ 1048576) :
  Calls Tryz.prog 8 #[.agg #[vl, vn], x.v] w (PutsT w (treePutK lo ts x) (treePutB lo ts x)) := by
 obtain ⟨A, c, B, d, rfl, rfl⟩ := hv.shape
 have HS : Hid (SmallT lo ts) := Lib.hid ⟨by omega, by omega, by omega⟩
 have hb3 := bal3 w (.cells #[.slice A lo.length c, .slice B ts.length d] 27) (.cells #[.int .i64 x.a, .int .i64 x.b, .int .i64 x.c, .int .i64 x.d, .int .i64 x.e] 29) (.cells #[.slice none 0 0, .slice none 0 0] 27)
 obtain ⟨q0, q1, q2⟩ := al3 w (.cells #[.slice A lo.length c, .slice B ts.length d] 27) (.cells #[.int .i64 x.a, .int .i64 x.b, .int .i64 x.c, .int .i64 x.d, .int .i64 x.e] 29) (.cells #[.slice none 0 0, .slice none 0 0] 27)
 have hz3 : (((w.alloc (.cells #[.slice A lo.length c, .slice B ts.length d] 27)).alloc (.cells #[.int .i64 x.a, .int .i64 x.b, .int .i64 x.c, .int .i64 x.d, .int .i64 x.e] 29)).alloc (.cells #[.slice none 0 0, .slice none 0 0] 27)).heap.size = w.heap.size + 3 := by simp
 have HV := Lib.hid (hv.on hb3)
 have HB := Lib.hid hb3
 have QT := Lib.hid q0
 have QK := Lib.hid q1
 have QR := Lib.hid q2
 have HZ := Lib.hid hz3
 have HPUT : Hid (∀ b, treePutB lo ts x = b → treePutK lo ts x = if b then endK lo ts x else (lo, ts)) := Lib.hid (fun b h => by rw [treePutK, h])
 have HPB : Hid (treePutB lo ts x = (treeOkB lo ts && okK x && treeOkB (endK lo ts x).1 (endK lo ts x).2)) := Lib.hid rfl
 obtain ⟨RT, hRT⟩ : ∃ RT, treePutK lo ts x = RT := ⟨_, rfl⟩
 obtain ⟨RB, hRB⟩ : ∃ RB, treePutB lo ts x = RB := ⟨_, rfl⟩
 have HPT : Hid (RT = if RB then endK lo ts x else (lo, ts)) := Lib.hid (by rw [← hRT]; exact HPUT.out RB hRB)
 rw [hRB] at HPB
 rw [hRT, hRB]
 have HKO := Lib.hid specKeyOk_any
 unfold keyV at HKO
 unfold KeyD.v keyV
 clear hv hb3 q0 q1 q2 hz3 hRT hRB HPUT
 go_enter Tryz.func8, Tryz.ntmps8
 go_upto_region 1 with (fail)
 generalize ((w.alloc (.cells #[.slice A lo.length c, .slice B ts.length d] 27)).alloc (.cells #[.int .i64 x.a, .int .i64 x.b, .int .i64 x.c, .int .i64 x.d, .int .i64 x.e] 29)).alloc (.cells #[.slice none 0 0, .slice none 0 0] 27) = W at *
 have hz1 := Nat.le_of_eq HZ.out
 have hz2 := Nat.le_of_eq HZ.out.symm
 obtain ⟨x0, x1, x2⟩ := box2 QT.out
 go_wp2_with fail
 refine (l6Copy_any _ _ lo ts _ HV.out HS.out).mono ?_
 rintro e w1 ⟨vl1, vn1, rfl, o1, b1⟩
 obtain ⟨A1, c1, B1, d1, rfl, rfl⟩ := o1.reads.shape
 clear x0 x1 x2
 have ba := bal1 w1 (.cells #[.slice A1 lo.length c1, .slice B1 ts.length d1] 27)
 have q6 := al1 w1 (.cells #[.slice A1 lo.length c1, .slice B1 ts.length d1] 27)
 have hzA : (w1.alloc (.cells #[.slice A1 lo.length c1, .slice B1 ts.length d1] 27)).heap.size = w1.heap.size + 1 := by simp
 have O6 := Lib.hid (o1.lt.on ba)
 replace HV := Lib.hid ((HV.out.on b1).on ba)
 replace HB := Lib.hid (bstep (bstep HB.out b1) ba)
 replace QT := Lib.hid (box_on (box_on QT.out b1) ba)
 replace QK := Lib.hid (box_on (box_on QK.out b1) ba)
 replace QR := Lib.hid (box_on (box_on QR.out b1) ba)
 have Q6 := Lib.hid q6
 have hb1 := b1.size
 have HZA := Lib.hid hzA
 clear o1 b1 ba q6 hzA
 go_upto_region 2 with (fail)
 generalize w1.alloc (.cells #[.slice A1 lo.length c1, .slice B1 ts.length d1] 27) = W2 at *
 have hy1 := Nat.le_of_eq HZA.out
 have hy2 := Nat.le_of_eq HZA.out.symm
 obtain ⟨x0, x1, x2⟩ := box2 QT.out
 go_wp2_with fail
 refine (specTreeOk_any _ _ lo ts _ HV.out (by omega) (by omega) (by omega)).mono ?_
 rintro e W3 ⟨rfl, b3⟩
 replace HV := Lib.hid (HV.out.on b3)
 replace HB := Lib.hid (bstep HB.out b3)
 replace QT := Lib.hid (box_on QT.out b3)
 replace QK := Lib.hid (box_on QK.out b3)
 replace QR := Lib.hid (box_on QR.out b3)
 replace Q6 := Lib.hid (box_on Q6.out b3)
 replace O6 := Lib.hid (O6.out.on b3)
 have hy3 := b3.size
 clear b3 HZA x0 x1 x2
 cases hok : treeOkB lo ts
 ·have HRB : Hid (RB = false) := Lib.hid (by rw [HPB.out, hok]; rfl)
  have HRT : Hid (RT = (lo, ts)) := Lib.hid (by rw [HPT.out, HRB.out]; rfl)
  clear hok
  obtain ⟨x0, x1, x2⟩ := box2 QR.out
  obtain ⟨y0, y1, y2⟩ := box2 Q6.out
  have n3 : ¬ w1.heap.size = w.heap.size + 1 + 1 := by omega
  go_wp2
  have HO : ∀ a b, Only (fun b => b = w.heap.size + 1 + 1) W3 ((W3.setCell ⟨w.heap.size + 1 + 1, 0, none⟩ a).setCell ⟨w.heap.size + 1 + 1, 1, none⟩ b) := fun a b => only_two _ _ _ _ _ _
  refine bodyPost_ret (v := .tuple #[.agg #[.slice A1 lo.length c1, .slice B1 ts.length d1], .bool false]) (by simp [results, Tryz.results8, go_sem, x0, x1, x2]) rfl ⟨_, _, by rw [HRB.out], ?_, HB.out.trans ((HO _ _).below HB.out.size (fun b hb => by omega))⟩
  rw [HRT.out]
  exact (O6.out.keep (fun b hb hl => (HO _ _).block b hl (fun e => by omega))).mono (fun b hb => by omega)
 ·have HTP : Hid (TreeP lo ts) := Lib.hid (of_decide_eq_true hok)
  obtain ⟨z0, z1, z2, z3, z4, z5⟩ := box5 QK.out
  go_wp2_with fail
  refine (HKO.out _ _ _ _ _ _).mono ?_
  rintro e W4 ⟨rfl, b3⟩
  replace HV := Lib.hid (HV.out.on b3)
  replace HB := Lib.hid (bstep HB.out b3)
  replace QT := Lib.hid (box_on QT.out b3)
  replace QK := Lib.hid (box_on QK.out b3)
  replace QR := Lib.hid (box_on QR.out b3)
  replace Q6 := Lib.hid (box_on Q6.out b3)
  replace O6 := Lib.hid (O6.out.on b3)
  have hy4 := b3.size
  clear b3 z0 z1 z2 z3 z4 z5
  cases hkx : keyOkB x.a x.b x.c x.d x.e
  ·have HRB : Hid (RB = false) := Lib.hid (by rw [HPB.out, show okK x = false from hkx]; simp)
   have HRT : Hid (RT = (lo, ts)) := Lib.hid (by rw [HPT.out, HRB.out]; rfl)
   clear hkx hok
   obtain ⟨W3, rfl⟩ : ∃ W, W = W4 := ⟨_, rfl⟩
   obtain ⟨x0, x1, x2⟩ := box2 QR.out
   obtain ⟨y0, y1, y2⟩ := box2 Q6.out
   have n3 : ¬ w1.heap.size = w.heap.size + 1 + 1 := by omega
   go_wp2
   have HO : ∀ a b, Only (fun b => b = w.heap.size + 1 + 1) W3 ((W3.setCell ⟨w.heap.size + 1 + 1, 0, none⟩ a).setCell ⟨w.heap.size + 1 + 1, 1, none⟩ b) := fun a b => only_two _ _ _ _ _ _
   refine bodyPost_ret (v := .tuple #[.agg #[.slice A1 lo.length c1, .slice B1 ts.length d1], .bool false]) (by simp [results, Tryz.results8, go_sem, x0, x1, x2]) rfl ⟨_, _, by rw [HRB.out], ?_, HB.out.trans ((HO _ _).below HB.out.size (fun b hb => by omega))⟩
   rw [HRT.out]
   exact (O6.out.keep (fun b hb hl => (HO _ _).block b hl (fun e => by omega))).mono (fun b hb => by omega)
  ·have HKX : Hid (okK x = true) := Lib.hid hkx
   have HRB : Hid (RB = treeOkB (endK lo ts x).1 (endK lo ts x).2) := Lib.hid (by rw [HPB.out, hok, HKX.out]; simp)
   clear hkx hok
   have hsp := spot_ok HKX.out
   have hlen := HTP.out.2.2.1
   have hl1 := HTP.out.1
   have hl2 := HTP.out.2.1
   have hsmT := (treeP_small' HTP.out).2.2
   have hwg : 0 ≤ whereK lo (spotI x.a x.b) := where_ge (by omega) (by rw [HTP.out.2.2.2.1]; omega)
   have hwl := whereK_le lo (spotI x.a x.b)
   obtain ⟨i, hwi⟩ := Int.eq_ofNat_of_zero_le hwg
   rw [hwi] at hwl
   have hil : i < lo.length := by omega
   have hit : i < ts.length := by omega
   have hfit := fit_at HTP.out hit
   have HMID := Lib.hid (mid_eq hwi hit hil)
   have HWI := Lib.hid hwi
   have HLEN := Lib.hid hlen
   have h2a := Nat.le_of_eq hlen
   have h2b := Nat.le_of_eq hlen.symm
   clear hsp hwg hwl hwi hlen
   obtain ⟨n, hn1⟩ : ∃ n, ts[i] = n := ⟨_, rfl⟩
   rw [hn1] at hfit HMID
   have hsm := ok_small hfit.1
   have HFIN := Lib.hid (fine_of hfit.1)
   obtain ⟨li, hli⟩ : ∃ li, lo[i] = li := ⟨_, rfl⟩
   rw [hli] at HMID
   have HLI := Lib.hid hli
   have HNN := Lib.hid hn1
   clear hfit hli hn1
   obtain ⟨RN, hRN⟩ : ∃ R, putN n x = R := ⟨_, rfl⟩
   obtain ⟨NB, hNB⟩ : ∃ b, putNB n x = b := ⟨_, rfl⟩
   have hps := putN_small (ns := n) (k := x) (m := 8) (by omega) (by omega)
   rw [hRN] at HMID hps
   rw [hNB] at HMID
   have HRN := Lib.hid hRN
   have HNB := Lib.hid hNB
   clear hRN hNB
   obtain ⟨x0, x1, x2⟩ := box2 QT.out
   obtain ⟨z0, z1, z2, z3, z4, z5⟩ := box5 QK.out
   go_wp2_with fail
   refine (specWhereIn_any _ _ lo ts x.a x.b _ HV.out (by omega)).mono ?_
   rintro e W5 ⟨rfl, b3⟩
   rw [HWI.out]
   replace HV := Lib.hid (HV.out.on b3)
   replace HB := Lib.hid (bstep HB.out b3)
   replace QT := Lib.hid (box_on QT.out b3)
   replace QK := Lib.hid (box_on QK.out b3)
   replace QR := Lib.hid (box_on QR.out b3)
   replace Q6 := Lib.hid (box_on Q6.out b3)
   replace O6 := Lib.hid (O6.out.on b3)
   have hy5 := b3.size
   clear b3 x0 x1 x2 z0 z1 z2 z3 z4 z5
   obtain ⟨b5, off5, hBe, hb5, hc5⟩ := HV.out.2.node hit
   subst hBe
   obtain ⟨A5, d5, e5, _, _, r5⟩ := hc5 i hit
   rw [HNN.out] at e5 r5
   obtain ⟨b4, off4, hAe, hb4, hc4⟩ := HV.out.1.int hil
   subst hAe
   have e4 := hc4 i hil
   rw [HLI.out] at e4
   unfold iV at e4
   have E5 := Lib.hid e5
   have E4 := Lib.hid e4
   have RD := Lib.hid r5
   have HNP := Lib.hid specNodePut_any
   unfold KeyD.v keyV at HNP
   have i1 : (i : Int) < (ts.length : Int) := by omega
   have i2 : (0 : Int) ≤ (i : Int) := by omega
   have i3 : (i : Int) < (lo.length : Int) := by omega
   clear e5 e4 r5 hc5 hc4
   go_upto_region 5 with (fail)
   go_cut [8, 9] (fun s8 s9 wx => ∃ pb vq, s8 = .pointer (some ⟨pb, 0, none⟩) ∧ s9 = .bool NB ∧ W5.heap.size ≤ pb ∧ Hid (wx.heap[pb]? = some (.cells #[vq] 62 (0, 0))) ∧ Hid (Owns wx (fun b => W5.heap.size ≤ b ∧ b ≠ pb) vq (setsD RN)) ∧ Hid (Below W5.heap.size W5 wx))
   case first =>
    refine but_begin (f := 12) (S := fun V => Below W5.heap.size W5 V) (by kernel_rfl) ?_
    have hS0g : Below W5.heap.size W5 W5.drew := Below.drew1 _
    have hz0g : W5.heap.size ≤ W5.drew.heap.size := Nat.le_refl _
    generalize W5.drew = Udg at *
    refine but_take (f := 12) (i := 0) (v := ?vg0) rfl (by kernel_rfl) (by kernel_rfl) (by kernel_rfl) (by kernel_rfl) (by kernel_rfl) (fun _ _ _ h => h) (Or.inl ⟨(by rfl), ?hyg0⟩) hS0g ?restg0
    case hyg0 =>
     intro W hW
     go_simp
     exact rfl
    simp only [List.getElem_toArray, List.getElem_cons_succ, List.getElem_cons_zero, Act.put, List.setIfInBounds_toArray, List.set_cons_zero, List.set_cons_succ]
    refine but_take (f := 12) (i := 1) (v := ?vg1) rfl (by kernel_rfl) (by kernel_rfl) (by kernel_rfl) (by kernel_rfl) (by kernel_rfl) (fun _ _ _ h => h) (Or.inl ⟨(by rfl), ?hyg1⟩) hS0g ?restg1
    case hyg1 =>
     intro W hW
     obtain ⟨x0, x1, x2⟩ := box2 (box_on QT.out hW)
     go_simp
     exact rfl
    simp only [List.getElem_toArray, List.getElem_cons_succ, List.getElem_cons_zero, Act.put, List.setIfInBounds_toArray, List.set_cons_zero, List.set_cons_succ]
    refine but_take (f := 12) (i := 2) (v := ?vg2) rfl (by kernel_rfl) (by kernel_rfl) (by kernel_rfl) (by kernel_rfl) (by kernel_rfl) (fun _ _ _ h => h) (Or.inl ⟨(by rfl), ?hyg2⟩) hS0g ?restg2
    case hyg2 =>
     intro W hW
     go_simp
     exact rfl
    simp only [List.getElem_toArray, List.getElem_cons_succ, List.getElem_cons_zero, Act.put, List.setIfInBounds_toArray, List.set_cons_zero, List.set_cons_succ]
    refine but_take (f := 12) (i := 3) (v := ?vg3) rfl (by kernel_rfl) (by kernel_rfl) (by kernel_rfl) (by kernel_rfl) (by kernel_rfl) (fun _ _ _ h => h) (Or.inl ⟨(by rfl), ?hyg3⟩) hS0g ?restg3
    case hyg3 =>
     intro W hW
     go_simp
     exact rfl
    simp only [List.getElem_toArray, List.getElem_cons_succ, List.getElem_cons_zero, Act.put, List.setIfInBounds_toArray, List.set_cons_zero, List.set_cons_succ]
    refine but_take (f := 12) (i := 4) (v := ?vg4) rfl (by kernel_rfl) (by kernel_rfl) (by kernel_rfl) (by kernel_rfl) (by kernel_rfl) (fun _ _ _ h => h) (Or.inl ⟨(by rfl), ?hyg4⟩) hS0g ?restg4
    case hyg4 =>
     intro W hW
     have e5 := (hW.cell (p := ⟨b5, off5 + i, none⟩) hb5).trans E5.out
     go_simp
     exact rfl
    simp only [List.getElem_toArray, List.getElem_cons_succ, List.getElem_cons_zero, Act.put, List.setIfInBounds_toArray, List.set_cons_zero, List.set_cons_succ]
    refine but_take (f := 12) (i := 5) (v := ?vg5) rfl (by kernel_rfl) (by kernel_rfl) (by kernel_rfl) (by kernel_rfl) (by kernel_rfl) (fun _ _ _ h => h) (Or.inl ⟨(by rfl), ?hyg5⟩) hS0g ?restg5
    case hyg5 =>
     intro W hW
     obtain ⟨z0, z1, z2, z3, z4, z5⟩ := box5 (box_on QK.out hW)
     go_simp
     exact rfl
    simp only [List.getElem_toArray, List.getElem_cons_succ, List.getElem_cons_zero, Act.put, List.setIfInBounds_toArray, List.set_cons_zero, List.set_cons_succ]
    refine but_two (i := 6) (j := 10) (by kernel_rfl) rfl rfl (by rfl) (by rfl) ?_ ?_
    ·simp only [List.getElem_toArray, List.getElem_cons_succ, List.getElem_cons_zero]
     intro K HK
     go_wp2_with fail
     refine (HNP.out _ n x _ (RD.out.on hS0g) (by omega) (by omega)).mono ?_
     rintro r Vgp1 ⟨vq, rfl, oq, hbgp1⟩
     rw [HRN.out] at oq
     rw [HNB.out]
     obtain ⟨AN, cN, rfl, _, _⟩ := oq.reads.lenN
     go_wp2_with fail
     have hSgp1 : (fun V => Below W5.heap.size W5 V) Vgp1 := bstep hS0g hbgp1
     refine HK.out _ _ (fun _ => hSgp1) ?_
     clear HK
     have hzgp1 := hbgp1.size
     have ON := Lib.hid oq.lt
     clear oq
     refine but_take (f := 12) (i := 7) (v := ?vgp7) rfl (by kernel_rfl) (by kernel_rfl) (by kernel_rfl) (by kernel_rfl) (by kernel_rfl) (fun _ _ _ h => h) (Or.inl ⟨(by rfl), ?hygp7⟩) hSgp1 ?restgp7
     case hygp7 =>
      intro W hW
      go_simp
      exact rfl
     simp only [List.getElem_toArray, List.getElem_cons_succ, List.getElem_cons_zero, Act.put, List.setIfInBounds_toArray, List.set_cons_zero, List.set_cons_succ]
     refine but_take (f := 12) (i := 8) (v := ?vgp8) rfl (by kernel_rfl) (by kernel_rfl) (by kernel_rfl) (by kernel_rfl) (by kernel_rfl) (fun _ _ _ h => h) (Or.inl ⟨(by rfl), ?hygp8⟩) hSgp1 ?restgp8
     case hygp8 =>
      intro W hW
      go_simp
      exact rfl
     simp only [List.getElem_toArray, List.getElem_cons_succ, List.getElem_cons_zero, Act.put, List.setIfInBounds_toArray, List.set_cons_zero, List.set_cons_succ]
     refine but_take (f := 12) (i := 9) (v := ?vgp9) rfl (by kernel_rfl) (by kernel_rfl) (by kernel_rfl) (by kernel_rfl) (by kernel_rfl) (fun _ _ _ h => h) (Or.inl ⟨(by rfl), ?hygp9⟩) hSgp1 ?restgp9
     case hygp9 =>
      intro W hW
      go_simp
      exact rfl
     simp only [List.getElem_toArray, List.getElem_cons_succ, List.getElem_cons_zero, Act.put, List.setIfInBounds_toArray, List.set_cons_zero, List.set_cons_succ]
     refine but_run (i := 10) (by kernel_rfl) rfl (by rfl) ?_
     simp only [List.getElem_toArray, List.getElem_cons_succ, List.getElem_cons_zero]
     intro K HK
     go_wp2_with fail
     have hSgp2 : (fun V => Below W5.heap.size W5 V) (Vgp1.alloc (.cells #[.slice none 0 0] 62)) := bstep hSgp1 (bal1 _ _)
     refine HK.out _ _ (fun _ => hSgp2) ?_
     clear HK
     have hBgp2 := bal1 Vgp1 (.cells #[.slice none 0 0] 62)
     have hzgp2 : Vgp1.heap.size + 1 ≤ (Vgp1.alloc (.cells #[.slice none 0 0] 62)).heap.size := by simp
     replace ON := Lib.hid (ON.out.on hBgp2)
     have QB := Lib.hid (al1 Vgp1 (.cells #[.slice none 0 0] 62))
     generalize Vgp1.alloc (.cells #[.slice none 0 0] 62) = Vngp2 at *
     refine but_run (i := 11) (by kernel_rfl) rfl (by rfl) ?_
     simp only [List.getElem_toArray, List.getElem_cons_succ, List.getElem_cons_zero]
     intro K HK
     obtain ⟨b0, b1⟩ := box1N QB.out
     go_wp2_with fail
     have hSgp3 : (fun V => Below W5.heap.size W5 V) (Vngp2.setCell ⟨Vgp1.heap.size, 0, none⟩ (.slice AN RN.length cN)) := Below.setCell hSgp2 (p := ⟨Vgp1.heap.size, 0, none⟩) (show W5.heap.size ≤ Vgp1.heap.size by omega) _
     refine HK.out _ _ (fun _ => hSgp3) ?_
     clear HK
     clear b0 b1
     refine but_run (i := 12) (by kernel_rfl) rfl (by rfl) ?_
     simp only [List.getElem_toArray, List.getElem_cons_succ, List.getElem_cons_zero]
     intro K HK
     go_wp2_with fail
     refine HK.out _ _ (fun h => absurd rfl h) ?_
     clear HK
     refine but_done (by kernel_rfl) ?_
     go_wp2_with fail
     go_meet
     exact ⟨Vgp1.heap.size, _, rfl, rfl, by omega, Lib.hid (box_set QB.out), Lib.hid ((ON.out.keep (fun b hb _ => Below.heap_setCell _ _ _ _ (by simp; omega))).mono (fun b hb => ⟨by omega, by omega⟩)), Lib.hid hSgp3⟩
    ·simp only [List.getElem_toArray, List.getElem_cons_succ, List.getElem_cons_zero]
     intro K HK
     go_wp2_with fail
     have hSgq1 : (fun V => Below W5.heap.size W5 V) (Udg.alloc (.cells #[.slice none 0 0] 62)) := bstep hS0g (bal1 _ _)
     refine HK.out _ _ (fun _ => hSgq1) ?_
     clear HK
     have hBgq1 := bal1 Udg (.cells #[.slice none 0 0] 62)
     have hzgq1 : Udg.heap.size + 1 ≤ (Udg.alloc (.cells #[.slice none 0 0] 62)).heap.size := by simp
     have QB := Lib.hid (al1 Udg (.cells #[.slice none 0 0] 62))
     generalize Udg.alloc (.cells #[.slice none 0 0] 62) = Vngq1 at *
     refine but_run (i := 6) (by kernel_rfl) rfl (by rfl) ?_
     simp only [List.getElem_toArray, List.getElem_cons_succ, List.getElem_cons_zero]
     intro K HK
     go_wp2_with fail
     refine (HNP.out _ n x _ (RD.out.on hSgq1) (by omega) (by omega)).mono ?_
     rintro r Vgq2 ⟨vq, rfl, oq, hbgq2⟩
     rw [HRN.out] at oq
     rw [HNB.out]
     obtain ⟨AN, cN, rfl, _, _⟩ := oq.reads.lenN
     go_wp2_with fail
     have hSgq2 : (fun V => Below W5.heap.size W5 V) Vgq2 := bstep hSgq1 hbgq2
     refine HK.out _ _ (fun _ => hSgq2) ?_
     clear HK
     have hzgq2 := hbgq2.size
     replace QB := Lib.hid (box_on QB.out hbgq2)
     have ON := Lib.hid oq.lt
     clear oq
     refine but_take (f := 12) (i := 7) (v := ?vgq7) rfl (by kernel_rfl) (by kernel_rfl) (by kernel_rfl) (by kernel_rfl) (by kernel_rfl) (fun _ _ _ h => h) (Or.inl ⟨(by rfl), ?hygq7⟩) hSgq2 ?restgq7
     case hygq7 =>
      intro W hW
      go_simp
      exact rfl
     simp only [List.getElem_toArray, List.getElem_cons_succ, List.getElem_cons_zero, Act.put, List.setIfInBounds_toArray, List.set_cons_zero, List.set_cons_succ]
     refine but_take (f := 12) (i := 8) (v := ?vgq8) rfl (by kernel_rfl) (by kernel_rfl) (by kernel_rfl) (by kernel_rfl) (by kernel_rfl) (fun _ _ _ h => h) (Or.inl ⟨(by rfl), ?hygq8⟩) hSgq2 ?restgq8
     case hygq8 =>
      intro W hW
      go_simp
      exact rfl
     simp only [List.getElem_toArray, List.getElem_cons_succ, List.getElem_cons_zero, Act.put, List.setIfInBounds_toArray, List.set_cons_zero, List.set_cons_succ]
     refine but_take (f := 12) (i := 9) (v := ?vgq9) rfl (by kernel_rfl) (by kernel_rfl) (by kernel_rfl) (by kernel_rfl) (by kernel_rfl) (fun _ _ _ h => h) (Or.inl ⟨(by rfl), ?hygq9⟩) hSgq2 ?restgq9
     case hygq9 =>
      intro W hW
      go_simp
      exact rfl
     simp only [List.getElem_toArray, List.getElem_cons_succ, List.getElem_cons_zero, Act.put, List.setIfInBounds_toArray, List.set_cons_zero, List.set_cons_succ]
     refine but_run (i := 11) (by kernel_rfl) rfl (by rfl) ?_
     simp only [List.getElem_toArray, List.getElem_cons_succ, List.getElem_cons_zero]
     intro K HK
     obtain ⟨b0, b1⟩ := box1N QB.out
     go_wp2_with fail
     have hSgq3 : (fun V => Below W5.heap.size W5 V) (Vgq2.setCell ⟨Udg.heap.size, 0, none⟩ (.slice AN RN.length cN)) := Below.setCell hSgq2 (p := ⟨Udg.heap.size, 0, none⟩) (show W5.heap.size ≤ Udg.heap.size by omega) _
     refine HK.out _ _ (fun _ => hSgq3) ?_
     clear HK
     clear b0 b1
     refine but_run (i := 12) (by kernel_rfl) rfl (by rfl) ?_
     simp only [List.getElem_toArray, List.getElem_cons_succ, List.getElem_cons_zero]
     intro K HK
     go_wp2_with fail
     refine HK.out _ _ (fun h => absurd rfl h) ?_
     clear HK
     refine but_done (by kernel_rfl) ?_
     go_wp2_with fail
     go_meet
     exact ⟨Udg.heap.size, _, rfl, rfl, by omega, Lib.hid (box_set QB.out), Lib.hid ((ON.out.keep (fun b hb _ => Below.heap_setCell _ _ _ _ (by simp; omega))).mono (fun b hb => ⟨by omega, by omega⟩)), Lib.hid hSgq3⟩
   case rest =>
    obtain ⟨p8, vq, rfl, rfl, hp8, Q8, O8, BX⟩ := hcut
    obtain ⟨AN, cN, rfl, _, _⟩ := O8.out.reads.lenN
    obtain ⟨W6, rfl⟩ : ∃ W, W = wc := ⟨_, rfl⟩
    replace HB := Lib.hid (bstep HB.out BX.out)
    replace QT := Lib.hid (box_on QT.out BX.out)
    replace QK := Lib.hid (box_on QK.out BX.out)
    replace QR := Lib.hid (box_on QR.out BX.out)
    replace Q6 := Lib.hid (box_on Q6.out BX.out)
    replace O6 := Lib.hid (O6.out.on BX.out)
    replace E5 := Lib.hid ((BX.out.cell (p := ⟨b5, off5 + i, none⟩) hb5).trans E5.out)
    replace E4 := Lib.hid ((BX.out.cell (p := ⟨b4, off4 + i, none⟩) hb4).trans E4.out)
    replace RD := Lib.hid (RD.out.on BX.out)
    replace O8 := Lib.hid O8.out.lt
    have hy6 := BX.out.size
    have hq8 := (Array.getElem?_eq_some_iff.1 Q8.out).1
    replace hb5 : b5 < W6.heap.size := by omega
    replace hb4 : b4 < W6.heap.size := by omega
    clear BX HV
    obtain ⟨r1, hr1⟩ : ∃ r, setL lo i [li] (i + 1) = r := ⟨_, rfl⟩
    obtain ⟨r2, hr2⟩ : ∃ r, setL ts i [RN] (i + 1) = r := ⟨_, rfl⟩
    have HR1 := Lib.hid hr1
    have HR2 := Lib.hid hr2
    clear hr1 hr2
    go_upto_region 6 with (fail)
    go_cut [10] (fun s10 wx => ∃ pb Ax cx Bx dx, s10 = .pointer (some ⟨pb, 0, none⟩) ∧ W6.heap.size ≤ pb ∧ Hid (wx.heap[pb]? = some (.cells #[.slice Ax r1.length cx, .slice Bx r2.length dx] 27 (0, 0))) ∧ Hid (TreeS wx (fun b => W.heap.size ≤ b ∧ b ≠ pb) (.slice Ax r1.length cx) (.slice Bx r2.length dx) r1 r2) ∧ Hid (Below W6.heap.size W6 wx))
    case first =>
     refine but_begin (f := 12) (S := fun V => Below W6.heap.size W6 V) (by kernel_rfl) ?_
     have hS0h : Below W6.heap.size W6 W6.drew := Below.drew1 _
     have hz0h : W6.heap.size ≤ W6.drew.heap.size := Nat.le_refl _
     generalize W6.drew = Udh at *
     refine but_take (f := 12) (i := 0) (v := ?vh0) rfl (by kernel_rfl) (by kernel_rfl) (by kernel_rfl) (by kernel_rfl) (by kernel_rfl) (fun _ _ _ h => h) (Or.inl ⟨(by rfl), ?hyh0⟩) hS0h ?resth0
     case hyh0 =>
      intro W hW
      obtain ⟨x0, x1, x2⟩ := box2 (box_on Q6.out hW)
      go_simp
      exact rfl
     simp only [List.getElem_toArray, List.getElem_cons_succ, List.getElem_cons_zero, Act.put, List.setIfInBounds_toArray, List.set_cons_zero, List.set_cons_succ]
     refine but_take (f := 12) (i := 1) (v := ?vh1) rfl (by kernel_rfl) (by kernel_rfl) (by kernel_rfl) (by kernel_rfl) (by kernel_rfl) (fun _ _ _ h => h) (Or.inl ⟨(by rfl), ?hyh1⟩) hS0h ?resth1
     case hyh1 =>
      intro W hW
      go_simp
      exact rfl
     simp only [List.getElem_toArray, List.getElem_cons_succ, List.getElem_cons_zero, Act.put, List.setIfInBounds_toArray, List.set_cons_zero, List.set_cons_succ]
     refine but_take (f := 12) (i := 2) (v := ?vh2) rfl (by kernel_rfl) (by kernel_rfl) (by kernel_rfl) (by kernel_rfl) (by kernel_rfl) (fun _ _ _ h => h) (Or.inl ⟨(by rfl), ?hyh2⟩) hS0h ?resth2
     case hyh2 =>
      intro W hW
      go_simp
      exact rfl
     simp only [List.getElem_toArray, List.getElem_cons_succ, List.getElem_cons_zero, Act.put, List.setIfInBounds_toArray, List.set_cons_zero, List.set_cons_succ]
     refine but_take (f := 12) (i := 3) (v := ?vh3) rfl (by kernel_rfl) (by kernel_rfl) (by kernel_rfl) (by kernel_rfl) (by kernel_rfl) (fun _ _ _ h => h) (Or.inl ⟨(by rfl), ?hyh3⟩) hS0h ?resth3
     case hyh3 =>
      intro W hW
      obtain ⟨x0, x1, x2⟩ := box2 (box_on QT.out hW)
      go_simp
      exact rfl
     simp only [List.getElem_toArray, List.getElem_cons_succ, List.getElem_cons_zero, Act.put, List.setIfInBounds_toArray, List.set_cons_zero, List.set_cons_succ]
     refine but_take (f := 12) (i := 4) (v := ?vh4) rfl (by kernel_rfl) (by kernel_rfl) (by kernel_rfl) (by kernel_rfl) (by kernel_rfl) (fun _ _ _ h => h) (Or.inl ⟨(by rfl), ?hyh4⟩) hS0h ?resth4
     case hyh4 =>
      intro W hW
      go_simp
      exact rfl
     simp only [List.getElem_toArray, List.getElem_cons_succ, List.getElem_cons_zero, Act.put, List.setIfInBounds_toArray, List.set_cons_zero, List.set_cons_succ]
     refine but_take (f := 12) (i := 5) (v := ?vh5) rfl (by kernel_rfl) (by kernel_rfl) (by kernel_rfl) (by kernel_rfl) (by kernel_rfl) (fun _ _ _ h => h) (Or.inl ⟨(by rfl), ?hyh5⟩) hS0h ?resth5
     case hyh5 =>
      intro W hW
      go_simp
      exact rfl
     simp only [List.getElem_toArray, List.getElem_cons_succ, List.getElem_cons_zero, Act.put, List.setIfInBounds_toArray, List.set_cons_zero, List.set_cons_succ]
     refine but_take (f := 12) (i := 6) (v := ?vh6) rfl (by kernel_rfl) (by kernel_rfl) (by kernel_rfl) (by kernel_rfl) (by kernel_rfl) (fun _ _ _ h => h) (Or.inl ⟨(by rfl), ?hyh6⟩) hS0h ?resth6
     case hyh6 =>
      intro W hW
      have e4 := (hW.cell (p := ⟨b4, off4 + i, none⟩) hb4).trans E4.out
      go_simp
      exact rfl
     simp only [List.getElem_toArray, List.getElem_cons_succ, List.getElem_cons_zero, Act.put, List.setIfInBounds_toArray, List.set_cons_zero, List.set_cons_succ]
     refine but_take (f := 12) (i := 8) (v := ?vh8) rfl (by kernel_rfl) (by kernel_rfl) (by kernel_rfl) (by kernel_rfl) (by kernel_rfl) (fun _ _ _ h => h) (Or.inl ⟨(by rfl), ?hyh8⟩) hS0h ?resth8
     case hyh8 =>
      intro W hW
      obtain ⟨z0, z1⟩ := box1N (box_on Q8.out hW)
      go_simp
      exact rfl
     simp only [List.getElem_toArray, List.getElem_cons_succ, List.getElem_cons_zero, Act.put, List.setIfInBounds_toArray, List.set_cons_zero, List.set_cons_succ]
     refine but_three (i := 7) (j := 9) (k := 11) (by kernel_rfl) rfl rfl rfl (by rfl) (by rfl) (by rfl) ?_ ?_ ?_
     ·simp only [List.getElem_toArray, List.getElem_cons_succ, List.getElem_cons_zero]
      intro K HK
      go_wp2_with fail
      have hShp1 : (fun V => Below W6.heap.size W6 V) (Udh.alloc (.cells #[.int .i64 li] 3)) := bstep hS0h (bal1 _ _)
      refine HK.out _ _ (fun _ => hShp1) ?_
      clear HK
      have hBhp1 := bal1 Udh (.cells #[.int .i64 li] 3)
      have hzhp1 : Udh.heap.size + 1 ≤ (Udh.alloc (.cells #[.int .i64 li] 3)).heap.size := by simp
      have AT7 := Lib.hid (At.lit1 Udh (.int .i64 li) 3)
      generalize Udh.alloc (.cells #[.int .i64 li] 3) = Vnhp1 at *
      refine but_two (i := 9) (j := 11) (by kernel_rfl) rfl rfl (by rfl) (by rfl) ?_ ?_
      ·simp only [List.getElem_toArray, List.getElem_cons_succ, List.getElem_cons_zero]
       intro K HK
       go_wp2_with fail
       have hShpp2 : (fun V => Below W6.heap.size W6 V) (Vnhp1.alloc (.cells #[.slice AN RN.length cN] 62)) := bstep hShp1 (bal1 _ _)
       refine HK.out _ _ (fun _ => hShpp2) ?_
       clear HK
       have hBhpp2 := bal1 Vnhp1 (.cells #[.slice AN RN.length cN] 62)
       have hzhpp2 : Vnhp1.heap.size + 1 ≤ (Vnhp1.alloc (.cells #[.slice AN RN.length cN] 62)).heap.size := by simp
       replace AT7 := Lib.hid (AT7.out.on hBhpp2)
       have AT9 := Lib.hid (At.lit1 Vnhp1 (.slice AN RN.length cN) 62)
       generalize Vnhp1.alloc (.cells #[.slice AN RN.length cN] 62) = Vnhpp2 at *
       refine but_two (i := 10) (j := 11) (by kernel_rfl) rfl rfl (by rfl) (by rfl) ?_ ?_
       ·simp only [List.getElem_toArray, List.getElem_cons_succ, List.getElem_cons_zero]
        intro K HK
        go_wp2_with fail
        refine (l6Set_any _ _ lo ts i _ _ [li] _ _ [RN] [.slice AN RN.length cN] W.heap.size W5.heap.size (w.heap.size) _ ((O6.out.on hShpp2).mono (fun b hb => ⟨by omega, by omega, by omega⟩)) AT7.out AT9.out rfl (OwnsL.one ((O8.out.on hShpp2).mono (fun b hb => ⟨by omega, by omega⟩))) (by omega) (by simp [Value.oneCell']) hil hit (by omega) (by omega) (by omega) (by omega) (by simp) (by simp)).mono ?_
        rintro r Vhppp3 ⟨vlx, vnx, rfl, ox, hbhppp3⟩
        rw [HR1.out, HR2.out] at ox
        obtain ⟨Ax, cx, Bx, dx, rfl, rfl⟩ := ox.reads.shape
        go_wp2_with fail
        have hShppp3 : (fun V => Below W6.heap.size W6 V) Vhppp3 := bstep hShpp2 hbhppp3
        refine HK.out _ _ (fun _ => hShppp3) ?_
        clear HK
        have hzhppp3 := hbhppp3.size
        replace AT7 := Lib.hid (AT7.out.on hbhppp3)
        replace AT9 := Lib.hid (AT9.out.on hbhppp3)
        have OX := Lib.hid ox.lt
        clear ox
        refine but_run (i := 11) (by kernel_rfl) rfl (by rfl) ?_
        simp only [List.getElem_toArray, List.getElem_cons_succ, List.getElem_cons_zero]
        intro K HK
        go_wp2_with fail
        have hShppp4 : (fun V => Below W6.heap.size W6 V) (Vhppp3.alloc (.cells #[.slice none 0 0, .slice none 0 0] 27)) := bstep hShppp3 (bal1 _ _)
        refine HK.out _ _ (fun _ => hShppp4) ?_
        clear HK
        have hBhppp4 := bal1 Vhppp3 (.cells #[.slice none 0 0, .slice none 0 0] 27)
        have hzhppp4 : Vhppp3.heap.size + 1 ≤ (Vhppp3.alloc (.cells #[.slice none 0 0, .slice none 0 0] 27)).heap.size := by simp
        replace AT7 := Lib.hid (AT7.out.on hBhppp4)
        replace AT9 := Lib.hid (AT9.out.on hBhppp4)
        replace OX := Lib.hid (OX.out.on hBhppp4)
        have QX := Lib.hid (al1 Vhppp3 (.cells #[.slice none 0 0, .slice none 0 0] 27))
        generalize Vhppp3.alloc (.cells #[.slice none 0 0, .slice none 0 0] 27) = Vnhppp4 at *
        refine but_run (i := 12) (by kernel_rfl) rfl (by rfl) ?_
        simp only [List.getElem_toArray, List.getElem_cons_succ, List.getElem_cons_zero]
        obtain ⟨b0, b1, b2⟩ := box2 QX.out
        intro K HK
        go_wp2_with fail
        refine HK.out _ _ (fun h => absurd rfl h) ?_
        clear HK
        refine but_done (by kernel_rfl) ?_
        have HO := only_two Vnhppp4 (Vhppp3.heap.size) 0 1 (.slice Ax r1.length cx) (.slice Bx r2.length dx)
        go_wp2_with fail
        go_meet
        exact ⟨Vhppp3.heap.size, _, _, _, _, rfl, by omega, Lib.hid (box_set (i := 1) (box_set (i := 0) QX.out)), Lib.hid ((OX.out.keep (fun b hb hl => HO.block b hl (fun e => by omega))).mono (fun b hb => ⟨by omega, by omega⟩)), Lib.hid (hShppp4.trans (HO.below hShppp4.size (fun b hb => by omega)))⟩
       ·simp only [List.getElem_toArray, List.getElem_cons_succ, List.getElem_cons_zero]
        intro K HK
        go_wp2_with fail
        have hShppq3 : (fun V => Below W6.heap.size W6 V) (Vnhpp2.alloc (.cells #[.slice none 0 0, .slice none 0 0] 27)) := bstep hShpp2 (bal1 _ _)
        refine HK.out _ _ (fun _ => hShppq3) ?_
        clear HK
        have hBhppq3 := bal1 Vnhpp2 (.cells #[.slice none 0 0, .slice none 0 0] 27)
        have hzhppq3 : Vnhpp2.heap.size + 1 ≤ (Vnhpp2.alloc (.cells #[.slice none 0 0, .slice none 0 0] 27)).heap.size := by simp
        replace AT7 := Lib.hid (AT7.out.on hBhppq3)
        replace AT9 := Lib.hid (AT9.out.on hBhppq3)
        have QX := Lib.hid (al1 Vnhpp2 (.cells #[.slice none 0 0, .slice none 0 0] 27))
        generalize Vnhpp2.alloc (.cells #[.slice none 0 0, .slice none 0 0] 27) = Vnhppq3 at *
        refine but_run (i := 10) (by kernel_rfl) rfl (by rfl) ?_
        simp only [List.getElem_toArray, List.getElem_cons_succ, List.getElem_cons_zero]
        intro K HK
        go_wp2_with fail
        refine (l6Set_any _ _ lo ts i _ _ [li] _ _ [RN] [.slice AN RN.length cN] W.heap.size W5.heap.size (Vnhpp2.heap.size) _ ((O6.out.on hShppq3).mono (fun b hb => ⟨by omega, by omega, by omega⟩)) AT7.out AT9.out rfl (OwnsL.one ((O8.out.on hShppq3).mono (fun b hb => ⟨by omega, by omega⟩))) (by omega) (by simp [Value.oneCell']) hil hit (by omega) (by omega) (by omega) (by omega) (by simp) (by simp)).mono ?_
        rintro r Vhppq4 ⟨vlx, vnx, rfl, ox, hbhppq4⟩
        rw [HR1.out, HR2.out] at ox
        obtain ⟨Ax, cx, Bx, dx, rfl, rfl⟩ := ox.reads.shape
        go_wp2_with fail
        have hShppq4 : (fun V => Below W6.heap.size W6 V) Vhppq4 := bstep hShppq3 hbhppq4
        refine HK.out _ _ (fun _ => hShppq4) ?_
        clear HK
        have hzhppq4 := hbhppq4.size
        replace AT7 := Lib.hid (AT7.out.on hbhppq4)
        replace AT9 := Lib.hid (AT9.out.on hbhppq4)
        replace QX := Lib.hid (box_on QX.out hbhppq4)
        have OX := Lib.hid ox.lt
        clear ox
        refine but_run (i := 12) (by kernel_rfl) rfl (by rfl) ?_
        simp only [List.getElem_toArray, List.getElem_cons_succ, List.getElem_cons_zero]
        obtain ⟨b0, b1, b2⟩ := box2 QX.out
        intro K HK
        go_wp2_with fail
        refine HK.out _ _ (fun h => absurd rfl h) ?_
        clear HK
        refine but_done (by kernel_rfl) ?_
        have HO := only_two Vhppq4 (Vnhpp2.heap.size) 0 1 (.slice Ax r1.length cx) (.slice Bx r2.length dx)
        go_wp2_with fail
        go_meet
        exact ⟨Vnhpp2.heap.size, _, _, _, _, rfl, by omega, Lib.hid (box_set (i := 1) (box_set (i := 0) QX.out)), Lib.hid ((OX.out.keep (fun b hb hl => HO.block b hl (fun e => by omega))).mono (fun b hb => ⟨by omega, by omega⟩)), Lib.hid (hShppq4.trans (HO.below hShppq4.size (fun b hb => by omega)))⟩
      ·simp only [List.getElem_toArray, List.getElem_cons_succ, List.getElem_cons_zero]
       intro K HK
       go_wp2_with fail
       have hShpq2 : (fun V => Below W6.heap.size W6 V) (Vnhp1.alloc (.cells #[.slice none 0 0, .slice none 0 0] 27)) := bstep hShp1 (bal1 _ _)
       refine HK.out _ _ (fun _ => hShpq2) ?_
       clear HK
       have hBhpq2 := bal1 Vnhp1 (.cells #[.slice none 0 0, .slice none 0 0] 27)
       have hzhpq2 : Vnhp1.heap.size + 1 ≤ (Vnhp1.alloc (.cells #[.slice none 0 0, .slice none 0 0] 27)).heap.size := by simp
       replace AT7 := Lib.hid (AT7.out.on hBhpq2)
       have QX := Lib.hid (al1 Vnhp1 (.cells #[.slice none 0 0, .slice none 0 0] 27))
       generalize Vnhp1.alloc (.cells #[.slice none 0 0, .slice none 0 0] 27) = Vnhpq2 at *
       refine but_run (i := 9) (by kernel_rfl) rfl (by rfl) ?_
       simp only [List.getElem_toArray, List.getElem_cons_succ, List.getElem_cons_zero]
       intro K HK
       go_wp2_with fail
       have hShpq3 : (fun V => Below W6.heap.size W6 V) (Vnhpq2.alloc (.cells #[.slice AN RN.length cN] 62)) := bstep hShpq2 (bal1 _ _)
       refine HK.out _ _ (fun _ => hShpq3) ?_
       clear HK
       have hBhpq3 := bal1 Vnhpq2 (.cells #[.slice AN RN.length cN] 62)
       have hzhpq3 : Vnhpq2.heap.size + 1 ≤ (Vnhpq2.alloc (.cells #[.slice AN RN.length cN] 62)).heap.size := by simp
       replace AT7 := Lib.hid (AT7.out.on hBhpq3)
       replace QX := Lib.hid (box_on QX.out hBhpq3)
       have AT9 := Lib.hid (At.lit1 Vnhpq2 (.slice AN RN.length cN) 62)
       generalize Vnhpq2.alloc (.cells #[.slice AN RN.length cN] 62) = Vnhpq3 at *
       refine but_run (i := 10) (by kernel_rfl) rfl (by rfl) ?_
       simp only [List.getElem_toArray, List.getElem_cons_succ, List.getElem_cons_zero]
       intro K HK
       go_wp2_with fail
       refine (l6Set_any _ _ lo ts i _ _ [li] _ _ [RN] [.slice AN RN.length cN] W.heap.size W5.heap.size (Vnhp1.heap.size) _ ((O6.out.on hShpq3).mono (fun b hb => ⟨by omega, by omega, by omega⟩)) AT7.out AT9.out rfl (OwnsL.one ((O8.out.on hShpq3).mono (fun b hb => ⟨by omega, by omega⟩))) (by omega) (by simp [Value.oneCell']) hil hit (by omega) (by omega) (by omega) (by omega) (by simp) (by simp)).mono ?_
       rintro r Vhpq4 ⟨vlx, vnx, rfl, ox, hbhpq4⟩
       rw [HR1.out, HR2.out] at ox
       obtain ⟨Ax, cx, Bx, dx, rfl, rfl⟩ := ox.reads.shape
       go_wp2_with fail
       have hShpq4 : (fun V => Below W6.heap.size W6 V) Vhpq4 := bstep hShpq3 hbhpq4
       refine HK.out _ _ (fun _ => hShpq4) ?_
       clear HK
       have hzhpq4 := hbhpq4.size
       replace AT7 := Lib.hid (AT7.out.on hbhpq4)
       replace QX := Lib.hid (box_on QX.out hbhpq4)
       replace AT9 := Lib.hid (AT9.out.on hbhpq4)
       have OX := Lib.hid ox.lt
       clear ox
       refine but_run (i := 12) (by kernel_rfl) rfl (by rfl) ?_
       simp only [List.getElem_toArray, List.getElem_cons_succ, List.getElem_cons_zero]
       obtain ⟨b0, b1, b2⟩ := box2 QX.out
       intro K HK
       go_wp2_with fail
       refine HK.out _ _ (fun h => absurd rfl h) ?_
       clear HK
       refine but_done (by kernel_rfl) ?_
       have HO := only_two Vhpq4 (Vnhp1.heap.size) 0 1 (.slice Ax r1.length cx) (.slice Bx r2.length dx)
       go_wp2_with fail
       go_meet
       exact ⟨Vnhp1.heap.size, _, _, _, _, rfl, by omega, Lib.hid (box_set (i := 1) (box_set (i := 0) QX.out)), Lib.hid ((OX.out.keep (fun b hb hl => HO.block b hl (fun e => by omega))).mono (fun b hb => ⟨by omega, by omega⟩)), Lib.hid (hShpq4.trans (HO.below hShpq4.size (fun b hb => by omega)))⟩
     ·simp only [List.getElem_toArray, List.getElem_cons_succ, List.getElem_cons_zero]
      intro K HK
      go_wp2_with fail
      have hShq1 : (fun V => Below W6.heap.size W6 V) (Udh.alloc (.cells #[.slice AN RN.length cN] 62)) := bstep hS0h (bal1 _ _)
      refine HK.out _ _ (fun _ => hShq1) ?_
      clear HK
      have hBhq1 := bal1 Udh (.cells #[.slice AN RN.length cN] 62)
      have hzhq1 : Udh.heap.size + 1 ≤ (Udh.alloc (.cells #[.slice AN RN.length cN] 62)).heap.size := by simp
      have AT9 := Lib.hid (At.lit1 Udh (.slice AN RN.length cN) 62)
      generalize Udh.alloc (.cells #[.slice AN RN.length cN] 62) = Vnhq1 at *
      refine but_two (i := 7) (j := 11) (by kernel_rfl) rfl rfl (by rfl) (by rfl) ?_ ?_
      ·simp only [List.getElem_toArray, List.getElem_cons_succ, List.getElem_cons_zero]
       intro K HK
       go_wp2_with fail
       have hShqp2 : (fun V => Below W6.heap.size W6 V) (Vnhq1.alloc (.cells #[.int .i64 li] 3)) := bstep hShq1 (bal1 _ _)
       refine HK.out _ _ (fun _ => hShqp2) ?_
       clear HK
       have hBhqp2 := bal1 Vnhq1 (.cells #[.int .i64 li] 3)
       have hzhqp2 : Vnhq1.heap.size + 1 ≤ (Vnhq1.alloc (.cells #[.int .i64 li] 3)).heap.size := by simp
       replace AT9 := Lib.hid (AT9.out.on hBhqp2)
       have AT7 := Lib.hid (At.lit1 Vnhq1 (.int .i64 li) 3)
       generalize Vnhq1.alloc (.cells #[.int .i64 li] 3) = Vnhqp2 at *
       refine but_two (i := 10) (j := 11) (by kernel_rfl) rfl rfl (by rfl) (by rfl) ?_ ?_
       ·simp only [List.getElem_toArray, List.getElem_cons_succ, List.getElem_cons_zero]
        intro K HK
        go_wp2_with fail
        refine (l6Set_any _ _ lo ts i _ _ [li] _ _ [RN] [.slice AN RN.length cN] W.heap.size W5.heap.size (w.heap.size) _ ((O6.out.on hShqp2).mono (fun b hb => ⟨by omega, by omega, by omega⟩)) AT7.out AT9.out rfl (OwnsL.one ((O8.out.on hShqp2).mono (fun b hb => ⟨by omega, by omega⟩))) (by omega) (by simp [Value.oneCell']) hil hit (by omega) (by omega) (by omega) (by omega) (by simp) (by simp)).mono ?_
        rintro r Vhqpp3 ⟨vlx, vnx, rfl, ox, hbhqpp3⟩
        rw [HR1.out, HR2.out] at ox
        obtain ⟨Ax, cx, Bx, dx, rfl, rfl⟩ := ox.reads.shape
        go_wp2_with fail
        have hShqpp3 : (fun V => Below W6.heap.size W6 V) Vhqpp3 := bstep hShqp2 hbhqpp3
        refine HK.out _ _ (fun _ => hShqpp3) ?_
        clear HK
        have hzhqpp3 := hbhqpp3.size
        replace AT9 := Lib.hid (AT9.out.on hbhqpp3)
        replace AT7 := Lib.hid (AT7.out.on hbhqpp3)
        have OX := Lib.hid ox.lt
        clear ox
        refine but_run (i := 11) (by kernel_rfl) rfl (by rfl) ?_
        simp only [List.getElem_toArray, List.getElem_cons_succ, List.getElem_cons_zero]
        intro K HK
        go_wp2_with fail
        have hShqpp4 : (fun V => Below W6.heap.size W6 V) (Vhqpp3.alloc (.cells #[.slice none 0 0, .slice none 0 0] 27)) := bstep hShqpp3 (bal1 _ _)
        refine HK.out _ _ (fun _ => hShqpp4) ?_
        clear HK
        have hBhqpp4 := bal1 Vhqpp3 (.cells #[.slice none 0 0, .slice none 0 0] 27)
        have hzhqpp4 : Vhqpp3.heap.size + 1 ≤ (Vhqpp3.alloc (.cells #[.slice none 0 0, .slice none 0 0] 27)).heap.size := by simp
        replace AT9 := Lib.hid (AT9.out.on hBhqpp4)
        replace AT7 := Lib.hid (AT7.out.on hBhqpp4)
        replace OX := Lib.hid (OX.out.on hBhqpp4)
        have QX := Lib.hid (al1 Vhqpp3 (.cells #[.slice none 0 0, .slice none 0 0] 27))
        generalize Vhqpp3.alloc (.cells #[.slice none 0 0, .slice none 0 0] 27) = Vnhqpp4 at *
        refine but_run (i := 12) (by kernel_rfl) rfl (by rfl) ?_
        simp only [List.getElem_toArray, List.getElem_cons_succ, List.getElem_cons_zero]
        obtain ⟨b0, b1, b2⟩ := box2 QX.out
        intro K HK
        go_wp2_with fail
        refine HK.out _ _ (fun h => absurd rfl h) ?_
        clear HK
        refine but_done (by kernel_rfl) ?_
        have HO := only_two Vnhqpp4 (Vhqpp3.heap.size) 0 1 (.slice Ax r1.length cx) (.slice Bx r2.length dx)
        go_wp2_with fail
        go_meet
        exact ⟨Vhqpp3.heap.size, _, _, _, _, rfl, by omega, Lib.hid (box_set (i := 1) (box_set (i := 0) QX.out)), Lib.hid ((OX.out.keep (fun b hb hl => HO.block b hl (fun e => by omega))).mono (fun b hb => ⟨by omega, by omega⟩)), Lib.hid (hShqpp4.trans (HO.below hShqpp4.size (fun b hb => by omega)))⟩
       ·simp only [List.getElem_toArray, List.getElem_cons_succ, List.getElem_cons_zero]
        intro K HK
        go_wp2_with fail
        have hShqpq3 : (fun V => Below W6.heap.size W6 V) (Vnhqp2.alloc (.cells #[.slice none 0 0, .slice none 0 0] 27)) := bstep hShqp2 (bal1 _ _)
        refine HK.out _ _ (fun _ => hShqpq3) ?_
        clear HK
        have hBhqpq3 := bal1 Vnhqp2 (.cells #[.slice none 0 0, .slice none 0 0] 27)
        have hzhqpq3 : Vnhqp2.heap.size + 1 ≤ (Vnhqp2.alloc (.cells #[.slice none 0 0, .slice none 0 0] 27)).heap.size := by simp
        replace AT9 := Lib.hid (AT9.out.on hBhqpq3)
        replace AT7 := Lib.hid (AT7.out.on hBhqpq3)
        have QX := Lib.hid (al1 Vnhqp2 (.cells #[.slice none 0 0, .slice none 0 0] 27))
        generalize Vnhqp2.alloc (.cells #[.slice none 0 0, .slice none 0 0] 27) = Vnhqpq3 at *
        refine but_run (i := 10) (by kernel_rfl) rfl (by rfl) ?_
        simp only [List.getElem_toArray, List.getElem_cons_succ, List.getElem_cons_zero]
        intro K HK
        go_wp2_with fail
        refine (l6Set_any _ _ lo ts i _ _ [li] _ _ [RN] [.slice AN RN.length cN] W.heap.size W5.heap.size (Vnhqp2.heap.size) _ ((O6.out.on hShqpq3).mono (fun b hb => ⟨by omega, by omega, by omega⟩)) AT7.out AT9.out rfl (OwnsL.one ((O8.out.on hShqpq3).mono (fun b hb => ⟨by omega, by omega⟩))) (by omega) (by simp [Value.oneCell']) hil hit (by omega) (by omega) (by omega) (by omega) (by simp) (by simp)).mono ?_
        rintro r Vhqpq4 ⟨vlx, vnx, rfl, ox, hbhqpq4⟩
        rw [HR1.out, HR2.out] at ox
        obtain ⟨Ax, cx, Bx, dx, rfl, rfl⟩ := ox.reads.shape
        go_wp2_with fail
        have hShqpq4 : (fun V => Below W6.heap.size W6 V) Vhqpq4 := bstep hShqpq3 hbhqpq4
        refine HK.out _ _ (fun _ => hShqpq4) ?_
        clear HK
        have hzhqpq4 := hbhqpq4.size
        replace AT9 := Lib.hid (AT9.out.on hbhqpq4)
        replace AT7 := Lib.hid (AT7.out.on hbhqpq4)
        replace QX := Lib.hid (box_on QX.out hbhqpq4)
        have OX := Lib.hid ox.lt
        clear ox
        refine but_run (i := 12) (by kernel_rfl) rfl (by rfl) ?_
        simp only [List.getElem_toArray, List.getElem_cons_succ, List.getElem_cons_zero]
        obtain ⟨b0, b1, b2⟩ := box2 QX.out
        intro K HK
        go_wp2_with fail
        refine HK.out _ _ (fun h => absurd rfl h) ?_
        clear HK
        refine but_done (by kernel_rfl) ?_
        have HO := only_two Vhqpq4 (Vnhqp2.heap.size) 0 1 (.slice Ax r1.length cx) (.slice Bx r2.length dx)
        go_wp2_with fail
        go_meet
        exact ⟨Vnhqp2.heap.size, _, _, _, _, rfl, by omega, Lib.hid (box_set (i := 1) (box_set (i := 0) QX.out)), Lib.hid ((OX.out.keep (fun b hb hl => HO.block b hl (fun e => by omega))).mono (fun b hb => ⟨by omega, by omega⟩)), Lib.hid (hShqpq4.trans (HO.below hShqpq4.size (fun b hb => by omega)))⟩
      ·simp only [List.getElem_toArray, List.getElem_cons_succ, List.getElem_cons_zero]
       intro K HK
       go_wp2_with fail
       have hShqq2 : (fun V => Below W6.heap.size W6 V) (Vnhq1.alloc (.cells #[.slice none 0 0, .slice none 0 0] 27)) := bstep hShq1 (bal1 _ _)
       refine HK.out _ _ (fun _ => hShqq2) ?_
       clear HK
       have hBhqq2 := bal1 Vnhq1 (.cells #[.slice none 0 0, .slice none 0 0] 27)
       have hzhqq2 : Vnhq1.heap.size + 1 ≤ (Vnhq1.alloc (.cells #[.slice none 0 0, .slice none 0 0] 27)).heap.size := by simp
       replace AT9 := Lib.hid (AT9.out.on hBhqq2)
       have QX := Lib.hid (al1 Vnhq1 (.cells #[.slice none 0 0, .slice none 0 0] 27))
       generalize Vnhq1.alloc (.cells #[.slice none 0 0, .slice none 0 0] 27) = Vnhqq2 at *
       refine but_run (i := 7) (by kernel_rfl) rfl (by rfl) ?_
       simp only [List.getElem_toArray, List.getElem_cons_succ, List.getElem_cons_zero]
       intro K HK
       go_wp2_with fail
       have hShqq3 : (fun V => Below W6.heap.size W6 V) (Vnhqq2.alloc (.cells #[.int .i64 li] 3)) := bstep hShqq2 (bal1 _ _)
       refine HK.out _ _ (fun _ => hShqq3) ?_
       clear HK
       have hBhqq3 := bal1 Vnhqq2 (.cells #[.int .i64 li] 3)
       have hzhqq3 : Vnhqq2.heap.size + 1 ≤ (Vnhqq2.alloc (.cells #[.int .i64 li] 3)).heap.size := by simp
       replace AT9 := Lib.hid (AT9.out.on hBhqq3)
       replace QX := Lib.hid (box_on QX.out hBhqq3)
       have AT7 := Lib.hid (At.lit1 Vnhqq2 (.int .i64 li) 3)
       generalize Vnhqq2.alloc (.cells #[.int .i64 li] 3) = Vnhqq3 at *
       refine but_run (i := 10) (by kernel_rfl) rfl (by rfl) ?_
       simp only [List.getElem_toArray, List.getElem_cons_succ, List.getElem_cons_zero]
       intro K HK
       go_wp2_with fail
       refine (l6Set_any _ _ lo ts i _ _ [li] _ _ [RN] [.slice AN RN.length cN] W.heap.size W5.heap.size (Vnhq1.heap.size) _ ((O6.out.on hShqq3).mono (fun b hb => ⟨by omega, by omega, by omega⟩)) AT7.out AT9.out rfl (OwnsL.one ((O8.out.on hShqq3).mono (fun b hb => ⟨by omega, by omega⟩))) (by omega) (by simp [Value.oneCell']) hil hit (by omega) (by omega) (by omega) (by omega) (by simp) (by simp)).mono ?_
       rintro r Vhqq4 ⟨vlx, vnx, rfl, ox, hbhqq4⟩
       rw [HR1.out, HR2.out] at ox
       obtain ⟨Ax, cx, Bx, dx, rfl, rfl⟩ := ox.reads.shape
       go_wp2_with fail
       have hShqq4 : (fun V => Below W6.heap.size W6 V) Vhqq4 := bstep hShqq3 hbhqq4
       refine HK.out _ _ (fun _ => hShqq4) ?_
       clear HK
       have hzhqq4 := hbhqq4.size
       replace AT9 := Lib.hid (AT9.out.on hbhqq4)
       replace QX := Lib.hid (box_on QX.out hbhqq4)
       replace AT7 := Lib.hid (AT7.out.on hbhqq4)
       have OX := Lib.hid ox.lt
       clear ox
       refine but_run (i := 12) (by kernel_rfl) rfl (by rfl) ?_
       simp only [List.getElem_toArray, List.getElem_cons_succ, List.getElem_cons_zero]
       obtain ⟨b0, b1, b2⟩ := box2 QX.out
       intro K HK
       go_wp2_with fail
       refine HK.out _ _ (fun h => absurd rfl h) ?_
       clear HK
       refine but_done (by kernel_rfl) ?_
       have HO := only_two Vhqq4 (Vnhq1.heap.size) 0 1 (.slice Ax r1.length cx) (.slice Bx r2.length dx)
       go_wp2_with fail
       go_meet
       exact ⟨Vnhq1.heap.size, _, _, _, _, rfl, by omega, Lib.hid (box_set (i := 1) (box_set (i := 0) QX.out)), Lib.hid ((OX.out.keep (fun b hb hl => HO.block b hl (fun e => by omega))).mono (fun b hb => ⟨by omega, by omega⟩)), Lib.hid (hShqq4.trans (HO.below hShqq4.size (fun b hb => by omega)))⟩
     ·simp only [List.getElem_toArray, List.getElem_cons_succ, List.getElem_cons_zero]
      intro K HK
      go_wp2_with fail
      have hShr1 : (fun V => Below W6.heap.size W6 V) (Udh.alloc (.cells #[.slice none 0 0, .slice none 0 0] 27)) := bstep hS0h (bal1 _ _)
      refine HK.out _ _ (fun _ => hShr1) ?_
      clear HK
      have hBhr1 := bal1 Udh (.cells #[.slice none 0 0, .slice none 0 0] 27)
      have hzhr1 : Udh.heap.size + 1 ≤ (Udh.alloc (.cells #[.slice none 0 0, .slice none 0 0] 27)).heap.size := by simp
      have QX := Lib.hid (al1 Udh (.cells #[.slice none 0 0, .slice none 0 0] 27))
      generalize Udh.alloc (.cells #[.slice none 0 0, .slice none 0 0] 27) = Vnhr1 at *
      refine but_two (i := 7) (j := 9) (by kernel_rfl) rfl rfl (by rfl) (by rfl) ?_ ?_
      ·simp only [List.getElem_toArray, List.getElem_cons_succ, List.getElem_cons_zero]
       intro K HK
       go_wp2_with fail
       have hShrp2 : (fun V => Below W6.heap.size W6 V) (Vnhr1.alloc (.cells #[.int .i64 li] 3)) := bstep hShr1 (bal1 _ _)
       refine HK.out _ _ (fun _ => hShrp2) ?_
       clear HK
       have hBhrp2 := bal1 Vnhr1 (.cells #[.int .i64 li] 3)
       have hzhrp2 : Vnhr1.heap.size + 1 ≤ (Vnhr1.alloc (.cells #[.int .i64 li] 3)).heap.size := by simp
       replace QX := Lib.hid (box_on QX.out hBhrp2)
       have AT7 := Lib.hid (At.lit1 Vnhr1 (.int .i64 li) 3)
       generalize Vnhr1.alloc (.cells #[.int .i64 li] 3) = Vnhrp2 at *
       refine but_run (i := 9) (by kernel_rfl) rfl (by rfl) ?_
       simp only [List.getElem_toArray, List.getElem_cons_succ, List.getElem_cons_zero]
       intro K HK
       go_wp2_with fail
       have hShrp3 : (fun V => Below W6.heap.size W6 V) (Vnhrp2.alloc (.cells #[.slice AN RN.length cN] 62)) := bstep hShrp2 (bal1 _ _)
       refine HK.out _ _ (fun _ => hShrp3) ?_
       clear HK
       have hBhrp3 := bal1 Vnhrp2 (.cells #[.slice AN RN.length cN] 62)
       have hzhrp3 : Vnhrp2.heap.size + 1 ≤ (Vnhrp2.alloc (.cells #[.slice AN RN.length cN] 62)).heap.size := by simp
       replace QX := Lib.hid (box_on QX.out hBhrp3)
       replace AT7 := Lib.hid (AT7.out.on hBhrp3)
       have AT9 := Lib.hid (At.lit1 Vnhrp2 (.slice AN RN.length cN) 62)
       generalize Vnhrp2.alloc (.cells #[.slice AN RN.length cN] 62) = Vnhrp3 at *
       refine but_run (i := 10) (by kernel_rfl) rfl (by rfl) ?_
       simp only [List.getElem_toArray, List.getElem_cons_succ, List.getElem_cons_zero]
       intro K HK
       go_wp2_with fail
       refine (l6Set_any _ _ lo ts i _ _ [li] _ _ [RN] [.slice AN RN.length cN] W.heap.size W5.heap.size (Udh.heap.size) _ ((O6.out.on hShrp3).mono (fun b hb => ⟨by omega, by omega, by omega⟩)) AT7.out AT9.out rfl (OwnsL.one ((O8.out.on hShrp3).mono (fun b hb => ⟨by omega, by omega⟩))) (by omega) (by simp [Value.oneCell']) hil hit (by omega) (by omega) (by omega) (by omega) (by simp) (by simp)).mono ?_
       rintro r Vhrp4 ⟨vlx, vnx, rfl, ox, hbhrp4⟩
       rw [HR1.out, HR2.out] at ox
       obtain ⟨Ax, cx, Bx, dx, rfl, rfl⟩ := ox.reads.shape
       go_wp2_with fail
       have hShrp4 : (fun V => Below W6.heap.size W6 V) Vhrp4 := bstep hShrp3 hbhrp4
       refine HK.out _ _ (fun _ => hShrp4) ?_
       clear HK
       have hzhrp4 := hbhrp4.size
       replace QX := Lib.hid (box_on QX.out hbhrp4)
       replace AT7 := Lib.hid (AT7.out.on hbhrp4)
       replace AT9 := Lib.hid (AT9.out.on hbhrp4)
       have OX := Lib.hid ox.lt
       clear ox
       refine but_run (i := 12) (by kernel_rfl) rfl (by rfl) ?_
       simp only [List.getElem_toArray, List.getElem_cons_succ, List.getElem_cons_zero]
       obtain ⟨b0, b1, b2⟩ := box2 QX.out
       intro K HK
       go_wp2_with fail
       refine HK.out _ _ (fun h => absurd rfl h) ?_
       clear HK
       refine but_done (by kernel_rfl) ?_
       have HO := only_two Vhrp4 (Udh.heap.size) 0 1 (.slice Ax r1.length cx) (.slice Bx r2.length dx)
       go_wp2_with fail
       go_meet
       exact ⟨Udh.heap.size, _, _, _, _, rfl, by omega, Lib.hid (box_set (i := 1) (box_set (i := 0) QX.out)), Lib.hid ((OX.out.keep (fun b hb hl => HO.block b hl (fun e => by omega))).mono (fun b hb => ⟨by omega, by omega⟩)), Lib.hid (hShrp4.trans (HO.below hShrp4.size (fun b hb => by omega)))⟩
      ·simp only [List.getElem_toArray, List.getElem_cons_succ, List.getElem_cons_zero]
       intro K HK
       go_wp2_with fail
       have hShrq2 : (fun V => Below W6.heap.size W6 V) (Vnhr1.alloc (.cells #[.slice AN RN.length cN] 62)) := bstep hShr1 (bal1 _ _)
       refine HK.out _ _ (fun _ => hShrq2) ?_
       clear HK
       have hBhrq2 := bal1 Vnhr1 (.cells #[.slice AN RN.length cN] 62)
       have hzhrq2 : Vnhr1.heap.size + 1 ≤ (Vnhr1.alloc (.cells #[.slice AN RN.length cN] 62)).heap.size := by simp
       replace QX := Lib.hid (box_on QX.out hBhrq2)
       have AT9 := Lib.hid (At.lit1 Vnhr1 (.slice AN RN.length cN) 62)
       generalize Vnhr1.alloc (.cells #[.slice AN RN.length cN] 62) = Vnhrq2 at *
       refine but_run (i := 7) (by kernel_rfl) rfl (by rfl) ?_
       simp only [List.getElem_toArray, List.getElem_cons_succ, List.getElem_cons_zero]
       intro K HK
       go_wp2_with fail
       have hShrq3 : (fun V => Below W6.heap.size W6 V) (Vnhrq2.alloc (.cells #[.int .i64 li] 3)) := bstep hShrq2 (bal1 _ _)
       refine HK.out _ _ (fun _ => hShrq3) ?_
       clear HK
       have hBhrq3 := bal1 Vnhrq2 (.cells #[.int .i64 li] 3)
       have hzhrq3 : Vnhrq2.heap.size + 1 ≤ (Vnhrq2.alloc (.cells #[.int .i64 li] 3)).heap.size := by simp
       replace QX := Lib.hid (box_on QX.out hBhrq3)
       replace AT9 := Lib.hid (AT9.out.on hBhrq3)
       have AT7 := Lib.hid (At.lit1 Vnhrq2 (.int .i64 li) 3)
       generalize Vnhrq2.alloc (.cells #[.int .i64 li] 3) = Vnhrq3 at *
       refine but_run (i := 10) (by kernel_rfl) rfl (by rfl) ?_
       simp only [List.getElem_toArray, List.getElem_cons_succ, List.getElem_cons_zero]
       intro K HK
       go_wp2_with fail
       refine (l6Set_any _ _ lo ts i _ _ [li] _ _ [RN] [.slice AN RN.length cN] W.heap.size W5.heap.size (Udh.heap.size) _ ((O6.out.on hShrq3).mono (fun b hb => ⟨by omega, by omega, by omega⟩)) AT7.out AT9.out rfl (OwnsL.one ((O8.out.on hShrq3).mono (fun b hb => ⟨by omega, by omega⟩))) (by omega) (by simp [Value.oneCell']) hil hit (by omega) (by omega) (by omega) (by omega) (by simp) (by simp)).mono ?_
       rintro r Vhrq4 ⟨vlx, vnx, rfl, ox, hbhrq4⟩
       rw [HR1.out, HR2.out] at ox
       obtain ⟨Ax, cx, Bx, dx, rfl, rfl⟩ := ox.reads.shape
       go_wp2_with fail
       have hShrq4 : (fun V => Below W6.heap.size W6 V) Vhrq4 := bstep hShrq3 hbhrq4
       refine HK.out _ _ (fun _ => hShrq4) ?_
       clear HK
       have hzhrq4 := hbhrq4.size
       replace QX := Lib.hid (box_on QX.out hbhrq4)
       replace AT9 := Lib.hid (AT9.out.on hbhrq4)
       replace AT7 := Lib.hid (AT7.out.on hbhrq4)
       have OX := Lib.hid ox.lt
       clear ox
       refine but_run (i := 12) (by kernel_rfl) rfl (by rfl) ?_
       simp only [List.getElem_toArray, List.getElem_cons_succ, List.getElem_cons_zero]
       obtain ⟨b0, b1, b2⟩ := box2 QX.out
       intro K HK
       go_wp2_with fail
       refine HK.out _ _ (fun h => absurd rfl h) ?_
       clear HK
       refine but_done (by kernel_rfl) ?_
       have HO := only_two Vhrq4 (Udh.heap.size) 0 1 (.slice Ax r1.length cx) (.slice Bx r2.length dx)
       go_wp2_with fail
       go_meet
       exact ⟨Udh.heap.size, _, _, _, _, rfl, by omega, Lib.hid (box_set (i := 1) (box_set (i := 0) QX.out)), Lib.hid ((OX.out.keep (fun b hb hl => HO.block b hl (fun e => by omega))).mono (fun b hb => ⟨by omega, by omega⟩)), Lib.hid (hShrq4.trans (HO.below hShrq4.size (fun b hb => by omega)))⟩
    case rest =>
     obtain ⟨pb, Ax, cx, Bx, dx, rfl, hpb, QX, OX, BX⟩ := hcut
     obtain ⟨W7, rfl⟩ : ∃ W, W = wc := ⟨_, rfl⟩
     replace HB := Lib.hid (bstep HB.out BX.out)
     replace QT := Lib.hid (box_on QT.out BX.out)
     replace QK := Lib.hid (box_on QK.out BX.out)
     replace QR := Lib.hid (box_on QR.out BX.out)
     replace Q6 := Lib.hid (box_on Q6.out BX.out)
     replace Q8 := Lib.hid (box_on Q8.out BX.out)
     replace O6 := Lib.hid (O6.out.on BX.out)
     replace E5 := Lib.hid ((BX.out.cell (p := ⟨b5, off5 + i, none⟩) hb5).trans E5.out)
     replace E4 := Lib.hid ((BX.out.cell (p := ⟨b4, off4 + i, none⟩) hb4).trans E4.out)
     replace RD := Lib.hid (RD.out.on BX.out)
     replace O8 := Lib.hid (O8.out.on BX.out)
     have hy7 := BX.out.size
     have hqx := (Array.getElem?_eq_some_iff.1 QX.out).1
     replace hb5 : b5 < W7.heap.size := by omega
     replace hb4 : b4 < W7.heap.size := by omega
     clear BX
     have hO6z : w1.heap.size ≤ W5.heap.size := by omega
     cases NB
     ·have hrl := reb_long HFIN.out HKX.out HNB.out
      have hk0 := nodeKeys_len n
      have hrl2 := reb_len n x
      have hpk := putK_len (nodeKeysK n) x
      obtain ⟨K0, hK0⟩ : ∃ K, nodeKeysK n = K := ⟨_, rfl⟩
      obtain ⟨K1, hK1⟩ : ∃ K, putK K0 x = K := ⟨_, rfl⟩
      obtain ⟨L, hL⟩ : ∃ L, dropK K1 = L := ⟨_, rfl⟩
      have hLL : rebK n x = L := by rw [rebK, hK0, hK1, hL]
      rw [hLL] at hrl hrl2 HMID
      rw [hK0, hK1] at hpk
      rw [hK0] at hk0
      have hL9 : L.length = 9 := by omega
      have hhalf : halfK L = 5 := by unfold halfK; rw [hL9]
      have h5L : 5 < L.length := by omega
      rw [hhalf, show L.getD 5 zK = L[5] by simp [List.getD_eq_getElem?_getD, h5L]] at HMID
      have HK0 := Lib.hid hK0
      have HK1 := Lib.hid hK1
      have HL := Lib.hid hL
      have HL9 := Lib.hid hL9
      have HSP := Lib.hid specSetPut_any
      have HST := Lib.hid (l6Spot_any L[5])
      unfold KeyD.v keyV at HSP HST
      obtain ⟨sx, hsx⟩ : ∃ s, spotI (L[5]).a (L[5]).b = s := ⟨_, rfl⟩
      rw [hsx] at HMID HST
      obtain ⟨k5, hk5⟩ : ∃ k, L[5] = k := ⟨_, rfl⟩
      rw [hk5] at HST
      have HK5 := Lib.hid hk5
      obtain ⟨N1, hN1⟩ : ∃ N, nodeNewK (L.take 5) = N := ⟨_, rfl⟩
      obtain ⟨N2, hN2⟩ : ∃ N, nodeNewK (L.drop 5) = N := ⟨_, rfl⟩
      have hs1 : sumN N1 ≤ 9 := by rw [← hN1, sum_new]; simp; omega
      have hs2 : sumN N2 ≤ 9 := by rw [← hN2, sum_new]; simp; omega
      have hs3 : N1.length ≤ 1 := by rw [← hN1]; exact len_new _
      have hs4 : N2.length ≤ 1 := by rw [← hN2]; exact len_new _
      rw [hN1, hN2] at HMID
      have HN1 := Lib.hid hN1
      have HN2 := Lib.hid hN2
      have hme := HMID.out
      rw [if_pos rfl] at hme
      obtain ⟨rl, hrl'⟩ : ∃ r, setL lo i [li, sx] (i + 1) = r := ⟨_, rfl⟩
      obtain ⟨rn, hrn'⟩ : ∃ r, setL ts i [N1, N2] (i + 1) = r := ⟨_, rfl⟩
      have HLL : Hid (rl.length = rn.length ∧ rn.length ≤ 100 ∧ sumT rn ≤ 1000) := Lib.hid (by
       rw [← hrl', ← hrn', setL_len _ _ _ _ (by omega) (by omega), setL_len _ _ _ _ (by omega) (by omega)]
       have h9 := sumT_setL ts (show i ≤ i + 1 by omega) [N1, N2]
       simp only [sumT_cons, sumT_nil] at h9
       exact ⟨by rw [HLEN.out]; rfl, by simp; omega, by omega⟩)
      rw [hrl', hrn'] at hme
      have HME := Lib.hid hme
      have HRL := Lib.hid hrl'
      have HRNN := Lib.hid hrn'
      clear hme hrl' hrn' hN1 hN2 hk5 hsx hhalf hL9 hLL hL hK1 hK0 hrl hrl2 HMID HR1 HR2 OX
      go_upto_region 8 with (fail)
      refine but_begin (f := 9) (S := fun V => Below W7.heap.size W7 V) (by kernel_rfl) ?_
      have hS0z : Below W7.heap.size W7 W7.drew := Below.drew1 _
      have hz0z : W7.heap.size ≤ W7.drew.heap.size := Nat.le_refl _
      generalize W7.drew = Udz at *
      refine but_take (f := 9) (i := 0) (v := ?vz0) rfl (by kernel_rfl) (by kernel_rfl) (by kernel_rfl) (by kernel_rfl) (by kernel_rfl) (fun _ _ _ h => h) (Or.inl ⟨(by rfl), ?hyz0⟩) hS0z ?restz0
      case hyz0 =>
       intro W hW
       go_simp
       exact rfl
      simp only [List.getElem_toArray, List.getElem_cons_succ, List.getElem_cons_zero, Act.put, List.setIfInBounds_toArray, List.set_cons_zero, List.set_cons_succ]
      refine but_take (f := 9) (i := 1) (v := ?vz1) rfl (by kernel_rfl) (by kernel_rfl) (by kernel_rfl) (by kernel_rfl) (by kernel_rfl) (fun _ _ _ h => h) (Or.inl ⟨(by rfl), ?hyz1⟩) hS0z ?restz1
      case hyz1 =>
       intro W hW
       obtain ⟨x0, x1, x2⟩ := box2 (box_on QT.out hW)
       go_simp
       exact rfl
      simp only [List.getElem_toArray, List.getElem_cons_succ, List.getElem_cons_zero, Act.put, List.setIfInBounds_toArray, List.set_cons_zero, List.set_cons_succ]
      refine but_take (f := 9) (i := 2) (v := ?vz2) rfl (by kernel_rfl) (by kernel_rfl) (by kernel_rfl) (by kernel_rfl) (by kernel_rfl) (fun _ _ _ h => h) (Or.inl ⟨(by rfl), ?hyz2⟩) hS0z ?restz2
      case hyz2 =>
       intro W hW
       go_simp
       exact rfl
      simp only [List.getElem_toArray, List.getElem_cons_succ, List.getElem_cons_zero, Act.put, List.setIfInBounds_toArray, List.set_cons_zero, List.set_cons_succ]
      refine but_take (f := 9) (i := 3) (v := ?vz3) rfl (by kernel_rfl) (by kernel_rfl) (by kernel_rfl) (by kernel_rfl) (by kernel_rfl) (fun _ _ _ h => h) (Or.inl ⟨(by rfl), ?hyz3⟩) hS0z ?restz3
      case hyz3 =>
       intro W hW
       go_simp
       exact rfl
      simp only [List.getElem_toArray, List.getElem_cons_succ, List.getElem_cons_zero, Act.put, List.setIfInBounds_toArray, List.set_cons_zero, List.set_cons_succ]
      refine but_take (f := 9) (i := 4) (v := ?vz4) rfl (by kernel_rfl) (by kernel_rfl) (by kernel_rfl) (by kernel_rfl) (by kernel_rfl) (fun _ _ _ h => h) (Or.inl ⟨(by rfl), ?hyz4⟩) hS0z ?restz4
      case hyz4 =>
       intro W hW
       have e5 := (hW.cell (p := ⟨b5, off5 + i, none⟩) hb5).trans E5.out
       go_simp
       exact rfl
      simp only [List.getElem_toArray, List.getElem_cons_succ, List.getElem_cons_zero, Act.put, List.setIfInBounds_toArray, List.set_cons_zero, List.set_cons_succ]
      refine but_take (f := 9) (i := 6) (v := ?vz6) rfl (by kernel_rfl) (by kernel_rfl) (by kernel_rfl) (by kernel_rfl) (by kernel_rfl) (fun _ _ _ h => h) (Or.inl ⟨(by rfl), ?hyz6⟩) hS0z ?restz6
      case hyz6 =>
       intro W hW
       obtain ⟨z0, z1, z2, z3, z4, z5⟩ := box5 (box_on QK.out hW)
       go_simp
       exact rfl
      simp only [List.getElem_toArray, List.getElem_cons_succ, List.getElem_cons_zero, Act.put, List.setIfInBounds_toArray, List.set_cons_zero, List.set_cons_succ]
      refine but_run (i := 5) (by kernel_rfl) rfl (by rfl) ?_
      simp only [List.getElem_toArray, List.getElem_cons_succ, List.getElem_cons_zero]
      intro K HK
      go_wp2_with fail
      refine (specNodeKeys_any _ n _ (RD.out.on hS0z) (by omega) (by omega)).mono ?_
      rintro r Vz1 ⟨va, rfl, oa, hbz1⟩
      rw [HK0.out] at oa
      obtain ⟨Aa, ca, rfl, _, _⟩ := oa.shape
      go_wp2_with fail
      have hSz1 : (fun V => Below W7.heap.size W7 V) Vz1 := bstep hS0z hbz1
      refine HK.out _ _ (fun _ => hSz1) ?_
      clear HK
      have hzz1 := hbz1.size
      have OA := Lib.hid oa
      clear oa
      refine but_run (i := 7) (by kernel_rfl) rfl (by rfl) ?_
      simp only [List.getElem_toArray, List.getElem_cons_succ, List.getElem_cons_zero]
      intro K HK
      go_wp2_with fail
      refine (HSP.out _ K0 x _ OA.out.owns.reads (by omega)).mono ?_
      rintro r Vz2 ⟨va2, rfl, oa2, hbz2⟩
      rw [HK1.out] at oa2
      obtain ⟨Ab, cb, rfl, _, _⟩ := oa2.shape
      go_wp2_with fail
      have hSz2 : (fun V => Below W7.heap.size W7 V) Vz2 := bstep hSz1 hbz2
      refine HK.out _ _ (fun _ => hSz2) ?_
      clear HK
      have hzz2 := hbz2.size
      replace OA := Lib.hid (OA.out.on hbz2)
      have OB := Lib.hid oa2
      clear oa2
      refine but_run (i := 8) (by kernel_rfl) rfl (by rfl) ?_
      simp only [List.getElem_toArray, List.getElem_cons_succ, List.getElem_cons_zero]
      intro K HK
      go_wp2_with fail
      refine (specDrop_any _ K1 _ OB.out.owns.reads (by omega)).mono ?_
      rintro r Vz3 ⟨va3, rfl, oa3, hbz3⟩
      rw [HL.out] at oa3
      obtain ⟨Ad, cd, hvd, _, _⟩ := oa3.shape
      rw [HL9.out] at hvd
      subst hvd
      go_wp2_with fail
      have hSz3 : (fun V => Below W7.heap.size W7 V) Vz3 := bstep hSz2 hbz3
      refine HK.out _ _ (fun _ => hSz3) ?_
      clear HK
      have hzz3 := hbz3.size
      replace OA := Lib.hid (OA.out.on hbz3)
      replace OB := Lib.hid (OB.out.on hbz3)
      have OD := Lib.hid oa3
      clear oa3 OA OB
      refine but_run (i := 9) (by kernel_rfl) rfl (by rfl) ?_
      simp only [List.getElem_toArray, List.getElem_cons_succ, List.getElem_cons_zero]
      intro K HK
      go_wp2_with fail
      refine HK.out _ _ (fun h => absurd rfl h) ?_
      clear HK
      refine but_done (by kernel_rfl) ?_
      have b9 := hSz3
      replace QR := Lib.hid (box_on QR.out b9)
      replace Q6 := Lib.hid (box_on Q6.out b9)
      replace QX := Lib.hid (box_on QX.out b9)
      replace O6 := Lib.hid (O6.out.on b9)
      replace HB := Lib.hid (bstep HB.out b9)
      have hzcm := b9.size
      replace QT := Lib.hid (box_on QT.out b9)
      replace E4 := Lib.hid ((b9.cell (p := ⟨b4, off4 + i, none⟩) hb4).trans E4.out)
      replace hb4 : b4 < Vz3.heap.size := by omega
      obtain ⟨W8, hW8⟩ : ∃ W, W = Vz3 := ⟨_, rfl⟩
      subst hW8
      clear b9
      go_upto_region 10 with (fail)
      obtain ⟨gd, hgd, hcd, rt5, rd5, f5⟩ := OD.out.parts 5 (by have := HL9.out; omega)
      rw [HL9.out] at hcd
      rw [HL9.out] at rd5
      rw [HK5.out] at f5
      subst hgd
      obtain ⟨g0, g1, g2, g3, g4⟩ := f5
      have hgl : gd < W8.heap.size := by obtain ⟨A', c', hv, _⟩ := rt5.lenN; exact World.block_lt_of_cell? W8 _ g0
      have RT5 := Lib.hid rt5
      have RD5 := Lib.hid rd5
      have G0 := Lib.hid g0
      have G1 := Lib.hid g1
      have G2 := Lib.hid g2
      have G3 := Lib.hid g3
      have G4 := Lib.hid g4
      have ncd : ¬ cd = 5 := by omega
      have jcd : (5 : Int) ≤ (cd : Int) := by omega
      clear rt5 rd5 g0 g1 g2 g3 g4 OD
      refine but_begin (f := 23) (S := fun V => Below W8.heap.size W8 V) (by kernel_rfl) ?_
      have hS0y : Below W8.heap.size W8 W8.drew := Below.drew1 _
      have hz0y : W8.heap.size ≤ W8.drew.heap.size := Nat.le_refl _
      generalize W8.drew = Udy at *
      replace QX := Lib.hid (box_on QX.out hS0y)
      refine but_take (f := 23) (i := 0) (v := ?vy0) rfl (by kernel_rfl) (by kernel_rfl) (by kernel_rfl) (by kernel_rfl) (by kernel_rfl) (fun _ _ _ h => h) (Or.inl ⟨(by rfl), ?hyy0⟩) hS0y ?resty0
      case hyy0 =>
       intro W hW
       obtain ⟨x0, x1, x2⟩ := box2 (box_on Q6.out hW)
       go_simp
       exact rfl
      simp only [List.getElem_toArray, List.getElem_cons_succ, List.getElem_cons_zero, Act.put, List.setIfInBounds_toArray, List.set_cons_zero, List.set_cons_succ]
      refine but_take (f := 23) (i := 1) (v := ?vy1) rfl (by kernel_rfl) (by kernel_rfl) (by kernel_rfl) (by kernel_rfl) (by kernel_rfl) (fun _ _ _ h => h) (Or.inl ⟨(by rfl), ?hyy1⟩) hS0y ?resty1
      case hyy1 =>
       intro W hW
       go_simp
       exact rfl
      simp only [List.getElem_toArray, List.getElem_cons_succ, List.getElem_cons_zero, Act.put, List.setIfInBounds_toArray, List.set_cons_zero, List.set_cons_succ]
      refine but_take (f := 23) (i := 2) (v := ?vy2) rfl (by kernel_rfl) (by kernel_rfl) (by kernel_rfl) (by kernel_rfl) (by kernel_rfl) (fun _ _ _ h => h) (Or.inl ⟨(by rfl), ?hyy2⟩) hS0y ?resty2
      case hyy2 =>
       intro W hW
       go_simp
       exact rfl
      simp only [List.getElem_toArray, List.getElem_cons_succ, List.getElem_cons_zero, Act.put, List.setIfInBounds_toArray, List.set_cons_zero, List.set_cons_succ]
      refine but_take (f := 23) (i := 3) (v := ?vy3) rfl (by kernel_rfl) (by kernel_rfl) (by kernel_rfl) (by kernel_rfl) (by kernel_rfl) (fun _ _ _ h => h) (Or.inl ⟨(by rfl), ?hyy3⟩) hS0y ?resty3
      case hyy3 =>
       intro W hW
       obtain ⟨x0, x1, x2⟩ := box2 (box_on QT.out hW)
       go_simp
       exact rfl
      simp only [List.getElem_toArray, List.getElem_cons_succ, List.getElem_cons_zero, Act.put, List.setIfInBounds_toArray, List.set_cons_zero, List.set_cons_succ]
      refine but_take (f := 23) (i := 4) (v := ?vy4) rfl (by kernel_rfl) (by kernel_rfl) (by kernel_rfl) (by kernel_rfl) (by kernel_rfl) (fun _ _ _ h => h) (Or.inl ⟨(by rfl), ?hyy4⟩) hS0y ?resty4
      case hyy4 =>
       intro W hW
       go_simp
       exact rfl
      simp only [List.getElem_toArray, List.getElem_cons_succ, List.getElem_cons_zero, Act.put, List.setIfInBounds_toArray, List.set_cons_zero, List.set_cons_succ]
      refine but_take (f := 23) (i := 5) (v := ?vy5) rfl (by kernel_rfl) (by kernel_rfl) (by kernel_rfl) (by kernel_rfl) (by kernel_rfl) (fun _ _ _ h => h) (Or.inl ⟨(by rfl), ?hyy5⟩) hS0y ?resty5
      case hyy5 =>
       intro W hW
       go_simp
       exact rfl
      simp only [List.getElem_toArray, List.getElem_cons_succ, List.getElem_cons_zero, Act.put, List.setIfInBounds_toArray, List.set_cons_zero, List.set_cons_succ]
      refine but_take (f := 23) (i := 6) (v := ?vy6) rfl (by kernel_rfl) (by kernel_rfl) (by kernel_rfl) (by kernel_rfl) (by kernel_rfl) (fun _ _ _ h => h) (Or.inl ⟨(by rfl), ?hyy6⟩) hS0y ?resty6
      case hyy6 =>
       intro W hW
       have e4 := (hW.cell (p := ⟨b4, off4 + i, none⟩) hb4).trans E4.out
       go_simp
       exact rfl
      simp only [List.getElem_toArray, List.getElem_cons_succ, List.getElem_cons_zero, Act.put, List.setIfInBounds_toArray, List.set_cons_zero, List.set_cons_succ]
      refine but_take (f := 23) (i := 7) (v := ?vy7) rfl (by kernel_rfl) (by kernel_rfl) (by kernel_rfl) (by kernel_rfl) (by kernel_rfl) (fun _ _ _ h => h) (Or.inl ⟨(by rfl), ?hyy7⟩) hS0y ?resty7
      case hyy7 =>
       intro W hW
       go_simp
       exact rfl
      simp only [List.getElem_toArray, List.getElem_cons_succ, List.getElem_cons_zero, Act.put, List.setIfInBounds_toArray, List.set_cons_zero, List.set_cons_succ]
      refine but_take (f := 23) (i := 8) (v := ?vy8) rfl (by kernel_rfl) (by kernel_rfl) (by kernel_rfl) (by kernel_rfl) (by kernel_rfl) (fun _ _ _ h => h) (Or.inl ⟨(by rfl), ?hyy8⟩) hS0y ?resty8
      case hyy8 =>
       intro W hW
       go_simp
       exact rfl
      simp only [List.getElem_toArray, List.getElem_cons_succ, List.getElem_cons_zero, Act.put, List.setIfInBounds_toArray, List.set_cons_zero, List.set_cons_succ]
      refine but_take (f := 23) (i := 9) (v := ?vy9) rfl (by kernel_rfl) (by kernel_rfl) (by kernel_rfl) (by kernel_rfl) (by kernel_rfl) (fun _ _ _ h => h) (Or.inl ⟨(by rfl), ?hyy9⟩) hS0y ?resty9
      case hyy9 =>
       intro W hW
       go_simp
       exact rfl
      simp only [List.getElem_toArray, List.getElem_cons_succ, List.getElem_cons_zero, Act.put, List.setIfInBounds_toArray, List.set_cons_zero, List.set_cons_succ]
      refine but_take (f := 23) (i := 10) (v := ?vy10) rfl (by kernel_rfl) (by kernel_rfl) (by kernel_rfl) (by kernel_rfl) (by kernel_rfl) (fun _ _ _ h => h) (Or.inl ⟨(by rfl), ?hyy10⟩) hS0y ?resty10
      case hyy10 =>
       intro W hW
       have g0 := (hW.cell (p := ⟨gd, 5 * 5, none⟩) hgl).trans G0.out
       have g1 := (hW.cell (p := ⟨gd, 5 * 5 + 1, none⟩) hgl).trans G1.out
       have g2 := (hW.cell (p := ⟨gd, 5 * 5 + 2, none⟩) hgl).trans G2.out
       have g3 := (hW.cell (p := ⟨gd, 5 * 5 + 3, none⟩) hgl).trans G3.out
       have g4 := (hW.cell (p := ⟨gd, 5 * 5 + 4, none⟩) hgl).trans G4.out
       go_simp
       exact rfl
      simp only [List.getElem_toArray, List.getElem_cons_succ, List.getElem_cons_zero, Act.put, List.setIfInBounds_toArray, List.set_cons_zero, List.set_cons_succ]
      refine but_take (f := 23) (i := 13) (v := ?vy13) rfl (by kernel_rfl) (by kernel_rfl) (by kernel_rfl) (by kernel_rfl) (by kernel_rfl) (fun _ _ _ h => h) (Or.inl ⟨(by rfl), ?hyy13⟩) hS0y ?resty13
      case hyy13 =>
       intro W hW
       go_simp
       exact rfl
      simp only [List.getElem_toArray, List.getElem_cons_succ, List.getElem_cons_zero, Act.put, List.setIfInBounds_toArray, List.set_cons_zero, List.set_cons_succ]
      refine but_take (f := 23) (i := 14) (v := ?vy14) rfl (by kernel_rfl) (by kernel_rfl) (by kernel_rfl) (by kernel_rfl) (by kernel_rfl) (fun _ _ _ h => h) (Or.inl ⟨(by rfl), ?hyy14⟩) hS0y ?resty14
      case hyy14 =>
       intro W hW
       go_simp
       exact rfl
      simp only [List.getElem_toArray, List.getElem_cons_succ, List.getElem_cons_zero, Act.put, List.setIfInBounds_toArray, List.set_cons_zero, List.set_cons_succ]
      refine but_take (f := 23) (i := 15) (v := ?vy15) rfl (by kernel_rfl) (by kernel_rfl) (by kernel_rfl) (by kernel_rfl) (by kernel_rfl) (fun _ _ _ h => h) (Or.inl ⟨(by rfl), ?hyy15⟩) hS0y ?resty15
      case hyy15 =>
       intro W hW
       go_simp
       exact rfl
      simp only [List.getElem_toArray, List.getElem_cons_succ, List.getElem_cons_zero, Act.put, List.setIfInBounds_toArray, List.set_cons_zero, List.set_cons_succ]
      refine but_take (f := 23) (i := 17) (v := ?vy17) rfl (by kernel_rfl) (by kernel_rfl) (by kernel_rfl) (by kernel_rfl) (by kernel_rfl) (fun _ _ _ h => h) (Or.inl ⟨(by rfl), ?hyy17⟩) hS0y ?resty17
      case hyy17 =>
       intro W hW
       go_simp
       exact rfl
      simp only [List.getElem_toArray, List.getElem_cons_succ, List.getElem_cons_zero, Act.put, List.setIfInBounds_toArray, List.set_cons_zero, List.set_cons_succ]
      refine but_take (f := 23) (i := 18) (v := ?vy18) rfl (by kernel_rfl) (by kernel_rfl) (by kernel_rfl) (by kernel_rfl) (by kernel_rfl) (fun _ _ _ h => h) (Or.inl ⟨(by rfl), ?hyy18⟩) hS0y ?resty18
      case hyy18 =>
       intro W hW
       go_simp
       exact rfl
      simp only [List.getElem_toArray, List.getElem_cons_succ, List.getElem_cons_zero, Act.put, List.setIfInBounds_toArray, List.set_cons_zero, List.set_cons_succ]
      refine but_take (f := 23) (i := 19) (v := ?vy19) rfl (by kernel_rfl) (by kernel_rfl) (by kernel_rfl) (by kernel_rfl) (by kernel_rfl) (fun _ _ _ h => h) (Or.inl ⟨(by rfl), ?hyy19⟩) hS0y ?resty19
      case hyy19 =>
       intro W hW
       go_simp
       exact rfl
      simp only [List.getElem_toArray, List.getElem_cons_succ, List.getElem_cons_zero, Act.put, List.setIfInBounds_toArray, List.set_cons_zero, List.set_cons_succ]
      refine but_run (i := 11) (by kernel_rfl) rfl (by rfl) ?_
      simp only [List.getElem_toArray, List.getElem_cons_succ, List.getElem_cons_zero]
      intro K HK
      go_wp2_with fail
      refine (HST.out _).mono ?_
      rintro r Vy1 ⟨rfl, hby1⟩
      go_wp2_with fail
      have hSy1 : (fun V => Below W8.heap.size W8 V) Vy1 := bstep hS0y hby1
      refine HK.out _ _ (fun _ => hSy1) ?_
      clear HK
      have hzy1 := hby1.size
      replace QX := Lib.hid (box_on QX.out hby1)
      refine but_two (i := 12) (j := 16) (by kernel_rfl) rfl rfl (by rfl) (by rfl) ?_ ?_
      ·simp only [List.getElem_toArray, List.getElem_cons_succ, List.getElem_cons_zero]
       intro K HK
       go_wp2_with fail
       have hSyp2 : (fun V => Below W8.heap.size W8 V) (Vy1.alloc (.cells #[.int .i64 li, .int .i64 sx] 3)) := bstep hSy1 (bal1 _ _)
       refine HK.out _ _ (fun _ => hSyp2) ?_
       clear HK
       have hByp2 := bal1 Vy1 (.cells #[.int .i64 li, .int .i64 sx] 3)
       have hzyp2 : Vy1.heap.size + 1 ≤ (Vy1.alloc (.cells #[.int .i64 li, .int .i64 sx] 3)).heap.size := by simp
       replace QX := Lib.hid (box_on QX.out hByp2)
       have AT7 := Lib.hid (At.lit2 Vy1 (.int .i64 li) (.int .i64 sx) 3)
       generalize Vy1.alloc (.cells #[.int .i64 li, .int .i64 sx] 3) = Vnyp2 at *
       refine but_run (i := 16) (by kernel_rfl) rfl (by rfl) ?_
       simp only [List.getElem_toArray, List.getElem_cons_succ, List.getElem_cons_zero]
       intro K HK
       go_wp2_with fail
       refine (specNodeNew_any _ (L.take 5) _ (RT5.out.on hSyp2) (by simp; omega)).mono ?_
       rintro r Vyp3 ⟨vn1, rfl, on1, hbyp3⟩
       rw [HN1.out] at on1
       obtain ⟨An1, cn1, rfl, _, _⟩ := on1.reads.lenN
       go_wp2_with fail
       have hSyp3 : (fun V => Below W8.heap.size W8 V) Vyp3 := bstep hSyp2 hbyp3
       refine HK.out _ _ (fun _ => hSyp3) ?_
       clear HK
       have hzyp3 := hbyp3.size
       replace QX := Lib.hid (box_on QX.out hbyp3)
       replace AT7 := Lib.hid (AT7.out.on hbyp3)
       have ON1 := Lib.hid on1.lt
       clear on1
       refine but_run (i := 20) (by kernel_rfl) rfl (by rfl) ?_
       simp only [List.getElem_toArray, List.getElem_cons_succ, List.getElem_cons_zero]
       intro K HK
       go_wp2_with fail
       refine (specNodeNew_any _ (L.drop 5) _ (RD5.out.on hSyp3) (by have h9 := HL9.out; simp; omega)).mono ?_
       rintro r Vyp4 ⟨vn2, rfl, on2, hbyp4⟩
       rw [HN2.out] at on2
       obtain ⟨An2, cn2, rfl, _, _⟩ := on2.reads.lenN
       go_wp2_with fail
       have hSyp4 : (fun V => Below W8.heap.size W8 V) Vyp4 := bstep hSyp3 hbyp4
       refine HK.out _ _ (fun _ => hSyp4) ?_
       clear HK
       have hzyp4 := hbyp4.size
       replace QX := Lib.hid (box_on QX.out hbyp4)
       replace AT7 := Lib.hid (AT7.out.on hbyp4)
       replace ON1 := Lib.hid (ON1.out.on hbyp4)
       have ON2 := Lib.hid on2.lt
       clear on2
       refine but_run (i := 21) (by kernel_rfl) rfl (by rfl) ?_
       simp only [List.getElem_toArray, List.getElem_cons_succ, List.getElem_cons_zero]
       intro K HK
       go_wp2_with fail
       have hSyp5 : (fun V => Below W8.heap.size W8 V) (Vyp4.alloc (.cells #[.slice An1 N1.length cn1, .slice An2 N2.length cn2] 62)) := bstep hSyp4 (bal1 _ _)
       refine HK.out _ _ (fun _ => hSyp5) ?_
       clear HK
       have hByp5 := bal1 Vyp4 (.cells #[.slice An1 N1.length cn1, .slice An2 N2.length cn2] 62)
       have hzyp5 : Vyp4.heap.size + 1 ≤ (Vyp4.alloc (.cells #[.slice An1 N1.length cn1, .slice An2 N2.length cn2] 62)).heap.size := by simp
       replace QX := Lib.hid (box_on QX.out hByp5)
       replace AT7 := Lib.hid (AT7.out.on hByp5)
       replace ON1 := Lib.hid (ON1.out.on hByp5)
       replace ON2 := Lib.hid (ON2.out.on hByp5)
       have AT9 := Lib.hid (At.lit2 Vyp4 (.slice An1 N1.length cn1) (.slice An2 N2.length cn2) 62)
       generalize Vyp4.alloc (.cells #[.slice An1 N1.length cn1, .slice An2 N2.length cn2] 62) = Vnyp5 at *
       refine but_run (i := 22) (by kernel_rfl) rfl (by rfl) ?_
       simp only [List.getElem_toArray, List.getElem_cons_succ, List.getElem_cons_zero]
       intro K HK
       go_wp2_with fail
       refine (l6Set_any _ _ lo ts i _ _ [li, sx] _ _ [N1, N2] [.slice An1 N1.length cn1, .slice An2 N2.length cn2] W.heap.size W8.heap.size pb _ ((O6.out.on hSyp5).mono (fun b hb => ⟨by omega, by omega, by omega⟩)) AT7.out AT9.out rfl (OwnsL.two ON1.out ON2.out (fun b hb => ⟨by omega, by omega⟩) (fun b hb => ⟨by omega, by omega⟩) (fun b hb hb' => by omega)) (by omega) (by simp [Value.oneCell']) hil hit (by omega) (by omega) (by omega) (by omega) (by simp) (by simp)).mono ?_
       rintro r Vyp6 ⟨vlx, vnx, rfl, ox, hbyp6⟩
       rw [HRL.out, HRNN.out] at ox
       obtain ⟨Ax', cx', Bx', dx', rfl, rfl⟩ := ox.reads.shape
       go_wp2_with fail
       have hSyp6 : (fun V => Below W8.heap.size W8 V) Vyp6 := bstep hSyp5 hbyp6
       refine HK.out _ _ (fun _ => hSyp6) ?_
       clear HK
       have hzyp6 := hbyp6.size
       replace QX := Lib.hid (box_on QX.out hbyp6)
       replace AT7 := Lib.hid (AT7.out.on hbyp6)
       replace ON1 := Lib.hid (ON1.out.on hbyp6)
       replace ON2 := Lib.hid (ON2.out.on hbyp6)
       replace AT9 := Lib.hid (AT9.out.on hbyp6)
       have OXX := Lib.hid ox.lt
       clear ox
       refine but_run (i := 23) (by kernel_rfl) rfl (by rfl) ?_
       simp only [List.getElem_toArray, List.getElem_cons_succ, List.getElem_cons_zero]
       obtain ⟨c0, c1, c2⟩ := box2 QX.out
       intro K HK
       go_wp2_with fail
       refine HK.out _ _ (fun h => absurd rfl h) ?_
       clear HK
       refine but_done (by kernel_rfl) ?_
       have b9 := hSyp6
       replace QR := Lib.hid (box_on QR.out b9)
       replace Q6 := Lib.hid (box_on Q6.out b9)
       replace O6 := Lib.hid (O6.out.on b9)
       replace HB := Lib.hid (bstep HB.out b9)
       have hzcn := b9.size
       clear b9
       obtain ⟨Wl, hWl⟩ : ∃ W, W = Vyp6 := ⟨_, rfl⟩
       subst hWl
       have HO := Lib.hid (only_two Wl pb 0 1 (.slice Ax' rl.length cx') (.slice Bx' rn.length dx'))
       have OX := Lib.hid (OXX.out.keep (w' := (Wl.setCell ⟨pb, 0, none⟩ (.slice Ax' rl.length cx')).setCell ⟨pb, 1, none⟩ (.slice Bx' rn.length dx')) (fun b hb hl => HO.out.block b hl (fun e => by omega)))
       replace O6 := Lib.hid (O6.out.keep (w' := (Wl.setCell ⟨pb, 0, none⟩ (.slice Ax' rl.length cx')).setCell ⟨pb, 1, none⟩ (.slice Bx' rn.length dx')) (fun b hb hl => HO.out.block b hl (fun e => by omega)))
       have QX2 : Hid (((Wl.setCell ⟨pb, 0, none⟩ (.slice Ax' rl.length cx')).setCell ⟨pb, 1, none⟩ (.slice Bx' rn.length dx')).heap[pb]? = some (.cells #[.slice Ax' rl.length cx', .slice Bx' rn.length dx'] 27 (0, 0))) := Lib.hid (box_set (i := 1) (box_set (i := 0) QX.out))
       replace QR := Lib.hid (box_only QR.out HO.out (fun e => by omega))
       replace Q6 := Lib.hid (box_only Q6.out HO.out (fun e => by omega))
       replace HB := Lib.hid (HB.out.trans (HO.out.below HB.out.size (fun b hb => by omega)))
       have hzl : ((Wl.setCell ⟨pb, 0, none⟩ (.slice Ax' rl.length cx')).setCell ⟨pb, 1, none⟩ (.slice Bx' rn.length dx')).heap.size = Wl.heap.size := by simp
       have hzl1 := Nat.le_of_eq hzl
       have hzl2 := Nat.le_of_eq hzl.symm
       clear hzl HO OXX
       go_upto_region 13 with (fail)
       clear c0 c1 c2
       generalize (Wl.setCell ⟨pb, 0, none⟩ (.slice Ax' rl.length cx')).setCell ⟨pb, 1, none⟩ (.slice Bx' rn.length dx') = Wm at *
       replace OX := Lib.hid (OX.out.mono (T := fun b => W.heap.size ≤ b ∧ b ≠ pb) (fun b hb => hb.1))
       replace QX := QX2
       clear QX2
       obtain ⟨jl, jn, hJ⟩ : ∃ jl jn, joinK (rl, rn) = (jl, jn) := ⟨_, _, rfl⟩
       have hji := join_inv rn.length (rl, rn) HLL.out.1
       rw [show joinGo rn.length (rl, rn) = (jl, jn) from hJ] at hji
       have hll2 := HLL.out.2.1
       have hll3 := HLL.out.2.2
       have HJI := Lib.hid hji.1
       have hji2 : jn.length ≤ rn.length := hji.2.1
       have hji3 : sumT jn ≤ sumT rn := hji.2.2
       have HJ := Lib.hid hJ
       have HE : Hid (endK lo ts x = (jl, jn)) := Lib.hid (by rw [endK, HME.out, hJ])
       clear hJ hji HME
       obtain ⟨x0, x1, x2⟩ := box2 QX.out
       go_wp2_with fail
       refine (l6Join_any _ _ rl rn W.heap.size pb _ OX.out (by omega) HLL.out.1 (by omega) (by omega) (by omega)).mono ?_
       rintro e Wj ⟨vlj, vnj, rfl, oj, b9⟩
       rw [HJ.out] at oj
       obtain ⟨Aj, cj, Bj, dj, rfl, rfl⟩ := oj.reads.shape
       dsimp only at oj
       clear x0 x1 x2 OX
       replace QR := Lib.hid (box_on QR.out b9)
       replace Q6 := Lib.hid (box_on Q6.out b9)
       replace QX := Lib.hid (box_on QX.out b9)
       replace O6 := Lib.hid (O6.out.on b9)
       replace HB := Lib.hid (bstep HB.out b9)
       have hzcj4 := b9.size
       obtain ⟨b0, b1, b2⟩ := box2 QX.out
       have HO := Lib.hid (only_two Wj pb 0 1 (.slice Aj jl.length cj) (.slice Bj jn.length dj))
       have OJ := Lib.hid (oj.lt.keep (w' := (Wj.setCell ⟨pb, 0, none⟩ (.slice Aj jl.length cj)).setCell ⟨pb, 1, none⟩ (.slice Bj jn.length dj)) (fun b hb hl => HO.out.block b hl (fun e => by omega)))
       replace O6 := Lib.hid (O6.out.keep (w' := (Wj.setCell ⟨pb, 0, none⟩ (.slice Aj jl.length cj)).setCell ⟨pb, 1, none⟩ (.slice Bj jn.length dj)) (fun b hb hl => HO.out.block b hl (fun e => by omega)))
       have QX2 : Hid (((Wj.setCell ⟨pb, 0, none⟩ (.slice Aj jl.length cj)).setCell ⟨pb, 1, none⟩ (.slice Bj jn.length dj)).heap[pb]? = some (.cells #[.slice Aj jl.length cj, .slice Bj jn.length dj] 27 (0, 0))) := Lib.hid (box_set (i := 1) (box_set (i := 0) QX.out))
       replace QR := Lib.hid (box_only QR.out HO.out (fun e => by omega))
       replace Q6 := Lib.hid (box_only Q6.out HO.out (fun e => by omega))
       replace HB := Lib.hid (HB.out.trans (HO.out.below HB.out.size (fun b hb => by omega)))
       have hzk : ((Wj.setCell ⟨pb, 0, none⟩ (.slice Aj jl.length cj)).setCell ⟨pb, 1, none⟩ (.slice Bj jn.length dj)).heap.size = Wj.heap.size := by simp
       have hzk1 := Nat.le_of_eq hzk
       have hzk2 := Nat.le_of_eq hzk.symm
       clear hzk HO QX oj
       go_upto_region 14 with (fail)
       clear b0 b1 b2
       generalize (Wj.setCell ⟨pb, 0, none⟩ (.slice Aj jl.length cj)).setCell ⟨pb, 1, none⟩ (.slice Bj jn.length dj) = Ws at *
       obtain ⟨QX, hQX⟩ : ∃ q, q = QX2 := ⟨_, rfl⟩
       clear hQX QX2
       obtain ⟨x0, x1, x2⟩ := box2 QX.out
       go_wp2_with fail
       refine (specTreeOk_any _ _ jl jn _ OJ.out.reads (by omega) (by have := HJI.out; omega) (by omega)).mono ?_
       rintro e We ⟨rfl, b9⟩
       clear x0 x1 x2
       replace QR := Lib.hid (box_on QR.out b9)
       replace Q6 := Lib.hid (box_on Q6.out b9)
       replace QX := Lib.hid (box_on QX.out b9)
       replace O6 := Lib.hid (O6.out.on b9)
       replace HB := Lib.hid (bstep HB.out b9)
       have hzce4 := b9.size
       replace OJ := Lib.hid (OJ.out.on b9)
       cases hjo : treeOkB jl jn
       ·have HRB2 : Hid (RB = false) := Lib.hid (by rw [HRB.out, HE.out]; exact hjo)
        have HRT : Hid (RT = (lo, ts)) := Lib.hid (by rw [HPT.out, HRB2.out]; rfl)
        replace HRB := HRB2
        clear hjo HRB2
        obtain ⟨x0, x1, x2⟩ := box2 QR.out
        obtain ⟨y0, y1, y2⟩ := box2 Q6.out
        have n3 : ¬ w1.heap.size = w.heap.size + 1 + 1 := by omega
        go_wp2
        have HO : ∀ a b, Only (fun b => b = w.heap.size + 1 + 1) We ((We.setCell ⟨w.heap.size + 1 + 1, 0, none⟩ a).setCell ⟨w.heap.size + 1 + 1, 1, none⟩ b) := fun a b => only_two _ _ _ _ _ _
        refine bodyPost_ret (v := .tuple #[.agg #[.slice A1 lo.length c1, .slice B1 ts.length d1], .bool false]) (by simp [results, Tryz.results8, go_sem, x0, x1, x2]) rfl ⟨_, _, by rw [HRB.out], ?_, HB.out.trans ((HO _ _).below HB.out.size (fun b hb => by omega))⟩
        rw [HRT.out]
        exact (O6.out.keep (fun b hb hl => (HO _ _).block b hl (fun e => by omega))).mono (fun b hb => by omega)
       ·have HRT : Hid (RB = true ∧ RT = (jl, jn)) := Lib.hid (by
         have h1 : RB = true := by rw [HRB.out, HE.out]; exact hjo
         exact ⟨h1, by rw [HPT.out, h1, if_pos rfl, HE.out]⟩)
        clear hjo
        obtain ⟨x0, x1, x2⟩ := box2 QR.out
        obtain ⟨y0, y1, y2⟩ := box2 QX.out
        have n3 : ¬ pb = w.heap.size + 1 + 1 := by omega
        go_wp2
        have HO : ∀ a b, Only (fun b => b = w.heap.size + 1 + 1) We ((We.setCell ⟨w.heap.size + 1 + 1, 0, none⟩ a).setCell ⟨w.heap.size + 1 + 1, 1, none⟩ b) := fun a b => only_two _ _ _ _ _ _
        refine bodyPost_ret (v := .tuple #[.agg #[.slice Aj jl.length cj, .slice Bj jn.length dj], .bool true]) (by simp [results, Tryz.results8, go_sem, x0, x1, x2]) rfl ⟨_, _, by rw [HRT.out.1], ?_, HB.out.trans ((HO _ _).below HB.out.size (fun b hb => by omega))⟩
        rw [HRT.out.2]
        exact (OJ.out.keep (fun b hb hl => (HO _ _).block b hl (fun e => by omega))).mono (fun b hb => by omega)
      ·simp only [List.getElem_toArray, List.getElem_cons_succ, List.getElem_cons_zero]
       intro K HK
       go_wp2_with fail
       refine (specNodeNew_any _ (L.take 5) _ (RT5.out.on hSy1) (by simp; omega)).mono ?_
       rintro r Vyq2 ⟨vn1, rfl, on1, hbyq2⟩
       rw [HN1.out] at on1
       obtain ⟨An1, cn1, rfl, _, _⟩ := on1.reads.lenN
       go_wp2_with fail
       have hSyq2 : (fun V => Below W8.heap.size W8 V) Vyq2 := bstep hSy1 hbyq2
       refine HK.out _ _ (fun _ => hSyq2) ?_
       clear HK
       have hzyq2 := hbyq2.size
       replace QX := Lib.hid (box_on QX.out hbyq2)
       have ON1 := Lib.hid on1.lt
       clear on1
       refine but_two (i := 12) (j := 20) (by kernel_rfl) rfl rfl (by rfl) (by rfl) ?_ ?_
       ·simp only [List.getElem_toArray, List.getElem_cons_succ, List.getElem_cons_zero]
        intro K HK
        go_wp2_with fail
        have hSyqp3 : (fun V => Below W8.heap.size W8 V) (Vyq2.alloc (.cells #[.int .i64 li, .int .i64 sx] 3)) := bstep hSyq2 (bal1 _ _)
        refine HK.out _ _ (fun _ => hSyqp3) ?_
        clear HK
        have hByqp3 := bal1 Vyq2 (.cells #[.int .i64 li, .int .i64 sx] 3)
        have hzyqp3 : Vyq2.heap.size + 1 ≤ (Vyq2.alloc (.cells #[.int .i64 li, .int .i64 sx] 3)).heap.size := by simp
        replace QX := Lib.hid (box_on QX.out hByqp3)
        replace ON1 := Lib.hid (ON1.out.on hByqp3)
        have AT7 := Lib.hid (At.lit2 Vyq2 (.int .i64 li) (.int .i64 sx) 3)
        generalize Vyq2.alloc (.cells #[.int .i64 li, .int .i64 sx] 3) = Vnyqp3 at *
        refine but_run (i := 20) (by kernel_rfl) rfl (by rfl) ?_
        simp only [List.getElem_toArray, List.getElem_cons_succ, List.getElem_cons_zero]
        intro K HK
        go_wp2_with fail
        refine (specNodeNew_any _ (L.drop 5) _ (RD5.out.on hSyqp3) (by have h9 := HL9.out; simp; omega)).mono ?_
        rintro r Vyqp4 ⟨vn2, rfl, on2, hbyqp4⟩
        rw [HN2.out] at on2
        obtain ⟨An2, cn2, rfl, _, _⟩ := on2.reads.lenN
        go_wp2_with fail
        have hSyqp4 : (fun V => Below W8.heap.size W8 V) Vyqp4 := bstep hSyqp3 hbyqp4
        refine HK.out _ _ (fun _ => hSyqp4) ?_
        clear HK
        have hzyqp4 := hbyqp4.size
        replace QX := Lib.hid (box_on QX.out hbyqp4)
        replace ON1 := Lib.hid (ON1.out.on hbyqp4)
        replace AT7 := Lib.hid (AT7.out.on hbyqp4)
        have ON2 := Lib.hid on2.lt
        clear on2
        refine but_run (i := 21) (by kernel_rfl) rfl (by rfl) ?_
        simp only [List.getElem_toArray, List.getElem_cons_succ, List.getElem_cons_zero]
        intro K HK
        go_wp2_with fail
        have hSyqp5 : (fun V => Below W8.heap.size W8 V) (Vyqp4.alloc (.cells #[.slice An1 N1.length cn1, .slice An2 N2.length cn2] 62)) := bstep hSyqp4 (bal1 _ _)
        refine HK.out _ _ (fun _ => hSyqp5) ?_
        clear HK
        have hByqp5 := bal1 Vyqp4 (.cells #[.slice An1 N1.length cn1, .slice An2 N2.length cn2] 62)
        have hzyqp5 : Vyqp4.heap.size + 1 ≤ (Vyqp4.alloc (.cells #[.slice An1 N1.length cn1, .slice An2 N2.length cn2] 62)).heap.size := by simp
        replace QX := Lib.hid (box_on QX.out hByqp5)
        replace ON1 := Lib.hid (ON1.out.on hByqp5)
        replace AT7 := Lib.hid (AT7.out.on hByqp5)
        replace ON2 := Lib.hid (ON2.out.on hByqp5)
        have AT9 := Lib.hid (At.lit2 Vyqp4 (.slice An1 N1.length cn1) (.slice An2 N2.length cn2) 62)
        generalize Vyqp4.alloc (.cells #[.slice An1 N1.length cn1, .slice An2 N2.length cn2] 62) = Vnyqp5 at *
        refine but_run (i := 22) (by kernel_rfl) rfl (by rfl) ?_
        simp only [List.getElem_toArray, List.getElem_cons_succ, List.getElem_cons_zero]
        intro K HK
        go_wp2_with fail
        refine (l6Set_any _ _ lo ts i _ _ [li, sx] _ _ [N1, N2] [.slice An1 N1.length cn1, .slice An2 N2.length cn2] W.heap.size W8.heap.size pb _ ((O6.out.on hSyqp5).mono (fun b hb => ⟨by omega, by omega, by omega⟩)) AT7.out AT9.out rfl (OwnsL.two ON1.out ON2.out (fun b hb => ⟨by omega, by omega⟩) (fun b hb => ⟨by omega, by omega⟩) (fun b hb hb' => by omega)) (by omega) (by simp [Value.oneCell']) hil hit (by omega) (by omega) (by omega) (by omega) (by simp) (by simp)).mono ?_
        rintro r Vyqp6 ⟨vlx, vnx, rfl, ox, hbyqp6⟩
        rw [HRL.out, HRNN.out] at ox
        obtain ⟨Ax', cx', Bx', dx', rfl, rfl⟩ := ox.reads.shape
        go_wp2_with fail
        have hSyqp6 : (fun V => Below W8.heap.size W8 V) Vyqp6 := bstep hSyqp5 hbyqp6
        refine HK.out _ _ (fun _ => hSyqp6) ?_
        clear HK
        have hzyqp6 := hbyqp6.size
        replace QX := Lib.hid (box_on QX.out hbyqp6)
        replace ON1 := Lib.hid (ON1.out.on hbyqp6)
        replace AT7 := Lib.hid (AT7.out.on hbyqp6)
        replace ON2 := Lib.hid (ON2.out.on hbyqp6)
        replace AT9 := Lib.hid (AT9.out.on hbyqp6)
        have OXX := Lib.hid ox.lt
        clear ox
        refine but_run (i := 23) (by kernel_rfl) rfl (by rfl) ?_
        simp only [List.getElem_toArray, List.getElem_cons_succ, List.getElem_cons_zero]
        obtain ⟨c0, c1, c2⟩ := box2 QX.out
        intro K HK
        go_wp2_with fail
        refine HK.out _ _ (fun h => absurd rfl h) ?_
        clear HK
        refine but_done (by kernel_rfl) ?_
        have b9 := hSyqp6
        replace QR := Lib.hid (box_on QR.out b9)
        replace Q6 := Lib.hid (box_on Q6.out b9)
        replace O6 := Lib.hid (O6.out.on b9)
        replace HB := Lib.hid (bstep HB.out b9)
        have hzcn := b9.size
        clear b9
        obtain ⟨Wl, hWl⟩ : ∃ W, W = Vyqp6 := ⟨_, rfl⟩
        subst hWl
        have HO := Lib.hid (only_two Wl pb 0 1 (.slice Ax' rl.length cx') (.slice Bx' rn.length dx'))
        have OX := Lib.hid (OXX.out.keep (w' := (Wl.setCell ⟨pb, 0, none⟩ (.slice Ax' rl.length cx')).setCell ⟨pb, 1, none⟩ (.slice Bx' rn.length dx')) (fun b hb hl => HO.out.block b hl (fun e => by omega)))
        replace O6 := Lib.hid (O6.out.keep (w' := (Wl.setCell ⟨pb, 0, none⟩ (.slice Ax' rl.length cx')).setCell ⟨pb, 1, none⟩ (.slice Bx' rn.length dx')) (fun b hb hl => HO.out.block b hl (fun e => by omega)))
        have QX2 : Hid (((Wl.setCell ⟨pb, 0, none⟩ (.slice Ax' rl.length cx')).setCell ⟨pb, 1, none⟩ (.slice Bx' rn.length dx')).heap[pb]? = some (.cells #[.slice Ax' rl.length cx', .slice Bx' rn.length dx'] 27 (0, 0))) := Lib.hid (box_set (i := 1) (box_set (i := 0) QX.out))
        replace QR := Lib.hid (box_only QR.out HO.out (fun e => by omega))
        replace Q6 := Lib.hid (box_only Q6.out HO.out (fun e => by omega))
        replace HB := Lib.hid (HB.out.trans (HO.out.below HB.out.size (fun b hb => by omega)))
        have hzl : ((Wl.setCell ⟨pb, 0, none⟩ (.slice Ax' rl.length cx')).setCell ⟨pb, 1, none⟩ (.slice Bx' rn.length dx')).heap.size = Wl.heap.size := by simp
        have hzl1 := Nat.le_of_eq hzl
        have hzl2 := Nat.le_of_eq hzl.symm
        clear hzl HO OXX
        go_upto_region 13 with (fail)
        clear c0 c1 c2
        generalize (Wl.setCell ⟨pb, 0, none⟩ (.slice Ax' rl.length cx')).setCell ⟨pb, 1, none⟩ (.slice Bx' rn.length dx') = Wm at *
        replace OX := Lib.hid (OX.out.mono (T := fun b => W.heap.size ≤ b ∧ b ≠ pb) (fun b hb => hb.1))
        replace QX := QX2
        clear QX2
        obtain ⟨jl, jn, hJ⟩ : ∃ jl jn, joinK (rl, rn) = (jl, jn) := ⟨_, _, rfl⟩
        have hji := join_inv rn.length (rl, rn) HLL.out.1
        rw [show joinGo rn.length (rl, rn) = (jl, jn) from hJ] at hji
        have hll2 := HLL.out.2.1
        have hll3 := HLL.out.2.2
        have HJI := Lib.hid hji.1
        have hji2 : jn.length ≤ rn.length := hji.2.1
        have hji3 : sumT jn ≤ sumT rn := hji.2.2
        have HJ := Lib.hid hJ
        have HE : Hid (endK lo ts x = (jl, jn)) := Lib.hid (by rw [endK, HME.out, hJ])
        clear hJ hji HME
        obtain ⟨x0, x1, x2⟩ := box2 QX.out
        go_wp2_with fail
        refine (l6Join_any _ _ rl rn W.heap.size pb _ OX.out (by omega) HLL.out.1 (by omega) (by omega) (by omega)).mono ?_
        rintro e Wj ⟨vlj, vnj, rfl, oj, b9⟩
        rw [HJ.out] at oj
        obtain ⟨Aj, cj, Bj, dj, rfl, rfl⟩ := oj.reads.shape
        dsimp only at oj
        clear x0 x1 x2 OX
        replace QR := Lib.hid (box_on QR.out b9)
        replace Q6 := Lib.hid (box_on Q6.out b9)
        replace QX := Lib.hid (box_on QX.out b9)
        replace O6 := Lib.hid (O6.out.on b9)
        replace HB := Lib.hid (bstep HB.out b9)
        have hzcj4 := b9.size
        obtain ⟨b0, b1, b2⟩ := box2 QX.out
        have HO := Lib.hid (only_two Wj pb 0 1 (.slice Aj jl.length cj) (.slice Bj jn.length dj))
        have OJ := Lib.hid (oj.lt.keep (w' := (Wj.setCell ⟨pb, 0, none⟩ (.slice Aj jl.length cj)).setCell ⟨pb, 1, none⟩ (.slice Bj jn.length dj)) (fun b hb hl => HO.out.block b hl (fun e => by omega)))
        replace O6 := Lib.hid (O6.out.keep (w' := (Wj.setCell ⟨pb, 0, none⟩ (.slice Aj jl.length cj)).setCell ⟨pb, 1, none⟩ (.slice Bj jn.length dj)) (fun b hb hl => HO.out.block b hl (fun e => by omega)))
        have QX2 : Hid (((Wj.setCell ⟨pb, 0, none⟩ (.slice Aj jl.length cj)).setCell ⟨pb, 1, none⟩ (.slice Bj jn.length dj)).heap[pb]? = some (.cells #[.slice Aj jl.length cj, .slice Bj jn.length dj] 27 (0, 0))) := Lib.hid (box_set (i := 1) (box_set (i := 0) QX.out))
        replace QR := Lib.hid (box_only QR.out HO.out (fun e => by omega))
        replace Q6 := Lib.hid (box_only Q6.out HO.out (fun e => by omega))
        replace HB := Lib.hid (HB.out.trans (HO.out.below HB.out.size (fun b hb => by omega)))
        have hzk : ((Wj.setCell ⟨pb, 0, none⟩ (.slice Aj jl.length cj)).setCell ⟨pb, 1, none⟩ (.slice Bj jn.length dj)).heap.size = Wj.heap.size := by simp
        have hzk1 := Nat.le_of_eq hzk
        have hzk2 := Nat.le_of_eq hzk.symm
        clear hzk HO QX oj
        go_upto_region 14 with (fail)
        clear b0 b1 b2
        generalize (Wj.setCell ⟨pb, 0, none⟩ (.slice Aj jl.length cj)).setCell ⟨pb, 1, none⟩ (.slice Bj jn.length dj) = Ws at *
        obtain ⟨QX, hQX⟩ : ∃ q, q = QX2 := ⟨_, rfl⟩
        clear hQX QX2
        obtain ⟨x0, x1, x2⟩ := box2 QX.out
        go_wp2_with fail
        refine (specTreeOk_any _ _ jl jn _ OJ.out.reads (by omega) (by have := HJI.out; omega) (by omega)).mono ?_
        rintro e We ⟨rfl, b9⟩
        clear x0 x1 x2
        replace QR := Lib.hid (box_on QR.out b9)
        replace Q6 := Lib.hid (box_on Q6.out b9)
        replace QX := Lib.hid (box_on QX.out b9)
        replace O6 := Lib.hid (O6.out.on b9)
        replace HB := Lib.hid (bstep HB.out b9)
        have hzce4 := b9.size
        replace OJ := Lib.hid (OJ.out.on b9)
        cases hjo : treeOkB jl jn
        ·have HRB2 : Hid (RB = false) := Lib.hid (by rw [HRB.out, HE.out]; exact hjo)
         have HRT : Hid (RT = (lo, ts)) := Lib.hid (by rw [HPT.out, HRB2.out]; rfl)
         replace HRB := HRB2
         clear hjo HRB2
         obtain ⟨x0, x1, x2⟩ := box2 QR.out
         obtain ⟨y0, y1, y2⟩ := box2 Q6.out
         have n3 : ¬ w1.heap.size = w.heap.size + 1 + 1 := by omega
         go_wp2
         have HO : ∀ a b, Only (fun b => b = w.heap.size + 1 + 1) We ((We.setCell ⟨w.heap.size + 1 + 1, 0, none⟩ a).setCell ⟨w.heap.size + 1 + 1, 1, none⟩ b) := fun a b => only_two _ _ _ _ _ _
         refine bodyPost_ret (v := .tuple #[.agg #[.slice A1 lo.length c1, .slice B1 ts.length d1], .bool false]) (by simp [results, Tryz.results8, go_sem, x0, x1, x2]) rfl ⟨_, _, by rw [HRB.out], ?_, HB.out.trans ((HO _ _).below HB.out.size (fun b hb => by omega))⟩
         rw [HRT.out]
         exact (O6.out.keep (fun b hb hl => (HO _ _).block b hl (fun e => by omega))).mono (fun b hb => by omega)
        ·have HRT : Hid (RB = true ∧ RT = (jl, jn)) := Lib.hid (by
          have h1 : RB = true := by rw [HRB.out, HE.out]; exact hjo
          exact ⟨h1, by rw [HPT.out, h1, if_pos rfl, HE.out]⟩)
         clear hjo
         obtain ⟨x0, x1, x2⟩ := box2 QR.out
         obtain ⟨y0, y1, y2⟩ := box2 QX.out
         have n3 : ¬ pb = w.heap.size + 1 + 1 := by omega
         go_wp2
         have HO : ∀ a b, Only (fun b => b = w.heap.size + 1 + 1) We ((We.setCell ⟨w.heap.size + 1 + 1, 0, none⟩ a).setCell ⟨w.heap.size + 1 + 1, 1, none⟩ b) := fun a b => only_two _ _ _ _ _ _
         refine bodyPost_ret (v := .tuple #[.agg #[.slice Aj jl.length cj, .slice Bj jn.length dj], .bool true]) (by simp [results, Tryz.results8, go_sem, x0, x1, x2]) rfl ⟨_, _, by rw [HRT.out.1], ?_, HB.out.trans ((HO _ _).below HB.out.size (fun b hb => by omega))⟩
         rw [HRT.out.2]
         exact (OJ.out.keep (fun b hb hl => (HO _ _).block b hl (fun e => by omega))).mono (fun b hb => by omega)
       ·simp only [List.getElem_toArray, List.getElem_cons_succ, List.getElem_cons_zero]
        intro K HK
        go_wp2_with fail
        refine (specNodeNew_any _ (L.drop 5) _ (RD5.out.on hSyq2) (by have h9 := HL9.out; simp; omega)).mono ?_
        rintro r Vyqq3 ⟨vn2, rfl, on2, hbyqq3⟩
        rw [HN2.out] at on2
        obtain ⟨An2, cn2, rfl, _, _⟩ := on2.reads.lenN
        go_wp2_with fail
        have hSyqq3 : (fun V => Below W8.heap.size W8 V) Vyqq3 := bstep hSyq2 hbyqq3
        refine HK.out _ _ (fun _ => hSyqq3) ?_
        clear HK
        have hzyqq3 := hbyqq3.size
        replace QX := Lib.hid (box_on QX.out hbyqq3)
        replace ON1 := Lib.hid (ON1.out.on hbyqq3)
        have ON2 := Lib.hid on2.lt
        clear on2
        refine but_two (i := 12) (j := 21) (by kernel_rfl) rfl rfl (by rfl) (by rfl) ?_ ?_
        ·simp only [List.getElem_toArray, List.getElem_cons_succ, List.getElem_cons_zero]
         intro K HK
         go_wp2_with fail
         have hSyqqp4 : (fun V => Below W8.heap.size W8 V) (Vyqq3.alloc (.cells #[.int .i64 li, .int .i64 sx] 3)) := bstep hSyqq3 (bal1 _ _)
         refine HK.out _ _ (fun _ => hSyqqp4) ?_
         clear HK
         have hByqqp4 := bal1 Vyqq3 (.cells #[.int .i64 li, .int .i64 sx] 3)
         have hzyqqp4 : Vyqq3.heap.size + 1 ≤ (Vyqq3.alloc (.cells #[.int .i64 li, .int .i64 sx] 3)).heap.size := by simp
         replace QX := Lib.hid (box_on QX.out hByqqp4)
         replace ON1 := Lib.hid (ON1.out.on hByqqp4)
         replace ON2 := Lib.hid (ON2.out.on hByqqp4)
         have AT7 := Lib.hid (At.lit2 Vyqq3 (.int .i64 li) (.int .i64 sx) 3)
         generalize Vyqq3.alloc (.cells #[.int .i64 li, .int .i64 sx] 3) = Vnyqqp4 at *
         refine but_run (i := 21) (by kernel_rfl) rfl (by rfl) ?_
         simp only [List.getElem_toArray, List.getElem_cons_succ, List.getElem_cons_zero]
         intro K HK
         go_wp2_with fail
         have hSyqqp5 : (fun V => Below W8.heap.size W8 V) (Vnyqqp4.alloc (.cells #[.slice An1 N1.length cn1, .slice An2 N2.length cn2] 62)) := bstep hSyqqp4 (bal1 _ _)
         refine HK.out _ _ (fun _ => hSyqqp5) ?_
         clear HK
         have hByqqp5 := bal1 Vnyqqp4 (.cells #[.slice An1 N1.length cn1, .slice An2 N2.length cn2] 62)
         have hzyqqp5 : Vnyqqp4.heap.size + 1 ≤ (Vnyqqp4.alloc (.cells #[.slice An1 N1.length cn1, .slice An2 N2.length cn2] 62)).heap.size := by simp
         replace QX := Lib.hid (box_on QX.out hByqqp5)
         replace ON1 := Lib.hid (ON1.out.on hByqqp5)
         replace ON2 := Lib.hid (ON2.out.on hByqqp5)
         replace AT7 := Lib.hid (AT7.out.on hByqqp5)
         have AT9 := Lib.hid (At.lit2 Vnyqqp4 (.slice An1 N1.length cn1) (.slice An2 N2.length cn2) 62)
         generalize Vnyqqp4.alloc (.cells #[.slice An1 N1.length cn1, .slice An2 N2.length cn2] 62) = Vnyqqp5 at *
         refine but_run (i := 22) (by kernel_rfl) rfl (by rfl) ?_
         simp only [List.getElem_toArray, List.getElem_cons_succ, List.getElem_cons_zero]
         intro K HK
         go_wp2_with fail
         refine (l6Set_any _ _ lo ts i _ _ [li, sx] _ _ [N1, N2] [.slice An1 N1.length cn1, .slice An2 N2.length cn2] W.heap.size W8.heap.size pb _ ((O6.out.on hSyqqp5).mono (fun b hb => ⟨by omega, by omega, by omega⟩)) AT7.out AT9.out rfl (OwnsL.two ON1.out ON2.out (fun b hb => ⟨by omega, by omega⟩) (fun b hb => ⟨by omega, by omega⟩) (fun b hb hb' => by omega)) (by omega) (by simp [Value.oneCell']) hil hit (by omega) (by omega) (by omega) (by omega) (by simp) (by simp)).mono ?_
         rintro r Vyqqp6 ⟨vlx, vnx, rfl, ox, hbyqqp6⟩
         rw [HRL.out, HRNN.out] at ox
         obtain ⟨Ax', cx', Bx', dx', rfl, rfl⟩ := ox.reads.shape
         go_wp2_with fail
         have hSyqqp6 : (fun V => Below W8.heap.size W8 V) Vyqqp6 := bstep hSyqqp5 hbyqqp6
         refine HK.out _ _ (fun _ => hSyqqp6) ?_
         clear HK
         have hzyqqp6 := hbyqqp6.size
         replace QX := Lib.hid (box_on QX.out hbyqqp6)
         replace ON1 := Lib.hid (ON1.out.on hbyqqp6)
         replace ON2 := Lib.hid (ON2.out.on hbyqqp6)
         replace AT7 := Lib.hid (AT7.out.on hbyqqp6)
         replace AT9 := Lib.hid (AT9.out.on hbyqqp6)
         have OXX := Lib.hid ox.lt
         clear ox
         refine but_run (i := 23) (by kernel_rfl) rfl (by rfl) ?_
         simp only [List.getElem_toArray, List.getElem_cons_succ, List.getElem_cons_zero]
         obtain ⟨c0, c1, c2⟩ := box2 QX.out
         intro K HK
         go_wp2_with fail
         refine HK.out _ _ (fun h => absurd rfl h) ?_
         clear HK
         refine but_done (by kernel_rfl) ?_
         have b9 := hSyqqp6
         replace QR := Lib.hid (box_on QR.out b9)
         replace Q6 := Lib.hid (box_on Q6.out b9)
         replace O6 := Lib.hid (O6.out.on b9)
         replace HB := Lib.hid (bstep HB.out b9)
         have hzcn := b9.size
         clear b9
         obtain ⟨Wl, hWl⟩ : ∃ W, W = Vyqqp6 := ⟨_, rfl⟩
         subst hWl
         have HO := Lib.hid (only_two Wl pb 0 1 (.slice Ax' rl.length cx') (.slice Bx' rn.length dx'))
         have OX := Lib.hid (OXX.out.keep (w' := (Wl.setCell ⟨pb, 0, none⟩ (.slice Ax' rl.length cx')).setCell ⟨pb, 1, none⟩ (.slice Bx' rn.length dx')) (fun b hb hl => HO.out.block b hl (fun e => by omega)))
         replace O6 := Lib.hid (O6.out.keep (w' := (Wl.setCell ⟨pb, 0, none⟩ (.slice Ax' rl.length cx')).setCell ⟨pb, 1, none⟩ (.slice Bx' rn.length dx')) (fun b hb hl => HO.out.block b hl (fun e => by omega)))
         have QX2 : Hid (((Wl.setCell ⟨pb, 0, none⟩ (.slice Ax' rl.length cx')).setCell ⟨pb, 1, none⟩ (.slice Bx' rn.length dx')).heap[pb]? = some (.cells #[.slice Ax' rl.length cx', .slice Bx' rn.length dx'] 27 (0, 0))) := Lib.hid (box_set (i := 1) (box_set (i := 0) QX.out))
         replace QR := Lib.hid (box_only QR.out HO.out (fun e => by omega))
         replace Q6 := Lib.hid (box_only Q6.out HO.out (fun e => by omega))
         replace HB := Lib.hid (HB.out.trans (HO.out.below HB.out.size (fun b hb => by omega)))
         have hzl : ((Wl.setCell ⟨pb, 0, none⟩ (.slice Ax' rl.length cx')).setCell ⟨pb, 1, none⟩ (.slice Bx' rn.length dx')).heap.size = Wl.heap.size := by simp
         have hzl1 := Nat.le_of_eq hzl
         have hzl2 := Nat.le_of_eq hzl.symm
         clear hzl HO OXX
         go_upto_region 13 with (fail)
         clear c0 c1 c2
         generalize (Wl.setCell ⟨pb, 0, none⟩ (.slice Ax' rl.length cx')).setCell ⟨pb, 1, none⟩ (.slice Bx' rn.length dx') = Wm at *
         replace OX := Lib.hid (OX.out.mono (T := fun b => W.heap.size ≤ b ∧ b ≠ pb) (fun b hb => hb.1))
         replace QX := QX2
         clear QX2
         obtain ⟨jl, jn, hJ⟩ : ∃ jl jn, joinK (rl, rn) = (jl, jn) := ⟨_, _, rfl⟩
         have hji := join_inv rn.length (rl, rn) HLL.out.1
         rw [show joinGo rn.length (rl, rn) = (jl, jn) from hJ] at hji
         have hll2 := HLL.out.2.1
         have hll3 := HLL.out.2.2
         have HJI := Lib.hid hji.1
         have hji2 : jn.length ≤ rn.length := hji.2.1
         have hji3 : sumT jn ≤ sumT rn := hji.2.2
         have HJ := Lib.hid hJ
         have HE : Hid (endK lo ts x = (jl, jn)) := Lib.hid (by rw [endK, HME.out, hJ])
         clear hJ hji HME
         obtain ⟨x0, x1, x2⟩ := box2 QX.out
         go_wp2_with fail
         refine (l6Join_any _ _ rl rn W.heap.size pb _ OX.out (by omega) HLL.out.1 (by omega) (by omega) (by omega)).mono ?_
         rintro e Wj ⟨vlj, vnj, rfl, oj, b9⟩
         rw [HJ.out] at oj
         obtain ⟨Aj, cj, Bj, dj, rfl, rfl⟩ := oj.reads.shape
         dsimp only at oj
         clear x0 x1 x2 OX
         replace QR := Lib.hid (box_on QR.out b9)
         replace Q6 := Lib.hid (box_on Q6.out b9)
         replace QX := Lib.hid (box_on QX.out b9)
         replace O6 := Lib.hid (O6.out.on b9)
         replace HB := Lib.hid (bstep HB.out b9)
         have hzcj4 := b9.size
         obtain ⟨b0, b1, b2⟩ := box2 QX.out
         have HO := Lib.hid (only_two Wj pb 0 1 (.slice Aj jl.length cj) (.slice Bj jn.length dj))
         have OJ := Lib.hid (oj.lt.keep (w' := (Wj.setCell ⟨pb, 0, none⟩ (.slice Aj jl.length cj)).setCell ⟨pb, 1, none⟩ (.slice Bj jn.length dj)) (fun b hb hl => HO.out.block b hl (fun e => by omega)))
         replace O6 := Lib.hid (O6.out.keep (w' := (Wj.setCell ⟨pb, 0, none⟩ (.slice Aj jl.length cj)).setCell ⟨pb, 1, none⟩ (.slice Bj jn.length dj)) (fun b hb hl => HO.out.block b hl (fun e => by omega)))
         have QX2 : Hid (((Wj.setCell ⟨pb, 0, none⟩ (.slice Aj jl.length cj)).setCell ⟨pb, 1, none⟩ (.slice Bj jn.length dj)).heap[pb]? = some (.cells #[.slice Aj jl.length cj, .slice Bj jn.length dj] 27 (0, 0))) := Lib.hid (box_set (i := 1) (box_set (i := 0) QX.out))
         replace QR := Lib.hid (box_only QR.out HO.out (fun e => by omega))
         replace Q6 := Lib.hid (box_only Q6.out HO.out (fun e => by omega))
         replace HB := Lib.hid (HB.out.trans (HO.out.below HB.out.size (fun b hb => by omega)))
         have hzk : ((Wj.setCell ⟨pb, 0, none⟩ (.slice Aj jl.length cj)).setCell ⟨pb, 1, none⟩ (.slice Bj jn.length dj)).heap.size = Wj.heap.size := by simp
         have hzk1 := Nat.le_of_eq hzk
         have hzk2 := Nat.le_of_eq hzk.symm
         clear hzk HO QX oj
         go_upto_region 14 with (fail)
         clear b0 b1 b2
         generalize (Wj.setCell ⟨pb, 0, none⟩ (.slice Aj jl.length cj)).setCell ⟨pb, 1, none⟩ (.slice Bj jn.length dj) = Ws at *
         obtain ⟨QX, hQX⟩ : ∃ q, q = QX2 := ⟨_, rfl⟩
         clear hQX QX2
         obtain ⟨x0, x1, x2⟩ := box2 QX.out
         go_wp2_with fail
         refine (specTreeOk_any _ _ jl jn _ OJ.out.reads (by omega) (by have := HJI.out; omega) (by omega)).mono ?_
         rintro e We ⟨rfl, b9⟩
         clear x0 x1 x2
         replace QR := Lib.hid (box_on QR.out b9)
         replace Q6 := Lib.hid (box_on Q6.out b9)
         replace QX := Lib.hid (box_on QX.out b9)
         replace O6 := Lib.hid (O6.out.on b9)
         replace HB := Lib.hid (bstep HB.out b9)
         have hzce4 := b9.size
         replace OJ := Lib.hid (OJ.out.on b9)
         cases hjo : treeOkB jl jn
         ·have HRB2 : Hid (RB = false) := Lib.hid (by rw [HRB.out, HE.out]; exact hjo)
          have HRT : Hid (RT = (lo, ts)) := Lib.hid (by rw [HPT.out, HRB2.out]; rfl)
          replace HRB := HRB2
          clear hjo HRB2
          obtain ⟨x0, x1, x2⟩ := box2 QR.out
          obtain ⟨y0, y1, y2⟩ := box2 Q6.out
          have n3 : ¬ w1.heap.size = w.heap.size + 1 + 1 := by omega
          go_wp2
          have HO : ∀ a b, Only (fun b => b = w.heap.size + 1 + 1) We ((We.setCell ⟨w.heap.size + 1 + 1, 0, none⟩ a).setCell ⟨w.heap.size + 1 + 1, 1, none⟩ b) := fun a b => only_two _ _ _ _ _ _
          refine bodyPost_ret (v := .tuple #[.agg #[.slice A1 lo.length c1, .slice B1 ts.length d1], .bool false]) (by simp [results, Tryz.results8, go_sem, x0, x1, x2]) rfl ⟨_, _, by rw [HRB.out], ?_, HB.out.trans ((HO _ _).below HB.out.size (fun b hb => by omega))⟩
          rw [HRT.out]
          exact (O6.out.keep (fun b hb hl => (HO _ _).block b hl (fun e => by omega))).mono (fun b hb => by omega)
         ·have HRT : Hid (RB = true ∧ RT = (jl, jn)) := Lib.hid (by
           have h1 : RB = true := by rw [HRB.out, HE.out]; exact hjo
           exact ⟨h1, by rw [HPT.out, h1, if_pos rfl, HE.out]⟩)
          clear hjo
          obtain ⟨x0, x1, x2⟩ := box2 QR.out
          obtain ⟨y0, y1, y2⟩ := box2 QX.out
          have n3 : ¬ pb = w.heap.size + 1 + 1 := by omega
          go_wp2
          have HO : ∀ a b, Only (fun b => b = w.heap.size + 1 + 1) We ((We.setCell ⟨w.heap.size + 1 + 1, 0, none⟩ a).setCell ⟨w.heap.size + 1 + 1, 1, none⟩ b) := fun a b => only_two _ _ _ _ _ _
          refine bodyPost_ret (v := .tuple #[.agg #[.slice Aj jl.length cj, .slice Bj jn.length dj], .bool true]) (by simp [results, Tryz.results8, go_sem, x0, x1, x2]) rfl ⟨_, _, by rw [HRT.out.1], ?_, HB.out.trans ((HO _ _).below HB.out.size (fun b hb => by omega))⟩
          rw [HRT.out.2]
          exact (OJ.out.keep (fun b hb hl => (HO _ _).block b hl (fun e => by omega))).mono (fun b hb => by omega)
        ·simp only [List.getElem_toArray, List.getElem_cons_succ, List.getElem_cons_zero]
         intro K HK
         go_wp2_with fail
         have hSyqqq4 : (fun V => Below W8.heap.size W8 V) (Vyqq3.alloc (.cells #[.slice An1 N1.length cn1, .slice An2 N2.length cn2] 62)) := bstep hSyqq3 (bal1 _ _)
         refine HK.out _ _ (fun _ => hSyqqq4) ?_
         clear HK
         have hByqqq4 := bal1 Vyqq3 (.cells #[.slice An1 N1.length cn1, .slice An2 N2.length cn2] 62)
         have hzyqqq4 : Vyqq3.heap.size + 1 ≤ (Vyqq3.alloc (.cells #[.slice An1 N1.length cn1, .slice An2 N2.length cn2] 62)).heap.size := by simp
         replace QX := Lib.hid (box_on QX.out hByqqq4)
         replace ON1 := Lib.hid (ON1.out.on hByqqq4)
         replace ON2 := Lib.hid (ON2.out.on hByqqq4)
         have AT9 := Lib.hid (At.lit2 Vyqq3 (.slice An1 N1.length cn1) (.slice An2 N2.length cn2) 62)
         generalize Vyqq3.alloc (.cells #[.slice An1 N1.length cn1, .slice An2 N2.length cn2] 62) = Vnyqqq4 at *
         refine but_run (i := 12) (by kernel_rfl) rfl (by rfl) ?_
         simp only [List.getElem_toArray, List.getElem_cons_succ, List.getElem_cons_zero]
         intro K HK
         go_wp2_with fail
         have hSyqqq5 : (fun V => Below W8.heap.size W8 V) (Vnyqqq4.alloc (.cells #[.int .i64 li, .int .i64 sx] 3)) := bstep hSyqqq4 (bal1 _ _)
         refine HK.out _ _ (fun _ => hSyqqq5) ?_
         clear HK
         have hByqqq5 := bal1 Vnyqqq4 (.cells #[.int .i64 li, .int .i64 sx] 3)
         have hzyqqq5 : Vnyqqq4.heap.size + 1 ≤ (Vnyqqq4.alloc (.cells #[.int .i64 li, .int .i64 sx] 3)).heap.size := by simp
         replace QX := Lib.hid (box_on QX.out hByqqq5)
         replace ON1 := Lib.hid (ON1.out.on hByqqq5)
         replace ON2 := Lib.hid (ON2.out.on hByqqq5)
         replace AT9 := Lib.hid (AT9.out.on hByqqq5)
         have AT7 := Lib.hid (At.lit2 Vnyqqq4 (.int .i64 li) (.int .i64 sx) 3)
         generalize Vnyqqq4.alloc (.cells #[.int .i64 li, .int .i64 sx] 3) = Vnyqqq5 at *
         refine but_run (i := 22) (by kernel_rfl) rfl (by rfl) ?_
         simp only [List.getElem_toArray, List.getElem_cons_succ, List.getElem_cons_zero]
         intro K HK
         go_wp2_with fail
         refine (l6Set_any _ _ lo ts i _ _ [li, sx] _ _ [N1, N2] [.slice An1 N1.length cn1, .slice An2 N2.length cn2] W.heap.size W8.heap.size pb _ ((O6.out.on hSyqqq5).mono (fun b hb => ⟨by omega, by omega, by omega⟩)) AT7.out AT9.out rfl (OwnsL.two ON1.out ON2.out (fun b hb => ⟨by omega, by omega⟩) (fun b hb => ⟨by omega, by omega⟩) (fun b hb hb' => by omega)) (by omega) (by simp [Value.oneCell']) hil hit (by omega) (by omega) (by omega) (by omega) (by simp) (by simp)).mono ?_
         rintro r Vyqqq6 ⟨vlx, vnx, rfl, ox, hbyqqq6⟩
         rw [HRL.out, HRNN.out] at ox
         obtain ⟨Ax', cx', Bx', dx', rfl, rfl⟩ := ox.reads.shape
         go_wp2_with fail
         have hSyqqq6 : (fun V => Below W8.heap.size W8 V) Vyqqq6 := bstep hSyqqq5 hbyqqq6
         refine HK.out _ _ (fun _ => hSyqqq6) ?_
         clear HK
         have hzyqqq6 := hbyqqq6.size
         replace QX := Lib.hid (box_on QX.out hbyqqq6)
         replace ON1 := Lib.hid (ON1.out.on hbyqqq6)
         replace ON2 := Lib.hid (ON2.out.on hbyqqq6)
         replace AT9 := Lib.hid (AT9.out.on hbyqqq6)
         replace AT7 := Lib.hid (AT7.out.on hbyqqq6)
         have OXX := Lib.hid ox.lt
         clear ox
         refine but_run (i := 23) (by kernel_rfl) rfl (by rfl) ?_
         simp only [List.getElem_toArray, List.getElem_cons_succ, List.getElem_cons_zero]
         obtain ⟨c0, c1, c2⟩ := box2 QX.out
         intro K HK
         go_wp2_with fail
         refine HK.out _ _ (fun h => absurd rfl h) ?_
         clear HK
         refine but_done (by kernel_rfl) ?_
         have b9 := hSyqqq6
         replace QR := Lib.hid (box_on QR.out b9)
         replace Q6 := Lib.hid (box_on Q6.out b9)
         replace O6 := Lib.hid (O6.out.on b9)
         replace HB := Lib.hid (bstep HB.out b9)
         have hzcn := b9.size
         clear b9
         obtain ⟨Wl, hWl⟩ : ∃ W, W = Vyqqq6 := ⟨_, rfl⟩
         subst hWl
         have HO := Lib.hid (only_two Wl pb 0 1 (.slice Ax' rl.length cx') (.slice Bx' rn.length dx'))
         have OX := Lib.hid (OXX.out.keep (w' := (Wl.setCell ⟨pb, 0, none⟩ (.slice Ax' rl.length cx')).setCell ⟨pb, 1, none⟩ (.slice Bx' rn.length dx')) (fun b hb hl => HO.out.block b hl (fun e => by omega)))
         replace O6 := Lib.hid (O6.out.keep (w' := (Wl.setCell ⟨pb, 0, none⟩ (.slice Ax' rl.length cx')).setCell ⟨pb, 1, none⟩ (.slice Bx' rn.length dx')) (fun b hb hl => HO.out.block b hl (fun e => by omega)))
         have QX2 : Hid (((Wl.setCell ⟨pb, 0, none⟩ (.slice Ax' rl.length cx')).setCell ⟨pb, 1, none⟩ (.slice Bx' rn.length dx')).heap[pb]? = some (.cells #[.slice Ax' rl.length cx', .slice Bx' rn.length dx'] 27 (0, 0))) := Lib.hid (box_set (i := 1) (box_set (i := 0) QX.out))
         replace QR := Lib.hid (box_only QR.out HO.out (fun e => by omega))
         replace Q6 := Lib.hid (box_only Q6.out HO.out (fun e => by omega))
         replace HB := Lib.hid (HB.out.trans (HO.out.below HB.out.size (fun b hb => by omega)))
         have hzl : ((Wl.setCell ⟨pb, 0, none⟩ (.slice Ax' rl.length cx')).setCell ⟨pb, 1, none⟩ (.slice Bx' rn.length dx')).heap.size = Wl.heap.size := by simp
         have hzl1 := Nat.le_of_eq hzl
         have hzl2 := Nat.le_of_eq hzl.symm
         clear hzl HO OXX
         go_upto_region 13 with (fail)
         clear c0 c1 c2
         generalize (Wl.setCell ⟨pb, 0, none⟩ (.slice Ax' rl.length cx')).setCell ⟨pb, 1, none⟩ (.slice Bx' rn.length dx') = Wm at *
         replace OX := Lib.hid (OX.out.mono (T := fun b => W.heap.size ≤ b ∧ b ≠ pb) (fun b hb => hb.1))
         replace QX := QX2
         clear QX2
         obtain ⟨jl, jn, hJ⟩ : ∃ jl jn, joinK (rl, rn) = (jl, jn) := ⟨_, _, rfl⟩
         have hji := join_inv rn.length (rl, rn) HLL.out.1
         rw [show joinGo rn.length (rl, rn) = (jl, jn) from hJ] at hji
         have hll2 := HLL.out.2.1
         have hll3 := HLL.out.2.2
         have HJI := Lib.hid hji.1
         have hji2 : jn.length ≤ rn.length := hji.2.1
         have hji3 : sumT jn ≤ sumT rn := hji.2.2
         have HJ := Lib.hid hJ
         have HE : Hid (endK lo ts x = (jl, jn)) := Lib.hid (by rw [endK, HME.out, hJ])
         clear hJ hji HME
         obtain ⟨x0, x1, x2⟩ := box2 QX.out
         go_wp2_with fail
         refine (l6Join_any _ _ rl rn W.heap.size pb _ OX.out (by omega) HLL.out.1 (by omega) (by omega) (by omega)).mono ?_
         rintro e Wj ⟨vlj, vnj, rfl, oj, b9⟩
         rw [HJ.out] at oj
         obtain ⟨Aj, cj, Bj, dj, rfl, rfl⟩ := oj.reads.shape
         dsimp only at oj
         clear x0 x1 x2 OX
         replace QR := Lib.hid (box_on QR.out b9)
         replace Q6 := Lib.hid (box_on Q6.out b9)
         replace QX := Lib.hid (box_on QX.out b9)
         replace O6 := Lib.hid (O6.out.on b9)
         replace HB := Lib.hid (bstep HB.out b9)
         have hzcj4 := b9.size
         obtain ⟨b0, b1, b2⟩ := box2 QX.out
         have HO := Lib.hid (only_two Wj pb 0 1 (.slice Aj jl.length cj) (.slice Bj jn.length dj))
         have OJ := Lib.hid (oj.lt.keep (w' := (Wj.setCell ⟨pb, 0, none⟩ (.slice Aj jl.length cj)).setCell ⟨pb, 1, none⟩ (.slice Bj jn.length dj)) (fun b hb hl => HO.out.block b hl (fun e => by omega)))
         replace O6 := Lib.hid (O6.out.keep (w' := (Wj.setCell ⟨pb, 0, none⟩ (.slice Aj jl.length cj)).setCell ⟨pb, 1, none⟩ (.slice Bj jn.length dj)) (fun b hb hl => HO.out.block b hl (fun e => by omega)))
         have QX2 : Hid (((Wj.setCell ⟨pb, 0, none⟩ (.slice Aj jl.length cj)).setCell ⟨pb, 1, none⟩ (.slice Bj jn.length dj)).heap[pb]? = some (.cells #[.slice Aj jl.length cj, .slice Bj jn.length dj] 27 (0, 0))) := Lib.hid (box_set (i := 1) (box_set (i := 0) QX.out))
         replace QR := Lib.hid (box_only QR.out HO.out (fun e => by omega))
         replace Q6 := Lib.hid (box_only Q6.out HO.out (fun e => by omega))
         replace HB := Lib.hid (HB.out.trans (HO.out.below HB.out.size (fun b hb => by omega)))
         have hzk : ((Wj.setCell ⟨pb, 0, none⟩ (.slice Aj jl.length cj)).setCell ⟨pb, 1, none⟩ (.slice Bj jn.length dj)).heap.size = Wj.heap.size := by simp
         have hzk1 := Nat.le_of_eq hzk
         have hzk2 := Nat.le_of_eq hzk.symm
         clear hzk HO QX oj
         go_upto_region 14 with (fail)
         clear b0 b1 b2
         generalize (Wj.setCell ⟨pb, 0, none⟩ (.slice Aj jl.length cj)).setCell ⟨pb, 1, none⟩ (.slice Bj jn.length dj) = Ws at *
         obtain ⟨QX, hQX⟩ : ∃ q, q = QX2 := ⟨_, rfl⟩
         clear hQX QX2
         obtain ⟨x0, x1, x2⟩ := box2 QX.out
         go_wp2_with fail
         refine (specTreeOk_any _ _ jl jn _ OJ.out.reads (by omega) (by have := HJI.out; omega) (by omega)).mono ?_
         rintro e We ⟨rfl, b9⟩
         clear x0 x1 x2
         replace QR := Lib.hid (box_on QR.out b9)
         replace Q6 := Lib.hid (box_on Q6.out b9)
         replace QX := Lib.hid (box_on QX.out b9)
         replace O6 := Lib.hid (O6.out.on b9)
         replace HB := Lib.hid (bstep HB.out b9)
         have hzce4 := b9.size
         replace OJ := Lib.hid (OJ.out.on b9)
         cases hjo : treeOkB jl jn
         ·have HRB2 : Hid (RB = false) := Lib.hid (by rw [HRB.out, HE.out]; exact hjo)
          have HRT : Hid (RT = (lo, ts)) := Lib.hid (by rw [HPT.out, HRB2.out]; rfl)
          replace HRB := HRB2
          clear hjo HRB2
          obtain ⟨x0, x1, x2⟩ := box2 QR.out
          obtain ⟨y0, y1, y2⟩ := box2 Q6.out
          have n3 : ¬ w1.heap.size = w.heap.size + 1 + 1 := by omega
          go_wp2
          have HO : ∀ a b, Only (fun b => b = w.heap.size + 1 + 1) We ((We.setCell ⟨w.heap.size + 1 + 1, 0, none⟩ a).setCell ⟨w.heap.size + 1 + 1, 1, none⟩ b) := fun a b => only_two _ _ _ _ _ _
          refine bodyPost_ret (v := .tuple #[.agg #[.slice A1 lo.length c1, .slice B1 ts.length d1], .bool false]) (by simp [results, Tryz.results8, go_sem, x0, x1, x2]) rfl ⟨_, _, by rw [HRB.out], ?_, HB.out.trans ((HO _ _).below HB.out.size (fun b hb => by omega))⟩
          rw [HRT.out]
          exact (O6.out.keep (fun b hb hl => (HO _ _).block b hl (fun e => by omega))).mono (fun b hb => by omega)
         ·have HRT : Hid (RB = true ∧ RT = (jl, jn)) := Lib.hid (by
           have h1 : RB = true := by rw [HRB.out, HE.out]; exact hjo
           exact ⟨h1, by rw [HPT.out, h1, if_pos rfl, HE.out]⟩)
          clear hjo
          obtain ⟨x0, x1, x2⟩ := box2 QR.out
          obtain ⟨y0, y1, y2⟩ := box2 QX.out
          have n3 : ¬ pb = w.heap.size + 1 + 1 := by omega
          go_wp2
          have HO : ∀ a b, Only (fun b => b = w.heap.size + 1 + 1) We ((We.setCell ⟨w.heap.size + 1 + 1, 0, none⟩ a).setCell ⟨w.heap.size + 1 + 1, 1, none⟩ b) := fun a b => only_two _ _ _ _ _ _
          refine bodyPost_ret (v := .tuple #[.agg #[.slice Aj jl.length cj, .slice Bj jn.length dj], .bool true]) (by simp [results, Tryz.results8, go_sem, x0, x1, x2]) rfl ⟨_, _, by rw [HRT.out.1], ?_, HB.out.trans ((HO _ _).below HB.out.size (fun b hb => by omega))⟩
          rw [HRT.out.2]
          exact (OJ.out.keep (fun b hb hl => (HO _ _).block b hl (fun e => by omega))).mono (fun b hb => by omega)
     ·clear HFIN
      have hme := HMID.out
      rw [if_neg (by decide)] at hme
      clear HMID
      have HR12 := Lib.hid (And.intro HR1.out HR2.out)
      by_cases hi0 : i = 0
      ·have t0 : ¬ (0 : Int) < (i : Int) := by omega
       have t1 : (i : Int) ≤ 0 := by omega
       rw [if_neg (by omega), HR1.out, HR2.out] at hme
       have HME := Lib.hid hme
       clear hme hi0
       obtain ⟨Wm, rfl⟩ : ∃ W, W = W7 := ⟨_, rfl⟩
       obtain ⟨rl, hq1⟩ : ∃ r, r = r1 := ⟨_, rfl⟩
       obtain ⟨rn, hq2⟩ : ∃ r, r = r2 := ⟨_, rfl⟩
       have HLL : Hid (rl.length = rn.length ∧ rn.length ≤ 100 ∧ sumT rn ≤ 1000) := Lib.hid (by
        rw [hq1, hq2, ← HR12.out.1, ← HR12.out.2, setL_len _ _ _ _ (by omega) (by omega), setL_len _ _ _ _ (by omega) (by omega)]
        have h9 := sumT_setL ts (show i ≤ i + 1 by omega) [RN]
        simp only [sumT_cons, sumT_nil] at h9
        exact ⟨by rw [HLEN.out]; rfl, by simp; omega, by omega⟩)
       rw [← hq1, ← hq2] at HME
       rw [← hq1] at QX OX
       rw [← hq2] at QX OX
       clear hq1 hq2
       obtain ⟨jl, jn, hJ⟩ : ∃ jl jn, joinK (rl, rn) = (jl, jn) := ⟨_, _, rfl⟩
       have hji := join_inv rn.length (rl, rn) HLL.out.1
       rw [show joinGo rn.length (rl, rn) = (jl, jn) from hJ] at hji
       have hll2 := HLL.out.2.1
       have hll3 := HLL.out.2.2
       have HJI := Lib.hid hji.1
       have hji2 : jn.length ≤ rn.length := hji.2.1
       have hji3 : sumT jn ≤ sumT rn := hji.2.2
       have HJ := Lib.hid hJ
       have HE : Hid (endK lo ts x = (jl, jn)) := Lib.hid (by rw [endK, HME.out, hJ])
       clear hJ hji HME
       obtain ⟨x0, x1, x2⟩ := box2 QX.out
       go_wp2_with fail
       refine (l6Join_any _ _ rl rn W.heap.size pb _ OX.out (by omega) HLL.out.1 (by omega) (by omega) (by omega)).mono ?_
       rintro e Wj ⟨vlj, vnj, rfl, oj, b9⟩
       rw [HJ.out] at oj
       obtain ⟨Aj, cj, Bj, dj, rfl, rfl⟩ := oj.reads.shape
       dsimp only at oj
       clear x0 x1 x2 OX
       replace QR := Lib.hid (box_on QR.out b9)
       replace Q6 := Lib.hid (box_on Q6.out b9)
       replace QX := Lib.hid (box_on QX.out b9)
       replace O6 := Lib.hid (O6.out.on b9)
       replace HB := Lib.hid (bstep HB.out b9)
       have hzcj1 := b9.size
       obtain ⟨b0, b1, b2⟩ := box2 QX.out
       have HO := Lib.hid (only_two Wj pb 0 1 (.slice Aj jl.length cj) (.slice Bj jn.length dj))
       have OJ := Lib.hid (oj.lt.keep (w' := (Wj.setCell ⟨pb, 0, none⟩ (.slice Aj jl.length cj)).setCell ⟨pb, 1, none⟩ (.slice Bj jn.length dj)) (fun b hb hl => HO.out.block b hl (fun e => by omega)))
       replace O6 := Lib.hid (O6.out.keep (w' := (Wj.setCell ⟨pb, 0, none⟩ (.slice Aj jl.length cj)).setCell ⟨pb, 1, none⟩ (.slice Bj jn.length dj)) (fun b hb hl => HO.out.block b hl (fun e => by omega)))
       have QX2 : Hid (((Wj.setCell ⟨pb, 0, none⟩ (.slice Aj jl.length cj)).setCell ⟨pb, 1, none⟩ (.slice Bj jn.length dj)).heap[pb]? = some (.cells #[.slice Aj jl.length cj, .slice Bj jn.length dj] 27 (0, 0))) := Lib.hid (box_set (i := 1) (box_set (i := 0) QX.out))
       replace QR := Lib.hid (box_only QR.out HO.out (fun e => by omega))
       replace Q6 := Lib.hid (box_only Q6.out HO.out (fun e => by omega))
       replace HB := Lib.hid (HB.out.trans (HO.out.below HB.out.size (fun b hb => by omega)))
       have hzk : ((Wj.setCell ⟨pb, 0, none⟩ (.slice Aj jl.length cj)).setCell ⟨pb, 1, none⟩ (.slice Bj jn.length dj)).heap.size = Wj.heap.size := by simp
       have hzk1 := Nat.le_of_eq hzk
       have hzk2 := Nat.le_of_eq hzk.symm
       clear hzk HO QX oj
       go_upto_region 14 with (fail)
       clear b0 b1 b2
       generalize (Wj.setCell ⟨pb, 0, none⟩ (.slice Aj jl.length cj)).setCell ⟨pb, 1, none⟩ (.slice Bj jn.length dj) = Ws at *
       obtain ⟨QX, hQX⟩ : ∃ q, q = QX2 := ⟨_, rfl⟩
       clear hQX QX2
       obtain ⟨x0, x1, x2⟩ := box2 QX.out
       go_wp2_with fail
       refine (specTreeOk_any _ _ jl jn _ OJ.out.reads (by omega) (by have := HJI.out; omega) (by omega)).mono ?_
       rintro e We ⟨rfl, b9⟩
       clear x0 x1 x2
       replace QR := Lib.hid (box_on QR.out b9)
       replace Q6 := Lib.hid (box_on Q6.out b9)
       replace QX := Lib.hid (box_on QX.out b9)
       replace O6 := Lib.hid (O6.out.on b9)
       replace HB := Lib.hid (bstep HB.out b9)
       have hzce1 := b9.size
       replace OJ := Lib.hid (OJ.out.on b9)
       cases hjo : treeOkB jl jn
       ·have HRB2 : Hid (RB = false) := Lib.hid (by rw [HRB.out, HE.out]; exact hjo)
        have HRT : Hid (RT = (lo, ts)) := Lib.hid (by rw [HPT.out, HRB2.out]; rfl)
        replace HRB := HRB2
        clear hjo HRB2
        obtain ⟨x0, x1, x2⟩ := box2 QR.out
        obtain ⟨y0, y1, y2⟩ := box2 Q6.out
        have n3 : ¬ w1.heap.size = w.heap.size + 1 + 1 := by omega
        go_wp2
        have HO : ∀ a b, Only (fun b => b = w.heap.size + 1 + 1) We ((We.setCell ⟨w.heap.size + 1 + 1, 0, none⟩ a).setCell ⟨w.heap.size + 1 + 1, 1, none⟩ b) := fun a b => only_two _ _ _ _ _ _
        refine bodyPost_ret (v := .tuple #[.agg #[.slice A1 lo.length c1, .slice B1 ts.length d1], .bool false]) (by simp [results, Tryz.results8, go_sem, x0, x1, x2]) rfl ⟨_, _, by rw [HRB.out], ?_, HB.out.trans ((HO _ _).below HB.out.size (fun b hb => by omega))⟩
        rw [HRT.out]
        exact (O6.out.keep (fun b hb hl => (HO _ _).block b hl (fun e => by omega))).mono (fun b hb => by omega)
       ·have HRT : Hid (RB = true ∧ RT = (jl, jn)) := Lib.hid (by
         have h1 : RB = true := by rw [HRB.out, HE.out]; exact hjo
         exact ⟨h1, by rw [HPT.out, h1, if_pos rfl, HE.out]⟩)
        clear hjo
        obtain ⟨x0, x1, x2⟩ := box2 QR.out
        obtain ⟨y0, y1, y2⟩ := box2 QX.out
        have n3 : ¬ pb = w.heap.size + 1 + 1 := by omega
        go_wp2
        have HO : ∀ a b, Only (fun b => b = w.heap.size + 1 + 1) We ((We.setCell ⟨w.heap.size + 1 + 1, 0, none⟩ a).setCell ⟨w.heap.size + 1 + 1, 1, none⟩ b) := fun a b => only_two _ _ _ _ _ _
        refine bodyPost_ret (v := .tuple #[.agg #[.slice Aj jl.length cj, .slice Bj jn.length dj], .bool true]) (by simp [results, Tryz.results8, go_sem, x0, x1, x2]) rfl ⟨_, _, by rw [HRT.out.1], ?_, HB.out.trans ((HO _ _).below HB.out.size (fun b hb => by omega))⟩
        rw [HRT.out.2]
        exact (OJ.out.keep (fun b hb hl => (HO _ _).block b hl (fun e => by omega))).mono (fun b hb => by omega)
      ·have t0 : (0 : Int) < (i : Int) := by omega
       obtain ⟨z0, z1⟩ := box1N Q8.out
       go_wp2_with fail
       refine (specNodeKeys_any _ RN _ O8.out.reads (by omega) (by omega)).mono ?_
       rintro e Wk ⟨vk, rfl, ok, b9⟩
       obtain ⟨Ak, ck, rfl, _, _⟩ := ok.shape
       clear z0 z1 ok
       replace QR := Lib.hid (box_on QR.out b9)
       replace Q6 := Lib.hid (box_on Q6.out b9)
       replace QX := Lib.hid (box_on QX.out b9)
       replace O6 := Lib.hid (O6.out.on b9)
       replace HB := Lib.hid (bstep HB.out b9)
       have hzck := b9.size
       replace OX := Lib.hid (OX.out.on b9)
       clear b9
       by_cases hke : (nodeKeysK RN).length = 0
       ·have hz : (((nodeKeysK RN).length : Int) == 0) = true := by simp [hke]
        rw [if_pos ⟨by omega, hke⟩] at hme
        obtain ⟨rl, hrl'⟩ : ∃ r, setL lo i [] (i + 1) = r := ⟨_, rfl⟩
        obtain ⟨rn, hrn'⟩ : ∃ r, setL ts i [] (i + 1) = r := ⟨_, rfl⟩
        have HLL : Hid (rl.length = rn.length ∧ rn.length ≤ 100 ∧ sumT rn ≤ 1000) := Lib.hid (by
         rw [← hrl', ← hrn', setL_len _ _ _ _ (by omega) (by omega), setL_len _ _ _ _ (by omega) (by omega)]
         have h9 := sumT_setL ts (show i ≤ i + 1 by omega) []
         simp only [sumT_nil] at h9
         exact ⟨by rw [HLEN.out]; rfl, by simp; omega, by omega⟩)
        rw [hrl', hrn'] at hme
        have HME := Lib.hid hme
        have HRL := Lib.hid hrl'
        have HRNN := Lib.hid hrn'
        clear hme hrl' hrn' hke OX
        have ba1 := bal2 Wk (.cells #[] 3) (.cells #[] 62)
        have HAL := Lib.hid ((row_lit Wk 3 1))
        obtain ⟨y0, y1, y2⟩ := box2 Q6.out
        have BA := Lib.hid ba1
        have hzz : ((Wk.alloc (.cells #[] 3)).alloc (.cells #[] 62)).heap.size = Wk.heap.size + 2 := by simp
        have HZZ := Lib.hid hzz
        have hzz1 := Nat.le_of_eq hzz
        have hzz2 := Nat.le_of_eq hzz.symm
        clear ba1 hzz
        go_wp2_with fail
        refine (l6Set_any _ _ lo ts i _ _ [] _ _ [] [] W.heap.size W5.heap.size pb _ ((O6.out.on BA.out).mono (fun b hb => ⟨by omega, by omega, by omega⟩)) (.inl rfl) (.inl rfl) rfl (OwnsL.nil _ _) (by omega) (fun u hu => by simp at hu) hil hit (by omega) (by omega) (by omega) (by omega) (by simp) (by simp)).mono ?_
        rintro e Wl ⟨vlx, vnx, rfl, ox, bx'⟩
        rw [HRL.out, HRNN.out] at ox
        obtain ⟨Ax', cx', Bx', dx', rfl, rfl⟩ := ox.reads.shape
        have b9 := bstep BA.out bx'
        clear y0 y1 y2 BA bx'
        replace QR := Lib.hid (box_on QR.out b9)
        replace Q6 := Lib.hid (box_on Q6.out b9)
        replace QX := Lib.hid (box_on QX.out b9)
        replace O6 := Lib.hid (O6.out.on b9)
        replace HB := Lib.hid (bstep HB.out b9)
        have hzcl := b9.size
        clear b9
        obtain ⟨b0, b1, b2⟩ := box2 QX.out
        have OXX := Lib.hid ox.lt
        have HO := Lib.hid (only_two Wl pb 0 1 (.slice Ax' rl.length cx') (.slice Bx' rn.length dx'))
        clear ox
        have OX := Lib.hid (OXX.out.keep (w' := (Wl.setCell ⟨pb, 0, none⟩ (.slice Ax' rl.length cx')).setCell ⟨pb, 1, none⟩ (.slice Bx' rn.length dx')) (fun b hb hl => HO.out.block b hl (fun e => by omega)))
        replace O6 := Lib.hid (O6.out.keep (w' := (Wl.setCell ⟨pb, 0, none⟩ (.slice Ax' rl.length cx')).setCell ⟨pb, 1, none⟩ (.slice Bx' rn.length dx')) (fun b hb hl => HO.out.block b hl (fun e => by omega)))
        have QX2 : Hid (((Wl.setCell ⟨pb, 0, none⟩ (.slice Ax' rl.length cx')).setCell ⟨pb, 1, none⟩ (.slice Bx' rn.length dx')).heap[pb]? = some (.cells #[.slice Ax' rl.length cx', .slice Bx' rn.length dx'] 27 (0, 0))) := Lib.hid (box_set (i := 1) (box_set (i := 0) QX.out))
        replace QR := Lib.hid (box_only QR.out HO.out (fun e => by omega))
        replace Q6 := Lib.hid (box_only Q6.out HO.out (fun e => by omega))
        replace HB := Lib.hid (HB.out.trans (HO.out.below HB.out.size (fun b hb => by omega)))
        have hzl : ((Wl.setCell ⟨pb, 0, none⟩ (.slice Ax' rl.length cx')).setCell ⟨pb, 1, none⟩ (.slice Bx' rn.length dx')).heap.size = Wl.heap.size := by simp
        have hzl1 := Nat.le_of_eq hzl
        have hzl2 := Nat.le_of_eq hzl.symm
        clear hzl HO OXX
        go_upto_region 13 with (fail)
        clear b0 b1 b2
        generalize (Wl.setCell ⟨pb, 0, none⟩ (.slice Ax' rl.length cx')).setCell ⟨pb, 1, none⟩ (.slice Bx' rn.length dx') = Wm at *
        replace OX := Lib.hid (OX.out.mono (T := fun b => W.heap.size ≤ b ∧ b ≠ pb) (fun b hb => hb.1))
        replace QX := QX2
        clear QX2
        obtain ⟨jl, jn, hJ⟩ : ∃ jl jn, joinK (rl, rn) = (jl, jn) := ⟨_, _, rfl⟩
        have hji := join_inv rn.length (rl, rn) HLL.out.1
        rw [show joinGo rn.length (rl, rn) = (jl, jn) from hJ] at hji
        have hll2 := HLL.out.2.1
        have hll3 := HLL.out.2.2
        have HJI := Lib.hid hji.1
        have hji2 : jn.length ≤ rn.length := hji.2.1
        have hji3 : sumT jn ≤ sumT rn := hji.2.2
        have HJ := Lib.hid hJ
        have HE : Hid (endK lo ts x = (jl, jn)) := Lib.hid (by rw [endK, HME.out, hJ])
        clear hJ hji HME
        obtain ⟨x0, x1, x2⟩ := box2 QX.out
        go_wp2_with fail
        refine (l6Join_any _ _ rl rn W.heap.size pb _ OX.out (by omega) HLL.out.1 (by omega) (by omega) (by omega)).mono ?_
        rintro e Wj ⟨vlj, vnj, rfl, oj, b9⟩
        rw [HJ.out] at oj
        obtain ⟨Aj, cj, Bj, dj, rfl, rfl⟩ := oj.reads.shape
        dsimp only at oj
        clear x0 x1 x2 OX
        replace QR := Lib.hid (box_on QR.out b9)
        replace Q6 := Lib.hid (box_on Q6.out b9)
        replace QX := Lib.hid (box_on QX.out b9)
        replace O6 := Lib.hid (O6.out.on b9)
        replace HB := Lib.hid (bstep HB.out b9)
        have hzcj2 := b9.size
        obtain ⟨b0, b1, b2⟩ := box2 QX.out
        have HO := Lib.hid (only_two Wj pb 0 1 (.slice Aj jl.length cj) (.slice Bj jn.length dj))
        have OJ := Lib.hid (oj.lt.keep (w' := (Wj.setCell ⟨pb, 0, none⟩ (.slice Aj jl.length cj)).setCell ⟨pb, 1, none⟩ (.slice Bj jn.length dj)) (fun b hb hl => HO.out.block b hl (fun e => by omega)))
        replace O6 := Lib.hid (O6.out.keep (w' := (Wj.setCell ⟨pb, 0, none⟩ (.slice Aj jl.length cj)).setCell ⟨pb, 1, none⟩ (.slice Bj jn.length dj)) (fun b hb hl => HO.out.block b hl (fun e => by omega)))
        have QX2 : Hid (((Wj.setCell ⟨pb, 0, none⟩ (.slice Aj jl.length cj)).setCell ⟨pb, 1, none⟩ (.slice Bj jn.length dj)).heap[pb]? = some (.cells #[.slice Aj jl.length cj, .slice Bj jn.length dj] 27 (0, 0))) := Lib.hid (box_set (i := 1) (box_set (i := 0) QX.out))
        replace QR := Lib.hid (box_only QR.out HO.out (fun e => by omega))
        replace Q6 := Lib.hid (box_only Q6.out HO.out (fun e => by omega))
        replace HB := Lib.hid (HB.out.trans (HO.out.below HB.out.size (fun b hb => by omega)))
        have hzk : ((Wj.setCell ⟨pb, 0, none⟩ (.slice Aj jl.length cj)).setCell ⟨pb, 1, none⟩ (.slice Bj jn.length dj)).heap.size = Wj.heap.size := by simp
        have hzk1 := Nat.le_of_eq hzk
        have hzk2 := Nat.le_of_eq hzk.symm
        clear hzk HO QX oj
        go_upto_region 14 with (fail)
        clear b0 b1 b2
        generalize (Wj.setCell ⟨pb, 0, none⟩ (.slice Aj jl.length cj)).setCell ⟨pb, 1, none⟩ (.slice Bj jn.length dj) = Ws at *
        obtain ⟨QX, hQX⟩ : ∃ q, q = QX2 := ⟨_, rfl⟩
        clear hQX QX2
        obtain ⟨x0, x1, x2⟩ := box2 QX.out
        go_wp2_with fail
        refine (specTreeOk_any _ _ jl jn _ OJ.out.reads (by omega) (by have := HJI.out; omega) (by omega)).mono ?_
        rintro e We ⟨rfl, b9⟩
        clear x0 x1 x2
        replace QR := Lib.hid (box_on QR.out b9)
        replace Q6 := Lib.hid (box_on Q6.out b9)
        replace QX := Lib.hid (box_on QX.out b9)
        replace O6 := Lib.hid (O6.out.on b9)
        replace HB := Lib.hid (bstep HB.out b9)
        have hzce2 := b9.size
        replace OJ := Lib.hid (OJ.out.on b9)
        cases hjo : treeOkB jl jn
        ·have HRB2 : Hid (RB = false) := Lib.hid (by rw [HRB.out, HE.out]; exact hjo)
         have HRT : Hid (RT = (lo, ts)) := Lib.hid (by rw [HPT.out, HRB2.out]; rfl)
         replace HRB := HRB2
         clear hjo HRB2
         obtain ⟨x0, x1, x2⟩ := box2 QR.out
         obtain ⟨y0, y1, y2⟩ := box2 Q6.out
         have n3 : ¬ w1.heap.size = w.heap.size + 1 + 1 := by omega
         go_wp2
         have HO : ∀ a b, Only (fun b => b = w.heap.size + 1 + 1) We ((We.setCell ⟨w.heap.size + 1 + 1, 0, none⟩ a).setCell ⟨w.heap.size + 1 + 1, 1, none⟩ b) := fun a b => only_two _ _ _ _ _ _
         refine bodyPost_ret (v := .tuple #[.agg #[.slice A1 lo.length c1, .slice B1 ts.length d1], .bool false]) (by simp [results, Tryz.results8, go_sem, x0, x1, x2]) rfl ⟨_, _, by rw [HRB.out], ?_, HB.out.trans ((HO _ _).below HB.out.size (fun b hb => by omega))⟩
         rw [HRT.out]
         exact (O6.out.keep (fun b hb hl => (HO _ _).block b hl (fun e => by omega))).mono (fun b hb => by omega)
        ·have HRT : Hid (RB = true ∧ RT = (jl, jn)) := Lib.hid (by
          have h1 : RB = true := by rw [HRB.out, HE.out]; exact hjo
          exact ⟨h1, by rw [HPT.out, h1, if_pos rfl, HE.out]⟩)
         clear hjo
         obtain ⟨x0, x1, x2⟩ := box2 QR.out
         obtain ⟨y0, y1, y2⟩ := box2 QX.out
         have n3 : ¬ pb = w.heap.size + 1 + 1 := by omega
         go_wp2
         have HO : ∀ a b, Only (fun b => b = w.heap.size + 1 + 1) We ((We.setCell ⟨w.heap.size + 1 + 1, 0, none⟩ a).setCell ⟨w.heap.size + 1 + 1, 1, none⟩ b) := fun a b => only_two _ _ _ _ _ _
         refine bodyPost_ret (v := .tuple #[.agg #[.slice Aj jl.length cj, .slice Bj jn.length dj], .bool true]) (by simp [results, Tryz.results8, go_sem, x0, x1, x2]) rfl ⟨_, _, by rw [HRT.out.1], ?_, HB.out.trans ((HO _ _).below HB.out.size (fun b hb => by omega))⟩
         rw [HRT.out.2]
         exact (OJ.out.keep (fun b hb hl => (HO _ _).block b hl (fun e => by omega))).mono (fun b hb => by omega)
       ·have hz : (((nodeKeysK RN).length : Int) == 0) = false := by simp; simpa using hke
        rw [if_neg (by omega), HR1.out, HR2.out] at hme
        have HME := Lib.hid hme
        clear hme hke
        obtain ⟨Wm, rfl⟩ : ∃ W, W = Wk := ⟨_, rfl⟩
        obtain ⟨rl, hq1⟩ : ∃ r, r = r1 := ⟨_, rfl⟩
        obtain ⟨rn, hq2⟩ : ∃ r, r = r2 := ⟨_, rfl⟩
        have HLL : Hid (rl.length = rn.length ∧ rn.length ≤ 100 ∧ sumT rn ≤ 1000) := Lib.hid (by
         rw [hq1, hq2, ← HR12.out.1, ← HR12.out.2, setL_len _ _ _ _ (by omega) (by omega), setL_len _ _ _ _ (by omega) (by omega)]
         have h9 := sumT_setL ts (show i ≤ i + 1 by omega) [RN]
         simp only [sumT_cons, sumT_nil] at h9
         exact ⟨by rw [HLEN.out]; rfl, by simp; omega, by omega⟩)
        rw [← hq1, ← hq2] at HME
        rw [← hq1] at QX OX
        rw [← hq2] at QX OX
        clear hq1 hq2
        obtain ⟨jl, jn, hJ⟩ : ∃ jl jn, joinK (rl, rn) = (jl, jn) := ⟨_, _, rfl⟩
        have hji := join_inv rn.length (rl, rn) HLL.out.1
        rw [show joinGo rn.length (rl, rn) = (jl, jn) from hJ] at hji
        have hll2 := HLL.out.2.1
        have hll3 := HLL.out.2.2
        have HJI := Lib.hid hji.1
        have hji2 : jn.length ≤ rn.length := hji.2.1
        have hji3 : sumT jn ≤ sumT rn := hji.2.2
        have HJ := Lib.hid hJ
        have HE : Hid (endK lo ts x = (jl, jn)) := Lib.hid (by rw [endK, HME.out, hJ])
        clear hJ hji HME
        obtain ⟨x0, x1, x2⟩ := box2 QX.out
        go_wp2_with fail
        refine (l6Join_any _ _ rl rn W.heap.size pb _ OX.out (by omega) HLL.out.1 (by omega) (by omega) (by omega)).mono ?_
        rintro e Wj ⟨vlj, vnj, rfl, oj, b9⟩
        rw [HJ.out] at oj
        obtain ⟨Aj, cj, Bj, dj, rfl, rfl⟩ := oj.reads.shape
        dsimp only at oj
        clear x0 x1 x2 OX
        replace QR := Lib.hid (box_on QR.out b9)
        replace Q6 := Lib.hid (box_on Q6.out b9)
        replace QX := Lib.hid (box_on QX.out b9)
        replace O6 := Lib.hid (O6.out.on b9)
        replace HB := Lib.hid (bstep HB.out b9)
        have hzcj3 := b9.size
        obtain ⟨b0, b1, b2⟩ := box2 QX.out
        have HO := Lib.hid (only_two Wj pb 0 1 (.slice Aj jl.length cj) (.slice Bj jn.length dj))
        have OJ := Lib.hid (oj.lt.keep (w' := (Wj.setCell ⟨pb, 0, none⟩ (.slice Aj jl.length cj)).setCell ⟨pb, 1, none⟩ (.slice Bj jn.length dj)) (fun b hb hl => HO.out.block b hl (fun e => by omega)))
        replace O6 := Lib.hid (O6.out.keep (w' := (Wj.setCell ⟨pb, 0, none⟩ (.slice Aj jl.length cj)).setCell ⟨pb, 1, none⟩ (.slice Bj jn.length dj)) (fun b hb hl => HO.out.block b hl (fun e => by omega)))
        have QX2 : Hid (((Wj.setCell ⟨pb, 0, none⟩ (.slice Aj jl.length cj)).setCell ⟨pb, 1, none⟩ (.slice Bj jn.length dj)).heap[pb]? = some (.cells #[.slice Aj jl.length cj, .slice Bj jn.length dj] 27 (0, 0))) := Lib.hid (box_set (i := 1) (box_set (i := 0) QX.out))
        replace QR := Lib.hid (box_only QR.out HO.out (fun e => by omega))
        replace Q6 := Lib.hid (box_only Q6.out HO.out (fun e => by omega))
        replace HB := Lib.hid (HB.out.trans (HO.out.below HB.out.size (fun b hb => by omega)))
        have hzk : ((Wj.setCell ⟨pb, 0, none⟩ (.slice Aj jl.length cj)).setCell ⟨pb, 1, none⟩ (.slice Bj jn.length dj)).heap.size = Wj.heap.size := by simp
        have hzk1 := Nat.le_of_eq hzk
        have hzk2 := Nat.le_of_eq hzk.symm
        clear hzk HO QX oj
        go_upto_region 14 with (fail)
        clear b0 b1 b2
        generalize (Wj.setCell ⟨pb, 0, none⟩ (.slice Aj jl.length cj)).setCell ⟨pb, 1, none⟩ (.slice Bj jn.length dj) = Ws at *
        obtain ⟨QX, hQX⟩ : ∃ q, q = QX2 := ⟨_, rfl⟩
        clear hQX QX2
        obtain ⟨x0, x1, x2⟩ := box2 QX.out
        go_wp2_with fail
        refine (specTreeOk_any _ _ jl jn _ OJ.out.reads (by omega) (by have := HJI.out; omega) (by omega)).mono ?_
        rintro e We ⟨rfl, b9⟩
        clear x0 x1 x2
        replace QR := Lib.hid (box_on QR.out b9)
        replace Q6 := Lib.hid (box_on Q6.out b9)
        replace QX := Lib.hid (box_on QX.out b9)
        replace O6 := Lib.hid (O6.out.on b9)
        replace HB := Lib.hid (bstep HB.out b9)
        have hzce3 := b9.size
        replace OJ := Lib.hid (OJ.out.on b9)
        cases hjo : treeOkB jl jn
        ·have HRB2 : Hid (RB = false) := Lib.hid (by rw [HRB.out, HE.out]; exact hjo)
         have HRT : Hid (RT = (lo, ts)) := Lib.hid (by rw [HPT.out, HRB2.out]; rfl)
         replace HRB := HRB2
         clear hjo HRB2
         obtain ⟨x0, x1, x2⟩ := box2 QR.out
         obtain ⟨y0, y1, y2⟩ := box2 Q6.out
         have n3 : ¬ w1.heap.size = w.heap.size + 1 + 1 := by omega
         go_wp2
         have HO : ∀ a b, Only (fun b => b = w.heap.size + 1 + 1) We ((We.setCell ⟨w.heap.size + 1 + 1, 0, none⟩ a).setCell ⟨w.heap.size + 1 + 1, 1, none⟩ b) := fun a b => only_two _ _ _ _ _ _
         refine bodyPost_ret (v := .tuple #[.agg #[.slice A1 lo.length c1, .slice B1 ts.length d1], .bool false]) (by simp [results, Tryz.results8, go_sem, x0, x1, x2]) rfl ⟨_, _, by rw [HRB.out], ?_, HB.out.trans ((HO _ _).below HB.out.size (fun b hb => by omega))⟩
         rw [HRT.out]
         exact (O6.out.keep (fun b hb hl => (HO _ _).block b hl (fun e => by omega))).mono (fun b hb => by omega)
        ·have HRT : Hid (RB = true ∧ RT = (jl, jn)) := Lib.hid (by
          have h1 : RB = true := by rw [HRB.out, HE.out]; exact hjo
          exact ⟨h1, by rw [HPT.out, h1, if_pos rfl, HE.out]⟩)
         clear hjo
         obtain ⟨x0, x1, x2⟩ := box2 QR.out
         obtain ⟨y0, y1, y2⟩ := box2 QX.out
         have n3 : ¬ pb = w.heap.size + 1 + 1 := by omega
         go_wp2
         have HO : ∀ a b, Only (fun b => b = w.heap.size + 1 + 1) We ((We.setCell ⟨w.heap.size + 1 + 1, 0, none⟩ a).setCell ⟨w.heap.size + 1 + 1, 1, none⟩ b) := fun a b => only_two _ _ _ _ _ _
         refine bodyPost_ret (v := .tuple #[.agg #[.slice Aj jl.length cj, .slice Bj jn.length dj], .bool true]) (by simp [results, Tryz.results8, go_sem, x0, x1, x2]) rfl ⟨_, _, by rw [HRT.out.1], ?_, HB.out.trans ((HO _ _).below HB.out.size (fun b hb => by omega))⟩
         rw [HRT.out.2]
         exact (OJ.out.keep (fun b hb hl => (HO _ _).block b hl (fun e => by omega))).mono (fun b hb => by omega)

end Go.Proofs.YthopkhpiikiknaaGreat
