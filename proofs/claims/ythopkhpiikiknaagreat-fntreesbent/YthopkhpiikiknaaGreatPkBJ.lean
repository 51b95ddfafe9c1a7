/- Several texts in one: DrawSpot, SameTree, TreesBent. -/
import Derived.Test.YthopkhpiikiknaaGreatPkBI
namespace Go.Proofs.YthopkhpiikiknaaGreat
open Go.RowKit
set_option maxRecDepth 100000
set_option linter.unusedSimpArgs false
set_option linter.unusedVariables false
theorem drawSpotOf_any (A : Option Addr) (cap : Nat) (l : List UInt8) (w : World) (hr : Rd w w.heap.size A l) (hn : l.length ≤ 1048576) : Calls Tryz.prog 20 #[.slice A l.length cap] w fun e w' => ∃ b g : Int, e = .returned (.tuple #[.int .i64 b, .int .i64 g]) ∧ Below w.heap.size w w' := by
 have HR := Lib.hid hr
 clear hr
 go_enter Tryz.func20, Tryz.ntmps20
 go_wp2_with fail
 refine (l1New_any _ _ l _ HR.out hn).mono ?_
 rintro r w1 ⟨p, rfl, c1, hp, b1⟩
 have C1 := Lib.hid c1
 have B1 := Lib.hid b1
 clear c1 b1 HR
 go_wp2_with fail
 refine (l1Below_any p 17 _ C1.out (by omega) (by omega)).mono ?_
 rintro r w2 ⟨j, hj, rfl, c2, g2⟩
 have C2 := Lib.hid c2
 have B2 := Lib.hid (below_of_only B1.out g2 hp)
 have i1 : IntKind.i64.wrap ((j : Int) - 1) = (j : Int) - 1 := by rw [IntKind.wrap_i64]; omega
 clear c2 g2 C1 B1
 go_wp2_with fail
 refine (l1Below_any p 62 _ C2.out (by omega) (by omega)).mono ?_
 rintro r w3 ⟨k, hk, rfl, c3, g3⟩
 have B3 := Lib.hid (below_of_only B2.out g3 hp)
 clear c3 g3 C2 B2
 go_wp2
 refine bodyPost_ret (v := .tuple #[.int .i64 ((j : Int) - 1), .int .i64 (k : Int)]) (by simp [results, Tryz.results20, go_sem]) rfl ⟨_, _, rfl, B3.out⟩
end Go.Proofs.YthopkhpiikiknaaGreat
namespace Go.Proofs.YthopkhpiikiknaaGreat
open Go.RowKit
set_option maxRecDepth 100000
set_option linter.unusedSimpArgs false
set_option linter.unusedVariables false
set_option maxHeartbeats 1000000 in
theorem sameIntsT (v u : Value) (l : List Int) (w : World) (hv : Reads w w.heap.size v (intsD l)) (hu : Reads w w.heap.size u (intsD l)) (hn : l.length ≤ 1100000) :
  Calls Tryz.prog 48 #[v, u] w (SaysBool w true) := by
 obtain ⟨A, c, rfl, _, _⟩ := hv.lenN
 obtain ⟨A', c', rfl, _, _⟩ := hu.lenN
 have hne : ((l.length : Int) != (l.length : Int)) = false := by simp
 have HV := Lib.hid hv
 have HU := Lib.hid hu
 clear hv hu
 go_enter Tryz.func48, Tryz.ntmps48
 go_wp2
 go_loopw [5] (fun i wr => ∃ k : Nat, k ≤ l.length ∧ i = .int .i64 k ∧ Hid (Below w.heap.size w wr)) (fun i _ => l.length - (intOf i).toNat)
 case atStart => exact ⟨0, Nat.zero_le _, rfl, Lib.hid (Below.refl _ _)⟩
 case round =>
  obtain ⟨k, hk, rfl, HB⟩ := hrel
  by_cases hlt : k < l.length
  ·obtain ⟨b, off, rfl, hbb, hc⟩ := (HV.out.on HB.out).int hlt
   obtain ⟨b2, off2, rfl, hbb2, hc2⟩ := (HU.out.on HB.out).int hlt
   have c1 := hc k hlt
   have c2 := hc2 k hlt
   unfold iV at c1 c2
   clear hc hc2
   have i1 : (k : Int) < (l.length : Int) := by omega
   have i2 : (0 : Int) ≤ (k : Int) := by omega
   have hne2 : (l[k] != l[k]) = false := by simp
   go_wp2
   go_still_tail 8, (by kernel_rfl)
   change wpList _ _ _ _ _ wr.drew
   have HB1 := Lib.hid (bstep HB.out (Below.drew1 _))
   generalize wr.drew = wd at *
   go_wp2
   go_roundw
   case rel => exact ⟨k + 1, by omega, by go_num, HB1⟩
   case measure => simp [intOf]; omega
  ·go_wp2
   go_ret
   exact ⟨rfl, HB.out⟩
set_option maxHeartbeats 4000000 in
theorem sameTree_same (vl vn ul un : Value) (lo : List Int) (ts : List NodeD) (w : World) (hv : RdT w w.heap.size vl vn lo ts) (hu : RdT w w.heap.size ul un lo ts) (h1 : lo.length ≤ 1048576) (h2 : ts.length ≤ 1048576) (h3 : sumT ts ≤ 1048576) :
  Calls Tryz.prog 9 #[.agg #[vl, vn], .agg #[ul, un]] w (SaysBool w true) := by
 obtain ⟨A, c, B, d, rfl, rfl⟩ := hv.shape
 obtain ⟨A', c', B', d', rfl, rfl⟩ := hu.shape
 have hne : ((ts.length : Int) != (ts.length : Int)) = false := by simp
 have b0 := bal2 w (.cells #[.slice A lo.length c, .slice B ts.length d] 27) (.cells #[.slice A' lo.length c', .slice B' ts.length d'] 27)
 obtain ⟨q0, q1⟩ := al2 w (.cells #[.slice A lo.length c, .slice B ts.length d] 27) (.cells #[.slice A' lo.length c', .slice B' ts.length d'] 27)
 have HV := Lib.hid (hv.on b0)
 have HU := Lib.hid (hu.on b0)
 have Q0 := Lib.hid q0
 have Q1 := Lib.hid q1
 have HB := Lib.hid b0
 clear hv hu q0 q1 b0
 go_enter Tryz.func9, Tryz.ntmps9
 go_upto_region 1 with (fail)
 generalize (w.alloc (.cells #[.slice A lo.length c, .slice B ts.length d] 27)).alloc (.cells #[.slice A' lo.length c', .slice B' ts.length d'] 27) = W at *
 obtain ⟨x0, x1, x2⟩ := box2 Q0.out
 obtain ⟨y0, y1, y2⟩ := box2 Q1.out
 go_wp2_with fail
 refine (sameIntsT _ _ lo _ HV.out.1 HU.out.1 (by omega)).mono ?_
 rintro r w1 ⟨rfl, b1⟩
 have Q2 := Lib.hid (box_on Q0.out b1)
 have Q3 := Lib.hid (box_on Q1.out b1)
 have BW := Lib.hid b1
 clear x0 x1 x2 y0 y1 y2 b1
 obtain ⟨x0, x1, x2⟩ := box2 Q2.out
 obtain ⟨y0, y1, y2⟩ := box2 Q3.out
 go_wp2
 clear x0 x1 x2 y0 y1 y2 Q2 Q3
 go_loopw [5] (fun i wr => ∃ k : Nat, k ≤ ts.length ∧ i = .int .i64 k ∧ Hid (Below W.heap.size W wr)) (fun i _ => ts.length - (intOf i).toNat)
 case atStart => exact ⟨0, Nat.zero_le _, rfl, BW⟩
 case round =>
  clear BW
  obtain ⟨k, hk, rfl, HX⟩ := hrel
  have QW := Lib.hid (box_on Q0.out HX.out)
  have QV := Lib.hid (box_on Q1.out HX.out)
  obtain ⟨x0, x1, x2⟩ := box2 QW.out
  by_cases hlt : k < ts.length
  ·obtain ⟨b, off, hBe, hbb, hc⟩ := (HV.out.2.on HX.out).node hlt
   subst hBe
   obtain ⟨b', off', hBe', hbb', hc'⟩ := (HU.out.2.on HX.out).node hlt
   subst hBe'
   obtain ⟨A1, d1, e1, _, _, r1⟩ := hc k hlt
   obtain ⟨A2, d2, e2, _, _, r2⟩ := hc' k hlt
   have hl := sumT_mem (List.getElem_mem hlt)
   have R1 := Lib.hid r1
   have R2 := Lib.hid r2
   have E1 := Lib.hid e1
   have E2 := Lib.hid e2
   have i1 : (k : Int) < (ts.length : Int) := by omega
   have i2 : (0 : Int) ≤ (k : Int) := by omega
   clear hc hc' r1 r2 e1 e2
   go_wp2
   clear x0 x1 x2
   refine but_begin (f := 11) (S := fun V => Below wr.drew.heap.size wr.drew V) (by kernel_rfl) ?_
   refine but_take (f := 11) (i := 0) (v := ?vsa0) rfl (by kernel_rfl) (by kernel_rfl) (by kernel_rfl) (by kernel_rfl) (by kernel_rfl) (fun _ _ _ h => h) (Or.inl ⟨(by rfl), ?hysa0⟩) (Below.refl _ _) ?restsa0
   case hysa0 =>
    intro W hW
    go_simp
    exact rfl
   simp only [List.getElem_toArray, List.getElem_cons_succ, List.getElem_cons_zero, Act.put, List.setIfInBounds_toArray, List.set_cons_zero, List.set_cons_succ]
   refine but_take (f := 11) (i := 1) (v := ?vsa1) rfl (by kernel_rfl) (by kernel_rfl) (by kernel_rfl) (by kernel_rfl) (by kernel_rfl) (fun _ _ _ h => h) (Or.inl ⟨(by rfl), ?hysa1⟩) (Below.refl _ _) ?restsa1
   case hysa1 =>
    intro W hW
    have hb0 : Below wr.heap.size wr W := bstep (Below.drew1 _) hW
    obtain ⟨x0, x1, x2⟩ := box2 (box_on QW.out hb0)
    obtain ⟨y0, y1, y2⟩ := box2 (box_on QV.out hb0)
    go_simp
    exact rfl
   simp only [List.getElem_toArray, List.getElem_cons_succ, List.getElem_cons_zero, Act.put, List.setIfInBounds_toArray, List.set_cons_zero, List.set_cons_succ]
   refine but_take (f := 11) (i := 2) (v := ?vsa2) rfl (by kernel_rfl) (by kernel_rfl) (by kernel_rfl) (by kernel_rfl) (by kernel_rfl) (fun _ _ _ h => h) (Or.inl ⟨(by rfl), ?hysa2⟩) (Below.refl _ _) ?restsa2
   case hysa2 =>
    intro W hW
    go_simp
    exact rfl
   simp only [List.getElem_toArray, List.getElem_cons_succ, List.getElem_cons_zero, Act.put, List.setIfInBounds_toArray, List.set_cons_zero, List.set_cons_succ]
   refine but_take (f := 11) (i := 3) (v := ?vsa3) rfl (by kernel_rfl) (by kernel_rfl) (by kernel_rfl) (by kernel_rfl) (by kernel_rfl) (fun _ _ _ h => h) (Or.inl ⟨(by rfl), ?hysa3⟩) (Below.refl _ _) ?restsa3
   case hysa3 =>
    intro W hW
    go_simp
    exact rfl
   simp only [List.getElem_toArray, List.getElem_cons_succ, List.getElem_cons_zero, Act.put, List.setIfInBounds_toArray, List.set_cons_zero, List.set_cons_succ]
   refine but_take (f := 11) (i := 4) (v := ?vsa4) rfl (by kernel_rfl) (by kernel_rfl) (by kernel_rfl) (by kernel_rfl) (by kernel_rfl) (fun _ _ _ h => h) (Or.inl ⟨(by rfl), ?hysa4⟩) (Below.refl _ _) ?restsa4
   case hysa4 =>
    intro W hW
    have hb0 : Below wr.heap.size wr W := bstep (Below.drew1 _) hW
    have e1 := (hb0.cell (p := ⟨b, off + k, none⟩) hbb).trans E1.out
    have e2 := (hb0.cell (p := ⟨b', off' + k, none⟩) hbb').trans E2.out
    go_simp
    exact rfl
   simp only [List.getElem_toArray, List.getElem_cons_succ, List.getElem_cons_zero, Act.put, List.setIfInBounds_toArray, List.set_cons_zero, List.set_cons_succ]
   refine but_take (f := 11) (i := 5) (v := ?vsa5) rfl (by kernel_rfl) (by kernel_rfl) (by kernel_rfl) (by kernel_rfl) (by kernel_rfl) (fun _ _ _ h => h) (Or.inl ⟨(by rfl), ?hysa5⟩) (Below.refl _ _) ?restsa5
   case hysa5 =>
    intro W hW
    go_simp
    exact rfl
   simp only [List.getElem_toArray, List.getElem_cons_succ, List.getElem_cons_zero, Act.put, List.setIfInBounds_toArray, List.set_cons_zero, List.set_cons_succ]
   refine but_take (f := 11) (i := 6) (v := ?vsa6) rfl (by kernel_rfl) (by kernel_rfl) (by kernel_rfl) (by kernel_rfl) (by kernel_rfl) (fun _ _ _ h => h) (Or.inl ⟨(by rfl), ?hysa6⟩) (Below.refl _ _) ?restsa6
   case hysa6 =>
    intro W hW
    have hb0 : Below wr.heap.size wr W := bstep (Below.drew1 _) hW
    obtain ⟨x0, x1, x2⟩ := box2 (box_on QW.out hb0)
    obtain ⟨y0, y1, y2⟩ := box2 (box_on QV.out hb0)
    go_simp
    exact rfl
   simp only [List.getElem_toArray, List.getElem_cons_succ, List.getElem_cons_zero, Act.put, List.setIfInBounds_toArray, List.set_cons_zero, List.set_cons_succ]
   refine but_take (f := 11) (i := 7) (v := ?vsa7) rfl (by kernel_rfl) (by kernel_rfl) (by kernel_rfl) (by kernel_rfl) (by kernel_rfl) (fun _ _ _ h => h) (Or.inl ⟨(by rfl), ?hysa7⟩) (Below.refl _ _) ?restsa7
   case hysa7 =>
    intro W hW
    go_simp
    exact rfl
   simp only [List.getElem_toArray, List.getElem_cons_succ, List.getElem_cons_zero, Act.put, List.setIfInBounds_toArray, List.set_cons_zero, List.set_cons_succ]
   refine but_take (f := 11) (i := 8) (v := ?vsa8) rfl (by kernel_rfl) (by kernel_rfl) (by kernel_rfl) (by kernel_rfl) (by kernel_rfl) (fun _ _ _ h => h) (Or.inl ⟨(by rfl), ?hysa8⟩) (Below.refl _ _) ?restsa8
   case hysa8 =>
    intro W hW
    go_simp
    exact rfl
   simp only [List.getElem_toArray, List.getElem_cons_succ, List.getElem_cons_zero, Act.put, List.setIfInBounds_toArray, List.set_cons_zero, List.set_cons_succ]
   refine but_take (f := 11) (i := 9) (v := ?vsa9) rfl (by kernel_rfl) (by kernel_rfl) (by kernel_rfl) (by kernel_rfl) (by kernel_rfl) (fun _ _ _ h => h) (Or.inl ⟨(by rfl), ?hysa9⟩) (Below.refl _ _) ?restsa9
   case hysa9 =>
    intro W hW
    have hb0 : Below wr.heap.size wr W := bstep (Below.drew1 _) hW
    have e1 := (hb0.cell (p := ⟨b, off + k, none⟩) hbb).trans E1.out
    have e2 := (hb0.cell (p := ⟨b', off' + k, none⟩) hbb').trans E2.out
    go_simp
    exact rfl
   simp only [List.getElem_toArray, List.getElem_cons_succ, List.getElem_cons_zero, Act.put, List.setIfInBounds_toArray, List.set_cons_zero, List.set_cons_succ]
   refine but_run (i := 10) (by kernel_rfl) rfl (by rfl) ?_
   simp only [List.getElem_toArray, List.getElem_cons_succ, List.getElem_cons_zero]
   intro K HK
   go_wp2_with fail
   refine (sameNode_same _ _ ts[k] _ (R1.out.on (bstep (Below.drew1 _) (Below.refl _ _))) (R2.out.on (bstep (Below.drew1 _) (Below.refl _ _))) ⟨by omega, by omega⟩).mono ?_
   rintro r Vsa1 ⟨rfl, hBsa1⟩
   have hSsa1 := bstep (Below.refl _ _) hBsa1
   go_wp2_with fail
   refine HK.out _ Vsa1 (fun _ => hSsa1) ?_
   clear HK
   refine but_run (i := 11) (by kernel_rfl) rfl (by rfl) ?_
   simp only [List.getElem_toArray, List.getElem_cons_succ, List.getElem_cons_zero]
   intro K HK
   go_wp2_with fail
   refine HK.out _ Vsa1 (fun h => absurd rfl h) ?_
   clear HK
   refine but_done (by kernel_rfl) ?_
   go_wp2_with fail
   go_roundw
   case rel => exact ⟨k + 1, by omega, by go_num, Lib.hid (bstep HX.out (bstep (Below.drew1 _) hSsa1))⟩
   case measure => simp [intOf]; omega
  ·have i1 : ¬ (k : Int) < (ts.length : Int) := by omega
   go_wp2
   go_ret
   exact ⟨rfl, bstep HB.out HX.out⟩
end Go.Proofs.YthopkhpiikiknaaGreat
namespace Go.Proofs.YthopkhpiikiknaaGreat
open Go.RowKit
set_option maxRecDepth 100000
set_option linter.unusedSimpArgs false
set_option linter.unusedVariables false

theorem specSpotB (b a : Int) (w : World) : Calls Tryz.prog 27 #[.int .i64 b, .int .i64 a] w (SaysInt w (spotI b a)) := (specSpotOf_any b a w).mono (by rintro r _ ⟨h, rfl⟩; exact ⟨h, Below.refl _ _⟩)
theorem implSpotB (b a : Int) (w : World) : Calls Tryz.prog 26 #[.int .i64 b, .int .i64 a] w (SaysInt w (spotI b a)) := (implSpotOf_any b a w).mono (by rintro r _ ⟨h, rfl⟩; exact ⟨h, Below.refl _ _⟩)
theorem put_size {lo : List Int} {ts : List NodeD} {x : KeyD} (h1 : lo.length ≤ 20) (h2 : ts.length ≤ 21) (h3 : sumT ts ≤ 250) {lo2 : List Int} {ts2 : List NodeD} (hX : treePutK lo ts x = (lo2, ts2)) : lo2.length ≤ 20 ∧ ts2.length ≤ 21 ∧ sumT ts2 ≤ 250 := by
 cases hb : treePutB lo ts x
 ·have e : treePutK lo ts x = (lo, ts) := by unfold treePutK; rw [hb]; rfl
  rw [e] at hX
  injection hX with e1 e2
  subst e1 e2
  exact ⟨h1, h2, h3⟩
 ·have e : treePutK lo ts x = endK lo ts x := by unfold treePutK; rw [hb]; rfl
  have hok : treeOkB lo2 ts2 = true := by
   rw [e] at hX
   unfold treePutB at hb
   rw [hX] at hb
   simp only [Bool.and_eq_true] at hb
   exact hb.2
  obtain ⟨k1, k2, k3⟩ := treeP_small hok
  exact ⟨k1, by omega, by omega⟩
set_option maxHeartbeats 20000000 in
theorem treesBent_walk (a0 : Option Addr) (len0 cap0 : Nat) (z0 : List Int) (w : World) (w0 : CameIn .u8 w a0 len0 cap0 z0) :
  Calls Tryz.prog 4 #[.slice a0 len0 cap0] w fun e w' => e = .returned (.bool true) ∧ Below w.heap.size w w' := by
 obtain ⟨l, rfl, hr⟩ := w0.rd
 clear w0
 by_cases hbig : l.length ≤ 1048576
 ·have d0 : decide ((1048576 : Int) < (l.length : Int)) = false := decide_eq_false (by omega)
  have HR := Lib.hid hr
  have HPI := Lib.hid implTreePut_any
  have HPS := Lib.hid specTreePut_any
  have HAI := Lib.hid implTreeAt_any
  have HAS := Lib.hid specTreeAt_any
  have HDP := Lib.hid drawTreePut_any
  unfold PutsC KeyD.v keyV at HPI
  unfold PutsT KeyD.v keyV at HPS
  unfold SaysFind KeyD.v keyV at HAI HAS
  unfold DTreePut KeyD.v keyV at HDP
  clear hr
  go_enter Tryz.func4, Tryz.ntmps4
  go_wp2_with fail
  refine (big_any _ _ _ _).mono ?_
  rintro r w1 ⟨rfl, rfl⟩
  rw [d0]
  clear d0
  have BB := Lib.hid (Below.refl w.heap.size w)
  go_wp2_with fail
  refine (drawTreeOk_any _ _ l _ HR.out hbig).mono ?_
  rintro r w1 ⟨vl1, vn1, lo1, ts1, rfl, o1, p1, p2, p3, bd⟩
  obtain ⟨A1, c1, B1, d1, rfl, rfl⟩ := o1.reads.shape
  have ba := bstep bd (bal1 w1 (.cells #[.slice A1 lo1.length c1, .slice B1 ts1.length d1] 27))
  have Q1 := Lib.hid (al1 w1 (.cells #[.slice A1 lo1.length c1, .slice B1 ts1.length d1] 27))
  have R1 := Lib.hid (o1.reads.on (bal1 w1 (.cells #[.slice A1 lo1.length c1, .slice B1 ts1.length d1] 27)))
  replace HR := Lib.hid (HR.out.on ba)
  replace BB := Lib.hid (bstep BB.out ba)
  clear o1 bd ba
  go_upto_region 4 with (fail)
  generalize w1.alloc (.cells #[.slice A1 lo1.length c1, .slice B1 ts1.length d1] 27) = W1 at *
  go_wp2_with fail
  refine (drawTreeAt_any _ _ l _ HR.out hbig).mono ?_
  rintro r w2 ⟨vl2, vn2, lo2, ts2, ax, ay, rfl, o2, q1, q2, q3, bd⟩
  obtain ⟨A2, c2, B2, d2, rfl, rfl⟩ := o2.reads.shape
  have ba := bstep bd (bal1 w2 (.cells #[.slice A2 lo2.length c2, .slice B2 ts2.length d2] 27))
  have Q2 := Lib.hid (al1 w2 (.cells #[.slice A2 lo2.length c2, .slice B2 ts2.length d2] 27))
  have R2 := Lib.hid (o2.reads.on (bal1 w2 (.cells #[.slice A2 lo2.length c2, .slice B2 ts2.length d2] 27)))
  replace HR := Lib.hid (HR.out.on ba)
  replace BB := Lib.hid (bstep BB.out ba)
  replace Q1 := Lib.hid (box_on Q1.out ba)
  replace R1 := Lib.hid (R1.out.on ba)
  clear o2 bd ba
  go_upto_region 5 with (fail)
  generalize w2.alloc (.cells #[.slice A2 lo2.length c2, .slice B2 ts2.length d2] 27) = W2 at *
  have HS2 : Hid (SmallT lo2 ts2) := Lib.hid ⟨by omega, by omega, by omega⟩
  obtain ⟨kx, hkx⟩ : ∃ kx, (treeAtK lo2 ts2 ax ay).getD zK = kx := ⟨_, rfl⟩
  obtain ⟨ky, hky⟩ : ∃ ky, (treeAtK lo2 ts2 ax ay).isSome = ky := ⟨_, rfl⟩
  have HKX := Lib.hid hkx
  have HKY := Lib.hid hky
  clear hkx hky
  obtain ⟨t0, t1, t2⟩ := box2 Q2.out
  go_wp2_with fail
  refine (HAI.out _ _ lo2 ts2 ax ay _ R2.out HS2.out).mono ?_
  rintro r w3 ⟨rfl, bd⟩
  rw [HKX.out, HKY.out]
  have ba := bstep bd (bal1 w3 (.cells #[.int .i64 kx.a, .int .i64 kx.b, .int .i64 kx.c, .int .i64 kx.d, .int .i64 kx.e] 29))
  have Q7 := Lib.hid (al1 w3 (.cells #[.int .i64 kx.a, .int .i64 kx.b, .int .i64 kx.c, .int .i64 kx.d, .int .i64 kx.e] 29))
  replace Q1 := Lib.hid (box_on Q1.out ba)
  replace Q2 := Lib.hid (box_on Q2.out ba)
  replace R1 := Lib.hid (R1.out.on ba)
  replace R2 := Lib.hid (R2.out.on ba)
  replace HR := Lib.hid (HR.out.on ba)
  replace BB := Lib.hid (bstep BB.out ba)
  clear bd ba t0 t1 t2
  go_upto_region 6 with (fail)
  generalize w3.alloc (.cells #[.int .i64 kx.a, .int .i64 kx.b, .int .i64 kx.c, .int .i64 kx.d, .int .i64 kx.e] 29) = W3 at *
  obtain ⟨t0, t1, t2⟩ := box2 Q2.out
  go_wp2_with fail
  refine (HAS.out _ _ lo2 ts2 ax ay _ R2.out HS2.out).mono ?_
  rintro r w3 ⟨rfl, bd⟩
  rw [HKX.out, HKY.out]
  have ba := bstep bd (bal1 w3 (.cells #[.int .i64 kx.a, .int .i64 kx.b, .int .i64 kx.c, .int .i64 kx.d, .int .i64 kx.e] 29))
  have Q9 := Lib.hid (al1 w3 (.cells #[.int .i64 kx.a, .int .i64 kx.b, .int .i64 kx.c, .int .i64 kx.d, .int .i64 kx.e] 29))
  replace Q1 := Lib.hid (box_on Q1.out ba)
  replace Q2 := Lib.hid (box_on Q2.out ba)
  replace Q7 := Lib.hid (box_on Q7.out ba)
  replace R1 := Lib.hid (R1.out.on ba)
  replace R2 := Lib.hid (R2.out.on ba)
  replace HR := Lib.hid (HR.out.on ba)
  replace BB := Lib.hid (bstep BB.out ba)
  clear bd ba t0 t1 t2
  go_upto_region 7 with (fail)
  generalize w3.alloc (.cells #[.int .i64 kx.a, .int .i64 kx.b, .int .i64 kx.c, .int .i64 kx.d, .int .i64 kx.e] 29) = W4 at *
  go_wp2_with fail
  refine (HDP.out _ _ l _ HR.out hbig).mono ?_
  rintro r w5 ⟨vl3, vn3, lo3, ts3, x, rfl, o3, s1, s2, s3, bd⟩
  obtain ⟨A3, c3, B3, d3, rfl, rfl⟩ := o3.reads.shape
  have ba := bstep bd (bal2 w5 (.cells #[.slice A3 lo3.length c3, .slice B3 ts3.length d3] 27) (.cells #[.int .i64 x.a, .int .i64 x.b, .int .i64 x.c, .int .i64 x.d, .int .i64 x.e] 29))
  obtain ⟨q11, q12⟩ := al2 w5 (.cells #[.slice A3 lo3.length c3, .slice B3 ts3.length d3] 27) (.cells #[.int .i64 x.a, .int .i64 x.b, .int .i64 x.c, .int .i64 x.d, .int .i64 x.e] 29)
  have Q11 := Lib.hid q11
  have Q12 := Lib.hid q12
  have R3 := Lib.hid (o3.reads.on (bal2 w5 (.cells #[.slice A3 lo3.length c3, .slice B3 ts3.length d3] 27) (.cells #[.int .i64 x.a, .int .i64 x.b, .int .i64 x.c, .int .i64 x.d, .int .i64 x.e] 29)))
  replace Q1 := Lib.hid (box_on Q1.out ba)
  replace Q2 := Lib.hid (box_on Q2.out ba)
  replace Q7 := Lib.hid (box_on Q7.out ba)
  replace Q9 := Lib.hid (box_on Q9.out ba)
  replace R1 := Lib.hid (R1.out.on ba)
  replace R2 := Lib.hid (R2.out.on ba)
  replace HR := Lib.hid (HR.out.on ba)
  replace BB := Lib.hid (bstep BB.out ba)
  clear o3 bd ba q11 q12
  go_upto_region 8 with (fail)
  generalize (w5.alloc (.cells #[.slice A3 lo3.length c3, .slice B3 ts3.length d3] 27)).alloc (.cells #[.int .i64 x.a, .int .i64 x.b, .int .i64 x.c, .int .i64 x.d, .int .i64 x.e] 29) = W5 at *
  obtain ⟨X, hX⟩ : ∃ X, treePutK lo3 ts3 x = X := ⟨_, rfl⟩
  obtain ⟨lo4, ts4⟩ := X
  obtain ⟨v1, v2, v3⟩ := put_size s1 s2 s3 hX
  obtain ⟨OK, hOK⟩ : ∃ OK, treePutB lo3 ts3 x = OK := ⟨_, rfl⟩
  have HX := Lib.hid hX
  have HOKB := Lib.hid hOK
  clear hX hOK
  obtain ⟨t0, t1, t2⟩ := box2 Q11.out
  obtain ⟨k0, k1, k2, k3, k4, k5⟩ := box5 Q12.out
  go_wp2_with fail
  refine (HPI.out _ _ lo3 ts3 x _ R3.out (by omega) (by omega) (by omega)).mono ?_
  rintro r w6 ⟨vl13, vn13, rfl, oX, bd⟩
  rw [HX.out] at oX
  dsimp only at oX
  rw [HOKB.out]
  obtain ⟨A13, c13, B13, d13, rfl, rfl⟩ := oX.reads.shape
  have ba := bstep bd (bal1 w6 (.cells #[.slice A13 lo4.length c13, .slice B13 ts4.length d13] 27))
  have R13 := Lib.hid (oX.reads.on (bal1 w6 (.cells #[.slice A13 lo4.length c13, .slice B13 ts4.length d13] 27)))
  have Q13 := Lib.hid (al1 w6 (.cells #[.slice A13 lo4.length c13, .slice B13 ts4.length d13] 27))
  replace Q1 := Lib.hid (box_on Q1.out ba)
  replace Q2 := Lib.hid (box_on Q2.out ba)
  replace Q7 := Lib.hid (box_on Q7.out ba)
  replace Q9 := Lib.hid (box_on Q9.out ba)
  replace Q11 := Lib.hid (box_on Q11.out ba)
  replace Q12 := Lib.hid (box_on Q12.out ba)
  replace R1 := Lib.hid (R1.out.on ba)
  replace R2 := Lib.hid (R2.out.on ba)
  replace R3 := Lib.hid (R3.out.on ba)
  replace HR := Lib.hid (HR.out.on ba)
  replace BB := Lib.hid (bstep BB.out ba)
  clear oX bd ba t0 t1 t2 k0 k1 k2 k3 k4 k5
  go_upto_region 9 with (fail)
  generalize w6.alloc (.cells #[.slice A13 lo4.length c13, .slice B13 ts4.length d13] 27) = W6 at *
  obtain ⟨t0, t1, t2⟩ := box2 Q11.out
  obtain ⟨k0, k1, k2, k3, k4, k5⟩ := box5 Q12.out
  go_wp2_with fail
  refine (HPS.out _ _ lo3 ts3 x _ R3.out (by omega) (by omega) (by omega)).mono ?_
  rintro r w6 ⟨vl15, vn15, rfl, oX, bd⟩
  rw [HX.out] at oX
  dsimp only at oX
  rw [HOKB.out]
  obtain ⟨A15, c15, B15, d15, rfl, rfl⟩ := oX.reads.shape
  have ba := bstep bd (bal1 w6 (.cells #[.slice A15 lo4.length c15, .slice B15 ts4.length d15] 27))
  have R15 := Lib.hid (oX.reads.on (bal1 w6 (.cells #[.slice A15 lo4.length c15, .slice B15 ts4.length d15] 27)))
  have Q15 := Lib.hid (al1 w6 (.cells #[.slice A15 lo4.length c15, .slice B15 ts4.length d15] 27))
  replace Q1 := Lib.hid (box_on Q1.out ba)
  replace Q2 := Lib.hid (box_on Q2.out ba)
  replace Q7 := Lib.hid (box_on Q7.out ba)
  replace Q9 := Lib.hid (box_on Q9.out ba)
  replace Q11 := Lib.hid (box_on Q11.out ba)
  replace Q12 := Lib.hid (box_on Q12.out ba)
  replace Q13 := Lib.hid (box_on Q13.out ba)
  replace R1 := Lib.hid (R1.out.on ba)
  replace R2 := Lib.hid (R2.out.on ba)
  replace R3 := Lib.hid (R3.out.on ba)
  replace R13 := Lib.hid (R13.out.on ba)
  replace HR := Lib.hid (HR.out.on ba)
  replace BB := Lib.hid (bstep BB.out ba)
  clear oX bd ba t0 t1 t2 k0 k1 k2 k3 k4 k5
  go_upto_region 10 with (fail)
  generalize w6.alloc (.cells #[.slice A15 lo4.length c15, .slice B15 ts4.length d15] 27) = W7 at *
  clear HX HOKB Q11 Q12 R3 HPI HPS HAI HAS HDP
  go_wp2_with fail
  refine (drawTreePack_any _ _ l _ HR.out hbig).mono ?_
  rintro r w8 ⟨vl5, vn5, lo5, ts5, ip, rfl, o5, u1, u2, u3, bd⟩
  obtain ⟨A5, c5, B5, d5, rfl, rfl⟩ := o5.reads.shape
  have ba := bstep bd (bal1 w8 (.cells #[.slice A5 lo5.length c5, .slice B5 ts5.length d5] 27))
  have Q17 := Lib.hid (al1 w8 (.cells #[.slice A5 lo5.length c5, .slice B5 ts5.length d5] 27))
  have R5 := Lib.hid (o5.reads.on (bal1 w8 (.cells #[.slice A5 lo5.length c5, .slice B5 ts5.length d5] 27)))
  replace Q1 := Lib.hid (box_on Q1.out ba)
  replace Q2 := Lib.hid (box_on Q2.out ba)
  replace Q7 := Lib.hid (box_on Q7.out ba)
  replace Q9 := Lib.hid (box_on Q9.out ba)
  replace Q13 := Lib.hid (box_on Q13.out ba)
  replace Q15 := Lib.hid (box_on Q15.out ba)
  replace R1 := Lib.hid (R1.out.on ba)
  replace R2 := Lib.hid (R2.out.on ba)
  replace R13 := Lib.hid (R13.out.on ba)
  replace R15 := Lib.hid (R15.out.on ba)
  replace HR := Lib.hid (HR.out.on ba)
  replace BB := Lib.hid (bstep BB.out ba)
  clear o5 bd ba
  go_upto_region 11 with (fail)
  generalize w8.alloc (.cells #[.slice A5 lo5.length c5, .slice B5 ts5.length d5] 27) = W8 at *
  go_wp2_with fail
  refine (drawSpotOf_any _ _ l _ HR.out hbig).mono ?_
  rintro r w9 ⟨gb, gg, rfl, bd⟩
  replace Q1 := Lib.hid (box_on Q1.out bd)
  replace Q2 := Lib.hid (box_on Q2.out bd)
  replace Q7 := Lib.hid (box_on Q7.out bd)
  replace Q9 := Lib.hid (box_on Q9.out bd)
  replace Q13 := Lib.hid (box_on Q13.out bd)
  replace Q15 := Lib.hid (box_on Q15.out bd)
  replace Q17 := Lib.hid (box_on Q17.out bd)
  replace R1 := Lib.hid (R1.out.on bd)
  replace R2 := Lib.hid (R2.out.on bd)
  replace R13 := Lib.hid (R13.out.on bd)
  replace R15 := Lib.hid (R15.out.on bd)
  replace R5 := Lib.hid (R5.out.on bd)
  replace BB := Lib.hid (bstep BB.out bd)
  clear bd HR
  go_upto_region 12 with (fail)
  obtain ⟨W0, rfl⟩ : ∃ W, W = w9 := ⟨_, rfl⟩
  obtain ⟨rt, hrt⟩ : ∃ rt, treePackK ts5 ip = rt := ⟨_, rfl⟩
  have hps := treePack_small ts5 ip
  rw [hrt] at hps
  have hps1 : rt.length ≤ 21 := by omega
  have hps2 : sumT rt ≤ 250 := by omega
  clear hps
  have HS5 : Hid (SmallT lo5 ts5) := Lib.hid ⟨by omega, by omega, by omega⟩
  have HPKS := Lib.hid (fun vl vn W => specTreePack_any vl vn lo5 ts5 ip W)
  have HPKI := Lib.hid (fun vl vn W => implTreePack_any vl vn lo5 ts5 ip W)
  rw [hrt] at HPKS HPKI
  have hkl := treeKeys_len ts1
  obtain ⟨KK, hKK⟩ : ∃ KK, treeKeysK ts1 = KK := ⟨_, rfl⟩
  rw [hKK] at hkl
  have HKK := Lib.hid hKK
  obtain ⟨ob, hob⟩ : ∃ ob, treeOkB lo1 ts1 = ob := ⟨_, rfl⟩
  have HOB := Lib.hid hob
  obtain ⟨wi, hwi⟩ : ∃ wi, whereK lo2 (spotI ax ay) = wi := ⟨_, rfl⟩
  have HWI := Lib.hid hwi
  obtain ⟨si, hsi⟩ : ∃ si, spotI gb gg = si := ⟨_, rfl⟩
  have HSI := Lib.hid hsi
  have e1 : (ob == ob) = true := by simp
  have e2 : (wi == wi) = true := by simp
  have e3 : (ky == ky) = true := by simp
  have e4 : (OK == OK) = true := by simp
  have e5 : (si == si) = true := by simp
  clear hrt hKK hob hwi hsi HKX HKY
  refine but_begin (f := 61) (S := fun V => Below W0.heap.size W0 V) (by kernel_rfl) ?_
  refine but_take (f := 61) (i := 0) (v := ?vz0) rfl (by kernel_rfl) (by kernel_rfl) (by kernel_rfl) (by kernel_rfl) (by kernel_rfl) (fun _ _ _ h => h) (Or.inl ⟨(by rfl), ?hyz0⟩) (Below.drew1 _) ?restz0
  case hyz0 =>
   intro W hW
   obtain ⟨z0, z1, z2⟩ := box2 (box_on Q1.out hW)
   go_simp
   exact rfl
  simp only [List.getElem_toArray, List.getElem_cons_succ, List.getElem_cons_zero, Act.put, List.setIfInBounds_toArray, List.set_cons_zero, List.set_cons_succ]
  refine but_take (f := 61) (i := 2) (v := ?vz2) rfl (by kernel_rfl) (by kernel_rfl) (by kernel_rfl) (by kernel_rfl) (by kernel_rfl) (fun _ _ _ h => h) (Or.inl ⟨(by rfl), ?hyz2⟩) (Below.drew1 _) ?restz2
  case hyz2 =>
   intro W hW
   obtain ⟨z0, z1, z2⟩ := box2 (box_on Q1.out hW)
   go_simp
   exact rfl
  simp only [List.getElem_toArray, List.getElem_cons_succ, List.getElem_cons_zero, Act.put, List.setIfInBounds_toArray, List.set_cons_zero, List.set_cons_succ]
  refine but_run (i := 1) (by kernel_rfl) rfl (by rfl) ?_
  simp only [List.getElem_toArray, List.getElem_cons_succ, List.getElem_cons_zero]
  intro K HK
  go_wp2_with fail
  refine (implTreeOk_any _ _ lo1 ts1 _ (R1.out.on (Below.drew1 _)) (by omega) (by omega) (by omega)).mono ?_
  rintro r Vz1 ⟨rfl, hbz1⟩
  rw [HOB.out]
  go_wp2_with fail
  have hSz1 : (fun V => Below W0.heap.size W0 V) Vz1 := bstep (Below.drew1 _) hbz1
  refine HK.out _ _ (fun _ => hSz1) ?_
  clear HK
  refine but_run (i := 3) (by kernel_rfl) rfl (by rfl) ?_
  simp only [List.getElem_toArray, List.getElem_cons_succ, List.getElem_cons_zero]
  intro K HK
  go_wp2_with fail
  refine (specTreeOk_any _ _ lo1 ts1 _ (R1.out.on hSz1) (by omega) (by omega) (by omega)).mono ?_
  rintro r Vz2 ⟨rfl, hbz2⟩
  rw [HOB.out]
  go_wp2_with fail
  have hSz2 : (fun V => Below W0.heap.size W0 V) Vz2 := bstep hSz1 hbz2
  refine HK.out _ _ (fun _ => hSz2) ?_
  clear HK
  refine but_take (f := 61) (i := 4) (v := ?vz4) rfl (by kernel_rfl) (by kernel_rfl) (by kernel_rfl) (by kernel_rfl) (by kernel_rfl) (fun _ _ _ h => h) (Or.inl ⟨(by rfl), ?hyz4⟩) hSz2 ?restz4
  case hyz4 =>
   intro W hW
   go_simp
   exact rfl
  simp only [List.getElem_toArray, List.getElem_cons_succ, List.getElem_cons_zero, Act.put, List.setIfInBounds_toArray, List.set_cons_zero, List.set_cons_succ]
  refine but_take (f := 61) (i := 5) (v := ?vz5) rfl (by kernel_rfl) (by kernel_rfl) (by kernel_rfl) (by kernel_rfl) (by kernel_rfl) (fun _ _ _ h => h) (Or.inl ⟨(by rfl), ?hyz5⟩) hSz2 ?restz5
  case hyz5 =>
   intro W hW
   go_simp
   exact rfl
  simp only [List.getElem_toArray, List.getElem_cons_succ, List.getElem_cons_zero, Act.put, List.setIfInBounds_toArray, List.set_cons_zero, List.set_cons_succ]
  refine but_take (f := 61) (i := 6) (v := ?vz6) rfl (by kernel_rfl) (by kernel_rfl) (by kernel_rfl) (by kernel_rfl) (by kernel_rfl) (fun _ _ _ h => h) (Or.inl ⟨((wanted_at rfl rfl rfl rfl).trans rfl), ?hyz6⟩) hSz2 ?restz6
  case hyz6 =>
   intro W hW
   obtain ⟨z0, z1, z2⟩ := box2 (box_on Q2.out hW)
   go_simp
   exact rfl
  simp only [List.getElem_toArray, List.getElem_cons_succ, List.getElem_cons_zero, Act.put, List.setIfInBounds_toArray, List.set_cons_zero, List.set_cons_succ]
  refine but_take (f := 61) (i := 7) (v := ?vz7) rfl (by kernel_rfl) (by kernel_rfl) (by kernel_rfl) (by kernel_rfl) (by kernel_rfl) (fun _ _ _ h => h) (Or.inl ⟨((wanted_at rfl rfl rfl rfl).trans rfl), ?hyz7⟩) hSz2 ?restz7
  case hyz7 =>
   intro W hW
   go_simp
   exact rfl
  simp only [List.getElem_toArray, List.getElem_cons_succ, List.getElem_cons_zero, Act.put, List.setIfInBounds_toArray, List.set_cons_zero, List.set_cons_succ]
  refine but_take (f := 61) (i := 8) (v := ?vz8) rfl (by kernel_rfl) (by kernel_rfl) (by kernel_rfl) (by kernel_rfl) (by kernel_rfl) (fun _ _ _ h => h) (Or.inl ⟨((wanted_at rfl rfl rfl rfl).trans rfl), ?hyz8⟩) hSz2 ?restz8
  case hyz8 =>
   intro W hW
   go_simp
   exact rfl
  simp only [List.getElem_toArray, List.getElem_cons_succ, List.getElem_cons_zero, Act.put, List.setIfInBounds_toArray, List.set_cons_zero, List.set_cons_succ]
  refine but_take (f := 61) (i := 10) (v := ?vz10) rfl (by kernel_rfl) (by kernel_rfl) (by kernel_rfl) (by kernel_rfl) (by kernel_rfl) (fun _ _ _ h => h) (Or.inl ⟨((wanted_at rfl rfl rfl rfl).trans rfl), ?hyz10⟩) hSz2 ?restz10
  case hyz10 =>
   intro W hW
   obtain ⟨z0, z1, z2⟩ := box2 (box_on Q2.out hW)
   go_simp
   exact rfl
  simp only [List.getElem_toArray, List.getElem_cons_succ, List.getElem_cons_zero, Act.put, List.setIfInBounds_toArray, List.set_cons_zero, List.set_cons_succ]
  refine but_take (f := 61) (i := 11) (v := ?vz11) rfl (by kernel_rfl) (by kernel_rfl) (by kernel_rfl) (by kernel_rfl) (by kernel_rfl) (fun _ _ _ h => h) (Or.inl ⟨((wanted_at rfl rfl rfl rfl).trans rfl), ?hyz11⟩) hSz2 ?restz11
  case hyz11 =>
   intro W hW
   go_simp
   exact rfl
  simp only [List.getElem_toArray, List.getElem_cons_succ, List.getElem_cons_zero, Act.put, List.setIfInBounds_toArray, List.set_cons_zero, List.set_cons_succ]
  refine but_take (f := 61) (i := 12) (v := ?vz12) rfl (by kernel_rfl) (by kernel_rfl) (by kernel_rfl) (by kernel_rfl) (by kernel_rfl) (fun _ _ _ h => h) (Or.inl ⟨((wanted_at rfl rfl rfl rfl).trans rfl), ?hyz12⟩) hSz2 ?restz12
  case hyz12 =>
   intro W hW
   go_simp
   exact rfl
  simp only [List.getElem_toArray, List.getElem_cons_succ, List.getElem_cons_zero, Act.put, List.setIfInBounds_toArray, List.set_cons_zero, List.set_cons_succ]
  refine but_run (i := 9) (by kernel_rfl) rfl ((wanted_at rfl rfl rfl rfl).trans rfl) ?_
  simp only [List.getElem_toArray, List.getElem_cons_succ, List.getElem_cons_zero]
  intro K HK
  go_wp2_with fail
  refine (implWhereIn_any _ _ lo2 ts2 ax ay _ (R2.out.on hSz2) (by omega)).mono ?_
  rintro r Vz3 ⟨rfl, hbz3⟩
  rw [HWI.out]
  go_wp2_with fail
  have hSz3 : (fun V => Below W0.heap.size W0 V) Vz3 := bstep hSz2 hbz3
  refine HK.out _ _ (fun _ => hSz3) ?_
  clear HK
  refine but_run (i := 13) (by kernel_rfl) rfl ((wanted_at rfl rfl rfl rfl).trans rfl) ?_
  simp only [List.getElem_toArray, List.getElem_cons_succ, List.getElem_cons_zero]
  intro K HK
  go_wp2_with fail
  refine (specWhereIn_any _ _ lo2 ts2 ax ay _ (R2.out.on hSz3) (by omega)).mono ?_
  rintro r Vz4 ⟨rfl, hbz4⟩
  rw [HWI.out]
  go_wp2_with fail
  have hSz4 : (fun V => Below W0.heap.size W0 V) Vz4 := bstep hSz3 hbz4
  refine HK.out _ _ (fun _ => hSz4) ?_
  clear HK
  refine but_take (f := 61) (i := 14) (v := ?vz14) rfl (by kernel_rfl) (by kernel_rfl) (by kernel_rfl) (by kernel_rfl) (by kernel_rfl) (fun _ _ _ h => h) (Or.inl ⟨((wanted_at rfl rfl rfl rfl).trans rfl), ?hyz14⟩) hSz4 ?restz14
  case hyz14 =>
   intro W hW
   go_simp
   exact rfl
  simp only [List.getElem_toArray, List.getElem_cons_succ, List.getElem_cons_zero, Act.put, List.setIfInBounds_toArray, List.set_cons_zero, List.set_cons_succ]
  refine but_take (f := 61) (i := 15) (v := ?vz15) rfl (by kernel_rfl) (by kernel_rfl) (by kernel_rfl) (by kernel_rfl) (by kernel_rfl) (fun _ _ _ h => h) (Or.inl ⟨(by rfl), ?hyz15⟩) hSz4 ?restz15
  case hyz15 =>
   intro W hW
   go_simp
   exact rfl
  simp only [List.getElem_toArray, List.getElem_cons_succ, List.getElem_cons_zero, Act.put, List.setIfInBounds_toArray, List.set_cons_zero, List.set_cons_succ]
  refine but_take (f := 61) (i := 16) (v := ?vz16) rfl (by kernel_rfl) (by kernel_rfl) (by kernel_rfl) (by kernel_rfl) (by kernel_rfl) (fun _ _ _ h => h) (Or.inl ⟨(by rfl), ?hyz16⟩) hSz4 ?restz16
  case hyz16 =>
   intro W hW
   go_simp
   exact rfl
  simp only [List.getElem_toArray, List.getElem_cons_succ, List.getElem_cons_zero, Act.put, List.setIfInBounds_toArray, List.set_cons_zero, List.set_cons_succ]
  refine but_take (f := 61) (i := 17) (v := ?vz17) rfl (by kernel_rfl) (by kernel_rfl) (by kernel_rfl) (by kernel_rfl) (by kernel_rfl) (fun _ _ _ h => h) (Or.inl ⟨((wanted_at rfl rfl rfl rfl).trans rfl), ?hyz17⟩) hSz4 ?restz17
  case hyz17 =>
   intro W hW
   go_simp
   exact rfl
  simp only [List.getElem_toArray, List.getElem_cons_succ, List.getElem_cons_zero, Act.put, List.setIfInBounds_toArray, List.set_cons_zero, List.set_cons_succ]
  refine but_take (f := 61) (i := 18) (v := ?vz18) rfl (by kernel_rfl) (by kernel_rfl) (by kernel_rfl) (by kernel_rfl) (by kernel_rfl) (fun _ _ _ h => h) (Or.inl ⟨((wanted_at rfl rfl rfl rfl).trans rfl), ?hyz18⟩) hSz4 ?restz18
  case hyz18 =>
   intro W hW
   go_simp
   exact rfl
  simp only [List.getElem_toArray, List.getElem_cons_succ, List.getElem_cons_zero, Act.put, List.setIfInBounds_toArray, List.set_cons_zero, List.set_cons_succ]
  refine but_take (f := 61) (i := 19) (v := ?vz19) rfl (by kernel_rfl) (by kernel_rfl) (by kernel_rfl) (by kernel_rfl) (by kernel_rfl) (fun _ _ _ h => h) (Or.inl ⟨((wanted_at rfl rfl rfl rfl).trans rfl), ?hyz19⟩) hSz4 ?restz19
  case hyz19 =>
   intro W hW
   go_simp
   exact rfl
  simp only [List.getElem_toArray, List.getElem_cons_succ, List.getElem_cons_zero, Act.put, List.setIfInBounds_toArray, List.set_cons_zero, List.set_cons_succ]
  refine but_take (f := 61) (i := 20) (v := ?vz20) rfl (by kernel_rfl) (by kernel_rfl) (by kernel_rfl) (by kernel_rfl) (by kernel_rfl) (fun _ _ _ h => h) (Or.inl ⟨(by rfl), ?hyz20⟩) hSz4 ?restz20
  case hyz20 =>
   intro W hW
   go_simp
   exact rfl
  simp only [List.getElem_toArray, List.getElem_cons_succ, List.getElem_cons_zero, Act.put, List.setIfInBounds_toArray, List.set_cons_zero, List.set_cons_succ]
  refine but_take (f := 61) (i := 21) (v := ?vz21) rfl (by kernel_rfl) (by kernel_rfl) (by kernel_rfl) (by kernel_rfl) (by kernel_rfl) (fun _ _ _ h => h) (Or.inl ⟨(by rfl), ?hyz21⟩) hSz4 ?restz21
  case hyz21 =>
   intro W hW
   go_simp
   exact rfl
  simp only [List.getElem_toArray, List.getElem_cons_succ, List.getElem_cons_zero, Act.put, List.setIfInBounds_toArray, List.set_cons_zero, List.set_cons_succ]
  refine but_take (f := 61) (i := 22) (v := ?vz22) rfl (by kernel_rfl) (by kernel_rfl) (by kernel_rfl) (by kernel_rfl) (by kernel_rfl) (fun _ _ _ h => h) (Or.inl ⟨((wanted_at rfl rfl rfl rfl).trans rfl), ?hyz22⟩) hSz4 ?restz22
  case hyz22 =>
   intro W hW
   obtain ⟨z0, z1, z2, z3, z4, z5⟩ := box5 (box_on Q7.out hW)
   go_simp
   exact rfl
  simp only [List.getElem_toArray, List.getElem_cons_succ, List.getElem_cons_zero, Act.put, List.setIfInBounds_toArray, List.set_cons_zero, List.set_cons_succ]
  refine but_take (f := 61) (i := 23) (v := ?vz23) rfl (by kernel_rfl) (by kernel_rfl) (by kernel_rfl) (by kernel_rfl) (by kernel_rfl) (fun _ _ _ h => h) (Or.inl ⟨((wanted_at rfl rfl rfl rfl).trans rfl), ?hyz23⟩) hSz4 ?restz23
  case hyz23 =>
   intro W hW
   obtain ⟨z0, z1, z2, z3, z4, z5⟩ := box5 (box_on Q9.out hW)
   go_simp
   exact rfl
  simp only [List.getElem_toArray, List.getElem_cons_succ, List.getElem_cons_zero, Act.put, List.setIfInBounds_toArray, List.set_cons_zero, List.set_cons_succ]
  refine but_take (f := 61) (i := 24) (v := ?vz24) rfl (by kernel_rfl) (by kernel_rfl) (by kernel_rfl) (by kernel_rfl) (by kernel_rfl) (fun _ _ _ h => h) (Or.inl ⟨((wanted_at rfl rfl rfl rfl).trans rfl), ?hyz24⟩) hSz4 ?restz24
  case hyz24 =>
   intro W hW
   go_simp
   exact rfl
  simp only [List.getElem_toArray, List.getElem_cons_succ, List.getElem_cons_zero, Act.put, List.setIfInBounds_toArray, List.set_cons_zero, List.set_cons_succ]
  refine but_take (f := 61) (i := 25) (v := ?vz25) rfl (by kernel_rfl) (by kernel_rfl) (by kernel_rfl) (by kernel_rfl) (by kernel_rfl) (fun _ _ _ h => h) (Or.inl ⟨(by rfl), ?hyz25⟩) hSz4 ?restz25
  case hyz25 =>
   intro W hW
   go_simp
   exact rfl
  simp only [List.getElem_toArray, List.getElem_cons_succ, List.getElem_cons_zero, Act.put, List.setIfInBounds_toArray, List.set_cons_zero, List.set_cons_succ]
  refine but_take (f := 61) (i := 26) (v := ?vz26) rfl (by kernel_rfl) (by kernel_rfl) (by kernel_rfl) (by kernel_rfl) (by kernel_rfl) (fun _ _ _ h => h) (Or.inl ⟨(by rfl), ?hyz26⟩) hSz4 ?restz26
  case hyz26 =>
   intro W hW
   go_simp
   exact rfl
  simp only [List.getElem_toArray, List.getElem_cons_succ, List.getElem_cons_zero, Act.put, List.setIfInBounds_toArray, List.set_cons_zero, List.set_cons_succ]
  refine but_take (f := 61) (i := 27) (v := ?vz27) rfl (by kernel_rfl) (by kernel_rfl) (by kernel_rfl) (by kernel_rfl) (by kernel_rfl) (fun _ _ _ h => h) (Or.inl ⟨((wanted_at rfl rfl rfl rfl).trans rfl), ?hyz27⟩) hSz4 ?restz27
  case hyz27 =>
   intro W hW
   go_simp
   exact rfl
  simp only [List.getElem_toArray, List.getElem_cons_succ, List.getElem_cons_zero, Act.put, List.setIfInBounds_toArray, List.set_cons_zero, List.set_cons_succ]
  refine but_take (f := 61) (i := 28) (v := ?vz28) rfl (by kernel_rfl) (by kernel_rfl) (by kernel_rfl) (by kernel_rfl) (by kernel_rfl) (fun _ _ _ h => h) (Or.inl ⟨((wanted_at rfl rfl rfl rfl).trans rfl), ?hyz28⟩) hSz4 ?restz28
  case hyz28 =>
   intro W hW
   go_simp
   exact rfl
  simp only [List.getElem_toArray, List.getElem_cons_succ, List.getElem_cons_zero, Act.put, List.setIfInBounds_toArray, List.set_cons_zero, List.set_cons_succ]
  refine but_take (f := 61) (i := 29) (v := ?vz29) rfl (by kernel_rfl) (by kernel_rfl) (by kernel_rfl) (by kernel_rfl) (by kernel_rfl) (fun _ _ _ h => h) (Or.inl ⟨((wanted_at rfl rfl rfl rfl).trans rfl), ?hyz29⟩) hSz4 ?restz29
  case hyz29 =>
   intro W hW
   go_simp
   exact rfl
  simp only [List.getElem_toArray, List.getElem_cons_succ, List.getElem_cons_zero, Act.put, List.setIfInBounds_toArray, List.set_cons_zero, List.set_cons_succ]
  refine but_take (f := 61) (i := 30) (v := ?vz30) rfl (by kernel_rfl) (by kernel_rfl) (by kernel_rfl) (by kernel_rfl) (by kernel_rfl) (fun _ _ _ h => h) (Or.inl ⟨(by rfl), ?hyz30⟩) hSz4 ?restz30
  case hyz30 =>
   intro W hW
   go_simp
   exact rfl
  simp only [List.getElem_toArray, List.getElem_cons_succ, List.getElem_cons_zero, Act.put, List.setIfInBounds_toArray, List.set_cons_zero, List.set_cons_succ]
  refine but_take (f := 61) (i := 31) (v := ?vz31) rfl (by kernel_rfl) (by kernel_rfl) (by kernel_rfl) (by kernel_rfl) (by kernel_rfl) (fun _ _ _ h => h) (Or.inl ⟨(by rfl), ?hyz31⟩) hSz4 ?restz31
  case hyz31 =>
   intro W hW
   go_simp
   exact rfl
  simp only [List.getElem_toArray, List.getElem_cons_succ, List.getElem_cons_zero, Act.put, List.setIfInBounds_toArray, List.set_cons_zero, List.set_cons_succ]
  refine but_take (f := 61) (i := 32) (v := ?vz32) rfl (by kernel_rfl) (by kernel_rfl) (by kernel_rfl) (by kernel_rfl) (by kernel_rfl) (fun _ _ _ h => h) (Or.inl ⟨((wanted_at rfl rfl rfl rfl).trans rfl), ?hyz32⟩) hSz4 ?restz32
  case hyz32 =>
   intro W hW
   obtain ⟨z0, z1, z2⟩ := box2 (box_on Q13.out hW)
   go_simp
   exact rfl
  simp only [List.getElem_toArray, List.getElem_cons_succ, List.getElem_cons_zero, Act.put, List.setIfInBounds_toArray, List.set_cons_zero, List.set_cons_succ]
  refine but_take (f := 61) (i := 33) (v := ?vz33) rfl (by kernel_rfl) (by kernel_rfl) (by kernel_rfl) (by kernel_rfl) (by kernel_rfl) (fun _ _ _ h => h) (Or.inl ⟨((wanted_at rfl rfl rfl rfl).trans rfl), ?hyz33⟩) hSz4 ?restz33
  case hyz33 =>
   intro W hW
   obtain ⟨z0, z1, z2⟩ := box2 (box_on Q15.out hW)
   go_simp
   exact rfl
  simp only [List.getElem_toArray, List.getElem_cons_succ, List.getElem_cons_zero, Act.put, List.setIfInBounds_toArray, List.set_cons_zero, List.set_cons_succ]
  refine but_run (i := 34) (by kernel_rfl) rfl ((wanted_at rfl rfl rfl rfl).trans rfl) ?_
  simp only [List.getElem_toArray, List.getElem_cons_succ, List.getElem_cons_zero]
  intro K HK
  go_wp2_with fail
  refine (sameTree_same _ _ _ _ lo4 ts4 _ (R13.out.on hSz4) (R15.out.on hSz4) (by omega) (by omega) (by omega)).mono ?_
  rintro r Vz5 ⟨rfl, hbz5⟩
  go_wp2_with fail
  have hSz5 : (fun V => Below W0.heap.size W0 V) Vz5 := bstep hSz4 hbz5
  refine HK.out _ _ (fun _ => hSz5) ?_
  clear HK
  refine but_take (f := 61) (i := 35) (v := ?vz35) rfl (by kernel_rfl) (by kernel_rfl) (by kernel_rfl) (by kernel_rfl) (by kernel_rfl) (fun _ _ _ h => h) (Or.inl ⟨(by rfl), ?hyz35⟩) hSz5 ?restz35
  case hyz35 =>
   intro W hW
   go_simp
   exact rfl
  simp only [List.getElem_toArray, List.getElem_cons_succ, List.getElem_cons_zero, Act.put, List.setIfInBounds_toArray, List.set_cons_zero, List.set_cons_succ]
  refine but_take (f := 61) (i := 36) (v := ?vz36) rfl (by kernel_rfl) (by kernel_rfl) (by kernel_rfl) (by kernel_rfl) (by kernel_rfl) (fun _ _ _ h => h) (Or.inl ⟨(by rfl), ?hyz36⟩) hSz5 ?restz36
  case hyz36 =>
   intro W hW
   go_simp
   exact rfl
  simp only [List.getElem_toArray, List.getElem_cons_succ, List.getElem_cons_zero, Act.put, List.setIfInBounds_toArray, List.set_cons_zero, List.set_cons_succ]
  refine but_take (f := 61) (i := 37) (v := ?vz37) rfl (by kernel_rfl) (by kernel_rfl) (by kernel_rfl) (by kernel_rfl) (by kernel_rfl) (fun _ _ _ h => h) (Or.inl ⟨((wanted_at rfl rfl rfl rfl).trans rfl), ?hyz37⟩) hSz5 ?restz37
  case hyz37 =>
   intro W hW
   obtain ⟨z0, z1, z2⟩ := box2 (box_on Q17.out hW)
   go_simp
   exact rfl
  simp only [List.getElem_toArray, List.getElem_cons_succ, List.getElem_cons_zero, Act.put, List.setIfInBounds_toArray, List.set_cons_zero, List.set_cons_succ]
  refine but_take (f := 61) (i := 38) (v := ?vz38) rfl (by kernel_rfl) (by kernel_rfl) (by kernel_rfl) (by kernel_rfl) (by kernel_rfl) (fun _ _ _ h => h) (Or.inl ⟨((wanted_at rfl rfl rfl rfl).trans rfl), ?hyz38⟩) hSz5 ?restz38
  case hyz38 =>
   intro W hW
   go_simp
   exact rfl
  simp only [List.getElem_toArray, List.getElem_cons_succ, List.getElem_cons_zero, Act.put, List.setIfInBounds_toArray, List.set_cons_zero, List.set_cons_succ]
  refine but_take (f := 61) (i := 40) (v := ?vz40) rfl (by kernel_rfl) (by kernel_rfl) (by kernel_rfl) (by kernel_rfl) (by kernel_rfl) (fun _ _ _ h => h) (Or.inl ⟨((wanted_at rfl rfl rfl rfl).trans rfl), ?hyz40⟩) hSz5 ?restz40
  case hyz40 =>
   intro W hW
   obtain ⟨z0, z1, z2⟩ := box2 (box_on Q17.out hW)
   go_simp
   exact rfl
  simp only [List.getElem_toArray, List.getElem_cons_succ, List.getElem_cons_zero, Act.put, List.setIfInBounds_toArray, List.set_cons_zero, List.set_cons_succ]
  refine but_take (f := 61) (i := 41) (v := ?vz41) rfl (by kernel_rfl) (by kernel_rfl) (by kernel_rfl) (by kernel_rfl) (by kernel_rfl) (fun _ _ _ h => h) (Or.inl ⟨((wanted_at rfl rfl rfl rfl).trans rfl), ?hyz41⟩) hSz5 ?restz41
  case hyz41 =>
   intro W hW
   go_simp
   exact rfl
  simp only [List.getElem_toArray, List.getElem_cons_succ, List.getElem_cons_zero, Act.put, List.setIfInBounds_toArray, List.set_cons_zero, List.set_cons_succ]
  refine but_run (i := 39) (by kernel_rfl) rfl ((wanted_at rfl rfl rfl rfl).trans rfl) ?_
  simp only [List.getElem_toArray, List.getElem_cons_succ, List.getElem_cons_zero]
  intro K HK
  go_wp2_with fail
  refine (HPKI.out _ _ _ (R5.out.on hSz5) HS5.out (by omega)).mono ?_
  rintro r Vz6 ⟨vl6, vn6, rfl, o6, hbz6⟩
  obtain ⟨A6, c6, B6, d6, rfl, rfl⟩ := o6.reads.shape
  go_wp2_with fail
  have hSz6 : (fun V => Below W0.heap.size W0 V) Vz6 := bstep hSz5 hbz6
  refine HK.out _ _ (fun _ => hSz6) ?_
  clear HK
  have RP6 := Lib.hid o6.reads
  clear o6
  refine but_run (i := 42) (by kernel_rfl) rfl ((wanted_at rfl rfl rfl rfl).trans rfl) ?_
  simp only [List.getElem_toArray, List.getElem_cons_succ, List.getElem_cons_zero]
  intro K HK
  go_wp2_with fail
  refine (HPKS.out _ _ _ (R5.out.on hSz6) HS5.out (by omega)).mono ?_
  rintro r Vz7 ⟨vl7, vn7, rfl, o7, hbz7⟩
  obtain ⟨A7, c7, B7, d7, rfl, rfl⟩ := o7.reads.shape
  go_wp2_with fail
  have hSz7 : (fun V => Below W0.heap.size W0 V) Vz7 := bstep hSz6 hbz7
  refine HK.out _ _ (fun _ => hSz7) ?_
  clear HK
  have RP7 := Lib.hid o7.reads
  replace RP6 := Lib.hid (RP6.out.on hbz7)
  clear o7
  refine but_run (i := 43) (by kernel_rfl) rfl ((wanted_at rfl rfl rfl rfl).trans rfl) ?_
  simp only [List.getElem_toArray, List.getElem_cons_succ, List.getElem_cons_zero]
  intro K HK
  go_wp2_with fail
  refine (sameTree_same _ _ _ _ lo5 rt _ RP6.out RP7.out (by omega) (by omega) (by omega)).mono ?_
  rintro r Vz8 ⟨rfl, hbz8⟩
  go_wp2_with fail
  have hSz8 : (fun V => Below W0.heap.size W0 V) Vz8 := bstep hSz7 hbz8
  refine HK.out _ _ (fun _ => hSz8) ?_
  clear HK
  refine but_take (f := 61) (i := 44) (v := ?vz44) rfl (by kernel_rfl) (by kernel_rfl) (by kernel_rfl) (by kernel_rfl) (by kernel_rfl) (fun _ _ _ h => h) (Or.inl ⟨(by rfl), ?hyz44⟩) hSz8 ?restz44
  case hyz44 =>
   intro W hW
   go_simp
   exact rfl
  simp only [List.getElem_toArray, List.getElem_cons_succ, List.getElem_cons_zero, Act.put, List.setIfInBounds_toArray, List.set_cons_zero, List.set_cons_succ]
  refine but_take (f := 61) (i := 45) (v := ?vz45) rfl (by kernel_rfl) (by kernel_rfl) (by kernel_rfl) (by kernel_rfl) (by kernel_rfl) (fun _ _ _ h => h) (Or.inl ⟨(by rfl), ?hyz45⟩) hSz8 ?restz45
  case hyz45 =>
   intro W hW
   go_simp
   exact rfl
  simp only [List.getElem_toArray, List.getElem_cons_succ, List.getElem_cons_zero, Act.put, List.setIfInBounds_toArray, List.set_cons_zero, List.set_cons_succ]
  refine but_take (f := 61) (i := 46) (v := ?vz46) rfl (by kernel_rfl) (by kernel_rfl) (by kernel_rfl) (by kernel_rfl) (by kernel_rfl) (fun _ _ _ h => h) (Or.inl ⟨((wanted_at rfl rfl rfl rfl).trans rfl), ?hyz46⟩) hSz8 ?restz46
  case hyz46 =>
   intro W hW
   go_simp
   exact rfl
  simp only [List.getElem_toArray, List.getElem_cons_succ, List.getElem_cons_zero, Act.put, List.setIfInBounds_toArray, List.set_cons_zero, List.set_cons_succ]
  refine but_take (f := 61) (i := 47) (v := ?vz47) rfl (by kernel_rfl) (by kernel_rfl) (by kernel_rfl) (by kernel_rfl) (by kernel_rfl) (fun _ _ _ h => h) (Or.inl ⟨((wanted_at rfl rfl rfl rfl).trans rfl), ?hyz47⟩) hSz8 ?restz47
  case hyz47 =>
   intro W hW
   go_simp
   exact rfl
  simp only [List.getElem_toArray, List.getElem_cons_succ, List.getElem_cons_zero, Act.put, List.setIfInBounds_toArray, List.set_cons_zero, List.set_cons_succ]
  refine but_take (f := 61) (i := 49) (v := ?vz49) rfl (by kernel_rfl) (by kernel_rfl) (by kernel_rfl) (by kernel_rfl) (by kernel_rfl) (fun _ _ _ h => h) (Or.inl ⟨((wanted_at rfl rfl rfl rfl).trans rfl), ?hyz49⟩) hSz8 ?restz49
  case hyz49 =>
   intro W hW
   go_simp
   exact rfl
  simp only [List.getElem_toArray, List.getElem_cons_succ, List.getElem_cons_zero, Act.put, List.setIfInBounds_toArray, List.set_cons_zero, List.set_cons_succ]
  refine but_take (f := 61) (i := 50) (v := ?vz50) rfl (by kernel_rfl) (by kernel_rfl) (by kernel_rfl) (by kernel_rfl) (by kernel_rfl) (fun _ _ _ h => h) (Or.inl ⟨((wanted_at rfl rfl rfl rfl).trans rfl), ?hyz50⟩) hSz8 ?restz50
  case hyz50 =>
   intro W hW
   go_simp
   exact rfl
  simp only [List.getElem_toArray, List.getElem_cons_succ, List.getElem_cons_zero, Act.put, List.setIfInBounds_toArray, List.set_cons_zero, List.set_cons_succ]
  refine but_run (i := 48) (by kernel_rfl) rfl ((wanted_at rfl rfl rfl rfl).trans rfl) ?_
  simp only [List.getElem_toArray, List.getElem_cons_succ, List.getElem_cons_zero]
  intro K HK
  go_wp2_with fail
  refine (implSpotB gb gg _).mono ?_
  rintro r Vz9 ⟨rfl, hbz9⟩
  rw [HSI.out]
  go_wp2_with fail
  have hSz9 : (fun V => Below W0.heap.size W0 V) Vz9 := bstep hSz8 hbz9
  refine HK.out _ _ (fun _ => hSz9) ?_
  clear HK
  refine but_run (i := 51) (by kernel_rfl) rfl ((wanted_at rfl rfl rfl rfl).trans rfl) ?_
  simp only [List.getElem_toArray, List.getElem_cons_succ, List.getElem_cons_zero]
  intro K HK
  go_wp2_with fail
  refine (specSpotB gb gg _).mono ?_
  rintro r Vz10 ⟨rfl, hbz10⟩
  rw [HSI.out]
  go_wp2_with fail
  have hSz10 : (fun V => Below W0.heap.size W0 V) Vz10 := bstep hSz9 hbz10
  refine HK.out _ _ (fun _ => hSz10) ?_
  clear HK
  refine but_take (f := 61) (i := 52) (v := ?vz52) rfl (by kernel_rfl) (by kernel_rfl) (by kernel_rfl) (by kernel_rfl) (by kernel_rfl) (fun _ _ _ h => h) (Or.inl ⟨((wanted_at rfl rfl rfl rfl).trans rfl), ?hyz52⟩) hSz10 ?restz52
  case hyz52 =>
   intro W hW
   go_simp
   exact rfl
  simp only [List.getElem_toArray, List.getElem_cons_succ, List.getElem_cons_zero, Act.put, List.setIfInBounds_toArray, List.set_cons_zero, List.set_cons_succ]
  refine but_take (f := 61) (i := 53) (v := ?vz53) rfl (by kernel_rfl) (by kernel_rfl) (by kernel_rfl) (by kernel_rfl) (by kernel_rfl) (fun _ _ _ h => h) (Or.inl ⟨(by rfl), ?hyz53⟩) hSz10 ?restz53
  case hyz53 =>
   intro W hW
   go_simp
   exact rfl
  simp only [List.getElem_toArray, List.getElem_cons_succ, List.getElem_cons_zero, Act.put, List.setIfInBounds_toArray, List.set_cons_zero, List.set_cons_succ]
  refine but_take (f := 61) (i := 54) (v := ?vz54) rfl (by kernel_rfl) (by kernel_rfl) (by kernel_rfl) (by kernel_rfl) (by kernel_rfl) (fun _ _ _ h => h) (Or.inl ⟨(by rfl), ?hyz54⟩) hSz10 ?restz54
  case hyz54 =>
   intro W hW
   go_simp
   exact rfl
  simp only [List.getElem_toArray, List.getElem_cons_succ, List.getElem_cons_zero, Act.put, List.setIfInBounds_toArray, List.set_cons_zero, List.set_cons_succ]
  refine but_take (f := 61) (i := 55) (v := ?vz55) rfl (by kernel_rfl) (by kernel_rfl) (by kernel_rfl) (by kernel_rfl) (by kernel_rfl) (fun _ _ _ h => h) (Or.inl ⟨((wanted_at rfl rfl rfl rfl).trans rfl), ?hyz55⟩) hSz10 ?restz55
  case hyz55 =>
   intro W hW
   obtain ⟨z0, z1, z2⟩ := box2 (box_on Q1.out hW)
   go_simp
   exact rfl
  simp only [List.getElem_toArray, List.getElem_cons_succ, List.getElem_cons_zero, Act.put, List.setIfInBounds_toArray, List.set_cons_zero, List.set_cons_succ]
  refine but_take (f := 61) (i := 57) (v := ?vz57) rfl (by kernel_rfl) (by kernel_rfl) (by kernel_rfl) (by kernel_rfl) (by kernel_rfl) (fun _ _ _ h => h) (Or.inl ⟨((wanted_at rfl rfl rfl rfl).trans rfl), ?hyz57⟩) hSz10 ?restz57
  case hyz57 =>
   intro W hW
   obtain ⟨z0, z1, z2⟩ := box2 (box_on Q1.out hW)
   go_simp
   exact rfl
  simp only [List.getElem_toArray, List.getElem_cons_succ, List.getElem_cons_zero, Act.put, List.setIfInBounds_toArray, List.set_cons_zero, List.set_cons_succ]
  refine but_run (i := 56) (by kernel_rfl) rfl ((wanted_at rfl rfl rfl rfl).trans rfl) ?_
  simp only [List.getElem_toArray, List.getElem_cons_succ, List.getElem_cons_zero]
  intro K HK
  go_wp2_with fail
  refine (implTreeKeys_any _ _ lo1 ts1 _ (R1.out.on hSz10) (by omega) (by omega)).mono ?_
  rintro r Vz11 ⟨v8, rfl, o8, hbz11⟩
  rw [HKK.out] at o8
  obtain ⟨A8, c8, rfl, _, _⟩ := o8.shape
  go_wp2_with fail
  have hSz11 : (fun V => Below W0.heap.size W0 V) Vz11 := bstep hSz10 hbz11
  refine HK.out _ _ (fun _ => hSz11) ?_
  clear HK
  have OK8 := Lib.hid o8.owns
  clear o8
  refine but_run (i := 58) (by kernel_rfl) rfl ((wanted_at rfl rfl rfl rfl).trans rfl) ?_
  simp only [List.getElem_toArray, List.getElem_cons_succ, List.getElem_cons_zero]
  intro K HK
  go_wp2_with fail
  refine (specTreeKeys_any _ _ lo1 ts1 _ (R1.out.on hSz11) (by omega) (by omega)).mono ?_
  rintro r Vz12 ⟨v9, rfl, o9, hbz12⟩
  rw [HKK.out] at o9
  obtain ⟨A9, c9, rfl, _, _⟩ := o9.shape
  go_wp2_with fail
  have hSz12 : (fun V => Below W0.heap.size W0 V) Vz12 := bstep hSz11 hbz12
  refine HK.out _ _ (fun _ => hSz12) ?_
  clear HK
  have OK9 := Lib.hid o9.owns
  replace OK8 := Lib.hid (OK8.out.on hbz12)
  clear o9
  refine but_run (i := 59) (by kernel_rfl) rfl ((wanted_at rfl rfl rfl rfl).trans rfl) ?_
  simp only [List.getElem_toArray, List.getElem_cons_succ, List.getElem_cons_zero]
  intro K HK
  go_wp2_with fail
  refine (sameKeysN _ _ KK _ OK8.out.reads OK9.out.reads (by omega)).mono ?_
  rintro r Vz13 ⟨rfl, hbz13⟩
  go_wp2_with fail
  have hSz13 : (fun V => Below W0.heap.size W0 V) Vz13 := bstep hSz12 hbz13
  refine HK.out _ _ (fun _ => hSz13) ?_
  clear HK
  refine but_take (f := 61) (i := 60) (v := ?vz60) rfl (by kernel_rfl) (by kernel_rfl) (by kernel_rfl) (by kernel_rfl) (by kernel_rfl) (fun _ _ _ h => h) (Or.inl ⟨(by rfl), ?hyz60⟩) hSz13 ?restz60
  case hyz60 =>
   intro W hW
   go_simp
   exact rfl
  simp only [List.getElem_toArray, List.getElem_cons_succ, List.getElem_cons_zero, Act.put, List.setIfInBounds_toArray, List.set_cons_zero, List.set_cons_succ]
  refine but_run (i := 61) (by kernel_rfl) rfl (by rfl) ?_
  simp only [List.getElem_toArray, List.getElem_cons_succ, List.getElem_cons_zero]
  intro K HK
  go_wp2_with fail
  refine HK.out _ _ (fun h => absurd rfl h) ?_
  clear HK
  refine but_done (by kernel_rfl) ?_
  have BE := bstep BB.out hSz13
  go_wp2
  go_ret
  exact ⟨rfl, BE⟩
 ·have d0 : decide ((1048576 : Int) < (l.length : Int)) = true := decide_eq_true (by omega)
  go_enter Tryz.func4, Tryz.ntmps4
  go_wp2_with fail
  refine (big_any _ _ _ _).mono ?_
  rintro r w1 ⟨rfl, rfl⟩
  rw [d0]
  go_wp2
  go_ret
  exact ⟨rfl, Below.refl _ _⟩
end Go.Proofs.YthopkhpiikiknaaGreat
