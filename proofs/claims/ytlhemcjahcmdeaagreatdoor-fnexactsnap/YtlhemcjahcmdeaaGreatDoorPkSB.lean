/- Several texts in one: DoSSnap, PoolMark, ExDoSnap. -/
import Derived.Deep.RegionHeld3
import Derived.Test.YtlhemcjahcmdeaaGreatDoorPkSA
namespace Go.Proofs.YtlhemcjahcmdeaaGreatDoor
open Go.RowKit
set_option maxRecDepth 100000
set_option linter.unusedSimpArgs false
set_option linter.unusedVariables false

theorem vset_a {l : List VolD} {j : Nat} (hj : j < l.length) (x : Int) (i : Nat) (hi : i < (l.set j { l[j] with b := x }).length) : ((l.set j { l[j] with b := x })[i]).a = (l[i]'(by simpa using hi)).a := by
 rw [List.getElem_set]
 split
 ·rename_i e
  subst e
  rfl
 ·rfl
theorem vasc_set {l : List VolD} (h : ascB l = true) {j : Nat} (hj : j < l.length) (x : Int) : ascB (l.set j { l[j] with b := x }) = true := by
 unfold ascB at h ⊢
 have h := of_decide_eq_true h
 refine decide_eq_true (fun i hi => ?_)
 have hl : (l.set j { l[j] with b := x }).length = l.length := by simp
 have h2 := h i (by omega)
 unfold ltV at h2 ⊢
 rw [vset_a hj x i (by omega), vset_a hj x (i + 1) (by omega)]
 exact h2
theorem snap_no1 {d : PoolD} {s u : ByteArray} {f : Bool} (h : mayB d s = false) : changeK d s (snapD s u f) = (d, 1) := changeK_no h
theorem snap_no1u {d : PoolD} {s u : ByteArray} {f : Bool} (h : mayB d s = true) (hu : nameOkB u = false) : changeK d s (snapD s u f) = (d, 1) := by
 have e : snapD s u f d = (d, 1) := by unfold snapD; rw [hu]; rfl
 rw [changeK_code h (by rw [e]; exact (by decide : (1 : Int) ≠ 0)), e]
theorem snap_no2 {d : PoolD} {s u : ByteArray} {f : Bool} (h : mayB d s = true) (hu : nameOkB u = true) (hk : volK s d.vo < 0) : changeK d s (snapD s u f) = (d, 2) := by
 have e : snapD s u f d = (d, 2) := by unfold snapD; rw [hu, if_pos rfl, if_pos hk]
 rw [changeK_code h (by rw [e]; exact (by decide : (2 : Int) ≠ 0)), e]
theorem snap_no3 {d : PoolD} {s u : ByteArray} {f : Bool} (h : mayB d s = true) (hu : nameOkB u = true) (hk : ¬ volK s d.vo < 0) (hk2 : 0 ≤ volK u d.vo) : changeK d s (snapD s u f) = (d, 3) := by
 have e : snapD s u f d = (d, 3) := by unfold snapD; rw [hu, if_pos rfl, if_neg hk, if_pos hk2]
 rw [changeK_code h (by rw [e]; exact (by decide : (3 : Int) ≠ 0)), e]
theorem snap_end {d : PoolD} {s u : ByteArray} {f : Bool} (h : mayB d s = true) (hu : nameOkB u = true) (hk : ¬ volK s d.vo < 0) (hu2 : ¬ 0 ≤ volK u d.vo) : ∃ j, ∃ hj : j < d.vo.length, volK s d.vo = (j : Int) ∧
  ∀ K1 K2 o1 o2 L PV, newK d.ag d.nx d.vo[j].b = K1 → newOk d.ag d.nx d.vo[j].b = o1 → newK K1 (d.nx + 1) d.vo[j].b = K2 → newOk K1 (d.nx + 1) d.vo[j].b = o2 → d.vo.set j { d.vo[j] with b := d.nx } = L → putV L ⟨u, d.nx + 1, d.vo[j].c, f⟩ = PV →
  changeK d s (snapD s u f) = endD d { d with ag := K2, vo := PV, nx := d.nx + 2 } (o1 && o2) ∧
  (o1 = true → o2 = true → SmallP { d with ag := K2, vo := PV, nx := d.nx + 2 } ∧ ∀ k ∈ PV, k.a.size ≤ maxLen) := by
 obtain ⟨j, hj, hj2, h1, h2, h3⟩ := snap_shape (f := f) hu hk hu2
 have hsm := snapD_small (u := u) (f := f) (mayB_pool h) (mayB_name h)
 have e2 : d.nx + 1 + 1 = d.nx + 2 := by omega
 rw [e2] at h3
 refine ⟨j, hj, hj2, ?_⟩
 rintro K1 K2 o1 o2 L PV rfl rfl rfl rfl rfl rfl
 cases ok1 : newOk d.ag d.nx d.vo[j].b
 ·have e := h1 ok1
  refine ⟨?_, fun h => nomatch h⟩
  rw [changeK_code h (by rw [e]; exact (by decide : (6 : Int) ≠ 0)), e]
  rfl
 ·cases ok2 : newOk (newK d.ag d.nx d.vo[j].b) (d.nx + 1) d.vo[j].b
  ·have e := h2 ok1 ok2
   refine ⟨?_, fun _ h => nomatch h⟩
   rw [changeK_code h (by rw [e]; exact (by decide : (6 : Int) ≠ 0)), e]
   rfl
  ·have e := h3 ok1 ok2
   refine ⟨change_end h e, fun _ _ => ?_⟩
   rw [e] at hsm
   exact hsm rfl
set_option maxHeartbeats 8000000 in
theorem specSnap_any {t : TypeId} (vl vn va vc vv : Value) (d : PoolD) (s u : ByteArray) (f : Bool) (w : World) (hR : RdP t w w.heap.size vl vn va vc vv d) (hs : SmallP d) (hnm : ∀ k ∈ d.vo, k.a.size ≤ maxLen) (hz : s.size ≤ maxLen) (hu : u.size ≤ maxLen) :
  Calls Tryz.prog 24 #[.agg #[vl, vn, va, vc, vv, .int .i64 d.nx], .string s, .string u, .bool f] w (NewPn w (changeK d s (snapD s u f))) := by
 have h4 := hs.2.2.2
 have h2 := hs.2.1
 have HCP := Lib.hid (fun W b => l10Copy_any vl vn va vc vv d W (hR.on b) hs)
 have HV := Lib.hid (fun W b => l11Form_any vl vn va vc vv d s W (hR.on b) hs hnm hz)
 have HVA := Lib.hid (fun W b => specVolAt_any vl vn va vc vv d s W (hR.on b) (by omega))
 have HVB := Lib.hid (fun W b => specVolAt_any vl vn va vc vv d u W (hR.on b) (by omega))
 have HNM := Lib.hid (fun W => specNameOk_any u W hu)
 have HNA := Lib.hid (fun (x : Int) (W : World) (b : Below w.heap.size w W) => specNewAge_any va d.ag d.nx x W (hR.on b).2.1 (by omega))
 have HEN := Lib.hid (fun (W : World) (b : Below w.heap.size w W) (t2 : TypeId) (ul un ua uc uv : Value) (x : PoolD) (ok : Bool) (S : Nat → Prop) (hx : PoolC t2 W S ul un ua uc uv x) (hk : ok = true → SmallP x ∧ ∀ k ∈ x.vo, k.a.size ≤ maxLen) => l11End_any vl vn va vc vv ul un ua uc uv d x ok S W (hR.on b) hs hx hk)
 have HR0 := Lib.hid (show Reads w w.heap.size vv (volsD d.vo) from hR.2.2.2)
 obtain ⟨A0, Ac0, A1, Ac1, A2, Ac2, A3, Ac3, A4, Ac4, rfl, rfl, rfl, rfl, rfl⟩ := hR.shape
 obtain ⟨q0, q1⟩ := al2 w (.cells #[.slice A0 d.lo.length Ac0, .slice A1 d.ts.length Ac1, .slice A2 d.ag.length Ac2, .slice A3 d.ce.length Ac3, .slice A4 d.vo.length Ac4, .int .i64 d.nx] 32) (.cells #[.slice none 0 0, .slice none 0 0, .slice none 0 0, .slice none 0 0, .slice none 0 0, .int .i64 0] 32)
 have Q0 := Lib.hid q0
 have Q1 := Lib.hid q1
 have HB := Lib.hid (bal2 w (.cells #[.slice A0 d.lo.length Ac0, .slice A1 d.ts.length Ac1, .slice A2 d.ag.length Ac2, .slice A3 d.ce.length Ac3, .slice A4 d.vo.length Ac4, .int .i64 d.nx] 32) (.cells #[.slice none 0 0, .slice none 0 0, .slice none 0 0, .slice none 0 0, .slice none 0 0, .int .i64 0] 32))
 have hZ : ((w.alloc (.cells #[.slice A0 d.lo.length Ac0, .slice A1 d.ts.length Ac1, .slice A2 d.ag.length Ac2, .slice A3 d.ce.length Ac3, .slice A4 d.vo.length Ac4, .int .i64 d.nx] 32)).alloc (.cells #[.slice none 0 0, .slice none 0 0, .slice none 0 0, .slice none 0 0, .slice none 0 0, .int .i64 0] 32)).heap.size = w.heap.size + 2 := by simp
 obtain ⟨m, hm⟩ : ∃ m, mayB d s = m := ⟨_, rfl⟩
 obtain ⟨nb, hnb⟩ : ∃ m, nameOkB u = m := ⟨_, rfl⟩
 rw [show formN d s = if m then 0 else 1 by unfold formN; rw [hm]] at HV
 rw [hnb] at HNM
 have HMM := Lib.hid hm
 have HNB := Lib.hid hnb
 clear hR hs hnm hz hu q0 q1 hm hnb
 go_enter Tryz.func24, Tryz.ntmps24
 go_upto_region 1 with (fail)
 generalize (w.alloc (.cells #[.slice A0 d.lo.length Ac0, .slice A1 d.ts.length Ac1, .slice A2 d.ag.length Ac2, .slice A3 d.ce.length Ac3, .slice A4 d.vo.length Ac4, .int .i64 d.nx] 32)).alloc (.cells #[.slice none 0 0, .slice none 0 0, .slice none 0 0, .slice none 0 0, .slice none 0 0, .int .i64 0] 32) = W at *
 have hy1 := Nat.le_of_eq hZ
 have hy2 := Nat.le_of_eq hZ.symm
 clear hZ
 obtain ⟨x0, x1, x2, x3, x4, x5, x6⟩ := boxP Q0.out
 go_wp2_with fail
 refine (HV.out _ HB.out).mono ?_
 rintro e w1 ⟨rfl, b1⟩
 have hz1 := b1.size
 have B1 := Lib.hid (bstep HB.out b1)
 replace Q0 := Lib.hid (box_on Q0.out b1)
 replace Q1 := Lib.hid (box_on Q1.out b1)
 clear x0 x1 x2 x3 x4 x5 x6 b1 HV
 cases m
 ·rw [show (if false = true then (0 : Int) else 1) = 1 from rfl]
  obtain ⟨x0, x1, x2, x3, x4, x5, x6⟩ := boxP Q0.out
  go_wp2_with fail
  refine (HCP.out _ B1.out).mono ?_
  rintro e wE ⟨zl, zn, za, zc, zv, rfl, oE, bE⟩
  have hzE := bE.size
  obtain ⟨E0, Ec0, E1, Ec1, E2, Ec2, E3, Ec3, E4, Ec4, rfl, rfl, rfl, rfl, rfl⟩ := oE.reads.shape
  have OE := Lib.hid oE
  have BE := Lib.hid (bstep B1.out bE)
  clear x0 x1 x2 x3 x4 x5 x6
  obtain ⟨y0, y1, y2, y3, y4, y5, y6⟩ := boxP (box_on Q1.out bE)
  clear oE bE
  go_wp2
  rw [snap_no1 HMM.out]
  refine bodyPost_ret (v := .tuple #[.agg #[.slice E0 d.lo.length Ec0, .slice E1 d.ts.length Ec1, .slice E2 d.ag.length Ec2, .slice E3 d.ce.length Ec3, .slice E4 d.vo.length Ec4, .int .i64 d.nx], .int .i64 1]) (by simp [results, Tryz.results24, go_sem, y0, y1, y2, y3, y4, y5, y6]) rfl ⟨110, _, _, _, _, _, rfl, ?_, below_set6 BE.out (by omega)⟩
  exact (OE.out.set6 (p := w.heap.size + 1) (fun h => by omega)).mono (fun b hb => by omega)
 ·rw [show (if true = true then (0 : Int) else 1) = 0 from rfl]
  go_wp2_with fail
  refine (HNM.out _).mono ?_
  rintro e _ ⟨rfl, rfl⟩
  cases nb
  ·obtain ⟨x0, x1, x2, x3, x4, x5, x6⟩ := boxP Q0.out
   go_wp2_with fail
   refine (HCP.out _ B1.out).mono ?_
   rintro e wE ⟨zl, zn, za, zc, zv, rfl, oE, bE⟩
   have hzE := bE.size
   obtain ⟨E0, Ec0, E1, Ec1, E2, Ec2, E3, Ec3, E4, Ec4, rfl, rfl, rfl, rfl, rfl⟩ := oE.reads.shape
   have OE := Lib.hid oE
   have BE := Lib.hid (bstep B1.out bE)
   clear x0 x1 x2 x3 x4 x5 x6
   obtain ⟨y0, y1, y2, y3, y4, y5, y6⟩ := boxP (box_on Q1.out bE)
   clear oE bE
   go_wp2
   rw [snap_no1u HMM.out HNB.out]
   refine bodyPost_ret (v := .tuple #[.agg #[.slice E0 d.lo.length Ec0, .slice E1 d.ts.length Ec1, .slice E2 d.ag.length Ec2, .slice E3 d.ce.length Ec3, .slice E4 d.vo.length Ec4, .int .i64 d.nx], .int .i64 1]) (by simp [results, Tryz.results24, go_sem, y0, y1, y2, y3, y4, y5, y6]) rfl ⟨110, _, _, _, _, _, rfl, ?_, below_set6 BE.out (by omega)⟩
   exact (OE.out.set6 (p := w.heap.size + 1) (fun h => by omega)).mono (fun b hb => by omega)
  ·obtain ⟨x0, x1, x2, x3, x4, x5, x6⟩ := boxP Q0.out
   go_wp2_with fail
   refine (HVA.out _ B1.out).mono ?_
   rintro e w2 ⟨rfl, b2⟩
   have hz2 := b2.size
   have B2 := Lib.hid (bstep B1.out b2)
   replace Q0 := Lib.hid (box_on Q0.out b2)
   replace Q1 := Lib.hid (box_on Q1.out b2)
   clear x0 x1 x2 x3 x4 x5 x6 b2
   by_cases hk : volK s d.vo < 0
   ·have d1 : decide (volK s d.vo < 0) = true := decide_eq_true hk
    have HK := Lib.hid hk
    clear hk
    obtain ⟨x0, x1, x2, x3, x4, x5, x6⟩ := boxP Q0.out
    go_wp2_with fail
    refine (HCP.out _ B2.out).mono ?_
    rintro e wE ⟨zl, zn, za, zc, zv, rfl, oE, bE⟩
    have hzE := bE.size
    obtain ⟨E0, Ec0, E1, Ec1, E2, Ec2, E3, Ec3, E4, Ec4, rfl, rfl, rfl, rfl, rfl⟩ := oE.reads.shape
    have OE := Lib.hid oE
    have BE := Lib.hid (bstep B2.out bE)
    clear x0 x1 x2 x3 x4 x5 x6
    obtain ⟨y0, y1, y2, y3, y4, y5, y6⟩ := boxP (box_on Q1.out bE)
    clear oE bE
    go_wp2
    rw [snap_no2 HMM.out HNB.out HK.out]
    refine bodyPost_ret (v := .tuple #[.agg #[.slice E0 d.lo.length Ec0, .slice E1 d.ts.length Ec1, .slice E2 d.ag.length Ec2, .slice E3 d.ce.length Ec3, .slice E4 d.vo.length Ec4, .int .i64 d.nx], .int .i64 2]) (by simp [results, Tryz.results24, go_sem, y0, y1, y2, y3, y4, y5, y6]) rfl ⟨110, _, _, _, _, _, rfl, ?_, below_set6 BE.out (by omega)⟩
    exact (OE.out.set6 (p := w.heap.size + 1) (fun h => by omega)).mono (fun b hb => by omega)
   ·have d1 : decide (volK s d.vo < 0) = false := decide_eq_false hk
    have HK := Lib.hid hk
    clear hk
    obtain ⟨x0, x1, x2, x3, x4, x5, x6⟩ := boxP Q0.out
    go_wp2_with fail
    refine (HVB.out _ B2.out).mono ?_
    rintro e w3 ⟨rfl, b3⟩
    have hz3 := b3.size
    have B3 := Lib.hid (bstep B2.out b3)
    replace Q0 := Lib.hid (box_on Q0.out b3)
    replace Q1 := Lib.hid (box_on Q1.out b3)
    clear x0 x1 x2 x3 x4 x5 x6 b3 d1
    by_cases hk2 : 0 ≤ volK u d.vo
    ·have d1 : decide (volK u d.vo ≥ 0) = true := decide_eq_true hk2
     have HK2 := Lib.hid hk2
     clear hk2
     obtain ⟨x0, x1, x2, x3, x4, x5, x6⟩ := boxP Q0.out
     go_wp2_with fail
     refine (HCP.out _ B3.out).mono ?_
     rintro e wE ⟨zl, zn, za, zc, zv, rfl, oE, bE⟩
     have hzE := bE.size
     obtain ⟨E0, Ec0, E1, Ec1, E2, Ec2, E3, Ec3, E4, Ec4, rfl, rfl, rfl, rfl, rfl⟩ := oE.reads.shape
     have OE := Lib.hid oE
     have BE := Lib.hid (bstep B3.out bE)
     clear x0 x1 x2 x3 x4 x5 x6
     obtain ⟨y0, y1, y2, y3, y4, y5, y6⟩ := boxP (box_on Q1.out bE)
     clear oE bE
     go_wp2
     rw [snap_no3 HMM.out HNB.out (by have := HK.out; omega) HK2.out]
     refine bodyPost_ret (v := .tuple #[.agg #[.slice E0 d.lo.length Ec0, .slice E1 d.ts.length Ec1, .slice E2 d.ag.length Ec2, .slice E3 d.ce.length Ec3, .slice E4 d.vo.length Ec4, .int .i64 d.nx], .int .i64 3]) (by simp [results, Tryz.results24, go_sem, y0, y1, y2, y3, y4, y5, y6]) rfl ⟨110, _, _, _, _, _, rfl, ?_, below_set6 BE.out (by omega)⟩
     exact (OE.out.set6 (p := w.heap.size + 1) (fun h => by omega)).mono (fun b hb => by omega)
    ·have d1 : decide (volK u d.vo ≥ 0) = false := decide_eq_false hk2
     obtain ⟨j, hj, hj2, hF⟩ := snap_end (f := f) HMM.out HNB.out (by have := HK.out; omega) hk2
     have HFF := Lib.hid hF
     have HNO := Lib.hid (mem_noname (s := u) (l := d.vo) (by omega))
     obtain ⟨bb, off, hA, hbb, hcc⟩ := Reads.vols HR0.out hj
     subst hA
     have HC := Lib.hid (fun W (b' : Below w.heap.size w W) => (hcc j hj).on hbb b')
     rw [hj2] at HVA
     have i1 : (j : Int) < (d.vo.length : Int) := by omega
     have i2 : (0 : Int) ≤ (j : Int) := by omega
     have hps := pool_small (mayB_pool HMM.out)
     have hwA : IntKind.i64.wrap (d.nx + 1) = d.nx + 1 := by
      have := hps.2.2.2.2.1
      have := hps.2.2.2.2.2.1
      rw [IntKind.wrap_i64]; omega
     have hwB : IntKind.i64.wrap (d.nx + 2) = d.nx + 2 := by
      have := hps.2.2.2.2.1
      have := hps.2.2.2.2.2.1
      rw [IntKind.wrap_i64]; omega
     have HWA := Lib.hid hwA
     have HWB := Lib.hid hwB
     have HASC := Lib.hid (vasc_set hps.2.2.2.2.2.2.1 hj d.nx)
     have HNS := Lib.hid (noname_set HNO.out hj d.nx)
     have HAG := Lib.hid hps.2.1
     clear hF hk2 hbb hcc hj2 HK HNO hps hwA hwB
     obtain ⟨x0, x1, x2, x3, x4, x5, x6⟩ := boxP Q0.out
     go_wp2_with fail
     refine (HCP.out _ B3.out).mono ?_
     rintro e w4 ⟨zl, zn, za, zc, zv, rfl, o4, b4⟩
     have hz4 := b4.size
     obtain ⟨D0, Dc0, D1, Dc1, D2, Dc2, D3, Dc3, D4, Dc4, rfl, rfl, rfl, rfl, rfl⟩ := o4.reads.shape
     have hB2 := bal1 w4 (.cells #[.slice D0 d.lo.length Dc0, .slice D1 d.ts.length Dc1, .slice D2 d.ag.length Dc2, .slice D3 d.ce.length Dc3, .slice D4 d.vo.length Dc4, .int .i64 d.nx] 32)
     have QX := Lib.hid (al1 w4 (.cells #[.slice D0 d.lo.length Dc0, .slice D1 d.ts.length Dc1, .slice D2 d.ag.length Dc2, .slice D3 d.ce.length Dc3, .slice D4 d.vo.length Dc4, .int .i64 d.nx] 32))
     have hzz : (w4.alloc (.cells #[.slice D0 d.lo.length Dc0, .slice D1 d.ts.length Dc1, .slice D2 d.ag.length Dc2, .slice D3 d.ce.length Dc3, .slice D4 d.vo.length Dc4, .int .i64 d.nx] 32)).heap.size = w4.heap.size + 1 := by simp
     have OX := Lib.hid (o4.lt.on hB2)
     have B5 := Lib.hid (bstep B3.out (bstep b4 hB2))
     replace Q0 := Lib.hid (box_on (box_on Q0.out b4) hB2)
     replace Q1 := Lib.hid (box_on (box_on Q1.out b4) hB2)
     clear x0 x1 x2 x3 x4 x5 x6 o4 b4 hB2
     go_upto_region 9 with (fail)
     generalize w4.alloc (.cells #[.slice D0 d.lo.length Dc0, .slice D1 d.ts.length Dc1, .slice D2 d.ag.length Dc2, .slice D3 d.ce.length Dc3, .slice D4 d.vo.length Dc4, .int .i64 d.nx] 32) = w5 at *
     have hz5 := Nat.le_of_eq hzz
     have hz6 := Nat.le_of_eq hzz.symm
     clear hzz d1
     obtain ⟨x0, x1, x2, x3, x4, x5, x6⟩ := boxP Q0.out
     go_wp2_with fail
     refine (HVA.out _ B5.out).mono ?_
     rintro e w6 ⟨rfl, b6⟩
     have hz7 := b6.size
     have B6 := Lib.hid (bstep B5.out b6)
     replace Q0 := Lib.hid (box_on Q0.out b6)
     replace Q1 := Lib.hid (box_on Q1.out b6)
     replace QX := Lib.hid (box_on QX.out b6)
     replace OX := Lib.hid (OX.out.on b6)
     have QA := Lib.hid Q0.out
     have B6A := Lib.hid B6.out
     obtain ⟨K1, hK1⟩ : ∃ K, newK d.ag d.nx d.vo[j].b = K := ⟨_, rfl⟩
     obtain ⟨o1, ho1⟩ : ∃ K, newOk d.ag d.nx d.vo[j].b = K := ⟨_, rfl⟩
     obtain ⟨K2, hK2⟩ : ∃ K, newK K1 (d.nx + 1) d.vo[j].b = K := ⟨_, rfl⟩
     obtain ⟨o2, ho2⟩ : ∃ K, newOk K1 (d.nx + 1) d.vo[j].b = K := ⟨_, rfl⟩
     have hL1 : K1.length ≤ 100 := by have := HAG.out; have := newK_len d.ag d.nx d.vo[j].b; rw [hK1] at this; omega
     replace HNA := Lib.hid (HNA.out d.vo[j].b)
     rw [hK1, ho1] at HNA
     have HNB2 := Lib.hid (fun (v : Value) (W : World) (h : Reads W W.heap.size v (agesD K1)) => specNewAge_any v K1 (d.nx + 1) d.vo[j].b W h (by omega))
     rw [hK2, ho2] at HNB2
     have HG2 := Lib.hid (fun L PV => HFF.out K1 K2 o1 o2 L PV hK1 ho1 hK2 ho2)
     clear x0 x1 x2 x3 x4 x5 x6 b6 hK1 ho1 hK2 ho2 HFF HVA HVB HCP HAG HNM HR0
     go_upto_region 10 with (fail)
     refine but_begin (f := 15) (S := fun V => Below w6.heap.size w6 V) (by kernel_rfl) ?_
     have hS0c : Below w6.heap.size w6 w6.drew := Below.drew1 _
     have hz0c : w6.heap.size ≤ w6.drew.heap.size := Nat.le_refl _
     generalize w6.drew = Udc at *
     refine bt (f := 15) (i := 0) (v := ?vc0) rfl (Or.inl ⟨(by rfl), ?hyc0⟩) hS0c ?restc0
     case hyc0 => intro W hW; go_simp; exact rfl
     simp only [zA, zB, zC, Act.put, zD, zE, zF]
     refine bt (f := 15) (i := 1) (v := ?vc1) rfl (Or.inl ⟨(by rfl), ?hyc1⟩) hS0c ?restc1
     case hyc1 =>
      intro W hW
      obtain ⟨x0, x1, x2, x3, x4, x5, x6⟩ := boxP (box_on QA.out hW)
      obtain ⟨y0, y1, y2, y3⟩ := HC.out _ (bstep B6.out hW)
      go_simp
      exact rfl
     simp only [zA, zB, zC, Act.put, zD, zE, zF]
     refine bt (f := 15) (i := 2) (v := ?vc2) rfl (Or.inl ⟨(by rfl), ?hyc2⟩) hS0c ?restc2
     case hyc2 => intro W hW; go_simp; exact rfl
     simp only [zA, zB, zC, Act.put, zD, zE, zF]
     refine bt (f := 15) (i := 3) (v := ?vc3) rfl (Or.inl ⟨(by rfl), ?hyc3⟩) hS0c ?restc3
     case hyc3 =>
      intro W hW
      obtain ⟨x0, x1, x2, x3, x4, x5, x6⟩ := boxP (box_on QA.out hW)
      obtain ⟨y0, y1, y2, y3⟩ := HC.out _ (bstep B6.out hW)
      go_simp
      exact rfl
     simp only [zA, zB, zC, Act.put, zD, zE, zF]
     refine bt (f := 15) (i := 4) (v := ?vc4) rfl (Or.inl ⟨(by rfl), ?hyc4⟩) hS0c ?restc4
     case hyc4 => intro W hW; go_simp; exact rfl
     simp only [zA, zB, zC, Act.put, zD, zE, zF]
     refine bt (f := 15) (i := 5) (v := ?vc5) rfl (Or.inl ⟨(by rfl), ?hyc5⟩) hS0c ?restc5
     case hyc5 =>
      intro W hW
      obtain ⟨x0, x1, x2, x3, x4, x5, x6⟩ := boxP (box_on QA.out hW)
      obtain ⟨y0, y1, y2, y3⟩ := HC.out _ (bstep B6.out hW)
      go_simp
      exact rfl
     simp only [zA, zB, zC, Act.put, zD, zE, zF]
     refine bt (f := 15) (i := 6) (v := ?vc6) rfl (Or.inl ⟨(by rfl), ?hyc6⟩) hS0c ?restc6
     case hyc6 => intro W hW; go_simp; exact rfl
     simp only [zA, zB, zC, Act.put, zD, zE, zF]
     refine bt (f := 15) (i := 7) (v := ?vc7) rfl (Or.inl ⟨(by rfl), ?hyc7⟩) hS0c ?restc7
     case hyc7 => intro W hW; go_simp; exact rfl
     simp only [zA, zB, zC, Act.put, zD, zE, zF]
     refine bt (f := 15) (i := 8) (v := ?vc8) rfl (Or.inl ⟨(by rfl), ?hyc8⟩) hS0c ?restc8
     case hyc8 => intro W hW; go_simp; exact rfl
     simp only [zA, zB, zC, Act.put, zD, zE, zF]
     refine bt (f := 15) (i := 9) (v := ?vc9) rfl (Or.inl ⟨(by rfl), ?hyc9⟩) hS0c ?restc9
     case hyc9 =>
      intro W hW
      obtain ⟨x0, x1, x2, x3, x4, x5, x6⟩ := boxP (box_on QA.out hW)
      obtain ⟨y0, y1, y2, y3⟩ := HC.out _ (bstep B6.out hW)
      go_simp
      exact rfl
     simp only [zA, zB, zC, Act.put, zD, zE, zF]
     refine but_run (i := 10) (by kernel_rfl) rfl (by rfl) ?_
     simp only [zA, zB, zC]
     intro K HK
     go_wp2_with fail
     refine (HNA.out _ (bstep B6.out hS0c)).mono ?_
     rintro r Vc1 ⟨v7, rfl, o7, hbc1⟩
     obtain ⟨A7, c7, rfl, _, _⟩ := o7.shape
     go_wp2_with fail
     have hSc1 : (fun V => Below w6.heap.size w6 V) Vc1 := bstep hS0c hbc1
     refine HK.out _ _ (fun _ => hSc1) ?_
     clear HK
     have hzc1 := hbc1.size
     have R7 := Lib.hid o7.owns.reads
     have O7 := Lib.hid o7.owns
     clear o7
     refine bt (f := 15) (i := 11) (v := ?vc11) rfl (Or.inl ⟨(by rfl), ?hyc11⟩) hSc1 ?restc11
     case hyc11 => intro W hW; go_simp; exact rfl
     simp only [zA, zB, zC, Act.put, zD, zE, zF]
     refine bt (f := 15) (i := 12) (v := ?vc12) rfl (Or.inl ⟨(by rfl), ?hyc12⟩) hSc1 ?restc12
     case hyc12 => intro W hW; go_simp; exact rfl
     simp only [zA, zB, zC, Act.put, zD, zE, zF]
     refine bt (f := 15) (i := 13) (v := ?vc13) rfl (Or.inl ⟨(by rfl), ?hyc13⟩) hSc1 ?restc13
     case hyc13 => intro W hW; go_simp; exact rfl
     simp only [zA, zB, zC, Act.put, zD, zE, zF]
     refine but_run (i := 14) (by kernel_rfl) rfl (by rfl) ?_
     simp only [zA, zB, zC]
     intro K HK
     go_wp2_with fail
     have hSc2 : (fun V => Below w6.heap.size w6 V) (Vc1) := hSc1
     refine HK.out _ _ (fun _ => hSc2) ?_
     clear HK
     refine but_run (i := 15) (by kernel_rfl) rfl (by rfl) ?_
     simp only [zA, zB, zC]
     intro K HK
     go_wp2_with fail
     refine HK.out _ _ (fun h => absurd rfl h) ?_
     clear HK
     refine but_done (by kernel_rfl) ?_
     have b7 : Below w6.heap.size w6 Vc1 := hSc2
     have hz8 := b7.size
     have B7 := Lib.hid (bstep B6.out b7)
     replace Q0 := Lib.hid (box_on Q0.out b7)
     replace Q1 := Lib.hid (box_on Q1.out b7)
     replace QX := Lib.hid (box_on QX.out b7)
     have QC := Lib.hid Q0.out
     have HNC := Lib.hid (fun W (b : Below Vc1.heap.size Vc1 W) => HNB2.out _ W (R7.out.on b))
     clear O7 R7 HNA HNB2
     go_upto_region 11 with (fail)
     refine but_begin (f := 15) (S := fun V => Below Vc1.heap.size Vc1 V) (by kernel_rfl) ?_
     have hS0e : Below Vc1.heap.size Vc1 Vc1.drew := Below.drew1 _
     have hz0e : Vc1.heap.size ≤ Vc1.drew.heap.size := Nat.le_refl _
     generalize Vc1.drew = Ude at *
     refine bt (f := 15) (i := 0) (v := ?ve0) rfl (Or.inl ⟨(by rfl), ?hye0⟩) hS0e ?reste0
     case hye0 => intro W hW; go_simp; exact rfl
     simp only [zA, zB, zC, Act.put, zD, zE, zF]
     refine bt (f := 15) (i := 1) (v := ?ve1) rfl (Or.inl ⟨(by rfl), ?hye1⟩) hS0e ?reste1
     case hye1 => intro W hW; go_simp; exact rfl
     simp only [zA, zB, zC, Act.put, zD, zE, zF]
     refine bt (f := 15) (i := 2) (v := ?ve2) rfl (Or.inl ⟨(by rfl), ?hye2⟩) hS0e ?reste2
     case hye2 =>
      intro W hW
      obtain ⟨x0, x1, x2, x3, x4, x5, x6⟩ := boxP (box_on QC.out hW)
      obtain ⟨y0, y1, y2, y3⟩ := HC.out _ (bstep B7.out hW)
      go_simp
      exact rfl
     simp only [zA, zB, zC, Act.put, zD, zE, zF]
     refine bt (f := 15) (i := 3) (v := ?ve3) rfl (Or.inl ⟨(by rfl), ?hye3⟩) hS0e ?reste3
     case hye3 =>
      intro W hW
      have hwA := HWA.out
      go_simp
      exact rfl
     simp only [zA, zB, zC, Act.put, zD, zE, zF]
     refine bt (f := 15) (i := 4) (v := ?ve4) rfl (Or.inl ⟨(by rfl), ?hye4⟩) hS0e ?reste4
     case hye4 => intro W hW; go_simp; exact rfl
     simp only [zA, zB, zC, Act.put, zD, zE, zF]
     refine bt (f := 15) (i := 5) (v := ?ve5) rfl (Or.inl ⟨(by rfl), ?hye5⟩) hS0e ?reste5
     case hye5 =>
      intro W hW
      obtain ⟨x0, x1, x2, x3, x4, x5, x6⟩ := boxP (box_on QC.out hW)
      obtain ⟨y0, y1, y2, y3⟩ := HC.out _ (bstep B7.out hW)
      go_simp
      exact rfl
     simp only [zA, zB, zC, Act.put, zD, zE, zF]
     refine bt (f := 15) (i := 6) (v := ?ve6) rfl (Or.inl ⟨(by rfl), ?hye6⟩) hS0e ?reste6
     case hye6 => intro W hW; go_simp; exact rfl
     simp only [zA, zB, zC, Act.put, zD, zE, zF]
     refine bt (f := 15) (i := 7) (v := ?ve7) rfl (Or.inl ⟨(by rfl), ?hye7⟩) hS0e ?reste7
     case hye7 => intro W hW; go_simp; exact rfl
     simp only [zA, zB, zC, Act.put, zD, zE, zF]
     refine bt (f := 15) (i := 8) (v := ?ve8) rfl (Or.inl ⟨(by rfl), ?hye8⟩) hS0e ?reste8
     case hye8 => intro W hW; go_simp; exact rfl
     simp only [zA, zB, zC, Act.put, zD, zE, zF]
     refine bt (f := 15) (i := 9) (v := ?ve9) rfl (Or.inl ⟨(by rfl), ?hye9⟩) hS0e ?reste9
     case hye9 =>
      intro W hW
      obtain ⟨x0, x1, x2, x3, x4, x5, x6⟩ := boxP (box_on QC.out hW)
      obtain ⟨y0, y1, y2, y3⟩ := HC.out _ (bstep B7.out hW)
      go_simp
      exact rfl
     simp only [zA, zB, zC, Act.put, zD, zE, zF]
     refine but_run (i := 10) (by kernel_rfl) rfl (by rfl) ?_
     simp only [zA, zB, zC]
     intro K HK
     go_wp2_with fail
     refine (HNC.out _ hS0e).mono ?_
     rintro r Ve1 ⟨v8, rfl, o8, hbe1⟩
     obtain ⟨A8, c8, rfl, _, _⟩ := o8.shape
     go_wp2_with fail
     have hSe1 : (fun V => Below Vc1.heap.size Vc1 V) Ve1 := bstep hS0e hbe1
     refine HK.out _ _ (fun _ => hSe1) ?_
     clear HK
     have hze1 := hbe1.size
     have O8 := Lib.hid (show Owns Ve1 (fun k => w6.heap.size ≤ k) (.slice A8 K2.length c8) (agesD K2) from o8.owns.mono (fun b hb => by omega))
     clear o8
     refine bt (f := 15) (i := 11) (v := ?ve11) rfl (Or.inl ⟨(by rfl), ?hye11⟩) hSe1 ?reste11
     case hye11 => intro W hW; go_simp; exact rfl
     simp only [zA, zB, zC, Act.put, zD, zE, zF]
     refine bt (f := 15) (i := 12) (v := ?ve12) rfl (Or.inl ⟨(by rfl), ?hye12⟩) hSe1 ?reste12
     case hye12 => intro W hW; go_simp; exact rfl
     simp only [zA, zB, zC, Act.put, zD, zE, zF]
     refine bt (f := 15) (i := 13) (v := ?ve13) rfl (Or.inl ⟨(by rfl), ?hye13⟩) hSe1 ?reste13
     case hye13 => intro W hW; go_simp; exact rfl
     simp only [zA, zB, zC, Act.put, zD, zE, zF]
     refine but_run (i := 14) (by kernel_rfl) rfl (by rfl) ?_
     simp only [zA, zB, zC]
     intro K HK
     go_wp2_with fail
     have hSe2 : (fun V => Below Vc1.heap.size Vc1 V) (Ve1) := hSe1
     refine HK.out _ _ (fun _ => hSe2) ?_
     clear HK
     refine but_run (i := 15) (by kernel_rfl) rfl (by rfl) ?_
     simp only [zA, zB, zC]
     intro K HK
     go_wp2_with fail
     refine HK.out _ _ (fun h => absurd rfl h) ?_
     clear HK
     refine but_done (by kernel_rfl) ?_
     have b8 : Below Vc1.heap.size Vc1 Ve1 := hSe2
     have hz9 := b8.size
     have b68 := bstep b7 b8
     have X8 := Lib.hid ((OX.out.ages b68 O8.out).setFar (g := w4.heap.size) (j := 2) (u := .slice A8 K2.length c8) (fun h => by rcases h with h | h <;> omega))
     have QY := Lib.hid (box_on QX.out b8)
     replace QX := Lib.hid (box_setP2 (u := .slice A8 K2.length c8) QY.out)
     replace Q0 := Lib.hid (box_far (g := w4.heap.size) (j := 2) (u := .slice A8 K2.length c8) (box_on Q0.out b8) (by omega))
     replace Q1 := Lib.hid (box_far (g := w4.heap.size) (j := 2) (u := .slice A8 K2.length c8) (box_on Q1.out b8) (by omega))
     have B8 := Lib.hid ((bstep B7.out b8).setCell (p := ⟨w4.heap.size, 2, none⟩) (show w.heap.size ≤ w4.heap.size by omega) (.slice A8 K2.length c8))
     have hzz : (Ve1.setCell ⟨w4.heap.size, 2, none⟩ (.slice A8 K2.length c8)).heap.size = Ve1.heap.size := by simp
     clear O8 OX HNC
     obtain ⟨x0, x1, x2, x3, x4, x5, x6⟩ := boxP QY.out
     go_upto_region 13 with (fail)
     clear x0 x1 x2 x3 x4 x5 x6 QY b7 b8 b68
     generalize Ve1.setCell ⟨w4.heap.size, 2, none⟩ (.slice A8 K2.length c8) = w9 at *
     have hz10 := Nat.le_of_eq hzz
     have hz11 := Nat.le_of_eq hzz.symm
     clear hzz
     obtain ⟨g, cap, eV, hSg, hgl, hfz, hcell⟩ := X8.out.volBlock (show 0 < d.vo.length by omega)
     cases eV
     have hgne : w4.heap.size ≠ g := fun e => by rcases hSg with h | h <;> omega
     have hgw : w.heap.size + 2 ≤ g := by rcases hSg with h | h <;> omega
     have X9 := Lib.hid (X8.out.setAge (i := j) hj d.nx)
     have QY := Lib.hid QX.out
     have Q0Y := Lib.hid Q0.out
     replace QX := Lib.hid (box_far (g := g) (j := j * 4 + 1) (u := .int .i64 d.nx) QX.out hgne)
     replace Q0 := Lib.hid (box_far (g := g) (j := j * 4 + 1) (u := .int .i64 d.nx) Q0.out (by omega))
     replace Q1 := Lib.hid (box_far (g := g) (j := j * 4 + 1) (u := .int .i64 d.nx) Q1.out (by omega))
     have B9 := Lib.hid (B8.out.setCell (p := ⟨g, j * 4 + 1, none⟩) (show w.heap.size ≤ g by omega) (.int .i64 d.nx))
     have hzz : (w9.setCell ⟨g, j * 4 + 1, none⟩ (.int .i64 d.nx)).heap.size = w9.heap.size := by simp
     obtain ⟨y0, y1, y2, y3⟩ := hcell j hj
     obtain ⟨x0, x1, x2, x3, x4, x5, x6⟩ := boxP QY.out
     obtain ⟨p0, p1, p2, p3, p4, p5, p6⟩ := boxP Q0Y.out
     clear hcell X8
     go_upto_region 14 with (fail)
     clear x0 x1 x2 x3 x4 x5 x6 p0 p1 p2 p3 p4 p5 p6 y0 y1 y2 y3 QY Q0Y hfz
     generalize w9.setCell ⟨g, j * 4 + 1, none⟩ (.int .i64 d.nx) = w10 at *
     have hz12 := Nat.le_of_eq hzz
     have hz13 := Nat.le_of_eq hzz.symm
     clear hzz
     have hset : (d.vo.set j { d.vo[j] with b := d.nx }).length = d.vo.length := by simp
     obtain ⟨L, hL⟩ : ∃ L, d.vo.set j { d.vo[j] with b := d.nx } = L := ⟨_, rfl⟩
     rw [hL] at X9 hset HASC HNS
     have RV := Lib.hid (show Reads w10 w10.heap.size (.slice (some ⟨g, 0, none⟩) d.vo.length Dc4) (volsD L) from X9.out.reads.2.2.2)
     have HPV := Lib.hid (fun (W : World) (b : Below w10.heap.size w10 W) => l11PutVol_any _ L ⟨u, d.nx + 1, d.vo[j].c, f⟩ W (RV.out.on b) (by omega))
     rw [insV_put HASC.out HNS.out] at HPV
     obtain ⟨PV, hPV⟩ : ∃ PV, putV L ⟨u, d.nx + 1, d.vo[j].c, f⟩ = PV := ⟨_, rfl⟩
     rw [hPV] at HPV
     have HG := Lib.hid (HG2.out L PV hL hPV)
     have QA2 := Lib.hid Q0.out
     have QY2 := Lib.hid QX.out
     clear hL hPV HG2 RV HASC HNS hset QA QC
     refine but_begin (f := 16) (S := fun V => Below w10.heap.size w10 V) (by kernel_rfl) ?_
     have hS0g : Below w10.heap.size w10 w10.drew := Below.drew1 _
     have hz0g : w10.heap.size ≤ w10.drew.heap.size := Nat.le_refl _
     generalize w10.drew = Udg at *
     replace QX := Lib.hid (box_on QX.out hS0g)
     refine bt (f := 16) (i := 0) (v := ?vg0) rfl (Or.inl ⟨(by rfl), ?hyg0⟩) hS0g ?restg0
     case hyg0 => intro W hW; go_simp; exact rfl
     simp only [zA, zB, zC, Act.put, zD, zE, zF]
     refine bt (f := 16) (i := 1) (v := ?vg1) rfl (Or.inl ⟨(by rfl), ?hyg1⟩) hS0g ?restg1
     case hyg1 =>
      intro W hW
      obtain ⟨x0, x1, x2, x3, x4, x5, x6⟩ := boxP (box_on QA2.out hW)
      obtain ⟨y0, y1, y2, y3⟩ := HC.out _ (bstep B9.out hW)
      obtain ⟨z0, z1, z2, z3, z4, z5, z6⟩ := boxP (box_on QY2.out hW)
      go_simp
      exact rfl
     simp only [zA, zB, zC, Act.put, zD, zE, zF]
     refine bt (f := 16) (i := 2) (v := ?vg2) rfl (Or.inl ⟨(by rfl), ?hyg2⟩) hS0g ?restg2
     case hyg2 => intro W hW; go_simp; exact rfl
     simp only [zA, zB, zC, Act.put, zD, zE, zF]
     refine bt (f := 16) (i := 3) (v := ?vg3) rfl (Or.inl ⟨(by rfl), ?hyg3⟩) hS0g ?restg3
     case hyg3 => intro W hW; go_simp; exact rfl
     simp only [zA, zB, zC, Act.put, zD, zE, zF]
     refine bt (f := 16) (i := 4) (v := ?vg4) rfl (Or.inl ⟨(by rfl), ?hyg4⟩) hS0g ?restg4
     case hyg4 =>
      intro W hW
      obtain ⟨x0, x1, x2, x3, x4, x5, x6⟩ := boxP (box_on QA2.out hW)
      obtain ⟨y0, y1, y2, y3⟩ := HC.out _ (bstep B9.out hW)
      obtain ⟨z0, z1, z2, z3, z4, z5, z6⟩ := boxP (box_on QY2.out hW)
      go_simp
      exact rfl
     simp only [zA, zB, zC, Act.put, zD, zE, zF]
     refine bt (f := 16) (i := 5) (v := ?vg5) rfl (Or.inl ⟨(by rfl), ?hyg5⟩) hS0g ?restg5
     case hyg5 =>
      intro W hW
      have hwA := HWA.out
      go_simp
      exact rfl
     simp only [zA, zB, zC, Act.put, zD, zE, zF]
     refine bt (f := 16) (i := 6) (v := ?vg6) rfl (Or.inl ⟨(by rfl), ?hyg6⟩) hS0g ?restg6
     case hyg6 => intro W hW; go_simp; exact rfl
     simp only [zA, zB, zC, Act.put, zD, zE, zF]
     refine bt (f := 16) (i := 7) (v := ?vg7) rfl (Or.inl ⟨(by rfl), ?hyg7⟩) hS0g ?restg7
     case hyg7 =>
      intro W hW
      obtain ⟨x0, x1, x2, x3, x4, x5, x6⟩ := boxP (box_on QA2.out hW)
      obtain ⟨y0, y1, y2, y3⟩ := HC.out _ (bstep B9.out hW)
      obtain ⟨z0, z1, z2, z3, z4, z5, z6⟩ := boxP (box_on QY2.out hW)
      go_simp
      exact rfl
     simp only [zA, zB, zC, Act.put, zD, zE, zF]
     refine bt (f := 16) (i := 8) (v := ?vg8) rfl (Or.inl ⟨(by rfl), ?hyg8⟩) hS0g ?restg8
     case hyg8 => intro W hW; go_simp; exact rfl
     simp only [zA, zB, zC, Act.put, zD, zE, zF]
     refine bt (f := 16) (i := 9) (v := ?vg9) rfl (Or.inl ⟨(by rfl), ?hyg9⟩) hS0g ?restg9
     case hyg9 => intro W hW; go_simp; exact rfl
     simp only [zA, zB, zC, Act.put, zD, zE, zF]
     refine bt (f := 16) (i := 10) (v := ?vg10) rfl (Or.inl ⟨(by rfl), ?hyg10⟩) hS0g ?restg10
     case hyg10 => intro W hW; go_simp; exact rfl
     simp only [zA, zB, zC, Act.put, zD, zE, zF]
     refine bt (f := 16) (i := 11) (v := ?vg11) rfl (Or.inl ⟨(by rfl), ?hyg11⟩) hS0g ?restg11
     case hyg11 =>
      intro W hW
      obtain ⟨x0, x1, x2, x3, x4, x5, x6⟩ := boxP (box_on QA2.out hW)
      obtain ⟨y0, y1, y2, y3⟩ := HC.out _ (bstep B9.out hW)
      obtain ⟨z0, z1, z2, z3, z4, z5, z6⟩ := boxP (box_on QY2.out hW)
      go_simp
      exact rfl
     simp only [zA, zB, zC, Act.put, zD, zE, zF]
     refine bt (f := 16) (i := 12) (v := ?vg12) rfl (Or.inl ⟨(by rfl), ?hyg12⟩) hS0g ?restg12
     case hyg12 => intro W hW; go_simp; exact rfl
     simp only [zA, zB, zC, Act.put, zD, zE, zF]
     refine bt (f := 16) (i := 13) (v := ?vg13) rfl (Or.inl ⟨(by rfl), ?hyg13⟩) hS0g ?restg13
     case hyg13 => intro W hW; go_simp; exact rfl
     simp only [zA, zB, zC, Act.put, zD, zE, zF]
     refine but_run (i := 14) (by kernel_rfl) rfl (by rfl) ?_
     simp only [zA, zB, zC]
     intro K HK
     go_wp2_with fail
     refine (HPV.out _ hS0g).mono ?_
     rintro r Vg1 ⟨v11, rfl, o11, hbg1⟩
     obtain ⟨A11, c11, rfl, _, _⟩ := o11.shape
     go_wp2_with fail
     have hSg1 : (fun V => Below w10.heap.size w10 V) Vg1 := bstep hS0g hbg1
     refine HK.out _ _ (fun _ => hSg1) ?_
     clear HK
     have hzg1 := hbg1.size
     replace QX := Lib.hid (box_on QX.out hbg1)
     have O11 := Lib.hid (show Owns Vg1 (fun k => w10.heap.size ≤ k) (.slice A11 PV.length c11) (volsD PV) from o11.owns.mono (fun b hb => by omega))
     clear o11
     refine bt (f := 16) (i := 15) (v := ?vg15) rfl (Or.inl ⟨(by rfl), ?hyg15⟩) hSg1 ?restg15
     case hyg15 => intro W hW; go_simp; exact rfl
     simp only [zA, zB, zC, Act.put, zD, zE, zF]
     refine but_run (i := 16) (by kernel_rfl) rfl (by rfl) ?_
     simp only [zA, zB, zC]
     intro K HK
     obtain ⟨z0, z1, z2, z3, z4, z5, z6⟩ := boxP QX.out
     go_wp2_with fail
     refine HK.out _ _ (fun h => absurd rfl h) ?_
     clear HK
     refine but_done (by kernel_rfl) ?_
     have b11 : Below w10.heap.size w10 Vg1 := hSg1
     have hz14 := b11.size
     have X11 := Lib.hid ((X9.out.vols b11 O11.out).setFar (g := w4.heap.size) (j := 4) (u := .slice A11 PV.length c11) (fun h => by rcases h with (h | h) | h <;> omega))
     replace QX := Lib.hid (box_setP4 (u := .slice A11 PV.length c11) QX.out)
     replace Q0 := Lib.hid (box_far (g := w4.heap.size) (j := 4) (u := .slice A11 PV.length c11) (box_on Q0.out b11) (by omega))
     replace Q1 := Lib.hid (box_far (g := w4.heap.size) (j := 4) (u := .slice A11 PV.length c11) (box_on Q1.out b11) (by omega))
     have B11 := Lib.hid ((bstep B9.out b11).setCell (p := ⟨w4.heap.size, 4, none⟩) (show w.heap.size ≤ w4.heap.size by omega) (.slice A11 PV.length c11))
     have hzz : (Vg1.setCell ⟨w4.heap.size, 4, none⟩ (.slice A11 PV.length c11)).heap.size = Vg1.heap.size := by simp
     clear X9 O11 HPV b11 QA2 QY2
     generalize Vg1.setCell ⟨w4.heap.size, 4, none⟩ (.slice A11 PV.length c11) = w11 at *
     have hz15 := Nat.le_of_eq hzz
     have hz16 := Nat.le_of_eq hzz.symm
     clear hzz
     have X12 := Lib.hid ((X11.out.setFar (g := w4.heap.size) (j := 5) (u := .int .i64 (d.nx + 2)) (fun h => by rcases h with (h | h) | h <;> omega)).next (d.nx + 2))
     have QY := Lib.hid QX.out
     have Q0Y := Lib.hid Q0.out
     replace QX := Lib.hid (box_setP5 (u := .int .i64 (d.nx + 2)) QX.out)
     replace Q0 := Lib.hid (box_far (g := w4.heap.size) (j := 5) (u := .int .i64 (d.nx + 2)) Q0.out (by omega))
     replace Q1 := Lib.hid (box_far (g := w4.heap.size) (j := 5) (u := .int .i64 (d.nx + 2)) Q1.out (by omega))
     have B12 := Lib.hid (B11.out.setCell (p := ⟨w4.heap.size, 5, none⟩) (show w.heap.size ≤ w4.heap.size by omega) (.int .i64 (d.nx + 2)))
     have hzz : (w11.setCell ⟨w4.heap.size, 5, none⟩ (.int .i64 (d.nx + 2))).heap.size = w11.heap.size := by simp
     have hwB := HWB.out
     clear X11
     obtain ⟨x0, x1, x2, x3, x4, x5, x6⟩ := boxP QY.out
     obtain ⟨p0, p1, p2, p3, p4, p5, p6⟩ := boxP Q0Y.out
     go_upto_region 16 with (fail)
     clear x0 x1 x2 x3 x4 x5 x6 p0 p1 p2 p3 p4 p5 p6 QY Q0Y hwB
     generalize w11.setCell ⟨w4.heap.size, 5, none⟩ (.int .i64 (d.nx + 2)) = w12 at *
     have hz17 := Nat.le_of_eq hzz
     have hz18 := Nat.le_of_eq hzz.symm
     clear hzz
     cases o1
     ·have HF := Lib.hid HG.out.1
      rw [Bool.false_and] at HF
      have HSM := Lib.hid HG.out.2
      obtain ⟨x0, x1, x2, x3, x4, x5, x6⟩ := boxP QX.out
      obtain ⟨p0, p1, p2, p3, p4, p5, p6⟩ := boxP Q0.out
      go_wp2_with fail
      refine (HEN.out _ B12.out _ _ _ _ _ _ { d with ag := K2, vo := PV, nx := d.nx + 2 } false _ X12.out (fun h => nomatch h)).mono ?_
      clear x0 x1 x2 x3 x4 x5 x6 p0 p1 p2 p3 p4 p5 p6
      rintro e w13 ⟨t9, zl, zn, za, zc, zv, rfl, o9, b9⟩
      have hz17 := b9.size
      obtain ⟨r, hr⟩ : ∃ r, endD d { d with ag := K2, vo := PV, nx := d.nx + 2 } false = r := ⟨_, rfl⟩
      rw [hr] at o9 HF ⊢
      obtain ⟨y, c⟩ := r
      obtain ⟨E0, Ec0, E1, Ec1, E2, Ec2, E3, Ec3, E4, Ec4, rfl, rfl, rfl, rfl, rfl⟩ := o9.reads.shape
      have O9 := Lib.hid o9
      have B13 := Lib.hid (bstep B12.out b9)
      obtain ⟨y0, y1, y2, y3, y4, y5, y6⟩ := boxP (box_on Q1.out b9)
      clear o9 b9 hr
      go_wp2
      rw [HF.out]
      refine bodyPost_ret (v := .tuple #[.agg #[.slice E0 y.lo.length Ec0, .slice E1 y.ts.length Ec1, .slice E2 y.ag.length Ec2, .slice E3 y.ce.length Ec3, .slice E4 y.vo.length Ec4, .int .i64 y.nx], .int .i64 c]) (by simp [results, Tryz.results24, go_sem, y0, y1, y2, y3, y4, y5, y6]) rfl ⟨t9, _, _, _, _, _, rfl, ?_, below_set6 B13.out (by omega)⟩
      exact (O9.out.set6 (p := w.heap.size + 1) (fun h => by rcases h with ((h | h) | h) | h <;> omega)).mono (fun b hb => by rcases hb with ((h | h) | h) | h <;> omega)
     ·have HF := Lib.hid HG.out.1
      rw [Bool.true_and] at HF
      have HSM := Lib.hid HG.out.2
      obtain ⟨x0, x1, x2, x3, x4, x5, x6⟩ := boxP QX.out
      obtain ⟨p0, p1, p2, p3, p4, p5, p6⟩ := boxP Q0.out
      go_wp2_with fail
      refine (HEN.out _ B12.out _ _ _ _ _ _ { d with ag := K2, vo := PV, nx := d.nx + 2 } o2 _ X12.out (fun h => HSM.out (by first | rfl | trivial) h)).mono ?_
      clear x0 x1 x2 x3 x4 x5 x6 p0 p1 p2 p3 p4 p5 p6
      rintro e w13 ⟨t9, zl, zn, za, zc, zv, rfl, o9, b9⟩
      have hz17 := b9.size
      obtain ⟨r, hr⟩ : ∃ r, endD d { d with ag := K2, vo := PV, nx := d.nx + 2 } o2 = r := ⟨_, rfl⟩
      rw [hr] at o9 HF ⊢
      obtain ⟨y, c⟩ := r
      obtain ⟨E0, Ec0, E1, Ec1, E2, Ec2, E3, Ec3, E4, Ec4, rfl, rfl, rfl, rfl, rfl⟩ := o9.reads.shape
      have O9 := Lib.hid o9
      have B13 := Lib.hid (bstep B12.out b9)
      obtain ⟨y0, y1, y2, y3, y4, y5, y6⟩ := boxP (box_on Q1.out b9)
      clear o9 b9 hr
      go_wp2
      rw [HF.out]
      refine bodyPost_ret (v := .tuple #[.agg #[.slice E0 y.lo.length Ec0, .slice E1 y.ts.length Ec1, .slice E2 y.ag.length Ec2, .slice E3 y.ce.length Ec3, .slice E4 y.vo.length Ec4, .int .i64 y.nx], .int .i64 c]) (by simp [results, Tryz.results24, go_sem, y0, y1, y2, y3, y4, y5, y6]) rfl ⟨t9, _, _, _, _, _, rfl, ?_, below_set6 B13.out (by omega)⟩
      exact (O9.out.set6 (p := w.heap.size + 1) (fun h => by rcases h with ((h | h) | h) | h <;> omega)).mono (fun b hb => by rcases hb with ((h | h) | h) | h <;> omega)
end Go.Proofs.YtlhemcjahcmdeaaGreatDoor
namespace Go.Proofs.YtlhemcjahcmdeaaGreatDoor
open Go.RowKit
set_option maxRecDepth 100000
set_option linter.unusedSimpArgs false
set_option linter.unusedVariables false

def kAg (k : Int) (d : PoolD) : Int := markEnd k d.lo d.ts
def kCe (k : Int) (d : PoolD) : Int := kAg k d + (d.ag.length * 2 : Nat)
def kVo (k : Int) (d : PoolD) : Int := kCe k d + (d.ce.length * 3 : Nat)
def endP (k : Int) (d : PoolD) : Int := kVo k d + (d.vo.length * 4 : Nat)
def markP (k : Int) (d : PoolD) : PoolD := ⟨mkI k d.lo, mkT (k + (d.lo.length : Nat)) d.ts, mkL mG sG (kAg k d) d.ag d.ag.length, mkL mCel sCel (kCe k d) d.ce d.ce.length, mkL mVol sVol (kVo k d) d.vo d.vo.length, d.nx⟩
theorem k_le {k : Int} {d : PoolD} (hs : SmallP d) (h0 : 0 ≤ k) (h1 : k ≤ 274877906944) : 0 ≤ kAg k d ∧ kAg k d ≤ 549755813888 ∧ 0 ≤ kCe k d ∧ kCe k d ≤ 1099511627776 ∧ 0 ≤ kVo k d ∧ kVo k d ≤ 1099511627776 ∧ 0 ≤ endP k d ∧ endP k d ≤ 1099511627776 := by
 have h := markEnd_le hs.t h0 h1
 have := hs.2.1
 have := hs.2.2.1
 have := hs.2.2.2
 unfold endP kVo kCe kAg
 omega
set_option maxHeartbeats 1000000 in
theorem markPool_any {t : TypeId} (vl vn va vc vv : Value) (S : Nat → Prop) (d : PoolD) (k : Int) (w : World) (h : PoolC t w S vl vn va vc vv d) (hS : ∀ b, S b → b < w.heap.size) (hs : SmallP d) (h0 : 0 ≤ k) (h1 : k ≤ 274877906944) :
  Calls Tryz.prog 39 #[.agg #[vl, vn, va, vc, vv, .int .i64 d.nx], .int .i64 k] w fun e w' => e = .returned (.int .i64 (endP k d)) ∧ PoolC t w' S vl vn va vc vv (markP k d) ∧ Only S w w' := by
 obtain ⟨A0, c0, A1, c1, A2, c2, A3, c3, A4, c4, rfl, rfl, rfl, rfl, rfl⟩ := h.reads.shape
 obtain ⟨P, Q, R, T, p1, p2, p3, p4, p5, p6, p7, g1, g2, g3, g4⟩ := h
 have hk := k_le hs h0 h1
 have s2 := hs.2.1
 have s3 := hs.2.2.1
 have s4 := hs.2.2.2
 have HB := Lib.hid (bal1 w (.cells #[.slice A0 d.lo.length c0, .slice A1 d.ts.length c1, .slice A2 d.ag.length c2, .slice A3 d.ce.length c3, .slice A4 d.vo.length c4, .int .i64 d.nx] 32))
 have Q0 := Lib.hid (al1 w (.cells #[.slice A0 d.lo.length c0, .slice A1 d.ts.length c1, .slice A2 d.ag.length c2, .slice A3 d.ce.length c3, .slice A4 d.vo.length c4, .int .i64 d.nx] 32))
 have HM := Lib.hid (markTree_any (.slice A0 d.lo.length c0) (.slice A1 d.ts.length c1) P d.lo d.ts k _ (g1.on HB.out) (fun b hb => by have := hS b (p1 b hb); have := HB.out.size; omega) hs.t h0 h1)
 have O2 := Lib.hid (g2.on HB.out)
 have O3 := Lib.hid (g3.on HB.out)
 have O4 := Lib.hid (g4.on HB.out)
 have p56 := Lib.hid p5
 have p66 := Lib.hid p6
 have p76 := Lib.hid p7
 have HSS := Lib.hid hS
 have HP := Lib.hid (And.intro p1 (And.intro p2 (And.intro p3 p4)))
 obtain ⟨ka, hka⟩ : ∃ x, markEnd k d.lo d.ts = x := ⟨_, rfl⟩
 obtain ⟨kc, hkc⟩ : ∃ x, kCe k d = x := ⟨_, rfl⟩
 obtain ⟨kv, hkv⟩ : ∃ x, kVo k d = x := ⟨_, rfl⟩
 obtain ⟨ke, hke⟩ : ∃ x, endP k d = x := ⟨_, rfl⟩
 have hmp : markP k d = ⟨mkI k d.lo, mkT (k + (d.lo.length : Nat)) d.ts, mkL mG sG ka d.ag d.ag.length, mkL mCel sCel kc d.ce d.ce.length, mkL mVol sVol kv d.vo d.vo.length, d.nx⟩ := by unfold markP kAg; rw [hka, hkc, hkv]
 rw [hke, hmp]
 rw [hka] at HM
 have e1 : ka + (d.ag.length * 2 : Nat) = kc := by rw [← hkc, ← hka]; rfl
 have e2 : kc + (d.ce.length * 3 : Nat) = kv := by rw [← hkv, ← hkc]; rfl
 have e3 : kv + (d.vo.length * 4 : Nat) = ke := by rw [← hke, ← hkv]; rfl
 have K1 : 0 ≤ ka ∧ ka ≤ 1125899906842624 := by have := hk.1; have := hk.2.1; unfold kAg at *; omega
 have K2 : 0 ≤ kc ∧ kc ≤ 1125899906842624 := by omega
 have K3 : 0 ≤ kv ∧ kv ≤ 1125899906842624 := by omega
 have E1 := Lib.hid e1
 have E2 := Lib.hid e2
 have E3 := Lib.hid e3
 clear g1 g2 g3 g4 hka hkc hkv hke hmp e1 e2 e3 hk p5 p6 p7 hS p1 p2 p3 p4
 go_enter Tryz.func39, Tryz.ntmps39
 go_upto_region 1 with (fail)
 generalize w.alloc (.cells #[.slice A0 d.lo.length c0, .slice A1 d.ts.length c1, .slice A2 d.ag.length c2, .slice A3 d.ce.length c3, .slice A4 d.vo.length c4, .int .i64 d.nx] 32) = W at *
 obtain ⟨x0, x1, x2, x3, x4, x5, x6⟩ := boxP Q0.out
 go_wp2_with fail
 refine HM.out.mono ?_
 rintro e w1 ⟨rfl, o, g⟩
 clear x0 x1 x2 x3 x4 x5 x6 HM
 replace Q0 := Lib.hid (box_only Q0.out g (fun h => by have := HSS.out _ (HP.out.1 _ h); omega))
 replace O2 := Lib.hid (O2.out.far g (fun b hb _ hb' => (p56.out b hb').1 hb))
 replace O3 := Lib.hid (O3.out.far g (fun b hb _ hb' => (p56.out b hb').2.1 hb))
 replace O4 := Lib.hid (O4.out.far g (fun b hb _ hb' => (p56.out b hb').2.2 hb))
 have O1 := Lib.hid o
 replace HB := Lib.hid ((Only.of_below HB.out S).trans (g.mono HP.out.1))
 clear o g
 have HM := Lib.hid (markAgeS_any _ Q d.ag ka _ O2.out (by omega) K1.1 K1.2)
 obtain ⟨x0, x1, x2, x3, x4, x5, x6⟩ := boxP Q0.out
 go_wp2_with fail
 refine HM.out.mono ?_
 rintro e w2 ⟨rfl, o, g⟩
 clear x0 x1 x2 x3 x4 x5 x6 HM
 rw [E1.out]
 replace Q0 := Lib.hid (box_only Q0.out g (fun h => by have := HSS.out _ (HP.out.2.1 _ h); omega))
 replace O1 := Lib.hid (O1.out.far g (fun b hb _ hb' => (p56.out b hb).1 hb'))
 replace O3 := Lib.hid (O3.out.far g (fun b hb _ hb' => (p66.out b hb').1 hb))
 replace O4 := Lib.hid (O4.out.far g (fun b hb _ hb' => (p66.out b hb').2 hb))
 replace O2 := Lib.hid o
 replace HB := Lib.hid (HB.out.trans (g.mono HP.out.2.1))
 clear o g
 have HM := Lib.hid (markCellS_any _ R d.ce kc _ O3.out (by omega) K2.1 K2.2)
 obtain ⟨x0, x1, x2, x3, x4, x5, x6⟩ := boxP Q0.out
 go_wp2_with fail
 refine HM.out.mono ?_
 rintro e w3 ⟨rfl, o, g⟩
 clear x0 x1 x2 x3 x4 x5 x6 HM
 rw [E2.out]
 replace Q0 := Lib.hid (box_only Q0.out g (fun h => by have := HSS.out _ (HP.out.2.2.1 _ h); omega))
 replace O1 := Lib.hid (O1.out.far g (fun b hb _ hb' => (p56.out b hb).2.1 hb'))
 replace O2 := Lib.hid (O2.out.far g (fun b hb _ hb' => (p66.out b hb).1 hb'))
 replace O4 := Lib.hid (O4.out.far g (fun b hb _ hb' => p76.out b hb' hb))
 replace O3 := Lib.hid o
 replace HB := Lib.hid (HB.out.trans (g.mono HP.out.2.2.1))
 clear o g
 have HM := Lib.hid (markVolS_any _ T d.vo kv _ O4.out (by omega) K3.1 K3.2)
 obtain ⟨x0, x1, x2, x3, x4, x5, x6⟩ := boxP Q0.out
 go_wp2_with fail
 refine HM.out.mono ?_
 rintro e w4 ⟨rfl, o, g⟩
 clear x0 x1 x2 x3 x4 x5 x6 HM
 rw [E3.out]
 replace Q0 := Lib.hid (box_only Q0.out g (fun h => by have := HSS.out _ (HP.out.2.2.2 _ h); omega))
 replace O1 := Lib.hid (O1.out.far g (fun b hb _ hb' => (p56.out b hb).2.2 hb'))
 replace O2 := Lib.hid (O2.out.far g (fun b hb _ hb' => (p66.out b hb).2 hb'))
 replace O3 := Lib.hid (O3.out.far g (fun b hb _ hb' => p76.out b hb hb'))
 replace O4 := Lib.hid o
 replace HB := Lib.hid (HB.out.trans (g.mono HP.out.2.2.2))
 clear o g
 go_wp2
 go_ret
 exact ⟨rfl, ⟨P, Q, R, T, HP.out.1, HP.out.2.1, HP.out.2.2.1, HP.out.2.2.2, p56.out, p66.out, p76.out, O1.out, O2.out, O3.out, O4.out⟩, HB.out⟩
set_option maxHeartbeats 1000000 in
theorem heldPool_any {t : TypeId} (vl vn va vc vv : Value) (d : PoolD) (k : Int) (w : World) (h : RdP t w w.heap.size vl vn va vc vv (markP k d)) (hs : SmallP d) (h0 : 0 ≤ k) (h1 : k ≤ 274877906944) :
  Calls Tryz.prog 40 #[.agg #[vl, vn, va, vc, vv, .int .i64 d.nx], .int .i64 k] w fun e w' => e = .returned (.int .i64 (endP k d)) ∧ Below w.heap.size w w' := by
 obtain ⟨A0, c0, A1, c1, A2, c2, A3, c3, A4, c4, rfl, rfl, rfl, rfl, rfl⟩ := h.shape
 have hk := k_le hs h0 h1
 have s2 := hs.2.1
 have s3 := hs.2.2.1
 have s4 := hs.2.2.2
 have l0 : (markP k d).lo.length = d.lo.length := mkL_length _ _ _ _ _
 have l1 : (markP k d).ts.length = d.ts.length := mkL_length _ _ _ _ _
 have l2 : (markP k d).ag.length = d.ag.length := mkL_length _ _ _ _ _
 have l3 : (markP k d).ce.length = d.ce.length := mkL_length _ _ _ _ _
 have l4 : (markP k d).vo.length = d.vo.length := mkL_length _ _ _ _ _
 rw [l0, l1, l2, l3, l4] at h ⊢
 obtain ⟨ka, hka⟩ : ∃ x, markEnd k d.lo d.ts = x := ⟨_, rfl⟩
 obtain ⟨kc, hkc⟩ : ∃ x, kCe k d = x := ⟨_, rfl⟩
 obtain ⟨kv, hkv⟩ : ∃ x, kVo k d = x := ⟨_, rfl⟩
 obtain ⟨ke, hke⟩ : ∃ x, endP k d = x := ⟨_, rfl⟩
 have hmp : markP k d = ⟨mkI k d.lo, mkT (k + (d.lo.length : Nat)) d.ts, mkL mG sG ka d.ag d.ag.length, mkL mCel sCel kc d.ce d.ce.length, mkL mVol sVol kv d.vo d.vo.length, d.nx⟩ := by unfold markP kAg; rw [hka, hkc, hkv]
 rw [hke]
 rw [hmp] at h
 have e1 : ka + (d.ag.length * 2 : Nat) = kc := by rw [← hkc, ← hka]; rfl
 have e2 : kc + (d.ce.length * 3 : Nat) = kv := by rw [← hkv, ← hkc]; rfl
 have e3 : kv + (d.vo.length * 4 : Nat) = ke := by rw [← hke, ← hkv]; rfl
 have K1 : 0 ≤ ka ∧ ka ≤ 1125899906842624 := by have := hk.1; have := hk.2.1; unfold kAg at *; omega
 have K2 : 0 ≤ kc ∧ kc ≤ 1125899906842624 := by omega
 have K3 : 0 ≤ kv ∧ kv ≤ 1125899906842624 := by omega
 have HT := Lib.hid (fun W b => heldTree_any (.slice A0 d.lo.length c0) (.slice A1 d.ts.length c1) d.lo d.ts k W (h.1.on b) hs.t h0 h1)
 have HA := Lib.hid (fun W b => heldAgeS_any (.slice A2 d.ag.length c2) d.ag ka W (h.2.1.on b) (by omega) K1.1 K1.2)
 have HC := Lib.hid (fun W b => heldCellS_any (.slice A3 d.ce.length c3) d.ce kc W (h.2.2.1.on b) (by omega) K2.1 K2.2)
 have HV := Lib.hid (fun W b => heldVolS_any (.slice A4 d.vo.length c4) d.vo kv W (h.2.2.2.on b) (by omega) K3.1 K3.2)
 rw [hka] at HT
 rw [e1] at HA
 rw [e2] at HC
 rw [e3] at HV
 have d1 : decide (ka < 0) = false := decide_eq_false (by omega)
 have d2 : decide (kc < 0) = false := decide_eq_false (by omega)
 have d3 : decide (kv < 0) = false := decide_eq_false (by omega)
 have d4 : decide (ke < 0) = false := decide_eq_false (by omega)
 have HB := Lib.hid (bal1 w (.cells #[.slice A0 d.lo.length c0, .slice A1 d.ts.length c1, .slice A2 d.ag.length c2, .slice A3 d.ce.length c3, .slice A4 d.vo.length c4, .int .i64 d.nx] 32))
 have Q0 := Lib.hid (al1 w (.cells #[.slice A0 d.lo.length c0, .slice A1 d.ts.length c1, .slice A2 d.ag.length c2, .slice A3 d.ce.length c3, .slice A4 d.vo.length c4, .int .i64 d.nx] 32))
 clear h hs hk s2 s3 s4 l0 l1 l2 l3 l4 hka hkc hkv hke hmp e1 e2 e3 K1 K2 K3
 go_enter Tryz.func40, Tryz.ntmps40
 go_upto_region 1 with (fail)
 generalize w.alloc (.cells #[.slice A0 d.lo.length c0, .slice A1 d.ts.length c1, .slice A2 d.ag.length c2, .slice A3 d.ce.length c3, .slice A4 d.vo.length c4, .int .i64 d.nx] 32) = W at *
 obtain ⟨x0, x1, x2, x3, x4, x5, x6⟩ := boxP Q0.out
 go_wp2_with fail
 refine (HT.out _ HB.out).mono ?_
 rintro e w1 ⟨rfl, b1⟩
 clear x0 x1 x2 x3 x4 x5 x6
 replace HB := Lib.hid (bstep HB.out b1)
 replace Q0 := Lib.hid (box_on Q0.out b1)
 obtain ⟨x0, x1, x2, x3, x4, x5, x6⟩ := boxP Q0.out
 clear b1
 go_wp2_with fail
 refine (HA.out _ HB.out).mono ?_
 rintro e w1 ⟨rfl, rfl⟩
 go_wp2_with fail
 refine (HC.out _ HB.out).mono ?_
 rintro e w1 ⟨rfl, rfl⟩
 go_wp2_with fail
 refine (HV.out _ HB.out).mono ?_
 rintro e w1 ⟨rfl, b1⟩
 clear x0 x1 x2 x3 x4 x5 x6
 replace HB := Lib.hid (bstep HB.out b1)
 replace Q0 := Lib.hid (box_on Q0.out b1)
 obtain ⟨x0, x1, x2, x3, x4, x5, x6⟩ := boxP Q0.out
 clear b1
 go_wp2
 go_ret
 exact ⟨rfl, HB.out⟩
end Go.Proofs.YtlhemcjahcmdeaaGreatDoor
namespace Go.Proofs.YtlhemcjahcmdeaaGreatDoor
open Go.RowKit
set_option maxRecDepth 100000
set_option linter.unusedSimpArgs false
set_option linter.unusedVariables false

set_option maxHeartbeats 4000000 in
theorem exactSnap_walk (v : Value) (d : PoolD) (s : ByteArray) (u : ByteArray) (f : Bool) (w : World) (hv : PoolIs w v d) (hzs : s.size ≤ maxLen) (hzu : u.size ≤ maxLen) (hg : ErrT w) : Calls Tryz.prog 6 #[v, .string s, .string u, .bool f] w fun e w' => e = .returned (.bool true) ∧ Below w.heap.size w w' := by
 obtain ⟨vl, vn, va, vc, vv, rfl, hA, hnm, _⟩ := hv
 obtain ⟨N0, Nc0, N1, Nc1, N2, Nc2, N3, Nc3, N4, Nc4, rfl, rfl, rfl, rfl, rfl⟩ := hA.shape
 have HT := Lib.hid (fun (hs : SmallP d) W b => toPool_any (.slice N0 d.lo.length Nc0) (.slice N1 d.ts.length Nc1) (.slice N2 d.ag.length Nc2) (.slice N3 d.ce.length Nc3) (.slice N4 d.vo.length Nc4) d W (hA.on b) hs)
 have HZ := Lib.hid (fun W b => szPool_any (.slice N0 d.lo.length Nc0) (.slice N1 d.ts.length Nc1) (.slice N2 d.ag.length Nc2) (.slice N3 d.ce.length Nc3) (.slice N4 d.vo.length Nc4) d W (hA.on b) hnm)
 have HSP := Lib.hid (fun (hs : SmallP d) (t : TypeId) (vl vn va vc vv : Value) (W : World) (h : RdP t W W.heap.size vl vn va vc vv d) => specSnap_any vl vn va vc vv d s u f W h hs hnm hzs hzu)
 have HIM := Lib.hid (fun (hs : SmallP d) (t : TypeId) (vl vn va vc vv : Value) (W : World) (b : Below w.heap.size w W) (h : RdP t W W.heap.size vl vn va vc vv d) => implSnap_any vl vn va vc vv d s u f W h hs hnm hzs hzu (hg.on b hg.size))
 have HSY := Lib.hid (fun (hs : SmallP d) => changeK_small (s := s) (f := snapD s u f) hs)
 obtain ⟨y, c, hyc⟩ : ∃ y c, changeK d s (snapD s u f) = (y, c) := ⟨_, _, rfl⟩
 rw [hyc] at HSP HIM HSY
 have hcc : (c != c) = false := by simp
 have BB := Lib.hid (bal1 w (.cells #[.slice N0 d.lo.length Nc0, .slice N1 d.ts.length Nc1, .slice N2 d.ag.length Nc2, .slice N3 d.ce.length Nc3, .slice N4 d.vo.length Nc4, .int .i64 d.nx] 63))
 have QN := Lib.hid (al1 w (.cells #[.slice N0 d.lo.length Nc0, .slice N1 d.ts.length Nc1, .slice N2 d.ag.length Nc2, .slice N3 d.ce.length Nc3, .slice N4 d.vo.length Nc4, .int .i64 d.nx] 63))
 have hWz : Hid ((w.alloc (.cells #[.slice N0 d.lo.length Nc0, .slice N1 d.ts.length Nc1, .slice N2 d.ag.length Nc2, .slice N3 d.ce.length Nc3, .slice N4 d.vo.length Nc4, .int .i64 d.nx] 63)).heap.size = w.heap.size + 1) := Lib.hid (by simp)
 clear hA hnm hg hyc hzs hzu
 by_cases hsz : s.size ≤ 1048576
 ·by_cases hszu : u.size ≤ 1048576
  ·have hsz2 : decide ((s.size : Int) > 1048576) = false := decide_eq_false (by omega)
   have hsz3 : decide ((u.size : Int) > 1048576) = false := decide_eq_false (by omega)
   go_enter Tryz.func6, Tryz.ntmps6
   go_upto_region 1 with (fail)
   generalize w.alloc (.cells #[.slice N0 d.lo.length Nc0, .slice N1 d.ts.length Nc1, .slice N2 d.ag.length Nc2, .slice N3 d.ce.length Nc3, .slice N4 d.vo.length Nc4, .int .i64 d.nx] 63) = W at *
   have hWz1 := Nat.le_of_eq hWz.out
   have hWz2 := Nat.le_of_eq hWz.out.symm
   clear hWz
   obtain ⟨Nx0, Nx1, Nx2, Nx3, Nx4, Nx5, Nx6⟩ := boxP QN.out
   go_wp2_with fail
   refine (HZ.out _ BB.out).mono ?_
   clear Nx0 Nx1 Nx2 Nx3 Nx4 Nx5 Nx6
   rintro r w0 ⟨⟨q, rfl, q0, hs⟩ | rfl, b⟩
   ·replace QN := Lib.hid (box_on QN.out b)
    replace BB := Lib.hid (bstep BB.out b)
    have z0 := b.size
    have d0 : decide (q < 0) = false := decide_eq_false (by omega)
    have HS := Lib.hid hs
    have HY := Lib.hid (HSY.out hs)
    clear b hs HSY HZ
    obtain ⟨Nx0, Nx1, Nx2, Nx3, Nx4, Nx5, Nx6⟩ := boxP QN.out
    go_wp2_with fail
    refine (HT.out HS.out _ BB.out).mono ?_
    clear Nx0 Nx1 Nx2 Nx3 Nx4 Nx5 Nx6
    rintro r w1 ⟨vlT, vnT, vaT, vcT, vvT, rfl, o, b⟩
    have zT := b.size
    replace QN := Lib.hid (box_on QN.out b)
    replace BB := Lib.hid (bstep BB.out b)
    have OT := Lib.hid o.lt
    clear o b
    obtain ⟨T0, Tc0, T1, Tc1, T2, Tc2, T3, Tc3, T4, Tc4, rfl, rfl, rfl, rfl, rfl⟩ := OT.out.reads.shape
    clear d0
    go_wp2_with fail
    refine (HSP.out HS.out _ _ _ _ _ _ _ OT.out.reads).mono ?_
    rintro r w2 ⟨tS, vlS, vnS, vaS, vcS, vvS, rfl, o, b⟩
    have zS := b.size
    replace OT := Lib.hid (OT.out.on b)
    replace QN := Lib.hid (box_on QN.out b)
    replace BB := Lib.hid (bstep BB.out b)
    have OS := Lib.hid o.lt
    clear o b
    obtain ⟨S0, Sc0, S1, Sc1, S2, Sc2, S3, Sc3, S4, Sc4, rfl, rfl, rfl, rfl, rfl⟩ := OS.out.reads.shape
    clear OT
    have ba := bal1 w2 (.cells #[.slice S0 y.lo.length Sc0, .slice S1 y.ts.length Sc1, .slice S2 y.ag.length Sc2, .slice S3 y.ce.length Sc3, .slice S4 y.vo.length Sc4, .int .i64 y.nx] 32)
    have QS := Lib.hid (al1 w2 (.cells #[.slice S0 y.lo.length Sc0, .slice S1 y.ts.length Sc1, .slice S2 y.ag.length Sc2, .slice S3 y.ce.length Sc3, .slice S4 y.vo.length Sc4, .int .i64 y.nx] 32))
    have hzS : (w2.alloc (.cells #[.slice S0 y.lo.length Sc0, .slice S1 y.ts.length Sc1, .slice S2 y.ag.length Sc2, .slice S3 y.ce.length Sc3, .slice S4 y.vo.length Sc4, .int .i64 y.nx] 32)).heap.size = w2.heap.size + 1 := by simp
    replace OS := Lib.hid (OS.out.on ba)
    replace QN := Lib.hid (box_on QN.out ba)
    replace BB := Lib.hid (bstep BB.out ba)
    clear ba
    have yS := Lib.hid hzS
    clear hzS
    go_upto_region 10 with (fail)
    generalize w2.alloc (.cells #[.slice S0 y.lo.length Sc0, .slice S1 y.ts.length Sc1, .slice S2 y.ag.length Sc2, .slice S3 y.ce.length Sc3, .slice S4 y.vo.length Sc4, .int .i64 y.nx] 32) = w3 at *
    have xS := Nat.le_of_eq yS.out
    have uS := Nat.le_of_eq yS.out.symm
    clear yS
    obtain ⟨Nx0, Nx1, Nx2, Nx3, Nx4, Nx5, Nx6⟩ := boxP QN.out
    go_wp2_with fail
    refine (HT.out HS.out _ BB.out).mono ?_
    clear Nx0 Nx1 Nx2 Nx3 Nx4 Nx5 Nx6
    rintro r w4 ⟨vlX, vnX, vaX, vcX, vvX, rfl, o, b⟩
    have zX := b.size
    replace OS := Lib.hid (OS.out.on b)
    replace QN := Lib.hid (box_on QN.out b)
    replace QS := Lib.hid (box_on QS.out b)
    replace BB := Lib.hid (bstep BB.out b)
    have OX := Lib.hid o.lt
    clear o b
    obtain ⟨X0, Xc0, X1, Xc1, X2, Xc2, X3, Xc3, X4, Xc4, rfl, rfl, rfl, rfl, rfl⟩ := OX.out.reads.shape
    have ba := bal1 w4 (.cells #[.slice X0 d.lo.length Xc0, .slice X1 d.ts.length Xc1, .slice X2 d.ag.length Xc2, .slice X3 d.ce.length Xc3, .slice X4 d.vo.length Xc4, .int .i64 d.nx] 32)
    have QX := Lib.hid (al1 w4 (.cells #[.slice X0 d.lo.length Xc0, .slice X1 d.ts.length Xc1, .slice X2 d.ag.length Xc2, .slice X3 d.ce.length Xc3, .slice X4 d.vo.length Xc4, .int .i64 d.nx] 32))
    have hzX : (w4.alloc (.cells #[.slice X0 d.lo.length Xc0, .slice X1 d.ts.length Xc1, .slice X2 d.ag.length Xc2, .slice X3 d.ce.length Xc3, .slice X4 d.vo.length Xc4, .int .i64 d.nx] 32)).heap.size = w4.heap.size + 1 := by simp
    replace OS := Lib.hid (OS.out.on ba)
    replace OX := Lib.hid (OX.out.on ba)
    replace QN := Lib.hid (box_on QN.out ba)
    replace QS := Lib.hid (box_on QS.out ba)
    replace BB := Lib.hid (bstep BB.out ba)
    clear ba
    have yX := Lib.hid hzX
    clear hzX
    go_upto_region 11 with (fail)
    generalize w4.alloc (.cells #[.slice X0 d.lo.length Xc0, .slice X1 d.ts.length Xc1, .slice X2 d.ag.length Xc2, .slice X3 d.ce.length Xc3, .slice X4 d.vo.length Xc4, .int .i64 d.nx] 32) = w5 at *
    have xX := Nat.le_of_eq yX.out
    have uX := Nat.le_of_eq yX.out.symm
    clear yX
    obtain ⟨Xx0, Xx1, Xx2, Xx3, Xx4, Xx5, Xx6⟩ := boxP QX.out
    go_wp2_with fail
    refine (HIM.out HS.out _ _ _ _ _ _ _ BB.out OX.out.reads).mono ?_
    clear Xx0 Xx1 Xx2 Xx3 Xx4 Xx5 Xx6
    rintro r w6 ⟨tG, vlG, vnG, vaG, vcG, vvG, rfl, o, b⟩
    have zG := b.size
    replace OS := Lib.hid (OS.out.on b)
    replace OX := Lib.hid (OX.out.on b)
    replace QN := Lib.hid (box_on QN.out b)
    replace QS := Lib.hid (box_on QS.out b)
    replace QX := Lib.hid (box_on QX.out b)
    replace BB := Lib.hid (bstep BB.out b)
    have OG := Lib.hid o.lt
    clear o b
    obtain ⟨G0, Gc0, G1, Gc1, G2, Gc2, G3, Gc3, G4, Gc4, rfl, rfl, rfl, rfl, rfl⟩ := OG.out.reads.shape
    have ba := bal1 w6 (.cells #[.slice G0 y.lo.length Gc0, .slice G1 y.ts.length Gc1, .slice G2 y.ag.length Gc2, .slice G3 y.ce.length Gc3, .slice G4 y.vo.length Gc4, .int .i64 y.nx] 32)
    have QG := Lib.hid (al1 w6 (.cells #[.slice G0 y.lo.length Gc0, .slice G1 y.ts.length Gc1, .slice G2 y.ag.length Gc2, .slice G3 y.ce.length Gc3, .slice G4 y.vo.length Gc4, .int .i64 y.nx] 32))
    have hzG : (w6.alloc (.cells #[.slice G0 y.lo.length Gc0, .slice G1 y.ts.length Gc1, .slice G2 y.ag.length Gc2, .slice G3 y.ce.length Gc3, .slice G4 y.vo.length Gc4, .int .i64 y.nx] 32)).heap.size = w6.heap.size + 1 := by simp
    replace OS := Lib.hid (OS.out.on ba)
    replace OX := Lib.hid (OX.out.on ba)
    replace OG := Lib.hid (OG.out.on ba)
    replace QN := Lib.hid (box_on QN.out ba)
    replace QS := Lib.hid (box_on QS.out ba)
    replace QX := Lib.hid (box_on QX.out ba)
    replace BB := Lib.hid (bstep BB.out ba)
    clear ba
    have yG := Lib.hid hzG
    clear hzG
    go_upto_region 12 with (fail)
    generalize w6.alloc (.cells #[.slice G0 y.lo.length Gc0, .slice G1 y.ts.length Gc1, .slice G2 y.ag.length Gc2, .slice G3 y.ce.length Gc3, .slice G4 y.vo.length Gc4, .int .i64 y.nx] 32) = w7 at *
    have xG := Nat.le_of_eq yG.out
    have uG := Nat.le_of_eq yG.out.symm
    clear yG
    obtain ⟨Gx0, Gx1, Gx2, Gx3, Gx4, Gx5, Gx6⟩ := boxP QG.out
    obtain ⟨Sx0, Sx1, Sx2, Sx3, Sx4, Sx5, Sx6⟩ := boxP QS.out
    go_wp2_with fail
    refine (eqPool_same _ _ _ _ _ _ _ _ _ _ y _ OG.out.reads OS.out.reads HY.out).mono ?_
    clear Gx0 Gx1 Gx2 Gx3 Gx4 Gx5 Gx6 Sx0 Sx1 Sx2 Sx3 Sx4 Sx5 Sx6
    rintro r w8 ⟨rfl, b⟩
    have z8 := b.size
    replace OS := Lib.hid (OS.out.on b)
    replace OX := Lib.hid (OX.out.on b)
    replace OG := Lib.hid (OG.out.on b)
    replace QN := Lib.hid (box_on QN.out b)
    replace QS := Lib.hid (box_on QS.out b)
    replace QX := Lib.hid (box_on QX.out b)
    replace QG := Lib.hid (box_on QG.out b)
    replace BB := Lib.hid (bstep BB.out b)
    clear b
    obtain ⟨Nx0, Nx1, Nx2, Nx3, Nx4, Nx5, Nx6⟩ := boxP QN.out
    obtain ⟨Xx0, Xx1, Xx2, Xx3, Xx4, Xx5, Xx6⟩ := boxP QX.out
    go_upto_region 14 with (fail)
    go_region_held3 (fun V => V.cell? ⟨w.heap.size, 0, none⟩ = some (.slice N0 d.lo.length Nc0) ∧ V.cell? ⟨w.heap.size, 1, none⟩ = some (.slice N1 d.ts.length Nc1) ∧ V.cell? ⟨w.heap.size, 2, none⟩ = some (.slice N2 d.ag.length Nc2) ∧ V.cell? ⟨w.heap.size, 3, none⟩ = some (.slice N3 d.ce.length Nc3) ∧ V.cell? ⟨w.heap.size, 4, none⟩ = some (.slice N4 d.vo.length Nc4) ∧ V.cell? ⟨w.heap.size, 5, none⟩ = some (.int .i64 d.nx) ∧ V.cell? ⟨w4.heap.size, 0, none⟩ = some (.slice X0 d.lo.length Xc0) ∧ V.cell? ⟨w4.heap.size, 1, none⟩ = some (.slice X1 d.ts.length Xc1) ∧ V.cell? ⟨w4.heap.size, 2, none⟩ = some (.slice X2 d.ag.length Xc2) ∧ V.cell? ⟨w4.heap.size, 3, none⟩ = some (.slice X3 d.ce.length Xc3) ∧ V.cell? ⟨w4.heap.size, 4, none⟩ = some (.slice X4 d.vo.length Xc4) ∧ V.cell? ⟨w4.heap.size, 5, none⟩ = some (.int .i64 d.nx))
     (first | with_reducible exact ⟨(boxP (box_on QN.out (bstep (bstep (Below.drew1 _) b1p) b2p))).1, (boxP (box_on QN.out (bstep (bstep (Below.drew1 _) b1p) b2p))).2.1, (boxP (box_on QN.out (bstep (bstep (Below.drew1 _) b1p) b2p))).2.2.1, (boxP (box_on QN.out (bstep (bstep (Below.drew1 _) b1p) b2p))).2.2.2.1, (boxP (box_on QN.out (bstep (bstep (Below.drew1 _) b1p) b2p))).2.2.2.2.1, (boxP (box_on QN.out (bstep (bstep (Below.drew1 _) b1p) b2p))).2.2.2.2.2.1, (boxP (box_on QX.out (bstep (bstep (Below.drew1 _) b1p) b2p))).1, (boxP (box_on QX.out (bstep (bstep (Below.drew1 _) b1p) b2p))).2.1, (boxP (box_on QX.out (bstep (bstep (Below.drew1 _) b1p) b2p))).2.2.1, (boxP (box_on QX.out (bstep (bstep (Below.drew1 _) b1p) b2p))).2.2.2.1, (boxP (box_on QX.out (bstep (bstep (Below.drew1 _) b1p) b2p))).2.2.2.2.1, (boxP (box_on QX.out (bstep (bstep (Below.drew1 _) b1p) b2p))).2.2.2.2.2.1⟩ | with_reducible exact ⟨(boxP (box_on QN.out (bstep (Below.drew1 _) b1p))).1, (boxP (box_on QN.out (bstep (Below.drew1 _) b1p))).2.1, (boxP (box_on QN.out (bstep (Below.drew1 _) b1p))).2.2.1, (boxP (box_on QN.out (bstep (Below.drew1 _) b1p))).2.2.2.1, (boxP (box_on QN.out (bstep (Below.drew1 _) b1p))).2.2.2.2.1, (boxP (box_on QN.out (bstep (Below.drew1 _) b1p))).2.2.2.2.2.1, (boxP (box_on QX.out (bstep (Below.drew1 _) b1p))).1, (boxP (box_on QX.out (bstep (Below.drew1 _) b1p))).2.1, (boxP (box_on QX.out (bstep (Below.drew1 _) b1p))).2.2.1, (boxP (box_on QX.out (bstep (Below.drew1 _) b1p))).2.2.2.1, (boxP (box_on QX.out (bstep (Below.drew1 _) b1p))).2.2.2.2.1, (boxP (box_on QX.out (bstep (Below.drew1 _) b1p))).2.2.2.2.2.1⟩ | with_reducible exact ⟨(boxP (box_on QN.out (Below.drew1 _))).1, (boxP (box_on QN.out (Below.drew1 _))).2.1, (boxP (box_on QN.out (Below.drew1 _))).2.2.1, (boxP (box_on QN.out (Below.drew1 _))).2.2.2.1, (boxP (box_on QN.out (Below.drew1 _))).2.2.2.2.1, (boxP (box_on QN.out (Below.drew1 _))).2.2.2.2.2.1, (boxP (box_on QX.out (Below.drew1 _))).1, (boxP (box_on QX.out (Below.drew1 _))).2.1, (boxP (box_on QX.out (Below.drew1 _))).2.2.1, (boxP (box_on QX.out (Below.drew1 _))).2.2.2.1, (boxP (box_on QX.out (Below.drew1 _))).2.2.2.2.1, (boxP (box_on QX.out (Below.drew1 _))).2.2.2.2.2.1⟩ | exact ⟨Nx0, Nx1, Nx2, Nx3, Nx4, Nx5, Xx0, Xx1, Xx2, Xx3, Xx4, Xx5⟩ | fail)
     (first
      |(go_at_call 38; refine (eqPool_same _ _ _ _ _ _ _ _ _ _ d _ (OX.out.on (bstep (Below.drew1 _) b1p)).reads oop.reads HS.out).mono ?_; rintro r u2p ⟨rfl, b2p⟩)
      |(go_at_call 37; refine (HT.out HS.out _ (bstep BB.out (Below.drew1 _))).mono ?_; rintro r u1p ⟨pl, pn, pa, pc, pw, rfl, oop, b1p⟩; obtain ⟨Y0, Yc0, Y1, Yc1, Y2, Yc2, Y3, Yc3, Y4, Yc4, rfl, rfl, rfl, rfl, rfl⟩ := oop.reads.shape)
      |fail)
    clear Nx0 Nx1 Nx2 Nx3 Nx4 Nx5 Nx6 Xx0 Xx1 Xx2 Xx3 Xx4 Xx5 Xx6
    have b := bstep (bstep (Below.drew1 _) b1p) b2p
    have zq := b.size
    replace OS := Lib.hid (OS.out.on b)
    replace OX := Lib.hid (OX.out.on b)
    replace OG := Lib.hid (OG.out.on b)
    replace QN := Lib.hid (box_on QN.out b)
    replace QS := Lib.hid (box_on QS.out b)
    replace QX := Lib.hid (box_on QX.out b)
    replace QG := Lib.hid (box_on QG.out b)
    replace BB := Lib.hid (bstep BB.out b)
    clear b b1p b2p oop
    obtain ⟨Xx0, Xx1, Xx2, Xx3, Xx4, Xx5, Xx6⟩ := boxP QX.out
    go_wp2_with fail
    refine (markPool_any _ _ _ _ _ _ d 1 _ OX.out (fun b hb => by omega) HS.out (by omega) (by omega)).mono ?_
    clear Xx0 Xx1 Xx2 Xx3 Xx4 Xx5 Xx6
    rintro r w9 ⟨rfl, o, g⟩
    have z9 := g.size
    replace OS := Lib.hid (OS.out.far g (fun b hb _ hb' => by omega))
    replace OG := Lib.hid (OG.out.far g (fun b hb _ hb' => by omega))
    replace QN := Lib.hid (box_only QN.out g (fun hb => by omega))
    replace QS := Lib.hid (box_only QS.out g (fun hb => by omega))
    replace QX := Lib.hid (box_only QX.out g (fun hb => by omega))
    replace QG := Lib.hid (box_only QG.out g (fun hb => by omega))
    replace BB := Lib.hid (BB.out.trans (g.below BB.out.size (fun b hb => by omega)))
    replace OX := Lib.hid o
    clear o g
    have hmk := k_le HS.out (k := 1) (by omega) (by omega)
    obtain ⟨mk, hqk⟩ : ∃ m, endP 1 d = m := ⟨_, rfl⟩
    rw [hqk] at hmk
    rw [hqk]
    have ek : decide (mk < 0) = false := decide_eq_false (by omega)
    have fk : (mk != mk) = false := by simp
    have HQk := Lib.hid hqk
    clear hqk hmk
    obtain ⟨Gx0, Gx1, Gx2, Gx3, Gx4, Gx5, Gx6⟩ := boxP QG.out
    obtain ⟨Sx0, Sx1, Sx2, Sx3, Sx4, Sx5, Sx6⟩ := boxP QS.out
    go_wp2_with fail
    refine (eqPool_same _ _ _ _ _ _ _ _ _ _ y _ OG.out.reads OS.out.reads HY.out).mono ?_
    clear Gx0 Gx1 Gx2 Gx3 Gx4 Gx5 Gx6 Sx0 Sx1 Sx2 Sx3 Sx4 Sx5 Sx6
    rintro r w10 ⟨rfl, b⟩
    have z10 := b.size
    replace OS := Lib.hid (OS.out.on b)
    replace OX := Lib.hid (OX.out.on b)
    replace OG := Lib.hid (OG.out.on b)
    replace QN := Lib.hid (box_on QN.out b)
    replace QS := Lib.hid (box_on QS.out b)
    replace QX := Lib.hid (box_on QX.out b)
    replace QG := Lib.hid (box_on QG.out b)
    replace BB := Lib.hid (bstep BB.out b)
    clear b
    obtain ⟨Gx0, Gx1, Gx2, Gx3, Gx4, Gx5, Gx6⟩ := boxP QG.out
    go_wp2_with fail
    refine (markPool_any _ _ _ _ _ _ y 1 _ OG.out (fun b hb => by omega) HY.out (by omega) (by omega)).mono ?_
    clear Gx0 Gx1 Gx2 Gx3 Gx4 Gx5 Gx6
    rintro r w11 ⟨rfl, o, g⟩
    have z11 := g.size
    replace OS := Lib.hid (OS.out.far g (fun b hb _ hb' => by omega))
    replace OX := Lib.hid (OX.out.far g (fun b hb _ hb' => by omega))
    replace QN := Lib.hid (box_only QN.out g (fun hb => by omega))
    replace QS := Lib.hid (box_only QS.out g (fun hb => by omega))
    replace QX := Lib.hid (box_only QX.out g (fun hb => by omega))
    replace QG := Lib.hid (box_only QG.out g (fun hb => by omega))
    replace BB := Lib.hid (BB.out.trans (g.below BB.out.size (fun b hb => by omega)))
    replace OG := Lib.hid o
    clear o g
    have hmm := k_le HY.out (k := 1) (by omega) (by omega)
    obtain ⟨mm, hqm⟩ : ∃ m, endP 1 y = m := ⟨_, rfl⟩
    rw [hqm] at hmm
    rw [hqm]
    have em : decide (mm < 0) = false := decide_eq_false (by omega)
    have fm : (mm != mm) = false := by simp
    have HQm := Lib.hid hqm
    clear hqm hmm
    obtain ⟨Gx0, Gx1, Gx2, Gx3, Gx4, Gx5, Gx6⟩ := boxP QG.out
    go_wp2_with fail
    refine (heldPool_any _ _ _ _ _ y 1 _ OG.out.reads HY.out (by omega) (by omega)).mono ?_
    clear Gx0 Gx1 Gx2 Gx3 Gx4 Gx5 Gx6
    rintro r w12 ⟨rfl, b⟩
    have z12 := b.size
    replace OS := Lib.hid (OS.out.on b)
    replace OX := Lib.hid (OX.out.on b)
    replace OG := Lib.hid (OG.out.on b)
    replace QN := Lib.hid (box_on QN.out b)
    replace QS := Lib.hid (box_on QS.out b)
    replace QX := Lib.hid (box_on QX.out b)
    replace QG := Lib.hid (box_on QG.out b)
    replace BB := Lib.hid (bstep BB.out b)
    clear b
    rw [HQm.out]
    clear OX
    clear QX
    obtain ⟨Nx0, Nx1, Nx2, Nx3, Nx4, Nx5, Nx6⟩ := boxP QN.out
    go_wp2_with fail
    refine (HT.out HS.out _ BB.out).mono ?_
    clear Nx0 Nx1 Nx2 Nx3 Nx4 Nx5 Nx6
    rintro r w13 ⟨vlZ, vnZ, vaZ, vcZ, vvZ, rfl, o, b⟩
    have zZ := b.size
    replace OS := Lib.hid (OS.out.on b)
    replace OG := Lib.hid (OG.out.on b)
    replace QN := Lib.hid (box_on QN.out b)
    replace QS := Lib.hid (box_on QS.out b)
    replace QG := Lib.hid (box_on QG.out b)
    replace BB := Lib.hid (bstep BB.out b)
    have OZ := Lib.hid o.lt
    clear o b
    obtain ⟨Z0, Zc0, Z1, Zc1, Z2, Zc2, Z3, Zc3, Z4, Zc4, rfl, rfl, rfl, rfl, rfl⟩ := OZ.out.reads.shape
    go_wp2_with fail
    refine (HIM.out HS.out _ _ _ _ _ _ _ BB.out OZ.out.reads).mono ?_
    rintro r w14 ⟨tH, vlH, vnH, vaH, vcH, vvH, rfl, o, b⟩
    have zH := b.size
    replace OS := Lib.hid (OS.out.on b)
    replace OG := Lib.hid (OG.out.on b)
    replace OZ := Lib.hid (OZ.out.on b)
    replace QN := Lib.hid (box_on QN.out b)
    replace QS := Lib.hid (box_on QS.out b)
    replace QG := Lib.hid (box_on QG.out b)
    replace BB := Lib.hid (bstep BB.out b)
    have OH := Lib.hid o.lt
    clear o b
    obtain ⟨H0, Hc0, H1, Hc1, H2, Hc2, H3, Hc3, H4, Hc4, rfl, rfl, rfl, rfl, rfl⟩ := OH.out.reads.shape
    clear OZ
    have ba := bal1 w14 (.cells #[.slice H0 y.lo.length Hc0, .slice H1 y.ts.length Hc1, .slice H2 y.ag.length Hc2, .slice H3 y.ce.length Hc3, .slice H4 y.vo.length Hc4, .int .i64 y.nx] 32)
    have QH := Lib.hid (al1 w14 (.cells #[.slice H0 y.lo.length Hc0, .slice H1 y.ts.length Hc1, .slice H2 y.ag.length Hc2, .slice H3 y.ce.length Hc3, .slice H4 y.vo.length Hc4, .int .i64 y.nx] 32))
    have hzH : (w14.alloc (.cells #[.slice H0 y.lo.length Hc0, .slice H1 y.ts.length Hc1, .slice H2 y.ag.length Hc2, .slice H3 y.ce.length Hc3, .slice H4 y.vo.length Hc4, .int .i64 y.nx] 32)).heap.size = w14.heap.size + 1 := by simp
    replace OS := Lib.hid (OS.out.on ba)
    replace OG := Lib.hid (OG.out.on ba)
    replace OH := Lib.hid (OH.out.on ba)
    replace QN := Lib.hid (box_on QN.out ba)
    replace QS := Lib.hid (box_on QS.out ba)
    replace QG := Lib.hid (box_on QG.out ba)
    replace BB := Lib.hid (bstep BB.out ba)
    clear ba
    have yH := Lib.hid hzH
    clear hzH
    go_upto_region 29 with (fail)
    generalize w14.alloc (.cells #[.slice H0 y.lo.length Hc0, .slice H1 y.ts.length Hc1, .slice H2 y.ag.length Hc2, .slice H3 y.ce.length Hc3, .slice H4 y.vo.length Hc4, .int .i64 y.nx] 32) = w15 at *
    have xH := Nat.le_of_eq yH.out
    have uH := Nat.le_of_eq yH.out.symm
    clear yH
    obtain ⟨Hx0, Hx1, Hx2, Hx3, Hx4, Hx5, Hx6⟩ := boxP QH.out
    obtain ⟨Sx0, Sx1, Sx2, Sx3, Sx4, Sx5, Sx6⟩ := boxP QS.out
    go_wp2_with fail
    refine (eqPool_same _ _ _ _ _ _ _ _ _ _ y _ OH.out.reads OS.out.reads HY.out).mono ?_
    clear Hx0 Hx1 Hx2 Hx3 Hx4 Hx5 Hx6 Sx0 Sx1 Sx2 Sx3 Sx4 Sx5 Sx6
    rintro r w16 ⟨rfl, b⟩
    have z16 := b.size
    replace OS := Lib.hid (OS.out.on b)
    replace OG := Lib.hid (OG.out.on b)
    replace OH := Lib.hid (OH.out.on b)
    replace QN := Lib.hid (box_on QN.out b)
    replace QS := Lib.hid (box_on QS.out b)
    replace QG := Lib.hid (box_on QG.out b)
    replace QH := Lib.hid (box_on QH.out b)
    replace BB := Lib.hid (bstep BB.out b)
    clear b
    obtain ⟨Gx0, Gx1, Gx2, Gx3, Gx4, Gx5, Gx6⟩ := boxP QG.out
    go_wp2_with fail
    refine (heldPool_any _ _ _ _ _ y 1 _ OG.out.reads HY.out (by omega) (by omega)).mono ?_
    clear Gx0 Gx1 Gx2 Gx3 Gx4 Gx5 Gx6
    rintro r w17 ⟨rfl, b⟩
    have z17 := b.size
    replace OS := Lib.hid (OS.out.on b)
    replace OG := Lib.hid (OG.out.on b)
    replace OH := Lib.hid (OH.out.on b)
    replace QN := Lib.hid (box_on QN.out b)
    replace QS := Lib.hid (box_on QS.out b)
    replace QG := Lib.hid (box_on QG.out b)
    replace QH := Lib.hid (box_on QH.out b)
    replace BB := Lib.hid (bstep BB.out b)
    clear b
    rw [HQm.out]
    go_wp2
    go_ret
    exact ⟨rfl, BB.out⟩
   ·have B1 := Lib.hid (bstep BB.out b)
    clear b
    go_wp2
    go_ret
    exact ⟨rfl, B1.out⟩
  ·have hsz2 : decide ((s.size : Int) > 1048576) = false := decide_eq_false (by omega)
   have hsz3 : decide ((u.size : Int) > 1048576) = true := decide_eq_true (by omega)
   clear QN HT HZ hWz HSP HIM HSY
   go_enter Tryz.func6, Tryz.ntmps6
   go_wp2
   go_ret
   exact ⟨rfl, BB.out⟩
 ·have hsz2 : decide ((s.size : Int) > 1048576) = true := decide_eq_true (by omega)
  clear QN HT HZ hWz HSP HIM HSY
  go_enter Tryz.func6, Tryz.ntmps6
  go_wp2
  go_ret
  exact ⟨rfl, BB.out⟩
end Go.Proofs.YtlhemcjahcmdeaaGreatDoor
