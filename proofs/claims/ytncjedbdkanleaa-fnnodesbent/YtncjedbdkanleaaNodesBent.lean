/- The walk of FnNodesBent: at every code the call returns true and writes nothing that was there. No condition. -/
import Derived.Test.YtncjedbdkanleaaDrawNode4
import Derived.Test.YtncjedbdkanleaaNodeSPut
import Derived.Test.YtncjedbdkanleaaNodeIAt
namespace Go.Proofs.Ytncjedbdkanleaa
open Go.RowKit
set_option maxRecDepth 100000
set_option linter.unusedSimpArgs false
set_option linter.unusedVariables false

set_option maxHeartbeats 20000000 in
theorem nodesBent_walk (a0 : Option Addr) (len0 cap0 : Nat) (z0 : List Int) (w : World) (w0 : CameIn .u8 w a0 len0 cap0 z0) :
    Calls Try.prog 4 #[.slice a0 len0 cap0] w fun e w' => e = .returned (.bool true) ∧ Below w.heap.size w w' := by
  obtain ⟨l, rfl, hr⟩ := w0.rd
  clear w0
  by_cases hbig : l.length ≤ 1048576
  · have d0 : decide ((1048576 : Int) < (l.length : Int)) = false := decide_eq_false (by omega)
    have HR := Lib.hid hr
    have HIA := Lib.hid implNodeAt_any
    have HSA2 := Lib.hid specNodeAt_any
    have HIP := Lib.hid implNodePut_any
    have HSP := Lib.hid specNodePut_any
    have HDP := Lib.hid drawNodePut_any
    unfold SaysFind KeyD.v keyV at HIA HSA2
    unfold PutsN KeyD.v keyV at HIP HSP
    unfold DNodePut KeyD.v keyV at HDP
    clear hr
    go_enter Try.func4, Try.ntmps4
    go_wp2_with fail
    refine (big_any _ _ _ _).mono ?_
    rintro r w1 ⟨rfl, rfl⟩
    rw [d0]
    clear d0
    go_wp2_with fail
    refine (drawNodeOk_any _ _ l _ HR.out hbig).mono ?_
    rintro r w1 ⟨vA, na, rfl, o, la, sa, b⟩
    obtain ⟨Aa, ca, rfl, _, _⟩ := o.reads.lenN
    have BB := Lib.hid (Below.refl w.heap.size w)
    have ba := bal1 w1 (.cells #[.slice Aa na.length ca] 26)
    have QA := Lib.hid (al1 w1 (.cells #[.slice Aa na.length ca] 26))
    have OA := Lib.hid (o.on ba)
    replace b := bstep b ba
    replace BB := Lib.hid (bstep BB.out b)
    clear b ba o
    go_upto_region 4 with (fail)
    generalize w1.alloc (.cells #[.slice Aa na.length ca] 26) = W1 at *
    go_wp2_with fail
    refine (drawNodeAt_any _ _ l _ (HR.out.on BB.out) hbig).mono ?_
    rintro r w2 ⟨vB, nb, px, py, rfl, o, lb, sb, b⟩
    obtain ⟨Ab, cb, rfl, _, _⟩ := o.reads.lenN
    have ba := bal1 w2 (.cells #[.slice Ab nb.length cb] 26)
    have QB := Lib.hid (al1 w2 (.cells #[.slice Ab nb.length cb] 26))
    have OB := Lib.hid (o.on ba)
    replace b := bstep b ba
    replace QA := Lib.hid (box_on QA.out b)
    replace OA := Lib.hid (OA.out.on b)
    replace BB := Lib.hid (bstep BB.out b)
    clear b ba o
    go_upto_region 5 with (fail)
    generalize w2.alloc (.cells #[.slice Ab nb.length cb] 26) = W2 at *
    obtain ⟨x, hx⟩ : ∃ x, (nodeAtK nb px py).getD zK = x := ⟨_, rfl⟩
    obtain ⟨y, hy⟩ : ∃ y, (nodeAtK nb px py).isSome = y := ⟨_, rfl⟩
    have HX := Lib.hid hx
    have HY := Lib.hid hy
    obtain ⟨bo, hbo⟩ : ∃ bo, nodeOkB na = bo := ⟨_, rfl⟩
    have HB := Lib.hid hbo
    have HSA : Hid (SmallN na) := Lib.hid ⟨by omega, by omega⟩
    have HSB : Hid (SmallN nb) := Lib.hid ⟨by omega, by omega⟩
    clear hx hy hbo
    obtain ⟨n0, n1⟩ := box1N QB.out
    go_wp2_with fail
    refine (HIA.out _ nb px py _ OB.out.reads HSB.out).mono ?_
    rintro r w3 ⟨rfl, b⟩
    rw [HX.out, HY.out]
    have ba := bal1 w3 (.cells #[.int .i64 x.a, .int .i64 x.b, .int .i64 x.c, .int .i64 x.d, .int .i64 x.e] 28)
    have QX := Lib.hid (al1 w3 (.cells #[.int .i64 x.a, .int .i64 x.b, .int .i64 x.c, .int .i64 x.d, .int .i64 x.e] 28))
    replace b := bstep b ba
    replace QA := Lib.hid (box_on QA.out b)
    replace QB := Lib.hid (box_on QB.out b)
    replace OA := Lib.hid (OA.out.on b)
    replace OB := Lib.hid (OB.out.on b)
    replace BB := Lib.hid (bstep BB.out b)
    clear b ba n0 n1
    go_upto_region 6 with (fail)
    generalize w3.alloc (.cells #[.int .i64 x.a, .int .i64 x.b, .int .i64 x.c, .int .i64 x.d, .int .i64 x.e] 28) = W3 at *
    obtain ⟨n0, n1⟩ := box1N QB.out
    go_wp2_with fail
    refine (HSA2.out _ nb px py _ OB.out.reads HSB.out).mono ?_
    rintro r w4 ⟨rfl, b⟩
    rw [HX.out, HY.out]
    have ba := bal1 w4 (.cells #[.int .i64 x.a, .int .i64 x.b, .int .i64 x.c, .int .i64 x.d, .int .i64 x.e] 28)
    have QY := Lib.hid (al1 w4 (.cells #[.int .i64 x.a, .int .i64 x.b, .int .i64 x.c, .int .i64 x.d, .int .i64 x.e] 28))
    replace b := bstep b ba
    replace QA := Lib.hid (box_on QA.out b)
    replace QB := Lib.hid (box_on QB.out b)
    replace QX := Lib.hid (box_on QX.out b)
    replace OA := Lib.hid (OA.out.on b)
    replace OB := Lib.hid (OB.out.on b)
    replace BB := Lib.hid (bstep BB.out b)
    clear b ba n0 n1
    go_upto_region 7 with (fail)
    generalize w4.alloc (.cells #[.int .i64 x.a, .int .i64 x.b, .int .i64 x.c, .int .i64 x.d, .int .i64 x.e] 28) = W4 at *
    clear QB OB HSB HX HY HIA HSA2
    go_wp2_with fail
    refine (drawNodeKeys_any _ _ l _ (HR.out.on BB.out) hbig).mono ?_
    rintro r w5 ⟨vC, nc, rfl, o, lc, sc, b⟩
    obtain ⟨Ac, cc, rfl, _, _⟩ := o.reads.lenN
    have ba := bal1 w5 (.cells #[.slice Ac nc.length cc] 26)
    have QC := Lib.hid (al1 w5 (.cells #[.slice Ac nc.length cc] 26))
    have OC := Lib.hid (o.on ba)
    replace b := bstep b ba
    replace QA := Lib.hid (box_on QA.out b)
    replace QX := Lib.hid (box_on QX.out b)
    replace QY := Lib.hid (box_on QY.out b)
    replace OA := Lib.hid (OA.out.on b)
    replace BB := Lib.hid (bstep BB.out b)
    clear b ba o
    go_upto_region 8 with (fail)
    generalize w5.alloc (.cells #[.slice Ac nc.length cc] 26) = W5 at *
    go_wp2_with fail
    refine (HDP.out _ _ l _ (HR.out.on BB.out) hbig).mono ?_
    rintro r w6 ⟨vD, nd, k, rfl, o, ld, sd, b⟩
    obtain ⟨Ad, cd, rfl, _, _⟩ := o.reads.lenN
    have ba := bal2 w6 (.cells #[.slice Ad nd.length cd] 26) (.cells #[.int .i64 k.a, .int .i64 k.b, .int .i64 k.c, .int .i64 k.d, .int .i64 k.e] 28)
    obtain ⟨q0, q1⟩ := al2 w6 (.cells #[.slice Ad nd.length cd] 26) (.cells #[.int .i64 k.a, .int .i64 k.b, .int .i64 k.c, .int .i64 k.d, .int .i64 k.e] 28)
    have QD := Lib.hid q0
    have QK := Lib.hid q1
    clear q0 q1
    have OD := Lib.hid (o.on ba)
    replace b := bstep b ba
    replace QA := Lib.hid (box_on QA.out b)
    replace QX := Lib.hid (box_on QX.out b)
    replace QY := Lib.hid (box_on QY.out b)
    replace QC := Lib.hid (box_on QC.out b)
    replace OA := Lib.hid (OA.out.on b)
    replace OC := Lib.hid (OC.out.on b)
    replace BB := Lib.hid (bstep BB.out b)
    clear b ba o
    go_upto_region 9 with (fail)
    generalize (w6.alloc (.cells #[.slice Ad nd.length cd] 26)).alloc (.cells #[.int .i64 k.a, .int .i64 k.b, .int .i64 k.c, .int .i64 k.d, .int .i64 k.e] 28) = W6 at *
    obtain ⟨X, hX⟩ : ∃ X, putN nd k = X := ⟨_, rfl⟩
    obtain ⟨ok, hok⟩ : ∃ ok, putNB nd k = ok := ⟨_, rfl⟩
    have hps := putN_small (ns := nd) (k := k) (m := 20) (by omega) (by omega)
    rw [hX] at hps
    have HSX : Hid (SmallN X) := Lib.hid ⟨by omega, by omega⟩
    have HX := Lib.hid hX
    have HOK := Lib.hid hok
    clear hX hok hps
    obtain ⟨n0, n1⟩ := box1N QD.out
    obtain ⟨k0, k1, k2, k3, k4, k5⟩ := box5 QK.out
    go_wp2_with fail
    refine (HIP.out _ nd k _ OD.out.reads (by omega) (by omega)).mono ?_
    rintro r w7 ⟨vE, rfl, o, b⟩
    rw [HX.out] at o
    rw [HOK.out]
    obtain ⟨Ae, ce, rfl, _, _⟩ := o.reads.lenN
    have ba := bal1 w7 (.cells #[.slice Ae X.length ce] 26)
    have QE := Lib.hid (al1 w7 (.cells #[.slice Ae X.length ce] 26))
    have OE := Lib.hid (o.on ba)
    replace b := bstep b ba
    replace QA := Lib.hid (box_on QA.out b)
    replace QX := Lib.hid (box_on QX.out b)
    replace QY := Lib.hid (box_on QY.out b)
    replace QC := Lib.hid (box_on QC.out b)
    replace QD := Lib.hid (box_on QD.out b)
    replace QK := Lib.hid (box_on QK.out b)
    replace OA := Lib.hid (OA.out.on b)
    replace OC := Lib.hid (OC.out.on b)
    replace OD := Lib.hid (OD.out.on b)
    replace BB := Lib.hid (bstep BB.out b)
    clear b ba o n0 n1 k0 k1 k2 k3 k4 k5
    go_upto_region 10 with (fail)
    generalize w7.alloc (.cells #[.slice Ae X.length ce] 26) = W7 at *
    obtain ⟨n0, n1⟩ := box1N QD.out
    obtain ⟨k0, k1, k2, k3, k4, k5⟩ := box5 QK.out
    go_wp2_with fail
    refine (HSP.out _ nd k _ OD.out.reads (by omega) (by omega)).mono ?_
    rintro r w8 ⟨vF, rfl, o, b⟩
    rw [HX.out] at o
    rw [HOK.out]
    obtain ⟨Af, cf, rfl, _, _⟩ := o.reads.lenN
    have ba := bal1 w8 (.cells #[.slice Af X.length cf] 26)
    have QF := Lib.hid (al1 w8 (.cells #[.slice Af X.length cf] 26))
    have OF := Lib.hid (o.on ba)
    replace b := bstep b ba
    replace QA := Lib.hid (box_on QA.out b)
    replace QX := Lib.hid (box_on QX.out b)
    replace QY := Lib.hid (box_on QY.out b)
    replace QC := Lib.hid (box_on QC.out b)
    replace QD := Lib.hid (box_on QD.out b)
    replace QK := Lib.hid (box_on QK.out b)
    replace QE := Lib.hid (box_on QE.out b)
    replace OA := Lib.hid (OA.out.on b)
    replace OC := Lib.hid (OC.out.on b)
    replace OD := Lib.hid (OD.out.on b)
    replace OE := Lib.hid (OE.out.on b)
    replace BB := Lib.hid (bstep BB.out b)
    clear b ba o n0 n1 k0 k1 k2 k3 k4 k5
    go_upto_region 11 with (fail)
    generalize w8.alloc (.cells #[.slice Af X.length cf] 26) = W8 at *
    clear QD QK OD HX HOK HIP HSP HDP
    go_wp2_with fail
    refine (drawNodeNew_any _ _ l _ (HR.out.on BB.out) hbig).mono ?_
    rintro r w9 ⟨vG, ne, rfl, o, le, b⟩
    obtain ⟨Ag, cg, rfl, _, _⟩ := o.shape
    have OG := Lib.hid o.owns
    replace QA := Lib.hid (box_on QA.out b)
    replace QX := Lib.hid (box_on QX.out b)
    replace QY := Lib.hid (box_on QY.out b)
    replace QC := Lib.hid (box_on QC.out b)
    replace QE := Lib.hid (box_on QE.out b)
    replace QF := Lib.hid (box_on QF.out b)
    replace OA := Lib.hid (OA.out.on b)
    replace OC := Lib.hid (OC.out.on b)
    replace OE := Lib.hid (OE.out.on b)
    replace OF := Lib.hid (OF.out.on b)
    replace BB := Lib.hid (bstep BB.out b)
    clear o b
    go_wp2_with fail
    refine (drawNodePack_any _ _ l _ (HR.out.on BB.out) hbig).mono ?_
    rintro r w10 ⟨vH, nh, rfl, o, lh, sh, b⟩
    obtain ⟨Ah, ch, rfl, _, _⟩ := o.reads.lenN
    have ba := bal1 w10 (.cells #[.slice Ah nh.length ch] 26)
    have QH := Lib.hid (al1 w10 (.cells #[.slice Ah nh.length ch] 26))
    have OH := Lib.hid (o.on ba)
    replace b := bstep b ba
    replace QA := Lib.hid (box_on QA.out b)
    replace QX := Lib.hid (box_on QX.out b)
    replace QY := Lib.hid (box_on QY.out b)
    replace QC := Lib.hid (box_on QC.out b)
    replace QE := Lib.hid (box_on QE.out b)
    replace QF := Lib.hid (box_on QF.out b)
    replace OA := Lib.hid (OA.out.on b)
    replace OC := Lib.hid (OC.out.on b)
    replace OE := Lib.hid (OE.out.on b)
    replace OF := Lib.hid (OF.out.on b)
    replace OG := Lib.hid (OG.out.on b)
    replace BB := Lib.hid (bstep BB.out b)
    clear b ba o
    go_upto_region 13 with (fail)
    generalize w10.alloc (.cells #[.slice Ah nh.length ch] 26) = W0 at *
    have kl := nodeKeys_len nc
    obtain ⟨KC, hKC⟩ : ∃ KC, nodeKeysK nc = KC := ⟨_, rfl⟩
    rw [hKC] at kl
    have HKC := Lib.hid hKC
    have nl := len_new ne
    have nsum := sum_new ne
    have nle : sumN (nodeNewK ne) ≤ 9 := by omega
    obtain ⟨NN, hNN⟩ : ∃ NN, nodeNewK ne = NN := ⟨_, rfl⟩
    rw [hNN] at nl nle
    have HNN := Lib.hid hNN
    have HSN : Hid (SmallN NN) := Lib.hid ⟨by omega, by omega⟩
    have pl : (nodePackK nh).length ≤ 1 := len_new _
    have psum : sumN (nodePackK nh) ≤ 20 := by
      have h1 := sum_new (nodeKeysK nh)
      have h2 := nodeKeys_len nh
      show sumN (nodeNewK (nodeKeysK nh)) ≤ 20
      omega
    obtain ⟨PP, hPP⟩ : ∃ PP, nodePackK nh = PP := ⟨_, rfl⟩
    rw [hPP] at pl psum
    have HPP := Lib.hid hPP
    have HSPP : Hid (SmallN PP) := Lib.hid ⟨by omega, by omega⟩
    clear hKC hNN nsum nle nl hPP pl psum
    refine but_begin (f := 46) (S := fun V => Below W0.heap.size W0 V) (by kernel_rfl) ?_
    refine but_take (f := 46) (i := 0) (v := ?vz0) rfl (by kernel_rfl) (by kernel_rfl) (by kernel_rfl) (by kernel_rfl) (by kernel_rfl) (fun _ _ _ h => h) (Or.inl ⟨(by rfl), ?hyz0⟩) (Below.drew1 _) ?restz0
    case hyz0 =>
      intro W hW
      obtain ⟨n0, n1⟩ := box1N (box_on QA.out hW)
      go_simp
      exact rfl
    simp only [List.getElem_toArray, List.getElem_cons_succ, List.getElem_cons_zero, Act.put, List.setIfInBounds_toArray, List.set_cons_zero, List.set_cons_succ]
    refine but_take (f := 46) (i := 2) (v := ?vz2) rfl (by kernel_rfl) (by kernel_rfl) (by kernel_rfl) (by kernel_rfl) (by kernel_rfl) (fun _ _ _ h => h) (Or.inl ⟨(by rfl), ?hyz2⟩) (Below.drew1 _) ?restz2
    case hyz2 =>
      intro W hW
      obtain ⟨n0, n1⟩ := box1N (box_on QA.out hW)
      go_simp
      exact rfl
    simp only [List.getElem_toArray, List.getElem_cons_succ, List.getElem_cons_zero, Act.put, List.setIfInBounds_toArray, List.set_cons_zero, List.set_cons_succ]
    refine but_run (i := 1) (by kernel_rfl) rfl (by rfl) ?_
    simp only [List.getElem_toArray, List.getElem_cons_succ, List.getElem_cons_zero]
    intro K HK
    go_wp2_with fail
    refine (implNodeOk_any _ na _ (OA.out.on (Below.drew1 _)).reads HSA.out).mono ?_
    rintro r Vz1 ⟨rfl, hbz1⟩
    rw [HB.out]
    go_wp2_with fail
    have hSz1 : (fun V => Below W0.heap.size W0 V) Vz1 := bstep (Below.drew1 _) hbz1
    refine HK.out _ _ (fun _ => hSz1) ?_
    clear HK
    refine but_run (i := 3) (by kernel_rfl) rfl (by rfl) ?_
    simp only [List.getElem_toArray, List.getElem_cons_succ, List.getElem_cons_zero]
    intro K HK
    go_wp2_with fail
    refine (specNodeOk_any _ na _ (OA.out.on hSz1).reads HSA.out).mono ?_
    rintro r Vz2 ⟨rfl, hbz2⟩
    rw [HB.out]
    go_wp2_with fail
    have hSz2 : (fun V => Below W0.heap.size W0 V) Vz2 := bstep hSz1 hbz2
    refine HK.out _ _ (fun _ => hSz2) ?_
    clear HK
    refine but_take (f := 46) (i := 4) (v := ?vz4) rfl (by kernel_rfl) (by kernel_rfl) (by kernel_rfl) (by kernel_rfl) (by kernel_rfl) (fun _ _ _ h => h) (Or.inl ⟨(by rfl), ?hyz4⟩) hSz2 ?restz4
    case hyz4 =>
      intro W hW
      go_simp
      exact rfl
    simp only [List.getElem_toArray, List.getElem_cons_succ, List.getElem_cons_zero, Act.put, List.setIfInBounds_toArray, List.set_cons_zero, List.set_cons_succ]
    refine but_take (f := 46) (i := 5) (v := ?vz5) rfl (by kernel_rfl) (by kernel_rfl) (by kernel_rfl) (by kernel_rfl) (by kernel_rfl) (fun _ _ _ h => h) (Or.inl ⟨(by rfl), ?hyz5⟩) hSz2 ?restz5
    case hyz5 =>
      intro W hW
      go_simp
      exact rfl
    simp only [List.getElem_toArray, List.getElem_cons_succ, List.getElem_cons_zero, Act.put, List.setIfInBounds_toArray, List.set_cons_zero, List.set_cons_succ]
    refine but_take (f := 46) (i := 6) (v := ?vz6) rfl (by kernel_rfl) (by kernel_rfl) (by kernel_rfl) (by kernel_rfl) (by kernel_rfl) (fun _ _ _ h => h) (Or.inl ⟨((wanted_at rfl rfl rfl rfl).trans rfl), ?hyz6⟩) hSz2 ?restz6
    case hyz6 =>
      intro W hW
      go_simp
      exact rfl
    simp only [List.getElem_toArray, List.getElem_cons_succ, List.getElem_cons_zero, Act.put, List.setIfInBounds_toArray, List.set_cons_zero, List.set_cons_succ]
    refine but_take (f := 46) (i := 7) (v := ?vz7) rfl (by kernel_rfl) (by kernel_rfl) (by kernel_rfl) (by kernel_rfl) (by kernel_rfl) (fun _ _ _ h => h) (Or.inl ⟨((wanted_at rfl rfl rfl rfl).trans rfl), ?hyz7⟩) hSz2 ?restz7
    case hyz7 =>
      intro W hW
      go_simp
      exact rfl
    simp only [List.getElem_toArray, List.getElem_cons_succ, List.getElem_cons_zero, Act.put, List.setIfInBounds_toArray, List.set_cons_zero, List.set_cons_succ]
    refine but_take (f := 46) (i := 8) (v := ?vz8) rfl (by kernel_rfl) (by kernel_rfl) (by kernel_rfl) (by kernel_rfl) (by kernel_rfl) (fun _ _ _ h => h) (Or.inl ⟨((wanted_at rfl rfl rfl rfl).trans rfl), ?hyz8⟩) hSz2 ?restz8
    case hyz8 =>
      intro W hW
      go_simp
      exact rfl
    simp only [List.getElem_toArray, List.getElem_cons_succ, List.getElem_cons_zero, Act.put, List.setIfInBounds_toArray, List.set_cons_zero, List.set_cons_succ]
    refine but_take (f := 46) (i := 9) (v := ?vz9) rfl (by kernel_rfl) (by kernel_rfl) (by kernel_rfl) (by kernel_rfl) (by kernel_rfl) (fun _ _ _ h => h) (Or.inl ⟨(by rfl), ?hyz9⟩) hSz2 ?restz9
    case hyz9 =>
      intro W hW
      go_simp
      exact rfl
    simp only [List.getElem_toArray, List.getElem_cons_succ, List.getElem_cons_zero, Act.put, List.setIfInBounds_toArray, List.set_cons_zero, List.set_cons_succ]
    refine but_take (f := 46) (i := 10) (v := ?vz10) rfl (by kernel_rfl) (by kernel_rfl) (by kernel_rfl) (by kernel_rfl) (by kernel_rfl) (fun _ _ _ h => h) (Or.inl ⟨(by rfl), ?hyz10⟩) hSz2 ?restz10
    case hyz10 =>
      intro W hW
      go_simp
      exact rfl
    simp only [List.getElem_toArray, List.getElem_cons_succ, List.getElem_cons_zero, Act.put, List.setIfInBounds_toArray, List.set_cons_zero, List.set_cons_succ]
    refine but_take (f := 46) (i := 11) (v := ?vz11) rfl (by kernel_rfl) (by kernel_rfl) (by kernel_rfl) (by kernel_rfl) (by kernel_rfl) (fun _ _ _ h => h) (Or.inl ⟨((wanted_at rfl rfl rfl rfl).trans rfl), ?hyz11⟩) hSz2 ?restz11
    case hyz11 =>
      intro W hW
      obtain ⟨k0, k1, k2, k3, k4, k5⟩ := box5 (box_on QX.out hW)
      go_simp
      exact rfl
    simp only [List.getElem_toArray, List.getElem_cons_succ, List.getElem_cons_zero, Act.put, List.setIfInBounds_toArray, List.set_cons_zero, List.set_cons_succ]
    refine but_take (f := 46) (i := 12) (v := ?vz12) rfl (by kernel_rfl) (by kernel_rfl) (by kernel_rfl) (by kernel_rfl) (by kernel_rfl) (fun _ _ _ h => h) (Or.inl ⟨((wanted_at rfl rfl rfl rfl).trans rfl), ?hyz12⟩) hSz2 ?restz12
    case hyz12 =>
      intro W hW
      obtain ⟨k0, k1, k2, k3, k4, k5⟩ := box5 (box_on QY.out hW)
      go_simp
      exact rfl
    simp only [List.getElem_toArray, List.getElem_cons_succ, List.getElem_cons_zero, Act.put, List.setIfInBounds_toArray, List.set_cons_zero, List.set_cons_succ]
    refine but_take (f := 46) (i := 13) (v := ?vz13) rfl (by kernel_rfl) (by kernel_rfl) (by kernel_rfl) (by kernel_rfl) (by kernel_rfl) (fun _ _ _ h => h) (Or.inl ⟨((wanted_at rfl rfl rfl rfl).trans rfl), ?hyz13⟩) hSz2 ?restz13
    case hyz13 =>
      intro W hW
      go_simp
      exact rfl
    simp only [List.getElem_toArray, List.getElem_cons_succ, List.getElem_cons_zero, Act.put, List.setIfInBounds_toArray, List.set_cons_zero, List.set_cons_succ]
    refine but_take (f := 46) (i := 14) (v := ?vz14) rfl (by kernel_rfl) (by kernel_rfl) (by kernel_rfl) (by kernel_rfl) (by kernel_rfl) (fun _ _ _ h => h) (Or.inl ⟨(by rfl), ?hyz14⟩) hSz2 ?restz14
    case hyz14 =>
      intro W hW
      go_simp
      exact rfl
    simp only [List.getElem_toArray, List.getElem_cons_succ, List.getElem_cons_zero, Act.put, List.setIfInBounds_toArray, List.set_cons_zero, List.set_cons_succ]
    refine but_take (f := 46) (i := 15) (v := ?vz15) rfl (by kernel_rfl) (by kernel_rfl) (by kernel_rfl) (by kernel_rfl) (by kernel_rfl) (fun _ _ _ h => h) (Or.inl ⟨(by rfl), ?hyz15⟩) hSz2 ?restz15
    case hyz15 =>
      intro W hW
      go_simp
      exact rfl
    simp only [List.getElem_toArray, List.getElem_cons_succ, List.getElem_cons_zero, Act.put, List.setIfInBounds_toArray, List.set_cons_zero, List.set_cons_succ]
    refine but_take (f := 46) (i := 16) (v := ?vz16) rfl (by kernel_rfl) (by kernel_rfl) (by kernel_rfl) (by kernel_rfl) (by kernel_rfl) (fun _ _ _ h => h) (Or.inl ⟨((wanted_at rfl rfl rfl rfl).trans rfl), ?hyz16⟩) hSz2 ?restz16
    case hyz16 =>
      intro W hW
      obtain ⟨n0, n1⟩ := box1N (box_on QC.out hW)
      go_simp
      exact rfl
    simp only [List.getElem_toArray, List.getElem_cons_succ, List.getElem_cons_zero, Act.put, List.setIfInBounds_toArray, List.set_cons_zero, List.set_cons_succ]
    refine but_take (f := 46) (i := 18) (v := ?vz18) rfl (by kernel_rfl) (by kernel_rfl) (by kernel_rfl) (by kernel_rfl) (by kernel_rfl) (fun _ _ _ h => h) (Or.inl ⟨((wanted_at rfl rfl rfl rfl).trans rfl), ?hyz18⟩) hSz2 ?restz18
    case hyz18 =>
      intro W hW
      obtain ⟨n0, n1⟩ := box1N (box_on QC.out hW)
      go_simp
      exact rfl
    simp only [List.getElem_toArray, List.getElem_cons_succ, List.getElem_cons_zero, Act.put, List.setIfInBounds_toArray, List.set_cons_zero, List.set_cons_succ]
    refine but_run (i := 17) (by kernel_rfl) rfl ((wanted_at rfl rfl rfl rfl).trans rfl) ?_
    simp only [List.getElem_toArray, List.getElem_cons_succ, List.getElem_cons_zero]
    intro K HK
    go_wp2_with fail
    refine (implNodeKeys_any _ nc _ (OC.out.on hSz2).reads (by omega) (by omega)).mono ?_
    rintro r Vz3 ⟨vm, rfl, om, hbz3⟩
    rw [HKC.out] at om
    obtain ⟨Am, cm, rfl, _, _⟩ := om.shape
    go_wp2_with fail
    have hSz3 : (fun V => Below W0.heap.size W0 V) Vz3 := bstep hSz2 hbz3
    refine HK.out _ _ (fun _ => hSz3) ?_
    clear HK
    have Pm := Lib.hid om.owns
    clear om
    refine but_run (i := 19) (by kernel_rfl) rfl ((wanted_at rfl rfl rfl rfl).trans rfl) ?_
    simp only [List.getElem_toArray, List.getElem_cons_succ, List.getElem_cons_zero]
    intro K HK
    go_wp2_with fail
    refine (specNodeKeys_any _ nc _ (OC.out.on hSz3).reads (by omega) (by omega)).mono ?_
    rintro r Vz4 ⟨vn, rfl, on, hbz4⟩
    rw [HKC.out] at on
    obtain ⟨An, cn, rfl, _, _⟩ := on.shape
    go_wp2_with fail
    have hSz4 : (fun V => Below W0.heap.size W0 V) Vz4 := bstep hSz3 hbz4
    refine HK.out _ _ (fun _ => hSz4) ?_
    clear HK
    have Pn := Lib.hid on.owns
    replace Pm := Lib.hid (Pm.out.on hbz4)
    clear on
    refine but_run (i := 20) (by kernel_rfl) rfl ((wanted_at rfl rfl rfl rfl).trans rfl) ?_
    simp only [List.getElem_toArray, List.getElem_cons_succ, List.getElem_cons_zero]
    intro K HK
    go_wp2_with fail
    refine (sameKeysN _ _ KC _ Pm.out.reads Pn.out.reads (by omega)).mono ?_
    rintro r Vz5 ⟨rfl, hbz5⟩
    go_wp2_with fail
    have hSz5 : (fun V => Below W0.heap.size W0 V) Vz5 := bstep hSz4 hbz5
    refine HK.out _ _ (fun _ => hSz5) ?_
    clear HK
    refine but_take (f := 46) (i := 21) (v := ?vz21) rfl (by kernel_rfl) (by kernel_rfl) (by kernel_rfl) (by kernel_rfl) (by kernel_rfl) (fun _ _ _ h => h) (Or.inl ⟨(by rfl), ?hyz21⟩) hSz5 ?restz21
    case hyz21 =>
      intro W hW
      go_simp
      exact rfl
    simp only [List.getElem_toArray, List.getElem_cons_succ, List.getElem_cons_zero, Act.put, List.setIfInBounds_toArray, List.set_cons_zero, List.set_cons_succ]
    refine but_take (f := 46) (i := 22) (v := ?vz22) rfl (by kernel_rfl) (by kernel_rfl) (by kernel_rfl) (by kernel_rfl) (by kernel_rfl) (fun _ _ _ h => h) (Or.inl ⟨(by rfl), ?hyz22⟩) hSz5 ?restz22
    case hyz22 =>
      intro W hW
      go_simp
      exact rfl
    simp only [List.getElem_toArray, List.getElem_cons_succ, List.getElem_cons_zero, Act.put, List.setIfInBounds_toArray, List.set_cons_zero, List.set_cons_succ]
    refine but_take (f := 46) (i := 23) (v := ?vz23) rfl (by kernel_rfl) (by kernel_rfl) (by kernel_rfl) (by kernel_rfl) (by kernel_rfl) (fun _ _ _ h => h) (Or.inl ⟨((wanted_at rfl rfl rfl rfl).trans rfl), ?hyz23⟩) hSz5 ?restz23
    case hyz23 =>
      intro W hW
      go_simp
      exact rfl
    simp only [List.getElem_toArray, List.getElem_cons_succ, List.getElem_cons_zero, Act.put, List.setIfInBounds_toArray, List.set_cons_zero, List.set_cons_succ]
    refine but_take (f := 46) (i := 24) (v := ?vz24) rfl (by kernel_rfl) (by kernel_rfl) (by kernel_rfl) (by kernel_rfl) (by kernel_rfl) (fun _ _ _ h => h) (Or.inl ⟨((wanted_at rfl rfl rfl rfl).trans rfl), ?hyz24⟩) hSz5 ?restz24
    case hyz24 =>
      intro W hW
      go_simp
      exact rfl
    simp only [List.getElem_toArray, List.getElem_cons_succ, List.getElem_cons_zero, Act.put, List.setIfInBounds_toArray, List.set_cons_zero, List.set_cons_succ]
    refine but_take (f := 46) (i := 25) (v := ?vz25) rfl (by kernel_rfl) (by kernel_rfl) (by kernel_rfl) (by kernel_rfl) (by kernel_rfl) (fun _ _ _ h => h) (Or.inl ⟨((wanted_at rfl rfl rfl rfl).trans rfl), ?hyz25⟩) hSz5 ?restz25
    case hyz25 =>
      intro W hW
      go_simp
      exact rfl
    simp only [List.getElem_toArray, List.getElem_cons_succ, List.getElem_cons_zero, Act.put, List.setIfInBounds_toArray, List.set_cons_zero, List.set_cons_succ]
    refine but_take (f := 46) (i := 26) (v := ?vz26) rfl (by kernel_rfl) (by kernel_rfl) (by kernel_rfl) (by kernel_rfl) (by kernel_rfl) (fun _ _ _ h => h) (Or.inl ⟨(by rfl), ?hyz26⟩) hSz5 ?restz26
    case hyz26 =>
      intro W hW
      go_simp
      exact rfl
    simp only [List.getElem_toArray, List.getElem_cons_succ, List.getElem_cons_zero, Act.put, List.setIfInBounds_toArray, List.set_cons_zero, List.set_cons_succ]
    refine but_take (f := 46) (i := 27) (v := ?vz27) rfl (by kernel_rfl) (by kernel_rfl) (by kernel_rfl) (by kernel_rfl) (by kernel_rfl) (fun _ _ _ h => h) (Or.inl ⟨(by rfl), ?hyz27⟩) hSz5 ?restz27
    case hyz27 =>
      intro W hW
      go_simp
      exact rfl
    simp only [List.getElem_toArray, List.getElem_cons_succ, List.getElem_cons_zero, Act.put, List.setIfInBounds_toArray, List.set_cons_zero, List.set_cons_succ]
    refine but_take (f := 46) (i := 28) (v := ?vz28) rfl (by kernel_rfl) (by kernel_rfl) (by kernel_rfl) (by kernel_rfl) (by kernel_rfl) (fun _ _ _ h => h) (Or.inl ⟨((wanted_at rfl rfl rfl rfl).trans rfl), ?hyz28⟩) hSz5 ?restz28
    case hyz28 =>
      intro W hW
      obtain ⟨n0, n1⟩ := box1N (box_on QE.out hW)
      go_simp
      exact rfl
    simp only [List.getElem_toArray, List.getElem_cons_succ, List.getElem_cons_zero, Act.put, List.setIfInBounds_toArray, List.set_cons_zero, List.set_cons_succ]
    refine but_take (f := 46) (i := 29) (v := ?vz29) rfl (by kernel_rfl) (by kernel_rfl) (by kernel_rfl) (by kernel_rfl) (by kernel_rfl) (fun _ _ _ h => h) (Or.inl ⟨((wanted_at rfl rfl rfl rfl).trans rfl), ?hyz29⟩) hSz5 ?restz29
    case hyz29 =>
      intro W hW
      obtain ⟨n0, n1⟩ := box1N (box_on QF.out hW)
      go_simp
      exact rfl
    simp only [List.getElem_toArray, List.getElem_cons_succ, List.getElem_cons_zero, Act.put, List.setIfInBounds_toArray, List.set_cons_zero, List.set_cons_succ]
    refine but_run (i := 30) (by kernel_rfl) rfl ((wanted_at rfl rfl rfl rfl).trans rfl) ?_
    simp only [List.getElem_toArray, List.getElem_cons_succ, List.getElem_cons_zero]
    intro K HK
    go_wp2_with fail
    refine (sameNode_same _ _ X _ (OE.out.on hSz5).reads (OF.out.on hSz5).reads HSX.out).mono ?_
    rintro r Vz6 ⟨rfl, hbz6⟩
    go_wp2_with fail
    have hSz6 : (fun V => Below W0.heap.size W0 V) Vz6 := bstep hSz5 hbz6
    refine HK.out _ _ (fun _ => hSz6) ?_
    clear HK
    refine but_take (f := 46) (i := 31) (v := ?vz31) rfl (by kernel_rfl) (by kernel_rfl) (by kernel_rfl) (by kernel_rfl) (by kernel_rfl) (fun _ _ _ h => h) (Or.inl ⟨(by rfl), ?hyz31⟩) hSz6 ?restz31
    case hyz31 =>
      intro W hW
      go_simp
      exact rfl
    simp only [List.getElem_toArray, List.getElem_cons_succ, List.getElem_cons_zero, Act.put, List.setIfInBounds_toArray, List.set_cons_zero, List.set_cons_succ]
    refine but_take (f := 46) (i := 32) (v := ?vz32) rfl (by kernel_rfl) (by kernel_rfl) (by kernel_rfl) (by kernel_rfl) (by kernel_rfl) (fun _ _ _ h => h) (Or.inl ⟨(by rfl), ?hyz32⟩) hSz6 ?restz32
    case hyz32 =>
      intro W hW
      go_simp
      exact rfl
    simp only [List.getElem_toArray, List.getElem_cons_succ, List.getElem_cons_zero, Act.put, List.setIfInBounds_toArray, List.set_cons_zero, List.set_cons_succ]
    refine but_take (f := 46) (i := 33) (v := ?vz33) rfl (by kernel_rfl) (by kernel_rfl) (by kernel_rfl) (by kernel_rfl) (by kernel_rfl) (fun _ _ _ h => h) (Or.inl ⟨((wanted_at rfl rfl rfl rfl).trans rfl), ?hyz33⟩) hSz6 ?restz33
    case hyz33 =>
      intro W hW
      go_simp
      exact rfl
    simp only [List.getElem_toArray, List.getElem_cons_succ, List.getElem_cons_zero, Act.put, List.setIfInBounds_toArray, List.set_cons_zero, List.set_cons_succ]
    refine but_take (f := 46) (i := 35) (v := ?vz35) rfl (by kernel_rfl) (by kernel_rfl) (by kernel_rfl) (by kernel_rfl) (by kernel_rfl) (fun _ _ _ h => h) (Or.inl ⟨((wanted_at rfl rfl rfl rfl).trans rfl), ?hyz35⟩) hSz6 ?restz35
    case hyz35 =>
      intro W hW
      go_simp
      exact rfl
    simp only [List.getElem_toArray, List.getElem_cons_succ, List.getElem_cons_zero, Act.put, List.setIfInBounds_toArray, List.set_cons_zero, List.set_cons_succ]
    refine but_run (i := 34) (by kernel_rfl) rfl ((wanted_at rfl rfl rfl rfl).trans rfl) ?_
    simp only [List.getElem_toArray, List.getElem_cons_succ, List.getElem_cons_zero]
    intro K HK
    go_wp2_with fail
    refine (implNodeNew_any _ ne _ (OG.out.on hSz6).reads (by omega)).mono ?_
    rintro r Vz7 ⟨vs, rfl, os, hbz7⟩
    rw [HNN.out] at os
    obtain ⟨As, cs, rfl, _, _⟩ := os.reads.lenN
    go_wp2_with fail
    have hSz7 : (fun V => Below W0.heap.size W0 V) Vz7 := bstep hSz6 hbz7
    refine HK.out _ _ (fun _ => hSz7) ?_
    clear HK
    have Ps := Lib.hid os
    clear os
    refine but_run (i := 36) (by kernel_rfl) rfl ((wanted_at rfl rfl rfl rfl).trans rfl) ?_
    simp only [List.getElem_toArray, List.getElem_cons_succ, List.getElem_cons_zero]
    intro K HK
    go_wp2_with fail
    refine (specNodeNew_any _ ne _ (OG.out.on hSz7).reads (by omega)).mono ?_
    rintro r Vz8 ⟨vu, rfl, ou, hbz8⟩
    rw [HNN.out] at ou
    obtain ⟨Au, cu, rfl, _, _⟩ := ou.reads.lenN
    go_wp2_with fail
    have hSz8 : (fun V => Below W0.heap.size W0 V) Vz8 := bstep hSz7 hbz8
    refine HK.out _ _ (fun _ => hSz8) ?_
    clear HK
    have Pu := Lib.hid ou
    replace Ps := Lib.hid (Ps.out.on hbz8)
    clear ou
    refine but_run (i := 37) (by kernel_rfl) rfl ((wanted_at rfl rfl rfl rfl).trans rfl) ?_
    simp only [List.getElem_toArray, List.getElem_cons_succ, List.getElem_cons_zero]
    intro K HK
    go_wp2_with fail
    refine (sameNode_same _ _ NN _ Ps.out.reads Pu.out.reads HSN.out).mono ?_
    rintro r Vz9 ⟨rfl, hbz9⟩
    go_wp2_with fail
    have hSz9 : (fun V => Below W0.heap.size W0 V) Vz9 := bstep hSz8 hbz9
    refine HK.out _ _ (fun _ => hSz9) ?_
    clear HK
    refine but_take (f := 46) (i := 38) (v := ?vz38) rfl (by kernel_rfl) (by kernel_rfl) (by kernel_rfl) (by kernel_rfl) (by kernel_rfl) (fun _ _ _ h => h) (Or.inl ⟨(by rfl), ?hyz38⟩) hSz9 ?restz38
    case hyz38 =>
      intro W hW
      go_simp
      exact rfl
    simp only [List.getElem_toArray, List.getElem_cons_succ, List.getElem_cons_zero, Act.put, List.setIfInBounds_toArray, List.set_cons_zero, List.set_cons_succ]
    refine but_take (f := 46) (i := 39) (v := ?vz39) rfl (by kernel_rfl) (by kernel_rfl) (by kernel_rfl) (by kernel_rfl) (by kernel_rfl) (fun _ _ _ h => h) (Or.inl ⟨(by rfl), ?hyz39⟩) hSz9 ?restz39
    case hyz39 =>
      intro W hW
      go_simp
      exact rfl
    simp only [List.getElem_toArray, List.getElem_cons_succ, List.getElem_cons_zero, Act.put, List.setIfInBounds_toArray, List.set_cons_zero, List.set_cons_succ]
    refine but_take (f := 46) (i := 40) (v := ?vz40) rfl (by kernel_rfl) (by kernel_rfl) (by kernel_rfl) (by kernel_rfl) (by kernel_rfl) (fun _ _ _ h => h) (Or.inl ⟨((wanted_at rfl rfl rfl rfl).trans rfl), ?hyz40⟩) hSz9 ?restz40
    case hyz40 =>
      intro W hW
      obtain ⟨n0, n1⟩ := box1N (box_on QH.out hW)
      go_simp
      exact rfl
    simp only [List.getElem_toArray, List.getElem_cons_succ, List.getElem_cons_zero, Act.put, List.setIfInBounds_toArray, List.set_cons_zero, List.set_cons_succ]
    refine but_take (f := 46) (i := 42) (v := ?vz42) rfl (by kernel_rfl) (by kernel_rfl) (by kernel_rfl) (by kernel_rfl) (by kernel_rfl) (fun _ _ _ h => h) (Or.inl ⟨((wanted_at rfl rfl rfl rfl).trans rfl), ?hyz42⟩) hSz9 ?restz42
    case hyz42 =>
      intro W hW
      obtain ⟨n0, n1⟩ := box1N (box_on QH.out hW)
      go_simp
      exact rfl
    simp only [List.getElem_toArray, List.getElem_cons_succ, List.getElem_cons_zero, Act.put, List.setIfInBounds_toArray, List.set_cons_zero, List.set_cons_succ]
    refine but_run (i := 41) (by kernel_rfl) rfl ((wanted_at rfl rfl rfl rfl).trans rfl) ?_
    simp only [List.getElem_toArray, List.getElem_cons_succ, List.getElem_cons_zero]
    intro K HK
    go_wp2_with fail
    refine (implNodePack_any _ nh _ (OH.out.on hSz9).reads (by omega) (by omega)).mono ?_
    rintro r Vz10 ⟨vq, rfl, oq, hbz10⟩
    rw [HPP.out] at oq
    obtain ⟨Aq, cq, rfl, _, _⟩ := oq.reads.lenN
    go_wp2_with fail
    have hSz10 : (fun V => Below W0.heap.size W0 V) Vz10 := bstep hSz9 hbz10
    refine HK.out _ _ (fun _ => hSz10) ?_
    clear HK
    have Pq := Lib.hid oq
    clear oq
    refine but_run (i := 43) (by kernel_rfl) rfl ((wanted_at rfl rfl rfl rfl).trans rfl) ?_
    simp only [List.getElem_toArray, List.getElem_cons_succ, List.getElem_cons_zero]
    intro K HK
    go_wp2_with fail
    refine (specNodePack_any _ nh _ (OH.out.on hSz10).reads (by omega) (by omega)).mono ?_
    rintro r Vz11 ⟨vt, rfl, ot, hbz11⟩
    rw [HPP.out] at ot
    obtain ⟨At, ct, rfl, _, _⟩ := ot.reads.lenN
    go_wp2_with fail
    have hSz11 : (fun V => Below W0.heap.size W0 V) Vz11 := bstep hSz10 hbz11
    refine HK.out _ _ (fun _ => hSz11) ?_
    clear HK
    have Pt := Lib.hid ot
    replace Pq := Lib.hid (Pq.out.on hbz11)
    clear ot
    refine but_run (i := 44) (by kernel_rfl) rfl ((wanted_at rfl rfl rfl rfl).trans rfl) ?_
    simp only [List.getElem_toArray, List.getElem_cons_succ, List.getElem_cons_zero]
    intro K HK
    go_wp2_with fail
    refine (sameNode_same _ _ PP _ Pq.out.reads Pt.out.reads HSPP.out).mono ?_
    rintro r Vz12 ⟨rfl, hbz12⟩
    go_wp2_with fail
    have hSz12 : (fun V => Below W0.heap.size W0 V) Vz12 := bstep hSz11 hbz12
    refine HK.out _ _ (fun _ => hSz12) ?_
    clear HK
    refine but_take (f := 46) (i := 45) (v := ?vz45) rfl (by kernel_rfl) (by kernel_rfl) (by kernel_rfl) (by kernel_rfl) (by kernel_rfl) (fun _ _ _ h => h) (Or.inl ⟨(by rfl), ?hyz45⟩) hSz12 ?restz45
    case hyz45 =>
      intro W hW
      go_simp
      exact rfl
    simp only [List.getElem_toArray, List.getElem_cons_succ, List.getElem_cons_zero, Act.put, List.setIfInBounds_toArray, List.set_cons_zero, List.set_cons_succ]
    refine but_run (i := 46) (by kernel_rfl) rfl (by rfl) ?_
    simp only [List.getElem_toArray, List.getElem_cons_succ, List.getElem_cons_zero]
    intro K HK
    go_wp2_with fail
    refine HK.out _ _ (fun h => absurd rfl h) ?_
    clear HK
    refine but_done (by kernel_rfl) ?_
    have BE := bstep BB.out hSz12
    go_wp2
    go_ret
    exact ⟨rfl, BE⟩
  · have d0 : decide ((1048576 : Int) < (l.length : Int)) = true := decide_eq_true (by omega)
    go_enter Try.func4, Try.ntmps4
    go_wp2_with fail
    refine (big_any _ _ _ _).mono ?_
    rintro r w1 ⟨rfl, rfl⟩
    rw [d0]
    go_wp2
    go_ret
    exact ⟨rfl, Below.refl _ _⟩
end Go.Proofs.Ytncjedbdkanleaa
