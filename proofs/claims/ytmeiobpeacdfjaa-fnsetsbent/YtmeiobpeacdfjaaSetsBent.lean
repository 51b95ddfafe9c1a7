/- The walk of FnSetsBent: at every code the call returns true and writes nothing that was there. No condition. -/
import Derived.Test.YtmeiobpeacdfjaaDrawSet2
import Derived.Test.YtmeiobpeacdfjaaKSetIMerge
import Derived.Test.YtmeiobpeacdfjaaExDrop
import Derived.Test.YtmeiobpeacdfjaaLast3
namespace Go.Proofs.Ytmeiobpeacdfjaa
open Go.RowKit
set_option maxRecDepth 100000
set_option linter.unusedSimpArgs false
set_option linter.unusedVariables false

set_option maxHeartbeats 1000000 in
theorem sameKeys_same (v u : Value) (l : List KeyD) (w : World) (hv : Reads w w.heap.size v (keysD l)) (hu : Reads w w.heap.size u (keysD l)) (hn : l.length ≤ 2097152) :
    Calls Try.prog 43 #[v, u] w (SaysBool w true) := by
  obtain ⟨A, c, rfl, _, _⟩ := hv.shapeK
  obtain ⟨A', c', rfl, _, _⟩ := hu.shapeK
  have HV := Lib.hid hv
  have HU := Lib.hid hu
  clear hv hu
  have hne : (((l.length : Nat) : Int) != ((l.length : Nat) : Int)) = false := by simp
  go_enter Try.func43, Try.ntmps43
  go_wp2
  go_loopw [5] (fun i wr => ∃ k : Nat, k ≤ l.length ∧ i = .int .i64 k ∧ Hid (Below w.heap.size w wr)) (fun i _ => l.length - (intOf i).toNat)
  case atStart => exact ⟨0, Nat.zero_le _, rfl, Lib.hid (Below.refl _ _)⟩
  case round =>
    obtain ⟨k, hk, rfl, HB⟩ := hrel
    by_cases hlt : k < l.length
    · obtain ⟨b, off, rfl, hbb, hc⟩ := (HV.out.on HB.out).keys hlt
      obtain ⟨b', off', rfl, hbb', hc'⟩ := (HU.out.on HB.out).keys hlt
      have i1 : (k : Int) < (l.length : Int) := by omega
      have i2 : (0 : Int) ≤ (k : Int) := by omega
      obtain ⟨c0, c1, c2, c3, c4⟩ := hc k hlt
      obtain ⟨d0, d1, d2, d3, d4⟩ := hc' k hlt
      clear hc hc'
      have HBq : Hid (∀ n, Below w.heap.size w (wr.drewN n)) := Lib.hid (fun n => bdrew HB.out n)
      go_wp2
      go_quiet (fail)
      go_wp2
      go_roundw
      case rel => exact ⟨k + 1, by omega, by go_num, Lib.hid (HBq.out _)⟩
      case measure => simp [intOf]; omega
    · go_wp2
      go_ret
      exact ⟨rfl, HB.out⟩
set_option maxHeartbeats 20000000 in
theorem setsBent_walk (a0 : Option Addr) (len0 cap0 : Nat) (z0 : List Int) (w : World) (w0 : CameIn .u8 w a0 len0 cap0 z0) :
    Calls Try.prog 5 #[.slice a0 len0 cap0] w fun e w' => e = .returned (.bool true) ∧ Below w.heap.size w w' := by
  obtain ⟨l, rfl, hr⟩ := w0.rd
  clear w0
  by_cases hbig : l.length ≤ 1048576
  · have d0 : decide ((1048576 : Int) < (l.length : Int)) = false := decide_eq_false (by omega)
    have HR := Lib.hid hr
    have HI := Lib.hid implSetOk_any
    have HS := Lib.hid specSetOk_any
    have HIA := Lib.hid implSetAt_any
    have HSA := Lib.hid specSetAt_any
    have HIP := Lib.hid implSetPut_any
    have HSP := Lib.hid specSetPut_any
    have HID := Lib.hid implDrop_any
    have HSD := Lib.hid specDrop_any
    have HSK := Lib.hid sameKeys_same
    have HDP := Lib.hid drawSetPut_any
    unfold SaysFind KeyD.v keyV at HIA HSA
    unfold KeyD.v keyV at HIP HSP
    unfold DPut KeyD.v keyV at HDP
    clear hr
    go_enter Try.func5, Try.ntmps5
    go_wp2_with fail
    refine (big_any _ _ _ _).mono ?_
    rintro r w1 ⟨rfl, rfl⟩
    rw [d0]
    clear d0
    go_wp2_with fail
    refine (drawSetOk_any _ _ l _ HR.out hbig).mono ?_
    rintro r w1 ⟨vL, L, rfl, o, hL, b⟩
    have OL := Lib.hid o.ownR
    have BB := Lib.hid b
    clear o b
    go_wp2_with fail
    refine (drawSetAt_any _ _ l _ (HR.out.on BB.out) hbig).mono ?_
    rintro r w2 ⟨vM, M, px, py, rfl, o, hM, b⟩
    have OM := Lib.hid o.ownR
    replace OL := Lib.hid (OL.out.on b)
    replace BB := Lib.hid (bstep BB.out b)
    clear o b
    obtain ⟨x, hx⟩ : ∃ x, (atK M px py).getD zK = x := ⟨_, rfl⟩
    obtain ⟨y, hy⟩ : ∃ y, (atK M px py).isSome = y := ⟨_, rfl⟩
    have HX := Lib.hid hx
    have HY := Lib.hid hy
    clear hx hy
    obtain ⟨bo, hbo⟩ : ∃ bo, setOkB L = bo := ⟨_, rfl⟩
    have HB := Lib.hid hbo
    clear hbo
    go_wp2_with fail
    refine (HIA.out _ M px py _ OM.out.reads (by omega)).mono ?_
    rintro r w3 ⟨rfl, b⟩
    rw [HX.out, HY.out]
    have ba := bal1 w3 (.cells #[.int .i64 x.a, .int .i64 x.b, .int .i64 x.c, .int .i64 x.d, .int .i64 x.e] 47)
    have QX := Lib.hid (al1 w3 (.cells #[.int .i64 x.a, .int .i64 x.b, .int .i64 x.c, .int .i64 x.d, .int .i64 x.e] 47))
    replace b := bstep b ba
    replace OL := Lib.hid (OL.out.on b)
    replace OM := Lib.hid (OM.out.on b)
    replace BB := Lib.hid (bstep BB.out b)
    clear b ba
    go_upto_region 6 with (fail)
    generalize w3.alloc (.cells #[.int .i64 x.a, .int .i64 x.b, .int .i64 x.c, .int .i64 x.d, .int .i64 x.e] 47) = w4 at *
    go_wp2_with fail
    refine (HSA.out _ M px py _ OM.out.reads (by omega)).mono ?_
    rintro r w5 ⟨rfl, b⟩
    rw [HX.out, HY.out]
    have ba := bal1 w5 (.cells #[.int .i64 x.a, .int .i64 x.b, .int .i64 x.c, .int .i64 x.d, .int .i64 x.e] 47)
    have QY := Lib.hid (al1 w5 (.cells #[.int .i64 x.a, .int .i64 x.b, .int .i64 x.c, .int .i64 x.d, .int .i64 x.e] 47))
    replace b := bstep b ba
    replace OL := Lib.hid (OL.out.on b)
    replace QX := Lib.hid (box_on QX.out b)
    replace BB := Lib.hid (bstep BB.out b)
    clear b ba OM
    go_upto_region 7 with (fail)
    generalize w5.alloc (.cells #[.int .i64 x.a, .int .i64 x.b, .int .i64 x.c, .int .i64 x.d, .int .i64 x.e] 47) = w6 at *
    go_wp2_with fail
    refine (HDP.out _ _ l _ (HR.out.on BB.out) hbig).mono ?_
    rintro r w7 ⟨vP, P, k, rfl, o, hP, b⟩
    have OP := Lib.hid o.ownR
    have ba := bal1 w7 (.cells #[.int .i64 k.a, .int .i64 k.b, .int .i64 k.c, .int .i64 k.d, .int .i64 k.e] 47)
    have QK := Lib.hid (al1 w7 (.cells #[.int .i64 k.a, .int .i64 k.b, .int .i64 k.c, .int .i64 k.d, .int .i64 k.e] 47))
    replace OP := Lib.hid (OP.out.on ba)
    replace b := bstep b ba
    replace OL := Lib.hid (OL.out.on b)
    replace QX := Lib.hid (box_on QX.out b)
    replace QY := Lib.hid (box_on QY.out b)
    replace BB := Lib.hid (bstep BB.out b)
    clear o b ba
    go_upto_region 8 with (fail)
    generalize w7.alloc (.cells #[.int .i64 k.a, .int .i64 k.b, .int .i64 k.c, .int .i64 k.d, .int .i64 k.e] 47) = w8 at *
    go_wp2_with fail
    refine (drawDrop_any _ _ l _ (HR.out.on BB.out) hbig).mono ?_
    rintro r W0 ⟨vD, D, rfl, o, hD, b⟩
    have OD := Lib.hid o.ownR
    replace OL := Lib.hid (OL.out.on b)
    replace OP := Lib.hid (OP.out.on b)
    replace QX := Lib.hid (box_on QX.out b)
    replace QY := Lib.hid (box_on QY.out b)
    replace QK := Lib.hid (box_on QK.out b)
    replace BB := Lib.hid (bstep BB.out b)
    clear o b
    go_upto_region 9 with (fail)
    have hR0 : Below W0.heap.size W0 W0.drew := Below.drew1 _
    refine but_begin (f := 31) (S := fun V => Below W0.drew.heap.size W0.drew V) (by kernel_rfl) ?_
    refine but_take (f := 31) (i := 0) (v := ?vt0) rfl (by kernel_rfl) (by kernel_rfl) (by kernel_rfl) (by kernel_rfl) (by kernel_rfl) (fun _ _ _ h => h) (Or.inl ⟨(by rfl), ?hyt0⟩) (Below.refl _ _) ?restt0
    case hyt0 =>
      intro W hW
      go_simp
      exact rfl
    simp only [List.getElem_toArray, List.getElem_cons_succ, List.getElem_cons_zero, Act.put, List.setIfInBounds_toArray, List.set_cons_zero, List.set_cons_succ]
    refine but_take (f := 31) (i := 2) (v := ?vt2) rfl (by kernel_rfl) (by kernel_rfl) (by kernel_rfl) (by kernel_rfl) (by kernel_rfl) (fun _ _ _ h => h) (Or.inl ⟨(by rfl), ?hyt2⟩) (Below.refl _ _) ?restt2
    case hyt2 =>
      intro W hW
      go_simp
      exact rfl
    simp only [List.getElem_toArray, List.getElem_cons_succ, List.getElem_cons_zero, Act.put, List.setIfInBounds_toArray, List.set_cons_zero, List.set_cons_succ]
    refine but_run (i := 1) (by kernel_rfl) rfl (by rfl) ?_
    simp only [List.getElem_toArray, List.getElem_cons_succ, List.getElem_cons_zero]
    intro K HK
    go_wp2_with fail
    refine (HI.out _ L _ (OL.out.on hR0).reads (by omega)).mono ?_
    rintro r Vt1 ⟨rfl, hB1⟩
    rw [HB.out]
    go_wp2_with fail
    refine HK.out _ Vt1 (fun _ => hB1) ?_
    clear HK
    refine but_more (S' := fun V => Below Vt1.heap.size Vt1 V) (fun V h => bstep hB1 h) ?_
    have hR1 : Below W0.heap.size W0 Vt1 := bstep hR0 hB1
    refine but_run (i := 3) (by kernel_rfl) rfl (by rfl) ?_
    simp only [List.getElem_toArray, List.getElem_cons_succ, List.getElem_cons_zero]
    intro K HK
    go_wp2_with fail
    refine (HS.out _ L _ (OL.out.on hR1).reads (by omega)).mono ?_
    rintro r Vt2 ⟨rfl, hB2⟩
    rw [HB.out]
    go_wp2_with fail
    refine HK.out _ Vt2 (fun _ => hB2) ?_
    clear HK
    refine but_more (S' := fun V => Below Vt2.heap.size Vt2 V) (fun V h => bstep hB2 h) ?_
    have hR2 : Below W0.heap.size W0 Vt2 := bstep hR1 hB2
    refine but_take (f := 31) (i := 4) (v := ?vt4) rfl (by kernel_rfl) (by kernel_rfl) (by kernel_rfl) (by kernel_rfl) (by kernel_rfl) (fun _ _ _ h => h) (Or.inl ⟨(by rfl), ?hyt4⟩) (Below.refl _ _) ?restt4
    case hyt4 =>
      intro W hW
      go_simp
      exact rfl
    simp only [List.getElem_toArray, List.getElem_cons_succ, List.getElem_cons_zero, Act.put, List.setIfInBounds_toArray, List.set_cons_zero, List.set_cons_succ]
    refine but_take (f := 31) (i := 5) (v := ?vt5) rfl (by kernel_rfl) (by kernel_rfl) (by kernel_rfl) (by kernel_rfl) (by kernel_rfl) (fun _ _ _ h => h) (Or.inl ⟨(by rfl), ?hyt5⟩) (Below.refl _ _) ?restt5
    case hyt5 =>
      intro W hW
      go_simp
      exact rfl
    simp only [List.getElem_toArray, List.getElem_cons_succ, List.getElem_cons_zero, Act.put, List.setIfInBounds_toArray, List.set_cons_zero, List.set_cons_succ]
    refine but_take (f := 31) (i := 6) (v := ?vt6) rfl (by kernel_rfl) (by kernel_rfl) (by kernel_rfl) (by kernel_rfl) (by kernel_rfl) (fun _ _ _ h => h) (Or.inl ⟨((wanted_at rfl rfl rfl rfl).trans rfl), ?hyt6⟩) (Below.refl _ _) ?restt6
    case hyt6 =>
      intro W hW
      go_simp
      exact rfl
    simp only [List.getElem_toArray, List.getElem_cons_succ, List.getElem_cons_zero, Act.put, List.setIfInBounds_toArray, List.set_cons_zero, List.set_cons_succ]
    refine but_take (f := 31) (i := 7) (v := ?vt7) rfl (by kernel_rfl) (by kernel_rfl) (by kernel_rfl) (by kernel_rfl) (by kernel_rfl) (fun _ _ _ h => h) (Or.inl ⟨((wanted_at rfl rfl rfl rfl).trans rfl), ?hyt7⟩) (Below.refl _ _) ?restt7
    case hyt7 =>
      intro W hW
      go_simp
      exact rfl
    simp only [List.getElem_toArray, List.getElem_cons_succ, List.getElem_cons_zero, Act.put, List.setIfInBounds_toArray, List.set_cons_zero, List.set_cons_succ]
    refine but_take (f := 31) (i := 8) (v := ?vt8) rfl (by kernel_rfl) (by kernel_rfl) (by kernel_rfl) (by kernel_rfl) (by kernel_rfl) (fun _ _ _ h => h) (Or.inl ⟨((wanted_at rfl rfl rfl rfl).trans rfl), ?hyt8⟩) (Below.refl _ _) ?restt8
    case hyt8 =>
      intro W hW
      go_simp
      exact rfl
    simp only [List.getElem_toArray, List.getElem_cons_succ, List.getElem_cons_zero, Act.put, List.setIfInBounds_toArray, List.set_cons_zero, List.set_cons_succ]
    refine but_take (f := 31) (i := 9) (v := ?vt9) rfl (by kernel_rfl) (by kernel_rfl) (by kernel_rfl) (by kernel_rfl) (by kernel_rfl) (fun _ _ _ h => h) (Or.inl ⟨(by rfl), ?hyt9⟩) (Below.refl _ _) ?restt9
    case hyt9 =>
      intro W hW
      go_simp
      exact rfl
    simp only [List.getElem_toArray, List.getElem_cons_succ, List.getElem_cons_zero, Act.put, List.setIfInBounds_toArray, List.set_cons_zero, List.set_cons_succ]
    refine but_take (f := 31) (i := 10) (v := ?vt10) rfl (by kernel_rfl) (by kernel_rfl) (by kernel_rfl) (by kernel_rfl) (by kernel_rfl) (fun _ _ _ h => h) (Or.inl ⟨(by rfl), ?hyt10⟩) (Below.refl _ _) ?restt10
    case hyt10 =>
      intro W hW
      go_simp
      exact rfl
    simp only [List.getElem_toArray, List.getElem_cons_succ, List.getElem_cons_zero, Act.put, List.setIfInBounds_toArray, List.set_cons_zero, List.set_cons_succ]
    refine but_take (f := 31) (i := 11) (v := ?vt11) rfl (by kernel_rfl) (by kernel_rfl) (by kernel_rfl) (by kernel_rfl) (by kernel_rfl) (fun _ _ _ h => h) (Or.inl ⟨((wanted_at rfl rfl rfl rfl).trans rfl), ?hyt11⟩) (Below.refl _ _) ?restt11
    case hyt11 =>
      intro W hW
      have hb0 : Below W0.heap.size W0 W := bstep hR2 hW
      obtain ⟨x0, x1, x2, x3, x4, x5⟩ := box5 (box_on QX.out hb0)
      obtain ⟨y0, y1, y2, y3, y4, y5⟩ := box5 (box_on QY.out hb0)
      obtain ⟨z0, z1, z2, z3, z4, z5⟩ := box5 (box_on QK.out hb0)
      go_simp
      exact rfl
    simp only [List.getElem_toArray, List.getElem_cons_succ, List.getElem_cons_zero, Act.put, List.setIfInBounds_toArray, List.set_cons_zero, List.set_cons_succ]
    refine but_take (f := 31) (i := 12) (v := ?vt12) rfl (by kernel_rfl) (by kernel_rfl) (by kernel_rfl) (by kernel_rfl) (by kernel_rfl) (fun _ _ _ h => h) (Or.inl ⟨((wanted_at rfl rfl rfl rfl).trans rfl), ?hyt12⟩) (Below.refl _ _) ?restt12
    case hyt12 =>
      intro W hW
      have hb0 : Below W0.heap.size W0 W := bstep hR2 hW
      obtain ⟨x0, x1, x2, x3, x4, x5⟩ := box5 (box_on QX.out hb0)
      obtain ⟨y0, y1, y2, y3, y4, y5⟩ := box5 (box_on QY.out hb0)
      obtain ⟨z0, z1, z2, z3, z4, z5⟩ := box5 (box_on QK.out hb0)
      go_simp
      exact rfl
    simp only [List.getElem_toArray, List.getElem_cons_succ, List.getElem_cons_zero, Act.put, List.setIfInBounds_toArray, List.set_cons_zero, List.set_cons_succ]
    refine but_take (f := 31) (i := 13) (v := ?vt13) rfl (by kernel_rfl) (by kernel_rfl) (by kernel_rfl) (by kernel_rfl) (by kernel_rfl) (fun _ _ _ h => h) (Or.inl ⟨((wanted_at rfl rfl rfl rfl).trans rfl), ?hyt13⟩) (Below.refl _ _) ?restt13
    case hyt13 =>
      intro W hW
      go_simp
      exact rfl
    simp only [List.getElem_toArray, List.getElem_cons_succ, List.getElem_cons_zero, Act.put, List.setIfInBounds_toArray, List.set_cons_zero, List.set_cons_succ]
    refine but_take (f := 31) (i := 14) (v := ?vt14) rfl (by kernel_rfl) (by kernel_rfl) (by kernel_rfl) (by kernel_rfl) (by kernel_rfl) (fun _ _ _ h => h) (Or.inl ⟨(by rfl), ?hyt14⟩) (Below.refl _ _) ?restt14
    case hyt14 =>
      intro W hW
      go_simp
      exact rfl
    simp only [List.getElem_toArray, List.getElem_cons_succ, List.getElem_cons_zero, Act.put, List.setIfInBounds_toArray, List.set_cons_zero, List.set_cons_succ]
    refine but_take (f := 31) (i := 15) (v := ?vt15) rfl (by kernel_rfl) (by kernel_rfl) (by kernel_rfl) (by kernel_rfl) (by kernel_rfl) (fun _ _ _ h => h) (Or.inl ⟨(by rfl), ?hyt15⟩) (Below.refl _ _) ?restt15
    case hyt15 =>
      intro W hW
      go_simp
      exact rfl
    simp only [List.getElem_toArray, List.getElem_cons_succ, List.getElem_cons_zero, Act.put, List.setIfInBounds_toArray, List.set_cons_zero, List.set_cons_succ]
    refine but_take (f := 31) (i := 16) (v := ?vt16) rfl (by kernel_rfl) (by kernel_rfl) (by kernel_rfl) (by kernel_rfl) (by kernel_rfl) (fun _ _ _ h => h) (Or.inl ⟨((wanted_at rfl rfl rfl rfl).trans rfl), ?hyt16⟩) (Below.refl _ _) ?restt16
    case hyt16 =>
      intro W hW
      go_simp
      exact rfl
    simp only [List.getElem_toArray, List.getElem_cons_succ, List.getElem_cons_zero, Act.put, List.setIfInBounds_toArray, List.set_cons_zero, List.set_cons_succ]
    refine but_take (f := 31) (i := 19) (v := ?vt19) rfl (by kernel_rfl) (by kernel_rfl) (by kernel_rfl) (by kernel_rfl) (by kernel_rfl) (fun _ _ _ h => h) (Or.inl ⟨((wanted_at rfl rfl rfl rfl).trans rfl), ?hyt19⟩) (Below.refl _ _) ?restt19
    case hyt19 =>
      intro W hW
      go_simp
      exact rfl
    simp only [List.getElem_toArray, List.getElem_cons_succ, List.getElem_cons_zero, Act.put, List.setIfInBounds_toArray, List.set_cons_zero, List.set_cons_succ]
    refine but_take (f := 31) (i := 17) (v := ?vt17) rfl (by kernel_rfl) (by kernel_rfl) (by kernel_rfl) (by kernel_rfl) (by kernel_rfl) (fun _ _ _ h => h) (Or.inl ⟨((wanted_at rfl rfl rfl rfl).trans rfl), ?hyt17⟩) (Below.refl _ _) ?restt17
    case hyt17 =>
      intro W hW
      have hb0 : Below W0.heap.size W0 W := bstep hR2 hW
      obtain ⟨x0, x1, x2, x3, x4, x5⟩ := box5 (box_on QX.out hb0)
      obtain ⟨y0, y1, y2, y3, y4, y5⟩ := box5 (box_on QY.out hb0)
      obtain ⟨z0, z1, z2, z3, z4, z5⟩ := box5 (box_on QK.out hb0)
      go_simp
      exact rfl
    simp only [List.getElem_toArray, List.getElem_cons_succ, List.getElem_cons_zero, Act.put, List.setIfInBounds_toArray, List.set_cons_zero, List.set_cons_succ]
    refine but_take (f := 31) (i := 20) (v := ?vt20) rfl (by kernel_rfl) (by kernel_rfl) (by kernel_rfl) (by kernel_rfl) (by kernel_rfl) (fun _ _ _ h => h) (Or.inl ⟨((wanted_at rfl rfl rfl rfl).trans rfl), ?hyt20⟩) (Below.refl _ _) ?restt20
    case hyt20 =>
      intro W hW
      have hb0 : Below W0.heap.size W0 W := bstep hR2 hW
      obtain ⟨x0, x1, x2, x3, x4, x5⟩ := box5 (box_on QX.out hb0)
      obtain ⟨y0, y1, y2, y3, y4, y5⟩ := box5 (box_on QY.out hb0)
      obtain ⟨z0, z1, z2, z3, z4, z5⟩ := box5 (box_on QK.out hb0)
      go_simp
      exact rfl
    simp only [List.getElem_toArray, List.getElem_cons_succ, List.getElem_cons_zero, Act.put, List.setIfInBounds_toArray, List.set_cons_zero, List.set_cons_succ]
    refine but_run (i := 18) (by kernel_rfl) rfl ((wanted_at rfl rfl rfl rfl).trans rfl) ?_
    simp only [List.getElem_toArray, List.getElem_cons_succ, List.getElem_cons_zero]
    intro K HK
    go_wp2_with fail
    refine (HIP.out _ P k _ (OP.out.on hR2).reads (by omega)).mono ?_
    rintro r Vt3 ⟨v3, rfl, o3, hB3⟩
    go_wp2_with fail
    refine HK.out _ Vt3 (fun _ => hB3) ?_
    clear HK
    refine but_more (S' := fun V => Below Vt3.heap.size Vt3 V) (fun V h => bstep hB3 h) ?_
    have hR3 : Below W0.heap.size W0 Vt3 := bstep hR2 hB3
    have O3 := Lib.hid o3.ownR
    clear o3
    refine but_run (i := 21) (by kernel_rfl) rfl ((wanted_at rfl rfl rfl rfl).trans rfl) ?_
    simp only [List.getElem_toArray, List.getElem_cons_succ, List.getElem_cons_zero]
    intro K HK
    go_wp2_with fail
    refine (HSP.out _ P k _ (OP.out.on hR3).reads (by omega)).mono ?_
    rintro r Vt4 ⟨v4, rfl, o4, hB4⟩
    go_wp2_with fail
    refine HK.out _ Vt4 (fun _ => hB4) ?_
    clear HK
    refine but_more (S' := fun V => Below Vt4.heap.size Vt4 V) (fun V h => bstep hB4 h) ?_
    have hR4 : Below W0.heap.size W0 Vt4 := bstep hR3 hB4
    have O4 := Lib.hid o4.ownR
    replace O3 := Lib.hid (O3.out.on hB4)
    clear o4
    refine but_run (i := 22) (by kernel_rfl) rfl ((wanted_at rfl rfl rfl rfl).trans rfl) ?_
    simp only [List.getElem_toArray, List.getElem_cons_succ, List.getElem_cons_zero]
    intro K HK
    go_wp2_with fail
    refine (HSK.out _ _ (putK P k) _ O3.out.reads O4.out.reads (by have := putK_len P k; omega)).mono ?_
    rintro r Vt5 ⟨rfl, hB5⟩
    go_wp2_with fail
    refine HK.out _ Vt5 (fun _ => hB5) ?_
    clear HK
    refine but_more (S' := fun V => Below Vt5.heap.size Vt5 V) (fun V h => bstep hB5 h) ?_
    have hR5 : Below W0.heap.size W0 Vt5 := bstep hR4 hB5
    refine but_take (f := 31) (i := 23) (v := ?vt23) rfl (by kernel_rfl) (by kernel_rfl) (by kernel_rfl) (by kernel_rfl) (by kernel_rfl) (fun _ _ _ h => h) (Or.inl ⟨(by rfl), ?hyt23⟩) (Below.refl _ _) ?restt23
    case hyt23 =>
      intro W hW
      go_simp
      exact rfl
    simp only [List.getElem_toArray, List.getElem_cons_succ, List.getElem_cons_zero, Act.put, List.setIfInBounds_toArray, List.set_cons_zero, List.set_cons_succ]
    refine but_take (f := 31) (i := 24) (v := ?vt24) rfl (by kernel_rfl) (by kernel_rfl) (by kernel_rfl) (by kernel_rfl) (by kernel_rfl) (fun _ _ _ h => h) (Or.inl ⟨(by rfl), ?hyt24⟩) (Below.refl _ _) ?restt24
    case hyt24 =>
      intro W hW
      go_simp
      exact rfl
    simp only [List.getElem_toArray, List.getElem_cons_succ, List.getElem_cons_zero, Act.put, List.setIfInBounds_toArray, List.set_cons_zero, List.set_cons_succ]
    refine but_take (f := 31) (i := 25) (v := ?vt25) rfl (by kernel_rfl) (by kernel_rfl) (by kernel_rfl) (by kernel_rfl) (by kernel_rfl) (fun _ _ _ h => h) (Or.inl ⟨((wanted_at rfl rfl rfl rfl).trans rfl), ?hyt25⟩) (Below.refl _ _) ?restt25
    case hyt25 =>
      intro W hW
      go_simp
      exact rfl
    simp only [List.getElem_toArray, List.getElem_cons_succ, List.getElem_cons_zero, Act.put, List.setIfInBounds_toArray, List.set_cons_zero, List.set_cons_succ]
    refine but_take (f := 31) (i := 27) (v := ?vt27) rfl (by kernel_rfl) (by kernel_rfl) (by kernel_rfl) (by kernel_rfl) (by kernel_rfl) (fun _ _ _ h => h) (Or.inl ⟨((wanted_at rfl rfl rfl rfl).trans rfl), ?hyt27⟩) (Below.refl _ _) ?restt27
    case hyt27 =>
      intro W hW
      go_simp
      exact rfl
    simp only [List.getElem_toArray, List.getElem_cons_succ, List.getElem_cons_zero, Act.put, List.setIfInBounds_toArray, List.set_cons_zero, List.set_cons_succ]
    refine but_run (i := 26) (by kernel_rfl) rfl ((wanted_at rfl rfl rfl rfl).trans rfl) ?_
    simp only [List.getElem_toArray, List.getElem_cons_succ, List.getElem_cons_zero]
    intro K HK
    go_wp2_with fail
    refine (HID.out _ D _ (OD.out.on hR5).reads (by omega)).mono ?_
    rintro r Vt6 ⟨v6, rfl, o6, hB6⟩
    go_wp2_with fail
    refine HK.out _ Vt6 (fun _ => hB6) ?_
    clear HK
    refine but_more (S' := fun V => Below Vt6.heap.size Vt6 V) (fun V h => bstep hB6 h) ?_
    have hR6 : Below W0.heap.size W0 Vt6 := bstep hR5 hB6
    have O6 := Lib.hid o6.ownR
    clear o6
    refine but_run (i := 28) (by kernel_rfl) rfl ((wanted_at rfl rfl rfl rfl).trans rfl) ?_
    simp only [List.getElem_toArray, List.getElem_cons_succ, List.getElem_cons_zero]
    intro K HK
    go_wp2_with fail
    refine (HSD.out _ D _ (OD.out.on hR6).reads (by omega)).mono ?_
    rintro r Vt7 ⟨v7, rfl, o7, hB7⟩
    go_wp2_with fail
    refine HK.out _ Vt7 (fun _ => hB7) ?_
    clear HK
    refine but_more (S' := fun V => Below Vt7.heap.size Vt7 V) (fun V h => bstep hB7 h) ?_
    have hR7 : Below W0.heap.size W0 Vt7 := bstep hR6 hB7
    have O7 := Lib.hid o7.ownR
    replace O6 := Lib.hid (O6.out.on hB7)
    clear o7
    refine but_run (i := 29) (by kernel_rfl) rfl ((wanted_at rfl rfl rfl rfl).trans rfl) ?_
    simp only [List.getElem_toArray, List.getElem_cons_succ, List.getElem_cons_zero]
    intro K HK
    go_wp2_with fail
    refine (HSK.out _ _ (dropK D) _ O6.out.reads O7.out.reads (by have := dropK_len D; omega)).mono ?_
    rintro r Vt8 ⟨rfl, hB8⟩
    go_wp2_with fail
    refine HK.out _ Vt8 (fun _ => hB8) ?_
    clear HK
    refine but_more (S' := fun V => Below Vt8.heap.size Vt8 V) (fun V h => bstep hB8 h) ?_
    have hR8 : Below W0.heap.size W0 Vt8 := bstep hR7 hB8
    refine but_take (f := 31) (i := 30) (v := ?vt30) rfl (by kernel_rfl) (by kernel_rfl) (by kernel_rfl) (by kernel_rfl) (by kernel_rfl) (fun _ _ _ h => h) (Or.inl ⟨(by rfl), ?hyt30⟩) (Below.refl _ _) ?restt30
    case hyt30 =>
      intro W hW
      go_simp
      exact rfl
    simp only [List.getElem_toArray, List.getElem_cons_succ, List.getElem_cons_zero, Act.put, List.setIfInBounds_toArray, List.set_cons_zero, List.set_cons_succ]
    refine but_run (i := 31) (by kernel_rfl) rfl (by rfl) ?_
    simp only [List.getElem_toArray, List.getElem_cons_succ, List.getElem_cons_zero]
    intro K HK
    go_wp2_with fail
    refine HK.out _ Vt8 (fun h => absurd rfl h) ?_
    clear HK
    refine but_done (by kernel_rfl) ?_
    go_wp2
    go_ret
    exact ⟨rfl, bstep BB.out hR8⟩
  · have d0 : decide ((1048576 : Int) < (l.length : Int)) = true := decide_eq_true (by omega)
    go_enter Try.func5, Try.ntmps5
    go_wp2_with fail
    refine (big_any _ _ _ _).mono ?_
    rintro r w1 ⟨rfl, rfl⟩
    rw [d0]
    go_wp2
    go_ret
    exact ⟨rfl, Below.refl _ _⟩
end Go.Proofs.Ytmeiobpeacdfjaa
