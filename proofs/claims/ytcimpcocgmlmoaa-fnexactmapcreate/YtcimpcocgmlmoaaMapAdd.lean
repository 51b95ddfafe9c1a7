/- The contract for impl.addMap: a Map put in order into a copy, unless there are too many. Conditions: at most 1100000 Maps, letters and blocks. -/
import Derived.Test.YtcimpcocgmlmoaaMapIns
import Derived.Test.YtcimpcocgmlmoaaMapSPut
namespace Go.Proofs.Ytcimpcocgmlmoaa
open Go.RowKit
set_option maxRecDepth 100000
set_option linter.unusedSimpArgs false
set_option linter.unusedVariables false

theorem insert_any (g n p vb base : Nat) (l : List MapD) (us : List Value) (m : MapD) (um : Value) (w : World) (hl : l.length = n) (hR : CpM w base g l us)
    (hv : w.heap[vb]? = some (.cells #[.string m.a, .bool m.f, um] 53 (0, 0))) (hum : um.oneCell' = true) (hp : p ≤ n) (hn : n ≤ 1100000) :
    Calls Try.prog 69 #[.slice (some ⟨g, 0, none⟩) n n, .int .i64 (p : Int), .slice (some ⟨vb, 0, none⟩) 1 1] w (InsM w base l us p m um) := by
  obtain ⟨h1, h2, h3, h4⟩ := hR
  rw [hl] at h1
  rcases Nat.lt_or_ge p n with h | h
  · exact insertMid_any g n p vb base l us m um w h1 h2 hl h3 h4 hv hum h hn
  · have : p = n := by omega
    subst this
    exact insertEnd_any g p vb base l us m um w h1 h2 hl h3 h4 hv hum hn
theorem InsM.owns {w' : World} {base p : Nat} {l : List MapD} {us : List Value} {m : MapD} {um v' : Value} {T U : Nat → Prop} (h1 : w'.ownsRow base 53 3 v' (l.length + 1) (mvl (insM l p m) (us.take p ++ um :: us.drop p))) (h2 : OwnsL w' (Tof base v') us (l.map mapI))
    (hm : Owns w' T um (intsD m.l)) (hT : ∀ b, T b → b < base) (hp : p ≤ l.length) (hU : ∀ b, base ≤ b → U b) (hV : ∀ b, T b → U b) : Owns w' U v' (mapsT 53 (insM l p m)) := by
  have hil := insM_len l p m hp
  rcases row_cases h1 with ⟨_, h, _⟩ | ⟨g, cap, rfl, hb, hR, hn, hc, _⟩
  · omega
  · have hins := OwnsL.ins (U := fun b => U b ∧ b ≠ g) p h2 hm hp (fun b hb => ⟨hU b hb.1, fun e => hb.2 (by rw [e]; rfl)⟩) (fun b hb => ⟨hV b hb, by have := hT b hb; omega⟩) (fun b hb hb' => by have := hT b hb'; have := hb.1; omega)
    have hh := Rw.maps (S := U) (l := insM l p m) (by rw [hil]; exact hR) (hU g hb) (by rw [hil]; exact hn) hc hins
    rw [hil] at hh
    exact hh
def addK (l : List MapD) (m : MapD) : List MapD × Int := if 6 ≤ l.length then (l, 6) else (insM l (bubM l l.length m.a) m, 0)
set_option maxHeartbeats 8000000 in
theorem addMap_any {t : TypeId} (va : Value) (l : List MapD) (m : MapD) (um : Value) (T : Nat → Prop) (w : World) (hv : Reads w w.heap.size va (mapsT t l)) (hs : SmallM l) (hu : Owns w T um (intsD m.l)) (hT : ∀ b, T b → b < w.heap.size) :
    Calls Try.prog 54 #[va, .agg #[.string m.a, .bool m.f, um]] w fun e w' => ∃ v, e = .returned (.tuple #[v, .int .i64 (addK l m).2]) ∧ Owns w' (fun b => w.heap.size ≤ b ∨ T b) v (mapsT 53 (addK l m).1) ∧ Below w.heap.size w w' := by
  obtain ⟨A, c, rfl, _, _⟩ := Reads.lenN hv
  have hln : l.length ≤ 1100000 := hs.1
  obtain ⟨Am, cm, rfl, _, _⟩ := Reads.lenN (show Reads w w.heap.size um (.row _ _ _ _) from hu.reads)
  have HMU := Lib.hid hu
  have HTT := Lib.hid hT
  have HC := Lib.hid (fun (W : World) (b : Below w.heap.size w W) => copyMaps_any _ l W (hv.on b) hs)
  have HX := Lib.hid (fun (W : World) (b : Below w.heap.size w W) => copyMapsX_any _ l W (hv.on b) hs)
  have HPL := Lib.hid (fun (W : World) (b : Below w.heap.size w W) => placeOfMap_any _ l m.a W (hv.on b) hs)
  have HB := Lib.hid (bal1 w (.cells #[.string m.a, .bool m.f, .slice Am m.l.length cm] 53))
  have QV := Lib.hid (al1 w (.cells #[.string m.a, .bool m.f, .slice Am m.l.length cm] 53))
  have hZ : (w.alloc (.cells #[.string m.a, .bool m.f, .slice Am m.l.length cm] 53)).heap.size = w.heap.size + 1 := by simp
  clear hv hu hT hs
  by_cases h6 : 6 ≤ l.length
  · have HA : Hid (addK l m = (l, 6)) := Lib.hid (by unfold addK; rw [if_pos h6])
    have d6 : decide ((l.length : Int) ≥ 6) = true := decide_eq_true (by omega)
    go_enter Try.func54, Try.ntmps54
    go_upto_region 1 with (fail)
    generalize w.alloc (.cells #[.string m.a, .bool m.f, .slice Am m.l.length cm] 53) = wb at *
    go_wp2_with fail
    refine (HC.out _ HB.out).mono ?_
    rintro e w1 ⟨v1, rfl, o1, b1⟩
    have O1 := Lib.hid o1
    have B1 := Lib.hid (bstep HB.out b1)
    clear o1 b1
    go_wp2
    go_ret2
    exact ⟨v1, by rw [HA.out] <;> rfl, by rw [HA.out]; exact O1.out.mono (fun b hb => .inl (by omega)), B1.out⟩
  · have HA : Hid (addK l m = (insM l (bubM l l.length m.a) m, 0)) := Lib.hid (by unfold addK; rw [if_neg h6])
    have d6 : decide ((l.length : Int) ≥ 6) = false := decide_eq_false (by omega)
    have hple := bubM_le l m.a l.length (Nat.le_refl _)
    generalize bubM l l.length m.a = p at *
    go_enter Try.func54, Try.ntmps54
    go_upto_region 1 with (fail)
    generalize w.alloc (.cells #[.string m.a, .bool m.f, .slice Am m.l.length cm] 53) = wb at *
    have hy1 := Nat.le_of_eq hZ
    have hy2 := Nat.le_of_eq hZ.symm
    clear hZ HC
    go_upto_region 3 with (fail)
    refine but_begin (f := 10) (S := fun V => Below wb.heap.size wb V) (by kernel_rfl) ?_
    have hS0c : Below wb.heap.size wb wb.drew := Below.drew1 _
    have hz0c : wb.heap.size ≤ wb.drew.heap.size := Nat.le_refl _
    generalize wb.drew = Udc at *
    refine but_take (f := 10) (i := 0) (v := ?vc0) rfl (by kernel_rfl) (by kernel_rfl) (by kernel_rfl) (by kernel_rfl) (by kernel_rfl) (fun _ _ _ h => h) (Or.inl ⟨(by rfl), ?hyc0⟩) hS0c ?restc0
    case hyc0 =>
      intro W hW
      go_simp
      exact rfl
    simp only [List.getElem_toArray, List.getElem_cons_succ, List.getElem_cons_zero, Act.put, List.setIfInBounds_toArray, List.set_cons_zero, List.set_cons_succ]
    refine but_take (f := 10) (i := 2) (v := ?vc2) rfl (by kernel_rfl) (by kernel_rfl) (by kernel_rfl) (by kernel_rfl) (by kernel_rfl) (fun _ _ _ h => h) (Or.inl ⟨(by rfl), ?hyc2⟩) hS0c ?restc2
    case hyc2 =>
      intro W hW
      go_simp
      exact rfl
    simp only [List.getElem_toArray, List.getElem_cons_succ, List.getElem_cons_zero, Act.put, List.setIfInBounds_toArray, List.set_cons_zero, List.set_cons_succ]
    refine but_take (f := 10) (i := 3) (v := ?vc3) rfl (by kernel_rfl) (by kernel_rfl) (by kernel_rfl) (by kernel_rfl) (by kernel_rfl) (fun _ _ _ h => h) (Or.inl ⟨(by rfl), ?hyc3⟩) hS0c ?restc3
    case hyc3 =>
      intro W hW
      go_simp
      exact rfl
    simp only [List.getElem_toArray, List.getElem_cons_succ, List.getElem_cons_zero, Act.put, List.setIfInBounds_toArray, List.set_cons_zero, List.set_cons_succ]
    refine but_take (f := 10) (i := 4) (v := ?vc4) rfl (by kernel_rfl) (by kernel_rfl) (by kernel_rfl) (by kernel_rfl) (by kernel_rfl) (fun _ _ _ h => h) (Or.inl ⟨(by rfl), ?hyc4⟩) hS0c ?restc4
    case hyc4 =>
      intro W hW
      obtain ⟨x0, x1, x2, x3⟩ := box3M (box_on QV.out hW)
      go_simp
      exact rfl
    simp only [List.getElem_toArray, List.getElem_cons_succ, List.getElem_cons_zero, Act.put, List.setIfInBounds_toArray, List.set_cons_zero, List.set_cons_succ]
    refine but_take (f := 10) (i := 6) (v := ?vc6) rfl (by kernel_rfl) (by kernel_rfl) (by kernel_rfl) (by kernel_rfl) (by kernel_rfl) (fun _ _ _ h => h) (Or.inl ⟨(by rfl), ?hyc6⟩) hS0c ?restc6
    case hyc6 =>
      intro W hW
      obtain ⟨x0, x1, x2, x3⟩ := box3M (box_on QV.out hW)
      go_simp
      exact rfl
    simp only [List.getElem_toArray, List.getElem_cons_succ, List.getElem_cons_zero, Act.put, List.setIfInBounds_toArray, List.set_cons_zero, List.set_cons_succ]
    refine but_two (i := 1) (j := 7) (by kernel_rfl) rfl rfl (by rfl) (by rfl) ?_ ?_
    · simp only [List.getElem_toArray, List.getElem_cons_succ, List.getElem_cons_zero]
      intro K HK
      go_wp2_with fail
      refine (HX.out _ (bstep HB.out (hS0c))).mono ?_
      rintro r Vcp1 ⟨us, rfl, o1, hbcp1⟩
      have R1 := Lib.hid o1
      clear o1
      have hzrcp1 := (hS0c).size
      go_wp2_with fail
      have hScp1 : (fun V => Below wb.heap.size wb V) Vcp1 := bstep hS0c hbcp1
      refine HK.out _ _ (fun _ => hScp1) ?_
      clear HK
      have hzcp1 := hbcp1.size
      refine but_two (i := 5) (j := 7) (by kernel_rfl) rfl rfl (by rfl) (by rfl) ?_ ?_
      · simp only [List.getElem_toArray, List.getElem_cons_succ, List.getElem_cons_zero]
        intro K HK
        go_wp2_with fail
        refine (HPL.out _ (bstep HB.out (hScp1))).mono ?_
        rintro r Vcpp2 ⟨rfl, hbcpp2⟩
        go_wp2_with fail
        have hScpp2 : (fun V => Below wb.heap.size wb V) Vcpp2 := bstep hScp1 hbcpp2
        refine HK.out _ _ (fun _ => hScpp2) ?_
        clear HK
        have hzcpp2 := hbcpp2.size
        replace R1 := Lib.hid (R1.out.on hbcpp2)
        refine but_run (i := 7) (by kernel_rfl) rfl (by rfl) ?_
        simp only [List.getElem_toArray, List.getElem_cons_succ, List.getElem_cons_zero]
        intro K HK
        go_wp2_with fail
        have hScpp3 : (fun V => Below wb.heap.size wb V) (Vcpp2.alloc (.cells #[.string m.a, .bool m.f, .slice Am m.l.length cm] 53)) := bstep hScpp2 (bal1 _ _)
        refine HK.out _ _ (fun _ => hScpp3) ?_
        clear HK
        have hBcpp3 := bal1 Vcpp2 (.cells #[.string m.a, .bool m.f, .slice Am m.l.length cm] 53)
        have hzcpp3 : Vcpp2.heap.size + 1 ≤ (Vcpp2.alloc (.cells #[.string m.a, .bool m.f, .slice Am m.l.length cm] 53)).heap.size := by simp
        replace R1 := Lib.hid (R1.out.on hBcpp3)
        have QI := Lib.hid (al1 Vcpp2 (.cells #[.string m.a, .bool m.f, .slice Am m.l.length cm] 53))
        generalize Vcpp2.alloc (.cells #[.string m.a, .bool m.f, .slice Am m.l.length cm] 53) = Vncpp3 at *
        refine but_run (i := 8) (by kernel_rfl) rfl (by rfl) ?_
        simp only [List.getElem_toArray, List.getElem_cons_succ, List.getElem_cons_zero]
        intro K HK
        go_wp2_with fail
        refine (insert_any Udc.heap.size l.length p Vcpp2.heap.size Udc.heap.size l us m (.slice Am m.l.length cm) _ rfl R1.out QI.out rfl hple hln).mono ?_
        rintro r Vcpp4 ⟨v8, rfl, o8, p8, b8⟩
        have hgz := R1.out.2.2.1
        have O8 := Lib.hid o8
        have P8 := Lib.hid p8
        have B8 := Lib.hid ((hScpp3).trans (Below.mono b8 (by omega)))
        clear o8 p8 b8
        go_wp2_with fail
        have hScpp4 : (fun V => Below wb.heap.size wb V) Vcpp4 := B8.out
        refine HK.out _ _ (fun _ => hScpp4) ?_
        clear HK
        refine but_run (i := 9) (by kernel_rfl) rfl (by rfl) ?_
        simp only [List.getElem_toArray, List.getElem_cons_succ, List.getElem_cons_zero]
        intro K HK
        go_wp2_with fail
        have hScpp5 : (fun V => Below wb.heap.size wb V) (Vcpp4) := hScpp4
        refine HK.out _ _ (fun _ => hScpp5) ?_
        clear HK
        refine but_run (i := 10) (by kernel_rfl) rfl (by rfl) ?_
        simp only [List.getElem_toArray, List.getElem_cons_succ, List.getElem_cons_zero]
        intro K HK
        go_wp2_with fail
        refine HK.out _ _ (fun h => absurd rfl h) ?_
        clear HK
        refine but_done (by kernel_rfl) ?_
        go_wp2
        go_ret2
        refine ⟨v8, by rw [HA.out] <;> rfl, ?_, bstep HB.out (hScpp5)⟩
        rw [HA.out]
        exact InsM.owns (T := T) O8.out P8.out (HMU.out.on (bstep HB.out (hScpp5))) (fun b hb => by have := HTT.out b hb; omega) hple (fun b hb => .inl (by omega)) (fun b hb => .inr hb)
      · simp only [List.getElem_toArray, List.getElem_cons_succ, List.getElem_cons_zero]
        intro K HK
        go_wp2_with fail
        have hScpq2 : (fun V => Below wb.heap.size wb V) (Vcp1.alloc (.cells #[.string m.a, .bool m.f, .slice Am m.l.length cm] 53)) := bstep hScp1 (bal1 _ _)
        refine HK.out _ _ (fun _ => hScpq2) ?_
        clear HK
        have hBcpq2 := bal1 Vcp1 (.cells #[.string m.a, .bool m.f, .slice Am m.l.length cm] 53)
        have hzcpq2 : Vcp1.heap.size + 1 ≤ (Vcp1.alloc (.cells #[.string m.a, .bool m.f, .slice Am m.l.length cm] 53)).heap.size := by simp
        replace R1 := Lib.hid (R1.out.on hBcpq2)
        have QI := Lib.hid (al1 Vcp1 (.cells #[.string m.a, .bool m.f, .slice Am m.l.length cm] 53))
        generalize Vcp1.alloc (.cells #[.string m.a, .bool m.f, .slice Am m.l.length cm] 53) = Vncpq2 at *
        refine but_run (i := 5) (by kernel_rfl) rfl (by rfl) ?_
        simp only [List.getElem_toArray, List.getElem_cons_succ, List.getElem_cons_zero]
        intro K HK
        go_wp2_with fail
        refine (HPL.out _ (bstep HB.out (hScpq2))).mono ?_
        rintro r Vcpq3 ⟨rfl, hbcpq3⟩
        go_wp2_with fail
        have hScpq3 : (fun V => Below wb.heap.size wb V) Vcpq3 := bstep hScpq2 hbcpq3
        refine HK.out _ _ (fun _ => hScpq3) ?_
        clear HK
        have hzcpq3 := hbcpq3.size
        replace R1 := Lib.hid (R1.out.on hbcpq3)
        replace QI := Lib.hid (box_on QI.out hbcpq3)
        refine but_run (i := 8) (by kernel_rfl) rfl (by rfl) ?_
        simp only [List.getElem_toArray, List.getElem_cons_succ, List.getElem_cons_zero]
        intro K HK
        go_wp2_with fail
        refine (insert_any Udc.heap.size l.length p Vcp1.heap.size Udc.heap.size l us m (.slice Am m.l.length cm) _ rfl R1.out QI.out rfl hple hln).mono ?_
        rintro r Vcpq4 ⟨v8, rfl, o8, p8, b8⟩
        have hgz := R1.out.2.2.1
        have O8 := Lib.hid o8
        have P8 := Lib.hid p8
        have B8 := Lib.hid ((hScpq3).trans (Below.mono b8 (by omega)))
        clear o8 p8 b8
        go_wp2_with fail
        have hScpq4 : (fun V => Below wb.heap.size wb V) Vcpq4 := B8.out
        refine HK.out _ _ (fun _ => hScpq4) ?_
        clear HK
        refine but_run (i := 9) (by kernel_rfl) rfl (by rfl) ?_
        simp only [List.getElem_toArray, List.getElem_cons_succ, List.getElem_cons_zero]
        intro K HK
        go_wp2_with fail
        have hScpq5 : (fun V => Below wb.heap.size wb V) (Vcpq4) := hScpq4
        refine HK.out _ _ (fun _ => hScpq5) ?_
        clear HK
        refine but_run (i := 10) (by kernel_rfl) rfl (by rfl) ?_
        simp only [List.getElem_toArray, List.getElem_cons_succ, List.getElem_cons_zero]
        intro K HK
        go_wp2_with fail
        refine HK.out _ _ (fun h => absurd rfl h) ?_
        clear HK
        refine but_done (by kernel_rfl) ?_
        go_wp2
        go_ret2
        refine ⟨v8, by rw [HA.out] <;> rfl, ?_, bstep HB.out (hScpq5)⟩
        rw [HA.out]
        exact InsM.owns (T := T) O8.out P8.out (HMU.out.on (bstep HB.out (hScpq5))) (fun b hb => by have := HTT.out b hb; omega) hple (fun b hb => .inl (by omega)) (fun b hb => .inr hb)
    · simp only [List.getElem_toArray, List.getElem_cons_succ, List.getElem_cons_zero]
      intro K HK
      go_wp2_with fail
      have hScq1 : (fun V => Below wb.heap.size wb V) (Udc.alloc (.cells #[.string m.a, .bool m.f, .slice Am m.l.length cm] 53)) := bstep hS0c (bal1 _ _)
      refine HK.out _ _ (fun _ => hScq1) ?_
      clear HK
      have hBcq1 := bal1 Udc (.cells #[.string m.a, .bool m.f, .slice Am m.l.length cm] 53)
      have hzcq1 : Udc.heap.size + 1 ≤ (Udc.alloc (.cells #[.string m.a, .bool m.f, .slice Am m.l.length cm] 53)).heap.size := by simp
      have QI := Lib.hid (al1 Udc (.cells #[.string m.a, .bool m.f, .slice Am m.l.length cm] 53))
      generalize Udc.alloc (.cells #[.string m.a, .bool m.f, .slice Am m.l.length cm] 53) = Vncq1 at *
      refine but_run (i := 1) (by kernel_rfl) rfl (by rfl) ?_
      simp only [List.getElem_toArray, List.getElem_cons_succ, List.getElem_cons_zero]
      intro K HK
      go_wp2_with fail
      refine (HX.out _ (bstep HB.out (hScq1))).mono ?_
      rintro r Vcq2 ⟨us, rfl, o1, hbcq2⟩
      have R1 := Lib.hid o1
      clear o1
      have hzrcq2 := (hScq1).size
      go_wp2_with fail
      have hScq2 : (fun V => Below wb.heap.size wb V) Vcq2 := bstep hScq1 hbcq2
      refine HK.out _ _ (fun _ => hScq2) ?_
      clear HK
      have hzcq2 := hbcq2.size
      replace QI := Lib.hid (box_on QI.out hbcq2)
      refine but_run (i := 5) (by kernel_rfl) rfl (by rfl) ?_
      simp only [List.getElem_toArray, List.getElem_cons_succ, List.getElem_cons_zero]
      intro K HK
      go_wp2_with fail
      refine (HPL.out _ (bstep HB.out (hScq2))).mono ?_
      rintro r Vcq3 ⟨rfl, hbcq3⟩
      go_wp2_with fail
      have hScq3 : (fun V => Below wb.heap.size wb V) Vcq3 := bstep hScq2 hbcq3
      refine HK.out _ _ (fun _ => hScq3) ?_
      clear HK
      have hzcq3 := hbcq3.size
      replace QI := Lib.hid (box_on QI.out hbcq3)
      replace R1 := Lib.hid (R1.out.on hbcq3)
      refine but_run (i := 8) (by kernel_rfl) rfl (by rfl) ?_
      simp only [List.getElem_toArray, List.getElem_cons_succ, List.getElem_cons_zero]
      intro K HK
      go_wp2_with fail
      refine (insert_any Vncq1.heap.size l.length p Udc.heap.size Vncq1.heap.size l us m (.slice Am m.l.length cm) _ rfl R1.out QI.out rfl hple hln).mono ?_
      rintro r Vcq4 ⟨v8, rfl, o8, p8, b8⟩
      have hgz := R1.out.2.2.1
      have O8 := Lib.hid o8
      have P8 := Lib.hid p8
      have B8 := Lib.hid ((hScq3).trans (Below.mono b8 (by omega)))
      clear o8 p8 b8
      go_wp2_with fail
      have hScq4 : (fun V => Below wb.heap.size wb V) Vcq4 := B8.out
      refine HK.out _ _ (fun _ => hScq4) ?_
      clear HK
      refine but_run (i := 9) (by kernel_rfl) rfl (by rfl) ?_
      simp only [List.getElem_toArray, List.getElem_cons_succ, List.getElem_cons_zero]
      intro K HK
      go_wp2_with fail
      have hScq5 : (fun V => Below wb.heap.size wb V) (Vcq4) := hScq4
      refine HK.out _ _ (fun _ => hScq5) ?_
      clear HK
      refine but_run (i := 10) (by kernel_rfl) rfl (by rfl) ?_
      simp only [List.getElem_toArray, List.getElem_cons_succ, List.getElem_cons_zero]
      intro K HK
      go_wp2_with fail
      refine HK.out _ _ (fun h => absurd rfl h) ?_
      clear HK
      refine but_done (by kernel_rfl) ?_
      go_wp2
      go_ret2
      refine ⟨v8, by rw [HA.out] <;> rfl, ?_, bstep HB.out (hScq5)⟩
      rw [HA.out]
      exact InsM.owns (T := T) O8.out P8.out (HMU.out.on (bstep HB.out (hScq5))) (fun b hb => by have := HTT.out b hb; omega) hple (fun b hb => .inl (by omega)) (fun b hb => .inr hb)
end Go.Proofs.Ytcimpcocgmlmoaa
