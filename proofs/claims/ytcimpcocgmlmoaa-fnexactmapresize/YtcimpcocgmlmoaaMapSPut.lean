/- The contract for spec.l12Put: a Map put in order in a new row. Conditions: at most 1100000 Maps, letters and blocks. -/
import Derived.Test.YtcimpcocgmlmoaaMapPut
import Derived.Test.YtcimpcocgmlmoaaLast3
namespace Go.Proofs.Ytcimpcocgmlmoaa
open Go.RowKit
set_option maxRecDepth 100000
set_option linter.unusedSimpArgs false
set_option linter.unusedVariables false

set_option maxHeartbeats 8000000 in
theorem l12Put_any {t : TypeId} (va : Value) (l : List MapD) (m : MapD) (um : Value) (T : Nat → Prop) (w : World) (hv : Reads w w.heap.size va (mapsT t l)) (hs : SmallM l) (hu : Owns w T um (intsD m.l)) (hT : ∀ b, T b → b < w.heap.size) :
    Calls Try.prog 50 #[va, .agg #[.string m.a, .bool m.f, um]] w fun e w' => ∃ v, e = .returned v ∧ Owns w' (fun b => w.heap.size ≤ b ∨ T b) v (mapsT 53 (insM l (bubM l l.length m.a) m)) ∧ Below w.heap.size w w' := by
  obtain ⟨A, c, rfl, _, _⟩ := Reads.lenN hv
  have hln : l.length ≤ 1100000 := hs.1
  obtain ⟨Am, cm, rfl, _, _⟩ := Reads.lenN (show Reads w w.heap.size um (.row _ _ _ _) from hu.reads)
  have HMU := Lib.hid hu
  have HTT := Lib.hid hT
  have HX := Lib.hid (fun (W : World) (b : Below w.heap.size w W) => l12Copy_any _ l W (hv.on b) hs)
  have HB := Lib.hid (bal1 w (.cells #[.string m.a, .bool m.f, .slice Am m.l.length cm] 53))
  have QV := Lib.hid (al1 w (.cells #[.string m.a, .bool m.f, .slice Am m.l.length cm] 53))
  have hZ : (w.alloc (.cells #[.string m.a, .bool m.f, .slice Am m.l.length cm] 53)).heap.size = w.heap.size + 1 := by simp
  clear hv hu hT hs
  go_enter Try.func50, Try.ntmps50
  go_upto_region 1 with (fail)
  generalize w.alloc (.cells #[.string m.a, .bool m.f, .slice Am m.l.length cm] 53) = wb at *
  have hy1 := Nat.le_of_eq hZ
  have hy2 := Nat.le_of_eq hZ.symm
  clear hZ
  refine but_begin (f := 5) (S := fun V => Below wb.heap.size wb V) (by kernel_rfl) ?_
  have hS0c : Below wb.heap.size wb wb.drew := Below.drew1 _
  have hz0c : wb.heap.size ≤ wb.drew.heap.size := Nat.le_refl _
  generalize wb.drew = Udc at *
  refine but_take (f := 5) (i := 0) (v := ?vc0) rfl (by kernel_rfl) (by kernel_rfl) (by kernel_rfl) (by kernel_rfl) (by kernel_rfl) (fun _ _ _ h => h) (Or.inl ⟨(by rfl), ?hyc0⟩) hS0c ?restc0
  case hyc0 =>
    intro W hW
    go_simp
    exact rfl
  simp only [List.getElem_toArray, List.getElem_cons_succ, List.getElem_cons_zero, Act.put, List.setIfInBounds_toArray, List.set_cons_zero, List.set_cons_succ]
  refine but_take (f := 5) (i := 2) (v := ?vc2) rfl (by kernel_rfl) (by kernel_rfl) (by kernel_rfl) (by kernel_rfl) (by kernel_rfl) (fun _ _ _ h => h) (Or.inl ⟨(by rfl), ?hyc2⟩) hS0c ?restc2
  case hyc2 =>
    intro W hW
    obtain ⟨x0, x1, x2, x3⟩ := box3M (box_on QV.out hW)
    go_simp
    exact rfl
  simp only [List.getElem_toArray, List.getElem_cons_succ, List.getElem_cons_zero, Act.put, List.setIfInBounds_toArray, List.set_cons_zero, List.set_cons_succ]
  refine but_two (i := 1) (j := 3) (by kernel_rfl) rfl rfl (by rfl) (by rfl) ?_ ?_
  · simp only [List.getElem_toArray, List.getElem_cons_succ, List.getElem_cons_zero]
    intro K HK
    go_wp2_with fail
    refine (HX.out _ (bstep HB.out (hS0c))).mono ?_
    rintro r Vcp1 ⟨v1, rfl, o1, hbcp1⟩
    obtain ⟨us, hru⟩ := RowU.of o1
    have R1 := Lib.hid hru
    obtain ⟨A1, c1, hv1, _, _⟩ := Reads.lenN (show Reads _ _ v1 (.row _ _ _ _) from o1.reads)
    subst hv1
    clear o1 hru
    have hzrcp1 := (hS0c).size
    go_wp2_with fail
    have hScp1 : (fun V => Below wb.heap.size wb V) Vcp1 := bstep hS0c hbcp1
    refine HK.out _ _ (fun _ => hScp1) ?_
    clear HK
    have hzcp1 := hbcp1.size
    refine but_run (i := 3) (by kernel_rfl) rfl (by rfl) ?_
    simp only [List.getElem_toArray, List.getElem_cons_succ, List.getElem_cons_zero]
    intro K HK
    go_wp2_with fail
    have hScp2 : (fun V => Below wb.heap.size wb V) (Vcp1.alloc (.cells #[.string m.a, .bool m.f, .slice Am m.l.length cm] 53)) := bstep hScp1 (bal1 _ _)
    refine HK.out _ _ (fun _ => hScp2) ?_
    clear HK
    have hBcp2 := bal1 Vcp1 (.cells #[.string m.a, .bool m.f, .slice Am m.l.length cm] 53)
    have hzcp2 : Vcp1.heap.size + 1 ≤ (Vcp1.alloc (.cells #[.string m.a, .bool m.f, .slice Am m.l.length cm] 53)).heap.size := by simp
    replace R1 := Lib.hid (R1.out.on hBcp2)
    have AV := Lib.hid (At.lit3 Vcp1 (.string m.a) (.bool m.f) (.slice Am m.l.length cm) 53)
    generalize Vcp1.alloc (.cells #[.string m.a, .bool m.f, .slice Am m.l.length cm] 53) = Vncp2 at *
    refine but_run (i := 4) (by kernel_rfl) rfl (by rfl) ?_
    simp only [List.getElem_toArray, List.getElem_cons_succ, List.getElem_cons_zero]
    intro K HK
    refine operAppU _ (by rfl) (.tmp 8) (.tmp 10) (by rfl) Udc.heap.size _ l us (by rfl) R1.out (by omega) (some ⟨Vcp1.heap.size, 0, none⟩) 1 m (.slice Am m.l.length cm) (by rfl) AV.out rfl (by omega) ?_
    intro vcp3 Vcp3 ocp3 bcp3 gcp3 acp3
    obtain ⟨G2, e2, hG2⟩ := row_shape ocp3.1 (by omega)
    subst hG2
    have R2 := Lib.hid ocp3
    have hScp3 : (fun V => Below wb.heap.size wb V) Vcp3 := (hScp2).trans (Below.mono bcp3 (by omega))
    refine HK.out _ _ (fun _ => hScp3) ?_
    clear HK
    have hzcp3 := bcp3.size
    simp only [List.getElem_toArray, List.getElem_cons_succ, List.getElem_cons_zero, Act.put, List.setIfInBounds_toArray, List.set_cons_zero, List.set_cons_succ]
    refine but_run (i := 5) (by kernel_rfl) rfl (by rfl) ?_
    simp only [List.getElem_toArray, List.getElem_cons_succ, List.getElem_cons_zero]
    intro K HK
    go_wp2_with fail
    refine HK.out _ _ (fun h => absurd rfl h) ?_
    clear HK
    refine but_done (by kernel_rfl) ?_
    have HBB := Lib.hid (bstep HB.out (hScp3))
    have hRX := R2.out
    have QW := Lib.hid (box_on QV.out (hScp3))
    obtain ⟨hx1, hx2, hx3⟩ := hRX
    rcases row_cases hx1 with ⟨hx4, _⟩ | ⟨gq, cq, hx4, hbg, hRW, hcap, hmax, _⟩
    · cases hx4
    cases hx4
    have HU := Lib.hid hx2
    have HRW := Lib.hid hRW
    have hgW := Rw.lt hRW
    have HO := Lib.hid (hx3.mono (T := fun b => wb.heap.size ≤ b ∧ b ≠ G2) (fun b hb => ⟨by have := hb.1; omega, fun e => hb.2 (by rw [e]; rfl)⟩))
    have hgb : wb.heap.size ≤ G2 := by omega
    clear R2 QV HB HX hx1 hx2 hx3 hRW hbg
    generalize Vcp3 = W at *
    go_wp2
    generalize G2 = g at *
    generalize e2 = cap at *
    go_loopw [6] (fun i wr => ∃ (k : Nat) (x : MapD) (y : Value), k ≤ l.length ∧ i = .int .i64 k ∧ Hid (bubM l l.length m.a = bubM l k m.a) ∧ Hid (Rw wr g 53 3 (l.length + 1) cap (mvl (l.take k ++ x :: l.drop k) (us.take k ++ y :: us.drop k))) ∧ Hid (Below w.heap.size w wr) ∧ Hid (∀ b, b ≠ g → wr.heap[b]? = W.heap[b]?)) (fun i _ => (intOf i).toNat)
    case atStart => exact ⟨l.length, m, (.slice Am m.l.length cm), Nat.le_refl _, by go_num, Lib.hid rfl, Lib.hid (by have h1 := HRW.out; have h2 := put_end l m; have h3 := put_end us (.slice Am m.l.length cm); rw [HU.out] at h3; rw [h2, h3]; exact h1), HBB, Lib.hid (fun _ _ => rfl)⟩
    case round =>
      clear HRW HBB
      obtain ⟨k, x, y, hk, rfl, HI, HR, HW, HK⟩ := hrel
      have hzr := HW.out.size
      have hlen := put_len hk x
      have HLEN := Lib.hid hlen
      have HUL : Hid ((us.take k ++ y :: us.drop k).length = (l.take k ++ x :: l.drop k).length) := Lib.hid (by rw [hlen, put_len (by rw [HU.out]; exact hk), HU.out])
      have hgq : g ≠ w.heap.size := by omega
      have HQ : Hid (wr.heap[w.heap.size]? = some (.cells #[.string m.a, .bool m.f, .slice Am m.l.length cm] 53 (0, 0))) := Lib.hid ((HK.out _ (Ne.symm hgq)).trans QW.out)
      obtain ⟨q0, q1, q2, q3⟩ := box3M HQ.out
      have hgr : g < wr.heap.size := Rw.lt HR.out
      clear hlen
      by_cases h0 : k = 0
      · have HE := Lib.hid (show bubM l l.length m.a = k by rw [HI.out, h0]; rfl)
        have d1 : decide (0 < k) = false := decide_eq_false (by omega)
        go_upto_region 3 with (fail)
        refine but_begin (f := 12) (S := fun V => Below wr.drew.heap.size wr.drew V) (by kernel_rfl) ?_
        refine but_take (f := 12) (i := 0) (v := ?vrax0) rfl (by kernel_rfl) (by kernel_rfl) (by kernel_rfl) (by kernel_rfl) (by kernel_rfl) (fun _ _ _ h => h) (Or.inl ⟨(by rfl), ?hyrax0⟩) (Below.refl _ _) ?restrax0
        case hyrax0 =>
          intro W hW
          go_simp
          exact rfl
        simp only [List.getElem_toArray, List.getElem_cons_succ, List.getElem_cons_zero, Act.put, List.setIfInBounds_toArray, List.set_cons_zero, List.set_cons_succ]
        refine but_take (f := 12) (i := 1) (v := ?vrax1) rfl (by kernel_rfl) (by kernel_rfl) (by kernel_rfl) (by kernel_rfl) (by kernel_rfl) (fun _ _ _ h => h) (Or.inl ⟨(by rfl), ?hyrax1⟩) (Below.refl _ _) ?restrax1
        case hyrax1 =>
          intro W hW
          go_simp
          exact rfl
        simp only [List.getElem_toArray, List.getElem_cons_succ, List.getElem_cons_zero, Act.put, List.setIfInBounds_toArray, List.set_cons_zero, List.set_cons_succ]
        refine but_take (f := 12) (i := 2) (v := ?vrax2) rfl (by kernel_rfl) (by kernel_rfl) (by kernel_rfl) (by kernel_rfl) (by kernel_rfl) (fun _ _ _ h => h) (Or.inl ⟨(by rfl), ?hyrax2⟩) (Below.refl _ _) ?restrax2
        case hyrax2 =>
          intro W hW
          go_simp
          exact rfl
        simp only [List.getElem_toArray, List.getElem_cons_succ, List.getElem_cons_zero, Act.put, List.setIfInBounds_toArray, List.set_cons_zero, List.set_cons_succ]
        refine but_take (f := 12) (i := 3) (v := undef) rfl (by kernel_rfl) (by kernel_rfl) (by kernel_rfl) (by kernel_rfl) (by kernel_rfl) (fun _ _ _ h => h) (Or.inr ⟨((wanted_at rfl rfl rfl rfl).trans rfl), rfl⟩) (Below.refl _ _) ?_
        simp only [List.getElem_toArray, List.getElem_cons_succ, List.getElem_cons_zero, Act.put, List.setIfInBounds_toArray, List.set_cons_zero, List.set_cons_succ]
        refine but_take (f := 12) (i := 4) (v := undef) rfl (by kernel_rfl) (by kernel_rfl) (by kernel_rfl) (by kernel_rfl) (by kernel_rfl) (fun _ _ _ h => h) (Or.inr ⟨((wanted_at rfl rfl rfl rfl).trans rfl), rfl⟩) (Below.refl _ _) ?_
        simp only [List.getElem_toArray, List.getElem_cons_succ, List.getElem_cons_zero, Act.put, List.setIfInBounds_toArray, List.set_cons_zero, List.set_cons_succ]
        refine but_take (f := 12) (i := 5) (v := undef) rfl (by kernel_rfl) (by kernel_rfl) (by kernel_rfl) (by kernel_rfl) (by kernel_rfl) (fun _ _ _ h => h) (Or.inr ⟨((wanted_at rfl rfl rfl rfl).trans rfl), rfl⟩) (Below.refl _ _) ?_
        simp only [List.getElem_toArray, List.getElem_cons_succ, List.getElem_cons_zero, Act.put, List.setIfInBounds_toArray, List.set_cons_zero, List.set_cons_succ]
        refine but_take (f := 12) (i := 6) (v := undef) rfl (by kernel_rfl) (by kernel_rfl) (by kernel_rfl) (by kernel_rfl) (by kernel_rfl) (fun _ _ _ h => h) (Or.inr ⟨((wanted_at rfl rfl rfl rfl).trans rfl), rfl⟩) (Below.refl _ _) ?_
        simp only [List.getElem_toArray, List.getElem_cons_succ, List.getElem_cons_zero, Act.put, List.setIfInBounds_toArray, List.set_cons_zero, List.set_cons_succ]
        refine but_take (f := 12) (i := 7) (v := undef) rfl (by kernel_rfl) (by kernel_rfl) (by kernel_rfl) (by kernel_rfl) (by kernel_rfl) (fun _ _ _ h => h) (Or.inr ⟨((wanted_at rfl rfl rfl rfl).trans rfl), rfl⟩) (Below.refl _ _) ?_
        simp only [List.getElem_toArray, List.getElem_cons_succ, List.getElem_cons_zero, Act.put, List.setIfInBounds_toArray, List.set_cons_zero, List.set_cons_succ]
        refine but_take (f := 12) (i := 8) (v := undef) rfl (by kernel_rfl) (by kernel_rfl) (by kernel_rfl) (by kernel_rfl) (by kernel_rfl) (fun _ _ _ h => h) (Or.inr ⟨((wanted_at rfl rfl rfl rfl).trans rfl), rfl⟩) (Below.refl _ _) ?_
        simp only [List.getElem_toArray, List.getElem_cons_succ, List.getElem_cons_zero, Act.put, List.setIfInBounds_toArray, List.set_cons_zero, List.set_cons_succ]
        refine but_take (f := 12) (i := 9) (v := undef) rfl (by kernel_rfl) (by kernel_rfl) (by kernel_rfl) (by kernel_rfl) (by kernel_rfl) (fun _ _ _ h => h) (Or.inr ⟨((wanted_at rfl rfl rfl rfl).trans rfl), rfl⟩) (Below.refl _ _) ?_
        simp only [List.getElem_toArray, List.getElem_cons_succ, List.getElem_cons_zero, Act.put, List.setIfInBounds_toArray, List.set_cons_zero, List.set_cons_succ]
        refine but_take (f := 12) (i := 10) (v := undef) rfl (by kernel_rfl) (by kernel_rfl) (by kernel_rfl) (by kernel_rfl) (by kernel_rfl) (fun _ _ _ h => h) (Or.inr ⟨((wanted_at rfl rfl rfl rfl).trans rfl), rfl⟩) (Below.refl _ _) ?_
        simp only [List.getElem_toArray, List.getElem_cons_succ, List.getElem_cons_zero, Act.put, List.setIfInBounds_toArray, List.set_cons_zero, List.set_cons_succ]
        refine but_take (f := 12) (i := 11) (v := undef) rfl (by kernel_rfl) (by kernel_rfl) (by kernel_rfl) (by kernel_rfl) (by kernel_rfl) (fun _ _ _ h => h) (Or.inr ⟨((wanted_at rfl rfl rfl rfl).trans rfl), rfl⟩) (Below.refl _ _) ?_
        simp only [List.getElem_toArray, List.getElem_cons_succ, List.getElem_cons_zero, Act.put, List.setIfInBounds_toArray, List.set_cons_zero, List.set_cons_succ]
        refine but_run (i := 12) (by kernel_rfl) rfl (by rfl) ?_
        simp only [List.getElem_toArray, List.getElem_cons_succ, List.getElem_cons_zero]
        intro K HK
        go_wp2_with fail
        refine HK.out _ wr.drew (fun h => absurd rfl h) ?_
        clear HK
        refine but_done (by kernel_rfl) ?_
        replace HR := Lib.hid (HR.out.keep (w' := wr.drew) rfl)
        replace HQ := Lib.hid (box_on HQ.out (Below.drew1 _))
        replace HW := Lib.hid (bstep HW.out (Below.drew1 _))
        replace HK : Hid (∀ b, b ≠ g → wr.drew.heap[b]? = W.heap[b]?) := Lib.hid (fun b hb => HK.out b hb)
        generalize wr.drew = wd at *
        obtain ⟨q0, q1, q2, q3⟩ := box3M HQ.out
        obtain ⟨a0, a1, a2⟩ := Rw.getM HR.out HUL.out HLEN.out (j := k) (by omega)
        obtain ⟨u0, hu0⟩ : ∃ y, wd.cell? ⟨g, k * 3, none⟩ = some y := ⟨_, a0⟩
        obtain ⟨u1, hu1⟩ : ∃ y, wd.cell? ⟨g, k * 3 + 1, none⟩ = some y := ⟨_, a1⟩
        obtain ⟨u2, hu2⟩ : ∃ y, wd.cell? ⟨g, k * 3 + 2, none⟩ = some y := ⟨_, a2⟩
        have f0 := Rw.frozen HR.out (k * 3)
        have f1 := Rw.frozen HR.out (k * 3 + 1)
        have f2 := Rw.frozen HR.out (k * 3 + 2)
        clear a0 a1 a2
        clear h0 d1
        have j1 : (k : Int) < (l.length : Int) + 1 := by omega
        have j2 : (0 : Int) ≤ (k : Int) := by omega
        go_wp2
        go_ret
        have hR2 := Rw.setM HR.out HUL.out (k := k) (by rw [HLEN.out]; omega) m (.slice Am m.l.length cm)
        rw [put_last (by omega), put_last (by rw [HU.out]; omega)] at hR2
        refine ⟨_, rfl, ?_, ?_⟩
        · rw [HE.out]
          have hil := insM_len l k m (by omega)
          have hko := far3 wd g (k * 3) (k * 3 + 1) (k * 3 + 2) (.string m.a) (.bool m.f) (.slice Am m.l.length cm)
          have hoo : OwnsL (((wd.setCell ⟨g, k * 3, none⟩ (.string m.a)).setCell ⟨g, k * 3 + 1, none⟩ (.bool m.f)).setCell ⟨g, k * 3 + 2, none⟩ (.slice Am m.l.length cm)) (fun b => wb.heap.size ≤ b ∧ b ≠ g) us (l.map mapI) := HO.out.keep (fun b hb _ => (hko b hb.2).trans (HK.out b hb.2))
          have hmm : Owns (((wd.setCell ⟨g, k * 3, none⟩ (.string m.a)).setCell ⟨g, k * 3 + 1, none⟩ (.bool m.f)).setCell ⟨g, k * 3 + 2, none⟩ (.slice Am m.l.length cm)) T (.slice Am m.l.length cm) (intsD m.l) := HMU.out.keep (fun b hb hl => (hko b (by omega)).trans (HW.out.block b hl))
          have hins := OwnsL.ins (U := fun b => (w.heap.size ≤ b ∨ T b) ∧ b ≠ g) k hoo hmm (by omega) (fun b hb => ⟨.inl (by omega), hb.2⟩) (fun b hb => ⟨.inr hb, by have := HTT.out b hb; omega⟩) (fun b hb hb' => by have := HTT.out b hb'; have := hb.1; omega)
          have hrr : Rw (((wd.setCell ⟨g, k * 3, none⟩ (.string m.a)).setCell ⟨g, k * 3 + 1, none⟩ (.bool m.f)).setCell ⟨g, k * 3 + 2, none⟩ (.slice Am m.l.length cm)) g 53 3 (insM l k m).length cap (mvl (insM l k m) (us.take k ++ (.slice Am m.l.length cm) :: us.drop k)) := by
            rw [hil]
            exact hR2
          have hh := Rw.maps (S := fun b => w.heap.size ≤ b ∨ T b) hrr (.inl (by omega)) (by omega) hmax hins
          rw [hil] at hh
          exact hh
        · exact bsM HW.out (by show w.heap.size ≤ g; omega)
      · obtain ⟨j, hj0⟩ : ∃ j, k = j + 1 := ⟨k - 1, by omega⟩
        have HJ := Lib.hid hj0
        have d1 : decide (0 < k) = true := decide_eq_true (by omega)
        have hj : j < l.length := by omega
        have hjk : j < k := by omega
        obtain ⟨y0, y1, y2⟩ := Rw.getM HR.out HUL.out HLEN.out (j := j) (by omega)
        rw [put_get hjk hk] at y0
        have i1 : (j : Int) < (l.length : Int) + 1 := by omega
        have i2 : (0 : Int) ≤ (j : Int) := by omega
        have i4 : IntKind.i64.wrap ((k : Int) - 1) = (j : Int) := by rw [IntKind.wrap_i64]; omega
        have hjn : k - 1 = j := by omega
        clear hj0 y1 y2
        cases hs : Go.Op.bytesLess m.a.toList l[j].a.toList
        · have HE := Lib.hid (show bubM l l.length m.a = k by rw [HI.out, HJ.out, bubM_stop hj hs])
          have h3 := gt_cases hs
          clear hs
          rcases h3 with z1 | h3
          · skip
            go_upto_region 3 with (fail)
            refine but_begin (f := 12) (S := fun V => Below wr.drew.heap.size wr.drew V) (by kernel_rfl) ?_
            refine but_take (f := 12) (i := 0) (v := ?vrbx0) rfl (by kernel_rfl) (by kernel_rfl) (by kernel_rfl) (by kernel_rfl) (by kernel_rfl) (fun _ _ _ h => h) (Or.inl ⟨(by rfl), ?hyrbx0⟩) (Below.refl _ _) ?restrbx0
            case hyrbx0 =>
              intro W hW
              go_simp
              exact rfl
            simp only [List.getElem_toArray, List.getElem_cons_succ, List.getElem_cons_zero, Act.put, List.setIfInBounds_toArray, List.set_cons_zero, List.set_cons_succ]
            refine but_take (f := 12) (i := 1) (v := ?vrbx1) rfl (by kernel_rfl) (by kernel_rfl) (by kernel_rfl) (by kernel_rfl) (by kernel_rfl) (fun _ _ _ h => h) (Or.inl ⟨(by rfl), ?hyrbx1⟩) (Below.refl _ _) ?restrbx1
            case hyrbx1 =>
              intro W hW
              go_simp
              exact rfl
            simp only [List.getElem_toArray, List.getElem_cons_succ, List.getElem_cons_zero, Act.put, List.setIfInBounds_toArray, List.set_cons_zero, List.set_cons_succ]
            refine but_take (f := 12) (i := 2) (v := ?vrbx2) rfl (by kernel_rfl) (by kernel_rfl) (by kernel_rfl) (by kernel_rfl) (by kernel_rfl) (fun _ _ _ h => h) (Or.inl ⟨(by rfl), ?hyrbx2⟩) (Below.refl _ _) ?restrbx2
            case hyrbx2 =>
              intro W hW
              go_simp
              exact rfl
            simp only [List.getElem_toArray, List.getElem_cons_succ, List.getElem_cons_zero, Act.put, List.setIfInBounds_toArray, List.set_cons_zero, List.set_cons_succ]
            refine but_take (f := 12) (i := 3) (v := ?vrbx3) rfl (by kernel_rfl) (by kernel_rfl) (by kernel_rfl) (by kernel_rfl) (by kernel_rfl) (fun _ _ _ h => h) (Or.inl ⟨((wanted_at rfl rfl rfl rfl).trans rfl), ?hyrbx3⟩) (Below.refl _ _) ?restrbx3
            case hyrbx3 =>
              intro W hW
              go_simp
              exact rfl
            simp only [List.getElem_toArray, List.getElem_cons_succ, List.getElem_cons_zero, Act.put, List.setIfInBounds_toArray, List.set_cons_zero, List.set_cons_succ]
            refine but_take (f := 12) (i := 4) (v := ?vrbx4) rfl (by kernel_rfl) (by kernel_rfl) (by kernel_rfl) (by kernel_rfl) (by kernel_rfl) (fun _ _ _ h => h) (Or.inl ⟨((wanted_at rfl rfl rfl rfl).trans rfl), ?hyrbx4⟩) (Below.refl _ _) ?restrbx4
            case hyrbx4 =>
              intro W hW
              go_simp
              exact rfl
            simp only [List.getElem_toArray, List.getElem_cons_succ, List.getElem_cons_zero, Act.put, List.setIfInBounds_toArray, List.set_cons_zero, List.set_cons_succ]
            refine but_take (f := 12) (i := 5) (v := ?vrbx5) rfl (by kernel_rfl) (by kernel_rfl) (by kernel_rfl) (by kernel_rfl) (by kernel_rfl) (fun _ _ _ h => h) (Or.inl ⟨((wanted_at rfl rfl rfl rfl).trans rfl), ?hyrbx5⟩) (Below.refl _ _) ?restrbx5
            case hyrbx5 =>
              intro W hW
              go_simp
              exact rfl
            simp only [List.getElem_toArray, List.getElem_cons_succ, List.getElem_cons_zero, Act.put, List.setIfInBounds_toArray, List.set_cons_zero, List.set_cons_succ]
            refine but_take (f := 12) (i := 6) (v := ?vrbx6) rfl (by kernel_rfl) (by kernel_rfl) (by kernel_rfl) (by kernel_rfl) (by kernel_rfl) (fun _ _ _ h => h) (Or.inl ⟨((wanted_at rfl rfl rfl rfl).trans rfl), ?hyrbx6⟩) (Below.refl _ _) ?restrbx6
            case hyrbx6 =>
              intro W hW
              go_simp
              exact rfl
            simp only [List.getElem_toArray, List.getElem_cons_succ, List.getElem_cons_zero, Act.put, List.setIfInBounds_toArray, List.set_cons_zero, List.set_cons_succ]
            refine but_take (f := 12) (i := 7) (v := ?vrbx7) rfl (by kernel_rfl) (by kernel_rfl) (by kernel_rfl) (by kernel_rfl) (by kernel_rfl) (fun _ _ _ h => h) (Or.inl ⟨((wanted_at rfl rfl rfl rfl).trans rfl), ?hyrbx7⟩) (Below.refl _ _) ?restrbx7
            case hyrbx7 =>
              intro W hW
              go_simp
              exact rfl
            simp only [List.getElem_toArray, List.getElem_cons_succ, List.getElem_cons_zero, Act.put, List.setIfInBounds_toArray, List.set_cons_zero, List.set_cons_succ]
            refine but_take (f := 12) (i := 8) (v := ?vrbx8) rfl (by kernel_rfl) (by kernel_rfl) (by kernel_rfl) (by kernel_rfl) (by kernel_rfl) (fun _ _ _ h => h) (Or.inl ⟨((wanted_at rfl rfl rfl rfl).trans rfl), ?hyrbx8⟩) (Below.refl _ _) ?restrbx8
            case hyrbx8 =>
              intro W hW
              have hb0 : Below wr.heap.size wr W := bstep (Below.drew1 _) hW
              have z0 := (hb0.cell (p := ⟨g, j * 3, none⟩) hgr).trans y0
              go_simp
              exact rfl
            simp only [List.getElem_toArray, List.getElem_cons_succ, List.getElem_cons_zero, Act.put, List.setIfInBounds_toArray, List.set_cons_zero, List.set_cons_succ]
            refine but_take (f := 12) (i := 9) (v := ?vrbx9) rfl (by kernel_rfl) (by kernel_rfl) (by kernel_rfl) (by kernel_rfl) (by kernel_rfl) (fun _ _ _ h => h) (Or.inl ⟨((wanted_at rfl rfl rfl rfl).trans rfl), ?hyrbx9⟩) (Below.refl _ _) ?restrbx9
            case hyrbx9 =>
              intro W hW
              go_simp
              exact rfl
            simp only [List.getElem_toArray, List.getElem_cons_succ, List.getElem_cons_zero, Act.put, List.setIfInBounds_toArray, List.set_cons_zero, List.set_cons_succ]
            refine but_take (f := 12) (i := 10) (v := ?vrbx10) rfl (by kernel_rfl) (by kernel_rfl) (by kernel_rfl) (by kernel_rfl) (by kernel_rfl) (fun _ _ _ h => h) (Or.inl ⟨((wanted_at rfl rfl rfl rfl).trans rfl), ?hyrbx10⟩) (Below.refl _ _) ?restrbx10
            case hyrbx10 =>
              intro W hW
              have hb0 : Below wr.heap.size wr W := bstep (Below.drew1 _) hW
              obtain ⟨q0, q1, q2, q3⟩ := box3M (box_on HQ.out hb0)
              go_simp
              exact rfl
            simp only [List.getElem_toArray, List.getElem_cons_succ, List.getElem_cons_zero, Act.put, List.setIfInBounds_toArray, List.set_cons_zero, List.set_cons_succ]
            refine but_take (f := 12) (i := 11) (v := ?vrbx11) rfl (by kernel_rfl) (by kernel_rfl) (by kernel_rfl) (by kernel_rfl) (by kernel_rfl) (fun _ _ _ h => h) (Or.inl ⟨((wanted_at rfl rfl rfl rfl).trans rfl), ?hyrbx11⟩) (Below.refl _ _) ?restrbx11
            case hyrbx11 =>
              intro W hW
              go_simp
              exact rfl
            simp only [List.getElem_toArray, List.getElem_cons_succ, List.getElem_cons_zero, Act.put, List.setIfInBounds_toArray, List.set_cons_zero, List.set_cons_succ]
            refine but_run (i := 12) (by kernel_rfl) rfl (by rfl) ?_
            simp only [List.getElem_toArray, List.getElem_cons_succ, List.getElem_cons_zero]
            intro K HK
            go_wp2_with fail
            refine HK.out _ wr.drew (fun h => absurd rfl h) ?_
            clear HK
            refine but_done (by kernel_rfl) ?_
            replace HR := Lib.hid (HR.out.keep (w' := wr.drew) rfl)
            replace HQ := Lib.hid (box_on HQ.out (Below.drew1 _))
            replace HW := Lib.hid (bstep HW.out (Below.drew1 _))
            replace HK : Hid (∀ b, b ≠ g → wr.drew.heap[b]? = W.heap[b]?) := Lib.hid (fun b hb => HK.out b hb)
            generalize wr.drew = wd at *
            obtain ⟨q0, q1, q2, q3⟩ := box3M HQ.out
            obtain ⟨a0, a1, a2⟩ := Rw.getM HR.out HUL.out HLEN.out (j := k) (by omega)
            obtain ⟨u0, hu0⟩ : ∃ y, wd.cell? ⟨g, k * 3, none⟩ = some y := ⟨_, a0⟩
            obtain ⟨u1, hu1⟩ : ∃ y, wd.cell? ⟨g, k * 3 + 1, none⟩ = some y := ⟨_, a1⟩
            obtain ⟨u2, hu2⟩ : ∃ y, wd.cell? ⟨g, k * 3 + 2, none⟩ = some y := ⟨_, a2⟩
            have f0 := Rw.frozen HR.out (k * 3)
            have f1 := Rw.frozen HR.out (k * 3 + 1)
            have f2 := Rw.frozen HR.out (k * 3 + 2)
            clear a0 a1 a2
            clear h0 d1 hjn i4 z1 y0
            have j1 : (k : Int) < (l.length : Int) + 1 := by omega
            have j2 : (0 : Int) ≤ (k : Int) := by omega
            go_wp2
            go_ret
            have hR2 := Rw.setM HR.out HUL.out (k := k) (by rw [HLEN.out]; omega) m (.slice Am m.l.length cm)
            rw [put_last (by omega), put_last (by rw [HU.out]; omega)] at hR2
            refine ⟨_, rfl, ?_, ?_⟩
            · rw [HE.out]
              have hil := insM_len l k m (by omega)
              have hko := far3 wd g (k * 3) (k * 3 + 1) (k * 3 + 2) (.string m.a) (.bool m.f) (.slice Am m.l.length cm)
              have hoo : OwnsL (((wd.setCell ⟨g, k * 3, none⟩ (.string m.a)).setCell ⟨g, k * 3 + 1, none⟩ (.bool m.f)).setCell ⟨g, k * 3 + 2, none⟩ (.slice Am m.l.length cm)) (fun b => wb.heap.size ≤ b ∧ b ≠ g) us (l.map mapI) := HO.out.keep (fun b hb _ => (hko b hb.2).trans (HK.out b hb.2))
              have hmm : Owns (((wd.setCell ⟨g, k * 3, none⟩ (.string m.a)).setCell ⟨g, k * 3 + 1, none⟩ (.bool m.f)).setCell ⟨g, k * 3 + 2, none⟩ (.slice Am m.l.length cm)) T (.slice Am m.l.length cm) (intsD m.l) := HMU.out.keep (fun b hb hl => (hko b (by omega)).trans (HW.out.block b hl))
              have hins := OwnsL.ins (U := fun b => (w.heap.size ≤ b ∨ T b) ∧ b ≠ g) k hoo hmm (by omega) (fun b hb => ⟨.inl (by omega), hb.2⟩) (fun b hb => ⟨.inr hb, by have := HTT.out b hb; omega⟩) (fun b hb hb' => by have := HTT.out b hb'; have := hb.1; omega)
              have hrr : Rw (((wd.setCell ⟨g, k * 3, none⟩ (.string m.a)).setCell ⟨g, k * 3 + 1, none⟩ (.bool m.f)).setCell ⟨g, k * 3 + 2, none⟩ (.slice Am m.l.length cm)) g 53 3 (insM l k m).length cap (mvl (insM l k m) (us.take k ++ (.slice Am m.l.length cm) :: us.drop k)) := by
                rw [hil]
                exact hR2
              have hh := Rw.maps (S := fun b => w.heap.size ≤ b ∨ T b) hrr (.inl (by omega)) (by omega) hmax hins
              rw [hil] at hh
              exact hh
            · exact bsM HW.out (by show w.heap.size ≤ g; omega)
          · have z1 : Go.Op.bytesLess l[j].a.toList m.a.toList = false := by rw [h3]; exact blessM_irr _
            have z2 : (l[j].a.toList == m.a.toList) = true := by rw [h3]; exact beq_self_eq_true _
            clear h3
            go_upto_region 3 with (fail)
            refine but_begin (f := 12) (S := fun V => Below wr.drew.heap.size wr.drew V) (by kernel_rfl) ?_
            refine but_take (f := 12) (i := 0) (v := ?vrdx0) rfl (by kernel_rfl) (by kernel_rfl) (by kernel_rfl) (by kernel_rfl) (by kernel_rfl) (fun _ _ _ h => h) (Or.inl ⟨(by rfl), ?hyrdx0⟩) (Below.refl _ _) ?restrdx0
            case hyrdx0 =>
              intro W hW
              go_simp
              exact rfl
            simp only [List.getElem_toArray, List.getElem_cons_succ, List.getElem_cons_zero, Act.put, List.setIfInBounds_toArray, List.set_cons_zero, List.set_cons_succ]
            refine but_take (f := 12) (i := 1) (v := ?vrdx1) rfl (by kernel_rfl) (by kernel_rfl) (by kernel_rfl) (by kernel_rfl) (by kernel_rfl) (fun _ _ _ h => h) (Or.inl ⟨(by rfl), ?hyrdx1⟩) (Below.refl _ _) ?restrdx1
            case hyrdx1 =>
              intro W hW
              go_simp
              exact rfl
            simp only [List.getElem_toArray, List.getElem_cons_succ, List.getElem_cons_zero, Act.put, List.setIfInBounds_toArray, List.set_cons_zero, List.set_cons_succ]
            refine but_take (f := 12) (i := 2) (v := ?vrdx2) rfl (by kernel_rfl) (by kernel_rfl) (by kernel_rfl) (by kernel_rfl) (by kernel_rfl) (fun _ _ _ h => h) (Or.inl ⟨(by rfl), ?hyrdx2⟩) (Below.refl _ _) ?restrdx2
            case hyrdx2 =>
              intro W hW
              go_simp
              exact rfl
            simp only [List.getElem_toArray, List.getElem_cons_succ, List.getElem_cons_zero, Act.put, List.setIfInBounds_toArray, List.set_cons_zero, List.set_cons_succ]
            refine but_take (f := 12) (i := 3) (v := ?vrdx3) rfl (by kernel_rfl) (by kernel_rfl) (by kernel_rfl) (by kernel_rfl) (by kernel_rfl) (fun _ _ _ h => h) (Or.inl ⟨((wanted_at rfl rfl rfl rfl).trans rfl), ?hyrdx3⟩) (Below.refl _ _) ?restrdx3
            case hyrdx3 =>
              intro W hW
              go_simp
              exact rfl
            simp only [List.getElem_toArray, List.getElem_cons_succ, List.getElem_cons_zero, Act.put, List.setIfInBounds_toArray, List.set_cons_zero, List.set_cons_succ]
            refine but_take (f := 12) (i := 4) (v := ?vrdx4) rfl (by kernel_rfl) (by kernel_rfl) (by kernel_rfl) (by kernel_rfl) (by kernel_rfl) (fun _ _ _ h => h) (Or.inl ⟨((wanted_at rfl rfl rfl rfl).trans rfl), ?hyrdx4⟩) (Below.refl _ _) ?restrdx4
            case hyrdx4 =>
              intro W hW
              go_simp
              exact rfl
            simp only [List.getElem_toArray, List.getElem_cons_succ, List.getElem_cons_zero, Act.put, List.setIfInBounds_toArray, List.set_cons_zero, List.set_cons_succ]
            refine but_take (f := 12) (i := 5) (v := ?vrdx5) rfl (by kernel_rfl) (by kernel_rfl) (by kernel_rfl) (by kernel_rfl) (by kernel_rfl) (fun _ _ _ h => h) (Or.inl ⟨((wanted_at rfl rfl rfl rfl).trans rfl), ?hyrdx5⟩) (Below.refl _ _) ?restrdx5
            case hyrdx5 =>
              intro W hW
              go_simp
              exact rfl
            simp only [List.getElem_toArray, List.getElem_cons_succ, List.getElem_cons_zero, Act.put, List.setIfInBounds_toArray, List.set_cons_zero, List.set_cons_succ]
            refine but_take (f := 12) (i := 6) (v := ?vrdx6) rfl (by kernel_rfl) (by kernel_rfl) (by kernel_rfl) (by kernel_rfl) (by kernel_rfl) (fun _ _ _ h => h) (Or.inl ⟨((wanted_at rfl rfl rfl rfl).trans rfl), ?hyrdx6⟩) (Below.refl _ _) ?restrdx6
            case hyrdx6 =>
              intro W hW
              go_simp
              exact rfl
            simp only [List.getElem_toArray, List.getElem_cons_succ, List.getElem_cons_zero, Act.put, List.setIfInBounds_toArray, List.set_cons_zero, List.set_cons_succ]
            refine but_take (f := 12) (i := 7) (v := ?vrdx7) rfl (by kernel_rfl) (by kernel_rfl) (by kernel_rfl) (by kernel_rfl) (by kernel_rfl) (fun _ _ _ h => h) (Or.inl ⟨((wanted_at rfl rfl rfl rfl).trans rfl), ?hyrdx7⟩) (Below.refl _ _) ?restrdx7
            case hyrdx7 =>
              intro W hW
              go_simp
              exact rfl
            simp only [List.getElem_toArray, List.getElem_cons_succ, List.getElem_cons_zero, Act.put, List.setIfInBounds_toArray, List.set_cons_zero, List.set_cons_succ]
            refine but_take (f := 12) (i := 8) (v := ?vrdx8) rfl (by kernel_rfl) (by kernel_rfl) (by kernel_rfl) (by kernel_rfl) (by kernel_rfl) (fun _ _ _ h => h) (Or.inl ⟨((wanted_at rfl rfl rfl rfl).trans rfl), ?hyrdx8⟩) (Below.refl _ _) ?restrdx8
            case hyrdx8 =>
              intro W hW
              have hb0 : Below wr.heap.size wr W := bstep (Below.drew1 _) hW
              have z0 := (hb0.cell (p := ⟨g, j * 3, none⟩) hgr).trans y0
              go_simp
              exact rfl
            simp only [List.getElem_toArray, List.getElem_cons_succ, List.getElem_cons_zero, Act.put, List.setIfInBounds_toArray, List.set_cons_zero, List.set_cons_succ]
            refine but_take (f := 12) (i := 9) (v := ?vrdx9) rfl (by kernel_rfl) (by kernel_rfl) (by kernel_rfl) (by kernel_rfl) (by kernel_rfl) (fun _ _ _ h => h) (Or.inl ⟨((wanted_at rfl rfl rfl rfl).trans rfl), ?hyrdx9⟩) (Below.refl _ _) ?restrdx9
            case hyrdx9 =>
              intro W hW
              go_simp
              exact rfl
            simp only [List.getElem_toArray, List.getElem_cons_succ, List.getElem_cons_zero, Act.put, List.setIfInBounds_toArray, List.set_cons_zero, List.set_cons_succ]
            refine but_take (f := 12) (i := 10) (v := ?vrdx10) rfl (by kernel_rfl) (by kernel_rfl) (by kernel_rfl) (by kernel_rfl) (by kernel_rfl) (fun _ _ _ h => h) (Or.inl ⟨((wanted_at rfl rfl rfl rfl).trans rfl), ?hyrdx10⟩) (Below.refl _ _) ?restrdx10
            case hyrdx10 =>
              intro W hW
              have hb0 : Below wr.heap.size wr W := bstep (Below.drew1 _) hW
              obtain ⟨q0, q1, q2, q3⟩ := box3M (box_on HQ.out hb0)
              go_simp
              exact rfl
            simp only [List.getElem_toArray, List.getElem_cons_succ, List.getElem_cons_zero, Act.put, List.setIfInBounds_toArray, List.set_cons_zero, List.set_cons_succ]
            refine but_take (f := 12) (i := 11) (v := ?vrdx11) rfl (by kernel_rfl) (by kernel_rfl) (by kernel_rfl) (by kernel_rfl) (by kernel_rfl) (fun _ _ _ h => h) (Or.inl ⟨((wanted_at rfl rfl rfl rfl).trans rfl), ?hyrdx11⟩) (Below.refl _ _) ?restrdx11
            case hyrdx11 =>
              intro W hW
              go_simp
              exact rfl
            simp only [List.getElem_toArray, List.getElem_cons_succ, List.getElem_cons_zero, Act.put, List.setIfInBounds_toArray, List.set_cons_zero, List.set_cons_succ]
            refine but_run (i := 12) (by kernel_rfl) rfl (by rfl) ?_
            simp only [List.getElem_toArray, List.getElem_cons_succ, List.getElem_cons_zero]
            intro K HK
            go_wp2_with fail
            refine HK.out _ wr.drew (fun h => absurd rfl h) ?_
            clear HK
            refine but_done (by kernel_rfl) ?_
            replace HR := Lib.hid (HR.out.keep (w' := wr.drew) rfl)
            replace HQ := Lib.hid (box_on HQ.out (Below.drew1 _))
            replace HW := Lib.hid (bstep HW.out (Below.drew1 _))
            replace HK : Hid (∀ b, b ≠ g → wr.drew.heap[b]? = W.heap[b]?) := Lib.hid (fun b hb => HK.out b hb)
            generalize wr.drew = wd at *
            obtain ⟨q0, q1, q2, q3⟩ := box3M HQ.out
            obtain ⟨a0, a1, a2⟩ := Rw.getM HR.out HUL.out HLEN.out (j := k) (by omega)
            obtain ⟨u0, hu0⟩ : ∃ y, wd.cell? ⟨g, k * 3, none⟩ = some y := ⟨_, a0⟩
            obtain ⟨u1, hu1⟩ : ∃ y, wd.cell? ⟨g, k * 3 + 1, none⟩ = some y := ⟨_, a1⟩
            obtain ⟨u2, hu2⟩ : ∃ y, wd.cell? ⟨g, k * 3 + 2, none⟩ = some y := ⟨_, a2⟩
            have f0 := Rw.frozen HR.out (k * 3)
            have f1 := Rw.frozen HR.out (k * 3 + 1)
            have f2 := Rw.frozen HR.out (k * 3 + 2)
            clear a0 a1 a2
            clear h0 d1 hjn i4 z1 z2 y0
            have j1 : (k : Int) < (l.length : Int) + 1 := by omega
            have j2 : (0 : Int) ≤ (k : Int) := by omega
            go_wp2
            go_ret
            have hR2 := Rw.setM HR.out HUL.out (k := k) (by rw [HLEN.out]; omega) m (.slice Am m.l.length cm)
            rw [put_last (by omega), put_last (by rw [HU.out]; omega)] at hR2
            refine ⟨_, rfl, ?_, ?_⟩
            · rw [HE.out]
              have hil := insM_len l k m (by omega)
              have hko := far3 wd g (k * 3) (k * 3 + 1) (k * 3 + 2) (.string m.a) (.bool m.f) (.slice Am m.l.length cm)
              have hoo : OwnsL (((wd.setCell ⟨g, k * 3, none⟩ (.string m.a)).setCell ⟨g, k * 3 + 1, none⟩ (.bool m.f)).setCell ⟨g, k * 3 + 2, none⟩ (.slice Am m.l.length cm)) (fun b => wb.heap.size ≤ b ∧ b ≠ g) us (l.map mapI) := HO.out.keep (fun b hb _ => (hko b hb.2).trans (HK.out b hb.2))
              have hmm : Owns (((wd.setCell ⟨g, k * 3, none⟩ (.string m.a)).setCell ⟨g, k * 3 + 1, none⟩ (.bool m.f)).setCell ⟨g, k * 3 + 2, none⟩ (.slice Am m.l.length cm)) T (.slice Am m.l.length cm) (intsD m.l) := HMU.out.keep (fun b hb hl => (hko b (by omega)).trans (HW.out.block b hl))
              have hins := OwnsL.ins (U := fun b => (w.heap.size ≤ b ∨ T b) ∧ b ≠ g) k hoo hmm (by omega) (fun b hb => ⟨.inl (by omega), hb.2⟩) (fun b hb => ⟨.inr hb, by have := HTT.out b hb; omega⟩) (fun b hb hb' => by have := HTT.out b hb'; have := hb.1; omega)
              have hrr : Rw (((wd.setCell ⟨g, k * 3, none⟩ (.string m.a)).setCell ⟨g, k * 3 + 1, none⟩ (.bool m.f)).setCell ⟨g, k * 3 + 2, none⟩ (.slice Am m.l.length cm)) g 53 3 (insM l k m).length cap (mvl (insM l k m) (us.take k ++ (.slice Am m.l.length cm) :: us.drop k)) := by
                rw [hil]
                exact hR2
              have hh := Rw.maps (S := fun b => w.heap.size ≤ b ∨ T b) hrr (.inl (by omega)) (by omega) hmax hins
              rw [hil] at hh
              exact hh
            · exact bsM HW.out (by show w.heap.size ≤ g; omega)
        · have HE := Lib.hid (show bubM l l.length m.a = bubM l j m.a by rw [HI.out, HJ.out, bubM_step hj hs])
          obtain ⟨z1, z2⟩ := gt_facts hs
          clear hs
          go_upto_region 3 with (fail)
          refine but_begin (f := 12) (S := fun V => Below wr.drew.heap.size wr.drew V) (by kernel_rfl) ?_
          refine but_take (f := 12) (i := 0) (v := ?vrcx0) rfl (by kernel_rfl) (by kernel_rfl) (by kernel_rfl) (by kernel_rfl) (by kernel_rfl) (fun _ _ _ h => h) (Or.inl ⟨(by rfl), ?hyrcx0⟩) (Below.refl _ _) ?restrcx0
          case hyrcx0 =>
            intro W hW
            go_simp
            exact rfl
          simp only [List.getElem_toArray, List.getElem_cons_succ, List.getElem_cons_zero, Act.put, List.setIfInBounds_toArray, List.set_cons_zero, List.set_cons_succ]
          refine but_take (f := 12) (i := 1) (v := ?vrcx1) rfl (by kernel_rfl) (by kernel_rfl) (by kernel_rfl) (by kernel_rfl) (by kernel_rfl) (fun _ _ _ h => h) (Or.inl ⟨(by rfl), ?hyrcx1⟩) (Below.refl _ _) ?restrcx1
          case hyrcx1 =>
            intro W hW
            go_simp
            exact rfl
          simp only [List.getElem_toArray, List.getElem_cons_succ, List.getElem_cons_zero, Act.put, List.setIfInBounds_toArray, List.set_cons_zero, List.set_cons_succ]
          refine but_take (f := 12) (i := 2) (v := ?vrcx2) rfl (by kernel_rfl) (by kernel_rfl) (by kernel_rfl) (by kernel_rfl) (by kernel_rfl) (fun _ _ _ h => h) (Or.inl ⟨(by rfl), ?hyrcx2⟩) (Below.refl _ _) ?restrcx2
          case hyrcx2 =>
            intro W hW
            go_simp
            exact rfl
          simp only [List.getElem_toArray, List.getElem_cons_succ, List.getElem_cons_zero, Act.put, List.setIfInBounds_toArray, List.set_cons_zero, List.set_cons_succ]
          refine but_take (f := 12) (i := 3) (v := ?vrcx3) rfl (by kernel_rfl) (by kernel_rfl) (by kernel_rfl) (by kernel_rfl) (by kernel_rfl) (fun _ _ _ h => h) (Or.inl ⟨((wanted_at rfl rfl rfl rfl).trans rfl), ?hyrcx3⟩) (Below.refl _ _) ?restrcx3
          case hyrcx3 =>
            intro W hW
            go_simp
            exact rfl
          simp only [List.getElem_toArray, List.getElem_cons_succ, List.getElem_cons_zero, Act.put, List.setIfInBounds_toArray, List.set_cons_zero, List.set_cons_succ]
          refine but_take (f := 12) (i := 4) (v := ?vrcx4) rfl (by kernel_rfl) (by kernel_rfl) (by kernel_rfl) (by kernel_rfl) (by kernel_rfl) (fun _ _ _ h => h) (Or.inl ⟨((wanted_at rfl rfl rfl rfl).trans rfl), ?hyrcx4⟩) (Below.refl _ _) ?restrcx4
          case hyrcx4 =>
            intro W hW
            go_simp
            exact rfl
          simp only [List.getElem_toArray, List.getElem_cons_succ, List.getElem_cons_zero, Act.put, List.setIfInBounds_toArray, List.set_cons_zero, List.set_cons_succ]
          refine but_take (f := 12) (i := 5) (v := ?vrcx5) rfl (by kernel_rfl) (by kernel_rfl) (by kernel_rfl) (by kernel_rfl) (by kernel_rfl) (fun _ _ _ h => h) (Or.inl ⟨((wanted_at rfl rfl rfl rfl).trans rfl), ?hyrcx5⟩) (Below.refl _ _) ?restrcx5
          case hyrcx5 =>
            intro W hW
            go_simp
            exact rfl
          simp only [List.getElem_toArray, List.getElem_cons_succ, List.getElem_cons_zero, Act.put, List.setIfInBounds_toArray, List.set_cons_zero, List.set_cons_succ]
          refine but_take (f := 12) (i := 6) (v := ?vrcx6) rfl (by kernel_rfl) (by kernel_rfl) (by kernel_rfl) (by kernel_rfl) (by kernel_rfl) (fun _ _ _ h => h) (Or.inl ⟨((wanted_at rfl rfl rfl rfl).trans rfl), ?hyrcx6⟩) (Below.refl _ _) ?restrcx6
          case hyrcx6 =>
            intro W hW
            go_simp
            exact rfl
          simp only [List.getElem_toArray, List.getElem_cons_succ, List.getElem_cons_zero, Act.put, List.setIfInBounds_toArray, List.set_cons_zero, List.set_cons_succ]
          refine but_take (f := 12) (i := 7) (v := ?vrcx7) rfl (by kernel_rfl) (by kernel_rfl) (by kernel_rfl) (by kernel_rfl) (by kernel_rfl) (fun _ _ _ h => h) (Or.inl ⟨((wanted_at rfl rfl rfl rfl).trans rfl), ?hyrcx7⟩) (Below.refl _ _) ?restrcx7
          case hyrcx7 =>
            intro W hW
            go_simp
            exact rfl
          simp only [List.getElem_toArray, List.getElem_cons_succ, List.getElem_cons_zero, Act.put, List.setIfInBounds_toArray, List.set_cons_zero, List.set_cons_succ]
          refine but_take (f := 12) (i := 8) (v := ?vrcx8) rfl (by kernel_rfl) (by kernel_rfl) (by kernel_rfl) (by kernel_rfl) (by kernel_rfl) (fun _ _ _ h => h) (Or.inl ⟨((wanted_at rfl rfl rfl rfl).trans rfl), ?hyrcx8⟩) (Below.refl _ _) ?restrcx8
          case hyrcx8 =>
            intro W hW
            have hb0 : Below wr.heap.size wr W := bstep (Below.drew1 _) hW
            have z0 := (hb0.cell (p := ⟨g, j * 3, none⟩) hgr).trans y0
            go_simp
            exact rfl
          simp only [List.getElem_toArray, List.getElem_cons_succ, List.getElem_cons_zero, Act.put, List.setIfInBounds_toArray, List.set_cons_zero, List.set_cons_succ]
          refine but_take (f := 12) (i := 9) (v := ?vrcx9) rfl (by kernel_rfl) (by kernel_rfl) (by kernel_rfl) (by kernel_rfl) (by kernel_rfl) (fun _ _ _ h => h) (Or.inl ⟨((wanted_at rfl rfl rfl rfl).trans rfl), ?hyrcx9⟩) (Below.refl _ _) ?restrcx9
          case hyrcx9 =>
            intro W hW
            go_simp
            exact rfl
          simp only [List.getElem_toArray, List.getElem_cons_succ, List.getElem_cons_zero, Act.put, List.setIfInBounds_toArray, List.set_cons_zero, List.set_cons_succ]
          refine but_take (f := 12) (i := 10) (v := ?vrcx10) rfl (by kernel_rfl) (by kernel_rfl) (by kernel_rfl) (by kernel_rfl) (by kernel_rfl) (fun _ _ _ h => h) (Or.inl ⟨((wanted_at rfl rfl rfl rfl).trans rfl), ?hyrcx10⟩) (Below.refl _ _) ?restrcx10
          case hyrcx10 =>
            intro W hW
            have hb0 : Below wr.heap.size wr W := bstep (Below.drew1 _) hW
            obtain ⟨q0, q1, q2, q3⟩ := box3M (box_on HQ.out hb0)
            go_simp
            exact rfl
          simp only [List.getElem_toArray, List.getElem_cons_succ, List.getElem_cons_zero, Act.put, List.setIfInBounds_toArray, List.set_cons_zero, List.set_cons_succ]
          refine but_take (f := 12) (i := 11) (v := ?vrcx11) rfl (by kernel_rfl) (by kernel_rfl) (by kernel_rfl) (by kernel_rfl) (by kernel_rfl) (fun _ _ _ h => h) (Or.inl ⟨((wanted_at rfl rfl rfl rfl).trans rfl), ?hyrcx11⟩) (Below.refl _ _) ?restrcx11
          case hyrcx11 =>
            intro W hW
            go_simp
            exact rfl
          simp only [List.getElem_toArray, List.getElem_cons_succ, List.getElem_cons_zero, Act.put, List.setIfInBounds_toArray, List.set_cons_zero, List.set_cons_succ]
          refine but_run (i := 12) (by kernel_rfl) rfl (by rfl) ?_
          simp only [List.getElem_toArray, List.getElem_cons_succ, List.getElem_cons_zero]
          intro K HK
          go_wp2_with fail
          refine HK.out _ wr.drew (fun h => absurd rfl h) ?_
          clear HK
          refine but_done (by kernel_rfl) ?_
          replace HR := Lib.hid (HR.out.keep (w' := wr.drew) rfl)
          replace HQ := Lib.hid (box_on HQ.out (Below.drew1 _))
          replace HW := Lib.hid (bstep HW.out (Below.drew1 _))
          replace HK : Hid (∀ b, b ≠ g → wr.drew.heap[b]? = W.heap[b]?) := Lib.hid (fun b hb => HK.out b hb)
          generalize wr.drew = wd at *
          obtain ⟨q0, q1, q2, q3⟩ := box3M HQ.out
          obtain ⟨a0, a1, a2⟩ := Rw.getM HR.out HUL.out HLEN.out (j := k) (by omega)
          obtain ⟨u0, hu0⟩ : ∃ y, wd.cell? ⟨g, k * 3, none⟩ = some y := ⟨_, a0⟩
          obtain ⟨u1, hu1⟩ : ∃ y, wd.cell? ⟨g, k * 3 + 1, none⟩ = some y := ⟨_, a1⟩
          obtain ⟨u2, hu2⟩ : ∃ y, wd.cell? ⟨g, k * 3 + 2, none⟩ = some y := ⟨_, a2⟩
          have f0 := Rw.frozen HR.out (k * 3)
          have f1 := Rw.frozen HR.out (k * 3 + 1)
          have f2 := Rw.frozen HR.out (k * 3 + 2)
          clear a0 a1 a2
          have j1 : (k : Int) < (l.length : Int) + 1 := by omega
          have j2 : (0 : Int) ≤ (k : Int) := by omega
          have hUj : j < us.length := by rw [HU.out]; exact hj
          obtain ⟨y0, y1, y2⟩ := Rw.getM HR.out HUL.out HLEN.out (j := j) (by omega)
          rw [put_get hjk hk] at y0 y1
          rw [put_get hjk (by rw [HU.out]; exact hk)] at y2
          obtain ⟨Aj, cj, ej, _, _⟩ := Reads.lenN (show Reads _ _ us[j] (.row _ _ _ _) from by have := HO.out.reads.2 j hUj (by simpa using hj); rw [List.getElem_map] at this; exact this)
          rw [ej] at y2
          go_wp2
          have hR2 := Rw.setM HR.out HUL.out (k := k) (by rw [HLEN.out]; omega) l[j] (.slice Aj (l[j]).l.length cj)
          have e2 : (l.take k ++ x :: l.drop k).set k l[j] = l.take j ++ l[j] :: l.drop j := by rw [HJ.out]; exact put_shift hj x
          have e3 : (us.take k ++ y :: us.drop k).set k (.slice Aj (l[j]).l.length cj) = us.take j ++ us[j] :: us.drop j := by rw [HJ.out, ← ej]; exact put_shift hUj y
          rw [e2, e3] at hR2
          have hko := far3 wd g (k * 3) (k * 3 + 1) (k * 3 + 2) (.string (l[j]).a) (.bool (l[j]).f) (.slice Aj (l[j]).l.length cj)
          go_roundw
          case rel => exact ⟨j, l[j], us[j], by omega, by go_num, HE, Lib.hid hR2, Lib.hid (bsM HW.out (by show w.heap.size ≤ g; omega)), Lib.hid (fun b hb => (hko b hb).trans (HK.out b hb))⟩
          case measure => simp [intOf]; omega
  · simp only [List.getElem_toArray, List.getElem_cons_succ, List.getElem_cons_zero]
    intro K HK
    go_wp2_with fail
    have hScq1 : (fun V => Below wb.heap.size wb V) (Udc.alloc (.cells #[.string m.a, .bool m.f, .slice Am m.l.length cm] 53)) := bstep hS0c (bal1 _ _)
    refine HK.out _ _ (fun _ => hScq1) ?_
    clear HK
    have hBcq1 := bal1 Udc (.cells #[.string m.a, .bool m.f, .slice Am m.l.length cm] 53)
    have hzcq1 : Udc.heap.size + 1 ≤ (Udc.alloc (.cells #[.string m.a, .bool m.f, .slice Am m.l.length cm] 53)).heap.size := by simp
    have AV := Lib.hid (At.lit3 Udc (.string m.a) (.bool m.f) (.slice Am m.l.length cm) 53)
    generalize Udc.alloc (.cells #[.string m.a, .bool m.f, .slice Am m.l.length cm] 53) = Vncq1 at *
    refine but_run (i := 1) (by kernel_rfl) rfl (by rfl) ?_
    simp only [List.getElem_toArray, List.getElem_cons_succ, List.getElem_cons_zero]
    intro K HK
    go_wp2_with fail
    refine (HX.out _ (bstep HB.out (hScq1))).mono ?_
    rintro r Vcq2 ⟨v1, rfl, o1, hbcq2⟩
    obtain ⟨us, hru⟩ := RowU.of o1
    have R1 := Lib.hid hru
    obtain ⟨A1, c1, hv1, _, _⟩ := Reads.lenN (show Reads _ _ v1 (.row _ _ _ _) from o1.reads)
    subst hv1
    clear o1 hru
    have hzrcq2 := (hScq1).size
    go_wp2_with fail
    have hScq2 : (fun V => Below wb.heap.size wb V) Vcq2 := bstep hScq1 hbcq2
    refine HK.out _ _ (fun _ => hScq2) ?_
    clear HK
    have hzcq2 := hbcq2.size
    replace AV := Lib.hid (AV.out.on hbcq2)
    refine but_run (i := 4) (by kernel_rfl) rfl (by rfl) ?_
    simp only [List.getElem_toArray, List.getElem_cons_succ, List.getElem_cons_zero]
    intro K HK
    refine operAppU _ (by rfl) (.tmp 8) (.tmp 10) (by rfl) Vncq1.heap.size _ l us (by rfl) R1.out (by omega) (some ⟨Udc.heap.size, 0, none⟩) 1 m (.slice Am m.l.length cm) (by rfl) AV.out rfl (by omega) ?_
    intro vcq3 Vcq3 ocq3 bcq3 gcq3 acq3
    obtain ⟨G2, e2, hG2⟩ := row_shape ocq3.1 (by omega)
    subst hG2
    have R2 := Lib.hid ocq3
    have hScq3 : (fun V => Below wb.heap.size wb V) Vcq3 := (hScq2).trans (Below.mono bcq3 (by omega))
    refine HK.out _ _ (fun _ => hScq3) ?_
    clear HK
    have hzcq3 := bcq3.size
    simp only [List.getElem_toArray, List.getElem_cons_succ, List.getElem_cons_zero, Act.put, List.setIfInBounds_toArray, List.set_cons_zero, List.set_cons_succ]
    refine but_run (i := 5) (by kernel_rfl) rfl (by rfl) ?_
    simp only [List.getElem_toArray, List.getElem_cons_succ, List.getElem_cons_zero]
    intro K HK
    go_wp2_with fail
    refine HK.out _ _ (fun h => absurd rfl h) ?_
    clear HK
    refine but_done (by kernel_rfl) ?_
    have HBB := Lib.hid (bstep HB.out (hScq3))
    have hRX := R2.out
    have QW := Lib.hid (box_on QV.out (hScq3))
    obtain ⟨hx1, hx2, hx3⟩ := hRX
    rcases row_cases hx1 with ⟨hx4, _⟩ | ⟨gq, cq, hx4, hbg, hRW, hcap, hmax, _⟩
    · cases hx4
    cases hx4
    have HU := Lib.hid hx2
    have HRW := Lib.hid hRW
    have hgW := Rw.lt hRW
    have HO := Lib.hid (hx3.mono (T := fun b => wb.heap.size ≤ b ∧ b ≠ G2) (fun b hb => ⟨by have := hb.1; omega, fun e => hb.2 (by rw [e]; rfl)⟩))
    have hgb : wb.heap.size ≤ G2 := by omega
    clear R2 QV HB HX hx1 hx2 hx3 hRW hbg
    generalize Vcq3 = W at *
    go_wp2
    generalize G2 = g at *
    generalize e2 = cap at *
    go_loopw [6] (fun i wr => ∃ (k : Nat) (x : MapD) (y : Value), k ≤ l.length ∧ i = .int .i64 k ∧ Hid (bubM l l.length m.a = bubM l k m.a) ∧ Hid (Rw wr g 53 3 (l.length + 1) cap (mvl (l.take k ++ x :: l.drop k) (us.take k ++ y :: us.drop k))) ∧ Hid (Below w.heap.size w wr) ∧ Hid (∀ b, b ≠ g → wr.heap[b]? = W.heap[b]?)) (fun i _ => (intOf i).toNat)
    case atStart => exact ⟨l.length, m, (.slice Am m.l.length cm), Nat.le_refl _, by go_num, Lib.hid rfl, Lib.hid (by have h1 := HRW.out; have h2 := put_end l m; have h3 := put_end us (.slice Am m.l.length cm); rw [HU.out] at h3; rw [h2, h3]; exact h1), HBB, Lib.hid (fun _ _ => rfl)⟩
    case round =>
      clear HRW HBB
      obtain ⟨k, x, y, hk, rfl, HI, HR, HW, HK⟩ := hrel
      have hzr := HW.out.size
      have hlen := put_len hk x
      have HLEN := Lib.hid hlen
      have HUL : Hid ((us.take k ++ y :: us.drop k).length = (l.take k ++ x :: l.drop k).length) := Lib.hid (by rw [hlen, put_len (by rw [HU.out]; exact hk), HU.out])
      have hgq : g ≠ w.heap.size := by omega
      have HQ : Hid (wr.heap[w.heap.size]? = some (.cells #[.string m.a, .bool m.f, .slice Am m.l.length cm] 53 (0, 0))) := Lib.hid ((HK.out _ (Ne.symm hgq)).trans QW.out)
      obtain ⟨q0, q1, q2, q3⟩ := box3M HQ.out
      have hgr : g < wr.heap.size := Rw.lt HR.out
      clear hlen
      by_cases h0 : k = 0
      · have HE := Lib.hid (show bubM l l.length m.a = k by rw [HI.out, h0]; rfl)
        have d1 : decide (0 < k) = false := decide_eq_false (by omega)
        go_upto_region 3 with (fail)
        refine but_begin (f := 12) (S := fun V => Below wr.drew.heap.size wr.drew V) (by kernel_rfl) ?_
        refine but_take (f := 12) (i := 0) (v := ?vray0) rfl (by kernel_rfl) (by kernel_rfl) (by kernel_rfl) (by kernel_rfl) (by kernel_rfl) (fun _ _ _ h => h) (Or.inl ⟨(by rfl), ?hyray0⟩) (Below.refl _ _) ?restray0
        case hyray0 =>
          intro W hW
          go_simp
          exact rfl
        simp only [List.getElem_toArray, List.getElem_cons_succ, List.getElem_cons_zero, Act.put, List.setIfInBounds_toArray, List.set_cons_zero, List.set_cons_succ]
        refine but_take (f := 12) (i := 1) (v := ?vray1) rfl (by kernel_rfl) (by kernel_rfl) (by kernel_rfl) (by kernel_rfl) (by kernel_rfl) (fun _ _ _ h => h) (Or.inl ⟨(by rfl), ?hyray1⟩) (Below.refl _ _) ?restray1
        case hyray1 =>
          intro W hW
          go_simp
          exact rfl
        simp only [List.getElem_toArray, List.getElem_cons_succ, List.getElem_cons_zero, Act.put, List.setIfInBounds_toArray, List.set_cons_zero, List.set_cons_succ]
        refine but_take (f := 12) (i := 2) (v := ?vray2) rfl (by kernel_rfl) (by kernel_rfl) (by kernel_rfl) (by kernel_rfl) (by kernel_rfl) (fun _ _ _ h => h) (Or.inl ⟨(by rfl), ?hyray2⟩) (Below.refl _ _) ?restray2
        case hyray2 =>
          intro W hW
          go_simp
          exact rfl
        simp only [List.getElem_toArray, List.getElem_cons_succ, List.getElem_cons_zero, Act.put, List.setIfInBounds_toArray, List.set_cons_zero, List.set_cons_succ]
        refine but_take (f := 12) (i := 3) (v := undef) rfl (by kernel_rfl) (by kernel_rfl) (by kernel_rfl) (by kernel_rfl) (by kernel_rfl) (fun _ _ _ h => h) (Or.inr ⟨((wanted_at rfl rfl rfl rfl).trans rfl), rfl⟩) (Below.refl _ _) ?_
        simp only [List.getElem_toArray, List.getElem_cons_succ, List.getElem_cons_zero, Act.put, List.setIfInBounds_toArray, List.set_cons_zero, List.set_cons_succ]
        refine but_take (f := 12) (i := 4) (v := undef) rfl (by kernel_rfl) (by kernel_rfl) (by kernel_rfl) (by kernel_rfl) (by kernel_rfl) (fun _ _ _ h => h) (Or.inr ⟨((wanted_at rfl rfl rfl rfl).trans rfl), rfl⟩) (Below.refl _ _) ?_
        simp only [List.getElem_toArray, List.getElem_cons_succ, List.getElem_cons_zero, Act.put, List.setIfInBounds_toArray, List.set_cons_zero, List.set_cons_succ]
        refine but_take (f := 12) (i := 5) (v := undef) rfl (by kernel_rfl) (by kernel_rfl) (by kernel_rfl) (by kernel_rfl) (by kernel_rfl) (fun _ _ _ h => h) (Or.inr ⟨((wanted_at rfl rfl rfl rfl).trans rfl), rfl⟩) (Below.refl _ _) ?_
        simp only [List.getElem_toArray, List.getElem_cons_succ, List.getElem_cons_zero, Act.put, List.setIfInBounds_toArray, List.set_cons_zero, List.set_cons_succ]
        refine but_take (f := 12) (i := 6) (v := undef) rfl (by kernel_rfl) (by kernel_rfl) (by kernel_rfl) (by kernel_rfl) (by kernel_rfl) (fun _ _ _ h => h) (Or.inr ⟨((wanted_at rfl rfl rfl rfl).trans rfl), rfl⟩) (Below.refl _ _) ?_
        simp only [List.getElem_toArray, List.getElem_cons_succ, List.getElem_cons_zero, Act.put, List.setIfInBounds_toArray, List.set_cons_zero, List.set_cons_succ]
        refine but_take (f := 12) (i := 7) (v := undef) rfl (by kernel_rfl) (by kernel_rfl) (by kernel_rfl) (by kernel_rfl) (by kernel_rfl) (fun _ _ _ h => h) (Or.inr ⟨((wanted_at rfl rfl rfl rfl).trans rfl), rfl⟩) (Below.refl _ _) ?_
        simp only [List.getElem_toArray, List.getElem_cons_succ, List.getElem_cons_zero, Act.put, List.setIfInBounds_toArray, List.set_cons_zero, List.set_cons_succ]
        refine but_take (f := 12) (i := 8) (v := undef) rfl (by kernel_rfl) (by kernel_rfl) (by kernel_rfl) (by kernel_rfl) (by kernel_rfl) (fun _ _ _ h => h) (Or.inr ⟨((wanted_at rfl rfl rfl rfl).trans rfl), rfl⟩) (Below.refl _ _) ?_
        simp only [List.getElem_toArray, List.getElem_cons_succ, List.getElem_cons_zero, Act.put, List.setIfInBounds_toArray, List.set_cons_zero, List.set_cons_succ]
        refine but_take (f := 12) (i := 9) (v := undef) rfl (by kernel_rfl) (by kernel_rfl) (by kernel_rfl) (by kernel_rfl) (by kernel_rfl) (fun _ _ _ h => h) (Or.inr ⟨((wanted_at rfl rfl rfl rfl).trans rfl), rfl⟩) (Below.refl _ _) ?_
        simp only [List.getElem_toArray, List.getElem_cons_succ, List.getElem_cons_zero, Act.put, List.setIfInBounds_toArray, List.set_cons_zero, List.set_cons_succ]
        refine but_take (f := 12) (i := 10) (v := undef) rfl (by kernel_rfl) (by kernel_rfl) (by kernel_rfl) (by kernel_rfl) (by kernel_rfl) (fun _ _ _ h => h) (Or.inr ⟨((wanted_at rfl rfl rfl rfl).trans rfl), rfl⟩) (Below.refl _ _) ?_
        simp only [List.getElem_toArray, List.getElem_cons_succ, List.getElem_cons_zero, Act.put, List.setIfInBounds_toArray, List.set_cons_zero, List.set_cons_succ]
        refine but_take (f := 12) (i := 11) (v := undef) rfl (by kernel_rfl) (by kernel_rfl) (by kernel_rfl) (by kernel_rfl) (by kernel_rfl) (fun _ _ _ h => h) (Or.inr ⟨((wanted_at rfl rfl rfl rfl).trans rfl), rfl⟩) (Below.refl _ _) ?_
        simp only [List.getElem_toArray, List.getElem_cons_succ, List.getElem_cons_zero, Act.put, List.setIfInBounds_toArray, List.set_cons_zero, List.set_cons_succ]
        refine but_run (i := 12) (by kernel_rfl) rfl (by rfl) ?_
        simp only [List.getElem_toArray, List.getElem_cons_succ, List.getElem_cons_zero]
        intro K HK
        go_wp2_with fail
        refine HK.out _ wr.drew (fun h => absurd rfl h) ?_
        clear HK
        refine but_done (by kernel_rfl) ?_
        replace HR := Lib.hid (HR.out.keep (w' := wr.drew) rfl)
        replace HQ := Lib.hid (box_on HQ.out (Below.drew1 _))
        replace HW := Lib.hid (bstep HW.out (Below.drew1 _))
        replace HK : Hid (∀ b, b ≠ g → wr.drew.heap[b]? = W.heap[b]?) := Lib.hid (fun b hb => HK.out b hb)
        generalize wr.drew = wd at *
        obtain ⟨q0, q1, q2, q3⟩ := box3M HQ.out
        obtain ⟨a0, a1, a2⟩ := Rw.getM HR.out HUL.out HLEN.out (j := k) (by omega)
        obtain ⟨u0, hu0⟩ : ∃ y, wd.cell? ⟨g, k * 3, none⟩ = some y := ⟨_, a0⟩
        obtain ⟨u1, hu1⟩ : ∃ y, wd.cell? ⟨g, k * 3 + 1, none⟩ = some y := ⟨_, a1⟩
        obtain ⟨u2, hu2⟩ : ∃ y, wd.cell? ⟨g, k * 3 + 2, none⟩ = some y := ⟨_, a2⟩
        have f0 := Rw.frozen HR.out (k * 3)
        have f1 := Rw.frozen HR.out (k * 3 + 1)
        have f2 := Rw.frozen HR.out (k * 3 + 2)
        clear a0 a1 a2
        clear h0 d1
        have j1 : (k : Int) < (l.length : Int) + 1 := by omega
        have j2 : (0 : Int) ≤ (k : Int) := by omega
        go_wp2
        go_ret
        have hR2 := Rw.setM HR.out HUL.out (k := k) (by rw [HLEN.out]; omega) m (.slice Am m.l.length cm)
        rw [put_last (by omega), put_last (by rw [HU.out]; omega)] at hR2
        refine ⟨_, rfl, ?_, ?_⟩
        · rw [HE.out]
          have hil := insM_len l k m (by omega)
          have hko := far3 wd g (k * 3) (k * 3 + 1) (k * 3 + 2) (.string m.a) (.bool m.f) (.slice Am m.l.length cm)
          have hoo : OwnsL (((wd.setCell ⟨g, k * 3, none⟩ (.string m.a)).setCell ⟨g, k * 3 + 1, none⟩ (.bool m.f)).setCell ⟨g, k * 3 + 2, none⟩ (.slice Am m.l.length cm)) (fun b => wb.heap.size ≤ b ∧ b ≠ g) us (l.map mapI) := HO.out.keep (fun b hb _ => (hko b hb.2).trans (HK.out b hb.2))
          have hmm : Owns (((wd.setCell ⟨g, k * 3, none⟩ (.string m.a)).setCell ⟨g, k * 3 + 1, none⟩ (.bool m.f)).setCell ⟨g, k * 3 + 2, none⟩ (.slice Am m.l.length cm)) T (.slice Am m.l.length cm) (intsD m.l) := HMU.out.keep (fun b hb hl => (hko b (by omega)).trans (HW.out.block b hl))
          have hins := OwnsL.ins (U := fun b => (w.heap.size ≤ b ∨ T b) ∧ b ≠ g) k hoo hmm (by omega) (fun b hb => ⟨.inl (by omega), hb.2⟩) (fun b hb => ⟨.inr hb, by have := HTT.out b hb; omega⟩) (fun b hb hb' => by have := HTT.out b hb'; have := hb.1; omega)
          have hrr : Rw (((wd.setCell ⟨g, k * 3, none⟩ (.string m.a)).setCell ⟨g, k * 3 + 1, none⟩ (.bool m.f)).setCell ⟨g, k * 3 + 2, none⟩ (.slice Am m.l.length cm)) g 53 3 (insM l k m).length cap (mvl (insM l k m) (us.take k ++ (.slice Am m.l.length cm) :: us.drop k)) := by
            rw [hil]
            exact hR2
          have hh := Rw.maps (S := fun b => w.heap.size ≤ b ∨ T b) hrr (.inl (by omega)) (by omega) hmax hins
          rw [hil] at hh
          exact hh
        · exact bsM HW.out (by show w.heap.size ≤ g; omega)
      · obtain ⟨j, hj0⟩ : ∃ j, k = j + 1 := ⟨k - 1, by omega⟩
        have HJ := Lib.hid hj0
        have d1 : decide (0 < k) = true := decide_eq_true (by omega)
        have hj : j < l.length := by omega
        have hjk : j < k := by omega
        obtain ⟨y0, y1, y2⟩ := Rw.getM HR.out HUL.out HLEN.out (j := j) (by omega)
        rw [put_get hjk hk] at y0
        have i1 : (j : Int) < (l.length : Int) + 1 := by omega
        have i2 : (0 : Int) ≤ (j : Int) := by omega
        have i4 : IntKind.i64.wrap ((k : Int) - 1) = (j : Int) := by rw [IntKind.wrap_i64]; omega
        have hjn : k - 1 = j := by omega
        clear hj0 y1 y2
        cases hs : Go.Op.bytesLess m.a.toList l[j].a.toList
        · have HE := Lib.hid (show bubM l l.length m.a = k by rw [HI.out, HJ.out, bubM_stop hj hs])
          have h3 := gt_cases hs
          clear hs
          rcases h3 with z1 | h3
          · skip
            go_upto_region 3 with (fail)
            refine but_begin (f := 12) (S := fun V => Below wr.drew.heap.size wr.drew V) (by kernel_rfl) ?_
            refine but_take (f := 12) (i := 0) (v := ?vrby0) rfl (by kernel_rfl) (by kernel_rfl) (by kernel_rfl) (by kernel_rfl) (by kernel_rfl) (fun _ _ _ h => h) (Or.inl ⟨(by rfl), ?hyrby0⟩) (Below.refl _ _) ?restrby0
            case hyrby0 =>
              intro W hW
              go_simp
              exact rfl
            simp only [List.getElem_toArray, List.getElem_cons_succ, List.getElem_cons_zero, Act.put, List.setIfInBounds_toArray, List.set_cons_zero, List.set_cons_succ]
            refine but_take (f := 12) (i := 1) (v := ?vrby1) rfl (by kernel_rfl) (by kernel_rfl) (by kernel_rfl) (by kernel_rfl) (by kernel_rfl) (fun _ _ _ h => h) (Or.inl ⟨(by rfl), ?hyrby1⟩) (Below.refl _ _) ?restrby1
            case hyrby1 =>
              intro W hW
              go_simp
              exact rfl
            simp only [List.getElem_toArray, List.getElem_cons_succ, List.getElem_cons_zero, Act.put, List.setIfInBounds_toArray, List.set_cons_zero, List.set_cons_succ]
            refine but_take (f := 12) (i := 2) (v := ?vrby2) rfl (by kernel_rfl) (by kernel_rfl) (by kernel_rfl) (by kernel_rfl) (by kernel_rfl) (fun _ _ _ h => h) (Or.inl ⟨(by rfl), ?hyrby2⟩) (Below.refl _ _) ?restrby2
            case hyrby2 =>
              intro W hW
              go_simp
              exact rfl
            simp only [List.getElem_toArray, List.getElem_cons_succ, List.getElem_cons_zero, Act.put, List.setIfInBounds_toArray, List.set_cons_zero, List.set_cons_succ]
            refine but_take (f := 12) (i := 3) (v := ?vrby3) rfl (by kernel_rfl) (by kernel_rfl) (by kernel_rfl) (by kernel_rfl) (by kernel_rfl) (fun _ _ _ h => h) (Or.inl ⟨((wanted_at rfl rfl rfl rfl).trans rfl), ?hyrby3⟩) (Below.refl _ _) ?restrby3
            case hyrby3 =>
              intro W hW
              go_simp
              exact rfl
            simp only [List.getElem_toArray, List.getElem_cons_succ, List.getElem_cons_zero, Act.put, List.setIfInBounds_toArray, List.set_cons_zero, List.set_cons_succ]
            refine but_take (f := 12) (i := 4) (v := ?vrby4) rfl (by kernel_rfl) (by kernel_rfl) (by kernel_rfl) (by kernel_rfl) (by kernel_rfl) (fun _ _ _ h => h) (Or.inl ⟨((wanted_at rfl rfl rfl rfl).trans rfl), ?hyrby4⟩) (Below.refl _ _) ?restrby4
            case hyrby4 =>
              intro W hW
              go_simp
              exact rfl
            simp only [List.getElem_toArray, List.getElem_cons_succ, List.getElem_cons_zero, Act.put, List.setIfInBounds_toArray, List.set_cons_zero, List.set_cons_succ]
            refine but_take (f := 12) (i := 5) (v := ?vrby5) rfl (by kernel_rfl) (by kernel_rfl) (by kernel_rfl) (by kernel_rfl) (by kernel_rfl) (fun _ _ _ h => h) (Or.inl ⟨((wanted_at rfl rfl rfl rfl).trans rfl), ?hyrby5⟩) (Below.refl _ _) ?restrby5
            case hyrby5 =>
              intro W hW
              go_simp
              exact rfl
            simp only [List.getElem_toArray, List.getElem_cons_succ, List.getElem_cons_zero, Act.put, List.setIfInBounds_toArray, List.set_cons_zero, List.set_cons_succ]
            refine but_take (f := 12) (i := 6) (v := ?vrby6) rfl (by kernel_rfl) (by kernel_rfl) (by kernel_rfl) (by kernel_rfl) (by kernel_rfl) (fun _ _ _ h => h) (Or.inl ⟨((wanted_at rfl rfl rfl rfl).trans rfl), ?hyrby6⟩) (Below.refl _ _) ?restrby6
            case hyrby6 =>
              intro W hW
              go_simp
              exact rfl
            simp only [List.getElem_toArray, List.getElem_cons_succ, List.getElem_cons_zero, Act.put, List.setIfInBounds_toArray, List.set_cons_zero, List.set_cons_succ]
            refine but_take (f := 12) (i := 7) (v := ?vrby7) rfl (by kernel_rfl) (by kernel_rfl) (by kernel_rfl) (by kernel_rfl) (by kernel_rfl) (fun _ _ _ h => h) (Or.inl ⟨((wanted_at rfl rfl rfl rfl).trans rfl), ?hyrby7⟩) (Below.refl _ _) ?restrby7
            case hyrby7 =>
              intro W hW
              go_simp
              exact rfl
            simp only [List.getElem_toArray, List.getElem_cons_succ, List.getElem_cons_zero, Act.put, List.setIfInBounds_toArray, List.set_cons_zero, List.set_cons_succ]
            refine but_take (f := 12) (i := 8) (v := ?vrby8) rfl (by kernel_rfl) (by kernel_rfl) (by kernel_rfl) (by kernel_rfl) (by kernel_rfl) (fun _ _ _ h => h) (Or.inl ⟨((wanted_at rfl rfl rfl rfl).trans rfl), ?hyrby8⟩) (Below.refl _ _) ?restrby8
            case hyrby8 =>
              intro W hW
              have hb0 : Below wr.heap.size wr W := bstep (Below.drew1 _) hW
              have z0 := (hb0.cell (p := ⟨g, j * 3, none⟩) hgr).trans y0
              go_simp
              exact rfl
            simp only [List.getElem_toArray, List.getElem_cons_succ, List.getElem_cons_zero, Act.put, List.setIfInBounds_toArray, List.set_cons_zero, List.set_cons_succ]
            refine but_take (f := 12) (i := 9) (v := ?vrby9) rfl (by kernel_rfl) (by kernel_rfl) (by kernel_rfl) (by kernel_rfl) (by kernel_rfl) (fun _ _ _ h => h) (Or.inl ⟨((wanted_at rfl rfl rfl rfl).trans rfl), ?hyrby9⟩) (Below.refl _ _) ?restrby9
            case hyrby9 =>
              intro W hW
              go_simp
              exact rfl
            simp only [List.getElem_toArray, List.getElem_cons_succ, List.getElem_cons_zero, Act.put, List.setIfInBounds_toArray, List.set_cons_zero, List.set_cons_succ]
            refine but_take (f := 12) (i := 10) (v := ?vrby10) rfl (by kernel_rfl) (by kernel_rfl) (by kernel_rfl) (by kernel_rfl) (by kernel_rfl) (fun _ _ _ h => h) (Or.inl ⟨((wanted_at rfl rfl rfl rfl).trans rfl), ?hyrby10⟩) (Below.refl _ _) ?restrby10
            case hyrby10 =>
              intro W hW
              have hb0 : Below wr.heap.size wr W := bstep (Below.drew1 _) hW
              obtain ⟨q0, q1, q2, q3⟩ := box3M (box_on HQ.out hb0)
              go_simp
              exact rfl
            simp only [List.getElem_toArray, List.getElem_cons_succ, List.getElem_cons_zero, Act.put, List.setIfInBounds_toArray, List.set_cons_zero, List.set_cons_succ]
            refine but_take (f := 12) (i := 11) (v := ?vrby11) rfl (by kernel_rfl) (by kernel_rfl) (by kernel_rfl) (by kernel_rfl) (by kernel_rfl) (fun _ _ _ h => h) (Or.inl ⟨((wanted_at rfl rfl rfl rfl).trans rfl), ?hyrby11⟩) (Below.refl _ _) ?restrby11
            case hyrby11 =>
              intro W hW
              go_simp
              exact rfl
            simp only [List.getElem_toArray, List.getElem_cons_succ, List.getElem_cons_zero, Act.put, List.setIfInBounds_toArray, List.set_cons_zero, List.set_cons_succ]
            refine but_run (i := 12) (by kernel_rfl) rfl (by rfl) ?_
            simp only [List.getElem_toArray, List.getElem_cons_succ, List.getElem_cons_zero]
            intro K HK
            go_wp2_with fail
            refine HK.out _ wr.drew (fun h => absurd rfl h) ?_
            clear HK
            refine but_done (by kernel_rfl) ?_
            replace HR := Lib.hid (HR.out.keep (w' := wr.drew) rfl)
            replace HQ := Lib.hid (box_on HQ.out (Below.drew1 _))
            replace HW := Lib.hid (bstep HW.out (Below.drew1 _))
            replace HK : Hid (∀ b, b ≠ g → wr.drew.heap[b]? = W.heap[b]?) := Lib.hid (fun b hb => HK.out b hb)
            generalize wr.drew = wd at *
            obtain ⟨q0, q1, q2, q3⟩ := box3M HQ.out
            obtain ⟨a0, a1, a2⟩ := Rw.getM HR.out HUL.out HLEN.out (j := k) (by omega)
            obtain ⟨u0, hu0⟩ : ∃ y, wd.cell? ⟨g, k * 3, none⟩ = some y := ⟨_, a0⟩
            obtain ⟨u1, hu1⟩ : ∃ y, wd.cell? ⟨g, k * 3 + 1, none⟩ = some y := ⟨_, a1⟩
            obtain ⟨u2, hu2⟩ : ∃ y, wd.cell? ⟨g, k * 3 + 2, none⟩ = some y := ⟨_, a2⟩
            have f0 := Rw.frozen HR.out (k * 3)
            have f1 := Rw.frozen HR.out (k * 3 + 1)
            have f2 := Rw.frozen HR.out (k * 3 + 2)
            clear a0 a1 a2
            clear h0 d1 hjn i4 z1 y0
            have j1 : (k : Int) < (l.length : Int) + 1 := by omega
            have j2 : (0 : Int) ≤ (k : Int) := by omega
            go_wp2
            go_ret
            have hR2 := Rw.setM HR.out HUL.out (k := k) (by rw [HLEN.out]; omega) m (.slice Am m.l.length cm)
            rw [put_last (by omega), put_last (by rw [HU.out]; omega)] at hR2
            refine ⟨_, rfl, ?_, ?_⟩
            · rw [HE.out]
              have hil := insM_len l k m (by omega)
              have hko := far3 wd g (k * 3) (k * 3 + 1) (k * 3 + 2) (.string m.a) (.bool m.f) (.slice Am m.l.length cm)
              have hoo : OwnsL (((wd.setCell ⟨g, k * 3, none⟩ (.string m.a)).setCell ⟨g, k * 3 + 1, none⟩ (.bool m.f)).setCell ⟨g, k * 3 + 2, none⟩ (.slice Am m.l.length cm)) (fun b => wb.heap.size ≤ b ∧ b ≠ g) us (l.map mapI) := HO.out.keep (fun b hb _ => (hko b hb.2).trans (HK.out b hb.2))
              have hmm : Owns (((wd.setCell ⟨g, k * 3, none⟩ (.string m.a)).setCell ⟨g, k * 3 + 1, none⟩ (.bool m.f)).setCell ⟨g, k * 3 + 2, none⟩ (.slice Am m.l.length cm)) T (.slice Am m.l.length cm) (intsD m.l) := HMU.out.keep (fun b hb hl => (hko b (by omega)).trans (HW.out.block b hl))
              have hins := OwnsL.ins (U := fun b => (w.heap.size ≤ b ∨ T b) ∧ b ≠ g) k hoo hmm (by omega) (fun b hb => ⟨.inl (by omega), hb.2⟩) (fun b hb => ⟨.inr hb, by have := HTT.out b hb; omega⟩) (fun b hb hb' => by have := HTT.out b hb'; have := hb.1; omega)
              have hrr : Rw (((wd.setCell ⟨g, k * 3, none⟩ (.string m.a)).setCell ⟨g, k * 3 + 1, none⟩ (.bool m.f)).setCell ⟨g, k * 3 + 2, none⟩ (.slice Am m.l.length cm)) g 53 3 (insM l k m).length cap (mvl (insM l k m) (us.take k ++ (.slice Am m.l.length cm) :: us.drop k)) := by
                rw [hil]
                exact hR2
              have hh := Rw.maps (S := fun b => w.heap.size ≤ b ∨ T b) hrr (.inl (by omega)) (by omega) hmax hins
              rw [hil] at hh
              exact hh
            · exact bsM HW.out (by show w.heap.size ≤ g; omega)
          · have z1 : Go.Op.bytesLess l[j].a.toList m.a.toList = false := by rw [h3]; exact blessM_irr _
            have z2 : (l[j].a.toList == m.a.toList) = true := by rw [h3]; exact beq_self_eq_true _
            clear h3
            go_upto_region 3 with (fail)
            refine but_begin (f := 12) (S := fun V => Below wr.drew.heap.size wr.drew V) (by kernel_rfl) ?_
            refine but_take (f := 12) (i := 0) (v := ?vrdy0) rfl (by kernel_rfl) (by kernel_rfl) (by kernel_rfl) (by kernel_rfl) (by kernel_rfl) (fun _ _ _ h => h) (Or.inl ⟨(by rfl), ?hyrdy0⟩) (Below.refl _ _) ?restrdy0
            case hyrdy0 =>
              intro W hW
              go_simp
              exact rfl
            simp only [List.getElem_toArray, List.getElem_cons_succ, List.getElem_cons_zero, Act.put, List.setIfInBounds_toArray, List.set_cons_zero, List.set_cons_succ]
            refine but_take (f := 12) (i := 1) (v := ?vrdy1) rfl (by kernel_rfl) (by kernel_rfl) (by kernel_rfl) (by kernel_rfl) (by kernel_rfl) (fun _ _ _ h => h) (Or.inl ⟨(by rfl), ?hyrdy1⟩) (Below.refl _ _) ?restrdy1
            case hyrdy1 =>
              intro W hW
              go_simp
              exact rfl
            simp only [List.getElem_toArray, List.getElem_cons_succ, List.getElem_cons_zero, Act.put, List.setIfInBounds_toArray, List.set_cons_zero, List.set_cons_succ]
            refine but_take (f := 12) (i := 2) (v := ?vrdy2) rfl (by kernel_rfl) (by kernel_rfl) (by kernel_rfl) (by kernel_rfl) (by kernel_rfl) (fun _ _ _ h => h) (Or.inl ⟨(by rfl), ?hyrdy2⟩) (Below.refl _ _) ?restrdy2
            case hyrdy2 =>
              intro W hW
              go_simp
              exact rfl
            simp only [List.getElem_toArray, List.getElem_cons_succ, List.getElem_cons_zero, Act.put, List.setIfInBounds_toArray, List.set_cons_zero, List.set_cons_succ]
            refine but_take (f := 12) (i := 3) (v := ?vrdy3) rfl (by kernel_rfl) (by kernel_rfl) (by kernel_rfl) (by kernel_rfl) (by kernel_rfl) (fun _ _ _ h => h) (Or.inl ⟨((wanted_at rfl rfl rfl rfl).trans rfl), ?hyrdy3⟩) (Below.refl _ _) ?restrdy3
            case hyrdy3 =>
              intro W hW
              go_simp
              exact rfl
            simp only [List.getElem_toArray, List.getElem_cons_succ, List.getElem_cons_zero, Act.put, List.setIfInBounds_toArray, List.set_cons_zero, List.set_cons_succ]
            refine but_take (f := 12) (i := 4) (v := ?vrdy4) rfl (by kernel_rfl) (by kernel_rfl) (by kernel_rfl) (by kernel_rfl) (by kernel_rfl) (fun _ _ _ h => h) (Or.inl ⟨((wanted_at rfl rfl rfl rfl).trans rfl), ?hyrdy4⟩) (Below.refl _ _) ?restrdy4
            case hyrdy4 =>
              intro W hW
              go_simp
              exact rfl
            simp only [List.getElem_toArray, List.getElem_cons_succ, List.getElem_cons_zero, Act.put, List.setIfInBounds_toArray, List.set_cons_zero, List.set_cons_succ]
            refine but_take (f := 12) (i := 5) (v := ?vrdy5) rfl (by kernel_rfl) (by kernel_rfl) (by kernel_rfl) (by kernel_rfl) (by kernel_rfl) (fun _ _ _ h => h) (Or.inl ⟨((wanted_at rfl rfl rfl rfl).trans rfl), ?hyrdy5⟩) (Below.refl _ _) ?restrdy5
            case hyrdy5 =>
              intro W hW
              go_simp
              exact rfl
            simp only [List.getElem_toArray, List.getElem_cons_succ, List.getElem_cons_zero, Act.put, List.setIfInBounds_toArray, List.set_cons_zero, List.set_cons_succ]
            refine but_take (f := 12) (i := 6) (v := ?vrdy6) rfl (by kernel_rfl) (by kernel_rfl) (by kernel_rfl) (by kernel_rfl) (by kernel_rfl) (fun _ _ _ h => h) (Or.inl ⟨((wanted_at rfl rfl rfl rfl).trans rfl), ?hyrdy6⟩) (Below.refl _ _) ?restrdy6
            case hyrdy6 =>
              intro W hW
              go_simp
              exact rfl
            simp only [List.getElem_toArray, List.getElem_cons_succ, List.getElem_cons_zero, Act.put, List.setIfInBounds_toArray, List.set_cons_zero, List.set_cons_succ]
            refine but_take (f := 12) (i := 7) (v := ?vrdy7) rfl (by kernel_rfl) (by kernel_rfl) (by kernel_rfl) (by kernel_rfl) (by kernel_rfl) (fun _ _ _ h => h) (Or.inl ⟨((wanted_at rfl rfl rfl rfl).trans rfl), ?hyrdy7⟩) (Below.refl _ _) ?restrdy7
            case hyrdy7 =>
              intro W hW
              go_simp
              exact rfl
            simp only [List.getElem_toArray, List.getElem_cons_succ, List.getElem_cons_zero, Act.put, List.setIfInBounds_toArray, List.set_cons_zero, List.set_cons_succ]
            refine but_take (f := 12) (i := 8) (v := ?vrdy8) rfl (by kernel_rfl) (by kernel_rfl) (by kernel_rfl) (by kernel_rfl) (by kernel_rfl) (fun _ _ _ h => h) (Or.inl ⟨((wanted_at rfl rfl rfl rfl).trans rfl), ?hyrdy8⟩) (Below.refl _ _) ?restrdy8
            case hyrdy8 =>
              intro W hW
              have hb0 : Below wr.heap.size wr W := bstep (Below.drew1 _) hW
              have z0 := (hb0.cell (p := ⟨g, j * 3, none⟩) hgr).trans y0
              go_simp
              exact rfl
            simp only [List.getElem_toArray, List.getElem_cons_succ, List.getElem_cons_zero, Act.put, List.setIfInBounds_toArray, List.set_cons_zero, List.set_cons_succ]
            refine but_take (f := 12) (i := 9) (v := ?vrdy9) rfl (by kernel_rfl) (by kernel_rfl) (by kernel_rfl) (by kernel_rfl) (by kernel_rfl) (fun _ _ _ h => h) (Or.inl ⟨((wanted_at rfl rfl rfl rfl).trans rfl), ?hyrdy9⟩) (Below.refl _ _) ?restrdy9
            case hyrdy9 =>
              intro W hW
              go_simp
              exact rfl
            simp only [List.getElem_toArray, List.getElem_cons_succ, List.getElem_cons_zero, Act.put, List.setIfInBounds_toArray, List.set_cons_zero, List.set_cons_succ]
            refine but_take (f := 12) (i := 10) (v := ?vrdy10) rfl (by kernel_rfl) (by kernel_rfl) (by kernel_rfl) (by kernel_rfl) (by kernel_rfl) (fun _ _ _ h => h) (Or.inl ⟨((wanted_at rfl rfl rfl rfl).trans rfl), ?hyrdy10⟩) (Below.refl _ _) ?restrdy10
            case hyrdy10 =>
              intro W hW
              have hb0 : Below wr.heap.size wr W := bstep (Below.drew1 _) hW
              obtain ⟨q0, q1, q2, q3⟩ := box3M (box_on HQ.out hb0)
              go_simp
              exact rfl
            simp only [List.getElem_toArray, List.getElem_cons_succ, List.getElem_cons_zero, Act.put, List.setIfInBounds_toArray, List.set_cons_zero, List.set_cons_succ]
            refine but_take (f := 12) (i := 11) (v := ?vrdy11) rfl (by kernel_rfl) (by kernel_rfl) (by kernel_rfl) (by kernel_rfl) (by kernel_rfl) (fun _ _ _ h => h) (Or.inl ⟨((wanted_at rfl rfl rfl rfl).trans rfl), ?hyrdy11⟩) (Below.refl _ _) ?restrdy11
            case hyrdy11 =>
              intro W hW
              go_simp
              exact rfl
            simp only [List.getElem_toArray, List.getElem_cons_succ, List.getElem_cons_zero, Act.put, List.setIfInBounds_toArray, List.set_cons_zero, List.set_cons_succ]
            refine but_run (i := 12) (by kernel_rfl) rfl (by rfl) ?_
            simp only [List.getElem_toArray, List.getElem_cons_succ, List.getElem_cons_zero]
            intro K HK
            go_wp2_with fail
            refine HK.out _ wr.drew (fun h => absurd rfl h) ?_
            clear HK
            refine but_done (by kernel_rfl) ?_
            replace HR := Lib.hid (HR.out.keep (w' := wr.drew) rfl)
            replace HQ := Lib.hid (box_on HQ.out (Below.drew1 _))
            replace HW := Lib.hid (bstep HW.out (Below.drew1 _))
            replace HK : Hid (∀ b, b ≠ g → wr.drew.heap[b]? = W.heap[b]?) := Lib.hid (fun b hb => HK.out b hb)
            generalize wr.drew = wd at *
            obtain ⟨q0, q1, q2, q3⟩ := box3M HQ.out
            obtain ⟨a0, a1, a2⟩ := Rw.getM HR.out HUL.out HLEN.out (j := k) (by omega)
            obtain ⟨u0, hu0⟩ : ∃ y, wd.cell? ⟨g, k * 3, none⟩ = some y := ⟨_, a0⟩
            obtain ⟨u1, hu1⟩ : ∃ y, wd.cell? ⟨g, k * 3 + 1, none⟩ = some y := ⟨_, a1⟩
            obtain ⟨u2, hu2⟩ : ∃ y, wd.cell? ⟨g, k * 3 + 2, none⟩ = some y := ⟨_, a2⟩
            have f0 := Rw.frozen HR.out (k * 3)
            have f1 := Rw.frozen HR.out (k * 3 + 1)
            have f2 := Rw.frozen HR.out (k * 3 + 2)
            clear a0 a1 a2
            clear h0 d1 hjn i4 z1 z2 y0
            have j1 : (k : Int) < (l.length : Int) + 1 := by omega
            have j2 : (0 : Int) ≤ (k : Int) := by omega
            go_wp2
            go_ret
            have hR2 := Rw.setM HR.out HUL.out (k := k) (by rw [HLEN.out]; omega) m (.slice Am m.l.length cm)
            rw [put_last (by omega), put_last (by rw [HU.out]; omega)] at hR2
            refine ⟨_, rfl, ?_, ?_⟩
            · rw [HE.out]
              have hil := insM_len l k m (by omega)
              have hko := far3 wd g (k * 3) (k * 3 + 1) (k * 3 + 2) (.string m.a) (.bool m.f) (.slice Am m.l.length cm)
              have hoo : OwnsL (((wd.setCell ⟨g, k * 3, none⟩ (.string m.a)).setCell ⟨g, k * 3 + 1, none⟩ (.bool m.f)).setCell ⟨g, k * 3 + 2, none⟩ (.slice Am m.l.length cm)) (fun b => wb.heap.size ≤ b ∧ b ≠ g) us (l.map mapI) := HO.out.keep (fun b hb _ => (hko b hb.2).trans (HK.out b hb.2))
              have hmm : Owns (((wd.setCell ⟨g, k * 3, none⟩ (.string m.a)).setCell ⟨g, k * 3 + 1, none⟩ (.bool m.f)).setCell ⟨g, k * 3 + 2, none⟩ (.slice Am m.l.length cm)) T (.slice Am m.l.length cm) (intsD m.l) := HMU.out.keep (fun b hb hl => (hko b (by omega)).trans (HW.out.block b hl))
              have hins := OwnsL.ins (U := fun b => (w.heap.size ≤ b ∨ T b) ∧ b ≠ g) k hoo hmm (by omega) (fun b hb => ⟨.inl (by omega), hb.2⟩) (fun b hb => ⟨.inr hb, by have := HTT.out b hb; omega⟩) (fun b hb hb' => by have := HTT.out b hb'; have := hb.1; omega)
              have hrr : Rw (((wd.setCell ⟨g, k * 3, none⟩ (.string m.a)).setCell ⟨g, k * 3 + 1, none⟩ (.bool m.f)).setCell ⟨g, k * 3 + 2, none⟩ (.slice Am m.l.length cm)) g 53 3 (insM l k m).length cap (mvl (insM l k m) (us.take k ++ (.slice Am m.l.length cm) :: us.drop k)) := by
                rw [hil]
                exact hR2
              have hh := Rw.maps (S := fun b => w.heap.size ≤ b ∨ T b) hrr (.inl (by omega)) (by omega) hmax hins
              rw [hil] at hh
              exact hh
            · exact bsM HW.out (by show w.heap.size ≤ g; omega)
        · have HE := Lib.hid (show bubM l l.length m.a = bubM l j m.a by rw [HI.out, HJ.out, bubM_step hj hs])
          obtain ⟨z1, z2⟩ := gt_facts hs
          clear hs
          go_upto_region 3 with (fail)
          refine but_begin (f := 12) (S := fun V => Below wr.drew.heap.size wr.drew V) (by kernel_rfl) ?_
          refine but_take (f := 12) (i := 0) (v := ?vrcy0) rfl (by kernel_rfl) (by kernel_rfl) (by kernel_rfl) (by kernel_rfl) (by kernel_rfl) (fun _ _ _ h => h) (Or.inl ⟨(by rfl), ?hyrcy0⟩) (Below.refl _ _) ?restrcy0
          case hyrcy0 =>
            intro W hW
            go_simp
            exact rfl
          simp only [List.getElem_toArray, List.getElem_cons_succ, List.getElem_cons_zero, Act.put, List.setIfInBounds_toArray, List.set_cons_zero, List.set_cons_succ]
          refine but_take (f := 12) (i := 1) (v := ?vrcy1) rfl (by kernel_rfl) (by kernel_rfl) (by kernel_rfl) (by kernel_rfl) (by kernel_rfl) (fun _ _ _ h => h) (Or.inl ⟨(by rfl), ?hyrcy1⟩) (Below.refl _ _) ?restrcy1
          case hyrcy1 =>
            intro W hW
            go_simp
            exact rfl
          simp only [List.getElem_toArray, List.getElem_cons_succ, List.getElem_cons_zero, Act.put, List.setIfInBounds_toArray, List.set_cons_zero, List.set_cons_succ]
          refine but_take (f := 12) (i := 2) (v := ?vrcy2) rfl (by kernel_rfl) (by kernel_rfl) (by kernel_rfl) (by kernel_rfl) (by kernel_rfl) (fun _ _ _ h => h) (Or.inl ⟨(by rfl), ?hyrcy2⟩) (Below.refl _ _) ?restrcy2
          case hyrcy2 =>
            intro W hW
            go_simp
            exact rfl
          simp only [List.getElem_toArray, List.getElem_cons_succ, List.getElem_cons_zero, Act.put, List.setIfInBounds_toArray, List.set_cons_zero, List.set_cons_succ]
          refine but_take (f := 12) (i := 3) (v := ?vrcy3) rfl (by kernel_rfl) (by kernel_rfl) (by kernel_rfl) (by kernel_rfl) (by kernel_rfl) (fun _ _ _ h => h) (Or.inl ⟨((wanted_at rfl rfl rfl rfl).trans rfl), ?hyrcy3⟩) (Below.refl _ _) ?restrcy3
          case hyrcy3 =>
            intro W hW
            go_simp
            exact rfl
          simp only [List.getElem_toArray, List.getElem_cons_succ, List.getElem_cons_zero, Act.put, List.setIfInBounds_toArray, List.set_cons_zero, List.set_cons_succ]
          refine but_take (f := 12) (i := 4) (v := ?vrcy4) rfl (by kernel_rfl) (by kernel_rfl) (by kernel_rfl) (by kernel_rfl) (by kernel_rfl) (fun _ _ _ h => h) (Or.inl ⟨((wanted_at rfl rfl rfl rfl).trans rfl), ?hyrcy4⟩) (Below.refl _ _) ?restrcy4
          case hyrcy4 =>
            intro W hW
            go_simp
            exact rfl
          simp only [List.getElem_toArray, List.getElem_cons_succ, List.getElem_cons_zero, Act.put, List.setIfInBounds_toArray, List.set_cons_zero, List.set_cons_succ]
          refine but_take (f := 12) (i := 5) (v := ?vrcy5) rfl (by kernel_rfl) (by kernel_rfl) (by kernel_rfl) (by kernel_rfl) (by kernel_rfl) (fun _ _ _ h => h) (Or.inl ⟨((wanted_at rfl rfl rfl rfl).trans rfl), ?hyrcy5⟩) (Below.refl _ _) ?restrcy5
          case hyrcy5 =>
            intro W hW
            go_simp
            exact rfl
          simp only [List.getElem_toArray, List.getElem_cons_succ, List.getElem_cons_zero, Act.put, List.setIfInBounds_toArray, List.set_cons_zero, List.set_cons_succ]
          refine but_take (f := 12) (i := 6) (v := ?vrcy6) rfl (by kernel_rfl) (by kernel_rfl) (by kernel_rfl) (by kernel_rfl) (by kernel_rfl) (fun _ _ _ h => h) (Or.inl ⟨((wanted_at rfl rfl rfl rfl).trans rfl), ?hyrcy6⟩) (Below.refl _ _) ?restrcy6
          case hyrcy6 =>
            intro W hW
            go_simp
            exact rfl
          simp only [List.getElem_toArray, List.getElem_cons_succ, List.getElem_cons_zero, Act.put, List.setIfInBounds_toArray, List.set_cons_zero, List.set_cons_succ]
          refine but_take (f := 12) (i := 7) (v := ?vrcy7) rfl (by kernel_rfl) (by kernel_rfl) (by kernel_rfl) (by kernel_rfl) (by kernel_rfl) (fun _ _ _ h => h) (Or.inl ⟨((wanted_at rfl rfl rfl rfl).trans rfl), ?hyrcy7⟩) (Below.refl _ _) ?restrcy7
          case hyrcy7 =>
            intro W hW
            go_simp
            exact rfl
          simp only [List.getElem_toArray, List.getElem_cons_succ, List.getElem_cons_zero, Act.put, List.setIfInBounds_toArray, List.set_cons_zero, List.set_cons_succ]
          refine but_take (f := 12) (i := 8) (v := ?vrcy8) rfl (by kernel_rfl) (by kernel_rfl) (by kernel_rfl) (by kernel_rfl) (by kernel_rfl) (fun _ _ _ h => h) (Or.inl ⟨((wanted_at rfl rfl rfl rfl).trans rfl), ?hyrcy8⟩) (Below.refl _ _) ?restrcy8
          case hyrcy8 =>
            intro W hW
            have hb0 : Below wr.heap.size wr W := bstep (Below.drew1 _) hW
            have z0 := (hb0.cell (p := ⟨g, j * 3, none⟩) hgr).trans y0
            go_simp
            exact rfl
          simp only [List.getElem_toArray, List.getElem_cons_succ, List.getElem_cons_zero, Act.put, List.setIfInBounds_toArray, List.set_cons_zero, List.set_cons_succ]
          refine but_take (f := 12) (i := 9) (v := ?vrcy9) rfl (by kernel_rfl) (by kernel_rfl) (by kernel_rfl) (by kernel_rfl) (by kernel_rfl) (fun _ _ _ h => h) (Or.inl ⟨((wanted_at rfl rfl rfl rfl).trans rfl), ?hyrcy9⟩) (Below.refl _ _) ?restrcy9
          case hyrcy9 =>
            intro W hW
            go_simp
            exact rfl
          simp only [List.getElem_toArray, List.getElem_cons_succ, List.getElem_cons_zero, Act.put, List.setIfInBounds_toArray, List.set_cons_zero, List.set_cons_succ]
          refine but_take (f := 12) (i := 10) (v := ?vrcy10) rfl (by kernel_rfl) (by kernel_rfl) (by kernel_rfl) (by kernel_rfl) (by kernel_rfl) (fun _ _ _ h => h) (Or.inl ⟨((wanted_at rfl rfl rfl rfl).trans rfl), ?hyrcy10⟩) (Below.refl _ _) ?restrcy10
          case hyrcy10 =>
            intro W hW
            have hb0 : Below wr.heap.size wr W := bstep (Below.drew1 _) hW
            obtain ⟨q0, q1, q2, q3⟩ := box3M (box_on HQ.out hb0)
            go_simp
            exact rfl
          simp only [List.getElem_toArray, List.getElem_cons_succ, List.getElem_cons_zero, Act.put, List.setIfInBounds_toArray, List.set_cons_zero, List.set_cons_succ]
          refine but_take (f := 12) (i := 11) (v := ?vrcy11) rfl (by kernel_rfl) (by kernel_rfl) (by kernel_rfl) (by kernel_rfl) (by kernel_rfl) (fun _ _ _ h => h) (Or.inl ⟨((wanted_at rfl rfl rfl rfl).trans rfl), ?hyrcy11⟩) (Below.refl _ _) ?restrcy11
          case hyrcy11 =>
            intro W hW
            go_simp
            exact rfl
          simp only [List.getElem_toArray, List.getElem_cons_succ, List.getElem_cons_zero, Act.put, List.setIfInBounds_toArray, List.set_cons_zero, List.set_cons_succ]
          refine but_run (i := 12) (by kernel_rfl) rfl (by rfl) ?_
          simp only [List.getElem_toArray, List.getElem_cons_succ, List.getElem_cons_zero]
          intro K HK
          go_wp2_with fail
          refine HK.out _ wr.drew (fun h => absurd rfl h) ?_
          clear HK
          refine but_done (by kernel_rfl) ?_
          replace HR := Lib.hid (HR.out.keep (w' := wr.drew) rfl)
          replace HQ := Lib.hid (box_on HQ.out (Below.drew1 _))
          replace HW := Lib.hid (bstep HW.out (Below.drew1 _))
          replace HK : Hid (∀ b, b ≠ g → wr.drew.heap[b]? = W.heap[b]?) := Lib.hid (fun b hb => HK.out b hb)
          generalize wr.drew = wd at *
          obtain ⟨q0, q1, q2, q3⟩ := box3M HQ.out
          obtain ⟨a0, a1, a2⟩ := Rw.getM HR.out HUL.out HLEN.out (j := k) (by omega)
          obtain ⟨u0, hu0⟩ : ∃ y, wd.cell? ⟨g, k * 3, none⟩ = some y := ⟨_, a0⟩
          obtain ⟨u1, hu1⟩ : ∃ y, wd.cell? ⟨g, k * 3 + 1, none⟩ = some y := ⟨_, a1⟩
          obtain ⟨u2, hu2⟩ : ∃ y, wd.cell? ⟨g, k * 3 + 2, none⟩ = some y := ⟨_, a2⟩
          have f0 := Rw.frozen HR.out (k * 3)
          have f1 := Rw.frozen HR.out (k * 3 + 1)
          have f2 := Rw.frozen HR.out (k * 3 + 2)
          clear a0 a1 a2
          have j1 : (k : Int) < (l.length : Int) + 1 := by omega
          have j2 : (0 : Int) ≤ (k : Int) := by omega
          have hUj : j < us.length := by rw [HU.out]; exact hj
          obtain ⟨y0, y1, y2⟩ := Rw.getM HR.out HUL.out HLEN.out (j := j) (by omega)
          rw [put_get hjk hk] at y0 y1
          rw [put_get hjk (by rw [HU.out]; exact hk)] at y2
          obtain ⟨Aj, cj, ej, _, _⟩ := Reads.lenN (show Reads _ _ us[j] (.row _ _ _ _) from by have := HO.out.reads.2 j hUj (by simpa using hj); rw [List.getElem_map] at this; exact this)
          rw [ej] at y2
          go_wp2
          have hR2 := Rw.setM HR.out HUL.out (k := k) (by rw [HLEN.out]; omega) l[j] (.slice Aj (l[j]).l.length cj)
          have e2 : (l.take k ++ x :: l.drop k).set k l[j] = l.take j ++ l[j] :: l.drop j := by rw [HJ.out]; exact put_shift hj x
          have e3 : (us.take k ++ y :: us.drop k).set k (.slice Aj (l[j]).l.length cj) = us.take j ++ us[j] :: us.drop j := by rw [HJ.out, ← ej]; exact put_shift hUj y
          rw [e2, e3] at hR2
          have hko := far3 wd g (k * 3) (k * 3 + 1) (k * 3 + 2) (.string (l[j]).a) (.bool (l[j]).f) (.slice Aj (l[j]).l.length cj)
          go_roundw
          case rel => exact ⟨j, l[j], us[j], by omega, by go_num, HE, Lib.hid hR2, Lib.hid (bsM HW.out (by show w.heap.size ≤ g; omega)), Lib.hid (fun b hb => (hko b hb).trans (HK.out b hb))⟩
          case measure => simp [intOf]; omega
end Go.Proofs.Ytcimpcocgmlmoaa
