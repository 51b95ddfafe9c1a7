/- Contracts for impl.NodeOk, spec.NodeOk, spec.l5Count. Conditions: at most 1100000 sets and keys. -/
import Derived.Test.YthopkhpiikiknaaNodePure
import Derived.Test.YthopkhpiikiknaaKSetOk
namespace Go.Proofs.Ythopkhpiikiknaa
open Go.RowKit
set_option maxRecDepth 100000
set_option linter.unusedSimpArgs false
set_option linter.unusedVariables false

theorem l5Count_any (v : Value) (ns : List (List KeyD)) (w : World) (hv : Reads w w.heap.size v (setsD ns)) (hs : SmallN ns) : Calls Try.prog 135 #[.agg #[v]] w fun e w' => e = .returned (.int .i64 (sumN ns : Nat)) ∧ Below w.heap.size w w' := by
  obtain ⟨A, c, rfl, _, _⟩ := hv.lenN
  have B0 := bal1 w (.cells #[.slice A ns.length c] 77)
  have HB := Lib.hid B0
  have Q0 := Lib.hid (al1 w (.cells #[.slice A ns.length c] 77))
  have HV := Lib.hid (hv.on B0)
  have HS := Lib.hid hs
  have hn := hs.1
  clear hv hs B0
  go_enter Try.func135, Try.ntmps135
  go_wp2
  generalize w.alloc (.cells #[.slice A ns.length c] 77) = W at *
  obtain ⟨x0, x1⟩ := box1N Q0.out
  go_loopw [3, 4] (fun t i wr => ∃ k : Nat, k ≤ ns.length ∧ i = .int .i64 k ∧ t = .int .i64 (sumN (ns.take k) : Nat) ∧ W = wr) (fun _ i _ => ns.length - (intOf i).toNat)
  case atStart => exact ⟨0, Nat.zero_le _, rfl, by simp [sumN], rfl⟩
  case round =>
    obtain ⟨k, hk, rfl, rfl, rfl⟩ := hrel
    have hsum := Nat.le_trans (sumN_take_le ns k) HS.out.2
    by_cases hlt : k < ns.length
    · obtain ⟨b, off, rfl, hbb, hc⟩ := HV.out.set hlt
      obtain ⟨A1, d1, c1, _, _, r1⟩ := hc k hlt
      have hl := HS.out.at hlt
      have T1 := Lib.hid (sumN_take hlt)
      have i1 : (k : Int) < (ns.length : Int) := by omega
      have i2 : (0 : Int) ≤ (k : Int) := by omega
      clear hc r1
      generalize hq : sumN (ns.take k) = q at *
      have HQ := Lib.hid hq
      clear hq
      go_wp2
      go_roundw
      case rel => exact ⟨k + 1, by omega, by go_num, by rw [T1.out]; go_num, trivial⟩
      case measure => simp [intOf]; omega
    · have e : k = ns.length := by omega
      subst e
      have hh : sumN (ns.take ns.length) = sumN ns := by rw [List.take_length]
      rw [hh] at *
      go_wp2
      go_ret
      exact ⟨rfl, HB.out⟩
set_option maxHeartbeats 2000000 in
theorem specNodeOk_any (v : Value) (ns : List (List KeyD)) (w : World) (hv : Reads w w.heap.size v (setsD ns)) (hs : SmallN ns) : Calls Try.prog 121 #[.agg #[v]] w (SaysBool w (nodeOkB ns)) := by
  obtain ⟨A, c, rfl, _, _⟩ := hv.lenN
  have B0 := bal1 w (.cells #[.slice A ns.length c] 77)
  have HB := Lib.hid B0
  have Q0 := Lib.hid (al1 w (.cells #[.slice A ns.length c] 77))
  have HV := Lib.hid (hv.on B0)
  have HS := Lib.hid hs
  have hn := hs.1
  obtain ⟨R, hR⟩ : ∃ R, nodeOkB ns = R := ⟨_, rfl⟩
  rw [hR]
  have HR := Lib.hid hR
  clear hv hs hR B0
  go_enter Try.func121, Try.ntmps121
  go_wp2
  generalize w.alloc (.cells #[.slice A ns.length c] 77) = W at *
  go_loopw [3] (fun i wr => ∃ k : Nat, k ≤ ns.length ∧ i = .int .i64 k ∧ Hid ((ns.take k).all okL = true) ∧ Hid (Below W.heap.size W wr)) (fun i _ => ns.length - (intOf i).toNat)
  case atStart => exact ⟨0, Nat.zero_le _, rfl, Lib.hid rfl, Lib.hid (Below.refl _ _)⟩
  case round =>
    obtain ⟨k, hk, rfl, HI, HW⟩ := hrel
    have Q1 := Lib.hid (box_on Q0.out HW.out)
    obtain ⟨x0, x1⟩ := box1N Q1.out
    by_cases hlt : k < ns.length
    · obtain ⟨b, off, rfl, hbb, hc⟩ := (HV.out.on HW.out).set hlt
      obtain ⟨A1, d1, c1, _, _, r1⟩ := hc k hlt
      have hl := HS.out.at hlt
      have R1 := Lib.hid r1
      have i1 : (k : Int) < (ns.length : Int) := by omega
      have i2 : (0 : Int) ≤ (k : Int) := by omega
      have HC : Hid (∀ w', Below wr.heap.size wr w' → w'.cell? ⟨b, off + k, none⟩ = some (.slice A1 (ns[k]).length d1)) := Lib.hid (fun w' h => (h.cell (p := ⟨b, off + k, none⟩) hbb).trans c1)
      clear hc r1
      cases hs : setOkB ns[k]
      · have HSk := Lib.hid hs
        clear hs
        go_wp2_with fail
        refine (specSetOk_any _ ns[k] _ R1.out (by omega)).mono ?_
        rintro r w1 ⟨rfl, b1⟩
        rw [HSk.out]
        have B1 := Lib.hid (HW.out.trans (b1.mono HW.out.size))
        clear b1 x0 x1 c1
        go_wp2
        go_ret
        exact ⟨ret_boolB (by rw [← HR.out, all_bad hlt (by simp [okL, HSk.out])]), bstep HB.out B1.out⟩
      · have HSk := Lib.hid hs
        clear hs
        by_cases h0 : (ns[k]).length = 0
        · have z0 : (((ns[k]).length : Int) == 0) = true := by simp [h0]
          have HBad := Lib.hid (all_bad hlt (by simp [okL, h0]))
          clear h0
          go_wp2_with fail
          refine (specSetOk_any _ ns[k] _ R1.out (by omega)).mono ?_
          rintro r w1 ⟨rfl, b1⟩
          rw [HSk.out]
          have B1 := Lib.hid (HW.out.trans (b1.mono HW.out.size))
          have c2 := HC.out _ b1
          obtain ⟨y0, y1⟩ := box1N (box_on Q1.out b1)
          clear b1 x0 x1 c1
          go_wp2
          go_ret
          exact ⟨ret_boolB (by rw [← HR.out, HBad.out]), bstep HB.out B1.out⟩
        · have z0 : (((ns[k]).length : Int) == 0) = false := by simp; simpa using h0
          have H0 := Lib.hid h0
          clear h0
          go_wp2_with fail
          refine (specSetOk_any _ ns[k] _ R1.out (by omega)).mono ?_
          rintro r w1 ⟨rfl, b1⟩
          rw [HSk.out]
          have B1 := Lib.hid (HW.out.trans (b1.mono HW.out.size))
          have c2 := HC.out _ b1
          obtain ⟨y0, y1⟩ := box1N (box_on Q1.out b1)
          clear b1 x0 x1 c1
          go_wp2
          go_roundw
          case rel => exact ⟨k + 1, by omega, by go_num, Lib.hid (all_take hlt HI.out (by have := H0.out; simp [okL, HSk.out]; omega)), B1⟩
          case measure => simp [intOf]; omega
    · have e : k = ns.length := by omega
      subst e
      have hh2 := HI.out
      rw [List.take_length] at hh2
      have HH := Lib.hid hh2
      clear hh2
      by_cases h3 : ns.length ≤ 3
      · have d0 : decide ((ns.length : Int) ≤ 3) = true := decide_eq_true (by omega)
        go_wp2_with fail
        refine (l5Count_any _ ns _ (HV.out.on HW.out) HS.out).mono ?_
        rintro r w1 ⟨rfl, b1⟩
        have B1 := Lib.hid (HW.out.trans (b1.mono HW.out.size))
        clear b1
        have H3 := Lib.hid h3
        go_wp2
        go_ret
        refine ⟨ret_boolB ?_, bstep HB.out B1.out⟩
        rw [← HR.out, nodeOkB, HH.out, decide_eq_true H3.out]
        simp
        omega
      · have d0 : decide ((ns.length : Int) ≤ 3) = false := decide_eq_false (by omega)
        have H3 := Lib.hid h3
        go_wp2
        go_ret
        refine ⟨ret_boolB ?_, bstep HB.out HW.out⟩
        rw [← HR.out, nodeOkB, decide_eq_false H3.out]
        simp
end Go.Proofs.Ythopkhpiikiknaa
