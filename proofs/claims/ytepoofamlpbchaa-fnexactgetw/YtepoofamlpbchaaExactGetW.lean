/- The walk of FnExactGetW: at every argument the call returns true and writes nothing that was there. No condition. -/
import Derived.Test.YtepoofamlpbchaaGetW
namespace Go.Proofs.Ytepoofamlpbchaa
open Go.RowKit
set_option maxHeartbeats 400000 in
theorem exactGetW_walk (a0 : Option Addr) (len0 cap0 : Nat) (z0 : List Int) (a1 : Int) (w : World) (w0 : CameIn .u8 w a0 len0 cap0 z0) (_w1 : (Lit.int .i64 a1).wf = true) :
    Calls Try.prog 7 #[.slice a0 len0 cap0, .int .i64 a1] w fun e w' => e = .returned (.bool true) ∧ Below w.heap.size w w' := by
  obtain ⟨l, rfl, hr⟩ := w0.rd
  clear w0
  by_cases hbig : l.length ≤ 1048576
  · have hn : l.length ≤ 1099511627776 := by omega
    have d0 : decide ((1048576 : Int) < (l.length : Int)) = false := decide_eq_false (by omega)
    by_cases hk : 0 ≤ a1 ∧ a1 + 2 ≤ (l.length : Int)
    · obtain ⟨k, rfl⟩ := Int.eq_ofNat_of_zero_le hk.1
      have hk2 : k + 2 ≤ l.length := by have := hk.2; omega
      clear hk
      go_enter Try.func7, Try.ntmps7
      go_wp2_with fail
      refine (toByteS_any _ _ l _ hr hn).mono ?_
      rintro e w1 ⟨rfl, o1, b1⟩
      go_wp2_with fail
      refine (specGetW_yes _ _ l k _ o1.all hn hk2).mono ?_
      rintro e _ ⟨rfl, n1, rfl⟩
      have r2 := (hr.on b1).drewN n1
      go_wp2_with fail
      refine (toByteS_any _ _ l _ r2 hn).mono ?_
      rintro e w2 ⟨rfl, o2, b2⟩
      have b3 := bstep (bdrew b1 n1) b2
      have r3 := hr.on b3
      go_wp2_with fail
      refine (implGetW_yes _ _ l k _ o2.all hn hk2).mono ?_
      rintro e _ ⟨rfl, n2, rfl⟩
      go_wp2_with fail
      refine (toByteS_any _ _ l _ (r3.drewN n2) hn).mono ?_
      rintro e w4 ⟨rfl, o4, b4⟩
      have o5 := (o2.drewN n2).on b4
      have b5 := bstep (bdrew b3 n2) b4
      go_wp2_with fail
      refine (eqByteS_any _ _ _ _ l l _ o5.all o4.all hn hn).mono ?_
      rintro e _ ⟨rfl, n3, rfl⟩
      rw [beq_self_eq_true]
      go_wp2
      go_ret
      exact ⟨rfl, bdrew b5 n3⟩
    · have hk2 : a1 < 0 ∨ (l.length : Int) < a1 + 2 := by omega
      clear hk
      go_enter Try.func7, Try.ntmps7
      go_wp2_with fail
      refine (toByteS_any _ _ l _ hr hn).mono ?_
      rintro e w1 ⟨rfl, o1, b1⟩
      go_wp2_with fail
      refine (specGetW_no _ _ l a1 _ hn hk2).mono ?_
      rintro e w2 ⟨rfl, rfl⟩
      go_wp2_with fail
      refine (toByteS_any _ _ l _ (hr.on b1) hn).mono ?_
      rintro e w2 ⟨rfl, o2, b2⟩
      have b3 := bstep b1 b2
      have r3 := hr.on b3
      go_wp2_with fail
      refine (implGetW_no _ _ l a1 _ hn hk2).mono ?_
      rintro e w3 ⟨rfl, rfl⟩
      go_wp2_with fail
      refine (toByteS_any _ _ l _ r3 hn).mono ?_
      rintro e w4 ⟨rfl, o4, b4⟩
      have o5 := o2.on b4
      have b5 := bstep b3 b4
      go_wp2_with fail
      refine (eqByteS_any _ _ _ _ l l _ o5.all o4.all hn hn).mono ?_
      rintro e _ ⟨rfl, n3, rfl⟩
      rw [beq_self_eq_true]
      go_wp2
      go_ret
      exact ⟨rfl, bdrew b5 n3⟩
  · have d0 : decide ((1048576 : Int) < (l.length : Int)) = true := decide_eq_true (by omega)
    go_enter Try.func7, Try.ntmps7
    go_wp2
    go_ret
    exact ⟨rfl, Below.refl _ _⟩
end Go.Proofs.Ytepoofamlpbchaa
