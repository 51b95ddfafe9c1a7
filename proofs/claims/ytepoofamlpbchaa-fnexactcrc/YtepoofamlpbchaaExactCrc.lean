/- The walk of FnExactCrc: at every argument the call returns true and writes nothing that was there. No condition. -/
import Derived.Test.YtepoofamlpbchaaCrc
namespace Go.Proofs.Ytepoofamlpbchaa
open Go.RowKit
set_option maxHeartbeats 400000 in
theorem exactCrc_walk (a0 : Option Addr) (len0 cap0 : Nat) (z0 : List Int) (w : World) (w0 : CameIn .u8 w a0 len0 cap0 z0) :
    Calls Try.prog 10 #[.slice a0 len0 cap0] w fun e w' => e = .returned (.bool true) ∧ Below w.heap.size w w' := by
  obtain ⟨l, rfl, hr⟩ := w0.rd
  clear w0
  by_cases hbig : l.length ≤ 1048576
  · have hn : l.length ≤ 1099511627776 := by omega
    have d0 : decide ((1048576 : Int) < (l.length : Int)) = false := decide_eq_false (by omega)
    go_enter Try.func10, Try.ntmps10
    go_wp2_with fail
    refine (toByteS_any _ _ l _ hr hn).mono ?_
    rintro e w1 ⟨rfl, o1, b1⟩
    go_wp2_with fail
    refine (specCrc_any _ _ l _ o1.all hn).mono ?_
    rintro e w2 ⟨rfl, rfl⟩
    go_wp2_with fail
    refine (toByteS_any _ _ l _ (hr.on b1) hn).mono ?_
    rintro e w2 ⟨rfl, o2, b2⟩
    have b3 := bstep b1 b2
    go_wp2_with fail
    refine (implCrc_any _ _ l _ o2.all hn).mono ?_
    rintro e w3 ⟨rfl, rfl⟩
    go_wp2_with fail
    refine (toByteS_any _ _ l _ (hr.on b3) hn).mono ?_
    rintro e w4 ⟨rfl, o4, b4⟩
    have b5 := bstep b3 b4
    go_wp2_with fail
    refine (eqByteS_any _ _ _ _ l l _ (o2.on b4).all o4.all hn hn).mono ?_
    rintro e _ ⟨rfl, n3, rfl⟩
    rw [beq_self_eq_true]
    go_wp2
    go_ret
    exact ⟨rfl, bdrew b5 n3⟩
  · have d0 : decide ((1048576 : Int) < (l.length : Int)) = true := decide_eq_true (by omega)
    go_enter Try.func10, Try.ntmps10
    go_wp2
    go_ret
    exact ⟨rfl, Below.refl _ _⟩
end Go.Proofs.Ytepoofamlpbchaa
