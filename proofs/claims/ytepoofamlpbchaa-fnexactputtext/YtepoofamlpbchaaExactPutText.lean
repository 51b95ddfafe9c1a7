/- The walk of FnExactPutText: at every argument the call returns true and writes nothing that was there. No condition. -/
import Derived.Test.YtepoofamlpbchaaExactPutW
namespace Go.Proofs.Ytepoofamlpbchaa
open Go.RowKit
set_option maxHeartbeats 1000000 in
theorem exactPutText_small (a0 : Option Addr) (cap0 : Nat) (l L : List UInt8) (s : ByteArray) (w : World) (hr : Rd w w.heap.size a0 l) (hbig : l.length ≤ 1048576) (hL : L.length ≤ 1048676) (hsb : s.size ≤ 1048576)
    (HS : Hid (∀ (A : Option Addr) (cap : Nat) (w : World), Rd w w.heap.size A l → Calls Try.prog 31 #[.slice A l.length cap, .string s] w fun e w' => ∃ g v, e = .returned v ∧ Own w' g v L ∧ w.heap.size ≤ g ∧ Below w.heap.size w w'))
    (HI : Hid (∀ (A : Option Addr) (cap : Nat) (w : World), Rd w w.heap.size A l → Calls Try.prog 16 #[.slice A l.length cap, .string s] w fun e w' => ∃ g v, e = .returned v ∧ Own w' g v L ∧ w.heap.size ≤ g ∧ Below w.heap.size w w')) :
    Calls Try.prog 8 #[.slice a0 l.length cap0, .string s] w fun e w' => e = .returned (.bool true) ∧ Below w.heap.size w w' := by
  have hn : l.length ≤ 1099511627776 := by omega
  have hnL : L.length ≤ 1099511627776 := by omega
  have d0 : decide ((1048576 : Int) < (l.length : Int)) = false := decide_eq_false (by omega)
  have d9 : decide ((1048576 : Int) < (s.size : Int)) = false := decide_eq_false (by omega)
  go_enter Try.func8, Try.ntmps8
  go_wp2_with fail
  refine (toByteS_any _ _ l _ hr hn).mono ?_
  rintro e w1 ⟨rfl, o1, b1⟩
  go_wp2_with fail
  refine (HS.out _ _ _ o1.all).mono ?_
  rintro e w2 ⟨gs, vs, rfl, os, hgs, b2⟩
  have bb2 := bstep b1 b2
  clear b1 b2 o1
  obtain ⟨cs, rfl, _, _⟩ := os.rd
  have r2 := hr.on bb2
  go_wp2_with fail
  refine (toByteS_any _ _ l _ r2 hn).mono ?_
  rintro e w3 ⟨rfl, ox, b3⟩
  have bb3 := bstep bb2 b3
  have os3 := os.on b3
  have lts := os.lt
  clear r2 os
  go_wp2_with fail
  refine (HI.out _ _ _ ox.all).mono ?_
  rintro e w4 ⟨gg, vg, rfl, og, hgg, b4⟩
  have bb4 := bstep bb3 b4
  have os4 := os3.on b4
  have ox4 := ox.on b4
  have ltx := ox.lt
  have hz := bb2.size
  clear b3 b4 os3 ox bb3 bb2
  obtain ⟨cg, rfl, _, _⟩ := og.rd
  go_wp2_with fail
  refine (eqByteS_any _ _ _ _ L L _ og.all os4.all hnL hnL).mono ?_
  rintro e _ ⟨rfl, n1, rfl⟩
  rw [beq_self_eq_true]
  have r4 := (hr.on bb4).drewN n1
  go_wp2_with fail
  refine (toByteS_any _ _ l _ r4 hn).mono ?_
  rintro e w5 ⟨rfl, ot, b5⟩
  have bb5 := bstep (bdrew bb4 n1) b5
  have os5 := (os4.drewN n1).on b5
  have ox5 := (ox4.drewN n1).on b5
  have og5 := (og.drewN n1).on b5
  clear os4 ox4 og b5 bb4 r4
  go_wp2_with fail
  refine (eqByteS_any _ _ _ _ l l _ ox5.all ot.all hn hn).mono ?_
  rintro e _ ⟨rfl, n2, rfl⟩
  rw [beq_self_eq_true]
  clear ot
  go_wp2_with fail
  refine (markByteS_any _ _ 1 l _ (ox5.drewN n2) hn (by omega) (by omega)).mono ?_
  rintro e w6 ⟨rfl, ox6, g6⟩
  have os6 := (os5.drewN n2).far g6 (by omega)
  have og6 := (og5.drewN n2).far g6 (by omega)
  have bb6 := bgrown (bdrew bb5 n2) (bdrew bb5 n2).size g6 (by omega)
  have d1 : decide ((1 : Int) + (l.length : Int) < 0) = false := decide_eq_false (by omega)
  clear os5 og5 ox5 bb5 g6 ox6
  go_wp2_with fail
  refine (eqByteS_any _ _ _ _ L L _ og6.all os6.all hnL hnL).mono ?_
  rintro e _ ⟨rfl, n3, rfl⟩
  rw [beq_self_eq_true]
  go_wp2_with fail
  refine (markByteS_any _ _ 1 L _ (og6.drewN n3) hnL (by omega) (by omega)).mono ?_
  rintro e w7 ⟨rfl, og7, g7⟩
  have os7 := (os6.drewN n3).far g7 (by omega)
  have bb7 := bgrown (bdrew bb6 n3) (bdrew bb6 n3).size g7 (by omega)
  clear os6 og6 g7 bb6
  have rg7 := og7.all
  go_wp2_with fail
  refine (heldByteS_any _ _ 1 L.length _ rg7 hnL (by omega) (by omega)).mono ?_
  rintro e w8 ⟨rfl, rfl⟩
  have d2 : decide ((1 : Int) + (L.length : Int) < 0) = false := decide_eq_false (by omega)
  go_wp2_with fail
  refine (toByteS_any _ _ l _ (hr.on bb7) hn).mono ?_
  rintro e w8 ⟨rfl, o8, b8⟩
  have bb8 := bstep bb7 b8
  have os8 := os7.on b8
  have og8 := og7.on b8
  clear bb7 os7 og7 rg7 b8
  go_wp2_with fail
  refine (HI.out _ _ _ o8.all).mono ?_
  rintro e w9 ⟨gh, vh, rfl, oh, hgh, b9⟩
  have bb9 := bstep bb8 b9
  have os9 := os8.on b9
  have og9 := og8.on b9
  clear bb8 os8 og8 b9 o8
  obtain ⟨ch, rfl, _, _⟩ := oh.rd
  go_wp2_with fail
  refine (eqByteS_any _ _ _ _ L L _ oh.all os9.all hnL hnL).mono ?_
  rintro e _ ⟨rfl, n4, rfl⟩
  rw [beq_self_eq_true]
  have rg9 := og9.all.drewN n4
  go_wp2_with fail
  refine (heldByteS_any _ _ 1 L.length _ rg9 hnL (by omega) (by omega)).mono ?_
  rintro e w10 ⟨rfl, rfl⟩
  go_wp2
  go_ret
  exact ⟨rfl, bdrew bb9 n4⟩
theorem exactPutText_walk (a0 : Option Addr) (len0 cap0 : Nat) (z0 : List Int) (a1 : ByteArray) (w : World) (w0 : CameIn .u8 w a0 len0 cap0 z0) (w1 : a1.size ≤ maxLen) :
    Calls Try.prog 8 #[.slice a0 len0 cap0, .string a1] w fun e w' => e = .returned (.bool true) ∧ Below w.heap.size w w' := by
  obtain ⟨l, rfl, hr⟩ := w0.rd
  have hs := w1
  unfold maxLen at hs
  clear w0
  by_cases hbig : l.length ≤ 1048576
  · by_cases hsb : a1.size ≤ 1048576
    · have h62 := encText_le a1
      exact exactPutText_small a0 cap0 l (l ++ encText a1) a1 w hr hbig (by rw [List.length_append]; omega) hsb (Lib.hid fun A cap w h => specPutText_any A cap l a1 w h (by omega) w1) (Lib.hid fun A cap w h => implPutText_any A cap l a1 w h (by omega) w1)
    · have d0 : decide ((1048576 : Int) < (l.length : Int)) = false := decide_eq_false (by omega)
      have d1 : decide ((1048576 : Int) < (a1.size : Int)) = true := decide_eq_true (by omega)
      go_enter Try.func8, Try.ntmps8
      go_wp2
      go_ret
      exact ⟨rfl, Below.refl _ _⟩
  · have d0 : decide ((1048576 : Int) < (l.length : Int)) = true := decide_eq_true (by omega)
    go_enter Try.func8, Try.ntmps8
    go_wp2
    go_ret
    exact ⟨rfl, Below.refl _ _⟩
end Go.Proofs.Ytepoofamlpbchaa
