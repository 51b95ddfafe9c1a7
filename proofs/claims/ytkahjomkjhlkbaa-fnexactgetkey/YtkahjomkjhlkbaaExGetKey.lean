/- The walk of FnExactGetKey: at every argument the call returns true and writes nothing that was there. No condition. -/
import Derived.Test.YtkahjomkjhlkbaaKeyGet
namespace Go.Proofs.Ytkahjomkjhlkbaa
open Go.RowKit
set_option maxRecDepth 100000
theorem keyRes_shape (o : Option KeyD) (k : Int) : ∃ a b c d e n t, keyRes o k = .tuple #[keyV a b c d e, .int .i64 n, .bool t] := by
  cases o with
  | none => exact ⟨_, _, _, _, _, _, _, rfl⟩
  | some q => exact ⟨_, _, _, _, _, _, _, rfl⟩
theorem eqKey_same (a b c d e : Int) (w : World) : Calls Try.prog 60 #[keyV a b c d e, keyV a b c d e] w (SaysBool w true) := by
  unfold keyV
  go_enter Try.func60, Try.ntmps60
  go_wp2
  go_ret
  exact ⟨rfl, bal2 _ _ _⟩
set_option maxHeartbeats 1000000 in
theorem exactGetKey_walk (a0 : Option Addr) (len0 cap0 : Nat) (z0 : List Int) (a1 : Int) (w : World) (w0 : CameIn .u8 w a0 len0 cap0 z0) (_w1 : (Lit.int .i64 a1).wf = true) :
    Calls Try.prog 14 #[.slice a0 len0 cap0, .int .i64 a1] w fun e w' => e = .returned (.bool true) ∧ Below w.heap.size w w' := by
  obtain ⟨l, rfl, hr⟩ := w0.rd
  clear w0
  by_cases hbig : l.length ≤ 1048576
  · have hn : l.length ≤ 1099511627776 := by omega
    have d0 : decide ((1048576 : Int) < (l.length : Int)) = false := decide_eq_false (by omega)
    obtain ⟨a, b, c, d, e, n, t, hK⟩ := keyRes_shape (getK l a1) a1
    have HS : Hid (∀ A cap w, Rd w w.heap.size A l → Calls Try.prog 41 #[.slice A l.length cap, .int .i64 a1] w fun r w' => r = .returned (.tuple #[keyV a b c d e, .int .i64 n, .bool t]) ∧ Below w.heap.size w w') := Lib.hid (fun A cap w hr => by have h := specGetKey_any A cap l a1 w hr hn; unfold SaysGet at h; rw [hK] at h; exact h)
    have HI : Hid (∀ A cap w, Rd w w.heap.size A l → Calls Try.prog 40 #[.slice A l.length cap, .int .i64 a1] w fun r w' => r = .returned (.tuple #[keyV a b c d e, .int .i64 n, .bool t]) ∧ Below w.heap.size w w') := Lib.hid (fun A cap w hr => by have h := implGetKey_any A cap l a1 w hr hn; unfold SaysGet at h; rw [hK] at h; exact h)
    clear hK
    have HE := Lib.hid (eqKey_same a b c d e)
    unfold keyV at HS HI HE
    have HR := Lib.hid hr
    clear hr
    go_enter Try.func14, Try.ntmps14
    go_wp2_with fail
    refine (toByteS_any _ _ l _ HR.out hn).mono ?_
    rintro r w1 ⟨rfl, o1, b1⟩
    have B1 := Lib.hid b1
    have O1 := Lib.hid o1
    clear b1 o1
    go_wp2_with fail
    refine (HS.out _ _ _ O1.out.all).mono ?_
    rintro r w2 ⟨rfl, b2⟩
    have q2 := Lib.hid (al1 w2 (.cells #[.int .i64 a, .int .i64 b, .int .i64 c, .int .i64 d, .int .i64 e] 45))
    have B2 := Lib.hid (bstep (bstep B1.out b2) (bal1 w2 (.cells #[.int .i64 a, .int .i64 b, .int .i64 c, .int .i64 d, .int .i64 e] 45)))
    clear b2 B1 O1
    go_wp2_with fail
    refine (toByteS_any _ _ l _ (HR.out.on B2.out) hn).mono ?_
    rintro r w3 ⟨rfl, o3, b3⟩
    simp only [World.size_alloc] at o3
    have B3 := Lib.hid (bstep B2.out b3)
    have O3 := Lib.hid o3
    have q3 := Lib.hid (box_on q2.out b3)
    clear b3 o3 q2 B2
    go_wp2_with fail
    refine (HI.out _ _ _ O3.out.all).mono ?_
    rintro r w4 ⟨rfl, b4⟩
    have O4 := Lib.hid (O3.out.on b4)
    have q4 := box_on q3.out b4
    have hlt : w2.heap.size < w4.heap.size := (Array.getElem?_eq_some_iff.1 q4).1
    obtain ⟨x0, x1, x2, x3, x4, x5⟩ := box5 q4
    have B4 := Lib.hid (bstep (bstep B3.out b4) (bal1 w4 (.cells #[.int .i64 a, .int .i64 b, .int .i64 c, .int .i64 d, .int .i64 e] 45)))
    have O5 := Lib.hid (O4.out.on (bal1 w4 (.cells #[.int .i64 a, .int .i64 b, .int .i64 c, .int .i64 d, .int .i64 e] 45)))
    clear b4 q3 q4 O3 B3 O4
    go_wp2_with fail
    refine (HE.out _).mono ?_
    rintro r w5 ⟨rfl, b5⟩
    have B5 := Lib.hid (bstep B4.out b5)
    have O6 := Lib.hid (O5.out.on b5)
    clear b5 x0 x1 x2 x3 x4 x5 O5 B4
    go_wp2_with fail
    refine (toByteS_any _ _ l _ (HR.out.on B5.out) hn).mono ?_
    rintro r w6 ⟨rfl, o6, b6⟩
    have B6 := Lib.hid (bstep B5.out b6)
    have O7 := Lib.hid (O6.out.on b6)
    clear b6 O6 B5
    go_wp2_with fail
    refine (eqByteS_any _ _ _ _ l l _ O7.out.all o6.all hn hn).mono ?_
    rintro r _ ⟨rfl, n3, rfl⟩
    rw [beq_self_eq_true]
    go_wp2
    go_ret
    exact ⟨rfl, bdrew B6.out n3⟩
  · have d0 : decide ((1048576 : Int) < (l.length : Int)) = true := decide_eq_true (by omega)
    go_enter Try.func14, Try.ntmps14
    go_wp2
    go_ret
    exact ⟨rfl, Below.refl _ _⟩
end Go.Proofs.Ytkahjomkjhlkbaa
