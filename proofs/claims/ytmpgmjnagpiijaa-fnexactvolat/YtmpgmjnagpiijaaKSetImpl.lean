/- Contracts for the generic sorted set of the program at keys: impl.keySet, its methods same, ascending, find and placeOf. Conditions: at most 2^21 keys. -/
import Derived.Test.YtmpgmjnagpiijaaKSetPure
import Derived.Test.YtmpgmjnagpiijaaKSetLaw
namespace Go.Proofs.Ytmpgmjnagpiijaa
open Go.RowKit
set_option maxRecDepth 100000
set_option linter.unusedSimpArgs false
set_option linter.unusedVariables false

/-- LessKey as a value. -/
def lessV : Value := .func (.func 125) #[] #[]
theorem store_less (a : Addr) (m : Mode) (w : World) : (store a (.func (.func 125) #[] #[]) m).run Try.prog w = stored Try.prog w a (.func (.func 125) #[] #[]) m := run_store _ w a _ m rfl
theorem keySet_any (A : Option Addr) (n c : Nat) (w : World) : Calls Try.prog 121 #[.slice A n c] w fun e w' => e = .returned (.agg #[.slice A n c, lessV]) ∧ Below w.heap.size w w' := by
  have hst := store_less
  go_enter Try.func121, Try.ntmps121
  go_wp2
  exact bodyPost_ret (v := .agg #[.slice A n c, lessV]) (by simp [results, Try.results121, go_sem, lessV]) rfl ⟨rfl, bal1 _ _⟩
theorem lessI (x y : KeyD) (w : World) : Calls Try.prog 125 #[x.v, y.v] w (SaysBool w (lessK x y)) := implLessKey_any _ _ _ _ _ _ _ _ _ _ w
set_option maxHeartbeats 1000000 in
theorem same_any (A : Option Addr) (n c : Nat) (x y : KeyD) (w : World) : Calls Try.prog 127 #[.agg #[.slice A n c, lessV], x.v, y.v] w (SaysBool w (spotK x y)) := by
  rw [spot_less]
  have HT := Lib.hid lessI
  unfold KeyD.v keyV at HT
  unfold KeyD.v keyV lessV
  obtain ⟨q0, q1, q2⟩ := al3 w (.cells #[.slice A n c, .func (.func 125) #[] #[]] 157) (.cells #[.int .i64 x.a, .int .i64 x.b, .int .i64 x.c, .int .i64 x.d, .int .i64 x.e] 75) (.cells #[.int .i64 y.a, .int .i64 y.b, .int .i64 y.c, .int .i64 y.d, .int .i64 y.e] 75)
  have HB := Lib.hid (bal3 w (.cells #[.slice A n c, .func (.func 125) #[] #[]] 157) (.cells #[.int .i64 x.a, .int .i64 x.b, .int .i64 x.c, .int .i64 x.d, .int .i64 x.e] 75) (.cells #[.int .i64 y.a, .int .i64 y.b, .int .i64 y.c, .int .i64 y.d, .int .i64 y.e] 75))
  have Q0 := Lib.hid q0
  have Q1 := Lib.hid q1
  have Q2 := Lib.hid q2
  clear q0 q1 q2
  obtain ⟨X, hX⟩ : ∃ X, lessK x y = X := ⟨_, rfl⟩
  obtain ⟨Y, hY⟩ : ∃ Y, lessK y x = Y := ⟨_, rfl⟩
  rw [hX, hY]
  have HX := Lib.hid hX
  have HY := Lib.hid hY
  clear hX hY
  cases X
  · cases Y
    all_goals
      go_enter Try.func127, Try.ntmps127
      go_wp2_with fail
      refine (HT.out _ _ _).mono ?_
      rintro r w1 ⟨rfl, b1⟩
      rw [HX.out]
      have B1 := Lib.hid (bstep HB.out b1)
      obtain ⟨x0, x1, x2⟩ := box2 (box_on Q0.out b1)
      obtain ⟨y0, y1, y2, y3, y4, y5⟩ := box5 (box_on Q1.out b1)
      obtain ⟨z0, z1, z2, z3, z4, z5⟩ := box5 (box_on Q2.out b1)
      clear b1
      go_wp2_with fail
      refine (HT.out _ _ _).mono ?_
      rintro r w2 ⟨rfl, b2⟩
      rw [HY.out]
      have B2 := Lib.hid (bstep B1.out b2)
      clear x0 x1 x2 y0 y1 y2 y3 y4 y5 z0 z1 z2 z3 z4 z5 b2
      go_wp2
      go_ret
      exact ⟨rfl, B2.out⟩
  · go_enter Try.func127, Try.ntmps127
    go_wp2_with fail
    refine (HT.out _ _ _).mono ?_
    rintro r w1 ⟨rfl, b1⟩
    rw [HX.out]
    have B1 := Lib.hid (bstep HB.out b1)
    clear b1
    go_wp2
    go_ret
    exact ⟨rfl, B1.out⟩
theorem rise_snoc {l : List KeyD} {j : Nat} (hlt : j + 1 < l.length) (h : ∀ i (h : i < j) (h2 : i + 1 < l.length), lessK l[i] l[i + 1] = true) (h2 : lessK l[j] l[j + 1] = true) : ∀ i (h : i < j + 1) (h2 : i + 1 < l.length), lessK l[i] l[i + 1] = true := by
  intro i hi h4
  by_cases h3 : i < j
  · exact h i h3 h4
  · have : i = j := by omega
    subst this
    exact h2
end Go.Proofs.Ytmpgmjnagpiijaa
