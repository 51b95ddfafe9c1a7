/- Contracts for the generic sorted set of the program at keys: impl.keySet, its methods same, ascending, find and placeOf. Conditions: at most 2^21 keys. -/
import Derived.Test.YtkcafbdlealbpaaGreatKSetPure
import Derived.Test.YtkcafbdlealbpaaGreatKSetLaw
namespace Go.Proofs.YtkcafbdlealbpaaGreat
open Go.RowKit
set_option maxRecDepth 100000
set_option linter.unusedSimpArgs false
set_option linter.unusedVariables false

/-- LessKey as a value. -/
def lessV : Value := .func (.func 15) #[] #[]
theorem store_less (a : Addr) (m : Mode) (w : World) : (store a (.func (.func 15) #[] #[]) m).run Tryz.prog w = stored Tryz.prog w a (.func (.func 15) #[] #[]) m := run_store _ w a _ m rfl
theorem keySet_any (A : Option Addr) (n c : Nat) (w : World) : Calls Tryz.prog 126 #[.slice A n c] w fun e w' => e = .returned (.agg #[.slice A n c, lessV]) ∧ Below w.heap.size w w' := by
  have hst := store_less
  go_enter Tryz.func126, Tryz.ntmps126
  go_wp2
  exact bodyPost_ret (v := .agg #[.slice A n c, lessV]) (by simp [results, Tryz.results126, go_sem, lessV]) rfl ⟨rfl, bal1 _ _⟩
theorem lessI (x y : KeyD) (w : World) : Calls Tryz.prog 15 #[x.v, y.v] w (SaysBool w (lessK x y)) := implLessKey_any _ _ _ _ _ _ _ _ _ _ w
set_option maxHeartbeats 1000000 in
theorem same_any (A : Option Addr) (n c : Nat) (x y : KeyD) (w : World) : Calls Tryz.prog 144 #[.agg #[.slice A n c, lessV], x.v, y.v] w (SaysBool w (spotK x y)) := by
  rw [spot_less]
  have HT := Lib.hid lessI
  unfold KeyD.v keyV at HT
  unfold KeyD.v keyV lessV
  obtain ⟨q0, q1, q2⟩ := al3 w (.cells #[.slice A n c, .func (.func 15) #[] #[]] 139) (.cells #[.int .i64 x.a, .int .i64 x.b, .int .i64 x.c, .int .i64 x.d, .int .i64 x.e] 29) (.cells #[.int .i64 y.a, .int .i64 y.b, .int .i64 y.c, .int .i64 y.d, .int .i64 y.e] 29)
  have HB := Lib.hid (bal3 w (.cells #[.slice A n c, .func (.func 15) #[] #[]] 139) (.cells #[.int .i64 x.a, .int .i64 x.b, .int .i64 x.c, .int .i64 x.d, .int .i64 x.e] 29) (.cells #[.int .i64 y.a, .int .i64 y.b, .int .i64 y.c, .int .i64 y.d, .int .i64 y.e] 29))
  have Q0 := Lib.hid q0
  have Q1 := Lib.hid q1
  have Q2 := Lib.hid q2
  clear q0 q1 q2
  obtain ⟨X, hX⟩ : ∃ X, lessK x y = X := ⟨_, rfl⟩
  obtain ⟨Y, hY⟩ : ∃ Y, lessK y x = Y := ⟨_, rfl⟩
  rw [hX, hY]
  have HX := Lib.hid hX
  have HY := Lib.hid hY
  clear hX hY
  cases X
  · cases Y
    all_goals
      go_enter Tryz.func144, Tryz.ntmps144
      go_wp2_with fail
      refine (HT.out _ _ _).mono ?_
      rintro r w1 ⟨rfl, b1⟩
      rw [HX.out]
      have B1 := Lib.hid (bstep HB.out b1)
      obtain ⟨x0, x1, x2⟩ := box2 (box_on Q0.out b1)
      obtain ⟨y0, y1, y2, y3, y4, y5⟩ := box5 (box_on Q1.out b1)
      obtain ⟨z0, z1, z2, z3, z4, z5⟩ := box5 (box_on Q2.out b1)
      clear b1
      go_wp2_with fail
      refine (HT.out _ _ _).mono ?_
      rintro r w2 ⟨rfl, b2⟩
      rw [HY.out]
      have B2 := Lib.hid (bstep B1.out b2)
      clear x0 x1 x2 y0 y1 y2 y3 y4 y5 z0 z1 z2 z3 z4 z5 b2
      go_wp2
      go_ret
      exact ⟨rfl, B2.out⟩
  · go_enter Tryz.func144, Tryz.ntmps144
    go_wp2_with fail
    refine (HT.out _ _ _).mono ?_
    rintro r w1 ⟨rfl, b1⟩
    rw [HX.out]
    have B1 := Lib.hid (bstep HB.out b1)
    clear b1
    go_wp2
    go_ret
    exact ⟨rfl, B1.out⟩
theorem rise_snoc {l : List KeyD} {j : Nat} (hlt : j + 1 < l.length) (h : ∀ i (h : i < j) (h2 : i + 1 < l.length), lessK l[i] l[i + 1] = true) (h2 : lessK l[j] l[j + 1] = true) : ∀ i (h : i < j + 1) (h2 : i + 1 < l.length), lessK l[i] l[i + 1] = true := by
  intro i hi h4
  by_cases h3 : i < j
  · exact h i h3 h4
  · have : i = j := by omega
    subst this
    exact h2
set_option maxHeartbeats 1000000 in
theorem ascending_any (v : Value) (l : List KeyD) (w : World) (hv : Reads w w.heap.size v (keysD l)) (hn : l.length ≤ 2097152) : Calls Tryz.prog 146 #[.agg #[v, lessV]] w (SaysBool w (riseB l)) := by
  obtain ⟨A, c, rfl, _, _⟩ := hv.shapeK
  have HT := Lib.hid lessI
  unfold KeyD.v keyV at HT
  unfold lessV
  have HV := Lib.hid (hv.on (bal1 w (.cells #[.slice A l.length c, .func (.func 15) #[] #[]] 139)))
  have Q0 := Lib.hid (al1 w (.cells #[.slice A l.length c, .func (.func 15) #[] #[]] 139))
  have HB := Lib.hid (bal1 w (.cells #[.slice A l.length c, .func (.func 15) #[] #[]] 139))
  clear hv
  go_enter Tryz.func146, Tryz.ntmps146
  go_wp2
  generalize w.alloc (.cells #[.slice A l.length c, .func (.func 15) #[] #[]] 139) = W at *
  go_loopw [3] (fun i wr => ∃ j : Nat, (j < l.length ∨ j = 0) ∧ i = .int .i64 ((j : Int) + 1) ∧ Hid (∀ i (h : i < j) (h2 : i + 1 < l.length), lessK l[i] l[i + 1] = true) ∧ Hid (Below W.heap.size W wr)) (fun i _ => l.length - (intOf i).toNat)
  case atStart => exact ⟨0, .inr rfl, rfl, Lib.hid (fun i h => by omega), Lib.hid (Below.refl _ _)⟩
  case round =>
    obtain ⟨j, hj, rfl, HI, HW⟩ := hrel
    obtain ⟨x0, x1, x2⟩ := box2 (box_on Q0.out HW.out)
    by_cases hlt : j + 1 < l.length
    · obtain ⟨b, off, rfl, hbb, hc⟩ := (HV.out.on HW.out).keys hlt
      have F := Lib.hid (hc j (by omega))
      have F' := Lib.hid (hc (j + 1) hlt)
      have i1 : (j : Int) + 1 < (l.length : Int) := by omega
      have i2 : (0 : Int) ≤ (j : Int) + 1 := by omega
      have i3 : IntKind.i64.wrap ((j : Int) + 1 - 1) = (j : Int) := by rw [IntKind.wrap_i64]; omega
      have i7 : IntKind.i64.wrap (j : Int) = (j : Int) := by rw [IntKind.wrap_i64]; omega
      have i4 : (j : Int) < (l.length : Int) := by omega
      have i5 : (0 : Int) ≤ (j : Int) := by omega
      have i6 : ((j : Int) + 1).toNat = j + 1 := by omega
      have HP := Lib.hid (box_on Q0.out HW.out)
      clear hc
      obtain ⟨c0, c1, c2, c3, c4⟩ := F.out
      obtain ⟨d0, d1, d2, d3, d4⟩ := F'.out
      cases hless : lessK l[j] l[j + 1]
      all_goals
        have HL := Lib.hid hless
        clear hless
        go_wp2
        go_region_held3 (fun W => W.cell? ⟨w.heap.size, 0, none⟩ = some (.slice (some ⟨b, off, none⟩) l.length c) ∧ W.cell? ⟨w.heap.size, 1, none⟩ = some (.func (.func 15) #[] #[]) ∧ W.cell? ⟨b, off + j * 5, none⟩ = some (.int .i64 (l[j]).a) ∧ W.cell? ⟨b, off + j * 5 + 1, none⟩ = some (.int .i64 (l[j]).b) ∧ W.cell? ⟨b, off + j * 5 + 2, none⟩ = some (.int .i64 (l[j]).c) ∧ W.cell? ⟨b, off + j * 5 + 3, none⟩ = some (.int .i64 (l[j]).d) ∧ W.cell? ⟨b, off + j * 5 + 4, none⟩ = some (.int .i64 (l[j]).e) ∧ W.cell? ⟨b, off + (j + 1) * 5, none⟩ = some (.int .i64 (l[j + 1]).a) ∧ W.cell? ⟨b, off + (j + 1) * 5 + 1, none⟩ = some (.int .i64 (l[j + 1]).b) ∧ W.cell? ⟨b, off + (j + 1) * 5 + 2, none⟩ = some (.int .i64 (l[j + 1]).c) ∧ W.cell? ⟨b, off + (j + 1) * 5 + 3, none⟩ = some (.int .i64 (l[j + 1]).d) ∧ W.cell? ⟨b, off + (j + 1) * 5 + 4, none⟩ = some (.int .i64 (l[j + 1]).e))
          (first | with_reducible exact ⟨(box2 (box_on HP.out B8)).1, (box2 (box_on HP.out B8)).2.1, (F.out.on hbb B8).and (F'.out.on hbb B8)⟩ | with_reducible exact ⟨(box2 (box_on HP.out (Below.drew1 _))).1, (box2 (box_on HP.out (Below.drew1 _))).2.1, (F.out.on hbb (Below.drew1 _)).and (F'.out.on hbb (Below.drew1 _))⟩ | exact ⟨x0, x1, F.out.and F'.out⟩ | fail)
          (first
            | (go_at_call 15; refine (HT.out _ _ _).mono ?_; rintro r w8 ⟨rfl, b8⟩; rw [HL.out]; have B8 := bstep (Below.drew1 _) b8)
            | fail)
        all_goals
          have BC := Lib.hid (HW.out.trans (B8.mono HW.out.size))
          clear B8 b8 c0 c1 c2 c3 c4 d0 d1 d2 d3 d4 x0 x1 x2
          go_wp2
          first
            | go_ret
              refine ⟨ret_boolB ?_, bstep HB.out BC.out⟩
              symm
              refine decide_eq_false (fun h => ?_)
              have h2 := h j (by omega)
              rw [HL.out] at h2
              cases h2
            | go_roundw
              case rel => exact ⟨j + 1, .inl hlt, by go_num, Lib.hid (rise_snoc hlt HI.out HL.out), BC⟩
              case measure => simp [intOf]; omega
    · have i2 : ¬ (j : Int) + 1 < (l.length : Int) := by omega
      go_wp2
      go_ret
      refine ⟨ret_boolB ?_, bstep HB.out HW.out⟩
      symm
      exact decide_eq_true (fun i h => HI.out i (by omega) (by omega))
end Go.Proofs.YtkcafbdlealbpaaGreat
