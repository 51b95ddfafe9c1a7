/- Contracts for the generic sorted set at versions: impl.ageSet, impl.lessAge, its method ascending; impl.AgesOk and spec.AgesOk. Conditions: at most 2^20 versions. -/
import Derived.Test.YtjnecehogebjkaaAgeFind
import Derived.Test.YtjnecehogebjkaaLast2
import Derived.Test.YtjnecehogebjkaaLast3
import Derived.Deep.RegionHeld3
import Derived.Deep.DeepCutAuto
namespace Go.Proofs.Ytjnecehogebjkaa
open Go.RowKit
set_option maxRecDepth 100000
set_option linter.unusedSimpArgs false
set_option linter.unusedVariables false

def lessVG : Value := .func (.func 54) #[] #[]
theorem store_lessG (a : Addr) (m : Mode) (w : World) : (store a (.func (.func 54) #[] #[]) m).run Try.prog w = stored Try.prog w a (.func (.func 54) #[] #[]) m := run_store _ w a _ m rfl
theorem ageSet_any (A : Option Addr) (n c : Nat) (w : World) : Calls Try.prog 41 #[.slice A n c] w fun e w' => e = .returned (.agg #[.slice A n c, lessVG]) ∧ Below w.heap.size w w' := by
  have hst := store_lessG
  go_enter Try.func41, Try.ntmps41
  go_wp2
  exact bodyPost_ret (v := .agg #[.slice A n c, lessVG]) (by simp [results, Try.results41, go_sem, lessVG]) rfl ⟨rfl, bal1 _ _⟩
theorem lessAge_any (x y : AgeD) (w : World) : Calls Try.prog 54 #[.agg #[.int .i64 x.a, .int .i64 x.b], .agg #[.int .i64 y.a, .int .i64 y.b]] w (SaysBool w (decide (x.a < y.a))) := by
  obtain ⟨R, hR⟩ : ∃ R, decide (x.a < y.a) = R := ⟨_, rfl⟩
  rw [hR]
  go_enter Try.func54, Try.ntmps54
  go_wp2
  all_goals
    go_ret
    first
      | exact ⟨ret_boolB (by simp_all), bal2 _ _ _⟩
      | exact ⟨rfl, bal2 _ _ _⟩
theorem riseG_snoc {l : List AgeD} {j : Nat} (hlt : j + 1 < l.length) (h : ∀ i (h : i < j) (h2 : i + 1 < l.length), (l[i]).a < (l[i + 1]).a) (h2 : decide ((l[j]).a < (l[j + 1]).a) = true) : ∀ i (h : i < j + 1) (h2 : i + 1 < l.length), (l[i]).a < (l[i + 1]).a := by
  intro i hi h4
  by_cases h3 : i < j
  · exact h i h3 h4
  · have : i = j := by omega
    subst this
    exact of_decide_eq_true h2
set_option maxHeartbeats 1000000 in
theorem ascendingG_any (v : Value) (l : List AgeD) (w : World) (hv : Reads w w.heap.size v (agesD l)) (hn : l.length ≤ 2097152) : Calls Try.prog 42 #[.agg #[v, lessVG]] w (SaysBool w (riseG l)) := by
  obtain ⟨A, c, rfl, _, _⟩ := hv.shapeG
  have HT := Lib.hid lessAge_any
  unfold lessVG
  have HV := Lib.hid (hv.on (bal1 w (.cells #[.slice A l.length c, .func (.func 54) #[] #[]] 54)))
  have Q0 := Lib.hid (al1 w (.cells #[.slice A l.length c, .func (.func 54) #[] #[]] 54))
  have HB := Lib.hid (bal1 w (.cells #[.slice A l.length c, .func (.func 54) #[] #[]] 54))
  clear hv
  go_enter Try.func42, Try.ntmps42
  go_wp2
  generalize w.alloc (.cells #[.slice A l.length c, .func (.func 54) #[] #[]] 54) = W at *
  go_loopw [3] (fun i wr => ∃ j : Nat, (j < l.length ∨ j = 0) ∧ i = .int .i64 ((j : Int) + 1) ∧ Hid (∀ i (h : i < j) (h2 : i + 1 < l.length), (l[i]).a < (l[i + 1]).a) ∧ Hid (Below W.heap.size W wr)) (fun i _ => l.length - (intOf i).toNat)
  case atStart => exact ⟨0, .inr rfl, rfl, Lib.hid (fun i h => by omega), Lib.hid (Below.refl _ _)⟩
  case round =>
    obtain ⟨j, hj, rfl, HI, HW⟩ := hrel
    obtain ⟨x0, x1, x2⟩ := box2 (box_on Q0.out HW.out)
    by_cases hlt : j + 1 < l.length
    · obtain ⟨b, off, rfl, hbb, hc⟩ := (HV.out.on HW.out).ages hlt
      have F := Lib.hid (hc j (by omega))
      have F' := Lib.hid (hc (j + 1) hlt)
      have i1 : (j : Int) + 1 < (l.length : Int) := by omega
      have i2 : (0 : Int) ≤ (j : Int) + 1 := by omega
      have i3 : IntKind.i64.wrap ((j : Int) + 1 - 1) = (j : Int) := by rw [IntKind.wrap_i64]; omega
      have i7 : IntKind.i64.wrap (j : Int) = (j : Int) := by rw [IntKind.wrap_i64]; omega
      have i4 : (j : Int) < (l.length : Int) := by omega
      have i5 : (0 : Int) ≤ (j : Int) := by omega
      have i6 : ((j : Int) + 1).toNat = j + 1 := by omega
      have HP := Lib.hid (box_on Q0.out HW.out)
      clear hc
      obtain ⟨c0, c1⟩ := F.out
      obtain ⟨d0, d1⟩ := F'.out
      cases hless : decide ((l[j]).a < (l[j + 1]).a)
      all_goals
        have HL := Lib.hid hless
        clear hless
        go_wp2
        go_region_held3 (fun W => W.cell? ⟨w.heap.size, 0, none⟩ = some (.slice (some ⟨b, off, none⟩) l.length c) ∧ W.cell? ⟨w.heap.size, 1, none⟩ = some (.func (.func 54) #[] #[]) ∧ W.cell? ⟨b, off + j * 2, none⟩ = some (.int .i64 (l[j]).a) ∧ W.cell? ⟨b, off + j * 2 + 1, none⟩ = some (.int .i64 (l[j]).b) ∧ W.cell? ⟨b, off + (j + 1) * 2, none⟩ = some (.int .i64 (l[j + 1]).a) ∧ W.cell? ⟨b, off + (j + 1) * 2 + 1, none⟩ = some (.int .i64 (l[j + 1]).b))
          (first | with_reducible exact ⟨(box2 (box_on HP.out B8)).1, (box2 (box_on HP.out B8)).2.1, ⟨(F.out.on hbb B8).1, (F.out.on hbb B8).2, (F'.out.on hbb B8).1, (F'.out.on hbb B8).2⟩⟩ | with_reducible exact ⟨(box2 (box_on HP.out (Below.drew1 _))).1, (box2 (box_on HP.out (Below.drew1 _))).2.1, ⟨(F.out.on hbb (Below.drew1 _)).1, (F.out.on hbb (Below.drew1 _)).2, (F'.out.on hbb (Below.drew1 _)).1, (F'.out.on hbb (Below.drew1 _)).2⟩⟩ | exact ⟨x0, x1, F.out.1, F.out.2, F'.out.1, F'.out.2⟩ | fail)
          (first
            | (go_at_call 54; refine (HT.out l[j] l[j + 1] _).mono ?_; rintro r w8 ⟨rfl, b8⟩; rw [HL.out]; have B8 := bstep (Below.drew1 _) b8)
            | fail)
        all_goals
          have BC := Lib.hid (HW.out.trans (B8.mono HW.out.size))
          clear B8 b8 c0 c1 d0 d1 x0 x1 x2
          go_wp2
          first
            | go_ret
              refine ⟨ret_boolB ?_, bstep HB.out BC.out⟩
              symm
              refine decide_eq_false (fun h => ?_)
              have h2 := h j (by omega)
              have h3 := of_decide_eq_false HL.out
              exact h3 h2
            | go_roundw
              case rel => exact ⟨j + 1, .inl hlt, by go_num, Lib.hid (riseG_snoc hlt HI.out HL.out), BC⟩
              case measure => simp [intOf]; omega
    · have i2 : ¬ (j : Int) + 1 < (l.length : Int) := by omega
      go_wp2
      go_ret
      refine ⟨ret_boolB ?_, bstep HB.out HW.out⟩
      symm
      exact decide_eq_true (fun i h => HI.out i (by omega) (by omega))
theorem fit_at {l : List AgeD} {k : Nat} (h : k < l.length) : fitG l k = (idG (l[k]).a && parGB l k (l[k]).b) := by
  unfold fitG
  rw [List.getElem?_eq_getElem h]
theorem fit_miss {l : List AgeD} {k : Nat} (h : k < l.length) (hf : fitG l k = false) : agesOkB l = false := by
  unfold agesOkB
  rw [decide_eq_false (fun hh => by rw [hh k h] at hf; cases hf)]
  rfl
theorem rise_miss {l : List AgeD} {j : Nat} (h : j + 1 < l.length) (hf : ¬ (l[j]).a < (l[j + 1]).a) : agesOkB l = false := by
  unfold agesOkB riseG
  rw [decide_eq_false (p := ∀ i (h : i < l.length - 1), (l[i]'(by omega)).a < (l[i + 1]'(by omega)).a) (fun hh => hf (hh j (by omega)))]
  simp
theorem fit_step {l : List AgeD} {k : Nat} (h : ∀ j, j < k → fitG l j = true) (hf : fitG l k = true) : ∀ j, j < k + 1 → fitG l j = true := by
  intro j hj
  by_cases h2 : j < k
  · exact h j h2
  · have : j = k := by omega
    subst this
    exact hf
/-- l1In at the range of an Id. -/
theorem inG_any (a : Int) (w : World) : Calls Try.prog 47 #[.int .i64 a, .int .i64 1, .int .i64 60] w (SaysBool w (idG a)) :=
  (l1InG_any a 1 60 w).mono (fun _ _ h => ⟨h.1, h.2 ▸ Below.refl _ _⟩)
theorem specAgeAtB (v : Value) (l : List AgeD) (d : Int) (w : World) (hv : Reads w w.heap.size v (agesD l)) (hn : l.length ≤ 2097152) : Calls Try.prog 27 #[v, .int .i64 d] w (SaysG w (ageAtK l d)) :=
  (specAgeAt_any v l d w hv hn).mono (fun _ _ h => ⟨h.1, h.2 ▸ Below.refl _ _⟩)
end Go.Proofs.Ytjnecehogebjkaa
