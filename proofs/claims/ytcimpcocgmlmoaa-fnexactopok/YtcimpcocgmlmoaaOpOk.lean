/- Operations as data, opened as an argument; contracts for laws.szOp, laws.toOp, impl.OpOk (textsOk, nameOrNone, numbersOk, wordOk) and spec.OpOk; the walk of FnExactOpOk: at every operation the call returns true and writes nothing that was there. No condition. -/
import Derived.Test.YtcimpcocgmlmoaaOpensS
import Derived.Test.YtcimpcocgmlmoaaNames
import Derived.Test.YtcimpcocgmlmoaaKeys
namespace Go.Proofs.Ytcimpcocgmlmoaa
open Go.RowKit Go.ChangeShapes Go.WideShapes Go.Deep
set_option maxRecDepth 100000
set_option linter.unusedSimpArgs false
set_option linter.unusedVariables false

structure OpD where
  (a : Int) (n : ByteArray) (t : ByteArray) (p : Int) (q : Int)
def opC (o : OpD) : List Dat := [.lit (.int .i64 o.a), .lit (.string o.n), .lit (.string o.t), .lit (.int .i64 o.p), .lit (.int .i64 o.q)]
theorem op_opens : Opens Try.prog 23 (fun ds => ∃ o : OpD, ds = opC o ∧ o.n.size ≤ maxLen ∧ o.t.size ≤ maxLen) := by
  have h := Opens.struct (P := Try.prog) Try.underlying23 (by kernel_rfl) [(fun ds => ∃ n, ds = [Dat.lit (.int .i64 n)] ∧ (Lit.int .i64 n).wf = true), (fun ds => ∃ n : ByteArray, ds = [Dat.lit (.string n)] ∧ n.size ≤ maxLen), (fun ds => ∃ n : ByteArray, ds = [Dat.lit (.string n)] ∧ n.size ≤ maxLen), (fun ds => ∃ n, ds = [Dat.lit (.int .i64 n)] ∧ (Lit.int .i64 n).wf = true), (fun ds => ∃ n, ds = [Dat.lit (.int .i64 n)] ∧ (Lit.int .i64 n).wf = true)] rfl (fun i hi => by
    match i, hi with
    | 0, _ => exact Opens.int Try.underlying3
    | 1, _ => exact Opens.str Try.underlying9
    | 2, _ => exact Opens.str Try.underlying9
    | 3, _ => exact Opens.int Try.underlying3
    | 4, _ => exact Opens.int Try.underlying3)
  refine h.weaken (fun ds ⟨dss, hd, hC, hds⟩ => ?_)
  match dss, hd with
  | [d0, d1, d2, d3, d4], _ =>
    obtain ⟨n0, h0, _⟩ := hC 0 (by simp)
    obtain ⟨n1, h1, z1⟩ := hC 1 (by simp)
    obtain ⟨n2, h2, z2⟩ := hC 2 (by simp)
    obtain ⟨n3, h3, _⟩ := hC 3 (by simp)
    obtain ⟨n4, h4, _⟩ := hC 4 (by simp)
    simp at h0 h1 h2 h3 h4
    subst h0 h1 h2 h3 h4
    exact ⟨⟨n0, n1, n2, n3, n4⟩, by rw [hds]; rfl, z1, z2⟩
def OpIs (v : Value) (o : OpD) : Prop := v = .agg #[.int .i64 o.a, .string o.n, .string o.t, .int .i64 o.p, .int .i64 o.q] ∧ o.n.size ≤ maxLen ∧ o.t.size ≤ maxLen
theorem open_opArg {H : Type} {enc : TypeId × Value → H} {w : World} {r : Reach} {b0 base : Nat} {spare : Nat → Bool} {held : Bool} {v : Value} {x : DataW H} {p : List MemPlace}
    (hv : Value.okWide Try.prog w r b0 23 v) (h : DataW.Trod enc Try.prog w base spare held 23 v x p) : ∃ o, OpIs v o := by
  obtain ⟨cs, rfl, hsz⟩ := okWide_struct Try.underlying23 hv
  obtain ⟨fuel, hf⟩ := h
  obtain ⟨ds, ⟨o, rfl, z1, z2⟩, hr⟩ := op_opens _ _ _ _ _ _ _ _ _ hf
  obtain ⟨l⟩ := cs
  have hl := hr.1
  simp [Value.cells, opC] at hl
  match l, hl with
  | [a, b, c, d, e], _ =>
    have r0 := hr.2 0 (by simp [Value.cells]) (by simp [opC])
    have r1 := hr.2 1 (by simp [Value.cells]) (by simp [opC])
    have r2 := hr.2 2 (by simp [Value.cells]) (by simp [opC])
    have r3 := hr.2 3 (by simp [Value.cells]) (by simp [opC])
    have r4 := hr.2 4 (by simp [Value.cells]) (by simp [opC])
    simp [Value.cells, opC] at r0 r1 r2 r3 r4
    cases r0
    cases r1
    cases r2
    cases r3
    cases r4
    exact ⟨o, rfl, z1, z2⟩
theorem szOp_any (o : OpD) (w : World) (h1 : o.n.size ≤ maxLen) (h2 : o.t.size ≤ maxLen) : Calls Try.prog 11 #[.agg #[.int .i64 o.a, .string o.n, .string o.t, .int .i64 o.p, .int .i64 o.q], .int .i64 1048576] w fun e w' => (e = .returned (.int .i64 (-1)) ∨ ∃ x : Int, e = .returned (.int .i64 x) ∧ 0 ≤ x) ∧ Below w.heap.size w w' := by
  unfold maxLen at h1 h2
  by_cases k1 : (1048576 : Int) - (o.n.size : Int) < 0
  · go_enter Try.func11, Try.ntmps11
    go_wp2
    go_ret
    exact ⟨.inl rfl, bal1 _ _⟩
  · by_cases k2 : (1048576 : Int) - (o.n.size : Int) - (o.t.size : Int) < 0
    · go_enter Try.func11, Try.ntmps11
      go_wp2
      go_ret
      exact ⟨.inl rfl, bal1 _ _⟩
    · have k3 : 0 ≤ (1048576 : Int) - (o.n.size : Int) - (o.t.size : Int) := by omega
      have K3 := Lib.hid k3
      go_enter Try.func11, Try.ntmps11
      go_wp2
      go_ret
      exact ⟨.inr ⟨_, rfl, K3.out⟩, bal1 _ _⟩
theorem toOp_any (o : OpD) (w : World) : Calls Try.prog 13 #[.agg #[.int .i64 o.a, .string o.n, .string o.t, .int .i64 o.p, .int .i64 o.q]] w fun e w' => e = .returned (.agg #[.int .i64 o.a, .string o.n, .string o.t, .int .i64 o.p, .int .i64 o.q]) ∧ Below w.heap.size w w' := by
  go_enter Try.func13, Try.ntmps13
  go_wp2
  refine bodyPost_ret (v := .agg #[.int .i64 o.a, .string o.n, .string o.t, .int .i64 o.p, .int .i64 o.q]) (by simp [results, Try.results13, go_sem, *]) rfl ⟨rfl, ?_⟩
  exact bal3 _ _ _ _
def wordN (n : Int) : Bool := decide (0 ≤ n) && decide (n ≤ 65535)
def noneB (s : ByteArray) : Bool := s.toList.isEmpty
def textB (s : ByteArray) (b : Bool) : Bool := if b = true then nameOkB s else noneB s
def zeroB (o : OpD) : Bool := if o.a = 4 then true else if o.a = 2 then decide (o.p = 0) && decide (o.q ≤ 1) else if o.a = 3 ∨ o.a = 7 then decide (o.p = 0) && decide (o.q = 0) else decide (o.q = 0)
def opOkB (o : OpD) : Bool := (decide (1 ≤ o.a) && decide (o.a ≤ 9)) && (textB o.n (decide (o.a ≤ 6)) && textB o.t (o.a == 2)) && wordN o.p && wordN o.q && zeroB o
theorem implWordOk_any (n : Int) (w : World) : Calls Try.prog 39 #[.int .i64 n] w fun e w' => e = .returned (.bool (wordN n)) ∧ w = w' := by
  unfold wordN
  cases h1 : decide (0 ≤ n) <;> cases h2 : decide (n ≤ 65535)
  all_goals
    go_enter Try.func39, Try.ntmps39
    go_wp2
    go_ret
    exact ⟨rfl, rfl⟩
theorem nameOrNone_any (s : ByteArray) (b : Bool) (w : World) (hs : s.size ≤ maxLen) : Calls Try.prog 63 #[.string s, .bool b] w fun e w' => e = .returned (.bool (textB s b)) ∧ w = w' := by
  cases b
  · unfold textB noneB
    go_enter Try.func63, Try.ntmps63
    go_wp2
    go_ret
    exact ⟨rfl, rfl⟩
  · unfold textB
    go_enter Try.func63, Try.ntmps63
    go_wp2_with fail
    refine (implNameOk_any s _ hs).mono ?_
    rintro e _ ⟨rfl, rfl⟩
    go_wp2
    go_ret
    exact ⟨rfl, rfl⟩
theorem l1InO_any (a lo hi : Int) (w : World) : Calls Try.prog 35 #[.int .i64 a, .int .i64 lo, .int .i64 hi] w fun e w' => e = .returned (.bool (decide (lo ≤ a) && decide (a ≤ hi))) ∧ w = w' := by
  cases h1 : decide (lo ≤ a) <;> cases h2 : decide (a ≤ hi)
  all_goals
    go_enter Try.func35, Try.ntmps35
    go_wp2
    go_ret
    exact ⟨rfl, rfl⟩
theorem specWordOk_any (n : Int) (w : World) : Calls Try.prog 36 #[.int .i64 n] w fun e w' => e = .returned (.bool (wordN n)) ∧ w = w' := by
  go_enter Try.func36, Try.ntmps36
  go_wp2_with fail
  refine (l1InO_any n 0 65535 _).mono ?_
  rintro e _ ⟨rfl, rfl⟩
  go_wp2
  go_ret
  exact ⟨rfl, rfl⟩
theorem numbersOk_any (o : OpD) (w : World) : Calls Try.prog 40 #[.agg #[.int .i64 o.a, .string o.n, .string o.t, .int .i64 o.p, .int .i64 o.q]] w (SaysBool w (zeroB o)) := by
  obtain ⟨a, n, t, p, q⟩ := o
  obtain ⟨R, hR⟩ : ∃ R, zeroB ⟨a, n, t, p, q⟩ = R := ⟨_, rfl⟩
  rw [hR]
  have HR := Lib.hid hR
  clear hR
  by_cases h4 : a = 4
  · have HF : Hid (R = true) := Lib.hid (by rw [← HR.out]; simp [zeroB, *])
    go_enter Try.func40, Try.ntmps40
    go_wp2
    go_ret
    exact ⟨by rw [HF.out]; rfl, bal1 _ _⟩
  · by_cases h2 : a = 2
    · have e4 : (a == 4) = false := by simp [h4]
      have e2 : (a == 2) = true := by simp [h2]
      by_cases hp : p = 0
      · have ep : (p == 0) = true := by simp [hp]
        by_cases hq : q ≤ 1
        · have eq : decide (q ≤ 1) = true := decide_eq_true hq
          have HF : Hid (R = true) := Lib.hid (by rw [← HR.out]; simp [zeroB, *])
          go_enter Try.func40, Try.ntmps40
          go_wp2
          go_ret
          exact ⟨by rw [HF.out]; rfl, bal1 _ _⟩
        · have eq : decide (q ≤ 1) = false := decide_eq_false hq
          have HF : Hid (R = false) := Lib.hid (by rw [← HR.out]; simp [zeroB, *])
          go_enter Try.func40, Try.ntmps40
          go_wp2
          go_ret
          exact ⟨by rw [HF.out]; rfl, bal1 _ _⟩
      · have ep : (p == 0) = false := by simp [hp]
        have HF : Hid (R = false) := Lib.hid (by rw [← HR.out]; simp [zeroB, *])
        go_enter Try.func40, Try.ntmps40
        go_wp2
        go_ret
        exact ⟨by rw [HF.out]; rfl, bal1 _ _⟩
    · have e4 : (a == 4) = false := by simp [h4]
      have e2 : (a == 2) = false := by simp [h2]
      by_cases h3 : a = 3 ∨ a = 7
      · rcases h3 with h3 | h3
        · have e3 : (a == 3) = true := by simp [h3]
          have e7 : (a == 7) = false := by simp [h3]
          by_cases hp : p = 0
          · have ep : (p == 0) = true := by simp [hp]
            by_cases hq : q = 0
            · have eq : (q == 0) = true := by simp [hq]
              have HF : Hid (R = true) := Lib.hid (by rw [← HR.out]; simp [zeroB, *])
              go_enter Try.func40, Try.ntmps40
              go_wp2
              go_ret
              exact ⟨by rw [HF.out]; rfl, bal1 _ _⟩
            · have eq : (q == 0) = false := by simp [hq]
              have HF : Hid (R = false) := Lib.hid (by rw [← HR.out]; simp [zeroB, *])
              go_enter Try.func40, Try.ntmps40
              go_wp2
              go_ret
              exact ⟨by rw [HF.out]; rfl, bal1 _ _⟩
          · have ep : (p == 0) = false := by simp [hp]
            have HF : Hid (R = false) := Lib.hid (by rw [← HR.out]; simp [zeroB, *])
            go_enter Try.func40, Try.ntmps40
            go_wp2
            go_ret
            exact ⟨by rw [HF.out]; rfl, bal1 _ _⟩
        · have e3 : (a == 3) = false := by simp [h3]
          have e7 : (a == 7) = true := by simp [h3]
          by_cases hp : p = 0
          · have ep : (p == 0) = true := by simp [hp]
            by_cases hq : q = 0
            · have eq : (q == 0) = true := by simp [hq]
              have HF : Hid (R = true) := Lib.hid (by rw [← HR.out]; simp [zeroB, *])
              go_enter Try.func40, Try.ntmps40
              go_wp2
              go_ret
              exact ⟨by rw [HF.out]; rfl, bal1 _ _⟩
            · have eq : (q == 0) = false := by simp [hq]
              have HF : Hid (R = false) := Lib.hid (by rw [← HR.out]; simp [zeroB, *])
              go_enter Try.func40, Try.ntmps40
              go_wp2
              go_ret
              exact ⟨by rw [HF.out]; rfl, bal1 _ _⟩
          · have ep : (p == 0) = false := by simp [hp]
            have HF : Hid (R = false) := Lib.hid (by rw [← HR.out]; simp [zeroB, *])
            go_enter Try.func40, Try.ntmps40
            go_wp2
            go_ret
            exact ⟨by rw [HF.out]; rfl, bal1 _ _⟩
      · have e3 : (a == 3) = false := by simp; omega
        have e7 : (a == 7) = false := by simp; omega
        by_cases hq : q = 0
        · have eq : (q == 0) = true := by simp [hq]
          have HF : Hid (R = true) := Lib.hid (by rw [← HR.out]; simp [zeroB, *])
          go_enter Try.func40, Try.ntmps40
          go_wp2
          go_ret
          exact ⟨by rw [HF.out]; rfl, bal1 _ _⟩
        · have eq : (q == 0) = false := by simp [hq]
          have HF : Hid (R = false) := Lib.hid (by rw [← HR.out]; simp [zeroB, *])
          go_enter Try.func40, Try.ntmps40
          go_wp2
          go_ret
          exact ⟨by rw [HF.out]; rfl, bal1 _ _⟩
theorem l15Zero_any (o : OpD) (w : World) (h0 : 0 ≤ o.q) : Calls Try.prog 37 #[.agg #[.int .i64 o.a, .string o.n, .string o.t, .int .i64 o.p, .int .i64 o.q]] w (SaysBool w (zeroB o)) := by
  obtain ⟨a, n, t, p, q⟩ := o
  have e0 : decide (0 ≤ q) = true := decide_eq_true h0
  obtain ⟨R, hR⟩ : ∃ R, zeroB ⟨a, n, t, p, q⟩ = R := ⟨_, rfl⟩
  rw [hR]
  have HR := Lib.hid hR
  clear hR
  by_cases h4 : a = 4
  · have HF : Hid (R = true) := Lib.hid (by rw [← HR.out]; simp [zeroB, *])
    go_enter Try.func37, Try.ntmps37
    go_wp2
    go_ret
    exact ⟨by rw [HF.out]; rfl, bal1 _ _⟩
  · by_cases h2 : a = 2
    · have e4 : (a == 4) = false := by simp [h4]
      have e2 : (a == 2) = true := by simp [h2]
      by_cases hp : p = 0
      · have ep : (p == 0) = true := by simp [hp]
        by_cases hq : q ≤ 1
        · have eq : decide (q ≤ 1) = true := decide_eq_true hq
          have HF : Hid (R = true) := Lib.hid (by rw [← HR.out]; simp [zeroB, *])
          go_enter Try.func37, Try.ntmps37
          go_wp2_with fail
          refine (l1InO_any q 0 1 _).mono ?_
          rintro e _ ⟨rfl, rfl⟩
          go_wp2
          go_ret
          exact ⟨by rw [HF.out]; rfl, bal1 _ _⟩
        · have eq : decide (q ≤ 1) = false := decide_eq_false hq
          have HF : Hid (R = false) := Lib.hid (by rw [← HR.out]; simp [zeroB, *])
          go_enter Try.func37, Try.ntmps37
          go_wp2_with fail
          refine (l1InO_any q 0 1 _).mono ?_
          rintro e _ ⟨rfl, rfl⟩
          go_wp2
          go_ret
          exact ⟨by rw [HF.out]; rfl, bal1 _ _⟩
      · have ep : (p == 0) = false := by simp [hp]
        have HF : Hid (R = false) := Lib.hid (by rw [← HR.out]; simp [zeroB, *])
        go_enter Try.func37, Try.ntmps37
        go_wp2
        go_ret
        exact ⟨by rw [HF.out]; rfl, bal1 _ _⟩
    · have e4 : (a == 4) = false := by simp [h4]
      have e2 : (a == 2) = false := by simp [h2]
      by_cases h3 : a = 3 ∨ a = 7
      · rcases h3 with h3 | h3
        · have e3 : (a == 3) = true := by simp [h3]
          have e7 : (a == 7) = false := by simp [h3]
          by_cases hp : p = 0
          · have ep : (p == 0) = true := by simp [hp]
            by_cases hq : q = 0
            · have eq : (q == 0) = true := by simp [hq]
              have HF : Hid (R = true) := Lib.hid (by rw [← HR.out]; simp [zeroB, *])
              go_enter Try.func37, Try.ntmps37
              go_wp2
              go_ret
              exact ⟨by rw [HF.out]; rfl, bal1 _ _⟩
            · have eq : (q == 0) = false := by simp [hq]
              have HF : Hid (R = false) := Lib.hid (by rw [← HR.out]; simp [zeroB, *])
              go_enter Try.func37, Try.ntmps37
              go_wp2
              go_ret
              exact ⟨by rw [HF.out]; rfl, bal1 _ _⟩
          · have ep : (p == 0) = false := by simp [hp]
            have HF : Hid (R = false) := Lib.hid (by rw [← HR.out]; simp [zeroB, *])
            go_enter Try.func37, Try.ntmps37
            go_wp2
            go_ret
            exact ⟨by rw [HF.out]; rfl, bal1 _ _⟩
        · have e3 : (a == 3) = false := by simp [h3]
          have e7 : (a == 7) = true := by simp [h3]
          by_cases hp : p = 0
          · have ep : (p == 0) = true := by simp [hp]
            by_cases hq : q = 0
            · have eq : (q == 0) = true := by simp [hq]
              have HF : Hid (R = true) := Lib.hid (by rw [← HR.out]; simp [zeroB, *])
              go_enter Try.func37, Try.ntmps37
              go_wp2
              go_ret
              exact ⟨by rw [HF.out]; rfl, bal1 _ _⟩
            · have eq : (q == 0) = false := by simp [hq]
              have HF : Hid (R = false) := Lib.hid (by rw [← HR.out]; simp [zeroB, *])
              go_enter Try.func37, Try.ntmps37
              go_wp2
              go_ret
              exact ⟨by rw [HF.out]; rfl, bal1 _ _⟩
          · have ep : (p == 0) = false := by simp [hp]
            have HF : Hid (R = false) := Lib.hid (by rw [← HR.out]; simp [zeroB, *])
            go_enter Try.func37, Try.ntmps37
            go_wp2
            go_ret
            exact ⟨by rw [HF.out]; rfl, bal1 _ _⟩
      · have e3 : (a == 3) = false := by simp; omega
        have e7 : (a == 7) = false := by simp; omega
        by_cases hq : q = 0
        · have eq : (q == 0) = true := by simp [hq]
          have HF : Hid (R = true) := Lib.hid (by rw [← HR.out]; simp [zeroB, *])
          go_enter Try.func37, Try.ntmps37
          go_wp2
          go_ret
          exact ⟨by rw [HF.out]; rfl, bal1 _ _⟩
        · have eq : (q == 0) = false := by simp [hq]
          have HF : Hid (R = false) := Lib.hid (by rw [← HR.out]; simp [zeroB, *])
          go_enter Try.func37, Try.ntmps37
          go_wp2
          go_ret
          exact ⟨by rw [HF.out]; rfl, bal1 _ _⟩
end Go.Proofs.Ytcimpcocgmlmoaa
