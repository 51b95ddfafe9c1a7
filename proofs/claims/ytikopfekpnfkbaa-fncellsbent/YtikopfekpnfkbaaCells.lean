/- The contract for laws.sameCells and the walk of FnCells: for every code the law returns true and writes nothing that was there. No condition. -/
import Derived.Test.YtikopfekpnfkbaaDrawCell
import Derived.StillTailTactics
import Derived.BigQuiet
import Derived.Test.YtikopfekpnfkbaaLast3
namespace Go.Proofs.Ytikopfekpnfkbaa
open Go.RowKit
set_option maxRecDepth 100000
set_option linter.unusedSimpArgs false
set_option linter.unusedVariables false

theorem Owns.cd {w : World} {S : Nat → Prop} {v : Value} {t : TypeId} {l : List CelD} (h : Owns w S v (celsT t l)) : Reads w w.heap.size v (celsD l) := (Owns.reads h).retype _
theorem sameCells_same (v u : Value) (l : List CelD) (w : World) (hv : Reads w w.heap.size v (celsD l)) (hu : Reads w w.heap.size u (celsD l)) (hn : l.length ≤ 1100000) :
    Calls Try.prog 15 #[v, u] w (SaysBool w true) := by
  obtain ⟨A, c, rfl, _, _⟩ := hv.shapeCel
  obtain ⟨A', c', rfl, _, _⟩ := hu.shapeCel
  have hne : ((l.length : Int) != (l.length : Int)) = false := by simp
  have HV := Lib.hid hv
  have HU := Lib.hid hu
  clear hv hu
  go_enter Try.func15, Try.ntmps15
  go_wp2
  go_loopw [5] (fun i wr => ∃ k : Nat, k ≤ l.length ∧ i = .int .i64 k ∧ Hid (Below w.heap.size w wr)) (fun i _ => l.length - (intOf i).toNat)
  case atStart => exact ⟨0, Nat.zero_le _, rfl, Lib.hid (Below.refl _ _)⟩
  case round =>
    obtain ⟨k, hk, rfl, HB⟩ := hrel
    by_cases hlt : k < l.length
    · obtain ⟨b, off, rfl, hbb, hc⟩ := (HV.out.on HB.out).cels hlt
      obtain ⟨b2, off2, rfl, hbb2, hc2⟩ := (HU.out.on HB.out).cels hlt
      obtain ⟨c0, c1, c2⟩ := hc k hlt
      obtain ⟨d0, d1, d2⟩ := hc2 k hlt
      clear hc hc2
      have i1 : (k : Int) < (l.length : Int) := by omega
      have i2 : (0 : Int) ≤ (k : Int) := by omega
      go_wp2
      go_still_tail 8, (by kernel_rfl)
      change wpList _ _ _ _ _ wr.drew
      have HB1 := Lib.hid (bstep HB.out (Below.drew1 _))
      generalize wr.drew = wd at *
      go_wp2
      go_roundw
      case rel => exact ⟨k + 1, by omega, by go_num, HB1⟩
      case measure => simp [intOf]; omega
    · go_wp2
      go_ret
      exact ⟨rfl, HB.out⟩
theorem below_drewN {a w : World} (h : Below a.heap.size a w) (n : Nat) : Below a.heap.size a (w.drewN n) := ⟨h.os, h.tape, h.output, h.size, h.block⟩
theorem usedK_le (l : List CelD) : usedK l ≤ l.length := used_le l
set_option maxHeartbeats 8000000 in
theorem cells_walk (a0 : Option Addr) (len0 cap0 : Nat) (z0 : List Int) (w : World) (w0 : CameIn .u8 w a0 len0 cap0 z0) :
    Calls Try.prog 3 #[.slice a0 len0 cap0] w fun e w' => e = .returned (.bool true) ∧ Below w.heap.size w w' := by
  obtain ⟨cd, rfl, hr⟩ := w0.rd
  clear w0
  by_cases hbig : cd.length ≤ 1048576
  · have d0 : decide ((1048576 : Int) < (cd.length : Int)) = false := decide_eq_false (by omega)
    have HDS := Lib.hid (drawTakeCell_any a0 cap0 cd w hr hbig)
    unfold DCelsI at HDS
    clear hr
    go_enter Try.func3, Try.ntmps3
    go_wp2_with fail
    refine (big_any _ _ _ _).mono ?_
    rintro r w1 ⟨rfl, rfl⟩
    rw [d0]
    clear d0
    go_wp2_with fail
    refine HDS.out.mono ?_
    rintro r w1 ⟨vL, l, n, rfl, oL, bd⟩
    have BB := Lib.hid bd
    have hle1 := oL.len.1
    have hle2 := oL.len.2
    obtain ⟨AL, cL, rfl, _, _⟩ := oL.rd.shapeCel
    have OL := Lib.hid oL
    clear oL bd HDS
    obtain ⟨X, hX⟩ : ∃ X, takeK l n = X := ⟨_, rfl⟩
    obtain ⟨I, hI⟩ : ∃ I, takeI l n = I := ⟨_, rfl⟩
    obtain ⟨b, hb⟩ : ∃ b, takeB l n = b := ⟨_, rfl⟩
    have hXl : X.length ≤ 24 := by rw [← hX, takeK_len]; exact hle1
    have HX := Lib.hid hX
    have HI := Lib.hid hI
    have HT := Lib.hid hb
    clear hX hI hb
    have n1 : (b != b) = false := by simp
    have n2 : (I != I) = false := by simp
    have n3 : (b == b) = true := by simp
    go_wp2_with fail
    refine (implTakeCell_any _ l n _ OL.out.rd (by omega)).mono ?_
    rintro r w2 ⟨vX, tX, rfl, o, b⟩
    have zX := b.size
    replace OL := Lib.hid (OL.out.on b)
    replace BB := Lib.hid (bstep BB.out b)
    have OX := Lib.hid o
    clear o b
    rw [HX.out] at OX
    rw [HI.out, HT.out]
    obtain ⟨AX, cX, rfl, _, _⟩ := OX.out.cd.shapeCel
    go_wp2_with fail
    refine (specTakeCell_any _ l n _ OL.out.rd (by omega)).mono ?_
    rintro r w3 ⟨vY, tY, rfl, o, b⟩
    have zY := b.size
    replace OL := Lib.hid (OL.out.on b)
    replace OX := Lib.hid (OX.out.on b)
    replace BB := Lib.hid (bstep BB.out b)
    have OY := Lib.hid o
    clear o b
    rw [HX.out] at OY
    rw [HI.out, HT.out]
    obtain ⟨AY, cY, rfl, _, _⟩ := OY.out.cd.shapeCel
    go_wp2_with fail
    refine (sameCells_same _ _ X _ OX.out.cd OY.out.cd (by omega)).mono ?_
    rintro r w4 ⟨rfl, b⟩
    have z4 := b.size
    replace OL := Lib.hid (OL.out.on b)
    replace OX := Lib.hid (OX.out.on b)
    replace OY := Lib.hid (OY.out.on b)
    replace BB := Lib.hid (bstep BB.out b)
    clear b
    clear OY
    cases b
    · have HXL : Hid (X = l) := Lib.hid (by rw [← HX.out]; exact (take_none HT.out).1)
      have hI0 : (I == 0) = true := by rw [← HI.out, (take_none HT.out).2]; rfl
      go_wp2_with fail
      refine (sameCells_same _ _ X _ OX.out.cd (by rw [HXL.out]; exact OL.out.rd) (by omega)).mono ?_
      rintro r w5 ⟨rfl, b⟩
      have z5 := b.size
      replace OL := Lib.hid (OL.out.on b)
      replace OX := Lib.hid (OX.out.on b)
      replace BB := Lib.hid (bstep BB.out b)
      clear b
      go_wp2
      go_ret
      exact ⟨rfl, BB.out⟩
    · obtain ⟨k, hk, a, eI, ea, hj, eX, eF, hF, hux, huf, f1, f2, f3, f4⟩ := cells_all HT.out
      have hga : 0 ≤ a ∧ a ≤ 999 := by
        obtain ⟨_, _, _, _, _, hok, _⟩ := take_facts HT.out
        have := okC_gen (ok_at hok hk)
        rw [ea] at this
        exact this
      obtain ⟨ga0, ga1⟩ := hga
      have eIk : I = (k : Int) := by rw [← HI.out]; exact eI
      subst eIk
      have eX2 : l.set k ⟨a, true, n⟩ = X := by rw [← HX.out]; exact eX.symm
      rw [eX2] at eF hux f1 f2 f4
      obtain ⟨F, hFF⟩ : ∃ F, l.set k ⟨(a + 1).tmod 1000, false, 0⟩ = F := ⟨_, rfl⟩
      rw [hFF] at eF hF huf f3
      have hkX : k < X.length := by rw [← eX2, List.length_set]; exact hk
      have hFl : F.length ≤ 24 := by rw [← hFF, List.length_set]; exact hle1
      have HXK : Hid (X[k] = ⟨a, true, n⟩) := Lib.hid (by subst eX2; rw [List.getElem_set_self])
      have HXJ : Hid (∀ j (h : j < l.length), j ≠ k → ∃ h' : j < X.length, X[j] = l[j]) := Lib.hid (fun j h hne => ⟨by rw [← eX2, List.length_set]; exact h, by subst eX2; rw [List.getElem_set_ne (fun e => hne e.symm)]⟩)
      have HFJ : Hid (∀ j (h : j < l.length), j ≠ k → ∃ h' : j < F.length, F[j] = l[j]) := Lib.hid (fun j h hne => ⟨by rw [← hFF, List.length_set]; exact h, by subst hFF; rw [List.getElem_set_ne (fun e => hne e.symm)]⟩)
      have HJ := Lib.hid hj
      have EF := Lib.hid eF
      have HF := Lib.hid hF
      have F1 := Lib.hid f1
      have F2 := Lib.hid f2
      have F3 := Lib.hid f3
      have F4 := Lib.hid f4
      obtain ⟨u, hu⟩ : ∃ u, usedK l = u := ⟨_, rfl⟩
      have hu24 : u ≤ 24 := by rw [← hu]; have := usedK_le l; omega
      rw [hu] at hux huf
      have HU := Lib.hid hu
      have HUX : Hid (((usedK X : Nat) : Int) = (u : Int) + 1) := Lib.hid (by rw [hux]; omega)
      have HUF := Lib.hid huf
      have i1 : (k : Int) < (X.length : Int) := by omega
      have i2 : (0 : Int) ≤ (k : Int) := by omega
      have hkl := hk
      clear ea eI eX eF eX2 hFF hF hux huf f1 f2 f3 f4 hj hu n2
      go_wp2_with fail
      refine (implFreeCell_any _ X _ _ OX.out.cd (by omega)).mono ?_
      rintro r w5 ⟨vF, tF, rfl, o, b⟩
      have zF := b.size
      replace OL := Lib.hid (OL.out.on b)
      replace OX := Lib.hid (OX.out.on b)
      replace BB := Lib.hid (bstep BB.out b)
      have OF := Lib.hid o
      clear o b
      rw [EF.out] at OF
      obtain ⟨AF, cF, rfl, _, _⟩ := OF.out.cd.shapeCel
      obtain ⟨bx, ox, rfl, hbx, hcx⟩ := OX.out.cd.cels hkX
      obtain ⟨x0, x1, x2⟩ := hcx k hkX
      rw [HXK.out] at x0
      clear hcx x1 x2
      go_wp2_with fail
      refine (implCellAt_any _ X _ _ _ OX.out.cd (by omega)).mono ?_
      rintro r _ ⟨rfl, rfl⟩
      rw [F1.out, F2.out]
      obtain ⟨m0, hm0⟩ : ∃ m0, cellK F (k : Int) a = m0 := ⟨_, rfl⟩
      go_wp2_with fail
      refine (implCellAt_any _ F _ _ _ OF.out.cd (by omega)).mono ?_
      rintro r _ ⟨rfl, rfl⟩
      rw [F3.out, hm0]
      clear hm0
      obtain ⟨m1, hm1⟩ : ∃ m1, cellK X (k : Int) (a + 1) = m1 := ⟨_, rfl⟩
      go_wp2_with fail
      refine (implCellAt_any _ X _ _ _ OX.out.cd (by omega)).mono ?_
      rintro r _ ⟨rfl, rfl⟩
      rw [F4.out, hm1]
      clear hm1 x0
      go_wp2
      go_loopw [18] (fun i wr => ∃ j : Nat, j ≤ l.length ∧ i = .int .i64 j ∧ Hid (Below w5.heap.size w5 wr)) (fun i _ => l.length - (intOf i).toNat)
      case atStart => exact ⟨0, Nat.zero_le _, rfl, Lib.hid (Below.refl _ _)⟩
      case round =>
        obtain ⟨j, hjl, rfl, HB⟩ := hrel
        by_cases hlt : j < l.length
        · have j1 : (j : Int) < (l.length : Int) := by omega
          have j2 : (0 : Int) ≤ (j : Int) := by omega
          have HN := Lib.hid (fun n => below_drewN HB.out n)
          by_cases hjk : j = k
          · have e1 : ((j : Int) != (k : Int)) = false := by rw [hjk]; simp
            have e2 : decide (j < k) = false := decide_eq_false (by omega)
            clear hjk
            go_upto_region 15 with (fail)
            refine but_begin (f := 37) (S := fun V => Below wr.drew.heap.size wr.drew V) (by kernel_rfl) ?_
            refine but_take (f := 37) (i := 0) (v := ?vrA0) rfl (by kernel_rfl) (by kernel_rfl) (by kernel_rfl) (by kernel_rfl) (by kernel_rfl) (fun _ _ _ h => h) (Or.inl ⟨(by rfl), ?hyrA0⟩) (Below.refl _ _) ?restrA0
            case hyrA0 =>
              intro W hW
              go_simp
              exact rfl
            simp only [List.getElem_toArray, List.getElem_cons_succ, List.getElem_cons_zero, Act.put, List.setIfInBounds_toArray, List.set_cons_zero, List.set_cons_succ]
            refine but_take (f := 37) (i := 1) (v := ?vrA1) rfl (by kernel_rfl) (by kernel_rfl) (by kernel_rfl) (by kernel_rfl) (by kernel_rfl) (fun _ _ _ h => h) (Or.inl ⟨(by rfl), ?hyrA1⟩) (Below.refl _ _) ?restrA1
            case hyrA1 =>
              intro W hW
              go_simp
              exact rfl
            simp only [List.getElem_toArray, List.getElem_cons_succ, List.getElem_cons_zero, Act.put, List.setIfInBounds_toArray, List.set_cons_zero, List.set_cons_succ]
            refine but_take (f := 37) (i := 2) (v := ?vrA2) rfl (by kernel_rfl) (by kernel_rfl) (by kernel_rfl) (by kernel_rfl) (by kernel_rfl) (fun _ _ _ h => h) (Or.inl ⟨(by rfl), ?hyrA2⟩) (Below.refl _ _) ?restrA2
            case hyrA2 =>
              intro W hW
              go_simp
              exact rfl
            simp only [List.getElem_toArray, List.getElem_cons_succ, List.getElem_cons_zero, Act.put, List.setIfInBounds_toArray, List.set_cons_zero, List.set_cons_succ]
            refine but_take (f := 37) (i := 3) (v := ?vrA3) rfl (by kernel_rfl) (by kernel_rfl) (by kernel_rfl) (by kernel_rfl) (by kernel_rfl) (fun _ _ _ h => h) (Or.inl ⟨(by rfl), ?hyrA3⟩) (Below.refl _ _) ?restrA3
            case hyrA3 =>
              intro W hW
              go_simp
              exact rfl
            simp only [List.getElem_toArray, List.getElem_cons_succ, List.getElem_cons_zero, Act.put, List.setIfInBounds_toArray, List.set_cons_zero, List.set_cons_succ]
            refine but_take (f := 37) (i := 4) (v := undef) rfl (by kernel_rfl) (by kernel_rfl) (by kernel_rfl) (by kernel_rfl) (by kernel_rfl) (fun _ _ _ h => h) (Or.inr ⟨((wanted_at rfl rfl rfl rfl).trans rfl), rfl⟩) (Below.refl _ _) ?_
            simp only [List.getElem_toArray, List.getElem_cons_succ, List.getElem_cons_zero, Act.put, List.setIfInBounds_toArray, List.set_cons_zero, List.set_cons_succ]
            refine but_take (f := 37) (i := 5) (v := undef) rfl (by kernel_rfl) (by kernel_rfl) (by kernel_rfl) (by kernel_rfl) (by kernel_rfl) (fun _ _ _ h => h) (Or.inr ⟨((wanted_at rfl rfl rfl rfl).trans rfl), rfl⟩) (Below.refl _ _) ?_
            simp only [List.getElem_toArray, List.getElem_cons_succ, List.getElem_cons_zero, Act.put, List.setIfInBounds_toArray, List.set_cons_zero, List.set_cons_succ]
            refine but_take (f := 37) (i := 6) (v := undef) rfl (by kernel_rfl) (by kernel_rfl) (by kernel_rfl) (by kernel_rfl) (by kernel_rfl) (fun _ _ _ h => h) (Or.inr ⟨((wanted_at rfl rfl rfl rfl).trans rfl), rfl⟩) (Below.refl _ _) ?_
            simp only [List.getElem_toArray, List.getElem_cons_succ, List.getElem_cons_zero, Act.put, List.setIfInBounds_toArray, List.set_cons_zero, List.set_cons_succ]
            refine but_take (f := 37) (i := 7) (v := undef) rfl (by kernel_rfl) (by kernel_rfl) (by kernel_rfl) (by kernel_rfl) (by kernel_rfl) (fun _ _ _ h => h) (Or.inr ⟨((wanted_at rfl rfl rfl rfl).trans rfl), rfl⟩) (Below.refl _ _) ?_
            simp only [List.getElem_toArray, List.getElem_cons_succ, List.getElem_cons_zero, Act.put, List.setIfInBounds_toArray, List.set_cons_zero, List.set_cons_succ]
            refine but_take (f := 37) (i := 8) (v := undef) rfl (by kernel_rfl) (by kernel_rfl) (by kernel_rfl) (by kernel_rfl) (by kernel_rfl) (fun _ _ _ h => h) (Or.inr ⟨((wanted_at rfl rfl rfl rfl).trans rfl), rfl⟩) (Below.refl _ _) ?_
            simp only [List.getElem_toArray, List.getElem_cons_succ, List.getElem_cons_zero, Act.put, List.setIfInBounds_toArray, List.set_cons_zero, List.set_cons_succ]
            refine but_take (f := 37) (i := 9) (v := undef) rfl (by kernel_rfl) (by kernel_rfl) (by kernel_rfl) (by kernel_rfl) (by kernel_rfl) (fun _ _ _ h => h) (Or.inr ⟨((wanted_at rfl rfl rfl rfl).trans rfl), rfl⟩) (Below.refl _ _) ?_
            simp only [List.getElem_toArray, List.getElem_cons_succ, List.getElem_cons_zero, Act.put, List.setIfInBounds_toArray, List.set_cons_zero, List.set_cons_succ]
            refine but_take (f := 37) (i := 10) (v := undef) rfl (by kernel_rfl) (by kernel_rfl) (by kernel_rfl) (by kernel_rfl) (by kernel_rfl) (fun _ _ _ h => h) (Or.inr ⟨((wanted_at rfl rfl rfl rfl).trans rfl), rfl⟩) (Below.refl _ _) ?_
            simp only [List.getElem_toArray, List.getElem_cons_succ, List.getElem_cons_zero, Act.put, List.setIfInBounds_toArray, List.set_cons_zero, List.set_cons_succ]
            refine but_take (f := 37) (i := 11) (v := undef) rfl (by kernel_rfl) (by kernel_rfl) (by kernel_rfl) (by kernel_rfl) (by kernel_rfl) (fun _ _ _ h => h) (Or.inr ⟨((wanted_at rfl rfl rfl rfl).trans rfl), rfl⟩) (Below.refl _ _) ?_
            simp only [List.getElem_toArray, List.getElem_cons_succ, List.getElem_cons_zero, Act.put, List.setIfInBounds_toArray, List.set_cons_zero, List.set_cons_succ]
            refine but_take (f := 37) (i := 12) (v := undef) rfl (by kernel_rfl) (by kernel_rfl) (by kernel_rfl) (by kernel_rfl) (by kernel_rfl) (fun _ _ _ h => h) (Or.inr ⟨((wanted_at rfl rfl rfl rfl).trans rfl), rfl⟩) (Below.refl _ _) ?_
            simp only [List.getElem_toArray, List.getElem_cons_succ, List.getElem_cons_zero, Act.put, List.setIfInBounds_toArray, List.set_cons_zero, List.set_cons_succ]
            refine but_take (f := 37) (i := 13) (v := undef) rfl (by kernel_rfl) (by kernel_rfl) (by kernel_rfl) (by kernel_rfl) (by kernel_rfl) (fun _ _ _ h => h) (Or.inr ⟨((wanted_at rfl rfl rfl rfl).trans rfl), rfl⟩) (Below.refl _ _) ?_
            simp only [List.getElem_toArray, List.getElem_cons_succ, List.getElem_cons_zero, Act.put, List.setIfInBounds_toArray, List.set_cons_zero, List.set_cons_succ]
            refine but_take (f := 37) (i := 14) (v := undef) rfl (by kernel_rfl) (by kernel_rfl) (by kernel_rfl) (by kernel_rfl) (by kernel_rfl) (fun _ _ _ h => h) (Or.inr ⟨(wanted_un rfl rfl rfl rfl), rfl⟩) (Below.refl _ _) ?_
            simp only [List.getElem_toArray, List.getElem_cons_succ, List.getElem_cons_zero, Act.put, List.setIfInBounds_toArray, List.set_cons_zero, List.set_cons_succ]
            refine but_take (f := 37) (i := 15) (v := undef) rfl (by kernel_rfl) (by kernel_rfl) (by kernel_rfl) (by kernel_rfl) (by kernel_rfl) (fun _ _ _ h => h) (Or.inr ⟨(wanted_un rfl rfl rfl rfl), rfl⟩) (Below.refl _ _) ?_
            simp only [List.getElem_toArray, List.getElem_cons_succ, List.getElem_cons_zero, Act.put, List.setIfInBounds_toArray, List.set_cons_zero, List.set_cons_succ]
            refine but_take (f := 37) (i := 16) (v := undef) rfl (by kernel_rfl) (by kernel_rfl) (by kernel_rfl) (by kernel_rfl) (by kernel_rfl) (fun _ _ _ h => h) (Or.inr ⟨(wanted_un rfl rfl rfl rfl), rfl⟩) (Below.refl _ _) ?_
            simp only [List.getElem_toArray, List.getElem_cons_succ, List.getElem_cons_zero, Act.put, List.setIfInBounds_toArray, List.set_cons_zero, List.set_cons_succ]
            refine but_take (f := 37) (i := 17) (v := undef) rfl (by kernel_rfl) (by kernel_rfl) (by kernel_rfl) (by kernel_rfl) (by kernel_rfl) (fun _ _ _ h => h) (Or.inr ⟨(wanted_un rfl rfl rfl rfl), rfl⟩) (Below.refl _ _) ?_
            simp only [List.getElem_toArray, List.getElem_cons_succ, List.getElem_cons_zero, Act.put, List.setIfInBounds_toArray, List.set_cons_zero, List.set_cons_succ]
            refine but_take (f := 37) (i := 18) (v := undef) rfl (by kernel_rfl) (by kernel_rfl) (by kernel_rfl) (by kernel_rfl) (by kernel_rfl) (fun _ _ _ h => h) (Or.inr ⟨(wanted_un rfl rfl rfl rfl), rfl⟩) (Below.refl _ _) ?_
            simp only [List.getElem_toArray, List.getElem_cons_succ, List.getElem_cons_zero, Act.put, List.setIfInBounds_toArray, List.set_cons_zero, List.set_cons_succ]
            refine but_take (f := 37) (i := 19) (v := undef) rfl (by kernel_rfl) (by kernel_rfl) (by kernel_rfl) (by kernel_rfl) (by kernel_rfl) (fun _ _ _ h => h) (Or.inr ⟨(wanted_un rfl rfl rfl rfl), rfl⟩) (Below.refl _ _) ?_
            simp only [List.getElem_toArray, List.getElem_cons_succ, List.getElem_cons_zero, Act.put, List.setIfInBounds_toArray, List.set_cons_zero, List.set_cons_succ]
            refine but_take (f := 37) (i := 20) (v := undef) rfl (by kernel_rfl) (by kernel_rfl) (by kernel_rfl) (by kernel_rfl) (by kernel_rfl) (fun _ _ _ h => h) (Or.inr ⟨(wanted_un rfl rfl rfl rfl), rfl⟩) (Below.refl _ _) ?_
            simp only [List.getElem_toArray, List.getElem_cons_succ, List.getElem_cons_zero, Act.put, List.setIfInBounds_toArray, List.set_cons_zero, List.set_cons_succ]
            refine but_take (f := 37) (i := 21) (v := undef) rfl (by kernel_rfl) (by kernel_rfl) (by kernel_rfl) (by kernel_rfl) (by kernel_rfl) (fun _ _ _ h => h) (Or.inr ⟨(wanted_un rfl rfl rfl rfl), rfl⟩) (Below.refl _ _) ?_
            simp only [List.getElem_toArray, List.getElem_cons_succ, List.getElem_cons_zero, Act.put, List.setIfInBounds_toArray, List.set_cons_zero, List.set_cons_succ]
            refine but_take (f := 37) (i := 22) (v := undef) rfl (by kernel_rfl) (by kernel_rfl) (by kernel_rfl) (by kernel_rfl) (by kernel_rfl) (fun _ _ _ h => h) (Or.inr ⟨(wanted_un rfl rfl rfl rfl), rfl⟩) (Below.refl _ _) ?_
            simp only [List.getElem_toArray, List.getElem_cons_succ, List.getElem_cons_zero, Act.put, List.setIfInBounds_toArray, List.set_cons_zero, List.set_cons_succ]
            refine but_take (f := 37) (i := 23) (v := undef) rfl (by kernel_rfl) (by kernel_rfl) (by kernel_rfl) (by kernel_rfl) (by kernel_rfl) (fun _ _ _ h => h) (Or.inr ⟨((wanted_at rfl rfl rfl rfl).trans rfl), rfl⟩) (Below.refl _ _) ?_
            simp only [List.getElem_toArray, List.getElem_cons_succ, List.getElem_cons_zero, Act.put, List.setIfInBounds_toArray, List.set_cons_zero, List.set_cons_succ]
            refine but_take (f := 37) (i := 24) (v := ?vrA24) rfl (by kernel_rfl) (by kernel_rfl) (by kernel_rfl) (by kernel_rfl) (by kernel_rfl) (fun _ _ _ h => h) (Or.inl ⟨(by rfl), ?hyrA24⟩) (Below.refl _ _) ?restrA24
            case hyrA24 =>
              intro W hW
              go_simp
              exact rfl
            simp only [List.getElem_toArray, List.getElem_cons_succ, List.getElem_cons_zero, Act.put, List.setIfInBounds_toArray, List.set_cons_zero, List.set_cons_succ]
            refine but_take (f := 37) (i := 25) (v := ?vrA25) rfl (by kernel_rfl) (by kernel_rfl) (by kernel_rfl) (by kernel_rfl) (by kernel_rfl) (fun _ _ _ h => h) (Or.inl ⟨(by rfl), ?hyrA25⟩) (Below.refl _ _) ?restrA25
            case hyrA25 =>
              intro W hW
              go_simp
              exact rfl
            simp only [List.getElem_toArray, List.getElem_cons_succ, List.getElem_cons_zero, Act.put, List.setIfInBounds_toArray, List.set_cons_zero, List.set_cons_succ]
            refine but_take (f := 37) (i := 26) (v := ?vrA26) rfl (by kernel_rfl) (by kernel_rfl) (by kernel_rfl) (by kernel_rfl) (by kernel_rfl) (fun _ _ _ h => h) (Or.inl ⟨((wanted_at rfl rfl rfl rfl).trans rfl), ?hyrA26⟩) (Below.refl _ _) ?restrA26
            case hyrA26 =>
              intro W hW
              go_simp
              exact rfl
            simp only [List.getElem_toArray, List.getElem_cons_succ, List.getElem_cons_zero, Act.put, List.setIfInBounds_toArray, List.set_cons_zero, List.set_cons_succ]
            refine but_take (f := 37) (i := 27) (v := ?vrA27) rfl (by kernel_rfl) (by kernel_rfl) (by kernel_rfl) (by kernel_rfl) (by kernel_rfl) (fun _ _ _ h => h) (Or.inl ⟨((wanted_at rfl rfl rfl rfl).trans rfl), ?hyrA27⟩) (Below.refl _ _) ?restrA27
            case hyrA27 =>
              intro W hW
              go_simp
              exact rfl
            simp only [List.getElem_toArray, List.getElem_cons_succ, List.getElem_cons_zero, Act.put, List.setIfInBounds_toArray, List.set_cons_zero, List.set_cons_succ]
            refine but_take (f := 37) (i := 28) (v := ?vrA28) rfl (by kernel_rfl) (by kernel_rfl) (by kernel_rfl) (by kernel_rfl) (by kernel_rfl) (fun _ _ _ h => h) (Or.inl ⟨((wanted_at rfl rfl rfl rfl).trans rfl), ?hyrA28⟩) (Below.refl _ _) ?restrA28
            case hyrA28 =>
              intro W hW
              go_simp
              exact rfl
            simp only [List.getElem_toArray, List.getElem_cons_succ, List.getElem_cons_zero, Act.put, List.setIfInBounds_toArray, List.set_cons_zero, List.set_cons_succ]
            refine but_take (f := 37) (i := 29) (v := ?vrA29) rfl (by kernel_rfl) (by kernel_rfl) (by kernel_rfl) (by kernel_rfl) (by kernel_rfl) (fun _ _ _ h => h) (Or.inl ⟨((wanted_at rfl rfl rfl rfl).trans rfl), ?hyrA29⟩) (Below.refl _ _) ?restrA29
            case hyrA29 =>
              intro W hW
              go_simp
              exact rfl
            simp only [List.getElem_toArray, List.getElem_cons_succ, List.getElem_cons_zero, Act.put, List.setIfInBounds_toArray, List.set_cons_zero, List.set_cons_succ]
            refine but_take (f := 37) (i := 30) (v := undef) rfl (by kernel_rfl) (by kernel_rfl) (by kernel_rfl) (by kernel_rfl) (by kernel_rfl) (fun _ _ _ h => h) (Or.inr ⟨((wanted_at rfl rfl rfl rfl).trans rfl), rfl⟩) (Below.refl _ _) ?_
            simp only [List.getElem_toArray, List.getElem_cons_succ, List.getElem_cons_zero, Act.put, List.setIfInBounds_toArray, List.set_cons_zero, List.set_cons_succ]
            refine but_take (f := 37) (i := 31) (v := undef) rfl (by kernel_rfl) (by kernel_rfl) (by kernel_rfl) (by kernel_rfl) (by kernel_rfl) (fun _ _ _ h => h) (Or.inr ⟨((wanted_at rfl rfl rfl rfl).trans rfl), rfl⟩) (Below.refl _ _) ?_
            simp only [List.getElem_toArray, List.getElem_cons_succ, List.getElem_cons_zero, Act.put, List.setIfInBounds_toArray, List.set_cons_zero, List.set_cons_succ]
            refine but_take (f := 37) (i := 32) (v := undef) rfl (by kernel_rfl) (by kernel_rfl) (by kernel_rfl) (by kernel_rfl) (by kernel_rfl) (fun _ _ _ h => h) (Or.inr ⟨((wanted_at rfl rfl rfl rfl).trans rfl), rfl⟩) (Below.refl _ _) ?_
            simp only [List.getElem_toArray, List.getElem_cons_succ, List.getElem_cons_zero, Act.put, List.setIfInBounds_toArray, List.set_cons_zero, List.set_cons_succ]
            refine but_take (f := 37) (i := 33) (v := undef) rfl (by kernel_rfl) (by kernel_rfl) (by kernel_rfl) (by kernel_rfl) (by kernel_rfl) (fun _ _ _ h => h) (Or.inr ⟨((wanted_at rfl rfl rfl rfl).trans rfl), rfl⟩) (Below.refl _ _) ?_
            simp only [List.getElem_toArray, List.getElem_cons_succ, List.getElem_cons_zero, Act.put, List.setIfInBounds_toArray, List.set_cons_zero, List.set_cons_succ]
            refine but_take (f := 37) (i := 34) (v := undef) rfl (by kernel_rfl) (by kernel_rfl) (by kernel_rfl) (by kernel_rfl) (by kernel_rfl) (fun _ _ _ h => h) (Or.inr ⟨((wanted_at rfl rfl rfl rfl).trans rfl), rfl⟩) (Below.refl _ _) ?_
            simp only [List.getElem_toArray, List.getElem_cons_succ, List.getElem_cons_zero, Act.put, List.setIfInBounds_toArray, List.set_cons_zero, List.set_cons_succ]
            refine but_take (f := 37) (i := 35) (v := undef) rfl (by kernel_rfl) (by kernel_rfl) (by kernel_rfl) (by kernel_rfl) (by kernel_rfl) (fun _ _ _ h => h) (Or.inr ⟨((wanted_at rfl rfl rfl rfl).trans rfl), rfl⟩) (Below.refl _ _) ?_
            simp only [List.getElem_toArray, List.getElem_cons_succ, List.getElem_cons_zero, Act.put, List.setIfInBounds_toArray, List.set_cons_zero, List.set_cons_succ]
            refine but_take (f := 37) (i := 36) (v := ?vrA36) rfl (by kernel_rfl) (by kernel_rfl) (by kernel_rfl) (by kernel_rfl) (by kernel_rfl) (fun _ _ _ h => h) (Or.inl ⟨((wanted_at rfl rfl rfl rfl).trans rfl), ?hyrA36⟩) (Below.refl _ _) ?restrA36
            case hyrA36 =>
              intro W hW
              go_simp
              exact rfl
            simp only [List.getElem_toArray, List.getElem_cons_succ, List.getElem_cons_zero, Act.put, List.setIfInBounds_toArray, List.set_cons_zero, List.set_cons_succ]
            refine but_run (i := 37) (by kernel_rfl) rfl (by rfl) ?_
            simp only [List.getElem_toArray, List.getElem_cons_succ, List.getElem_cons_zero]
            intro K HK
            go_wp2_with fail
            refine HK.out _ wr.drew (fun h => absurd rfl h) ?_
            clear HK
            refine but_done (by kernel_rfl) ?_
            go_wp2_with fail
            go_roundw
            case rel => exact ⟨j + 1, by omega, by go_num, Lib.hid (bstep HB.out (bstep (Below.drew1 _) (Below.refl _ _)))⟩
            case measure => simp [intOf]; omega
          · have e1 : ((j : Int) != (k : Int)) = true := by simpa using (show ¬ (j : Int) = (k : Int) by omega)
            obtain ⟨hjX, ejX⟩ := HXJ.out j hlt hjk
            obtain ⟨hjF, ejF⟩ := HFJ.out j hlt hjk
            have jx : (j : Int) < (X.length : Int) := by omega
            have jf : (j : Int) < (F.length : Int) := by omega
            obtain ⟨b1, o1, rfl, hb1, hc1⟩ := (OL.out.on HB.out).rd.cels hlt
            have FL := Lib.hid (hc1 j hlt)
            obtain ⟨b2, o2, hA2, hb2, hc2⟩ := (OX.out.on HB.out).cd.cels hjX
            injection hA2 with hA2
            injection hA2 with h2 h3
            subst h2
            subst h3
            have fx := hc2 j hjX
            rw [ejX] at fx
            have FX := Lib.hid fx
            obtain ⟨b3, o3, rfl, hb3, hc3⟩ := (OF.out.on HB.out).cd.cels hjF
            have ff := hc3 j hjF
            rw [ejF] at ff
            have FF := Lib.hid ff
            clear hc1 hc2 hc3 ejX ejF fx ff
            by_cases hjk2 : j < k
            · have e2 : decide (j < k) = true := decide_eq_true (by omega)
              have HUB : Hid ((l[j]).b = true) := Lib.hid (HJ.out j hjk2)
              clear hjk
              go_upto_region 15 with (fail)
              refine but_begin (f := 37) (S := fun V => Below wr.drew.heap.size wr.drew V) (by kernel_rfl) ?_
              refine but_take (f := 37) (i := 0) (v := ?vrB0) rfl (by kernel_rfl) (by kernel_rfl) (by kernel_rfl) (by kernel_rfl) (by kernel_rfl) (fun _ _ _ h => h) (Or.inl ⟨(by rfl), ?hyrB0⟩) (Below.refl _ _) ?restrB0
              case hyrB0 =>
                intro W hW
                go_simp
                exact rfl
              simp only [List.getElem_toArray, List.getElem_cons_succ, List.getElem_cons_zero, Act.put, List.setIfInBounds_toArray, List.set_cons_zero, List.set_cons_succ]
              refine but_take (f := 37) (i := 1) (v := ?vrB1) rfl (by kernel_rfl) (by kernel_rfl) (by kernel_rfl) (by kernel_rfl) (by kernel_rfl) (fun _ _ _ h => h) (Or.inl ⟨(by rfl), ?hyrB1⟩) (Below.refl _ _) ?restrB1
              case hyrB1 =>
                intro W hW
                go_simp
                exact rfl
              simp only [List.getElem_toArray, List.getElem_cons_succ, List.getElem_cons_zero, Act.put, List.setIfInBounds_toArray, List.set_cons_zero, List.set_cons_succ]
              refine but_take (f := 37) (i := 2) (v := ?vrB2) rfl (by kernel_rfl) (by kernel_rfl) (by kernel_rfl) (by kernel_rfl) (by kernel_rfl) (fun _ _ _ h => h) (Or.inl ⟨(by rfl), ?hyrB2⟩) (Below.refl _ _) ?restrB2
              case hyrB2 =>
                intro W hW
                go_simp
                exact rfl
              simp only [List.getElem_toArray, List.getElem_cons_succ, List.getElem_cons_zero, Act.put, List.setIfInBounds_toArray, List.set_cons_zero, List.set_cons_succ]
              refine but_take (f := 37) (i := 3) (v := ?vrB3) rfl (by kernel_rfl) (by kernel_rfl) (by kernel_rfl) (by kernel_rfl) (by kernel_rfl) (fun _ _ _ h => h) (Or.inl ⟨(by rfl), ?hyrB3⟩) (Below.refl _ _) ?restrB3
              case hyrB3 =>
                intro W hW
                go_simp
                exact rfl
              simp only [List.getElem_toArray, List.getElem_cons_succ, List.getElem_cons_zero, Act.put, List.setIfInBounds_toArray, List.set_cons_zero, List.set_cons_succ]
              refine but_take (f := 37) (i := 4) (v := ?vrB4) rfl (by kernel_rfl) (by kernel_rfl) (by kernel_rfl) (by kernel_rfl) (by kernel_rfl) (fun _ _ _ h => h) (Or.inl ⟨((wanted_at rfl rfl rfl rfl).trans rfl), ?hyrB4⟩) (Below.refl _ _) ?restrB4
              case hyrB4 =>
                intro W hW
                go_simp
                exact rfl
              simp only [List.getElem_toArray, List.getElem_cons_succ, List.getElem_cons_zero, Act.put, List.setIfInBounds_toArray, List.set_cons_zero, List.set_cons_succ]
              refine but_take (f := 37) (i := 5) (v := ?vrB5) rfl (by kernel_rfl) (by kernel_rfl) (by kernel_rfl) (by kernel_rfl) (by kernel_rfl) (fun _ _ _ h => h) (Or.inl ⟨((wanted_at rfl rfl rfl rfl).trans rfl), ?hyrB5⟩) (Below.refl _ _) ?restrB5
              case hyrB5 =>
                intro W hW
                go_simp
                exact rfl
              simp only [List.getElem_toArray, List.getElem_cons_succ, List.getElem_cons_zero, Act.put, List.setIfInBounds_toArray, List.set_cons_zero, List.set_cons_succ]
              refine but_take (f := 37) (i := 6) (v := ?vrB6) rfl (by kernel_rfl) (by kernel_rfl) (by kernel_rfl) (by kernel_rfl) (by kernel_rfl) (fun _ _ _ h => h) (Or.inl ⟨((wanted_at rfl rfl rfl rfl).trans rfl), ?hyrB6⟩) (Below.refl _ _) ?restrB6
              case hyrB6 =>
                intro W hW
                go_simp
                exact rfl
              simp only [List.getElem_toArray, List.getElem_cons_succ, List.getElem_cons_zero, Act.put, List.setIfInBounds_toArray, List.set_cons_zero, List.set_cons_succ]
              refine but_take (f := 37) (i := 7) (v := ?vrB7) rfl (by kernel_rfl) (by kernel_rfl) (by kernel_rfl) (by kernel_rfl) (by kernel_rfl) (fun _ _ _ h => h) (Or.inl ⟨((wanted_at rfl rfl rfl rfl).trans rfl), ?hyrB7⟩) (Below.refl _ _) ?restrB7
              case hyrB7 =>
                intro W hW
                have hb0 : Below wr.heap.size wr W := bstep (Below.drew1 _) hW
                obtain ⟨c0, c1, c2⟩ := FL.out.on hb1 hb0
                obtain ⟨y0, y1, y2⟩ := FX.out.on hb2 hb0
                obtain ⟨g0, g1, g2⟩ := FF.out.on hb3 hb0
                go_simp
                exact rfl
              simp only [List.getElem_toArray, List.getElem_cons_succ, List.getElem_cons_zero, Act.put, List.setIfInBounds_toArray, List.set_cons_zero, List.set_cons_succ]
              refine but_take (f := 37) (i := 8) (v := ?vrB8) rfl (by kernel_rfl) (by kernel_rfl) (by kernel_rfl) (by kernel_rfl) (by kernel_rfl) (fun _ _ _ h => h) (Or.inl ⟨((wanted_at rfl rfl rfl rfl).trans rfl), ?hyrB8⟩) (Below.refl _ _) ?restrB8
              case hyrB8 =>
                intro W hW
                go_simp
                exact rfl
              simp only [List.getElem_toArray, List.getElem_cons_succ, List.getElem_cons_zero, Act.put, List.setIfInBounds_toArray, List.set_cons_zero, List.set_cons_succ]
              refine but_take (f := 37) (i := 9) (v := ?vrB9) rfl (by kernel_rfl) (by kernel_rfl) (by kernel_rfl) (by kernel_rfl) (by kernel_rfl) (fun _ _ _ h => h) (Or.inl ⟨((wanted_at rfl rfl rfl rfl).trans rfl), ?hyrB9⟩) (Below.refl _ _) ?restrB9
              case hyrB9 =>
                intro W hW
                go_simp
                exact rfl
              simp only [List.getElem_toArray, List.getElem_cons_succ, List.getElem_cons_zero, Act.put, List.setIfInBounds_toArray, List.set_cons_zero, List.set_cons_succ]
              refine but_take (f := 37) (i := 10) (v := ?vrB10) rfl (by kernel_rfl) (by kernel_rfl) (by kernel_rfl) (by kernel_rfl) (by kernel_rfl) (fun _ _ _ h => h) (Or.inl ⟨((wanted_at rfl rfl rfl rfl).trans rfl), ?hyrB10⟩) (Below.refl _ _) ?restrB10
              case hyrB10 =>
                intro W hW
                go_simp
                exact rfl
              simp only [List.getElem_toArray, List.getElem_cons_succ, List.getElem_cons_zero, Act.put, List.setIfInBounds_toArray, List.set_cons_zero, List.set_cons_succ]
              refine but_take (f := 37) (i := 11) (v := ?vrB11) rfl (by kernel_rfl) (by kernel_rfl) (by kernel_rfl) (by kernel_rfl) (by kernel_rfl) (fun _ _ _ h => h) (Or.inl ⟨((wanted_at rfl rfl rfl rfl).trans rfl), ?hyrB11⟩) (Below.refl _ _) ?restrB11
              case hyrB11 =>
                intro W hW
                have hb0 : Below wr.heap.size wr W := bstep (Below.drew1 _) hW
                obtain ⟨c0, c1, c2⟩ := FL.out.on hb1 hb0
                obtain ⟨y0, y1, y2⟩ := FX.out.on hb2 hb0
                obtain ⟨g0, g1, g2⟩ := FF.out.on hb3 hb0
                go_simp
                exact rfl
              simp only [List.getElem_toArray, List.getElem_cons_succ, List.getElem_cons_zero, Act.put, List.setIfInBounds_toArray, List.set_cons_zero, List.set_cons_succ]
              refine but_take (f := 37) (i := 12) (v := ?vrB12) rfl (by kernel_rfl) (by kernel_rfl) (by kernel_rfl) (by kernel_rfl) (by kernel_rfl) (fun _ _ _ h => h) (Or.inl ⟨((wanted_at rfl rfl rfl rfl).trans rfl), ?hyrB12⟩) (Below.refl _ _) ?restrB12
              case hyrB12 =>
                intro W hW
                go_simp
                exact rfl
              simp only [List.getElem_toArray, List.getElem_cons_succ, List.getElem_cons_zero, Act.put, List.setIfInBounds_toArray, List.set_cons_zero, List.set_cons_succ]
              refine but_take (f := 37) (i := 13) (v := ?vrB13) rfl (by kernel_rfl) (by kernel_rfl) (by kernel_rfl) (by kernel_rfl) (by kernel_rfl) (fun _ _ _ h => h) (Or.inl ⟨((wanted_at rfl rfl rfl rfl).trans rfl), ?hyrB13⟩) (Below.refl _ _) ?restrB13
              case hyrB13 =>
                intro W hW
                go_simp
                exact rfl
              simp only [List.getElem_toArray, List.getElem_cons_succ, List.getElem_cons_zero, Act.put, List.setIfInBounds_toArray, List.set_cons_zero, List.set_cons_succ]
              refine but_take (f := 37) (i := 14) (v := ?vrB14) rfl (by kernel_rfl) (by kernel_rfl) (by kernel_rfl) (by kernel_rfl) (by kernel_rfl) (fun _ _ _ h => h) (Or.inl ⟨((wanted_at rfl rfl rfl rfl).trans rfl), ?hyrB14⟩) (Below.refl _ _) ?restrB14
              case hyrB14 =>
                intro W hW
                go_simp
                exact rfl
              simp only [List.getElem_toArray, List.getElem_cons_succ, List.getElem_cons_zero, Act.put, List.setIfInBounds_toArray, List.set_cons_zero, List.set_cons_succ]
              refine but_take (f := 37) (i := 15) (v := ?vrB15) rfl (by kernel_rfl) (by kernel_rfl) (by kernel_rfl) (by kernel_rfl) (by kernel_rfl) (fun _ _ _ h => h) (Or.inl ⟨((wanted_at rfl rfl rfl rfl).trans rfl), ?hyrB15⟩) (Below.refl _ _) ?restrB15
              case hyrB15 =>
                intro W hW
                go_simp
                exact rfl
              simp only [List.getElem_toArray, List.getElem_cons_succ, List.getElem_cons_zero, Act.put, List.setIfInBounds_toArray, List.set_cons_zero, List.set_cons_succ]
              refine but_take (f := 37) (i := 16) (v := ?vrB16) rfl (by kernel_rfl) (by kernel_rfl) (by kernel_rfl) (by kernel_rfl) (by kernel_rfl) (fun _ _ _ h => h) (Or.inl ⟨((wanted_at rfl rfl rfl rfl).trans rfl), ?hyrB16⟩) (Below.refl _ _) ?restrB16
              case hyrB16 =>
                intro W hW
                go_simp
                exact rfl
              simp only [List.getElem_toArray, List.getElem_cons_succ, List.getElem_cons_zero, Act.put, List.setIfInBounds_toArray, List.set_cons_zero, List.set_cons_succ]
              refine but_take (f := 37) (i := 17) (v := ?vrB17) rfl (by kernel_rfl) (by kernel_rfl) (by kernel_rfl) (by kernel_rfl) (by kernel_rfl) (fun _ _ _ h => h) (Or.inl ⟨((wanted_at rfl rfl rfl rfl).trans rfl), ?hyrB17⟩) (Below.refl _ _) ?restrB17
              case hyrB17 =>
                intro W hW
                have hb0 : Below wr.heap.size wr W := bstep (Below.drew1 _) hW
                obtain ⟨c0, c1, c2⟩ := FL.out.on hb1 hb0
                obtain ⟨y0, y1, y2⟩ := FX.out.on hb2 hb0
                obtain ⟨g0, g1, g2⟩ := FF.out.on hb3 hb0
                go_simp
                exact rfl
              simp only [List.getElem_toArray, List.getElem_cons_succ, List.getElem_cons_zero, Act.put, List.setIfInBounds_toArray, List.set_cons_zero, List.set_cons_succ]
              refine but_take (f := 37) (i := 18) (v := ?vrB18) rfl (by kernel_rfl) (by kernel_rfl) (by kernel_rfl) (by kernel_rfl) (by kernel_rfl) (fun _ _ _ h => h) (Or.inl ⟨((wanted_at rfl rfl rfl rfl).trans rfl), ?hyrB18⟩) (Below.refl _ _) ?restrB18
              case hyrB18 =>
                intro W hW
                go_simp
                exact rfl
              simp only [List.getElem_toArray, List.getElem_cons_succ, List.getElem_cons_zero, Act.put, List.setIfInBounds_toArray, List.set_cons_zero, List.set_cons_succ]
              refine but_take (f := 37) (i := 19) (v := ?vrB19) rfl (by kernel_rfl) (by kernel_rfl) (by kernel_rfl) (by kernel_rfl) (by kernel_rfl) (fun _ _ _ h => h) (Or.inl ⟨((wanted_at rfl rfl rfl rfl).trans rfl), ?hyrB19⟩) (Below.refl _ _) ?restrB19
              case hyrB19 =>
                intro W hW
                go_simp
                exact rfl
              simp only [List.getElem_toArray, List.getElem_cons_succ, List.getElem_cons_zero, Act.put, List.setIfInBounds_toArray, List.set_cons_zero, List.set_cons_succ]
              refine but_take (f := 37) (i := 20) (v := ?vrB20) rfl (by kernel_rfl) (by kernel_rfl) (by kernel_rfl) (by kernel_rfl) (by kernel_rfl) (fun _ _ _ h => h) (Or.inl ⟨((wanted_at rfl rfl rfl rfl).trans rfl), ?hyrB20⟩) (Below.refl _ _) ?restrB20
              case hyrB20 =>
                intro W hW
                go_simp
                exact rfl
              simp only [List.getElem_toArray, List.getElem_cons_succ, List.getElem_cons_zero, Act.put, List.setIfInBounds_toArray, List.set_cons_zero, List.set_cons_succ]
              refine but_take (f := 37) (i := 21) (v := ?vrB21) rfl (by kernel_rfl) (by kernel_rfl) (by kernel_rfl) (by kernel_rfl) (by kernel_rfl) (fun _ _ _ h => h) (Or.inl ⟨((wanted_at rfl rfl rfl rfl).trans rfl), ?hyrB21⟩) (Below.refl _ _) ?restrB21
              case hyrB21 =>
                intro W hW
                have hb0 : Below wr.heap.size wr W := bstep (Below.drew1 _) hW
                obtain ⟨c0, c1, c2⟩ := FL.out.on hb1 hb0
                obtain ⟨y0, y1, y2⟩ := FX.out.on hb2 hb0
                obtain ⟨g0, g1, g2⟩ := FF.out.on hb3 hb0
                go_simp
                exact rfl
              simp only [List.getElem_toArray, List.getElem_cons_succ, List.getElem_cons_zero, Act.put, List.setIfInBounds_toArray, List.set_cons_zero, List.set_cons_succ]
              refine but_take (f := 37) (i := 22) (v := ?vrB22) rfl (by kernel_rfl) (by kernel_rfl) (by kernel_rfl) (by kernel_rfl) (by kernel_rfl) (fun _ _ _ h => h) (Or.inl ⟨((wanted_at rfl rfl rfl rfl).trans rfl), ?hyrB22⟩) (Below.refl _ _) ?restrB22
              case hyrB22 =>
                intro W hW
                go_simp
                exact rfl
              simp only [List.getElem_toArray, List.getElem_cons_succ, List.getElem_cons_zero, Act.put, List.setIfInBounds_toArray, List.set_cons_zero, List.set_cons_succ]
              refine but_take (f := 37) (i := 23) (v := ?vrB23) rfl (by kernel_rfl) (by kernel_rfl) (by kernel_rfl) (by kernel_rfl) (by kernel_rfl) (fun _ _ _ h => h) (Or.inl ⟨((wanted_at rfl rfl rfl rfl).trans rfl), ?hyrB23⟩) (Below.refl _ _) ?restrB23
              case hyrB23 =>
                intro W hW
                go_simp
                exact rfl
              simp only [List.getElem_toArray, List.getElem_cons_succ, List.getElem_cons_zero, Act.put, List.setIfInBounds_toArray, List.set_cons_zero, List.set_cons_succ]
              refine but_take (f := 37) (i := 24) (v := ?vrB24) rfl (by kernel_rfl) (by kernel_rfl) (by kernel_rfl) (by kernel_rfl) (by kernel_rfl) (fun _ _ _ h => h) (Or.inl ⟨(by rfl), ?hyrB24⟩) (Below.refl _ _) ?restrB24
              case hyrB24 =>
                intro W hW
                go_simp
                exact rfl
              simp only [List.getElem_toArray, List.getElem_cons_succ, List.getElem_cons_zero, Act.put, List.setIfInBounds_toArray, List.set_cons_zero, List.set_cons_succ]
              refine but_take (f := 37) (i := 25) (v := ?vrB25) rfl (by kernel_rfl) (by kernel_rfl) (by kernel_rfl) (by kernel_rfl) (by kernel_rfl) (fun _ _ _ h => h) (Or.inl ⟨(by rfl), ?hyrB25⟩) (Below.refl _ _) ?restrB25
              case hyrB25 =>
                intro W hW
                go_simp
                exact rfl
              simp only [List.getElem_toArray, List.getElem_cons_succ, List.getElem_cons_zero, Act.put, List.setIfInBounds_toArray, List.set_cons_zero, List.set_cons_succ]
              refine but_take (f := 37) (i := 26) (v := ?vrB26) rfl (by kernel_rfl) (by kernel_rfl) (by kernel_rfl) (by kernel_rfl) (by kernel_rfl) (fun _ _ _ h => h) (Or.inl ⟨((wanted_at rfl rfl rfl rfl).trans rfl), ?hyrB26⟩) (Below.refl _ _) ?restrB26
              case hyrB26 =>
                intro W hW
                go_simp
                exact rfl
              simp only [List.getElem_toArray, List.getElem_cons_succ, List.getElem_cons_zero, Act.put, List.setIfInBounds_toArray, List.set_cons_zero, List.set_cons_succ]
              refine but_take (f := 37) (i := 27) (v := ?vrB27) rfl (by kernel_rfl) (by kernel_rfl) (by kernel_rfl) (by kernel_rfl) (by kernel_rfl) (fun _ _ _ h => h) (Or.inl ⟨((wanted_at rfl rfl rfl rfl).trans rfl), ?hyrB27⟩) (Below.refl _ _) ?restrB27
              case hyrB27 =>
                intro W hW
                go_simp
                exact rfl
              simp only [List.getElem_toArray, List.getElem_cons_succ, List.getElem_cons_zero, Act.put, List.setIfInBounds_toArray, List.set_cons_zero, List.set_cons_succ]
              refine but_take (f := 37) (i := 28) (v := ?vrB28) rfl (by kernel_rfl) (by kernel_rfl) (by kernel_rfl) (by kernel_rfl) (by kernel_rfl) (fun _ _ _ h => h) (Or.inl ⟨((wanted_at rfl rfl rfl rfl).trans rfl), ?hyrB28⟩) (Below.refl _ _) ?restrB28
              case hyrB28 =>
                intro W hW
                go_simp
                exact rfl
              simp only [List.getElem_toArray, List.getElem_cons_succ, List.getElem_cons_zero, Act.put, List.setIfInBounds_toArray, List.set_cons_zero, List.set_cons_succ]
              refine but_take (f := 37) (i := 29) (v := ?vrB29) rfl (by kernel_rfl) (by kernel_rfl) (by kernel_rfl) (by kernel_rfl) (by kernel_rfl) (fun _ _ _ h => h) (Or.inl ⟨((wanted_at rfl rfl rfl rfl).trans rfl), ?hyrB29⟩) (Below.refl _ _) ?restrB29
              case hyrB29 =>
                intro W hW
                go_simp
                exact rfl
              simp only [List.getElem_toArray, List.getElem_cons_succ, List.getElem_cons_zero, Act.put, List.setIfInBounds_toArray, List.set_cons_zero, List.set_cons_succ]
              refine but_take (f := 37) (i := 30) (v := ?vrB30) rfl (by kernel_rfl) (by kernel_rfl) (by kernel_rfl) (by kernel_rfl) (by kernel_rfl) (fun _ _ _ h => h) (Or.inl ⟨((wanted_at rfl rfl rfl rfl).trans rfl), ?hyrB30⟩) (Below.refl _ _) ?restrB30
              case hyrB30 =>
                intro W hW
                go_simp
                exact rfl
              simp only [List.getElem_toArray, List.getElem_cons_succ, List.getElem_cons_zero, Act.put, List.setIfInBounds_toArray, List.set_cons_zero, List.set_cons_succ]
              refine but_take (f := 37) (i := 31) (v := ?vrB31) rfl (by kernel_rfl) (by kernel_rfl) (by kernel_rfl) (by kernel_rfl) (by kernel_rfl) (fun _ _ _ h => h) (Or.inl ⟨((wanted_at rfl rfl rfl rfl).trans rfl), ?hyrB31⟩) (Below.refl _ _) ?restrB31
              case hyrB31 =>
                intro W hW
                go_simp
                exact rfl
              simp only [List.getElem_toArray, List.getElem_cons_succ, List.getElem_cons_zero, Act.put, List.setIfInBounds_toArray, List.set_cons_zero, List.set_cons_succ]
              refine but_take (f := 37) (i := 32) (v := ?vrB32) rfl (by kernel_rfl) (by kernel_rfl) (by kernel_rfl) (by kernel_rfl) (by kernel_rfl) (fun _ _ _ h => h) (Or.inl ⟨((wanted_at rfl rfl rfl rfl).trans rfl), ?hyrB32⟩) (Below.refl _ _) ?restrB32
              case hyrB32 =>
                intro W hW
                go_simp
                exact rfl
              simp only [List.getElem_toArray, List.getElem_cons_succ, List.getElem_cons_zero, Act.put, List.setIfInBounds_toArray, List.set_cons_zero, List.set_cons_succ]
              refine but_take (f := 37) (i := 33) (v := ?vrB33) rfl (by kernel_rfl) (by kernel_rfl) (by kernel_rfl) (by kernel_rfl) (by kernel_rfl) (fun _ _ _ h => h) (Or.inl ⟨((wanted_at rfl rfl rfl rfl).trans rfl), ?hyrB33⟩) (Below.refl _ _) ?restrB33
              case hyrB33 =>
                intro W hW
                go_simp
                exact rfl
              simp only [List.getElem_toArray, List.getElem_cons_succ, List.getElem_cons_zero, Act.put, List.setIfInBounds_toArray, List.set_cons_zero, List.set_cons_succ]
              refine but_take (f := 37) (i := 34) (v := ?vrB34) rfl (by kernel_rfl) (by kernel_rfl) (by kernel_rfl) (by kernel_rfl) (by kernel_rfl) (fun _ _ _ h => h) (Or.inl ⟨((wanted_at rfl rfl rfl rfl).trans rfl), ?hyrB34⟩) (Below.refl _ _) ?restrB34
              case hyrB34 =>
                intro W hW
                have hb0 : Below wr.heap.size wr W := bstep (Below.drew1 _) hW
                obtain ⟨c0, c1, c2⟩ := FL.out.on hb1 hb0
                rw [HUB.out] at c1
                go_simp
                exact rfl
              simp only [List.getElem_toArray, List.getElem_cons_succ, List.getElem_cons_zero, Act.put, List.setIfInBounds_toArray, List.set_cons_zero, List.set_cons_succ]
              refine but_take (f := 37) (i := 35) (v := ?vrB35) rfl (by kernel_rfl) (by kernel_rfl) (by kernel_rfl) (by kernel_rfl) (by kernel_rfl) (fun _ _ _ h => h) (Or.inl ⟨((wanted_at rfl rfl rfl rfl).trans rfl), ?hyrB35⟩) (Below.refl _ _) ?restrB35
              case hyrB35 =>
                intro W hW
                go_simp
                exact rfl
              simp only [List.getElem_toArray, List.getElem_cons_succ, List.getElem_cons_zero, Act.put, List.setIfInBounds_toArray, List.set_cons_zero, List.set_cons_succ]
              refine but_take (f := 37) (i := 36) (v := ?vrB36) rfl (by kernel_rfl) (by kernel_rfl) (by kernel_rfl) (by kernel_rfl) (by kernel_rfl) (fun _ _ _ h => h) (Or.inl ⟨((wanted_at rfl rfl rfl rfl).trans rfl), ?hyrB36⟩) (Below.refl _ _) ?restrB36
              case hyrB36 =>
                intro W hW
                go_simp
                exact rfl
              simp only [List.getElem_toArray, List.getElem_cons_succ, List.getElem_cons_zero, Act.put, List.setIfInBounds_toArray, List.set_cons_zero, List.set_cons_succ]
              refine but_run (i := 37) (by kernel_rfl) rfl (by rfl) ?_
              simp only [List.getElem_toArray, List.getElem_cons_succ, List.getElem_cons_zero]
              intro K HK
              go_wp2_with fail
              refine HK.out _ wr.drew (fun h => absurd rfl h) ?_
              clear HK
              refine but_done (by kernel_rfl) ?_
              go_wp2_with fail
              go_roundw
              case rel => exact ⟨j + 1, by omega, by go_num, Lib.hid (bstep HB.out (bstep (Below.drew1 _) (Below.refl _ _)))⟩
              case measure => simp [intOf]; omega
            · have e2 : decide (j < k) = false := decide_eq_false (by omega)
              clear hjk hjk2
              go_upto_region 15 with (fail)
              refine but_begin (f := 37) (S := fun V => Below wr.drew.heap.size wr.drew V) (by kernel_rfl) ?_
              refine but_take (f := 37) (i := 0) (v := ?vrC0) rfl (by kernel_rfl) (by kernel_rfl) (by kernel_rfl) (by kernel_rfl) (by kernel_rfl) (fun _ _ _ h => h) (Or.inl ⟨(by rfl), ?hyrC0⟩) (Below.refl _ _) ?restrC0
              case hyrC0 =>
                intro W hW
                go_simp
                exact rfl
              simp only [List.getElem_toArray, List.getElem_cons_succ, List.getElem_cons_zero, Act.put, List.setIfInBounds_toArray, List.set_cons_zero, List.set_cons_succ]
              refine but_take (f := 37) (i := 1) (v := ?vrC1) rfl (by kernel_rfl) (by kernel_rfl) (by kernel_rfl) (by kernel_rfl) (by kernel_rfl) (fun _ _ _ h => h) (Or.inl ⟨(by rfl), ?hyrC1⟩) (Below.refl _ _) ?restrC1
              case hyrC1 =>
                intro W hW
                go_simp
                exact rfl
              simp only [List.getElem_toArray, List.getElem_cons_succ, List.getElem_cons_zero, Act.put, List.setIfInBounds_toArray, List.set_cons_zero, List.set_cons_succ]
              refine but_take (f := 37) (i := 2) (v := ?vrC2) rfl (by kernel_rfl) (by kernel_rfl) (by kernel_rfl) (by kernel_rfl) (by kernel_rfl) (fun _ _ _ h => h) (Or.inl ⟨(by rfl), ?hyrC2⟩) (Below.refl _ _) ?restrC2
              case hyrC2 =>
                intro W hW
                go_simp
                exact rfl
              simp only [List.getElem_toArray, List.getElem_cons_succ, List.getElem_cons_zero, Act.put, List.setIfInBounds_toArray, List.set_cons_zero, List.set_cons_succ]
              refine but_take (f := 37) (i := 3) (v := ?vrC3) rfl (by kernel_rfl) (by kernel_rfl) (by kernel_rfl) (by kernel_rfl) (by kernel_rfl) (fun _ _ _ h => h) (Or.inl ⟨(by rfl), ?hyrC3⟩) (Below.refl _ _) ?restrC3
              case hyrC3 =>
                intro W hW
                go_simp
                exact rfl
              simp only [List.getElem_toArray, List.getElem_cons_succ, List.getElem_cons_zero, Act.put, List.setIfInBounds_toArray, List.set_cons_zero, List.set_cons_succ]
              refine but_take (f := 37) (i := 4) (v := ?vrC4) rfl (by kernel_rfl) (by kernel_rfl) (by kernel_rfl) (by kernel_rfl) (by kernel_rfl) (fun _ _ _ h => h) (Or.inl ⟨((wanted_at rfl rfl rfl rfl).trans rfl), ?hyrC4⟩) (Below.refl _ _) ?restrC4
              case hyrC4 =>
                intro W hW
                go_simp
                exact rfl
              simp only [List.getElem_toArray, List.getElem_cons_succ, List.getElem_cons_zero, Act.put, List.setIfInBounds_toArray, List.set_cons_zero, List.set_cons_succ]
              refine but_take (f := 37) (i := 5) (v := ?vrC5) rfl (by kernel_rfl) (by kernel_rfl) (by kernel_rfl) (by kernel_rfl) (by kernel_rfl) (fun _ _ _ h => h) (Or.inl ⟨((wanted_at rfl rfl rfl rfl).trans rfl), ?hyrC5⟩) (Below.refl _ _) ?restrC5
              case hyrC5 =>
                intro W hW
                go_simp
                exact rfl
              simp only [List.getElem_toArray, List.getElem_cons_succ, List.getElem_cons_zero, Act.put, List.setIfInBounds_toArray, List.set_cons_zero, List.set_cons_succ]
              refine but_take (f := 37) (i := 6) (v := ?vrC6) rfl (by kernel_rfl) (by kernel_rfl) (by kernel_rfl) (by kernel_rfl) (by kernel_rfl) (fun _ _ _ h => h) (Or.inl ⟨((wanted_at rfl rfl rfl rfl).trans rfl), ?hyrC6⟩) (Below.refl _ _) ?restrC6
              case hyrC6 =>
                intro W hW
                go_simp
                exact rfl
              simp only [List.getElem_toArray, List.getElem_cons_succ, List.getElem_cons_zero, Act.put, List.setIfInBounds_toArray, List.set_cons_zero, List.set_cons_succ]
              refine but_take (f := 37) (i := 7) (v := ?vrC7) rfl (by kernel_rfl) (by kernel_rfl) (by kernel_rfl) (by kernel_rfl) (by kernel_rfl) (fun _ _ _ h => h) (Or.inl ⟨((wanted_at rfl rfl rfl rfl).trans rfl), ?hyrC7⟩) (Below.refl _ _) ?restrC7
              case hyrC7 =>
                intro W hW
                have hb0 : Below wr.heap.size wr W := bstep (Below.drew1 _) hW
                obtain ⟨c0, c1, c2⟩ := FL.out.on hb1 hb0
                obtain ⟨y0, y1, y2⟩ := FX.out.on hb2 hb0
                obtain ⟨g0, g1, g2⟩ := FF.out.on hb3 hb0
                go_simp
                exact rfl
              simp only [List.getElem_toArray, List.getElem_cons_succ, List.getElem_cons_zero, Act.put, List.setIfInBounds_toArray, List.set_cons_zero, List.set_cons_succ]
              refine but_take (f := 37) (i := 8) (v := ?vrC8) rfl (by kernel_rfl) (by kernel_rfl) (by kernel_rfl) (by kernel_rfl) (by kernel_rfl) (fun _ _ _ h => h) (Or.inl ⟨((wanted_at rfl rfl rfl rfl).trans rfl), ?hyrC8⟩) (Below.refl _ _) ?restrC8
              case hyrC8 =>
                intro W hW
                go_simp
                exact rfl
              simp only [List.getElem_toArray, List.getElem_cons_succ, List.getElem_cons_zero, Act.put, List.setIfInBounds_toArray, List.set_cons_zero, List.set_cons_succ]
              refine but_take (f := 37) (i := 9) (v := ?vrC9) rfl (by kernel_rfl) (by kernel_rfl) (by kernel_rfl) (by kernel_rfl) (by kernel_rfl) (fun _ _ _ h => h) (Or.inl ⟨((wanted_at rfl rfl rfl rfl).trans rfl), ?hyrC9⟩) (Below.refl _ _) ?restrC9
              case hyrC9 =>
                intro W hW
                go_simp
                exact rfl
              simp only [List.getElem_toArray, List.getElem_cons_succ, List.getElem_cons_zero, Act.put, List.setIfInBounds_toArray, List.set_cons_zero, List.set_cons_succ]
              refine but_take (f := 37) (i := 10) (v := ?vrC10) rfl (by kernel_rfl) (by kernel_rfl) (by kernel_rfl) (by kernel_rfl) (by kernel_rfl) (fun _ _ _ h => h) (Or.inl ⟨((wanted_at rfl rfl rfl rfl).trans rfl), ?hyrC10⟩) (Below.refl _ _) ?restrC10
              case hyrC10 =>
                intro W hW
                go_simp
                exact rfl
              simp only [List.getElem_toArray, List.getElem_cons_succ, List.getElem_cons_zero, Act.put, List.setIfInBounds_toArray, List.set_cons_zero, List.set_cons_succ]
              refine but_take (f := 37) (i := 11) (v := ?vrC11) rfl (by kernel_rfl) (by kernel_rfl) (by kernel_rfl) (by kernel_rfl) (by kernel_rfl) (fun _ _ _ h => h) (Or.inl ⟨((wanted_at rfl rfl rfl rfl).trans rfl), ?hyrC11⟩) (Below.refl _ _) ?restrC11
              case hyrC11 =>
                intro W hW
                have hb0 : Below wr.heap.size wr W := bstep (Below.drew1 _) hW
                obtain ⟨c0, c1, c2⟩ := FL.out.on hb1 hb0
                obtain ⟨y0, y1, y2⟩ := FX.out.on hb2 hb0
                obtain ⟨g0, g1, g2⟩ := FF.out.on hb3 hb0
                go_simp
                exact rfl
              simp only [List.getElem_toArray, List.getElem_cons_succ, List.getElem_cons_zero, Act.put, List.setIfInBounds_toArray, List.set_cons_zero, List.set_cons_succ]
              refine but_take (f := 37) (i := 12) (v := ?vrC12) rfl (by kernel_rfl) (by kernel_rfl) (by kernel_rfl) (by kernel_rfl) (by kernel_rfl) (fun _ _ _ h => h) (Or.inl ⟨((wanted_at rfl rfl rfl rfl).trans rfl), ?hyrC12⟩) (Below.refl _ _) ?restrC12
              case hyrC12 =>
                intro W hW
                go_simp
                exact rfl
              simp only [List.getElem_toArray, List.getElem_cons_succ, List.getElem_cons_zero, Act.put, List.setIfInBounds_toArray, List.set_cons_zero, List.set_cons_succ]
              refine but_take (f := 37) (i := 13) (v := ?vrC13) rfl (by kernel_rfl) (by kernel_rfl) (by kernel_rfl) (by kernel_rfl) (by kernel_rfl) (fun _ _ _ h => h) (Or.inl ⟨((wanted_at rfl rfl rfl rfl).trans rfl), ?hyrC13⟩) (Below.refl _ _) ?restrC13
              case hyrC13 =>
                intro W hW
                go_simp
                exact rfl
              simp only [List.getElem_toArray, List.getElem_cons_succ, List.getElem_cons_zero, Act.put, List.setIfInBounds_toArray, List.set_cons_zero, List.set_cons_succ]
              refine but_take (f := 37) (i := 14) (v := ?vrC14) rfl (by kernel_rfl) (by kernel_rfl) (by kernel_rfl) (by kernel_rfl) (by kernel_rfl) (fun _ _ _ h => h) (Or.inl ⟨((wanted_at rfl rfl rfl rfl).trans rfl), ?hyrC14⟩) (Below.refl _ _) ?restrC14
              case hyrC14 =>
                intro W hW
                go_simp
                exact rfl
              simp only [List.getElem_toArray, List.getElem_cons_succ, List.getElem_cons_zero, Act.put, List.setIfInBounds_toArray, List.set_cons_zero, List.set_cons_succ]
              refine but_take (f := 37) (i := 15) (v := ?vrC15) rfl (by kernel_rfl) (by kernel_rfl) (by kernel_rfl) (by kernel_rfl) (by kernel_rfl) (fun _ _ _ h => h) (Or.inl ⟨((wanted_at rfl rfl rfl rfl).trans rfl), ?hyrC15⟩) (Below.refl _ _) ?restrC15
              case hyrC15 =>
                intro W hW
                go_simp
                exact rfl
              simp only [List.getElem_toArray, List.getElem_cons_succ, List.getElem_cons_zero, Act.put, List.setIfInBounds_toArray, List.set_cons_zero, List.set_cons_succ]
              refine but_take (f := 37) (i := 16) (v := ?vrC16) rfl (by kernel_rfl) (by kernel_rfl) (by kernel_rfl) (by kernel_rfl) (by kernel_rfl) (fun _ _ _ h => h) (Or.inl ⟨((wanted_at rfl rfl rfl rfl).trans rfl), ?hyrC16⟩) (Below.refl _ _) ?restrC16
              case hyrC16 =>
                intro W hW
                go_simp
                exact rfl
              simp only [List.getElem_toArray, List.getElem_cons_succ, List.getElem_cons_zero, Act.put, List.setIfInBounds_toArray, List.set_cons_zero, List.set_cons_succ]
              refine but_take (f := 37) (i := 17) (v := ?vrC17) rfl (by kernel_rfl) (by kernel_rfl) (by kernel_rfl) (by kernel_rfl) (by kernel_rfl) (fun _ _ _ h => h) (Or.inl ⟨((wanted_at rfl rfl rfl rfl).trans rfl), ?hyrC17⟩) (Below.refl _ _) ?restrC17
              case hyrC17 =>
                intro W hW
                have hb0 : Below wr.heap.size wr W := bstep (Below.drew1 _) hW
                obtain ⟨c0, c1, c2⟩ := FL.out.on hb1 hb0
                obtain ⟨y0, y1, y2⟩ := FX.out.on hb2 hb0
                obtain ⟨g0, g1, g2⟩ := FF.out.on hb3 hb0
                go_simp
                exact rfl
              simp only [List.getElem_toArray, List.getElem_cons_succ, List.getElem_cons_zero, Act.put, List.setIfInBounds_toArray, List.set_cons_zero, List.set_cons_succ]
              refine but_take (f := 37) (i := 18) (v := ?vrC18) rfl (by kernel_rfl) (by kernel_rfl) (by kernel_rfl) (by kernel_rfl) (by kernel_rfl) (fun _ _ _ h => h) (Or.inl ⟨((wanted_at rfl rfl rfl rfl).trans rfl), ?hyrC18⟩) (Below.refl _ _) ?restrC18
              case hyrC18 =>
                intro W hW
                go_simp
                exact rfl
              simp only [List.getElem_toArray, List.getElem_cons_succ, List.getElem_cons_zero, Act.put, List.setIfInBounds_toArray, List.set_cons_zero, List.set_cons_succ]
              refine but_take (f := 37) (i := 19) (v := ?vrC19) rfl (by kernel_rfl) (by kernel_rfl) (by kernel_rfl) (by kernel_rfl) (by kernel_rfl) (fun _ _ _ h => h) (Or.inl ⟨((wanted_at rfl rfl rfl rfl).trans rfl), ?hyrC19⟩) (Below.refl _ _) ?restrC19
              case hyrC19 =>
                intro W hW
                go_simp
                exact rfl
              simp only [List.getElem_toArray, List.getElem_cons_succ, List.getElem_cons_zero, Act.put, List.setIfInBounds_toArray, List.set_cons_zero, List.set_cons_succ]
              refine but_take (f := 37) (i := 20) (v := ?vrC20) rfl (by kernel_rfl) (by kernel_rfl) (by kernel_rfl) (by kernel_rfl) (by kernel_rfl) (fun _ _ _ h => h) (Or.inl ⟨((wanted_at rfl rfl rfl rfl).trans rfl), ?hyrC20⟩) (Below.refl _ _) ?restrC20
              case hyrC20 =>
                intro W hW
                go_simp
                exact rfl
              simp only [List.getElem_toArray, List.getElem_cons_succ, List.getElem_cons_zero, Act.put, List.setIfInBounds_toArray, List.set_cons_zero, List.set_cons_succ]
              refine but_take (f := 37) (i := 21) (v := ?vrC21) rfl (by kernel_rfl) (by kernel_rfl) (by kernel_rfl) (by kernel_rfl) (by kernel_rfl) (fun _ _ _ h => h) (Or.inl ⟨((wanted_at rfl rfl rfl rfl).trans rfl), ?hyrC21⟩) (Below.refl _ _) ?restrC21
              case hyrC21 =>
                intro W hW
                have hb0 : Below wr.heap.size wr W := bstep (Below.drew1 _) hW
                obtain ⟨c0, c1, c2⟩ := FL.out.on hb1 hb0
                obtain ⟨y0, y1, y2⟩ := FX.out.on hb2 hb0
                obtain ⟨g0, g1, g2⟩ := FF.out.on hb3 hb0
                go_simp
                exact rfl
              simp only [List.getElem_toArray, List.getElem_cons_succ, List.getElem_cons_zero, Act.put, List.setIfInBounds_toArray, List.set_cons_zero, List.set_cons_succ]
              refine but_take (f := 37) (i := 22) (v := ?vrC22) rfl (by kernel_rfl) (by kernel_rfl) (by kernel_rfl) (by kernel_rfl) (by kernel_rfl) (fun _ _ _ h => h) (Or.inl ⟨((wanted_at rfl rfl rfl rfl).trans rfl), ?hyrC22⟩) (Below.refl _ _) ?restrC22
              case hyrC22 =>
                intro W hW
                go_simp
                exact rfl
              simp only [List.getElem_toArray, List.getElem_cons_succ, List.getElem_cons_zero, Act.put, List.setIfInBounds_toArray, List.set_cons_zero, List.set_cons_succ]
              refine but_take (f := 37) (i := 23) (v := ?vrC23) rfl (by kernel_rfl) (by kernel_rfl) (by kernel_rfl) (by kernel_rfl) (by kernel_rfl) (fun _ _ _ h => h) (Or.inl ⟨((wanted_at rfl rfl rfl rfl).trans rfl), ?hyrC23⟩) (Below.refl _ _) ?restrC23
              case hyrC23 =>
                intro W hW
                go_simp
                exact rfl
              simp only [List.getElem_toArray, List.getElem_cons_succ, List.getElem_cons_zero, Act.put, List.setIfInBounds_toArray, List.set_cons_zero, List.set_cons_succ]
              refine but_take (f := 37) (i := 24) (v := ?vrC24) rfl (by kernel_rfl) (by kernel_rfl) (by kernel_rfl) (by kernel_rfl) (by kernel_rfl) (fun _ _ _ h => h) (Or.inl ⟨(by rfl), ?hyrC24⟩) (Below.refl _ _) ?restrC24
              case hyrC24 =>
                intro W hW
                go_simp
                exact rfl
              simp only [List.getElem_toArray, List.getElem_cons_succ, List.getElem_cons_zero, Act.put, List.setIfInBounds_toArray, List.set_cons_zero, List.set_cons_succ]
              refine but_take (f := 37) (i := 25) (v := ?vrC25) rfl (by kernel_rfl) (by kernel_rfl) (by kernel_rfl) (by kernel_rfl) (by kernel_rfl) (fun _ _ _ h => h) (Or.inl ⟨(by rfl), ?hyrC25⟩) (Below.refl _ _) ?restrC25
              case hyrC25 =>
                intro W hW
                go_simp
                exact rfl
              simp only [List.getElem_toArray, List.getElem_cons_succ, List.getElem_cons_zero, Act.put, List.setIfInBounds_toArray, List.set_cons_zero, List.set_cons_succ]
              refine but_take (f := 37) (i := 26) (v := ?vrC26) rfl (by kernel_rfl) (by kernel_rfl) (by kernel_rfl) (by kernel_rfl) (by kernel_rfl) (fun _ _ _ h => h) (Or.inl ⟨((wanted_at rfl rfl rfl rfl).trans rfl), ?hyrC26⟩) (Below.refl _ _) ?restrC26
              case hyrC26 =>
                intro W hW
                go_simp
                exact rfl
              simp only [List.getElem_toArray, List.getElem_cons_succ, List.getElem_cons_zero, Act.put, List.setIfInBounds_toArray, List.set_cons_zero, List.set_cons_succ]
              refine but_take (f := 37) (i := 27) (v := ?vrC27) rfl (by kernel_rfl) (by kernel_rfl) (by kernel_rfl) (by kernel_rfl) (by kernel_rfl) (fun _ _ _ h => h) (Or.inl ⟨((wanted_at rfl rfl rfl rfl).trans rfl), ?hyrC27⟩) (Below.refl _ _) ?restrC27
              case hyrC27 =>
                intro W hW
                go_simp
                exact rfl
              simp only [List.getElem_toArray, List.getElem_cons_succ, List.getElem_cons_zero, Act.put, List.setIfInBounds_toArray, List.set_cons_zero, List.set_cons_succ]
              refine but_take (f := 37) (i := 28) (v := ?vrC28) rfl (by kernel_rfl) (by kernel_rfl) (by kernel_rfl) (by kernel_rfl) (by kernel_rfl) (fun _ _ _ h => h) (Or.inl ⟨((wanted_at rfl rfl rfl rfl).trans rfl), ?hyrC28⟩) (Below.refl _ _) ?restrC28
              case hyrC28 =>
                intro W hW
                go_simp
                exact rfl
              simp only [List.getElem_toArray, List.getElem_cons_succ, List.getElem_cons_zero, Act.put, List.setIfInBounds_toArray, List.set_cons_zero, List.set_cons_succ]
              refine but_take (f := 37) (i := 29) (v := ?vrC29) rfl (by kernel_rfl) (by kernel_rfl) (by kernel_rfl) (by kernel_rfl) (by kernel_rfl) (fun _ _ _ h => h) (Or.inl ⟨((wanted_at rfl rfl rfl rfl).trans rfl), ?hyrC29⟩) (Below.refl _ _) ?restrC29
              case hyrC29 =>
                intro W hW
                go_simp
                exact rfl
              simp only [List.getElem_toArray, List.getElem_cons_succ, List.getElem_cons_zero, Act.put, List.setIfInBounds_toArray, List.set_cons_zero, List.set_cons_succ]
              refine but_take (f := 37) (i := 30) (v := undef) rfl (by kernel_rfl) (by kernel_rfl) (by kernel_rfl) (by kernel_rfl) (by kernel_rfl) (fun _ _ _ h => h) (Or.inr ⟨((wanted_at rfl rfl rfl rfl).trans rfl), rfl⟩) (Below.refl _ _) ?_
              simp only [List.getElem_toArray, List.getElem_cons_succ, List.getElem_cons_zero, Act.put, List.setIfInBounds_toArray, List.set_cons_zero, List.set_cons_succ]
              refine but_take (f := 37) (i := 31) (v := undef) rfl (by kernel_rfl) (by kernel_rfl) (by kernel_rfl) (by kernel_rfl) (by kernel_rfl) (fun _ _ _ h => h) (Or.inr ⟨((wanted_at rfl rfl rfl rfl).trans rfl), rfl⟩) (Below.refl _ _) ?_
              simp only [List.getElem_toArray, List.getElem_cons_succ, List.getElem_cons_zero, Act.put, List.setIfInBounds_toArray, List.set_cons_zero, List.set_cons_succ]
              refine but_take (f := 37) (i := 32) (v := undef) rfl (by kernel_rfl) (by kernel_rfl) (by kernel_rfl) (by kernel_rfl) (by kernel_rfl) (fun _ _ _ h => h) (Or.inr ⟨((wanted_at rfl rfl rfl rfl).trans rfl), rfl⟩) (Below.refl _ _) ?_
              simp only [List.getElem_toArray, List.getElem_cons_succ, List.getElem_cons_zero, Act.put, List.setIfInBounds_toArray, List.set_cons_zero, List.set_cons_succ]
              refine but_take (f := 37) (i := 33) (v := undef) rfl (by kernel_rfl) (by kernel_rfl) (by kernel_rfl) (by kernel_rfl) (by kernel_rfl) (fun _ _ _ h => h) (Or.inr ⟨((wanted_at rfl rfl rfl rfl).trans rfl), rfl⟩) (Below.refl _ _) ?_
              simp only [List.getElem_toArray, List.getElem_cons_succ, List.getElem_cons_zero, Act.put, List.setIfInBounds_toArray, List.set_cons_zero, List.set_cons_succ]
              refine but_take (f := 37) (i := 34) (v := undef) rfl (by kernel_rfl) (by kernel_rfl) (by kernel_rfl) (by kernel_rfl) (by kernel_rfl) (fun _ _ _ h => h) (Or.inr ⟨((wanted_at rfl rfl rfl rfl).trans rfl), rfl⟩) (Below.refl _ _) ?_
              simp only [List.getElem_toArray, List.getElem_cons_succ, List.getElem_cons_zero, Act.put, List.setIfInBounds_toArray, List.set_cons_zero, List.set_cons_succ]
              refine but_take (f := 37) (i := 35) (v := undef) rfl (by kernel_rfl) (by kernel_rfl) (by kernel_rfl) (by kernel_rfl) (by kernel_rfl) (fun _ _ _ h => h) (Or.inr ⟨((wanted_at rfl rfl rfl rfl).trans rfl), rfl⟩) (Below.refl _ _) ?_
              simp only [List.getElem_toArray, List.getElem_cons_succ, List.getElem_cons_zero, Act.put, List.setIfInBounds_toArray, List.set_cons_zero, List.set_cons_succ]
              refine but_take (f := 37) (i := 36) (v := ?vrC36) rfl (by kernel_rfl) (by kernel_rfl) (by kernel_rfl) (by kernel_rfl) (by kernel_rfl) (fun _ _ _ h => h) (Or.inl ⟨((wanted_at rfl rfl rfl rfl).trans rfl), ?hyrC36⟩) (Below.refl _ _) ?restrC36
              case hyrC36 =>
                intro W hW
                go_simp
                exact rfl
              simp only [List.getElem_toArray, List.getElem_cons_succ, List.getElem_cons_zero, Act.put, List.setIfInBounds_toArray, List.set_cons_zero, List.set_cons_succ]
              refine but_run (i := 37) (by kernel_rfl) rfl (by rfl) ?_
              simp only [List.getElem_toArray, List.getElem_cons_succ, List.getElem_cons_zero]
              intro K HK
              go_wp2_with fail
              refine HK.out _ wr.drew (fun h => absurd rfl h) ?_
              clear HK
              refine but_done (by kernel_rfl) ?_
              go_wp2_with fail
              go_roundw
              case rel => exact ⟨j + 1, by omega, by go_num, Lib.hid (bstep HB.out (bstep (Below.drew1 _) (Below.refl _ _)))⟩
              case measure => simp [intOf]; omega
        · have n4 : (n == n) = true := by simp
          have n5 : ((u : Int) + 1 == (u : Int) + 1) = true := by simp
          have n6 : ((u : Int) == (u : Int)) = true := by simp
          replace OL := Lib.hid (OL.out.on HB.out)
          replace OX := Lib.hid (OX.out.on HB.out)
          replace OF := Lib.hid (OF.out.on HB.out)
          replace BB := Lib.hid (bstep BB.out HB.out)
          clear HB
          go_wp2_with fail
          refine (implCellsOk_any _ F _ OF.out.cd (by omega)).mono ?_
          rintro r w6 ⟨rfl, b⟩
          have z6 := b.size
          replace OL := Lib.hid (OL.out.on b)
          replace OX := Lib.hid (OX.out.on b)
          replace OF := Lib.hid (OF.out.on b)
          replace BB := Lib.hid (bstep BB.out b)
          clear b
          rw [HF.out]
          go_wp2_with fail
          refine (implUsedCells_any _ X _ OX.out.cd (by omega)).mono ?_
          rintro r w7 ⟨rfl, b⟩
          have z7 := b.size
          replace OL := Lib.hid (OL.out.on b)
          replace OX := Lib.hid (OX.out.on b)
          replace OF := Lib.hid (OF.out.on b)
          replace BB := Lib.hid (bstep BB.out b)
          clear b
          rw [HUX.out]
          go_wp2_with fail
          refine (implUsedCells_any _ l _ OL.out.rd (by omega)).mono ?_
          rintro r w8 ⟨rfl, b⟩
          have z8 := b.size
          replace OL := Lib.hid (OL.out.on b)
          replace OX := Lib.hid (OX.out.on b)
          replace OF := Lib.hid (OF.out.on b)
          replace BB := Lib.hid (bstep BB.out b)
          clear b
          rw [HU.out]
          go_wp2_with fail
          refine (implUsedCells_any _ F _ OF.out.cd (by omega)).mono ?_
          rintro r w9 ⟨rfl, b⟩
          have z9 := b.size
          replace OL := Lib.hid (OL.out.on b)
          replace OX := Lib.hid (OX.out.on b)
          replace OF := Lib.hid (OF.out.on b)
          replace BB := Lib.hid (bstep BB.out b)
          clear b
          rw [HUF.out]
          go_wp2_with fail
          refine (implUsedCells_any _ l _ OL.out.rd (by omega)).mono ?_
          rintro r w10 ⟨rfl, b⟩
          have z10 := b.size
          replace OL := Lib.hid (OL.out.on b)
          replace OX := Lib.hid (OX.out.on b)
          replace OF := Lib.hid (OF.out.on b)
          replace BB := Lib.hid (bstep BB.out b)
          clear b
          rw [HU.out]
          go_wp2
          go_ret
          exact ⟨rfl, BB.out⟩
  · have d0 : decide ((1048576 : Int) < (cd.length : Int)) = true := decide_eq_true (by omega)
    go_enter Try.func3, Try.ntmps3
    go_wp2_with fail
    refine (big_any _ _ _ _).mono ?_
    rintro r w1 ⟨rfl, rfl⟩
    rw [d0]
    go_wp2
    go_ret
    exact ⟨rfl, Below.refl _ _⟩
end Go.Proofs.Ytikopfekpnfkbaa
