/- Several texts in one: PoolOkS, Last5, DoSCopy, DoSForm, DoSKill, PoolMark, ExDoKill. -/
import Derived.Deep.RegionHeld3
import Derived.Test.YtlhemcjahcmdeaaGreatDoorPkKH
namespace Go.Proofs.YtlhemcjahcmdeaaGreatDoor
open Go.RowKit
set_option maxRecDepth 100000
set_option linter.unusedSimpArgs false
set_option linter.unusedVariables false

set_option maxHeartbeats 4000000 in
theorem specPoolOk_any {t : TypeId} (vl vn va vc vv : Value) (d : PoolD) (w : World) (h : RdP t w w.heap.size vl vn va vc vv d) (hs : SmallP d) (hnm : ∀ k ∈ d.vo, k.a.size ≤ maxLen) : Calls Tryz.prog 130 #[.agg #[vl, vn, va, vc, vv, .int .i64 d.nx]] w (SaysBool w (poolOkB d)) := by
  have h1 := hs.1
  have h2 := hs.2.1
  have h3 := hs.2.2.1
  have HT := Lib.hid (fun W b => specTreeOk_any vl vn d.lo d.ts W (h.1.on b) (by omega) (by omega) (by omega))
  have HA := Lib.hid (fun W b => specAgesOk_any va d.ag W (h.2.1.on b) (by omega))
  have HC := Lib.hid (fun W b => specCellsOk_any vc d.ce W ((h.2.2.1.on b).retype _) (by omega))
  have HV := Lib.hid (fun W b => specL10Vols_any vl vn va vc vv d W (h.on b) hs hnm)
  have HE := Lib.hid (fun W b => specL10Keys_any vl vn va vc vv d W (h.on b) hs)
  have HG := Lib.hid h.2.1
  have hag : d.ag.length ≤ 2097152 := by omega
  obtain ⟨A0, c0, A1, c1, A2, c2, A3, c3, A4, c4, rfl, rfl, rfl, rfl, rfl⟩ := h.shape
  have HB := Lib.hid (bal1 w (.cells #[.slice A0 d.lo.length c0, .slice A1 d.ts.length c1, .slice A2 d.ag.length c2, .slice A3 d.ce.length c3, .slice A4 d.vo.length c4, .int .i64 d.nx] 32))
  have Q0 := Lib.hid (al1 w (.cells #[.slice A0 d.lo.length c0, .slice A1 d.ts.length c1, .slice A2 d.ag.length c2, .slice A3 d.ce.length c3, .slice A4 d.vo.length c4, .int .i64 d.nx] 32))
  obtain ⟨R, hR⟩ : ∃ R, poolOkB d = R := ⟨_, rfl⟩
  rw [hR]
  obtain ⟨tb, htb⟩ : ∃ b, treeOkB d.lo d.ts = b := ⟨_, rfl⟩
  obtain ⟨ab, hab⟩ : ∃ b, agesOkB d.ag = b := ⟨_, rfl⟩
  obtain ⟨cb, hcb⟩ : ∃ b, celsOkB d.ce = b := ⟨_, rfl⟩
  obtain ⟨nb, hnb⟩ : ∃ b, (decide (1 ≤ d.nx) && decide (d.nx ≤ 61)) = b := ⟨_, rfl⟩
  obtain ⟨gb, hgb⟩ : ∃ b, d.ag.all (fun a => decide (a.a < d.nx)) = b := ⟨_, rfl⟩
  obtain ⟨vb, hvb⟩ : ∃ b, volsB d = b := ⟨_, rfl⟩
  obtain ⟨kb, hkb⟩ : ∃ b, (agesB d && cellsB d) = b := ⟨_, rfl⟩
  have HI1 : Hid (∀ W, Calls Tryz.prog 63 #[.int .i64 d.nx, .int .i64 1, .int .i64 61] W (SaysB W nb)) := Lib.hid (fun W => by have h := l1InC_any d.nx 1 61 W; rw [hnb] at h; exact h)
  unfold poolOkB nextB at hR
  rw [Bool.and_assoc (treeOkB d.lo d.ts && agesOkB d.ag && celsOkB d.ce && (decide (1 ≤ d.nx) && decide (d.nx ≤ 61) && d.ag.all (fun a => decide (a.a < d.nx))) && volsB d), htb, hab, hcb, hnb, hgb, hvb, hkb] at hR
  rw [htb] at HT
  rw [hab] at HA
  rw [hcb] at HC
  rw [hvb] at HV
  rw [hkb] at HE
  have HX := Lib.hid hR.symm
  have HGB := Lib.hid hgb
  clear h hs hR hnm h1 h2 h3 htb hab hcb hnb hvb hkb hgb
  go_enter Tryz.func130, Tryz.ntmps130
  go_upto_region 1 with (fail)
  generalize w.alloc (.cells #[.slice A0 d.lo.length c0, .slice A1 d.ts.length c1, .slice A2 d.ag.length c2, .slice A3 d.ce.length c3, .slice A4 d.vo.length c4, .int .i64 d.nx] 32) = W at *
  go_wp2
  go_loopw [3] (fun i wr => ∃ k : Nat, k ≤ d.ag.length ∧ i = .int .i64 k ∧ Hid (∀ j (hj : j < k) (hl : j < d.ag.length), (fun k : AgeD => decide (k.a < d.nx)) d.ag[j] = true) ∧ Hid (Below w.heap.size w wr) ∧ Hid (wr.heap[w.heap.size]? = some (.cells #[.slice A0 d.lo.length c0, .slice A1 d.ts.length c1, .slice A2 d.ag.length c2, .slice A3 d.ce.length c3, .slice A4 d.vo.length c4, .int .i64 d.nx] 32))) (fun i _ => d.ag.length - (intOf i).toNat)
  case atStart => exact ⟨0, Nat.zero_le _, rfl, Lib.hid (fun j hj => by omega), HB, Q0⟩
  case round =>
    clear HB Q0
    obtain ⟨k, hk, rfl, HI, HB, Q0⟩ := hrel
    by_cases hlt : k < d.ag.length
    · obtain ⟨b, off, rfl, hbb, hc⟩ := (HG.out.on HB.out).ages hlt
      have i1 : (k : Int) < (d.ag.length : Int) := by omega
      have i2 : (0 : Int) ≤ (k : Int) := by omega
      obtain ⟨y0, y1⟩ := hc k hlt
      clear hc
      obtain ⟨x0, x1, x2, x3, x4, x5, x6⟩ := boxP Q0.out
      by_cases hv : (d.ag[k]).a < d.nx
      · have e1 : decide ((d.ag[k]).a ≥ d.nx) = false := decide_eq_false (by omega)
        have HS := Lib.hid (allP_snoc (p := fun k : AgeD => decide (k.a < d.nx)) hlt HI.out (decide_eq_true hv))
        clear hv
        go_wp2
        go_quiet (fail)
        go_wp2
        go_roundw
        case rel => exact ⟨k + 1, by omega, by go_num, HS, Lib.hid (bdrew HB.out _), Lib.hid (box_on Q0.out (drewB _ _))⟩
        case measure => simp [intOf]; omega
      · have e1 : decide ((d.ag[k]).a ≥ d.nx) = true := decide_eq_true (by omega)
        have HF : Hid (R = false) := Lib.hid (by rw [HX.out, ← HGB.out, allP_miss (p := fun k : AgeD => decide (k.a < d.nx)) hlt (decide_eq_false hv)]; simp only [Bool.false_and, Bool.and_false, Bool.true_and, Bool.and_true])
        clear hv
        go_wp2
        go_quiet (fail)
        go_wp2
        go_ret
        exact ⟨by rw [HF.out]; rfl, bdrew HB.out _⟩
    · have hall : gb = true := by rw [← HGB.out]; exact allP_done (p := fun k : AgeD => decide (k.a < d.nx)) (fun j hl => HI.out j (by omega) hl)
      subst hall
      obtain ⟨x0, x1, x2, x3, x4, x5, x6⟩ := boxP Q0.out
      go_wp2_with fail
      refine (HT.out _ HB.out).mono ?_
      rintro e w5 ⟨rfl, b1⟩
      clear x0 x1 x2 x3 x4 x5 x6
      replace Q0 := Lib.hid (box_on Q0.out b1)
      replace HB := Lib.hid (bstep HB.out b1)
      clear b1
      cases tb
      · have HF : Hid (R = false) := Lib.hid (by rw [HX.out]; simp only [Bool.false_and, Bool.and_false, Bool.true_and, Bool.and_true])
        go_wp2
        go_ret
        exact ⟨by rw [HF.out]; rfl, HB.out⟩
      · skip
        obtain ⟨x0, x1, x2, x3, x4, x5, x6⟩ := boxP Q0.out
        go_wp2_with fail
        refine (HA.out _ HB.out).mono ?_
        rintro e w6 ⟨rfl, b1⟩
        clear x0 x1 x2 x3 x4 x5 x6
        replace Q0 := Lib.hid (box_on Q0.out b1)
        replace HB := Lib.hid (bstep HB.out b1)
        clear b1
        cases ab
        · have HF : Hid (R = false) := Lib.hid (by rw [HX.out]; simp only [Bool.false_and, Bool.and_false, Bool.true_and, Bool.and_true])
          go_wp2
          go_ret
          exact ⟨by rw [HF.out]; rfl, HB.out⟩
        · skip
          obtain ⟨x0, x1, x2, x3, x4, x5, x6⟩ := boxP Q0.out
          go_wp2_with fail
          refine (HC.out _ HB.out).mono ?_
          rintro e _ ⟨rfl, rfl⟩
          clear x0 x1 x2 x3 x4 x5 x6
          cases cb
          · have HF : Hid (R = false) := Lib.hid (by rw [HX.out]; simp only [Bool.false_and, Bool.and_false, Bool.true_and, Bool.and_true])
            go_wp2
            go_ret
            exact ⟨by rw [HF.out]; rfl, HB.out⟩
          · skip
            obtain ⟨x0, x1, x2, x3, x4, x5, x6⟩ := boxP Q0.out
            go_wp2_with fail
            refine (HI1.out _).mono ?_
            rintro e _ ⟨rfl, rfl⟩
            clear x0 x1 x2 x3 x4 x5 x6
            cases nb
            · have HF : Hid (R = false) := Lib.hid (by rw [HX.out]; simp only [Bool.false_and, Bool.and_false, Bool.true_and, Bool.and_true])
              go_wp2
              go_ret
              exact ⟨by rw [HF.out]; rfl, HB.out⟩
            · skip
              obtain ⟨x0, x1, x2, x3, x4, x5, x6⟩ := boxP Q0.out
              go_wp2_with fail
              refine (HV.out _ HB.out).mono ?_
              rintro e w9 ⟨rfl, b1⟩
              clear x0 x1 x2 x3 x4 x5 x6
              replace Q0 := Lib.hid (box_on Q0.out b1)
              replace HB := Lib.hid (bstep HB.out b1)
              clear b1
              cases vb
              · have HF : Hid (R = false) := Lib.hid (by rw [HX.out]; simp only [Bool.false_and, Bool.and_false, Bool.true_and, Bool.and_true])
                go_wp2
                go_ret
                exact ⟨by rw [HF.out]; rfl, HB.out⟩
              · skip
                obtain ⟨x0, x1, x2, x3, x4, x5, x6⟩ := boxP Q0.out
                go_wp2_with fail
                refine (HE.out _ HB.out).mono ?_
                rintro e w10 ⟨rfl, b1⟩
                clear x0 x1 x2 x3 x4 x5 x6
                replace Q0 := Lib.hid (box_on Q0.out b1)
                replace HB := Lib.hid (bstep HB.out b1)
                clear b1
                cases kb
                · have HF : Hid (R = false) := Lib.hid (by rw [HX.out]; simp only [Bool.false_and, Bool.and_false, Bool.true_and, Bool.and_true])
                  go_wp2
                  go_ret
                  exact ⟨by rw [HF.out]; rfl, HB.out⟩
                · have HF : Hid (R = true) := Lib.hid (by rw [HX.out]; simp only [Bool.false_and, Bool.and_false, Bool.true_and, Bool.and_true])
                  go_wp2
                  go_ret
                  exact ⟨by rw [HF.out]; rfl, HB.out⟩
end Go.Proofs.YtlhemcjahcmdeaaGreatDoor
namespace Go.Proofs.YtlhemcjahcmdeaaGreatDoor
open Go.RowKit
set_option maxRecDepth 100000
set_option linter.unusedSimpArgs false
set_option linter.unusedVariables false

section
variable {P : Program} {md : Region.Mode} {ops : Array Oper} {Q : Exit → Act → World → Prop} {S : World → Prop} {f : Nat}
/-- Three may come up: each is carried out. -/
theorem but_three {i j k : Nat} {oi oj ok : Oper} {n : Nat} {listed : Array Bool} {a : Act} {w : World} (hr : Region.ready md ops listed = [i, j, k]) (hoi : ops[i]? = some oi) (hoj : ops[j]? = some oj) (hok : ops[k]? = some ok) (hwi : Region.wanted oi (yielded ops a.tmps) = true) (hwj : Region.wanted oj (yielded ops a.tmps) = true) (hwk : Region.wanted ok (yielded ops a.tmps) = true)
    (h : ∀ K : Act → World → Prop, Hid (∀ a' w', (i ≠ f → S w') → anyBut P md ops Q S f n (listed.setIfInBounds i true) a' w' → K a' w') → Oper.wp P oi a w K Q)
    (h' : ∀ K : Act → World → Prop, Hid (∀ a' w', (j ≠ f → S w') → anyBut P md ops Q S f n (listed.setIfInBounds j true) a' w' → K a' w') → Oper.wp P oj a w K Q)
    (h'' : ∀ K : Act → World → Prop, Hid (∀ a' w', (k ≠ f → S w') → anyBut P md ops Q S f n (listed.setIfInBounds k true) a' w' → K a' w') → Oper.wp P ok a w K Q) : anyBut P md ops Q S f (n + 1) listed a w := by
  refine ⟨fun h0 => (by rw [h0] at hr; cases hr), fun m hm => ?_⟩
  rw [hr] at hm
  simp only [List.mem_cons, List.not_mem_nil, or_false] at hm
  rcases hm with rfl | rfl | rfl
  · have h1 := h (fun a' w' => (m ≠ f → S w') ∧ anyBut P md ops Q S f n (listed.setIfInBounds m true) a' w') (Lib.hid (fun a' w' h2 h3 => ⟨h2, h3⟩))
    unfold wpOp
    simp only [hoi, hwi, if_true]
    exact .inl h1
  · have h1 := h' (fun a' w' => (m ≠ f → S w') ∧ anyBut P md ops Q S f n (listed.setIfInBounds m true) a' w') (Lib.hid (fun a' w' h2 h3 => ⟨h2, h3⟩))
    unfold wpOp
    simp only [hoj, hwj, if_true]
    exact .inl h1
  · have h1 := h'' (fun a' w' => (m ≠ f → S w') ∧ anyBut P md ops Q S f n (listed.setIfInBounds m true) a' w') (Lib.hid (fun a' w' h2 h3 => ⟨h2, h3⟩))
    unfold wpOp
    simp only [hok, hwk, if_true]
    exact .inl h1
end
end Go.Proofs.YtlhemcjahcmdeaaGreatDoor
namespace Go.Proofs.YtlhemcjahcmdeaaGreatDoor
open Go.RowKit
set_option maxRecDepth 100000
set_option linter.unusedSimpArgs false
set_option linter.unusedVariables false

theorem own_at {v : Value} {g n : Nat} (h : v.ownBlock = (Value.slice (some ⟨g, 0, none⟩) 0 0).ownBlock ∨ v.ownBlock = some n) : ∀ b, v.ownBlock = some b → b = g ∨ b = n := by
  intro b hb
  rcases h with h | h
  · rw [h] at hb
    simp [Value.ownBlock] at hb
    exact .inl hb.symm
  · rw [h] at hb
    injection hb with hb
    exact .inr hb.symm
set_option maxHeartbeats 8000000 in
theorem l10Copy_any {t : TypeId} (vl vn va vc vv : Value) (d : PoolD) (w : World) (h : RdP t w w.heap.size vl vn va vc vv d) (hs : SmallP d) : Calls Tryz.prog 61 #[.agg #[vl, vn, va, vc, vv, .int .i64 d.nx]] w (NewP 110 w d) := by
  have s2 := hs.2.1
  have s3 := hs.2.2.1
  have s4 := hs.2.2.2
  have HT := Lib.hid (fun W b => l6Copy_any vl vn d.lo d.ts W (h.1.on b) hs.t)
  have HC := Lib.hid (fun W b => l9Copy_any vc d.ce W ((h.2.2.1.on b).retype _) (by omega))
  have hA2 := h.2.1
  have hA4 := h.2.2.2
  obtain ⟨A0, c0, A1, c1, A2, c2, A3, c3, A4, c4, rfl, rfl, rfl, rfl, rfl⟩ := h.shape
  have HG := Lib.hid hA2.atG
  have HV := Lib.hid hA4.atVol
  obtain ⟨q0, q1⟩ := al2 w (.cells #[.slice A0 d.lo.length c0, .slice A1 d.ts.length c1, .slice A2 d.ag.length c2, .slice A3 d.ce.length c3, .slice A4 d.vo.length c4, .int .i64 d.nx] 32) (.cells #[.slice none 0 0, .slice none 0 0, .slice none 0 0, .slice none 0 0, .slice none 0 0, .int .i64 0] 32)
  have Q0 := Lib.hid q0
  have Q1 := Lib.hid q1
  have HB := Lib.hid (bal2 w (.cells #[.slice A0 d.lo.length c0, .slice A1 d.ts.length c1, .slice A2 d.ag.length c2, .slice A3 d.ce.length c3, .slice A4 d.vo.length c4, .int .i64 d.nx] 32) (.cells #[.slice none 0 0, .slice none 0 0, .slice none 0 0, .slice none 0 0, .slice none 0 0, .int .i64 0] 32))
  have hZ : ((w.alloc (.cells #[.slice A0 d.lo.length c0, .slice A1 d.ts.length c1, .slice A2 d.ag.length c2, .slice A3 d.ce.length c3, .slice A4 d.vo.length c4, .int .i64 d.nx] 32)).alloc (.cells #[.slice none 0 0, .slice none 0 0, .slice none 0 0, .slice none 0 0, .slice none 0 0, .int .i64 0] 32)).heap.size = w.heap.size + 2 := by simp
  clear h hs q0 q1 hA2 hA4
  go_enter Tryz.func61, Tryz.ntmps61
  go_upto_region 1 with (fail)
  generalize (w.alloc (.cells #[.slice A0 d.lo.length c0, .slice A1 d.ts.length c1, .slice A2 d.ag.length c2, .slice A3 d.ce.length c3, .slice A4 d.vo.length c4, .int .i64 d.nx] 32)).alloc (.cells #[.slice none 0 0, .slice none 0 0, .slice none 0 0, .slice none 0 0, .slice none 0 0, .int .i64 0] 32) = wb at *
  have hy1 := Nat.le_of_eq hZ
  have hy2 := Nat.le_of_eq hZ.symm
  clear hZ
  have QB := Lib.hid Q0.out
  clear Q0
  replace HG := Lib.hid (HG.out.on HB.out)
  replace HV := Lib.hid (HV.out.on HB.out)
  refine but_begin (f := 17) (S := fun V => Below wb.heap.size wb V) (by kernel_rfl) ?_
  have hS0c : Below wb.heap.size wb wb.drew := Below.drew1 _
  have hz0c : wb.heap.size ≤ wb.drew.heap.size := Nat.le_refl _
  generalize wb.drew = Udc at *
  replace Q1 := Lib.hid (box_on Q1.out hS0c)
  refine but_take (f := 17) (i := 0) (v := ?vc0) rfl (by kernel_rfl) (by kernel_rfl) (by kernel_rfl) (by kernel_rfl) (by kernel_rfl) (fun _ _ _ h => h) (Or.inl ⟨(by rfl), ?hyc0⟩) hS0c ?restc0
  case hyc0 =>
    intro W hW
    go_simp
    exact rfl
  simp only [List.getElem_toArray, List.getElem_cons_succ, List.getElem_cons_zero, Act.put, List.setIfInBounds_toArray, List.set_cons_zero, List.set_cons_succ]
  refine but_take (f := 17) (i := 1) (v := ?vc1) rfl (by kernel_rfl) (by kernel_rfl) (by kernel_rfl) (by kernel_rfl) (by kernel_rfl) (fun _ _ _ h => h) (Or.inl ⟨(by rfl), ?hyc1⟩) hS0c ?restc1
  case hyc1 =>
    intro W hW
    obtain ⟨x0, x1, x2, x3, x4, x5, x6⟩ := boxP (box_on QB.out hW)
    go_simp
    exact rfl
  simp only [List.getElem_toArray, List.getElem_cons_succ, List.getElem_cons_zero, Act.put, List.setIfInBounds_toArray, List.set_cons_zero, List.set_cons_succ]
  refine but_take (f := 17) (i := 4) (v := ?vc4) rfl (by kernel_rfl) (by kernel_rfl) (by kernel_rfl) (by kernel_rfl) (by kernel_rfl) (fun _ _ _ h => h) (Or.inl ⟨(by rfl), ?hyc4⟩) hS0c ?restc4
  case hyc4 =>
    intro W hW
    go_simp
    exact rfl
  simp only [List.getElem_toArray, List.getElem_cons_succ, List.getElem_cons_zero, Act.put, List.setIfInBounds_toArray, List.set_cons_zero, List.set_cons_succ]
  refine but_take (f := 17) (i := 5) (v := ?vc5) rfl (by kernel_rfl) (by kernel_rfl) (by kernel_rfl) (by kernel_rfl) (by kernel_rfl) (fun _ _ _ h => h) (Or.inl ⟨(by rfl), ?hyc5⟩) hS0c ?restc5
  case hyc5 =>
    intro W hW
    obtain ⟨x0, x1, x2, x3, x4, x5, x6⟩ := boxP (box_on QB.out hW)
    go_simp
    exact rfl
  simp only [List.getElem_toArray, List.getElem_cons_succ, List.getElem_cons_zero, Act.put, List.setIfInBounds_toArray, List.set_cons_zero, List.set_cons_succ]
  refine but_take (f := 17) (i := 7) (v := ?vc7) rfl (by kernel_rfl) (by kernel_rfl) (by kernel_rfl) (by kernel_rfl) (by kernel_rfl) (fun _ _ _ h => h) (Or.inl ⟨(by rfl), ?hyc7⟩) hS0c ?restc7
  case hyc7 =>
    intro W hW
    go_simp
    exact rfl
  simp only [List.getElem_toArray, List.getElem_cons_succ, List.getElem_cons_zero, Act.put, List.setIfInBounds_toArray, List.set_cons_zero, List.set_cons_succ]
  refine but_take (f := 17) (i := 8) (v := ?vc8) rfl (by kernel_rfl) (by kernel_rfl) (by kernel_rfl) (by kernel_rfl) (by kernel_rfl) (fun _ _ _ h => h) (Or.inl ⟨(by rfl), ?hyc8⟩) hS0c ?restc8
  case hyc8 =>
    intro W hW
    obtain ⟨x0, x1, x2, x3, x4, x5, x6⟩ := boxP (box_on QB.out hW)
    go_simp
    exact rfl
  simp only [List.getElem_toArray, List.getElem_cons_succ, List.getElem_cons_zero, Act.put, List.setIfInBounds_toArray, List.set_cons_zero, List.set_cons_succ]
  refine but_take (f := 17) (i := 11) (v := ?vc11) rfl (by kernel_rfl) (by kernel_rfl) (by kernel_rfl) (by kernel_rfl) (by kernel_rfl) (fun _ _ _ h => h) (Or.inl ⟨(by rfl), ?hyc11⟩) hS0c ?restc11
  case hyc11 =>
    intro W hW
    go_simp
    exact rfl
  simp only [List.getElem_toArray, List.getElem_cons_succ, List.getElem_cons_zero, Act.put, List.setIfInBounds_toArray, List.set_cons_zero, List.set_cons_succ]
  refine but_take (f := 17) (i := 12) (v := ?vc12) rfl (by kernel_rfl) (by kernel_rfl) (by kernel_rfl) (by kernel_rfl) (by kernel_rfl) (fun _ _ _ h => h) (Or.inl ⟨(by rfl), ?hyc12⟩) hS0c ?restc12
  case hyc12 =>
    intro W hW
    obtain ⟨x0, x1, x2, x3, x4, x5, x6⟩ := boxP (box_on QB.out hW)
    go_simp
    exact rfl
  simp only [List.getElem_toArray, List.getElem_cons_succ, List.getElem_cons_zero, Act.put, List.setIfInBounds_toArray, List.set_cons_zero, List.set_cons_succ]
  refine but_take (f := 17) (i := 14) (v := ?vc14) rfl (by kernel_rfl) (by kernel_rfl) (by kernel_rfl) (by kernel_rfl) (by kernel_rfl) (fun _ _ _ h => h) (Or.inl ⟨(by rfl), ?hyc14⟩) hS0c ?restc14
  case hyc14 =>
    intro W hW
    go_simp
    exact rfl
  simp only [List.getElem_toArray, List.getElem_cons_succ, List.getElem_cons_zero, Act.put, List.setIfInBounds_toArray, List.set_cons_zero, List.set_cons_succ]
  refine but_take (f := 17) (i := 15) (v := ?vc15) rfl (by kernel_rfl) (by kernel_rfl) (by kernel_rfl) (by kernel_rfl) (by kernel_rfl) (fun _ _ _ h => h) (Or.inl ⟨(by rfl), ?hyc15⟩) hS0c ?restc15
  case hyc15 =>
    intro W hW
    obtain ⟨x0, x1, x2, x3, x4, x5, x6⟩ := boxP (box_on QB.out hW)
    go_simp
    exact rfl
  simp only [List.getElem_toArray, List.getElem_cons_succ, List.getElem_cons_zero, Act.put, List.setIfInBounds_toArray, List.set_cons_zero, List.set_cons_succ]
  refine but_three (i := 2) (j := 3) (k := 10) (by kernel_rfl) rfl rfl rfl (by rfl) (by rfl) (by rfl) ?_ ?_ ?_
  · simp only [List.getElem_toArray, List.getElem_cons_succ, List.getElem_cons_zero]
    intro K HK
    go_wp2_with fail
    refine (HT.out _ (bstep HB.out hS0c)).mono ?_
    rintro r Vcp1 ⟨vl1, vn1, rfl, o1, hbcp1⟩
    obtain ⟨B0, e0, B1, e1, rfl, rfl⟩ := o1.reads.shape
    go_wp2_with fail
    have hScp1 : (fun V => Below wb.heap.size wb V) Vcp1 := bstep hS0c hbcp1
    refine HK.out _ _ (fun _ => hScp1) ?_
    clear HK
    have hzcp1 := hbcp1.size
    replace Q1 := Lib.hid (box_on Q1.out hbcp1)
    have OT := Lib.hid o1.lt.c
    clear o1
    refine but_two (i := 3) (j := 10) (by kernel_rfl) rfl rfl (by rfl) (by rfl) ?_ ?_
    · simp only [List.getElem_toArray, List.getElem_cons_succ, List.getElem_cons_zero]
      intro K HK
      go_wp2_with fail
      have hScpp2 : (fun V => Below wb.heap.size wb V) (Vcp1.alloc (.cells #[] 155)) := bstep hScp1 (bal1 _ _)
      refine HK.out _ _ (fun _ => hScpp2) ?_
      clear HK
      have hBcpp2 := bal1 Vcp1 (.cells #[] 155)
      have hzcpp2 : Vcp1.heap.size + 1 ≤ (Vcp1.alloc (.cells #[] 155)).heap.size := by simp
      replace Q1 := Lib.hid (box_on Q1.out hBcpp2)
      replace OT := Lib.hid (OT.out.on hBcpp2)
      have hzacpp2 := (hScp1).size
      have RA := Lib.hid (show RowG (Vcp1.alloc (.cells #[] 155)) Vcp1.heap.size (.slice (some ⟨Vcp1.heap.size, 0, none⟩) 0 0) [] from row_lit Vcp1 155 2)
      generalize Vcp1.alloc (.cells #[] 155) = Vncpp2 at *
      refine but_two (i := 6) (j := 10) (by kernel_rfl) rfl rfl (by rfl) (by rfl) ?_ ?_
      · simp only [List.getElem_toArray, List.getElem_cons_succ, List.getElem_cons_zero]
        intro K HK
        refine operAppG _ (by rfl) (.tmp 6) (.tmp 8) (by rfl) Vcp1.heap.size _ [] (by rfl) RA.out A2 d.ag.length c2 d.ag (by rfl) rfl (HG.out.on hScpp2) (by simp; omega) (by omega) ?_
        intro vcppp3 Vcppp3 ocppp3 bcppp3 gcppp3 acppp3
        rw [List.nil_append] at ocppp3
        obtain ⟨B2, e2, rfl, _, _⟩ := ocppp3.shape
        have hScppp3 : (fun V => Below wb.heap.size wb V) Vcppp3 := (hScpp2).trans (Below.mono bcppp3 (by omega))
        refine HK.out _ _ (fun _ => hScppp3) ?_
        clear HK
        have hzcppp3 := bcppp3.size
        replace Q1 := Lib.hid (box_only Q1.out gcppp3 (fun e => by simp [Value.ownBlock] at e; omega))
        replace OT := Lib.hid (OT.out.far gcppp3 (fun b hb _ e => by simp [Value.ownBlock] at e; first | omega | (simp [Value.ownBlock] at hb; omega)))
        have OA := Lib.hid (ocppp3.ownT (fun b => b = Vcp1.heap.size ∨ b = Vncpp2.heap.size) (own_at acppp3)).lt
        clear ocppp3 acppp3
        simp only [List.getElem_toArray, List.getElem_cons_succ, List.getElem_cons_zero, Act.put, List.setIfInBounds_toArray, List.set_cons_zero, List.set_cons_succ]
        refine but_two (i := 9) (j := 10) (by kernel_rfl) rfl rfl (by rfl) (by rfl) ?_ ?_
        · simp only [List.getElem_toArray, List.getElem_cons_succ, List.getElem_cons_zero]
          intro K HK
          go_wp2_with fail
          refine (HC.out _ (bstep HB.out hScppp3)).mono ?_
          rintro r Vcpppp4 ⟨vc1, rfl, o3, hbcpppp4⟩
          obtain ⟨B3, e3, rfl, _, _⟩ := o3.shape
          go_wp2_with fail
          have hScpppp4 : (fun V => Below wb.heap.size wb V) Vcpppp4 := bstep hScppp3 hbcpppp4
          refine HK.out _ _ (fun _ => hScpppp4) ?_
          clear HK
          have hzcpppp4 := hbcpppp4.size
          replace Q1 := Lib.hid (box_on Q1.out hbcpppp4)
          replace OT := Lib.hid (OT.out.on hbcpppp4)
          replace OA := Lib.hid (OA.out.on hbcpppp4)
          have OC := Lib.hid o3.owns.lt
          clear o3
          refine but_run (i := 10) (by kernel_rfl) rfl (by rfl) ?_
          simp only [List.getElem_toArray, List.getElem_cons_succ, List.getElem_cons_zero]
          intro K HK
          go_wp2_with fail
          have hScpppp5 : (fun V => Below wb.heap.size wb V) (Vcpppp4.alloc (.cells #[] 41)) := bstep hScpppp4 (bal1 _ _)
          refine HK.out _ _ (fun _ => hScpppp5) ?_
          clear HK
          have hBcpppp5 := bal1 Vcpppp4 (.cells #[] 41)
          have hzcpppp5 : Vcpppp4.heap.size + 1 ≤ (Vcpppp4.alloc (.cells #[] 41)).heap.size := by simp
          replace Q1 := Lib.hid (box_on Q1.out hBcpppp5)
          replace OT := Lib.hid (OT.out.on hBcpppp5)
          replace OA := Lib.hid (OA.out.on hBcpppp5)
          replace OC := Lib.hid (OC.out.on hBcpppp5)
          have hzacpppp5 := (hScpppp4).size
          have RV := Lib.hid (RowVol.lit Vcpppp4)
          generalize Vcpppp4.alloc (.cells #[] 41) = Vncpppp5 at *
          refine but_run (i := 13) (by kernel_rfl) rfl (by rfl) ?_
          simp only [List.getElem_toArray, List.getElem_cons_succ, List.getElem_cons_zero]
          intro K HK
          refine operAppVol _ (by rfl) (.tmp 13) (.tmp 15) (by rfl) Vcpppp4.heap.size _ [] (by rfl) RV.out A4 d.vo.length c4 d.vo (by rfl) rfl (HV.out.on hScpppp5) (by simp; omega) (by omega) ?_
          intro vcpppp6 Vcpppp6 ocpppp6 bcpppp6 gcpppp6 acpppp6
          rw [List.nil_append] at ocpppp6
          obtain ⟨B4, e4, rfl, _, _⟩ := ocpppp6.shape
          have hScpppp6 : (fun V => Below wb.heap.size wb V) Vcpppp6 := (hScpppp5).trans (Below.mono bcpppp6 (by omega))
          refine HK.out _ _ (fun _ => hScpppp6) ?_
          clear HK
          have hzcpppp6 := bcpppp6.size
          replace Q1 := Lib.hid (box_only Q1.out gcpppp6 (fun e => by simp [Value.ownBlock] at e; omega))
          replace OT := Lib.hid (OT.out.far gcpppp6 (fun b hb _ e => by simp [Value.ownBlock] at e; first | omega | (simp [Value.ownBlock] at hb; omega)))
          replace OA := Lib.hid (OA.out.far gcpppp6 (fun b hb _ e => by simp [Value.ownBlock] at e; first | omega | (simp [Value.ownBlock] at hb; omega)))
          replace OC := Lib.hid (OC.out.far gcpppp6 (fun b hb _ e => by simp [Value.ownBlock] at e; first | omega | (simp [Value.ownBlock] at hb; omega)))
          have OV := Lib.hid (ocpppp6.ownT (fun b => b = Vcpppp4.heap.size ∨ b = Vncpppp5.heap.size) (own_at acpppp6)).lt
          clear ocpppp6 acpppp6
          simp only [List.getElem_toArray, List.getElem_cons_succ, List.getElem_cons_zero, Act.put, List.setIfInBounds_toArray, List.set_cons_zero, List.set_cons_succ]
          refine but_take (f := 17) (i := 16) (v := ?vcpppp16) rfl (by kernel_rfl) (by kernel_rfl) (by kernel_rfl) (by kernel_rfl) (by kernel_rfl) (fun _ _ _ h => h) (Or.inl ⟨(by rfl), ?hycpppp16⟩) hScpppp6 ?restcpppp16
          case hycpppp16 =>
            intro W hW
            go_simp
            exact rfl
          simp only [List.getElem_toArray, List.getElem_cons_succ, List.getElem_cons_zero, Act.put, List.setIfInBounds_toArray, List.set_cons_zero, List.set_cons_succ]
          refine but_run (i := 17) (by kernel_rfl) rfl (by rfl) ?_
          simp only [List.getElem_toArray, List.getElem_cons_succ, List.getElem_cons_zero]
          intro K HK
          obtain ⟨z0, z1, z2, z3, z4, z5, z6⟩ := boxP Q1.out
          go_wp2_with fail
          refine HK.out _ _ (fun h => absurd rfl h) ?_
          clear HK
          refine but_done (by kernel_rfl) ?_
          go_wp2
          refine bodyPost_ret (v := .agg #[.slice B0 d.lo.length e0, .slice B1 d.ts.length e1, .slice B2 d.ag.length e2, .slice B3 d.ce.length e3, .slice B4 d.vo.length e4, .int .i64 d.nx]) (by simp [results, Tryz.results61, go_sem, z0, z1, z2, z3, z4, z5, z6]) rfl ⟨_, _, _, _, _, rfl, ?_, below_set6 (bstep HB.out hScpppp6) (by omega)⟩
          have hP : PoolC 110 Vcpppp6 (fun b => wb.heap.size ≤ b) (.slice B0 d.lo.length e0) (.slice B1 d.ts.length e1) (.slice B2 d.ag.length e2) (.slice B3 d.ce.length e3) (.slice B4 d.vo.length e4) d :=
            ⟨fun b => Udc.heap.size ≤ b ∧ b < Vcp1.heap.size,
              fun b => (b = Vcp1.heap.size ∨ b = Vncpp2.heap.size) ∧ b < Vcppp3.heap.size,
              fun b => Vcppp3.heap.size ≤ b ∧ b < Vcpppp4.heap.size,
              fun b => (b = Vcpppp4.heap.size ∨ b = Vncpppp5.heap.size) ∧ b < Vcpppp6.heap.size, by intro b hb; omega, by intro b hb; omega, by intro b hb; omega, by intro b hb; omega, by intro b hb; refine ⟨?_, ?_, ?_⟩ <;> (intro h; omega), by intro b hb; refine ⟨?_, ?_⟩ <;> (intro h; omega), by intro b hb h; omega, OT.out, OA.out, OC.out, OV.out⟩
          exact (hP.set6 (p := w.heap.size + 1) (fun h => by omega)).mono (fun b hb => by omega)
        · simp only [List.getElem_toArray, List.getElem_cons_succ, List.getElem_cons_zero]
          intro K HK
          go_wp2_with fail
          have hScpppq4 : (fun V => Below wb.heap.size wb V) (Vcppp3.alloc (.cells #[] 41)) := bstep hScppp3 (bal1 _ _)
          refine HK.out _ _ (fun _ => hScpppq4) ?_
          clear HK
          have hBcpppq4 := bal1 Vcppp3 (.cells #[] 41)
          have hzcpppq4 : Vcppp3.heap.size + 1 ≤ (Vcppp3.alloc (.cells #[] 41)).heap.size := by simp
          replace Q1 := Lib.hid (box_on Q1.out hBcpppq4)
          replace OT := Lib.hid (OT.out.on hBcpppq4)
          replace OA := Lib.hid (OA.out.on hBcpppq4)
          have hzacpppq4 := (hScppp3).size
          have RV := Lib.hid (RowVol.lit Vcppp3)
          generalize Vcppp3.alloc (.cells #[] 41) = Vncpppq4 at *
          refine but_run (i := 9) (by kernel_rfl) rfl (by rfl) ?_
          simp only [List.getElem_toArray, List.getElem_cons_succ, List.getElem_cons_zero]
          intro K HK
          go_wp2_with fail
          refine (HC.out _ (bstep HB.out hScpppq4)).mono ?_
          rintro r Vcpppq5 ⟨vc1, rfl, o3, hbcpppq5⟩
          obtain ⟨B3, e3, rfl, _, _⟩ := o3.shape
          go_wp2_with fail
          have hScpppq5 : (fun V => Below wb.heap.size wb V) Vcpppq5 := bstep hScpppq4 hbcpppq5
          refine HK.out _ _ (fun _ => hScpppq5) ?_
          clear HK
          have hzcpppq5 := hbcpppq5.size
          replace Q1 := Lib.hid (box_on Q1.out hbcpppq5)
          replace OT := Lib.hid (OT.out.on hbcpppq5)
          replace OA := Lib.hid (OA.out.on hbcpppq5)
          replace RV := Lib.hid (RV.out.on hbcpppq5)
          have OC := Lib.hid o3.owns.lt
          clear o3
          refine but_run (i := 13) (by kernel_rfl) rfl (by rfl) ?_
          simp only [List.getElem_toArray, List.getElem_cons_succ, List.getElem_cons_zero]
          intro K HK
          refine operAppVol _ (by rfl) (.tmp 13) (.tmp 15) (by rfl) Vcppp3.heap.size _ [] (by rfl) RV.out A4 d.vo.length c4 d.vo (by rfl) rfl (HV.out.on hScpppq5) (by simp; omega) (by omega) ?_
          intro vcpppq6 Vcpppq6 ocpppq6 bcpppq6 gcpppq6 acpppq6
          rw [List.nil_append] at ocpppq6
          obtain ⟨B4, e4, rfl, _, _⟩ := ocpppq6.shape
          have hScpppq6 : (fun V => Below wb.heap.size wb V) Vcpppq6 := (hScpppq5).trans (Below.mono bcpppq6 (by omega))
          refine HK.out _ _ (fun _ => hScpppq6) ?_
          clear HK
          have hzcpppq6 := bcpppq6.size
          replace Q1 := Lib.hid (box_only Q1.out gcpppq6 (fun e => by simp [Value.ownBlock] at e; omega))
          replace OT := Lib.hid (OT.out.far gcpppq6 (fun b hb _ e => by simp [Value.ownBlock] at e; first | omega | (simp [Value.ownBlock] at hb; omega)))
          replace OA := Lib.hid (OA.out.far gcpppq6 (fun b hb _ e => by simp [Value.ownBlock] at e; first | omega | (simp [Value.ownBlock] at hb; omega)))
          replace OC := Lib.hid (OC.out.far gcpppq6 (fun b hb _ e => by simp [Value.ownBlock] at e; first | omega | (simp [Value.ownBlock] at hb; omega)))
          have OV := Lib.hid (ocpppq6.ownT (fun b => b = Vcppp3.heap.size ∨ b = Vcpppq5.heap.size) (own_at acpppq6)).lt
          clear ocpppq6 acpppq6
          simp only [List.getElem_toArray, List.getElem_cons_succ, List.getElem_cons_zero, Act.put, List.setIfInBounds_toArray, List.set_cons_zero, List.set_cons_succ]
          refine but_take (f := 17) (i := 16) (v := ?vcpppq16) rfl (by kernel_rfl) (by kernel_rfl) (by kernel_rfl) (by kernel_rfl) (by kernel_rfl) (fun _ _ _ h => h) (Or.inl ⟨(by rfl), ?hycpppq16⟩) hScpppq6 ?restcpppq16
          case hycpppq16 =>
            intro W hW
            go_simp
            exact rfl
          simp only [List.getElem_toArray, List.getElem_cons_succ, List.getElem_cons_zero, Act.put, List.setIfInBounds_toArray, List.set_cons_zero, List.set_cons_succ]
          refine but_run (i := 17) (by kernel_rfl) rfl (by rfl) ?_
          simp only [List.getElem_toArray, List.getElem_cons_succ, List.getElem_cons_zero]
          intro K HK
          obtain ⟨z0, z1, z2, z3, z4, z5, z6⟩ := boxP Q1.out
          go_wp2_with fail
          refine HK.out _ _ (fun h => absurd rfl h) ?_
          clear HK
          refine but_done (by kernel_rfl) ?_
          go_wp2
          refine bodyPost_ret (v := .agg #[.slice B0 d.lo.length e0, .slice B1 d.ts.length e1, .slice B2 d.ag.length e2, .slice B3 d.ce.length e3, .slice B4 d.vo.length e4, .int .i64 d.nx]) (by simp [results, Tryz.results61, go_sem, z0, z1, z2, z3, z4, z5, z6]) rfl ⟨_, _, _, _, _, rfl, ?_, below_set6 (bstep HB.out hScpppq6) (by omega)⟩
          have hP : PoolC 110 Vcpppq6 (fun b => wb.heap.size ≤ b) (.slice B0 d.lo.length e0) (.slice B1 d.ts.length e1) (.slice B2 d.ag.length e2) (.slice B3 d.ce.length e3) (.slice B4 d.vo.length e4) d :=
            ⟨fun b => Udc.heap.size ≤ b ∧ b < Vcp1.heap.size,
              fun b => (b = Vcp1.heap.size ∨ b = Vncpp2.heap.size) ∧ b < Vcppp3.heap.size,
              fun b => Vncpppq4.heap.size ≤ b ∧ b < Vcpppq5.heap.size,
              fun b => (b = Vcppp3.heap.size ∨ b = Vcpppq5.heap.size) ∧ b < Vcpppq6.heap.size, by intro b hb; omega, by intro b hb; omega, by intro b hb; omega, by intro b hb; omega, by intro b hb; refine ⟨?_, ?_, ?_⟩ <;> (intro h; omega), by intro b hb; refine ⟨?_, ?_⟩ <;> (intro h; omega), by intro b hb h; omega, OT.out, OA.out, OC.out, OV.out⟩
          exact (hP.set6 (p := w.heap.size + 1) (fun h => by omega)).mono (fun b hb => by omega)
      · simp only [List.getElem_toArray, List.getElem_cons_succ, List.getElem_cons_zero]
        intro K HK
        go_wp2_with fail
        have hScppq3 : (fun V => Below wb.heap.size wb V) (Vncpp2.alloc (.cells #[] 41)) := bstep hScpp2 (bal1 _ _)
        refine HK.out _ _ (fun _ => hScppq3) ?_
        clear HK
        have hBcppq3 := bal1 Vncpp2 (.cells #[] 41)
        have hzcppq3 : Vncpp2.heap.size + 1 ≤ (Vncpp2.alloc (.cells #[] 41)).heap.size := by simp
        replace Q1 := Lib.hid (box_on Q1.out hBcppq3)
        replace OT := Lib.hid (OT.out.on hBcppq3)
        replace RA := Lib.hid (RA.out.on hBcppq3)
        have hzacppq3 := (hScpp2).size
        have RV := Lib.hid (RowVol.lit Vncpp2)
        generalize Vncpp2.alloc (.cells #[] 41) = Vncppq3 at *
        refine but_run (i := 6) (by kernel_rfl) rfl (by rfl) ?_
        simp only [List.getElem_toArray, List.getElem_cons_succ, List.getElem_cons_zero]
        intro K HK
        refine operAppG _ (by rfl) (.tmp 6) (.tmp 8) (by rfl) Vcp1.heap.size _ [] (by rfl) RA.out A2 d.ag.length c2 d.ag (by rfl) rfl (HG.out.on hScppq3) (by simp; omega) (by omega) ?_
        intro vcppq4 Vcppq4 ocppq4 bcppq4 gcppq4 acppq4
        rw [List.nil_append] at ocppq4
        obtain ⟨B2, e2, rfl, _, _⟩ := ocppq4.shape
        have hScppq4 : (fun V => Below wb.heap.size wb V) Vcppq4 := (hScppq3).trans (Below.mono bcppq4 (by omega))
        refine HK.out _ _ (fun _ => hScppq4) ?_
        clear HK
        have hzcppq4 := bcppq4.size
        replace Q1 := Lib.hid (box_only Q1.out gcppq4 (fun e => by simp [Value.ownBlock] at e; omega))
        replace OT := Lib.hid (OT.out.far gcppq4 (fun b hb _ e => by simp [Value.ownBlock] at e; first | omega | (simp [Value.ownBlock] at hb; omega)))
        replace RV := Lib.hid (RV.out.far gcppq4 (fun b hb _ e => by simp [Value.ownBlock] at e; first | omega | (simp [Value.ownBlock] at hb; omega)))
        have OA := Lib.hid (ocppq4.ownT (fun b => b = Vcp1.heap.size ∨ b = Vncppq3.heap.size) (own_at acppq4)).lt
        clear ocppq4 acppq4
        simp only [List.getElem_toArray, List.getElem_cons_succ, List.getElem_cons_zero, Act.put, List.setIfInBounds_toArray, List.set_cons_zero, List.set_cons_succ]
        refine but_run (i := 9) (by kernel_rfl) rfl (by rfl) ?_
        simp only [List.getElem_toArray, List.getElem_cons_succ, List.getElem_cons_zero]
        intro K HK
        go_wp2_with fail
        refine (HC.out _ (bstep HB.out hScppq4)).mono ?_
        rintro r Vcppq5 ⟨vc1, rfl, o3, hbcppq5⟩
        obtain ⟨B3, e3, rfl, _, _⟩ := o3.shape
        go_wp2_with fail
        have hScppq5 : (fun V => Below wb.heap.size wb V) Vcppq5 := bstep hScppq4 hbcppq5
        refine HK.out _ _ (fun _ => hScppq5) ?_
        clear HK
        have hzcppq5 := hbcppq5.size
        replace Q1 := Lib.hid (box_on Q1.out hbcppq5)
        replace OT := Lib.hid (OT.out.on hbcppq5)
        replace RV := Lib.hid (RV.out.on hbcppq5)
        replace OA := Lib.hid (OA.out.on hbcppq5)
        have OC := Lib.hid o3.owns.lt
        clear o3
        refine but_run (i := 13) (by kernel_rfl) rfl (by rfl) ?_
        simp only [List.getElem_toArray, List.getElem_cons_succ, List.getElem_cons_zero]
        intro K HK
        refine operAppVol _ (by rfl) (.tmp 13) (.tmp 15) (by rfl) Vncpp2.heap.size _ [] (by rfl) RV.out A4 d.vo.length c4 d.vo (by rfl) rfl (HV.out.on hScppq5) (by simp; omega) (by omega) ?_
        intro vcppq6 Vcppq6 ocppq6 bcppq6 gcppq6 acppq6
        rw [List.nil_append] at ocppq6
        obtain ⟨B4, e4, rfl, _, _⟩ := ocppq6.shape
        have hScppq6 : (fun V => Below wb.heap.size wb V) Vcppq6 := (hScppq5).trans (Below.mono bcppq6 (by omega))
        refine HK.out _ _ (fun _ => hScppq6) ?_
        clear HK
        have hzcppq6 := bcppq6.size
        replace Q1 := Lib.hid (box_only Q1.out gcppq6 (fun e => by simp [Value.ownBlock] at e; omega))
        replace OT := Lib.hid (OT.out.far gcppq6 (fun b hb _ e => by simp [Value.ownBlock] at e; first | omega | (simp [Value.ownBlock] at hb; omega)))
        replace OA := Lib.hid (OA.out.far gcppq6 (fun b hb _ e => by simp [Value.ownBlock] at e; first | omega | (simp [Value.ownBlock] at hb; omega)))
        replace OC := Lib.hid (OC.out.far gcppq6 (fun b hb _ e => by simp [Value.ownBlock] at e; first | omega | (simp [Value.ownBlock] at hb; omega)))
        have OV := Lib.hid (ocppq6.ownT (fun b => b = Vncpp2.heap.size ∨ b = Vcppq5.heap.size) (own_at acppq6)).lt
        clear ocppq6 acppq6
        simp only [List.getElem_toArray, List.getElem_cons_succ, List.getElem_cons_zero, Act.put, List.setIfInBounds_toArray, List.set_cons_zero, List.set_cons_succ]
        refine but_take (f := 17) (i := 16) (v := ?vcppq16) rfl (by kernel_rfl) (by kernel_rfl) (by kernel_rfl) (by kernel_rfl) (by kernel_rfl) (fun _ _ _ h => h) (Or.inl ⟨(by rfl), ?hycppq16⟩) hScppq6 ?restcppq16
        case hycppq16 =>
          intro W hW
          go_simp
          exact rfl
        simp only [List.getElem_toArray, List.getElem_cons_succ, List.getElem_cons_zero, Act.put, List.setIfInBounds_toArray, List.set_cons_zero, List.set_cons_succ]
        refine but_run (i := 17) (by kernel_rfl) rfl (by rfl) ?_
        simp only [List.getElem_toArray, List.getElem_cons_succ, List.getElem_cons_zero]
        intro K HK
        obtain ⟨z0, z1, z2, z3, z4, z5, z6⟩ := boxP Q1.out
        go_wp2_with fail
        refine HK.out _ _ (fun h => absurd rfl h) ?_
        clear HK
        refine but_done (by kernel_rfl) ?_
        go_wp2
        refine bodyPost_ret (v := .agg #[.slice B0 d.lo.length e0, .slice B1 d.ts.length e1, .slice B2 d.ag.length e2, .slice B3 d.ce.length e3, .slice B4 d.vo.length e4, .int .i64 d.nx]) (by simp [results, Tryz.results61, go_sem, z0, z1, z2, z3, z4, z5, z6]) rfl ⟨_, _, _, _, _, rfl, ?_, below_set6 (bstep HB.out hScppq6) (by omega)⟩
        have hP : PoolC 110 Vcppq6 (fun b => wb.heap.size ≤ b) (.slice B0 d.lo.length e0) (.slice B1 d.ts.length e1) (.slice B2 d.ag.length e2) (.slice B3 d.ce.length e3) (.slice B4 d.vo.length e4) d :=
          ⟨fun b => Udc.heap.size ≤ b ∧ b < Vcp1.heap.size,
            fun b => (b = Vcp1.heap.size ∨ b = Vncppq3.heap.size) ∧ b < Vcppq4.heap.size,
            fun b => Vcppq4.heap.size ≤ b ∧ b < Vcppq5.heap.size,
            fun b => (b = Vncpp2.heap.size ∨ b = Vcppq5.heap.size) ∧ b < Vcppq6.heap.size, by intro b hb; omega, by intro b hb; omega, by intro b hb; omega, by intro b hb; omega, by intro b hb; refine ⟨?_, ?_, ?_⟩ <;> (intro h; omega), by intro b hb; refine ⟨?_, ?_⟩ <;> (intro h; omega), by intro b hb h; omega, OT.out, OA.out, OC.out, OV.out⟩
        exact (hP.set6 (p := w.heap.size + 1) (fun h => by omega)).mono (fun b hb => by omega)
    · simp only [List.getElem_toArray, List.getElem_cons_succ, List.getElem_cons_zero]
      intro K HK
      go_wp2_with fail
      have hScpq2 : (fun V => Below wb.heap.size wb V) (Vcp1.alloc (.cells #[] 41)) := bstep hScp1 (bal1 _ _)
      refine HK.out _ _ (fun _ => hScpq2) ?_
      clear HK
      have hBcpq2 := bal1 Vcp1 (.cells #[] 41)
      have hzcpq2 : Vcp1.heap.size + 1 ≤ (Vcp1.alloc (.cells #[] 41)).heap.size := by simp
      replace Q1 := Lib.hid (box_on Q1.out hBcpq2)
      replace OT := Lib.hid (OT.out.on hBcpq2)
      have hzacpq2 := (hScp1).size
      have RV := Lib.hid (RowVol.lit Vcp1)
      generalize Vcp1.alloc (.cells #[] 41) = Vncpq2 at *
      refine but_run (i := 3) (by kernel_rfl) rfl (by rfl) ?_
      simp only [List.getElem_toArray, List.getElem_cons_succ, List.getElem_cons_zero]
      intro K HK
      go_wp2_with fail
      have hScpq3 : (fun V => Below wb.heap.size wb V) (Vncpq2.alloc (.cells #[] 155)) := bstep hScpq2 (bal1 _ _)
      refine HK.out _ _ (fun _ => hScpq3) ?_
      clear HK
      have hBcpq3 := bal1 Vncpq2 (.cells #[] 155)
      have hzcpq3 : Vncpq2.heap.size + 1 ≤ (Vncpq2.alloc (.cells #[] 155)).heap.size := by simp
      replace Q1 := Lib.hid (box_on Q1.out hBcpq3)
      replace OT := Lib.hid (OT.out.on hBcpq3)
      replace RV := Lib.hid (RV.out.on hBcpq3)
      have hzacpq3 := (hScpq2).size
      have RA := Lib.hid (show RowG (Vncpq2.alloc (.cells #[] 155)) Vncpq2.heap.size (.slice (some ⟨Vncpq2.heap.size, 0, none⟩) 0 0) [] from row_lit Vncpq2 155 2)
      generalize Vncpq2.alloc (.cells #[] 155) = Vncpq3 at *
      refine but_run (i := 6) (by kernel_rfl) rfl (by rfl) ?_
      simp only [List.getElem_toArray, List.getElem_cons_succ, List.getElem_cons_zero]
      intro K HK
      refine operAppG _ (by rfl) (.tmp 6) (.tmp 8) (by rfl) Vncpq2.heap.size _ [] (by rfl) RA.out A2 d.ag.length c2 d.ag (by rfl) rfl (HG.out.on hScpq3) (by simp; omega) (by omega) ?_
      intro vcpq4 Vcpq4 ocpq4 bcpq4 gcpq4 acpq4
      rw [List.nil_append] at ocpq4
      obtain ⟨B2, e2, rfl, _, _⟩ := ocpq4.shape
      have hScpq4 : (fun V => Below wb.heap.size wb V) Vcpq4 := (hScpq3).trans (Below.mono bcpq4 (by omega))
      refine HK.out _ _ (fun _ => hScpq4) ?_
      clear HK
      have hzcpq4 := bcpq4.size
      replace Q1 := Lib.hid (box_only Q1.out gcpq4 (fun e => by simp [Value.ownBlock] at e; omega))
      replace OT := Lib.hid (OT.out.far gcpq4 (fun b hb _ e => by simp [Value.ownBlock] at e; first | omega | (simp [Value.ownBlock] at hb; omega)))
      replace RV := Lib.hid (RV.out.far gcpq4 (fun b hb _ e => by simp [Value.ownBlock] at e; first | omega | (simp [Value.ownBlock] at hb; omega)))
      have OA := Lib.hid (ocpq4.ownT (fun b => b = Vncpq2.heap.size ∨ b = Vncpq3.heap.size) (own_at acpq4)).lt
      clear ocpq4 acpq4
      simp only [List.getElem_toArray, List.getElem_cons_succ, List.getElem_cons_zero, Act.put, List.setIfInBounds_toArray, List.set_cons_zero, List.set_cons_succ]
      refine but_run (i := 9) (by kernel_rfl) rfl (by rfl) ?_
      simp only [List.getElem_toArray, List.getElem_cons_succ, List.getElem_cons_zero]
      intro K HK
      go_wp2_with fail
      refine (HC.out _ (bstep HB.out hScpq4)).mono ?_
      rintro r Vcpq5 ⟨vc1, rfl, o3, hbcpq5⟩
      obtain ⟨B3, e3, rfl, _, _⟩ := o3.shape
      go_wp2_with fail
      have hScpq5 : (fun V => Below wb.heap.size wb V) Vcpq5 := bstep hScpq4 hbcpq5
      refine HK.out _ _ (fun _ => hScpq5) ?_
      clear HK
      have hzcpq5 := hbcpq5.size
      replace Q1 := Lib.hid (box_on Q1.out hbcpq5)
      replace OT := Lib.hid (OT.out.on hbcpq5)
      replace RV := Lib.hid (RV.out.on hbcpq5)
      replace OA := Lib.hid (OA.out.on hbcpq5)
      have OC := Lib.hid o3.owns.lt
      clear o3
      refine but_run (i := 13) (by kernel_rfl) rfl (by rfl) ?_
      simp only [List.getElem_toArray, List.getElem_cons_succ, List.getElem_cons_zero]
      intro K HK
      refine operAppVol _ (by rfl) (.tmp 13) (.tmp 15) (by rfl) Vcp1.heap.size _ [] (by rfl) RV.out A4 d.vo.length c4 d.vo (by rfl) rfl (HV.out.on hScpq5) (by simp; omega) (by omega) ?_
      intro vcpq6 Vcpq6 ocpq6 bcpq6 gcpq6 acpq6
      rw [List.nil_append] at ocpq6
      obtain ⟨B4, e4, rfl, _, _⟩ := ocpq6.shape
      have hScpq6 : (fun V => Below wb.heap.size wb V) Vcpq6 := (hScpq5).trans (Below.mono bcpq6 (by omega))
      refine HK.out _ _ (fun _ => hScpq6) ?_
      clear HK
      have hzcpq6 := bcpq6.size
      replace Q1 := Lib.hid (box_only Q1.out gcpq6 (fun e => by simp [Value.ownBlock] at e; omega))
      replace OT := Lib.hid (OT.out.far gcpq6 (fun b hb _ e => by simp [Value.ownBlock] at e; first | omega | (simp [Value.ownBlock] at hb; omega)))
      replace OA := Lib.hid (OA.out.far gcpq6 (fun b hb _ e => by simp [Value.ownBlock] at e; first | omega | (simp [Value.ownBlock] at hb; omega)))
      replace OC := Lib.hid (OC.out.far gcpq6 (fun b hb _ e => by simp [Value.ownBlock] at e; first | omega | (simp [Value.ownBlock] at hb; omega)))
      have OV := Lib.hid (ocpq6.ownT (fun b => b = Vcp1.heap.size ∨ b = Vcpq5.heap.size) (own_at acpq6)).lt
      clear ocpq6 acpq6
      simp only [List.getElem_toArray, List.getElem_cons_succ, List.getElem_cons_zero, Act.put, List.setIfInBounds_toArray, List.set_cons_zero, List.set_cons_succ]
      refine but_take (f := 17) (i := 16) (v := ?vcpq16) rfl (by kernel_rfl) (by kernel_rfl) (by kernel_rfl) (by kernel_rfl) (by kernel_rfl) (fun _ _ _ h => h) (Or.inl ⟨(by rfl), ?hycpq16⟩) hScpq6 ?restcpq16
      case hycpq16 =>
        intro W hW
        go_simp
        exact rfl
      simp only [List.getElem_toArray, List.getElem_cons_succ, List.getElem_cons_zero, Act.put, List.setIfInBounds_toArray, List.set_cons_zero, List.set_cons_succ]
      refine but_run (i := 17) (by kernel_rfl) rfl (by rfl) ?_
      simp only [List.getElem_toArray, List.getElem_cons_succ, List.getElem_cons_zero]
      intro K HK
      obtain ⟨z0, z1, z2, z3, z4, z5, z6⟩ := boxP Q1.out
      go_wp2_with fail
      refine HK.out _ _ (fun h => absurd rfl h) ?_
      clear HK
      refine but_done (by kernel_rfl) ?_
      go_wp2
      refine bodyPost_ret (v := .agg #[.slice B0 d.lo.length e0, .slice B1 d.ts.length e1, .slice B2 d.ag.length e2, .slice B3 d.ce.length e3, .slice B4 d.vo.length e4, .int .i64 d.nx]) (by simp [results, Tryz.results61, go_sem, z0, z1, z2, z3, z4, z5, z6]) rfl ⟨_, _, _, _, _, rfl, ?_, below_set6 (bstep HB.out hScpq6) (by omega)⟩
      have hP : PoolC 110 Vcpq6 (fun b => wb.heap.size ≤ b) (.slice B0 d.lo.length e0) (.slice B1 d.ts.length e1) (.slice B2 d.ag.length e2) (.slice B3 d.ce.length e3) (.slice B4 d.vo.length e4) d :=
        ⟨fun b => Udc.heap.size ≤ b ∧ b < Vcp1.heap.size,
          fun b => (b = Vncpq2.heap.size ∨ b = Vncpq3.heap.size) ∧ b < Vcpq4.heap.size,
          fun b => Vcpq4.heap.size ≤ b ∧ b < Vcpq5.heap.size,
          fun b => (b = Vcp1.heap.size ∨ b = Vcpq5.heap.size) ∧ b < Vcpq6.heap.size, by intro b hb; omega, by intro b hb; omega, by intro b hb; omega, by intro b hb; omega, by intro b hb; refine ⟨?_, ?_, ?_⟩ <;> (intro h; omega), by intro b hb; refine ⟨?_, ?_⟩ <;> (intro h; omega), by intro b hb h; omega, OT.out, OA.out, OC.out, OV.out⟩
      exact (hP.set6 (p := w.heap.size + 1) (fun h => by omega)).mono (fun b hb => by omega)
  · simp only [List.getElem_toArray, List.getElem_cons_succ, List.getElem_cons_zero]
    intro K HK
    go_wp2_with fail
    have hScq1 : (fun V => Below wb.heap.size wb V) (Udc.alloc (.cells #[] 155)) := bstep hS0c (bal1 _ _)
    refine HK.out _ _ (fun _ => hScq1) ?_
    clear HK
    have hBcq1 := bal1 Udc (.cells #[] 155)
    have hzcq1 : Udc.heap.size + 1 ≤ (Udc.alloc (.cells #[] 155)).heap.size := by simp
    replace Q1 := Lib.hid (box_on Q1.out hBcq1)
    have hzacq1 := (hS0c).size
    have RA := Lib.hid (show RowG (Udc.alloc (.cells #[] 155)) Udc.heap.size (.slice (some ⟨Udc.heap.size, 0, none⟩) 0 0) [] from row_lit Udc 155 2)
    generalize Udc.alloc (.cells #[] 155) = Vncq1 at *
    refine but_two (i := 2) (j := 10) (by kernel_rfl) rfl rfl (by rfl) (by rfl) ?_ ?_
    · simp only [List.getElem_toArray, List.getElem_cons_succ, List.getElem_cons_zero]
      intro K HK
      go_wp2_with fail
      refine (HT.out _ (bstep HB.out hScq1)).mono ?_
      rintro r Vcqp2 ⟨vl1, vn1, rfl, o1, hbcqp2⟩
      obtain ⟨B0, e0, B1, e1, rfl, rfl⟩ := o1.reads.shape
      go_wp2_with fail
      have hScqp2 : (fun V => Below wb.heap.size wb V) Vcqp2 := bstep hScq1 hbcqp2
      refine HK.out _ _ (fun _ => hScqp2) ?_
      clear HK
      have hzcqp2 := hbcqp2.size
      replace Q1 := Lib.hid (box_on Q1.out hbcqp2)
      replace RA := Lib.hid (RA.out.on hbcqp2)
      have OT := Lib.hid o1.lt.c
      clear o1
      refine but_two (i := 6) (j := 10) (by kernel_rfl) rfl rfl (by rfl) (by rfl) ?_ ?_
      · simp only [List.getElem_toArray, List.getElem_cons_succ, List.getElem_cons_zero]
        intro K HK
        refine operAppG _ (by rfl) (.tmp 6) (.tmp 8) (by rfl) Udc.heap.size _ [] (by rfl) RA.out A2 d.ag.length c2 d.ag (by rfl) rfl (HG.out.on hScqp2) (by simp; omega) (by omega) ?_
        intro vcqpp3 Vcqpp3 ocqpp3 bcqpp3 gcqpp3 acqpp3
        rw [List.nil_append] at ocqpp3
        obtain ⟨B2, e2, rfl, _, _⟩ := ocqpp3.shape
        have hScqpp3 : (fun V => Below wb.heap.size wb V) Vcqpp3 := (hScqp2).trans (Below.mono bcqpp3 (by omega))
        refine HK.out _ _ (fun _ => hScqpp3) ?_
        clear HK
        have hzcqpp3 := bcqpp3.size
        replace Q1 := Lib.hid (box_only Q1.out gcqpp3 (fun e => by simp [Value.ownBlock] at e; omega))
        replace OT := Lib.hid (OT.out.far gcqpp3 (fun b hb _ e => by simp [Value.ownBlock] at e; first | omega | (simp [Value.ownBlock] at hb; omega)))
        have OA := Lib.hid (ocqpp3.ownT (fun b => b = Udc.heap.size ∨ b = Vcqp2.heap.size) (own_at acqpp3)).lt
        clear ocqpp3 acqpp3
        simp only [List.getElem_toArray, List.getElem_cons_succ, List.getElem_cons_zero, Act.put, List.setIfInBounds_toArray, List.set_cons_zero, List.set_cons_succ]
        refine but_two (i := 9) (j := 10) (by kernel_rfl) rfl rfl (by rfl) (by rfl) ?_ ?_
        · simp only [List.getElem_toArray, List.getElem_cons_succ, List.getElem_cons_zero]
          intro K HK
          go_wp2_with fail
          refine (HC.out _ (bstep HB.out hScqpp3)).mono ?_
          rintro r Vcqppp4 ⟨vc1, rfl, o3, hbcqppp4⟩
          obtain ⟨B3, e3, rfl, _, _⟩ := o3.shape
          go_wp2_with fail
          have hScqppp4 : (fun V => Below wb.heap.size wb V) Vcqppp4 := bstep hScqpp3 hbcqppp4
          refine HK.out _ _ (fun _ => hScqppp4) ?_
          clear HK
          have hzcqppp4 := hbcqppp4.size
          replace Q1 := Lib.hid (box_on Q1.out hbcqppp4)
          replace OT := Lib.hid (OT.out.on hbcqppp4)
          replace OA := Lib.hid (OA.out.on hbcqppp4)
          have OC := Lib.hid o3.owns.lt
          clear o3
          refine but_run (i := 10) (by kernel_rfl) rfl (by rfl) ?_
          simp only [List.getElem_toArray, List.getElem_cons_succ, List.getElem_cons_zero]
          intro K HK
          go_wp2_with fail
          have hScqppp5 : (fun V => Below wb.heap.size wb V) (Vcqppp4.alloc (.cells #[] 41)) := bstep hScqppp4 (bal1 _ _)
          refine HK.out _ _ (fun _ => hScqppp5) ?_
          clear HK
          have hBcqppp5 := bal1 Vcqppp4 (.cells #[] 41)
          have hzcqppp5 : Vcqppp4.heap.size + 1 ≤ (Vcqppp4.alloc (.cells #[] 41)).heap.size := by simp
          replace Q1 := Lib.hid (box_on Q1.out hBcqppp5)
          replace OT := Lib.hid (OT.out.on hBcqppp5)
          replace OA := Lib.hid (OA.out.on hBcqppp5)
          replace OC := Lib.hid (OC.out.on hBcqppp5)
          have hzacqppp5 := (hScqppp4).size
          have RV := Lib.hid (RowVol.lit Vcqppp4)
          generalize Vcqppp4.alloc (.cells #[] 41) = Vncqppp5 at *
          refine but_run (i := 13) (by kernel_rfl) rfl (by rfl) ?_
          simp only [List.getElem_toArray, List.getElem_cons_succ, List.getElem_cons_zero]
          intro K HK
          refine operAppVol _ (by rfl) (.tmp 13) (.tmp 15) (by rfl) Vcqppp4.heap.size _ [] (by rfl) RV.out A4 d.vo.length c4 d.vo (by rfl) rfl (HV.out.on hScqppp5) (by simp; omega) (by omega) ?_
          intro vcqppp6 Vcqppp6 ocqppp6 bcqppp6 gcqppp6 acqppp6
          rw [List.nil_append] at ocqppp6
          obtain ⟨B4, e4, rfl, _, _⟩ := ocqppp6.shape
          have hScqppp6 : (fun V => Below wb.heap.size wb V) Vcqppp6 := (hScqppp5).trans (Below.mono bcqppp6 (by omega))
          refine HK.out _ _ (fun _ => hScqppp6) ?_
          clear HK
          have hzcqppp6 := bcqppp6.size
          replace Q1 := Lib.hid (box_only Q1.out gcqppp6 (fun e => by simp [Value.ownBlock] at e; omega))
          replace OT := Lib.hid (OT.out.far gcqppp6 (fun b hb _ e => by simp [Value.ownBlock] at e; first | omega | (simp [Value.ownBlock] at hb; omega)))
          replace OA := Lib.hid (OA.out.far gcqppp6 (fun b hb _ e => by simp [Value.ownBlock] at e; first | omega | (simp [Value.ownBlock] at hb; omega)))
          replace OC := Lib.hid (OC.out.far gcqppp6 (fun b hb _ e => by simp [Value.ownBlock] at e; first | omega | (simp [Value.ownBlock] at hb; omega)))
          have OV := Lib.hid (ocqppp6.ownT (fun b => b = Vcqppp4.heap.size ∨ b = Vncqppp5.heap.size) (own_at acqppp6)).lt
          clear ocqppp6 acqppp6
          simp only [List.getElem_toArray, List.getElem_cons_succ, List.getElem_cons_zero, Act.put, List.setIfInBounds_toArray, List.set_cons_zero, List.set_cons_succ]
          refine but_take (f := 17) (i := 16) (v := ?vcqppp16) rfl (by kernel_rfl) (by kernel_rfl) (by kernel_rfl) (by kernel_rfl) (by kernel_rfl) (fun _ _ _ h => h) (Or.inl ⟨(by rfl), ?hycqppp16⟩) hScqppp6 ?restcqppp16
          case hycqppp16 =>
            intro W hW
            go_simp
            exact rfl
          simp only [List.getElem_toArray, List.getElem_cons_succ, List.getElem_cons_zero, Act.put, List.setIfInBounds_toArray, List.set_cons_zero, List.set_cons_succ]
          refine but_run (i := 17) (by kernel_rfl) rfl (by rfl) ?_
          simp only [List.getElem_toArray, List.getElem_cons_succ, List.getElem_cons_zero]
          intro K HK
          obtain ⟨z0, z1, z2, z3, z4, z5, z6⟩ := boxP Q1.out
          go_wp2_with fail
          refine HK.out _ _ (fun h => absurd rfl h) ?_
          clear HK
          refine but_done (by kernel_rfl) ?_
          go_wp2
          refine bodyPost_ret (v := .agg #[.slice B0 d.lo.length e0, .slice B1 d.ts.length e1, .slice B2 d.ag.length e2, .slice B3 d.ce.length e3, .slice B4 d.vo.length e4, .int .i64 d.nx]) (by simp [results, Tryz.results61, go_sem, z0, z1, z2, z3, z4, z5, z6]) rfl ⟨_, _, _, _, _, rfl, ?_, below_set6 (bstep HB.out hScqppp6) (by omega)⟩
          have hP : PoolC 110 Vcqppp6 (fun b => wb.heap.size ≤ b) (.slice B0 d.lo.length e0) (.slice B1 d.ts.length e1) (.slice B2 d.ag.length e2) (.slice B3 d.ce.length e3) (.slice B4 d.vo.length e4) d :=
            ⟨fun b => Vncq1.heap.size ≤ b ∧ b < Vcqp2.heap.size,
              fun b => (b = Udc.heap.size ∨ b = Vcqp2.heap.size) ∧ b < Vcqpp3.heap.size,
              fun b => Vcqpp3.heap.size ≤ b ∧ b < Vcqppp4.heap.size,
              fun b => (b = Vcqppp4.heap.size ∨ b = Vncqppp5.heap.size) ∧ b < Vcqppp6.heap.size, by intro b hb; omega, by intro b hb; omega, by intro b hb; omega, by intro b hb; omega, by intro b hb; refine ⟨?_, ?_, ?_⟩ <;> (intro h; omega), by intro b hb; refine ⟨?_, ?_⟩ <;> (intro h; omega), by intro b hb h; omega, OT.out, OA.out, OC.out, OV.out⟩
          exact (hP.set6 (p := w.heap.size + 1) (fun h => by omega)).mono (fun b hb => by omega)
        · simp only [List.getElem_toArray, List.getElem_cons_succ, List.getElem_cons_zero]
          intro K HK
          go_wp2_with fail
          have hScqppq4 : (fun V => Below wb.heap.size wb V) (Vcqpp3.alloc (.cells #[] 41)) := bstep hScqpp3 (bal1 _ _)
          refine HK.out _ _ (fun _ => hScqppq4) ?_
          clear HK
          have hBcqppq4 := bal1 Vcqpp3 (.cells #[] 41)
          have hzcqppq4 : Vcqpp3.heap.size + 1 ≤ (Vcqpp3.alloc (.cells #[] 41)).heap.size := by simp
          replace Q1 := Lib.hid (box_on Q1.out hBcqppq4)
          replace OT := Lib.hid (OT.out.on hBcqppq4)
          replace OA := Lib.hid (OA.out.on hBcqppq4)
          have hzacqppq4 := (hScqpp3).size
          have RV := Lib.hid (RowVol.lit Vcqpp3)
          generalize Vcqpp3.alloc (.cells #[] 41) = Vncqppq4 at *
          refine but_run (i := 9) (by kernel_rfl) rfl (by rfl) ?_
          simp only [List.getElem_toArray, List.getElem_cons_succ, List.getElem_cons_zero]
          intro K HK
          go_wp2_with fail
          refine (HC.out _ (bstep HB.out hScqppq4)).mono ?_
          rintro r Vcqppq5 ⟨vc1, rfl, o3, hbcqppq5⟩
          obtain ⟨B3, e3, rfl, _, _⟩ := o3.shape
          go_wp2_with fail
          have hScqppq5 : (fun V => Below wb.heap.size wb V) Vcqppq5 := bstep hScqppq4 hbcqppq5
          refine HK.out _ _ (fun _ => hScqppq5) ?_
          clear HK
          have hzcqppq5 := hbcqppq5.size
          replace Q1 := Lib.hid (box_on Q1.out hbcqppq5)
          replace OT := Lib.hid (OT.out.on hbcqppq5)
          replace OA := Lib.hid (OA.out.on hbcqppq5)
          replace RV := Lib.hid (RV.out.on hbcqppq5)
          have OC := Lib.hid o3.owns.lt
          clear o3
          refine but_run (i := 13) (by kernel_rfl) rfl (by rfl) ?_
          simp only [List.getElem_toArray, List.getElem_cons_succ, List.getElem_cons_zero]
          intro K HK
          refine operAppVol _ (by rfl) (.tmp 13) (.tmp 15) (by rfl) Vcqpp3.heap.size _ [] (by rfl) RV.out A4 d.vo.length c4 d.vo (by rfl) rfl (HV.out.on hScqppq5) (by simp; omega) (by omega) ?_
          intro vcqppq6 Vcqppq6 ocqppq6 bcqppq6 gcqppq6 acqppq6
          rw [List.nil_append] at ocqppq6
          obtain ⟨B4, e4, rfl, _, _⟩ := ocqppq6.shape
          have hScqppq6 : (fun V => Below wb.heap.size wb V) Vcqppq6 := (hScqppq5).trans (Below.mono bcqppq6 (by omega))
          refine HK.out _ _ (fun _ => hScqppq6) ?_
          clear HK
          have hzcqppq6 := bcqppq6.size
          replace Q1 := Lib.hid (box_only Q1.out gcqppq6 (fun e => by simp [Value.ownBlock] at e; omega))
          replace OT := Lib.hid (OT.out.far gcqppq6 (fun b hb _ e => by simp [Value.ownBlock] at e; first | omega | (simp [Value.ownBlock] at hb; omega)))
          replace OA := Lib.hid (OA.out.far gcqppq6 (fun b hb _ e => by simp [Value.ownBlock] at e; first | omega | (simp [Value.ownBlock] at hb; omega)))
          replace OC := Lib.hid (OC.out.far gcqppq6 (fun b hb _ e => by simp [Value.ownBlock] at e; first | omega | (simp [Value.ownBlock] at hb; omega)))
          have OV := Lib.hid (ocqppq6.ownT (fun b => b = Vcqpp3.heap.size ∨ b = Vcqppq5.heap.size) (own_at acqppq6)).lt
          clear ocqppq6 acqppq6
          simp only [List.getElem_toArray, List.getElem_cons_succ, List.getElem_cons_zero, Act.put, List.setIfInBounds_toArray, List.set_cons_zero, List.set_cons_succ]
          refine but_take (f := 17) (i := 16) (v := ?vcqppq16) rfl (by kernel_rfl) (by kernel_rfl) (by kernel_rfl) (by kernel_rfl) (by kernel_rfl) (fun _ _ _ h => h) (Or.inl ⟨(by rfl), ?hycqppq16⟩) hScqppq6 ?restcqppq16
          case hycqppq16 =>
            intro W hW
            go_simp
            exact rfl
          simp only [List.getElem_toArray, List.getElem_cons_succ, List.getElem_cons_zero, Act.put, List.setIfInBounds_toArray, List.set_cons_zero, List.set_cons_succ]
          refine but_run (i := 17) (by kernel_rfl) rfl (by rfl) ?_
          simp only [List.getElem_toArray, List.getElem_cons_succ, List.getElem_cons_zero]
          intro K HK
          obtain ⟨z0, z1, z2, z3, z4, z5, z6⟩ := boxP Q1.out
          go_wp2_with fail
          refine HK.out _ _ (fun h => absurd rfl h) ?_
          clear HK
          refine but_done (by kernel_rfl) ?_
          go_wp2
          refine bodyPost_ret (v := .agg #[.slice B0 d.lo.length e0, .slice B1 d.ts.length e1, .slice B2 d.ag.length e2, .slice B3 d.ce.length e3, .slice B4 d.vo.length e4, .int .i64 d.nx]) (by simp [results, Tryz.results61, go_sem, z0, z1, z2, z3, z4, z5, z6]) rfl ⟨_, _, _, _, _, rfl, ?_, below_set6 (bstep HB.out hScqppq6) (by omega)⟩
          have hP : PoolC 110 Vcqppq6 (fun b => wb.heap.size ≤ b) (.slice B0 d.lo.length e0) (.slice B1 d.ts.length e1) (.slice B2 d.ag.length e2) (.slice B3 d.ce.length e3) (.slice B4 d.vo.length e4) d :=
            ⟨fun b => Vncq1.heap.size ≤ b ∧ b < Vcqp2.heap.size,
              fun b => (b = Udc.heap.size ∨ b = Vcqp2.heap.size) ∧ b < Vcqpp3.heap.size,
              fun b => Vncqppq4.heap.size ≤ b ∧ b < Vcqppq5.heap.size,
              fun b => (b = Vcqpp3.heap.size ∨ b = Vcqppq5.heap.size) ∧ b < Vcqppq6.heap.size, by intro b hb; omega, by intro b hb; omega, by intro b hb; omega, by intro b hb; omega, by intro b hb; refine ⟨?_, ?_, ?_⟩ <;> (intro h; omega), by intro b hb; refine ⟨?_, ?_⟩ <;> (intro h; omega), by intro b hb h; omega, OT.out, OA.out, OC.out, OV.out⟩
          exact (hP.set6 (p := w.heap.size + 1) (fun h => by omega)).mono (fun b hb => by omega)
      · simp only [List.getElem_toArray, List.getElem_cons_succ, List.getElem_cons_zero]
        intro K HK
        go_wp2_with fail
        have hScqpq3 : (fun V => Below wb.heap.size wb V) (Vcqp2.alloc (.cells #[] 41)) := bstep hScqp2 (bal1 _ _)
        refine HK.out _ _ (fun _ => hScqpq3) ?_
        clear HK
        have hBcqpq3 := bal1 Vcqp2 (.cells #[] 41)
        have hzcqpq3 : Vcqp2.heap.size + 1 ≤ (Vcqp2.alloc (.cells #[] 41)).heap.size := by simp
        replace Q1 := Lib.hid (box_on Q1.out hBcqpq3)
        replace RA := Lib.hid (RA.out.on hBcqpq3)
        replace OT := Lib.hid (OT.out.on hBcqpq3)
        have hzacqpq3 := (hScqp2).size
        have RV := Lib.hid (RowVol.lit Vcqp2)
        generalize Vcqp2.alloc (.cells #[] 41) = Vncqpq3 at *
        refine but_run (i := 6) (by kernel_rfl) rfl (by rfl) ?_
        simp only [List.getElem_toArray, List.getElem_cons_succ, List.getElem_cons_zero]
        intro K HK
        refine operAppG _ (by rfl) (.tmp 6) (.tmp 8) (by rfl) Udc.heap.size _ [] (by rfl) RA.out A2 d.ag.length c2 d.ag (by rfl) rfl (HG.out.on hScqpq3) (by simp; omega) (by omega) ?_
        intro vcqpq4 Vcqpq4 ocqpq4 bcqpq4 gcqpq4 acqpq4
        rw [List.nil_append] at ocqpq4
        obtain ⟨B2, e2, rfl, _, _⟩ := ocqpq4.shape
        have hScqpq4 : (fun V => Below wb.heap.size wb V) Vcqpq4 := (hScqpq3).trans (Below.mono bcqpq4 (by omega))
        refine HK.out _ _ (fun _ => hScqpq4) ?_
        clear HK
        have hzcqpq4 := bcqpq4.size
        replace Q1 := Lib.hid (box_only Q1.out gcqpq4 (fun e => by simp [Value.ownBlock] at e; omega))
        replace OT := Lib.hid (OT.out.far gcqpq4 (fun b hb _ e => by simp [Value.ownBlock] at e; first | omega | (simp [Value.ownBlock] at hb; omega)))
        replace RV := Lib.hid (RV.out.far gcqpq4 (fun b hb _ e => by simp [Value.ownBlock] at e; first | omega | (simp [Value.ownBlock] at hb; omega)))
        have OA := Lib.hid (ocqpq4.ownT (fun b => b = Udc.heap.size ∨ b = Vncqpq3.heap.size) (own_at acqpq4)).lt
        clear ocqpq4 acqpq4
        simp only [List.getElem_toArray, List.getElem_cons_succ, List.getElem_cons_zero, Act.put, List.setIfInBounds_toArray, List.set_cons_zero, List.set_cons_succ]
        refine but_run (i := 9) (by kernel_rfl) rfl (by rfl) ?_
        simp only [List.getElem_toArray, List.getElem_cons_succ, List.getElem_cons_zero]
        intro K HK
        go_wp2_with fail
        refine (HC.out _ (bstep HB.out hScqpq4)).mono ?_
        rintro r Vcqpq5 ⟨vc1, rfl, o3, hbcqpq5⟩
        obtain ⟨B3, e3, rfl, _, _⟩ := o3.shape
        go_wp2_with fail
        have hScqpq5 : (fun V => Below wb.heap.size wb V) Vcqpq5 := bstep hScqpq4 hbcqpq5
        refine HK.out _ _ (fun _ => hScqpq5) ?_
        clear HK
        have hzcqpq5 := hbcqpq5.size
        replace Q1 := Lib.hid (box_on Q1.out hbcqpq5)
        replace OT := Lib.hid (OT.out.on hbcqpq5)
        replace RV := Lib.hid (RV.out.on hbcqpq5)
        replace OA := Lib.hid (OA.out.on hbcqpq5)
        have OC := Lib.hid o3.owns.lt
        clear o3
        refine but_run (i := 13) (by kernel_rfl) rfl (by rfl) ?_
        simp only [List.getElem_toArray, List.getElem_cons_succ, List.getElem_cons_zero]
        intro K HK
        refine operAppVol _ (by rfl) (.tmp 13) (.tmp 15) (by rfl) Vcqp2.heap.size _ [] (by rfl) RV.out A4 d.vo.length c4 d.vo (by rfl) rfl (HV.out.on hScqpq5) (by simp; omega) (by omega) ?_
        intro vcqpq6 Vcqpq6 ocqpq6 bcqpq6 gcqpq6 acqpq6
        rw [List.nil_append] at ocqpq6
        obtain ⟨B4, e4, rfl, _, _⟩ := ocqpq6.shape
        have hScqpq6 : (fun V => Below wb.heap.size wb V) Vcqpq6 := (hScqpq5).trans (Below.mono bcqpq6 (by omega))
        refine HK.out _ _ (fun _ => hScqpq6) ?_
        clear HK
        have hzcqpq6 := bcqpq6.size
        replace Q1 := Lib.hid (box_only Q1.out gcqpq6 (fun e => by simp [Value.ownBlock] at e; omega))
        replace OT := Lib.hid (OT.out.far gcqpq6 (fun b hb _ e => by simp [Value.ownBlock] at e; first | omega | (simp [Value.ownBlock] at hb; omega)))
        replace OA := Lib.hid (OA.out.far gcqpq6 (fun b hb _ e => by simp [Value.ownBlock] at e; first | omega | (simp [Value.ownBlock] at hb; omega)))
        replace OC := Lib.hid (OC.out.far gcqpq6 (fun b hb _ e => by simp [Value.ownBlock] at e; first | omega | (simp [Value.ownBlock] at hb; omega)))
        have OV := Lib.hid (ocqpq6.ownT (fun b => b = Vcqp2.heap.size ∨ b = Vcqpq5.heap.size) (own_at acqpq6)).lt
        clear ocqpq6 acqpq6
        simp only [List.getElem_toArray, List.getElem_cons_succ, List.getElem_cons_zero, Act.put, List.setIfInBounds_toArray, List.set_cons_zero, List.set_cons_succ]
        refine but_take (f := 17) (i := 16) (v := ?vcqpq16) rfl (by kernel_rfl) (by kernel_rfl) (by kernel_rfl) (by kernel_rfl) (by kernel_rfl) (fun _ _ _ h => h) (Or.inl ⟨(by rfl), ?hycqpq16⟩) hScqpq6 ?restcqpq16
        case hycqpq16 =>
          intro W hW
          go_simp
          exact rfl
        simp only [List.getElem_toArray, List.getElem_cons_succ, List.getElem_cons_zero, Act.put, List.setIfInBounds_toArray, List.set_cons_zero, List.set_cons_succ]
        refine but_run (i := 17) (by kernel_rfl) rfl (by rfl) ?_
        simp only [List.getElem_toArray, List.getElem_cons_succ, List.getElem_cons_zero]
        intro K HK
        obtain ⟨z0, z1, z2, z3, z4, z5, z6⟩ := boxP Q1.out
        go_wp2_with fail
        refine HK.out _ _ (fun h => absurd rfl h) ?_
        clear HK
        refine but_done (by kernel_rfl) ?_
        go_wp2
        refine bodyPost_ret (v := .agg #[.slice B0 d.lo.length e0, .slice B1 d.ts.length e1, .slice B2 d.ag.length e2, .slice B3 d.ce.length e3, .slice B4 d.vo.length e4, .int .i64 d.nx]) (by simp [results, Tryz.results61, go_sem, z0, z1, z2, z3, z4, z5, z6]) rfl ⟨_, _, _, _, _, rfl, ?_, below_set6 (bstep HB.out hScqpq6) (by omega)⟩
        have hP : PoolC 110 Vcqpq6 (fun b => wb.heap.size ≤ b) (.slice B0 d.lo.length e0) (.slice B1 d.ts.length e1) (.slice B2 d.ag.length e2) (.slice B3 d.ce.length e3) (.slice B4 d.vo.length e4) d :=
          ⟨fun b => Vncq1.heap.size ≤ b ∧ b < Vcqp2.heap.size,
            fun b => (b = Udc.heap.size ∨ b = Vncqpq3.heap.size) ∧ b < Vcqpq4.heap.size,
            fun b => Vcqpq4.heap.size ≤ b ∧ b < Vcqpq5.heap.size,
            fun b => (b = Vcqp2.heap.size ∨ b = Vcqpq5.heap.size) ∧ b < Vcqpq6.heap.size, by intro b hb; omega, by intro b hb; omega, by intro b hb; omega, by intro b hb; omega, by intro b hb; refine ⟨?_, ?_, ?_⟩ <;> (intro h; omega), by intro b hb; refine ⟨?_, ?_⟩ <;> (intro h; omega), by intro b hb h; omega, OT.out, OA.out, OC.out, OV.out⟩
        exact (hP.set6 (p := w.heap.size + 1) (fun h => by omega)).mono (fun b hb => by omega)
    · simp only [List.getElem_toArray, List.getElem_cons_succ, List.getElem_cons_zero]
      intro K HK
      go_wp2_with fail
      have hScqq2 : (fun V => Below wb.heap.size wb V) (Vncq1.alloc (.cells #[] 41)) := bstep hScq1 (bal1 _ _)
      refine HK.out _ _ (fun _ => hScqq2) ?_
      clear HK
      have hBcqq2 := bal1 Vncq1 (.cells #[] 41)
      have hzcqq2 : Vncq1.heap.size + 1 ≤ (Vncq1.alloc (.cells #[] 41)).heap.size := by simp
      replace Q1 := Lib.hid (box_on Q1.out hBcqq2)
      replace RA := Lib.hid (RA.out.on hBcqq2)
      have hzacqq2 := (hScq1).size
      have RV := Lib.hid (RowVol.lit Vncq1)
      generalize Vncq1.alloc (.cells #[] 41) = Vncqq2 at *
      refine but_run (i := 2) (by kernel_rfl) rfl (by rfl) ?_
      simp only [List.getElem_toArray, List.getElem_cons_succ, List.getElem_cons_zero]
      intro K HK
      go_wp2_with fail
      refine (HT.out _ (bstep HB.out hScqq2)).mono ?_
      rintro r Vcqq3 ⟨vl1, vn1, rfl, o1, hbcqq3⟩
      obtain ⟨B0, e0, B1, e1, rfl, rfl⟩ := o1.reads.shape
      go_wp2_with fail
      have hScqq3 : (fun V => Below wb.heap.size wb V) Vcqq3 := bstep hScqq2 hbcqq3
      refine HK.out _ _ (fun _ => hScqq3) ?_
      clear HK
      have hzcqq3 := hbcqq3.size
      replace Q1 := Lib.hid (box_on Q1.out hbcqq3)
      replace RA := Lib.hid (RA.out.on hbcqq3)
      replace RV := Lib.hid (RV.out.on hbcqq3)
      have OT := Lib.hid o1.lt.c
      clear o1
      refine but_run (i := 6) (by kernel_rfl) rfl (by rfl) ?_
      simp only [List.getElem_toArray, List.getElem_cons_succ, List.getElem_cons_zero]
      intro K HK
      refine operAppG _ (by rfl) (.tmp 6) (.tmp 8) (by rfl) Udc.heap.size _ [] (by rfl) RA.out A2 d.ag.length c2 d.ag (by rfl) rfl (HG.out.on hScqq3) (by simp; omega) (by omega) ?_
      intro vcqq4 Vcqq4 ocqq4 bcqq4 gcqq4 acqq4
      rw [List.nil_append] at ocqq4
      obtain ⟨B2, e2, rfl, _, _⟩ := ocqq4.shape
      have hScqq4 : (fun V => Below wb.heap.size wb V) Vcqq4 := (hScqq3).trans (Below.mono bcqq4 (by omega))
      refine HK.out _ _ (fun _ => hScqq4) ?_
      clear HK
      have hzcqq4 := bcqq4.size
      replace Q1 := Lib.hid (box_only Q1.out gcqq4 (fun e => by simp [Value.ownBlock] at e; omega))
      replace RV := Lib.hid (RV.out.far gcqq4 (fun b hb _ e => by simp [Value.ownBlock] at e; first | omega | (simp [Value.ownBlock] at hb; omega)))
      replace OT := Lib.hid (OT.out.far gcqq4 (fun b hb _ e => by simp [Value.ownBlock] at e; first | omega | (simp [Value.ownBlock] at hb; omega)))
      have OA := Lib.hid (ocqq4.ownT (fun b => b = Udc.heap.size ∨ b = Vcqq3.heap.size) (own_at acqq4)).lt
      clear ocqq4 acqq4
      simp only [List.getElem_toArray, List.getElem_cons_succ, List.getElem_cons_zero, Act.put, List.setIfInBounds_toArray, List.set_cons_zero, List.set_cons_succ]
      refine but_run (i := 9) (by kernel_rfl) rfl (by rfl) ?_
      simp only [List.getElem_toArray, List.getElem_cons_succ, List.getElem_cons_zero]
      intro K HK
      go_wp2_with fail
      refine (HC.out _ (bstep HB.out hScqq4)).mono ?_
      rintro r Vcqq5 ⟨vc1, rfl, o3, hbcqq5⟩
      obtain ⟨B3, e3, rfl, _, _⟩ := o3.shape
      go_wp2_with fail
      have hScqq5 : (fun V => Below wb.heap.size wb V) Vcqq5 := bstep hScqq4 hbcqq5
      refine HK.out _ _ (fun _ => hScqq5) ?_
      clear HK
      have hzcqq5 := hbcqq5.size
      replace Q1 := Lib.hid (box_on Q1.out hbcqq5)
      replace RV := Lib.hid (RV.out.on hbcqq5)
      replace OT := Lib.hid (OT.out.on hbcqq5)
      replace OA := Lib.hid (OA.out.on hbcqq5)
      have OC := Lib.hid o3.owns.lt
      clear o3
      refine but_run (i := 13) (by kernel_rfl) rfl (by rfl) ?_
      simp only [List.getElem_toArray, List.getElem_cons_succ, List.getElem_cons_zero]
      intro K HK
      refine operAppVol _ (by rfl) (.tmp 13) (.tmp 15) (by rfl) Vncq1.heap.size _ [] (by rfl) RV.out A4 d.vo.length c4 d.vo (by rfl) rfl (HV.out.on hScqq5) (by simp; omega) (by omega) ?_
      intro vcqq6 Vcqq6 ocqq6 bcqq6 gcqq6 acqq6
      rw [List.nil_append] at ocqq6
      obtain ⟨B4, e4, rfl, _, _⟩ := ocqq6.shape
      have hScqq6 : (fun V => Below wb.heap.size wb V) Vcqq6 := (hScqq5).trans (Below.mono bcqq6 (by omega))
      refine HK.out _ _ (fun _ => hScqq6) ?_
      clear HK
      have hzcqq6 := bcqq6.size
      replace Q1 := Lib.hid (box_only Q1.out gcqq6 (fun e => by simp [Value.ownBlock] at e; omega))
      replace OT := Lib.hid (OT.out.far gcqq6 (fun b hb _ e => by simp [Value.ownBlock] at e; first | omega | (simp [Value.ownBlock] at hb; omega)))
      replace OA := Lib.hid (OA.out.far gcqq6 (fun b hb _ e => by simp [Value.ownBlock] at e; first | omega | (simp [Value.ownBlock] at hb; omega)))
      replace OC := Lib.hid (OC.out.far gcqq6 (fun b hb _ e => by simp [Value.ownBlock] at e; first | omega | (simp [Value.ownBlock] at hb; omega)))
      have OV := Lib.hid (ocqq6.ownT (fun b => b = Vncq1.heap.size ∨ b = Vcqq5.heap.size) (own_at acqq6)).lt
      clear ocqq6 acqq6
      simp only [List.getElem_toArray, List.getElem_cons_succ, List.getElem_cons_zero, Act.put, List.setIfInBounds_toArray, List.set_cons_zero, List.set_cons_succ]
      refine but_take (f := 17) (i := 16) (v := ?vcqq16) rfl (by kernel_rfl) (by kernel_rfl) (by kernel_rfl) (by kernel_rfl) (by kernel_rfl) (fun _ _ _ h => h) (Or.inl ⟨(by rfl), ?hycqq16⟩) hScqq6 ?restcqq16
      case hycqq16 =>
        intro W hW
        go_simp
        exact rfl
      simp only [List.getElem_toArray, List.getElem_cons_succ, List.getElem_cons_zero, Act.put, List.setIfInBounds_toArray, List.set_cons_zero, List.set_cons_succ]
      refine but_run (i := 17) (by kernel_rfl) rfl (by rfl) ?_
      simp only [List.getElem_toArray, List.getElem_cons_succ, List.getElem_cons_zero]
      intro K HK
      obtain ⟨z0, z1, z2, z3, z4, z5, z6⟩ := boxP Q1.out
      go_wp2_with fail
      refine HK.out _ _ (fun h => absurd rfl h) ?_
      clear HK
      refine but_done (by kernel_rfl) ?_
      go_wp2
      refine bodyPost_ret (v := .agg #[.slice B0 d.lo.length e0, .slice B1 d.ts.length e1, .slice B2 d.ag.length e2, .slice B3 d.ce.length e3, .slice B4 d.vo.length e4, .int .i64 d.nx]) (by simp [results, Tryz.results61, go_sem, z0, z1, z2, z3, z4, z5, z6]) rfl ⟨_, _, _, _, _, rfl, ?_, below_set6 (bstep HB.out hScqq6) (by omega)⟩
      have hP : PoolC 110 Vcqq6 (fun b => wb.heap.size ≤ b) (.slice B0 d.lo.length e0) (.slice B1 d.ts.length e1) (.slice B2 d.ag.length e2) (.slice B3 d.ce.length e3) (.slice B4 d.vo.length e4) d :=
        ⟨fun b => Vncqq2.heap.size ≤ b ∧ b < Vcqq3.heap.size,
          fun b => (b = Udc.heap.size ∨ b = Vcqq3.heap.size) ∧ b < Vcqq4.heap.size,
          fun b => Vcqq4.heap.size ≤ b ∧ b < Vcqq5.heap.size,
          fun b => (b = Vncq1.heap.size ∨ b = Vcqq5.heap.size) ∧ b < Vcqq6.heap.size, by intro b hb; omega, by intro b hb; omega, by intro b hb; omega, by intro b hb; omega, by intro b hb; refine ⟨?_, ?_, ?_⟩ <;> (intro h; omega), by intro b hb; refine ⟨?_, ?_⟩ <;> (intro h; omega), by intro b hb h; omega, OT.out, OA.out, OC.out, OV.out⟩
      exact (hP.set6 (p := w.heap.size + 1) (fun h => by omega)).mono (fun b hb => by omega)
  · simp only [List.getElem_toArray, List.getElem_cons_succ, List.getElem_cons_zero]
    intro K HK
    go_wp2_with fail
    have hScr1 : (fun V => Below wb.heap.size wb V) (Udc.alloc (.cells #[] 41)) := bstep hS0c (bal1 _ _)
    refine HK.out _ _ (fun _ => hScr1) ?_
    clear HK
    have hBcr1 := bal1 Udc (.cells #[] 41)
    have hzcr1 : Udc.heap.size + 1 ≤ (Udc.alloc (.cells #[] 41)).heap.size := by simp
    replace Q1 := Lib.hid (box_on Q1.out hBcr1)
    have hzacr1 := (hS0c).size
    have RV := Lib.hid (RowVol.lit Udc)
    generalize Udc.alloc (.cells #[] 41) = Vncr1 at *
    refine but_two (i := 2) (j := 3) (by kernel_rfl) rfl rfl (by rfl) (by rfl) ?_ ?_
    · simp only [List.getElem_toArray, List.getElem_cons_succ, List.getElem_cons_zero]
      intro K HK
      go_wp2_with fail
      refine (HT.out _ (bstep HB.out hScr1)).mono ?_
      rintro r Vcrp2 ⟨vl1, vn1, rfl, o1, hbcrp2⟩
      obtain ⟨B0, e0, B1, e1, rfl, rfl⟩ := o1.reads.shape
      go_wp2_with fail
      have hScrp2 : (fun V => Below wb.heap.size wb V) Vcrp2 := bstep hScr1 hbcrp2
      refine HK.out _ _ (fun _ => hScrp2) ?_
      clear HK
      have hzcrp2 := hbcrp2.size
      replace Q1 := Lib.hid (box_on Q1.out hbcrp2)
      replace RV := Lib.hid (RV.out.on hbcrp2)
      have OT := Lib.hid o1.lt.c
      clear o1
      refine but_run (i := 3) (by kernel_rfl) rfl (by rfl) ?_
      simp only [List.getElem_toArray, List.getElem_cons_succ, List.getElem_cons_zero]
      intro K HK
      go_wp2_with fail
      have hScrp3 : (fun V => Below wb.heap.size wb V) (Vcrp2.alloc (.cells #[] 155)) := bstep hScrp2 (bal1 _ _)
      refine HK.out _ _ (fun _ => hScrp3) ?_
      clear HK
      have hBcrp3 := bal1 Vcrp2 (.cells #[] 155)
      have hzcrp3 : Vcrp2.heap.size + 1 ≤ (Vcrp2.alloc (.cells #[] 155)).heap.size := by simp
      replace Q1 := Lib.hid (box_on Q1.out hBcrp3)
      replace RV := Lib.hid (RV.out.on hBcrp3)
      replace OT := Lib.hid (OT.out.on hBcrp3)
      have hzacrp3 := (hScrp2).size
      have RA := Lib.hid (show RowG (Vcrp2.alloc (.cells #[] 155)) Vcrp2.heap.size (.slice (some ⟨Vcrp2.heap.size, 0, none⟩) 0 0) [] from row_lit Vcrp2 155 2)
      generalize Vcrp2.alloc (.cells #[] 155) = Vncrp3 at *
      refine but_run (i := 6) (by kernel_rfl) rfl (by rfl) ?_
      simp only [List.getElem_toArray, List.getElem_cons_succ, List.getElem_cons_zero]
      intro K HK
      refine operAppG _ (by rfl) (.tmp 6) (.tmp 8) (by rfl) Vcrp2.heap.size _ [] (by rfl) RA.out A2 d.ag.length c2 d.ag (by rfl) rfl (HG.out.on hScrp3) (by simp; omega) (by omega) ?_
      intro vcrp4 Vcrp4 ocrp4 bcrp4 gcrp4 acrp4
      rw [List.nil_append] at ocrp4
      obtain ⟨B2, e2, rfl, _, _⟩ := ocrp4.shape
      have hScrp4 : (fun V => Below wb.heap.size wb V) Vcrp4 := (hScrp3).trans (Below.mono bcrp4 (by omega))
      refine HK.out _ _ (fun _ => hScrp4) ?_
      clear HK
      have hzcrp4 := bcrp4.size
      replace Q1 := Lib.hid (box_only Q1.out gcrp4 (fun e => by simp [Value.ownBlock] at e; omega))
      replace RV := Lib.hid (RV.out.far gcrp4 (fun b hb _ e => by simp [Value.ownBlock] at e; first | omega | (simp [Value.ownBlock] at hb; omega)))
      replace OT := Lib.hid (OT.out.far gcrp4 (fun b hb _ e => by simp [Value.ownBlock] at e; first | omega | (simp [Value.ownBlock] at hb; omega)))
      have OA := Lib.hid (ocrp4.ownT (fun b => b = Vcrp2.heap.size ∨ b = Vncrp3.heap.size) (own_at acrp4)).lt
      clear ocrp4 acrp4
      simp only [List.getElem_toArray, List.getElem_cons_succ, List.getElem_cons_zero, Act.put, List.setIfInBounds_toArray, List.set_cons_zero, List.set_cons_succ]
      refine but_run (i := 9) (by kernel_rfl) rfl (by rfl) ?_
      simp only [List.getElem_toArray, List.getElem_cons_succ, List.getElem_cons_zero]
      intro K HK
      go_wp2_with fail
      refine (HC.out _ (bstep HB.out hScrp4)).mono ?_
      rintro r Vcrp5 ⟨vc1, rfl, o3, hbcrp5⟩
      obtain ⟨B3, e3, rfl, _, _⟩ := o3.shape
      go_wp2_with fail
      have hScrp5 : (fun V => Below wb.heap.size wb V) Vcrp5 := bstep hScrp4 hbcrp5
      refine HK.out _ _ (fun _ => hScrp5) ?_
      clear HK
      have hzcrp5 := hbcrp5.size
      replace Q1 := Lib.hid (box_on Q1.out hbcrp5)
      replace RV := Lib.hid (RV.out.on hbcrp5)
      replace OT := Lib.hid (OT.out.on hbcrp5)
      replace OA := Lib.hid (OA.out.on hbcrp5)
      have OC := Lib.hid o3.owns.lt
      clear o3
      refine but_run (i := 13) (by kernel_rfl) rfl (by rfl) ?_
      simp only [List.getElem_toArray, List.getElem_cons_succ, List.getElem_cons_zero]
      intro K HK
      refine operAppVol _ (by rfl) (.tmp 13) (.tmp 15) (by rfl) Udc.heap.size _ [] (by rfl) RV.out A4 d.vo.length c4 d.vo (by rfl) rfl (HV.out.on hScrp5) (by simp; omega) (by omega) ?_
      intro vcrp6 Vcrp6 ocrp6 bcrp6 gcrp6 acrp6
      rw [List.nil_append] at ocrp6
      obtain ⟨B4, e4, rfl, _, _⟩ := ocrp6.shape
      have hScrp6 : (fun V => Below wb.heap.size wb V) Vcrp6 := (hScrp5).trans (Below.mono bcrp6 (by omega))
      refine HK.out _ _ (fun _ => hScrp6) ?_
      clear HK
      have hzcrp6 := bcrp6.size
      replace Q1 := Lib.hid (box_only Q1.out gcrp6 (fun e => by simp [Value.ownBlock] at e; omega))
      replace OT := Lib.hid (OT.out.far gcrp6 (fun b hb _ e => by simp [Value.ownBlock] at e; first | omega | (simp [Value.ownBlock] at hb; omega)))
      replace OA := Lib.hid (OA.out.far gcrp6 (fun b hb _ e => by simp [Value.ownBlock] at e; first | omega | (simp [Value.ownBlock] at hb; omega)))
      replace OC := Lib.hid (OC.out.far gcrp6 (fun b hb _ e => by simp [Value.ownBlock] at e; first | omega | (simp [Value.ownBlock] at hb; omega)))
      have OV := Lib.hid (ocrp6.ownT (fun b => b = Udc.heap.size ∨ b = Vcrp5.heap.size) (own_at acrp6)).lt
      clear ocrp6 acrp6
      simp only [List.getElem_toArray, List.getElem_cons_succ, List.getElem_cons_zero, Act.put, List.setIfInBounds_toArray, List.set_cons_zero, List.set_cons_succ]
      refine but_take (f := 17) (i := 16) (v := ?vcrp16) rfl (by kernel_rfl) (by kernel_rfl) (by kernel_rfl) (by kernel_rfl) (by kernel_rfl) (fun _ _ _ h => h) (Or.inl ⟨(by rfl), ?hycrp16⟩) hScrp6 ?restcrp16
      case hycrp16 =>
        intro W hW
        go_simp
        exact rfl
      simp only [List.getElem_toArray, List.getElem_cons_succ, List.getElem_cons_zero, Act.put, List.setIfInBounds_toArray, List.set_cons_zero, List.set_cons_succ]
      refine but_run (i := 17) (by kernel_rfl) rfl (by rfl) ?_
      simp only [List.getElem_toArray, List.getElem_cons_succ, List.getElem_cons_zero]
      intro K HK
      obtain ⟨z0, z1, z2, z3, z4, z5, z6⟩ := boxP Q1.out
      go_wp2_with fail
      refine HK.out _ _ (fun h => absurd rfl h) ?_
      clear HK
      refine but_done (by kernel_rfl) ?_
      go_wp2
      refine bodyPost_ret (v := .agg #[.slice B0 d.lo.length e0, .slice B1 d.ts.length e1, .slice B2 d.ag.length e2, .slice B3 d.ce.length e3, .slice B4 d.vo.length e4, .int .i64 d.nx]) (by simp [results, Tryz.results61, go_sem, z0, z1, z2, z3, z4, z5, z6]) rfl ⟨_, _, _, _, _, rfl, ?_, below_set6 (bstep HB.out hScrp6) (by omega)⟩
      have hP : PoolC 110 Vcrp6 (fun b => wb.heap.size ≤ b) (.slice B0 d.lo.length e0) (.slice B1 d.ts.length e1) (.slice B2 d.ag.length e2) (.slice B3 d.ce.length e3) (.slice B4 d.vo.length e4) d :=
        ⟨fun b => Vncr1.heap.size ≤ b ∧ b < Vcrp2.heap.size,
          fun b => (b = Vcrp2.heap.size ∨ b = Vncrp3.heap.size) ∧ b < Vcrp4.heap.size,
          fun b => Vcrp4.heap.size ≤ b ∧ b < Vcrp5.heap.size,
          fun b => (b = Udc.heap.size ∨ b = Vcrp5.heap.size) ∧ b < Vcrp6.heap.size, by intro b hb; omega, by intro b hb; omega, by intro b hb; omega, by intro b hb; omega, by intro b hb; refine ⟨?_, ?_, ?_⟩ <;> (intro h; omega), by intro b hb; refine ⟨?_, ?_⟩ <;> (intro h; omega), by intro b hb h; omega, OT.out, OA.out, OC.out, OV.out⟩
      exact (hP.set6 (p := w.heap.size + 1) (fun h => by omega)).mono (fun b hb => by omega)
    · simp only [List.getElem_toArray, List.getElem_cons_succ, List.getElem_cons_zero]
      intro K HK
      go_wp2_with fail
      have hScrq2 : (fun V => Below wb.heap.size wb V) (Vncr1.alloc (.cells #[] 155)) := bstep hScr1 (bal1 _ _)
      refine HK.out _ _ (fun _ => hScrq2) ?_
      clear HK
      have hBcrq2 := bal1 Vncr1 (.cells #[] 155)
      have hzcrq2 : Vncr1.heap.size + 1 ≤ (Vncr1.alloc (.cells #[] 155)).heap.size := by simp
      replace Q1 := Lib.hid (box_on Q1.out hBcrq2)
      replace RV := Lib.hid (RV.out.on hBcrq2)
      have hzacrq2 := (hScr1).size
      have RA := Lib.hid (show RowG (Vncr1.alloc (.cells #[] 155)) Vncr1.heap.size (.slice (some ⟨Vncr1.heap.size, 0, none⟩) 0 0) [] from row_lit Vncr1 155 2)
      generalize Vncr1.alloc (.cells #[] 155) = Vncrq2 at *
      refine but_run (i := 2) (by kernel_rfl) rfl (by rfl) ?_
      simp only [List.getElem_toArray, List.getElem_cons_succ, List.getElem_cons_zero]
      intro K HK
      go_wp2_with fail
      refine (HT.out _ (bstep HB.out hScrq2)).mono ?_
      rintro r Vcrq3 ⟨vl1, vn1, rfl, o1, hbcrq3⟩
      obtain ⟨B0, e0, B1, e1, rfl, rfl⟩ := o1.reads.shape
      go_wp2_with fail
      have hScrq3 : (fun V => Below wb.heap.size wb V) Vcrq3 := bstep hScrq2 hbcrq3
      refine HK.out _ _ (fun _ => hScrq3) ?_
      clear HK
      have hzcrq3 := hbcrq3.size
      replace Q1 := Lib.hid (box_on Q1.out hbcrq3)
      replace RV := Lib.hid (RV.out.on hbcrq3)
      replace RA := Lib.hid (RA.out.on hbcrq3)
      have OT := Lib.hid o1.lt.c
      clear o1
      refine but_run (i := 6) (by kernel_rfl) rfl (by rfl) ?_
      simp only [List.getElem_toArray, List.getElem_cons_succ, List.getElem_cons_zero]
      intro K HK
      refine operAppG _ (by rfl) (.tmp 6) (.tmp 8) (by rfl) Vncr1.heap.size _ [] (by rfl) RA.out A2 d.ag.length c2 d.ag (by rfl) rfl (HG.out.on hScrq3) (by simp; omega) (by omega) ?_
      intro vcrq4 Vcrq4 ocrq4 bcrq4 gcrq4 acrq4
      rw [List.nil_append] at ocrq4
      obtain ⟨B2, e2, rfl, _, _⟩ := ocrq4.shape
      have hScrq4 : (fun V => Below wb.heap.size wb V) Vcrq4 := (hScrq3).trans (Below.mono bcrq4 (by omega))
      refine HK.out _ _ (fun _ => hScrq4) ?_
      clear HK
      have hzcrq4 := bcrq4.size
      replace Q1 := Lib.hid (box_only Q1.out gcrq4 (fun e => by simp [Value.ownBlock] at e; omega))
      replace RV := Lib.hid (RV.out.far gcrq4 (fun b hb _ e => by simp [Value.ownBlock] at e; first | omega | (simp [Value.ownBlock] at hb; omega)))
      replace OT := Lib.hid (OT.out.far gcrq4 (fun b hb _ e => by simp [Value.ownBlock] at e; first | omega | (simp [Value.ownBlock] at hb; omega)))
      have OA := Lib.hid (ocrq4.ownT (fun b => b = Vncr1.heap.size ∨ b = Vcrq3.heap.size) (own_at acrq4)).lt
      clear ocrq4 acrq4
      simp only [List.getElem_toArray, List.getElem_cons_succ, List.getElem_cons_zero, Act.put, List.setIfInBounds_toArray, List.set_cons_zero, List.set_cons_succ]
      refine but_run (i := 9) (by kernel_rfl) rfl (by rfl) ?_
      simp only [List.getElem_toArray, List.getElem_cons_succ, List.getElem_cons_zero]
      intro K HK
      go_wp2_with fail
      refine (HC.out _ (bstep HB.out hScrq4)).mono ?_
      rintro r Vcrq5 ⟨vc1, rfl, o3, hbcrq5⟩
      obtain ⟨B3, e3, rfl, _, _⟩ := o3.shape
      go_wp2_with fail
      have hScrq5 : (fun V => Below wb.heap.size wb V) Vcrq5 := bstep hScrq4 hbcrq5
      refine HK.out _ _ (fun _ => hScrq5) ?_
      clear HK
      have hzcrq5 := hbcrq5.size
      replace Q1 := Lib.hid (box_on Q1.out hbcrq5)
      replace RV := Lib.hid (RV.out.on hbcrq5)
      replace OT := Lib.hid (OT.out.on hbcrq5)
      replace OA := Lib.hid (OA.out.on hbcrq5)
      have OC := Lib.hid o3.owns.lt
      clear o3
      refine but_run (i := 13) (by kernel_rfl) rfl (by rfl) ?_
      simp only [List.getElem_toArray, List.getElem_cons_succ, List.getElem_cons_zero]
      intro K HK
      refine operAppVol _ (by rfl) (.tmp 13) (.tmp 15) (by rfl) Udc.heap.size _ [] (by rfl) RV.out A4 d.vo.length c4 d.vo (by rfl) rfl (HV.out.on hScrq5) (by simp; omega) (by omega) ?_
      intro vcrq6 Vcrq6 ocrq6 bcrq6 gcrq6 acrq6
      rw [List.nil_append] at ocrq6
      obtain ⟨B4, e4, rfl, _, _⟩ := ocrq6.shape
      have hScrq6 : (fun V => Below wb.heap.size wb V) Vcrq6 := (hScrq5).trans (Below.mono bcrq6 (by omega))
      refine HK.out _ _ (fun _ => hScrq6) ?_
      clear HK
      have hzcrq6 := bcrq6.size
      replace Q1 := Lib.hid (box_only Q1.out gcrq6 (fun e => by simp [Value.ownBlock] at e; omega))
      replace OT := Lib.hid (OT.out.far gcrq6 (fun b hb _ e => by simp [Value.ownBlock] at e; first | omega | (simp [Value.ownBlock] at hb; omega)))
      replace OA := Lib.hid (OA.out.far gcrq6 (fun b hb _ e => by simp [Value.ownBlock] at e; first | omega | (simp [Value.ownBlock] at hb; omega)))
      replace OC := Lib.hid (OC.out.far gcrq6 (fun b hb _ e => by simp [Value.ownBlock] at e; first | omega | (simp [Value.ownBlock] at hb; omega)))
      have OV := Lib.hid (ocrq6.ownT (fun b => b = Udc.heap.size ∨ b = Vcrq5.heap.size) (own_at acrq6)).lt
      clear ocrq6 acrq6
      simp only [List.getElem_toArray, List.getElem_cons_succ, List.getElem_cons_zero, Act.put, List.setIfInBounds_toArray, List.set_cons_zero, List.set_cons_succ]
      refine but_take (f := 17) (i := 16) (v := ?vcrq16) rfl (by kernel_rfl) (by kernel_rfl) (by kernel_rfl) (by kernel_rfl) (by kernel_rfl) (fun _ _ _ h => h) (Or.inl ⟨(by rfl), ?hycrq16⟩) hScrq6 ?restcrq16
      case hycrq16 =>
        intro W hW
        go_simp
        exact rfl
      simp only [List.getElem_toArray, List.getElem_cons_succ, List.getElem_cons_zero, Act.put, List.setIfInBounds_toArray, List.set_cons_zero, List.set_cons_succ]
      refine but_run (i := 17) (by kernel_rfl) rfl (by rfl) ?_
      simp only [List.getElem_toArray, List.getElem_cons_succ, List.getElem_cons_zero]
      intro K HK
      obtain ⟨z0, z1, z2, z3, z4, z5, z6⟩ := boxP Q1.out
      go_wp2_with fail
      refine HK.out _ _ (fun h => absurd rfl h) ?_
      clear HK
      refine but_done (by kernel_rfl) ?_
      go_wp2
      refine bodyPost_ret (v := .agg #[.slice B0 d.lo.length e0, .slice B1 d.ts.length e1, .slice B2 d.ag.length e2, .slice B3 d.ce.length e3, .slice B4 d.vo.length e4, .int .i64 d.nx]) (by simp [results, Tryz.results61, go_sem, z0, z1, z2, z3, z4, z5, z6]) rfl ⟨_, _, _, _, _, rfl, ?_, below_set6 (bstep HB.out hScrq6) (by omega)⟩
      have hP : PoolC 110 Vcrq6 (fun b => wb.heap.size ≤ b) (.slice B0 d.lo.length e0) (.slice B1 d.ts.length e1) (.slice B2 d.ag.length e2) (.slice B3 d.ce.length e3) (.slice B4 d.vo.length e4) d :=
        ⟨fun b => Vncrq2.heap.size ≤ b ∧ b < Vcrq3.heap.size,
          fun b => (b = Vncr1.heap.size ∨ b = Vcrq3.heap.size) ∧ b < Vcrq4.heap.size,
          fun b => Vcrq4.heap.size ≤ b ∧ b < Vcrq5.heap.size,
          fun b => (b = Udc.heap.size ∨ b = Vcrq5.heap.size) ∧ b < Vcrq6.heap.size, by intro b hb; omega, by intro b hb; omega, by intro b hb; omega, by intro b hb; omega, by intro b hb; refine ⟨?_, ?_, ?_⟩ <;> (intro h; omega), by intro b hb; refine ⟨?_, ?_⟩ <;> (intro h; omega), by intro b hb h; omega, OT.out, OA.out, OC.out, OV.out⟩
      exact (hP.set6 (p := w.heap.size + 1) (fun h => by omega)).mono (fun b hb => by omega)
end Go.Proofs.YtlhemcjahcmdeaaGreatDoor
namespace Go.Proofs.YtlhemcjahcmdeaaGreatDoor
open Go.RowKit
set_option maxRecDepth 100000
set_option linter.unusedSimpArgs false
set_option linter.unusedVariables false

def SaysN (w : World) (n : Int) (e : Ending) (w' : World) : Prop := e = .returned (.int .i64 n) ∧ Below w.heap.size w w'
def formN (d : PoolD) (s : ByteArray) : Int := if mayB d s then 0 else 1
def volN (d : PoolD) (s : ByteArray) : Int := if mayB d s then (if volK s d.vo < 0 then 2 else 0) else 1
set_option maxHeartbeats 1000000 in
theorem l11Form_any {t : TypeId} (vl vn va vc vv : Value) (d : PoolD) (s : ByteArray) (w : World) (h : RdP t w w.heap.size vl vn va vc vv d) (hs : SmallP d) (hnm : ∀ k ∈ d.vo, k.a.size ≤ maxLen) (hz : s.size ≤ maxLen) :
    Calls Tryz.prog 60 #[.agg #[vl, vn, va, vc, vv, .int .i64 d.nx], .string s] w (SaysN w (formN d s)) := by
  have HP := Lib.hid (fun W b => specPoolOk_any vl vn va vc vv d W (h.on b) hs hnm)
  have HN := Lib.hid (fun W => specNameOk_any s W hz)
  obtain ⟨A0, Ac0, A1, Ac1, A2, Ac2, A3, Ac3, A4, Ac4, rfl, rfl, rfl, rfl, rfl⟩ := h.shape
  have HB := Lib.hid (bal1 w (.cells #[.slice A0 d.lo.length Ac0, .slice A1 d.ts.length Ac1, .slice A2 d.ag.length Ac2, .slice A3 d.ce.length Ac3, .slice A4 d.vo.length Ac4, .int .i64 d.nx] 32))
  have Q0 := Lib.hid (al1 w (.cells #[.slice A0 d.lo.length Ac0, .slice A1 d.ts.length Ac1, .slice A2 d.ag.length Ac2, .slice A3 d.ce.length Ac3, .slice A4 d.vo.length Ac4, .int .i64 d.nx] 32))
  obtain ⟨p, hp⟩ : ∃ p, poolOkB d = p := ⟨_, rfl⟩
  obtain ⟨m, hm⟩ : ∃ m, nameOkB s = m := ⟨_, rfl⟩
  rw [hp] at HP
  rw [hm] at HN
  have HF := Lib.hid (show formN d s = if (p && m) then 0 else 1 by unfold formN mayB; rw [hp, hm])
  clear h hs hnm hz hp hm
  go_enter Tryz.func60, Tryz.ntmps60
  go_upto_region 1 with (fail)
  generalize w.alloc (.cells #[.slice A0 d.lo.length Ac0, .slice A1 d.ts.length Ac1, .slice A2 d.ag.length Ac2, .slice A3 d.ce.length Ac3, .slice A4 d.vo.length Ac4, .int .i64 d.nx] 32) = W at *
  obtain ⟨x0, x1, x2, x3, x4, x5, x6⟩ := boxP Q0.out
  go_wp2_with fail
  refine (HP.out _ HB.out).mono ?_
  rintro e w1 ⟨rfl, b1⟩
  have B1 := Lib.hid (bstep HB.out b1)
  clear x0 x1 x2 x3 x4 x5 x6 b1
  cases p
  · go_wp2
    go_ret
    exact ⟨by rw [HF.out]; rfl, B1.out⟩
  · go_wp2_with fail
    refine (HN.out _).mono ?_
    rintro e _ ⟨rfl, rfl⟩
    cases m
    all_goals
      go_wp2
      go_ret
      exact ⟨by rw [HF.out]; rfl, B1.out⟩
set_option maxHeartbeats 1000000 in
theorem l11Vol_any {t : TypeId} (vl vn va vc vv : Value) (d : PoolD) (s : ByteArray) (w : World) (h : RdP t w w.heap.size vl vn va vc vv d) (hs : SmallP d) (hnm : ∀ k ∈ d.vo, k.a.size ≤ maxLen) (hz : s.size ≤ maxLen) :
    Calls Tryz.prog 73 #[.agg #[vl, vn, va, vc, vv, .int .i64 d.nx], .string s] w (SaysN w (volN d s)) := by
  have hv := hs.2.2.2
  have HP := Lib.hid (fun W b => l11Form_any vl vn va vc vv d s W (h.on b) hs hnm hz)
  have HN := Lib.hid (fun W b => specVolAt_any vl vn va vc vv d s W (h.on b) (by omega))
  obtain ⟨A0, Ac0, A1, Ac1, A2, Ac2, A3, Ac3, A4, Ac4, rfl, rfl, rfl, rfl, rfl⟩ := h.shape
  have HB := Lib.hid (bal1 w (.cells #[.slice A0 d.lo.length Ac0, .slice A1 d.ts.length Ac1, .slice A2 d.ag.length Ac2, .slice A3 d.ce.length Ac3, .slice A4 d.vo.length Ac4, .int .i64 d.nx] 32))
  have Q0 := Lib.hid (al1 w (.cells #[.slice A0 d.lo.length Ac0, .slice A1 d.ts.length Ac1, .slice A2 d.ag.length Ac2, .slice A3 d.ce.length Ac3, .slice A4 d.vo.length Ac4, .int .i64 d.nx] 32))
  obtain ⟨m, hm⟩ : ∃ m, mayB d s = m := ⟨_, rfl⟩
  obtain ⟨K, hK⟩ : ∃ K, volK s d.vo = K := ⟨_, rfl⟩
  rw [show formN d s = if m then 0 else 1 by unfold formN; rw [hm]] at HP
  rw [hK] at HN
  have HF := Lib.hid (show volN d s = if m then (if K < 0 then 2 else 0) else 1 by unfold volN; rw [hm, hK])
  clear h hs hnm hz hm hK hv
  go_enter Tryz.func73, Tryz.ntmps73
  go_upto_region 1 with (fail)
  generalize w.alloc (.cells #[.slice A0 d.lo.length Ac0, .slice A1 d.ts.length Ac1, .slice A2 d.ag.length Ac2, .slice A3 d.ce.length Ac3, .slice A4 d.vo.length Ac4, .int .i64 d.nx] 32) = W at *
  obtain ⟨x0, x1, x2, x3, x4, x5, x6⟩ := boxP Q0.out
  go_wp2_with fail
  refine (HP.out _ HB.out).mono ?_
  rintro e w1 ⟨rfl, b1⟩
  have B1 := Lib.hid (bstep HB.out b1)
  clear x0 x1 x2 x3 x4 x5 x6
  obtain ⟨x0, x1, x2, x3, x4, x5, x6⟩ := boxP (box_on Q0.out b1)
  clear b1
  cases m
  · rw [show (if false = true then (0 : Int) else 1) = 1 from rfl]
    go_wp2
    go_ret
    exact ⟨by rw [HF.out]; rfl, B1.out⟩
  · rw [show (if true = true then (0 : Int) else 1) = 0 from rfl]
    go_wp2_with fail
    refine (HN.out _ B1.out).mono ?_
    rintro e w2 ⟨rfl, b2⟩
    have B2 := Lib.hid (bstep B1.out b2)
    clear x0 x1 x2 x3 x4 x5 x6 b2
    by_cases hk : K < 0
    · have d1 : decide (K < 0) = true := decide_eq_true hk
      have HX : Hid (volN d s = 2) := Lib.hid (by rw [HF.out]; simp [hk])
      clear hk
      go_wp2
      go_ret
      exact ⟨by rw [HX.out]; rfl, B2.out⟩
    · have d1 : decide (K < 0) = false := decide_eq_false hk
      have HX : Hid (volN d s = 0) := Lib.hid (by rw [HF.out]; simp [hk])
      clear hk
      go_wp2
      go_ret
      exact ⟨by rw [HX.out]; rfl, B2.out⟩
/-- A pool behind a change, if it is right, and its code. -/
def endD (d x : PoolD) (ok : Bool) : Res := if ok && poolOkB x then (x, 0) else (d, 6)
theorem end_yes {d x : PoolD} (h : poolOkB x = true) : endD d x true = (x, 0) := by unfold endD; rw [h]; rfl
theorem end_full {d x : PoolD} (h : poolOkB x = false) : endD d x true = (d, 6) := by unfold endD; rw [h]; rfl
/-- The call yields the pool in blocks of S or new ones, and a code. -/
def EndP (w : World) (S : Nat → Prop) (r : PoolD × Int) (e : Ending) (w' : World) : Prop := ∃ t vl vn va vc vv, e = .returned (.tuple #[.agg #[vl, vn, va, vc, vv, .int .i64 r.1.nx], .int .i64 r.2]) ∧ PoolC t w' (fun b => S b ∨ w.heap.size ≤ b) vl vn va vc vv r.1 ∧ Below w.heap.size w w'
set_option maxHeartbeats 2000000 in
theorem l11End_any {t t2 : TypeId} (vl vn va vc vv ul un ua uc uv : Value) (d x : PoolD) (ok : Bool) (S : Nat → Prop) (w : World) (h : RdP t w w.heap.size vl vn va vc vv d) (hs : SmallP d) (hx : PoolC t2 w S ul un ua uc uv x) (hk : ok = true → SmallP x ∧ ∀ k ∈ x.vo, k.a.size ≤ maxLen) :
    Calls Tryz.prog 66 #[.agg #[vl, vn, va, vc, vv, .int .i64 d.nx], .agg #[ul, un, ua, uc, uv, .int .i64 x.nx], .bool ok] w (EndP w S (endD d x ok)) := by
  have HC := Lib.hid (fun W b => l10Copy_any vl vn va vc vv d W (h.on b) hs)
  have HP := Lib.hid (fun (ho : ok = true) W b => specPoolOk_any ul un ua uc uv x W (hx.reads.on b) (hk ho).1 (hk ho).2)
  have HX := Lib.hid hx.lt
  obtain ⟨A0, Ac0, A1, Ac1, A2, Ac2, A3, Ac3, A4, Ac4, rfl, rfl, rfl, rfl, rfl⟩ := h.shape
  obtain ⟨X0, Xc0, X1, Xc1, X2, Xc2, X3, Xc3, X4, Xc4, rfl, rfl, rfl, rfl, rfl⟩ := hx.reads.shape
  obtain ⟨q0, q1, q2⟩ := al3 w (.cells #[.slice A0 d.lo.length Ac0, .slice A1 d.ts.length Ac1, .slice A2 d.ag.length Ac2, .slice A3 d.ce.length Ac3, .slice A4 d.vo.length Ac4, .int .i64 d.nx] 32) (.cells #[.slice X0 x.lo.length Xc0, .slice X1 x.ts.length Xc1, .slice X2 x.ag.length Xc2, .slice X3 x.ce.length Xc3, .slice X4 x.vo.length Xc4, .int .i64 x.nx] 32) (.cells #[.slice none 0 0, .slice none 0 0, .slice none 0 0, .slice none 0 0, .slice none 0 0, .int .i64 0] 32)
  have Q0 := Lib.hid q0
  have Q1 := Lib.hid q1
  have Q2 := Lib.hid q2
  have HB := Lib.hid (bal3 w (.cells #[.slice A0 d.lo.length Ac0, .slice A1 d.ts.length Ac1, .slice A2 d.ag.length Ac2, .slice A3 d.ce.length Ac3, .slice A4 d.vo.length Ac4, .int .i64 d.nx] 32) (.cells #[.slice X0 x.lo.length Xc0, .slice X1 x.ts.length Xc1, .slice X2 x.ag.length Xc2, .slice X3 x.ce.length Xc3, .slice X4 x.vo.length Xc4, .int .i64 x.nx] 32) (.cells #[.slice none 0 0, .slice none 0 0, .slice none 0 0, .slice none 0 0, .slice none 0 0, .int .i64 0] 32))
  have hwz : (((w.alloc (.cells #[.slice A0 d.lo.length Ac0, .slice A1 d.ts.length Ac1, .slice A2 d.ag.length Ac2, .slice A3 d.ce.length Ac3, .slice A4 d.vo.length Ac4, .int .i64 d.nx] 32)).alloc (.cells #[.slice X0 x.lo.length Xc0, .slice X1 x.ts.length Xc1, .slice X2 x.ag.length Xc2, .slice X3 x.ce.length Xc3, .slice X4 x.vo.length Xc4, .int .i64 x.nx] 32)).alloc (.cells #[.slice none 0 0, .slice none 0 0, .slice none 0 0, .slice none 0 0, .slice none 0 0, .int .i64 0] 32)).heap.size = w.heap.size + 3 := by simp
  obtain ⟨p, hp⟩ : ∃ p, poolOkB x = p := ⟨_, rfl⟩
  rw [hp] at HP
  have HPK := Lib.hid hp
  clear h hs hx hk hp q0 q1 q2
  go_enter Tryz.func66, Tryz.ntmps66
  go_upto_region 1 with (fail)
  generalize ((w.alloc (.cells #[.slice A0 d.lo.length Ac0, .slice A1 d.ts.length Ac1, .slice A2 d.ag.length Ac2, .slice A3 d.ce.length Ac3, .slice A4 d.vo.length Ac4, .int .i64 d.nx] 32)).alloc (.cells #[.slice X0 x.lo.length Xc0, .slice X1 x.ts.length Xc1, .slice X2 x.ag.length Xc2, .slice X3 x.ce.length Xc3, .slice X4 x.vo.length Xc4, .int .i64 x.nx] 32)).alloc (.cells #[.slice none 0 0, .slice none 0 0, .slice none 0 0, .slice none 0 0, .slice none 0 0, .int .i64 0] 32) = W at *
  have hy1 := Nat.le_of_eq hwz
  have hy2 := Nat.le_of_eq hwz.symm
  clear hwz
  cases ok
  · obtain ⟨x0, x1, x2, x3, x4, x5, x6⟩ := boxP Q0.out
    go_wp2_with fail
    refine (HC.out _ HB.out).mono ?_
    rintro e w1 ⟨zl, zn, za, zc, zv, rfl, o1, b1⟩
    have hz1 := b1.size
    obtain ⟨E0, Ec0, E1, Ec1, E2, Ec2, E3, Ec3, E4, Ec4, rfl, rfl, rfl, rfl, rfl⟩ := o1.reads.shape
    have O1 := Lib.hid o1
    have B1 := Lib.hid (bstep HB.out b1)
    clear x0 x1 x2 x3 x4 x5 x6
    obtain ⟨y0, y1, y2, y3, y4, y5, y6⟩ := boxP (box_on Q2.out b1)
    clear o1 b1
    go_wp2
    refine bodyPost_ret (v := .tuple #[.agg #[.slice E0 d.lo.length Ec0, .slice E1 d.ts.length Ec1, .slice E2 d.ag.length Ec2, .slice E3 d.ce.length Ec3, .slice E4 d.vo.length Ec4, .int .i64 d.nx], .int .i64 6]) (by simp [results, Tryz.results66, go_sem, y0, y1, y2, y3, y4, y5, y6]) rfl ⟨110, _, _, _, _, _, rfl, ?_, below_set6 B1.out (by omega)⟩
    exact (O1.out.set6 (p := w.heap.size + 1 + 1) (fun h => by omega)).mono (fun b hb => .inr (by omega))
  · obtain ⟨x0, x1, x2, x3, x4, x5, x6⟩ := boxP Q1.out
    go_wp2_with fail
    refine (HP.out (by first | rfl | trivial) _ HB.out).mono ?_
    rintro e w1 ⟨rfl, b1⟩
    have hz1 := b1.size
    have B1 := Lib.hid (bstep HB.out b1)
    have XX1 := Lib.hid (HX.out.on B1.out)
    have Q11 := Lib.hid (box_on Q1.out b1)
    have Q21 := Lib.hid (box_on Q2.out b1)
    have Q01 := Lib.hid (box_on Q0.out b1)
    clear x0 x1 x2 x3 x4 x5 x6 b1
    cases p
    · obtain ⟨x0, x1, x2, x3, x4, x5, x6⟩ := boxP Q01.out
      rw [end_full HPK.out]
      go_wp2_with fail
      refine (HC.out _ B1.out).mono ?_
      rintro e w2 ⟨zl, zn, za, zc, zv, rfl, o1, b1⟩
      have hz2 := b1.size
      obtain ⟨E0, Ec0, E1, Ec1, E2, Ec2, E3, Ec3, E4, Ec4, rfl, rfl, rfl, rfl, rfl⟩ := o1.reads.shape
      have O1 := Lib.hid o1
      have B2 := Lib.hid (bstep B1.out b1)
      clear x0 x1 x2 x3 x4 x5 x6
      obtain ⟨y0, y1, y2, y3, y4, y5, y6⟩ := boxP (box_on Q21.out b1)
      clear o1 b1
      go_wp2
      rw [end_full HPK.out]
      refine bodyPost_ret (v := .tuple #[.agg #[.slice E0 d.lo.length Ec0, .slice E1 d.ts.length Ec1, .slice E2 d.ag.length Ec2, .slice E3 d.ce.length Ec3, .slice E4 d.vo.length Ec4, .int .i64 d.nx], .int .i64 6]) (by simp [results, Tryz.results66, go_sem, y0, y1, y2, y3, y4, y5, y6]) rfl ⟨110, _, _, _, _, _, rfl, ?_, below_set6 B2.out (by omega)⟩
      exact (O1.out.set6 (p := w.heap.size + 1 + 1) (fun h => by omega)).mono (fun b hb => .inr (by omega))
    · obtain ⟨x0, x1, x2, x3, x4, x5, x6⟩ := boxP Q11.out
      obtain ⟨y0, y1, y2, y3, y4, y5, y6⟩ := boxP Q21.out
      go_wp2
      rw [end_yes HPK.out]
      refine bodyPost_ret (v := .tuple #[.agg #[.slice X0 x.lo.length Xc0, .slice X1 x.ts.length Xc1, .slice X2 x.ag.length Xc2, .slice X3 x.ce.length Xc3, .slice X4 x.vo.length Xc4, .int .i64 x.nx], .int .i64 0]) (by simp [results, Tryz.results66, go_sem, y0, y1, y2, y3, y4, y5, y6]) rfl ⟨t2, _, _, _, _, _, rfl, ?_, below_set6 B1.out (by omega)⟩
      exact (XX1.out.set6 (p := w.heap.size + 1 + 1) (fun h => by have := h.2; omega)).mono (fun b hb => .inl hb.1)
end Go.Proofs.YtlhemcjahcmdeaaGreatDoor
namespace Go.Proofs.YtlhemcjahcmdeaaGreatDoor
open Go.RowKit
set_option maxRecDepth 100000
set_option linter.unusedSimpArgs false
set_option linter.unusedVariables false

def cutA4 (A : Option Addr) (c j : Nat) : Option Addr := if c = j then A else A.map (fun a => a.add (j * 4))
theorem At.tailVol {w : World} {A : Option Addr} {l : List VolD} (h : At w A (volvl l)) {c j : Nat} (hc : l.length ≤ c) : At w (cutA4 A c j) (volvl (l.drop j)) := by
  unfold cutA4
  split
  · rw [List.drop_eq_nil_of_le (by omega)]
    exact .inl rfl
  · rcases h with h | ⟨b, off, rfl, hcell⟩
    · have : l = [] := List.length_eq_zero_iff.1 (by have := congrArg List.length h; rw [volvl_len] at this; simp at this; omega)
      subst this
      exact .inl (by simp [volvl])
    · by_cases hj : j ≤ l.length
      · refine .inr ⟨b, off + j * 4, by rw [Option.map_some, Addr.add_lit], fun k hk => ?_⟩
        have he : volvl l = volvl (l.take j) ++ volvl (l.drop j) := by rw [← volvl_append, List.take_append_drop]
        have hl : (volvl (l.take j)).length = j * 4 := by rw [volvl_len]; simp; omega
        have h1 := hcell (j * 4 + k) (by rw [he, List.length_append]; omega)
        rw [Nat.add_assoc, h1]
        simp only [he]
        rw [List.getElem_append_right (by omega)]
        simp only [hl, Nat.add_sub_cancel_left]
      · rw [List.drop_eq_nil_of_le (by omega)]
        exact .inl rfl
theorem run_headV {w : World} (A : Option Addr) (n c j : Nat) (h1 : j ≤ n) (h2 : n ≤ c) : (Instr.slice 30 (.slice A n c) none (some (.int .i64 (j : Int))) none).run Tryz.prog w = .ok (.slice A j c) w := by
  obtain ⟨i, hi, h0, h3, h4⟩ := info_parts vol_info
  have e1 : (0 : Int) ≤ (j : Int) := by omega
  have e2 : (j : Int) ≤ (n : Int) := by omega
  have e3 : (j : Int) ≤ (c : Int) := by omega
  simp [Instr.slice, Instr.sliceBounds, Instr.sliceBound, run_underlying Tryz.underlying30, sizeOf, typeInfo, hi, h3, e2, e3, go_sem]
  intro h; omega
theorem run_tailVol {w : World} (A : Option Addr) (n c j : Nat) (h1 : j ≤ n) (h2 : n ≤ c) : (Instr.slice 30 (.slice A n c) (some (.int .i64 (j : Int))) none none).run Tryz.prog w = .ok (.slice (cutA4 A c j) (n - j) (c - j)) w := by
  obtain ⟨i, hi, h0, h3, h4⟩ := info_parts vol_info
  have e1 : (0 : Int) ≤ (j : Int) := by omega
  have e2 : (j : Int) ≤ (n : Int) := by omega
  simp [Instr.slice, Instr.sliceBounds, Instr.sliceBound, run_underlying Tryz.underlying30, sizeOf, typeInfo, hi, h3, cutA4, e2, go_sem]
  intro h; omega
theorem change_end {d x : PoolD} {s : ByteArray} {f : PoolD → Res} (h : mayB d s = true) (hf : f d = (x, 0)) : changeK d s f = endD d x true := by
  have h2 := changeK_ok (f := f) h (by rw [hf])
  rw [hf] at h2
  cases hp : poolOkB x
  · rw [h2.2 hp, end_full hp]
  · rw [h2.1 hp, end_yes hp]
theorem volN_yes {d : PoolD} {s : ByteArray} (h : volN d s = 0) : mayB d s = true ∧ ¬ volK s d.vo < 0 := by
  unfold volN at h
  split at h
  · rename_i h1
    split at h
    · omega
    · exact ⟨h1, by assumption⟩
  · omega
/-- What stops an operation ahead of what it does: the volume must be there. -/
theorem volN_no {d : PoolD} {s : ByteArray} {f : PoolD → Res} (hf : volK s d.vo < 0 → f d = (d, 2)) (h : volN d s ≠ 0) : changeK d s f = (d, volN d s) := by
  unfold volN at h ⊢
  cases hm : mayB d s
  · rw [changeK_no hm]
    rfl
  · rw [hm] at h
    rw [if_pos rfl] at h ⊢
    by_cases hk : volK s d.vo < 0
    · have := hf hk
      rw [changeK_code hm (by rw [this]; exact (by decide : (2 : Int) ≠ 0)), this, if_pos hk]
    · rw [if_neg hk] at h
      exact absurd rfl h
theorem kill_no {d : PoolD} {s : ByteArray} (h : volN d s ≠ 0) : changeK d s (killD s) = (d, volN d s) := volN_no (fun hk => by unfold killD; rw [if_pos hk]) h
set_option maxHeartbeats 8000000 in
theorem specKill_any {t : TypeId} (vl vn va vc vv : Value) (d : PoolD) (s : ByteArray) (w : World) (hR : RdP t w w.heap.size vl vn va vc vv d) (hs : SmallP d) (hnm : ∀ k ∈ d.vo, k.a.size ≤ maxLen) (hz : s.size ≤ maxLen) :
    Calls Tryz.prog 27 #[.agg #[vl, vn, va, vc, vv, .int .i64 d.nx], .string s] w (NewPn w (changeK d s (killD s))) := by
  have h4 := hs.2.2.2
  have HCP := Lib.hid (fun W b => l10Copy_any vl vn va vc vv d W (hR.on b) hs)
  have HV := Lib.hid (fun W b => l11Vol_any vl vn va vc vv d s W (hR.on b) hs hnm hz)
  have HVA := Lib.hid (fun W b => specVolAt_any vl vn va vc vv d s W (hR.on b) (by omega))
  have HN := Lib.hid (kill_no (d := d) (s := s))
  have HEN := Lib.hid (fun (W : World) (b : Below w.heap.size w W) (t2 : TypeId) (ul un ua uc uv : Value) (x : PoolD) (S : Nat → Prop) (hx : PoolC t2 W S ul un ua uc uv x) (hk : true = true → SmallP x ∧ ∀ k ∈ x.vo, k.a.size ≤ maxLen) => l11End_any vl vn va vc vv ul un ua uc uv d x true S W (hR.on b) hs hx hk)
  have HY := Lib.hid (fun (h : volN d s = 0) => volN_yes h)
  obtain ⟨A0, Ac0, A1, Ac1, A2, Ac2, A3, Ac3, A4, Ac4, rfl, rfl, rfl, rfl, rfl⟩ := hR.shape
  replace HAT := Lib.hid (show At w A4 (volvl d.vo) from hR.2.2.2.atVol)
  obtain ⟨_, _, eV, hcv, _⟩ := hR.2.2.2.shapeVol
  cases eV
  have hcap : d.vo.length ≤ Ac4 := hcv
  obtain ⟨q0, q1⟩ := al2 w (.cells #[.slice A0 d.lo.length Ac0, .slice A1 d.ts.length Ac1, .slice A2 d.ag.length Ac2, .slice A3 d.ce.length Ac3, .slice A4 d.vo.length Ac4, .int .i64 d.nx] 32) (.cells #[.slice none 0 0, .slice none 0 0, .slice none 0 0, .slice none 0 0, .slice none 0 0, .int .i64 0] 32)
  have Q0 := Lib.hid q0
  have Q1 := Lib.hid q1
  have HB := Lib.hid (bal2 w (.cells #[.slice A0 d.lo.length Ac0, .slice A1 d.ts.length Ac1, .slice A2 d.ag.length Ac2, .slice A3 d.ce.length Ac3, .slice A4 d.vo.length Ac4, .int .i64 d.nx] 32) (.cells #[.slice none 0 0, .slice none 0 0, .slice none 0 0, .slice none 0 0, .slice none 0 0, .int .i64 0] 32))
  have hZ : ((w.alloc (.cells #[.slice A0 d.lo.length Ac0, .slice A1 d.ts.length Ac1, .slice A2 d.ag.length Ac2, .slice A3 d.ce.length Ac3, .slice A4 d.vo.length Ac4, .int .i64 d.nx] 32)).alloc (.cells #[.slice none 0 0, .slice none 0 0, .slice none 0 0, .slice none 0 0, .slice none 0 0, .int .i64 0] 32)).heap.size = w.heap.size + 2 := by simp
  have HS := Lib.hid hs
  have HM := Lib.hid hnm
  obtain ⟨C, hC⟩ : ∃ C, volN d s = C := ⟨_, rfl⟩
  rw [hC] at HV HN HY
  clear hR hs hnm hz q0 q1 hC hcv
  go_enter Tryz.func27, Tryz.ntmps27
  go_upto_region 1 with (fail)
  generalize (w.alloc (.cells #[.slice A0 d.lo.length Ac0, .slice A1 d.ts.length Ac1, .slice A2 d.ag.length Ac2, .slice A3 d.ce.length Ac3, .slice A4 d.vo.length Ac4, .int .i64 d.nx] 32)).alloc (.cells #[.slice none 0 0, .slice none 0 0, .slice none 0 0, .slice none 0 0, .slice none 0 0, .int .i64 0] 32) = W at *
  have hy1 := Nat.le_of_eq hZ
  have hy2 := Nat.le_of_eq hZ.symm
  clear hZ
  obtain ⟨x0, x1, x2, x3, x4, x5, x6⟩ := boxP Q0.out
  go_wp2_with fail
  refine (HCP.out _ HB.out).mono ?_
  rintro e w1 ⟨zl, zn, za, zc, zv, rfl, o1, b1⟩
  have hz1 := b1.size
  obtain ⟨D0, Dc0, D1, Dc1, D2, Dc2, D3, Dc3, D4, Dc4, rfl, rfl, rfl, rfl, rfl⟩ := o1.reads.shape
  have hB2 := bal1 w1 (.cells #[.slice D0 d.lo.length Dc0, .slice D1 d.ts.length Dc1, .slice D2 d.ag.length Dc2, .slice D3 d.ce.length Dc3, .slice D4 d.vo.length Dc4, .int .i64 d.nx] 32)
  have Q2 := Lib.hid (al1 w1 (.cells #[.slice D0 d.lo.length Dc0, .slice D1 d.ts.length Dc1, .slice D2 d.ag.length Dc2, .slice D3 d.ce.length Dc3, .slice D4 d.vo.length Dc4, .int .i64 d.nx] 32))
  have hzz : (w1.alloc (.cells #[.slice D0 d.lo.length Dc0, .slice D1 d.ts.length Dc1, .slice D2 d.ag.length Dc2, .slice D3 d.ce.length Dc3, .slice D4 d.vo.length Dc4, .int .i64 d.nx] 32)).heap.size = w1.heap.size + 1 := by simp
  have O2 := Lib.hid (o1.lt.on hB2)
  have B2 := Lib.hid (bstep b1 hB2)
  clear x0 x1 x2 x3 x4 x5 x6 o1 b1 hB2
  go_upto_region 2 with (fail)
  generalize w1.alloc (.cells #[.slice D0 d.lo.length Dc0, .slice D1 d.ts.length Dc1, .slice D2 d.ag.length Dc2, .slice D3 d.ce.length Dc3, .slice D4 d.vo.length Dc4, .int .i64 d.nx] 32) = w2 at *
  have hz2 := Nat.le_of_eq hzz
  have hz3 := Nat.le_of_eq hzz.symm
  clear hzz
  obtain ⟨x0, x1, x2, x3, x4, x5, x6⟩ := boxP (box_on Q0.out B2.out)
  go_wp2_with fail
  refine (HV.out _ (bstep HB.out B2.out)).mono ?_
  rintro e w3 ⟨rfl, b3⟩
  have hz4 := b3.size
  have B3 := Lib.hid (bstep B2.out b3)
  replace Q2 := Lib.hid (box_on Q2.out b3)
  replace O2 := Lib.hid (O2.out.on b3)
  replace Q1 := Lib.hid (box_on Q1.out B3.out)
  clear x0 x1 x2 x3 x4 x5 x6 b3
  by_cases hC : C = 0
  · obtain ⟨hm, hk0⟩ := HY.out hC
    have hk : ¬ volK s d.vo < 0 := by omega
    clear hk0
    obtain ⟨hj, hj2⟩ := volK_nat hk
    have HF := Lib.hid (change_end (f := killD s) (x := { d with vo := d.vo.eraseIdx (volJ s d.vo) }) hm (by unfold killD; rw [if_neg hk]))
    have HSM := Lib.hid (killD_small (d := d) (s := s) (mayB_pool hm) (mayB_name hm) (by unfold killD; rw [if_neg hk]))
    rw [show (killD s d).1 = { d with vo := d.vo.eraseIdx (volJ s d.vo) } by unfold killD; rw [if_neg hk]] at HSM
    rw [hj2] at HVA
    obtain ⟨j, hjj⟩ : ∃ j, volJ s d.vo = j := ⟨_, rfl⟩
    rw [hjj] at HVA HF HSM hj
    subst hC
    obtain ⟨x0, x1, x2, x3, x4, x5, x6⟩ := boxP (box_on Q0.out B3.out)
    clear hm hk hj2 hjj HN HY
    go_wp2_with fail
    refine (HVA.out _ (bstep HB.out B3.out)).mono ?_
    rintro e w4 ⟨rfl, b4⟩
    have hz5 := b4.size
    have B4 := Lib.hid (bstep B3.out b4)
    replace Q2 := Lib.hid (box_on Q2.out b4)
    replace O2 := Lib.hid (O2.out.on b4)
    replace Q1 := Lib.hid (box_on Q1.out b4)
    have QB := Lib.hid (box_on Q0.out B4.out)
    have Q00 := Lib.hid Q0.out
    have AT := Lib.hid (HAT.out.on (bstep HB.out B4.out))
    have C4 := Lib.hid O2.out
    have hw : IntKind.i64.wrap ((j : Int) + 1) = (j : Int) + 1 := by rw [IntKind.wrap_i64]; omega
    have hsl1 : ∀ W : World, (Instr.slice 30 (.slice A4 d.vo.length Ac4) none (some (.int .i64 (j : Int))) none).run Tryz.prog W = .ok (.slice A4 j Ac4) W := fun W => run_headV A4 d.vo.length Ac4 j (by omega) hcap
    have hsl2 : ∀ W : World, (Instr.slice 30 (.slice A4 d.vo.length Ac4) (some (.int .i64 ((j : Int) + 1))) none none).run Tryz.prog W = .ok (.slice (cutA4 A4 Ac4 (j + 1)) (d.vo.length - (j + 1)) (Ac4 - (j + 1))) W := fun W => run_tailVol A4 d.vo.length Ac4 (j + 1) (by omega) hcap
    have HSL1 := Lib.hid hsl1
    have HSL2 := Lib.hid hsl2
    clear x0 x1 x2 x3 x4 x5 x6 b4 hsl1 hsl2 HVA HV O2 Q0
    go_upto_region 6 with (fail)
    refine but_begin (f := 13) (S := fun V => Below w4.heap.size w4 V) (by kernel_rfl) ?_
    have hS0c : Below w4.heap.size w4 w4.drew := Below.drew1 _
    have hz0c : w4.heap.size ≤ w4.drew.heap.size := Nat.le_refl _
    generalize w4.drew = Udc at *
    replace Q1 := Lib.hid (box_on Q1.out hS0c)
    replace Q2 := Lib.hid (box_on Q2.out hS0c)
    refine but_take (f := 13) (i := 1) (v := ?vc1) rfl (by kernel_rfl) (by kernel_rfl) (by kernel_rfl) (by kernel_rfl) (by kernel_rfl) (fun _ _ _ h => h) (Or.inl ⟨(by rfl), ?hyc1⟩) hS0c ?restc1
    case hyc1 =>
      intro W hW
      go_simp
      exact rfl
    simp only [List.getElem_toArray, List.getElem_cons_succ, List.getElem_cons_zero, Act.put, List.setIfInBounds_toArray, List.set_cons_zero, List.set_cons_succ]
    refine but_take (f := 13) (i := 2) (v := ?vc2) rfl (by kernel_rfl) (by kernel_rfl) (by kernel_rfl) (by kernel_rfl) (by kernel_rfl) (fun _ _ _ h => h) (Or.inl ⟨(by rfl), ?hyc2⟩) hS0c ?restc2
    case hyc2 =>
      intro W hW
      obtain ⟨x0, x1, x2, x3, x4, x5, x6⟩ := boxP (box_on QB.out hW)
      go_simp
      exact rfl
    simp only [List.getElem_toArray, List.getElem_cons_succ, List.getElem_cons_zero, Act.put, List.setIfInBounds_toArray, List.set_cons_zero, List.set_cons_succ]
    refine but_take (f := 13) (i := 3) (v := ?vc3) rfl (by kernel_rfl) (by kernel_rfl) (by kernel_rfl) (by kernel_rfl) (by kernel_rfl) (fun _ _ _ h => h) (Or.inl ⟨(by rfl), ?hyc3⟩) hS0c ?restc3
    case hyc3 =>
      intro W hW
      go_simp
      exact rfl
    simp only [List.getElem_toArray, List.getElem_cons_succ, List.getElem_cons_zero, Act.put, List.setIfInBounds_toArray, List.set_cons_zero, List.set_cons_succ]
    refine but_take (f := 13) (i := 4) (v := ?vc4) rfl (by kernel_rfl) (by kernel_rfl) (by kernel_rfl) (by kernel_rfl) (by kernel_rfl) (fun _ _ _ h => h) (Or.inl ⟨(by rfl), ?hyc4⟩) hS0c ?restc4
    case hyc4 =>
      intro W hW
      have hsl1 := HSL1.out
      have hsl2 := HSL2.out
      go_simp
      exact rfl
    simp only [List.getElem_toArray, List.getElem_cons_succ, List.getElem_cons_zero, Act.put, List.setIfInBounds_toArray, List.set_cons_zero, List.set_cons_succ]
    refine but_take (f := 13) (i := 6) (v := ?vc6) rfl (by kernel_rfl) (by kernel_rfl) (by kernel_rfl) (by kernel_rfl) (by kernel_rfl) (fun _ _ _ h => h) (Or.inl ⟨(by rfl), ?hyc6⟩) hS0c ?restc6
    case hyc6 =>
      intro W hW
      go_simp
      exact rfl
    simp only [List.getElem_toArray, List.getElem_cons_succ, List.getElem_cons_zero, Act.put, List.setIfInBounds_toArray, List.set_cons_zero, List.set_cons_succ]
    refine but_take (f := 13) (i := 7) (v := ?vc7) rfl (by kernel_rfl) (by kernel_rfl) (by kernel_rfl) (by kernel_rfl) (by kernel_rfl) (fun _ _ _ h => h) (Or.inl ⟨(by rfl), ?hyc7⟩) hS0c ?restc7
    case hyc7 =>
      intro W hW
      obtain ⟨x0, x1, x2, x3, x4, x5, x6⟩ := boxP (box_on QB.out hW)
      go_simp
      exact rfl
    simp only [List.getElem_toArray, List.getElem_cons_succ, List.getElem_cons_zero, Act.put, List.setIfInBounds_toArray, List.set_cons_zero, List.set_cons_succ]
    refine but_take (f := 13) (i := 8) (v := ?vc8) rfl (by kernel_rfl) (by kernel_rfl) (by kernel_rfl) (by kernel_rfl) (by kernel_rfl) (fun _ _ _ h => h) (Or.inl ⟨(by rfl), ?hyc8⟩) hS0c ?restc8
    case hyc8 =>
      intro W hW
      go_simp
      exact rfl
    simp only [List.getElem_toArray, List.getElem_cons_succ, List.getElem_cons_zero, Act.put, List.setIfInBounds_toArray, List.set_cons_zero, List.set_cons_succ]
    refine but_take (f := 13) (i := 9) (v := ?vc9) rfl (by kernel_rfl) (by kernel_rfl) (by kernel_rfl) (by kernel_rfl) (by kernel_rfl) (fun _ _ _ h => h) (Or.inl ⟨(by rfl), ?hyc9⟩) hS0c ?restc9
    case hyc9 =>
      intro W hW
      go_simp
      exact rfl
    simp only [List.getElem_toArray, List.getElem_cons_succ, List.getElem_cons_zero, Act.put, List.setIfInBounds_toArray, List.set_cons_zero, List.set_cons_succ]
    refine but_take (f := 13) (i := 10) (v := ?vc10) rfl (by kernel_rfl) (by kernel_rfl) (by kernel_rfl) (by kernel_rfl) (by kernel_rfl) (fun _ _ _ h => h) (Or.inl ⟨(by rfl), ?hyc10⟩) hS0c ?restc10
    case hyc10 =>
      intro W hW
      have hsl1 := HSL1.out
      have hsl2 := HSL2.out
      go_simp
      exact rfl
    simp only [List.getElem_toArray, List.getElem_cons_succ, List.getElem_cons_zero, Act.put, List.setIfInBounds_toArray, List.set_cons_zero, List.set_cons_succ]
    refine but_run (i := 0) (by kernel_rfl) rfl (by rfl) ?_
    simp only [List.getElem_toArray, List.getElem_cons_succ, List.getElem_cons_zero]
    intro K HK
    go_wp2_with fail
    have hSc1 : (fun V => Below w4.heap.size w4 V) (Udc.alloc (.cells #[] 41)) := bstep hS0c (bal1 _ _)
    refine HK.out _ _ (fun _ => hSc1) ?_
    clear HK
    have hBc1 := bal1 Udc (.cells #[] 41)
    have hzc1 : Udc.heap.size + 1 ≤ (Udc.alloc (.cells #[] 41)).heap.size := by simp
    replace Q1 := Lib.hid (box_on Q1.out hBc1)
    replace Q2 := Lib.hid (box_on Q2.out hBc1)
    have hzac1 := (hS0c).size
    have R0 := Lib.hid (RowVol.lit Udc)
    generalize Udc.alloc (.cells #[] 41) = Vnc1 at *
    refine but_run (i := 5) (by kernel_rfl) rfl (by rfl) ?_
    simp only [List.getElem_toArray, List.getElem_cons_succ, List.getElem_cons_zero]
    intro K HK
    refine operAppVol _ (by rfl) (.tmp 21) (.tmp 25) (by rfl) Udc.heap.size _ [] (by rfl) R0.out A4 j Ac4 (d.vo.take j) (by rfl) (by simp; omega) ((AT.out.on hSc1).takeVol j) (by simp; omega) (by omega) ?_
    intro vc2 Vc2 oc2 bc2 gc2 ac2
    rw [List.nil_append] at oc2
    obtain ⟨G4, e4, rfl, _, _⟩ := oc2.shape
    have R1 := Lib.hid oc2
    have hlt : (d.vo.take j).length = j := by simp; omega
    obtain ⟨TK, hTK⟩ : ∃ TK, d.vo.take j = TK := ⟨_, rfl⟩
    rw [hTK] at hlt R1 ⊢
    have HTK := Lib.hid hTK
    clear hTK
    have hSc2 : (fun V => Below w4.heap.size w4 V) Vc2 := (hSc1).trans (Below.mono bc2 (by omega))
    refine HK.out _ _ (fun _ => hSc2) ?_
    clear HK
    have hzc2 := bc2.size
    replace Q1 := Lib.hid (box_only Q1.out gc2 (fun e => by simp [Value.ownBlock] at e; omega))
    replace Q2 := Lib.hid (box_only Q2.out gc2 (fun e => by simp [Value.ownBlock] at e; omega))
    have hlt2 := Nat.le_of_eq hlt
    clear hlt
    simp only [List.getElem_toArray, List.getElem_cons_succ, List.getElem_cons_zero, Act.put, List.setIfInBounds_toArray, List.set_cons_zero, List.set_cons_succ]
    refine but_run (i := 11) (by kernel_rfl) rfl (by rfl) ?_
    simp only [List.getElem_toArray, List.getElem_cons_succ, List.getElem_cons_zero]
    intro K HK
    refine operAppVol _ (by rfl) (.tmp 26) (.tmp 31) (by rfl) Udc.heap.size _ TK (by rfl) R1.out _ (d.vo.length - (j + 1)) (Ac4 - (j + 1)) (d.vo.drop (j + 1)) (by rfl) (by simp) ((AT.out.on hSc2).tailVol hcap) (by simp; omega) (by omega) ?_
    intro vc3 Vc3 oc3 bc3 gc3 ac3
    obtain ⟨m, hm⟩ : ∃ m, TK ++ d.vo.drop (j + 1) = m := ⟨_, rfl⟩
    rw [hm] at oc3
    have HMM := Lib.hid hm
    clear hm
    obtain ⟨G5, e5, rfl, _, _⟩ := oc3.shape
    have R2 := Lib.hid oc3
    have hSc3 : (fun V => Below w4.heap.size w4 V) Vc3 := (hSc2).trans (Below.mono bc3 (by omega))
    refine HK.out _ _ (fun _ => hSc3) ?_
    clear HK
    have hzc3 := bc3.size
    replace Q1 := Lib.hid (box_only Q1.out gc3 (fun e => by have h9 := (R1.out.lt _ e).2; omega))
    replace Q2 := Lib.hid (box_only Q2.out gc3 (fun e => by have h9 := (R1.out.lt _ e).2; omega))
    simp only [List.getElem_toArray, List.getElem_cons_succ, List.getElem_cons_zero, Act.put, List.setIfInBounds_toArray, List.set_cons_zero, List.set_cons_succ]
    refine but_take (f := 13) (i := 12) (v := ?vc12) rfl (by kernel_rfl) (by kernel_rfl) (by kernel_rfl) (by kernel_rfl) (by kernel_rfl) (fun _ _ _ h => h) (Or.inl ⟨(by rfl), ?hyc12⟩) hSc3 ?restc12
    case hyc12 =>
      intro W hW
      go_simp
      exact rfl
    simp only [List.getElem_toArray, List.getElem_cons_succ, List.getElem_cons_zero, Act.put, List.setIfInBounds_toArray, List.set_cons_zero, List.set_cons_succ]
    refine but_run (i := 13) (by kernel_rfl) rfl (by rfl) ?_
    simp only [List.getElem_toArray, List.getElem_cons_succ, List.getElem_cons_zero]
    intro K HK
    obtain ⟨z0, z1, z2, z3, z4, z5, z6⟩ := boxP Q2.out
    go_wp2_with fail
    refine HK.out _ _ (fun h => absurd rfl h) ?_
    clear HK
    refine but_done (by kernel_rfl) ?_
    have hm : d.vo.eraseIdx j = m := by rw [← HMM.out, ← HTK.out, List.eraseIdx_eq_take_drop_succ]
    rw [hm] at HF HSM
    have hS5 := hSc3
    have X5 := Lib.hid ((C4.out.vols (vo := m) hS5 (R2.out.owns.mono (fun b hb => by omega))).setFar (g := w1.heap.size) (j := 4) (u := .slice G5 m.length e5) (fun h => by rcases h with h | h <;> omega))
    have Q5 := Lib.hid (box_setP4 (u := .slice G5 m.length e5) Q2.out)
    have Q15 := Lib.hid (box_far (g := w1.heap.size) (j := 4) (u := .slice G5 m.length e5) Q1.out (by omega))
    have B5 := Lib.hid ((bstep B4.out hS5).setCell (p := ⟨w1.heap.size, 4, none⟩) (show W.heap.size ≤ w1.heap.size by omega) (.slice G5 m.length e5))
    have hz6 : Vc3.heap.size ≤ (Vc3.setCell ⟨w1.heap.size, 4, none⟩ (.slice G5 m.length e5)).heap.size := by simp
    clear hm
    generalize Vc3.setCell ⟨w1.heap.size, 4, none⟩ (.slice G5 m.length e5) = w5 at *
    have hz7 := hS5.size
    clear hS5 C4
    obtain ⟨x0, x1, x2, x3, x4, x5, x6⟩ := boxP Q5.out
    obtain ⟨p0, p1, p2, p3, p4, p5, p6⟩ := boxP (box_on Q00.out B5.out)
    go_wp2_with fail
    refine (HEN.out _ (bstep HB.out B5.out) _ _ _ _ _ _ { d with vo := m } _ X5.out (fun _ => HSM.out)).mono ?_
    clear x0 x1 x2 x3 x4 x5 x6 p0 p1 p2 p3 p4 p5 p6
    rintro e w6 ⟨t6, zl, zn, za, zc, zv, rfl, o6, b6⟩
    have hz8 := b6.size
    obtain ⟨r, hr⟩ : ∃ r, endD d { d with vo := m } true = r := ⟨_, rfl⟩
    rw [hr] at o6 HF ⊢
    obtain ⟨y, c⟩ := r
    obtain ⟨E0, Ec0, E1, Ec1, E2, Ec2, E3, Ec3, E4, Ec4, rfl, rfl, rfl, rfl, rfl⟩ := o6.reads.shape
    have O6 := Lib.hid o6
    have B6 := Lib.hid (bstep B5.out b6)
    obtain ⟨y0, y1, y2, y3, y4, y5, y6⟩ := boxP (box_on Q15.out b6)
    clear o6 b6 hr
    go_wp2
    rw [HF.out]
    refine bodyPost_ret (v := .tuple #[.agg #[.slice E0 y.lo.length Ec0, .slice E1 y.ts.length Ec1, .slice E2 y.ag.length Ec2, .slice E3 y.ce.length Ec3, .slice E4 y.vo.length Ec4, .int .i64 y.nx], .int .i64 c]) (by simp [results, Tryz.results27, go_sem, y0, y1, y2, y3, y4, y5, y6]) rfl ⟨t6, _, _, _, _, _, rfl, ?_, below_set6 (bstep HB.out B6.out) (by omega)⟩
    exact (O6.out.set6 (p := w.heap.size + 1) (fun h => by rcases h with (h | h) | h <;> omega)).mono (fun b hb => by rcases hb with (h | h) | h <;> omega)
  · have d1 : (C != 0) = true := by simp [hC]
    obtain ⟨x0, x1, x2, x3, x4, x5, x6⟩ := boxP Q2.out
    obtain ⟨y0, y1, y2, y3, y4, y5, y6⟩ := boxP Q1.out
    have HC := Lib.hid hC
    clear hC HY HVA HEN
    go_wp2
    rw [HN.out HC.out]
    refine bodyPost_ret (v := .tuple #[.agg #[.slice D0 d.lo.length Dc0, .slice D1 d.ts.length Dc1, .slice D2 d.ag.length Dc2, .slice D3 d.ce.length Dc3, .slice D4 d.vo.length Dc4, .int .i64 d.nx], .int .i64 C]) (by simp [results, Tryz.results27, go_sem, y0, y1, y2, y3, y4, y5, y6]) rfl ⟨110, _, _, _, _, _, rfl, ?_, below_set6 (bstep HB.out B3.out) (by omega)⟩
    exact (O2.out.set6 (p := w.heap.size + 1) (fun h => by omega)).mono (fun b hb => by omega)
end Go.Proofs.YtlhemcjahcmdeaaGreatDoor
namespace Go.Proofs.YtlhemcjahcmdeaaGreatDoor
open Go.RowKit
set_option maxRecDepth 100000
set_option linter.unusedSimpArgs false
set_option linter.unusedVariables false

def kAg (k : Int) (d : PoolD) : Int := markEnd k d.lo d.ts
def kCe (k : Int) (d : PoolD) : Int := kAg k d + (d.ag.length * 2 : Nat)
def kVo (k : Int) (d : PoolD) : Int := kCe k d + (d.ce.length * 3 : Nat)
def endP (k : Int) (d : PoolD) : Int := kVo k d + (d.vo.length * 4 : Nat)
def markP (k : Int) (d : PoolD) : PoolD := ⟨mkI k d.lo, mkT (k + (d.lo.length : Nat)) d.ts, mkL mG sG (kAg k d) d.ag d.ag.length, mkL mCel sCel (kCe k d) d.ce d.ce.length, mkL mVol sVol (kVo k d) d.vo d.vo.length, d.nx⟩
theorem k_le {k : Int} {d : PoolD} (hs : SmallP d) (h0 : 0 ≤ k) (h1 : k ≤ 274877906944) : 0 ≤ kAg k d ∧ kAg k d ≤ 549755813888 ∧ 0 ≤ kCe k d ∧ kCe k d ≤ 1099511627776 ∧ 0 ≤ kVo k d ∧ kVo k d ≤ 1099511627776 ∧ 0 ≤ endP k d ∧ endP k d ≤ 1099511627776 := by
  have h := markEnd_le hs.t h0 h1
  have := hs.2.1
  have := hs.2.2.1
  have := hs.2.2.2
  unfold endP kVo kCe kAg
  omega
set_option maxHeartbeats 1000000 in
theorem markPool_any {t : TypeId} (vl vn va vc vv : Value) (S : Nat → Prop) (d : PoolD) (k : Int) (w : World) (h : PoolC t w S vl vn va vc vv d) (hS : ∀ b, S b → b < w.heap.size) (hs : SmallP d) (h0 : 0 ≤ k) (h1 : k ≤ 274877906944) :
    Calls Tryz.prog 39 #[.agg #[vl, vn, va, vc, vv, .int .i64 d.nx], .int .i64 k] w fun e w' => e = .returned (.int .i64 (endP k d)) ∧ PoolC t w' S vl vn va vc vv (markP k d) ∧ Only S w w' := by
  obtain ⟨A0, c0, A1, c1, A2, c2, A3, c3, A4, c4, rfl, rfl, rfl, rfl, rfl⟩ := h.reads.shape
  obtain ⟨P, Q, R, T, p1, p2, p3, p4, p5, p6, p7, g1, g2, g3, g4⟩ := h
  have hk := k_le hs h0 h1
  have s2 := hs.2.1
  have s3 := hs.2.2.1
  have s4 := hs.2.2.2
  have HB := Lib.hid (bal1 w (.cells #[.slice A0 d.lo.length c0, .slice A1 d.ts.length c1, .slice A2 d.ag.length c2, .slice A3 d.ce.length c3, .slice A4 d.vo.length c4, .int .i64 d.nx] 32))
  have Q0 := Lib.hid (al1 w (.cells #[.slice A0 d.lo.length c0, .slice A1 d.ts.length c1, .slice A2 d.ag.length c2, .slice A3 d.ce.length c3, .slice A4 d.vo.length c4, .int .i64 d.nx] 32))
  have HM := Lib.hid (markTree_any (.slice A0 d.lo.length c0) (.slice A1 d.ts.length c1) P d.lo d.ts k _ (g1.on HB.out) (fun b hb => by have := hS b (p1 b hb); have := HB.out.size; omega) hs.t h0 h1)
  have O2 := Lib.hid (g2.on HB.out)
  have O3 := Lib.hid (g3.on HB.out)
  have O4 := Lib.hid (g4.on HB.out)
  have p56 := Lib.hid p5
  have p66 := Lib.hid p6
  have p76 := Lib.hid p7
  have HSS := Lib.hid hS
  have HP := Lib.hid (And.intro p1 (And.intro p2 (And.intro p3 p4)))
  obtain ⟨ka, hka⟩ : ∃ x, markEnd k d.lo d.ts = x := ⟨_, rfl⟩
  obtain ⟨kc, hkc⟩ : ∃ x, kCe k d = x := ⟨_, rfl⟩
  obtain ⟨kv, hkv⟩ : ∃ x, kVo k d = x := ⟨_, rfl⟩
  obtain ⟨ke, hke⟩ : ∃ x, endP k d = x := ⟨_, rfl⟩
  have hmp : markP k d = ⟨mkI k d.lo, mkT (k + (d.lo.length : Nat)) d.ts, mkL mG sG ka d.ag d.ag.length, mkL mCel sCel kc d.ce d.ce.length, mkL mVol sVol kv d.vo d.vo.length, d.nx⟩ := by unfold markP kAg; rw [hka, hkc, hkv]
  rw [hke, hmp]
  rw [hka] at HM
  have e1 : ka + (d.ag.length * 2 : Nat) = kc := by rw [← hkc, ← hka]; rfl
  have e2 : kc + (d.ce.length * 3 : Nat) = kv := by rw [← hkv, ← hkc]; rfl
  have e3 : kv + (d.vo.length * 4 : Nat) = ke := by rw [← hke, ← hkv]; rfl
  have K1 : 0 ≤ ka ∧ ka ≤ 1125899906842624 := by have := hk.1; have := hk.2.1; unfold kAg at *; omega
  have K2 : 0 ≤ kc ∧ kc ≤ 1125899906842624 := by omega
  have K3 : 0 ≤ kv ∧ kv ≤ 1125899906842624 := by omega
  have E1 := Lib.hid e1
  have E2 := Lib.hid e2
  have E3 := Lib.hid e3
  clear g1 g2 g3 g4 hka hkc hkv hke hmp e1 e2 e3 hk p5 p6 p7 hS p1 p2 p3 p4
  go_enter Tryz.func39, Tryz.ntmps39
  go_upto_region 1 with (fail)
  generalize w.alloc (.cells #[.slice A0 d.lo.length c0, .slice A1 d.ts.length c1, .slice A2 d.ag.length c2, .slice A3 d.ce.length c3, .slice A4 d.vo.length c4, .int .i64 d.nx] 32) = W at *
  obtain ⟨x0, x1, x2, x3, x4, x5, x6⟩ := boxP Q0.out
  go_wp2_with fail
  refine HM.out.mono ?_
  rintro e w1 ⟨rfl, o, g⟩
  clear x0 x1 x2 x3 x4 x5 x6 HM
  replace Q0 := Lib.hid (box_only Q0.out g (fun h => by have := HSS.out _ (HP.out.1 _ h); omega))
  replace O2 := Lib.hid (O2.out.far g (fun b hb _ hb' => (p56.out b hb').1 hb))
  replace O3 := Lib.hid (O3.out.far g (fun b hb _ hb' => (p56.out b hb').2.1 hb))
  replace O4 := Lib.hid (O4.out.far g (fun b hb _ hb' => (p56.out b hb').2.2 hb))
  have O1 := Lib.hid o
  replace HB := Lib.hid ((Only.of_below HB.out S).trans (g.mono HP.out.1))
  clear o g
  have HM := Lib.hid (markAgeS_any _ Q d.ag ka _ O2.out (by omega) K1.1 K1.2)
  obtain ⟨x0, x1, x2, x3, x4, x5, x6⟩ := boxP Q0.out
  go_wp2_with fail
  refine HM.out.mono ?_
  rintro e w2 ⟨rfl, o, g⟩
  clear x0 x1 x2 x3 x4 x5 x6 HM
  rw [E1.out]
  replace Q0 := Lib.hid (box_only Q0.out g (fun h => by have := HSS.out _ (HP.out.2.1 _ h); omega))
  replace O1 := Lib.hid (O1.out.far g (fun b hb _ hb' => (p56.out b hb).1 hb'))
  replace O3 := Lib.hid (O3.out.far g (fun b hb _ hb' => (p66.out b hb').1 hb))
  replace O4 := Lib.hid (O4.out.far g (fun b hb _ hb' => (p66.out b hb').2 hb))
  replace O2 := Lib.hid o
  replace HB := Lib.hid (HB.out.trans (g.mono HP.out.2.1))
  clear o g
  have HM := Lib.hid (markCellS_any _ R d.ce kc _ O3.out (by omega) K2.1 K2.2)
  obtain ⟨x0, x1, x2, x3, x4, x5, x6⟩ := boxP Q0.out
  go_wp2_with fail
  refine HM.out.mono ?_
  rintro e w3 ⟨rfl, o, g⟩
  clear x0 x1 x2 x3 x4 x5 x6 HM
  rw [E2.out]
  replace Q0 := Lib.hid (box_only Q0.out g (fun h => by have := HSS.out _ (HP.out.2.2.1 _ h); omega))
  replace O1 := Lib.hid (O1.out.far g (fun b hb _ hb' => (p56.out b hb).2.1 hb'))
  replace O2 := Lib.hid (O2.out.far g (fun b hb _ hb' => (p66.out b hb).1 hb'))
  replace O4 := Lib.hid (O4.out.far g (fun b hb _ hb' => p76.out b hb' hb))
  replace O3 := Lib.hid o
  replace HB := Lib.hid (HB.out.trans (g.mono HP.out.2.2.1))
  clear o g
  have HM := Lib.hid (markVolS_any _ T d.vo kv _ O4.out (by omega) K3.1 K3.2)
  obtain ⟨x0, x1, x2, x3, x4, x5, x6⟩ := boxP Q0.out
  go_wp2_with fail
  refine HM.out.mono ?_
  rintro e w4 ⟨rfl, o, g⟩
  clear x0 x1 x2 x3 x4 x5 x6 HM
  rw [E3.out]
  replace Q0 := Lib.hid (box_only Q0.out g (fun h => by have := HSS.out _ (HP.out.2.2.2 _ h); omega))
  replace O1 := Lib.hid (O1.out.far g (fun b hb _ hb' => (p56.out b hb).2.2 hb'))
  replace O2 := Lib.hid (O2.out.far g (fun b hb _ hb' => (p66.out b hb).2 hb'))
  replace O3 := Lib.hid (O3.out.far g (fun b hb _ hb' => p76.out b hb hb'))
  replace O4 := Lib.hid o
  replace HB := Lib.hid (HB.out.trans (g.mono HP.out.2.2.2))
  clear o g
  go_wp2
  go_ret
  exact ⟨rfl, ⟨P, Q, R, T, HP.out.1, HP.out.2.1, HP.out.2.2.1, HP.out.2.2.2, p56.out, p66.out, p76.out, O1.out, O2.out, O3.out, O4.out⟩, HB.out⟩
set_option maxHeartbeats 1000000 in
theorem heldPool_any {t : TypeId} (vl vn va vc vv : Value) (d : PoolD) (k : Int) (w : World) (h : RdP t w w.heap.size vl vn va vc vv (markP k d)) (hs : SmallP d) (h0 : 0 ≤ k) (h1 : k ≤ 274877906944) :
    Calls Tryz.prog 40 #[.agg #[vl, vn, va, vc, vv, .int .i64 d.nx], .int .i64 k] w fun e w' => e = .returned (.int .i64 (endP k d)) ∧ Below w.heap.size w w' := by
  obtain ⟨A0, c0, A1, c1, A2, c2, A3, c3, A4, c4, rfl, rfl, rfl, rfl, rfl⟩ := h.shape
  have hk := k_le hs h0 h1
  have s2 := hs.2.1
  have s3 := hs.2.2.1
  have s4 := hs.2.2.2
  have l0 : (markP k d).lo.length = d.lo.length := mkL_length _ _ _ _ _
  have l1 : (markP k d).ts.length = d.ts.length := mkL_length _ _ _ _ _
  have l2 : (markP k d).ag.length = d.ag.length := mkL_length _ _ _ _ _
  have l3 : (markP k d).ce.length = d.ce.length := mkL_length _ _ _ _ _
  have l4 : (markP k d).vo.length = d.vo.length := mkL_length _ _ _ _ _
  rw [l0, l1, l2, l3, l4] at h ⊢
  obtain ⟨ka, hka⟩ : ∃ x, markEnd k d.lo d.ts = x := ⟨_, rfl⟩
  obtain ⟨kc, hkc⟩ : ∃ x, kCe k d = x := ⟨_, rfl⟩
  obtain ⟨kv, hkv⟩ : ∃ x, kVo k d = x := ⟨_, rfl⟩
  obtain ⟨ke, hke⟩ : ∃ x, endP k d = x := ⟨_, rfl⟩
  have hmp : markP k d = ⟨mkI k d.lo, mkT (k + (d.lo.length : Nat)) d.ts, mkL mG sG ka d.ag d.ag.length, mkL mCel sCel kc d.ce d.ce.length, mkL mVol sVol kv d.vo d.vo.length, d.nx⟩ := by unfold markP kAg; rw [hka, hkc, hkv]
  rw [hke]
  rw [hmp] at h
  have e1 : ka + (d.ag.length * 2 : Nat) = kc := by rw [← hkc, ← hka]; rfl
  have e2 : kc + (d.ce.length * 3 : Nat) = kv := by rw [← hkv, ← hkc]; rfl
  have e3 : kv + (d.vo.length * 4 : Nat) = ke := by rw [← hke, ← hkv]; rfl
  have K1 : 0 ≤ ka ∧ ka ≤ 1125899906842624 := by have := hk.1; have := hk.2.1; unfold kAg at *; omega
  have K2 : 0 ≤ kc ∧ kc ≤ 1125899906842624 := by omega
  have K3 : 0 ≤ kv ∧ kv ≤ 1125899906842624 := by omega
  have HT := Lib.hid (fun W b => heldTree_any (.slice A0 d.lo.length c0) (.slice A1 d.ts.length c1) d.lo d.ts k W (h.1.on b) hs.t h0 h1)
  have HA := Lib.hid (fun W b => heldAgeS_any (.slice A2 d.ag.length c2) d.ag ka W (h.2.1.on b) (by omega) K1.1 K1.2)
  have HC := Lib.hid (fun W b => heldCellS_any (.slice A3 d.ce.length c3) d.ce kc W (h.2.2.1.on b) (by omega) K2.1 K2.2)
  have HV := Lib.hid (fun W b => heldVolS_any (.slice A4 d.vo.length c4) d.vo kv W (h.2.2.2.on b) (by omega) K3.1 K3.2)
  rw [hka] at HT
  rw [e1] at HA
  rw [e2] at HC
  rw [e3] at HV
  have d1 : decide (ka < 0) = false := decide_eq_false (by omega)
  have d2 : decide (kc < 0) = false := decide_eq_false (by omega)
  have d3 : decide (kv < 0) = false := decide_eq_false (by omega)
  have d4 : decide (ke < 0) = false := decide_eq_false (by omega)
  have HB := Lib.hid (bal1 w (.cells #[.slice A0 d.lo.length c0, .slice A1 d.ts.length c1, .slice A2 d.ag.length c2, .slice A3 d.ce.length c3, .slice A4 d.vo.length c4, .int .i64 d.nx] 32))
  have Q0 := Lib.hid (al1 w (.cells #[.slice A0 d.lo.length c0, .slice A1 d.ts.length c1, .slice A2 d.ag.length c2, .slice A3 d.ce.length c3, .slice A4 d.vo.length c4, .int .i64 d.nx] 32))
  clear h hs hk s2 s3 s4 l0 l1 l2 l3 l4 hka hkc hkv hke hmp e1 e2 e3 K1 K2 K3
  go_enter Tryz.func40, Tryz.ntmps40
  go_upto_region 1 with (fail)
  generalize w.alloc (.cells #[.slice A0 d.lo.length c0, .slice A1 d.ts.length c1, .slice A2 d.ag.length c2, .slice A3 d.ce.length c3, .slice A4 d.vo.length c4, .int .i64 d.nx] 32) = W at *
  obtain ⟨x0, x1, x2, x3, x4, x5, x6⟩ := boxP Q0.out
  go_wp2_with fail
  refine (HT.out _ HB.out).mono ?_
  rintro e w1 ⟨rfl, b1⟩
  clear x0 x1 x2 x3 x4 x5 x6
  replace HB := Lib.hid (bstep HB.out b1)
  replace Q0 := Lib.hid (box_on Q0.out b1)
  obtain ⟨x0, x1, x2, x3, x4, x5, x6⟩ := boxP Q0.out
  clear b1
  go_wp2_with fail
  refine (HA.out _ HB.out).mono ?_
  rintro e w1 ⟨rfl, rfl⟩
  go_wp2_with fail
  refine (HC.out _ HB.out).mono ?_
  rintro e w1 ⟨rfl, rfl⟩
  go_wp2_with fail
  refine (HV.out _ HB.out).mono ?_
  rintro e w1 ⟨rfl, b1⟩
  clear x0 x1 x2 x3 x4 x5 x6
  replace HB := Lib.hid (bstep HB.out b1)
  replace Q0 := Lib.hid (box_on Q0.out b1)
  obtain ⟨x0, x1, x2, x3, x4, x5, x6⟩ := boxP Q0.out
  clear b1
  go_wp2
  go_ret
  exact ⟨rfl, HB.out⟩
end Go.Proofs.YtlhemcjahcmdeaaGreatDoor
namespace Go.Proofs.YtlhemcjahcmdeaaGreatDoor
open Go.RowKit
set_option maxRecDepth 100000
set_option linter.unusedSimpArgs false
set_option linter.unusedVariables false

set_option maxHeartbeats 4000000 in
theorem exactKill_walk (v : Value) (d : PoolD) (s : ByteArray) (w : World) (hv : PoolIs w v d) (hzs : s.size ≤ maxLen) (hg : ErrT w) : Calls Tryz.prog 7 #[v, .string s] w fun e w' => e = .returned (.bool true) ∧ Below w.heap.size w w' := by
  obtain ⟨vl, vn, va, vc, vv, rfl, hA, hnm, _⟩ := hv
  obtain ⟨N0, Nc0, N1, Nc1, N2, Nc2, N3, Nc3, N4, Nc4, rfl, rfl, rfl, rfl, rfl⟩ := hA.shape
  have HT := Lib.hid (fun (hs : SmallP d) W b => toPool_any (.slice N0 d.lo.length Nc0) (.slice N1 d.ts.length Nc1) (.slice N2 d.ag.length Nc2) (.slice N3 d.ce.length Nc3) (.slice N4 d.vo.length Nc4) d W (hA.on b) hs)
  have HZ := Lib.hid (fun W b => szPool_any (.slice N0 d.lo.length Nc0) (.slice N1 d.ts.length Nc1) (.slice N2 d.ag.length Nc2) (.slice N3 d.ce.length Nc3) (.slice N4 d.vo.length Nc4) d W (hA.on b) hnm)
  have HSP := Lib.hid (fun (hs : SmallP d) (t : TypeId) (vl vn va vc vv : Value) (W : World) (h : RdP t W W.heap.size vl vn va vc vv d) => specKill_any vl vn va vc vv d s W h hs hnm hzs)
  have HIM := Lib.hid (fun (hs : SmallP d) (t : TypeId) (vl vn va vc vv : Value) (W : World) (b : Below w.heap.size w W) (h : RdP t W W.heap.size vl vn va vc vv d) => implKill_any vl vn va vc vv d s W h hs hnm hzs (hg.on b hg.size))
  have HSY := Lib.hid (fun (hs : SmallP d) => changeK_small (s := s) (f := killD s) hs)
  obtain ⟨y, c, hyc⟩ : ∃ y c, changeK d s (killD s) = (y, c) := ⟨_, _, rfl⟩
  rw [hyc] at HSP HIM HSY
  have hcc : (c != c) = false := by simp
  have BB := Lib.hid (bal1 w (.cells #[.slice N0 d.lo.length Nc0, .slice N1 d.ts.length Nc1, .slice N2 d.ag.length Nc2, .slice N3 d.ce.length Nc3, .slice N4 d.vo.length Nc4, .int .i64 d.nx] 63))
  have QN := Lib.hid (al1 w (.cells #[.slice N0 d.lo.length Nc0, .slice N1 d.ts.length Nc1, .slice N2 d.ag.length Nc2, .slice N3 d.ce.length Nc3, .slice N4 d.vo.length Nc4, .int .i64 d.nx] 63))
  have hWz : Hid ((w.alloc (.cells #[.slice N0 d.lo.length Nc0, .slice N1 d.ts.length Nc1, .slice N2 d.ag.length Nc2, .slice N3 d.ce.length Nc3, .slice N4 d.vo.length Nc4, .int .i64 d.nx] 63)).heap.size = w.heap.size + 1) := Lib.hid (by simp)
  clear hA hnm hg hyc hzs
  by_cases hsz : s.size ≤ 1048576
  · have hsz2 : decide ((s.size : Int) > 1048576) = false := decide_eq_false (by omega)
    go_enter Tryz.func7, Tryz.ntmps7
    go_upto_region 1 with (fail)
    generalize w.alloc (.cells #[.slice N0 d.lo.length Nc0, .slice N1 d.ts.length Nc1, .slice N2 d.ag.length Nc2, .slice N3 d.ce.length Nc3, .slice N4 d.vo.length Nc4, .int .i64 d.nx] 63) = W at *
    have hWz1 := Nat.le_of_eq hWz.out
    have hWz2 := Nat.le_of_eq hWz.out.symm
    clear hWz
    obtain ⟨Nx0, Nx1, Nx2, Nx3, Nx4, Nx5, Nx6⟩ := boxP QN.out
    go_wp2_with fail
    refine (HZ.out _ BB.out).mono ?_
    clear Nx0 Nx1 Nx2 Nx3 Nx4 Nx5 Nx6
    rintro r w0 ⟨⟨q, rfl, q0, hs⟩ | rfl, b⟩
    · replace QN := Lib.hid (box_on QN.out b)
      replace BB := Lib.hid (bstep BB.out b)
      have z0 := b.size
      have d0 : decide (q < 0) = false := decide_eq_false (by omega)
      have HS := Lib.hid hs
      have HY := Lib.hid (HSY.out hs)
      clear b hs HSY HZ
      obtain ⟨Nx0, Nx1, Nx2, Nx3, Nx4, Nx5, Nx6⟩ := boxP QN.out
      go_wp2_with fail
      refine (HT.out HS.out _ BB.out).mono ?_
      clear Nx0 Nx1 Nx2 Nx3 Nx4 Nx5 Nx6
      rintro r w1 ⟨vlT, vnT, vaT, vcT, vvT, rfl, o, b⟩
      have zT := b.size
      replace QN := Lib.hid (box_on QN.out b)
      replace BB := Lib.hid (bstep BB.out b)
      have OT := Lib.hid o.lt
      clear o b
      obtain ⟨T0, Tc0, T1, Tc1, T2, Tc2, T3, Tc3, T4, Tc4, rfl, rfl, rfl, rfl, rfl⟩ := OT.out.reads.shape
      clear d0
      go_wp2_with fail
      refine (HSP.out HS.out _ _ _ _ _ _ _ OT.out.reads).mono ?_
      rintro r w2 ⟨tS, vlS, vnS, vaS, vcS, vvS, rfl, o, b⟩
      have zS := b.size
      replace OT := Lib.hid (OT.out.on b)
      replace QN := Lib.hid (box_on QN.out b)
      replace BB := Lib.hid (bstep BB.out b)
      have OS := Lib.hid o.lt
      clear o b
      obtain ⟨S0, Sc0, S1, Sc1, S2, Sc2, S3, Sc3, S4, Sc4, rfl, rfl, rfl, rfl, rfl⟩ := OS.out.reads.shape
      clear OT
      have ba := bal1 w2 (.cells #[.slice S0 y.lo.length Sc0, .slice S1 y.ts.length Sc1, .slice S2 y.ag.length Sc2, .slice S3 y.ce.length Sc3, .slice S4 y.vo.length Sc4, .int .i64 y.nx] 32)
      have QS := Lib.hid (al1 w2 (.cells #[.slice S0 y.lo.length Sc0, .slice S1 y.ts.length Sc1, .slice S2 y.ag.length Sc2, .slice S3 y.ce.length Sc3, .slice S4 y.vo.length Sc4, .int .i64 y.nx] 32))
      have hzS : (w2.alloc (.cells #[.slice S0 y.lo.length Sc0, .slice S1 y.ts.length Sc1, .slice S2 y.ag.length Sc2, .slice S3 y.ce.length Sc3, .slice S4 y.vo.length Sc4, .int .i64 y.nx] 32)).heap.size = w2.heap.size + 1 := by simp
      replace OS := Lib.hid (OS.out.on ba)
      replace QN := Lib.hid (box_on QN.out ba)
      replace BB := Lib.hid (bstep BB.out ba)
      clear ba
      have yS := Lib.hid hzS
      clear hzS
      go_upto_region 8 with (fail)
      generalize w2.alloc (.cells #[.slice S0 y.lo.length Sc0, .slice S1 y.ts.length Sc1, .slice S2 y.ag.length Sc2, .slice S3 y.ce.length Sc3, .slice S4 y.vo.length Sc4, .int .i64 y.nx] 32) = w3 at *
      have xS := Nat.le_of_eq yS.out
      have uS := Nat.le_of_eq yS.out.symm
      clear yS
      obtain ⟨Nx0, Nx1, Nx2, Nx3, Nx4, Nx5, Nx6⟩ := boxP QN.out
      go_wp2_with fail
      refine (HT.out HS.out _ BB.out).mono ?_
      clear Nx0 Nx1 Nx2 Nx3 Nx4 Nx5 Nx6
      rintro r w4 ⟨vlX, vnX, vaX, vcX, vvX, rfl, o, b⟩
      have zX := b.size
      replace OS := Lib.hid (OS.out.on b)
      replace QN := Lib.hid (box_on QN.out b)
      replace QS := Lib.hid (box_on QS.out b)
      replace BB := Lib.hid (bstep BB.out b)
      have OX := Lib.hid o.lt
      clear o b
      obtain ⟨X0, Xc0, X1, Xc1, X2, Xc2, X3, Xc3, X4, Xc4, rfl, rfl, rfl, rfl, rfl⟩ := OX.out.reads.shape
      have ba := bal1 w4 (.cells #[.slice X0 d.lo.length Xc0, .slice X1 d.ts.length Xc1, .slice X2 d.ag.length Xc2, .slice X3 d.ce.length Xc3, .slice X4 d.vo.length Xc4, .int .i64 d.nx] 32)
      have QX := Lib.hid (al1 w4 (.cells #[.slice X0 d.lo.length Xc0, .slice X1 d.ts.length Xc1, .slice X2 d.ag.length Xc2, .slice X3 d.ce.length Xc3, .slice X4 d.vo.length Xc4, .int .i64 d.nx] 32))
      have hzX : (w4.alloc (.cells #[.slice X0 d.lo.length Xc0, .slice X1 d.ts.length Xc1, .slice X2 d.ag.length Xc2, .slice X3 d.ce.length Xc3, .slice X4 d.vo.length Xc4, .int .i64 d.nx] 32)).heap.size = w4.heap.size + 1 := by simp
      replace OS := Lib.hid (OS.out.on ba)
      replace OX := Lib.hid (OX.out.on ba)
      replace QN := Lib.hid (box_on QN.out ba)
      replace QS := Lib.hid (box_on QS.out ba)
      replace BB := Lib.hid (bstep BB.out ba)
      clear ba
      have yX := Lib.hid hzX
      clear hzX
      go_upto_region 9 with (fail)
      generalize w4.alloc (.cells #[.slice X0 d.lo.length Xc0, .slice X1 d.ts.length Xc1, .slice X2 d.ag.length Xc2, .slice X3 d.ce.length Xc3, .slice X4 d.vo.length Xc4, .int .i64 d.nx] 32) = w5 at *
      have xX := Nat.le_of_eq yX.out
      have uX := Nat.le_of_eq yX.out.symm
      clear yX
      obtain ⟨Xx0, Xx1, Xx2, Xx3, Xx4, Xx5, Xx6⟩ := boxP QX.out
      go_wp2_with fail
      refine (HIM.out HS.out _ _ _ _ _ _ _ BB.out OX.out.reads).mono ?_
      clear Xx0 Xx1 Xx2 Xx3 Xx4 Xx5 Xx6
      rintro r w6 ⟨tG, vlG, vnG, vaG, vcG, vvG, rfl, o, b⟩
      have zG := b.size
      replace OS := Lib.hid (OS.out.on b)
      replace OX := Lib.hid (OX.out.on b)
      replace QN := Lib.hid (box_on QN.out b)
      replace QS := Lib.hid (box_on QS.out b)
      replace QX := Lib.hid (box_on QX.out b)
      replace BB := Lib.hid (bstep BB.out b)
      have OG := Lib.hid o.lt
      clear o b
      obtain ⟨G0, Gc0, G1, Gc1, G2, Gc2, G3, Gc3, G4, Gc4, rfl, rfl, rfl, rfl, rfl⟩ := OG.out.reads.shape
      have ba := bal1 w6 (.cells #[.slice G0 y.lo.length Gc0, .slice G1 y.ts.length Gc1, .slice G2 y.ag.length Gc2, .slice G3 y.ce.length Gc3, .slice G4 y.vo.length Gc4, .int .i64 y.nx] 32)
      have QG := Lib.hid (al1 w6 (.cells #[.slice G0 y.lo.length Gc0, .slice G1 y.ts.length Gc1, .slice G2 y.ag.length Gc2, .slice G3 y.ce.length Gc3, .slice G4 y.vo.length Gc4, .int .i64 y.nx] 32))
      have hzG : (w6.alloc (.cells #[.slice G0 y.lo.length Gc0, .slice G1 y.ts.length Gc1, .slice G2 y.ag.length Gc2, .slice G3 y.ce.length Gc3, .slice G4 y.vo.length Gc4, .int .i64 y.nx] 32)).heap.size = w6.heap.size + 1 := by simp
      replace OS := Lib.hid (OS.out.on ba)
      replace OX := Lib.hid (OX.out.on ba)
      replace OG := Lib.hid (OG.out.on ba)
      replace QN := Lib.hid (box_on QN.out ba)
      replace QS := Lib.hid (box_on QS.out ba)
      replace QX := Lib.hid (box_on QX.out ba)
      replace BB := Lib.hid (bstep BB.out ba)
      clear ba
      have yG := Lib.hid hzG
      clear hzG
      go_upto_region 10 with (fail)
      generalize w6.alloc (.cells #[.slice G0 y.lo.length Gc0, .slice G1 y.ts.length Gc1, .slice G2 y.ag.length Gc2, .slice G3 y.ce.length Gc3, .slice G4 y.vo.length Gc4, .int .i64 y.nx] 32) = w7 at *
      have xG := Nat.le_of_eq yG.out
      have uG := Nat.le_of_eq yG.out.symm
      clear yG
      obtain ⟨Gx0, Gx1, Gx2, Gx3, Gx4, Gx5, Gx6⟩ := boxP QG.out
      obtain ⟨Sx0, Sx1, Sx2, Sx3, Sx4, Sx5, Sx6⟩ := boxP QS.out
      go_wp2_with fail
      refine (eqPool_same _ _ _ _ _ _ _ _ _ _ y _ OG.out.reads OS.out.reads HY.out).mono ?_
      clear Gx0 Gx1 Gx2 Gx3 Gx4 Gx5 Gx6 Sx0 Sx1 Sx2 Sx3 Sx4 Sx5 Sx6
      rintro r w8 ⟨rfl, b⟩
      have z8 := b.size
      replace OS := Lib.hid (OS.out.on b)
      replace OX := Lib.hid (OX.out.on b)
      replace OG := Lib.hid (OG.out.on b)
      replace QN := Lib.hid (box_on QN.out b)
      replace QS := Lib.hid (box_on QS.out b)
      replace QX := Lib.hid (box_on QX.out b)
      replace QG := Lib.hid (box_on QG.out b)
      replace BB := Lib.hid (bstep BB.out b)
      clear b
      obtain ⟨Nx0, Nx1, Nx2, Nx3, Nx4, Nx5, Nx6⟩ := boxP QN.out
      obtain ⟨Xx0, Xx1, Xx2, Xx3, Xx4, Xx5, Xx6⟩ := boxP QX.out
      go_upto_region 12 with (fail)
      go_region_held3 (fun V => V.cell? ⟨w.heap.size, 0, none⟩ = some (.slice N0 d.lo.length Nc0) ∧ V.cell? ⟨w.heap.size, 1, none⟩ = some (.slice N1 d.ts.length Nc1) ∧ V.cell? ⟨w.heap.size, 2, none⟩ = some (.slice N2 d.ag.length Nc2) ∧ V.cell? ⟨w.heap.size, 3, none⟩ = some (.slice N3 d.ce.length Nc3) ∧ V.cell? ⟨w.heap.size, 4, none⟩ = some (.slice N4 d.vo.length Nc4) ∧ V.cell? ⟨w.heap.size, 5, none⟩ = some (.int .i64 d.nx) ∧ V.cell? ⟨w4.heap.size, 0, none⟩ = some (.slice X0 d.lo.length Xc0) ∧ V.cell? ⟨w4.heap.size, 1, none⟩ = some (.slice X1 d.ts.length Xc1) ∧ V.cell? ⟨w4.heap.size, 2, none⟩ = some (.slice X2 d.ag.length Xc2) ∧ V.cell? ⟨w4.heap.size, 3, none⟩ = some (.slice X3 d.ce.length Xc3) ∧ V.cell? ⟨w4.heap.size, 4, none⟩ = some (.slice X4 d.vo.length Xc4) ∧ V.cell? ⟨w4.heap.size, 5, none⟩ = some (.int .i64 d.nx))
        (first | with_reducible exact ⟨(boxP (box_on QN.out (bstep (bstep (Below.drew1 _) b1p) b2p))).1, (boxP (box_on QN.out (bstep (bstep (Below.drew1 _) b1p) b2p))).2.1, (boxP (box_on QN.out (bstep (bstep (Below.drew1 _) b1p) b2p))).2.2.1, (boxP (box_on QN.out (bstep (bstep (Below.drew1 _) b1p) b2p))).2.2.2.1, (boxP (box_on QN.out (bstep (bstep (Below.drew1 _) b1p) b2p))).2.2.2.2.1, (boxP (box_on QN.out (bstep (bstep (Below.drew1 _) b1p) b2p))).2.2.2.2.2.1, (boxP (box_on QX.out (bstep (bstep (Below.drew1 _) b1p) b2p))).1, (boxP (box_on QX.out (bstep (bstep (Below.drew1 _) b1p) b2p))).2.1, (boxP (box_on QX.out (bstep (bstep (Below.drew1 _) b1p) b2p))).2.2.1, (boxP (box_on QX.out (bstep (bstep (Below.drew1 _) b1p) b2p))).2.2.2.1, (boxP (box_on QX.out (bstep (bstep (Below.drew1 _) b1p) b2p))).2.2.2.2.1, (boxP (box_on QX.out (bstep (bstep (Below.drew1 _) b1p) b2p))).2.2.2.2.2.1⟩ | with_reducible exact ⟨(boxP (box_on QN.out (bstep (Below.drew1 _) b1p))).1, (boxP (box_on QN.out (bstep (Below.drew1 _) b1p))).2.1, (boxP (box_on QN.out (bstep (Below.drew1 _) b1p))).2.2.1, (boxP (box_on QN.out (bstep (Below.drew1 _) b1p))).2.2.2.1, (boxP (box_on QN.out (bstep (Below.drew1 _) b1p))).2.2.2.2.1, (boxP (box_on QN.out (bstep (Below.drew1 _) b1p))).2.2.2.2.2.1, (boxP (box_on QX.out (bstep (Below.drew1 _) b1p))).1, (boxP (box_on QX.out (bstep (Below.drew1 _) b1p))).2.1, (boxP (box_on QX.out (bstep (Below.drew1 _) b1p))).2.2.1, (boxP (box_on QX.out (bstep (Below.drew1 _) b1p))).2.2.2.1, (boxP (box_on QX.out (bstep (Below.drew1 _) b1p))).2.2.2.2.1, (boxP (box_on QX.out (bstep (Below.drew1 _) b1p))).2.2.2.2.2.1⟩ | with_reducible exact ⟨(boxP (box_on QN.out (Below.drew1 _))).1, (boxP (box_on QN.out (Below.drew1 _))).2.1, (boxP (box_on QN.out (Below.drew1 _))).2.2.1, (boxP (box_on QN.out (Below.drew1 _))).2.2.2.1, (boxP (box_on QN.out (Below.drew1 _))).2.2.2.2.1, (boxP (box_on QN.out (Below.drew1 _))).2.2.2.2.2.1, (boxP (box_on QX.out (Below.drew1 _))).1, (boxP (box_on QX.out (Below.drew1 _))).2.1, (boxP (box_on QX.out (Below.drew1 _))).2.2.1, (boxP (box_on QX.out (Below.drew1 _))).2.2.2.1, (boxP (box_on QX.out (Below.drew1 _))).2.2.2.2.1, (boxP (box_on QX.out (Below.drew1 _))).2.2.2.2.2.1⟩ | exact ⟨Nx0, Nx1, Nx2, Nx3, Nx4, Nx5, Xx0, Xx1, Xx2, Xx3, Xx4, Xx5⟩ | fail)
        (first
          | (go_at_call 38; refine (eqPool_same _ _ _ _ _ _ _ _ _ _ d _ (OX.out.on (bstep (Below.drew1 _) b1p)).reads oop.reads HS.out).mono ?_; rintro r u2p ⟨rfl, b2p⟩)
          | (go_at_call 37; refine (HT.out HS.out _ (bstep BB.out (Below.drew1 _))).mono ?_; rintro r u1p ⟨pl, pn, pa, pc, pw, rfl, oop, b1p⟩; obtain ⟨Y0, Yc0, Y1, Yc1, Y2, Yc2, Y3, Yc3, Y4, Yc4, rfl, rfl, rfl, rfl, rfl⟩ := oop.reads.shape)
          | fail)
      clear Nx0 Nx1 Nx2 Nx3 Nx4 Nx5 Nx6 Xx0 Xx1 Xx2 Xx3 Xx4 Xx5 Xx6
      have b := bstep (bstep (Below.drew1 _) b1p) b2p
      have zq := b.size
      replace OS := Lib.hid (OS.out.on b)
      replace OX := Lib.hid (OX.out.on b)
      replace OG := Lib.hid (OG.out.on b)
      replace QN := Lib.hid (box_on QN.out b)
      replace QS := Lib.hid (box_on QS.out b)
      replace QX := Lib.hid (box_on QX.out b)
      replace QG := Lib.hid (box_on QG.out b)
      replace BB := Lib.hid (bstep BB.out b)
      clear b b1p b2p oop
      obtain ⟨Xx0, Xx1, Xx2, Xx3, Xx4, Xx5, Xx6⟩ := boxP QX.out
      go_wp2_with fail
      refine (markPool_any _ _ _ _ _ _ d 1 _ OX.out (fun b hb => by omega) HS.out (by omega) (by omega)).mono ?_
      clear Xx0 Xx1 Xx2 Xx3 Xx4 Xx5 Xx6
      rintro r w9 ⟨rfl, o, g⟩
      have z9 := g.size
      replace OS := Lib.hid (OS.out.far g (fun b hb _ hb' => by omega))
      replace OG := Lib.hid (OG.out.far g (fun b hb _ hb' => by omega))
      replace QN := Lib.hid (box_only QN.out g (fun hb => by omega))
      replace QS := Lib.hid (box_only QS.out g (fun hb => by omega))
      replace QX := Lib.hid (box_only QX.out g (fun hb => by omega))
      replace QG := Lib.hid (box_only QG.out g (fun hb => by omega))
      replace BB := Lib.hid (BB.out.trans (g.below BB.out.size (fun b hb => by omega)))
      replace OX := Lib.hid o
      clear o g
      have hmk := k_le HS.out (k := 1) (by omega) (by omega)
      obtain ⟨mk, hqk⟩ : ∃ m, endP 1 d = m := ⟨_, rfl⟩
      rw [hqk] at hmk
      rw [hqk]
      have ek : decide (mk < 0) = false := decide_eq_false (by omega)
      have fk : (mk != mk) = false := by simp
      have HQk := Lib.hid hqk
      clear hqk hmk
      obtain ⟨Gx0, Gx1, Gx2, Gx3, Gx4, Gx5, Gx6⟩ := boxP QG.out
      obtain ⟨Sx0, Sx1, Sx2, Sx3, Sx4, Sx5, Sx6⟩ := boxP QS.out
      go_wp2_with fail
      refine (eqPool_same _ _ _ _ _ _ _ _ _ _ y _ OG.out.reads OS.out.reads HY.out).mono ?_
      clear Gx0 Gx1 Gx2 Gx3 Gx4 Gx5 Gx6 Sx0 Sx1 Sx2 Sx3 Sx4 Sx5 Sx6
      rintro r w10 ⟨rfl, b⟩
      have z10 := b.size
      replace OS := Lib.hid (OS.out.on b)
      replace OX := Lib.hid (OX.out.on b)
      replace OG := Lib.hid (OG.out.on b)
      replace QN := Lib.hid (box_on QN.out b)
      replace QS := Lib.hid (box_on QS.out b)
      replace QX := Lib.hid (box_on QX.out b)
      replace QG := Lib.hid (box_on QG.out b)
      replace BB := Lib.hid (bstep BB.out b)
      clear b
      obtain ⟨Gx0, Gx1, Gx2, Gx3, Gx4, Gx5, Gx6⟩ := boxP QG.out
      go_wp2_with fail
      refine (markPool_any _ _ _ _ _ _ y 1 _ OG.out (fun b hb => by omega) HY.out (by omega) (by omega)).mono ?_
      clear Gx0 Gx1 Gx2 Gx3 Gx4 Gx5 Gx6
      rintro r w11 ⟨rfl, o, g⟩
      have z11 := g.size
      replace OS := Lib.hid (OS.out.far g (fun b hb _ hb' => by omega))
      replace OX := Lib.hid (OX.out.far g (fun b hb _ hb' => by omega))
      replace QN := Lib.hid (box_only QN.out g (fun hb => by omega))
      replace QS := Lib.hid (box_only QS.out g (fun hb => by omega))
      replace QX := Lib.hid (box_only QX.out g (fun hb => by omega))
      replace QG := Lib.hid (box_only QG.out g (fun hb => by omega))
      replace BB := Lib.hid (BB.out.trans (g.below BB.out.size (fun b hb => by omega)))
      replace OG := Lib.hid o
      clear o g
      have hmm := k_le HY.out (k := 1) (by omega) (by omega)
      obtain ⟨mm, hqm⟩ : ∃ m, endP 1 y = m := ⟨_, rfl⟩
      rw [hqm] at hmm
      rw [hqm]
      have em : decide (mm < 0) = false := decide_eq_false (by omega)
      have fm : (mm != mm) = false := by simp
      have HQm := Lib.hid hqm
      clear hqm hmm
      obtain ⟨Gx0, Gx1, Gx2, Gx3, Gx4, Gx5, Gx6⟩ := boxP QG.out
      go_wp2_with fail
      refine (heldPool_any _ _ _ _ _ y 1 _ OG.out.reads HY.out (by omega) (by omega)).mono ?_
      clear Gx0 Gx1 Gx2 Gx3 Gx4 Gx5 Gx6
      rintro r w12 ⟨rfl, b⟩
      have z12 := b.size
      replace OS := Lib.hid (OS.out.on b)
      replace OX := Lib.hid (OX.out.on b)
      replace OG := Lib.hid (OG.out.on b)
      replace QN := Lib.hid (box_on QN.out b)
      replace QS := Lib.hid (box_on QS.out b)
      replace QX := Lib.hid (box_on QX.out b)
      replace QG := Lib.hid (box_on QG.out b)
      replace BB := Lib.hid (bstep BB.out b)
      clear b
      rw [HQm.out]
      clear OX
      clear QX
      obtain ⟨Nx0, Nx1, Nx2, Nx3, Nx4, Nx5, Nx6⟩ := boxP QN.out
      go_wp2_with fail
      refine (HT.out HS.out _ BB.out).mono ?_
      clear Nx0 Nx1 Nx2 Nx3 Nx4 Nx5 Nx6
      rintro r w13 ⟨vlZ, vnZ, vaZ, vcZ, vvZ, rfl, o, b⟩
      have zZ := b.size
      replace OS := Lib.hid (OS.out.on b)
      replace OG := Lib.hid (OG.out.on b)
      replace QN := Lib.hid (box_on QN.out b)
      replace QS := Lib.hid (box_on QS.out b)
      replace QG := Lib.hid (box_on QG.out b)
      replace BB := Lib.hid (bstep BB.out b)
      have OZ := Lib.hid o.lt
      clear o b
      obtain ⟨Z0, Zc0, Z1, Zc1, Z2, Zc2, Z3, Zc3, Z4, Zc4, rfl, rfl, rfl, rfl, rfl⟩ := OZ.out.reads.shape
      go_wp2_with fail
      refine (HIM.out HS.out _ _ _ _ _ _ _ BB.out OZ.out.reads).mono ?_
      rintro r w14 ⟨tH, vlH, vnH, vaH, vcH, vvH, rfl, o, b⟩
      have zH := b.size
      replace OS := Lib.hid (OS.out.on b)
      replace OG := Lib.hid (OG.out.on b)
      replace OZ := Lib.hid (OZ.out.on b)
      replace QN := Lib.hid (box_on QN.out b)
      replace QS := Lib.hid (box_on QS.out b)
      replace QG := Lib.hid (box_on QG.out b)
      replace BB := Lib.hid (bstep BB.out b)
      have OH := Lib.hid o.lt
      clear o b
      obtain ⟨H0, Hc0, H1, Hc1, H2, Hc2, H3, Hc3, H4, Hc4, rfl, rfl, rfl, rfl, rfl⟩ := OH.out.reads.shape
      clear OZ
      have ba := bal1 w14 (.cells #[.slice H0 y.lo.length Hc0, .slice H1 y.ts.length Hc1, .slice H2 y.ag.length Hc2, .slice H3 y.ce.length Hc3, .slice H4 y.vo.length Hc4, .int .i64 y.nx] 32)
      have QH := Lib.hid (al1 w14 (.cells #[.slice H0 y.lo.length Hc0, .slice H1 y.ts.length Hc1, .slice H2 y.ag.length Hc2, .slice H3 y.ce.length Hc3, .slice H4 y.vo.length Hc4, .int .i64 y.nx] 32))
      have hzH : (w14.alloc (.cells #[.slice H0 y.lo.length Hc0, .slice H1 y.ts.length Hc1, .slice H2 y.ag.length Hc2, .slice H3 y.ce.length Hc3, .slice H4 y.vo.length Hc4, .int .i64 y.nx] 32)).heap.size = w14.heap.size + 1 := by simp
      replace OS := Lib.hid (OS.out.on ba)
      replace OG := Lib.hid (OG.out.on ba)
      replace OH := Lib.hid (OH.out.on ba)
      replace QN := Lib.hid (box_on QN.out ba)
      replace QS := Lib.hid (box_on QS.out ba)
      replace QG := Lib.hid (box_on QG.out ba)
      replace BB := Lib.hid (bstep BB.out ba)
      clear ba
      have yH := Lib.hid hzH
      clear hzH
      go_upto_region 27 with (fail)
      generalize w14.alloc (.cells #[.slice H0 y.lo.length Hc0, .slice H1 y.ts.length Hc1, .slice H2 y.ag.length Hc2, .slice H3 y.ce.length Hc3, .slice H4 y.vo.length Hc4, .int .i64 y.nx] 32) = w15 at *
      have xH := Nat.le_of_eq yH.out
      have uH := Nat.le_of_eq yH.out.symm
      clear yH
      obtain ⟨Hx0, Hx1, Hx2, Hx3, Hx4, Hx5, Hx6⟩ := boxP QH.out
      obtain ⟨Sx0, Sx1, Sx2, Sx3, Sx4, Sx5, Sx6⟩ := boxP QS.out
      go_wp2_with fail
      refine (eqPool_same _ _ _ _ _ _ _ _ _ _ y _ OH.out.reads OS.out.reads HY.out).mono ?_
      clear Hx0 Hx1 Hx2 Hx3 Hx4 Hx5 Hx6 Sx0 Sx1 Sx2 Sx3 Sx4 Sx5 Sx6
      rintro r w16 ⟨rfl, b⟩
      have z16 := b.size
      replace OS := Lib.hid (OS.out.on b)
      replace OG := Lib.hid (OG.out.on b)
      replace OH := Lib.hid (OH.out.on b)
      replace QN := Lib.hid (box_on QN.out b)
      replace QS := Lib.hid (box_on QS.out b)
      replace QG := Lib.hid (box_on QG.out b)
      replace QH := Lib.hid (box_on QH.out b)
      replace BB := Lib.hid (bstep BB.out b)
      clear b
      obtain ⟨Gx0, Gx1, Gx2, Gx3, Gx4, Gx5, Gx6⟩ := boxP QG.out
      go_wp2_with fail
      refine (heldPool_any _ _ _ _ _ y 1 _ OG.out.reads HY.out (by omega) (by omega)).mono ?_
      clear Gx0 Gx1 Gx2 Gx3 Gx4 Gx5 Gx6
      rintro r w17 ⟨rfl, b⟩
      have z17 := b.size
      replace OS := Lib.hid (OS.out.on b)
      replace OG := Lib.hid (OG.out.on b)
      replace OH := Lib.hid (OH.out.on b)
      replace QN := Lib.hid (box_on QN.out b)
      replace QS := Lib.hid (box_on QS.out b)
      replace QG := Lib.hid (box_on QG.out b)
      replace QH := Lib.hid (box_on QH.out b)
      replace BB := Lib.hid (bstep BB.out b)
      clear b
      rw [HQm.out]
      go_wp2
      go_ret
      exact ⟨rfl, BB.out⟩
    · have B1 := Lib.hid (bstep BB.out b)
      clear b
      go_wp2
      go_ret
      exact ⟨rfl, B1.out⟩
  · have hsz2 : decide ((s.size : Int) > 1048576) = true := decide_eq_true (by omega)
    clear QN HT HZ hWz HSP HIM HSY
    go_enter Tryz.func7, Tryz.ntmps7
    go_wp2
    go_ret
    exact ⟨rfl, BB.out⟩
end Go.Proofs.YtlhemcjahcmdeaaGreatDoor
