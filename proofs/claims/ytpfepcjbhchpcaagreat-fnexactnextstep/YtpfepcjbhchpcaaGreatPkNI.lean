/- Several texts in one: PoolOkS, PruneS, ExNextStep. -/
import Derived.Deep.RegionHeld3
import Derived.Test.YtpfepcjbhchpcaaGreatPkNH
namespace Go.Proofs.YtpfepcjbhchpcaaGreat
open Go.RowKit
set_option maxRecDepth 100000
set_option linter.unusedSimpArgs false
set_option linter.unusedVariables false

set_option maxHeartbeats 4000000 in
theorem specPoolOk_any {t : TypeId} (vl vn va vc vv : Value) (d : PoolD) (w : World) (h : RdP t w w.heap.size vl vn va vc vv d) (hs : SmallP d) (hnm : ∀ k ∈ d.vo, k.a.size ≤ maxLen) : Calls Tryz.prog 21 #[.agg #[vl, vn, va, vc, vv, .int .i64 d.nx]] w (SaysBool w (poolOkB d)) := by
  have h1 := hs.1
  have h2 := hs.2.1
  have h3 := hs.2.2.1
  have HT := Lib.hid (fun W b => specTreeOk_any vl vn d.lo d.ts W (h.1.on b) (by omega) (by omega) (by omega))
  have HA := Lib.hid (fun W b => specAgesOk_any va d.ag W (h.2.1.on b) (by omega))
  have HC := Lib.hid (fun W b => specCellsOk_any vc d.ce W ((h.2.2.1.on b).retype _) (by omega))
  have HV := Lib.hid (fun W b => specL10Vols_any vl vn va vc vv d W (h.on b) hs hnm)
  have HE := Lib.hid (fun W b => specL10Keys_any vl vn va vc vv d W (h.on b) hs)
  have HG := Lib.hid h.2.1
  have hag : d.ag.length ≤ 2097152 := by omega
  obtain ⟨A0, c0, A1, c1, A2, c2, A3, c3, A4, c4, rfl, rfl, rfl, rfl, rfl⟩ := h.shape
  have HB := Lib.hid (bal1 w (.cells #[.slice A0 d.lo.length c0, .slice A1 d.ts.length c1, .slice A2 d.ag.length c2, .slice A3 d.ce.length c3, .slice A4 d.vo.length c4, .int .i64 d.nx] 41))
  have Q0 := Lib.hid (al1 w (.cells #[.slice A0 d.lo.length c0, .slice A1 d.ts.length c1, .slice A2 d.ag.length c2, .slice A3 d.ce.length c3, .slice A4 d.vo.length c4, .int .i64 d.nx] 41))
  obtain ⟨R, hR⟩ : ∃ R, poolOkB d = R := ⟨_, rfl⟩
  rw [hR]
  obtain ⟨tb, htb⟩ : ∃ b, treeOkB d.lo d.ts = b := ⟨_, rfl⟩
  obtain ⟨ab, hab⟩ : ∃ b, agesOkB d.ag = b := ⟨_, rfl⟩
  obtain ⟨cb, hcb⟩ : ∃ b, celsOkB d.ce = b := ⟨_, rfl⟩
  obtain ⟨nb, hnb⟩ : ∃ b, (decide (1 ≤ d.nx) && decide (d.nx ≤ 61)) = b := ⟨_, rfl⟩
  obtain ⟨gb, hgb⟩ : ∃ b, d.ag.all (fun a => decide (a.a < d.nx)) = b := ⟨_, rfl⟩
  obtain ⟨vb, hvb⟩ : ∃ b, volsB d = b := ⟨_, rfl⟩
  obtain ⟨kb, hkb⟩ : ∃ b, (agesB d && cellsB d) = b := ⟨_, rfl⟩
  have HI1 : Hid (∀ W, Calls Tryz.prog 58 #[.int .i64 d.nx, .int .i64 1, .int .i64 61] W (SaysB W nb)) := Lib.hid (fun W => by have h := l1InC_any d.nx 1 61 W; rw [hnb] at h; exact h)
  unfold poolOkB nextB at hR
  rw [Bool.and_assoc (treeOkB d.lo d.ts && agesOkB d.ag && celsOkB d.ce && (decide (1 ≤ d.nx) && decide (d.nx ≤ 61) && d.ag.all (fun a => decide (a.a < d.nx))) && volsB d), htb, hab, hcb, hnb, hgb, hvb, hkb] at hR
  rw [htb] at HT
  rw [hab] at HA
  rw [hcb] at HC
  rw [hvb] at HV
  rw [hkb] at HE
  have HX := Lib.hid hR.symm
  have HGB := Lib.hid hgb
  clear h hs hR hnm h1 h2 h3 htb hab hcb hnb hvb hkb hgb
  go_enter Tryz.func21, Tryz.ntmps21
  go_upto_region 1 with (fail)
  generalize w.alloc (.cells #[.slice A0 d.lo.length c0, .slice A1 d.ts.length c1, .slice A2 d.ag.length c2, .slice A3 d.ce.length c3, .slice A4 d.vo.length c4, .int .i64 d.nx] 41) = W at *
  go_wp2
  go_loopw [3] (fun i wr => ∃ k : Nat, k ≤ d.ag.length ∧ i = .int .i64 k ∧ Hid (∀ j (hj : j < k) (hl : j < d.ag.length), (fun k : AgeD => decide (k.a < d.nx)) d.ag[j] = true) ∧ Hid (Below w.heap.size w wr) ∧ Hid (wr.heap[w.heap.size]? = some (.cells #[.slice A0 d.lo.length c0, .slice A1 d.ts.length c1, .slice A2 d.ag.length c2, .slice A3 d.ce.length c3, .slice A4 d.vo.length c4, .int .i64 d.nx] 41))) (fun i _ => d.ag.length - (intOf i).toNat)
  case atStart => exact ⟨0, Nat.zero_le _, rfl, Lib.hid (fun j hj => by omega), HB, Q0⟩
  case round =>
    clear HB Q0
    obtain ⟨k, hk, rfl, HI, HB, Q0⟩ := hrel
    by_cases hlt : k < d.ag.length
    · obtain ⟨b, off, rfl, hbb, hc⟩ := (HG.out.on HB.out).ages hlt
      have i1 : (k : Int) < (d.ag.length : Int) := by omega
      have i2 : (0 : Int) ≤ (k : Int) := by omega
      obtain ⟨y0, y1⟩ := hc k hlt
      clear hc
      obtain ⟨x0, x1, x2, x3, x4, x5, x6⟩ := boxP Q0.out
      by_cases hv : (d.ag[k]).a < d.nx
      · have e1 : decide ((d.ag[k]).a ≥ d.nx) = false := decide_eq_false (by omega)
        have HS := Lib.hid (allP_snoc (p := fun k : AgeD => decide (k.a < d.nx)) hlt HI.out (decide_eq_true hv))
        clear hv
        go_wp2
        go_quiet (fail)
        go_wp2
        go_roundw
        case rel => exact ⟨k + 1, by omega, by go_num, HS, Lib.hid (bdrew HB.out _), Lib.hid (box_on Q0.out (drewB _ _))⟩
        case measure => simp [intOf]; omega
      · have e1 : decide ((d.ag[k]).a ≥ d.nx) = true := decide_eq_true (by omega)
        have HF : Hid (R = false) := Lib.hid (by rw [HX.out, ← HGB.out, allP_miss (p := fun k : AgeD => decide (k.a < d.nx)) hlt (decide_eq_false hv)]; simp only [Bool.false_and, Bool.and_false, Bool.true_and, Bool.and_true])
        clear hv
        go_wp2
        go_quiet (fail)
        go_wp2
        go_ret
        exact ⟨by rw [HF.out]; rfl, bdrew HB.out _⟩
    · have hall : gb = true := by rw [← HGB.out]; exact allP_done (p := fun k : AgeD => decide (k.a < d.nx)) (fun j hl => HI.out j (by omega) hl)
      subst hall
      obtain ⟨x0, x1, x2, x3, x4, x5, x6⟩ := boxP Q0.out
      go_wp2_with fail
      refine (HT.out _ HB.out).mono ?_
      rintro e w5 ⟨rfl, b1⟩
      clear x0 x1 x2 x3 x4 x5 x6
      replace Q0 := Lib.hid (box_on Q0.out b1)
      replace HB := Lib.hid (bstep HB.out b1)
      clear b1
      cases tb
      · have HF : Hid (R = false) := Lib.hid (by rw [HX.out]; simp only [Bool.false_and, Bool.and_false, Bool.true_and, Bool.and_true])
        go_wp2
        go_ret
        exact ⟨by rw [HF.out]; rfl, HB.out⟩
      · skip
        obtain ⟨x0, x1, x2, x3, x4, x5, x6⟩ := boxP Q0.out
        go_wp2_with fail
        refine (HA.out _ HB.out).mono ?_
        rintro e w6 ⟨rfl, b1⟩
        clear x0 x1 x2 x3 x4 x5 x6
        replace Q0 := Lib.hid (box_on Q0.out b1)
        replace HB := Lib.hid (bstep HB.out b1)
        clear b1
        cases ab
        · have HF : Hid (R = false) := Lib.hid (by rw [HX.out]; simp only [Bool.false_and, Bool.and_false, Bool.true_and, Bool.and_true])
          go_wp2
          go_ret
          exact ⟨by rw [HF.out]; rfl, HB.out⟩
        · skip
          obtain ⟨x0, x1, x2, x3, x4, x5, x6⟩ := boxP Q0.out
          go_wp2_with fail
          refine (HC.out _ HB.out).mono ?_
          rintro e _ ⟨rfl, rfl⟩
          clear x0 x1 x2 x3 x4 x5 x6
          cases cb
          · have HF : Hid (R = false) := Lib.hid (by rw [HX.out]; simp only [Bool.false_and, Bool.and_false, Bool.true_and, Bool.and_true])
            go_wp2
            go_ret
            exact ⟨by rw [HF.out]; rfl, HB.out⟩
          · skip
            obtain ⟨x0, x1, x2, x3, x4, x5, x6⟩ := boxP Q0.out
            go_wp2_with fail
            refine (HI1.out _).mono ?_
            rintro e _ ⟨rfl, rfl⟩
            clear x0 x1 x2 x3 x4 x5 x6
            cases nb
            · have HF : Hid (R = false) := Lib.hid (by rw [HX.out]; simp only [Bool.false_and, Bool.and_false, Bool.true_and, Bool.and_true])
              go_wp2
              go_ret
              exact ⟨by rw [HF.out]; rfl, HB.out⟩
            · skip
              obtain ⟨x0, x1, x2, x3, x4, x5, x6⟩ := boxP Q0.out
              go_wp2_with fail
              refine (HV.out _ HB.out).mono ?_
              rintro e w9 ⟨rfl, b1⟩
              clear x0 x1 x2 x3 x4 x5 x6
              replace Q0 := Lib.hid (box_on Q0.out b1)
              replace HB := Lib.hid (bstep HB.out b1)
              clear b1
              cases vb
              · have HF : Hid (R = false) := Lib.hid (by rw [HX.out]; simp only [Bool.false_and, Bool.and_false, Bool.true_and, Bool.and_true])
                go_wp2
                go_ret
                exact ⟨by rw [HF.out]; rfl, HB.out⟩
              · skip
                obtain ⟨x0, x1, x2, x3, x4, x5, x6⟩ := boxP Q0.out
                go_wp2_with fail
                refine (HE.out _ HB.out).mono ?_
                rintro e w10 ⟨rfl, b1⟩
                clear x0 x1 x2 x3 x4 x5 x6
                replace Q0 := Lib.hid (box_on Q0.out b1)
                replace HB := Lib.hid (bstep HB.out b1)
                clear b1
                cases kb
                · have HF : Hid (R = false) := Lib.hid (by rw [HX.out]; simp only [Bool.false_and, Bool.and_false, Bool.true_and, Bool.and_true])
                  go_wp2
                  go_ret
                  exact ⟨by rw [HF.out]; rfl, HB.out⟩
                · have HF : Hid (R = true) := Lib.hid (by rw [HX.out]; simp only [Bool.false_and, Bool.and_false, Bool.true_and, Bool.and_true])
                  go_wp2
                  go_ret
                  exact ⟨by rw [HF.out]; rfl, HB.out⟩
end Go.Proofs.YtpfepcjbhchpcaaGreat
namespace Go.Proofs.YtpfepcjbhchpcaaGreat
open Go.RowKit
set_option maxRecDepth 100000
set_option linter.unusedSimpArgs false
set_option linter.unusedVariables false

theorem path_sameP {l : List AgeD} (h : agesOkB l = true) (g : Int) : pathSK l g = pathK l g := pathS_eq (vp_iff.1 h) _ _
def keyB (d : PoolD) (s : Int) (k : KeyD) : Bool := if s = 1 then !anyB d k else if s = 2 then decide (k.c = 2) && !(aboveK d k.a k.b).isSome else heirB d k
theorem tree_kind {d : PoolD} (hp : poolOkB d = true) : ∀ k ∈ treeKeysK d.ts, k.c = 1 ∨ k.c = 2 := by
  intro k hk
  have ht : treeOkB d.lo d.ts = true := by
    unfold poolOkB at hp
    simp only [Bool.and_eq_true] at hp
    exact hp.1.1.1.1.1.1
  obtain ⟨h1, h2⟩ := (tree_asc ht).2 k hk
  unfold okK keyOkB at h1
  simp only [Bool.and_eq_true, decide_eq_true_eq] at h1
  obtain ⟨n, hn, hkn⟩ := List.mem_flatten.1 (show k ∈ (d.ts.map nodeKeysK).flatten from hk)
  obtain ⟨m, _, rfl⟩ := List.mem_map.1 hn
  have h0 : k.c ≠ 0 := drop_kind hkn
  have h3 := h1.2
  unfold tgtB at h3
  by_cases c1 : k.c = 1
  · exact .inl c1
  · rw [if_neg c1] at h3
    by_cases c2 : k.c = 0 ∨ k.c = 2
    · omega
    · rw [if_neg c2] at h3
      cases h3
theorem pool_ages {d : PoolD} (hp : poolOkB d = true) : agesOkB d.ag = true := by
  unfold poolOkB at hp
  simp only [Bool.and_eq_true] at hp
  exact hp.1.1.1.1.1.2
theorem kid_ne {l : List AgeD} (h : agesOkB l = true) {g x : Int} (hx : x ∈ kidsK l g) : x ≠ 0 := by
  unfold kidsK at hx
  split at hx
  · simp at hx
  · obtain ⟨a, ha, rfl⟩ := List.mem_map.1 hx
    obtain ⟨i, hi, rfl⟩ := List.mem_iff_getElem.1 (List.mem_filter.1 ha |>.1)
    unfold agesOkB at h
    simp only [Bool.and_eq_true, decide_eq_true_eq] at h
    have := h.1.1 i hi
    unfold fitG at this
    rw [List.getElem?_eq_getElem hi] at this
    simp only [Bool.and_eq_true, idG, decide_eq_true_eq] at this
    omega
theorem step_key {d : PoolD} {k : KeyD} (hk : k.c = 1 ∨ k.c = 2) : stepK d k = if keyB d 1 k then 1 else if keyB d 2 k then 2 else if keyB d 3 k then 3 else 0 := by
  have e1 : keyB d 1 k = !anyB d k := rfl
  have e2 : keyB d 2 k = (decide (k.c = 2) && !(aboveK d k.a k.b).isSome) := rfl
  have e3 : keyB d 3 k = heirB d k := rfl
  rw [e1, e2, e3]
  unfold stepK
  rcases hk with h | h
  · rw [decide_eq_true h, decide_eq_false (show ¬ k.c = 2 by omega)]
    cases anyB d k <;> cases heirB d k <;> simp
  · rw [decide_eq_true h, decide_eq_false (show ¬ k.c = 1 by omega)]
    cases anyB d k <;> cases heirB d k <;> cases (aboveK d k.a k.b).isSome <;> simp
/-- A key of step s, where no step before s applies to any key. -/
theorem best_hit {d : PoolD} (hp : poolOkB d = true) {s : Int} (h1 : 1 ≤ s) (h3 : s ≤ 3) {i : Nat} (hi : i < (treeKeysK d.ts).length) (hb : keyB d s (treeKeysK d.ts)[i] = true)
    (hs : ∀ u : Int, 1 ≤ u → u < s → ∀ j (hj : j < (treeKeysK d.ts).length), keyB d u (treeKeysK d.ts)[j] = false) (hn : ∀ j (hj : j < i) (hl : j < (treeKeysK d.ts).length), keyB d s (treeKeysK d.ts)[j] = false) : keyStepK d = (s, (i : Int)) := by
  have hkd := tree_kind hp
  generalize hl : treeKeysK d.ts = l at *
  have hv : ∀ j (hj : j < l.length), stepK d l[j] = 0 ∨ s ≤ stepK d l[j] := by
    intro j hj
    rw [step_key (hkd _ (List.getElem_mem hj))]
    have g1 := hs 1 (by omega)
    have g2 := hs 2 (by omega)
    by_cases e1 : keyB d 1 l[j] = true
    · rw [if_pos e1]
      right
      by_cases h : 1 < s
      · rw [g1 h j hj] at e1; cases e1
      · omega
    · rw [if_neg e1]
      by_cases e2 : keyB d 2 l[j] = true
      · rw [if_pos e2]
        right
        by_cases h : 2 < s
        · rw [g2 h j hj] at e2; cases e2
        · omega
      · rw [if_neg e2]
        split
        · right; exact h3
        · left; rfl
  have he : ∀ j (hj : j < l.length), stepK d l[j] = s ↔ keyB d s l[j] = true := by
    intro j hj
    rw [step_key (hkd _ (List.getElem_mem hj))]
    have g1 := hs 1 (by omega)
    have g2 := hs 2 (by omega)
    have hcs : s = 1 ∨ s = 2 ∨ s = 3 := by omega
    rcases hcs with rfl | rfl | rfl
    · cases keyB d 1 l[j] <;> cases keyB d 2 l[j] <;> cases keyB d 3 l[j] <;> simp
    · rw [g1 (by omega) j hj]
      cases keyB d 2 l[j] <;> cases keyB d 3 l[j] <;> simp
    · rw [g1 (by omega) j hj, g2 (by omega) j hj]
      cases keyB d 3 l[j] <;> simp
  have hsi := (he i hi).2 hb
  unfold keyStepK
  rw [hl]
  refine best_one (best_is l l.length (Nat.le_refl _)) (.inr ⟨i, hi, hi, by rw [hsi], by rw [hsi]; omega, fun j hj _ hne => ?_, fun j hj hji e => ?_⟩)
  · rw [hsi]
    exact (hv j hj).elim (fun h => absurd h hne) id
  · rw [hsi] at e
    have := (he j hj).1 e
    rw [hn j hji hj] at this
    cases this
theorem best_none {d : PoolD} (hp : poolOkB d = true) (hs : ∀ u : Int, 1 ≤ u → u < 4 → ∀ j (hj : j < (treeKeysK d.ts).length), keyB d u (treeKeysK d.ts)[j] = false) : keyStepK d = (0, 0) := by
  have hkd := tree_kind hp
  generalize hl : treeKeysK d.ts = l at *
  unfold keyStepK
  rw [hl]
  refine best_one (best_is l l.length (Nat.le_refl _)) (.inl ⟨rfl, fun j hj _ => ?_⟩)
  rw [step_key (hkd _ (List.getElem_mem hj)), hs 1 (by omega) (by omega) j hj, hs 2 (by omega) (by omega) j hj, hs 3 (by omega) (by omega) j hj]
  rfl
set_option maxHeartbeats 2000000 in
theorem specSees_any (vl vn va : Value) (lo : List Int) (ts : List NodeD) (l : List AgeD) (k : KeyD) (d : Int) (w : World) (hv : RdT w w.heap.size vl vn lo ts) (ha : Reads w w.heap.size va (agesD l)) (hn : ts.length ≤ 1048576) (hs : sumT ts ≤ 1048576) (hl : l.length ≤ 1048576) (F : Option KeyD) (hF : nearK (keysOfK ts k.a) (pathSK l d) = F) :
    Calls Tryz.prog 125 #[.agg #[vl, vn], va, k.v, .int .i64 d] w (SaysBool w (F.isSome && ((F.getD zK).b == k.b))) := by
  obtain ⟨A, c, A', c', rfl, rfl⟩ := hv.shape
  obtain ⟨Aa, ca, rfl, _, _⟩ := ha.shapeG
  have HN := Lib.hid specSeen_any
  unfold SaysFind KeyD.v keyV at HN
  unfold KeyD.v keyV
  obtain ⟨q0, q1⟩ := al2 w (.cells #[.slice A lo.length c, .slice A' ts.length c'] 36) (.cells #[.int .i64 k.a, .int .i64 k.b, .int .i64 k.c, .int .i64 k.d, .int .i64 k.e] 58)
  have hb := bal2 w (.cells #[.slice A lo.length c, .slice A' ts.length c'] 36) (.cells #[.int .i64 k.a, .int .i64 k.b, .int .i64 k.c, .int .i64 k.d, .int .i64 k.e] 58)
  have HV := Lib.hid (hv.on hb)
  have HA := Lib.hid (ha.on hb)
  have HB := Lib.hid hb
  have Q0 := Lib.hid q0
  have Q1 := Lib.hid q1
  have HF := Lib.hid hF
  obtain ⟨x, hx⟩ : ∃ x, F.getD zK = x := ⟨_, rfl⟩
  obtain ⟨y, hy⟩ : ∃ y, F.isSome = y := ⟨_, rfl⟩
  obtain ⟨e, he⟩ : ∃ e, (x.b == k.b) = e := ⟨_, rfl⟩
  rw [hx, hy, he]
  have HX := Lib.hid hx
  have HY := Lib.hid hy
  clear hv ha hb q0 q1 hF hx hy
  go_enter Tryz.func125, Tryz.ntmps125
  go_upto_region 1 with (fail)
  generalize (w.alloc (.cells #[.slice A lo.length c, .slice A' ts.length c'] 36)).alloc (.cells #[.int .i64 k.a, .int .i64 k.b, .int .i64 k.c, .int .i64 k.d, .int .i64 k.e] 58) = W at *
  obtain ⟨x0, x1, x2⟩ := box2 Q0.out
  obtain ⟨y0, y1, y2, y3, y4, y5⟩ := box5 Q1.out
  go_wp2_with fail
  refine (HN.out _ _ _ lo ts l k.a d _ HV.out HA.out hn hs hl).mono ?_
  rintro r w1 ⟨rfl, b1⟩
  rw [HF.out, HX.out, HY.out]
  have ba := bal1 w1 (.cells #[.int .i64 x.a, .int .i64 x.b, .int .i64 x.c, .int .i64 x.d, .int .i64 x.e] 58)
  replace HB := Lib.hid (bstep (bstep HB.out b1) ba)
  obtain ⟨z0, z1, z2, z3, z4, z5⟩ := box5 (al1 w1 (.cells #[.int .i64 x.a, .int .i64 x.b, .int .i64 x.c, .int .i64 x.d, .int .i64 x.e] 58))
  replace Q1 := Lib.hid (box_on (box_on Q1.out b1) ba)
  clear b1 ba x0 x1 x2 y0 y1 y2 y3 y4 y5
  go_upto_region 2 with (fail)
  generalize w1.alloc (.cells #[.int .i64 x.a, .int .i64 x.b, .int .i64 x.c, .int .i64 x.d, .int .i64 x.e] 58) = W1 at *
  obtain ⟨y0, y1, y2, y3, y4, y5⟩ := box5 Q1.out
  cases y
  · go_wp2
    go_ret
    exact ⟨rfl, HB.out⟩
  · cases e
    all_goals
      go_wp2
      go_ret
      exact ⟨rfl, HB.out⟩
set_option maxHeartbeats 4000000 in
theorem specSeenByAny_any {t : TypeId} (vl vn va vc vv : Value) (d : PoolD) (y : KeyD) (w : World) (hR : RdP t w w.heap.size vl vn va vc vv d) (hs : SmallP d) (hp : agesOkB d.ag = true) :
    Calls Tryz.prog 62 #[.agg #[vl, vn, va, vc, vv, .int .i64 d.nx], y.v] w (SaysBool w (anyB d y)) := by
  have h1 := hs.1
  have h2 := hs.2.1
  have h4 := hs.2.2.2
  have HS := Lib.hid (fun (v : VolD) W b => specSees_any vl vn va d.lo d.ts d.ag y v.b W (hR.on b).1 (hR.on b).2.1 (by omega) (by omega) (by omega) _ rfl)
  have HS2 : Hid (∀ (v : VolD) (W : World), Below w.heap.size w W → Calls Tryz.prog 125 #[.agg #[vl, vn], va, y.v, .int .i64 v.b] W (SaysBool W ((nearK (keysOfK d.ts y.a) (pathK d.ag v.b)).isSome && (((nearK (keysOfK d.ts y.a) (pathK d.ag v.b)).getD zK).b == y.b)))) := Lib.hid (fun v W b => by have := HS.out v W b; rw [path_sameP hp] at this; exact this)
  have HN : Hid (∀ v, needB d y v = (decide (y.a < v.c) && ((nearK (keysOfK d.ts y.a) (pathK d.ag v.b)).isSome && (((nearK (keysOfK d.ts y.a) (pathK d.ag v.b)).getD zK).b == y.b)))) := Lib.hid (fun v => rfl)
  have HVO := Lib.hid hR.2.2.2
  obtain ⟨A0, c0, A1, c1, A2, c2, A3, c3, A4, c4, rfl, rfl, rfl, rfl, rfl⟩ := hR.shape
  obtain ⟨f, hf⟩ : ∃ f : VolD → Bool, (fun v : VolD => ((nearK (keysOfK d.ts y.a) (pathK d.ag v.b)).isSome && (((nearK (keysOfK d.ts y.a) (pathK d.ag v.b)).getD zK).b == y.b))) = f := ⟨_, rfl⟩
  replace HS := Lib.hid (fun v W b => show Calls Tryz.prog 125 #[.agg #[.slice A0 d.lo.length c0, .slice A1 d.ts.length c1], .slice A2 d.ag.length c2, y.v, .int .i64 v.b] W (SaysBool W (f v)) from by rw [← hf]; exact HS2.out v W b)
  replace HN := Lib.hid (fun v => show needB d y v = (decide (y.a < v.c) && f v) from by rw [← hf]; exact HN.out v)
  have HAY := Lib.hid (show anyB d y = d.vo.any (needB d y) from rfl)
  obtain ⟨R, hRR⟩ : ∃ R, anyB d y = R := ⟨_, rfl⟩
  rw [hRR] at HAY ⊢
  obtain ⟨q0, q1⟩ := al2 w (.cells #[.slice A0 d.lo.length c0, .slice A1 d.ts.length c1, .slice A2 d.ag.length c2, .slice A3 d.ce.length c3, .slice A4 d.vo.length c4, .int .i64 d.nx] 41) (.cells #[.int .i64 y.a, .int .i64 y.b, .int .i64 y.c, .int .i64 y.d, .int .i64 y.e] 58)
  have HB := Lib.hid (bal2 w (.cells #[.slice A0 d.lo.length c0, .slice A1 d.ts.length c1, .slice A2 d.ag.length c2, .slice A3 d.ce.length c3, .slice A4 d.vo.length c4, .int .i64 d.nx] 41) (.cells #[.int .i64 y.a, .int .i64 y.b, .int .i64 y.c, .int .i64 y.d, .int .i64 y.e] 58))
  have Q0 := Lib.hid q0
  have Q1 := Lib.hid q1
  unfold KeyD.v keyV at HS ⊢
  clear hR hs hp h1 h2 q0 q1 hRR hf HS2
  go_enter Tryz.func62, Tryz.ntmps62
  go_upto_region 1 with (fail)
  generalize (w.alloc (.cells #[.slice A0 d.lo.length c0, .slice A1 d.ts.length c1, .slice A2 d.ag.length c2, .slice A3 d.ce.length c3, .slice A4 d.vo.length c4, .int .i64 d.nx] 41)).alloc (.cells #[.int .i64 y.a, .int .i64 y.b, .int .i64 y.c, .int .i64 y.d, .int .i64 y.e] 58) = W at *
  go_wp2
  go_loopw [5] (fun i wr => ∃ k : Nat, k ≤ d.vo.length ∧ i = .int .i64 k ∧ Hid (∀ j (hj : j < k) (hl : j < d.vo.length), needB d y d.vo[j] = false) ∧ Hid (Below W.heap.size W wr)) (fun i _ => d.vo.length - (intOf i).toNat)
  case atStart => exact ⟨0, Nat.zero_le _, rfl, Lib.hid (fun j hj => by omega), Lib.hid (Below.refl _ _)⟩
  case round =>
    obtain ⟨k, hk, rfl, HI, HV⟩ := hrel
    obtain ⟨x0, x1, x2, x3, x4, x5, x6⟩ := boxP (box_on Q0.out HV.out)
    by_cases hlt : k < d.vo.length
    · obtain ⟨b, off, rfl, hbb, hc⟩ := (HVO.out.on (bstep HB.out HV.out)).vols hlt
      have i1 : (k : Int) < (d.vo.length : Int) := by omega
      have i2 : (0 : Int) ≤ (k : Int) := by omega
      obtain ⟨y0, y1, y2, y3⟩ := hc k hlt
      have hbv : b < wr.heap.size := hbb
      have C1 := Lib.hid y1
      have C2 := Lib.hid y2
      have HX := Lib.hid (HS.out d.vo[k])
      have HNK := Lib.hid (HN.out d.vo[k])
      clear hc y0 y1 y2 y3
      obtain ⟨S, hS⟩ : ∃ S, f d.vo[k] = S := ⟨_, rfl⟩
      rw [hS] at HX HNK
      clear hS
      go_upto_region 4 with (fail)
      clear x0 x1 x2 x3 x4 x5 x6
      by_cases hgt : y.a < (d.vo[k]).c
      · have e1 : decide ((d.vo[k]).c > y.a) = true := decide_eq_true hgt
        have HNV : Hid (needB d y d.vo[k] = S) := Lib.hid (by rw [HNK.out, decide_eq_true hgt, Bool.true_and])
        clear hgt
        refine but_begin (f := 22) (S := fun V => Below wr.heap.size wr V) (by kernel_rfl) ?_
        have hS0st : Below wr.heap.size wr wr.drew := Below.drew1 _
        have hz0st : wr.heap.size ≤ wr.drew.heap.size := Nat.le_refl _
        generalize wr.drew = Udst at *
        refine but_take (f := 22) (i := 0) (v := ?vst0) rfl (by kernel_rfl) (by kernel_rfl) (by kernel_rfl) (by kernel_rfl) (by kernel_rfl) (fun _ _ _ h => h) (Or.inl ⟨(by rfl), ?hyst0⟩) hS0st ?restst0
        case hyst0 =>
          intro W hW
          go_simp
          exact rfl
        simp only [List.getElem_toArray, List.getElem_cons_succ, List.getElem_cons_zero, Act.put, List.setIfInBounds_toArray, List.set_cons_zero, List.set_cons_succ]
        refine but_take (f := 22) (i := 1) (v := ?vst1) rfl (by kernel_rfl) (by kernel_rfl) (by kernel_rfl) (by kernel_rfl) (by kernel_rfl) (fun _ _ _ h => h) (Or.inl ⟨(by rfl), ?hyst1⟩) hS0st ?restst1
        case hyst1 =>
          intro W hW
          obtain ⟨x0, x1, x2, x3, x4, x5, x6⟩ := boxP (box_on Q0.out (HV.out.trans (hW.mono HV.out.size)))
          obtain ⟨y0, y1, y2, y3, y4, y5⟩ := box5 (box_on Q1.out (HV.out.trans (hW.mono HV.out.size)))
          have v1 := (hW.cell (p := ⟨b, off + k * 4 + 1, none⟩) hbv).trans C1.out
          have v2 := (hW.cell (p := ⟨b, off + k * 4 + 2, none⟩) hbv).trans C2.out
          go_simp
          exact rfl
        simp only [List.getElem_toArray, List.getElem_cons_succ, List.getElem_cons_zero, Act.put, List.setIfInBounds_toArray, List.set_cons_zero, List.set_cons_succ]
        refine but_take (f := 22) (i := 2) (v := ?vst2) rfl (by kernel_rfl) (by kernel_rfl) (by kernel_rfl) (by kernel_rfl) (by kernel_rfl) (fun _ _ _ h => h) (Or.inl ⟨(by rfl), ?hyst2⟩) hS0st ?restst2
        case hyst2 =>
          intro W hW
          go_simp
          exact rfl
        simp only [List.getElem_toArray, List.getElem_cons_succ, List.getElem_cons_zero, Act.put, List.setIfInBounds_toArray, List.set_cons_zero, List.set_cons_succ]
        refine but_take (f := 22) (i := 3) (v := ?vst3) rfl (by kernel_rfl) (by kernel_rfl) (by kernel_rfl) (by kernel_rfl) (by kernel_rfl) (fun _ _ _ h => h) (Or.inl ⟨(by rfl), ?hyst3⟩) hS0st ?restst3
        case hyst3 =>
          intro W hW
          go_simp
          exact rfl
        simp only [List.getElem_toArray, List.getElem_cons_succ, List.getElem_cons_zero, Act.put, List.setIfInBounds_toArray, List.set_cons_zero, List.set_cons_succ]
        refine but_take (f := 22) (i := 4) (v := ?vst4) rfl (by kernel_rfl) (by kernel_rfl) (by kernel_rfl) (by kernel_rfl) (by kernel_rfl) (fun _ _ _ h => h) (Or.inl ⟨(by rfl), ?hyst4⟩) hS0st ?restst4
        case hyst4 =>
          intro W hW
          go_simp
          exact rfl
        simp only [List.getElem_toArray, List.getElem_cons_succ, List.getElem_cons_zero, Act.put, List.setIfInBounds_toArray, List.set_cons_zero, List.set_cons_succ]
        refine but_take (f := 22) (i := 5) (v := ?vst5) rfl (by kernel_rfl) (by kernel_rfl) (by kernel_rfl) (by kernel_rfl) (by kernel_rfl) (fun _ _ _ h => h) (Or.inl ⟨(by rfl), ?hyst5⟩) hS0st ?restst5
        case hyst5 =>
          intro W hW
          obtain ⟨x0, x1, x2, x3, x4, x5, x6⟩ := boxP (box_on Q0.out (HV.out.trans (hW.mono HV.out.size)))
          obtain ⟨y0, y1, y2, y3, y4, y5⟩ := box5 (box_on Q1.out (HV.out.trans (hW.mono HV.out.size)))
          have v1 := (hW.cell (p := ⟨b, off + k * 4 + 1, none⟩) hbv).trans C1.out
          have v2 := (hW.cell (p := ⟨b, off + k * 4 + 2, none⟩) hbv).trans C2.out
          go_simp
          exact rfl
        simp only [List.getElem_toArray, List.getElem_cons_succ, List.getElem_cons_zero, Act.put, List.setIfInBounds_toArray, List.set_cons_zero, List.set_cons_succ]
        refine but_take (f := 22) (i := 6) (v := ?vst6) rfl (by kernel_rfl) (by kernel_rfl) (by kernel_rfl) (by kernel_rfl) (by kernel_rfl) (fun _ _ _ h => h) (Or.inl ⟨(by rfl), ?hyst6⟩) hS0st ?restst6
        case hyst6 =>
          intro W hW
          go_simp
          exact rfl
        simp only [List.getElem_toArray, List.getElem_cons_succ, List.getElem_cons_zero, Act.put, List.setIfInBounds_toArray, List.set_cons_zero, List.set_cons_succ]
        refine but_take (f := 22) (i := 7) (v := ?vst7) rfl (by kernel_rfl) (by kernel_rfl) (by kernel_rfl) (by kernel_rfl) (by kernel_rfl) (fun _ _ _ h => h) (Or.inl ⟨(by rfl), ?hyst7⟩) hS0st ?restst7
        case hyst7 =>
          intro W hW
          obtain ⟨x0, x1, x2, x3, x4, x5, x6⟩ := boxP (box_on Q0.out (HV.out.trans (hW.mono HV.out.size)))
          obtain ⟨y0, y1, y2, y3, y4, y5⟩ := box5 (box_on Q1.out (HV.out.trans (hW.mono HV.out.size)))
          have v1 := (hW.cell (p := ⟨b, off + k * 4 + 1, none⟩) hbv).trans C1.out
          have v2 := (hW.cell (p := ⟨b, off + k * 4 + 2, none⟩) hbv).trans C2.out
          go_simp
          exact rfl
        simp only [List.getElem_toArray, List.getElem_cons_succ, List.getElem_cons_zero, Act.put, List.setIfInBounds_toArray, List.set_cons_zero, List.set_cons_succ]
        refine but_take (f := 22) (i := 8) (v := ?vst8) rfl (by kernel_rfl) (by kernel_rfl) (by kernel_rfl) (by kernel_rfl) (by kernel_rfl) (fun _ _ _ h => h) (Or.inl ⟨(by rfl), ?hyst8⟩) hS0st ?restst8
        case hyst8 =>
          intro W hW
          go_simp
          exact rfl
        simp only [List.getElem_toArray, List.getElem_cons_succ, List.getElem_cons_zero, Act.put, List.setIfInBounds_toArray, List.set_cons_zero, List.set_cons_succ]
        refine but_take (f := 22) (i := 9) (v := ?vst9) rfl (by kernel_rfl) (by kernel_rfl) (by kernel_rfl) (by kernel_rfl) (by kernel_rfl) (fun _ _ _ h => h) (Or.inl ⟨(by rfl), ?hyst9⟩) hS0st ?restst9
        case hyst9 =>
          intro W hW
          go_simp
          exact rfl
        simp only [List.getElem_toArray, List.getElem_cons_succ, List.getElem_cons_zero, Act.put, List.setIfInBounds_toArray, List.set_cons_zero, List.set_cons_succ]
        refine but_take (f := 22) (i := 10) (v := ?vst10) rfl (by kernel_rfl) (by kernel_rfl) (by kernel_rfl) (by kernel_rfl) (by kernel_rfl) (fun _ _ _ h => h) (Or.inl ⟨((wanted_at rfl rfl rfl rfl).trans rfl), ?hyst10⟩) hS0st ?restst10
        case hyst10 =>
          intro W hW
          go_simp
          exact rfl
        simp only [List.getElem_toArray, List.getElem_cons_succ, List.getElem_cons_zero, Act.put, List.setIfInBounds_toArray, List.set_cons_zero, List.set_cons_succ]
        refine but_take (f := 22) (i := 11) (v := ?vst11) rfl (by kernel_rfl) (by kernel_rfl) (by kernel_rfl) (by kernel_rfl) (by kernel_rfl) (fun _ _ _ h => h) (Or.inl ⟨((wanted_at rfl rfl rfl rfl).trans rfl), ?hyst11⟩) hS0st ?restst11
        case hyst11 =>
          intro W hW
          obtain ⟨x0, x1, x2, x3, x4, x5, x6⟩ := boxP (box_on Q0.out (HV.out.trans (hW.mono HV.out.size)))
          obtain ⟨y0, y1, y2, y3, y4, y5⟩ := box5 (box_on Q1.out (HV.out.trans (hW.mono HV.out.size)))
          have v1 := (hW.cell (p := ⟨b, off + k * 4 + 1, none⟩) hbv).trans C1.out
          have v2 := (hW.cell (p := ⟨b, off + k * 4 + 2, none⟩) hbv).trans C2.out
          go_simp
          exact rfl
        simp only [List.getElem_toArray, List.getElem_cons_succ, List.getElem_cons_zero, Act.put, List.setIfInBounds_toArray, List.set_cons_zero, List.set_cons_succ]
        refine but_take (f := 22) (i := 12) (v := ?vst12) rfl (by kernel_rfl) (by kernel_rfl) (by kernel_rfl) (by kernel_rfl) (by kernel_rfl) (fun _ _ _ h => h) (Or.inl ⟨((wanted_at rfl rfl rfl rfl).trans rfl), ?hyst12⟩) hS0st ?restst12
        case hyst12 =>
          intro W hW
          go_simp
          exact rfl
        simp only [List.getElem_toArray, List.getElem_cons_succ, List.getElem_cons_zero, Act.put, List.setIfInBounds_toArray, List.set_cons_zero, List.set_cons_succ]
        refine but_take (f := 22) (i := 13) (v := ?vst13) rfl (by kernel_rfl) (by kernel_rfl) (by kernel_rfl) (by kernel_rfl) (by kernel_rfl) (fun _ _ _ h => h) (Or.inl ⟨((wanted_at rfl rfl rfl rfl).trans rfl), ?hyst13⟩) hS0st ?restst13
        case hyst13 =>
          intro W hW
          obtain ⟨x0, x1, x2, x3, x4, x5, x6⟩ := boxP (box_on Q0.out (HV.out.trans (hW.mono HV.out.size)))
          obtain ⟨y0, y1, y2, y3, y4, y5⟩ := box5 (box_on Q1.out (HV.out.trans (hW.mono HV.out.size)))
          have v1 := (hW.cell (p := ⟨b, off + k * 4 + 1, none⟩) hbv).trans C1.out
          have v2 := (hW.cell (p := ⟨b, off + k * 4 + 2, none⟩) hbv).trans C2.out
          go_simp
          exact rfl
        simp only [List.getElem_toArray, List.getElem_cons_succ, List.getElem_cons_zero, Act.put, List.setIfInBounds_toArray, List.set_cons_zero, List.set_cons_succ]
        refine but_take (f := 22) (i := 14) (v := ?vst14) rfl (by kernel_rfl) (by kernel_rfl) (by kernel_rfl) (by kernel_rfl) (by kernel_rfl) (fun _ _ _ h => h) (Or.inl ⟨((wanted_at rfl rfl rfl rfl).trans rfl), ?hyst14⟩) hS0st ?restst14
        case hyst14 =>
          intro W hW
          obtain ⟨x0, x1, x2, x3, x4, x5, x6⟩ := boxP (box_on Q0.out (HV.out.trans (hW.mono HV.out.size)))
          obtain ⟨y0, y1, y2, y3, y4, y5⟩ := box5 (box_on Q1.out (HV.out.trans (hW.mono HV.out.size)))
          have v1 := (hW.cell (p := ⟨b, off + k * 4 + 1, none⟩) hbv).trans C1.out
          have v2 := (hW.cell (p := ⟨b, off + k * 4 + 2, none⟩) hbv).trans C2.out
          go_simp
          exact rfl
        simp only [List.getElem_toArray, List.getElem_cons_succ, List.getElem_cons_zero, Act.put, List.setIfInBounds_toArray, List.set_cons_zero, List.set_cons_succ]
        refine but_take (f := 22) (i := 15) (v := ?vst15) rfl (by kernel_rfl) (by kernel_rfl) (by kernel_rfl) (by kernel_rfl) (by kernel_rfl) (fun _ _ _ h => h) (Or.inl ⟨((wanted_at rfl rfl rfl rfl).trans rfl), ?hyst15⟩) hS0st ?restst15
        case hyst15 =>
          intro W hW
          go_simp
          exact rfl
        simp only [List.getElem_toArray, List.getElem_cons_succ, List.getElem_cons_zero, Act.put, List.setIfInBounds_toArray, List.set_cons_zero, List.set_cons_succ]
        refine but_take (f := 22) (i := 16) (v := ?vst16) rfl (by kernel_rfl) (by kernel_rfl) (by kernel_rfl) (by kernel_rfl) (by kernel_rfl) (fun _ _ _ h => h) (Or.inl ⟨((wanted_at rfl rfl rfl rfl).trans rfl), ?hyst16⟩) hS0st ?restst16
        case hyst16 =>
          intro W hW
          obtain ⟨x0, x1, x2, x3, x4, x5, x6⟩ := boxP (box_on Q0.out (HV.out.trans (hW.mono HV.out.size)))
          obtain ⟨y0, y1, y2, y3, y4, y5⟩ := box5 (box_on Q1.out (HV.out.trans (hW.mono HV.out.size)))
          have v1 := (hW.cell (p := ⟨b, off + k * 4 + 1, none⟩) hbv).trans C1.out
          have v2 := (hW.cell (p := ⟨b, off + k * 4 + 2, none⟩) hbv).trans C2.out
          go_simp
          exact rfl
        simp only [List.getElem_toArray, List.getElem_cons_succ, List.getElem_cons_zero, Act.put, List.setIfInBounds_toArray, List.set_cons_zero, List.set_cons_succ]
        refine but_take (f := 22) (i := 17) (v := ?vst17) rfl (by kernel_rfl) (by kernel_rfl) (by kernel_rfl) (by kernel_rfl) (by kernel_rfl) (fun _ _ _ h => h) (Or.inl ⟨((wanted_at rfl rfl rfl rfl).trans rfl), ?hyst17⟩) hS0st ?restst17
        case hyst17 =>
          intro W hW
          go_simp
          exact rfl
        simp only [List.getElem_toArray, List.getElem_cons_succ, List.getElem_cons_zero, Act.put, List.setIfInBounds_toArray, List.set_cons_zero, List.set_cons_succ]
        refine but_take (f := 22) (i := 18) (v := ?vst18) rfl (by kernel_rfl) (by kernel_rfl) (by kernel_rfl) (by kernel_rfl) (by kernel_rfl) (fun _ _ _ h => h) (Or.inl ⟨((wanted_at rfl rfl rfl rfl).trans rfl), ?hyst18⟩) hS0st ?restst18
        case hyst18 =>
          intro W hW
          go_simp
          exact rfl
        simp only [List.getElem_toArray, List.getElem_cons_succ, List.getElem_cons_zero, Act.put, List.setIfInBounds_toArray, List.set_cons_zero, List.set_cons_succ]
        refine but_take (f := 22) (i := 19) (v := ?vst19) rfl (by kernel_rfl) (by kernel_rfl) (by kernel_rfl) (by kernel_rfl) (by kernel_rfl) (fun _ _ _ h => h) (Or.inl ⟨((wanted_at rfl rfl rfl rfl).trans rfl), ?hyst19⟩) hS0st ?restst19
        case hyst19 =>
          intro W hW
          go_simp
          exact rfl
        simp only [List.getElem_toArray, List.getElem_cons_succ, List.getElem_cons_zero, Act.put, List.setIfInBounds_toArray, List.set_cons_zero, List.set_cons_succ]
        refine but_take (f := 22) (i := 20) (v := ?vst20) rfl (by kernel_rfl) (by kernel_rfl) (by kernel_rfl) (by kernel_rfl) (by kernel_rfl) (fun _ _ _ h => h) (Or.inl ⟨((wanted_at rfl rfl rfl rfl).trans rfl), ?hyst20⟩) hS0st ?restst20
        case hyst20 =>
          intro W hW
          obtain ⟨x0, x1, x2, x3, x4, x5, x6⟩ := boxP (box_on Q0.out (HV.out.trans (hW.mono HV.out.size)))
          obtain ⟨y0, y1, y2, y3, y4, y5⟩ := box5 (box_on Q1.out (HV.out.trans (hW.mono HV.out.size)))
          have v1 := (hW.cell (p := ⟨b, off + k * 4 + 1, none⟩) hbv).trans C1.out
          have v2 := (hW.cell (p := ⟨b, off + k * 4 + 2, none⟩) hbv).trans C2.out
          go_simp
          exact rfl
        simp only [List.getElem_toArray, List.getElem_cons_succ, List.getElem_cons_zero, Act.put, List.setIfInBounds_toArray, List.set_cons_zero, List.set_cons_succ]
        refine but_run (i := 21) (by kernel_rfl) rfl ((wanted_at rfl rfl rfl rfl).trans rfl) ?_
        simp only [List.getElem_toArray, List.getElem_cons_succ, List.getElem_cons_zero]
        intro K HK
        go_wp2_with fail
        refine (HX.out _ (bstep (bstep HB.out HV.out) hS0st)).mono ?_
        rintro r Vst1 ⟨rfl, hbst1⟩
        go_wp2_with fail
        have hSst1 : (fun V => Below wr.heap.size wr V) Vst1 := bstep hS0st hbst1
        refine HK.out _ _ (fun _ => hSst1) ?_
        clear HK
        have hzst1 := hbst1.size
        refine but_run (i := 22) (by kernel_rfl) rfl (by rfl) ?_
        simp only [List.getElem_toArray, List.getElem_cons_succ, List.getElem_cons_zero]
        intro K HK
        go_wp2_with fail
        refine HK.out _ _ (fun h => absurd rfl h) ?_
        clear HK
        refine but_done (by kernel_rfl) ?_
        have HW := Lib.hid (bstep HV.out hSst1)
        generalize Vst1 = WF at *
        cases S
        · have HI2 : Hid (∀ j (hj : j < k + 1) (hl : j < d.vo.length), needB d y d.vo[j] = false) := Lib.hid (anyP_snoc hlt HI.out HNV.out)
          go_wp2
          go_roundw
          case rel => exact ⟨k + 1, by omega, by go_num, HI2, HW⟩
          case measure => simp [intOf]; omega
        · have HF : Hid (R = true) := Lib.hid (by rw [HAY.out]; exact List.any_eq_true.2 ⟨_, List.getElem_mem hlt, HNV.out⟩)
          go_wp2
          go_ret
          exact ⟨by rw [HF.out]; rfl, bstep HB.out HW.out⟩
      · have e1 : decide ((d.vo[k]).c > y.a) = false := decide_eq_false hgt
        have HNV : Hid (needB d y d.vo[k] = false) := Lib.hid (by rw [HNK.out, decide_eq_false hgt, Bool.false_and])
        clear hgt
        refine but_begin (f := 22) (S := fun V => Below wr.heap.size wr V) (by kernel_rfl) ?_
        have hS0sf : Below wr.heap.size wr wr.drew := Below.drew1 _
        have hz0sf : wr.heap.size ≤ wr.drew.heap.size := Nat.le_refl _
        generalize wr.drew = Udsf at *
        refine but_take (f := 22) (i := 0) (v := ?vsf0) rfl (by kernel_rfl) (by kernel_rfl) (by kernel_rfl) (by kernel_rfl) (by kernel_rfl) (fun _ _ _ h => h) (Or.inl ⟨(by rfl), ?hysf0⟩) hS0sf ?restsf0
        case hysf0 =>
          intro W hW
          go_simp
          exact rfl
        simp only [List.getElem_toArray, List.getElem_cons_succ, List.getElem_cons_zero, Act.put, List.setIfInBounds_toArray, List.set_cons_zero, List.set_cons_succ]
        refine but_take (f := 22) (i := 1) (v := ?vsf1) rfl (by kernel_rfl) (by kernel_rfl) (by kernel_rfl) (by kernel_rfl) (by kernel_rfl) (fun _ _ _ h => h) (Or.inl ⟨(by rfl), ?hysf1⟩) hS0sf ?restsf1
        case hysf1 =>
          intro W hW
          obtain ⟨x0, x1, x2, x3, x4, x5, x6⟩ := boxP (box_on Q0.out (HV.out.trans (hW.mono HV.out.size)))
          obtain ⟨y0, y1, y2, y3, y4, y5⟩ := box5 (box_on Q1.out (HV.out.trans (hW.mono HV.out.size)))
          have v1 := (hW.cell (p := ⟨b, off + k * 4 + 1, none⟩) hbv).trans C1.out
          have v2 := (hW.cell (p := ⟨b, off + k * 4 + 2, none⟩) hbv).trans C2.out
          go_simp
          exact rfl
        simp only [List.getElem_toArray, List.getElem_cons_succ, List.getElem_cons_zero, Act.put, List.setIfInBounds_toArray, List.set_cons_zero, List.set_cons_succ]
        refine but_take (f := 22) (i := 2) (v := ?vsf2) rfl (by kernel_rfl) (by kernel_rfl) (by kernel_rfl) (by kernel_rfl) (by kernel_rfl) (fun _ _ _ h => h) (Or.inl ⟨(by rfl), ?hysf2⟩) hS0sf ?restsf2
        case hysf2 =>
          intro W hW
          go_simp
          exact rfl
        simp only [List.getElem_toArray, List.getElem_cons_succ, List.getElem_cons_zero, Act.put, List.setIfInBounds_toArray, List.set_cons_zero, List.set_cons_succ]
        refine but_take (f := 22) (i := 3) (v := ?vsf3) rfl (by kernel_rfl) (by kernel_rfl) (by kernel_rfl) (by kernel_rfl) (by kernel_rfl) (fun _ _ _ h => h) (Or.inl ⟨(by rfl), ?hysf3⟩) hS0sf ?restsf3
        case hysf3 =>
          intro W hW
          go_simp
          exact rfl
        simp only [List.getElem_toArray, List.getElem_cons_succ, List.getElem_cons_zero, Act.put, List.setIfInBounds_toArray, List.set_cons_zero, List.set_cons_succ]
        refine but_take (f := 22) (i := 4) (v := ?vsf4) rfl (by kernel_rfl) (by kernel_rfl) (by kernel_rfl) (by kernel_rfl) (by kernel_rfl) (fun _ _ _ h => h) (Or.inl ⟨(by rfl), ?hysf4⟩) hS0sf ?restsf4
        case hysf4 =>
          intro W hW
          go_simp
          exact rfl
        simp only [List.getElem_toArray, List.getElem_cons_succ, List.getElem_cons_zero, Act.put, List.setIfInBounds_toArray, List.set_cons_zero, List.set_cons_succ]
        refine but_take (f := 22) (i := 5) (v := ?vsf5) rfl (by kernel_rfl) (by kernel_rfl) (by kernel_rfl) (by kernel_rfl) (by kernel_rfl) (fun _ _ _ h => h) (Or.inl ⟨(by rfl), ?hysf5⟩) hS0sf ?restsf5
        case hysf5 =>
          intro W hW
          obtain ⟨x0, x1, x2, x3, x4, x5, x6⟩ := boxP (box_on Q0.out (HV.out.trans (hW.mono HV.out.size)))
          obtain ⟨y0, y1, y2, y3, y4, y5⟩ := box5 (box_on Q1.out (HV.out.trans (hW.mono HV.out.size)))
          have v1 := (hW.cell (p := ⟨b, off + k * 4 + 1, none⟩) hbv).trans C1.out
          have v2 := (hW.cell (p := ⟨b, off + k * 4 + 2, none⟩) hbv).trans C2.out
          go_simp
          exact rfl
        simp only [List.getElem_toArray, List.getElem_cons_succ, List.getElem_cons_zero, Act.put, List.setIfInBounds_toArray, List.set_cons_zero, List.set_cons_succ]
        refine but_take (f := 22) (i := 6) (v := ?vsf6) rfl (by kernel_rfl) (by kernel_rfl) (by kernel_rfl) (by kernel_rfl) (by kernel_rfl) (fun _ _ _ h => h) (Or.inl ⟨(by rfl), ?hysf6⟩) hS0sf ?restsf6
        case hysf6 =>
          intro W hW
          go_simp
          exact rfl
        simp only [List.getElem_toArray, List.getElem_cons_succ, List.getElem_cons_zero, Act.put, List.setIfInBounds_toArray, List.set_cons_zero, List.set_cons_succ]
        refine but_take (f := 22) (i := 7) (v := ?vsf7) rfl (by kernel_rfl) (by kernel_rfl) (by kernel_rfl) (by kernel_rfl) (by kernel_rfl) (fun _ _ _ h => h) (Or.inl ⟨(by rfl), ?hysf7⟩) hS0sf ?restsf7
        case hysf7 =>
          intro W hW
          obtain ⟨x0, x1, x2, x3, x4, x5, x6⟩ := boxP (box_on Q0.out (HV.out.trans (hW.mono HV.out.size)))
          obtain ⟨y0, y1, y2, y3, y4, y5⟩ := box5 (box_on Q1.out (HV.out.trans (hW.mono HV.out.size)))
          have v1 := (hW.cell (p := ⟨b, off + k * 4 + 1, none⟩) hbv).trans C1.out
          have v2 := (hW.cell (p := ⟨b, off + k * 4 + 2, none⟩) hbv).trans C2.out
          go_simp
          exact rfl
        simp only [List.getElem_toArray, List.getElem_cons_succ, List.getElem_cons_zero, Act.put, List.setIfInBounds_toArray, List.set_cons_zero, List.set_cons_succ]
        refine but_take (f := 22) (i := 8) (v := ?vsf8) rfl (by kernel_rfl) (by kernel_rfl) (by kernel_rfl) (by kernel_rfl) (by kernel_rfl) (fun _ _ _ h => h) (Or.inl ⟨(by rfl), ?hysf8⟩) hS0sf ?restsf8
        case hysf8 =>
          intro W hW
          go_simp
          exact rfl
        simp only [List.getElem_toArray, List.getElem_cons_succ, List.getElem_cons_zero, Act.put, List.setIfInBounds_toArray, List.set_cons_zero, List.set_cons_succ]
        refine but_take (f := 22) (i := 9) (v := ?vsf9) rfl (by kernel_rfl) (by kernel_rfl) (by kernel_rfl) (by kernel_rfl) (by kernel_rfl) (fun _ _ _ h => h) (Or.inl ⟨(by rfl), ?hysf9⟩) hS0sf ?restsf9
        case hysf9 =>
          intro W hW
          go_simp
          exact rfl
        simp only [List.getElem_toArray, List.getElem_cons_succ, List.getElem_cons_zero, Act.put, List.setIfInBounds_toArray, List.set_cons_zero, List.set_cons_succ]
        refine but_take (f := 22) (i := 10) (v := undef) rfl (by kernel_rfl) (by kernel_rfl) (by kernel_rfl) (by kernel_rfl) (by kernel_rfl) (fun _ _ _ h => h) (Or.inr ⟨((wanted_at rfl rfl rfl rfl).trans rfl), rfl⟩) hS0sf ?_
        simp only [List.getElem_toArray, List.getElem_cons_succ, List.getElem_cons_zero, Act.put, List.setIfInBounds_toArray, List.set_cons_zero, List.set_cons_succ]
        refine but_take (f := 22) (i := 11) (v := undef) rfl (by kernel_rfl) (by kernel_rfl) (by kernel_rfl) (by kernel_rfl) (by kernel_rfl) (fun _ _ _ h => h) (Or.inr ⟨((wanted_at rfl rfl rfl rfl).trans rfl), rfl⟩) hS0sf ?_
        simp only [List.getElem_toArray, List.getElem_cons_succ, List.getElem_cons_zero, Act.put, List.setIfInBounds_toArray, List.set_cons_zero, List.set_cons_succ]
        refine but_take (f := 22) (i := 12) (v := undef) rfl (by kernel_rfl) (by kernel_rfl) (by kernel_rfl) (by kernel_rfl) (by kernel_rfl) (fun _ _ _ h => h) (Or.inr ⟨((wanted_at rfl rfl rfl rfl).trans rfl), rfl⟩) hS0sf ?_
        simp only [List.getElem_toArray, List.getElem_cons_succ, List.getElem_cons_zero, Act.put, List.setIfInBounds_toArray, List.set_cons_zero, List.set_cons_succ]
        refine but_take (f := 22) (i := 13) (v := undef) rfl (by kernel_rfl) (by kernel_rfl) (by kernel_rfl) (by kernel_rfl) (by kernel_rfl) (fun _ _ _ h => h) (Or.inr ⟨((wanted_at rfl rfl rfl rfl).trans rfl), rfl⟩) hS0sf ?_
        simp only [List.getElem_toArray, List.getElem_cons_succ, List.getElem_cons_zero, Act.put, List.setIfInBounds_toArray, List.set_cons_zero, List.set_cons_succ]
        refine but_take (f := 22) (i := 14) (v := undef) rfl (by kernel_rfl) (by kernel_rfl) (by kernel_rfl) (by kernel_rfl) (by kernel_rfl) (fun _ _ _ h => h) (Or.inr ⟨((wanted_at rfl rfl rfl rfl).trans rfl), rfl⟩) hS0sf ?_
        simp only [List.getElem_toArray, List.getElem_cons_succ, List.getElem_cons_zero, Act.put, List.setIfInBounds_toArray, List.set_cons_zero, List.set_cons_succ]
        refine but_take (f := 22) (i := 15) (v := undef) rfl (by kernel_rfl) (by kernel_rfl) (by kernel_rfl) (by kernel_rfl) (by kernel_rfl) (fun _ _ _ h => h) (Or.inr ⟨((wanted_at rfl rfl rfl rfl).trans rfl), rfl⟩) hS0sf ?_
        simp only [List.getElem_toArray, List.getElem_cons_succ, List.getElem_cons_zero, Act.put, List.setIfInBounds_toArray, List.set_cons_zero, List.set_cons_succ]
        refine but_take (f := 22) (i := 16) (v := undef) rfl (by kernel_rfl) (by kernel_rfl) (by kernel_rfl) (by kernel_rfl) (by kernel_rfl) (fun _ _ _ h => h) (Or.inr ⟨((wanted_at rfl rfl rfl rfl).trans rfl), rfl⟩) hS0sf ?_
        simp only [List.getElem_toArray, List.getElem_cons_succ, List.getElem_cons_zero, Act.put, List.setIfInBounds_toArray, List.set_cons_zero, List.set_cons_succ]
        refine but_take (f := 22) (i := 17) (v := undef) rfl (by kernel_rfl) (by kernel_rfl) (by kernel_rfl) (by kernel_rfl) (by kernel_rfl) (fun _ _ _ h => h) (Or.inr ⟨((wanted_at rfl rfl rfl rfl).trans rfl), rfl⟩) hS0sf ?_
        simp only [List.getElem_toArray, List.getElem_cons_succ, List.getElem_cons_zero, Act.put, List.setIfInBounds_toArray, List.set_cons_zero, List.set_cons_succ]
        refine but_take (f := 22) (i := 18) (v := undef) rfl (by kernel_rfl) (by kernel_rfl) (by kernel_rfl) (by kernel_rfl) (by kernel_rfl) (fun _ _ _ h => h) (Or.inr ⟨((wanted_at rfl rfl rfl rfl).trans rfl), rfl⟩) hS0sf ?_
        simp only [List.getElem_toArray, List.getElem_cons_succ, List.getElem_cons_zero, Act.put, List.setIfInBounds_toArray, List.set_cons_zero, List.set_cons_succ]
        refine but_take (f := 22) (i := 19) (v := undef) rfl (by kernel_rfl) (by kernel_rfl) (by kernel_rfl) (by kernel_rfl) (by kernel_rfl) (fun _ _ _ h => h) (Or.inr ⟨((wanted_at rfl rfl rfl rfl).trans rfl), rfl⟩) hS0sf ?_
        simp only [List.getElem_toArray, List.getElem_cons_succ, List.getElem_cons_zero, Act.put, List.setIfInBounds_toArray, List.set_cons_zero, List.set_cons_succ]
        refine but_take (f := 22) (i := 20) (v := undef) rfl (by kernel_rfl) (by kernel_rfl) (by kernel_rfl) (by kernel_rfl) (by kernel_rfl) (fun _ _ _ h => h) (Or.inr ⟨((wanted_at rfl rfl rfl rfl).trans rfl), rfl⟩) hS0sf ?_
        simp only [List.getElem_toArray, List.getElem_cons_succ, List.getElem_cons_zero, Act.put, List.setIfInBounds_toArray, List.set_cons_zero, List.set_cons_succ]
        refine but_take (f := 22) (i := 21) (v := undef) rfl (by kernel_rfl) (by kernel_rfl) (by kernel_rfl) (by kernel_rfl) (by kernel_rfl) (fun _ _ _ h => h) (Or.inr ⟨((wanted_at rfl rfl rfl rfl).trans rfl), rfl⟩) hS0sf ?_
        simp only [List.getElem_toArray, List.getElem_cons_succ, List.getElem_cons_zero, Act.put, List.setIfInBounds_toArray, List.set_cons_zero, List.set_cons_succ]
        refine but_run (i := 22) (by kernel_rfl) rfl (by rfl) ?_
        simp only [List.getElem_toArray, List.getElem_cons_succ, List.getElem_cons_zero]
        intro K HK
        go_wp2_with fail
        refine HK.out _ _ (fun h => absurd rfl h) ?_
        clear HK
        refine but_done (by kernel_rfl) ?_
        have HW := Lib.hid (bstep HV.out hS0sf)
        generalize Udsf = WF at *
        have HI2 : Hid (∀ j (hj : j < k + 1) (hl : j < d.vo.length), needB d y d.vo[j] = false) := Lib.hid (anyP_snoc hlt HI.out HNV.out)
        go_wp2
        go_roundw
        case rel => exact ⟨k + 1, by omega, by go_num, HI2, HW⟩
        case measure => simp [intOf]; omega
    · have HF : Hid (R = false) := Lib.hid (by rw [HAY.out]; exact anyP_done (fun j hl => HI.out j (by omega) hl))
      have i1 : ¬ ((k : Int) < (d.vo.length : Int)) := by omega
      go_wp2
      go_ret
      exact ⟨by rw [HF.out]; rfl, bstep HB.out HV.out⟩
theorem kid_zero {d : PoolD} {g : Int} (h : kidB d g = false) : ∀ k : KeyD, k.b = g → heirB d k = false := by intro k hk; subst hk; unfold heirB; rw [h]; rfl
def kidZ (d : PoolD) (g : Int) : Int := if kidB d g then kidI d g else 0
set_option maxHeartbeats 4000000 in
theorem l13Kid_any {t : TypeId} (vl vn va vc vv : Value) (d : PoolD) (g : Int) (w : World) (hR : RdP t w w.heap.size vl vn va vc vv d) (hs : SmallP d) :
    Calls Tryz.prog 39 #[.agg #[vl, vn, va, vc, vv, .int .i64 d.nx], .int .i64 g] w (SaysI w (kidZ d g)) := by
  have h2 := hs.2.1
  have h4 := hs.2.2.2
  have HKI := Lib.hid (fun W b => specKidsOf_any va d.ag g W (hR.on b).2.1 (by omega))
  have HID := Lib.hid (fun W b => specIdle_any vl vn va vc vv d g W (hR.on b) (by omega))
  have HZ := Lib.hid (show kidZ d g = if (idleP g d.vo && decide ((kidsK d.ag g).length = 1)) then (kidsK d.ag g).headD 0 else 0 from rfl)
  obtain ⟨A0, c0, A1, c1, A2, c2, A3, c3, A4, c4, rfl, rfl, rfl, rfl, rfl⟩ := hR.shape
  obtain ⟨I, hI⟩ : ∃ I, idleP g d.vo = I := ⟨_, rfl⟩
  obtain ⟨KS, hKS⟩ : ∃ KS, kidsK d.ag g = KS := ⟨_, rfl⟩
  obtain ⟨R, hRR⟩ : ∃ R, kidZ d g = R := ⟨_, rfl⟩
  rw [hI] at HID HZ
  rw [hKS] at HKI HZ
  rw [hRR] at HZ ⊢
  have HB := Lib.hid (bal1 w (.cells #[.slice A0 d.lo.length c0, .slice A1 d.ts.length c1, .slice A2 d.ag.length c2, .slice A3 d.ce.length c3, .slice A4 d.vo.length c4, .int .i64 d.nx] 41))
  have Q0 := Lib.hid (al1 w (.cells #[.slice A0 d.lo.length c0, .slice A1 d.ts.length c1, .slice A2 d.ag.length c2, .slice A3 d.ce.length c3, .slice A4 d.vo.length c4, .int .i64 d.nx] 41))
  clear hR hs h2 h4 hI hKS hRR
  go_enter Tryz.func39, Tryz.ntmps39
  go_upto_region 1 with (fail)
  generalize w.alloc (.cells #[.slice A0 d.lo.length c0, .slice A1 d.ts.length c1, .slice A2 d.ag.length c2, .slice A3 d.ce.length c3, .slice A4 d.vo.length c4, .int .i64 d.nx] 41) = W at *
  obtain ⟨x0, x1, x2, x3, x4, x5, x6⟩ := boxP Q0.out
  go_wp2_with fail
  refine (HKI.out _ HB.out).mono ?_
  rintro e w1 ⟨vk, rfl, o1, b1⟩
  obtain ⟨A, c, rfl, _, _⟩ := o1.shape
  have O1 := Lib.hid o1
  replace HB := Lib.hid (bstep HB.out b1)
  replace Q0 := Lib.hid (box_on Q0.out b1)
  clear x0 x1 x2 x3 x4 x5 x6 HKI b1 o1
  obtain ⟨x0, x1, x2, x3, x4, x5, x6⟩ := boxP Q0.out
  go_wp2_with fail
  refine (HID.out _ HB.out).mono ?_
  rintro e w2 ⟨rfl, b2⟩
  replace O1 := Lib.hid (O1.out.on b2)
  replace HB := Lib.hid (bstep HB.out b2)
  clear x0 x1 x2 x3 x4 x5 x6 HID b2
  cases I
  · have HF : Hid (R = 0) := Lib.hid (by rw [HZ.out]; rfl)
    go_wp2
    go_ret
    exact ⟨by rw [HF.out]; rfl, HB.out⟩
  · by_cases hl : KS.length = 1
    · have i1 : (0 : Int) < (KS.length : Int) := by omega
      have HL := Lib.hid hl
      have hd1 : ((KS.length : Int) != 1) = false := by rw [hl]; rfl
      obtain ⟨x, hx⟩ : ∃ x, KS[0]'(by omega) = x := ⟨_, rfl⟩
      have HF : Hid (R = x) := Lib.hid (by
        rw [HZ.out, decide_eq_true hl, Bool.true_and, if_pos rfl, ← hx]
        cases KS with
        | nil => simp at hl
        | cons x l => rfl)
      obtain ⟨bb, off, rfl, hbb, hc⟩ := Reads.int (i := 0) O1.out.owns.reads (by omega)
      have hc0 : w2.cell? ⟨bb, off, none⟩ = some (.int .i64 x) := (hc 0 (by omega)).trans (by rw [hx]; rfl)
      clear hc hl hx
      go_wp2
      go_ret
      exact ⟨by rw [HF.out]; rfl, HB.out⟩
    · have HF : Hid (R = 0) := Lib.hid (by rw [HZ.out, decide_eq_false hl, Bool.and_false]; rfl)
      have hd1 : ((KS.length : Int) != 1) = true := by
        rw [bne_iff_ne]
        omega
      clear hl
      go_wp2
      go_ret
      exact ⟨by rw [HF.out]; rfl, HB.out⟩
theorem move_zero {d : PoolD} {k : KeyD} (hp : agesOkB d.ag = true) (h : kidZ d k.b = 0) : heirB d k = false := by
  cases hk : kidB d k.b
  · exact kid_zero hk k rfl
  · have h1 := hk
    unfold kidB at h1
    simp only [Bool.and_eq_true, decide_eq_true_eq] at h1
    unfold kidZ at h
    rw [hk, if_pos rfl] at h
    have hm : kidI d k.b ∈ kidsK d.ag k.b := by
      unfold kidI
      have := h1.2
      generalize kidsK d.ag k.b = l at *
      cases l with
      | nil => simp at this
      | cons x l => exact List.mem_cons_self
    exact absurd h (kid_ne hp hm)
theorem move_some {d : PoolD} {k : KeyD} (h : kidZ d k.b ≠ 0) : heirB d k = !(treeAtK d.lo d.ts k.a (kidZ d k.b)).isSome := by
  cases hk : kidB d k.b
  · unfold kidZ at h
    rw [hk] at h
    exact absurd rfl h
  · unfold heirB kidZ
    rw [hk, if_pos rfl, Bool.true_and]
set_option maxHeartbeats 4000000 in
theorem l13Move_any {t : TypeId} (vl vn va vc vv : Value) (d : PoolD) (k : KeyD) (w : World) (hR : RdP t w w.heap.size vl vn va vc vv d) (hs : SmallP d) (hp : agesOkB d.ag = true) :
    Calls Tryz.prog 64 #[.agg #[vl, vn, va, vc, vv, .int .i64 d.nx], k.v] w (SaysBool w (heirB d k)) := by
  have HKI := Lib.hid (fun W b => l13Kid_any vl vn va vc vv d k.b W (hR.on b) hs)
  have HTA := Lib.hid (fun (q : Int) W b => specTreeAt_any vl vn d.lo d.ts k.a q W (hR.on b).1 hs.t)
  have HM1 := Lib.hid (fun h => move_zero (d := d) (k := k) hp h)
  have HM2 := Lib.hid (fun h => move_some (d := d) (k := k) h)
  obtain ⟨A0, c0, A1, c1, A2, c2, A3, c3, A4, c4, rfl, rfl, rfl, rfl, rfl⟩ := hR.shape
  obtain ⟨x, hx⟩ : ∃ x, kidZ d k.b = x := ⟨_, rfl⟩
  obtain ⟨R, hRR⟩ : ∃ R, heirB d k = R := ⟨_, rfl⟩
  rw [hx] at HKI HM1 HM2
  rw [hRR] at HM1 HM2 ⊢
  replace HTA := Lib.hid (HTA.out x)
  obtain ⟨T, hT⟩ : ∃ T, treeAtK d.lo d.ts k.a x = T := ⟨_, rfl⟩
  rw [hT] at HTA HM2
  obtain ⟨TB, hTB⟩ : ∃ b, T.isSome = b := ⟨_, rfl⟩
  obtain ⟨F, hF⟩ : ∃ F, T.getD zK = F := ⟨_, rfl⟩
  unfold SaysFind KeyD.v keyV at HTA
  rw [hTB] at HTA HM2
  rw [hF] at HTA
  obtain ⟨q0, q1⟩ := al2 w (.cells #[.slice A0 d.lo.length c0, .slice A1 d.ts.length c1, .slice A2 d.ag.length c2, .slice A3 d.ce.length c3, .slice A4 d.vo.length c4, .int .i64 d.nx] 41) (.cells #[.int .i64 k.a, .int .i64 k.b, .int .i64 k.c, .int .i64 k.d, .int .i64 k.e] 58)
  have HB := Lib.hid (bal2 w (.cells #[.slice A0 d.lo.length c0, .slice A1 d.ts.length c1, .slice A2 d.ag.length c2, .slice A3 d.ce.length c3, .slice A4 d.vo.length c4, .int .i64 d.nx] 41) (.cells #[.int .i64 k.a, .int .i64 k.b, .int .i64 k.c, .int .i64 k.d, .int .i64 k.e] 58))
  have Q0 := Lib.hid q0
  have Q1 := Lib.hid q1
  unfold KeyD.v keyV
  clear hR hs hp q0 q1 hx hRR hT hTB hF
  go_enter Tryz.func64, Tryz.ntmps64
  go_upto_region 1 with (fail)
  generalize (w.alloc (.cells #[.slice A0 d.lo.length c0, .slice A1 d.ts.length c1, .slice A2 d.ag.length c2, .slice A3 d.ce.length c3, .slice A4 d.vo.length c4, .int .i64 d.nx] 41)).alloc (.cells #[.int .i64 k.a, .int .i64 k.b, .int .i64 k.c, .int .i64 k.d, .int .i64 k.e] 58) = W at *
  obtain ⟨x0, x1, x2, x3, x4, x5, x6⟩ := boxP Q0.out
  obtain ⟨y0, y1, y2, y3, y4, y5⟩ := box5 Q1.out
  go_wp2_with fail
  refine (HKI.out _ HB.out).mono ?_
  rintro e w1 ⟨rfl, b1⟩
  replace HB := Lib.hid (bstep HB.out b1)
  replace Q0 := Lib.hid (box_on Q0.out b1)
  replace Q1 := Lib.hid (box_on Q1.out b1)
  clear x0 x1 x2 x3 x4 x5 x6 y0 y1 y2 y3 y4 y5 b1 HKI
  by_cases h0 : x = 0
  · have e1 : (x == 0) = true := by rw [h0]; rfl
    have HF : Hid (R = false) := Lib.hid (HM1.out h0)
    clear h0
    go_wp2
    go_ret
    exact ⟨by rw [HF.out]; rfl, HB.out⟩
  · have e1 : (x == 0) = false := beq_eq_false_iff_ne.2 h0
    have HF := Lib.hid (HM2.out h0)
    clear h0
    obtain ⟨x0, x1, x2, x3, x4, x5, x6⟩ := boxP Q0.out
    obtain ⟨y0, y1, y2, y3, y4, y5⟩ := box5 Q1.out
    go_wp2_with fail
    refine (HTA.out _ HB.out).mono ?_
    rintro e w2 ⟨rfl, b2⟩
    replace HB := Lib.hid (bstep HB.out b2)
    have ba := bal1 w2 (.cells #[.int .i64 F.a, .int .i64 F.b, .int .i64 F.c, .int .i64 F.d, .int .i64 F.e] 58)
    replace HB := Lib.hid (bstep HB.out ba)
    clear x0 x1 x2 x3 x4 x5 x6 y0 y1 y2 y3 y4 y5 b2 ba HTA
    go_wp2
    go_ret
    exact ⟨by rw [HF.out]; rfl, HB.out⟩
set_option maxHeartbeats 4000000 in
theorem l13Key_any {t : TypeId} (vl vn va vc vv : Value) (d : PoolD) (s : Int) (k : KeyD) (w : World) (hR : RdP t w w.heap.size vl vn va vc vv d) (hs : SmallP d) (hp : agesOkB d.ag = true) :
    Calls Tryz.prog 23 #[.agg #[vl, vn, va, vc, vv, .int .i64 d.nx], .int .i64 s, k.v] w (SaysBool w (keyB d s k)) := by
  have h1 := hs.1
  have h2 := hs.2.1
  have HAN := Lib.hid (fun W b => specSeenByAny_any vl vn va vc vv d k W (hR.on b) hs hp)
  have HMV := Lib.hid (fun W b => l13Move_any vl vn va vc vv d k W (hR.on b) hs hp)
  have HAB : Hid (∀ W, Below w.heap.size w W → Calls Tryz.prog 63 #[.agg #[vl, vn], va, .int .i64 k.a, .int .i64 k.b] W (SaysFind W (aboveK d k.a k.b))) := Lib.hid (fun W b => by have := specSeenAbove_any vl vn va d.lo d.ts d.ag k.a k.b W (hR.on b).1 (hR.on b).2.1 (by omega) (by omega) (by omega); rw [path_sameP hp] at this; exact this)
  obtain ⟨A0, c0, A1, c1, A2, c2, A3, c3, A4, c4, rfl, rfl, rfl, rfl, rfl⟩ := hR.shape
  have HK : Hid (keyB d s k = if s = 1 then !anyB d k else if s = 2 then decide (k.c = 2) && !(aboveK d k.a k.b).isSome else heirB d k) := Lib.hid rfl
  obtain ⟨R, hRR⟩ : ∃ R, keyB d s k = R := ⟨_, rfl⟩
  obtain ⟨AN, hAN⟩ : ∃ b, anyB d k = b := ⟨_, rfl⟩
  obtain ⟨HE, hHE⟩ : ∃ b, heirB d k = b := ⟨_, rfl⟩
  obtain ⟨T, hT⟩ : ∃ T, aboveK d k.a k.b = T := ⟨_, rfl⟩
  rw [hAN] at HAN
  rw [hHE] at HMV
  rw [hRR, hAN, hHE, hT] at HK
  rw [hT] at HAB
  rw [hRR]
  obtain ⟨TB, hTB⟩ : ∃ b, T.isSome = b := ⟨_, rfl⟩
  obtain ⟨F, hF⟩ : ∃ F, T.getD zK = F := ⟨_, rfl⟩
  unfold SaysFind KeyD.v keyV at HAB
  rw [hTB] at HAB HK
  rw [hF] at HAB
  unfold KeyD.v keyV at HAN HMV
  obtain ⟨q0, q1⟩ := al2 w (.cells #[.slice A0 d.lo.length c0, .slice A1 d.ts.length c1, .slice A2 d.ag.length c2, .slice A3 d.ce.length c3, .slice A4 d.vo.length c4, .int .i64 d.nx] 41) (.cells #[.int .i64 k.a, .int .i64 k.b, .int .i64 k.c, .int .i64 k.d, .int .i64 k.e] 58)
  have HB := Lib.hid (bal2 w (.cells #[.slice A0 d.lo.length c0, .slice A1 d.ts.length c1, .slice A2 d.ag.length c2, .slice A3 d.ce.length c3, .slice A4 d.vo.length c4, .int .i64 d.nx] 41) (.cells #[.int .i64 k.a, .int .i64 k.b, .int .i64 k.c, .int .i64 k.d, .int .i64 k.e] 58))
  have Q0 := Lib.hid q0
  have Q1 := Lib.hid q1
  unfold KeyD.v keyV
  clear hR hs hp h1 h2 q0 q1 hRR hAN hHE hT hTB hF
  go_enter Tryz.func23, Tryz.ntmps23
  go_upto_region 1 with (fail)
  generalize (w.alloc (.cells #[.slice A0 d.lo.length c0, .slice A1 d.ts.length c1, .slice A2 d.ag.length c2, .slice A3 d.ce.length c3, .slice A4 d.vo.length c4, .int .i64 d.nx] 41)).alloc (.cells #[.int .i64 k.a, .int .i64 k.b, .int .i64 k.c, .int .i64 k.d, .int .i64 k.e] 58) = W at *
  obtain ⟨x0, x1, x2, x3, x4, x5, x6⟩ := boxP Q0.out
  obtain ⟨y0, y1, y2, y3, y4, y5⟩ := box5 Q1.out
  by_cases h1 : s = 1
  · subst h1
    have HF : Hid (R = !AN) := Lib.hid HK.out
    go_wp2_with fail
    refine (HAN.out _ HB.out).mono ?_
    rintro e w1 ⟨rfl, b1⟩
    replace HB := Lib.hid (bstep HB.out b1)
    clear x0 x1 x2 x3 x4 x5 x6 y0 y1 y2 y3 y4 y5 b1 HAN
    go_wp2
    go_ret
    exact ⟨by rw [HF.out]; rfl, HB.out⟩
  · have e1 : (s == 1) = false := beq_eq_false_iff_ne.2 h1
    rw [if_neg h1] at HK
    clear h1
    by_cases h2 : s = 2
    · subst h2
      rw [if_pos rfl] at HK
      go_wp2_with fail
      refine (HAB.out _ HB.out).mono ?_
      rintro e w1 ⟨rfl, b1⟩
      replace HB := Lib.hid (bstep HB.out b1)
      replace Q1 := Lib.hid (box_on Q1.out b1)
      clear x0 x1 x2 x3 x4 x5 x6 y0 y1 y2 y3 y4 y5 b1 HAB e1
      have ba := bal1 w1 (.cells #[.int .i64 F.a, .int .i64 F.b, .int .i64 F.c, .int .i64 F.d, .int .i64 F.e] 58)
      replace HB := Lib.hid (bstep HB.out ba)
      replace Q1 := Lib.hid (box_on Q1.out ba)
      clear ba
      go_upto_region 6 with (fail)
      generalize w1.alloc (.cells #[.int .i64 F.a, .int .i64 F.b, .int .i64 F.c, .int .i64 F.d, .int .i64 F.e] 58) = W2 at *
      obtain ⟨y0, y1, y2, y3, y4, y5⟩ := box5 Q1.out
      by_cases hc : k.c = 2
      · have e2 : (k.c == 2) = true := by rw [hc]; rfl
        have HF : Hid (R = !TB) := Lib.hid (by rw [HK.out, decide_eq_true hc, Bool.true_and])
        clear hc
        go_wp2
        go_ret
        exact ⟨by rw [HF.out]; rfl, HB.out⟩
      · have e2 : (k.c == 2) = false := beq_eq_false_iff_ne.2 hc
        have HF : Hid (R = false) := Lib.hid (by rw [HK.out, decide_eq_false hc, Bool.false_and])
        clear hc
        go_wp2
        go_ret
        exact ⟨by rw [HF.out]; rfl, HB.out⟩
    · have e2 : (s == 2) = false := beq_eq_false_iff_ne.2 h2
      rw [if_neg h2] at HK
      have HF : Hid (R = HE) := Lib.hid HK.out
      clear h2
      go_wp2_with fail
      refine (HMV.out _ HB.out).mono ?_
      rintro e w1 ⟨rfl, b1⟩
      replace HB := Lib.hid (bstep HB.out b1)
      clear x0 x1 x2 x3 x4 x5 x6 y0 y1 y2 y3 y4 y5 b1 HMV
      go_wp2
      go_ret
      exact ⟨by rw [HF.out]; rfl, HB.out⟩
set_option maxHeartbeats 4000000 in
theorem l13Age_any {t : TypeId} (vl vn va vc vv : Value) (d : PoolD) (id : Int) (w : World) (hR : RdP t w w.heap.size vl vn va vc vv d) (hs : SmallP d) :
    Calls Tryz.prog 24 #[.agg #[vl, vn, va, vc, vv, .int .i64 d.nx], .int .i64 id] w (SaysBool w (cutB d id)) := by
  have h1 := hs.1
  have h2 := hs.2.1
  have h4 := hs.2.2.2
  have hkl := treeKeys_len d.ts
  have HTK := Lib.hid (fun W b => specTreeKeys_any vl vn d.lo d.ts W (hR.on b).1 (by omega) (by omega))
  have HKI := Lib.hid (fun W b => specKidsOf_any va d.ag id W (hR.on b).2.1 (by omega))
  have HID := Lib.hid (fun W b => specIdle_any vl vn va vc vv d id W (hR.on b) (by omega))
  obtain ⟨A0, c0, A1, c1, A2, c2, A3, c3, A4, c4, rfl, rfl, rfl, rfl, rfl⟩ := hR.shape
  have HC := Lib.hid (show cutB d id = (idleP id d.vo && decide ((kidsK d.ag id).length ≤ 1) && !(treeKeysK d.ts).any (fun k => k.b == id)) from rfl)
  obtain ⟨R, hRR⟩ : ∃ R, cutB d id = R := ⟨_, rfl⟩
  obtain ⟨I, hI⟩ : ∃ I, idleP id d.vo = I := ⟨_, rfl⟩
  obtain ⟨KS, hKS⟩ : ∃ KS, kidsK d.ag id = KS := ⟨_, rfl⟩
  obtain ⟨l, hl⟩ : ∃ l, treeKeysK d.ts = l := ⟨_, rfl⟩
  rw [hRR, hI, hKS, hl] at HC
  rw [hl] at HTK hkl
  have hln : l.length ≤ 1048576 := by omega
  rw [hKS] at HKI
  rw [hI] at HID
  rw [hRR]
  have HB := Lib.hid (bal1 w (.cells #[.slice A0 d.lo.length c0, .slice A1 d.ts.length c1, .slice A2 d.ag.length c2, .slice A3 d.ce.length c3, .slice A4 d.vo.length c4, .int .i64 d.nx] 41))
  have Q0 := Lib.hid (al1 w (.cells #[.slice A0 d.lo.length c0, .slice A1 d.ts.length c1, .slice A2 d.ag.length c2, .slice A3 d.ce.length c3, .slice A4 d.vo.length c4, .int .i64 d.nx] 41))
  clear hR hs h1 h2 h4 hkl hRR hI hKS hl
  go_enter Tryz.func24, Tryz.ntmps24
  go_upto_region 1 with (fail)
  generalize w.alloc (.cells #[.slice A0 d.lo.length c0, .slice A1 d.ts.length c1, .slice A2 d.ag.length c2, .slice A3 d.ce.length c3, .slice A4 d.vo.length c4, .int .i64 d.nx] 41) = W at *
  obtain ⟨x0, x1, x2, x3, x4, x5, x6⟩ := boxP Q0.out
  go_wp2_with fail
  refine (HTK.out _ HB.out).mono ?_
  rintro e w1 ⟨vk, rfl, o1, b1⟩
  obtain ⟨Ak, ck, rfl, _, _⟩ := o1.shape
  have HV := Lib.hid o1.owns.reads
  replace HB := Lib.hid (bstep HB.out b1)
  replace Q0 := Lib.hid (box_on Q0.out b1)
  clear x0 x1 x2 x3 x4 x5 x6 b1 o1 HTK
  go_wp2
  go_loop [6] (fun i => ∃ k : Nat, k ≤ l.length ∧ i = .int .i64 k ∧ Hid (∀ j (hj : j < k) (hl : j < l.length), (fun k : KeyD => k.b == id) l[j] = false)) (fun i => l.length - (intOf i).toNat)
  case atStart => exact ⟨0, Nat.zero_le _, rfl, Lib.hid (fun j hj => by omega)⟩
  case round =>
    obtain ⟨k, hk, rfl, HI⟩ := hrel
    by_cases hlt : k < l.length
    · obtain ⟨b, off, rfl, hbb, hc⟩ := HV.out.keys hlt
      have i1 : (k : Int) < (l.length : Int) := by omega
      have i2 : (0 : Int) ≤ (k : Int) := by omega
      obtain ⟨c0', c1', c2', c3', c4'⟩ := hc k hlt
      clear hc
      cases hs : ((l[k]).b == id)
      · have HI2 := Lib.hid (anyP_snoc (p := fun k : KeyD => k.b == id) hlt HI.out hs)
        go_wp2
        go_round
        case rel => exact ⟨k + 1, by omega, by go_num, HI2⟩
        case measure => simp [intOf]; omega
      · have HF : Hid (R = false) := Lib.hid (by rw [HC.out, List.any_eq_true.2 ⟨_, List.getElem_mem hlt, hs⟩]; simp)
        go_wp2
        go_ret
        exact ⟨by rw [HF.out]; rfl, HB.out⟩
    · have HF : Hid (R = (I && decide (KS.length ≤ 1))) := Lib.hid (by rw [HC.out, anyP_done (p := fun k : KeyD => k.b == id) (fun j hl => HI.out j (by omega) hl)]; simp)
      have i1 : ¬ ((k : Int) < (l.length : Int)) := by omega
      obtain ⟨x0, x1, x2, x3, x4, x5, x6⟩ := boxP Q0.out
      go_wp2_with fail
      refine (HID.out _ HB.out).mono ?_
      rintro e w3 ⟨rfl, b3⟩
      replace HB := Lib.hid (bstep HB.out b3)
      replace Q0 := Lib.hid (box_on Q0.out b3)
      clear x0 x1 x2 x3 x4 x5 x6 b3 HID
      cases I
      · have HF2 : Hid (R = false) := Lib.hid (by rw [HF.out, Bool.false_and])
        go_wp2
        go_ret
        exact ⟨by rw [HF2.out]; rfl, HB.out⟩
      · obtain ⟨x0, x1, x2, x3, x4, x5, x6⟩ := boxP Q0.out
        go_wp2_with fail
        refine (HKI.out _ HB.out).mono ?_
        rintro e w4 ⟨v4, rfl, o4, b4⟩
        obtain ⟨A5, c5, rfl, _, _⟩ := o4.shape
        replace HB := Lib.hid (bstep HB.out b4)
        clear x0 x1 x2 x3 x4 x5 x6 b4 o4 HKI
        by_cases hl : KS.length ≤ 1
        · have e1 : decide ((KS.length : Int) ≤ 1) = true := decide_eq_true (by omega)
          have HF2 : Hid (R = true) := Lib.hid (by rw [HF.out, decide_eq_true hl, Bool.true_and])
          clear hl
          go_wp2
          go_ret
          exact ⟨by rw [HF2.out]; rfl, HB.out⟩
        · have e1 : decide ((KS.length : Int) ≤ 1) = false := decide_eq_false (by omega)
          have HF2 : Hid (R = false) := Lib.hid (by rw [HF.out, decide_eq_false hl, Bool.and_false])
          clear hl
          go_wp2
          go_ret
          exact ⟨by rw [HF2.out]; rfl, HB.out⟩
set_option maxHeartbeats 8000000 in
theorem specNextStep_any {t : TypeId} (vl vn va vc vv : Value) (d : PoolD) (w : World) (hR : RdP t w w.heap.size vl vn va vc vv d) (hs : SmallP d) (hnm : ∀ k ∈ d.vo, k.a.size ≤ maxLen) :
    Calls Tryz.prog 7 #[.agg #[vl, vn, va, vc, vv, .int .i64 d.nx]] w (SaysII w (nextK d)) := by
  have h1 := hs.1
  have h2 := hs.2.1
  have hkl := treeKeys_len d.ts
  have HPO := Lib.hid (fun W b => specPoolOk_any vl vn va vc vv d W (hR.on b) hs hnm)
  have HTK := Lib.hid (fun W b => specTreeKeys_any vl vn d.lo d.ts W (hR.on b).1 (by omega) (by omega))
  have HKY := Lib.hid (fun (hp : poolOkB d = true) (s : Int) (k : KeyD) W b => l13Key_any vl vn va vc vv d s k W (hR.on b) hs (pool_ages hp))
  unfold KeyD.v keyV at HKY
  have HAG := Lib.hid (fun (id : Int) W b => l13Age_any vl vn va vc vv d id W (hR.on b) hs)
  have HAV := Lib.hid hR.2.1
  have HHIT : Hid (poolOkB d = true → ∀ (s : Int), 1 ≤ s → s ≤ 3 → ∀ (i : Nat) (hi : i < (treeKeysK d.ts).length), keyB d s (treeKeysK d.ts)[i] = true → (∀ u : Int, 1 ≤ u → u < s → ∀ j (hj : j < (treeKeysK d.ts).length), keyB d u (treeKeysK d.ts)[j] = false) → (∀ j, j < i → ∀ hl : j < (treeKeysK d.ts).length, keyB d s (treeKeysK d.ts)[j] = false) → keyStepK d = (s, (i : Int))) := Lib.hid (fun hp s h1 h3 i hi hb hu hn => best_hit hp h1 h3 hi hb hu hn)
  have HNON := Lib.hid (fun (hp : poolOkB d = true) => @best_none d hp)
  have HAH := Lib.hid (fun (k : Nat) h hi hc => ageJ_hit (d := d) (k := k) h hi hc)
  have HAN := Lib.hid (ageJ_none (d := d))
  obtain ⟨A0, c0, A1, c1, A2, c2, A3, c3, A4, c4, rfl, rfl, rfl, rfl, rfl⟩ := hR.shape
  have HN := Lib.hid (show nextK d = if poolOkB d then (if (keyStepK d).1 = 0 then ageStepK d else keyStepK d) else (0, 0) from rfl)
  obtain ⟨R, hRR⟩ : ∃ R, nextK d = R := ⟨_, rfl⟩
  obtain ⟨P, hP⟩ : ∃ R, poolOkB d = R := ⟨_, rfl⟩
  obtain ⟨K, hK⟩ : ∃ R, keyStepK d = R := ⟨_, rfl⟩
  obtain ⟨G, hG⟩ : ∃ R, ageStepK d = R := ⟨_, rfl⟩
  obtain ⟨l, hl⟩ : ∃ R, treeKeysK d.ts = R := ⟨_, rfl⟩
  rw [hRR, hP, hK, hG] at HN
  rw [hP] at HPO HKY HHIT HNON
  simp only [hK, hl] at HHIT HNON
  rw [hG] at HAH HAN
  rw [hl] at HTK hkl
  rw [hRR]
  obtain ⟨r1, r2⟩ := R
  have Q0 := Lib.hid (al1 w (.cells #[.slice A0 d.lo.length c0, .slice A1 d.ts.length c1, .slice A2 d.ag.length c2, .slice A3 d.ce.length c3, .slice A4 d.vo.length c4, .int .i64 d.nx] 41))
  have HB := Lib.hid (bal1 w (.cells #[.slice A0 d.lo.length c0, .slice A1 d.ts.length c1, .slice A2 d.ag.length c2, .slice A3 d.ce.length c3, .slice A4 d.vo.length c4, .int .i64 d.nx] 41))
  have HLN : Hid (l.length ≤ 1048576) := Lib.hid (by omega)
  have HLG : Hid (d.ag.length ≤ 1048576) := Lib.hid h2
  clear hR hs hnm hRR hP hK hG h1 hkl
  go_enter Tryz.func7, Tryz.ntmps7
  go_upto_region 1 with (fail)
  generalize w.alloc (.cells #[.slice A0 d.lo.length c0, .slice A1 d.ts.length c1, .slice A2 d.ag.length c2, .slice A3 d.ce.length c3, .slice A4 d.vo.length c4, .int .i64 d.nx] 41) = W at *
  obtain ⟨x0, x1, x2, x3, x4, x5, x6⟩ := boxP Q0.out
  go_wp2_with fail
  refine (HPO.out _ HB.out).mono ?_
  rintro e w1 ⟨rfl, b1⟩
  replace HB := Lib.hid (bstep HB.out b1)
  replace Q0 := Lib.hid (box_on Q0.out b1)
  clear x0 x1 x2 x3 x4 x5 x6 b1 HPO
  cases P
  · have HF : Hid ((r1, r2) = (0, 0)) := Lib.hid HN.out
    go_wp2
    refine bodyPost_ret (v := .tuple #[.int .i64 0, .int .i64 0]) (by simp [results, Tryz.results7, go_sem]) rfl ⟨by rw [HF.out], HB.out⟩
  · replace HKY := Lib.hid (HKY.out rfl)
    replace HHIT := Lib.hid (HHIT.out rfl)
    replace HNON := Lib.hid (HNON.out rfl)
    rw [if_pos rfl] at HN
    obtain ⟨x0, x1, x2, x3, x4, x5, x6⟩ := boxP Q0.out
    go_wp2_with fail
    refine (HTK.out _ HB.out).mono ?_
    rintro e w2 ⟨vk, rfl, o2, b2⟩
    obtain ⟨Ak, ck, rfl, _, _⟩ := o2.shape
    have HV := Lib.hid o2.owns.reads
    replace HB := Lib.hid (bstep HB.out b2)
    replace Q0 := Lib.hid (box_on Q0.out b2)
    clear x0 x1 x2 x3 x4 x5 x6 b2 o2 HTK
    go_wp2
    go_loopw [5, 6] (fun i _ wr => ∃ s : Nat, 1 ≤ s ∧ s ≤ 4 ∧ i = .int .i64 s ∧ Hid (∀ u : Int, 1 ≤ u → u < s → ∀ j (hj : j < l.length), keyB d u l[j] = false) ∧ Hid (Below w2.heap.size w2 wr)) (fun i _ _ => 4 - (intOf i).toNat)
    case atStart => exact ⟨1, by omega, by omega, rfl, Lib.hid (fun u h1 h2 => by omega), Lib.hid (Below.refl _ _)⟩
    case round =>
      obtain ⟨s, hs1, hs4, rfl, HU, HWo⟩ := hrel
      by_cases hs3 : s ≤ 3
      · have e0 : decide ((s : Int) ≤ 3) = true := decide_eq_true (by omega)
        go_wp2
        go_loopw [6] (fun i wr' => ∃ k : Nat, k ≤ l.length ∧ i = .int .i64 k ∧ Hid (∀ j (hj : j < k) (hl : j < l.length), keyB d s l[j] = false) ∧ Hid (Below w2.heap.size w2 wr')) (fun i _ => l.length - (intOf i).toNat)
        case atStart => exact ⟨0, Nat.zero_le _, rfl, Lib.hid (fun j hj => by omega), HWo⟩
        case round =>
          obtain ⟨k, hk, rfl, HI, HW⟩ := hrel
          by_cases hlt : k < l.length
          · obtain ⟨b, off, rfl, hbb, hc⟩ := (HV.out.on HW.out).keys hlt
            have i1 : (k : Int) < (l.length : Int) := by omega
            have i2 : (0 : Int) ≤ (k : Int) := by omega
            obtain ⟨c0', c1', c2', c3', c4'⟩ := hc k hlt
            have C0 := Lib.hid c0'
            have C1 := Lib.hid c1'
            have C2 := Lib.hid c2'
            have C3 := Lib.hid c3'
            have C4 := Lib.hid c4'
            have HX := Lib.hid (HKY.out s l[k])
            obtain ⟨S, hS⟩ : ∃ S, keyB d s l[k] = S := ⟨_, rfl⟩
            rw [hS] at HX
            have HSS := Lib.hid hS
            clear hc hS c0' c1' c2' c3' c4'
            go_upto_region 10 with (fail)
            refine but_begin (f := 6) (S := fun V => Below wr.heap.size wr V) (by kernel_rfl) ?_
            have hS0n : Below wr.heap.size wr wr.drew := Below.drew1 _
            have hz0n : wr.heap.size ≤ wr.drew.heap.size := Nat.le_refl _
            generalize wr.drew = Udn at *
            refine but_take (f := 6) (i := 0) (v := ?vn0) rfl (by kernel_rfl) (by kernel_rfl) (by kernel_rfl) (by kernel_rfl) (by kernel_rfl) (fun _ _ _ h => h) (Or.inl ⟨(by rfl), ?hyn0⟩) hS0n ?restn0
            case hyn0 =>
              intro W hW
              obtain ⟨x0, x1, x2, x3, x4, x5, x6⟩ := boxP (box_on Q0.out (HW.out.trans (hW.mono HW.out.size)))
              have c0 := (hW.cell (p := ⟨b, off + k * 5, none⟩) hbb).trans C0.out
              have c1 := (hW.cell (p := ⟨b, off + k * 5 + 1, none⟩) hbb).trans C1.out
              have c2 := (hW.cell (p := ⟨b, off + k * 5 + 2, none⟩) hbb).trans C2.out
              have c3 := (hW.cell (p := ⟨b, off + k * 5 + 3, none⟩) hbb).trans C3.out
              have c4 := (hW.cell (p := ⟨b, off + k * 5 + 4, none⟩) hbb).trans C4.out
              go_simp
              exact rfl
            simp only [List.getElem_toArray, List.getElem_cons_succ, List.getElem_cons_zero, Act.put, List.setIfInBounds_toArray, List.set_cons_zero, List.set_cons_succ]
            refine but_take (f := 6) (i := 1) (v := ?vn1) rfl (by kernel_rfl) (by kernel_rfl) (by kernel_rfl) (by kernel_rfl) (by kernel_rfl) (fun _ _ _ h => h) (Or.inl ⟨(by rfl), ?hyn1⟩) hS0n ?restn1
            case hyn1 =>
              intro W hW
              go_simp
              exact rfl
            simp only [List.getElem_toArray, List.getElem_cons_succ, List.getElem_cons_zero, Act.put, List.setIfInBounds_toArray, List.set_cons_zero, List.set_cons_succ]
            refine but_take (f := 6) (i := 2) (v := ?vn2) rfl (by kernel_rfl) (by kernel_rfl) (by kernel_rfl) (by kernel_rfl) (by kernel_rfl) (fun _ _ _ h => h) (Or.inl ⟨(by rfl), ?hyn2⟩) hS0n ?restn2
            case hyn2 =>
              intro W hW
              go_simp
              exact rfl
            simp only [List.getElem_toArray, List.getElem_cons_succ, List.getElem_cons_zero, Act.put, List.setIfInBounds_toArray, List.set_cons_zero, List.set_cons_succ]
            refine but_take (f := 6) (i := 3) (v := ?vn3) rfl (by kernel_rfl) (by kernel_rfl) (by kernel_rfl) (by kernel_rfl) (by kernel_rfl) (fun _ _ _ h => h) (Or.inl ⟨(by rfl), ?hyn3⟩) hS0n ?restn3
            case hyn3 =>
              intro W hW
              go_simp
              exact rfl
            simp only [List.getElem_toArray, List.getElem_cons_succ, List.getElem_cons_zero, Act.put, List.setIfInBounds_toArray, List.set_cons_zero, List.set_cons_succ]
            refine but_take (f := 6) (i := 4) (v := ?vn4) rfl (by kernel_rfl) (by kernel_rfl) (by kernel_rfl) (by kernel_rfl) (by kernel_rfl) (fun _ _ _ h => h) (Or.inl ⟨(by rfl), ?hyn4⟩) hS0n ?restn4
            case hyn4 =>
              intro W hW
              go_simp
              exact rfl
            simp only [List.getElem_toArray, List.getElem_cons_succ, List.getElem_cons_zero, Act.put, List.setIfInBounds_toArray, List.set_cons_zero, List.set_cons_succ]
            refine but_take (f := 6) (i := 5) (v := ?vn5) rfl (by kernel_rfl) (by kernel_rfl) (by kernel_rfl) (by kernel_rfl) (by kernel_rfl) (fun _ _ _ h => h) (Or.inl ⟨(by rfl), ?hyn5⟩) hS0n ?restn5
            case hyn5 =>
              intro W hW
              obtain ⟨x0, x1, x2, x3, x4, x5, x6⟩ := boxP (box_on Q0.out (HW.out.trans (hW.mono HW.out.size)))
              have c0 := (hW.cell (p := ⟨b, off + k * 5, none⟩) hbb).trans C0.out
              have c1 := (hW.cell (p := ⟨b, off + k * 5 + 1, none⟩) hbb).trans C1.out
              have c2 := (hW.cell (p := ⟨b, off + k * 5 + 2, none⟩) hbb).trans C2.out
              have c3 := (hW.cell (p := ⟨b, off + k * 5 + 3, none⟩) hbb).trans C3.out
              have c4 := (hW.cell (p := ⟨b, off + k * 5 + 4, none⟩) hbb).trans C4.out
              go_simp
              exact rfl
            simp only [List.getElem_toArray, List.getElem_cons_succ, List.getElem_cons_zero, Act.put, List.setIfInBounds_toArray, List.set_cons_zero, List.set_cons_succ]
            refine but_run (i := 6) (by kernel_rfl) rfl (by rfl) ?_
            simp only [List.getElem_toArray, List.getElem_cons_succ, List.getElem_cons_zero]
            intro K HK
            go_wp2_with fail
            refine (HX.out _ (bstep (bstep HB.out HW.out) hS0n)).mono ?_
            rintro r Vl ⟨rfl, hbl⟩
            have hSl : Below wr.heap.size wr Vl := bstep (hS0n) hbl
            go_wp2_with fail
            refine HK.out _ _ (fun h => absurd rfl h) ?_
            clear HK
            refine but_done (by kernel_rfl) ?_
            have HWX := Lib.hid (bstep HW.out hSl)
            generalize Vl = WF at *
            cases S
            · have HI2 := Lib.hid (anyP_snoc (p := keyB d s) hlt HI.out HSS.out)
              have hll := HLN.out
              go_wp2
              go_roundw
              case rel =>
                exact ⟨k + 1, by omega, by go_num, HI2, HWX⟩
              case measure =>
                simp [intOf]
                omega
            · have HR : Hid ((r1, r2) = ((s : Int), (k : Int))) := Lib.hid (by
                have hb := HHIT.out s (by omega) (by omega) k hlt HSS.out HU.out HI.out
                rw [HN.out, hb, if_neg (show ¬ ((s : Int), (k : Int)).1 = 0 from by show ¬ (s : Int) = 0; omega)])
              go_wp2
              refine bodyPost_ret (v := .tuple #[.int .i64 s, .int .i64 k]) (by simp [results, Tryz.results7, go_sem]) rfl ⟨by rw [HR.out], bstep HB.out HWX.out⟩
          · have HU2 : Hid (∀ u : Int, 1 ≤ u → u < ((s + 1 : Nat) : Int) → ∀ j (hj : j < l.length), keyB d u l[j] = false) := Lib.hid (fun u h1 h2 j hj => by
              by_cases hu : u < s
              · exact HU.out u h1 hu j hj
              · obtain rfl : u = (s : Int) := by omega
                exact HI.out j (by omega) hj)
            have i1 : ¬ ((k : Int) < (l.length : Int)) := by omega
            go_wp2
            go_roundw
            case rel => exact ⟨s + 1, by omega, by omega, by go_num, HU2, HW⟩
            case measure => simp [intOf]; omega
      · have e0 : decide ((s : Int) ≤ 3) = false := decide_eq_false (by omega)
        have hs4' : s = 4 := by omega
        subst hs4'
        clear e0
        rw [show ((4 : Nat) : Int) = 4 from rfl]
        have e0 : decide ((4 : Int) ≤ 3) = false := by decide
        have HKN := Lib.hid (HNON.out (fun u h1 h2 j hj => HU.out u h1 (by omega) j hj))
        have HN2 : Hid ((r1, r2) = G) := Lib.hid (by rw [HN.out, HKN.out, if_pos rfl])
        go_wp2
        go_loopw [7] (fun i wr' => ∃ k : Nat, k ≤ d.ag.length ∧ i = .int .i64 k ∧ Hid (∀ j (hj : j < k) (hl : j < d.ag.length), cutB d (d.ag[j]).a = false) ∧ Hid (Below w2.heap.size w2 wr')) (fun i _ => d.ag.length - (intOf i).toNat)
        case atStart => exact ⟨0, Nat.zero_le _, rfl, Lib.hid (fun j hj => by omega), HWo⟩
        case round =>
          obtain ⟨k, hk, rfl, HI, HW⟩ := hrel
          obtain ⟨x0, x1, x2, x3, x4, x5, x6⟩ := boxP (box_on Q0.out HW.out)
          by_cases hlt : k < d.ag.length
          · obtain ⟨b, off, rfl, hbb, hc⟩ := (HAV.out.on (bstep HB.out HW.out)).ages hlt
            have i1 : (k : Int) < (d.ag.length : Int) := by omega
            have i2 : (0 : Int) ≤ (k : Int) := by omega
            obtain ⟨c0', c1'⟩ := hc k hlt
            have C0 := Lib.hid c0'
            have HX := Lib.hid (HAG.out (d.ag[k]).a)
            obtain ⟨S, hS⟩ : ∃ S, cutB d (d.ag[k]).a = S := ⟨_, rfl⟩
            rw [hS] at HX
            have HSS := Lib.hid hS
            clear hc hS c0' c1'
            go_upto_region 15 with (fail)
            clear x0 x1 x2 x3 x4 x5 x6
            refine but_begin (f := 7) (S := fun V => Below wr.heap.size wr V) (by kernel_rfl) ?_
            have hS0m : Below wr.heap.size wr wr.drew := Below.drew1 _
            have hz0m : wr.heap.size ≤ wr.drew.heap.size := Nat.le_refl _
            generalize wr.drew = Udm at *
            refine but_take (f := 7) (i := 0) (v := ?vm0) rfl (by kernel_rfl) (by kernel_rfl) (by kernel_rfl) (by kernel_rfl) (by kernel_rfl) (fun _ _ _ h => h) (Or.inl ⟨(by rfl), ?hym0⟩) hS0m ?restm0
            case hym0 =>
              intro W hW
              obtain ⟨x0, x1, x2, x3, x4, x5, x6⟩ := boxP (box_on Q0.out (HW.out.trans (hW.mono HW.out.size)))
              have c0 := (hW.cell (p := ⟨b, off + k * 2, none⟩) hbb).trans C0.out
              go_simp
              exact rfl
            simp only [List.getElem_toArray, List.getElem_cons_succ, List.getElem_cons_zero, Act.put, List.setIfInBounds_toArray, List.set_cons_zero, List.set_cons_succ]
            refine but_take (f := 7) (i := 1) (v := ?vm1) rfl (by kernel_rfl) (by kernel_rfl) (by kernel_rfl) (by kernel_rfl) (by kernel_rfl) (fun _ _ _ h => h) (Or.inl ⟨(by rfl), ?hym1⟩) hS0m ?restm1
            case hym1 =>
              intro W hW
              go_simp
              exact rfl
            simp only [List.getElem_toArray, List.getElem_cons_succ, List.getElem_cons_zero, Act.put, List.setIfInBounds_toArray, List.set_cons_zero, List.set_cons_succ]
            refine but_take (f := 7) (i := 2) (v := ?vm2) rfl (by kernel_rfl) (by kernel_rfl) (by kernel_rfl) (by kernel_rfl) (by kernel_rfl) (fun _ _ _ h => h) (Or.inl ⟨(by rfl), ?hym2⟩) hS0m ?restm2
            case hym2 =>
              intro W hW
              obtain ⟨x0, x1, x2, x3, x4, x5, x6⟩ := boxP (box_on Q0.out (HW.out.trans (hW.mono HW.out.size)))
              have c0 := (hW.cell (p := ⟨b, off + k * 2, none⟩) hbb).trans C0.out
              go_simp
              exact rfl
            simp only [List.getElem_toArray, List.getElem_cons_succ, List.getElem_cons_zero, Act.put, List.setIfInBounds_toArray, List.set_cons_zero, List.set_cons_succ]
            refine but_take (f := 7) (i := 3) (v := ?vm3) rfl (by kernel_rfl) (by kernel_rfl) (by kernel_rfl) (by kernel_rfl) (by kernel_rfl) (fun _ _ _ h => h) (Or.inl ⟨(by rfl), ?hym3⟩) hS0m ?restm3
            case hym3 =>
              intro W hW
              go_simp
              exact rfl
            simp only [List.getElem_toArray, List.getElem_cons_succ, List.getElem_cons_zero, Act.put, List.setIfInBounds_toArray, List.set_cons_zero, List.set_cons_succ]
            refine but_take (f := 7) (i := 4) (v := ?vm4) rfl (by kernel_rfl) (by kernel_rfl) (by kernel_rfl) (by kernel_rfl) (by kernel_rfl) (fun _ _ _ h => h) (Or.inl ⟨(by rfl), ?hym4⟩) hS0m ?restm4
            case hym4 =>
              intro W hW
              go_simp
              exact rfl
            simp only [List.getElem_toArray, List.getElem_cons_succ, List.getElem_cons_zero, Act.put, List.setIfInBounds_toArray, List.set_cons_zero, List.set_cons_succ]
            refine but_take (f := 7) (i := 5) (v := ?vm5) rfl (by kernel_rfl) (by kernel_rfl) (by kernel_rfl) (by kernel_rfl) (by kernel_rfl) (fun _ _ _ h => h) (Or.inl ⟨(by rfl), ?hym5⟩) hS0m ?restm5
            case hym5 =>
              intro W hW
              go_simp
              exact rfl
            simp only [List.getElem_toArray, List.getElem_cons_succ, List.getElem_cons_zero, Act.put, List.setIfInBounds_toArray, List.set_cons_zero, List.set_cons_succ]
            refine but_take (f := 7) (i := 6) (v := ?vm6) rfl (by kernel_rfl) (by kernel_rfl) (by kernel_rfl) (by kernel_rfl) (by kernel_rfl) (fun _ _ _ h => h) (Or.inl ⟨(by rfl), ?hym6⟩) hS0m ?restm6
            case hym6 =>
              intro W hW
              obtain ⟨x0, x1, x2, x3, x4, x5, x6⟩ := boxP (box_on Q0.out (HW.out.trans (hW.mono HW.out.size)))
              have c0 := (hW.cell (p := ⟨b, off + k * 2, none⟩) hbb).trans C0.out
              go_simp
              exact rfl
            simp only [List.getElem_toArray, List.getElem_cons_succ, List.getElem_cons_zero, Act.put, List.setIfInBounds_toArray, List.set_cons_zero, List.set_cons_succ]
            refine but_run (i := 7) (by kernel_rfl) rfl (by rfl) ?_
            simp only [List.getElem_toArray, List.getElem_cons_succ, List.getElem_cons_zero]
            intro K HK
            go_wp2_with fail
            refine (HX.out _ (bstep (bstep HB.out HW.out) hS0m)).mono ?_
            rintro r Vl ⟨rfl, hbl⟩
            have hSl : Below wr.heap.size wr Vl := bstep (hS0m) hbl
            go_wp2_with fail
            refine HK.out _ _ (fun h => absurd rfl h) ?_
            clear HK
            refine but_done (by kernel_rfl) ?_
            have HWX := Lib.hid (bstep HW.out hSl)
            generalize Vl = WF at *
            cases S
            · have HI2 := Lib.hid (anyP_snoc (p := fun a : AgeD => cutB d a.a) hlt HI.out HSS.out)
              go_wp2
              go_roundw
              case rel =>
                exact ⟨k + 1, by omega, by go_num, HI2, HWX⟩
              case measure =>
                simp [intOf]
                omega
            · have HR := Lib.hid (HN2.out.trans (HAH.out k hlt HI.out HSS.out))
              go_wp2
              refine bodyPost_ret (v := .tuple #[.int .i64 4, .int .i64 k]) (by simp [results, Tryz.results7, go_sem]) rfl ⟨by rw [HR.out], bstep HB.out HWX.out⟩
          · have HR := Lib.hid (HN2.out.trans (HAN.out (fun j hl => HI.out j (by omega) hl)))
            have i1 : ¬ ((k : Int) < (d.ag.length : Int)) := by omega
            go_wp2
            refine bodyPost_ret (v := .tuple #[.int .i64 0, .int .i64 0]) (by simp [results, Tryz.results7, go_sem]) rfl ⟨by rw [HR.out], bstep HB.out HW.out⟩
end Go.Proofs.YtpfepcjbhchpcaaGreat
namespace Go.Proofs.YtpfepcjbhchpcaaGreat
open Go.RowKit
set_option maxRecDepth 100000
set_option linter.unusedSimpArgs false
set_option linter.unusedVariables false

set_option maxHeartbeats 4000000 in
theorem exactNextStep_walk (v : Value) (d : PoolD) (w : World) (hv : PoolIs w v d) : Calls Tryz.prog 3 #[v] w fun e w' => e = .returned (.bool true) ∧ Below w.heap.size w w' := by
  obtain ⟨vl, vn, va, vc, vv, rfl, hA, hnm, _⟩ := hv
  obtain ⟨N0, Nc0, N1, Nc1, N2, Nc2, N3, Nc3, N4, Nc4, rfl, rfl, rfl, rfl, rfl⟩ := hA.shape
  have HT := Lib.hid (fun (hs : SmallP d) W b => toPool_any (.slice N0 d.lo.length Nc0) (.slice N1 d.ts.length Nc1) (.slice N2 d.ag.length Nc2) (.slice N3 d.ce.length Nc3) (.slice N4 d.vo.length Nc4) d W (hA.on b) hs)
  have HZ := Lib.hid (fun W b => szPool_any (.slice N0 d.lo.length Nc0) (.slice N1 d.ts.length Nc1) (.slice N2 d.ag.length Nc2) (.slice N3 d.ce.length Nc3) (.slice N4 d.vo.length Nc4) d W (hA.on b) hnm)
  have HSP := Lib.hid (fun (hs : SmallP d) (t : TypeId) (vl vn va vc vv : Value) (W : World) (h : RdP t W W.heap.size vl vn va vc vv d) => specNextStep_any vl vn va vc vv d W h hs hnm)
  have HIM := Lib.hid (fun (hs : SmallP d) (t : TypeId) (vl vn va vc vv : Value) (W : World) (h : RdP t W W.heap.size vl vn va vc vv d) => implNextStep_any vl vn va vc vv d W h hs hnm)
  obtain ⟨n, c, hyc⟩ : ∃ n c, nextK d = (n, c) := ⟨_, _, rfl⟩
  rw [hyc] at HSP HIM
  have hcc : (c != c) = false := by simp
  have hnn : (n != n) = false := by simp
  have BB := Lib.hid (bal1 w (.cells #[.slice N0 d.lo.length Nc0, .slice N1 d.ts.length Nc1, .slice N2 d.ag.length Nc2, .slice N3 d.ce.length Nc3, .slice N4 d.vo.length Nc4, .int .i64 d.nx] 30))
  have QN := Lib.hid (al1 w (.cells #[.slice N0 d.lo.length Nc0, .slice N1 d.ts.length Nc1, .slice N2 d.ag.length Nc2, .slice N3 d.ce.length Nc3, .slice N4 d.vo.length Nc4, .int .i64 d.nx] 30))
  have hWz : Hid ((w.alloc (.cells #[.slice N0 d.lo.length Nc0, .slice N1 d.ts.length Nc1, .slice N2 d.ag.length Nc2, .slice N3 d.ce.length Nc3, .slice N4 d.vo.length Nc4, .int .i64 d.nx] 30)).heap.size = w.heap.size + 1) := Lib.hid (by simp)
  clear hA hnm hyc
  go_enter Tryz.func3, Tryz.ntmps3
  go_upto_region 1 with (fail)
  generalize w.alloc (.cells #[.slice N0 d.lo.length Nc0, .slice N1 d.ts.length Nc1, .slice N2 d.ag.length Nc2, .slice N3 d.ce.length Nc3, .slice N4 d.vo.length Nc4, .int .i64 d.nx] 30) = W at *
  have hWz1 := Nat.le_of_eq hWz.out
  have hWz2 := Nat.le_of_eq hWz.out.symm
  clear hWz
  obtain ⟨Nx0, Nx1, Nx2, Nx3, Nx4, Nx5, Nx6⟩ := boxP QN.out
  go_wp2_with fail
  refine (HZ.out _ BB.out).mono ?_
  clear Nx0 Nx1 Nx2 Nx3 Nx4 Nx5 Nx6
  rintro r w0 ⟨⟨q, rfl, q0, hs⟩ | rfl, b⟩
  · replace QN := Lib.hid (box_on QN.out b)
    replace BB := Lib.hid (bstep BB.out b)
    have z0 := b.size
    have d0 : decide (q < 0) = false := decide_eq_false (by omega)
    have HS := Lib.hid hs
    clear b hs HZ
    obtain ⟨Nx0, Nx1, Nx2, Nx3, Nx4, Nx5, Nx6⟩ := boxP QN.out
    go_wp2_with fail
    refine (HT.out HS.out _ BB.out).mono ?_
    clear Nx0 Nx1 Nx2 Nx3 Nx4 Nx5 Nx6
    rintro r w1 ⟨vlT, vnT, vaT, vcT, vvT, rfl, o, b⟩
    have zT := b.size
    replace QN := Lib.hid (box_on QN.out b)
    replace BB := Lib.hid (bstep BB.out b)
    have OT := Lib.hid o.lt
    clear o b
    obtain ⟨T0, Tc0, T1, Tc1, T2, Tc2, T3, Tc3, T4, Tc4, rfl, rfl, rfl, rfl, rfl⟩ := OT.out.reads.shape
    clear d0
    go_wp2_with fail
    refine (HSP.out HS.out _ _ _ _ _ _ _ OT.out.reads).mono ?_
    rintro r w2 ⟨rfl, b⟩
    have z2 := b.size
    replace OT := Lib.hid (OT.out.on b)
    replace QN := Lib.hid (box_on QN.out b)
    replace BB := Lib.hid (bstep BB.out b)
    clear b
    clear OT
    obtain ⟨Nx0, Nx1, Nx2, Nx3, Nx4, Nx5, Nx6⟩ := boxP QN.out
    go_wp2_with fail
    refine (HT.out HS.out _ BB.out).mono ?_
    clear Nx0 Nx1 Nx2 Nx3 Nx4 Nx5 Nx6
    rintro r w3 ⟨vlX, vnX, vaX, vcX, vvX, rfl, o, b⟩
    have zX := b.size
    replace QN := Lib.hid (box_on QN.out b)
    replace BB := Lib.hid (bstep BB.out b)
    have OX := Lib.hid o.lt
    clear o b
    obtain ⟨X0, Xc0, X1, Xc1, X2, Xc2, X3, Xc3, X4, Xc4, rfl, rfl, rfl, rfl, rfl⟩ := OX.out.reads.shape
    have ba := bal1 w3 (.cells #[.slice X0 d.lo.length Xc0, .slice X1 d.ts.length Xc1, .slice X2 d.ag.length Xc2, .slice X3 d.ce.length Xc3, .slice X4 d.vo.length Xc4, .int .i64 d.nx] 41)
    have QX := Lib.hid (al1 w3 (.cells #[.slice X0 d.lo.length Xc0, .slice X1 d.ts.length Xc1, .slice X2 d.ag.length Xc2, .slice X3 d.ce.length Xc3, .slice X4 d.vo.length Xc4, .int .i64 d.nx] 41))
    have hzX : (w3.alloc (.cells #[.slice X0 d.lo.length Xc0, .slice X1 d.ts.length Xc1, .slice X2 d.ag.length Xc2, .slice X3 d.ce.length Xc3, .slice X4 d.vo.length Xc4, .int .i64 d.nx] 41)).heap.size = w3.heap.size + 1 := by simp
    replace OX := Lib.hid (OX.out.on ba)
    replace QN := Lib.hid (box_on QN.out ba)
    replace BB := Lib.hid (bstep BB.out ba)
    clear ba
    have yX := Lib.hid hzX
    clear hzX
    go_upto_region 7 with (fail)
    generalize w3.alloc (.cells #[.slice X0 d.lo.length Xc0, .slice X1 d.ts.length Xc1, .slice X2 d.ag.length Xc2, .slice X3 d.ce.length Xc3, .slice X4 d.vo.length Xc4, .int .i64 d.nx] 41) = w4 at *
    have xX := Nat.le_of_eq yX.out
    have uX := Nat.le_of_eq yX.out.symm
    clear yX
    obtain ⟨Xx0, Xx1, Xx2, Xx3, Xx4, Xx5, Xx6⟩ := boxP QX.out
    go_wp2_with fail
    refine (HIM.out HS.out _ _ _ _ _ _ _ OX.out.reads).mono ?_
    clear Xx0 Xx1 Xx2 Xx3 Xx4 Xx5 Xx6
    rintro r w5 ⟨rfl, b⟩
    have z5 := b.size
    replace OX := Lib.hid (OX.out.on b)
    replace QN := Lib.hid (box_on QN.out b)
    replace QX := Lib.hid (box_on QX.out b)
    replace BB := Lib.hid (bstep BB.out b)
    clear b
    obtain ⟨Nx0, Nx1, Nx2, Nx3, Nx4, Nx5, Nx6⟩ := boxP QN.out
    obtain ⟨Xx0, Xx1, Xx2, Xx3, Xx4, Xx5, Xx6⟩ := boxP QX.out
    go_upto_region 10 with (fail)
    go_region_held3 (fun V => V.cell? ⟨w.heap.size, 0, none⟩ = some (.slice N0 d.lo.length Nc0) ∧ V.cell? ⟨w.heap.size, 1, none⟩ = some (.slice N1 d.ts.length Nc1) ∧ V.cell? ⟨w.heap.size, 2, none⟩ = some (.slice N2 d.ag.length Nc2) ∧ V.cell? ⟨w.heap.size, 3, none⟩ = some (.slice N3 d.ce.length Nc3) ∧ V.cell? ⟨w.heap.size, 4, none⟩ = some (.slice N4 d.vo.length Nc4) ∧ V.cell? ⟨w.heap.size, 5, none⟩ = some (.int .i64 d.nx) ∧ V.cell? ⟨w3.heap.size, 0, none⟩ = some (.slice X0 d.lo.length Xc0) ∧ V.cell? ⟨w3.heap.size, 1, none⟩ = some (.slice X1 d.ts.length Xc1) ∧ V.cell? ⟨w3.heap.size, 2, none⟩ = some (.slice X2 d.ag.length Xc2) ∧ V.cell? ⟨w3.heap.size, 3, none⟩ = some (.slice X3 d.ce.length Xc3) ∧ V.cell? ⟨w3.heap.size, 4, none⟩ = some (.slice X4 d.vo.length Xc4) ∧ V.cell? ⟨w3.heap.size, 5, none⟩ = some (.int .i64 d.nx))
      (first | with_reducible exact ⟨(boxP (box_on QN.out (bstep (bstep (Below.drew1 _) b1p) b2p))).1, (boxP (box_on QN.out (bstep (bstep (Below.drew1 _) b1p) b2p))).2.1, (boxP (box_on QN.out (bstep (bstep (Below.drew1 _) b1p) b2p))).2.2.1, (boxP (box_on QN.out (bstep (bstep (Below.drew1 _) b1p) b2p))).2.2.2.1, (boxP (box_on QN.out (bstep (bstep (Below.drew1 _) b1p) b2p))).2.2.2.2.1, (boxP (box_on QN.out (bstep (bstep (Below.drew1 _) b1p) b2p))).2.2.2.2.2.1, (boxP (box_on QX.out (bstep (bstep (Below.drew1 _) b1p) b2p))).1, (boxP (box_on QX.out (bstep (bstep (Below.drew1 _) b1p) b2p))).2.1, (boxP (box_on QX.out (bstep (bstep (Below.drew1 _) b1p) b2p))).2.2.1, (boxP (box_on QX.out (bstep (bstep (Below.drew1 _) b1p) b2p))).2.2.2.1, (boxP (box_on QX.out (bstep (bstep (Below.drew1 _) b1p) b2p))).2.2.2.2.1, (boxP (box_on QX.out (bstep (bstep (Below.drew1 _) b1p) b2p))).2.2.2.2.2.1⟩ | with_reducible exact ⟨(boxP (box_on QN.out (bstep (Below.drew1 _) b1p))).1, (boxP (box_on QN.out (bstep (Below.drew1 _) b1p))).2.1, (boxP (box_on QN.out (bstep (Below.drew1 _) b1p))).2.2.1, (boxP (box_on QN.out (bstep (Below.drew1 _) b1p))).2.2.2.1, (boxP (box_on QN.out (bstep (Below.drew1 _) b1p))).2.2.2.2.1, (boxP (box_on QN.out (bstep (Below.drew1 _) b1p))).2.2.2.2.2.1, (boxP (box_on QX.out (bstep (Below.drew1 _) b1p))).1, (boxP (box_on QX.out (bstep (Below.drew1 _) b1p))).2.1, (boxP (box_on QX.out (bstep (Below.drew1 _) b1p))).2.2.1, (boxP (box_on QX.out (bstep (Below.drew1 _) b1p))).2.2.2.1, (boxP (box_on QX.out (bstep (Below.drew1 _) b1p))).2.2.2.2.1, (boxP (box_on QX.out (bstep (Below.drew1 _) b1p))).2.2.2.2.2.1⟩ | with_reducible exact ⟨(boxP (box_on QN.out (Below.drew1 _))).1, (boxP (box_on QN.out (Below.drew1 _))).2.1, (boxP (box_on QN.out (Below.drew1 _))).2.2.1, (boxP (box_on QN.out (Below.drew1 _))).2.2.2.1, (boxP (box_on QN.out (Below.drew1 _))).2.2.2.2.1, (boxP (box_on QN.out (Below.drew1 _))).2.2.2.2.2.1, (boxP (box_on QX.out (Below.drew1 _))).1, (boxP (box_on QX.out (Below.drew1 _))).2.1, (boxP (box_on QX.out (Below.drew1 _))).2.2.1, (boxP (box_on QX.out (Below.drew1 _))).2.2.2.1, (boxP (box_on QX.out (Below.drew1 _))).2.2.2.2.1, (boxP (box_on QX.out (Below.drew1 _))).2.2.2.2.2.1⟩ | exact ⟨Nx0, Nx1, Nx2, Nx3, Nx4, Nx5, Xx0, Xx1, Xx2, Xx3, Xx4, Xx5⟩ | fail)
      (first
        | (go_at_call 10; refine (eqPool_same _ _ _ _ _ _ _ _ _ _ d _ (OX.out.on (bstep (Below.drew1 _) b1p)).reads oop.reads HS.out).mono ?_; rintro r u2p ⟨rfl, b2p⟩)
        | (go_at_call 8; refine (HT.out HS.out _ (bstep BB.out (Below.drew1 _))).mono ?_; rintro r u1p ⟨pl, pn, pa, pc, pw, rfl, oop, b1p⟩; obtain ⟨Y0, Yc0, Y1, Yc1, Y2, Yc2, Y3, Yc3, Y4, Yc4, rfl, rfl, rfl, rfl, rfl⟩ := oop.reads.shape)
        | fail)
    clear Nx0 Nx1 Nx2 Nx3 Nx4 Nx5 Nx6 Xx0 Xx1 Xx2 Xx3 Xx4 Xx5 Xx6
    have b := bstep (bstep (Below.drew1 _) b1p) b2p
    have zq := b.size
    replace BB := Lib.hid (bstep BB.out b)
    clear b b1p b2p oop
    go_wp2
    go_ret
    exact ⟨rfl, BB.out⟩
  · have B1 := Lib.hid (bstep BB.out b)
    clear b
    go_wp2
    go_ret
    exact ⟨rfl, B1.out⟩
end Go.Proofs.YtpfepcjbhchpcaaGreat
