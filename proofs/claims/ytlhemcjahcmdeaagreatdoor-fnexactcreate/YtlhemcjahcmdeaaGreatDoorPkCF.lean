/- Several texts in one: PoolOkI, DoForm, ErrAs, PoolCopy, DoActCreate, PoolSKeys. -/
import Derived.WalkKit
import Derived.LaidEql
import Derived.Stop.Asserts
import Derived.RowKitTokens
import Derived.BigQuiet
import Derived.Test.YtlhemcjahcmdeaaGreatDoorPkCE
namespace Go.Proofs.YtlhemcjahcmdeaaGreatDoor
open Go.RowKit
theorem alP4 (w : World) (o p q r : Obj) : ((((w.alloc o).alloc p).alloc q).alloc r).heap[w.heap.size]? = some o ∧ ((((w.alloc o).alloc p).alloc q).alloc r).heap[w.heap.size + 1]? = some p ∧ ((((w.alloc o).alloc p).alloc q).alloc r).heap[w.heap.size + 1 + 1]? = some q ∧ ((((w.alloc o).alloc p).alloc q).alloc r).heap[w.heap.size + 1 + 1 + 1]? = some r :=
  ⟨box_on (al3 w o p q).1 (bal1 _ _), box_on (al3 w o p q).2.1 (bal1 _ _), box_on (al3 w o p q).2.2 (bal1 _ _), by have := al1 (((w.alloc o).alloc p).alloc q) r; simpa using this⟩
set_option maxRecDepth 100000
set_option linter.unusedSimpArgs false
set_option linter.unusedVariables false

set_option maxHeartbeats 4000000 in
theorem implPoolOk_any {t : TypeId} (vl vn va vc vv : Value) (d : PoolD) (w : World) (h : RdP t w w.heap.size vl vn va vc vv d) (hs : SmallP d) (hnm : ∀ k ∈ d.vo, k.a.size ≤ maxLen) : Calls Tryz.prog 169 #[.agg #[vl, vn, va, vc, vv, .int .i64 d.nx]] w (SaysBool w (poolOkB d)) := by
  have h1 := hs.1
  have h2 := hs.2.1
  have h3 := hs.2.2.1
  have hkl := treeKeys_len d.ts
  have HMO := Lib.hid (fun W b => mappingsOf_any vl vn va vc vv d W (h.on b))
  have HT := Lib.hid (fun W b => implTreeOk_any vl vn d.lo d.ts W (h.1.on b) (by omega) (by omega) (by omega))
  have HA := Lib.hid (fun W b => implAgesOk_any va d.ag W (h.2.1.on b) (by omega))
  have HC := Lib.hid (fun W b => implCellsOk_any vc d.ce W ((h.2.2.1.on b).retype _) (by omega))
  have HN := Lib.hid (fun W b => nextOk_any vl vn va vc vv d W (h.on b) hs)
  have HV := Lib.hid (fun W b => volsOk_any vl vn va vc vv d W (h.on b) hs hnm)
  have HE := Lib.hid (fun W b => agesExist_any vl vn va vc vv d W (h.on b) hs (by omega))
  have HM := Lib.hid (fun W b => cellsMatch_any vl vn va vc vv d W (h.on b) hs (by omega))
  obtain ⟨A0, c0, A1, c1, A2, c2, A3, c3, A4, c4, rfl, rfl, rfl, rfl, rfl⟩ := h.shape
  have HB := Lib.hid (bal1 w (.cells #[.slice A0 d.lo.length c0, .slice A1 d.ts.length c1, .slice A2 d.ag.length c2, .slice A3 d.ce.length c3, .slice A4 d.vo.length c4, .int .i64 d.nx] 32))
  have Q0 := Lib.hid (al1 w (.cells #[.slice A0 d.lo.length c0, .slice A1 d.ts.length c1, .slice A2 d.ag.length c2, .slice A3 d.ce.length c3, .slice A4 d.vo.length c4, .int .i64 d.nx] 32))
  obtain ⟨R, hR⟩ : ∃ R, poolOkB d = R := ⟨_, rfl⟩
  rw [hR]
  obtain ⟨tb, htb⟩ : ∃ b, treeOkB d.lo d.ts = b := ⟨_, rfl⟩
  obtain ⟨ab, hab⟩ : ∃ b, agesOkB d.ag = b := ⟨_, rfl⟩
  obtain ⟨cb, hcb⟩ : ∃ b, celsOkB d.ce = b := ⟨_, rfl⟩
  obtain ⟨nb, hnb⟩ : ∃ b, nextB d = b := ⟨_, rfl⟩
  obtain ⟨vb, hvb⟩ : ∃ b, volsB d = b := ⟨_, rfl⟩
  obtain ⟨eb, heb⟩ : ∃ b, agesB d = b := ⟨_, rfl⟩
  obtain ⟨mb, hmb⟩ : ∃ b, cellsB d = b := ⟨_, rfl⟩
  unfold poolOkB at hR
  rw [htb, hab, hcb, hnb, hvb, heb, hmb] at hR
  rw [htb] at HT
  rw [hab] at HA
  rw [hcb] at HC
  rw [hnb] at HN
  rw [hvb] at HV
  rw [heb] at HE
  rw [hmb] at HM
  have HX := Lib.hid hR.symm
  clear h hs hR hnm h1 h2 h3 hkl htb hab hcb hnb hvb heb hmb
  go_enter Tryz.func169, Tryz.ntmps169
  go_upto_region 1 with (fail)
  generalize w.alloc (.cells #[.slice A0 d.lo.length c0, .slice A1 d.ts.length c1, .slice A2 d.ag.length c2, .slice A3 d.ce.length c3, .slice A4 d.vo.length c4, .int .i64 d.nx] 32) = W at *
  obtain ⟨x0, x1, x2, x3, x4, x5, x6⟩ := boxP Q0.out
  go_wp2_with fail
  refine (HMO.out _ HB.out).mono ?_
  rintro e w1 ⟨rfl, b1⟩
  replace Q0 := Lib.hid (box_on Q0.out b1)
  replace HB := Lib.hid (bstep HB.out b1)
  clear b1 x0 x1 x2 x3 x4 x5 x6
  have b1 := bal1 w1 (.cells #[.slice A0 d.lo.length c0, .slice A1 d.ts.length c1, .slice A2 d.ag.length c2, .slice A3 d.ce.length c3] 201)
  have QM := Lib.hid (al1 w1 (.cells #[.slice A0 d.lo.length c0, .slice A1 d.ts.length c1, .slice A2 d.ag.length c2, .slice A3 d.ce.length c3] 201))
  replace Q0 := Lib.hid (box_on Q0.out b1)
  replace HB := Lib.hid (bstep HB.out b1)
  clear b1
  go_upto_region 2 with (fail)
  generalize w1.alloc (.cells #[.slice A0 d.lo.length c0, .slice A1 d.ts.length c1, .slice A2 d.ag.length c2, .slice A3 d.ce.length c3] 201) = W2 at *
  obtain ⟨x0, x1, x2, x3, x4, x5, x6⟩ := boxP Q0.out
  obtain ⟨y0, y1, y2, y3, y4⟩ := box4 QM.out
  go_wp2_with fail
  refine (HT.out _ HB.out).mono ?_
  rintro e w5 ⟨rfl, b1⟩
  clear x0 x1 x2 x3 x4 x5 x6 y0 y1 y2 y3 y4
  replace Q0 := Lib.hid (box_on Q0.out b1)
  replace QM := Lib.hid (box_on QM.out b1)
  replace HB := Lib.hid (bstep HB.out b1)
  clear b1
  cases tb
  · have HF : Hid (R = false) := Lib.hid (by rw [HX.out]; simp only [Bool.false_and, Bool.and_false, Bool.true_and, Bool.and_true])
    go_wp2
    go_ret
    exact ⟨by rw [HF.out]; rfl, HB.out⟩
  · skip
    obtain ⟨x0, x1, x2, x3, x4, x5, x6⟩ := boxP Q0.out
    obtain ⟨y0, y1, y2, y3, y4⟩ := box4 QM.out
    go_wp2_with fail
    refine (HA.out _ HB.out).mono ?_
    rintro e w6 ⟨rfl, b1⟩
    clear x0 x1 x2 x3 x4 x5 x6 y0 y1 y2 y3 y4
    replace Q0 := Lib.hid (box_on Q0.out b1)
    replace QM := Lib.hid (box_on QM.out b1)
    replace HB := Lib.hid (bstep HB.out b1)
    clear b1
    cases ab
    · have HF : Hid (R = false) := Lib.hid (by rw [HX.out]; simp only [Bool.false_and, Bool.and_false, Bool.true_and, Bool.and_true])
      go_wp2
      go_ret
      exact ⟨by rw [HF.out]; rfl, HB.out⟩
    · skip
      obtain ⟨x0, x1, x2, x3, x4, x5, x6⟩ := boxP Q0.out
      obtain ⟨y0, y1, y2, y3, y4⟩ := box4 QM.out
      go_wp2_with fail
      refine (HC.out _ HB.out).mono ?_
      rintro e w7 ⟨rfl, b1⟩
      clear x0 x1 x2 x3 x4 x5 x6 y0 y1 y2 y3 y4
      replace Q0 := Lib.hid (box_on Q0.out b1)
      replace QM := Lib.hid (box_on QM.out b1)
      replace HB := Lib.hid (bstep HB.out b1)
      clear b1
      cases cb
      · have HF : Hid (R = false) := Lib.hid (by rw [HX.out]; simp only [Bool.false_and, Bool.and_false, Bool.true_and, Bool.and_true])
        go_wp2
        go_ret
        exact ⟨by rw [HF.out]; rfl, HB.out⟩
      · skip
        obtain ⟨x0, x1, x2, x3, x4, x5, x6⟩ := boxP Q0.out
        obtain ⟨y0, y1, y2, y3, y4⟩ := box4 QM.out
        go_wp2_with fail
        refine (HN.out _ HB.out).mono ?_
        rintro e w8 ⟨rfl, b1⟩
        clear x0 x1 x2 x3 x4 x5 x6 y0 y1 y2 y3 y4
        replace Q0 := Lib.hid (box_on Q0.out b1)
        replace QM := Lib.hid (box_on QM.out b1)
        replace HB := Lib.hid (bstep HB.out b1)
        clear b1
        cases nb
        · have HF : Hid (R = false) := Lib.hid (by rw [HX.out]; simp only [Bool.false_and, Bool.and_false, Bool.true_and, Bool.and_true])
          go_wp2
          go_ret
          exact ⟨by rw [HF.out]; rfl, HB.out⟩
        · skip
          obtain ⟨x0, x1, x2, x3, x4, x5, x6⟩ := boxP Q0.out
          obtain ⟨y0, y1, y2, y3, y4⟩ := box4 QM.out
          go_wp2_with fail
          refine (HV.out _ HB.out).mono ?_
          rintro e w9 ⟨rfl, b1⟩
          clear x0 x1 x2 x3 x4 x5 x6 y0 y1 y2 y3 y4
          replace Q0 := Lib.hid (box_on Q0.out b1)
          replace QM := Lib.hid (box_on QM.out b1)
          replace HB := Lib.hid (bstep HB.out b1)
          clear b1
          cases vb
          · have HF : Hid (R = false) := Lib.hid (by rw [HX.out]; simp only [Bool.false_and, Bool.and_false, Bool.true_and, Bool.and_true])
            go_wp2
            go_ret
            exact ⟨by rw [HF.out]; rfl, HB.out⟩
          · skip
            obtain ⟨x0, x1, x2, x3, x4, x5, x6⟩ := boxP Q0.out
            obtain ⟨y0, y1, y2, y3, y4⟩ := box4 QM.out
            go_wp2_with fail
            refine (HE.out _ HB.out).mono ?_
            rintro e w10 ⟨rfl, b1⟩
            clear x0 x1 x2 x3 x4 x5 x6 y0 y1 y2 y3 y4
            replace Q0 := Lib.hid (box_on Q0.out b1)
            replace QM := Lib.hid (box_on QM.out b1)
            replace HB := Lib.hid (bstep HB.out b1)
            clear b1
            cases eb
            · have HF : Hid (R = false) := Lib.hid (by rw [HX.out]; simp only [Bool.false_and, Bool.and_false, Bool.true_and, Bool.and_true])
              go_wp2
              go_ret
              exact ⟨by rw [HF.out]; rfl, HB.out⟩
            · skip
              obtain ⟨x0, x1, x2, x3, x4, x5, x6⟩ := boxP Q0.out
              obtain ⟨y0, y1, y2, y3, y4⟩ := box4 QM.out
              go_wp2_with fail
              refine (HM.out _ HB.out).mono ?_
              rintro e w11 ⟨rfl, b1⟩
              clear x0 x1 x2 x3 x4 x5 x6 y0 y1 y2 y3 y4
              replace Q0 := Lib.hid (box_on Q0.out b1)
              replace QM := Lib.hid (box_on QM.out b1)
              replace HB := Lib.hid (bstep HB.out b1)
              clear b1
              cases mb
              · have HF : Hid (R = false) := Lib.hid (by rw [HX.out]; simp only [Bool.false_and, Bool.and_false, Bool.true_and, Bool.and_true])
                go_wp2
                go_ret
                exact ⟨by rw [HF.out]; rfl, HB.out⟩
              · have HF : Hid (R = true) := Lib.hid (by rw [HX.out]; simp only [Bool.false_and, Bool.and_false, Bool.true_and, Bool.and_true])
                go_wp2
                go_ret
                exact ⟨by rw [HF.out]; rfl, HB.out⟩
end Go.Proofs.YtlhemcjahcmdeaaGreatDoor
namespace Go.Proofs.YtlhemcjahcmdeaaGreatDoor
open Go.RowKit
set_option maxRecDepth 100000
set_option linter.unusedSimpArgs false
set_option linter.unusedVariables false

set_option maxHeartbeats 1000000 in
theorem formOk_any {t : TypeId} (vl vn va vc vv : Value) (d : PoolD) (s : ByteArray) (w : World) (h : RdP t w w.heap.size vl vn va vc vv d) (hs : SmallP d) (hnm : ∀ k ∈ d.vo, k.a.size ≤ maxLen) (hz : s.size ≤ maxLen) :
    Calls Tryz.prog 110 #[.agg #[vl, vn, va, vc, vv, .int .i64 d.nx], .string s] w (SaysBool w (mayB d s)) := by
  have HP := Lib.hid (fun W b => implPoolOk_any vl vn va vc vv d W (h.on b) hs hnm)
  have HN := Lib.hid (fun W => implNameOk_any s W hz)
  obtain ⟨A0, c0, A1, c1, A2, c2, A3, c3, A4, c4, rfl, rfl, rfl, rfl, rfl⟩ := h.shape
  have HB := Lib.hid (bal1 w (.cells #[.slice A0 d.lo.length c0, .slice A1 d.ts.length c1, .slice A2 d.ag.length c2, .slice A3 d.ce.length c3, .slice A4 d.vo.length c4, .int .i64 d.nx] 32))
  have Q0 := Lib.hid (al1 w (.cells #[.slice A0 d.lo.length c0, .slice A1 d.ts.length c1, .slice A2 d.ag.length c2, .slice A3 d.ce.length c3, .slice A4 d.vo.length c4, .int .i64 d.nx] 32))
  obtain ⟨p, hp⟩ : ∃ p, poolOkB d = p := ⟨_, rfl⟩
  obtain ⟨m, hm⟩ : ∃ m, nameOkB s = m := ⟨_, rfl⟩
  rw [hp] at HP
  rw [hm] at HN
  rw [show mayB d s = (p && m) by unfold mayB; rw [hp, hm]]
  clear h hs hnm hz hp hm
  go_enter Tryz.func110, Tryz.ntmps110
  go_upto_region 1 with (fail)
  generalize w.alloc (.cells #[.slice A0 d.lo.length c0, .slice A1 d.ts.length c1, .slice A2 d.ag.length c2, .slice A3 d.ce.length c3, .slice A4 d.vo.length c4, .int .i64 d.nx] 32) = W at *
  obtain ⟨x0, x1, x2, x3, x4, x5, x6⟩ := boxP Q0.out
  go_wp2_with fail
  refine (HP.out _ HB.out).mono ?_
  rintro e w1 ⟨rfl, b1⟩
  have B1 := Lib.hid (bstep HB.out b1)
  clear x0 x1 x2 x3 x4 x5 x6 b1
  cases p
  · go_wp2
    go_ret
    exact ⟨rfl, B1.out⟩
  · go_wp2_with fail
    refine (HN.out _).mono ?_
    rintro e _ ⟨rfl, rfl⟩
    go_wp2
    go_ret
    exact ⟨rfl, B1.out⟩
theorem mayB_name {d : PoolD} {s : ByteArray} (h : mayB d s = true) : nameOkB s = true := by
  unfold mayB at h
  rw [Bool.and_eq_true] at h
  exact h.2
theorem changeK_no {d : PoolD} {s : ByteArray} {f : PoolD → Res} (h : mayB d s = false) : changeK d s f = (d, 1) := by unfold changeK; rw [h]; rfl
theorem changeK_code {d : PoolD} {s : ByteArray} {f : PoolD → Res} (h : mayB d s = true) (hc : (f d).2 ≠ 0) : changeK d s f = (d, (f d).2) := by unfold changeK; rw [h, if_pos rfl, if_neg hc]
theorem changeK_ok {d : PoolD} {s : ByteArray} {f : PoolD → Res} (h : mayB d s = true) (hc : (f d).2 = 0) : (poolOkB (f d).1 = true → changeK d s f = ((f d).1, 0)) ∧ (poolOkB (f d).1 = false → changeK d s f = (d, 6)) := by
  unfold changeK
  rw [h, if_pos rfl, if_pos hc]
  exact ⟨fun h => by rw [h]; rfl, fun h => by rw [h]; rfl⟩
theorem changeK_d {d : PoolD} {s : ByteArray} {f : PoolD → Res} (h : (changeK d s f).2 ≠ 0) : (changeK d s f).1 = d := by
  unfold changeK at h ⊢
  split
  · rename_i h1
    rw [if_pos h1] at h
    split
    · rename_i h2
      rw [if_pos h2] at h
      split
      · rename_i h3
        rw [if_pos h3] at h
        exact absurd rfl h
      · rfl
    · rfl
  · rfl
theorem below_set6 {w w1 : World} {B p : Nat} {u0 u1 u2 u3 u4 u5 : Value} (h : Below B w w1) (hp : B ≤ p) : Below B w ((((((w1.setCell ⟨p, 0, none⟩ u0).setCell ⟨p, 1, none⟩ u1).setCell ⟨p, 2, none⟩ u2).setCell ⟨p, 3, none⟩ u3).setCell ⟨p, 4, none⟩ u4).setCell ⟨p, 5, none⟩ u5) :=
  (((((h.setCell (p := ⟨p, 0, none⟩) hp _).setCell (p := ⟨p, 1, none⟩) hp _).setCell (p := ⟨p, 2, none⟩) hp _).setCell (p := ⟨p, 3, none⟩) hp _).setCell (p := ⟨p, 4, none⟩) hp _).setCell (p := ⟨p, 5, none⟩) hp _
theorem PoolC.set6 {t : TypeId} {w : World} {S : Nat → Prop} {vl vn va vc vv u0 u1 u2 u3 u4 u5 : Value} {d : PoolD} {p : Nat} (h : PoolC t w S vl vn va vc vv d) (hp : ¬ S p) : PoolC t ((((((w.setCell ⟨p, 0, none⟩ u0).setCell ⟨p, 1, none⟩ u1).setCell ⟨p, 2, none⟩ u2).setCell ⟨p, 3, none⟩ u3).setCell ⟨p, 4, none⟩ u4).setCell ⟨p, 5, none⟩ u5) S vl vn va vc vv d :=
  (((((h.setFar hp).setFar hp).setFar hp).setFar hp).setFar hp).setFar hp
theorem changeK_small {d : PoolD} {s : ByteArray} {f : PoolD → Res} (h : SmallP d) : SmallP (changeK d s f).1 := by
  unfold changeK
  split
  · split
    · split
      · rename_i h3
        exact (pool_small h3).1
      · exact h
    · exact h
  · exact h
theorem createD_small {d : PoolD} {s : ByteArray} {n : Int} (hp : poolOkB d = true) (hn : nameOkB s = true) (h : (createD s n d).2 = 0) : SmallP (createD s n d).1 ∧ ∀ k ∈ (createD s n d).1.vo, k.a.size ≤ maxLen := by
  obtain ⟨hs, ha, hvo, hce, _, _, _, hnm, _⟩ := pool_small hp
  have hsz := nameOk_size hn
  unfold createD at h ⊢
  split
  · exact ⟨hs, hnm⟩
  · split
    · split
      · rename_i h3
        cases hok : newOk d.ag d.nx 0
        · rw [ageD_no hok] at h3
          cases h3
        · rw [ageD_yes hok]
          have hl := newK_len d.ag d.nx 0
          have hv := putV_len d.vo ⟨s, d.nx, n, false⟩
          refine ⟨⟨hs.1, ?_, hs.2.2.1, ?_⟩, ?_⟩
          · show (newK d.ag d.nx 0).length ≤ 1048576
            omega
          · show (putV d.vo ⟨s, d.nx, n, false⟩).length ≤ 1048576
            omega
          · intro k hk
            have hk : k ∈ putV d.vo ⟨s, d.nx, n, false⟩ := hk
            unfold putV at hk
            rcases List.mem_append.1 hk with hk | hk
            · exact hnm k (List.takeWhile_subset _ hk)
            · rcases List.mem_cons.1 hk with rfl | hk
              · exact hsz
              · exact hnm k (List.dropWhile_subset _ hk)
      · exact ⟨hs, hnm⟩
    · exact ⟨hs, hnm⟩
end Go.Proofs.YtlhemcjahcmdeaaGreatDoor
namespace Go.Proofs.YtlhemcjahcmdeaaGreatDoor
open Go.RowKit Go.Extern.Stop Go.Stop Go.Extern
set_option maxRecDepth 100000
set_option linter.unusedSimpArgs false
set_option linter.unusedVariables false

/-- The variable of package errors that errors.As reads, as its initialiser lays it. -/
def ErrT (w : World) : Prop := w.cell? ⟨0, 0, none⟩ = some (.iface 253 (.agg #[.pointer (some ⟨1, 76, none⟩)]))
theorem ErrT.size {w : World} (h : ErrT w) : 0 < w.heap.size := by
  rcases Nat.eq_zero_or_pos w.heap.size with h0 | h1
  · unfold ErrT at h
    simp [World.cell?, h0] at h
  · exact h1
theorem ErrT.on {w w' : World} {B : Nat} (h : ErrT w) (hb : Below B w w') (hB : 0 < B) : ErrT w' := by
  unfold ErrT at h ⊢
  rw [← h]
  exact hb.cell (p := ⟨0, 0, none⟩) hB
theorem as_nil (t : Value) (w : World) : Calls Tryz.prog 113 #[.nilIface, t] w fun e w' => e = .returned (.bool false) ∧ w' = w := by
  go_enter Tryz.func113, Tryz.ntmps113
  go_wp2
  go_ret
  exact ⟨rfl, rfl⟩
theorem reValueP (t : Addr) (w : World) : (ReflectliteValue.unpack (.iface 140 (.pointer (some t)))).run Tryz.prog w = .ok (.agg #[.pointer (some ⟨1, 140, none⟩), .pointer (some ⟨w.heap.size, 0, none⟩), .int .u64 150]) (w.alloc (.cells #[.pointer (some t)] 140)) := by kernel_rfl
theorem reTypeP (a : Addr) (w : World) : (ReflectliteValue.methodAny (ReflectliteValue.valueError "reflectlite.Value.Type" 0) (fun t _ _ _ => ReflectliteType.toType t) #[.agg #[.pointer (some ⟨1, 140, none⟩), .pointer (some a), .int .u64 150]]).run Tryz.prog w = .ok (.iface 253 (.agg #[.pointer (some ⟨1, 140, none⟩)])) w := by kernel_rfl
theorem reMKind (h : Value) (w : World) : (Go.method 489 253 (.agg #[h]) "Kind").run Tryz.prog w = .ok (387, h) w := by kernel_rfl
theorem reKindP (w : World) : ((ReflectliteType.abiMethod fun t => (fun a : Nat => Value.int IntKind.u8 (a : Int)) <$> Rtype.kind t) #[.pointer (some ⟨1, 140, none⟩)]).run Tryz.prog w = .ok (.int .u8 22) w := by kernel_rfl
theorem reKindT (w : World) : ((ReflectliteType.abiMethod fun t => (fun a : Nat => Value.int IntKind.u8 (a : Int)) <$> Rtype.kind t) #[.pointer (some ⟨1, 137, none⟩)]).run Tryz.prog w = .ok (.int .u8 25) w := by kernel_rfl
theorem rlm (z : Sem Value) (f : TypeId → Addr → Nat → Nat → Sem Value) (v : Value) : ReflectliteValue.method z f #[v] = (do match ← ReflectliteValue.parts v with | none => z | some (t, a, fl) => f t a fl (fl % 32)) := rfl
theorem rePartsP (a : Addr) (w : World) : (ReflectliteValue.parts (.agg #[.pointer (some ⟨1, 140, none⟩), .pointer (some a), .int .u64 150])).run Tryz.prog w = .ok (some (140, a, 150)) w := by kernel_rfl
theorem reNilP (a p : Addr) (W : World) (ha : W.cell? a = some (.pointer (some p))) :
    (ReflectliteValue.method (ReflectliteValue.valueError "reflectlite.Value.IsNil" 0) ReflectliteValue.isNil #[.agg #[.pointer (some ⟨1, 140, none⟩), .pointer (some a), .int .u64 150]]).run Tryz.prog W = .ok (.bool false) W := by
  rw [rlm]
  simp only [Sem.run_bind, rePartsP, Result.andThen]
  simp [ReflectliteValue.isNil, loadVar, isAgg, underlying, Tryz.underlying140, ha, Result.andThen]
theorem reMElem (h : Value) (w : World) : (Go.method 489 253 (.agg #[h]) "Elem").run Tryz.prog w = .ok (398, .agg #[h]) w := by kernel_rfl
theorem reMImpl (h : Value) (w : World) : (Go.method 489 253 (.agg #[h]) "Implements").run Tryz.prog w = .ok (399, .agg #[h]) w := by kernel_rfl
theorem reMAssign (h : Value) (w : World) : (Go.method 489 253 (.agg #[h]) "AssignableTo").run Tryz.prog w = .ok (396, .agg #[h]) w := by kernel_rfl
theorem reElemP (w : World) : (ReflectliteType.method ReflectliteType.elem #[.agg #[.pointer (some ⟨1, 140, none⟩)]]).run Tryz.prog w = .ok (.iface 253 (.agg #[.pointer (some ⟨1, 137, none⟩)])) w := by kernel_rfl
theorem reImplT (w : World) : (ReflectliteType.relation "Implements" ReflectliteType.implements_ #[.agg #[.pointer (some ⟨1, 137, none⟩)], .iface 253 (.agg #[.pointer (some ⟨1, 76, none⟩)])]).run Tryz.prog w = .ok (.bool true) w := by kernel_rfl
theorem reTypeT (v : Value) (w : World) : (ReflectliteType.typeOf #[.iface 137 v]).run Tryz.prog w = .ok (.iface 253 (.agg #[.pointer (some ⟨1, 137, none⟩)])) w := by kernel_rfl
theorem reAssignT (w : World) : (ReflectliteType.relation "AssignableTo" ReflectliteType.assignableTo #[.agg #[.pointer (some ⟨1, 137, none⟩)], .iface 253 (.agg #[.pointer (some ⟨1, 137, none⟩)])]).run Tryz.prog w = .ok (.bool true) w := by kernel_rfl
theorem reValueT (c : Int) (w : World) : (ReflectliteValue.unpack (.iface 137 (.agg #[.int .i64 c]))).run Tryz.prog w = .ok (.agg #[.pointer (some ⟨1, 137, none⟩), .pointer (some ⟨w.heap.size, 0, none⟩), .int .u64 153]) (w.alloc (.cells #[.int .i64 c] 137)) := by kernel_rfl
theorem reElemOfP (w : World) : (Rtype.elem? 140).run Tryz.prog w = .ok (some 137) w := by kernel_rfl
theorem reMkT (p : Addr) (w : World) : (ReflectliteValue.mk 137 p ReflectliteValue.flagAddr).run Tryz.prog w = .ok (.agg #[.pointer (some ⟨1, 137, none⟩), .pointer (some p), .int .u64 409]) w := by kernel_rfl
theorem reElemVP (a p : Addr) (W : World) (ha : W.cell? a = some (.pointer (some p))) :
    (ReflectliteValue.method (ReflectliteValue.valueError "reflectlite.Value.Elem" 0) ReflectliteValue.elem #[.agg #[.pointer (some ⟨1, 140, none⟩), .pointer (some a), .int .u64 150]]).run Tryz.prog W = .ok (.agg #[.pointer (some ⟨1, 137, none⟩), .pointer (some p), .int .u64 409]) W := by
  rw [rlm]
  simp only [Sem.run_bind, rePartsP, Result.andThen]
  simp [ReflectliteValue.elem, loadVar, isAgg, underlying, Tryz.underlying140, ha, Result.andThen, reElemOfP, reMkT]
theorem rls (v x : Value) : ReflectliteValue.set #[v, x] = (do
    let (some (dst, a, fl), some (src, b, _)) := (← ReflectliteValue.parts v, ← ReflectliteValue.parts x)
      | unsupported (.noEntry "extern/(internal/reflectlite.Value).Set.zeroValue")
    if fl / ReflectliteValue.flagAddr % 2 == 0 then unsupported (.noEntry "extern/(internal/reflectlite.Value).Set.unaddressable")
    let val ← loadVar src b
    if ← Rtype.directlyAssignable dst src then storeVar dst a val
    else if ← Rtype.implements dst src then
      if (← Rtype.kind src) == 20 then
        match val with
        | .nilIface => unsupported (.noEntry "extern/reflectlite: a nil value of one interface type handed on as a value of another")
        | _ => storeVar dst a val
      else storeVar dst a (.iface src val)
    else panicString ("reflectlite.Set: value of type " ++ (← Rtype.spelt src) ++ " is not assignable to type " ++ (← Rtype.spelt dst))
    pure (.tuple #[])) := rfl
theorem rePartsA (a : Addr) (w : World) : (ReflectliteValue.parts (.agg #[.pointer (some ⟨1, 137, none⟩), .pointer (some a), .int .u64 409])).run Tryz.prog w = .ok (some (137, a, 409)) w := by kernel_rfl
theorem rePartsT (a : Addr) (w : World) : (ReflectliteValue.parts (.agg #[.pointer (some ⟨1, 137, none⟩), .pointer (some a), .int .u64 153])).run Tryz.prog w = .ok (some (137, a, 153)) w := by kernel_rfl
theorem reDirect (w : World) : (Rtype.directlyAssignable 137 137).run Tryz.prog w = .ok true w := by kernel_rfl
theorem reSizeT (w : World) : (sizeOf 137).run Tryz.prog w = .ok 1 w := by kernel_rfl
theorem reAggT (w : World) : (isAgg 137).run Tryz.prog w = .ok true w := by kernel_rfl
theorem reLoadT (b : Addr) (c : Int) (W : World) (hb : W.cell? b = some (.int .i64 c)) : (loadVar 137 b).run Tryz.prog W = .ok (.agg #[.int .i64 c]) W := by
  have h := run_loadCells_list (P := Tryz.prog) (w := W) b [.int .i64 c] (fun j v hj => by
    rcases j with _ | j
    · simp at hj
      subst hj
      rw [show b.add 0 = b by simp [Addr.add]]
      exact hb
    · simp at hj)
  unfold loadVar
  simp only [Sem.run_bind, reAggT, Result.andThen, if_true, reSizeT]
  simp only [List.length_singleton] at h
  rw [h]
  rfl
theorem reStoreT (a : Addr) (c : Int) (old : Value) (W : World) (ht : W.cell? a = some old) (hf : W.frozen? a = false) : (storeVar 137 a (.agg #[.int .i64 c])).run Tryz.prog W = .ok () (W.setCell a (.int .i64 c)) := by
  unfold storeVar
  simp only [Sem.run_bind, reSizeT, Result.andThen]
  rw [if_neg (fun h => h rfl)]
  simp [Value.cells, storeCells, Addr.add]
  rw [run_store Tryz.prog W a _ _ (by rfl)]
  simp [ht, hf]
theorem reSetT (ta b : Addr) (c : Int) (old : Value) (W : World) (hb : W.cell? b = some (.int .i64 c)) (ht : W.cell? ta = some old) (hf : W.frozen? ta = false) :
    (ReflectliteValue.set #[.agg #[.pointer (some ⟨1, 137, none⟩), .pointer (some ta), .int .u64 409], .agg #[.pointer (some ⟨1, 137, none⟩), .pointer (some b), .int .u64 153]]).run Tryz.prog W = .ok (.tuple #[]) (W.setCell ta (.int .i64 c)) := by
  rw [rls]
  simp only [Sem.run_bind, rePartsA, rePartsT, Result.andThen]
  simp [ReflectliteValue.flagAddr, reLoadT b c W hb, reStoreT ta c old W ht hf, Result.andThen, reDirect]
set_option maxHeartbeats 4000000 in
theorem as_hit (c : Int) (t : Addr) (old : Value) (w : World) (hg : ErrT w) (ht0 : w.cell? t = some old) (hf0 : w.frozen? t = false) :
    Calls Tryz.prog 113 #[.iface 137 (.agg #[.int .i64 c]), .iface 140 (.pointer (some t))] w fun ev w' => ev = .returned (.bool true) ∧ w' = ((((w.alloc (.cells #[.pointer (some t)] 140)).alloc (.cells #[.pointer (some ⟨1, 140, none⟩), .pointer (some ⟨w.heap.size, 0, none⟩), .int .u64 150] 207)).alloc (.cells #[.pointer (some ⟨1, 140, none⟩), .pointer (some ⟨w.heap.size, 0, none⟩), .int .u64 150] 207)).alloc (.cells #[.int .i64 c] 137)).setCell t (.int .i64 c) := by
  unfold ErrT at hg
  have h6 := @run_callFunc_extern Tryz.prog 172 _ (fun args => ReflectliteValue.unpack (args.getD 0 (.tuple #[]))) Tryz.func172 (by kernel_rfl) (by kernel_rfl) (by kernel_rfl) (by kernel_rfl)
  have h7 := @run_callFunc_extern Tryz.prog 173 _ (ReflectliteValue.methodAny (ReflectliteValue.valueError "reflectlite.Value.Type" 0) (fun t _ _ _ => ReflectliteType.toType t)) Tryz.func173 (by kernel_rfl) (by kernel_rfl) (by kernel_rfl) (by kernel_rfl)
  have h8 := @run_callFunc_extern Tryz.prog 174 _ (ReflectliteValue.method (ReflectliteValue.valueError "reflectlite.Value.IsNil" 0) ReflectliteValue.isNil) Tryz.func174 (by kernel_rfl) (by kernel_rfl) (by kernel_rfl) (by kernel_rfl)
  have h27 := @run_callFunc_extern Tryz.prog 387 _ (ReflectliteType.abiMethod fun t => do pure (.int .u8 (← Rtype.kind t))) Tryz.func387 (by kernel_rfl) (by kernel_rfl) (by kernel_rfl) (by kernel_rfl)
  have h37 := @run_callFunc_extern Tryz.prog 398 _ (ReflectliteType.method ReflectliteType.elem) Tryz.func398 (by kernel_rfl) (by kernel_rfl) (by kernel_rfl) (by kernel_rfl)
  have h38 := @run_callFunc_extern Tryz.prog 399 _ (ReflectliteType.relation "Implements" ReflectliteType.implements_) Tryz.func399 (by kernel_rfl) (by kernel_rfl) (by kernel_rfl) (by kernel_rfl)
  have h10 := @run_callFunc_extern Tryz.prog 229 _ ReflectliteType.typeOf Tryz.func229 (by kernel_rfl) (by kernel_rfl) (by kernel_rfl) (by kernel_rfl)
  have h35 := @run_callFunc_extern Tryz.prog 396 _ (ReflectliteType.relation "AssignableTo" ReflectliteType.assignableTo) Tryz.func396 (by kernel_rfl) (by kernel_rfl) (by kernel_rfl) (by kernel_rfl)
  have h11 := @run_callFunc_extern Tryz.prog 230 _ (ReflectliteValue.method (ReflectliteValue.valueError "reflectlite.Value.Elem" 0) ReflectliteValue.elem) Tryz.func230 (by kernel_rfl) (by kernel_rfl) (by kernel_rfl) (by kernel_rfl)
  have h12 := @run_callFunc_extern Tryz.prog 231 _ ReflectliteValue.set Tryz.func231 (by kernel_rfl) (by kernel_rfl) (by kernel_rfl) (by kernel_rfl)
  have tO := reTypeT
  have mA := reMAssign
  have a25 := reAssignT
  have v25 := reValueT
  have f6 := reValueP
  have f7 := reTypeP
  have mK := reMKind
  have mE := reMElem
  have mI := reMImpl
  have k27 := reKindP
  have k25 := reKindT
  have e27 := reElemP
  have i25 := reImplT
  have n8 := reNilP ⟨w.heap.size, 0, none⟩ t ((w.alloc (.cells #[.pointer (some t)] 140)).alloc (.cells #[.pointer (some ⟨1, 140, none⟩), .pointer (some ⟨w.heap.size, 0, none⟩), .int .u64 150] 207)) (by simp)
  have hlt : 0 < w.heap.size := ErrT.size hg
  have hg2 : ((w.alloc (.cells #[.pointer (some t)] 140)).alloc (.cells #[.pointer (some ⟨1, 140, none⟩), .pointer (some ⟨w.heap.size, 0, none⟩), .int .u64 150] 207)).cell? ⟨0, 0, none⟩ = some (.iface 253 (.agg #[.pointer (some ⟨1, 76, none⟩)])) := by
    rw [World.cell?_alloc_lt _ _ ⟨0, 0, none⟩ (by simp), World.cell?_alloc_lt _ _ ⟨0, 0, none⟩ hlt]; exact hg
  have htl : t.block < w.heap.size := by
    rcases Nat.lt_or_ge t.block w.heap.size with h | h
    · exact h
    · simp [World.cell?, Array.getElem?_eq_none h] at ht0
  have el := reElemVP ⟨w.heap.size, 0, none⟩ t (((w.alloc (.cells #[.pointer (some t)] 140)).alloc (.cells #[.pointer (some ⟨1, 140, none⟩), .pointer (some ⟨w.heap.size, 0, none⟩), .int .u64 150] 207)).alloc (.cells #[.pointer (some ⟨1, 140, none⟩), .pointer (some ⟨w.heap.size, 0, none⟩), .int .u64 150] 207)) (by rw [World.cell?_alloc_lt _ _ ⟨w.heap.size, 0, none⟩ (by simp; omega)]; simp)
  have st := reSetT t ⟨w.heap.size + 1 + 1 + 1, 0, none⟩ c old ((((w.alloc (.cells #[.pointer (some t)] 140)).alloc (.cells #[.pointer (some ⟨1, 140, none⟩), .pointer (some ⟨w.heap.size, 0, none⟩), .int .u64 150] 207)).alloc (.cells #[.pointer (some ⟨1, 140, none⟩), .pointer (some ⟨w.heap.size, 0, none⟩), .int .u64 150] 207)).alloc (.cells #[.int .i64 c] 137))
    (by rw [World.cell?_alloc_at _ _ _ _ (by simp)]; rfl)
    (by rw [World.cell?_alloc_lt _ _ t (by simp; omega), World.cell?_alloc_lt _ _ t (by simp; omega), World.cell?_alloc_lt _ _ t (by simp; omega), World.cell?_alloc_lt _ _ t htl]; exact ht0)
    (by rw [World.frozen?_alloc_old _ _ t (by simp; omega), World.frozen?_alloc_old _ _ t (by simp; omega), World.frozen?_alloc_old _ _ t (by simp; omega), World.frozen?_alloc_old _ _ t (Nat.ne_of_lt htl)]; exact hf0)
  go_enter Tryz.func113, Tryz.ntmps113
  go_wp2
  refine wp_loop_rounds 1 ?_
  rw [rounds_succ]
  go_wp2
  go_ret
  exact ⟨rfl, rfl⟩
/-- impl.codeOf: the code that the error bears. -/
theorem codeOf_any (c : Int) (w : World) (hg : ErrT w) : Calls Tryz.prog 46 #[errV c] w fun e w' => e = .returned (.int .i64 c) ∧ Below w.heap.size w w' := by
  have HB := Lib.hid (bal1 w (.cells #[.int .i64 0] 137))
  have hz := hg.size
  by_cases h0 : c = 0
  · subst h0
    rw [show errV 0 = .nilIface from rfl]
    clear hg hz
    go_enter Tryz.func46, Tryz.ntmps46
    go_wp2_with (go_at_call 113; refine (as_nil _ _).mono ?_; rintro e w' ⟨rfl, rfl⟩)
    go_ret
    exact ⟨rfl, HB.out⟩
  · rw [show errV c = .iface 137 (.agg #[.int .i64 c]) from if_neg h0]
    have HA := as_hit c ⟨w.heap.size, 0, none⟩ (.int .i64 0) (w.alloc (.cells #[.int .i64 0] 137)) (hg.on HB.out hz) (by simp) (by simp)
    clear hg hz h0
    go_enter Tryz.func46, Tryz.ntmps46
    go_wp2_with (go_at_call 113; refine HA.mono ?_; rintro e w' ⟨rfl, rfl⟩)
    go_ret
    refine ⟨rfl, ?_⟩
    exact bstep (bal1 _ _) (bal4 _ _ _ _ _)
end Go.Proofs.YtlhemcjahcmdeaaGreatDoor
namespace Go.Proofs.YtlhemcjahcmdeaaGreatDoor
open Go.RowKit
set_option maxRecDepth 100000
set_option linter.unusedSimpArgs false
set_option linter.unusedVariables false

theorem cloneV_any (v : Value) (l : List VolD) (w : World) (hv : Reads w w.heap.size v (volsD l)) (hn : l.length ≤ 2097152) : Calls Tryz.prog 179 #[v] w (NewVol w l) := by
  obtain ⟨A, c, rfl, _, _⟩ := hv.shapeVol
  have hA := Reads.atVol hv
  rcases A with _ | ad
  · have h0 : l = [] := by
      rcases hA with h | ⟨b, off, h, _⟩
      · have := congrArg List.length h
        rw [volvl_len] at this
        exact List.length_eq_zero_iff.1 (by simp at this; omega)
      · cases h
    subst h0
    have hq := run_eqnil (P := Tryz.prog) w 30 41 none 0 c Tryz.underlying30
    clear hA hv
    go_enter Tryz.func179, Tryz.ntmps179
    go_wp2
    go_ret
    exact ⟨_, rfl, row_nil _ _ _ _, Below.refl _ _⟩
  · have HA := Lib.hid (hA.on (bal1 w (.cells #[] 41)))
    have ho0 := RowVol.lit w
    have HB := Lib.hid (bal1 w (.cells #[] 41))
    have HZ := Lib.hid HB.out.size
    have hq := run_eqnil (P := Tryz.prog) w 30 41 (some ad) l.length c Tryz.underlying30
    clear hA hv
    go_enter Tryz.func179, Tryz.ntmps179
    go_wp2_with (at_builtin; refine wpList_appVol _ rfl (.tmp 5) (.tmp 6) rfl w.heap.size _ [] rfl ho0 (some ad) l.length c l rfl rfl HA.out (by simp; omega) HZ.out ?_; intro v1 w1 o1 b1; clear ho0)
    have B1 := Lib.hid (HB.out.trans b1)
    rw [List.nil_append] at o1
    go_ret
    exact ⟨v1, rfl, o1, B1.out⟩
set_option maxHeartbeats 4000000 in
theorem copyPool_any {t : TypeId} (vl vn va vc vv : Value) (d : PoolD) (w : World) (h : RdP t w w.heap.size vl vn va vc vv d) (hs : SmallP d) : Calls Tryz.prog 114 #[.agg #[vl, vn, va, vc, vv, .int .i64 d.nx]] w (NewP 110 w d) := by
  have s2 := hs.2.1
  have s3 := hs.2.2.1
  have s4 := hs.2.2.2
  have HT := Lib.hid (fun W b => copyTree_any vl vn d.lo d.ts W (h.1.on b) hs.t)
  have HA := Lib.hid (fun W b => cloneG_any va d.ag W (h.2.1.on b) (by omega))
  have HC := Lib.hid (fun W b => cloneC_any vc d.ce W ((h.2.2.1.on b).retype _) (by omega))
  have HV := Lib.hid (fun W b => cloneV_any vv d.vo W (h.2.2.2.on b) (by omega))
  obtain ⟨A0, c0, A1, c1, A2, c2, A3, c3, A4, c4, rfl, rfl, rfl, rfl, rfl⟩ := h.shape
  obtain ⟨q0, q1⟩ := al2 w (.cells #[.slice A0 d.lo.length c0, .slice A1 d.ts.length c1, .slice A2 d.ag.length c2, .slice A3 d.ce.length c3, .slice A4 d.vo.length c4, .int .i64 d.nx] 32) (.cells #[.slice none 0 0, .slice none 0 0, .slice none 0 0, .slice none 0 0, .slice none 0 0, .int .i64 0] 32)
  have Q0 := Lib.hid q0
  have Q1 := Lib.hid q1
  have HB := Lib.hid (bal2 w (.cells #[.slice A0 d.lo.length c0, .slice A1 d.ts.length c1, .slice A2 d.ag.length c2, .slice A3 d.ce.length c3, .slice A4 d.vo.length c4, .int .i64 d.nx] 32) (.cells #[.slice none 0 0, .slice none 0 0, .slice none 0 0, .slice none 0 0, .slice none 0 0, .int .i64 0] 32))
  have HZ : Hid (((w.alloc (.cells #[.slice A0 d.lo.length c0, .slice A1 d.ts.length c1, .slice A2 d.ag.length c2, .slice A3 d.ce.length c3, .slice A4 d.vo.length c4, .int .i64 d.nx] 32)).alloc (.cells #[.slice none 0 0, .slice none 0 0, .slice none 0 0, .slice none 0 0, .slice none 0 0, .int .i64 0] 32)).heap.size = w.heap.size + 2) := Lib.hid (by simp)
  clear h hs q0 q1 s2 s3 s4
  go_enter Tryz.func114, Tryz.ntmps114
  go_upto_region 1 with (fail)
  generalize (w.alloc (.cells #[.slice A0 d.lo.length c0, .slice A1 d.ts.length c1, .slice A2 d.ag.length c2, .slice A3 d.ce.length c3, .slice A4 d.vo.length c4, .int .i64 d.nx] 32)).alloc (.cells #[.slice none 0 0, .slice none 0 0, .slice none 0 0, .slice none 0 0, .slice none 0 0, .int .i64 0] 32) = wb at *
  refine but_begin (f := 15) (S := fun V => Below wb.drew.heap.size wb.drew V) (by kernel_rfl) ?_
  refine bt (f := 15) (i := 0) (v := ?vc0) rfl (Or.inl ⟨(by rfl), ?hyc0⟩) (Below.refl _ _) ?restc0
  case hyc0 => intro W hW; go_simp; exact rfl
  simp only [zA, zB, zC, Act.put, zD, zE, zF]
  refine bt (f := 15) (i := 1) (v := ?vc1) rfl (Or.inl ⟨(by rfl), ?hyc1⟩) (Below.refl _ _) ?restc1
  case hyc1 =>
    intro W hW
    have hb0 : Below wb.heap.size wb W := bstep (Below.drew1 _) hW
    obtain ⟨x0, x1, x2, x3, x4, x5, x6⟩ := boxP (box_on Q0.out hb0)
    go_simp
    exact rfl
  simp only [zA, zB, zC, Act.put, zD, zE, zF]
  refine bt (f := 15) (i := 3) (v := ?vc3) rfl (Or.inl ⟨(by rfl), ?hyc3⟩) (Below.refl _ _) ?restc3
  case hyc3 => intro W hW; go_simp; exact rfl
  simp only [zA, zB, zC, Act.put, zD, zE, zF]
  refine bt (f := 15) (i := 4) (v := ?vc4) rfl (Or.inl ⟨(by rfl), ?hyc4⟩) (Below.refl _ _) ?restc4
  case hyc4 =>
    intro W hW
    have hb0 : Below wb.heap.size wb W := bstep (Below.drew1 _) hW
    obtain ⟨x0, x1, x2, x3, x4, x5, x6⟩ := boxP (box_on Q0.out hb0)
    go_simp
    exact rfl
  simp only [zA, zB, zC, Act.put, zD, zE, zF]
  refine bt (f := 15) (i := 6) (v := ?vc6) rfl (Or.inl ⟨(by rfl), ?hyc6⟩) (Below.refl _ _) ?restc6
  case hyc6 => intro W hW; go_simp; exact rfl
  simp only [zA, zB, zC, Act.put, zD, zE, zF]
  refine bt (f := 15) (i := 7) (v := ?vc7) rfl (Or.inl ⟨(by rfl), ?hyc7⟩) (Below.refl _ _) ?restc7
  case hyc7 =>
    intro W hW
    have hb0 : Below wb.heap.size wb W := bstep (Below.drew1 _) hW
    obtain ⟨x0, x1, x2, x3, x4, x5, x6⟩ := boxP (box_on Q0.out hb0)
    go_simp
    exact rfl
  simp only [zA, zB, zC, Act.put, zD, zE, zF]
  refine bt (f := 15) (i := 9) (v := ?vc9) rfl (Or.inl ⟨(by rfl), ?hyc9⟩) (Below.refl _ _) ?restc9
  case hyc9 => intro W hW; go_simp; exact rfl
  simp only [zA, zB, zC, Act.put, zD, zE, zF]
  refine bt (f := 15) (i := 10) (v := ?vc10) rfl (Or.inl ⟨(by rfl), ?hyc10⟩) (Below.refl _ _) ?restc10
  case hyc10 =>
    intro W hW
    have hb0 : Below wb.heap.size wb W := bstep (Below.drew1 _) hW
    obtain ⟨x0, x1, x2, x3, x4, x5, x6⟩ := boxP (box_on Q0.out hb0)
    go_simp
    exact rfl
  simp only [zA, zB, zC, Act.put, zD, zE, zF]
  refine bt (f := 15) (i := 12) (v := ?vc12) rfl (Or.inl ⟨(by rfl), ?hyc12⟩) (Below.refl _ _) ?restc12
  case hyc12 => intro W hW; go_simp; exact rfl
  simp only [zA, zB, zC, Act.put, zD, zE, zF]
  refine bt (f := 15) (i := 13) (v := ?vc13) rfl (Or.inl ⟨(by rfl), ?hyc13⟩) (Below.refl _ _) ?restc13
  case hyc13 =>
    intro W hW
    have hb0 : Below wb.heap.size wb W := bstep (Below.drew1 _) hW
    obtain ⟨x0, x1, x2, x3, x4, x5, x6⟩ := boxP (box_on Q0.out hb0)
    go_simp
    exact rfl
  simp only [zA, zB, zC, Act.put, zD, zE, zF]
  refine but_run (i := 2) (by kernel_rfl) rfl (by rfl) ?_
  simp only [zA, zB, zC]
  intro K HK
  go_wp2_with fail
  refine (HT.out _ (bstep HB.out (bstep (Below.drew1 _) (Below.refl _ _)))).mono ?_
  rintro r Vc1 ⟨vl1, vn1, rfl, o1, hBc1⟩
  obtain ⟨B0, e0, B1, e1, rfl, rfl⟩ := o1.reads.shape
  have hSc1 := bstep (Below.refl _ _) hBc1
  go_wp2_with fail
  refine HK.out _ Vc1 (fun _ => hSc1) ?_
  clear HK
  refine but_run (i := 5) (by kernel_rfl) rfl (by rfl) ?_
  simp only [zA, zB, zC]
  intro K HK
  go_wp2_with fail
  refine (HA.out _ (bstep HB.out (bstep (Below.drew1 _) hSc1))).mono ?_
  rintro r Vc2 ⟨va1, rfl, o2, hBc2⟩
  obtain ⟨B2, e2, rfl, _, _⟩ := o2.shape
  have hSc2 := bstep hSc1 hBc2
  go_wp2_with fail
  refine HK.out _ Vc2 (fun _ => hSc2) ?_
  clear HK
  refine but_run (i := 8) (by kernel_rfl) rfl (by rfl) ?_
  simp only [zA, zB, zC]
  intro K HK
  go_wp2_with fail
  refine (HC.out _ (bstep HB.out (bstep (Below.drew1 _) hSc2))).mono ?_
  rintro r Vc3 ⟨vc1, rfl, o3, hBc3⟩
  obtain ⟨B3, e3, rfl, _, _⟩ := o3.shape
  have hSc3 := bstep hSc2 hBc3
  go_wp2_with fail
  refine HK.out _ Vc3 (fun _ => hSc3) ?_
  clear HK
  refine but_run (i := 11) (by kernel_rfl) rfl (by rfl) ?_
  simp only [zA, zB, zC]
  intro K HK
  go_wp2_with fail
  refine (HV.out _ (bstep HB.out (bstep (Below.drew1 _) hSc3))).mono ?_
  rintro r Vc4 ⟨vv1, rfl, o4, hBc4⟩
  obtain ⟨B4, e4, rfl, _, _⟩ := o4.shape
  have hSc4 := bstep hSc3 hBc4
  go_wp2_with fail
  refine HK.out _ Vc4 (fun _ => hSc4) ?_
  clear HK
  refine bt (f := 15) (i := 14) (v := ?vc14) rfl (Or.inl ⟨(by rfl), ?hyc14⟩) hSc4 ?restc14
  case hyc14 => intro W hW; go_simp; exact rfl
  simp only [zA, zB, zC, Act.put, zD, zE, zF]
  refine but_run (i := 15) (by kernel_rfl) rfl (by rfl) ?_
  simp only [zA, zB, zC]
  intro K HK
  have BV := Lib.hid (bstep (Below.drew1 _) hSc4)
  obtain ⟨z0, z1, z2, z3, z4, z5, z6⟩ := boxP (box_on Q1.out BV.out)
  go_wp2_with fail
  refine HK.out _ _ (fun h => absurd rfl h) ?_
  clear HK
  refine but_done (by kernel_rfl) ?_
  have hz := HZ.out
  have hz0 : wb.drew.heap.size = wb.heap.size := rfl
  have hz1 := hBc1.size
  have hz2 := hBc2.size
  have hz3 := hBc3.size
  have hz4 := hBc4.size
  have P1 := ((o1.c.lt.on hBc2).on hBc3).on hBc4
  have P2 := (o2.owns.lt.on hBc3).on hBc4
  have P3 := o3.owns.lt.on hBc4
  have P4 := o4.owns
  have PB := Lib.hid (HB.out.trans (BV.out.mono HB.out.size))
  clear o1 o2 o3 o4 hBc1 hBc2 hBc3 hBc4
  go_wp2
  have HO : ∀ a0 a1 a2 a3 a4 a5, Only (Mid w.heap.size (w.heap.size + 2)) Vc4 ((((((Vc4.setCell ⟨w.heap.size + 1, 0, none⟩ a0).setCell ⟨w.heap.size + 1, 1, none⟩ a1).setCell ⟨w.heap.size + 1, 2, none⟩ a2).setCell ⟨w.heap.size + 1, 3, none⟩ a3).setCell ⟨w.heap.size + 1, 4, none⟩ a4).setCell ⟨w.heap.size + 1, 5, none⟩ a5) := fun a0 a1 a2 a3 a4 a5 => ((((((Only.refl _ _).setCell (.mk (by omega) (by omega)) _).setCell (.mk (by omega) (by omega)) _).setCell (.mk (by omega) (by omega)) _).setCell (.mk (by omega) (by omega)) _).setCell (.mk (by omega) (by omega)) _).setCell (.mk (by omega) (by omega)) _
  refine bodyPost_ret (v := .agg #[.slice B0 d.lo.length e0, .slice B1 d.ts.length e1, .slice B2 d.ag.length e2, .slice B3 d.ce.length e3, .slice B4 d.vo.length e4, .int .i64 d.nx]) (by simp [results, Tryz.results114, go_sem, z0, z1, z2, z3, z4, z5, z6]) rfl ⟨_, _, _, _, _, rfl, ⟨fun b => wb.drew.heap.size ≤ b ∧ b < Vc1.heap.size, fun b => Vc1.heap.size ≤ b ∧ b < Vc2.heap.size, fun b => Vc2.heap.size ≤ b ∧ b < Vc3.heap.size, fun b => Vc3.heap.size ≤ b, fun b hb => by have := hb.1; omega, fun b hb => by have := hb.1; omega, fun b hb => by have := hb.1; omega, fun b hb => by omega, fun b hb => ⟨fun h => by have := hb.2; have := h.1; omega, fun h => by have := hb.2; have := h.1; omega, fun h => by have := hb.2; omega⟩, fun b hb => ⟨fun h => by have := hb.2; have := h.1; omega, fun h => by have := hb.2; omega⟩, fun b hb h => by have := hb.2; omega, ?_, ?_, ?_, ?_⟩, bpast PB.out (HO _ _ _ _ _ _)⟩
  · exact P1.far (HO _ _ _ _ _ _) (fun b hb _ hb' => by have := hb'.2; have := hb.1; omega)
  · exact P2.far (HO _ _ _ _ _ _) (fun b hb _ hb' => by have := hb'.2; have := hb.1; omega)
  · exact P3.far (HO _ _ _ _ _ _) (fun b hb _ hb' => by have := hb'.2; have := hb.1; omega)
  · exact P4.far (HO _ _ _ _ _ _) (fun b hb _ hb' => by have := hb'.2; omega)
end Go.Proofs.YtlhemcjahcmdeaaGreatDoor
namespace Go.Proofs.YtlhemcjahcmdeaaGreatDoor
open Go.RowKit
set_option maxRecDepth 100000
set_option linter.unusedSimpArgs false
set_option linter.unusedVariables false

set_option maxHeartbeats 1000000 in
theorem cloCreate_any {t : TypeId} (vl vn va vc vv : Value) (d : PoolD) (s : ByteArray) (n : Int) (q : Nat) (S : Nat → Prop) (ps pn : Nat) (w : World) (hq : w.heap[q]? = some (POOLB vl vn va vc vv d.nx)) (hC : PoolC t w S vl vn va vc vv d) (hS : ¬ S q) (hp : poolOkB d = true) (kps : w.heap[ps]? = some (.cells #[.string s] 9 (0, 0))) (kpn : w.heap[pn]? = some (.cells #[.int .i64 n] 3 (0, 0))) :
    Calls Tryz.prog 58 #[.pointer (some ⟨q, 0, none⟩), .pointer (some ⟨ps, 0, none⟩), .pointer (some ⟨pn, 0, none⟩)] w (DidP w q S (createD s n d)) := by
  have HX := Lib.hid (create_any vl vn va vc vv d s n q S w hq hC hS hp)
  obtain ⟨xs, _⟩ := box1N kps
  obtain ⟨xn, _⟩ := box1N kpn
  clear hq hC hS hp kps kpn
  go_enter Tryz.func58, Tryz.ntmps58
  go_wp2_with fail
  refine HX.out.mono ?_
  rintro r w1 ⟨rfl, h2⟩
  have H2 := Lib.hid h2
  clear h2
  go_wp2
  go_ret
  exact ⟨rfl, H2.out⟩
set_option maxHeartbeats 2000000 in
theorem tryCreate_any {t : TypeId} (vl vn va vc vv : Value) (d : PoolD) (s : ByteArray) (n : Int) (q : Nat) (S : Nat → Prop) (ps pn : Nat) (w : World) (hq : w.heap[q]? = some (POOLB vl vn va vc vv d.nx)) (hC : PoolC t w S vl vn va vc vv d) (hS : ¬ S q) (hs : SmallP d) (hnm : ∀ k ∈ d.vo, k.a.size ≤ maxLen) (hz : s.size ≤ maxLen) (kps : w.heap[ps]? = some (.cells #[.string s] 9 (0, 0))) (kpn : w.heap[pn]? = some (.cells #[.int .i64 n] 3 (0, 0))) (hr : poolOkB d = true → nameOkB s = true → (createD s n d).2 = 0 → SmallP (createD s n d).1 ∧ ∀ k ∈ (createD s n d).1.vo, k.a.size ≤ maxLen) :
    Calls Tryz.prog 115 #[.pointer (some ⟨q, 0, none⟩), .string s, (.func (.func 58) #[] #[.pointer (some ⟨ps, 0, none⟩), .pointer (some ⟨pn, 0, none⟩)])] w (DidP w q S (changeK d s (createD s n))) := by
  have HFO := Lib.hid (formOk_any vl vn va vc vv d s w hC.reads hs hnm hz)
  have HX := Lib.hid (fun (hp : poolOkB d = true) (W : World) (b : Below w.heap.size w W) => cloCreate_any vl vn va vc vv d s n q S ps pn W (box_on hq b) (hC.on b) hS hp (box_on kps b) (box_on kpn b))
  have HR := Lib.hid hr
  have HQ := Lib.hid hq
  have HM := Lib.hid (changeK_no (d := d) (s := s) (f := createD s n))
  have HE := Lib.hid (changeK_code (d := d) (s := s) (f := createD s n))
  have HO := Lib.hid (changeK_ok (d := d) (s := s) (f := createD s n))
  have hR := hC.reads
  obtain ⟨A0, Ac0, A1, Ac1, A2, Ac2, A3, Ac3, A4, Ac4, rfl, rfl, rfl, rfl, rfl⟩ := hR.shape
  obtain ⟨x0, x1, x2, x3, x4, x5, x6⟩ := boxP hq
  obtain ⟨m, hm⟩ : ∃ m, mayB d s = m := ⟨_, rfl⟩
  rw [hm] at HFO
  have HMB := Lib.hid hm
  obtain ⟨r, hr2⟩ : ∃ r, createD s n d = r := ⟨_, rfl⟩
  rw [hr2] at HX HR HE HO
  obtain ⟨y, c⟩ := r
  obtain ⟨yl, yt, ya, yc, yv, yn⟩ := y
  clear hq hC hS hs hnm hz hr hR hm hr2 kps kpn
  go_enter Tryz.func115, Tryz.ntmps115
  go_wp2_with fail
  refine HFO.out.mono ?_
  rintro e w1 ⟨rfl, b1⟩
  have B1 := Lib.hid b1
  clear x0 x1 x2 x3 x4 x5 x6 b1 HFO
  cases m
  · go_wp2
    go_ret
    rw [HM.out HMB.out]
    exact did_err (by decide) B1.out
  · have hpp := mayB_pool HMB.out
    have HX2 := Lib.hid (HX.out hpp w1 B1.out)
    have HP := Lib.hid hpp
    clear hpp HX
    go_wp2_with fail
    go_at_call 58
    refine HX2.out.mono ?_
    rintro e w2 ⟨rfl, o2, h2⟩
    have O2 := Lib.hid o2
    have H2 := Lib.hid h2
    clear o2 h2 HX2
    by_cases hc : c = 0
    · subst hc
      obtain ⟨t2, zl, zn, za, zc, zv, q2, C2⟩ := H2.out rfl
      obtain ⟨hsm, hnm⟩ := HR.out HP.out (mayB_name HMB.out) rfl
      have hR2 := C2.reads
      have HPO := Lib.hid (implPoolOk_any zl zn za zc zv _ w2 hR2 hsm hnm)
      have C2 := Lib.hid C2
      have Q2 := Lib.hid q2
      obtain ⟨D0, Dc0, D1, Dc1, D2, Dc2, D3, Dc3, D4, Dc4, rfl, rfl, rfl, rfl, rfl⟩ := hR2.shape
      obtain ⟨x0, x1, x2, x3, x4, x5, x6⟩ := boxP q2
      obtain ⟨pk, hpk⟩ : ∃ b, poolOkB ⟨yl, yt, ya, yc, yv, yn⟩ = b := ⟨_, rfl⟩
      rw [hpk] at HPO
      have HPK := Lib.hid hpk
      clear hsm hnm hR2 q2 hpk H2 HR
      rw [show errV 0 = .nilIface from rfl]
      go_wp2_with fail
      refine HPO.out.mono ?_
      rintro e w3 ⟨rfl, b3⟩
      have B3 := Lib.hid b3
      clear x0 x1 x2 x3 x4 x5 x6 b3 HPO
      have hO : Only (fun b => b = q ∨ S b) w w3 := ((Only.of_below B1.out _).trans O2.out).trans (Only.of_below B3.out _)
      have O3 := Lib.hid hO
      have hz1 := B1.out.size
      clear hO
      cases pk
      · go_wp2
        go_ret
        rw [(HO.out HMB.out (by first | rfl | trivial)).2 HPK.out]
        exact did_errO (by decide) O3.out
      · go_wp2
        go_ret
        rw [(HO.out HMB.out (by first | rfl | trivial)).1 HPK.out]
        exact did_ok (t := t2) O3.out (box_on Q2.out B3.out) ((C2.out.on B3.out).mono (fun b hb => hb.elim .inl (fun h => .inr (by omega))))
    · rw [errV_ne hc]
      have hO : Only (fun b => b = q ∨ S b) w w2 := (Only.of_below B1.out _).trans O2.out
      have O3 := Lib.hid hO
      have HC := Lib.hid hc
      clear hO hc H2 HR
      go_wp2
      go_ret
      rw [HE.out HMB.out HC.out, ← errV_ne HC.out]
      exact did_errO HC.out O3.out
set_option maxHeartbeats 4000000 in
theorem changeCreate_any {t : TypeId} (vl vn va vc vv : Value) (d : PoolD) (s : ByteArray) (n : Int) (ps pn : Nat) (w : World) (hR : RdP t w w.heap.size vl vn va vc vv d) (hs : SmallP d) (hnm : ∀ k ∈ d.vo, k.a.size ≤ maxLen) (hz : s.size ≤ maxLen) (hg : ErrT w) (kps : w.heap[ps]? = some (.cells #[.string s] 9 (0, 0))) (kpn : w.heap[pn]? = some (.cells #[.int .i64 n] 3 (0, 0))) (hr : poolOkB d = true → nameOkB s = true → (createD s n d).2 = 0 → SmallP (createD s n d).1 ∧ ∀ k ∈ (createD s n d).1.vo, k.a.size ≤ maxLen) :
    Calls Tryz.prog 47 #[.agg #[vl, vn, va, vc, vv, .int .i64 d.nx], .string s, (.func (.func 58) #[] #[.pointer (some ⟨ps, 0, none⟩), .pointer (some ⟨pn, 0, none⟩)])] w (NewPn w (changeK d s (createD s n))) := by
  have HCP := Lib.hid (fun W b => copyPool_any vl vn va vc vv d W (hR.on b) hs)
  have HTR := Lib.hid (fun (t : TypeId) (vl vn va vc vv : Value) (q : Nat) (S : Nat → Prop) (W : World) (b : Below w.heap.size w W) (hq : W.heap[q]? = some (POOLB vl vn va vc vv d.nx)) (hC : PoolC t W S vl vn va vc vv d) (hS : ¬ S q) => tryCreate_any vl vn va vc vv d s n q S ps pn W hq hC hS hs hnm hz (box_on kps b) (box_on kpn b) hr)
  have hsz := hg.size
  have HG := Lib.hid hg
  obtain ⟨A0, Ac0, A1, Ac1, A2, Ac2, A3, Ac3, A4, Ac4, rfl, rfl, rfl, rfl, rfl⟩ := hR.shape
  obtain ⟨r, hr2⟩ : ∃ r, changeK d s (createD s n) = r := ⟨_, rfl⟩
  have HK := Lib.hid (changeK_d (d := d) (s := s) (f := createD s n))
  rw [hr2] at HTR HK ⊢
  obtain ⟨y, c⟩ := r
  obtain ⟨q0, q1⟩ := al2 w (.cells #[.slice A0 d.lo.length Ac0, .slice A1 d.ts.length Ac1, .slice A2 d.ag.length Ac2, .slice A3 d.ce.length Ac3, .slice A4 d.vo.length Ac4, .int .i64 d.nx] 32) (.cells #[.slice none 0 0, .slice none 0 0, .slice none 0 0, .slice none 0 0, .slice none 0 0, .int .i64 0] 32)
  have Q0 := Lib.hid q0
  have Q1 := Lib.hid q1
  have HB := Lib.hid (bal2 w (.cells #[.slice A0 d.lo.length Ac0, .slice A1 d.ts.length Ac1, .slice A2 d.ag.length Ac2, .slice A3 d.ce.length Ac3, .slice A4 d.vo.length Ac4, .int .i64 d.nx] 32) (.cells #[.slice none 0 0, .slice none 0 0, .slice none 0 0, .slice none 0 0, .slice none 0 0, .int .i64 0] 32))
  have HZ : Hid (((w.alloc (.cells #[.slice A0 d.lo.length Ac0, .slice A1 d.ts.length Ac1, .slice A2 d.ag.length Ac2, .slice A3 d.ce.length Ac3, .slice A4 d.vo.length Ac4, .int .i64 d.nx] 32)).alloc (.cells #[.slice none 0 0, .slice none 0 0, .slice none 0 0, .slice none 0 0, .slice none 0 0, .int .i64 0] 32)).heap.size = w.heap.size + 2) := Lib.hid (by simp)
  clear hR hs hnm hz hr hr2 hg q0 q1 kps kpn
  go_enter Tryz.func47, Tryz.ntmps47
  go_upto_region 1 with (fail)
  generalize (w.alloc (.cells #[.slice A0 d.lo.length Ac0, .slice A1 d.ts.length Ac1, .slice A2 d.ag.length Ac2, .slice A3 d.ce.length Ac3, .slice A4 d.vo.length Ac4, .int .i64 d.nx] 32)).alloc (.cells #[.slice none 0 0, .slice none 0 0, .slice none 0 0, .slice none 0 0, .slice none 0 0, .int .i64 0] 32) = W at *
  have hy1 := Nat.le_of_eq HZ.out
  have hy2 := Nat.le_of_eq HZ.out.symm
  obtain ⟨x0, x1, x2, x3, x4, x5, x6⟩ := boxP Q0.out
  go_wp2_with fail
  refine (HCP.out _ HB.out).mono ?_
  rintro e w1 ⟨zl, zn, za, zc, zv, rfl, o1, b1⟩
  have hz1 := b1.size
  obtain ⟨D0, Dc0, D1, Dc1, D2, Dc2, D3, Dc3, D4, Dc4, rfl, rfl, rfl, rfl, rfl⟩ := o1.reads.shape
  have hB2 := bal1 w1 (.cells #[.slice D0 d.lo.length Dc0, .slice D1 d.ts.length Dc1, .slice D2 d.ag.length Dc2, .slice D3 d.ce.length Dc3, .slice D4 d.vo.length Dc4, .int .i64 d.nx] 32)
  have Q2 := Lib.hid (al1 w1 (.cells #[.slice D0 d.lo.length Dc0, .slice D1 d.ts.length Dc1, .slice D2 d.ag.length Dc2, .slice D3 d.ce.length Dc3, .slice D4 d.vo.length Dc4, .int .i64 d.nx] 32))
  have hzz : (w1.alloc (.cells #[.slice D0 d.lo.length Dc0, .slice D1 d.ts.length Dc1, .slice D2 d.ag.length Dc2, .slice D3 d.ce.length Dc3, .slice D4 d.vo.length Dc4, .int .i64 d.nx] 32)).heap.size = w1.heap.size + 1 := by simp
  have O2 := Lib.hid (o1.lt.on hB2)
  have B2 := Lib.hid (bstep b1 hB2)
  clear x0 x1 x2 x3 x4 x5 x6 o1 b1 hB2
  go_upto_region 2 with (fail)
  generalize w1.alloc (.cells #[.slice D0 d.lo.length Dc0, .slice D1 d.ts.length Dc1, .slice D2 d.ag.length Dc2, .slice D3 d.ce.length Dc3, .slice D4 d.vo.length Dc4, .int .i64 d.nx] 32) = w2 at *
  have hz2 := Nat.le_of_eq hzz
  have hz3 := Nat.le_of_eq hzz.symm
  clear hzz
  have hB2 := B2.out
  go_wp2_with fail
  go_at_call 115
  refine (HTR.out _ _ _ _ _ _ w1.heap.size (fun b => W.heap.size ≤ b ∧ b < w1.heap.size) w2 (bstep HB.out B2.out) Q2.out O2.out (fun h => by have := h.2; omega)).mono ?_
  rintro e w3 ⟨rfl, o3, h3⟩
  have hz4 := o3.size
  have B3 := Lib.hid ((bstep HB.out B2.out).trans (o3.below (B := w.heap.size) (by omega) (fun b hb => by rcases hb with h | h <;> omega)))
  have Q03 := Lib.hid (box_only (box_on Q0.out B2.out) o3 (fun h => by have := (Array.getElem?_eq_some_iff.1 Q0.out).1; rcases h with h | h <;> omega))
  have Q13 := Lib.hid (box_only (box_on Q1.out B2.out) o3 (fun h => by have := (Array.getElem?_eq_some_iff.1 Q1.out).1; rcases h with h | h <;> omega))
  have H3 := Lib.hid h3
  clear o3 h3 hB2
  go_wp2_with fail
  refine (codeOf_any c w3 (HG.out.on B3.out hsz)).mono ?_
  rintro e w4 ⟨rfl, b4⟩
  have hz5 := b4.size
  have B4 := Lib.hid (bstep B3.out b4)
  have Q04 := Lib.hid (box_on Q03.out b4)
  have Q14 := Lib.hid (box_on Q13.out b4)
  by_cases hc : c = 0
  · subst hc
    obtain ⟨t2, zl, zn, za, zc, zv, q2, C2⟩ := H3.out rfl
    have C4 := Lib.hid (C2.on b4)
    have Q4 := box_on q2 b4
    obtain ⟨yl, yt, ya, yc, yv, yn⟩ := y
    obtain ⟨E0, Ec0, E1, Ec1, E2, Ec2, E3, Ec3, E4, Ec4, rfl, rfl, rfl, rfl, rfl⟩ := C2.reads.shape
    obtain ⟨x0, x1, x2, x3, x4, x5, x6⟩ := boxP Q4
    obtain ⟨y0, y1, y2, y3, y4, y5, y6⟩ := boxP Q14.out
    clear H3 C2 q2 Q4 b4
    go_wp2
    refine bodyPost_ret (v := .tuple #[.agg #[.slice E0 yl.length Ec0, .slice E1 yt.length Ec1, .slice E2 ya.length Ec2, .slice E3 yc.length Ec3, .slice E4 yv.length Ec4, .int .i64 yn], .int .i64 0]) (by simp [results, Tryz.results47, go_sem, y0, y1, y2, y3, y4, y5, y6]) rfl ⟨t2, _, _, _, _, _, rfl, ?_, below_set6 B4.out (by omega)⟩
    exact (C4.out.set6 (p := w.heap.size + 1) (fun h => by rcases h with h | h <;> omega)).mono (fun b hb => by rcases hb with h | h <;> omega)
  · have HC := Lib.hid hc
    have d1 : (c != 0) = true := by simp [hc]
    obtain ⟨x0, x1, x2, x3, x4, x5, x6⟩ := boxP Q04.out
    obtain rfl : d = y := (HK.out hc).symm
    clear H3 b4 hc
    go_wp2_with fail
    refine (HCP.out _ B4.out).mono ?_
    rintro e w5 ⟨zl, zn, za, zc, zv, rfl, o5, b5⟩
    have hz6 := b5.size
    obtain ⟨E0, Ec0, E1, Ec1, E2, Ec2, E3, Ec3, E4, Ec4, rfl, rfl, rfl, rfl, rfl⟩ := o5.reads.shape
    have O5 := Lib.hid o5
    have B5 := Lib.hid (bstep B4.out b5)
    clear x0 x1 x2 x3 x4 x5 x6
    obtain ⟨y0, y1, y2, y3, y4, y5, y6⟩ := boxP (box_on Q14.out b5)
    clear o5 b5
    go_wp2
    refine bodyPost_ret (v := .tuple #[.agg #[.slice E0 d.lo.length Ec0, .slice E1 d.ts.length Ec1, .slice E2 d.ag.length Ec2, .slice E3 d.ce.length Ec3, .slice E4 d.vo.length Ec4, .int .i64 d.nx], .int .i64 c]) (by simp [results, Tryz.results47, go_sem, y0, y1, y2, y3, y4, y5, y6]) rfl ⟨110, _, _, _, _, _, rfl, ?_, below_set6 B5.out (by omega)⟩
    exact (O5.out.set6 (p := w.heap.size + 1) (fun h => by omega)).mono (fun b hb => by omega)
set_option maxHeartbeats 2000000 in
theorem implCreate_any {t : TypeId} (vl vn va vc vv : Value) (d : PoolD) (s : ByteArray) (n : Int) (w : World) (hR : RdP t w w.heap.size vl vn va vc vv d) (hs : SmallP d) (hnm : ∀ k ∈ d.vo, k.a.size ≤ maxLen) (hz : s.size ≤ maxLen) (hg : ErrT w) :
    Calls Tryz.prog 20 #[.agg #[vl, vn, va, vc, vv, .int .i64 d.nx], .string s, .int .i64 n] w (NewPn w (changeK d s (createD s n))) := by
  have HCH := Lib.hid (fun (ps pn : Nat) (W : World) (b : Below w.heap.size w W) (kps : W.heap[ps]? = some (.cells #[.string s] 9 (0, 0))) (kpn : W.heap[pn]? = some (.cells #[.int .i64 n] 3 (0, 0))) => changeCreate_any vl vn va vc vv d s n ps pn W (hR.on b) hs hnm hz (hg.on b hg.size) kps kpn (fun h1 h2 h3 => createD_small h1 h2 h3))
  obtain ⟨A0, Ac0, A1, Ac1, A2, Ac2, A3, Ac3, A4, Ac4, rfl, rfl, rfl, rfl, rfl⟩ := hR.shape
  obtain ⟨r, hr2⟩ : ∃ r, changeK d s (createD s n) = r := ⟨_, rfl⟩
  rw [hr2] at HCH ⊢
  obtain ⟨y, c⟩ := r
  obtain ⟨q0, q1, q2, q3⟩ := alP4 w (.cells #[.slice A0 d.lo.length Ac0, .slice A1 d.ts.length Ac1, .slice A2 d.ag.length Ac2, .slice A3 d.ce.length Ac3, .slice A4 d.vo.length Ac4, .int .i64 d.nx] 32) (.cells #[.string s] 9) (.cells #[.int .i64 n] 3) (.cells #[.slice none 0 0, .slice none 0 0, .slice none 0 0, .slice none 0 0, .slice none 0 0, .int .i64 0] 32)
  have Q0 := Lib.hid q0
  have Q1 := Lib.hid q1
  have Q2 := Lib.hid q2
  have Q3 := Lib.hid q3
  have HB := Lib.hid (bal4 w (.cells #[.slice A0 d.lo.length Ac0, .slice A1 d.ts.length Ac1, .slice A2 d.ag.length Ac2, .slice A3 d.ce.length Ac3, .slice A4 d.vo.length Ac4, .int .i64 d.nx] 32) (.cells #[.string s] 9) (.cells #[.int .i64 n] 3) (.cells #[.slice none 0 0, .slice none 0 0, .slice none 0 0, .slice none 0 0, .slice none 0 0, .int .i64 0] 32))
  have HZ : Hid (((((w.alloc (.cells #[.slice A0 d.lo.length Ac0, .slice A1 d.ts.length Ac1, .slice A2 d.ag.length Ac2, .slice A3 d.ce.length Ac3, .slice A4 d.vo.length Ac4, .int .i64 d.nx] 32)).alloc (.cells #[.string s] 9)).alloc (.cells #[.int .i64 n] 3)).alloc (.cells #[.slice none 0 0, .slice none 0 0, .slice none 0 0, .slice none 0 0, .slice none 0 0, .int .i64 0] 32)).heap.size = w.heap.size + 4) := Lib.hid (by simp)
  clear hR hs hnm hz hr2 hg q0 q1 q2 q3
  go_enter Tryz.func20, Tryz.ntmps20
  go_upto_region 1 with (fail)
  generalize ((((w.alloc (.cells #[.slice A0 d.lo.length Ac0, .slice A1 d.ts.length Ac1, .slice A2 d.ag.length Ac2, .slice A3 d.ce.length Ac3, .slice A4 d.vo.length Ac4, .int .i64 d.nx] 32)).alloc (.cells #[.string s] 9)).alloc (.cells #[.int .i64 n] 3)).alloc (.cells #[.slice none 0 0, .slice none 0 0, .slice none 0 0, .slice none 0 0, .slice none 0 0, .int .i64 0] 32)) = W at *
  have hy1 := Nat.le_of_eq HZ.out
  have hy2 := Nat.le_of_eq HZ.out.symm
  obtain ⟨x0, x1, x2, x3, x4, x5, x6⟩ := boxP Q0.out
  obtain ⟨s0, s1⟩ := box1N Q1.out
  go_wp2_with fail
  refine (HCH.out (w.heap.size + 1) (w.heap.size + 1 + 1) _ HB.out Q1.out Q2.out).mono ?_
  rintro e w1 ⟨t1, zl, zn, za, zc, zv, rfl, o1, b1⟩
  have hz1 := b1.size
  obtain ⟨E0, Ec0, E1, Ec1, E2, Ec2, E3, Ec3, E4, Ec4, rfl, rfl, rfl, rfl, rfl⟩ := o1.reads.shape
  have O1 := Lib.hid o1
  have B1 := Lib.hid (bstep HB.out b1)
  clear x0 x1 x2 x3 x4 x5 x6 s0 s1
  obtain ⟨y0, y1, y2, y3, y4, y5, y6⟩ := boxP (box_on Q3.out b1)
  clear o1 b1
  go_wp2
  refine bodyPost_ret (v := .tuple #[.agg #[.slice E0 y.lo.length Ec0, .slice E1 y.ts.length Ec1, .slice E2 y.ag.length Ec2, .slice E3 y.ce.length Ec3, .slice E4 y.vo.length Ec4, .int .i64 y.nx], .int .i64 c]) (by simp [results, Tryz.results20, go_sem, y0, y1, y2, y3, y4, y5, y6]) rfl ⟨t1, _, _, _, _, _, rfl, ?_, below_set6 B1.out (by omega)⟩
  exact (O1.out.set6 (p := w.heap.size + 1 + 1 + 1) (fun h => by omega)).mono (fun b hb => by omega)
end Go.Proofs.YtlhemcjahcmdeaaGreatDoor
namespace Go.Proofs.YtlhemcjahcmdeaaGreatDoor
open Go.RowKit
set_option maxRecDepth 100000
set_option linter.unusedSimpArgs false
set_option linter.unusedVariables false

theorem quietSame {P : Program} {f : FuncId} {args : Array Value} {w : World} {n : Nat} {v : Value}
    (h : Calls P f args (w.drewN n) fun e w' => e = .returned v ∧ w.drewN n = w') : Calls P f args (w.drewN n) fun e w'' => e = .returned v ∧ ∃ m, w'' = w.drewN m :=
  h.mono fun _ _ ⟨he, hm⟩ => ⟨he, n, hm.symm⟩
theorem drewB (w : World) (n : Nat) : Below w.heap.size w (w.drewN n) := ⟨rfl, rfl, rfl, Nat.le_refl _, fun _ _ => rfl⟩
theorem Five.lay {w w' : World} {b o : Nat} {k : KeyD} (h : Five w b o k) (hlt : b < w.heap.size) (hb : Below w.heap.size w w') : Five w' b o k := by
  have hk := hb.block b hlt
  exact ⟨(World.cell?_of_block (a := ⟨b, o, none⟩) hk).trans h.1, (World.cell?_of_block (a := ⟨b, o + 1, none⟩) hk).trans h.2.1, (World.cell?_of_block (a := ⟨b, o + 2, none⟩) hk).trans h.2.2.1, (World.cell?_of_block (a := ⟨b, o + 3, none⟩) hk).trans h.2.2.2.1, (World.cell?_of_block (a := ⟨b, o + 4, none⟩) hk).trans h.2.2.2.2⟩
theorem ages_miss {d : PoolD} {k : KeyD} (hk : k ∈ treeKeysK d.ts) (h : ageAtK d.ag k.b < 0) : agesB d = false := by
  unfold agesB
  rw [List.all_eq_false]
  exact ⟨k, hk, by simp; omega⟩
theorem ages_all {d : PoolD} (h : ∀ j (hl : j < (treeKeysK d.ts).length), 0 ≤ ageAtK d.ag ((treeKeysK d.ts)[j]).b) : agesB d = true := by
  unfold agesB
  rw [List.all_eq_true]
  intro v hv
  obtain ⟨i, hi, rfl⟩ := List.mem_iff_getElem.1 hv
  exact decide_eq_true (h i hi)
set_option maxHeartbeats 4000000 in
theorem specL10Keys_any {t : TypeId} (vl vn va vc vv : Value) (d : PoolD) (w : World) (h : RdP t w w.heap.size vl vn va vc vv d) (hs : SmallP d) : Calls Tryz.prog 194 #[.agg #[vl, vn, va, vc, vv, .int .i64 d.nx]] w (SaysBool w (agesB d && cellsB d)) := by
  have hg : d.ce.length ≤ 2097152 := by have := hs.2.2.1; omega
  have ha : d.ag.length ≤ 2097152 := by have := hs.2.1; omega
  have h1 := hs.1
  have HK := Lib.hid (fun W b => specTreeKeys_any vl vn d.lo d.ts W (h.1.on b) (by omega) (by omega))
  obtain ⟨A0, c0, A1, c1, A2, c2, A3, c3, A4, c4, rfl, rfl, rfl, rfl, rfl⟩ := h.shape
  have HAG := Lib.hid (fun W b i => specAgeAt_any (.slice A2 d.ag.length c2) d.ag i W (h.2.1.on b) ha)
  have HC := Lib.hid (fun W b i g => specCellAt_any (.slice A3 d.ce.length c3) d.ce i g W ((h.2.2.1.on b).retype _) hg)
  have HU := Lib.hid (fun W b => specUsedCells_any (.slice A3 d.ce.length c3) d.ce W ((h.2.2.1.on b).retype _) hg)
  have HB := Lib.hid (bal1 w (.cells #[.slice A0 d.lo.length c0, .slice A1 d.ts.length c1, .slice A2 d.ag.length c2, .slice A3 d.ce.length c3, .slice A4 d.vo.length c4, .int .i64 d.nx] 32))
  have Q0 := Lib.hid (al1 w (.cells #[.slice A0 d.lo.length c0, .slice A1 d.ts.length c1, .slice A2 d.ag.length c2, .slice A3 d.ce.length c3, .slice A4 d.vo.length c4, .int .i64 d.nx] 32))
  have hkl := treeKeys_len d.ts
  obtain ⟨K, hK⟩ : ∃ K, treeKeysK d.ts = K := ⟨_, rfl⟩
  have HAM := Lib.hid (fun (k : KeyD) (hk : k ∈ treeKeysK d.ts) hh => ages_miss (d := d) (k := k) hk hh)
  have HAA := Lib.hid (ages_all (d := d))
  have HM1 := Lib.hid (fun (k : KeyD) (hk : k ∈ refsK (treeKeysK d.ts)) hh => cells_miss1 (d := d) (k := k) hk hh)
  have HM2 := Lib.hid (cells_miss2 (d := d))
  have HE := Lib.hid (cells_end (d := d))
  rw [hK] at hkl HK HAM HM1 HM2 HE
  have HAA2 : Hid ((∀ j (hl : j < K.length), 0 ≤ ageAtK d.ag (K[j]).b) → agesB d = true) := Lib.hid (fun hh => HAA.out (by subst hK; exact hh))
  have hkn : K.length ≤ 2097152 := by omega
  obtain ⟨R, hR⟩ : ∃ R, (agesB d && cellsB d) = R := ⟨_, rfl⟩
  rw [hR]
  have HX := Lib.hid hR
  clear h hs hR hK h1 hkl HAA
  go_enter Tryz.func194, Tryz.ntmps194
  go_upto_region 1 with (fail)
  generalize w.alloc (.cells #[.slice A0 d.lo.length c0, .slice A1 d.ts.length c1, .slice A2 d.ag.length c2, .slice A3 d.ce.length c3, .slice A4 d.vo.length c4, .int .i64 d.nx] 32) = W at *
  obtain ⟨x0, x1, x2, x3, x4, x5, x6⟩ := boxP Q0.out
  go_wp2_with fail
  refine (HK.out _ HB.out).mono ?_
  rintro e w1 ⟨v1, rfl, o, b1⟩
  replace Q0 := Lib.hid (box_on Q0.out b1)
  replace HB := Lib.hid (bstep HB.out b1)
  have HRd := Lib.hid o.owns.reads
  obtain ⟨A5, c5, rfl, _, _⟩ := o.owns.reads.lenN
  clear x0 x1 x2 x3 x4 x5 x6 o b1
  go_wp2
  go_loopw [4, 5, 6, 7, 8] (fun q i _ _ _ wr => ∃ k : Nat, k ≤ K.length ∧ i = .int .i64 k ∧ q = .int .i64 ((refsK (K.take k)).length : Nat) ∧ Hid (∀ j (hj : j < k) (hl : j < K.length), 0 ≤ ageAtK d.ag (K[j]).b) ∧ Hid (∀ x ∈ refsK (K.take k), cellB d.ce x.d x.e = true) ∧ Hid (((refsK (K.take k)).map (·.d)).Nodup) ∧ Hid (Below w1.heap.size w1 wr)) (fun _ i _ _ _ _ => K.length - (intOf i).toNat)
  case atStart => exact ⟨0, Nat.zero_le _, rfl, rfl, Lib.hid (fun j hj => by omega), Lib.hid (fun x hx => by simp [refsK] at hx), Lib.hid (by simp [refsK]), Lib.hid (Below.refl _ _)⟩
  case round =>
    obtain ⟨k, hk, rfl, rfl, HI, HJ, HN, HW⟩ := hrel
    have HBW := Lib.hid (bstep HB.out HW.out)
    have HQW := Lib.hid (box_on Q0.out HW.out)
    have hrl := refs_len (K.take k)
    have htl : (K.take k).length ≤ K.length := by rw [List.length_take]; omega
    by_cases hlt : k < K.length
    · obtain ⟨b, off, rfl, hbb, hc⟩ := HRd.out.keys hlt
      have HCL := Lib.hid hc
      have i1 : (k : Int) < (K.length : Int) := by omega
      have i2 : (0 : Int) ≤ (k : Int) := by omega
      obtain ⟨y0, y1, y2, y3, y4⟩ := Five.lay (hc k hlt) hbb HW.out
      have HBAD : Hid (ageAtK d.ag (K[k]).b < 0 → R = false) := Lib.hid (fun hh => by rw [← HX.out, HAM.out _ (List.getElem_mem hlt) hh]; rfl)
      have HST : Hid (0 ≤ ageAtK d.ag (K[k]).b → ∀ j (hj : j < k + 1) (hl : j < K.length), 0 ≤ ageAtK d.ag (K[j]).b) := Lib.hid (fun hh j hj hl => by
        by_cases h3 : j < k
        · exact HI.out j h3 hl
        · have : j = k := by omega
          subst this
          exact hh)
      have HSN := Lib.hid (refs_snoc hlt)
      have HBC : Hid ((K[k]).c = 1 → cellB d.ce (K[k]).d (K[k]).e = false → R = false) := Lib.hid (fun hc1 hh => by
        rw [← HX.out, HM1.out K[k] (by unfold refsK; rw [List.mem_filter]; exact ⟨List.getElem_mem hlt, by rw [hc1]; rfl⟩) hh, Bool.and_false])
      have HDU : Hid ((K[k]).c = 1 → (K[k]).d ∈ (refsK (K.take k)).map (·.d) → R = false) := Lib.hid (fun hc1 hm => by
        rw [← HX.out, HM2.out (fun hn => ?_), Bool.and_false]
        have h2 : ((refsK (K.take (k + 1))).map (·.d)).Nodup := hn.sublist ((refs_sub _).map _)
        rw [HSN.out, if_pos (by rw [hc1]; rfl), List.map_append, List.nodup_append] at h2
        exact h2.2.2 _ hm _ (by simp) rfl)
      clear hc
      obtain ⟨v, hv⟩ : ∃ v, v = K[k] := ⟨_, rfl⟩
      have HVK := Lib.hid hv
      rw [← hv] at y0 y1 y2 y3 y4 HBAD HST HSN HBC HDU
      clear hv
      have HA1 := Lib.hid (fun n => HAG.out (wr.drewN n) (HBW.out.trans ((drewB wr n).mono HBW.out.size)) v.b)
      obtain ⟨ad, had⟩ : ∃ ad, ageAtK d.ag v.b = ad := ⟨_, rfl⟩
      rw [had] at HA1 HBAD HST
      clear had
      obtain ⟨x0, x1, x2, x3, x4, x5, x6⟩ := boxP HQW.out
      by_cases hneg : ad < 0
      · have e1 : decide (ad < 0) = true := decide_eq_true hneg
        have HF := Lib.hid (HBAD.out hneg)
        go_wp2
        go_quiet ((go_at_call 133; exact quietSame (HA1.out _)))
        go_wp2
        go_ret
        exact ⟨by rw [HF.out]; rfl, HBW.out.trans ((drewB wr _).mono HBW.out.size)⟩
      · have e1 : decide (ad < 0) = false := decide_eq_false hneg
        have HI2 := Lib.hid (HST.out (by omega))
        by_cases hkd : v.c = 1
        · have e2 : (v.c != 1) = false := by simp [hkd]
          have HSN2 : Hid (refsK (K.take (k + 1)) = refsK (K.take k) ++ [v]) := Lib.hid (by rw [HSN.out, if_pos (by rw [hkd]; rfl)])
          have HBC2 := Lib.hid (HBC.out hkd)
          have HDU2 := Lib.hid (HDU.out hkd)
          have HKD := Lib.hid hkd
          clear hkd HBC HDU HSN
          go_wp2
          go_quiet ((go_at_call 133; exact quietSame (HA1.out _)))
          have BQ := drewB wr nq
          have HWq := Lib.hid (HW.out.trans (BQ.mono HW.out.size))
          have HBq := Lib.hid (HBW.out.trans (BQ.mono HBW.out.size))
          have HQq := Lib.hid (box_on HQW.out BQ)
          clear x0 x1 x2 x3 x4 x5 x6 y0 y1 y2 y3 y4 HA1 e1 BQ
          generalize wr.drewN nq = wq at *
          obtain ⟨x0, x1, x2, x3, x4, x5, x6⟩ := boxP HQq.out
          have fv := Five.lay (HCL.out k hlt) hbb HWq.out
          rw [← HVK.out] at fv
          obtain ⟨y0, y1, y2, y3, y4⟩ := fv
          obtain ⟨ck, hck⟩ : ∃ ck, cellK d.ce v.d v.e = ck := ⟨_, rfl⟩
          obtain ⟨cb, hcb⟩ : ∃ cb, cellB d.ce v.d v.e = cb := ⟨_, rfl⟩
          have HC1 := Lib.hid (fun n => (HC.out (wq.drewN n) (HBq.out.trans ((drewB wq n).mono HBq.out.size)) v.d v.e).mono (fun e w' h => (⟨h.1, h.2⟩ : e = .returned (.tuple #[.int .i64 (cellK d.ce v.d v.e), .bool (cellB d.ce v.d v.e)]) ∧ wq.drewN n = w')))
          rw [hck, hcb] at HC1
          rw [hcb] at HBC2
          have HCB := Lib.hid hcb
          clear hck hcb
          generalize hmr : (refsK (K.take k)).length = mr at *
          have HMR := Lib.hid hmr
          clear hmr
          cases cb
          · have HF := Lib.hid (HBC2.out rfl)
            go_wp2
            go_quiet ((go_at_call 142; exact quietSame (HC1.out _)))
            go_wp2
            go_ret
            exact ⟨by rw [HF.out]; rfl, HBq.out.trans ((drewB wq _).mono HBq.out.size)⟩
          · go_wp2
            go_quiet ((go_at_call 142; exact quietSame (HC1.out _)))
            have BQ := drewB wq nq
            have HWr := Lib.hid (HWq.out.trans (BQ.mono HWq.out.size))
            have HBr := Lib.hid (HBq.out.trans (BQ.mono HBq.out.size))
            have HQr := Lib.hid (box_on HQq.out BQ)
            clear x0 x1 x2 x3 x4 x5 x6 y0 y1 y2 y3 y4 HC1 BQ HW HWq HBW HBq HQW HQq
            generalize wq.drewN nq = ws at *
            go_wp2
            go_loopw [8] (fun j wz => ∃ jj : Nat, jj ≤ k ∧ j = .int .i64 jj ∧ Hid (∀ x (hx : x < jj) (hl : x < K.length), ¬ ((K[x]).c = 1 ∧ (K[x]).d = v.d)) ∧ Hid (Below ws.heap.size ws wz)) (fun j _ => k - (intOf j).toNat)
            case atStart => exact ⟨0, Nat.zero_le _, rfl, Lib.hid (fun x hx => by omega), Lib.hid (Below.refl _ _)⟩
            case round =>
              obtain ⟨jj, hjj, rfl, HNO, HZ⟩ := hrel
              have HWz := Lib.hid (bstep HWr.out HZ.out)
              by_cases hjk : jj < k
              · have hjl : jj < K.length := by omega
                have fv := Five.lay (HCL.out k hlt) hbb HWz.out
                rw [← HVK.out] at fv
                obtain ⟨y0, y1, y2, y3, y4⟩ := fv
                obtain ⟨z0, z1, z2, z3, z4⟩ := Five.lay (HCL.out jj hjl) hbb HWz.out
                have HDD : Hid ((K[jj]).c = 1 → (K[jj]).d = v.d → R = false) := Lib.hid (fun h1 h2 => HDU2.out (refs_mem.2 ⟨jj, hjl, hjk, h1, h2⟩))
                have HNN : Hid (¬ ((K[jj]).c = 1 ∧ (K[jj]).d = v.d) → ∀ x (hx : x < jj + 1) (hl : x < K.length), ¬ ((K[x]).c = 1 ∧ (K[x]).d = v.d)) := Lib.hid (fun hh x hx hl => by
                  by_cases h3 : x < jj
                  · exact HNO.out x h3 hl
                  · have : x = jj := by omega
                    subst this
                    exact hh)
                obtain ⟨u, hu⟩ : ∃ u, u = K[jj] := ⟨_, rfl⟩
                rw [← hu] at z0 z1 z2 z3 z4 HDD HNN
                clear hu
                have j1 : (jj : Int) < (k : Int) := by omega
                have j2 : (jj : Int) < (K.length : Int) := by omega
                have j3 : (0 : Int) ≤ (jj : Int) := by omega
                cases hc1 : (u.c == 1)
                · have HT := Lib.hid (HNN.out (fun hh => by rw [hh.1] at hc1; cases hc1))
                  go_wp2
                  go_quiet (fail)
                  go_wp2
                  go_roundw
                  case rel => exact ⟨jj + 1, by omega, by go_num, HT, Lib.hid (bdrew HZ.out _)⟩
                  case measure => simp [intOf]; omega
                · cases hd1 : (u.d == v.d)
                  · have HT := Lib.hid (HNN.out (fun hh => by rw [hh.2] at hd1; simp at hd1))
                    go_wp2
                    go_quiet (fail)
                    go_wp2
                    go_roundw
                    case rel => exact ⟨jj + 1, by omega, by go_num, HT, Lib.hid (bdrew HZ.out _)⟩
                    case measure => simp [intOf]; omega
                  · have HF := Lib.hid (HDD.out (by simpa using hc1) (by simpa using hd1))
                    go_wp2
                    go_quiet (fail)
                    go_wp2
                    go_ret
                    exact ⟨by rw [HF.out]; rfl, bdrew (bstep HBr.out HZ.out) _⟩
              · have HND : Hid (v.d ∉ (refsK (K.take k)).map (·.d)) := Lib.hid (fun hm => by
                  obtain ⟨x, hx, hxk, h1, h2⟩ := refs_mem.1 hm
                  exact HNO.out x (by omega) hx ⟨h1, h2⟩)
                have HJ2 : Hid (∀ x ∈ refsK (K.take (k + 1)), cellB d.ce x.d x.e = true) := Lib.hid (by
                  rw [HSN2.out]
                  intro x hx
                  rcases List.mem_append.1 hx with hx | hx
                  · exact HJ.out x hx
                  · simp at hx
                    subst hx
                    exact HCB.out)
                have HN2 : Hid (((refsK (K.take (k + 1))).map (·.d)).Nodup) := Lib.hid (by
                  rw [HSN2.out, List.map_append]
                  exact nodup_snoc HN.out HND.out)
                have HL2 : Hid ((refsK (K.take (k + 1))).length = mr + 1) := Lib.hid (by rw [HSN2.out, List.length_append, HMR.out]; rfl)
                go_wp2
                go_roundw
                case rel => exact ⟨k + 1, by omega, by go_num, by rw [HL2.out]; go_num, HI2, HJ2, HN2, HWz⟩
                case measure => simp [intOf]; omega
        · have e2 : (v.c != 1) = true := by simp [hkd]
          have HSN2 : Hid (refsK (K.take (k + 1)) = refsK (K.take k)) := Lib.hid (by rw [HSN.out, if_neg (by simpa using hkd)]; simp)
          clear hkd HBC HDU HSN
          go_wp2
          go_quiet ((go_at_call 133; exact quietSame (HA1.out _)))
          go_wp2
          go_roundw
          case rel => exact ⟨k + 1, by omega, by go_num, by rw [HSN2.out], HI2, by rw [HSN2.out]; exact HJ, by rw [HSN2.out]; exact HN, Lib.hid (HW.out.trans ((drewB wr _).mono HW.out.size))⟩
          case measure => simp [intOf]; omega
    · have e : k = K.length := by omega
      subst e
      rw [List.take_length] at HJ HN
      have HE2 := Lib.hid (HE.out HJ.out HN.out)
      have HA2 := Lib.hid (HAA2.out (fun j hl => HI.out j hl hl))
      have HRV : Hid (R = decide ((refsK K).length = usedK d.ce)) := Lib.hid (by rw [← HX.out, HA2.out, HE2.out]; rfl)
      rw [List.take_length] at hrl htl ⊢
      generalize (refsK K).length = m at *
      obtain ⟨x0, x1, x2, x3, x4, x5, x6⟩ := boxP HQW.out
      go_wp2_with fail
      refine (HU.out _ HBW.out).mono ?_
      rintro e _ ⟨rfl, rfl⟩
      generalize usedK d.ce = u at *
      by_cases hu : m = u
      · have e1 : ((m : Int) == (u : Int)) = true := by simp; omega
        have HF : Hid (R = true) := Lib.hid (by rw [HRV.out, decide_eq_true hu])
        clear hu
        go_wp2
        go_ret
        exact ⟨by rw [HF.out]; rfl, HBW.out⟩
      · have e1 : ((m : Int) == (u : Int)) = false := by simp; omega
        have HF : Hid (R = false) := Lib.hid (by rw [HRV.out, decide_eq_false hu])
        clear hu
        go_wp2
        go_ret
        exact ⟨by rw [HF.out]; rfl, HBW.out⟩
end Go.Proofs.YtlhemcjahcmdeaaGreatDoor
