/- Several texts in one: PoolOkI, Box, VolIPut, SeeI, PruneI, SeeKS, SeeS, SeeSA, PoolSKeys. -/
import Derived.BigQuiet
import Derived.Test.YtpfepcjbhchpcaaGreatPkNF
namespace Go.Proofs.YtpfepcjbhchpcaaGreat
open Go.RowKit
set_option maxRecDepth 100000
set_option linter.unusedSimpArgs false
set_option linter.unusedVariables false

set_option maxHeartbeats 4000000 in
theorem implPoolOk_any {t : TypeId} (vl vn va vc vv : Value) (d : PoolD) (w : World) (h : RdP t w w.heap.size vl vn va vc vv d) (hs : SmallP d) (hnm : ∀ k ∈ d.vo, k.a.size ≤ maxLen) : Calls Tryz.prog 29 #[.agg #[vl, vn, va, vc, vv, .int .i64 d.nx]] w (SaysBool w (poolOkB d)) := by
  have h1 := hs.1
  have h2 := hs.2.1
  have h3 := hs.2.2.1
  have hkl := treeKeys_len d.ts
  have HMO := Lib.hid (fun W b => mappingsOf_any vl vn va vc vv d W (h.on b))
  have HT := Lib.hid (fun W b => implTreeOk_any vl vn d.lo d.ts W (h.1.on b) (by omega) (by omega) (by omega))
  have HA := Lib.hid (fun W b => implAgesOk_any va d.ag W (h.2.1.on b) (by omega))
  have HC := Lib.hid (fun W b => implCellsOk_any vc d.ce W ((h.2.2.1.on b).retype _) (by omega))
  have HN := Lib.hid (fun W b => nextOk_any vl vn va vc vv d W (h.on b) hs)
  have HV := Lib.hid (fun W b => volsOk_any vl vn va vc vv d W (h.on b) hs hnm)
  have HE := Lib.hid (fun W b => agesExist_any vl vn va vc vv d W (h.on b) hs (by omega))
  have HM := Lib.hid (fun W b => cellsMatch_any vl vn va vc vv d W (h.on b) hs (by omega))
  obtain ⟨A0, c0, A1, c1, A2, c2, A3, c3, A4, c4, rfl, rfl, rfl, rfl, rfl⟩ := h.shape
  have HB := Lib.hid (bal1 w (.cells #[.slice A0 d.lo.length c0, .slice A1 d.ts.length c1, .slice A2 d.ag.length c2, .slice A3 d.ce.length c3, .slice A4 d.vo.length c4, .int .i64 d.nx] 41))
  have Q0 := Lib.hid (al1 w (.cells #[.slice A0 d.lo.length c0, .slice A1 d.ts.length c1, .slice A2 d.ag.length c2, .slice A3 d.ce.length c3, .slice A4 d.vo.length c4, .int .i64 d.nx] 41))
  obtain ⟨R, hR⟩ : ∃ R, poolOkB d = R := ⟨_, rfl⟩
  rw [hR]
  obtain ⟨tb, htb⟩ : ∃ b, treeOkB d.lo d.ts = b := ⟨_, rfl⟩
  obtain ⟨ab, hab⟩ : ∃ b, agesOkB d.ag = b := ⟨_, rfl⟩
  obtain ⟨cb, hcb⟩ : ∃ b, celsOkB d.ce = b := ⟨_, rfl⟩
  obtain ⟨nb, hnb⟩ : ∃ b, nextB d = b := ⟨_, rfl⟩
  obtain ⟨vb, hvb⟩ : ∃ b, volsB d = b := ⟨_, rfl⟩
  obtain ⟨eb, heb⟩ : ∃ b, agesB d = b := ⟨_, rfl⟩
  obtain ⟨mb, hmb⟩ : ∃ b, cellsB d = b := ⟨_, rfl⟩
  unfold poolOkB at hR
  rw [htb, hab, hcb, hnb, hvb, heb, hmb] at hR
  rw [htb] at HT
  rw [hab] at HA
  rw [hcb] at HC
  rw [hnb] at HN
  rw [hvb] at HV
  rw [heb] at HE
  rw [hmb] at HM
  have HX := Lib.hid hR.symm
  clear h hs hR hnm h1 h2 h3 hkl htb hab hcb hnb hvb heb hmb
  go_enter Tryz.func29, Tryz.ntmps29
  go_upto_region 1 with (fail)
  generalize w.alloc (.cells #[.slice A0 d.lo.length c0, .slice A1 d.ts.length c1, .slice A2 d.ag.length c2, .slice A3 d.ce.length c3, .slice A4 d.vo.length c4, .int .i64 d.nx] 41) = W at *
  obtain ⟨x0, x1, x2, x3, x4, x5, x6⟩ := boxP Q0.out
  go_wp2_with fail
  refine (HMO.out _ HB.out).mono ?_
  rintro e w1 ⟨rfl, b1⟩
  replace Q0 := Lib.hid (box_on Q0.out b1)
  replace HB := Lib.hid (bstep HB.out b1)
  clear b1 x0 x1 x2 x3 x4 x5 x6
  have b1 := bal1 w1 (.cells #[.slice A0 d.lo.length c0, .slice A1 d.ts.length c1, .slice A2 d.ag.length c2, .slice A3 d.ce.length c3] 113)
  have QM := Lib.hid (al1 w1 (.cells #[.slice A0 d.lo.length c0, .slice A1 d.ts.length c1, .slice A2 d.ag.length c2, .slice A3 d.ce.length c3] 113))
  replace Q0 := Lib.hid (box_on Q0.out b1)
  replace HB := Lib.hid (bstep HB.out b1)
  clear b1
  go_upto_region 2 with (fail)
  generalize w1.alloc (.cells #[.slice A0 d.lo.length c0, .slice A1 d.ts.length c1, .slice A2 d.ag.length c2, .slice A3 d.ce.length c3] 113) = W2 at *
  obtain ⟨x0, x1, x2, x3, x4, x5, x6⟩ := boxP Q0.out
  obtain ⟨y0, y1, y2, y3, y4⟩ := box4 QM.out
  go_wp2_with fail
  refine (HT.out _ HB.out).mono ?_
  rintro e w5 ⟨rfl, b1⟩
  clear x0 x1 x2 x3 x4 x5 x6 y0 y1 y2 y3 y4
  replace Q0 := Lib.hid (box_on Q0.out b1)
  replace QM := Lib.hid (box_on QM.out b1)
  replace HB := Lib.hid (bstep HB.out b1)
  clear b1
  cases tb
  · have HF : Hid (R = false) := Lib.hid (by rw [HX.out]; simp only [Bool.false_and, Bool.and_false, Bool.true_and, Bool.and_true])
    go_wp2
    go_ret
    exact ⟨by rw [HF.out]; rfl, HB.out⟩
  · skip
    obtain ⟨x0, x1, x2, x3, x4, x5, x6⟩ := boxP Q0.out
    obtain ⟨y0, y1, y2, y3, y4⟩ := box4 QM.out
    go_wp2_with fail
    refine (HA.out _ HB.out).mono ?_
    rintro e w6 ⟨rfl, b1⟩
    clear x0 x1 x2 x3 x4 x5 x6 y0 y1 y2 y3 y4
    replace Q0 := Lib.hid (box_on Q0.out b1)
    replace QM := Lib.hid (box_on QM.out b1)
    replace HB := Lib.hid (bstep HB.out b1)
    clear b1
    cases ab
    · have HF : Hid (R = false) := Lib.hid (by rw [HX.out]; simp only [Bool.false_and, Bool.and_false, Bool.true_and, Bool.and_true])
      go_wp2
      go_ret
      exact ⟨by rw [HF.out]; rfl, HB.out⟩
    · skip
      obtain ⟨x0, x1, x2, x3, x4, x5, x6⟩ := boxP Q0.out
      obtain ⟨y0, y1, y2, y3, y4⟩ := box4 QM.out
      go_wp2_with fail
      refine (HC.out _ HB.out).mono ?_
      rintro e w7 ⟨rfl, b1⟩
      clear x0 x1 x2 x3 x4 x5 x6 y0 y1 y2 y3 y4
      replace Q0 := Lib.hid (box_on Q0.out b1)
      replace QM := Lib.hid (box_on QM.out b1)
      replace HB := Lib.hid (bstep HB.out b1)
      clear b1
      cases cb
      · have HF : Hid (R = false) := Lib.hid (by rw [HX.out]; simp only [Bool.false_and, Bool.and_false, Bool.true_and, Bool.and_true])
        go_wp2
        go_ret
        exact ⟨by rw [HF.out]; rfl, HB.out⟩
      · skip
        obtain ⟨x0, x1, x2, x3, x4, x5, x6⟩ := boxP Q0.out
        obtain ⟨y0, y1, y2, y3, y4⟩ := box4 QM.out
        go_wp2_with fail
        refine (HN.out _ HB.out).mono ?_
        rintro e w8 ⟨rfl, b1⟩
        clear x0 x1 x2 x3 x4 x5 x6 y0 y1 y2 y3 y4
        replace Q0 := Lib.hid (box_on Q0.out b1)
        replace QM := Lib.hid (box_on QM.out b1)
        replace HB := Lib.hid (bstep HB.out b1)
        clear b1
        cases nb
        · have HF : Hid (R = false) := Lib.hid (by rw [HX.out]; simp only [Bool.false_and, Bool.and_false, Bool.true_and, Bool.and_true])
          go_wp2
          go_ret
          exact ⟨by rw [HF.out]; rfl, HB.out⟩
        · skip
          obtain ⟨x0, x1, x2, x3, x4, x5, x6⟩ := boxP Q0.out
          obtain ⟨y0, y1, y2, y3, y4⟩ := box4 QM.out
          go_wp2_with fail
          refine (HV.out _ HB.out).mono ?_
          rintro e w9 ⟨rfl, b1⟩
          clear x0 x1 x2 x3 x4 x5 x6 y0 y1 y2 y3 y4
          replace Q0 := Lib.hid (box_on Q0.out b1)
          replace QM := Lib.hid (box_on QM.out b1)
          replace HB := Lib.hid (bstep HB.out b1)
          clear b1
          cases vb
          · have HF : Hid (R = false) := Lib.hid (by rw [HX.out]; simp only [Bool.false_and, Bool.and_false, Bool.true_and, Bool.and_true])
            go_wp2
            go_ret
            exact ⟨by rw [HF.out]; rfl, HB.out⟩
          · skip
            obtain ⟨x0, x1, x2, x3, x4, x5, x6⟩ := boxP Q0.out
            obtain ⟨y0, y1, y2, y3, y4⟩ := box4 QM.out
            go_wp2_with fail
            refine (HE.out _ HB.out).mono ?_
            rintro e w10 ⟨rfl, b1⟩
            clear x0 x1 x2 x3 x4 x5 x6 y0 y1 y2 y3 y4
            replace Q0 := Lib.hid (box_on Q0.out b1)
            replace QM := Lib.hid (box_on QM.out b1)
            replace HB := Lib.hid (bstep HB.out b1)
            clear b1
            cases eb
            · have HF : Hid (R = false) := Lib.hid (by rw [HX.out]; simp only [Bool.false_and, Bool.and_false, Bool.true_and, Bool.and_true])
              go_wp2
              go_ret
              exact ⟨by rw [HF.out]; rfl, HB.out⟩
            · skip
              obtain ⟨x0, x1, x2, x3, x4, x5, x6⟩ := boxP Q0.out
              obtain ⟨y0, y1, y2, y3, y4⟩ := box4 QM.out
              go_wp2_with fail
              refine (HM.out _ HB.out).mono ?_
              rintro e w11 ⟨rfl, b1⟩
              clear x0 x1 x2 x3 x4 x5 x6 y0 y1 y2 y3 y4
              replace Q0 := Lib.hid (box_on Q0.out b1)
              replace QM := Lib.hid (box_on QM.out b1)
              replace HB := Lib.hid (bstep HB.out b1)
              clear b1
              cases mb
              · have HF : Hid (R = false) := Lib.hid (by rw [HX.out]; simp only [Bool.false_and, Bool.and_false, Bool.true_and, Bool.and_true])
                go_wp2
                go_ret
                exact ⟨by rw [HF.out]; rfl, HB.out⟩
              · have HF : Hid (R = true) := Lib.hid (by rw [HX.out]; simp only [Bool.false_and, Bool.and_false, Bool.true_and, Bool.and_true])
                go_wp2
                go_ret
                exact ⟨by rw [HF.out]; rfl, HB.out⟩
end Go.Proofs.YtpfepcjbhchpcaaGreat
namespace Go.Proofs.YtpfepcjbhchpcaaGreat
open Go.RowKit
set_option maxRecDepth 100000
set_option linter.unusedSimpArgs false
set_option linter.unusedVariables false

theorem PoolC.ages {t : TypeId} {w w1 : World} {S : Nat → Prop} {vl vn va vc vv va' : Value} {d : PoolD} {ag : List AgeD} (h : PoolC t w S vl vn va vc vv d) (b : Below w.heap.size w w1) (o : Owns w1 (fun k => w.heap.size ≤ k) va' (agesD ag)) : PoolC t w1 (fun k => S k ∨ w.heap.size ≤ k) vl vn va' vc vv { d with ag := ag } := by
  obtain ⟨P, Q, R, T, p1, p2, p3, p4, p5, p6, p7, h1, h2, h3, h4⟩ := (h.lt).on b
  exact ⟨P, fun k => w.heap.size ≤ k, R, T, fun k hk => .inl (p1 k hk).1, fun k hk => .inr hk, fun k hk => .inl (p3 k hk).1, fun k hk => .inl (p4 k hk).1, fun k hk => ⟨fun h => by have := (p1 k hk).2; omega, (p5 k hk).2.1, (p5 k hk).2.2⟩, fun k hk => ⟨fun h => by have := (p3 k h).2; omega, fun h => by have := (p4 k h).2; omega⟩, p7, h1, o, h3, h4⟩
theorem PoolC.vols {t : TypeId} {w w1 : World} {S : Nat → Prop} {vl vn va vc vv vv' : Value} {d : PoolD} {vo : List VolD} (h : PoolC t w S vl vn va vc vv d) (b : Below w.heap.size w w1) (o : Owns w1 (fun k => w.heap.size ≤ k) vv' (volsD vo)) : PoolC t w1 (fun k => S k ∨ w.heap.size ≤ k) vl vn va vc vv' { d with vo := vo } := by
  obtain ⟨P, Q, R, T, p1, p2, p3, p4, p5, p6, p7, h1, h2, h3, h4⟩ := (h.lt).on b
  exact ⟨P, Q, R, fun k => w.heap.size ≤ k, fun k hk => .inl (p1 k hk).1, fun k hk => .inl (p2 k hk).1, fun k hk => .inl (p3 k hk).1, fun k hk => .inr hk, fun k hk => ⟨(p5 k hk).1, (p5 k hk).2.1, fun h => by have := (p1 k hk).2; omega⟩, fun k hk => ⟨(p6 k hk).1, fun h => by have := (p2 k hk).2; omega⟩, fun k hk h => by have := (p3 k hk).2; omega, h1, h2, h3, o⟩
theorem PoolC.cels {t t' : TypeId} {w w1 : World} {S : Nat → Prop} {vl vn va vc vv vc' : Value} {d : PoolD} {ce : List CelD} (h : PoolC t w S vl vn va vc vv d) (b : Below w.heap.size w w1) (o : Owns w1 (fun k => w.heap.size ≤ k) vc' (celsT t' ce)) : PoolC t' w1 (fun k => S k ∨ w.heap.size ≤ k) vl vn va vc' vv { d with ce := ce } := by
  obtain ⟨P, Q, R, T, p1, p2, p3, p4, p5, p6, p7, h1, h2, h3, h4⟩ := (h.lt).on b
  exact ⟨P, Q, fun k => w.heap.size ≤ k, T, fun k hk => .inl (p1 k hk).1, fun k hk => .inl (p2 k hk).1, fun k hk => .inr hk, fun k hk => .inl (p4 k hk).1, fun k hk => ⟨(p5 k hk).1, fun h => by have := (p1 k hk).2; omega, (p5 k hk).2.2⟩, fun k hk => ⟨fun h => by have := (p2 k hk).2; omega, (p6 k hk).2⟩, fun k hk h => by have := (p4 k h).2; omega, h1, h2, o, h4⟩
theorem PoolC.tree {t : TypeId} {w w1 : World} {S : Nat → Prop} {vl vn va vc vv vl' vn' : Value} {d : PoolD} {lo : List Int} {ts : List NodeD} (h : PoolC t w S vl vn va vc vv d) (b : Below w.heap.size w w1) (o : TreeC w1 (fun k => w.heap.size ≤ k) vl' vn' lo ts) : PoolC t w1 (fun k => S k ∨ w.heap.size ≤ k) vl' vn' va vc vv { d with lo := lo, ts := ts } := by
  obtain ⟨P, Q, R, T, p1, p2, p3, p4, p5, p6, p7, h1, h2, h3, h4⟩ := (h.lt).on b
  exact ⟨fun k => w.heap.size ≤ k, Q, R, T, fun k hk => .inr hk, fun k hk => .inl (p2 k hk).1, fun k hk => .inl (p3 k hk).1, fun k hk => .inl (p4 k hk).1, fun k hk => ⟨fun h => by have := (p2 k h).2; omega, fun h => by have := (p3 k h).2; omega, fun h => by have := (p4 k h).2; omega⟩, p6, p7, o, h2, h3, h4⟩
theorem PoolC.next {t : TypeId} {w : World} {S : Nat → Prop} {vl vn va vc vv : Value} {d : PoolD} (h : PoolC t w S vl vn va vc vv d) (n : Int) : PoolC t w S vl vn va vc vv { d with nx := n } := h
end Go.Proofs.YtpfepcjbhchpcaaGreat
namespace Go.Proofs.YtpfepcjbhchpcaaGreat
open Go.RowKit
set_option maxRecDepth 100000
set_option linter.unusedSimpArgs false
set_option linter.unusedVariables false

/-- What a loop that appends volumes to a row of its own holds on to. -/
def GrowVol (w wr : World) (o : Value) (m : List VolD) : Prop := RowVol wr w.heap.size o m ∧ Below w.heap.size w wr
theorem GrowVol.on {w wr w' : World} {o : Value} {m : List VolD} (h : GrowVol w wr o m) (hb : Below wr.heap.size wr w') : GrowVol w w' o m := ⟨h.1.on hb, bstep h.2 hb⟩
end Go.Proofs.YtpfepcjbhchpcaaGreat
namespace Go.Proofs.YtpfepcjbhchpcaaGreat
open Go.RowKit
set_option maxRecDepth 100000
set_option linter.unusedSimpArgs false
set_option linter.unusedVariables false

theorem near_eq (path : List Int) (o : Option KeyD) (k : KeyD) : nearB path o k = (decide (k.b ∈ path) && (!o.isSome || decide ((o.getD zK).b < k.b))) := by
  cases o <;> simp [nearB]
theorem al4 (w : World) (o p q r : Obj) : ((((w.alloc o).alloc p).alloc q).alloc r).heap[w.heap.size]? = some o ∧ ((((w.alloc o).alloc p).alloc q).alloc r).heap[w.heap.size + 1]? = some p ∧ ((((w.alloc o).alloc p).alloc q).alloc r).heap[w.heap.size + 1 + 1]? = some q ∧ ((((w.alloc o).alloc p).alloc q).alloc r).heap[w.heap.size + 1 + 1 + 1]? = some r :=
  ⟨box_on (al3 w o p q).1 (bal1 _ _), box_on (al3 w o p q).2.1 (bal1 _ _), box_on (al3 w o p q).2.2 (bal1 _ _), by have := al1 (((w.alloc o).alloc p).alloc q) r; simpa using this⟩
theorem box_setsK {w : World} {p : Nat} {t : TypeId} {z1 z2 z3 z4 z5 u1 u2 u3 u4 u5 : Value} (h : w.heap[p]? = some (.cells #[z1, z2, z3, z4, z5] t (0, 0))) : (((((w.setCell ⟨p, 0, none⟩ u1).setCell ⟨p, 1, none⟩ u2).setCell ⟨p, 2, none⟩ u3).setCell ⟨p, 3, none⟩ u4).setCell ⟨p, 4, none⟩ u5).heap[p]? = some (.cells #[u1, u2, u3, u4, u5] t (0, 0)) :=
  heap_setCell_same _ _ _ _ _ _ (heap_setCell_same _ _ _ _ _ _ (heap_setCell_same _ _ _ _ _ _ (heap_setCell_same _ _ _ _ _ _ (heap_setCell_same _ _ _ _ _ _ h))))
set_option maxHeartbeats 1000000 in
theorem near1_any (k x : KeyD) (f : Bool) (path : List Int) (vp : Value) (pp pf pb : Nat) (w : World) (hv : Reads w w.heap.size vp (intsD path)) (hn : path.length ≤ 2097152)
    (h1 : w.heap[pp]? = some (.cells #[vp] 22 (0, 0))) (h2 : w.heap[pf]? = some (.cells #[.bool f] 4 (0, 0))) (h3 : w.heap[pb]? = some (.cells #[.int .i64 x.a, .int .i64 x.b, .int .i64 x.c, .int .i64 x.d, .int .i64 x.e] 58 (0, 0))) :
    Calls Tryz.prog 231 #[k.v, .pointer (some ⟨pp, 0, none⟩), .pointer (some ⟨pf, 0, none⟩), .pointer (some ⟨pb, 0, none⟩)] w (SaysBool w (decide (k.b ∈ path) && (!f || decide (x.b < k.b)))) := by
  obtain ⟨A, c, rfl, _, _⟩ := hv.lenN
  unfold KeyD.v keyV
  obtain ⟨n, hnl⟩ : ∃ n, path.length = n := ⟨_, rfl⟩
  have HC := Lib.hid (fun W (h : Reads W W.heap.size (.slice A path.length c) (intsD path)) => contains_any _ path k.b W h hn)
  have Q0 := Lib.hid (al1 w (.cells #[.int .i64 k.a, .int .i64 k.b, .int .i64 k.c, .int .i64 k.d, .int .i64 k.e] 58))
  have b0 := bal1 w (.cells #[.int .i64 k.a, .int .i64 k.b, .int .i64 k.c, .int .i64 k.d, .int .i64 k.e] 58)
  have HB := Lib.hid b0
  have HV := Lib.hid (hv.on b0)
  have P1 := Lib.hid (box_on h1 b0)
  have P2 := Lib.hid (box_on h2 b0)
  have P3 := Lib.hid (box_on h3 b0)
  clear hv h1 h2 h3 b0
  rw [hnl] at HC HV P1
  obtain ⟨M, hM⟩ : ∃ M, decide (k.b ∈ path) = M := ⟨_, rfl⟩
  obtain ⟨G, hG⟩ : ∃ G, decide (x.b < k.b) = G := ⟨_, rfl⟩
  rw [hM] at HC ⊢
  rw [hG]
  clear hM hnl
  go_enter Tryz.func231, Tryz.ntmps231
  go_upto_region 1 with (fail)
  generalize w.alloc (.cells #[.int .i64 k.a, .int .i64 k.b, .int .i64 k.c, .int .i64 k.d, .int .i64 k.e] 58) = W at *
  obtain ⟨x0, x1, x2, x3, x4, x5⟩ := box5 Q0.out
  obtain ⟨y0, y1⟩ := boxC P1.out
  obtain ⟨f0, f1⟩ := boxC P2.out
  obtain ⟨z0, z1, z2, z3, z4, z5⟩ := box5 P3.out
  go_wp2_with fail
  refine (HC.out _ HV.out).mono ?_
  rintro r w1 ⟨rfl, rfl⟩
  cases M
  · cases f
    all_goals
      go_wp2
      go_ret
      exact ⟨rfl, HB.out⟩
  · cases f
    · go_wp2
      go_ret
      exact ⟨rfl, HB.out⟩
    · cases G
      all_goals
        go_wp2
        go_ret
        exact ⟨rfl, HB.out⟩
theorem near_no {l : List KeyD} {k : Nat} {path : List Int} {o R : Option KeyD} (h : k < l.length) (hn : nearB path o l[k] = false) (hf : (l.drop k).foldl (nearS path) o = R) : (l.drop (k + 1)).foldl (nearS path) o = R := by
  rw [drop_at h, List.foldl_cons] at hf
  unfold nearS at hf
  rw [hn] at hf
  exact hf
theorem near_yes {l : List KeyD} {k : Nat} {path : List Int} {o R : Option KeyD} (h : k < l.length) (hn : nearB path o l[k] = true) (hf : (l.drop k).foldl (nearS path) o = R) : (l.drop (k + 1)).foldl (nearS path) (some l[k]) = R := by
  rw [drop_at h, List.foldl_cons] at hf
  unfold nearS at hf
  rw [hn] at hf
  exact hf
theorem heap_far5 {w : World} {g i : Nat} {u1 u2 u3 u4 u5 : Value} {o : Obj} (h : w.heap[i]? = some o) (hne : i ≠ g) : (((((w.setCell ⟨g, 0, none⟩ u1).setCell ⟨g, 1, none⟩ u2).setCell ⟨g, 2, none⟩ u3).setCell ⟨g, 3, none⟩ u4).setCell ⟨g, 4, none⟩ u5).heap[i]? = some o :=
  heap_far (heap_far (heap_far (heap_far (heap_far h hne) hne) hne) hne) hne
theorem near_stores {w W : World} {n : Nat} {x k : KeyD} {f : Bool} {o0 o1 : Obj} (h0 : w.heap[n]? = some o0) (h1 : w.heap[n + 1]? = some o1) (h2 : w.heap[n + 1 + 1]? = some (.cells #[.int .i64 x.a, .int .i64 x.b, .int .i64 x.c, .int .i64 x.d, .int .i64 x.e] 58 (0, 0))) (h3 : w.heap[n + 1 + 1 + 1]? = some (.cells #[.bool f] 4 (0, 0))) (hb : Below n W w) :
    ((((((w.setCell ⟨n + 1 + 1, 0, none⟩ (.int .i64 k.a)).setCell ⟨n + 1 + 1, 1, none⟩ (.int .i64 k.b)).setCell ⟨n + 1 + 1, 2, none⟩ (.int .i64 k.c)).setCell ⟨n + 1 + 1, 3, none⟩ (.int .i64 k.d)).setCell ⟨n + 1 + 1, 4, none⟩ (.int .i64 k.e)).setCell ⟨n + 1 + 1 + 1, 0, none⟩ (.bool true)).heap[n]? = some o0 ∧ ((((((w.setCell ⟨n + 1 + 1, 0, none⟩ (.int .i64 k.a)).setCell ⟨n + 1 + 1, 1, none⟩ (.int .i64 k.b)).setCell ⟨n + 1 + 1, 2, none⟩ (.int .i64 k.c)).setCell ⟨n + 1 + 1, 3, none⟩ (.int .i64 k.d)).setCell ⟨n + 1 + 1, 4, none⟩ (.int .i64 k.e)).setCell ⟨n + 1 + 1 + 1, 0, none⟩ (.bool true)).heap[n + 1]? = some o1 ∧ ((((((w.setCell ⟨n + 1 + 1, 0, none⟩ (.int .i64 k.a)).setCell ⟨n + 1 + 1, 1, none⟩ (.int .i64 k.b)).setCell ⟨n + 1 + 1, 2, none⟩ (.int .i64 k.c)).setCell ⟨n + 1 + 1, 3, none⟩ (.int .i64 k.d)).setCell ⟨n + 1 + 1, 4, none⟩ (.int .i64 k.e)).setCell ⟨n + 1 + 1 + 1, 0, none⟩ (.bool true)).heap[n + 1 + 1]? = some (.cells #[.int .i64 k.a, .int .i64 k.b, .int .i64 k.c, .int .i64 k.d, .int .i64 k.e] 58 (0, 0)) ∧ ((((((w.setCell ⟨n + 1 + 1, 0, none⟩ (.int .i64 k.a)).setCell ⟨n + 1 + 1, 1, none⟩ (.int .i64 k.b)).setCell ⟨n + 1 + 1, 2, none⟩ (.int .i64 k.c)).setCell ⟨n + 1 + 1, 3, none⟩ (.int .i64 k.d)).setCell ⟨n + 1 + 1, 4, none⟩ (.int .i64 k.e)).setCell ⟨n + 1 + 1 + 1, 0, none⟩ (.bool true)).heap[n + 1 + 1 + 1]? = some (.cells #[.bool true] 4 (0, 0)) ∧ Below n W ((((((w.setCell ⟨n + 1 + 1, 0, none⟩ (.int .i64 k.a)).setCell ⟨n + 1 + 1, 1, none⟩ (.int .i64 k.b)).setCell ⟨n + 1 + 1, 2, none⟩ (.int .i64 k.c)).setCell ⟨n + 1 + 1, 3, none⟩ (.int .i64 k.d)).setCell ⟨n + 1 + 1, 4, none⟩ (.int .i64 k.e)).setCell ⟨n + 1 + 1 + 1, 0, none⟩ (.bool true)) ∧ ((((((w.setCell ⟨n + 1 + 1, 0, none⟩ (.int .i64 k.a)).setCell ⟨n + 1 + 1, 1, none⟩ (.int .i64 k.b)).setCell ⟨n + 1 + 1, 2, none⟩ (.int .i64 k.c)).setCell ⟨n + 1 + 1, 3, none⟩ (.int .i64 k.d)).setCell ⟨n + 1 + 1, 4, none⟩ (.int .i64 k.e)).setCell ⟨n + 1 + 1 + 1, 0, none⟩ (.bool true)).heap.size = w.heap.size :=
  ⟨heap_far (heap_far5 h0 (by omega)) (by omega), heap_far (heap_far5 h1 (by omega)) (by omega), heap_far (box_setsK h2) (by omega), heap_setCell_same _ _ _ _ _ _ (heap_far5 h3 (by omega)), (b5' hb (by omega)).setCell (p := ⟨n + 1 + 1 + 1, 0, none⟩) (by show n ≤ n + 1 + 1 + 1; omega) _, by simp⟩
set_option maxHeartbeats 4000000 in
theorem nearestKey_any (v vp : Value) (l : List KeyD) (path : List Int) (w : World) (hv : Reads w w.heap.size v (keysD l)) (hvp : Reads w w.heap.size vp (intsD path)) (hn : l.length ≤ 2097152) (hnp : path.length ≤ 2097152) :
    Calls Tryz.prog 203 #[v, vp] w (SaysFind w (nearK l path)) := by
  obtain ⟨A, c, rfl, _, _⟩ := hv.shapeK
  obtain ⟨Ap, cp, rfl, _, _⟩ := hvp.lenN
  have hmf : ∀ (fn : Fn) (first cap : Array Value) (w : World), (Instr.makeFunc fn first cap).run Tryz.prog w = .ok (.func fn first cap) w := fun _ _ _ _ => rfl
  have HT := Lib.hid near1_any
  unfold KeyD.v keyV at HT
  unfold SaysFind KeyD.v keyV
  obtain ⟨R, hR⟩ : ∃ R, nearK l path = R := ⟨_, rfl⟩
  rw [hR]
  unfold nearK at hR
  obtain ⟨q0, q1, q2, q3⟩ := al4 w (.cells #[.slice Ap path.length cp] 22) (.cells #[.int .i64 0, .int .i64 0, .int .i64 0, .int .i64 0, .int .i64 0] 58) (.cells #[.int .i64 0, .int .i64 0, .int .i64 0, .int .i64 0, .int .i64 0] 58) (.cells #[.bool false] 4)
  have hb := bal4 w (.cells #[.slice Ap path.length cp] 22) (.cells #[.int .i64 0, .int .i64 0, .int .i64 0, .int .i64 0, .int .i64 0] 58) (.cells #[.int .i64 0, .int .i64 0, .int .i64 0, .int .i64 0, .int .i64 0] 58) (.cells #[.bool false] 4)
  have HV := Lib.hid hv
  have HVP := Lib.hid hvp
  have HB := Lib.hid hb
  have Q0 := Lib.hid q0
  have Q1 := Lib.hid q1
  have Q2 := Lib.hid q2
  have Q3 := Lib.hid q3
  have HSZ : Hid (((((w.alloc (.cells #[.slice Ap path.length cp] 22)).alloc (.cells #[.int .i64 0, .int .i64 0, .int .i64 0, .int .i64 0, .int .i64 0] 58)).alloc (.cells #[.int .i64 0, .int .i64 0, .int .i64 0, .int .i64 0, .int .i64 0] 58)).alloc (.cells #[.bool false] 4)).heap.size = w.heap.size + 1 + 1 + 1 + 1) := Lib.hid (by simp)
  have HR := Lib.hid hR
  clear hv hvp hb q0 q1 q2 q3 hR
  go_enter Tryz.func203, Tryz.ntmps203
  go_upto_region 4 with (fail)
  generalize (((w.alloc (.cells #[.slice Ap path.length cp] 22)).alloc (.cells #[.int .i64 0, .int .i64 0, .int .i64 0, .int .i64 0, .int .i64 0] 58)).alloc (.cells #[.int .i64 0, .int .i64 0, .int .i64 0, .int .i64 0, .int .i64 0] 58)).alloc (.cells #[.bool false] 4) = W at *
  go_wp2
  go_loopw [10, 14] (fun _ i wr => ∃ (k : Nat) (x : KeyD) (f : Bool) (o : Option KeyD), k ≤ l.length ∧ i = .int .i64 k ∧ Hid (o.isSome = f ∧ o.getD zK = x) ∧ Hid ((l.drop k).foldl (nearS path) o = R) ∧ Hid (wr.heap[w.heap.size]? = some (.cells #[.slice Ap path.length cp] 22 (0, 0))) ∧ Hid (wr.heap[w.heap.size + 1]? = some (.cells #[.int .i64 0, .int .i64 0, .int .i64 0, .int .i64 0, .int .i64 0] 58 (0, 0))) ∧ Hid (wr.heap[w.heap.size + 1 + 1]? = some (.cells #[.int .i64 x.a, .int .i64 x.b, .int .i64 x.c, .int .i64 x.d, .int .i64 x.e] 58 (0, 0))) ∧ Hid (wr.heap[w.heap.size + 1 + 1 + 1]? = some (.cells #[.bool f] 4 (0, 0))) ∧ Hid (Below w.heap.size w wr) ∧ Hid (w.heap.size + 1 + 1 + 1 + 1 ≤ wr.heap.size)) (fun _ i _ => l.length - (intOf i).toNat)
  case atStart => exact ⟨0, ⟨0, 0, 0, 0, 0⟩, false, none, Nat.zero_le _, rfl, Lib.hid ⟨rfl, rfl⟩, HR, Q0, Q1, Q2, Q3, HB, Lib.hid (Nat.le_of_eq HSZ.out.symm)⟩
  case round =>
    clear Q0 Q1 Q2 Q3 HB HSZ HR
    obtain ⟨k, x, f, o, hk, rfl, HO, HI, Q0, Q1, Q2, Q3, HB, HZ⟩ := hrel
    by_cases hlt : k < l.length
    · obtain ⟨b, off, rfl, hbb, hc⟩ := (HV.out.on HB.out).keys hlt
      have i1 : (k : Int) < (l.length : Int) := by omega
      have i2 : (0 : Int) ≤ (k : Int) := by omega
      obtain ⟨c0, c1, c2, c3, c4⟩ := hc k hlt
      have ba := bal1 wr (.cells #[.int .i64 (l[k]).a, .int .i64 (l[k]).b, .int .i64 (l[k]).c, .int .i64 (l[k]).d, .int .i64 (l[k]).e] 58)
      have QK := Lib.hid (al1 wr (.cells #[.int .i64 (l[k]).a, .int .i64 (l[k]).b, .int .i64 (l[k]).c, .int .i64 (l[k]).d, .int .i64 (l[k]).e] 58))
      have P0 := Lib.hid (box_on Q0.out ba)
      have P1 := Lib.hid (box_on Q1.out ba)
      have P2 := Lib.hid (box_on Q2.out ba)
      have P3 := Lib.hid (box_on Q3.out ba)
      have BA := Lib.hid (bstep HB.out ba)
      have Z1 := Lib.hid (Nat.le_trans HZ.out ba.size)
      obtain ⟨N, hN⟩ : ∃ N, (decide ((l[k]).b ∈ path) && (!f || decide (x.b < (l[k]).b))) = N := ⟨_, rfl⟩
      have HNB : Hid (nearB path o l[k] = N) := Lib.hid (by rw [near_eq, HO.out.1, HO.out.2, hN])
      have HN := Lib.hid hN
      clear hc ba hN Q0 Q1 Q2 Q3 HB HZ
      cases N
      · go_wp2_with fail
        go_at_call 231
        refine (HT.out l[k] x f path _ _ _ _ _ (HVP.out.on BA.out) (by omega) P0.out P3.out P2.out).mono ?_
        rintro r w8 ⟨rfl, b8⟩
        rw [HN.out]
        have R0 := Lib.hid (box_on P0.out b8)
        have R1 := Lib.hid (box_on P1.out b8)
        have R2 := Lib.hid (box_on P2.out b8)
        have R3 := Lib.hid (box_on P3.out b8)
        have B8 := Lib.hid (bstep BA.out b8)
        have Z8 := Lib.hid (Nat.le_trans Z1.out b8.size)
        clear b8 c0 c1 c2 c3 c4 P0 P1 P2 P3 BA Z1 QK
        go_wp2
        go_roundw
        case rel => exact ⟨k + 1, x, f, o, by omega, by go_num, HO, Lib.hid (near_no hlt HNB.out HI.out), R0, R1, R2, R3, B8, Z8⟩
        case measure => simp [intOf]; omega
      · go_wp2_with fail
        go_at_call 231
        refine (HT.out l[k] x f path _ _ _ _ _ (HVP.out.on BA.out) (by omega) P0.out P3.out P2.out).mono ?_
        rintro r w8 ⟨rfl, b8⟩
        rw [HN.out]
        obtain ⟨k0, k1, k2, k3, k4, k5⟩ := box5 (box_on QK.out b8)
        obtain ⟨y0, y1, y2, y3, y4, y5⟩ := box5 (box_on P2.out b8)
        obtain ⟨f0, f1⟩ := boxC (box_on P3.out b8)
        have NS := Lib.hid (near_stores (k := l[k]) (box_on P0.out b8) (box_on P1.out b8) (box_on P2.out b8) (box_on P3.out b8) (bstep BA.out b8))
        have Z8 := Lib.hid (Nat.le_trans Z1.out b8.size)
        clear b8 c0 c1 c2 c3 c4 P0 P1 P2 P3 BA Z1 QK
        go_wp2
        go_roundw
        case rel => exact ⟨k + 1, l[k], true, some l[k], by omega, by go_num, Lib.hid ⟨rfl, rfl⟩, Lib.hid (near_yes hlt HNB.out HI.out), Lib.hid NS.out.1, Lib.hid NS.out.2.1, Lib.hid NS.out.2.2.1, Lib.hid NS.out.2.2.2.1, Lib.hid NS.out.2.2.2.2.1, Lib.hid (by rw [NS.out.2.2.2.2.2]; exact Z8.out)⟩
        case measure => simp [intOf]; omega
    · have hF : R = o := by
        rw [← HI.out, List.drop_eq_nil_of_le (by omega)]
        rfl
      subst hF
      obtain ⟨z0, z1, z2, z3, z4, z5⟩ := box5 Q1.out
      obtain ⟨y0, y1, y2, y3, y4, y5⟩ := box5 Q2.out
      obtain ⟨f0, f1⟩ := boxC Q3.out
      have hx := HO.out.2
      have hf := HO.out.1
      clear HO HI
      go_wp2
      go_region
      all_goals (try go_wp2)
      all_goals refine bodyPost_ret (v := .tuple #[x.v, .bool f]) (by simp [results, Tryz.results203, go_sem, keyV, KeyD.v, *]) rfl ⟨by rw [hx, hf]; rfl, ?_⟩
      all_goals first | exact (b5' (g := w.heap.size + 1) HB.out (by omega)).drew | exact b5' (g := w.heap.size + 1) HB.out.drew (by omega) | fail
set_option maxHeartbeats 2000000 in
theorem implSeen_any (vl vn va : Value) (lo : List Int) (ts : List NodeD) (l : List AgeD) (p d : Int) (w : World) (hv : RdT w w.heap.size vl vn lo ts) (ha : Reads w w.heap.size va (agesD l)) (hn : ts.length ≤ 1048576) (hs : sumT ts ≤ 1048576) (hl : l.length ≤ 1048576) :
    Calls Tryz.prog 230 #[.agg #[vl, vn], va, .int .i64 p, .int .i64 d] w (SaysFind w (nearK (keysOfK ts p) (pathK l d))) := by
  obtain ⟨A, c, A', c', rfl, rfl⟩ := hv.shape
  obtain ⟨Aa, ca, rfl, _, _⟩ := ha.shapeG
  have HN := Lib.hid nearestKey_any
  unfold SaysFind KeyD.v keyV at HN
  unfold SaysFind KeyD.v keyV
  obtain ⟨q0, q1⟩ := al2 w (.cells #[.slice A lo.length c, .slice A' ts.length c'] 36) (.cells #[.int .i64 0, .int .i64 0, .int .i64 0, .int .i64 0, .int .i64 0] 58)
  have hb := bal2 w (.cells #[.slice A lo.length c, .slice A' ts.length c'] 36) (.cells #[.int .i64 0, .int .i64 0, .int .i64 0, .int .i64 0, .int .i64 0] 58)
  have HV := Lib.hid (hv.on hb)
  have HA := Lib.hid (ha.on hb)
  have HB := Lib.hid hb
  have Q0 := Lib.hid q0
  have Q1 := Lib.hid q1
  have HKL := Lib.hid (keysOf_len ts p)
  have HPL := Lib.hid (pathK_len l d)
  obtain ⟨F, hF⟩ : ∃ F, nearK (keysOfK ts p) (pathK l d) = F := ⟨_, rfl⟩
  rw [hF]
  have HF := Lib.hid hF
  clear hv ha hb q0 q1 hF
  go_enter Tryz.func230, Tryz.ntmps230
  go_upto_region 1 with (fail)
  generalize (w.alloc (.cells #[.slice A lo.length c, .slice A' ts.length c'] 36)).alloc (.cells #[.int .i64 0, .int .i64 0, .int .i64 0, .int .i64 0, .int .i64 0] 58) = W at *
  obtain ⟨x0, x1, x2⟩ := box2 Q0.out
  go_wp2_with fail
  refine (implKeysOf_any _ _ lo ts p _ HV.out hn hs).mono ?_
  rintro r w1 ⟨v1, rfl, o1, b1⟩
  obtain ⟨A1, c1, rfl, _, _⟩ := o1.shape
  have O1 := Lib.hid o1
  replace HA := Lib.hid (HA.out.on b1)
  replace HB := Lib.hid (bstep HB.out b1)
  replace Q1 := Lib.hid (box_on Q1.out b1)
  clear o1 b1 x0 x1 x2 Q0 HV
  go_wp2_with fail
  refine (implPathOf_any _ l d _ HA.out (by omega)).mono ?_
  rintro r w2 ⟨v2, rfl, o2, b2⟩
  obtain ⟨A2, c2, rfl, _, _⟩ := o2.shape
  have O2 := Lib.hid o2
  replace O1 := Lib.hid (O1.out.on b2)
  replace HB := Lib.hid (bstep HB.out b2)
  replace Q1 := Lib.hid (box_on Q1.out b2)
  clear o2 b2 HA
  go_wp2_with fail
  refine (HN.out _ _ (keysOfK ts p) (pathK l d) _ O1.out.owns.reads O2.out.owns.reads (by have := HKL.out; omega) (by have := HPL.out; omega)).mono ?_
  rintro r w3 ⟨rfl, b3⟩
  rw [HF.out]
  replace HB := Lib.hid (bstep HB.out b3)
  replace Q1 := Lib.hid (box_on Q1.out b3)
  clear b3 O1 O2
  obtain ⟨y0, y1, y2, y3, y4, y5⟩ := box5 Q1.out
  go_wp2
  refine bodyPost_ret (v := .tuple #[(F.getD zK).v, .bool F.isSome]) (by simp [results, Tryz.results230, go_sem, keyV, KeyD.v, *]) rfl ⟨rfl, ?_⟩
  exact b5' HB.out (by omega)
theorem reads_tailI {w : World} {A : Option Addr} {c : Nat} {l : List Int} (h : Reads w w.heap.size (.slice A l.length c) (intsD l)) (hc : l.length ≤ c) (hm : c ≤ maxLen) : Reads w w.heap.size (.slice (tailA A c 1) (l.length - 1) (c - 1)) (intsD l.tail) := by
  have hat := (h.atI).tailV (c := c) (j := 1) (by simpa using hc)
  have hl : l.tail.length = l.length - 1 := List.length_tail
  rw [← hl]
  refine Reads.ofBytes (xs := l.tail.map iV) (by omega) (by omega) (by simp) (by omega) ?_
  rw [show (l.map iV).drop 1 = l.tail.map iV by simp] at hat
  rcases hat with h0 | ⟨b, off, hA, hcell⟩
  · left
    have : l.tail = [] := List.map_eq_nil_iff.1 h0
    rw [this]
    rfl
  · by_cases h0 : l.tail = []
    · left
      rw [h0]
      rfl
    · right
      have hpos : 0 < (l.tail.map iV).length := by
        rw [List.length_map]
        exact List.length_pos_iff.2 h0
      refine ⟨b, off, hA, World.block_lt_of_cell? w _ (hcell 0 hpos), by simp, hcell, fun i hi h' => ?_⟩
      simp only [List.getElem_map]
      exact .lit _
set_option maxHeartbeats 4000000 in
theorem implSeenAbove_any (vl vn va : Value) (lo : List Int) (ts : List NodeD) (l : List AgeD) (p d : Int) (w : World) (hv : RdT w w.heap.size vl vn lo ts) (ha : Reads w w.heap.size va (agesD l)) (hn : ts.length ≤ 1048576) (hs : sumT ts ≤ 1048576) (hl : l.length ≤ 1048576) :
    Calls Tryz.prog 153 #[.agg #[vl, vn], va, .int .i64 p, .int .i64 d] w (SaysFind w (nearK (keysOfK ts p) (pathK l d).tail)) := by
  obtain ⟨A, c, A', c', rfl, rfl⟩ := hv.shape
  obtain ⟨Aa, ca, rfl, _, _⟩ := ha.shapeG
  have HN := Lib.hid nearestKey_any
  unfold SaysFind KeyD.v keyV at HN
  unfold SaysFind KeyD.v keyV
  obtain ⟨q0, q1⟩ := al2 w (.cells #[.slice A lo.length c, .slice A' ts.length c'] 36) (.cells #[.int .i64 0, .int .i64 0, .int .i64 0, .int .i64 0, .int .i64 0] 58)
  have hb := bal2 w (.cells #[.slice A lo.length c, .slice A' ts.length c'] 36) (.cells #[.int .i64 0, .int .i64 0, .int .i64 0, .int .i64 0, .int .i64 0] 58)
  have HV := Lib.hid (hv.on hb)
  have HA := Lib.hid (ha.on hb)
  have HB := Lib.hid hb
  have Q0 := Lib.hid q0
  have Q1 := Lib.hid q1
  have HKL := Lib.hid (keysOf_len ts p)
  obtain ⟨P, hP⟩ : ∃ P, pathK l d = P := ⟨_, rfl⟩
  have hpl := pathK_len l d
  rw [hP] at hpl ⊢
  obtain ⟨F, hF⟩ : ∃ F, nearK (keysOfK ts p) P.tail = F := ⟨_, rfl⟩
  rw [hF]
  have HF := Lib.hid hF
  have HP := Lib.hid hP
  have HPL := Lib.hid hpl
  clear hv ha hb q0 q1 hF hP hpl
  go_enter Tryz.func153, Tryz.ntmps153
  go_upto_region 1 with (fail)
  generalize (w.alloc (.cells #[.slice A lo.length c, .slice A' ts.length c'] 36)).alloc (.cells #[.int .i64 0, .int .i64 0, .int .i64 0, .int .i64 0, .int .i64 0] 58) = W at *
  go_wp2_with fail
  refine (implPathOf_any _ l d _ HA.out (by omega)).mono ?_
  rintro r w2 ⟨v2, rfl, o2, b2⟩
  rw [HP.out] at o2
  obtain ⟨A2, c2, rfl, hc2, hm2⟩ := o2.shape
  have HT := Lib.hid (reads_tailI o2.owns.reads hc2 hm2)
  replace HB := Lib.hid (bstep HB.out b2)
  replace HV := Lib.hid (HV.out.on b2)
  replace Q0 := Lib.hid (box_on Q0.out b2)
  replace Q1 := Lib.hid (box_on Q1.out b2)
  clear o2 b2 HA HP
  by_cases h0 : P.length = 0
  · have hP0 : P = [] := List.length_eq_zero_iff.1 h0
    subst hP0
    have hF0 : F = none := by rw [← HF.out]; exact near_not (fun k hk hm => by simp at hm)
    have hzz : zK = ⟨0, 0, 0, 0, 0⟩ := rfl
    clear HF HN HKL HPL HT
    obtain ⟨y0, y1, y2, y3, y4, y5⟩ := box5 Q1.out
    go_wp2
    refine bodyPost_ret (v := .tuple #[(F.getD zK).v, .bool F.isSome]) (by simp [results, Tryz.results153, go_sem, keyV, KeyD.v, hF0, zK, *]) rfl ⟨rfl, ?_⟩
    exact b5' HB.out (by omega)
  · have hsl0 : ∀ W : World, (Instr.slice 22 (.slice A2 P.length c2) (some (.int .i64 1)) none none).run Tryz.prog W = .ok (.slice (tailA A2 c2 1) (P.length - 1) (c2 - 1)) W := fun W => run_tailI A2 P.length c2 1 (by omega) hc2
    obtain ⟨TL, hTL⟩ : ∃ TL, P.tail = TL := ⟨_, rfl⟩
    have HTL : Hid (TL.length ≤ P.length) := Lib.hid (by rw [← hTL, List.length_tail]; omega)
    rw [hTL] at HT HF
    clear hTL
    obtain ⟨n, hnP⟩ : ∃ n, P.length = n := ⟨_, rfl⟩
    rw [hnP] at hsl0 h0 HT HPL HTL ⊢
    have hz0 : ((n : Int) == 0) = false := beq_eq_false_iff_ne.2 (by omega)
    clear hnP hc2 hm2
    go_upto_region 4 with (fail)
    refine but_begin (f := 9) (S := fun V => V.heap[w.heap.size]? = some (.cells #[.slice A lo.length c, .slice A' ts.length c'] 36 (0, 0))) (by kernel_rfl) ?_
    refine but_take (f := 9) (i := 0) (v := ?vsa0) rfl (by kernel_rfl) (by kernel_rfl) (by kernel_rfl) (by kernel_rfl) (by kernel_rfl) (fun _ _ _ h => h) (Or.inl ⟨(by rfl), ?hysa0⟩) (Q0.out) ?restsa0
    case hysa0 =>
      intro W hW
      obtain ⟨x0, x1, x2⟩ := box2 hW
      go_simp
      exact rfl
    simp only [List.getElem_toArray, List.getElem_cons_succ, List.getElem_cons_zero, Act.put, List.setIfInBounds_toArray, List.set_cons_zero, List.set_cons_succ]
    refine but_take (f := 9) (i := 1) (v := ?vsa1) rfl (by kernel_rfl) (by kernel_rfl) (by kernel_rfl) (by kernel_rfl) (by kernel_rfl) (fun _ _ _ h => h) (Or.inl ⟨(by rfl), ?hysa1⟩) (Q0.out) ?restsa1
    case hysa1 =>
      intro W hW
      go_simp
      exact rfl
    simp only [List.getElem_toArray, List.getElem_cons_succ, List.getElem_cons_zero, Act.put, List.setIfInBounds_toArray, List.set_cons_zero, List.set_cons_succ]
    refine but_take (f := 9) (i := 3) (v := ?vsa3) rfl (by kernel_rfl) (by kernel_rfl) (by kernel_rfl) (by kernel_rfl) (by kernel_rfl) (fun _ _ _ h => h) (Or.inl ⟨(by rfl), ?hysa3⟩) (Q0.out) ?restsa3
    case hysa3 =>
      intro W hW
      go_simp
      exact rfl
    simp only [List.getElem_toArray, List.getElem_cons_succ, List.getElem_cons_zero, Act.put, List.setIfInBounds_toArray, List.set_cons_zero, List.set_cons_succ]
    refine but_take (f := 9) (i := 4) (v := ?vsa4) rfl (by kernel_rfl) (by kernel_rfl) (by kernel_rfl) (by kernel_rfl) (by kernel_rfl) (fun _ _ _ h => h) (Or.inl ⟨(by rfl), ?hysa4⟩) (Q0.out) ?restsa4
    case hysa4 =>
      intro W hW
      have hsl := hsl0 W
      go_simp
      exact rfl
    simp only [List.getElem_toArray, List.getElem_cons_succ, List.getElem_cons_zero, Act.put, List.setIfInBounds_toArray, List.set_cons_zero, List.set_cons_succ]
    refine but_run (i := 2) (by kernel_rfl) rfl (by rfl) ?_
    simp only [List.getElem_toArray, List.getElem_cons_succ, List.getElem_cons_zero]
    intro K HK
    go_wp2_with fail
    refine (implKeysOf_any _ _ lo ts p _ (HV.out.on (Below.drew1 _)) hn hs).mono ?_
    rintro r Vsa1 ⟨v1, rfl, o1, b1⟩
    obtain ⟨A1, c1, rfl, _, _⟩ := o1.shape
    have O1 := Lib.hid o1
    have B1 := Lib.hid (bstep (Below.drew1 _) b1)
    clear o1 b1
    go_wp2_with fail
    have hSsa1 : (fun V => V.heap[w.heap.size]? = some (.cells #[.slice A lo.length c, .slice A' ts.length c'] 36 (0, 0))) Vsa1 := box_on Q0.out B1.out
    refine HK.out _ _ (fun _ => hSsa1) ?_
    clear HK
    refine but_run (i := 5) (by kernel_rfl) rfl (by rfl) ?_
    simp only [List.getElem_toArray, List.getElem_cons_succ, List.getElem_cons_zero]
    intro K HK
    go_wp2_with fail
    refine (HN.out _ _ (keysOfK ts p) TL _ O1.out.owns.reads (HT.out.on B1.out) (by have := HKL.out; omega) (by have := HTL.out; have := HPL.out; omega)).mono ?_
    rintro r Vsa2 ⟨rfl, b2⟩
    rw [HF.out]
    have B2 := Lib.hid b2
    clear b2
    go_wp2_with fail
    have hSsa2 : (fun V => V.heap[w.heap.size]? = some (.cells #[.slice A lo.length c, .slice A' ts.length c'] 36 (0, 0))) Vsa2 := box_on (box_on Q0.out B1.out) B2.out
    refine HK.out _ _ (fun _ => hSsa2) ?_
    clear HK
    refine but_take (f := 9) (i := 6) (v := ?vsa6) rfl (by kernel_rfl) (by kernel_rfl) (by kernel_rfl) (by kernel_rfl) (by kernel_rfl) (fun _ _ _ h => h) (Or.inl ⟨(by rfl), ?hysa6⟩) hSsa2 ?restsa6
    case hysa6 =>
      intro W hW
      go_simp
      exact rfl
    simp only [List.getElem_toArray, List.getElem_cons_succ, List.getElem_cons_zero, Act.put, List.setIfInBounds_toArray, List.set_cons_zero, List.set_cons_succ]
    refine but_take (f := 9) (i := 7) (v := ?vsa7) rfl (by kernel_rfl) (by kernel_rfl) (by kernel_rfl) (by kernel_rfl) (by kernel_rfl) (fun _ _ _ h => h) (Or.inl ⟨(by rfl), ?hysa7⟩) hSsa2 ?restsa7
    case hysa7 =>
      intro W hW
      go_simp
      exact rfl
    simp only [List.getElem_toArray, List.getElem_cons_succ, List.getElem_cons_zero, Act.put, List.setIfInBounds_toArray, List.set_cons_zero, List.set_cons_succ]
    refine but_run (i := 8) (by kernel_rfl) rfl (by rfl) ?_
    simp only [List.getElem_toArray, List.getElem_cons_succ, List.getElem_cons_zero]
    intro K HK
    obtain ⟨y0, y1, y2, y3, y4, y5⟩ := box5 (box_on (box_on Q1.out B1.out) B2.out)
    go_wp2_with fail
    have hSsa3 : (fun V => V.heap[w.heap.size]? = some (.cells #[.slice A lo.length c, .slice A' ts.length c'] 36 (0, 0))) ((((((Vsa2.setCell ⟨w.heap.size + 1, 0, none⟩ (.int .i64 (F.getD zK).a)).setCell ⟨w.heap.size + 1, 1, none⟩ (.int .i64 (F.getD zK).b)).setCell ⟨w.heap.size + 1, 2, none⟩ (.int .i64 (F.getD zK).c)).setCell ⟨w.heap.size + 1, 3, none⟩ (.int .i64 (F.getD zK).d)).setCell ⟨w.heap.size + 1, 4, none⟩ (.int .i64 (F.getD zK).e))) := heap_far5 hSsa2 (by omega)
    refine HK.out _ _ (fun _ => hSsa3) ?_
    clear HK
    refine but_run (i := 9) (by kernel_rfl) rfl (by rfl) ?_
    simp only [List.getElem_toArray, List.getElem_cons_succ, List.getElem_cons_zero]
    intro K HK
    go_wp2_with fail
    refine HK.out _ _ (fun h => absurd rfl h) ?_
    clear HK
    refine but_done (by kernel_rfl) ?_
    go_wp2
    refine bodyPost_ret (v := .tuple #[(F.getD zK).v, .bool F.isSome]) (by simp [results, Tryz.results153, go_sem, keyV, KeyD.v, *]) rfl ⟨rfl, ?_⟩
    exact b5' (bstep (bstep HB.out B1.out) B2.out) (by omega)
set_option maxHeartbeats 2000000 in
theorem implSees_any (vl vn va : Value) (lo : List Int) (ts : List NodeD) (l : List AgeD) (k : KeyD) (d : Int) (w : World) (hv : RdT w w.heap.size vl vn lo ts) (ha : Reads w w.heap.size va (agesD l)) (hn : ts.length ≤ 1048576) (hs : sumT ts ≤ 1048576) (hl : l.length ≤ 1048576) (F : Option KeyD) (hF : nearK (keysOfK ts k.a) (pathK l d) = F) :
    Calls Tryz.prog 201 #[.agg #[vl, vn], va, k.v, .int .i64 d] w (SaysBool w (F.isSome && ((F.getD zK).b == k.b))) := by
  obtain ⟨A, c, A', c', rfl, rfl⟩ := hv.shape
  obtain ⟨Aa, ca, rfl, _, _⟩ := ha.shapeG
  have HN := Lib.hid implSeen_any
  unfold SaysFind KeyD.v keyV at HN
  unfold KeyD.v keyV
  obtain ⟨q0, q1⟩ := al2 w (.cells #[.slice A lo.length c, .slice A' ts.length c'] 36) (.cells #[.int .i64 k.a, .int .i64 k.b, .int .i64 k.c, .int .i64 k.d, .int .i64 k.e] 58)
  have hb := bal2 w (.cells #[.slice A lo.length c, .slice A' ts.length c'] 36) (.cells #[.int .i64 k.a, .int .i64 k.b, .int .i64 k.c, .int .i64 k.d, .int .i64 k.e] 58)
  have HV := Lib.hid (hv.on hb)
  have HA := Lib.hid (ha.on hb)
  have HB := Lib.hid hb
  have Q0 := Lib.hid q0
  have Q1 := Lib.hid q1
  have HF := Lib.hid hF
  obtain ⟨x, hx⟩ : ∃ x, F.getD zK = x := ⟨_, rfl⟩
  obtain ⟨y, hy⟩ : ∃ y, F.isSome = y := ⟨_, rfl⟩
  obtain ⟨e, he⟩ : ∃ e, (x.b == k.b) = e := ⟨_, rfl⟩
  rw [hx, hy, he]
  have HX := Lib.hid hx
  have HY := Lib.hid hy
  clear hv ha hb q0 q1 hF hx hy
  go_enter Tryz.func201, Tryz.ntmps201
  go_upto_region 1 with (fail)
  generalize (w.alloc (.cells #[.slice A lo.length c, .slice A' ts.length c'] 36)).alloc (.cells #[.int .i64 k.a, .int .i64 k.b, .int .i64 k.c, .int .i64 k.d, .int .i64 k.e] 58) = W at *
  obtain ⟨x0, x1, x2⟩ := box2 Q0.out
  obtain ⟨y0, y1, y2, y3, y4, y5⟩ := box5 Q1.out
  go_wp2_with fail
  refine (HN.out _ _ _ lo ts l k.a d _ HV.out HA.out hn hs hl).mono ?_
  rintro r w1 ⟨rfl, b1⟩
  rw [HF.out, HX.out, HY.out]
  have ba := bal1 w1 (.cells #[.int .i64 x.a, .int .i64 x.b, .int .i64 x.c, .int .i64 x.d, .int .i64 x.e] 58)
  replace HB := Lib.hid (bstep (bstep HB.out b1) ba)
  obtain ⟨z0, z1, z2, z3, z4, z5⟩ := box5 (al1 w1 (.cells #[.int .i64 x.a, .int .i64 x.b, .int .i64 x.c, .int .i64 x.d, .int .i64 x.e] 58))
  replace Q1 := Lib.hid (box_on (box_on Q1.out b1) ba)
  clear b1 ba x0 x1 x2 y0 y1 y2 y3 y4 y5
  go_upto_region 2 with (fail)
  generalize w1.alloc (.cells #[.int .i64 x.a, .int .i64 x.b, .int .i64 x.c, .int .i64 x.d, .int .i64 x.e] 58) = W1 at *
  obtain ⟨y0, y1, y2, y3, y4, y5⟩ := box5 Q1.out
  cases y
  · go_wp2
    go_ret
    exact ⟨rfl, HB.out⟩
  · cases e
    all_goals
      go_wp2
      go_ret
      exact ⟨rfl, HB.out⟩
end Go.Proofs.YtpfepcjbhchpcaaGreat
namespace Go.Proofs.YtpfepcjbhchpcaaGreat
open Go.RowKit
set_option maxRecDepth 100000
set_option linter.unusedSimpArgs false
set_option linter.unusedVariables false

/-- The closure of SeenByAny, bound to the boxes of the key and of the pool. -/
theorem seen1_any {t : TypeId} (vl vn va vc vv : Value) (d : PoolD) (k : KeyD) (v : VolD) (pk pp : Nat) (w : World) (hk : w.heap[pk]? = some (.cells #[.int .i64 k.a, .int .i64 k.b, .int .i64 k.c, .int .i64 k.d, .int .i64 k.e] 58 (0, 0))) (hp : w.heap[pp]? = some (.cells #[vl, vn, va, vc, vv, .int .i64 d.nx] 41 (0, 0))) (hR : RdP t w w.heap.size vl vn va vc vv d) (hs : SmallP d) :
    Calls Tryz.prog 200 #[.agg #[.string v.a, .int .i64 v.b, .int .i64 v.c, .bool v.d], .pointer (some ⟨pk, 0, none⟩), .pointer (some ⟨pp, 0, none⟩)] w (SaysBool w (needB d k v)) := by
  have h1 := hs.1
  have h2 := hs.2.1
  have HS := Lib.hid (fun W b => implSees_any vl vn va d.lo d.ts d.ag k v.b W (hR.on b).1 (hR.on b).2.1 (by omega) (by omega) (by omega) _ rfl)
  unfold KeyD.v keyV at HS
  have HN := Lib.hid (show needB d k v = (decide (k.a < v.c) && _) from rfl)
  obtain ⟨S, hS⟩ : ∃ S, ((nearK (keysOfK d.ts k.a) (pathK d.ag v.b)).isSome && (((nearK (keysOfK d.ts k.a) (pathK d.ag v.b)).getD zK).b == k.b)) = S := ⟨_, rfl⟩
  rw [hS] at HS HN
  obtain ⟨A0, c0, A1, c1, A2, c2, A3, c3, A4, c4, rfl, rfl, rfl, rfl, rfl⟩ := hR.shape
  have HB := Lib.hid (bal1 w (.cells #[.string v.a, .int .i64 v.b, .int .i64 v.c, .bool v.d] 110))
  have Q0 := Lib.hid (al1 w (.cells #[.string v.a, .int .i64 v.b, .int .i64 v.c, .bool v.d] 110))
  have HK := Lib.hid (box_on hk HB.out)
  have HP := Lib.hid (box_on hp HB.out)
  clear hk hp hR hs h1 h2 hS
  go_enter Tryz.func200, Tryz.ntmps200
  go_upto_region 1 with (fail)
  generalize w.alloc (.cells #[.string v.a, .int .i64 v.b, .int .i64 v.c, .bool v.d] 110) = W at *
  obtain ⟨v0, v1, v2, v3, v4⟩ := box4 Q0.out
  obtain ⟨y0, y1, y2, y3, y4, y5⟩ := box5 HK.out
  obtain ⟨x0, x1, x2, x3, x4, x5, x6⟩ := boxP HP.out
  by_cases hc : k.a < v.c
  · have e1 : decide (v.c > k.a) = true := decide_eq_true hc
    have HF : Hid (needB d k v = S) := Lib.hid (by rw [HN.out, decide_eq_true hc, Bool.true_and])
    clear hc
    go_wp2_with fail
    refine (HS.out _ HB.out).mono ?_
    rintro e w1 ⟨rfl, b1⟩
    have B1 := Lib.hid (bstep HB.out b1)
    clear b1 HS x0 x1 x2 x3 x4 x5 x6 y0 y1 y2 y3 y4 y5 v0 v1 v2 v3 v4
    go_wp2
    go_ret
    exact ⟨by rw [HF.out]; rfl, B1.out⟩
  · have e1 : decide (v.c > k.a) = false := decide_eq_false hc
    have HF : Hid (needB d k v = false) := Lib.hid (by rw [HN.out, decide_eq_false hc, Bool.false_and])
    clear hc
    go_wp2
    go_ret
    exact ⟨by rw [HF.out]; rfl, HB.out⟩
theorem implSeenByAny_any {t : TypeId} (vl vn va vc vv : Value) (d : PoolD) (k : KeyD) (w : World) (hR : RdP t w w.heap.size vl vn va vc vv d) (hs : SmallP d) :
    Calls Tryz.prog 152 #[.agg #[vl, vn, va, vc, vv, .int .i64 d.nx], k.v] w (SaysBool w (anyB d k)) := by
  have h4 := hs.2.2.2
  have HS := Lib.hid (fun (pk pp : Nat) (W : World) (b : Below w.heap.size w W) (hk : W.heap[pk]? = some (.cells #[.int .i64 k.a, .int .i64 k.b, .int .i64 k.c, .int .i64 k.d, .int .i64 k.e] 58 (0, 0))) (hp : W.heap[pp]? = some (.cells #[vl, vn, va, vc, vv, .int .i64 d.nx] 41 (0, 0))) => containsV2_any vv d.vo (needB d k) (.pointer (some ⟨pk, 0, none⟩)) (.pointer (some ⟨pp, 0, none⟩)) W (hR.on b).2.2.2 (by omega) (fun j hj W1 b1 => seen1_any vl vn va vc vv d k d.vo[j] pk pp W1 (box_on hk b1) (box_on hp b1) (hR.on (bstep b b1)) hs))
  obtain ⟨A0, c0, A1, c1, A2, c2, A3, c3, A4, c4, rfl, rfl, rfl, rfl, rfl⟩ := hR.shape
  obtain ⟨R, hRR⟩ : ∃ R, anyB d k = R := ⟨_, rfl⟩
  rw [show d.vo.any (needB d k) = R from hRR] at HS
  rw [hRR]
  obtain ⟨q0, q1⟩ := al2 w (.cells #[.slice A0 d.lo.length c0, .slice A1 d.ts.length c1, .slice A2 d.ag.length c2, .slice A3 d.ce.length c3, .slice A4 d.vo.length c4, .int .i64 d.nx] 41) (.cells #[.int .i64 k.a, .int .i64 k.b, .int .i64 k.c, .int .i64 k.d, .int .i64 k.e] 58)
  have HB := Lib.hid (bal2 w (.cells #[.slice A0 d.lo.length c0, .slice A1 d.ts.length c1, .slice A2 d.ag.length c2, .slice A3 d.ce.length c3, .slice A4 d.vo.length c4, .int .i64 d.nx] 41) (.cells #[.int .i64 k.a, .int .i64 k.b, .int .i64 k.c, .int .i64 k.d, .int .i64 k.e] 58))
  have Q0 := Lib.hid q0
  have Q1 := Lib.hid q1
  unfold KeyD.v keyV
  clear hR hs h4 q0 q1 hRR
  go_enter Tryz.func152, Tryz.ntmps152
  go_upto_region 1 with (fail)
  generalize (w.alloc (.cells #[.slice A0 d.lo.length c0, .slice A1 d.ts.length c1, .slice A2 d.ag.length c2, .slice A3 d.ce.length c3, .slice A4 d.vo.length c4, .int .i64 d.nx] 41)).alloc (.cells #[.int .i64 k.a, .int .i64 k.b, .int .i64 k.c, .int .i64 k.d, .int .i64 k.e] 58) = W at *
  obtain ⟨x0, x1, x2, x3, x4, x5, x6⟩ := boxP Q0.out
  go_wp2_with fail
  refine (HS.out _ _ _ HB.out Q1.out Q0.out).mono ?_
  rintro e w1 ⟨rfl, b1⟩
  have B1 := Lib.hid (bstep HB.out b1)
  clear b1 HS x0 x1 x2 x3 x4 x5 x6
  go_wp2
  go_ret
  exact ⟨rfl, B1.out⟩
/-- The call yields the heir of a key, and if there is one. -/
def SaysIB (w : World) (n : Int) (b : Bool) (e : Ending) (w' : World) : Prop := e = .returned (.tuple #[.int .i64 n, .bool b]) ∧ Below w.heap.size w w'
def heirI (d : PoolD) (k : KeyD) : Int := if heirB d k then kidI d k.b else 0
theorem heir_no1 {d : PoolD} {k : KeyD} (h : idleP k.b d.vo = false) : heirB d k = false := by unfold heirB kidB; rw [h]; rfl
theorem heir_no2 {d : PoolD} {k : KeyD} (h : ¬ (kidsK d.ag k.b).length = 1) : heirB d k = false := by unfold heirB kidB; rw [decide_eq_false h, Bool.and_false]; rfl
theorem head_one {l : List Int} (h : l.length = 1) (h0 : 0 < l.length) : l.headD 0 = l[0] := by
  cases l with
  | nil => simp at h
  | cons x l => rfl
theorem heir_at {d : PoolD} {k : KeyD} (h : idleP k.b d.vo = true) (h1 : (kidsK d.ag k.b).length = 1) : heirB d k = !(treeAtK d.lo d.ts k.a ((kidsK d.ag k.b).headD 0)).isSome ∧ kidI d k.b = (kidsK d.ag k.b).headD 0 := by
  refine ⟨?_, rfl⟩
  unfold heirB kidB kidI
  rw [h, decide_eq_true h1]
  rfl
set_option maxHeartbeats 4000000 in
theorem heirOf_any {t : TypeId} (vl vn va vc vv : Value) (d : PoolD) (k : KeyD) (w : World) (hR : RdP t w w.heap.size vl vn va vc vv d) (hs : SmallP d) :
    Calls Tryz.prog 105 #[.agg #[vl, vn, va, vc, vv, .int .i64 d.nx], k.v] w (SaysIB w (heirI d k) (heirB d k)) := by
  have h2 := hs.2.1
  have h4 := hs.2.2.2
  have HKI := Lib.hid (fun W b => implKidsOf_any va d.ag k.b W (hR.on b).2.1 (by omega))
  have HID := Lib.hid (fun W b => implIdle_any vl vn va vc vv d k.b W (hR.on b) (by omega))
  have HTA := Lib.hid (fun (q : Int) W b => implTreeAt_any vl vn d.lo d.ts k.a q W (hR.on b).1 hs.t)
  unfold SaysFind KeyD.v keyV at HTA
  have HN1 := Lib.hid (heir_no1 (d := d) (k := k))
  have HN2 := Lib.hid (heir_no2 (d := d) (k := k))
  have HAT := Lib.hid (heir_at (d := d) (k := k))
  have HHI := Lib.hid (show heirI d k = if heirB d k then kidI d k.b else 0 from rfl)
  obtain ⟨A0, c0, A1, c1, A2, c2, A3, c3, A4, c4, rfl, rfl, rfl, rfl, rfl⟩ := hR.shape
  obtain ⟨I, hI⟩ : ∃ I, idleP k.b d.vo = I := ⟨_, rfl⟩
  obtain ⟨KS, hKS⟩ : ∃ KS, kidsK d.ag k.b = KS := ⟨_, rfl⟩
  obtain ⟨HH, hHH⟩ : ∃ HH, heirB d k = HH := ⟨_, rfl⟩
  obtain ⟨HI, hHI⟩ : ∃ HI, heirI d k = HI := ⟨_, rfl⟩
  have hkl : KS.length ≤ 1048576 := by
    rw [← hKS]
    unfold kidsK
    split
    · simp
    · rw [List.length_map]
      exact Nat.le_trans (List.length_filter_le _ _) h2
  rw [hI] at HID HN1 HAT
  rw [hKS] at HKI
  rw [hKS] at HN2 HAT
  rw [hHH] at HN1 HN2 HHI
  rw [hHH] at HAT
  rw [hHI] at HHI
  rw [hHH, hHI]
  obtain ⟨q0, q1⟩ := al2 w (.cells #[.slice A0 d.lo.length c0, .slice A1 d.ts.length c1, .slice A2 d.ag.length c2, .slice A3 d.ce.length c3, .slice A4 d.vo.length c4, .int .i64 d.nx] 41) (.cells #[.int .i64 k.a, .int .i64 k.b, .int .i64 k.c, .int .i64 k.d, .int .i64 k.e] 58)
  have HB := Lib.hid (bal2 w (.cells #[.slice A0 d.lo.length c0, .slice A1 d.ts.length c1, .slice A2 d.ag.length c2, .slice A3 d.ce.length c3, .slice A4 d.vo.length c4, .int .i64 d.nx] 41) (.cells #[.int .i64 k.a, .int .i64 k.b, .int .i64 k.c, .int .i64 k.d, .int .i64 k.e] 58))
  have Q0 := Lib.hid q0
  have Q1 := Lib.hid q1
  unfold KeyD.v keyV
  clear hR hs h4 h2 q0 q1 hI hKS hHH hHI
  go_enter Tryz.func105, Tryz.ntmps105
  go_upto_region 1 with (fail)
  generalize (w.alloc (.cells #[.slice A0 d.lo.length c0, .slice A1 d.ts.length c1, .slice A2 d.ag.length c2, .slice A3 d.ce.length c3, .slice A4 d.vo.length c4, .int .i64 d.nx] 41)).alloc (.cells #[.int .i64 k.a, .int .i64 k.b, .int .i64 k.c, .int .i64 k.d, .int .i64 k.e] 58) = W at *
  obtain ⟨x0, x1, x2, x3, x4, x5, x6⟩ := boxP Q0.out
  obtain ⟨y0, y1, y2, y3, y4, y5⟩ := box5 Q1.out
  go_wp2_with fail
  refine (HKI.out _ HB.out).mono ?_
  rintro e w1 ⟨vk, rfl, o1, b1⟩
  obtain ⟨A, c, rfl, _, _⟩ := o1.shape
  have O1 := Lib.hid o1
  replace HB := Lib.hid (bstep HB.out b1)
  replace Q0 := Lib.hid (box_on Q0.out b1)
  replace Q1 := Lib.hid (box_on Q1.out b1)
  clear x0 x1 x2 x3 x4 x5 x6 y0 y1 y2 y3 y4 y5 HKI b1 o1
  obtain ⟨x0, x1, x2, x3, x4, x5, x6⟩ := boxP Q0.out
  obtain ⟨y0, y1, y2, y3, y4, y5⟩ := box5 Q1.out
  go_wp2_with fail
  refine (HID.out _ HB.out).mono ?_
  rintro e w2 ⟨rfl, b2⟩
  replace O1 := Lib.hid (O1.out.on b2)
  replace HB := Lib.hid (bstep HB.out b2)
  replace Q0 := Lib.hid (box_on Q0.out b2)
  replace Q1 := Lib.hid (box_on Q1.out b2)
  clear x0 x1 x2 x3 x4 x5 x6 y0 y1 y2 y3 y4 y5 HID b2
  cases I
  · have HF : Hid (HH = false) := Lib.hid (HN1.out rfl)
    have HG : Hid (HI = 0) := Lib.hid (by rw [HHI.out, HF.out]; rfl)
    go_wp2
    refine bodyPost_ret (v := .tuple #[.int .i64 0, .bool false]) (by simp [results, Tryz.results105, go_sem]) rfl ⟨by rw [HF.out, HG.out], HB.out⟩
  · by_cases hl : KS.length = 1
    · have HKA := Lib.hid (HAT.out rfl hl)
      have i1 : (0 : Int) < (KS.length : Int) := by omega
      have i0 : 0 < KS.length := by omega
      have HL := Lib.hid hl
      have hd1 : ((KS.length : Int) != 1) = false := by rw [hl]; rfl
      clear hl
      obtain ⟨x, hx⟩ : ∃ x, KS.headD 0 = x := ⟨_, rfl⟩
      rw [hx] at HKA
      have HX := Lib.hid ((head_one HL.out (by have := HL.out; omega)).symm.trans hx)
      clear hx
      obtain ⟨bb, off, rfl, hbb, hc⟩ := Reads.int (i := 0) O1.out.owns.reads (by have := HL.out; omega)
      have HC0 := Lib.hid (show w2.cell? ⟨bb, off, none⟩ = some (.int .i64 x) from (hc 0 (by have := HL.out; omega)).trans (by rw [HX.out]; rfl))
      clear hc
      have HTX := Lib.hid (HTA.out x)
      obtain ⟨T, hT⟩ : ∃ T, treeAtK d.lo d.ts k.a x = T := ⟨_, rfl⟩
      rw [hT] at HTX HKA
      obtain ⟨TB, hTB⟩ : ∃ b, T.isSome = b := ⟨_, rfl⟩
      obtain ⟨F, hF⟩ : ∃ F, T.getD zK = F := ⟨_, rfl⟩
      rw [hTB] at HTX HKA
      rw [hF] at HTX
      clear hT hTB hF HTA
      go_upto_region 4 with (fail)
      clear hd1
      have hz2 : w2.heap.size ≤ w2.heap.size := Nat.le_refl _
      refine but_begin (f := 13) (S := fun V => Below w2.heap.size w2 V) (by kernel_rfl) ?_
      have hS0h : Below w2.heap.size w2 w2.drew := Below.drew1 _
      have hz0h : w2.heap.size ≤ w2.drew.heap.size := Nat.le_refl _
      generalize w2.drew = Udh at *
      refine but_take (f := 13) (i := 0) (v := ?vh0) rfl (by kernel_rfl) (by kernel_rfl) (by kernel_rfl) (by kernel_rfl) (by kernel_rfl) (fun _ _ _ h => h) (Or.inl ⟨(by rfl), ?hyh0⟩) hS0h ?resth0
      case hyh0 =>
        intro W hW
        go_simp
        exact rfl
      simp only [List.getElem_toArray, List.getElem_cons_succ, List.getElem_cons_zero, Act.put, List.setIfInBounds_toArray, List.set_cons_zero, List.set_cons_succ]
      refine but_take (f := 13) (i := 1) (v := ?vh1) rfl (by kernel_rfl) (by kernel_rfl) (by kernel_rfl) (by kernel_rfl) (by kernel_rfl) (fun _ _ _ h => h) (Or.inl ⟨(by rfl), ?hyh1⟩) hS0h ?resth1
      case hyh1 =>
        intro W hW
        obtain ⟨x0, x1, x2, x3, x4, x5, x6⟩ := boxP (box_on Q0.out hW)
        obtain ⟨y0, y1, y2, y3, y4, y5⟩ := box5 (box_on Q1.out hW)
        have ee := (hW.cell (p := ⟨bb, off, none⟩) hbb).trans HC0.out
        go_simp
        exact rfl
      simp only [List.getElem_toArray, List.getElem_cons_succ, List.getElem_cons_zero, Act.put, List.setIfInBounds_toArray, List.set_cons_zero, List.set_cons_succ]
      refine but_take (f := 13) (i := 2) (v := ?vh2) rfl (by kernel_rfl) (by kernel_rfl) (by kernel_rfl) (by kernel_rfl) (by kernel_rfl) (fun _ _ _ h => h) (Or.inl ⟨(by rfl), ?hyh2⟩) hS0h ?resth2
      case hyh2 =>
        intro W hW
        go_simp
        exact rfl
      simp only [List.getElem_toArray, List.getElem_cons_succ, List.getElem_cons_zero, Act.put, List.setIfInBounds_toArray, List.set_cons_zero, List.set_cons_succ]
      refine but_take (f := 13) (i := 3) (v := ?vh3) rfl (by kernel_rfl) (by kernel_rfl) (by kernel_rfl) (by kernel_rfl) (by kernel_rfl) (fun _ _ _ h => h) (Or.inl ⟨(by rfl), ?hyh3⟩) hS0h ?resth3
      case hyh3 =>
        intro W hW
        obtain ⟨x0, x1, x2, x3, x4, x5, x6⟩ := boxP (box_on Q0.out hW)
        obtain ⟨y0, y1, y2, y3, y4, y5⟩ := box5 (box_on Q1.out hW)
        have ee := (hW.cell (p := ⟨bb, off, none⟩) hbb).trans HC0.out
        go_simp
        exact rfl
      simp only [List.getElem_toArray, List.getElem_cons_succ, List.getElem_cons_zero, Act.put, List.setIfInBounds_toArray, List.set_cons_zero, List.set_cons_succ]
      refine but_take (f := 13) (i := 4) (v := ?vh4) rfl (by kernel_rfl) (by kernel_rfl) (by kernel_rfl) (by kernel_rfl) (by kernel_rfl) (fun _ _ _ h => h) (Or.inl ⟨(by rfl), ?hyh4⟩) hS0h ?resth4
      case hyh4 =>
        intro W hW
        go_simp
        exact rfl
      simp only [List.getElem_toArray, List.getElem_cons_succ, List.getElem_cons_zero, Act.put, List.setIfInBounds_toArray, List.set_cons_zero, List.set_cons_succ]
      refine but_take (f := 13) (i := 5) (v := ?vh5) rfl (by kernel_rfl) (by kernel_rfl) (by kernel_rfl) (by kernel_rfl) (by kernel_rfl) (fun _ _ _ h => h) (Or.inl ⟨(by rfl), ?hyh5⟩) hS0h ?resth5
      case hyh5 =>
        intro W hW
        go_simp
        exact rfl
      simp only [List.getElem_toArray, List.getElem_cons_succ, List.getElem_cons_zero, Act.put, List.setIfInBounds_toArray, List.set_cons_zero, List.set_cons_succ]
      refine but_take (f := 13) (i := 6) (v := ?vh6) rfl (by kernel_rfl) (by kernel_rfl) (by kernel_rfl) (by kernel_rfl) (by kernel_rfl) (fun _ _ _ h => h) (Or.inl ⟨(by rfl), ?hyh6⟩) hS0h ?resth6
      case hyh6 =>
        intro W hW
        obtain ⟨x0, x1, x2, x3, x4, x5, x6⟩ := boxP (box_on Q0.out hW)
        obtain ⟨y0, y1, y2, y3, y4, y5⟩ := box5 (box_on Q1.out hW)
        have ee := (hW.cell (p := ⟨bb, off, none⟩) hbb).trans HC0.out
        go_simp
        exact rfl
      simp only [List.getElem_toArray, List.getElem_cons_succ, List.getElem_cons_zero, Act.put, List.setIfInBounds_toArray, List.set_cons_zero, List.set_cons_succ]
      refine but_two (i := 7) (j := 11) (by kernel_rfl) rfl rfl (by rfl) (by rfl) ?_ ?_
      · simp only [List.getElem_toArray, List.getElem_cons_succ, List.getElem_cons_zero]
        intro K HK
        go_wp2_with fail
        refine (HTX.out _ (bstep HB.out hS0h)).mono ?_
        rintro r Vhp1 ⟨rfl, hbhp1⟩
        go_wp2_with fail
        have hShp1 : (fun V => Below w2.heap.size w2 V) Vhp1 := bstep hS0h hbhp1
        refine HK.out _ _ (fun _ => hShp1) ?_
        clear HK
        have hzhp1 := hbhp1.size
        refine but_take (f := 13) (i := 8) (v := ?vhp8) rfl (by kernel_rfl) (by kernel_rfl) (by kernel_rfl) (by kernel_rfl) (by kernel_rfl) (fun _ _ _ h => h) (Or.inl ⟨(by rfl), ?hyhp8⟩) hShp1 ?resthp8
        case hyhp8 =>
          intro W hW
          go_simp
          exact rfl
        simp only [List.getElem_toArray, List.getElem_cons_succ, List.getElem_cons_zero, Act.put, List.setIfInBounds_toArray, List.set_cons_zero, List.set_cons_succ]
        refine but_take (f := 13) (i := 9) (v := ?vhp9) rfl (by kernel_rfl) (by kernel_rfl) (by kernel_rfl) (by kernel_rfl) (by kernel_rfl) (fun _ _ _ h => h) (Or.inl ⟨(by rfl), ?hyhp9⟩) hShp1 ?resthp9
        case hyhp9 =>
          intro W hW
          go_simp
          exact rfl
        simp only [List.getElem_toArray, List.getElem_cons_succ, List.getElem_cons_zero, Act.put, List.setIfInBounds_toArray, List.set_cons_zero, List.set_cons_succ]
        refine but_take (f := 13) (i := 10) (v := ?vhp10) rfl (by kernel_rfl) (by kernel_rfl) (by kernel_rfl) (by kernel_rfl) (by kernel_rfl) (fun _ _ _ h => h) (Or.inl ⟨(by rfl), ?hyhp10⟩) hShp1 ?resthp10
        case hyhp10 =>
          intro W hW
          go_simp
          exact rfl
        simp only [List.getElem_toArray, List.getElem_cons_succ, List.getElem_cons_zero, Act.put, List.setIfInBounds_toArray, List.set_cons_zero, List.set_cons_succ]
        refine but_run (i := 11) (by kernel_rfl) rfl (by rfl) ?_
        simp only [List.getElem_toArray, List.getElem_cons_succ, List.getElem_cons_zero]
        intro K HK
        go_wp2_with fail
        have hShp2 : (fun V => Below w2.heap.size w2 V) (Vhp1.alloc (.cells #[.int .i64 0, .int .i64 0, .int .i64 0, .int .i64 0, .int .i64 0] 58)) := bstep hShp1 (bal1 _ _)
        refine HK.out _ _ (fun _ => hShp2) ?_
        clear HK
        have hBhp2 := bal1 Vhp1 (.cells #[.int .i64 0, .int .i64 0, .int .i64 0, .int .i64 0, .int .i64 0] 58)
        have hzhp2 : Vhp1.heap.size + 1 ≤ (Vhp1.alloc (.cells #[.int .i64 0, .int .i64 0, .int .i64 0, .int .i64 0, .int .i64 0] 58)).heap.size := by simp
        have QF := Lib.hid (al1 Vhp1 (.cells #[.int .i64 0, .int .i64 0, .int .i64 0, .int .i64 0, .int .i64 0] 58))
        have hzahp2 := (hShp1).size
        obtain ⟨pf, hpf⟩ : ∃ p, Vhp1.heap.size = p := ⟨_, rfl⟩
        rw [hpf] at QF ⊢
        have hpf2 : w2.heap.size ≤ pf := by omega
        clear hpf
        generalize Vhp1.alloc (.cells #[.int .i64 0, .int .i64 0, .int .i64 0, .int .i64 0, .int .i64 0] 58) = Vnhp2 at *
        refine but_run (i := 12) (by kernel_rfl) rfl (by rfl) ?_
        simp only [List.getElem_toArray, List.getElem_cons_succ, List.getElem_cons_zero]
        intro K HK
        obtain ⟨z0, z1, z2, z3, z4, z5⟩ := box5 QF.out
        go_wp2_with fail
        have hShp3 : (fun V => Below w2.heap.size w2 V) (((((Vnhp2.setCell ⟨pf, 0, none⟩ (.int .i64 F.a)).setCell ⟨pf, 1, none⟩ (.int .i64 F.b)).setCell ⟨pf, 2, none⟩ (.int .i64 F.c)).setCell ⟨pf, 3, none⟩ (.int .i64 F.d)).setCell ⟨pf, 4, none⟩ (.int .i64 F.e)) := b5' hShp2 hpf2
        refine HK.out _ _ (fun _ => hShp3) ?_
        clear HK
        refine but_run (i := 13) (by kernel_rfl) rfl (by rfl) ?_
        simp only [List.getElem_toArray, List.getElem_cons_succ, List.getElem_cons_zero]
        intro K HK
        go_wp2_with fail
        refine HK.out _ _ (fun h => absurd rfl h) ?_
        clear HK
        refine but_done (by kernel_rfl) ?_
        have BF := Lib.hid (bstep HB.out hShp3)
        have hcf := ((hShp3).cell (p := ⟨bb, off, none⟩) hbb).trans HC0.out
        generalize (((((Vnhp2.setCell ⟨pf, 0, none⟩ (.int .i64 F.a)).setCell ⟨pf, 1, none⟩ (.int .i64 F.b)).setCell ⟨pf, 2, none⟩ (.int .i64 F.c)).setCell ⟨pf, 3, none⟩ (.int .i64 F.d)).setCell ⟨pf, 4, none⟩ (.int .i64 F.e)) = WF at *
        cases TB
        · have HF : Hid (HH = true) := Lib.hid (by rw [HKA.out.1]; rfl)
          have HG : Hid (HI = x) := Lib.hid (by rw [HHI.out, HF.out, if_pos rfl, HKA.out.2])
          go_wp2
          refine bodyPost_ret (v := .tuple #[.int .i64 x, .bool true]) (by simp [results, Tryz.results105, go_sem]) rfl ⟨by rw [HF.out, HG.out], BF.out⟩
        · have HF : Hid (HH = false) := Lib.hid (by rw [HKA.out.1]; rfl)
          have HG : Hid (HI = 0) := Lib.hid (by rw [HHI.out, HF.out]; rfl)
          go_wp2
          refine bodyPost_ret (v := .tuple #[.int .i64 0, .bool false]) (by simp [results, Tryz.results105, go_sem]) rfl ⟨by rw [HF.out, HG.out], BF.out⟩
      · simp only [List.getElem_toArray, List.getElem_cons_succ, List.getElem_cons_zero]
        intro K HK
        go_wp2_with fail
        have hShq1 : (fun V => Below w2.heap.size w2 V) (Udh.alloc (.cells #[.int .i64 0, .int .i64 0, .int .i64 0, .int .i64 0, .int .i64 0] 58)) := bstep hS0h (bal1 _ _)
        refine HK.out _ _ (fun _ => hShq1) ?_
        clear HK
        have hBhq1 := bal1 Udh (.cells #[.int .i64 0, .int .i64 0, .int .i64 0, .int .i64 0, .int .i64 0] 58)
        have hzhq1 : Udh.heap.size + 1 ≤ (Udh.alloc (.cells #[.int .i64 0, .int .i64 0, .int .i64 0, .int .i64 0, .int .i64 0] 58)).heap.size := by simp
        have QF := Lib.hid (al1 Udh (.cells #[.int .i64 0, .int .i64 0, .int .i64 0, .int .i64 0, .int .i64 0] 58))
        have hzahq1 := (hS0h).size
        obtain ⟨pf, hpf⟩ : ∃ p, Udh.heap.size = p := ⟨_, rfl⟩
        rw [hpf] at QF ⊢
        have hpf2 : w2.heap.size ≤ pf := by omega
        clear hpf
        generalize Udh.alloc (.cells #[.int .i64 0, .int .i64 0, .int .i64 0, .int .i64 0, .int .i64 0] 58) = Vnhq1 at *
        refine but_run (i := 7) (by kernel_rfl) rfl (by rfl) ?_
        simp only [List.getElem_toArray, List.getElem_cons_succ, List.getElem_cons_zero]
        intro K HK
        go_wp2_with fail
        refine (HTX.out _ (bstep HB.out hShq1)).mono ?_
        rintro r Vhq2 ⟨rfl, hbhq2⟩
        go_wp2_with fail
        have hShq2 : (fun V => Below w2.heap.size w2 V) Vhq2 := bstep hShq1 hbhq2
        refine HK.out _ _ (fun _ => hShq2) ?_
        clear HK
        have hzhq2 := hbhq2.size
        replace QF := Lib.hid (box_on QF.out hbhq2)
        refine but_take (f := 13) (i := 8) (v := ?vhq8) rfl (by kernel_rfl) (by kernel_rfl) (by kernel_rfl) (by kernel_rfl) (by kernel_rfl) (fun _ _ _ h => h) (Or.inl ⟨(by rfl), ?hyhq8⟩) hShq2 ?resthq8
        case hyhq8 =>
          intro W hW
          go_simp
          exact rfl
        simp only [List.getElem_toArray, List.getElem_cons_succ, List.getElem_cons_zero, Act.put, List.setIfInBounds_toArray, List.set_cons_zero, List.set_cons_succ]
        refine but_take (f := 13) (i := 9) (v := ?vhq9) rfl (by kernel_rfl) (by kernel_rfl) (by kernel_rfl) (by kernel_rfl) (by kernel_rfl) (fun _ _ _ h => h) (Or.inl ⟨(by rfl), ?hyhq9⟩) hShq2 ?resthq9
        case hyhq9 =>
          intro W hW
          go_simp
          exact rfl
        simp only [List.getElem_toArray, List.getElem_cons_succ, List.getElem_cons_zero, Act.put, List.setIfInBounds_toArray, List.set_cons_zero, List.set_cons_succ]
        refine but_take (f := 13) (i := 10) (v := ?vhq10) rfl (by kernel_rfl) (by kernel_rfl) (by kernel_rfl) (by kernel_rfl) (by kernel_rfl) (fun _ _ _ h => h) (Or.inl ⟨(by rfl), ?hyhq10⟩) hShq2 ?resthq10
        case hyhq10 =>
          intro W hW
          go_simp
          exact rfl
        simp only [List.getElem_toArray, List.getElem_cons_succ, List.getElem_cons_zero, Act.put, List.setIfInBounds_toArray, List.set_cons_zero, List.set_cons_succ]
        refine but_run (i := 12) (by kernel_rfl) rfl (by rfl) ?_
        simp only [List.getElem_toArray, List.getElem_cons_succ, List.getElem_cons_zero]
        intro K HK
        obtain ⟨z0, z1, z2, z3, z4, z5⟩ := box5 QF.out
        go_wp2_with fail
        have hShq3 : (fun V => Below w2.heap.size w2 V) (((((Vhq2.setCell ⟨pf, 0, none⟩ (.int .i64 F.a)).setCell ⟨pf, 1, none⟩ (.int .i64 F.b)).setCell ⟨pf, 2, none⟩ (.int .i64 F.c)).setCell ⟨pf, 3, none⟩ (.int .i64 F.d)).setCell ⟨pf, 4, none⟩ (.int .i64 F.e)) := b5' hShq2 hpf2
        refine HK.out _ _ (fun _ => hShq3) ?_
        clear HK
        refine but_run (i := 13) (by kernel_rfl) rfl (by rfl) ?_
        simp only [List.getElem_toArray, List.getElem_cons_succ, List.getElem_cons_zero]
        intro K HK
        go_wp2_with fail
        refine HK.out _ _ (fun h => absurd rfl h) ?_
        clear HK
        refine but_done (by kernel_rfl) ?_
        have BF := Lib.hid (bstep HB.out hShq3)
        have hcf := ((hShq3).cell (p := ⟨bb, off, none⟩) hbb).trans HC0.out
        generalize (((((Vhq2.setCell ⟨pf, 0, none⟩ (.int .i64 F.a)).setCell ⟨pf, 1, none⟩ (.int .i64 F.b)).setCell ⟨pf, 2, none⟩ (.int .i64 F.c)).setCell ⟨pf, 3, none⟩ (.int .i64 F.d)).setCell ⟨pf, 4, none⟩ (.int .i64 F.e)) = WF at *
        cases TB
        · have HF : Hid (HH = true) := Lib.hid (by rw [HKA.out.1]; rfl)
          have HG : Hid (HI = x) := Lib.hid (by rw [HHI.out, HF.out, if_pos rfl, HKA.out.2])
          go_wp2
          refine bodyPost_ret (v := .tuple #[.int .i64 x, .bool true]) (by simp [results, Tryz.results105, go_sem]) rfl ⟨by rw [HF.out, HG.out], BF.out⟩
        · have HF : Hid (HH = false) := Lib.hid (by rw [HKA.out.1]; rfl)
          have HG : Hid (HI = 0) := Lib.hid (by rw [HHI.out, HF.out]; rfl)
          go_wp2
          refine bodyPost_ret (v := .tuple #[.int .i64 0, .bool false]) (by simp [results, Tryz.results105, go_sem]) rfl ⟨by rw [HF.out, HG.out], BF.out⟩
    · have HF : Hid (HH = false) := Lib.hid (HN2.out hl)
      have HG : Hid (HI = 0) := Lib.hid (by rw [HHI.out, HF.out]; rfl)
      have hd1 : ((KS.length : Int) != 1) = true := by
        rw [bne_iff_ne]
        omega
      clear hl
      go_wp2
      refine bodyPost_ret (v := .tuple #[.int .i64 0, .bool false]) (by simp [results, Tryz.results105, go_sem]) rfl ⟨by rw [HF.out, HG.out], HB.out⟩
theorem step_un {d : PoolD} {k : KeyD} (h : anyB d k = false) : stepK d k = 1 := by unfold stepK; rw [h]; rfl
theorem step_gone {d : PoolD} {k : KeyD} (h : anyB d k = true) (h2 : k.c = 2) : stepK d k = if (aboveK d k.a k.b).isSome then (if heirB d k then 3 else 0) else 2 := by
  unfold stepK
  rw [h, if_pos rfl, decide_eq_true h2]
  cases (aboveK d k.a k.b).isSome <;> cases heirB d k <;> simp [h2]
theorem step_data {d : PoolD} {k : KeyD} (h : anyB d k = true) (h2 : k.c = 1) : stepK d k = if heirB d k then 3 else 0 := by
  unfold stepK
  rw [h, if_pos rfl, decide_eq_false (show ¬ k.c = 2 by omega), decide_eq_true h2]
  cases heirB d k <;> simp
theorem step_none {d : PoolD} {k : KeyD} (h : anyB d k = true) (h1 : ¬ k.c = 1) (h2 : ¬ k.c = 2) : stepK d k = 0 := by
  unfold stepK
  rw [h, if_pos rfl, decide_eq_false h1, decide_eq_false h2]
  simp
/-- The call yields a number. -/
def SaysI (w : World) (n : Int) (e : Ending) (w' : World) : Prop := e = .returned (.int .i64 n) ∧ Below w.heap.size w w'
set_option maxHeartbeats 4000000 in
theorem stepFor_any {t : TypeId} (vl vn va vc vv : Value) (d : PoolD) (k : KeyD) (w : World) (hR : RdP t w w.heap.size vl vn va vc vv d) (hs : SmallP d) :
    Calls Tryz.prog 81 #[.agg #[vl, vn, va, vc, vv, .int .i64 d.nx], k.v] w (SaysI w (stepK d k)) := by
  have h1 := hs.1
  have h2 := hs.2.1
  have HAN := Lib.hid (fun W b => implSeenByAny_any vl vn va vc vv d k W (hR.on b) hs)
  have HHE := Lib.hid (fun W b => heirOf_any vl vn va vc vv d k W (hR.on b) hs)
  have HAB := Lib.hid (fun W b => implSeenAbove_any vl vn va d.lo d.ts d.ag k.a k.b W (hR.on b).1 (hR.on b).2.1 (by omega) (by omega) (by omega))
  rw [show nearK (keysOfK d.ts k.a) (pathK d.ag k.b).tail = aboveK d k.a k.b from rfl] at HAB
  have H1 := Lib.hid (step_un (d := d) (k := k))
  have H2 := Lib.hid (step_gone (d := d) (k := k))
  have H3 := Lib.hid (step_data (d := d) (k := k))
  have H4 := Lib.hid (step_none (d := d) (k := k))
  obtain ⟨A0, c0, A1, c1, A2, c2, A3, c3, A4, c4, rfl, rfl, rfl, rfl, rfl⟩ := hR.shape
  obtain ⟨R, hRR⟩ : ∃ R, stepK d k = R := ⟨_, rfl⟩
  obtain ⟨AN, hAN⟩ : ∃ b, anyB d k = b := ⟨_, rfl⟩
  obtain ⟨HE, hHE⟩ : ∃ b, heirB d k = b := ⟨_, rfl⟩
  obtain ⟨HI, hHI⟩ : ∃ b, heirI d k = b := ⟨_, rfl⟩
  obtain ⟨T, hT⟩ : ∃ T, aboveK d k.a k.b = T := ⟨_, rfl⟩
  rw [hAN] at HAN H1 H2 H3 H4
  rw [hRR] at H1 H2 H3 H4 ⊢
  rw [hHE] at HHE H2 H3
  rw [hHI] at HHE
  rw [hT] at HAB H2
  obtain ⟨TB, hTB⟩ : ∃ b, T.isSome = b := ⟨_, rfl⟩
  obtain ⟨F, hF⟩ : ∃ F, T.getD zK = F := ⟨_, rfl⟩
  unfold SaysFind KeyD.v keyV at HAB
  rw [hTB] at HAB H2
  rw [hF] at HAB
  unfold KeyD.v keyV at HAN HHE
  obtain ⟨q0, q1⟩ := al2 w (.cells #[.slice A0 d.lo.length c0, .slice A1 d.ts.length c1, .slice A2 d.ag.length c2, .slice A3 d.ce.length c3, .slice A4 d.vo.length c4, .int .i64 d.nx] 41) (.cells #[.int .i64 k.a, .int .i64 k.b, .int .i64 k.c, .int .i64 k.d, .int .i64 k.e] 58)
  have HB := Lib.hid (bal2 w (.cells #[.slice A0 d.lo.length c0, .slice A1 d.ts.length c1, .slice A2 d.ag.length c2, .slice A3 d.ce.length c3, .slice A4 d.vo.length c4, .int .i64 d.nx] 41) (.cells #[.int .i64 k.a, .int .i64 k.b, .int .i64 k.c, .int .i64 k.d, .int .i64 k.e] 58))
  have Q0 := Lib.hid q0
  have Q1 := Lib.hid q1
  unfold KeyD.v keyV
  clear hR hs h1 h2 q0 q1 hRR hAN hHE hHI hT hTB hF
  go_enter Tryz.func81, Tryz.ntmps81
  go_upto_region 1 with (fail)
  generalize (w.alloc (.cells #[.slice A0 d.lo.length c0, .slice A1 d.ts.length c1, .slice A2 d.ag.length c2, .slice A3 d.ce.length c3, .slice A4 d.vo.length c4, .int .i64 d.nx] 41)).alloc (.cells #[.int .i64 k.a, .int .i64 k.b, .int .i64 k.c, .int .i64 k.d, .int .i64 k.e] 58) = W at *
  obtain ⟨x0, x1, x2, x3, x4, x5, x6⟩ := boxP Q0.out
  obtain ⟨y0, y1, y2, y3, y4, y5⟩ := box5 Q1.out
  go_wp2_with fail
  refine (HAN.out _ HB.out).mono ?_
  rintro e w1 ⟨rfl, b1⟩
  replace HB := Lib.hid (bstep HB.out b1)
  replace Q0 := Lib.hid (box_on Q0.out b1)
  replace Q1 := Lib.hid (box_on Q1.out b1)
  clear x0 x1 x2 x3 x4 x5 x6 y0 y1 y2 y3 y4 y5 b1 HAN
  cases AN
  · have HF := Lib.hid (H1.out rfl)
    clear H1 H2 H3 H4
    go_wp2
    go_ret
    exact ⟨by rw [HF.out]; rfl, HB.out⟩
  · obtain ⟨x0, x1, x2, x3, x4, x5, x6⟩ := boxP Q0.out
    obtain ⟨y0, y1, y2, y3, y4, y5⟩ := box5 Q1.out
    by_cases hk2 : k.c = 2
    · have e1 : (k.c == 2) = true := by rw [hk2]; rfl
      have HK := Lib.hid (H2.out rfl hk2)
      clear hk2 H1 H2 H3 H4
      go_wp2_with fail
      refine (HAB.out _ HB.out).mono ?_
      rintro e w2 ⟨rfl, b2⟩
      replace HB := Lib.hid (bstep HB.out b2)
      replace Q0 := Lib.hid (box_on Q0.out b2)
      replace Q1 := Lib.hid (box_on Q1.out b2)
      clear x0 x1 x2 x3 x4 x5 x6 y0 y1 y2 y3 y4 y5 b2 HAB e1
      have ba := bal1 w2 (.cells #[.int .i64 F.a, .int .i64 F.b, .int .i64 F.c, .int .i64 F.d, .int .i64 F.e] 58)
      replace HB := Lib.hid (bstep HB.out ba)
      replace Q0 := Lib.hid (box_on Q0.out ba)
      replace Q1 := Lib.hid (box_on Q1.out ba)
      clear ba
      cases TB
      · go_wp2
        go_ret
        exact ⟨by rw [HK.out]; rfl, HB.out⟩
      · obtain ⟨x0, x1, x2, x3, x4, x5, x6⟩ := boxP Q0.out
        obtain ⟨y0, y1, y2, y3, y4, y5⟩ := box5 Q1.out
        go_wp2_with fail
        refine (HHE.out _ HB.out).mono ?_
        rintro e w3 ⟨rfl, b3⟩
        replace HB := Lib.hid (bstep HB.out b3)
        clear x0 x1 x2 x3 x4 x5 x6 y0 y1 y2 y3 y4 y5 b3 HHE
        cases HE
        all_goals
          go_wp2
          go_ret
          exact ⟨by rw [HK.out]; rfl, HB.out⟩
    · have e1 : (k.c == 2) = false := beq_eq_false_iff_ne.2 hk2
      by_cases hk1 : k.c = 1
      · have e2 : (k.c == 1) = true := by rw [hk1]; rfl
        have HK := Lib.hid (H3.out rfl hk1)
        clear hk1 hk2 H1 H2 H3 H4
        go_wp2_with fail
        refine (HHE.out _ HB.out).mono ?_
        rintro e w3 ⟨rfl, b3⟩
        replace HB := Lib.hid (bstep HB.out b3)
        clear x0 x1 x2 x3 x4 x5 x6 y0 y1 y2 y3 y4 y5 b3 HHE e1 e2
        cases HE
        all_goals
          go_wp2
          go_ret
          exact ⟨by rw [HK.out]; rfl, HB.out⟩
      · have e2 : (k.c == 1) = false := beq_eq_false_iff_ne.2 hk1
        have HK := Lib.hid (H4.out rfl hk1 hk2)
        clear hk1 hk2 H1 H2 H3 H4
        go_wp2
        go_ret
        exact ⟨by rw [HK.out]; rfl, HB.out⟩
/-- The call yields two numbers. -/
def SaysII (w : World) (n : Int × Int) (e : Ending) (w' : World) : Prop := e = .returned (.tuple #[.int .i64 n.1, .int .i64 n.2]) ∧ Below w.heap.size w w'
set_option maxHeartbeats 4000000 in
theorem keyStep_any {t : TypeId} (vl vn va vc vv : Value) (d : PoolD) (w : World) (hR : RdP t w w.heap.size vl vn va vc vv d) (hs : SmallP d) :
    Calls Tryz.prog 30 #[.agg #[vl, vn, va, vc, vv, .int .i64 d.nx]] w (SaysII w (keyStepK d)) := by
  have h1 := hs.1
  have HTK := Lib.hid (fun W b => implTreeKeys_any vl vn d.lo d.ts W (hR.on b).1 (by omega) (by omega))
  have HSF := Lib.hid (fun (k : KeyD) W b => stepFor_any vl vn va vc vv d k W (hR.on b) hs)
  unfold KeyD.v keyV at HSF
  have hkl := treeKeys_len d.ts
  obtain ⟨A0, c0, A1, c1, A2, c2, A3, c3, A4, c4, rfl, rfl, rfl, rfl, rfl⟩ := hR.shape
  obtain ⟨f, hf⟩ : ∃ f, stepK d = f := ⟨_, rfl⟩
  obtain ⟨l, hl⟩ : ∃ l, treeKeysK d.ts = l := ⟨_, rfl⟩
  have HSF2 : Hid (∀ (k : KeyD) (W : World), Below w.heap.size w W → Calls Tryz.prog 81 #[.agg #[.slice A0 d.lo.length c0, .slice A1 d.ts.length c1, .slice A2 d.ag.length c2, .slice A3 d.ce.length c3, .slice A4 d.vo.length c4, .int .i64 d.nx], .agg #[.int .i64 k.a, .int .i64 k.b, .int .i64 k.c, .int .i64 k.d, .int .i64 k.e]] W (SaysI W (f k))) := Lib.hid (fun k W b => by rw [← hf]; exact HSF.out k W b)
  unfold keyStepK
  rw [hf, hl]
  rw [hl] at HTK hkl
  have hln : l.length ≤ 1048576 := by omega
  have Q0 := Lib.hid (al1 w (.cells #[.slice A0 d.lo.length c0, .slice A1 d.ts.length c1, .slice A2 d.ag.length c2, .slice A3 d.ce.length c3, .slice A4 d.vo.length c4, .int .i64 d.nx] 41))
  have HB := Lib.hid (bal1 w (.cells #[.slice A0 d.lo.length c0, .slice A1 d.ts.length c1, .slice A2 d.ag.length c2, .slice A3 d.ce.length c3, .slice A4 d.vo.length c4, .int .i64 d.nx] 41))
  clear hR hs h1 hf hl HSF hkl
  go_enter Tryz.func30, Tryz.ntmps30
  go_upto_region 1 with (fail)
  generalize w.alloc (.cells #[.slice A0 d.lo.length c0, .slice A1 d.ts.length c1, .slice A2 d.ag.length c2, .slice A3 d.ce.length c3, .slice A4 d.vo.length c4, .int .i64 d.nx] 41) = W at *
  obtain ⟨x0, x1, x2, x3, x4, x5, x6⟩ := boxP Q0.out
  go_wp2_with fail
  refine (HTK.out _ HB.out).mono ?_
  rintro e w1 ⟨vk, rfl, o1, b1⟩
  obtain ⟨Ak, ck, rfl, _, _⟩ := o1.shape
  have HV := Lib.hid o1.owns.reads
  replace HB := Lib.hid (bstep HB.out b1)
  replace Q0 := Lib.hid (box_on Q0.out b1)
  clear x0 x1 x2 x3 x4 x5 x6 b1 o1 HTK
  go_wp2
  go_loopw [4, 5, 13] (fun p q i wr => ∃ k : Nat, k ≤ l.length ∧ i = .int .i64 k ∧ p = .int .i64 (bestK f l k).1 ∧ q = .int .i64 (bestK f l k).2 ∧ Hid (Below w1.heap.size w1 wr)) (fun _ _ i _ => l.length - (intOf i).toNat)
  case atStart => exact ⟨0, Nat.zero_le _, rfl, rfl, rfl, Lib.hid (Below.refl _ _)⟩
  case round =>
    obtain ⟨k, hk, rfl, rfl, rfl, HW⟩ := hrel
    by_cases hlt : k < l.length
    · obtain ⟨b, off, rfl, hbb, hc⟩ := (HV.out.on HW.out).keys hlt
      have i1 : (k : Int) < (l.length : Int) := by omega
      have i2 : (0 : Int) ≤ (k : Int) := by omega
      obtain ⟨c0', c1', c2', c3', c4'⟩ := hc k hlt
      have hst := best_succ (f := f) hlt
      unfold bestS at hst
      obtain ⟨g, hg⟩ : ∃ g, bestK f l k = g := ⟨_, rfl⟩
      obtain ⟨g2, hg2⟩ : ∃ g, bestK f l (k + 1) = g := ⟨_, rfl⟩
      have HG2 := Lib.hid hg2
      rw [hg, hg2] at hst
      rw [hg]
      obtain ⟨g1, g1'⟩ := g
      obtain ⟨n, hn⟩ : ∃ n, f l[k] = n := ⟨_, rfl⟩
      rw [hn] at hst
      have ba := bal1 wr (.cells #[.int .i64 (l[k]).a, .int .i64 (l[k]).b, .int .i64 (l[k]).c, .int .i64 (l[k]).d, .int .i64 (l[k]).e] 58)
      have HX := Lib.hid (HSF2.out l[k] (wr.alloc (.cells #[.int .i64 (l[k]).a, .int .i64 (l[k]).b, .int .i64 (l[k]).c, .int .i64 (l[k]).d, .int .i64 (l[k]).e] 58)) (bstep (bstep HB.out HW.out) ba))
      rw [hn] at HX
      have Q1 := Lib.hid (al1 wr (.cells #[.int .i64 (l[k]).a, .int .i64 (l[k]).b, .int .i64 (l[k]).c, .int .i64 (l[k]).d, .int .i64 (l[k]).e] 58))
      have Q2 := Lib.hid (box_on (box_on Q0.out HW.out) ba)
      replace HW := Lib.hid (bstep HW.out ba)
      have HS := Lib.hid hst
      clear hc hg hg2 hn hst ba
      go_upto_region 5 with (fail)
      generalize wr.alloc (.cells #[.int .i64 (l[k]).a, .int .i64 (l[k]).b, .int .i64 (l[k]).c, .int .i64 (l[k]).d, .int .i64 (l[k]).e] 58) = W2 at *
      obtain ⟨x0, x1, x2, x3, x4, x5, x6⟩ := boxP Q2.out
      obtain ⟨y0, y1, y2, y3, y4, y5⟩ := box5 Q1.out
      go_wp2_with fail
      refine HX.out.mono ?_
      rintro e w3 ⟨rfl, b3⟩
      replace HW := Lib.hid (bstep HW.out b3)
      clear x0 x1 x2 x3 x4 x5 x6 y0 y1 y2 y3 y4 y5 c0' c1' c2' c3' c4' b3 HX Q1 Q2
      by_cases hn0 : n = 0
      · have e1 : (n != 0) = false := by rw [hn0]; rfl
        have HR : Hid (g2 = (g1, g1')) := Lib.hid (by rw [HS.out, if_neg (fun h => h.1 hn0)])
        clear hn0
        go_wp2
        go_roundw
        case rel => exact ⟨k + 1, by omega, by go_num, by rw [HG2.out, HR.out], by rw [HG2.out, HR.out], HW⟩
        case measure => simp [intOf]; omega
      · have e1 : (n != 0) = true := bne_iff_ne.2 hn0
        by_cases hg0 : g1 = 0
        · have e2 : (g1 == 0) = true := by rw [hg0]; rfl
          have HR : Hid (g2 = (n, (k : Int))) := Lib.hid (by rw [HS.out, if_pos ⟨hn0, .inl hg0⟩])
          clear hn0 hg0
          go_wp2
          go_roundw
          case rel => exact ⟨k + 1, by omega, by go_num, by rw [HG2.out, HR.out], by rw [HG2.out, HR.out], HW⟩
          case measure => simp [intOf]; omega
        · have e2 : (g1 == 0) = false := beq_eq_false_iff_ne.2 hg0
          by_cases hng : n < g1
          · have e3 : decide (n < g1) = true := decide_eq_true hng
            have HR : Hid (g2 = (n, (k : Int))) := Lib.hid (by rw [HS.out, if_pos ⟨hn0, .inr hng⟩])
            clear hn0 hg0 hng
            go_wp2
            go_roundw
            case rel => exact ⟨k + 1, by omega, by go_num, by rw [HG2.out, HR.out], by rw [HG2.out, HR.out], HW⟩
            case measure => simp [intOf]; omega
          · have e3 : decide (n < g1) = false := decide_eq_false hng
            have HR : Hid (g2 = (g1, g1')) := Lib.hid (by rw [HS.out, if_neg (fun h => h.2.elim hg0 hng)])
            clear hn0 hg0 hng
            go_wp2
            go_roundw
            case rel => exact ⟨k + 1, by omega, by go_num, by rw [HG2.out, HR.out], by rw [HG2.out, HR.out], HW⟩
            case measure => simp [intOf]; omega
    · have e : k = l.length := by omega
      subst e
      generalize bestK f l l.length = g at *
      have i1 : ¬ ((l.length : Int) < (l.length : Int)) := by omega
      go_wp2
      refine bodyPost_ret (v := .tuple #[.int .i64 g.1, .int .i64 g.2]) (by simp [results, Tryz.results30, go_sem]) rfl ⟨rfl, bstep HB.out HW.out⟩
theorem needless1_any (k : KeyD) (id : Int) (pb : Nat) (w : World) (hp : w.heap[pb]? = some (.cells #[.int .i64 id] 3 (0, 0))) :
    Calls Tryz.prog 154 #[.agg #[.int .i64 k.a, .int .i64 k.b, .int .i64 k.c, .int .i64 k.d, .int .i64 k.e], .pointer (some ⟨pb, 0, none⟩)] w (SaysBool w (k.b == id)) := by
  have Q0 := Lib.hid (al1 w (.cells #[.int .i64 k.a, .int .i64 k.b, .int .i64 k.c, .int .i64 k.d, .int .i64 k.e] 58))
  have b0 := bal1 w (.cells #[.int .i64 k.a, .int .i64 k.b, .int .i64 k.c, .int .i64 k.d, .int .i64 k.e] 58)
  have HB := Lib.hid b0
  have HP := Lib.hid (box_on hp b0)
  clear hp b0
  go_enter Tryz.func154, Tryz.ntmps154
  go_upto_region 1 with (fail)
  generalize w.alloc (.cells #[.int .i64 k.a, .int .i64 k.b, .int .i64 k.c, .int .i64 k.d, .int .i64 k.e] 58) = W at *
  obtain ⟨y0, y1, y2, y3, y4, y5⟩ := box5 Q0.out
  obtain ⟨x0, _⟩ := box1N HP.out
  go_wp2
  go_ret
  exact ⟨rfl, HB.out⟩
set_option maxHeartbeats 4000000 in
theorem needless_any {t : TypeId} (vl vn va vc vv : Value) (d : PoolD) (id : Int) (w : World) (hR : RdP t w w.heap.size vl vn va vc vv d) (hs : SmallP d) :
    Calls Tryz.prog 82 #[.agg #[vl, vn, va, vc, vv, .int .i64 d.nx], .int .i64 id] w (SaysBool w (cutB d id)) := by
  have h1 := hs.1
  have h2 := hs.2.1
  have h4 := hs.2.2.2
  have hkl := treeKeys_len d.ts
  have HTK := Lib.hid (fun W b => implTreeKeys_any vl vn d.lo d.ts W (hR.on b).1 (by omega) (by omega))
  have HCK := Lib.hid (fun (v : Value) (pb : Nat) (W : World) (hv : Reads W W.heap.size v (keysD (treeKeysK d.ts))) (hp : W.heap[pb]? = some (.cells #[.int .i64 id] 3 (0, 0))) => containsK2_any v (treeKeysK d.ts) (fun k => k.b == id) (.pointer (some ⟨pb, 0, none⟩)) W hv (by omega) (fun j hj W1 b1 => needless1_any _ id pb W1 (box_on hp b1)))
  have HKI := Lib.hid (fun W b => implKidsOf_any va d.ag id W (hR.on b).2.1 (by omega))
  have HID := Lib.hid (fun W b => implIdle_any vl vn va vc vv d id W (hR.on b) (by omega))
  obtain ⟨A0, c0, A1, c1, A2, c2, A3, c3, A4, c4, rfl, rfl, rfl, rfl, rfl⟩ := hR.shape
  have HC := Lib.hid (show cutB d id = (idleP id d.vo && decide ((kidsK d.ag id).length ≤ 1) && !(treeKeysK d.ts).any (fun k => k.b == id)) from rfl)
  obtain ⟨R, hRR⟩ : ∃ R, cutB d id = R := ⟨_, rfl⟩
  obtain ⟨I, hI⟩ : ∃ I, idleP id d.vo = I := ⟨_, rfl⟩
  obtain ⟨KS, hKS⟩ : ∃ KS, kidsK d.ag id = KS := ⟨_, rfl⟩
  obtain ⟨KY, hKY⟩ : ∃ b, (treeKeysK d.ts).any (fun k => k.b == id) = b := ⟨_, rfl⟩
  obtain ⟨l, hl⟩ : ∃ l, treeKeysK d.ts = l := ⟨_, rfl⟩
  rw [hRR, hI, hKS, hKY] at HC
  rw [hKY] at HCK
  rw [hl] at HTK HCK
  rw [hKS] at HKI
  rw [hI] at HID
  rw [hRR]
  obtain ⟨q0, q1⟩ := al2 w (.cells #[.slice A0 d.lo.length c0, .slice A1 d.ts.length c1, .slice A2 d.ag.length c2, .slice A3 d.ce.length c3, .slice A4 d.vo.length c4, .int .i64 d.nx] 41) (.cells #[.int .i64 id] 3)
  have HB := Lib.hid (bal2 w (.cells #[.slice A0 d.lo.length c0, .slice A1 d.ts.length c1, .slice A2 d.ag.length c2, .slice A3 d.ce.length c3, .slice A4 d.vo.length c4, .int .i64 d.nx] 41) (.cells #[.int .i64 id] 3))
  have Q0 := Lib.hid q0
  have Q1 := Lib.hid q1
  clear hR hs h1 h2 h4 hkl hRR hI hKS hKY hl q0 q1
  go_enter Tryz.func82, Tryz.ntmps82
  go_upto_region 1 with (fail)
  generalize (w.alloc (.cells #[.slice A0 d.lo.length c0, .slice A1 d.ts.length c1, .slice A2 d.ag.length c2, .slice A3 d.ce.length c3, .slice A4 d.vo.length c4, .int .i64 d.nx] 41)).alloc (.cells #[.int .i64 id] 3) = W at *
  obtain ⟨x0, x1, x2, x3, x4, x5, x6⟩ := boxP Q0.out
  go_wp2_with fail
  refine (HTK.out _ HB.out).mono ?_
  rintro e w1 ⟨vk, rfl, o1, b1⟩
  obtain ⟨Ak, ck, rfl, _, _⟩ := o1.shape
  replace HB := Lib.hid (bstep HB.out b1)
  replace Q0 := Lib.hid (box_on Q0.out b1)
  replace Q1 := Lib.hid (box_on Q1.out b1)
  have HX := Lib.hid (HCK.out _ _ _ o1.owns.reads Q1.out)
  clear x0 x1 x2 x3 x4 x5 x6 b1 o1 HTK HCK
  go_wp2_with fail
  refine HX.out.mono ?_
  rintro e w2 ⟨rfl, b2⟩
  replace HB := Lib.hid (bstep HB.out b2)
  replace Q0 := Lib.hid (box_on Q0.out b2)
  replace Q1 := Lib.hid (box_on Q1.out b2)
  obtain ⟨x0, x1, x2, x3, x4, x5, x6⟩ := boxP Q0.out
  obtain ⟨y0, _⟩ := box1N Q1.out
  clear b2 HX
  go_wp2_with fail
  refine (HID.out _ HB.out).mono ?_
  rintro e w3 ⟨rfl, b3⟩
  replace HB := Lib.hid (bstep HB.out b3)
  replace Q0 := Lib.hid (box_on Q0.out b3)
  replace Q1 := Lib.hid (box_on Q1.out b3)
  clear x0 x1 x2 x3 x4 x5 x6 y0 b3 HID
  cases I
  · have HF : Hid (R = false) := Lib.hid (by rw [HC.out, Bool.false_and, Bool.false_and])
    go_wp2
    go_ret
    exact ⟨by rw [HF.out]; rfl, HB.out⟩
  · obtain ⟨x0, x1, x2, x3, x4, x5, x6⟩ := boxP Q0.out
    obtain ⟨y0, _⟩ := box1N Q1.out
    go_wp2_with fail
    refine (HKI.out _ HB.out).mono ?_
    rintro e w4 ⟨v4, rfl, o4, b4⟩
    obtain ⟨A5, c5, rfl, _, _⟩ := o4.shape
    replace HB := Lib.hid (bstep HB.out b4)
    clear x0 x1 x2 x3 x4 x5 x6 y0 b4 o4 HKI
    by_cases hl : KS.length ≤ 1
    · have e1 : decide ((KS.length : Int) ≤ 1) = true := decide_eq_true (by omega)
      have HF : Hid (R = !KY) := Lib.hid (by rw [HC.out, decide_eq_true hl, Bool.true_and, Bool.true_and])
      clear hl
      go_wp2
      go_ret
      exact ⟨by rw [HF.out]; rfl, HB.out⟩
    · have e1 : decide ((KS.length : Int) ≤ 1) = false := decide_eq_false (by omega)
      have HF : Hid (R = false) := Lib.hid (by rw [HC.out, decide_eq_false hl, Bool.and_false, Bool.false_and])
      clear hl
      go_wp2
      go_ret
      exact ⟨by rw [HF.out]; rfl, HB.out⟩
theorem ageJ_hit {d : PoolD} {k : Nat} (h : k < d.ag.length) (hi : ∀ j (hj : j < k) (hl : j < d.ag.length), cutB d (d.ag[j]).a = false) (hc : cutB d (d.ag[k]).a = true) : ageStepK d = (4, (k : Int)) := by
  have e : ageJ d = k := by
    unfold ageJ
    rw [List.findIdx_eq h]
    exact ⟨hc, fun j hj => hi j hj (by omega)⟩
  unfold ageStepK
  rw [e, if_pos h]
theorem ageJ_none {d : PoolD} (hi : ∀ j (hl : j < d.ag.length), cutB d (d.ag[j]).a = false) : ageStepK d = (0, 0) := by
  unfold ageStepK
  rw [if_neg]
  intro h
  have := List.findIdx_getElem (w := h)
  rw [show cutB d (d.ag[d.ag.findIdx (fun a => cutB d a.a)]'h).a = false from hi _ h] at this
  cases this
set_option maxHeartbeats 4000000 in
theorem ageStep_any {t : TypeId} (vl vn va vc vv : Value) (d : PoolD) (w : World) (hR : RdP t w w.heap.size vl vn va vc vv d) (hs : SmallP d) :
    Calls Tryz.prog 31 #[.agg #[vl, vn, va, vc, vv, .int .i64 d.nx]] w (SaysII w (ageStepK d)) := by
  have h2 := hs.2.1
  have HNE := Lib.hid (fun (id : Int) W b => needless_any vl vn va vc vv d id W (hR.on b) hs)
  have HH := Lib.hid (fun (k : Nat) h hi hc => ageJ_hit (d := d) (k := k) h hi hc)
  have HN := Lib.hid (ageJ_none (d := d))
  have HV := Lib.hid hR.2.1
  obtain ⟨A0, c0, A1, c1, A2, c2, A3, c3, A4, c4, rfl, rfl, rfl, rfl, rfl⟩ := hR.shape
  obtain ⟨R, hRR⟩ : ∃ R, ageStepK d = R := ⟨_, rfl⟩
  rw [hRR] at HH HN ⊢
  obtain ⟨l, hl⟩ : ∃ l, d.ag = l := ⟨_, rfl⟩
  have Q0 := Lib.hid (al1 w (.cells #[.slice A0 d.lo.length c0, .slice A1 d.ts.length c1, .slice A2 d.ag.length c2, .slice A3 d.ce.length c3, .slice A4 d.vo.length c4, .int .i64 d.nx] 41))
  have HB := Lib.hid (bal1 w (.cells #[.slice A0 d.lo.length c0, .slice A1 d.ts.length c1, .slice A2 d.ag.length c2, .slice A3 d.ce.length c3, .slice A4 d.vo.length c4, .int .i64 d.nx] 41))
  clear hR hs hRR hl
  go_enter Tryz.func31, Tryz.ntmps31
  go_upto_region 1 with (fail)
  generalize w.alloc (.cells #[.slice A0 d.lo.length c0, .slice A1 d.ts.length c1, .slice A2 d.ag.length c2, .slice A3 d.ce.length c3, .slice A4 d.vo.length c4, .int .i64 d.nx] 41) = W at *
  obtain ⟨x0, x1, x2, x3, x4, x5, x6⟩ := boxP Q0.out
  go_wp2
  clear x0 x1 x2 x3 x4 x5 x6
  go_loopw [9] (fun i wr => ∃ k : Nat, k ≤ d.ag.length ∧ i = .int .i64 k ∧ Hid (∀ j (hj : j < k) (hl : j < d.ag.length), cutB d (d.ag[j]).a = false) ∧ Hid (Below W.heap.size W wr)) (fun i _ => d.ag.length - (intOf i).toNat)
  case atStart => exact ⟨0, Nat.zero_le _, rfl, Lib.hid (fun j hj => by omega), Lib.hid (Below.refl _ _)⟩
  case round =>
    obtain ⟨k, hk, rfl, HI, HW⟩ := hrel
    by_cases hlt : k < d.ag.length
    · obtain ⟨b, off, rfl, hbb, hc⟩ := (HV.out.on (bstep HB.out HW.out)).ages hlt
      have i1 : (k : Int) < (d.ag.length : Int) := by omega
      have i2 : (0 : Int) ≤ (k : Int) := by omega
      obtain ⟨c0', c1'⟩ := hc k hlt
      have ba := bal1 wr (.cells #[.int .i64 (d.ag[k]).a, .int .i64 (d.ag[k]).b] 61)
      have HX := Lib.hid (HNE.out (d.ag[k]).a (wr.alloc (.cells #[.int .i64 (d.ag[k]).a, .int .i64 (d.ag[k]).b] 61)) (bstep (bstep HB.out HW.out) ba))
      have Q1 := Lib.hid (al1 wr (.cells #[.int .i64 (d.ag[k]).a, .int .i64 (d.ag[k]).b] 61))
      have Q2 := Lib.hid (box_on (box_on Q0.out HW.out) ba)
      replace HW := Lib.hid (bstep HW.out ba)
      clear hc ba
      cases hb : cutB d (d.ag[k]).a
      · have HI2 : Hid (∀ j (hj : j < k + 1) (hl : j < d.ag.length), cutB d (d.ag[j]).a = false) := Lib.hid (anyP_snoc (p := fun a => cutB d a.a) hlt HI.out hb)
        rw [hb] at HX
        clear hb
        go_upto_region 4 with (fail)
        generalize wr.alloc (.cells #[.int .i64 (d.ag[k]).a, .int .i64 (d.ag[k]).b] 61) = W2 at *
        obtain ⟨x0, x1, x2, x3, x4, x5, x6⟩ := boxP Q2.out
        obtain ⟨y0, y1, y2⟩ := box2 Q1.out
        go_wp2_with fail
        refine HX.out.mono ?_
        rintro e w3 ⟨rfl, b3⟩
        replace HW := Lib.hid (bstep HW.out b3)
        clear x0 x1 x2 x3 x4 x5 x6 y0 y1 y2 c0' c1' b3 HX Q1 Q2
        go_wp2
        go_roundw
        case rel => exact ⟨k + 1, by omega, by go_num, HI2, HW⟩
        case measure => simp [intOf]; omega
      · have HR := Lib.hid (HH.out k hlt HI.out hb)
        rw [hb] at HX
        clear hb
        go_upto_region 4 with (fail)
        generalize wr.alloc (.cells #[.int .i64 (d.ag[k]).a, .int .i64 (d.ag[k]).b] 61) = W2 at *
        obtain ⟨x0, x1, x2, x3, x4, x5, x6⟩ := boxP Q2.out
        obtain ⟨y0, y1, y2⟩ := box2 Q1.out
        go_wp2_with fail
        refine HX.out.mono ?_
        rintro e w3 ⟨rfl, b3⟩
        replace HW := Lib.hid (bstep HW.out b3)
        clear x0 x1 x2 x3 x4 x5 x6 y0 y1 y2 c0' c1' b3 HX Q1 Q2
        go_wp2
        refine bodyPost_ret (v := .tuple #[.int .i64 4, .int .i64 k]) (by simp [results, Tryz.results31, go_sem]) rfl ⟨by rw [HR.out], bstep HB.out HW.out⟩
    · have HR := Lib.hid (HN.out (fun j hl => HI.out j (by omega) hl))
      have i1 : ¬ ((k : Int) < (d.ag.length : Int)) := by omega
      go_wp2
      refine bodyPost_ret (v := .tuple #[.int .i64 0, .int .i64 0]) (by simp [results, Tryz.results31, go_sem]) rfl ⟨by rw [HR.out], bstep HB.out HW.out⟩
set_option maxHeartbeats 4000000 in
theorem implNextStep_any {t : TypeId} (vl vn va vc vv : Value) (d : PoolD) (w : World) (hR : RdP t w w.heap.size vl vn va vc vv d) (hs : SmallP d) (hnm : ∀ k ∈ d.vo, k.a.size ≤ maxLen) :
    Calls Tryz.prog 9 #[.agg #[vl, vn, va, vc, vv, .int .i64 d.nx]] w (SaysII w (nextK d)) := by
  have HPO := Lib.hid (fun W b => implPoolOk_any vl vn va vc vv d W (hR.on b) hs hnm)
  have HKS := Lib.hid (fun W b => keyStep_any vl vn va vc vv d W (hR.on b) hs)
  have HAS := Lib.hid (fun W b => ageStep_any vl vn va vc vv d W (hR.on b) hs)
  obtain ⟨A0, c0, A1, c1, A2, c2, A3, c3, A4, c4, rfl, rfl, rfl, rfl, rfl⟩ := hR.shape
  have HN := Lib.hid (show nextK d = if poolOkB d then (if (keyStepK d).1 = 0 then ageStepK d else keyStepK d) else (0, 0) from rfl)
  obtain ⟨R, hRR⟩ : ∃ R, nextK d = R := ⟨_, rfl⟩
  obtain ⟨P, hP⟩ : ∃ R, poolOkB d = R := ⟨_, rfl⟩
  obtain ⟨K, hK⟩ : ∃ R, keyStepK d = R := ⟨_, rfl⟩
  obtain ⟨G, hG⟩ : ∃ R, ageStepK d = R := ⟨_, rfl⟩
  rw [hRR, hP, hK, hG] at HN
  rw [hP] at HPO
  rw [hK] at HKS
  rw [hG] at HAS
  rw [hRR]
  obtain ⟨k1, k2⟩ := K
  obtain ⟨g1, g2⟩ := G
  obtain ⟨r1, r2⟩ := R
  have Q0 := Lib.hid (al1 w (.cells #[.slice A0 d.lo.length c0, .slice A1 d.ts.length c1, .slice A2 d.ag.length c2, .slice A3 d.ce.length c3, .slice A4 d.vo.length c4, .int .i64 d.nx] 41))
  have HB := Lib.hid (bal1 w (.cells #[.slice A0 d.lo.length c0, .slice A1 d.ts.length c1, .slice A2 d.ag.length c2, .slice A3 d.ce.length c3, .slice A4 d.vo.length c4, .int .i64 d.nx] 41))
  clear hR hs hnm hRR hP hK hG
  go_enter Tryz.func9, Tryz.ntmps9
  go_upto_region 1 with (fail)
  generalize w.alloc (.cells #[.slice A0 d.lo.length c0, .slice A1 d.ts.length c1, .slice A2 d.ag.length c2, .slice A3 d.ce.length c3, .slice A4 d.vo.length c4, .int .i64 d.nx] 41) = W at *
  obtain ⟨x0, x1, x2, x3, x4, x5, x6⟩ := boxP Q0.out
  go_wp2_with fail
  refine (HPO.out _ HB.out).mono ?_
  rintro e w1 ⟨rfl, b1⟩
  replace HB := Lib.hid (bstep HB.out b1)
  replace Q0 := Lib.hid (box_on Q0.out b1)
  clear x0 x1 x2 x3 x4 x5 x6 b1 HPO
  cases P
  · have HF : Hid ((r1, r2) = (0, 0)) := Lib.hid HN.out
    go_wp2
    refine bodyPost_ret (v := .tuple #[.int .i64 0, .int .i64 0]) (by simp [results, Tryz.results9, go_sem]) rfl ⟨by rw [HF.out], HB.out⟩
  · obtain ⟨x0, x1, x2, x3, x4, x5, x6⟩ := boxP Q0.out
    go_wp2_with fail
    refine (HKS.out _ HB.out).mono ?_
    rintro e w2 ⟨rfl, b2⟩
    replace HB := Lib.hid (bstep HB.out b2)
    replace Q0 := Lib.hid (box_on Q0.out b2)
    clear x0 x1 x2 x3 x4 x5 x6 b2 HKS
    by_cases hk : k1 = 0
    · have e1 : (k1 != 0) = false := by rw [hk]; rfl
      have HF : Hid ((r1, r2) = (g1, g2)) := Lib.hid (by rw [HN.out, if_pos trivial, if_pos hk])
      clear hk
      obtain ⟨x0, x1, x2, x3, x4, x5, x6⟩ := boxP Q0.out
      go_wp2_with fail
      refine (HAS.out _ HB.out).mono ?_
      rintro e w3 ⟨rfl, b3⟩
      replace HB := Lib.hid (bstep HB.out b3)
      clear x0 x1 x2 x3 x4 x5 x6 b3 HAS
      go_wp2
      refine bodyPost_ret (v := .tuple #[.int .i64 g1, .int .i64 g2]) (by simp [results, Tryz.results9, go_sem]) rfl ⟨by rw [HF.out], HB.out⟩
    · have e1 : (k1 != 0) = true := bne_iff_ne.2 hk
      have HF : Hid ((r1, r2) = (k1, k2)) := Lib.hid (by rw [HN.out, if_pos trivial, if_neg hk])
      clear hk
      go_wp2
      refine bodyPost_ret (v := .tuple #[.int .i64 k1, .int .i64 k2]) (by simp [results, Tryz.results9, go_sem]) rfl ⟨by rw [HF.out], HB.out⟩
end Go.Proofs.YtpfepcjbhchpcaaGreat
namespace Go.Proofs.YtpfepcjbhchpcaaGreat
open Go.RowKit
set_option maxRecDepth 100000
set_option linter.unusedSimpArgs false
set_option linter.unusedVariables false

theorem wpList_appK2 {ops : Array Oper} {rest : List Oper} {o : Oper} {a : Act} {Q : Exit → Act → World → Prop} (w : World) (hgd : o.guard = none) (s x : Operand)
    (hop : o.op = .call { callee := .builtin .append, args := #[s, x], argTypes := #[54, 54] })
    (base : Nat) (v : Value) (l : List KeyD) (hs : a.eval s = v) (hown : RowK w base v l) (A : Option Addr) (n c : Nat) (m : List KeyD) (hx : a.eval x = .slice A n c) (hmn : m.length = n) (hA : At w A (kvl m)) (hlen : l.length + m.length ≤ 1073741824) (hbase : base ≤ w.heap.size)
    (h : ∀ v' w', RowK w' base v' (l ++ m) → w.grownBy w' v.ownBlock → (v'.ownBlock = v.ownBlock ∨ v'.ownBlock = some w.heap.size) → wpList Tryz.prog ops Q rest (a.put o.dst v') w') : wpList Tryz.prog ops Q (o :: rest) a w := by
  subst hmn
  refine wpList_appV w hgd s x 54 58 5 40 (.agg #[.int .i64 0, .int .i64 0, .int .i64 0, .int .i64 0, .int .i64 0]) hop Tryz.underlying54 key_info rfl (by omega) (by omega) base l.length v (kvl l) hs hown A m.length c (kvl m) hx (kvl_len m) hA (kvl_cells m) hlen hbase ?_
  intro v' w' h2 h3 h4 h5
  refine h v' w' ?_ h3 h5
  rw [← kvl_append, ← List.length_append] at h2
  exact h2
/-- Two rows of the call's own, side by side: one that grows, one that stays. -/
structure TwoK (base : Nat) (W wr : World) (o v : Value) (m l : List KeyD) : Prop where
  grows : RowK wr base o m
  stays : RowK wr base v l
  apart : ∀ g, o.ownBlock = some g → v.ownBlock ≠ some g
  bel : Below W.heap.size W wr
  low : W.heap.size ≤ base
theorem TwoK.step {base : Nat} {W wr w1 : World} {o v v1 : Value} {m l : List KeyD} {x : KeyD} {e : TypeId} (h : TwoK base W wr o v m l) (hb : base ≤ wr.heap.size)
    (h1 : RowK w1 base v1 (m ++ [x])) (h2 : (wr.alloc (.cells #[.int .i64 x.a, .int .i64 x.b, .int .i64 x.c, .int .i64 x.d, .int .i64 x.e] e)).grownBy w1 o.ownBlock) (h3 : v1.ownBlock = o.ownBlock ∨ v1.ownBlock = some (wr.alloc (.cells #[.int .i64 x.a, .int .i64 x.b, .int .i64 x.c, .int .i64 x.d, .int .i64 x.e] e)).heap.size) : TwoK base W w1 v1 v (m ++ [x]) l := by
  have ba := bal1 wr (.cells #[.int .i64 x.a, .int .i64 x.b, .int .i64 x.c, .int .i64 x.d, .int .i64 x.e] e)
  have hsz : (wr.alloc (.cells #[.int .i64 x.a, .int .i64 x.b, .int .i64 x.c, .int .i64 x.d, .int .i64 x.e] e)).heap.size = wr.heap.size + 1 := by simp
  refine ⟨h1, h.stays.keep (fun g hg => ?_), fun g hg hv => ?_, (h.bel.trans (ba.mono h.bel.size)).grown h2 (by have := h.bel.size; omega) (fun k hk => Nat.le_trans h.low (h.grows.lt k hk).2), h.low⟩
  · have hlt := (h.stays.lt g hg).1
    exact (h2.block g (by omega) (fun e => h.apart g e.symm hg)).trans (ba.block g hlt)
  · have hlt := (h.stays.lt g hv).1
    rcases h3 with h3 | h3
    · exact h.apart g (h3.symm.trans hg) hv
    · rw [h3] at hg
      injection hg with hg
      omega
theorem TwoK.on {base : Nat} {W wr w1 : World} {o v : Value} {m l : List KeyD} (h : TwoK base W wr o v m l) (hb : base ≤ wr.heap.size) (b : Below wr.heap.size wr w1) : TwoK base W w1 o v m l :=
  ⟨h.grows.on b, h.stays.on b, h.apart, h.bel.trans (b.mono h.bel.size), h.low⟩
set_option maxHeartbeats 2000000 in
theorem specKeysOf_any (vl vn : Value) (lo : List Int) (ts : List NodeD) (p : Int) (w : World) (hv : RdT w w.heap.size vl vn lo ts) (hn : ts.length ≤ 1048576) (hs : sumT ts ≤ 1048576) :
    Calls Tryz.prog 177 #[.agg #[vl, vn], .int .i64 p] w (NewK w (keysOfK ts p)) := by
  obtain ⟨A, c, A', c', rfl, rfl⟩ := hv.shape
  have hb1 := bal2 w (.cells #[.slice A lo.length c, .slice A' ts.length c'] 36) (.cells #[] 58)
  have HV := Lib.hid (hv.on hb1)
  have HB := Lib.hid hb1
  have Q0 := Lib.hid (al2 w (.cells #[.slice A lo.length c, .slice A' ts.length c'] 36) (.cells #[] 58)).1
  have Q1 := Lib.hid (RowK.lit (w.alloc (.cells #[.slice A lo.length c, .slice A' ts.length c'] 36)))
  have HKL := Lib.hid (treeKeys_len ts)
  have HZ0 := Lib.hid (show (w.alloc (.cells #[.slice A lo.length c, .slice A' ts.length c'] 36)).heap.size = w.heap.size + 1 by simp)
  have HZ1 := Lib.hid (show ((w.alloc (.cells #[.slice A lo.length c, .slice A' ts.length c'] 36)).alloc (.cells #[] 58)).heap.size = w.heap.size + 1 + 1 by simp)
  unfold keysOfK
  obtain ⟨L, hL⟩ : ∃ L, treeKeysK ts = L := ⟨_, rfl⟩
  rw [hL] at HKL ⊢
  obtain ⟨R, hR⟩ : ∃ R, L.filter (fun k => k.a == p) = R := ⟨_, rfl⟩
  rw [hR]
  have HL := Lib.hid hL
  have HR := Lib.hid hR
  rw [HZ0.out] at Q1
  clear hv hb1 hL hR HZ0
  go_enter Tryz.func177, Tryz.ntmps177
  go_upto_region 2 with (fail)
  generalize (w.alloc (.cells #[.slice A lo.length c, .slice A' ts.length c'] 36)).alloc (.cells #[] 58) = W at *
  obtain ⟨x0, x1, x2⟩ := box2 Q0.out
  go_wp2_with fail
  refine (specTreeKeys_any _ _ lo ts _ HV.out hn hs).mono ?_
  rintro r w1 ⟨v1, rfl, o1, b1⟩
  rw [HL.out] at o1
  obtain ⟨A1, c1, rfl, _, _⟩ := o1.shape
  have HX := Lib.hid (show TwoK (w.heap.size + 1) w w1 (.slice (some ⟨w.heap.size + 1, 0, none⟩) 0 0) (.slice A1 L.length c1) [] L from ⟨Q1.out.on b1, o1.mono (by have := HZ1.out; omega), fun g hg hv => by
    have h1 := (o1.lt g hv).2
    have h2 := HZ1.out
    simp only [Value.ownBlock] at hg
    injection hg with hg
    omega, bstep HB.out b1, Nat.le_succ _⟩)
  have HZ := Lib.hid (show w.heap.size + 1 ≤ w1.heap.size by have := HZ1.out; have := b1.size; omega)
  have hL2 : L.length ≤ 1048576 := by have := HKL.out; omega
  clear o1 b1 x0 x1 x2 HV Q0 Q1 HB HZ1
  go_wp2
  go_loopw [5, 7] (fun o i wr => ∃ (k : Nat) (m : List KeyD), k ≤ L.length ∧ i = .int .i64 k ∧ Hid (m.length ≤ k) ∧ Hid (m ++ (L.drop k).filter (fun x => x.a == p) = R) ∧ Hid (TwoK (w.heap.size + 1) w wr o (.slice A1 L.length c1) m L) ∧ Hid (w.heap.size + 1 ≤ wr.heap.size)) (fun _ i _ => L.length - (intOf i).toNat)
  case atStart => exact ⟨0, [], Nat.zero_le _, rfl, Lib.hid (Nat.zero_le _), Lib.hid HR.out, HX, HZ⟩
  case round =>
    clear HX HZ
    obtain ⟨k, m, hk, rfl, HM, HI, HX, HZ⟩ := hrel
    obtain ⟨Ao, co, rfl, _, _⟩ := HX.out.grows.shape
    by_cases hlt : k < L.length
    · obtain ⟨b, off, rfl, hbb, hc⟩ := HX.out.stays.owns.reads.keys hlt
      have i1 : (k : Int) < (L.length : Int) := by omega
      have i2 : (0 : Int) ≤ (k : Int) := by omega
      obtain ⟨c0, c1, c2, c3, c4⟩ := hc k hlt
      clear hc
      cases hs : ((L[k]).a == p)
      · have HS := Lib.hid hs
        go_wp2
        go_roundw
        case rel => exact ⟨k + 1, m, by omega, by go_num, Lib.hid (Nat.le_succ_of_le HM.out), Lib.hid (filt_no (p := fun x => x.a == p) hlt HS.out HI.out), HX, HZ⟩
        case measure => simp [intOf]; omega
      · have HS := Lib.hid hs
        have ba := bal1 wr (.cells #[.int .i64 (L[k]).a, .int .i64 (L[k]).b, .int .i64 (L[k]).c, .int .i64 (L[k]).d, .int .i64 (L[k]).e] 58)
        have HRow := Lib.hid (HX.out.grows.on ba)
        have HAt := Lib.hid (At.key wr L[k] 58)
        have hzz : (wr.alloc (.cells #[.int .i64 (L[k]).a, .int .i64 (L[k]).b, .int .i64 (L[k]).c, .int .i64 (L[k]).d, .int .i64 (L[k]).e] 58)).heap.size = wr.heap.size + 1 := by simp
        have HZ2 := Lib.hid (show w.heap.size + 1 ≤ (wr.alloc (.cells #[.int .i64 (L[k]).a, .int .i64 (L[k]).b, .int .i64 (L[k]).c, .int .i64 (L[k]).d, .int .i64 (L[k]).e] 58)).heap.size by have := HZ.out; omega)
        clear ba hzz
        go_wp2_with (at_builtin; refine wpList_appK2 _ rfl (.tmp 24) (.tmp 29) rfl (w.heap.size + 1) _ m rfl HRow.out (some ⟨wr.heap.size, 0, none⟩) 1 1 [L[k]] rfl rfl HAt.out (by have := HM.out; simp; omega) HZ2.out ?_; intro v1 w1 o1 g1 e1; clear HRow HAt)
        have HX2 := Lib.hid (HX.out.step HZ.out o1 g1 e1)
        have HZ3 := Lib.hid (Nat.le_trans HZ2.out g1.size)
        clear o1 g1 e1
        go_roundw
        case rel => exact ⟨k + 1, m ++ [L[k]], by omega, by go_num, Lib.hid (by have := HM.out; simp; omega), Lib.hid (filt_yes (p := fun x => x.a == p) hlt HS.out HI.out), HX2, HZ3⟩
        case measure => simp [intOf]; omega
    · have e : m = R := by
        have := HI.out
        rw [List.drop_eq_nil_of_le (by omega)] at this
        simpa using this
      subst e
      go_wp2
      go_ret
      exact ⟨_, rfl, HX.out.grows.mono (by omega), HX.out.bel⟩
end Go.Proofs.YtpfepcjbhchpcaaGreat
namespace Go.Proofs.YtpfepcjbhchpcaaGreat
open Go.RowKit
set_option maxRecDepth 100000
set_option linter.unusedSimpArgs false
set_option linter.unusedVariables false

theorem l7Has_any (v : Value) (l : List Int) (x : Int) (w : World) (hv : Reads w w.heap.size v (intsD l)) (hn : l.length ≤ 2097152) : Calls Tryz.prog 178 #[v, .int .i64 x] w fun e w' => e = .returned (.bool (decide (x ∈ l))) ∧ w = w' := by
  obtain ⟨A, c, rfl, _, _⟩ := hv.lenN
  have HV := Lib.hid hv
  clear hv
  go_enter Tryz.func178, Tryz.ntmps178
  go_wp2
  go_loop [5] (fun i => ∃ k : Nat, k ≤ l.length ∧ i = .int .i64 k ∧ Hid (x ∉ l.take k)) (fun i => l.length - (intOf i).toNat)
  case atStart => exact ⟨0, Nat.zero_le _, rfl, Lib.hid (by simp)⟩
  case round =>
    obtain ⟨k, hk, rfl, HI⟩ := hrel
    by_cases hlt : k < l.length
    · obtain ⟨b, off, rfl, hbb, hc⟩ := HV.out.int hlt
      have c0 := hc k hlt
      unfold iV at c0
      have i1 : (k : Int) < (l.length : Int) := by omega
      have i2 : (0 : Int) ≤ (k : Int) := by omega
      clear hc
      cases hs : (l[k] == x)
      · have HS : Hid ((x == l[k]) = false) := Lib.hid (by simp at hs ⊢; omega)
        go_wp2
        go_round
        case rel => exact ⟨k + 1, by omega, by go_num, Lib.hid (take_no hlt HI.out HS.out)⟩
        case measure => simp [intOf]; omega
      · have HS := Lib.hid hs
        go_wp2
        go_ret
        refine ⟨ret_boolB ?_, rfl⟩
        have h1 : x ∈ l := by
          have := HS.out
          simp at this
          rw [← this]
          exact List.getElem_mem hlt
        rw [decide_eq_true h1]
    · go_wp2
      go_ret
      refine ⟨ret_boolB ?_, rfl⟩
      have h1 : x ∉ l := by
        have := HI.out
        rw [show k = l.length by omega, List.take_length] at this
        exact this
      rw [decide_eq_false h1]
def pathSK (l : List AgeD) (d : Int) : List Int := pathSGo l (l.length + 1) d
theorem pathSGo_len (l : List AgeD) (n : Nat) (d : Int) : (pathSGo l n d).length ≤ n := by
  induction n generalizing d with
  | zero => simp [pathSGo]
  | succ n ih =>
    rw [pathSGo]
    split
    · have := ih (parG l d)
      simp only [List.length_cons]
      omega
    · simp
theorem pathSK_len (l : List AgeD) (d : Int) : (pathSK l d).length ≤ l.length + 1 := pathSGo_len l _ d
set_option maxHeartbeats 4000000 in
theorem specPathOf_any (v : Value) (l : List AgeD) (d : Int) (w : World) (hv : Reads w w.heap.size v (agesD l)) (hn : l.length ≤ 2000000) : Calls Tryz.prog 126 #[v, .int .i64 d] w (NewI w (pathSK l d)) := by
  obtain ⟨A, c, rfl, _, _⟩ := hv.shapeG
  have HV := Lib.hid hv
  obtain ⟨R, hR⟩ : ∃ R, pathSK l d = R := ⟨_, rfl⟩
  rw [hR]
  unfold pathSK at hR
  have HR := Lib.hid hR
  have b0 := bal1 w (.cells #[] 3)
  have G0 := Lib.hid (show GrowI w _ _ [] from ⟨RowI.lit w, b0⟩)
  have HV0 := Lib.hid (hv.on b0)
  clear hv hR b0
  go_enter Tryz.func126, Tryz.ntmps126
  go_upto_region 2 with (fail)
  generalize w.alloc (.cells #[] 3) = w0 at *
  go_wp2_with fail
  refine (specAgeAt_any _ l d _ HV0.out (by omega)).mono ?_
  rintro e w1 ⟨rfl, rfl⟩
  go_wp2
  go_loopw [5, 6] (fun o i wr => ∃ (m : List Int) (e : Int), i = .int .i64 (ageAtK l e) ∧ Hid (m.length ≤ l.length + 1) ∧ Hid (m ++ pathSGo l (l.length + 1 - m.length) e = R) ∧ Hid (GrowI w wr o m)) (fun o _ _ => l.length + 1 - lenV o)
  case atStart => exact ⟨[], d, rfl, Lib.hid (Nat.zero_le _), Lib.hid (by simpa using HR.out), G0⟩
  case round =>
    clear G0 HV0
    obtain ⟨m, e, rfl, HM, HI, HX⟩ := hrel
    obtain ⟨hrow, hb⟩ := HX.out
    obtain ⟨Ao, co, rfl, _, _⟩ := hrow.shape
    have hgeq := ageAt_geq l e
    cases hh : hasG l e
    · rw [hh] at hgeq
      have hRe : R = m := by rw [← HI.out, pathS_no hh, List.append_nil]
      subst hRe
      generalize ageAtK l e = q at *
      have hq : decide (0 ≤ q) = false := hgeq
      clear hrow hb hh hgeq
      go_wp2
      go_ret
      exact ⟨_, rfl, HX.out.1, HX.out.2⟩
    · obtain ⟨hN, hq0⟩ := ageAt_has hh
      have hq : decide (0 ≤ ageAtK l e) = true := by rw [hh] at hgeq; exact hgeq
      rw [hq0] at hq ⊢
      by_cases hfull : m.length ≤ l.length
      · have d1 : decide (m.length ≤ l.length) = true := decide_eq_true hfull
        have d2 : decide ((m.length : Int) ≤ (l.length : Int)) = true := decide_eq_true (by omega)
        have hpar := parG_at hN
        have hget := ageI_get hN
        obtain ⟨b, off, rfl, hbb, hc⟩ := (HV.out.on hb).ages hN
        have hfu := HI.out
        rw [show l.length + 1 - m.length = (l.length - m.length) + 1 by omega, pathS_yes hh, hpar] at hfu
        have HFU := Lib.hid hfu
        obtain ⟨c0, c1⟩ := hc _ hN
        rw [hget] at c0
        have FK := Lib.hid (And.intro c0 c1)
        clear hc hgeq hh hpar hget hfu hq0
        generalize ageI l e = N at *
        obtain ⟨f, hf⟩ : ∃ f, (l[N]).b = f := ⟨_, rfl⟩
        rw [hf] at HFU FK c1
        clear hf
        have i1 : (N : Int) < (l.length : Int) := by omega
        have i2 : (0 : Int) ≤ (N : Int) := by omega
        have HAt := Lib.hid (At.intOne wr e 3)
        have ba := bal1 wr (.cells #[.int .i64 e] 3)
        have HRow := Lib.hid (hrow.on ba)
        have HB2 := Lib.hid (hb.trans (ba.mono hb.size))
        have HZ := Lib.hid HB2.out.size
        clear ba HX
        go_upto_region 5 with (at_builtin; refine wpList_appI _ rfl (.tmp 20) (.tmp 26) rfl w.heap.size _ m rfl HRow.out (some ⟨wr.heap.size, 0, none⟩) 1 1 [e] rfl rfl HAt.out (by simp; omega) HZ.out ?_; intro v2 w2 o2 b2; clear HRow HAt)
        have hb2 := HB2.out.trans b2
        obtain ⟨m2, hm2⟩ : ∃ m2, m ++ [e] = m2 := ⟨_, rfl⟩
        rw [hm2] at o2
        have hl2 : m2.length = m.length + 1 := by rw [← hm2]; simp
        obtain ⟨A2, e2, rfl, _, _⟩ := o2.shape
        have HL2 := Lib.hid hl2
        have HG2 := Lib.hid (show GrowI w w2 _ m2 from ⟨o2, hb2⟩)
        have hbw2 : b < w.heap.size := by
          obtain ⟨b', off', he, hbb', _⟩ := HV.out.ages hN
          cases he
          exact hbb'
        have F2 : Hid (w2.cell? ⟨b, off + N * 2, none⟩ = some (.int .i64 e) ∧ w2.cell? ⟨b, off + N * 2 + 1, none⟩ = some (.int .i64 f)) := Lib.hid ⟨(World.cell?_of_block (a := ⟨b, off + N * 2, none⟩) ((hb2.block b hbw2).trans (hb.block b hbw2).symm)).trans FK.out.1, (World.cell?_of_block (a := ⟨b, off + N * 2 + 1, none⟩) ((hb2.block b hbw2).trans (hb.block b hbw2).symm)).trans FK.out.2⟩
        have HM2 : Hid (m2.length ≤ l.length + 1) := Lib.hid (by omega)
        have HI2 : Hid (m2 ++ pathSGo l (l.length + 1 - m2.length) f = R) := Lib.hid (by rw [show l.length + 1 - m2.length = l.length - m.length by omega, ← HFU.out, ← hm2]; simp)
        have HVW := Lib.hid (HV.out.on HG2.out.2)
        have HME : Hid (l.length + 1 - m2.length < l.length + 1 - m.length) := Lib.hid (by omega)
        clear c0 c1 hrow hb hb2 b2 o2 HB2 HZ FK hl2 HI HM hm2 hfull d1 d2 HFU HL2
        obtain ⟨c0, c1⟩ := F2.out
        go_wp2_with fail
        refine (specAgeAt_any _ l f _ HVW.out (by omega)).mono ?_
        rintro r w3 ⟨rfl, rfl⟩
        clear c0 c1
        go_wp2
        go_roundw
        case rel => exact ⟨m2, f, rfl, HM2, HI2, HG2⟩
        case measure => simp only [lenV]; exact HME.out
      · have d1 : decide (m.length ≤ l.length) = false := decide_eq_false hfull
        have d2 : decide ((m.length : Int) ≤ (l.length : Int)) = false := decide_eq_false (by omega)
        have hRe : R = m := by
          have h0 : l.length + 1 - m.length = 0 := by omega
          rw [← HI.out, h0, pathSGo, List.append_nil]
        subst hRe
        generalize ageI l e = N at *
        clear hrow hb hh hgeq hq0
        go_wp2
        go_ret
        exact ⟨_, rfl, HX.out.1, HX.out.2⟩
theorem l7HasB_any (v : Value) (l : List Int) (x : Int) (w : World) (hv : Reads w w.heap.size v (intsD l)) (hn : l.length ≤ 2097152) : Calls Tryz.prog 178 #[v, .int .i64 x] w (SaysBool w (decide (x ∈ l))) := by
  refine (l7Has_any v l x w hv hn).mono ?_
  rintro r _ ⟨h, rfl⟩
  exact ⟨h, Below.refl _ _⟩
theorem RowK.set5 {w : World} {base g : Nat} {v u1 u2 u3 u4 u5 : Value} {l : List KeyD} (h : RowK w base v l) (hg : g < base) : RowK (((((w.setCell ⟨g, 0, none⟩ u1).setCell ⟨g, 1, none⟩ u2).setCell ⟨g, 2, none⟩ u3).setCell ⟨g, 3, none⟩ u4).setCell ⟨g, 4, none⟩ u5) base v l :=
  ((((h.set hg).set hg).set hg).set hg).set hg
set_option maxHeartbeats 8000000 in
theorem l8Near_any (vl vn vp : Value) (lo : List Int) (ts : List NodeD) (p : Int) (path : List Int) (w : World) (hv : RdT w w.heap.size vl vn lo ts) (hvp : Reads w w.heap.size vp (intsD path)) (hn : ts.length ≤ 1048576) (hs : sumT ts ≤ 1048576) (hnp : path.length ≤ 2097152) :
    Calls Tryz.prog 127 #[.agg #[vl, vn], .int .i64 p, vp] w (SaysFind w (nearK (keysOfK ts p) path)) := by
  obtain ⟨A, c, A', c', rfl, rfl⟩ := hv.shape
  obtain ⟨Ap, cp, rfl, _, _⟩ := hvp.lenN
  unfold SaysFind KeyD.v keyV
  have hkl := keysOf_len ts p
  obtain ⟨L, hL⟩ : ∃ L, keysOfK ts p = L := ⟨_, rfl⟩
  rw [hL] at hkl ⊢
  obtain ⟨R, hR⟩ : ∃ R, nearK L path = R := ⟨_, rfl⟩
  rw [hR]
  unfold nearK at hR
  obtain ⟨q0, q1, q2⟩ := al3 w (.cells #[.slice A lo.length c, .slice A' ts.length c'] 36) (.cells #[.int .i64 0, .int .i64 0, .int .i64 0, .int .i64 0, .int .i64 0] 58) (.cells #[.int .i64 0, .int .i64 0, .int .i64 0, .int .i64 0, .int .i64 0] 58)
  have hb := bal3 w (.cells #[.slice A lo.length c, .slice A' ts.length c'] 36) (.cells #[.int .i64 0, .int .i64 0, .int .i64 0, .int .i64 0, .int .i64 0] 58) (.cells #[.int .i64 0, .int .i64 0, .int .i64 0, .int .i64 0, .int .i64 0] 58)
  have HV := Lib.hid (hv.on hb)
  have HVP := Lib.hid hvp
  have HB := Lib.hid hb
  have Q0 := Lib.hid q0
  have Q1 := Lib.hid q1
  have Q2 := Lib.hid q2
  have HSZ : Hid ((((w.alloc (.cells #[.slice A lo.length c, .slice A' ts.length c'] 36)).alloc (.cells #[.int .i64 0, .int .i64 0, .int .i64 0, .int .i64 0, .int .i64 0] 58)).alloc (.cells #[.int .i64 0, .int .i64 0, .int .i64 0, .int .i64 0, .int .i64 0] 58)).heap.size = w.heap.size + 1 + 1 + 1) := Lib.hid (by simp)
  have HR := Lib.hid hR
  have HL := Lib.hid hL
  have hl2 : L.length ≤ 1048576 := by omega
  clear hv hvp hb q0 q1 q2 hR hL hkl
  go_enter Tryz.func127, Tryz.ntmps127
  go_upto_region 3 with (fail)
  generalize ((w.alloc (.cells #[.slice A lo.length c, .slice A' ts.length c'] 36)).alloc (.cells #[.int .i64 0, .int .i64 0, .int .i64 0, .int .i64 0, .int .i64 0] 58)).alloc (.cells #[.int .i64 0, .int .i64 0, .int .i64 0, .int .i64 0, .int .i64 0] 58) = W at *
  obtain ⟨x0, x1, x2⟩ := box2 Q0.out
  go_wp2_with fail
  refine (specKeysOf_any _ _ lo ts p _ HV.out hn hs).mono ?_
  rintro r w1 ⟨v1, rfl, o1, b1⟩
  rw [HL.out] at o1
  obtain ⟨A1, c1, rfl, _, _⟩ := o1.shape
  have HRow := Lib.hid (show RowK w1 (w.heap.size + 1 + 1 + 1) (.slice A1 L.length c1) L from o1.mono (by have := HSZ.out; omega))
  replace Q1 := Lib.hid (box_on Q1.out b1)
  replace Q2 := Lib.hid (box_on Q2.out b1)
  replace HB := Lib.hid (bstep HB.out b1)
  have HZ := Lib.hid (show w.heap.size + 1 + 1 + 1 ≤ w1.heap.size by have := HSZ.out; have := b1.size; omega)
  clear o1 b1 x0 x1 x2 HV Q0 HSZ HL hn hs
  go_wp2
  go_loopw [9, 11] (fun f i wr => ∃ (k : Nat) (x : KeyD) (y : Bool) (o : Option KeyD), k ≤ L.length ∧ i = .int .i64 k ∧ f = .bool y ∧ Hid (o.isSome = y ∧ o.getD zK = x) ∧ Hid ((L.drop k).foldl (nearS path) o = R) ∧ Hid (wr.heap[w.heap.size + 1]? = some (.cells #[.int .i64 0, .int .i64 0, .int .i64 0, .int .i64 0, .int .i64 0] 58 (0, 0))) ∧ Hid (wr.heap[w.heap.size + 1 + 1]? = some (.cells #[.int .i64 x.a, .int .i64 x.b, .int .i64 x.c, .int .i64 x.d, .int .i64 x.e] 58 (0, 0))) ∧ Hid (RowK wr (w.heap.size + 1 + 1 + 1) (.slice A1 L.length c1) L) ∧ Hid (Below w.heap.size w wr) ∧ Hid (w.heap.size + 1 + 1 + 1 ≤ wr.heap.size)) (fun _ i _ => L.length - (intOf i).toNat)
  case atStart => exact ⟨0, ⟨0, 0, 0, 0, 0⟩, false, none, Nat.zero_le _, rfl, rfl, Lib.hid ⟨rfl, rfl⟩, HR, Q1, Q2, HRow, HB, HZ⟩
  case round =>
    clear Q1 Q2 HRow HB HZ HR
    obtain ⟨k, x, y, o, hk, rfl, rfl, HO, HI, Q1, Q2, HRow, HB, HZ⟩ := hrel
    by_cases hlt : k < L.length
    · obtain ⟨b, off, rfl, hbb, hc⟩ := HRow.out.owns.reads.keys hlt
      have i1 : (k : Int) < (L.length : Int) := by omega
      have i2 : (0 : Int) ≤ (k : Int) := by omega
      have FK := Lib.hid (hc k hlt)
      obtain ⟨M, hM⟩ : ∃ M, decide ((L[k]).b ∈ path) = M := ⟨_, rfl⟩
      obtain ⟨G, hG⟩ : ∃ G, decide (x.b < (L[k]).b) = G := ⟨_, rfl⟩
      have HNB : Hid (nearB path o L[k] = (M && (!y || G))) := Lib.hid (by rw [near_eq, HO.out.1, HO.out.2, hM, hG])
      have HM := Lib.hid hM
      clear hc hM
      go_upto_region 7 with (fail)
      cases M
      · cases y
        · refine but_begin (f := 20) (S := fun V => Below wr.drew.heap.size wr.drew V) (by kernel_rfl) ?_
          refine but_take (f := 20) (i := 0) (v := ?vnff0) rfl (by kernel_rfl) (by kernel_rfl) (by kernel_rfl) (by kernel_rfl) (by kernel_rfl) (fun _ _ _ h => h) (Or.inl ⟨(by rfl), ?hynff0⟩) (Below.refl _ _) ?restnff0
          case hynff0 =>
            intro W hW
            go_simp
            exact rfl
          simp only [List.getElem_toArray, List.getElem_cons_succ, List.getElem_cons_zero, Act.put, List.setIfInBounds_toArray, List.set_cons_zero, List.set_cons_succ]
          refine but_take (f := 20) (i := 1) (v := ?vnff1) rfl (by kernel_rfl) (by kernel_rfl) (by kernel_rfl) (by kernel_rfl) (by kernel_rfl) (fun _ _ _ h => h) (Or.inl ⟨(by rfl), ?hynff1⟩) (Below.refl _ _) ?restnff1
          case hynff1 =>
            intro W hW
            go_simp
            exact rfl
          simp only [List.getElem_toArray, List.getElem_cons_succ, List.getElem_cons_zero, Act.put, List.setIfInBounds_toArray, List.set_cons_zero, List.set_cons_succ]
          refine but_take (f := 20) (i := 2) (v := ?vnff2) rfl (by kernel_rfl) (by kernel_rfl) (by kernel_rfl) (by kernel_rfl) (by kernel_rfl) (fun _ _ _ h => h) (Or.inl ⟨(by rfl), ?hynff2⟩) (Below.refl _ _) ?restnff2
          case hynff2 =>
            intro W hW
            go_simp
            exact rfl
          simp only [List.getElem_toArray, List.getElem_cons_succ, List.getElem_cons_zero, Act.put, List.setIfInBounds_toArray, List.set_cons_zero, List.set_cons_succ]
          refine but_take (f := 20) (i := 3) (v := ?vnff3) rfl (by kernel_rfl) (by kernel_rfl) (by kernel_rfl) (by kernel_rfl) (by kernel_rfl) (fun _ _ _ h => h) (Or.inl ⟨(by rfl), ?hynff3⟩) (Below.refl _ _) ?restnff3
          case hynff3 =>
            intro W hW
            go_simp
            exact rfl
          simp only [List.getElem_toArray, List.getElem_cons_succ, List.getElem_cons_zero, Act.put, List.setIfInBounds_toArray, List.set_cons_zero, List.set_cons_succ]
          refine but_take (f := 20) (i := 4) (v := ?vnff4) rfl (by kernel_rfl) (by kernel_rfl) (by kernel_rfl) (by kernel_rfl) (by kernel_rfl) (fun _ _ _ h => h) (Or.inl ⟨(by rfl), ?hynff4⟩) (Below.refl _ _) ?restnff4
          case hynff4 =>
            intro W hW
            go_simp
            exact rfl
          simp only [List.getElem_toArray, List.getElem_cons_succ, List.getElem_cons_zero, Act.put, List.setIfInBounds_toArray, List.set_cons_zero, List.set_cons_succ]
          refine but_take (f := 20) (i := 5) (v := ?vnff5) rfl (by kernel_rfl) (by kernel_rfl) (by kernel_rfl) (by kernel_rfl) (by kernel_rfl) (fun _ _ _ h => h) (Or.inl ⟨(by rfl), ?hynff5⟩) (Below.refl _ _) ?restnff5
          case hynff5 =>
            intro W hW
            have hb0 : Below wr.heap.size wr W := bstep (Below.drew1 _) hW
            obtain ⟨c0, c1, c2, c3, c4⟩ := FK.out.on hbb hb0
            go_simp
            exact rfl
          simp only [List.getElem_toArray, List.getElem_cons_succ, List.getElem_cons_zero, Act.put, List.setIfInBounds_toArray, List.set_cons_zero, List.set_cons_succ]
          refine but_run (i := 6) (by kernel_rfl) rfl (by rfl) ?_
          simp only [List.getElem_toArray, List.getElem_cons_succ, List.getElem_cons_zero]
          intro K HK
          go_wp2_with fail
          refine (l7HasB_any _ path (L[k]).b _ (HVP.out.on (bstep HB.out (bstep (Below.drew1 _) (Below.refl _ _)))) hnp).mono ?_
          rintro r Vnff1 ⟨rfl, hBnff1⟩
          rw [HM.out]
          have hSnff1 := bstep (Below.refl _ _) hBnff1
          go_wp2_with fail
          refine HK.out _ Vnff1 (fun _ => hSnff1) ?_
          clear HK
          refine but_take (f := 20) (i := 7) (v := ?vnff7) rfl (by kernel_rfl) (by kernel_rfl) (by kernel_rfl) (by kernel_rfl) (by kernel_rfl) (fun _ _ _ h => h) (Or.inl ⟨(by rfl), ?hynff7⟩) hSnff1 ?restnff7
          case hynff7 =>
            intro W hW
            go_simp
            exact rfl
          simp only [List.getElem_toArray, List.getElem_cons_succ, List.getElem_cons_zero, Act.put, List.setIfInBounds_toArray, List.set_cons_zero, List.set_cons_succ]
          refine but_take (f := 20) (i := 8) (v := undef) rfl (by kernel_rfl) (by kernel_rfl) (by kernel_rfl) (by kernel_rfl) (by kernel_rfl) (fun _ _ _ h => h) (Or.inr ⟨((wanted_at rfl rfl rfl rfl).trans rfl), rfl⟩) hSnff1 ?_
          simp only [List.getElem_toArray, List.getElem_cons_succ, List.getElem_cons_zero, Act.put, List.setIfInBounds_toArray, List.set_cons_zero, List.set_cons_succ]
          refine but_take (f := 20) (i := 9) (v := undef) rfl (by kernel_rfl) (by kernel_rfl) (by kernel_rfl) (by kernel_rfl) (by kernel_rfl) (fun _ _ _ h => h) (Or.inr ⟨((wanted_at rfl rfl rfl rfl).trans rfl), rfl⟩) hSnff1 ?_
          simp only [List.getElem_toArray, List.getElem_cons_succ, List.getElem_cons_zero, Act.put, List.setIfInBounds_toArray, List.set_cons_zero, List.set_cons_succ]
          refine but_take (f := 20) (i := 10) (v := undef) rfl (by kernel_rfl) (by kernel_rfl) (by kernel_rfl) (by kernel_rfl) (by kernel_rfl) (fun _ _ _ h => h) (Or.inr ⟨((wanted_at rfl rfl rfl rfl).trans rfl), rfl⟩) hSnff1 ?_
          simp only [List.getElem_toArray, List.getElem_cons_succ, List.getElem_cons_zero, Act.put, List.setIfInBounds_toArray, List.set_cons_zero, List.set_cons_succ]
          refine but_take (f := 20) (i := 11) (v := undef) rfl (by kernel_rfl) (by kernel_rfl) (by kernel_rfl) (by kernel_rfl) (by kernel_rfl) (fun _ _ _ h => h) (Or.inr ⟨(wanted_un rfl rfl rfl rfl), rfl⟩) hSnff1 ?_
          simp only [List.getElem_toArray, List.getElem_cons_succ, List.getElem_cons_zero, Act.put, List.setIfInBounds_toArray, List.set_cons_zero, List.set_cons_succ]
          refine but_take (f := 20) (i := 12) (v := undef) rfl (by kernel_rfl) (by kernel_rfl) (by kernel_rfl) (by kernel_rfl) (by kernel_rfl) (fun _ _ _ h => h) (Or.inr ⟨(wanted_un rfl rfl rfl rfl), rfl⟩) hSnff1 ?_
          simp only [List.getElem_toArray, List.getElem_cons_succ, List.getElem_cons_zero, Act.put, List.setIfInBounds_toArray, List.set_cons_zero, List.set_cons_succ]
          refine but_take (f := 20) (i := 13) (v := undef) rfl (by kernel_rfl) (by kernel_rfl) (by kernel_rfl) (by kernel_rfl) (by kernel_rfl) (fun _ _ _ h => h) (Or.inr ⟨(wanted_un rfl rfl rfl rfl), rfl⟩) hSnff1 ?_
          simp only [List.getElem_toArray, List.getElem_cons_succ, List.getElem_cons_zero, Act.put, List.setIfInBounds_toArray, List.set_cons_zero, List.set_cons_succ]
          refine but_take (f := 20) (i := 14) (v := undef) rfl (by kernel_rfl) (by kernel_rfl) (by kernel_rfl) (by kernel_rfl) (by kernel_rfl) (fun _ _ _ h => h) (Or.inr ⟨(wanted_un rfl rfl rfl rfl), rfl⟩) hSnff1 ?_
          simp only [List.getElem_toArray, List.getElem_cons_succ, List.getElem_cons_zero, Act.put, List.setIfInBounds_toArray, List.set_cons_zero, List.set_cons_succ]
          refine but_take (f := 20) (i := 15) (v := undef) rfl (by kernel_rfl) (by kernel_rfl) (by kernel_rfl) (by kernel_rfl) (by kernel_rfl) (fun _ _ _ h => h) (Or.inr ⟨(wanted_un rfl rfl rfl rfl), rfl⟩) hSnff1 ?_
          simp only [List.getElem_toArray, List.getElem_cons_succ, List.getElem_cons_zero, Act.put, List.setIfInBounds_toArray, List.set_cons_zero, List.set_cons_succ]
          refine but_take (f := 20) (i := 16) (v := undef) rfl (by kernel_rfl) (by kernel_rfl) (by kernel_rfl) (by kernel_rfl) (by kernel_rfl) (fun _ _ _ h => h) (Or.inr ⟨(wanted_un rfl rfl rfl rfl), rfl⟩) hSnff1 ?_
          simp only [List.getElem_toArray, List.getElem_cons_succ, List.getElem_cons_zero, Act.put, List.setIfInBounds_toArray, List.set_cons_zero, List.set_cons_succ]
          refine but_take (f := 20) (i := 17) (v := undef) rfl (by kernel_rfl) (by kernel_rfl) (by kernel_rfl) (by kernel_rfl) (by kernel_rfl) (fun _ _ _ h => h) (Or.inr ⟨(wanted_un rfl rfl rfl rfl), rfl⟩) hSnff1 ?_
          simp only [List.getElem_toArray, List.getElem_cons_succ, List.getElem_cons_zero, Act.put, List.setIfInBounds_toArray, List.set_cons_zero, List.set_cons_succ]
          refine but_take (f := 20) (i := 18) (v := undef) rfl (by kernel_rfl) (by kernel_rfl) (by kernel_rfl) (by kernel_rfl) (by kernel_rfl) (fun _ _ _ h => h) (Or.inr ⟨(wanted_un rfl rfl rfl rfl), rfl⟩) hSnff1 ?_
          simp only [List.getElem_toArray, List.getElem_cons_succ, List.getElem_cons_zero, Act.put, List.setIfInBounds_toArray, List.set_cons_zero, List.set_cons_succ]
          refine but_take (f := 20) (i := 19) (v := undef) rfl (by kernel_rfl) (by kernel_rfl) (by kernel_rfl) (by kernel_rfl) (by kernel_rfl) (fun _ _ _ h => h) (Or.inr ⟨((wanted_at rfl rfl rfl rfl).trans rfl), rfl⟩) hSnff1 ?_
          simp only [List.getElem_toArray, List.getElem_cons_succ, List.getElem_cons_zero, Act.put, List.setIfInBounds_toArray, List.set_cons_zero, List.set_cons_succ]
          refine but_run (i := 20) (by kernel_rfl) rfl (by rfl) ?_
          simp only [List.getElem_toArray, List.getElem_cons_succ, List.getElem_cons_zero]
          intro K HK
          go_wp2_with fail
          refine HK.out _ Vnff1 (fun h => absurd rfl h) ?_
          clear HK
          refine but_done (by kernel_rfl) ?_
          go_wp2_with fail
          go_roundw
          case rel => exact ⟨k + 1, x, false, o, by omega, by go_num, rfl, HO, Lib.hid (near_no hlt HNB.out HI.out), Lib.hid (box_on Q1.out (bstep (Below.drew1 _) hSnff1)), Lib.hid (box_on Q2.out (bstep (Below.drew1 _) hSnff1)), Lib.hid (HRow.out.on (bstep (Below.drew1 _) hSnff1)), Lib.hid (bstep HB.out (bstep (Below.drew1 _) hSnff1)), Lib.hid (Nat.le_trans HZ.out ((bstep (Below.drew1 _) hSnff1)).size)⟩
          case measure => simp [intOf]; omega
        · refine but_begin (f := 20) (S := fun V => Below wr.drew.heap.size wr.drew V) (by kernel_rfl) ?_
          refine but_take (f := 20) (i := 0) (v := ?vnft0) rfl (by kernel_rfl) (by kernel_rfl) (by kernel_rfl) (by kernel_rfl) (by kernel_rfl) (fun _ _ _ h => h) (Or.inl ⟨(by rfl), ?hynft0⟩) (Below.refl _ _) ?restnft0
          case hynft0 =>
            intro W hW
            go_simp
            exact rfl
          simp only [List.getElem_toArray, List.getElem_cons_succ, List.getElem_cons_zero, Act.put, List.setIfInBounds_toArray, List.set_cons_zero, List.set_cons_succ]
          refine but_take (f := 20) (i := 1) (v := ?vnft1) rfl (by kernel_rfl) (by kernel_rfl) (by kernel_rfl) (by kernel_rfl) (by kernel_rfl) (fun _ _ _ h => h) (Or.inl ⟨(by rfl), ?hynft1⟩) (Below.refl _ _) ?restnft1
          case hynft1 =>
            intro W hW
            go_simp
            exact rfl
          simp only [List.getElem_toArray, List.getElem_cons_succ, List.getElem_cons_zero, Act.put, List.setIfInBounds_toArray, List.set_cons_zero, List.set_cons_succ]
          refine but_take (f := 20) (i := 2) (v := ?vnft2) rfl (by kernel_rfl) (by kernel_rfl) (by kernel_rfl) (by kernel_rfl) (by kernel_rfl) (fun _ _ _ h => h) (Or.inl ⟨(by rfl), ?hynft2⟩) (Below.refl _ _) ?restnft2
          case hynft2 =>
            intro W hW
            go_simp
            exact rfl
          simp only [List.getElem_toArray, List.getElem_cons_succ, List.getElem_cons_zero, Act.put, List.setIfInBounds_toArray, List.set_cons_zero, List.set_cons_succ]
          refine but_take (f := 20) (i := 3) (v := ?vnft3) rfl (by kernel_rfl) (by kernel_rfl) (by kernel_rfl) (by kernel_rfl) (by kernel_rfl) (fun _ _ _ h => h) (Or.inl ⟨(by rfl), ?hynft3⟩) (Below.refl _ _) ?restnft3
          case hynft3 =>
            intro W hW
            go_simp
            exact rfl
          simp only [List.getElem_toArray, List.getElem_cons_succ, List.getElem_cons_zero, Act.put, List.setIfInBounds_toArray, List.set_cons_zero, List.set_cons_succ]
          refine but_take (f := 20) (i := 4) (v := ?vnft4) rfl (by kernel_rfl) (by kernel_rfl) (by kernel_rfl) (by kernel_rfl) (by kernel_rfl) (fun _ _ _ h => h) (Or.inl ⟨(by rfl), ?hynft4⟩) (Below.refl _ _) ?restnft4
          case hynft4 =>
            intro W hW
            go_simp
            exact rfl
          simp only [List.getElem_toArray, List.getElem_cons_succ, List.getElem_cons_zero, Act.put, List.setIfInBounds_toArray, List.set_cons_zero, List.set_cons_succ]
          refine but_take (f := 20) (i := 5) (v := ?vnft5) rfl (by kernel_rfl) (by kernel_rfl) (by kernel_rfl) (by kernel_rfl) (by kernel_rfl) (fun _ _ _ h => h) (Or.inl ⟨(by rfl), ?hynft5⟩) (Below.refl _ _) ?restnft5
          case hynft5 =>
            intro W hW
            have hb0 : Below wr.heap.size wr W := bstep (Below.drew1 _) hW
            obtain ⟨c0, c1, c2, c3, c4⟩ := FK.out.on hbb hb0
            go_simp
            exact rfl
          simp only [List.getElem_toArray, List.getElem_cons_succ, List.getElem_cons_zero, Act.put, List.setIfInBounds_toArray, List.set_cons_zero, List.set_cons_succ]
          refine but_run (i := 6) (by kernel_rfl) rfl (by rfl) ?_
          simp only [List.getElem_toArray, List.getElem_cons_succ, List.getElem_cons_zero]
          intro K HK
          go_wp2_with fail
          refine (l7HasB_any _ path (L[k]).b _ (HVP.out.on (bstep HB.out (bstep (Below.drew1 _) (Below.refl _ _)))) hnp).mono ?_
          rintro r Vnft1 ⟨rfl, hBnft1⟩
          rw [HM.out]
          have hSnft1 := bstep (Below.refl _ _) hBnft1
          go_wp2_with fail
          refine HK.out _ Vnft1 (fun _ => hSnft1) ?_
          clear HK
          refine but_take (f := 20) (i := 7) (v := ?vnft7) rfl (by kernel_rfl) (by kernel_rfl) (by kernel_rfl) (by kernel_rfl) (by kernel_rfl) (fun _ _ _ h => h) (Or.inl ⟨(by rfl), ?hynft7⟩) hSnft1 ?restnft7
          case hynft7 =>
            intro W hW
            go_simp
            exact rfl
          simp only [List.getElem_toArray, List.getElem_cons_succ, List.getElem_cons_zero, Act.put, List.setIfInBounds_toArray, List.set_cons_zero, List.set_cons_succ]
          refine but_take (f := 20) (i := 8) (v := undef) rfl (by kernel_rfl) (by kernel_rfl) (by kernel_rfl) (by kernel_rfl) (by kernel_rfl) (fun _ _ _ h => h) (Or.inr ⟨((wanted_at rfl rfl rfl rfl).trans rfl), rfl⟩) hSnft1 ?_
          simp only [List.getElem_toArray, List.getElem_cons_succ, List.getElem_cons_zero, Act.put, List.setIfInBounds_toArray, List.set_cons_zero, List.set_cons_succ]
          refine but_take (f := 20) (i := 9) (v := undef) rfl (by kernel_rfl) (by kernel_rfl) (by kernel_rfl) (by kernel_rfl) (by kernel_rfl) (fun _ _ _ h => h) (Or.inr ⟨((wanted_at rfl rfl rfl rfl).trans rfl), rfl⟩) hSnft1 ?_
          simp only [List.getElem_toArray, List.getElem_cons_succ, List.getElem_cons_zero, Act.put, List.setIfInBounds_toArray, List.set_cons_zero, List.set_cons_succ]
          refine but_take (f := 20) (i := 10) (v := undef) rfl (by kernel_rfl) (by kernel_rfl) (by kernel_rfl) (by kernel_rfl) (by kernel_rfl) (fun _ _ _ h => h) (Or.inr ⟨((wanted_at rfl rfl rfl rfl).trans rfl), rfl⟩) hSnft1 ?_
          simp only [List.getElem_toArray, List.getElem_cons_succ, List.getElem_cons_zero, Act.put, List.setIfInBounds_toArray, List.set_cons_zero, List.set_cons_succ]
          refine but_take (f := 20) (i := 11) (v := undef) rfl (by kernel_rfl) (by kernel_rfl) (by kernel_rfl) (by kernel_rfl) (by kernel_rfl) (fun _ _ _ h => h) (Or.inr ⟨(wanted_un rfl rfl rfl rfl), rfl⟩) hSnft1 ?_
          simp only [List.getElem_toArray, List.getElem_cons_succ, List.getElem_cons_zero, Act.put, List.setIfInBounds_toArray, List.set_cons_zero, List.set_cons_succ]
          refine but_take (f := 20) (i := 12) (v := undef) rfl (by kernel_rfl) (by kernel_rfl) (by kernel_rfl) (by kernel_rfl) (by kernel_rfl) (fun _ _ _ h => h) (Or.inr ⟨(wanted_un rfl rfl rfl rfl), rfl⟩) hSnft1 ?_
          simp only [List.getElem_toArray, List.getElem_cons_succ, List.getElem_cons_zero, Act.put, List.setIfInBounds_toArray, List.set_cons_zero, List.set_cons_succ]
          refine but_take (f := 20) (i := 13) (v := undef) rfl (by kernel_rfl) (by kernel_rfl) (by kernel_rfl) (by kernel_rfl) (by kernel_rfl) (fun _ _ _ h => h) (Or.inr ⟨(wanted_un rfl rfl rfl rfl), rfl⟩) hSnft1 ?_
          simp only [List.getElem_toArray, List.getElem_cons_succ, List.getElem_cons_zero, Act.put, List.setIfInBounds_toArray, List.set_cons_zero, List.set_cons_succ]
          refine but_take (f := 20) (i := 14) (v := undef) rfl (by kernel_rfl) (by kernel_rfl) (by kernel_rfl) (by kernel_rfl) (by kernel_rfl) (fun _ _ _ h => h) (Or.inr ⟨(wanted_un rfl rfl rfl rfl), rfl⟩) hSnft1 ?_
          simp only [List.getElem_toArray, List.getElem_cons_succ, List.getElem_cons_zero, Act.put, List.setIfInBounds_toArray, List.set_cons_zero, List.set_cons_succ]
          refine but_take (f := 20) (i := 15) (v := undef) rfl (by kernel_rfl) (by kernel_rfl) (by kernel_rfl) (by kernel_rfl) (by kernel_rfl) (fun _ _ _ h => h) (Or.inr ⟨(wanted_un rfl rfl rfl rfl), rfl⟩) hSnft1 ?_
          simp only [List.getElem_toArray, List.getElem_cons_succ, List.getElem_cons_zero, Act.put, List.setIfInBounds_toArray, List.set_cons_zero, List.set_cons_succ]
          refine but_take (f := 20) (i := 16) (v := undef) rfl (by kernel_rfl) (by kernel_rfl) (by kernel_rfl) (by kernel_rfl) (by kernel_rfl) (fun _ _ _ h => h) (Or.inr ⟨(wanted_un rfl rfl rfl rfl), rfl⟩) hSnft1 ?_
          simp only [List.getElem_toArray, List.getElem_cons_succ, List.getElem_cons_zero, Act.put, List.setIfInBounds_toArray, List.set_cons_zero, List.set_cons_succ]
          refine but_take (f := 20) (i := 17) (v := undef) rfl (by kernel_rfl) (by kernel_rfl) (by kernel_rfl) (by kernel_rfl) (by kernel_rfl) (fun _ _ _ h => h) (Or.inr ⟨(wanted_un rfl rfl rfl rfl), rfl⟩) hSnft1 ?_
          simp only [List.getElem_toArray, List.getElem_cons_succ, List.getElem_cons_zero, Act.put, List.setIfInBounds_toArray, List.set_cons_zero, List.set_cons_succ]
          refine but_take (f := 20) (i := 18) (v := undef) rfl (by kernel_rfl) (by kernel_rfl) (by kernel_rfl) (by kernel_rfl) (by kernel_rfl) (fun _ _ _ h => h) (Or.inr ⟨(wanted_un rfl rfl rfl rfl), rfl⟩) hSnft1 ?_
          simp only [List.getElem_toArray, List.getElem_cons_succ, List.getElem_cons_zero, Act.put, List.setIfInBounds_toArray, List.set_cons_zero, List.set_cons_succ]
          refine but_take (f := 20) (i := 19) (v := undef) rfl (by kernel_rfl) (by kernel_rfl) (by kernel_rfl) (by kernel_rfl) (by kernel_rfl) (fun _ _ _ h => h) (Or.inr ⟨((wanted_at rfl rfl rfl rfl).trans rfl), rfl⟩) hSnft1 ?_
          simp only [List.getElem_toArray, List.getElem_cons_succ, List.getElem_cons_zero, Act.put, List.setIfInBounds_toArray, List.set_cons_zero, List.set_cons_succ]
          refine but_run (i := 20) (by kernel_rfl) rfl (by rfl) ?_
          simp only [List.getElem_toArray, List.getElem_cons_succ, List.getElem_cons_zero]
          intro K HK
          go_wp2_with fail
          refine HK.out _ Vnft1 (fun h => absurd rfl h) ?_
          clear HK
          refine but_done (by kernel_rfl) ?_
          go_wp2_with fail
          go_roundw
          case rel => exact ⟨k + 1, x, true, o, by omega, by go_num, rfl, HO, Lib.hid (near_no hlt HNB.out HI.out), Lib.hid (box_on Q1.out (bstep (Below.drew1 _) hSnft1)), Lib.hid (box_on Q2.out (bstep (Below.drew1 _) hSnft1)), Lib.hid (HRow.out.on (bstep (Below.drew1 _) hSnft1)), Lib.hid (bstep HB.out (bstep (Below.drew1 _) hSnft1)), Lib.hid (Nat.le_trans HZ.out ((bstep (Below.drew1 _) hSnft1)).size)⟩
          case measure => simp [intOf]; omega
      · cases y
        · refine but_begin (f := 20) (S := fun V => Below wr.drew.heap.size wr.drew V) (by kernel_rfl) ?_
          refine but_take (f := 20) (i := 0) (v := ?vntf0) rfl (by kernel_rfl) (by kernel_rfl) (by kernel_rfl) (by kernel_rfl) (by kernel_rfl) (fun _ _ _ h => h) (Or.inl ⟨(by rfl), ?hyntf0⟩) (Below.refl _ _) ?restntf0
          case hyntf0 =>
            intro W hW
            go_simp
            exact rfl
          simp only [List.getElem_toArray, List.getElem_cons_succ, List.getElem_cons_zero, Act.put, List.setIfInBounds_toArray, List.set_cons_zero, List.set_cons_succ]
          refine but_take (f := 20) (i := 1) (v := ?vntf1) rfl (by kernel_rfl) (by kernel_rfl) (by kernel_rfl) (by kernel_rfl) (by kernel_rfl) (fun _ _ _ h => h) (Or.inl ⟨(by rfl), ?hyntf1⟩) (Below.refl _ _) ?restntf1
          case hyntf1 =>
            intro W hW
            go_simp
            exact rfl
          simp only [List.getElem_toArray, List.getElem_cons_succ, List.getElem_cons_zero, Act.put, List.setIfInBounds_toArray, List.set_cons_zero, List.set_cons_succ]
          refine but_take (f := 20) (i := 2) (v := ?vntf2) rfl (by kernel_rfl) (by kernel_rfl) (by kernel_rfl) (by kernel_rfl) (by kernel_rfl) (fun _ _ _ h => h) (Or.inl ⟨(by rfl), ?hyntf2⟩) (Below.refl _ _) ?restntf2
          case hyntf2 =>
            intro W hW
            go_simp
            exact rfl
          simp only [List.getElem_toArray, List.getElem_cons_succ, List.getElem_cons_zero, Act.put, List.setIfInBounds_toArray, List.set_cons_zero, List.set_cons_succ]
          refine but_take (f := 20) (i := 3) (v := ?vntf3) rfl (by kernel_rfl) (by kernel_rfl) (by kernel_rfl) (by kernel_rfl) (by kernel_rfl) (fun _ _ _ h => h) (Or.inl ⟨(by rfl), ?hyntf3⟩) (Below.refl _ _) ?restntf3
          case hyntf3 =>
            intro W hW
            go_simp
            exact rfl
          simp only [List.getElem_toArray, List.getElem_cons_succ, List.getElem_cons_zero, Act.put, List.setIfInBounds_toArray, List.set_cons_zero, List.set_cons_succ]
          refine but_take (f := 20) (i := 4) (v := ?vntf4) rfl (by kernel_rfl) (by kernel_rfl) (by kernel_rfl) (by kernel_rfl) (by kernel_rfl) (fun _ _ _ h => h) (Or.inl ⟨(by rfl), ?hyntf4⟩) (Below.refl _ _) ?restntf4
          case hyntf4 =>
            intro W hW
            go_simp
            exact rfl
          simp only [List.getElem_toArray, List.getElem_cons_succ, List.getElem_cons_zero, Act.put, List.setIfInBounds_toArray, List.set_cons_zero, List.set_cons_succ]
          refine but_take (f := 20) (i := 5) (v := ?vntf5) rfl (by kernel_rfl) (by kernel_rfl) (by kernel_rfl) (by kernel_rfl) (by kernel_rfl) (fun _ _ _ h => h) (Or.inl ⟨(by rfl), ?hyntf5⟩) (Below.refl _ _) ?restntf5
          case hyntf5 =>
            intro W hW
            have hb0 : Below wr.heap.size wr W := bstep (Below.drew1 _) hW
            obtain ⟨c0, c1, c2, c3, c4⟩ := FK.out.on hbb hb0
            go_simp
            exact rfl
          simp only [List.getElem_toArray, List.getElem_cons_succ, List.getElem_cons_zero, Act.put, List.setIfInBounds_toArray, List.set_cons_zero, List.set_cons_succ]
          refine but_run (i := 6) (by kernel_rfl) rfl (by rfl) ?_
          simp only [List.getElem_toArray, List.getElem_cons_succ, List.getElem_cons_zero]
          intro K HK
          go_wp2_with fail
          refine (l7HasB_any _ path (L[k]).b _ (HVP.out.on (bstep HB.out (bstep (Below.drew1 _) (Below.refl _ _)))) hnp).mono ?_
          rintro r Vntf1 ⟨rfl, hBntf1⟩
          rw [HM.out]
          have hSntf1 := bstep (Below.refl _ _) hBntf1
          go_wp2_with fail
          refine HK.out _ Vntf1 (fun _ => hSntf1) ?_
          clear HK
          refine but_take (f := 20) (i := 7) (v := ?vntf7) rfl (by kernel_rfl) (by kernel_rfl) (by kernel_rfl) (by kernel_rfl) (by kernel_rfl) (fun _ _ _ h => h) (Or.inl ⟨(by rfl), ?hyntf7⟩) hSntf1 ?restntf7
          case hyntf7 =>
            intro W hW
            go_simp
            exact rfl
          simp only [List.getElem_toArray, List.getElem_cons_succ, List.getElem_cons_zero, Act.put, List.setIfInBounds_toArray, List.set_cons_zero, List.set_cons_succ]
          refine but_take (f := 20) (i := 8) (v := ?vntf8) rfl (by kernel_rfl) (by kernel_rfl) (by kernel_rfl) (by kernel_rfl) (by kernel_rfl) (fun _ _ _ h => h) (Or.inl ⟨((wanted_at rfl rfl rfl rfl).trans rfl), ?hyntf8⟩) hSntf1 ?restntf8
          case hyntf8 =>
            intro W hW
            go_simp
            exact rfl
          simp only [List.getElem_toArray, List.getElem_cons_succ, List.getElem_cons_zero, Act.put, List.setIfInBounds_toArray, List.set_cons_zero, List.set_cons_succ]
          refine but_take (f := 20) (i := 9) (v := ?vntf9) rfl (by kernel_rfl) (by kernel_rfl) (by kernel_rfl) (by kernel_rfl) (by kernel_rfl) (fun _ _ _ h => h) (Or.inl ⟨((wanted_at rfl rfl rfl rfl).trans rfl), ?hyntf9⟩) hSntf1 ?restntf9
          case hyntf9 =>
            intro W hW
            go_simp
            exact rfl
          simp only [List.getElem_toArray, List.getElem_cons_succ, List.getElem_cons_zero, Act.put, List.setIfInBounds_toArray, List.set_cons_zero, List.set_cons_succ]
          refine but_take (f := 20) (i := 10) (v := ?vntf10) rfl (by kernel_rfl) (by kernel_rfl) (by kernel_rfl) (by kernel_rfl) (by kernel_rfl) (fun _ _ _ h => h) (Or.inl ⟨((wanted_at rfl rfl rfl rfl).trans rfl), ?hyntf10⟩) hSntf1 ?restntf10
          case hyntf10 =>
            intro W hW
            go_simp
            exact rfl
          simp only [List.getElem_toArray, List.getElem_cons_succ, List.getElem_cons_zero, Act.put, List.setIfInBounds_toArray, List.set_cons_zero, List.set_cons_succ]
          refine but_take (f := 20) (i := 11) (v := undef) rfl (by kernel_rfl) (by kernel_rfl) (by kernel_rfl) (by kernel_rfl) (by kernel_rfl) (fun _ _ _ h => h) (Or.inr ⟨((wanted_at rfl rfl rfl rfl).trans rfl), rfl⟩) hSntf1 ?_
          simp only [List.getElem_toArray, List.getElem_cons_succ, List.getElem_cons_zero, Act.put, List.setIfInBounds_toArray, List.set_cons_zero, List.set_cons_succ]
          refine but_take (f := 20) (i := 12) (v := undef) rfl (by kernel_rfl) (by kernel_rfl) (by kernel_rfl) (by kernel_rfl) (by kernel_rfl) (fun _ _ _ h => h) (Or.inr ⟨((wanted_at rfl rfl rfl rfl).trans rfl), rfl⟩) hSntf1 ?_
          simp only [List.getElem_toArray, List.getElem_cons_succ, List.getElem_cons_zero, Act.put, List.setIfInBounds_toArray, List.set_cons_zero, List.set_cons_succ]
          refine but_take (f := 20) (i := 13) (v := undef) rfl (by kernel_rfl) (by kernel_rfl) (by kernel_rfl) (by kernel_rfl) (by kernel_rfl) (fun _ _ _ h => h) (Or.inr ⟨((wanted_at rfl rfl rfl rfl).trans rfl), rfl⟩) hSntf1 ?_
          simp only [List.getElem_toArray, List.getElem_cons_succ, List.getElem_cons_zero, Act.put, List.setIfInBounds_toArray, List.set_cons_zero, List.set_cons_succ]
          refine but_take (f := 20) (i := 14) (v := undef) rfl (by kernel_rfl) (by kernel_rfl) (by kernel_rfl) (by kernel_rfl) (by kernel_rfl) (fun _ _ _ h => h) (Or.inr ⟨((wanted_at rfl rfl rfl rfl).trans rfl), rfl⟩) hSntf1 ?_
          simp only [List.getElem_toArray, List.getElem_cons_succ, List.getElem_cons_zero, Act.put, List.setIfInBounds_toArray, List.set_cons_zero, List.set_cons_succ]
          refine but_take (f := 20) (i := 15) (v := undef) rfl (by kernel_rfl) (by kernel_rfl) (by kernel_rfl) (by kernel_rfl) (by kernel_rfl) (fun _ _ _ h => h) (Or.inr ⟨((wanted_at rfl rfl rfl rfl).trans rfl), rfl⟩) hSntf1 ?_
          simp only [List.getElem_toArray, List.getElem_cons_succ, List.getElem_cons_zero, Act.put, List.setIfInBounds_toArray, List.set_cons_zero, List.set_cons_succ]
          refine but_take (f := 20) (i := 16) (v := undef) rfl (by kernel_rfl) (by kernel_rfl) (by kernel_rfl) (by kernel_rfl) (by kernel_rfl) (fun _ _ _ h => h) (Or.inr ⟨((wanted_at rfl rfl rfl rfl).trans rfl), rfl⟩) hSntf1 ?_
          simp only [List.getElem_toArray, List.getElem_cons_succ, List.getElem_cons_zero, Act.put, List.setIfInBounds_toArray, List.set_cons_zero, List.set_cons_succ]
          refine but_take (f := 20) (i := 17) (v := undef) rfl (by kernel_rfl) (by kernel_rfl) (by kernel_rfl) (by kernel_rfl) (by kernel_rfl) (fun _ _ _ h => h) (Or.inr ⟨((wanted_at rfl rfl rfl rfl).trans rfl), rfl⟩) hSntf1 ?_
          simp only [List.getElem_toArray, List.getElem_cons_succ, List.getElem_cons_zero, Act.put, List.setIfInBounds_toArray, List.set_cons_zero, List.set_cons_succ]
          refine but_take (f := 20) (i := 18) (v := undef) rfl (by kernel_rfl) (by kernel_rfl) (by kernel_rfl) (by kernel_rfl) (by kernel_rfl) (fun _ _ _ h => h) (Or.inr ⟨((wanted_at rfl rfl rfl rfl).trans rfl), rfl⟩) hSntf1 ?_
          simp only [List.getElem_toArray, List.getElem_cons_succ, List.getElem_cons_zero, Act.put, List.setIfInBounds_toArray, List.set_cons_zero, List.set_cons_succ]
          refine but_take (f := 20) (i := 19) (v := ?vntf19) rfl (by kernel_rfl) (by kernel_rfl) (by kernel_rfl) (by kernel_rfl) (by kernel_rfl) (fun _ _ _ h => h) (Or.inl ⟨((wanted_at rfl rfl rfl rfl).trans rfl), ?hyntf19⟩) hSntf1 ?restntf19
          case hyntf19 =>
            intro W hW
            go_simp
            exact rfl
          simp only [List.getElem_toArray, List.getElem_cons_succ, List.getElem_cons_zero, Act.put, List.setIfInBounds_toArray, List.set_cons_zero, List.set_cons_succ]
          refine but_run (i := 20) (by kernel_rfl) rfl (by rfl) ?_
          simp only [List.getElem_toArray, List.getElem_cons_succ, List.getElem_cons_zero]
          intro K HK
          go_wp2_with fail
          refine HK.out _ Vntf1 (fun h => absurd rfl h) ?_
          clear HK
          refine but_done (by kernel_rfl) ?_
          obtain ⟨c0, c1, c2, c3, c4⟩ := FK.out.on hbb (bstep (Below.drew1 _) hSntf1)
          obtain ⟨z0, z1, z2, z3, z4, z5⟩ := box5 (box_on Q2.out (bstep (Below.drew1 _) hSntf1))
          go_wp2
          go_roundw
          case rel => exact ⟨k + 1, L[k], true, some L[k], by omega, by go_num, rfl, Lib.hid ⟨rfl, rfl⟩, Lib.hid (near_yes hlt HNB.out HI.out), Lib.hid (heap_far5 (box_on Q1.out (bstep (Below.drew1 _) hSntf1)) (by omega)), Lib.hid (box_setsK (box_on Q2.out (bstep (Below.drew1 _) hSntf1))), Lib.hid ((HRow.out.on (bstep (Below.drew1 _) hSntf1)).set5 (by omega)), Lib.hid (b5' (bstep HB.out (bstep (Below.drew1 _) hSntf1)) (by omega)), Lib.hid (by simp only [World.size_setCell]; exact Nat.le_trans HZ.out ((bstep (Below.drew1 _) hSntf1)).size)⟩
          case measure => simp [intOf]; omega
        · cases G
          · refine but_begin (f := 20) (S := fun V => Below wr.drew.heap.size wr.drew V) (by kernel_rfl) ?_
            refine but_take (f := 20) (i := 0) (v := ?vnttf0) rfl (by kernel_rfl) (by kernel_rfl) (by kernel_rfl) (by kernel_rfl) (by kernel_rfl) (fun _ _ _ h => h) (Or.inl ⟨(by rfl), ?hynttf0⟩) (Below.refl _ _) ?restnttf0
            case hynttf0 =>
              intro W hW
              go_simp
              exact rfl
            simp only [List.getElem_toArray, List.getElem_cons_succ, List.getElem_cons_zero, Act.put, List.setIfInBounds_toArray, List.set_cons_zero, List.set_cons_succ]
            refine but_take (f := 20) (i := 1) (v := ?vnttf1) rfl (by kernel_rfl) (by kernel_rfl) (by kernel_rfl) (by kernel_rfl) (by kernel_rfl) (fun _ _ _ h => h) (Or.inl ⟨(by rfl), ?hynttf1⟩) (Below.refl _ _) ?restnttf1
            case hynttf1 =>
              intro W hW
              go_simp
              exact rfl
            simp only [List.getElem_toArray, List.getElem_cons_succ, List.getElem_cons_zero, Act.put, List.setIfInBounds_toArray, List.set_cons_zero, List.set_cons_succ]
            refine but_take (f := 20) (i := 2) (v := ?vnttf2) rfl (by kernel_rfl) (by kernel_rfl) (by kernel_rfl) (by kernel_rfl) (by kernel_rfl) (fun _ _ _ h => h) (Or.inl ⟨(by rfl), ?hynttf2⟩) (Below.refl _ _) ?restnttf2
            case hynttf2 =>
              intro W hW
              go_simp
              exact rfl
            simp only [List.getElem_toArray, List.getElem_cons_succ, List.getElem_cons_zero, Act.put, List.setIfInBounds_toArray, List.set_cons_zero, List.set_cons_succ]
            refine but_take (f := 20) (i := 3) (v := ?vnttf3) rfl (by kernel_rfl) (by kernel_rfl) (by kernel_rfl) (by kernel_rfl) (by kernel_rfl) (fun _ _ _ h => h) (Or.inl ⟨(by rfl), ?hynttf3⟩) (Below.refl _ _) ?restnttf3
            case hynttf3 =>
              intro W hW
              go_simp
              exact rfl
            simp only [List.getElem_toArray, List.getElem_cons_succ, List.getElem_cons_zero, Act.put, List.setIfInBounds_toArray, List.set_cons_zero, List.set_cons_succ]
            refine but_take (f := 20) (i := 4) (v := ?vnttf4) rfl (by kernel_rfl) (by kernel_rfl) (by kernel_rfl) (by kernel_rfl) (by kernel_rfl) (fun _ _ _ h => h) (Or.inl ⟨(by rfl), ?hynttf4⟩) (Below.refl _ _) ?restnttf4
            case hynttf4 =>
              intro W hW
              go_simp
              exact rfl
            simp only [List.getElem_toArray, List.getElem_cons_succ, List.getElem_cons_zero, Act.put, List.setIfInBounds_toArray, List.set_cons_zero, List.set_cons_succ]
            refine but_take (f := 20) (i := 5) (v := ?vnttf5) rfl (by kernel_rfl) (by kernel_rfl) (by kernel_rfl) (by kernel_rfl) (by kernel_rfl) (fun _ _ _ h => h) (Or.inl ⟨(by rfl), ?hynttf5⟩) (Below.refl _ _) ?restnttf5
            case hynttf5 =>
              intro W hW
              have hb0 : Below wr.heap.size wr W := bstep (Below.drew1 _) hW
              obtain ⟨c0, c1, c2, c3, c4⟩ := FK.out.on hbb hb0
              go_simp
              exact rfl
            simp only [List.getElem_toArray, List.getElem_cons_succ, List.getElem_cons_zero, Act.put, List.setIfInBounds_toArray, List.set_cons_zero, List.set_cons_succ]
            refine but_run (i := 6) (by kernel_rfl) rfl (by rfl) ?_
            simp only [List.getElem_toArray, List.getElem_cons_succ, List.getElem_cons_zero]
            intro K HK
            go_wp2_with fail
            refine (l7HasB_any _ path (L[k]).b _ (HVP.out.on (bstep HB.out (bstep (Below.drew1 _) (Below.refl _ _)))) hnp).mono ?_
            rintro r Vnttf1 ⟨rfl, hBnttf1⟩
            rw [HM.out]
            have hSnttf1 := bstep (Below.refl _ _) hBnttf1
            go_wp2_with fail
            refine HK.out _ Vnttf1 (fun _ => hSnttf1) ?_
            clear HK
            refine but_take (f := 20) (i := 7) (v := ?vnttf7) rfl (by kernel_rfl) (by kernel_rfl) (by kernel_rfl) (by kernel_rfl) (by kernel_rfl) (fun _ _ _ h => h) (Or.inl ⟨(by rfl), ?hynttf7⟩) hSnttf1 ?restnttf7
            case hynttf7 =>
              intro W hW
              go_simp
              exact rfl
            simp only [List.getElem_toArray, List.getElem_cons_succ, List.getElem_cons_zero, Act.put, List.setIfInBounds_toArray, List.set_cons_zero, List.set_cons_succ]
            refine but_take (f := 20) (i := 8) (v := ?vnttf8) rfl (by kernel_rfl) (by kernel_rfl) (by kernel_rfl) (by kernel_rfl) (by kernel_rfl) (fun _ _ _ h => h) (Or.inl ⟨((wanted_at rfl rfl rfl rfl).trans rfl), ?hynttf8⟩) hSnttf1 ?restnttf8
            case hynttf8 =>
              intro W hW
              go_simp
              exact rfl
            simp only [List.getElem_toArray, List.getElem_cons_succ, List.getElem_cons_zero, Act.put, List.setIfInBounds_toArray, List.set_cons_zero, List.set_cons_succ]
            refine but_take (f := 20) (i := 9) (v := ?vnttf9) rfl (by kernel_rfl) (by kernel_rfl) (by kernel_rfl) (by kernel_rfl) (by kernel_rfl) (fun _ _ _ h => h) (Or.inl ⟨((wanted_at rfl rfl rfl rfl).trans rfl), ?hynttf9⟩) hSnttf1 ?restnttf9
            case hynttf9 =>
              intro W hW
              go_simp
              exact rfl
            simp only [List.getElem_toArray, List.getElem_cons_succ, List.getElem_cons_zero, Act.put, List.setIfInBounds_toArray, List.set_cons_zero, List.set_cons_succ]
            refine but_take (f := 20) (i := 10) (v := ?vnttf10) rfl (by kernel_rfl) (by kernel_rfl) (by kernel_rfl) (by kernel_rfl) (by kernel_rfl) (fun _ _ _ h => h) (Or.inl ⟨((wanted_at rfl rfl rfl rfl).trans rfl), ?hynttf10⟩) hSnttf1 ?restnttf10
            case hynttf10 =>
              intro W hW
              go_simp
              exact rfl
            simp only [List.getElem_toArray, List.getElem_cons_succ, List.getElem_cons_zero, Act.put, List.setIfInBounds_toArray, List.set_cons_zero, List.set_cons_succ]
            refine but_take (f := 20) (i := 11) (v := ?vnttf11) rfl (by kernel_rfl) (by kernel_rfl) (by kernel_rfl) (by kernel_rfl) (by kernel_rfl) (fun _ _ _ h => h) (Or.inl ⟨((wanted_at rfl rfl rfl rfl).trans rfl), ?hynttf11⟩) hSnttf1 ?restnttf11
            case hynttf11 =>
              intro W hW
              go_simp
              exact rfl
            simp only [List.getElem_toArray, List.getElem_cons_succ, List.getElem_cons_zero, Act.put, List.setIfInBounds_toArray, List.set_cons_zero, List.set_cons_succ]
            refine but_take (f := 20) (i := 12) (v := ?vnttf12) rfl (by kernel_rfl) (by kernel_rfl) (by kernel_rfl) (by kernel_rfl) (by kernel_rfl) (fun _ _ _ h => h) (Or.inl ⟨((wanted_at rfl rfl rfl rfl).trans rfl), ?hynttf12⟩) hSnttf1 ?restnttf12
            case hynttf12 =>
              intro W hW
              go_simp
              exact rfl
            simp only [List.getElem_toArray, List.getElem_cons_succ, List.getElem_cons_zero, Act.put, List.setIfInBounds_toArray, List.set_cons_zero, List.set_cons_succ]
            refine but_take (f := 20) (i := 13) (v := ?vnttf13) rfl (by kernel_rfl) (by kernel_rfl) (by kernel_rfl) (by kernel_rfl) (by kernel_rfl) (fun _ _ _ h => h) (Or.inl ⟨((wanted_at rfl rfl rfl rfl).trans rfl), ?hynttf13⟩) hSnttf1 ?restnttf13
            case hynttf13 =>
              intro W hW
              go_simp
              exact rfl
            simp only [List.getElem_toArray, List.getElem_cons_succ, List.getElem_cons_zero, Act.put, List.setIfInBounds_toArray, List.set_cons_zero, List.set_cons_succ]
            refine but_take (f := 20) (i := 14) (v := ?vnttf14) rfl (by kernel_rfl) (by kernel_rfl) (by kernel_rfl) (by kernel_rfl) (by kernel_rfl) (fun _ _ _ h => h) (Or.inl ⟨((wanted_at rfl rfl rfl rfl).trans rfl), ?hynttf14⟩) hSnttf1 ?restnttf14
            case hynttf14 =>
              intro W hW
              go_simp
              exact rfl
            simp only [List.getElem_toArray, List.getElem_cons_succ, List.getElem_cons_zero, Act.put, List.setIfInBounds_toArray, List.set_cons_zero, List.set_cons_succ]
            refine but_take (f := 20) (i := 15) (v := ?vnttf15) rfl (by kernel_rfl) (by kernel_rfl) (by kernel_rfl) (by kernel_rfl) (by kernel_rfl) (fun _ _ _ h => h) (Or.inl ⟨((wanted_at rfl rfl rfl rfl).trans rfl), ?hynttf15⟩) hSnttf1 ?restnttf15
            case hynttf15 =>
              intro W hW
              have hb0 : Below wr.heap.size wr W := bstep (Below.drew1 _) hW
              obtain ⟨c0, c1, c2, c3, c4⟩ := FK.out.on hbb hb0
              go_simp
              exact rfl
            simp only [List.getElem_toArray, List.getElem_cons_succ, List.getElem_cons_zero, Act.put, List.setIfInBounds_toArray, List.set_cons_zero, List.set_cons_succ]
            refine but_take (f := 20) (i := 16) (v := ?vnttf16) rfl (by kernel_rfl) (by kernel_rfl) (by kernel_rfl) (by kernel_rfl) (by kernel_rfl) (fun _ _ _ h => h) (Or.inl ⟨((wanted_at rfl rfl rfl rfl).trans rfl), ?hynttf16⟩) hSnttf1 ?restnttf16
            case hynttf16 =>
              intro W hW
              go_simp
              exact rfl
            simp only [List.getElem_toArray, List.getElem_cons_succ, List.getElem_cons_zero, Act.put, List.setIfInBounds_toArray, List.set_cons_zero, List.set_cons_succ]
            refine but_take (f := 20) (i := 17) (v := ?vnttf17) rfl (by kernel_rfl) (by kernel_rfl) (by kernel_rfl) (by kernel_rfl) (by kernel_rfl) (fun _ _ _ h => h) (Or.inl ⟨((wanted_at rfl rfl rfl rfl).trans rfl), ?hynttf17⟩) hSnttf1 ?restnttf17
            case hynttf17 =>
              intro W hW
              have hb0 : Below wr.heap.size wr W := bstep (Below.drew1 _) hW
              obtain ⟨z0, z1, z2, z3, z4, z5⟩ := box5 (box_on Q2.out hb0)
              go_simp
              exact rfl
            simp only [List.getElem_toArray, List.getElem_cons_succ, List.getElem_cons_zero, Act.put, List.setIfInBounds_toArray, List.set_cons_zero, List.set_cons_succ]
            refine but_take (f := 20) (i := 18) (v := ?vnttf18) rfl (by kernel_rfl) (by kernel_rfl) (by kernel_rfl) (by kernel_rfl) (by kernel_rfl) (fun _ _ _ h => h) (Or.inl ⟨((wanted_at rfl rfl rfl rfl).trans rfl), ?hynttf18⟩) hSnttf1 ?restnttf18
            case hynttf18 =>
              intro W hW
              go_simp
              exact rfl
            simp only [List.getElem_toArray, List.getElem_cons_succ, List.getElem_cons_zero, Act.put, List.setIfInBounds_toArray, List.set_cons_zero, List.set_cons_succ]
            refine but_take (f := 20) (i := 19) (v := ?vnttf19) rfl (by kernel_rfl) (by kernel_rfl) (by kernel_rfl) (by kernel_rfl) (by kernel_rfl) (fun _ _ _ h => h) (Or.inl ⟨((wanted_at rfl rfl rfl rfl).trans rfl), ?hynttf19⟩) hSnttf1 ?restnttf19
            case hynttf19 =>
              intro W hW
              go_simp
              exact rfl
            simp only [List.getElem_toArray, List.getElem_cons_succ, List.getElem_cons_zero, Act.put, List.setIfInBounds_toArray, List.set_cons_zero, List.set_cons_succ]
            refine but_run (i := 20) (by kernel_rfl) rfl (by rfl) ?_
            simp only [List.getElem_toArray, List.getElem_cons_succ, List.getElem_cons_zero]
            intro K HK
            go_wp2_with fail
            refine HK.out _ Vnttf1 (fun h => absurd rfl h) ?_
            clear HK
            refine but_done (by kernel_rfl) ?_
            go_wp2_with fail
            go_roundw
            case rel => exact ⟨k + 1, x, true, o, by omega, by go_num, rfl, HO, Lib.hid (near_no hlt HNB.out HI.out), Lib.hid (box_on Q1.out (bstep (Below.drew1 _) hSnttf1)), Lib.hid (box_on Q2.out (bstep (Below.drew1 _) hSnttf1)), Lib.hid (HRow.out.on (bstep (Below.drew1 _) hSnttf1)), Lib.hid (bstep HB.out (bstep (Below.drew1 _) hSnttf1)), Lib.hid (Nat.le_trans HZ.out ((bstep (Below.drew1 _) hSnttf1)).size)⟩
            case measure => simp [intOf]; omega
          · refine but_begin (f := 20) (S := fun V => Below wr.drew.heap.size wr.drew V) (by kernel_rfl) ?_
            refine but_take (f := 20) (i := 0) (v := ?vnttt0) rfl (by kernel_rfl) (by kernel_rfl) (by kernel_rfl) (by kernel_rfl) (by kernel_rfl) (fun _ _ _ h => h) (Or.inl ⟨(by rfl), ?hynttt0⟩) (Below.refl _ _) ?restnttt0
            case hynttt0 =>
              intro W hW
              go_simp
              exact rfl
            simp only [List.getElem_toArray, List.getElem_cons_succ, List.getElem_cons_zero, Act.put, List.setIfInBounds_toArray, List.set_cons_zero, List.set_cons_succ]
            refine but_take (f := 20) (i := 1) (v := ?vnttt1) rfl (by kernel_rfl) (by kernel_rfl) (by kernel_rfl) (by kernel_rfl) (by kernel_rfl) (fun _ _ _ h => h) (Or.inl ⟨(by rfl), ?hynttt1⟩) (Below.refl _ _) ?restnttt1
            case hynttt1 =>
              intro W hW
              go_simp
              exact rfl
            simp only [List.getElem_toArray, List.getElem_cons_succ, List.getElem_cons_zero, Act.put, List.setIfInBounds_toArray, List.set_cons_zero, List.set_cons_succ]
            refine but_take (f := 20) (i := 2) (v := ?vnttt2) rfl (by kernel_rfl) (by kernel_rfl) (by kernel_rfl) (by kernel_rfl) (by kernel_rfl) (fun _ _ _ h => h) (Or.inl ⟨(by rfl), ?hynttt2⟩) (Below.refl _ _) ?restnttt2
            case hynttt2 =>
              intro W hW
              go_simp
              exact rfl
            simp only [List.getElem_toArray, List.getElem_cons_succ, List.getElem_cons_zero, Act.put, List.setIfInBounds_toArray, List.set_cons_zero, List.set_cons_succ]
            refine but_take (f := 20) (i := 3) (v := ?vnttt3) rfl (by kernel_rfl) (by kernel_rfl) (by kernel_rfl) (by kernel_rfl) (by kernel_rfl) (fun _ _ _ h => h) (Or.inl ⟨(by rfl), ?hynttt3⟩) (Below.refl _ _) ?restnttt3
            case hynttt3 =>
              intro W hW
              go_simp
              exact rfl
            simp only [List.getElem_toArray, List.getElem_cons_succ, List.getElem_cons_zero, Act.put, List.setIfInBounds_toArray, List.set_cons_zero, List.set_cons_succ]
            refine but_take (f := 20) (i := 4) (v := ?vnttt4) rfl (by kernel_rfl) (by kernel_rfl) (by kernel_rfl) (by kernel_rfl) (by kernel_rfl) (fun _ _ _ h => h) (Or.inl ⟨(by rfl), ?hynttt4⟩) (Below.refl _ _) ?restnttt4
            case hynttt4 =>
              intro W hW
              go_simp
              exact rfl
            simp only [List.getElem_toArray, List.getElem_cons_succ, List.getElem_cons_zero, Act.put, List.setIfInBounds_toArray, List.set_cons_zero, List.set_cons_succ]
            refine but_take (f := 20) (i := 5) (v := ?vnttt5) rfl (by kernel_rfl) (by kernel_rfl) (by kernel_rfl) (by kernel_rfl) (by kernel_rfl) (fun _ _ _ h => h) (Or.inl ⟨(by rfl), ?hynttt5⟩) (Below.refl _ _) ?restnttt5
            case hynttt5 =>
              intro W hW
              have hb0 : Below wr.heap.size wr W := bstep (Below.drew1 _) hW
              obtain ⟨c0, c1, c2, c3, c4⟩ := FK.out.on hbb hb0
              go_simp
              exact rfl
            simp only [List.getElem_toArray, List.getElem_cons_succ, List.getElem_cons_zero, Act.put, List.setIfInBounds_toArray, List.set_cons_zero, List.set_cons_succ]
            refine but_run (i := 6) (by kernel_rfl) rfl (by rfl) ?_
            simp only [List.getElem_toArray, List.getElem_cons_succ, List.getElem_cons_zero]
            intro K HK
            go_wp2_with fail
            refine (l7HasB_any _ path (L[k]).b _ (HVP.out.on (bstep HB.out (bstep (Below.drew1 _) (Below.refl _ _)))) hnp).mono ?_
            rintro r Vnttt1 ⟨rfl, hBnttt1⟩
            rw [HM.out]
            have hSnttt1 := bstep (Below.refl _ _) hBnttt1
            go_wp2_with fail
            refine HK.out _ Vnttt1 (fun _ => hSnttt1) ?_
            clear HK
            refine but_take (f := 20) (i := 7) (v := ?vnttt7) rfl (by kernel_rfl) (by kernel_rfl) (by kernel_rfl) (by kernel_rfl) (by kernel_rfl) (fun _ _ _ h => h) (Or.inl ⟨(by rfl), ?hynttt7⟩) hSnttt1 ?restnttt7
            case hynttt7 =>
              intro W hW
              go_simp
              exact rfl
            simp only [List.getElem_toArray, List.getElem_cons_succ, List.getElem_cons_zero, Act.put, List.setIfInBounds_toArray, List.set_cons_zero, List.set_cons_succ]
            refine but_take (f := 20) (i := 8) (v := ?vnttt8) rfl (by kernel_rfl) (by kernel_rfl) (by kernel_rfl) (by kernel_rfl) (by kernel_rfl) (fun _ _ _ h => h) (Or.inl ⟨((wanted_at rfl rfl rfl rfl).trans rfl), ?hynttt8⟩) hSnttt1 ?restnttt8
            case hynttt8 =>
              intro W hW
              go_simp
              exact rfl
            simp only [List.getElem_toArray, List.getElem_cons_succ, List.getElem_cons_zero, Act.put, List.setIfInBounds_toArray, List.set_cons_zero, List.set_cons_succ]
            refine but_take (f := 20) (i := 9) (v := ?vnttt9) rfl (by kernel_rfl) (by kernel_rfl) (by kernel_rfl) (by kernel_rfl) (by kernel_rfl) (fun _ _ _ h => h) (Or.inl ⟨((wanted_at rfl rfl rfl rfl).trans rfl), ?hynttt9⟩) hSnttt1 ?restnttt9
            case hynttt9 =>
              intro W hW
              go_simp
              exact rfl
            simp only [List.getElem_toArray, List.getElem_cons_succ, List.getElem_cons_zero, Act.put, List.setIfInBounds_toArray, List.set_cons_zero, List.set_cons_succ]
            refine but_take (f := 20) (i := 10) (v := ?vnttt10) rfl (by kernel_rfl) (by kernel_rfl) (by kernel_rfl) (by kernel_rfl) (by kernel_rfl) (fun _ _ _ h => h) (Or.inl ⟨((wanted_at rfl rfl rfl rfl).trans rfl), ?hynttt10⟩) hSnttt1 ?restnttt10
            case hynttt10 =>
              intro W hW
              go_simp
              exact rfl
            simp only [List.getElem_toArray, List.getElem_cons_succ, List.getElem_cons_zero, Act.put, List.setIfInBounds_toArray, List.set_cons_zero, List.set_cons_succ]
            refine but_take (f := 20) (i := 11) (v := ?vnttt11) rfl (by kernel_rfl) (by kernel_rfl) (by kernel_rfl) (by kernel_rfl) (by kernel_rfl) (fun _ _ _ h => h) (Or.inl ⟨((wanted_at rfl rfl rfl rfl).trans rfl), ?hynttt11⟩) hSnttt1 ?restnttt11
            case hynttt11 =>
              intro W hW
              go_simp
              exact rfl
            simp only [List.getElem_toArray, List.getElem_cons_succ, List.getElem_cons_zero, Act.put, List.setIfInBounds_toArray, List.set_cons_zero, List.set_cons_succ]
            refine but_take (f := 20) (i := 12) (v := ?vnttt12) rfl (by kernel_rfl) (by kernel_rfl) (by kernel_rfl) (by kernel_rfl) (by kernel_rfl) (fun _ _ _ h => h) (Or.inl ⟨((wanted_at rfl rfl rfl rfl).trans rfl), ?hynttt12⟩) hSnttt1 ?restnttt12
            case hynttt12 =>
              intro W hW
              go_simp
              exact rfl
            simp only [List.getElem_toArray, List.getElem_cons_succ, List.getElem_cons_zero, Act.put, List.setIfInBounds_toArray, List.set_cons_zero, List.set_cons_succ]
            refine but_take (f := 20) (i := 13) (v := ?vnttt13) rfl (by kernel_rfl) (by kernel_rfl) (by kernel_rfl) (by kernel_rfl) (by kernel_rfl) (fun _ _ _ h => h) (Or.inl ⟨((wanted_at rfl rfl rfl rfl).trans rfl), ?hynttt13⟩) hSnttt1 ?restnttt13
            case hynttt13 =>
              intro W hW
              go_simp
              exact rfl
            simp only [List.getElem_toArray, List.getElem_cons_succ, List.getElem_cons_zero, Act.put, List.setIfInBounds_toArray, List.set_cons_zero, List.set_cons_succ]
            refine but_take (f := 20) (i := 14) (v := ?vnttt14) rfl (by kernel_rfl) (by kernel_rfl) (by kernel_rfl) (by kernel_rfl) (by kernel_rfl) (fun _ _ _ h => h) (Or.inl ⟨((wanted_at rfl rfl rfl rfl).trans rfl), ?hynttt14⟩) hSnttt1 ?restnttt14
            case hynttt14 =>
              intro W hW
              go_simp
              exact rfl
            simp only [List.getElem_toArray, List.getElem_cons_succ, List.getElem_cons_zero, Act.put, List.setIfInBounds_toArray, List.set_cons_zero, List.set_cons_succ]
            refine but_take (f := 20) (i := 15) (v := ?vnttt15) rfl (by kernel_rfl) (by kernel_rfl) (by kernel_rfl) (by kernel_rfl) (by kernel_rfl) (fun _ _ _ h => h) (Or.inl ⟨((wanted_at rfl rfl rfl rfl).trans rfl), ?hynttt15⟩) hSnttt1 ?restnttt15
            case hynttt15 =>
              intro W hW
              have hb0 : Below wr.heap.size wr W := bstep (Below.drew1 _) hW
              obtain ⟨c0, c1, c2, c3, c4⟩ := FK.out.on hbb hb0
              go_simp
              exact rfl
            simp only [List.getElem_toArray, List.getElem_cons_succ, List.getElem_cons_zero, Act.put, List.setIfInBounds_toArray, List.set_cons_zero, List.set_cons_succ]
            refine but_take (f := 20) (i := 16) (v := ?vnttt16) rfl (by kernel_rfl) (by kernel_rfl) (by kernel_rfl) (by kernel_rfl) (by kernel_rfl) (fun _ _ _ h => h) (Or.inl ⟨((wanted_at rfl rfl rfl rfl).trans rfl), ?hynttt16⟩) hSnttt1 ?restnttt16
            case hynttt16 =>
              intro W hW
              go_simp
              exact rfl
            simp only [List.getElem_toArray, List.getElem_cons_succ, List.getElem_cons_zero, Act.put, List.setIfInBounds_toArray, List.set_cons_zero, List.set_cons_succ]
            refine but_take (f := 20) (i := 17) (v := ?vnttt17) rfl (by kernel_rfl) (by kernel_rfl) (by kernel_rfl) (by kernel_rfl) (by kernel_rfl) (fun _ _ _ h => h) (Or.inl ⟨((wanted_at rfl rfl rfl rfl).trans rfl), ?hynttt17⟩) hSnttt1 ?restnttt17
            case hynttt17 =>
              intro W hW
              have hb0 : Below wr.heap.size wr W := bstep (Below.drew1 _) hW
              obtain ⟨z0, z1, z2, z3, z4, z5⟩ := box5 (box_on Q2.out hb0)
              go_simp
              exact rfl
            simp only [List.getElem_toArray, List.getElem_cons_succ, List.getElem_cons_zero, Act.put, List.setIfInBounds_toArray, List.set_cons_zero, List.set_cons_succ]
            refine but_take (f := 20) (i := 18) (v := ?vnttt18) rfl (by kernel_rfl) (by kernel_rfl) (by kernel_rfl) (by kernel_rfl) (by kernel_rfl) (fun _ _ _ h => h) (Or.inl ⟨((wanted_at rfl rfl rfl rfl).trans rfl), ?hynttt18⟩) hSnttt1 ?restnttt18
            case hynttt18 =>
              intro W hW
              go_simp
              exact rfl
            simp only [List.getElem_toArray, List.getElem_cons_succ, List.getElem_cons_zero, Act.put, List.setIfInBounds_toArray, List.set_cons_zero, List.set_cons_succ]
            refine but_take (f := 20) (i := 19) (v := ?vnttt19) rfl (by kernel_rfl) (by kernel_rfl) (by kernel_rfl) (by kernel_rfl) (by kernel_rfl) (fun _ _ _ h => h) (Or.inl ⟨((wanted_at rfl rfl rfl rfl).trans rfl), ?hynttt19⟩) hSnttt1 ?restnttt19
            case hynttt19 =>
              intro W hW
              go_simp
              exact rfl
            simp only [List.getElem_toArray, List.getElem_cons_succ, List.getElem_cons_zero, Act.put, List.setIfInBounds_toArray, List.set_cons_zero, List.set_cons_succ]
            refine but_run (i := 20) (by kernel_rfl) rfl (by rfl) ?_
            simp only [List.getElem_toArray, List.getElem_cons_succ, List.getElem_cons_zero]
            intro K HK
            go_wp2_with fail
            refine HK.out _ Vnttt1 (fun h => absurd rfl h) ?_
            clear HK
            refine but_done (by kernel_rfl) ?_
            obtain ⟨c0, c1, c2, c3, c4⟩ := FK.out.on hbb (bstep (Below.drew1 _) hSnttt1)
            obtain ⟨z0, z1, z2, z3, z4, z5⟩ := box5 (box_on Q2.out (bstep (Below.drew1 _) hSnttt1))
            go_wp2
            go_roundw
            case rel => exact ⟨k + 1, L[k], true, some L[k], by omega, by go_num, rfl, Lib.hid ⟨rfl, rfl⟩, Lib.hid (near_yes hlt HNB.out HI.out), Lib.hid (heap_far5 (box_on Q1.out (bstep (Below.drew1 _) hSnttt1)) (by omega)), Lib.hid (box_setsK (box_on Q2.out (bstep (Below.drew1 _) hSnttt1))), Lib.hid ((HRow.out.on (bstep (Below.drew1 _) hSnttt1)).set5 (by omega)), Lib.hid (b5' (bstep HB.out (bstep (Below.drew1 _) hSnttt1)) (by omega)), Lib.hid (by simp only [World.size_setCell]; exact Nat.le_trans HZ.out ((bstep (Below.drew1 _) hSnttt1)).size)⟩
            case measure => simp [intOf]; omega
    · have hF : R = o := by
        rw [← HI.out, List.drop_eq_nil_of_le (by omega)]
        rfl
      subst hF
      obtain ⟨z0, z1, z2, z3, z4, z5⟩ := box5 Q1.out
      obtain ⟨y0, y1, y2, y3, y4, y5⟩ := box5 Q2.out
      have hx := HO.out.2
      have hf := HO.out.1
      clear HO HI
      go_wp2
      refine bodyPost_ret (v := .tuple #[x.v, .bool y]) (by simp [results, Tryz.results127, go_sem, keyV, KeyD.v, *]) rfl ⟨by rw [hx, hf]; rfl, ?_⟩
      exact b5' (g := w.heap.size + 1) HB.out (by omega)
set_option maxHeartbeats 4000000 in
theorem specSeen_any (vl vn va : Value) (lo : List Int) (ts : List NodeD) (l : List AgeD) (p d : Int) (w : World) (hv : RdT w w.heap.size vl vn lo ts) (ha : Reads w w.heap.size va (agesD l)) (hn : ts.length ≤ 1048576) (hs : sumT ts ≤ 1048576) (hl : l.length ≤ 1048576) :
    Calls Tryz.prog 176 #[.agg #[vl, vn], va, .int .i64 p, .int .i64 d] w (SaysFind w (nearK (keysOfK ts p) (pathSK l d))) := by
  obtain ⟨A, c, A', c', rfl, rfl⟩ := hv.shape
  obtain ⟨Aa, ca, rfl, _, _⟩ := ha.shapeG
  have HN := Lib.hid l8Near_any
  unfold SaysFind KeyD.v keyV at HN
  unfold SaysFind KeyD.v keyV
  obtain ⟨q0, q1⟩ := al2 w (.cells #[.slice A lo.length c, .slice A' ts.length c'] 36) (.cells #[.int .i64 0, .int .i64 0, .int .i64 0, .int .i64 0, .int .i64 0] 58)
  have hb := bal2 w (.cells #[.slice A lo.length c, .slice A' ts.length c'] 36) (.cells #[.int .i64 0, .int .i64 0, .int .i64 0, .int .i64 0, .int .i64 0] 58)
  have HV := Lib.hid (hv.on hb)
  have HA := Lib.hid (ha.on hb)
  have HB := Lib.hid hb
  have Q0 := Lib.hid q0
  have Q1 := Lib.hid q1
  have HPL := Lib.hid (pathSK_len l d)
  obtain ⟨F, hF⟩ : ∃ F, nearK (keysOfK ts p) (pathSK l d) = F := ⟨_, rfl⟩
  rw [hF]
  have HF := Lib.hid hF
  clear hv ha hb q0 q1 hF
  go_enter Tryz.func176, Tryz.ntmps176
  go_upto_region 1 with (fail)
  generalize (w.alloc (.cells #[.slice A lo.length c, .slice A' ts.length c'] 36)).alloc (.cells #[.int .i64 0, .int .i64 0, .int .i64 0, .int .i64 0, .int .i64 0] 58) = W at *
  refine but_begin (f := 9) (S := fun V => V.heap[w.heap.size]? = some (.cells #[.slice A lo.length c, .slice A' ts.length c'] 36 (0, 0))) (by kernel_rfl) ?_
  refine but_take (f := 9) (i := 0) (v := ?vss0) rfl (by kernel_rfl) (by kernel_rfl) (by kernel_rfl) (by kernel_rfl) (by kernel_rfl) (fun _ _ _ h => h) (Or.inl ⟨(by rfl), ?hyss0⟩) (Q0.out) ?restss0
  case hyss0 =>
    intro W hW
    obtain ⟨x0, x1, x2⟩ := box2 hW
    go_simp
    exact rfl
  simp only [List.getElem_toArray, List.getElem_cons_succ, List.getElem_cons_zero, Act.put, List.setIfInBounds_toArray, List.set_cons_zero, List.set_cons_succ]
  refine but_take (f := 9) (i := 1) (v := ?vss1) rfl (by kernel_rfl) (by kernel_rfl) (by kernel_rfl) (by kernel_rfl) (by kernel_rfl) (fun _ _ _ h => h) (Or.inl ⟨(by rfl), ?hyss1⟩) (Q0.out) ?restss1
  case hyss1 =>
    intro W hW
    go_simp
    exact rfl
  simp only [List.getElem_toArray, List.getElem_cons_succ, List.getElem_cons_zero, Act.put, List.setIfInBounds_toArray, List.set_cons_zero, List.set_cons_succ]
  refine but_take (f := 9) (i := 2) (v := ?vss2) rfl (by kernel_rfl) (by kernel_rfl) (by kernel_rfl) (by kernel_rfl) (by kernel_rfl) (fun _ _ _ h => h) (Or.inl ⟨(by rfl), ?hyss2⟩) (Q0.out) ?restss2
  case hyss2 =>
    intro W hW
    go_simp
    exact rfl
  simp only [List.getElem_toArray, List.getElem_cons_succ, List.getElem_cons_zero, Act.put, List.setIfInBounds_toArray, List.set_cons_zero, List.set_cons_succ]
  refine but_take (f := 9) (i := 3) (v := ?vss3) rfl (by kernel_rfl) (by kernel_rfl) (by kernel_rfl) (by kernel_rfl) (by kernel_rfl) (fun _ _ _ h => h) (Or.inl ⟨(by rfl), ?hyss3⟩) (Q0.out) ?restss3
  case hyss3 =>
    intro W hW
    go_simp
    exact rfl
  simp only [List.getElem_toArray, List.getElem_cons_succ, List.getElem_cons_zero, Act.put, List.setIfInBounds_toArray, List.set_cons_zero, List.set_cons_succ]
  refine but_run (i := 4) (by kernel_rfl) rfl (by rfl) ?_
  simp only [List.getElem_toArray, List.getElem_cons_succ, List.getElem_cons_zero]
  intro K HK
  go_wp2_with fail
  refine (specPathOf_any _ l d _ (HA.out.on (Below.drew1 _)) (by omega)).mono ?_
  rintro r Vss1 ⟨v1, rfl, o1, b1⟩
  obtain ⟨A1, c1, rfl, _, _⟩ := o1.shape
  have O1 := Lib.hid o1
  have B1 := Lib.hid (bstep (Below.drew1 _) b1)
  clear o1 b1
  go_wp2_with fail
  have hSss1 : (fun V => V.heap[w.heap.size]? = some (.cells #[.slice A lo.length c, .slice A' ts.length c'] 36 (0, 0))) Vss1 := box_on Q0.out B1.out
  refine HK.out _ _ (fun _ => hSss1) ?_
  clear HK
  refine but_run (i := 5) (by kernel_rfl) rfl (by rfl) ?_
  simp only [List.getElem_toArray, List.getElem_cons_succ, List.getElem_cons_zero]
  intro K HK
  go_wp2_with fail
  refine (HN.out _ _ _ lo ts p (pathSK l d) _ (HV.out.on B1.out) O1.out.owns.reads hn hs (by have := HPL.out; omega)).mono ?_
  rintro r Vss2 ⟨rfl, b2⟩
  rw [HF.out]
  have B2 := Lib.hid b2
  clear b2
  go_wp2_with fail
  have hSss2 : (fun V => V.heap[w.heap.size]? = some (.cells #[.slice A lo.length c, .slice A' ts.length c'] 36 (0, 0))) Vss2 := box_on (box_on Q0.out B1.out) B2.out
  refine HK.out _ _ (fun _ => hSss2) ?_
  clear HK
  refine but_take (f := 9) (i := 6) (v := ?vss6) rfl (by kernel_rfl) (by kernel_rfl) (by kernel_rfl) (by kernel_rfl) (by kernel_rfl) (fun _ _ _ h => h) (Or.inl ⟨(by rfl), ?hyss6⟩) hSss2 ?restss6
  case hyss6 =>
    intro W hW
    go_simp
    exact rfl
  simp only [List.getElem_toArray, List.getElem_cons_succ, List.getElem_cons_zero, Act.put, List.setIfInBounds_toArray, List.set_cons_zero, List.set_cons_succ]
  refine but_take (f := 9) (i := 7) (v := ?vss7) rfl (by kernel_rfl) (by kernel_rfl) (by kernel_rfl) (by kernel_rfl) (by kernel_rfl) (fun _ _ _ h => h) (Or.inl ⟨(by rfl), ?hyss7⟩) hSss2 ?restss7
  case hyss7 =>
    intro W hW
    go_simp
    exact rfl
  simp only [List.getElem_toArray, List.getElem_cons_succ, List.getElem_cons_zero, Act.put, List.setIfInBounds_toArray, List.set_cons_zero, List.set_cons_succ]
  refine but_run (i := 8) (by kernel_rfl) rfl (by rfl) ?_
  simp only [List.getElem_toArray, List.getElem_cons_succ, List.getElem_cons_zero]
  intro K HK
  obtain ⟨y0, y1, y2, y3, y4, y5⟩ := box5 (box_on (box_on Q1.out B1.out) B2.out)
  go_wp2_with fail
  have hSss3 : (fun V => V.heap[w.heap.size]? = some (.cells #[.slice A lo.length c, .slice A' ts.length c'] 36 (0, 0))) ((((((Vss2.setCell ⟨w.heap.size + 1, 0, none⟩ (.int .i64 (F.getD zK).a)).setCell ⟨w.heap.size + 1, 1, none⟩ (.int .i64 (F.getD zK).b)).setCell ⟨w.heap.size + 1, 2, none⟩ (.int .i64 (F.getD zK).c)).setCell ⟨w.heap.size + 1, 3, none⟩ (.int .i64 (F.getD zK).d)).setCell ⟨w.heap.size + 1, 4, none⟩ (.int .i64 (F.getD zK).e))) := heap_far5 hSss2 (by omega)
  refine HK.out _ _ (fun _ => hSss3) ?_
  clear HK
  refine but_run (i := 9) (by kernel_rfl) rfl (by rfl) ?_
  simp only [List.getElem_toArray, List.getElem_cons_succ, List.getElem_cons_zero]
  intro K HK
  go_wp2_with fail
  refine HK.out _ _ (fun h => absurd rfl h) ?_
  clear HK
  refine but_done (by kernel_rfl) ?_
  go_wp2
  refine bodyPost_ret (v := .tuple #[(F.getD zK).v, .bool F.isSome]) (by simp [results, Tryz.results176, go_sem, keyV, KeyD.v, *]) rfl ⟨rfl, ?_⟩
  exact b5' (bstep (bstep HB.out B1.out) B2.out) (by omega)
end Go.Proofs.YtpfepcjbhchpcaaGreat
namespace Go.Proofs.YtpfepcjbhchpcaaGreat
open Go.RowKit
set_option maxRecDepth 100000
set_option linter.unusedSimpArgs false
set_option linter.unusedVariables false

set_option maxHeartbeats 4000000 in
theorem specSeenAbove_any (vl vn va : Value) (lo : List Int) (ts : List NodeD) (l : List AgeD) (p d : Int) (w : World) (hv : RdT w w.heap.size vl vn lo ts) (ha : Reads w w.heap.size va (agesD l)) (hn : ts.length ≤ 1048576) (hs : sumT ts ≤ 1048576) (hl : l.length ≤ 1048576) :
    Calls Tryz.prog 63 #[.agg #[vl, vn], va, .int .i64 p, .int .i64 d] w (SaysFind w (nearK (keysOfK ts p) (pathSK l d).tail)) := by
  obtain ⟨A, c, A', c', rfl, rfl⟩ := hv.shape
  obtain ⟨Aa, ca, rfl, _, _⟩ := ha.shapeG
  have HN := Lib.hid l8Near_any
  unfold SaysFind KeyD.v keyV at HN
  unfold SaysFind KeyD.v keyV
  obtain ⟨q0, q1⟩ := al2 w (.cells #[.slice A lo.length c, .slice A' ts.length c'] 36) (.cells #[.int .i64 0, .int .i64 0, .int .i64 0, .int .i64 0, .int .i64 0] 58)
  have hb := bal2 w (.cells #[.slice A lo.length c, .slice A' ts.length c'] 36) (.cells #[.int .i64 0, .int .i64 0, .int .i64 0, .int .i64 0, .int .i64 0] 58)
  have HV := Lib.hid (hv.on hb)
  have HA := Lib.hid (ha.on hb)
  have HB := Lib.hid hb
  have Q0 := Lib.hid q0
  have Q1 := Lib.hid q1
  obtain ⟨P, hP⟩ : ∃ P, pathSK l d = P := ⟨_, rfl⟩
  have hpl := pathSK_len l d
  rw [hP] at hpl ⊢
  obtain ⟨F, hF⟩ : ∃ F, nearK (keysOfK ts p) P.tail = F := ⟨_, rfl⟩
  rw [hF]
  have HF := Lib.hid hF
  have HP := Lib.hid hP
  have HPL := Lib.hid hpl
  clear hv ha hb q0 q1 hF hP hpl
  go_enter Tryz.func63, Tryz.ntmps63
  go_upto_region 1 with (fail)
  generalize (w.alloc (.cells #[.slice A lo.length c, .slice A' ts.length c'] 36)).alloc (.cells #[.int .i64 0, .int .i64 0, .int .i64 0, .int .i64 0, .int .i64 0] 58) = W at *
  go_wp2_with fail
  refine (specPathOf_any _ l d _ HA.out (by omega)).mono ?_
  rintro r w2 ⟨v2, rfl, o2, b2⟩
  rw [HP.out] at o2
  obtain ⟨A2, c2, rfl, hc2, hm2⟩ := o2.shape
  have HT := Lib.hid (reads_tailI o2.owns.reads hc2 hm2)
  replace HB := Lib.hid (bstep HB.out b2)
  replace HV := Lib.hid (HV.out.on b2)
  replace Q0 := Lib.hid (box_on Q0.out b2)
  replace Q1 := Lib.hid (box_on Q1.out b2)
  clear o2 b2 HA HP
  by_cases h0 : P.length = 0
  · have hP0 : P = [] := List.length_eq_zero_iff.1 h0
    subst hP0
    have hF0 : F = none := by rw [← HF.out]; exact near_not (fun k hk hm => by simp at hm)
    have hzz : zK = ⟨0, 0, 0, 0, 0⟩ := rfl
    clear HF HN HPL HT
    obtain ⟨y0, y1, y2, y3, y4, y5⟩ := box5 Q1.out
    go_wp2
    refine bodyPost_ret (v := .tuple #[(F.getD zK).v, .bool F.isSome]) (by simp [results, Tryz.results63, go_sem, keyV, KeyD.v, hF0, zK, *]) rfl ⟨rfl, ?_⟩
    exact b5' HB.out (by omega)
  · have hsl0 : ∀ W : World, (Instr.slice 22 (.slice A2 P.length c2) (some (.int .i64 1)) none none).run Tryz.prog W = .ok (.slice (tailA A2 c2 1) (P.length - 1) (c2 - 1)) W := fun W => run_tailI A2 P.length c2 1 (by omega) hc2
    obtain ⟨TL, hTL⟩ : ∃ TL, P.tail = TL := ⟨_, rfl⟩
    have HTL : Hid (TL.length ≤ P.length) := Lib.hid (by rw [← hTL, List.length_tail]; omega)
    rw [hTL] at HT HF
    clear hTL
    obtain ⟨n, hnP⟩ : ∃ n, P.length = n := ⟨_, rfl⟩
    rw [hnP] at hsl0 h0 HT HPL HTL ⊢
    have hz0 : ((n : Int) == 0) = false := beq_eq_false_iff_ne.2 (by omega)
    clear hnP hc2 hm2
    go_upto_region 4 with (fail)
    refine but_begin (f := 8) (S := fun V => V.heap[w.heap.size]? = some (.cells #[.slice A lo.length c, .slice A' ts.length c'] 36 (0, 0))) (by kernel_rfl) ?_
    refine but_take (f := 8) (i := 0) (v := ?vsa0) rfl (by kernel_rfl) (by kernel_rfl) (by kernel_rfl) (by kernel_rfl) (by kernel_rfl) (fun _ _ _ h => h) (Or.inl ⟨(by rfl), ?hysa0⟩) (Q0.out) ?restsa0
    case hysa0 =>
      intro W hW
      obtain ⟨x0, x1, x2⟩ := box2 hW
      go_simp
      exact rfl
    simp only [List.getElem_toArray, List.getElem_cons_succ, List.getElem_cons_zero, Act.put, List.setIfInBounds_toArray, List.set_cons_zero, List.set_cons_succ]
    refine but_take (f := 8) (i := 1) (v := ?vsa1) rfl (by kernel_rfl) (by kernel_rfl) (by kernel_rfl) (by kernel_rfl) (by kernel_rfl) (fun _ _ _ h => h) (Or.inl ⟨(by rfl), ?hysa1⟩) (Q0.out) ?restsa1
    case hysa1 =>
      intro W hW
      go_simp
      exact rfl
    simp only [List.getElem_toArray, List.getElem_cons_succ, List.getElem_cons_zero, Act.put, List.setIfInBounds_toArray, List.set_cons_zero, List.set_cons_succ]
    refine but_take (f := 8) (i := 2) (v := ?vsa2) rfl (by kernel_rfl) (by kernel_rfl) (by kernel_rfl) (by kernel_rfl) (by kernel_rfl) (fun _ _ _ h => h) (Or.inl ⟨(by rfl), ?hysa2⟩) (Q0.out) ?restsa2
    case hysa2 =>
      intro W hW
      go_simp
      exact rfl
    simp only [List.getElem_toArray, List.getElem_cons_succ, List.getElem_cons_zero, Act.put, List.setIfInBounds_toArray, List.set_cons_zero, List.set_cons_succ]
    refine but_take (f := 8) (i := 3) (v := ?vsa3) rfl (by kernel_rfl) (by kernel_rfl) (by kernel_rfl) (by kernel_rfl) (by kernel_rfl) (fun _ _ _ h => h) (Or.inl ⟨(by rfl), ?hysa3⟩) (Q0.out) ?restsa3
    case hysa3 =>
      intro W hW
      have hsl := hsl0 W
      go_simp
      exact rfl
    simp only [List.getElem_toArray, List.getElem_cons_succ, List.getElem_cons_zero, Act.put, List.setIfInBounds_toArray, List.set_cons_zero, List.set_cons_succ]
    refine but_run (i := 4) (by kernel_rfl) rfl (by rfl) ?_
    simp only [List.getElem_toArray, List.getElem_cons_succ, List.getElem_cons_zero]
    intro K HK
    go_wp2_with fail
    refine (HN.out _ _ _ lo ts p TL _ (HV.out.on (Below.drew1 _)) (HT.out.on (Below.drew1 _)) hn hs (by have := HTL.out; have := HPL.out; omega)).mono ?_
    rintro r Vsa1 ⟨rfl, b2⟩
    rw [HF.out]
    have B2 := Lib.hid (bstep (Below.drew1 _) b2)
    clear b2
    go_wp2_with fail
    have hSsa1 : (fun V => V.heap[w.heap.size]? = some (.cells #[.slice A lo.length c, .slice A' ts.length c'] 36 (0, 0))) Vsa1 := box_on Q0.out B2.out
    refine HK.out _ _ (fun _ => hSsa1) ?_
    clear HK
    refine but_take (f := 8) (i := 5) (v := ?vsa5) rfl (by kernel_rfl) (by kernel_rfl) (by kernel_rfl) (by kernel_rfl) (by kernel_rfl) (fun _ _ _ h => h) (Or.inl ⟨(by rfl), ?hysa5⟩) hSsa1 ?restsa5
    case hysa5 =>
      intro W hW
      go_simp
      exact rfl
    simp only [List.getElem_toArray, List.getElem_cons_succ, List.getElem_cons_zero, Act.put, List.setIfInBounds_toArray, List.set_cons_zero, List.set_cons_succ]
    refine but_take (f := 8) (i := 6) (v := ?vsa6) rfl (by kernel_rfl) (by kernel_rfl) (by kernel_rfl) (by kernel_rfl) (by kernel_rfl) (fun _ _ _ h => h) (Or.inl ⟨(by rfl), ?hysa6⟩) hSsa1 ?restsa6
    case hysa6 =>
      intro W hW
      go_simp
      exact rfl
    simp only [List.getElem_toArray, List.getElem_cons_succ, List.getElem_cons_zero, Act.put, List.setIfInBounds_toArray, List.set_cons_zero, List.set_cons_succ]
    refine but_run (i := 7) (by kernel_rfl) rfl (by rfl) ?_
    simp only [List.getElem_toArray, List.getElem_cons_succ, List.getElem_cons_zero]
    intro K HK
    obtain ⟨y0, y1, y2, y3, y4, y5⟩ := box5 (box_on Q1.out B2.out)
    go_wp2_with fail
    have hSsa2 : (fun V => V.heap[w.heap.size]? = some (.cells #[.slice A lo.length c, .slice A' ts.length c'] 36 (0, 0))) (((((Vsa1.setCell ⟨w.heap.size + 1, 0, none⟩ (.int .i64 (F.getD zK).a)).setCell ⟨w.heap.size + 1, 1, none⟩ (.int .i64 (F.getD zK).b)).setCell ⟨w.heap.size + 1, 2, none⟩ (.int .i64 (F.getD zK).c)).setCell ⟨w.heap.size + 1, 3, none⟩ (.int .i64 (F.getD zK).d)).setCell ⟨w.heap.size + 1, 4, none⟩ (.int .i64 (F.getD zK).e)) := heap_far5 hSsa1 (by omega)
    refine HK.out _ _ (fun _ => hSsa2) ?_
    clear HK
    refine but_run (i := 8) (by kernel_rfl) rfl (by rfl) ?_
    simp only [List.getElem_toArray, List.getElem_cons_succ, List.getElem_cons_zero]
    intro K HK
    go_wp2_with fail
    refine HK.out _ _ (fun h => absurd rfl h) ?_
    clear HK
    refine but_done (by kernel_rfl) ?_
    go_wp2
    refine bodyPost_ret (v := .tuple #[(F.getD zK).v, .bool F.isSome]) (by simp [results, Tryz.results63, go_sem, keyV, KeyD.v, *]) rfl ⟨rfl, ?_⟩
    exact b5' (bstep HB.out B2.out) (by omega)
end Go.Proofs.YtpfepcjbhchpcaaGreat
namespace Go.Proofs.YtpfepcjbhchpcaaGreat
open Go.RowKit
set_option maxRecDepth 100000
set_option linter.unusedSimpArgs false
set_option linter.unusedVariables false

theorem quietSame {P : Program} {f : FuncId} {args : Array Value} {w : World} {n : Nat} {v : Value}
    (h : Calls P f args (w.drewN n) fun e w' => e = .returned v ∧ w.drewN n = w') : Calls P f args (w.drewN n) fun e w'' => e = .returned v ∧ ∃ m, w'' = w.drewN m :=
  h.mono fun _ _ ⟨he, hm⟩ => ⟨he, n, hm.symm⟩
theorem drewB (w : World) (n : Nat) : Below w.heap.size w (w.drewN n) := ⟨rfl, rfl, rfl, Nat.le_refl _, fun _ _ => rfl⟩
theorem Five.lay {w w' : World} {b o : Nat} {k : KeyD} (h : Five w b o k) (hlt : b < w.heap.size) (hb : Below w.heap.size w w') : Five w' b o k := by
  have hk := hb.block b hlt
  exact ⟨(World.cell?_of_block (a := ⟨b, o, none⟩) hk).trans h.1, (World.cell?_of_block (a := ⟨b, o + 1, none⟩) hk).trans h.2.1, (World.cell?_of_block (a := ⟨b, o + 2, none⟩) hk).trans h.2.2.1, (World.cell?_of_block (a := ⟨b, o + 3, none⟩) hk).trans h.2.2.2.1, (World.cell?_of_block (a := ⟨b, o + 4, none⟩) hk).trans h.2.2.2.2⟩
theorem ages_miss {d : PoolD} {k : KeyD} (hk : k ∈ treeKeysK d.ts) (h : ageAtK d.ag k.b < 0) : agesB d = false := by
  unfold agesB
  rw [List.all_eq_false]
  exact ⟨k, hk, by simp; omega⟩
theorem ages_all {d : PoolD} (h : ∀ j (hl : j < (treeKeysK d.ts).length), 0 ≤ ageAtK d.ag ((treeKeysK d.ts)[j]).b) : agesB d = true := by
  unfold agesB
  rw [List.all_eq_true]
  intro v hv
  obtain ⟨i, hi, rfl⟩ := List.mem_iff_getElem.1 hv
  exact decide_eq_true (h i hi)
set_option maxHeartbeats 4000000 in
theorem specL10Keys_any {t : TypeId} (vl vn va vc vv : Value) (d : PoolD) (w : World) (h : RdP t w w.heap.size vl vn va vc vv d) (hs : SmallP d) : Calls Tryz.prog 60 #[.agg #[vl, vn, va, vc, vv, .int .i64 d.nx]] w (SaysBool w (agesB d && cellsB d)) := by
  have hg : d.ce.length ≤ 2097152 := by have := hs.2.2.1; omega
  have ha : d.ag.length ≤ 2097152 := by have := hs.2.1; omega
  have h1 := hs.1
  have HK := Lib.hid (fun W b => specTreeKeys_any vl vn d.lo d.ts W (h.1.on b) (by omega) (by omega))
  obtain ⟨A0, c0, A1, c1, A2, c2, A3, c3, A4, c4, rfl, rfl, rfl, rfl, rfl⟩ := h.shape
  have HAG := Lib.hid (fun W b i => specAgeAt_any (.slice A2 d.ag.length c2) d.ag i W (h.2.1.on b) ha)
  have HC := Lib.hid (fun W b i g => specCellAt_any (.slice A3 d.ce.length c3) d.ce i g W ((h.2.2.1.on b).retype _) hg)
  have HU := Lib.hid (fun W b => specUsedCells_any (.slice A3 d.ce.length c3) d.ce W ((h.2.2.1.on b).retype _) hg)
  have HB := Lib.hid (bal1 w (.cells #[.slice A0 d.lo.length c0, .slice A1 d.ts.length c1, .slice A2 d.ag.length c2, .slice A3 d.ce.length c3, .slice A4 d.vo.length c4, .int .i64 d.nx] 41))
  have Q0 := Lib.hid (al1 w (.cells #[.slice A0 d.lo.length c0, .slice A1 d.ts.length c1, .slice A2 d.ag.length c2, .slice A3 d.ce.length c3, .slice A4 d.vo.length c4, .int .i64 d.nx] 41))
  have hkl := treeKeys_len d.ts
  obtain ⟨K, hK⟩ : ∃ K, treeKeysK d.ts = K := ⟨_, rfl⟩
  have HAM := Lib.hid (fun (k : KeyD) (hk : k ∈ treeKeysK d.ts) hh => ages_miss (d := d) (k := k) hk hh)
  have HAA := Lib.hid (ages_all (d := d))
  have HM1 := Lib.hid (fun (k : KeyD) (hk : k ∈ refsK (treeKeysK d.ts)) hh => cells_miss1 (d := d) (k := k) hk hh)
  have HM2 := Lib.hid (cells_miss2 (d := d))
  have HE := Lib.hid (cells_end (d := d))
  rw [hK] at hkl HK HAM HM1 HM2 HE
  have HAA2 : Hid ((∀ j (hl : j < K.length), 0 ≤ ageAtK d.ag (K[j]).b) → agesB d = true) := Lib.hid (fun hh => HAA.out (by subst hK; exact hh))
  have hkn : K.length ≤ 2097152 := by omega
  obtain ⟨R, hR⟩ : ∃ R, (agesB d && cellsB d) = R := ⟨_, rfl⟩
  rw [hR]
  have HX := Lib.hid hR
  clear h hs hR hK h1 hkl HAA
  go_enter Tryz.func60, Tryz.ntmps60
  go_upto_region 1 with (fail)
  generalize w.alloc (.cells #[.slice A0 d.lo.length c0, .slice A1 d.ts.length c1, .slice A2 d.ag.length c2, .slice A3 d.ce.length c3, .slice A4 d.vo.length c4, .int .i64 d.nx] 41) = W at *
  obtain ⟨x0, x1, x2, x3, x4, x5, x6⟩ := boxP Q0.out
  go_wp2_with fail
  refine (HK.out _ HB.out).mono ?_
  rintro e w1 ⟨v1, rfl, o, b1⟩
  replace Q0 := Lib.hid (box_on Q0.out b1)
  replace HB := Lib.hid (bstep HB.out b1)
  have HRd := Lib.hid o.owns.reads
  obtain ⟨A5, c5, rfl, _, _⟩ := o.owns.reads.lenN
  clear x0 x1 x2 x3 x4 x5 x6 o b1
  go_wp2
  go_loopw [4, 5, 6, 7, 8] (fun q i _ _ _ wr => ∃ k : Nat, k ≤ K.length ∧ i = .int .i64 k ∧ q = .int .i64 ((refsK (K.take k)).length : Nat) ∧ Hid (∀ j (hj : j < k) (hl : j < K.length), 0 ≤ ageAtK d.ag (K[j]).b) ∧ Hid (∀ x ∈ refsK (K.take k), cellB d.ce x.d x.e = true) ∧ Hid (((refsK (K.take k)).map (·.d)).Nodup) ∧ Hid (Below w1.heap.size w1 wr)) (fun _ i _ _ _ _ => K.length - (intOf i).toNat)
  case atStart => exact ⟨0, Nat.zero_le _, rfl, rfl, Lib.hid (fun j hj => by omega), Lib.hid (fun x hx => by simp [refsK] at hx), Lib.hid (by simp [refsK]), Lib.hid (Below.refl _ _)⟩
  case round =>
    obtain ⟨k, hk, rfl, rfl, HI, HJ, HN, HW⟩ := hrel
    have HBW := Lib.hid (bstep HB.out HW.out)
    have HQW := Lib.hid (box_on Q0.out HW.out)
    have hrl := refs_len (K.take k)
    have htl : (K.take k).length ≤ K.length := by rw [List.length_take]; omega
    by_cases hlt : k < K.length
    · obtain ⟨b, off, rfl, hbb, hc⟩ := HRd.out.keys hlt
      have HCL := Lib.hid hc
      have i1 : (k : Int) < (K.length : Int) := by omega
      have i2 : (0 : Int) ≤ (k : Int) := by omega
      obtain ⟨y0, y1, y2, y3, y4⟩ := Five.lay (hc k hlt) hbb HW.out
      have HBAD : Hid (ageAtK d.ag (K[k]).b < 0 → R = false) := Lib.hid (fun hh => by rw [← HX.out, HAM.out _ (List.getElem_mem hlt) hh]; rfl)
      have HST : Hid (0 ≤ ageAtK d.ag (K[k]).b → ∀ j (hj : j < k + 1) (hl : j < K.length), 0 ≤ ageAtK d.ag (K[j]).b) := Lib.hid (fun hh j hj hl => by
        by_cases h3 : j < k
        · exact HI.out j h3 hl
        · have : j = k := by omega
          subst this
          exact hh)
      have HSN := Lib.hid (refs_snoc hlt)
      have HBC : Hid ((K[k]).c = 1 → cellB d.ce (K[k]).d (K[k]).e = false → R = false) := Lib.hid (fun hc1 hh => by
        rw [← HX.out, HM1.out K[k] (by unfold refsK; rw [List.mem_filter]; exact ⟨List.getElem_mem hlt, by rw [hc1]; rfl⟩) hh, Bool.and_false])
      have HDU : Hid ((K[k]).c = 1 → (K[k]).d ∈ (refsK (K.take k)).map (·.d) → R = false) := Lib.hid (fun hc1 hm => by
        rw [← HX.out, HM2.out (fun hn => ?_), Bool.and_false]
        have h2 : ((refsK (K.take (k + 1))).map (·.d)).Nodup := hn.sublist ((refs_sub _).map _)
        rw [HSN.out, if_pos (by rw [hc1]; rfl), List.map_append, List.nodup_append] at h2
        exact h2.2.2 _ hm _ (by simp) rfl)
      clear hc
      obtain ⟨v, hv⟩ : ∃ v, v = K[k] := ⟨_, rfl⟩
      have HVK := Lib.hid hv
      rw [← hv] at y0 y1 y2 y3 y4 HBAD HST HSN HBC HDU
      clear hv
      have HA1 := Lib.hid (fun n => HAG.out (wr.drewN n) (HBW.out.trans ((drewB wr n).mono HBW.out.size)) v.b)
      obtain ⟨ad, had⟩ : ∃ ad, ageAtK d.ag v.b = ad := ⟨_, rfl⟩
      rw [had] at HA1 HBAD HST
      clear had
      obtain ⟨x0, x1, x2, x3, x4, x5, x6⟩ := boxP HQW.out
      by_cases hneg : ad < 0
      · have e1 : decide (ad < 0) = true := decide_eq_true hneg
        have HF := Lib.hid (HBAD.out hneg)
        go_wp2
        go_quiet ((go_at_call 100; exact quietSame (HA1.out _)))
        go_wp2
        go_ret
        exact ⟨by rw [HF.out]; rfl, HBW.out.trans ((drewB wr _).mono HBW.out.size)⟩
      · have e1 : decide (ad < 0) = false := decide_eq_false hneg
        have HI2 := Lib.hid (HST.out (by omega))
        by_cases hkd : v.c = 1
        · have e2 : (v.c != 1) = false := by simp [hkd]
          have HSN2 : Hid (refsK (K.take (k + 1)) = refsK (K.take k) ++ [v]) := Lib.hid (by rw [HSN.out, if_pos (by rw [hkd]; rfl)])
          have HBC2 := Lib.hid (HBC.out hkd)
          have HDU2 := Lib.hid (HDU.out hkd)
          have HKD := Lib.hid hkd
          clear hkd HBC HDU HSN
          go_wp2
          go_quiet ((go_at_call 100; exact quietSame (HA1.out _)))
          have BQ := drewB wr nq
          have HWq := Lib.hid (HW.out.trans (BQ.mono HW.out.size))
          have HBq := Lib.hid (HBW.out.trans (BQ.mono HBW.out.size))
          have HQq := Lib.hid (box_on HQW.out BQ)
          clear x0 x1 x2 x3 x4 x5 x6 y0 y1 y2 y3 y4 HA1 e1 BQ
          generalize wr.drewN nq = wq at *
          obtain ⟨x0, x1, x2, x3, x4, x5, x6⟩ := boxP HQq.out
          have fv := Five.lay (HCL.out k hlt) hbb HWq.out
          rw [← HVK.out] at fv
          obtain ⟨y0, y1, y2, y3, y4⟩ := fv
          obtain ⟨ck, hck⟩ : ∃ ck, cellK d.ce v.d v.e = ck := ⟨_, rfl⟩
          obtain ⟨cb, hcb⟩ : ∃ cb, cellB d.ce v.d v.e = cb := ⟨_, rfl⟩
          have HC1 := Lib.hid (fun n => (HC.out (wq.drewN n) (HBq.out.trans ((drewB wq n).mono HBq.out.size)) v.d v.e).mono (fun e w' h => (⟨h.1, h.2⟩ : e = .returned (.tuple #[.int .i64 (cellK d.ce v.d v.e), .bool (cellB d.ce v.d v.e)]) ∧ wq.drewN n = w')))
          rw [hck, hcb] at HC1
          rw [hcb] at HBC2
          have HCB := Lib.hid hcb
          clear hck hcb
          generalize hmr : (refsK (K.take k)).length = mr at *
          have HMR := Lib.hid hmr
          clear hmr
          cases cb
          · have HF := Lib.hid (HBC2.out rfl)
            go_wp2
            go_quiet ((go_at_call 122; exact quietSame (HC1.out _)))
            go_wp2
            go_ret
            exact ⟨by rw [HF.out]; rfl, HBq.out.trans ((drewB wq _).mono HBq.out.size)⟩
          · go_wp2
            go_quiet ((go_at_call 122; exact quietSame (HC1.out _)))
            have BQ := drewB wq nq
            have HWr := Lib.hid (HWq.out.trans (BQ.mono HWq.out.size))
            have HBr := Lib.hid (HBq.out.trans (BQ.mono HBq.out.size))
            have HQr := Lib.hid (box_on HQq.out BQ)
            clear x0 x1 x2 x3 x4 x5 x6 y0 y1 y2 y3 y4 HC1 BQ HW HWq HBW HBq HQW HQq
            generalize wq.drewN nq = ws at *
            go_wp2
            go_loopw [8] (fun j wz => ∃ jj : Nat, jj ≤ k ∧ j = .int .i64 jj ∧ Hid (∀ x (hx : x < jj) (hl : x < K.length), ¬ ((K[x]).c = 1 ∧ (K[x]).d = v.d)) ∧ Hid (Below ws.heap.size ws wz)) (fun j _ => k - (intOf j).toNat)
            case atStart => exact ⟨0, Nat.zero_le _, rfl, Lib.hid (fun x hx => by omega), Lib.hid (Below.refl _ _)⟩
            case round =>
              obtain ⟨jj, hjj, rfl, HNO, HZ⟩ := hrel
              have HWz := Lib.hid (bstep HWr.out HZ.out)
              by_cases hjk : jj < k
              · have hjl : jj < K.length := by omega
                have fv := Five.lay (HCL.out k hlt) hbb HWz.out
                rw [← HVK.out] at fv
                obtain ⟨y0, y1, y2, y3, y4⟩ := fv
                obtain ⟨z0, z1, z2, z3, z4⟩ := Five.lay (HCL.out jj hjl) hbb HWz.out
                have HDD : Hid ((K[jj]).c = 1 → (K[jj]).d = v.d → R = false) := Lib.hid (fun h1 h2 => HDU2.out (refs_mem.2 ⟨jj, hjl, hjk, h1, h2⟩))
                have HNN : Hid (¬ ((K[jj]).c = 1 ∧ (K[jj]).d = v.d) → ∀ x (hx : x < jj + 1) (hl : x < K.length), ¬ ((K[x]).c = 1 ∧ (K[x]).d = v.d)) := Lib.hid (fun hh x hx hl => by
                  by_cases h3 : x < jj
                  · exact HNO.out x h3 hl
                  · have : x = jj := by omega
                    subst this
                    exact hh)
                obtain ⟨u, hu⟩ : ∃ u, u = K[jj] := ⟨_, rfl⟩
                rw [← hu] at z0 z1 z2 z3 z4 HDD HNN
                clear hu
                have j1 : (jj : Int) < (k : Int) := by omega
                have j2 : (jj : Int) < (K.length : Int) := by omega
                have j3 : (0 : Int) ≤ (jj : Int) := by omega
                cases hc1 : (u.c == 1)
                · have HT := Lib.hid (HNN.out (fun hh => by rw [hh.1] at hc1; cases hc1))
                  go_wp2
                  go_quiet (fail)
                  go_wp2
                  go_roundw
                  case rel => exact ⟨jj + 1, by omega, by go_num, HT, Lib.hid (bdrew HZ.out _)⟩
                  case measure => simp [intOf]; omega
                · cases hd1 : (u.d == v.d)
                  · have HT := Lib.hid (HNN.out (fun hh => by rw [hh.2] at hd1; simp at hd1))
                    go_wp2
                    go_quiet (fail)
                    go_wp2
                    go_roundw
                    case rel => exact ⟨jj + 1, by omega, by go_num, HT, Lib.hid (bdrew HZ.out _)⟩
                    case measure => simp [intOf]; omega
                  · have HF := Lib.hid (HDD.out (by simpa using hc1) (by simpa using hd1))
                    go_wp2
                    go_quiet (fail)
                    go_wp2
                    go_ret
                    exact ⟨by rw [HF.out]; rfl, bdrew (bstep HBr.out HZ.out) _⟩
              · have HND : Hid (v.d ∉ (refsK (K.take k)).map (·.d)) := Lib.hid (fun hm => by
                  obtain ⟨x, hx, hxk, h1, h2⟩ := refs_mem.1 hm
                  exact HNO.out x (by omega) hx ⟨h1, h2⟩)
                have HJ2 : Hid (∀ x ∈ refsK (K.take (k + 1)), cellB d.ce x.d x.e = true) := Lib.hid (by
                  rw [HSN2.out]
                  intro x hx
                  rcases List.mem_append.1 hx with hx | hx
                  · exact HJ.out x hx
                  · simp at hx
                    subst hx
                    exact HCB.out)
                have HN2 : Hid (((refsK (K.take (k + 1))).map (·.d)).Nodup) := Lib.hid (by
                  rw [HSN2.out, List.map_append]
                  exact nodup_snoc HN.out HND.out)
                have HL2 : Hid ((refsK (K.take (k + 1))).length = mr + 1) := Lib.hid (by rw [HSN2.out, List.length_append, HMR.out]; rfl)
                go_wp2
                go_roundw
                case rel => exact ⟨k + 1, by omega, by go_num, by rw [HL2.out]; go_num, HI2, HJ2, HN2, HWz⟩
                case measure => simp [intOf]; omega
        · have e2 : (v.c != 1) = true := by simp [hkd]
          have HSN2 : Hid (refsK (K.take (k + 1)) = refsK (K.take k)) := Lib.hid (by rw [HSN.out, if_neg (by simpa using hkd)]; simp)
          clear hkd HBC HDU HSN
          go_wp2
          go_quiet ((go_at_call 100; exact quietSame (HA1.out _)))
          go_wp2
          go_roundw
          case rel => exact ⟨k + 1, by omega, by go_num, by rw [HSN2.out], HI2, by rw [HSN2.out]; exact HJ, by rw [HSN2.out]; exact HN, Lib.hid (HW.out.trans ((drewB wr _).mono HW.out.size))⟩
          case measure => simp [intOf]; omega
    · have e : k = K.length := by omega
      subst e
      rw [List.take_length] at HJ HN
      have HE2 := Lib.hid (HE.out HJ.out HN.out)
      have HA2 := Lib.hid (HAA2.out (fun j hl => HI.out j hl hl))
      have HRV : Hid (R = decide ((refsK K).length = usedK d.ce)) := Lib.hid (by rw [← HX.out, HA2.out, HE2.out]; rfl)
      rw [List.take_length] at hrl htl ⊢
      generalize (refsK K).length = m at *
      obtain ⟨x0, x1, x2, x3, x4, x5, x6⟩ := boxP HQW.out
      go_wp2_with fail
      refine (HU.out _ HBW.out).mono ?_
      rintro e _ ⟨rfl, rfl⟩
      generalize usedK d.ce = u at *
      by_cases hu : m = u
      · have e1 : ((m : Int) == (u : Int)) = true := by simp; omega
        have HF : Hid (R = true) := Lib.hid (by rw [HRV.out, decide_eq_true hu])
        clear hu
        go_wp2
        go_ret
        exact ⟨by rw [HF.out]; rfl, HBW.out⟩
      · have e1 : ((m : Int) == (u : Int)) = false := by simp; omega
        have HF : Hid (R = false) := Lib.hid (by rw [HRV.out, decide_eq_false hu])
        clear hu
        go_wp2
        go_ret
        exact ⟨by rw [HF.out]; rfl, HBW.out⟩
end Go.Proofs.YtpfepcjbhchpcaaGreat
