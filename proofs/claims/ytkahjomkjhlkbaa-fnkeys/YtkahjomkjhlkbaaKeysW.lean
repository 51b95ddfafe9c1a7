/- The walk of FnKeys: at every code the call returns true and writes nothing that was there. No condition. -/
import Derived.Test.YtkahjomkjhlkbaaKeysA
import Derived.Test.YtkahjomkjhlkbaaDrawLess
import Derived.Test.YtkahjomkjhlkbaaLast2
import Derived.Deep.RegionHeld3
import Derived.Deep.DeepCutAuto
import Derived.IntWalk
namespace Go.Proofs.Ytkahjomkjhlkbaa
open Go.RowKit
set_option maxRecDepth 100000

theorem getShape (o : Option KeyD) (k : Int) : ∃ a b c d e n t, keyRes o k = .tuple #[keyV a b c d e, .int .i64 n, .bool t] ∧ ((t = true ∧ o = some ⟨a, b, c, d, e⟩ ∧ n = k + 6) ∨ (t = false ∧ o = none)) := by
  cases o with
  | none => exact ⟨_, _, _, _, _, _, _, rfl, .inr ⟨rfl, rfl⟩⟩
  | some q => exact ⟨_, _, _, _, _, _, _, rfl, .inl ⟨rfl, rfl, rfl⟩⟩
theorem wanted_at {o og : Oper} {ops : Array Oper} {tmps : Array Value} {g s : Nat} {b v : Bool} (hg : o.guard = some (g, b)) (ho : ops[g]? = some og) (hd : og.dst = some s) (hv : tmps[s]? = some (.bool v)) : Region.wanted o (yielded ops tmps) = (v == b) := by
  simp [Region.wanted, yielded, hg, ho, hd, hv]
theorem keys_held2 {w W : World} {p q : Nat} {a b c d e a' b' c' d' e' : Value} {t : TypeId} (hp : w.heap[p]? = some (.cells #[a, b, c, d, e] t (0, 0))) (hq : w.heap[q]? = some (.cells #[a', b', c', d', e'] t (0, 0))) (hb : Below w.heap.size w W) :
    Below w.heap.size w W ∧ W.cell? ⟨p, 0, none⟩ = some a ∧ W.cell? ⟨p, 1, none⟩ = some b ∧ W.cell? ⟨p, 2, none⟩ = some c ∧ W.cell? ⟨p, 3, none⟩ = some d ∧ W.cell? ⟨p, 4, none⟩ = some e ∧ W.cell? ⟨q, 0, none⟩ = some a' ∧ W.cell? ⟨q, 1, none⟩ = some b' ∧ W.cell? ⟨q, 2, none⟩ = some c' ∧ W.cell? ⟨q, 3, none⟩ = some d' ∧ W.cell? ⟨q, 4, none⟩ = some e' := ⟨hb, keys_held hp hq hb⟩
/-- What PutKey leaves: bytes of its own that read as E from here on, whatever is made behind them. -/
def PutOut (W0 : World) (E : List UInt8) (V : World) (r : Ending) (V' : World) : Prop := ∃ g c, r = .returned (.slice (some ⟨g, 0, none⟩) E.length c) ∧ Below W0.heap.size W0 V' ∧ ∀ U, Below V'.heap.size V' U → (convert 22 9 (.slice (some ⟨g, 0, none⟩) E.length c)).run Try.prog U = .ok (.string ⟨E.toArray⟩) U
theorem putOut {W0 V : World} {E : List UInt8} {args : Array Value} {f : FuncId} (hV : Below W0.heap.size W0 V) (h : Calls Try.prog f args V (NewBytes V E)) : Calls Try.prog f args V (PutOut W0 E V) := by
  refine h.mono ?_
  rintro r V' ⟨g, v, rfl, o, hg, b⟩
  obtain ⟨c, rfl, hc, _⟩ := o.rd
  exact ⟨g, c, rfl, bstep hV b, fun U hU => conv_rd (o.on hU).all hc⟩
set_option maxHeartbeats 20000000 in
theorem keys_walk (a0 : Option Addr) (len0 cap0 : Nat) (z0 : List Int) (w : World) (w0 : CameIn .u8 w a0 len0 cap0 z0) :
    Calls Try.prog 6 #[.slice a0 len0 cap0] w fun e w' => e = .returned (.bool true) ∧ Below w.heap.size w w' := by
  obtain ⟨l, rfl, hr⟩ := w0.rd
  clear w0
  by_cases hbig : l.length ≤ 1048576
  · have d0 : decide ((1048576 : Int) < (l.length : Int)) = false := decide_eq_false (by omega)
    have HR := Lib.hid hr
    clear hr
    go_enter Try.func6, Try.ntmps6
    go_wp2_with fail
    refine (big_any _ _ _ _).mono ?_
    rintro r w1 ⟨rfl, rfl⟩
    rw [d0]
    go_wp2_with fail
    refine (drawPutKey_any _ _ l _ HR.out hbig).mono ?_
    rintro r w1 ⟨g1, v1, bl, a, b, c, d, e, rfl, o1, hbl, b1⟩
    obtain ⟨c1, rfl, hc1, _⟩ := o1.rd
    have bK := bal1 w1 (.cells #[.int .i64 a, .int .i64 b, .int .i64 c, .int .i64 d, .int .i64 e] 45)
    have QK := Lib.hid (al1 w1 (.cells #[.int .i64 a, .int .i64 b, .int .i64 c, .int .i64 d, .int .i64 e] 45))
    have OB := Lib.hid (o1.on bK)
    have BB := Lib.hid (bstep b1 bK)
    clear o1 b1 bK
    have HP := Lib.hid (implPutKey_any (some ⟨g1, 0, none⟩) c1 bl a b c d e)
    have HKI := Lib.hid (implKeyOk_any a b c d e)
    have HKS := Lib.hid (specKeyOk_any a b c d e)
    unfold keyV at HP HKI HKS ⊢
    go_wp2_with fail
    refine (HP.out _ OB.out.all (by omega)).mono ?_
    rintro r w2 ⟨g2, v2, rfl, o2, hg2, b2⟩
    obtain ⟨P, hP⟩ : ∃ P, P = bl ++ encK a b c d e := ⟨_, rfl⟩
    rw [← hP] at o2
    have HPE := Lib.hid hP
    have hPl : P.length ≤ 9 := by have := encK_le a b c d e; rw [hP]; simp; omega
    obtain ⟨c2, rfl, hc2, _⟩ := o2.rd
    replace QK := Lib.hid (box_on QK.out b2)
    replace OB := Lib.hid (OB.out.on b2)
    replace BB := Lib.hid (bstep BB.out b2)
    have OP := Lib.hid o2
    clear o2 b2 hP HP hg2
    go_wp2_with fail
    refine (drawGetKey_any _ _ l _ (HR.out.on BB.out) hbig).mono ?_
    rintro r w3 ⟨g3, v3, cc, x, rfl, o3, hcc, b3⟩
    obtain ⟨c3, rfl, hc3, _⟩ := o3.rd
    replace QK := Lib.hid (box_on QK.out b3)
    replace OB := Lib.hid (OB.out.on b3)
    replace OP := Lib.hid (OP.out.on b3)
    replace BB := Lib.hid (bstep BB.out b3)
    have OC := Lib.hid o3
    clear o3 b3
    obtain ⟨y1, y2, y3, y4, y5, en, is, hK, hY⟩ := getShape (getK cc x) x
    have HGI : Hid (∀ V, Rd V V.heap.size (some ⟨g3, 0, none⟩) cc → Calls Try.prog 40 #[.slice (some ⟨g3, 0, none⟩) cc.length c3, .int .i64 x] V fun r V' => r = .returned (.tuple #[keyV y1 y2 y3 y4 y5, .int .i64 en, .bool is]) ∧ Below V.heap.size V V') := Lib.hid (fun V hV => by have h := implGetKey_any (some ⟨g3, 0, none⟩) c3 cc x V hV (by omega); unfold SaysGet at h; rw [hK] at h; exact h)
    have HGS : Hid (∀ V, Rd V V.heap.size (some ⟨g3, 0, none⟩) cc → Calls Try.prog 41 #[.slice (some ⟨g3, 0, none⟩) cc.length c3, .int .i64 x] V fun r V' => r = .returned (.tuple #[keyV y1 y2 y3 y4 y5, .int .i64 en, .bool is]) ∧ Below V.heap.size V V') := Lib.hid (fun V hV => by have h := specGetKey_any (some ⟨g3, 0, none⟩) c3 cc x V hV (by omega); unfold SaysGet at h; rw [hK] at h; exact h)
    have HY := Lib.hid hY
    clear hK hY
    unfold keyV at HGI HGS
    go_wp2_with fail
    refine (HGI.out _ OC.out.all).mono ?_
    rintro r w4 ⟨rfl, b4⟩
    have b4' := bstep b4 (bal1 w4 (.cells #[.int .i64 y1, .int .i64 y2, .int .i64 y3, .int .i64 y4, .int .i64 y5] 45))
    have QY := Lib.hid (al1 w4 (.cells #[.int .i64 y1, .int .i64 y2, .int .i64 y3, .int .i64 y4, .int .i64 y5] 45))
    replace QK := Lib.hid (box_on QK.out b4')
    replace OB := Lib.hid (OB.out.on b4')
    replace OP := Lib.hid (OP.out.on b4')
    replace OC := Lib.hid (OC.out.on b4')
    replace BB := Lib.hid (bstep BB.out b4')
    clear b4 b4' HGI
    go_wp2_with fail
    refine (HGS.out _ OC.out.all).mono ?_
    rintro r w5 ⟨rfl, b5⟩
    have b5' := bstep b5 (bal1 w5 (.cells #[.int .i64 y1, .int .i64 y2, .int .i64 y3, .int .i64 y4, .int .i64 y5] 45))
    replace QK := Lib.hid (box_on QK.out b5')
    replace QY := Lib.hid (box_on QY.out b5')
    replace OB := Lib.hid (OB.out.on b5')
    replace OP := Lib.hid (OP.out.on b5')
    replace OC := Lib.hid (OC.out.on b5')
    replace BB := Lib.hid (bstep BB.out b5')
    clear b5 b5' HGS
    go_wp2_with fail
    refine (drawLessKey_any _ _ l _ (HR.out.on BB.out) hbig).mono ?_
    rintro r w6 ⟨u1, u2, u3, u4, u5, z1, z2, z3, z4, z5, rfl, b6⟩
    have HL1 := Lib.hid (implLessKey_any u1 u2 u3 u4 u5 z1 z2 z3 z4 z5)
    have HL2 := Lib.hid (implLessKey_any z1 z2 z3 z4 z5 u1 u2 u3 u4 u5)
    have HL3 := Lib.hid (implSameSpot_any u1 u2 u3 u4 u5 z1 z2 z3 z4 z5)
    have TRI := Lib.hid (less_tri u1 u2 z1 z2)
    unfold keyV at HL1 HL2 HL3 ⊢
    have b6' := bstep b6 (bal2 w6 (.cells #[.int .i64 u1, .int .i64 u2, .int .i64 u3, .int .i64 u4, .int .i64 u5] 45) (.cells #[.int .i64 z1, .int .i64 z2, .int .i64 z3, .int .i64 z4, .int .i64 z5] 45))
    obtain ⟨qu, qv⟩ := al2 w6 (.cells #[.int .i64 u1, .int .i64 u2, .int .i64 u3, .int .i64 u4, .int .i64 u5] 45) (.cells #[.int .i64 z1, .int .i64 z2, .int .i64 z3, .int .i64 z4, .int .i64 z5] 45)
    have QU := Lib.hid qu
    have QV := Lib.hid qv
    replace QK := Lib.hid (box_on QK.out b6')
    replace QY := Lib.hid (box_on QY.out b6')
    replace OB := Lib.hid (OB.out.on b6')
    replace OP := Lib.hid (OP.out.on b6')
    replace OC := Lib.hid (OC.out.on b6')
    replace BB := Lib.hid (bstep BB.out b6')
    clear b6 b6' qu qv
    go_upto_region 10 with (fail)
    generalize (w6.alloc (.cells #[.int .i64 u1, .int .i64 u2, .int .i64 u3, .int .i64 u4, .int .i64 u5] 45)).alloc (.cells #[.int .i64 z1, .int .i64 z2, .int .i64 z3, .int .i64 z4, .int .i64 z5] 45) = W at *
    generalize w6.heap.size = bu at *
    generalize w4.heap.size = by_ at *
    generalize w1.heap.size = bk at *
    generalize lessB u1 u2 z1 z2 = L1 at *
    generalize lessB z1 z2 u1 u2 = L2 at *
    generalize spotB u1 u2 z1 z2 = L3 at *
    obtain ⟨p0, p1, p2, p3, p4, p5⟩ := box5 QU.out
    obtain ⟨q0, q1, q2, q3, q4, q5⟩ := box5 QV.out
    go_wp2_with fail
    refine (HL1.out _).mono ?_
    rintro r x1 ⟨rfl, f1⟩
    have X1 := Lib.hid f1
    clear p0 p1 p2 p3 p4 p5 q0 q1 q2 q3 q4 q5 f1
    obtain ⟨p0, p1, p2, p3, p4, p5⟩ := box5 (box_on QU.out X1.out)
    obtain ⟨q0, q1, q2, q3, q4, q5⟩ := box5 (box_on QV.out X1.out)
    rcases TRI.out with ⟨rfl, rfl, rfl⟩ | ⟨rfl, rfl, rfl⟩ | ⟨rfl, rfl, rfl⟩
    · go_wp2_with fail
      refine (HL2.out _).mono ?_
      rintro r x2 ⟨rfl, f2⟩
      have X2 := Lib.hid (bstep X1.out f2)
      clear p0 p1 p2 p3 p4 p5 q0 q1 q2 q3 q4 q5 f2
      obtain ⟨p0, p1, p2, p3, p4, p5⟩ := box5 (box_on QU.out X2.out)
      obtain ⟨q0, q1, q2, q3, q4, q5⟩ := box5 (box_on QV.out X2.out)
      go_wp2_with fail
      refine (HL3.out _).mono ?_
      rintro r wc ⟨rfl, f3⟩
      have HW := Lib.hid (bstep X2.out f3)
      clear p0 p1 p2 p3 p4 p5 q0 q1 q2 q3 q4 q5 f3 X1 X2
      replace QK := Lib.hid (box_on QK.out HW.out)
      replace QY := Lib.hid (box_on QY.out HW.out)
      replace OB := Lib.hid (OB.out.on HW.out)
      replace OP := Lib.hid (OP.out.on HW.out)
      replace OC := Lib.hid (OC.out.on HW.out)
      replace BB := Lib.hid (bstep BB.out HW.out)
      clear HW QU QV HL1 HL2 HL3 TRI
      generalize hKB : keyOkB a b c d e = kb at *
      go_upto_region 16 with (fail)
      have HKI2 : Hid (∀ V, Below wc.heap.size wc V → Calls Try.prog 45 #[.agg #[.int .i64 a, .int .i64 b, .int .i64 c, .int .i64 d, .int .i64 e]] V fun r V' => r = .returned (.bool kb) ∧ Below wc.heap.size wc V') := Lib.hid (fun V hV => (HKI.out V).mono (fun r V' h => ⟨h.1, bstep hV h.2⟩))
      have HKS2 : Hid (∀ V, Below wc.heap.size wc V → Calls Try.prog 46 #[.agg #[.int .i64 a, .int .i64 b, .int .i64 c, .int .i64 d, .int .i64 e]] V fun r V' => r = .returned (.bool kb) ∧ Below wc.heap.size wc V') := Lib.hid (fun V hV => (HKS.out V).mono (fun r V' h => ⟨h.1, bstep hV h.2⟩))
      have hdw : Below wc.heap.size wc wc.drew := (Below.refl _ _).drew
      have tkk : (kb != kb) = false := by simp
      go_cut [97] (fun s97 wx => s97 = .bool false ∧ Hid (Below wc.heap.size wc wx))
      case first =>
        rcases HY.out with ⟨rfl, hget, rfl⟩ | ⟨rfl, hget⟩
        · obtain ⟨j, rfl, hj, hE6, hEc⟩ := put_getK hget
          have HPY := Lib.hid (implPutKey_any (some ⟨wc.heap.size, 0, none⟩) 0 [] y1 y2 y3 y4 y5)
          dsimp only at hE6 hEc
          unfold keyV at HPY
          rw [List.nil_append] at HPY
          generalize encK y1 y2 y3 y4 y5 = E at *
          have HPY2 : Hid (∀ V, Below wc.heap.size wc V → Calls Try.prog 38 #[.slice (some ⟨wc.heap.size, 0, none⟩) 0 0, .agg #[.int .i64 y1, .int .i64 y2, .int .i64 y3, .int .i64 y4, .int .i64 y5]] V (PutOut wc E V)) := Lib.hid (fun V hV => putOut hV (HPY.out V (.inl rfl) (by simp)))
          have CF : Hid (∀ U, Below wc.heap.size wc U → (convert 22 9 (.slice (some ⟨g3, j, none⟩) 6 (c3 - j))).run Try.prog U = .ok (.string ⟨E.toArray⟩) U) := Lib.hid (fun U hU => by
            refine conv_at U g3 j 6 (c3 - j) E hE6 (fun i hi => ?_)
            have h := ((OC.out.on hU).cellAt (j := j + i) (by omega)).1
            rw [h, hEc i (by omega) hi])
          have cvc0 := CF.out _ hdw
          have b1 : Below wc.heap.size wc (wc.alloc (.cells #[] 5)).drew := (bal1 wc (.cells #[] 5)).drew
          have cvc1 := CF.out _ b1
          have i1 : (0 : Int) ≤ (j : Int) := by omega
          have i2 : (j : Int) ≤ (j : Int) + 6 := by omega
          have i3 : (j : Int) + 6 ≤ (c3 : Int) := by omega
          have i4 : ((j : Int) + 6).toNat = j + 6 := by omega
          have i5 : j + 6 - j = 6 := by omega
          have i6 : ¬ (c3 = j) := by omega
          clear hget hE6 hEc HPY HY
          have hS0 : (fun V => Below wc.heap.size wc V ∧ V.cell? ⟨by_, 0, none⟩ = some (.int .i64 y1) ∧ V.cell? ⟨by_, 1, none⟩ = some (.int .i64 y2) ∧ V.cell? ⟨by_, 2, none⟩ = some (.int .i64 y3) ∧ V.cell? ⟨by_, 3, none⟩ = some (.int .i64 y4) ∧ V.cell? ⟨by_, 4, none⟩ = some (.int .i64 y5) ∧ V.cell? ⟨bk, 0, none⟩ = some (.int .i64 a) ∧ V.cell? ⟨bk, 1, none⟩ = some (.int .i64 b) ∧ V.cell? ⟨bk, 2, none⟩ = some (.int .i64 c) ∧ V.cell? ⟨bk, 3, none⟩ = some (.int .i64 d) ∧ V.cell? ⟨bk, 4, none⟩ = some (.int .i64 e) ∧ (convert 22 9 (.slice (some ⟨g3, j, none⟩) 6 (c3 - j))).run Try.prog V = .ok (.string ⟨E.toArray⟩) V) wc.drew := ⟨hdw, (keys_held QY.out QK.out hdw).1, (keys_held QY.out QK.out hdw).2.1, (keys_held QY.out QK.out hdw).2.2.1, (keys_held QY.out QK.out hdw).2.2.2.1, (keys_held QY.out QK.out hdw).2.2.2.2.1, (keys_held QY.out QK.out hdw).2.2.2.2.2.1, (keys_held QY.out QK.out hdw).2.2.2.2.2.2.1, (keys_held QY.out QK.out hdw).2.2.2.2.2.2.2.1, (keys_held QY.out QK.out hdw).2.2.2.2.2.2.2.2.1, (keys_held QY.out QK.out hdw).2.2.2.2.2.2.2.2.2, CF.out _ hdw⟩
          refine but_begin (f := 28) (S := (fun V => Below wc.heap.size wc V ∧ V.cell? ⟨by_, 0, none⟩ = some (.int .i64 y1) ∧ V.cell? ⟨by_, 1, none⟩ = some (.int .i64 y2) ∧ V.cell? ⟨by_, 2, none⟩ = some (.int .i64 y3) ∧ V.cell? ⟨by_, 3, none⟩ = some (.int .i64 y4) ∧ V.cell? ⟨by_, 4, none⟩ = some (.int .i64 y5) ∧ V.cell? ⟨bk, 0, none⟩ = some (.int .i64 a) ∧ V.cell? ⟨bk, 1, none⟩ = some (.int .i64 b) ∧ V.cell? ⟨bk, 2, none⟩ = some (.int .i64 c) ∧ V.cell? ⟨bk, 3, none⟩ = some (.int .i64 d) ∧ V.cell? ⟨bk, 4, none⟩ = some (.int .i64 e) ∧ (convert 22 9 (.slice (some ⟨g3, j, none⟩) 6 (c3 - j))).run Try.prog V = .ok (.string ⟨E.toArray⟩) V)) (by kernel_rfl) ?_
          refine but_take (f := 28) (i := 0) (v := ?v1t0) rfl (by kernel_rfl) (by kernel_rfl) (by kernel_rfl) (by kernel_rfl) (by kernel_rfl) (fun _ _ _ h => h) (Or.inl ⟨(by rfl), ?hy1t0⟩) hS0 ?rest1t0
          case hy1t0 =>
            intro W hW
            obtain ⟨h0, h1, h2, h3, h4, h5, h6, h7, h8, h9, h10, h11⟩ := hW
            go_simp
            exact rfl
          simp only [List.getElem_toArray, List.getElem_cons_succ, List.getElem_cons_zero, Act.put, List.setIfInBounds_toArray, List.set_cons_zero, List.set_cons_succ]
          refine but_take (f := 28) (i := 1) (v := ?v1t1) rfl (by kernel_rfl) (by kernel_rfl) (by kernel_rfl) (by kernel_rfl) (by kernel_rfl) (fun _ _ _ h => h) (Or.inl ⟨(by rfl), ?hy1t1⟩) hS0 ?rest1t1
          case hy1t1 =>
            intro W hW
            obtain ⟨h0, h1, h2, h3, h4, h5, h6, h7, h8, h9, h10, h11⟩ := hW
            go_simp
            exact rfl
          simp only [List.getElem_toArray, List.getElem_cons_succ, List.getElem_cons_zero, Act.put, List.setIfInBounds_toArray, List.set_cons_zero, List.set_cons_succ]
          refine but_take (f := 28) (i := 2) (v := ?v1t2) rfl (by kernel_rfl) (by kernel_rfl) (by kernel_rfl) (by kernel_rfl) (by kernel_rfl) (fun _ _ _ h => h) (Or.inl ⟨(by rfl), ?hy1t2⟩) hS0 ?rest1t2
          case hy1t2 =>
            intro W hW
            obtain ⟨h0, h1, h2, h3, h4, h5, h6, h7, h8, h9, h10, h11⟩ := hW
            go_simp
            exact rfl
          simp only [List.getElem_toArray, List.getElem_cons_succ, List.getElem_cons_zero, Act.put, List.setIfInBounds_toArray, List.set_cons_zero, List.set_cons_succ]
          refine but_take (f := 28) (i := 3) (v := ?v1t3) rfl (by kernel_rfl) (by kernel_rfl) (by kernel_rfl) (by kernel_rfl) (by kernel_rfl) (fun _ _ _ h => h) (Or.inl ⟨(by rfl), ?hy1t3⟩) hS0 ?rest1t3
          case hy1t3 =>
            intro W hW
            obtain ⟨h0, h1, h2, h3, h4, h5, h6, h7, h8, h9, h10, h11⟩ := hW
            go_simp
            exact rfl
          simp only [List.getElem_toArray, List.getElem_cons_succ, List.getElem_cons_zero, Act.put, List.setIfInBounds_toArray, List.set_cons_zero, List.set_cons_succ]
          refine but_take (f := 28) (i := 4) (v := ?v1t4) rfl (by kernel_rfl) (by kernel_rfl) (by kernel_rfl) (by kernel_rfl) (by kernel_rfl) (fun _ _ _ h => h) (Or.inl ⟨((wanted_at rfl rfl rfl rfl).trans rfl), ?hy1t4⟩) hS0 ?rest1t4
          case hy1t4 =>
            intro W hW
            obtain ⟨h0, h1, h2, h3, h4, h5, h6, h7, h8, h9, h10, h11⟩ := hW
            go_simp
            exact rfl
          simp only [List.getElem_toArray, List.getElem_cons_succ, List.getElem_cons_zero, Act.put, List.setIfInBounds_toArray, List.set_cons_zero, List.set_cons_succ]
          refine but_take (f := 28) (i := 5) (v := ?v1t5) rfl (by kernel_rfl) (by kernel_rfl) (by kernel_rfl) (by kernel_rfl) (by kernel_rfl) (fun _ _ _ h => h) (Or.inl ⟨((wanted_at rfl rfl rfl rfl).trans rfl), ?hy1t5⟩) hS0 ?rest1t5
          case hy1t5 =>
            intro W hW
            obtain ⟨h0, h1, h2, h3, h4, h5, h6, h7, h8, h9, h10, h11⟩ := hW
            go_simp
            exact rfl
          simp only [List.getElem_toArray, List.getElem_cons_succ, List.getElem_cons_zero, Act.put, List.setIfInBounds_toArray, List.set_cons_zero, List.set_cons_succ]
          refine but_take (f := 28) (i := 7) (v := ?v1t7) rfl (by kernel_rfl) (by kernel_rfl) (by kernel_rfl) (by kernel_rfl) (by kernel_rfl) (fun _ _ _ h => h) (Or.inl ⟨((wanted_at rfl rfl rfl rfl).trans rfl), ?hy1t7⟩) hS0 ?rest1t7
          case hy1t7 =>
            intro W hW
            obtain ⟨h0, h1, h2, h3, h4, h5, h6, h7, h8, h9, h10, h11⟩ := hW
            go_simp
            exact rfl
          simp only [List.getElem_toArray, List.getElem_cons_succ, List.getElem_cons_zero, Act.put, List.setIfInBounds_toArray, List.set_cons_zero, List.set_cons_succ]
          refine but_take (f := 28) (i := 10) (v := ?v1t10) rfl (by kernel_rfl) (by kernel_rfl) (by kernel_rfl) (by kernel_rfl) (by kernel_rfl) (fun _ _ _ h => h) (Or.inl ⟨((wanted_at rfl rfl rfl rfl).trans rfl), ?hy1t10⟩) hS0 ?rest1t10
          case hy1t10 =>
            intro W hW
            obtain ⟨h0, h1, h2, h3, h4, h5, h6, h7, h8, h9, h10, h11⟩ := hW
            go_simp
            exact rfl
          simp only [List.getElem_toArray, List.getElem_cons_succ, List.getElem_cons_zero, Act.put, List.setIfInBounds_toArray, List.set_cons_zero, List.set_cons_succ]
          refine but_take (f := 28) (i := 11) (v := ?v1t11) rfl (by kernel_rfl) (by kernel_rfl) (by kernel_rfl) (by kernel_rfl) (by kernel_rfl) (fun _ _ _ h => h) (Or.inl ⟨((wanted_at rfl rfl rfl rfl).trans rfl), ?hy1t11⟩) hS0 ?rest1t11
          case hy1t11 =>
            intro W hW
            obtain ⟨h0, h1, h2, h3, h4, h5, h6, h7, h8, h9, h10, h11⟩ := hW
            go_simp
            exact rfl
          simp only [List.getElem_toArray, List.getElem_cons_succ, List.getElem_cons_zero, Act.put, List.setIfInBounds_toArray, List.set_cons_zero, List.set_cons_succ]
          refine but_take (f := 28) (i := 12) (v := ?v1t12) rfl (by kernel_rfl) (by kernel_rfl) (by kernel_rfl) (by kernel_rfl) (by kernel_rfl) (fun _ _ _ h => h) (Or.inl ⟨((wanted_at rfl rfl rfl rfl).trans rfl), ?hy1t12⟩) hS0 ?rest1t12
          case hy1t12 =>
            intro W hW
            obtain ⟨h0, h1, h2, h3, h4, h5, h6, h7, h8, h9, h10, h11⟩ := hW
            go_simp
            exact rfl
          simp only [List.getElem_toArray, List.getElem_cons_succ, List.getElem_cons_zero, Act.put, List.setIfInBounds_toArray, List.set_cons_zero, List.set_cons_succ]
          refine but_take (f := 28) (i := 13) (v := ?v1t13) rfl (by kernel_rfl) (by kernel_rfl) (by kernel_rfl) (by kernel_rfl) (by kernel_rfl) (fun _ _ _ h => h) (Or.inl ⟨((wanted_at rfl rfl rfl rfl).trans rfl), ?hy1t13⟩) hS0 ?rest1t13
          case hy1t13 =>
            intro W hW
            obtain ⟨h0, h1, h2, h3, h4, h5, h6, h7, h8, h9, h10, h11⟩ := hW
            go_simp
            exact rfl
          simp only [List.getElem_toArray, List.getElem_cons_succ, List.getElem_cons_zero, Act.put, List.setIfInBounds_toArray, List.set_cons_zero, List.set_cons_succ]
          refine but_take (f := 28) (i := 14) (v := ?v1t14) rfl (by kernel_rfl) (by kernel_rfl) (by kernel_rfl) (by kernel_rfl) (by kernel_rfl) (fun _ _ _ h => h) (Or.inl ⟨((wanted_at rfl rfl rfl rfl).trans rfl), ?hy1t14⟩) hS0 ?rest1t14
          case hy1t14 =>
            intro W hW
            obtain ⟨h0, h1, h2, h3, h4, h5, h6, h7, h8, h9, h10, h11⟩ := hW
            go_simp
            exact rfl
          simp only [List.getElem_toArray, List.getElem_cons_succ, List.getElem_cons_zero, Act.put, List.setIfInBounds_toArray, List.set_cons_zero, List.set_cons_succ]
          refine but_run (i := 6) (by kernel_rfl) rfl ((wanted_at rfl rfl rfl rfl).trans rfl) ?_
          simp only [List.getElem_toArray, List.getElem_cons_succ, List.getElem_cons_zero]
          intro K HK
          go_wp2_with fail
          have hb1 : Below wc.heap.size wc (wc.drew.alloc (.cells #[] 5)) := hdw.alloc (Nat.le_refl _) _
          have hS1 : (fun V => Below wc.heap.size wc V ∧ V.cell? ⟨by_, 0, none⟩ = some (.int .i64 y1) ∧ V.cell? ⟨by_, 1, none⟩ = some (.int .i64 y2) ∧ V.cell? ⟨by_, 2, none⟩ = some (.int .i64 y3) ∧ V.cell? ⟨by_, 3, none⟩ = some (.int .i64 y4) ∧ V.cell? ⟨by_, 4, none⟩ = some (.int .i64 y5) ∧ V.cell? ⟨bk, 0, none⟩ = some (.int .i64 a) ∧ V.cell? ⟨bk, 1, none⟩ = some (.int .i64 b) ∧ V.cell? ⟨bk, 2, none⟩ = some (.int .i64 c) ∧ V.cell? ⟨bk, 3, none⟩ = some (.int .i64 d) ∧ V.cell? ⟨bk, 4, none⟩ = some (.int .i64 e) ∧ (convert 22 9 (.slice (some ⟨g3, j, none⟩) 6 (c3 - j))).run Try.prog V = .ok (.string ⟨E.toArray⟩) V) (wc.drew.alloc (.cells #[] 5)) := ⟨hb1, (keys_held QY.out QK.out hb1).1, (keys_held QY.out QK.out hb1).2.1, (keys_held QY.out QK.out hb1).2.2.1, (keys_held QY.out QK.out hb1).2.2.2.1, (keys_held QY.out QK.out hb1).2.2.2.2.1, (keys_held QY.out QK.out hb1).2.2.2.2.2.1, (keys_held QY.out QK.out hb1).2.2.2.2.2.2.1, (keys_held QY.out QK.out hb1).2.2.2.2.2.2.2.1, (keys_held QY.out QK.out hb1).2.2.2.2.2.2.2.2.1, (keys_held QY.out QK.out hb1).2.2.2.2.2.2.2.2.2, CF.out _ hb1⟩
          refine HK.out _ (wc.drew.alloc (.cells #[] 5)) (fun _ => hS1) ?_
          clear HK
          refine but_run (i := 8) (by kernel_rfl) rfl ((wanted_at rfl rfl rfl rfl).trans rfl) ?_
          simp only [List.getElem_toArray, List.getElem_cons_succ, List.getElem_cons_zero]
          intro K HK
          go_wp2_with fail
          refine (HPY2.out _ hb1).mono ?_
          rintro r V1 ⟨g7, c7, rfl, hb7, hc7⟩
          have cv7 := hc7 _ (Below.refl _ _)
          have hS2 : (fun V => Below wc.heap.size wc V ∧ V.cell? ⟨by_, 0, none⟩ = some (.int .i64 y1) ∧ V.cell? ⟨by_, 1, none⟩ = some (.int .i64 y2) ∧ V.cell? ⟨by_, 2, none⟩ = some (.int .i64 y3) ∧ V.cell? ⟨by_, 3, none⟩ = some (.int .i64 y4) ∧ V.cell? ⟨by_, 4, none⟩ = some (.int .i64 y5) ∧ V.cell? ⟨bk, 0, none⟩ = some (.int .i64 a) ∧ V.cell? ⟨bk, 1, none⟩ = some (.int .i64 b) ∧ V.cell? ⟨bk, 2, none⟩ = some (.int .i64 c) ∧ V.cell? ⟨bk, 3, none⟩ = some (.int .i64 d) ∧ V.cell? ⟨bk, 4, none⟩ = some (.int .i64 e) ∧ (convert 22 9 (.slice (some ⟨g3, j, none⟩) 6 (c3 - j))).run Try.prog V = .ok (.string ⟨E.toArray⟩) V) V1 := ⟨hb7, (keys_held QY.out QK.out hb7).1, (keys_held QY.out QK.out hb7).2.1, (keys_held QY.out QK.out hb7).2.2.1, (keys_held QY.out QK.out hb7).2.2.2.1, (keys_held QY.out QK.out hb7).2.2.2.2.1, (keys_held QY.out QK.out hb7).2.2.2.2.2.1, (keys_held QY.out QK.out hb7).2.2.2.2.2.2.1, (keys_held QY.out QK.out hb7).2.2.2.2.2.2.2.1, (keys_held QY.out QK.out hb7).2.2.2.2.2.2.2.2.1, (keys_held QY.out QK.out hb7).2.2.2.2.2.2.2.2.2, CF.out _ hb7⟩
          go_wp2_with fail
          refine HK.out _ V1 (fun _ => hS2) ?_
          clear HK hc7
          refine but_run (i := 9) (by kernel_rfl) rfl ((wanted_at rfl rfl rfl rfl).trans rfl) ?_
          simp only [List.getElem_toArray, List.getElem_cons_succ, List.getElem_cons_zero]
          intro K HK
          go_wp2_with fail
          refine HK.out _ V1 (fun _ => hS2) ?_
          clear HK
          refine but_take (f := 28) (i := 15) (v := ?v1t15) rfl (by kernel_rfl) (by kernel_rfl) (by kernel_rfl) (by kernel_rfl) (by kernel_rfl) (fun _ _ _ h => h) (Or.inl ⟨((wanted_at rfl rfl rfl rfl).trans rfl), ?hy1t15⟩) hS2 ?rest1t15
          case hy1t15 =>
            intro W hW
            obtain ⟨h0, h1, h2, h3, h4, h5, h6, h7, h8, h9, h10, h11⟩ := hW
            go_simp
            exact rfl
          simp only [List.getElem_toArray, List.getElem_cons_succ, List.getElem_cons_zero, Act.put, List.setIfInBounds_toArray, List.set_cons_zero, List.set_cons_succ]
          refine but_take (f := 28) (i := 16) (v := ?v1t16) rfl (by kernel_rfl) (by kernel_rfl) (by kernel_rfl) (by kernel_rfl) (by kernel_rfl) (fun _ _ _ h => h) (Or.inl ⟨((wanted_at rfl rfl rfl rfl).trans rfl), ?hy1t16⟩) hS2 ?rest1t16
          case hy1t16 =>
            intro W hW
            obtain ⟨h0, h1, h2, h3, h4, h5, h6, h7, h8, h9, h10, h11⟩ := hW
            go_simp
            exact rfl
          simp only [List.getElem_toArray, List.getElem_cons_succ, List.getElem_cons_zero, Act.put, List.setIfInBounds_toArray, List.set_cons_zero, List.set_cons_succ]
          refine but_take (f := 28) (i := 17) (v := ?v1t17) rfl (by kernel_rfl) (by kernel_rfl) (by kernel_rfl) (by kernel_rfl) (by kernel_rfl) (fun _ _ _ h => h) (Or.inl ⟨(by rfl), ?hy1t17⟩) hS2 ?rest1t17
          case hy1t17 =>
            intro W hW
            obtain ⟨h0, h1, h2, h3, h4, h5, h6, h7, h8, h9, h10, h11⟩ := hW
            go_simp
            exact rfl
          simp only [List.getElem_toArray, List.getElem_cons_succ, List.getElem_cons_zero, Act.put, List.setIfInBounds_toArray, List.set_cons_zero, List.set_cons_succ]
          refine but_take (f := 28) (i := 18) (v := ?v1t18) rfl (by kernel_rfl) (by kernel_rfl) (by kernel_rfl) (by kernel_rfl) (by kernel_rfl) (fun _ _ _ h => h) (Or.inl ⟨(by rfl), ?hy1t18⟩) hS2 ?rest1t18
          case hy1t18 =>
            intro W hW
            obtain ⟨h0, h1, h2, h3, h4, h5, h6, h7, h8, h9, h10, h11⟩ := hW
            go_simp
            exact rfl
          simp only [List.getElem_toArray, List.getElem_cons_succ, List.getElem_cons_zero, Act.put, List.setIfInBounds_toArray, List.set_cons_zero, List.set_cons_succ]
          refine but_take (f := 28) (i := 19) (v := ?v1t19) rfl (by kernel_rfl) (by kernel_rfl) (by kernel_rfl) (by kernel_rfl) (by kernel_rfl) (fun _ _ _ h => h) (Or.inl ⟨((wanted_at rfl rfl rfl rfl).trans rfl), ?hy1t19⟩) hS2 ?rest1t19
          case hy1t19 =>
            intro W hW
            obtain ⟨h0, h1, h2, h3, h4, h5, h6, h7, h8, h9, h10, h11⟩ := hW
            go_simp
            exact rfl
          simp only [List.getElem_toArray, List.getElem_cons_succ, List.getElem_cons_zero, Act.put, List.setIfInBounds_toArray, List.set_cons_zero, List.set_cons_succ]
          refine but_take (f := 28) (i := 20) (v := ?v1t20) rfl (by kernel_rfl) (by kernel_rfl) (by kernel_rfl) (by kernel_rfl) (by kernel_rfl) (fun _ _ _ h => h) (Or.inl ⟨((wanted_at rfl rfl rfl rfl).trans rfl), ?hy1t20⟩) hS2 ?rest1t20
          case hy1t20 =>
            intro W hW
            obtain ⟨h0, h1, h2, h3, h4, h5, h6, h7, h8, h9, h10, h11⟩ := hW
            go_simp
            exact rfl
          simp only [List.getElem_toArray, List.getElem_cons_succ, List.getElem_cons_zero, Act.put, List.setIfInBounds_toArray, List.set_cons_zero, List.set_cons_succ]
          refine but_take (f := 28) (i := 21) (v := ?v1t21) rfl (by kernel_rfl) (by kernel_rfl) (by kernel_rfl) (by kernel_rfl) (by kernel_rfl) (fun _ _ _ h => h) (Or.inl ⟨(by rfl), ?hy1t21⟩) hS2 ?rest1t21
          case hy1t21 =>
            intro W hW
            obtain ⟨h0, h1, h2, h3, h4, h5, h6, h7, h8, h9, h10, h11⟩ := hW
            go_simp
            exact rfl
          simp only [List.getElem_toArray, List.getElem_cons_succ, List.getElem_cons_zero, Act.put, List.setIfInBounds_toArray, List.set_cons_zero, List.set_cons_succ]
          refine but_take (f := 28) (i := 22) (v := ?v1t22) rfl (by kernel_rfl) (by kernel_rfl) (by kernel_rfl) (by kernel_rfl) (by kernel_rfl) (fun _ _ _ h => h) (Or.inl ⟨(by rfl), ?hy1t22⟩) hS2 ?rest1t22
          case hy1t22 =>
            intro W hW
            obtain ⟨h0, h1, h2, h3, h4, h5, h6, h7, h8, h9, h10, h11⟩ := hW
            go_simp
            exact rfl
          simp only [List.getElem_toArray, List.getElem_cons_succ, List.getElem_cons_zero, Act.put, List.setIfInBounds_toArray, List.set_cons_zero, List.set_cons_succ]
          refine but_take (f := 28) (i := 23) (v := ?v1t23) rfl (by kernel_rfl) (by kernel_rfl) (by kernel_rfl) (by kernel_rfl) (by kernel_rfl) (fun _ _ _ h => h) (Or.inl ⟨((wanted_at rfl rfl rfl rfl).trans rfl), ?hy1t23⟩) hS2 ?rest1t23
          case hy1t23 =>
            intro W hW
            obtain ⟨h0, h1, h2, h3, h4, h5, h6, h7, h8, h9, h10, h11⟩ := hW
            go_simp
            exact rfl
          simp only [List.getElem_toArray, List.getElem_cons_succ, List.getElem_cons_zero, Act.put, List.setIfInBounds_toArray, List.set_cons_zero, List.set_cons_succ]
          refine but_take (f := 28) (i := 25) (v := ?v1t25) rfl (by kernel_rfl) (by kernel_rfl) (by kernel_rfl) (by kernel_rfl) (by kernel_rfl) (fun _ _ _ h => h) (Or.inl ⟨((wanted_at rfl rfl rfl rfl).trans rfl), ?hy1t25⟩) hS2 ?rest1t25
          case hy1t25 =>
            intro W hW
            obtain ⟨h0, h1, h2, h3, h4, h5, h6, h7, h8, h9, h10, h11⟩ := hW
            go_simp
            exact rfl
          simp only [List.getElem_toArray, List.getElem_cons_succ, List.getElem_cons_zero, Act.put, List.setIfInBounds_toArray, List.set_cons_zero, List.set_cons_succ]
          refine but_run (i := 24) (by kernel_rfl) rfl ((wanted_at rfl rfl rfl rfl).trans rfl) ?_
          simp only [List.getElem_toArray, List.getElem_cons_succ, List.getElem_cons_zero]
          intro K HK
          go_wp2_with fail
          refine (HKI2.out _ hS2.1).mono ?_
          rintro r V2 ⟨rfl, hb8⟩
          have hS8 : (fun V => Below wc.heap.size wc V ∧ V.cell? ⟨by_, 0, none⟩ = some (.int .i64 y1) ∧ V.cell? ⟨by_, 1, none⟩ = some (.int .i64 y2) ∧ V.cell? ⟨by_, 2, none⟩ = some (.int .i64 y3) ∧ V.cell? ⟨by_, 3, none⟩ = some (.int .i64 y4) ∧ V.cell? ⟨by_, 4, none⟩ = some (.int .i64 y5) ∧ V.cell? ⟨bk, 0, none⟩ = some (.int .i64 a) ∧ V.cell? ⟨bk, 1, none⟩ = some (.int .i64 b) ∧ V.cell? ⟨bk, 2, none⟩ = some (.int .i64 c) ∧ V.cell? ⟨bk, 3, none⟩ = some (.int .i64 d) ∧ V.cell? ⟨bk, 4, none⟩ = some (.int .i64 e) ∧ (convert 22 9 (.slice (some ⟨g3, j, none⟩) 6 (c3 - j))).run Try.prog V = .ok (.string ⟨E.toArray⟩) V) V2 := ⟨hb8, (keys_held QY.out QK.out hb8).1, (keys_held QY.out QK.out hb8).2.1, (keys_held QY.out QK.out hb8).2.2.1, (keys_held QY.out QK.out hb8).2.2.2.1, (keys_held QY.out QK.out hb8).2.2.2.2.1, (keys_held QY.out QK.out hb8).2.2.2.2.2.1, (keys_held QY.out QK.out hb8).2.2.2.2.2.2.1, (keys_held QY.out QK.out hb8).2.2.2.2.2.2.2.1, (keys_held QY.out QK.out hb8).2.2.2.2.2.2.2.2.1, (keys_held QY.out QK.out hb8).2.2.2.2.2.2.2.2.2, CF.out _ hb8⟩
          go_wp2_with fail
          refine HK.out _ V2 (fun _ => hS8) ?_
          clear HK
          refine but_run (i := 26) (by kernel_rfl) rfl ((wanted_at rfl rfl rfl rfl).trans rfl) ?_
          simp only [List.getElem_toArray, List.getElem_cons_succ, List.getElem_cons_zero]
          intro K HK
          go_wp2_with fail
          refine (HKS2.out _ hb8).mono ?_
          rintro r V3 ⟨rfl, hb9⟩
          have hS9 : (fun V => Below wc.heap.size wc V ∧ V.cell? ⟨by_, 0, none⟩ = some (.int .i64 y1) ∧ V.cell? ⟨by_, 1, none⟩ = some (.int .i64 y2) ∧ V.cell? ⟨by_, 2, none⟩ = some (.int .i64 y3) ∧ V.cell? ⟨by_, 3, none⟩ = some (.int .i64 y4) ∧ V.cell? ⟨by_, 4, none⟩ = some (.int .i64 y5) ∧ V.cell? ⟨bk, 0, none⟩ = some (.int .i64 a) ∧ V.cell? ⟨bk, 1, none⟩ = some (.int .i64 b) ∧ V.cell? ⟨bk, 2, none⟩ = some (.int .i64 c) ∧ V.cell? ⟨bk, 3, none⟩ = some (.int .i64 d) ∧ V.cell? ⟨bk, 4, none⟩ = some (.int .i64 e) ∧ (convert 22 9 (.slice (some ⟨g3, j, none⟩) 6 (c3 - j))).run Try.prog V = .ok (.string ⟨E.toArray⟩) V) V3 := ⟨hb9, (keys_held QY.out QK.out hb9).1, (keys_held QY.out QK.out hb9).2.1, (keys_held QY.out QK.out hb9).2.2.1, (keys_held QY.out QK.out hb9).2.2.2.1, (keys_held QY.out QK.out hb9).2.2.2.2.1, (keys_held QY.out QK.out hb9).2.2.2.2.2.1, (keys_held QY.out QK.out hb9).2.2.2.2.2.2.1, (keys_held QY.out QK.out hb9).2.2.2.2.2.2.2.1, (keys_held QY.out QK.out hb9).2.2.2.2.2.2.2.2.1, (keys_held QY.out QK.out hb9).2.2.2.2.2.2.2.2.2, CF.out _ hb9⟩
          go_wp2_with fail
          refine HK.out _ V3 (fun _ => hS9) ?_
          clear HK
          refine but_take (f := 28) (i := 27) (v := ?v1t27) rfl (by kernel_rfl) (by kernel_rfl) (by kernel_rfl) (by kernel_rfl) (by kernel_rfl) (fun _ _ _ h => h) (Or.inl ⟨((wanted_at rfl rfl rfl rfl).trans rfl), ?hy1t27⟩) hS9 ?rest1t27
          case hy1t27 =>
            intro W hW
            obtain ⟨h0, h1, h2, h3, h4, h5, h6, h7, h8, h9, h10, h11⟩ := hW
            go_simp
            exact rfl
          simp only [List.getElem_toArray, List.getElem_cons_succ, List.getElem_cons_zero, Act.put, List.setIfInBounds_toArray, List.set_cons_zero, List.set_cons_succ]
          refine but_run (i := 28) (by kernel_rfl) rfl (by rfl) ?_
          simp only [List.getElem_toArray, List.getElem_cons_succ, List.getElem_cons_zero]
          intro K HK
          go_wp2_with fail
          refine HK.out _ V3 (fun h => absurd rfl h) ?_
          clear HK
          refine but_done (by kernel_rfl) ?_
          go_wp2_with fail
          go_meet
          exact ⟨rfl, Lib.hid hb9⟩
        · clear hget HY
          have hS0 : (fun V => Below wc.heap.size wc V ∧ V.cell? ⟨by_, 0, none⟩ = some (.int .i64 y1) ∧ V.cell? ⟨by_, 1, none⟩ = some (.int .i64 y2) ∧ V.cell? ⟨by_, 2, none⟩ = some (.int .i64 y3) ∧ V.cell? ⟨by_, 3, none⟩ = some (.int .i64 y4) ∧ V.cell? ⟨by_, 4, none⟩ = some (.int .i64 y5) ∧ V.cell? ⟨bk, 0, none⟩ = some (.int .i64 a) ∧ V.cell? ⟨bk, 1, none⟩ = some (.int .i64 b) ∧ V.cell? ⟨bk, 2, none⟩ = some (.int .i64 c) ∧ V.cell? ⟨bk, 3, none⟩ = some (.int .i64 d) ∧ V.cell? ⟨bk, 4, none⟩ = some (.int .i64 e)) wc.drew := keys_held2 QY.out QK.out hdw
          refine but_begin (f := 28) (S := (fun V => Below wc.heap.size wc V ∧ V.cell? ⟨by_, 0, none⟩ = some (.int .i64 y1) ∧ V.cell? ⟨by_, 1, none⟩ = some (.int .i64 y2) ∧ V.cell? ⟨by_, 2, none⟩ = some (.int .i64 y3) ∧ V.cell? ⟨by_, 3, none⟩ = some (.int .i64 y4) ∧ V.cell? ⟨by_, 4, none⟩ = some (.int .i64 y5) ∧ V.cell? ⟨bk, 0, none⟩ = some (.int .i64 a) ∧ V.cell? ⟨bk, 1, none⟩ = some (.int .i64 b) ∧ V.cell? ⟨bk, 2, none⟩ = some (.int .i64 c) ∧ V.cell? ⟨bk, 3, none⟩ = some (.int .i64 d) ∧ V.cell? ⟨bk, 4, none⟩ = some (.int .i64 e))) (by kernel_rfl) ?_
          refine but_take (f := 28) (i := 0) (v := ?v1f0) rfl (by kernel_rfl) (by kernel_rfl) (by kernel_rfl) (by kernel_rfl) (by kernel_rfl) (fun _ _ _ h => h) (Or.inl ⟨(by rfl), ?hy1f0⟩) hS0 ?rest1f0
          case hy1f0 =>
            intro W hW
            obtain ⟨h0, h1, h2, h3, h4, h5, h6, h7, h8, h9, h10⟩ := hW
            go_simp
            exact rfl
          simp only [List.getElem_toArray, List.getElem_cons_succ, List.getElem_cons_zero, Act.put, List.setIfInBounds_toArray, List.set_cons_zero, List.set_cons_succ]
          refine but_take (f := 28) (i := 1) (v := ?v1f1) rfl (by kernel_rfl) (by kernel_rfl) (by kernel_rfl) (by kernel_rfl) (by kernel_rfl) (fun _ _ _ h => h) (Or.inl ⟨(by rfl), ?hy1f1⟩) hS0 ?rest1f1
          case hy1f1 =>
            intro W hW
            obtain ⟨h0, h1, h2, h3, h4, h5, h6, h7, h8, h9, h10⟩ := hW
            go_simp
            exact rfl
          simp only [List.getElem_toArray, List.getElem_cons_succ, List.getElem_cons_zero, Act.put, List.setIfInBounds_toArray, List.set_cons_zero, List.set_cons_succ]
          refine but_take (f := 28) (i := 2) (v := ?v1f2) rfl (by kernel_rfl) (by kernel_rfl) (by kernel_rfl) (by kernel_rfl) (by kernel_rfl) (fun _ _ _ h => h) (Or.inl ⟨(by rfl), ?hy1f2⟩) hS0 ?rest1f2
          case hy1f2 =>
            intro W hW
            obtain ⟨h0, h1, h2, h3, h4, h5, h6, h7, h8, h9, h10⟩ := hW
            go_simp
            exact rfl
          simp only [List.getElem_toArray, List.getElem_cons_succ, List.getElem_cons_zero, Act.put, List.setIfInBounds_toArray, List.set_cons_zero, List.set_cons_succ]
          refine but_take (f := 28) (i := 3) (v := ?v1f3) rfl (by kernel_rfl) (by kernel_rfl) (by kernel_rfl) (by kernel_rfl) (by kernel_rfl) (fun _ _ _ h => h) (Or.inl ⟨(by rfl), ?hy1f3⟩) hS0 ?rest1f3
          case hy1f3 =>
            intro W hW
            obtain ⟨h0, h1, h2, h3, h4, h5, h6, h7, h8, h9, h10⟩ := hW
            go_simp
            exact rfl
          simp only [List.getElem_toArray, List.getElem_cons_succ, List.getElem_cons_zero, Act.put, List.setIfInBounds_toArray, List.set_cons_zero, List.set_cons_succ]
          refine but_take (f := 28) (i := 4) (v := ?v1f4) rfl (by kernel_rfl) (by kernel_rfl) (by kernel_rfl) (by kernel_rfl) (by kernel_rfl) (fun _ _ _ h => h) (Or.inl ⟨((wanted_at rfl rfl rfl rfl).trans rfl), ?hy1f4⟩) hS0 ?rest1f4
          case hy1f4 =>
            intro W hW
            obtain ⟨h0, h1, h2, h3, h4, h5, h6, h7, h8, h9, h10⟩ := hW
            go_simp
            exact rfl
          simp only [List.getElem_toArray, List.getElem_cons_succ, List.getElem_cons_zero, Act.put, List.setIfInBounds_toArray, List.set_cons_zero, List.set_cons_succ]
          refine but_take (f := 28) (i := 5) (v := ?v1f5) rfl (by kernel_rfl) (by kernel_rfl) (by kernel_rfl) (by kernel_rfl) (by kernel_rfl) (fun _ _ _ h => h) (Or.inl ⟨((wanted_at rfl rfl rfl rfl).trans rfl), ?hy1f5⟩) hS0 ?rest1f5
          case hy1f5 =>
            intro W hW
            obtain ⟨h0, h1, h2, h3, h4, h5, h6, h7, h8, h9, h10⟩ := hW
            go_simp
            exact rfl
          simp only [List.getElem_toArray, List.getElem_cons_succ, List.getElem_cons_zero, Act.put, List.setIfInBounds_toArray, List.set_cons_zero, List.set_cons_succ]
          refine but_take (f := 28) (i := 6) (v := undef) rfl (by kernel_rfl) (by kernel_rfl) (by kernel_rfl) (by kernel_rfl) (by kernel_rfl) (fun _ _ _ h => h) (Or.inr ⟨((wanted_at rfl rfl rfl rfl).trans rfl), rfl⟩) hS0 ?_
          simp only [List.getElem_toArray, List.getElem_cons_succ, List.getElem_cons_zero, Act.put, List.setIfInBounds_toArray, List.set_cons_zero, List.set_cons_succ]
          refine but_take (f := 28) (i := 7) (v := undef) rfl (by kernel_rfl) (by kernel_rfl) (by kernel_rfl) (by kernel_rfl) (by kernel_rfl) (fun _ _ _ h => h) (Or.inr ⟨((wanted_at rfl rfl rfl rfl).trans rfl), rfl⟩) hS0 ?_
          simp only [List.getElem_toArray, List.getElem_cons_succ, List.getElem_cons_zero, Act.put, List.setIfInBounds_toArray, List.set_cons_zero, List.set_cons_succ]
          refine but_take (f := 28) (i := 8) (v := undef) rfl (by kernel_rfl) (by kernel_rfl) (by kernel_rfl) (by kernel_rfl) (by kernel_rfl) (fun _ _ _ h => h) (Or.inr ⟨((wanted_at rfl rfl rfl rfl).trans rfl), rfl⟩) hS0 ?_
          simp only [List.getElem_toArray, List.getElem_cons_succ, List.getElem_cons_zero, Act.put, List.setIfInBounds_toArray, List.set_cons_zero, List.set_cons_succ]
          refine but_take (f := 28) (i := 9) (v := undef) rfl (by kernel_rfl) (by kernel_rfl) (by kernel_rfl) (by kernel_rfl) (by kernel_rfl) (fun _ _ _ h => h) (Or.inr ⟨((wanted_at rfl rfl rfl rfl).trans rfl), rfl⟩) hS0 ?_
          simp only [List.getElem_toArray, List.getElem_cons_succ, List.getElem_cons_zero, Act.put, List.setIfInBounds_toArray, List.set_cons_zero, List.set_cons_succ]
          refine but_take (f := 28) (i := 10) (v := undef) rfl (by kernel_rfl) (by kernel_rfl) (by kernel_rfl) (by kernel_rfl) (by kernel_rfl) (fun _ _ _ h => h) (Or.inr ⟨((wanted_at rfl rfl rfl rfl).trans rfl), rfl⟩) hS0 ?_
          simp only [List.getElem_toArray, List.getElem_cons_succ, List.getElem_cons_zero, Act.put, List.setIfInBounds_toArray, List.set_cons_zero, List.set_cons_succ]
          refine but_take (f := 28) (i := 11) (v := undef) rfl (by kernel_rfl) (by kernel_rfl) (by kernel_rfl) (by kernel_rfl) (by kernel_rfl) (fun _ _ _ h => h) (Or.inr ⟨((wanted_at rfl rfl rfl rfl).trans rfl), rfl⟩) hS0 ?_
          simp only [List.getElem_toArray, List.getElem_cons_succ, List.getElem_cons_zero, Act.put, List.setIfInBounds_toArray, List.set_cons_zero, List.set_cons_succ]
          refine but_take (f := 28) (i := 12) (v := undef) rfl (by kernel_rfl) (by kernel_rfl) (by kernel_rfl) (by kernel_rfl) (by kernel_rfl) (fun _ _ _ h => h) (Or.inr ⟨((wanted_at rfl rfl rfl rfl).trans rfl), rfl⟩) hS0 ?_
          simp only [List.getElem_toArray, List.getElem_cons_succ, List.getElem_cons_zero, Act.put, List.setIfInBounds_toArray, List.set_cons_zero, List.set_cons_succ]
          refine but_take (f := 28) (i := 13) (v := undef) rfl (by kernel_rfl) (by kernel_rfl) (by kernel_rfl) (by kernel_rfl) (by kernel_rfl) (fun _ _ _ h => h) (Or.inr ⟨((wanted_at rfl rfl rfl rfl).trans rfl), rfl⟩) hS0 ?_
          simp only [List.getElem_toArray, List.getElem_cons_succ, List.getElem_cons_zero, Act.put, List.setIfInBounds_toArray, List.set_cons_zero, List.set_cons_succ]
          refine but_take (f := 28) (i := 14) (v := undef) rfl (by kernel_rfl) (by kernel_rfl) (by kernel_rfl) (by kernel_rfl) (by kernel_rfl) (fun _ _ _ h => h) (Or.inr ⟨((wanted_at rfl rfl rfl rfl).trans rfl), rfl⟩) hS0 ?_
          simp only [List.getElem_toArray, List.getElem_cons_succ, List.getElem_cons_zero, Act.put, List.setIfInBounds_toArray, List.set_cons_zero, List.set_cons_succ]
          refine but_take (f := 28) (i := 15) (v := undef) rfl (by kernel_rfl) (by kernel_rfl) (by kernel_rfl) (by kernel_rfl) (by kernel_rfl) (fun _ _ _ h => h) (Or.inr ⟨((wanted_at rfl rfl rfl rfl).trans rfl), rfl⟩) hS0 ?_
          simp only [List.getElem_toArray, List.getElem_cons_succ, List.getElem_cons_zero, Act.put, List.setIfInBounds_toArray, List.set_cons_zero, List.set_cons_succ]
          refine but_take (f := 28) (i := 16) (v := ?v1f16) rfl (by kernel_rfl) (by kernel_rfl) (by kernel_rfl) (by kernel_rfl) (by kernel_rfl) (fun _ _ _ h => h) (Or.inl ⟨((wanted_at rfl rfl rfl rfl).trans rfl), ?hy1f16⟩) hS0 ?rest1f16
          case hy1f16 =>
            intro W hW
            obtain ⟨h0, h1, h2, h3, h4, h5, h6, h7, h8, h9, h10⟩ := hW
            go_simp
            exact rfl
          simp only [List.getElem_toArray, List.getElem_cons_succ, List.getElem_cons_zero, Act.put, List.setIfInBounds_toArray, List.set_cons_zero, List.set_cons_succ]
          refine but_take (f := 28) (i := 17) (v := ?v1f17) rfl (by kernel_rfl) (by kernel_rfl) (by kernel_rfl) (by kernel_rfl) (by kernel_rfl) (fun _ _ _ h => h) (Or.inl ⟨(by rfl), ?hy1f17⟩) hS0 ?rest1f17
          case hy1f17 =>
            intro W hW
            obtain ⟨h0, h1, h2, h3, h4, h5, h6, h7, h8, h9, h10⟩ := hW
            go_simp
            exact rfl
          simp only [List.getElem_toArray, List.getElem_cons_succ, List.getElem_cons_zero, Act.put, List.setIfInBounds_toArray, List.set_cons_zero, List.set_cons_succ]
          refine but_take (f := 28) (i := 18) (v := ?v1f18) rfl (by kernel_rfl) (by kernel_rfl) (by kernel_rfl) (by kernel_rfl) (by kernel_rfl) (fun _ _ _ h => h) (Or.inl ⟨(by rfl), ?hy1f18⟩) hS0 ?rest1f18
          case hy1f18 =>
            intro W hW
            obtain ⟨h0, h1, h2, h3, h4, h5, h6, h7, h8, h9, h10⟩ := hW
            go_simp
            exact rfl
          simp only [List.getElem_toArray, List.getElem_cons_succ, List.getElem_cons_zero, Act.put, List.setIfInBounds_toArray, List.set_cons_zero, List.set_cons_succ]
          refine but_take (f := 28) (i := 19) (v := ?v1f19) rfl (by kernel_rfl) (by kernel_rfl) (by kernel_rfl) (by kernel_rfl) (by kernel_rfl) (fun _ _ _ h => h) (Or.inl ⟨((wanted_at rfl rfl rfl rfl).trans rfl), ?hy1f19⟩) hS0 ?rest1f19
          case hy1f19 =>
            intro W hW
            obtain ⟨h0, h1, h2, h3, h4, h5, h6, h7, h8, h9, h10⟩ := hW
            go_simp
            exact rfl
          simp only [List.getElem_toArray, List.getElem_cons_succ, List.getElem_cons_zero, Act.put, List.setIfInBounds_toArray, List.set_cons_zero, List.set_cons_succ]
          refine but_take (f := 28) (i := 20) (v := ?v1f20) rfl (by kernel_rfl) (by kernel_rfl) (by kernel_rfl) (by kernel_rfl) (by kernel_rfl) (fun _ _ _ h => h) (Or.inl ⟨((wanted_at rfl rfl rfl rfl).trans rfl), ?hy1f20⟩) hS0 ?rest1f20
          case hy1f20 =>
            intro W hW
            obtain ⟨h0, h1, h2, h3, h4, h5, h6, h7, h8, h9, h10⟩ := hW
            go_simp
            exact rfl
          simp only [List.getElem_toArray, List.getElem_cons_succ, List.getElem_cons_zero, Act.put, List.setIfInBounds_toArray, List.set_cons_zero, List.set_cons_succ]
          refine but_take (f := 28) (i := 21) (v := ?v1f21) rfl (by kernel_rfl) (by kernel_rfl) (by kernel_rfl) (by kernel_rfl) (by kernel_rfl) (fun _ _ _ h => h) (Or.inl ⟨(by rfl), ?hy1f21⟩) hS0 ?rest1f21
          case hy1f21 =>
            intro W hW
            obtain ⟨h0, h1, h2, h3, h4, h5, h6, h7, h8, h9, h10⟩ := hW
            go_simp
            exact rfl
          simp only [List.getElem_toArray, List.getElem_cons_succ, List.getElem_cons_zero, Act.put, List.setIfInBounds_toArray, List.set_cons_zero, List.set_cons_succ]
          refine but_take (f := 28) (i := 22) (v := ?v1f22) rfl (by kernel_rfl) (by kernel_rfl) (by kernel_rfl) (by kernel_rfl) (by kernel_rfl) (fun _ _ _ h => h) (Or.inl ⟨(by rfl), ?hy1f22⟩) hS0 ?rest1f22
          case hy1f22 =>
            intro W hW
            obtain ⟨h0, h1, h2, h3, h4, h5, h6, h7, h8, h9, h10⟩ := hW
            go_simp
            exact rfl
          simp only [List.getElem_toArray, List.getElem_cons_succ, List.getElem_cons_zero, Act.put, List.setIfInBounds_toArray, List.set_cons_zero, List.set_cons_succ]
          refine but_take (f := 28) (i := 23) (v := ?v1f23) rfl (by kernel_rfl) (by kernel_rfl) (by kernel_rfl) (by kernel_rfl) (by kernel_rfl) (fun _ _ _ h => h) (Or.inl ⟨((wanted_at rfl rfl rfl rfl).trans rfl), ?hy1f23⟩) hS0 ?rest1f23
          case hy1f23 =>
            intro W hW
            obtain ⟨h0, h1, h2, h3, h4, h5, h6, h7, h8, h9, h10⟩ := hW
            go_simp
            exact rfl
          simp only [List.getElem_toArray, List.getElem_cons_succ, List.getElem_cons_zero, Act.put, List.setIfInBounds_toArray, List.set_cons_zero, List.set_cons_succ]
          refine but_take (f := 28) (i := 25) (v := ?v1f25) rfl (by kernel_rfl) (by kernel_rfl) (by kernel_rfl) (by kernel_rfl) (by kernel_rfl) (fun _ _ _ h => h) (Or.inl ⟨((wanted_at rfl rfl rfl rfl).trans rfl), ?hy1f25⟩) hS0 ?rest1f25
          case hy1f25 =>
            intro W hW
            obtain ⟨h0, h1, h2, h3, h4, h5, h6, h7, h8, h9, h10⟩ := hW
            go_simp
            exact rfl
          simp only [List.getElem_toArray, List.getElem_cons_succ, List.getElem_cons_zero, Act.put, List.setIfInBounds_toArray, List.set_cons_zero, List.set_cons_succ]
          refine but_run (i := 24) (by kernel_rfl) rfl ((wanted_at rfl rfl rfl rfl).trans rfl) ?_
          simp only [List.getElem_toArray, List.getElem_cons_succ, List.getElem_cons_zero]
          intro K HK
          go_wp2_with fail
          refine (HKI2.out _ hS0.1).mono ?_
          rintro r V2 ⟨rfl, hb8⟩
          have hS8 : (fun V => Below wc.heap.size wc V ∧ V.cell? ⟨by_, 0, none⟩ = some (.int .i64 y1) ∧ V.cell? ⟨by_, 1, none⟩ = some (.int .i64 y2) ∧ V.cell? ⟨by_, 2, none⟩ = some (.int .i64 y3) ∧ V.cell? ⟨by_, 3, none⟩ = some (.int .i64 y4) ∧ V.cell? ⟨by_, 4, none⟩ = some (.int .i64 y5) ∧ V.cell? ⟨bk, 0, none⟩ = some (.int .i64 a) ∧ V.cell? ⟨bk, 1, none⟩ = some (.int .i64 b) ∧ V.cell? ⟨bk, 2, none⟩ = some (.int .i64 c) ∧ V.cell? ⟨bk, 3, none⟩ = some (.int .i64 d) ∧ V.cell? ⟨bk, 4, none⟩ = some (.int .i64 e)) V2 := keys_held2 QY.out QK.out hb8
          go_wp2_with fail
          refine HK.out _ V2 (fun _ => hS8) ?_
          clear HK
          refine but_run (i := 26) (by kernel_rfl) rfl ((wanted_at rfl rfl rfl rfl).trans rfl) ?_
          simp only [List.getElem_toArray, List.getElem_cons_succ, List.getElem_cons_zero]
          intro K HK
          go_wp2_with fail
          refine (HKS2.out _ hb8).mono ?_
          rintro r V3 ⟨rfl, hb9⟩
          have hS9 : (fun V => Below wc.heap.size wc V ∧ V.cell? ⟨by_, 0, none⟩ = some (.int .i64 y1) ∧ V.cell? ⟨by_, 1, none⟩ = some (.int .i64 y2) ∧ V.cell? ⟨by_, 2, none⟩ = some (.int .i64 y3) ∧ V.cell? ⟨by_, 3, none⟩ = some (.int .i64 y4) ∧ V.cell? ⟨by_, 4, none⟩ = some (.int .i64 y5) ∧ V.cell? ⟨bk, 0, none⟩ = some (.int .i64 a) ∧ V.cell? ⟨bk, 1, none⟩ = some (.int .i64 b) ∧ V.cell? ⟨bk, 2, none⟩ = some (.int .i64 c) ∧ V.cell? ⟨bk, 3, none⟩ = some (.int .i64 d) ∧ V.cell? ⟨bk, 4, none⟩ = some (.int .i64 e)) V3 := keys_held2 QY.out QK.out hb9
          go_wp2_with fail
          refine HK.out _ V3 (fun _ => hS9) ?_
          clear HK
          refine but_take (f := 28) (i := 27) (v := ?v1f27) rfl (by kernel_rfl) (by kernel_rfl) (by kernel_rfl) (by kernel_rfl) (by kernel_rfl) (fun _ _ _ h => h) (Or.inl ⟨((wanted_at rfl rfl rfl rfl).trans rfl), ?hy1f27⟩) hS9 ?rest1f27
          case hy1f27 =>
            intro W hW
            obtain ⟨h0, h1, h2, h3, h4, h5, h6, h7, h8, h9, h10⟩ := hW
            go_simp
            exact rfl
          simp only [List.getElem_toArray, List.getElem_cons_succ, List.getElem_cons_zero, Act.put, List.setIfInBounds_toArray, List.set_cons_zero, List.set_cons_succ]
          refine but_run (i := 28) (by kernel_rfl) rfl (by rfl) ?_
          simp only [List.getElem_toArray, List.getElem_cons_succ, List.getElem_cons_zero]
          intro K HK
          go_wp2_with fail
          refine HK.out _ V3 (fun h => absurd rfl h) ?_
          clear HK
          refine but_done (by kernel_rfl) ?_
          go_wp2_with fail
          go_meet
          exact ⟨rfl, Lib.hid hb9⟩
      case rest =>
        obtain ⟨rfl, HX⟩ := hcut
        rename_i wd
        replace QK := Lib.hid (box_on QK.out HX.out)
        replace OB := Lib.hid (OB.out.on HX.out)
        replace OP := Lib.hid (OP.out.on HX.out)
        replace BB := Lib.hid (bstep BB.out HX.out)
        clear HX QY OC HY HKI2 HKS2 hdw HKS
        obtain ⟨p0, p1, p2, p3, p4, p5⟩ := box5 QK.out
        go_wp2_with fail
        refine (HKI.out _).mono ?_
        rintro r we ⟨rfl, be⟩
        replace QK := Lib.hid (box_on QK.out be)
        replace OB := Lib.hid (OB.out.on be)
        replace OP := Lib.hid (OP.out.on be)
        replace BB := Lib.hid (bstep BB.out be)
        clear p0 p1 p2 p3 p4 p5 be
        cases kb
        · have hPb : P = bl := by rw [HPE.out]; unfold encK; rw [hKB]; simp
          subst hPb
          have k1 := conv_rd OP.out.all hc2
          have k2 := conv_rd OB.out.all hc1
          go_wp2
          go_ret
          exact ⟨rfl, BB.out⟩
        · obtain ⟨hg, hl6⟩ := getK_put hKB HPE.out
          have HG : Hid (Calls Try.prog 40 #[.slice (some ⟨g2, 0, none⟩) P.length c2, .int .i64 (bl.length : Int)] we fun r V' => r = .returned (.tuple #[.agg #[.int .i64 a, .int .i64 b, .int .i64 c, .int .i64 d, .int .i64 e], .int .i64 ((bl.length : Int) + 6), .bool true]) ∧ Below we.heap.size we V') := Lib.hid (by
            have h := implGetKey_any (some ⟨g2, 0, none⟩) c2 P (bl.length : Nat) we OP.out.all (by omega)
            rw [hg] at h
            exact h)
          have tl : (((bl.length : Int) + 6) == (P.length : Int)) = true := by rw [hl6]; simp
          clear hg hl6
          go_wp2_with fail
          refine HG.out.mono ?_
          rintro r wf ⟨rfl, bf⟩
          have qk := box_on QK.out bf
          obtain ⟨p0, p1, p2, p3, p4, p5⟩ := box5 qk
          have hlt : bk < wf.heap.size := (Array.getElem?_eq_some_iff.1 qk).1
          have BF := Lib.hid (bstep (bstep BB.out bf) (bal1 wf (.cells #[.int .i64 a, .int .i64 b, .int .i64 c, .int .i64 d, .int .i64 e] 45)))
          clear bf qk HG
          go_wp2
          go_ret
          exact ⟨rfl, BF.out⟩
    · go_wp2_with fail
      refine (HL2.out _).mono ?_
      rintro r x2 ⟨rfl, f2⟩
      have X2 := Lib.hid (bstep X1.out f2)
      clear p0 p1 p2 p3 p4 p5 q0 q1 q2 q3 q4 q5 f2
      obtain ⟨p0, p1, p2, p3, p4, p5⟩ := box5 (box_on QU.out X2.out)
      obtain ⟨q0, q1, q2, q3, q4, q5⟩ := box5 (box_on QV.out X2.out)
      go_wp2_with fail
      refine (HL3.out _).mono ?_
      rintro r wc ⟨rfl, f3⟩
      have HW := Lib.hid (bstep X2.out f3)
      clear p0 p1 p2 p3 p4 p5 q0 q1 q2 q3 q4 q5 f3 X1 X2
      replace QK := Lib.hid (box_on QK.out HW.out)
      replace QY := Lib.hid (box_on QY.out HW.out)
      replace OB := Lib.hid (OB.out.on HW.out)
      replace OP := Lib.hid (OP.out.on HW.out)
      replace OC := Lib.hid (OC.out.on HW.out)
      replace BB := Lib.hid (bstep BB.out HW.out)
      clear HW QU QV HL1 HL2 HL3 TRI
      generalize hKB : keyOkB a b c d e = kb at *
      go_upto_region 16 with (fail)
      have HKI2 : Hid (∀ V, Below wc.heap.size wc V → Calls Try.prog 45 #[.agg #[.int .i64 a, .int .i64 b, .int .i64 c, .int .i64 d, .int .i64 e]] V fun r V' => r = .returned (.bool kb) ∧ Below wc.heap.size wc V') := Lib.hid (fun V hV => (HKI.out V).mono (fun r V' h => ⟨h.1, bstep hV h.2⟩))
      have HKS2 : Hid (∀ V, Below wc.heap.size wc V → Calls Try.prog 46 #[.agg #[.int .i64 a, .int .i64 b, .int .i64 c, .int .i64 d, .int .i64 e]] V fun r V' => r = .returned (.bool kb) ∧ Below wc.heap.size wc V') := Lib.hid (fun V hV => (HKS.out V).mono (fun r V' h => ⟨h.1, bstep hV h.2⟩))
      have hdw : Below wc.heap.size wc wc.drew := (Below.refl _ _).drew
      have tkk : (kb != kb) = false := by simp
      go_cut [97] (fun s97 wx => s97 = .bool false ∧ Hid (Below wc.heap.size wc wx))
      case first =>
        rcases HY.out with ⟨rfl, hget, rfl⟩ | ⟨rfl, hget⟩
        · obtain ⟨j, rfl, hj, hE6, hEc⟩ := put_getK hget
          have HPY := Lib.hid (implPutKey_any (some ⟨wc.heap.size, 0, none⟩) 0 [] y1 y2 y3 y4 y5)
          dsimp only at hE6 hEc
          unfold keyV at HPY
          rw [List.nil_append] at HPY
          generalize encK y1 y2 y3 y4 y5 = E at *
          have HPY2 : Hid (∀ V, Below wc.heap.size wc V → Calls Try.prog 38 #[.slice (some ⟨wc.heap.size, 0, none⟩) 0 0, .agg #[.int .i64 y1, .int .i64 y2, .int .i64 y3, .int .i64 y4, .int .i64 y5]] V (PutOut wc E V)) := Lib.hid (fun V hV => putOut hV (HPY.out V (.inl rfl) (by simp)))
          have CF : Hid (∀ U, Below wc.heap.size wc U → (convert 22 9 (.slice (some ⟨g3, j, none⟩) 6 (c3 - j))).run Try.prog U = .ok (.string ⟨E.toArray⟩) U) := Lib.hid (fun U hU => by
            refine conv_at U g3 j 6 (c3 - j) E hE6 (fun i hi => ?_)
            have h := ((OC.out.on hU).cellAt (j := j + i) (by omega)).1
            rw [h, hEc i (by omega) hi])
          have cvc0 := CF.out _ hdw
          have b1 : Below wc.heap.size wc (wc.alloc (.cells #[] 5)).drew := (bal1 wc (.cells #[] 5)).drew
          have cvc1 := CF.out _ b1
          have i1 : (0 : Int) ≤ (j : Int) := by omega
          have i2 : (j : Int) ≤ (j : Int) + 6 := by omega
          have i3 : (j : Int) + 6 ≤ (c3 : Int) := by omega
          have i4 : ((j : Int) + 6).toNat = j + 6 := by omega
          have i5 : j + 6 - j = 6 := by omega
          have i6 : ¬ (c3 = j) := by omega
          clear hget hE6 hEc HPY HY
          have hS0 : (fun V => Below wc.heap.size wc V ∧ V.cell? ⟨by_, 0, none⟩ = some (.int .i64 y1) ∧ V.cell? ⟨by_, 1, none⟩ = some (.int .i64 y2) ∧ V.cell? ⟨by_, 2, none⟩ = some (.int .i64 y3) ∧ V.cell? ⟨by_, 3, none⟩ = some (.int .i64 y4) ∧ V.cell? ⟨by_, 4, none⟩ = some (.int .i64 y5) ∧ V.cell? ⟨bk, 0, none⟩ = some (.int .i64 a) ∧ V.cell? ⟨bk, 1, none⟩ = some (.int .i64 b) ∧ V.cell? ⟨bk, 2, none⟩ = some (.int .i64 c) ∧ V.cell? ⟨bk, 3, none⟩ = some (.int .i64 d) ∧ V.cell? ⟨bk, 4, none⟩ = some (.int .i64 e) ∧ (convert 22 9 (.slice (some ⟨g3, j, none⟩) 6 (c3 - j))).run Try.prog V = .ok (.string ⟨E.toArray⟩) V) wc.drew := ⟨hdw, (keys_held QY.out QK.out hdw).1, (keys_held QY.out QK.out hdw).2.1, (keys_held QY.out QK.out hdw).2.2.1, (keys_held QY.out QK.out hdw).2.2.2.1, (keys_held QY.out QK.out hdw).2.2.2.2.1, (keys_held QY.out QK.out hdw).2.2.2.2.2.1, (keys_held QY.out QK.out hdw).2.2.2.2.2.2.1, (keys_held QY.out QK.out hdw).2.2.2.2.2.2.2.1, (keys_held QY.out QK.out hdw).2.2.2.2.2.2.2.2.1, (keys_held QY.out QK.out hdw).2.2.2.2.2.2.2.2.2, CF.out _ hdw⟩
          refine but_begin (f := 28) (S := (fun V => Below wc.heap.size wc V ∧ V.cell? ⟨by_, 0, none⟩ = some (.int .i64 y1) ∧ V.cell? ⟨by_, 1, none⟩ = some (.int .i64 y2) ∧ V.cell? ⟨by_, 2, none⟩ = some (.int .i64 y3) ∧ V.cell? ⟨by_, 3, none⟩ = some (.int .i64 y4) ∧ V.cell? ⟨by_, 4, none⟩ = some (.int .i64 y5) ∧ V.cell? ⟨bk, 0, none⟩ = some (.int .i64 a) ∧ V.cell? ⟨bk, 1, none⟩ = some (.int .i64 b) ∧ V.cell? ⟨bk, 2, none⟩ = some (.int .i64 c) ∧ V.cell? ⟨bk, 3, none⟩ = some (.int .i64 d) ∧ V.cell? ⟨bk, 4, none⟩ = some (.int .i64 e) ∧ (convert 22 9 (.slice (some ⟨g3, j, none⟩) 6 (c3 - j))).run Try.prog V = .ok (.string ⟨E.toArray⟩) V)) (by kernel_rfl) ?_
          refine but_take (f := 28) (i := 0) (v := ?v2t0) rfl (by kernel_rfl) (by kernel_rfl) (by kernel_rfl) (by kernel_rfl) (by kernel_rfl) (fun _ _ _ h => h) (Or.inl ⟨(by rfl), ?hy2t0⟩) hS0 ?rest2t0
          case hy2t0 =>
            intro W hW
            obtain ⟨h0, h1, h2, h3, h4, h5, h6, h7, h8, h9, h10, h11⟩ := hW
            go_simp
            exact rfl
          simp only [List.getElem_toArray, List.getElem_cons_succ, List.getElem_cons_zero, Act.put, List.setIfInBounds_toArray, List.set_cons_zero, List.set_cons_succ]
          refine but_take (f := 28) (i := 1) (v := ?v2t1) rfl (by kernel_rfl) (by kernel_rfl) (by kernel_rfl) (by kernel_rfl) (by kernel_rfl) (fun _ _ _ h => h) (Or.inl ⟨(by rfl), ?hy2t1⟩) hS0 ?rest2t1
          case hy2t1 =>
            intro W hW
            obtain ⟨h0, h1, h2, h3, h4, h5, h6, h7, h8, h9, h10, h11⟩ := hW
            go_simp
            exact rfl
          simp only [List.getElem_toArray, List.getElem_cons_succ, List.getElem_cons_zero, Act.put, List.setIfInBounds_toArray, List.set_cons_zero, List.set_cons_succ]
          refine but_take (f := 28) (i := 2) (v := ?v2t2) rfl (by kernel_rfl) (by kernel_rfl) (by kernel_rfl) (by kernel_rfl) (by kernel_rfl) (fun _ _ _ h => h) (Or.inl ⟨(by rfl), ?hy2t2⟩) hS0 ?rest2t2
          case hy2t2 =>
            intro W hW
            obtain ⟨h0, h1, h2, h3, h4, h5, h6, h7, h8, h9, h10, h11⟩ := hW
            go_simp
            exact rfl
          simp only [List.getElem_toArray, List.getElem_cons_succ, List.getElem_cons_zero, Act.put, List.setIfInBounds_toArray, List.set_cons_zero, List.set_cons_succ]
          refine but_take (f := 28) (i := 3) (v := ?v2t3) rfl (by kernel_rfl) (by kernel_rfl) (by kernel_rfl) (by kernel_rfl) (by kernel_rfl) (fun _ _ _ h => h) (Or.inl ⟨(by rfl), ?hy2t3⟩) hS0 ?rest2t3
          case hy2t3 =>
            intro W hW
            obtain ⟨h0, h1, h2, h3, h4, h5, h6, h7, h8, h9, h10, h11⟩ := hW
            go_simp
            exact rfl
          simp only [List.getElem_toArray, List.getElem_cons_succ, List.getElem_cons_zero, Act.put, List.setIfInBounds_toArray, List.set_cons_zero, List.set_cons_succ]
          refine but_take (f := 28) (i := 4) (v := ?v2t4) rfl (by kernel_rfl) (by kernel_rfl) (by kernel_rfl) (by kernel_rfl) (by kernel_rfl) (fun _ _ _ h => h) (Or.inl ⟨((wanted_at rfl rfl rfl rfl).trans rfl), ?hy2t4⟩) hS0 ?rest2t4
          case hy2t4 =>
            intro W hW
            obtain ⟨h0, h1, h2, h3, h4, h5, h6, h7, h8, h9, h10, h11⟩ := hW
            go_simp
            exact rfl
          simp only [List.getElem_toArray, List.getElem_cons_succ, List.getElem_cons_zero, Act.put, List.setIfInBounds_toArray, List.set_cons_zero, List.set_cons_succ]
          refine but_take (f := 28) (i := 5) (v := ?v2t5) rfl (by kernel_rfl) (by kernel_rfl) (by kernel_rfl) (by kernel_rfl) (by kernel_rfl) (fun _ _ _ h => h) (Or.inl ⟨((wanted_at rfl rfl rfl rfl).trans rfl), ?hy2t5⟩) hS0 ?rest2t5
          case hy2t5 =>
            intro W hW
            obtain ⟨h0, h1, h2, h3, h4, h5, h6, h7, h8, h9, h10, h11⟩ := hW
            go_simp
            exact rfl
          simp only [List.getElem_toArray, List.getElem_cons_succ, List.getElem_cons_zero, Act.put, List.setIfInBounds_toArray, List.set_cons_zero, List.set_cons_succ]
          refine but_take (f := 28) (i := 7) (v := ?v2t7) rfl (by kernel_rfl) (by kernel_rfl) (by kernel_rfl) (by kernel_rfl) (by kernel_rfl) (fun _ _ _ h => h) (Or.inl ⟨((wanted_at rfl rfl rfl rfl).trans rfl), ?hy2t7⟩) hS0 ?rest2t7
          case hy2t7 =>
            intro W hW
            obtain ⟨h0, h1, h2, h3, h4, h5, h6, h7, h8, h9, h10, h11⟩ := hW
            go_simp
            exact rfl
          simp only [List.getElem_toArray, List.getElem_cons_succ, List.getElem_cons_zero, Act.put, List.setIfInBounds_toArray, List.set_cons_zero, List.set_cons_succ]
          refine but_take (f := 28) (i := 10) (v := ?v2t10) rfl (by kernel_rfl) (by kernel_rfl) (by kernel_rfl) (by kernel_rfl) (by kernel_rfl) (fun _ _ _ h => h) (Or.inl ⟨((wanted_at rfl rfl rfl rfl).trans rfl), ?hy2t10⟩) hS0 ?rest2t10
          case hy2t10 =>
            intro W hW
            obtain ⟨h0, h1, h2, h3, h4, h5, h6, h7, h8, h9, h10, h11⟩ := hW
            go_simp
            exact rfl
          simp only [List.getElem_toArray, List.getElem_cons_succ, List.getElem_cons_zero, Act.put, List.setIfInBounds_toArray, List.set_cons_zero, List.set_cons_succ]
          refine but_take (f := 28) (i := 11) (v := ?v2t11) rfl (by kernel_rfl) (by kernel_rfl) (by kernel_rfl) (by kernel_rfl) (by kernel_rfl) (fun _ _ _ h => h) (Or.inl ⟨((wanted_at rfl rfl rfl rfl).trans rfl), ?hy2t11⟩) hS0 ?rest2t11
          case hy2t11 =>
            intro W hW
            obtain ⟨h0, h1, h2, h3, h4, h5, h6, h7, h8, h9, h10, h11⟩ := hW
            go_simp
            exact rfl
          simp only [List.getElem_toArray, List.getElem_cons_succ, List.getElem_cons_zero, Act.put, List.setIfInBounds_toArray, List.set_cons_zero, List.set_cons_succ]
          refine but_take (f := 28) (i := 12) (v := ?v2t12) rfl (by kernel_rfl) (by kernel_rfl) (by kernel_rfl) (by kernel_rfl) (by kernel_rfl) (fun _ _ _ h => h) (Or.inl ⟨((wanted_at rfl rfl rfl rfl).trans rfl), ?hy2t12⟩) hS0 ?rest2t12
          case hy2t12 =>
            intro W hW
            obtain ⟨h0, h1, h2, h3, h4, h5, h6, h7, h8, h9, h10, h11⟩ := hW
            go_simp
            exact rfl
          simp only [List.getElem_toArray, List.getElem_cons_succ, List.getElem_cons_zero, Act.put, List.setIfInBounds_toArray, List.set_cons_zero, List.set_cons_succ]
          refine but_take (f := 28) (i := 13) (v := ?v2t13) rfl (by kernel_rfl) (by kernel_rfl) (by kernel_rfl) (by kernel_rfl) (by kernel_rfl) (fun _ _ _ h => h) (Or.inl ⟨((wanted_at rfl rfl rfl rfl).trans rfl), ?hy2t13⟩) hS0 ?rest2t13
          case hy2t13 =>
            intro W hW
            obtain ⟨h0, h1, h2, h3, h4, h5, h6, h7, h8, h9, h10, h11⟩ := hW
            go_simp
            exact rfl
          simp only [List.getElem_toArray, List.getElem_cons_succ, List.getElem_cons_zero, Act.put, List.setIfInBounds_toArray, List.set_cons_zero, List.set_cons_succ]
          refine but_take (f := 28) (i := 14) (v := ?v2t14) rfl (by kernel_rfl) (by kernel_rfl) (by kernel_rfl) (by kernel_rfl) (by kernel_rfl) (fun _ _ _ h => h) (Or.inl ⟨((wanted_at rfl rfl rfl rfl).trans rfl), ?hy2t14⟩) hS0 ?rest2t14
          case hy2t14 =>
            intro W hW
            obtain ⟨h0, h1, h2, h3, h4, h5, h6, h7, h8, h9, h10, h11⟩ := hW
            go_simp
            exact rfl
          simp only [List.getElem_toArray, List.getElem_cons_succ, List.getElem_cons_zero, Act.put, List.setIfInBounds_toArray, List.set_cons_zero, List.set_cons_succ]
          refine but_run (i := 6) (by kernel_rfl) rfl ((wanted_at rfl rfl rfl rfl).trans rfl) ?_
          simp only [List.getElem_toArray, List.getElem_cons_succ, List.getElem_cons_zero]
          intro K HK
          go_wp2_with fail
          have hb1 : Below wc.heap.size wc (wc.drew.alloc (.cells #[] 5)) := hdw.alloc (Nat.le_refl _) _
          have hS1 : (fun V => Below wc.heap.size wc V ∧ V.cell? ⟨by_, 0, none⟩ = some (.int .i64 y1) ∧ V.cell? ⟨by_, 1, none⟩ = some (.int .i64 y2) ∧ V.cell? ⟨by_, 2, none⟩ = some (.int .i64 y3) ∧ V.cell? ⟨by_, 3, none⟩ = some (.int .i64 y4) ∧ V.cell? ⟨by_, 4, none⟩ = some (.int .i64 y5) ∧ V.cell? ⟨bk, 0, none⟩ = some (.int .i64 a) ∧ V.cell? ⟨bk, 1, none⟩ = some (.int .i64 b) ∧ V.cell? ⟨bk, 2, none⟩ = some (.int .i64 c) ∧ V.cell? ⟨bk, 3, none⟩ = some (.int .i64 d) ∧ V.cell? ⟨bk, 4, none⟩ = some (.int .i64 e) ∧ (convert 22 9 (.slice (some ⟨g3, j, none⟩) 6 (c3 - j))).run Try.prog V = .ok (.string ⟨E.toArray⟩) V) (wc.drew.alloc (.cells #[] 5)) := ⟨hb1, (keys_held QY.out QK.out hb1).1, (keys_held QY.out QK.out hb1).2.1, (keys_held QY.out QK.out hb1).2.2.1, (keys_held QY.out QK.out hb1).2.2.2.1, (keys_held QY.out QK.out hb1).2.2.2.2.1, (keys_held QY.out QK.out hb1).2.2.2.2.2.1, (keys_held QY.out QK.out hb1).2.2.2.2.2.2.1, (keys_held QY.out QK.out hb1).2.2.2.2.2.2.2.1, (keys_held QY.out QK.out hb1).2.2.2.2.2.2.2.2.1, (keys_held QY.out QK.out hb1).2.2.2.2.2.2.2.2.2, CF.out _ hb1⟩
          refine HK.out _ (wc.drew.alloc (.cells #[] 5)) (fun _ => hS1) ?_
          clear HK
          refine but_run (i := 8) (by kernel_rfl) rfl ((wanted_at rfl rfl rfl rfl).trans rfl) ?_
          simp only [List.getElem_toArray, List.getElem_cons_succ, List.getElem_cons_zero]
          intro K HK
          go_wp2_with fail
          refine (HPY2.out _ hb1).mono ?_
          rintro r V1 ⟨g7, c7, rfl, hb7, hc7⟩
          have cv7 := hc7 _ (Below.refl _ _)
          have hS2 : (fun V => Below wc.heap.size wc V ∧ V.cell? ⟨by_, 0, none⟩ = some (.int .i64 y1) ∧ V.cell? ⟨by_, 1, none⟩ = some (.int .i64 y2) ∧ V.cell? ⟨by_, 2, none⟩ = some (.int .i64 y3) ∧ V.cell? ⟨by_, 3, none⟩ = some (.int .i64 y4) ∧ V.cell? ⟨by_, 4, none⟩ = some (.int .i64 y5) ∧ V.cell? ⟨bk, 0, none⟩ = some (.int .i64 a) ∧ V.cell? ⟨bk, 1, none⟩ = some (.int .i64 b) ∧ V.cell? ⟨bk, 2, none⟩ = some (.int .i64 c) ∧ V.cell? ⟨bk, 3, none⟩ = some (.int .i64 d) ∧ V.cell? ⟨bk, 4, none⟩ = some (.int .i64 e) ∧ (convert 22 9 (.slice (some ⟨g3, j, none⟩) 6 (c3 - j))).run Try.prog V = .ok (.string ⟨E.toArray⟩) V) V1 := ⟨hb7, (keys_held QY.out QK.out hb7).1, (keys_held QY.out QK.out hb7).2.1, (keys_held QY.out QK.out hb7).2.2.1, (keys_held QY.out QK.out hb7).2.2.2.1, (keys_held QY.out QK.out hb7).2.2.2.2.1, (keys_held QY.out QK.out hb7).2.2.2.2.2.1, (keys_held QY.out QK.out hb7).2.2.2.2.2.2.1, (keys_held QY.out QK.out hb7).2.2.2.2.2.2.2.1, (keys_held QY.out QK.out hb7).2.2.2.2.2.2.2.2.1, (keys_held QY.out QK.out hb7).2.2.2.2.2.2.2.2.2, CF.out _ hb7⟩
          go_wp2_with fail
          refine HK.out _ V1 (fun _ => hS2) ?_
          clear HK hc7
          refine but_run (i := 9) (by kernel_rfl) rfl ((wanted_at rfl rfl rfl rfl).trans rfl) ?_
          simp only [List.getElem_toArray, List.getElem_cons_succ, List.getElem_cons_zero]
          intro K HK
          go_wp2_with fail
          refine HK.out _ V1 (fun _ => hS2) ?_
          clear HK
          refine but_take (f := 28) (i := 15) (v := ?v2t15) rfl (by kernel_rfl) (by kernel_rfl) (by kernel_rfl) (by kernel_rfl) (by kernel_rfl) (fun _ _ _ h => h) (Or.inl ⟨((wanted_at rfl rfl rfl rfl).trans rfl), ?hy2t15⟩) hS2 ?rest2t15
          case hy2t15 =>
            intro W hW
            obtain ⟨h0, h1, h2, h3, h4, h5, h6, h7, h8, h9, h10, h11⟩ := hW
            go_simp
            exact rfl
          simp only [List.getElem_toArray, List.getElem_cons_succ, List.getElem_cons_zero, Act.put, List.setIfInBounds_toArray, List.set_cons_zero, List.set_cons_succ]
          refine but_take (f := 28) (i := 16) (v := ?v2t16) rfl (by kernel_rfl) (by kernel_rfl) (by kernel_rfl) (by kernel_rfl) (by kernel_rfl) (fun _ _ _ h => h) (Or.inl ⟨((wanted_at rfl rfl rfl rfl).trans rfl), ?hy2t16⟩) hS2 ?rest2t16
          case hy2t16 =>
            intro W hW
            obtain ⟨h0, h1, h2, h3, h4, h5, h6, h7, h8, h9, h10, h11⟩ := hW
            go_simp
            exact rfl
          simp only [List.getElem_toArray, List.getElem_cons_succ, List.getElem_cons_zero, Act.put, List.setIfInBounds_toArray, List.set_cons_zero, List.set_cons_succ]
          refine but_take (f := 28) (i := 17) (v := ?v2t17) rfl (by kernel_rfl) (by kernel_rfl) (by kernel_rfl) (by kernel_rfl) (by kernel_rfl) (fun _ _ _ h => h) (Or.inl ⟨(by rfl), ?hy2t17⟩) hS2 ?rest2t17
          case hy2t17 =>
            intro W hW
            obtain ⟨h0, h1, h2, h3, h4, h5, h6, h7, h8, h9, h10, h11⟩ := hW
            go_simp
            exact rfl
          simp only [List.getElem_toArray, List.getElem_cons_succ, List.getElem_cons_zero, Act.put, List.setIfInBounds_toArray, List.set_cons_zero, List.set_cons_succ]
          refine but_take (f := 28) (i := 18) (v := ?v2t18) rfl (by kernel_rfl) (by kernel_rfl) (by kernel_rfl) (by kernel_rfl) (by kernel_rfl) (fun _ _ _ h => h) (Or.inl ⟨(by rfl), ?hy2t18⟩) hS2 ?rest2t18
          case hy2t18 =>
            intro W hW
            obtain ⟨h0, h1, h2, h3, h4, h5, h6, h7, h8, h9, h10, h11⟩ := hW
            go_simp
            exact rfl
          simp only [List.getElem_toArray, List.getElem_cons_succ, List.getElem_cons_zero, Act.put, List.setIfInBounds_toArray, List.set_cons_zero, List.set_cons_succ]
          refine but_take (f := 28) (i := 19) (v := ?v2t19) rfl (by kernel_rfl) (by kernel_rfl) (by kernel_rfl) (by kernel_rfl) (by kernel_rfl) (fun _ _ _ h => h) (Or.inl ⟨((wanted_at rfl rfl rfl rfl).trans rfl), ?hy2t19⟩) hS2 ?rest2t19
          case hy2t19 =>
            intro W hW
            obtain ⟨h0, h1, h2, h3, h4, h5, h6, h7, h8, h9, h10, h11⟩ := hW
            go_simp
            exact rfl
          simp only [List.getElem_toArray, List.getElem_cons_succ, List.getElem_cons_zero, Act.put, List.setIfInBounds_toArray, List.set_cons_zero, List.set_cons_succ]
          refine but_take (f := 28) (i := 20) (v := ?v2t20) rfl (by kernel_rfl) (by kernel_rfl) (by kernel_rfl) (by kernel_rfl) (by kernel_rfl) (fun _ _ _ h => h) (Or.inl ⟨((wanted_at rfl rfl rfl rfl).trans rfl), ?hy2t20⟩) hS2 ?rest2t20
          case hy2t20 =>
            intro W hW
            obtain ⟨h0, h1, h2, h3, h4, h5, h6, h7, h8, h9, h10, h11⟩ := hW
            go_simp
            exact rfl
          simp only [List.getElem_toArray, List.getElem_cons_succ, List.getElem_cons_zero, Act.put, List.setIfInBounds_toArray, List.set_cons_zero, List.set_cons_succ]
          refine but_take (f := 28) (i := 21) (v := ?v2t21) rfl (by kernel_rfl) (by kernel_rfl) (by kernel_rfl) (by kernel_rfl) (by kernel_rfl) (fun _ _ _ h => h) (Or.inl ⟨(by rfl), ?hy2t21⟩) hS2 ?rest2t21
          case hy2t21 =>
            intro W hW
            obtain ⟨h0, h1, h2, h3, h4, h5, h6, h7, h8, h9, h10, h11⟩ := hW
            go_simp
            exact rfl
          simp only [List.getElem_toArray, List.getElem_cons_succ, List.getElem_cons_zero, Act.put, List.setIfInBounds_toArray, List.set_cons_zero, List.set_cons_succ]
          refine but_take (f := 28) (i := 22) (v := ?v2t22) rfl (by kernel_rfl) (by kernel_rfl) (by kernel_rfl) (by kernel_rfl) (by kernel_rfl) (fun _ _ _ h => h) (Or.inl ⟨(by rfl), ?hy2t22⟩) hS2 ?rest2t22
          case hy2t22 =>
            intro W hW
            obtain ⟨h0, h1, h2, h3, h4, h5, h6, h7, h8, h9, h10, h11⟩ := hW
            go_simp
            exact rfl
          simp only [List.getElem_toArray, List.getElem_cons_succ, List.getElem_cons_zero, Act.put, List.setIfInBounds_toArray, List.set_cons_zero, List.set_cons_succ]
          refine but_take (f := 28) (i := 23) (v := ?v2t23) rfl (by kernel_rfl) (by kernel_rfl) (by kernel_rfl) (by kernel_rfl) (by kernel_rfl) (fun _ _ _ h => h) (Or.inl ⟨((wanted_at rfl rfl rfl rfl).trans rfl), ?hy2t23⟩) hS2 ?rest2t23
          case hy2t23 =>
            intro W hW
            obtain ⟨h0, h1, h2, h3, h4, h5, h6, h7, h8, h9, h10, h11⟩ := hW
            go_simp
            exact rfl
          simp only [List.getElem_toArray, List.getElem_cons_succ, List.getElem_cons_zero, Act.put, List.setIfInBounds_toArray, List.set_cons_zero, List.set_cons_succ]
          refine but_take (f := 28) (i := 25) (v := ?v2t25) rfl (by kernel_rfl) (by kernel_rfl) (by kernel_rfl) (by kernel_rfl) (by kernel_rfl) (fun _ _ _ h => h) (Or.inl ⟨((wanted_at rfl rfl rfl rfl).trans rfl), ?hy2t25⟩) hS2 ?rest2t25
          case hy2t25 =>
            intro W hW
            obtain ⟨h0, h1, h2, h3, h4, h5, h6, h7, h8, h9, h10, h11⟩ := hW
            go_simp
            exact rfl
          simp only [List.getElem_toArray, List.getElem_cons_succ, List.getElem_cons_zero, Act.put, List.setIfInBounds_toArray, List.set_cons_zero, List.set_cons_succ]
          refine but_run (i := 24) (by kernel_rfl) rfl ((wanted_at rfl rfl rfl rfl).trans rfl) ?_
          simp only [List.getElem_toArray, List.getElem_cons_succ, List.getElem_cons_zero]
          intro K HK
          go_wp2_with fail
          refine (HKI2.out _ hS2.1).mono ?_
          rintro r V2 ⟨rfl, hb8⟩
          have hS8 : (fun V => Below wc.heap.size wc V ∧ V.cell? ⟨by_, 0, none⟩ = some (.int .i64 y1) ∧ V.cell? ⟨by_, 1, none⟩ = some (.int .i64 y2) ∧ V.cell? ⟨by_, 2, none⟩ = some (.int .i64 y3) ∧ V.cell? ⟨by_, 3, none⟩ = some (.int .i64 y4) ∧ V.cell? ⟨by_, 4, none⟩ = some (.int .i64 y5) ∧ V.cell? ⟨bk, 0, none⟩ = some (.int .i64 a) ∧ V.cell? ⟨bk, 1, none⟩ = some (.int .i64 b) ∧ V.cell? ⟨bk, 2, none⟩ = some (.int .i64 c) ∧ V.cell? ⟨bk, 3, none⟩ = some (.int .i64 d) ∧ V.cell? ⟨bk, 4, none⟩ = some (.int .i64 e) ∧ (convert 22 9 (.slice (some ⟨g3, j, none⟩) 6 (c3 - j))).run Try.prog V = .ok (.string ⟨E.toArray⟩) V) V2 := ⟨hb8, (keys_held QY.out QK.out hb8).1, (keys_held QY.out QK.out hb8).2.1, (keys_held QY.out QK.out hb8).2.2.1, (keys_held QY.out QK.out hb8).2.2.2.1, (keys_held QY.out QK.out hb8).2.2.2.2.1, (keys_held QY.out QK.out hb8).2.2.2.2.2.1, (keys_held QY.out QK.out hb8).2.2.2.2.2.2.1, (keys_held QY.out QK.out hb8).2.2.2.2.2.2.2.1, (keys_held QY.out QK.out hb8).2.2.2.2.2.2.2.2.1, (keys_held QY.out QK.out hb8).2.2.2.2.2.2.2.2.2, CF.out _ hb8⟩
          go_wp2_with fail
          refine HK.out _ V2 (fun _ => hS8) ?_
          clear HK
          refine but_run (i := 26) (by kernel_rfl) rfl ((wanted_at rfl rfl rfl rfl).trans rfl) ?_
          simp only [List.getElem_toArray, List.getElem_cons_succ, List.getElem_cons_zero]
          intro K HK
          go_wp2_with fail
          refine (HKS2.out _ hb8).mono ?_
          rintro r V3 ⟨rfl, hb9⟩
          have hS9 : (fun V => Below wc.heap.size wc V ∧ V.cell? ⟨by_, 0, none⟩ = some (.int .i64 y1) ∧ V.cell? ⟨by_, 1, none⟩ = some (.int .i64 y2) ∧ V.cell? ⟨by_, 2, none⟩ = some (.int .i64 y3) ∧ V.cell? ⟨by_, 3, none⟩ = some (.int .i64 y4) ∧ V.cell? ⟨by_, 4, none⟩ = some (.int .i64 y5) ∧ V.cell? ⟨bk, 0, none⟩ = some (.int .i64 a) ∧ V.cell? ⟨bk, 1, none⟩ = some (.int .i64 b) ∧ V.cell? ⟨bk, 2, none⟩ = some (.int .i64 c) ∧ V.cell? ⟨bk, 3, none⟩ = some (.int .i64 d) ∧ V.cell? ⟨bk, 4, none⟩ = some (.int .i64 e) ∧ (convert 22 9 (.slice (some ⟨g3, j, none⟩) 6 (c3 - j))).run Try.prog V = .ok (.string ⟨E.toArray⟩) V) V3 := ⟨hb9, (keys_held QY.out QK.out hb9).1, (keys_held QY.out QK.out hb9).2.1, (keys_held QY.out QK.out hb9).2.2.1, (keys_held QY.out QK.out hb9).2.2.2.1, (keys_held QY.out QK.out hb9).2.2.2.2.1, (keys_held QY.out QK.out hb9).2.2.2.2.2.1, (keys_held QY.out QK.out hb9).2.2.2.2.2.2.1, (keys_held QY.out QK.out hb9).2.2.2.2.2.2.2.1, (keys_held QY.out QK.out hb9).2.2.2.2.2.2.2.2.1, (keys_held QY.out QK.out hb9).2.2.2.2.2.2.2.2.2, CF.out _ hb9⟩
          go_wp2_with fail
          refine HK.out _ V3 (fun _ => hS9) ?_
          clear HK
          refine but_take (f := 28) (i := 27) (v := ?v2t27) rfl (by kernel_rfl) (by kernel_rfl) (by kernel_rfl) (by kernel_rfl) (by kernel_rfl) (fun _ _ _ h => h) (Or.inl ⟨((wanted_at rfl rfl rfl rfl).trans rfl), ?hy2t27⟩) hS9 ?rest2t27
          case hy2t27 =>
            intro W hW
            obtain ⟨h0, h1, h2, h3, h4, h5, h6, h7, h8, h9, h10, h11⟩ := hW
            go_simp
            exact rfl
          simp only [List.getElem_toArray, List.getElem_cons_succ, List.getElem_cons_zero, Act.put, List.setIfInBounds_toArray, List.set_cons_zero, List.set_cons_succ]
          refine but_run (i := 28) (by kernel_rfl) rfl (by rfl) ?_
          simp only [List.getElem_toArray, List.getElem_cons_succ, List.getElem_cons_zero]
          intro K HK
          go_wp2_with fail
          refine HK.out _ V3 (fun h => absurd rfl h) ?_
          clear HK
          refine but_done (by kernel_rfl) ?_
          go_wp2_with fail
          go_meet
          exact ⟨rfl, Lib.hid hb9⟩
        · clear hget HY
          have hS0 : (fun V => Below wc.heap.size wc V ∧ V.cell? ⟨by_, 0, none⟩ = some (.int .i64 y1) ∧ V.cell? ⟨by_, 1, none⟩ = some (.int .i64 y2) ∧ V.cell? ⟨by_, 2, none⟩ = some (.int .i64 y3) ∧ V.cell? ⟨by_, 3, none⟩ = some (.int .i64 y4) ∧ V.cell? ⟨by_, 4, none⟩ = some (.int .i64 y5) ∧ V.cell? ⟨bk, 0, none⟩ = some (.int .i64 a) ∧ V.cell? ⟨bk, 1, none⟩ = some (.int .i64 b) ∧ V.cell? ⟨bk, 2, none⟩ = some (.int .i64 c) ∧ V.cell? ⟨bk, 3, none⟩ = some (.int .i64 d) ∧ V.cell? ⟨bk, 4, none⟩ = some (.int .i64 e)) wc.drew := keys_held2 QY.out QK.out hdw
          refine but_begin (f := 28) (S := (fun V => Below wc.heap.size wc V ∧ V.cell? ⟨by_, 0, none⟩ = some (.int .i64 y1) ∧ V.cell? ⟨by_, 1, none⟩ = some (.int .i64 y2) ∧ V.cell? ⟨by_, 2, none⟩ = some (.int .i64 y3) ∧ V.cell? ⟨by_, 3, none⟩ = some (.int .i64 y4) ∧ V.cell? ⟨by_, 4, none⟩ = some (.int .i64 y5) ∧ V.cell? ⟨bk, 0, none⟩ = some (.int .i64 a) ∧ V.cell? ⟨bk, 1, none⟩ = some (.int .i64 b) ∧ V.cell? ⟨bk, 2, none⟩ = some (.int .i64 c) ∧ V.cell? ⟨bk, 3, none⟩ = some (.int .i64 d) ∧ V.cell? ⟨bk, 4, none⟩ = some (.int .i64 e))) (by kernel_rfl) ?_
          refine but_take (f := 28) (i := 0) (v := ?v2f0) rfl (by kernel_rfl) (by kernel_rfl) (by kernel_rfl) (by kernel_rfl) (by kernel_rfl) (fun _ _ _ h => h) (Or.inl ⟨(by rfl), ?hy2f0⟩) hS0 ?rest2f0
          case hy2f0 =>
            intro W hW
            obtain ⟨h0, h1, h2, h3, h4, h5, h6, h7, h8, h9, h10⟩ := hW
            go_simp
            exact rfl
          simp only [List.getElem_toArray, List.getElem_cons_succ, List.getElem_cons_zero, Act.put, List.setIfInBounds_toArray, List.set_cons_zero, List.set_cons_succ]
          refine but_take (f := 28) (i := 1) (v := ?v2f1) rfl (by kernel_rfl) (by kernel_rfl) (by kernel_rfl) (by kernel_rfl) (by kernel_rfl) (fun _ _ _ h => h) (Or.inl ⟨(by rfl), ?hy2f1⟩) hS0 ?rest2f1
          case hy2f1 =>
            intro W hW
            obtain ⟨h0, h1, h2, h3, h4, h5, h6, h7, h8, h9, h10⟩ := hW
            go_simp
            exact rfl
          simp only [List.getElem_toArray, List.getElem_cons_succ, List.getElem_cons_zero, Act.put, List.setIfInBounds_toArray, List.set_cons_zero, List.set_cons_succ]
          refine but_take (f := 28) (i := 2) (v := ?v2f2) rfl (by kernel_rfl) (by kernel_rfl) (by kernel_rfl) (by kernel_rfl) (by kernel_rfl) (fun _ _ _ h => h) (Or.inl ⟨(by rfl), ?hy2f2⟩) hS0 ?rest2f2
          case hy2f2 =>
            intro W hW
            obtain ⟨h0, h1, h2, h3, h4, h5, h6, h7, h8, h9, h10⟩ := hW
            go_simp
            exact rfl
          simp only [List.getElem_toArray, List.getElem_cons_succ, List.getElem_cons_zero, Act.put, List.setIfInBounds_toArray, List.set_cons_zero, List.set_cons_succ]
          refine but_take (f := 28) (i := 3) (v := ?v2f3) rfl (by kernel_rfl) (by kernel_rfl) (by kernel_rfl) (by kernel_rfl) (by kernel_rfl) (fun _ _ _ h => h) (Or.inl ⟨(by rfl), ?hy2f3⟩) hS0 ?rest2f3
          case hy2f3 =>
            intro W hW
            obtain ⟨h0, h1, h2, h3, h4, h5, h6, h7, h8, h9, h10⟩ := hW
            go_simp
            exact rfl
          simp only [List.getElem_toArray, List.getElem_cons_succ, List.getElem_cons_zero, Act.put, List.setIfInBounds_toArray, List.set_cons_zero, List.set_cons_succ]
          refine but_take (f := 28) (i := 4) (v := ?v2f4) rfl (by kernel_rfl) (by kernel_rfl) (by kernel_rfl) (by kernel_rfl) (by kernel_rfl) (fun _ _ _ h => h) (Or.inl ⟨((wanted_at rfl rfl rfl rfl).trans rfl), ?hy2f4⟩) hS0 ?rest2f4
          case hy2f4 =>
            intro W hW
            obtain ⟨h0, h1, h2, h3, h4, h5, h6, h7, h8, h9, h10⟩ := hW
            go_simp
            exact rfl
          simp only [List.getElem_toArray, List.getElem_cons_succ, List.getElem_cons_zero, Act.put, List.setIfInBounds_toArray, List.set_cons_zero, List.set_cons_succ]
          refine but_take (f := 28) (i := 5) (v := ?v2f5) rfl (by kernel_rfl) (by kernel_rfl) (by kernel_rfl) (by kernel_rfl) (by kernel_rfl) (fun _ _ _ h => h) (Or.inl ⟨((wanted_at rfl rfl rfl rfl).trans rfl), ?hy2f5⟩) hS0 ?rest2f5
          case hy2f5 =>
            intro W hW
            obtain ⟨h0, h1, h2, h3, h4, h5, h6, h7, h8, h9, h10⟩ := hW
            go_simp
            exact rfl
          simp only [List.getElem_toArray, List.getElem_cons_succ, List.getElem_cons_zero, Act.put, List.setIfInBounds_toArray, List.set_cons_zero, List.set_cons_succ]
          refine but_take (f := 28) (i := 6) (v := undef) rfl (by kernel_rfl) (by kernel_rfl) (by kernel_rfl) (by kernel_rfl) (by kernel_rfl) (fun _ _ _ h => h) (Or.inr ⟨((wanted_at rfl rfl rfl rfl).trans rfl), rfl⟩) hS0 ?_
          simp only [List.getElem_toArray, List.getElem_cons_succ, List.getElem_cons_zero, Act.put, List.setIfInBounds_toArray, List.set_cons_zero, List.set_cons_succ]
          refine but_take (f := 28) (i := 7) (v := undef) rfl (by kernel_rfl) (by kernel_rfl) (by kernel_rfl) (by kernel_rfl) (by kernel_rfl) (fun _ _ _ h => h) (Or.inr ⟨((wanted_at rfl rfl rfl rfl).trans rfl), rfl⟩) hS0 ?_
          simp only [List.getElem_toArray, List.getElem_cons_succ, List.getElem_cons_zero, Act.put, List.setIfInBounds_toArray, List.set_cons_zero, List.set_cons_succ]
          refine but_take (f := 28) (i := 8) (v := undef) rfl (by kernel_rfl) (by kernel_rfl) (by kernel_rfl) (by kernel_rfl) (by kernel_rfl) (fun _ _ _ h => h) (Or.inr ⟨((wanted_at rfl rfl rfl rfl).trans rfl), rfl⟩) hS0 ?_
          simp only [List.getElem_toArray, List.getElem_cons_succ, List.getElem_cons_zero, Act.put, List.setIfInBounds_toArray, List.set_cons_zero, List.set_cons_succ]
          refine but_take (f := 28) (i := 9) (v := undef) rfl (by kernel_rfl) (by kernel_rfl) (by kernel_rfl) (by kernel_rfl) (by kernel_rfl) (fun _ _ _ h => h) (Or.inr ⟨((wanted_at rfl rfl rfl rfl).trans rfl), rfl⟩) hS0 ?_
          simp only [List.getElem_toArray, List.getElem_cons_succ, List.getElem_cons_zero, Act.put, List.setIfInBounds_toArray, List.set_cons_zero, List.set_cons_succ]
          refine but_take (f := 28) (i := 10) (v := undef) rfl (by kernel_rfl) (by kernel_rfl) (by kernel_rfl) (by kernel_rfl) (by kernel_rfl) (fun _ _ _ h => h) (Or.inr ⟨((wanted_at rfl rfl rfl rfl).trans rfl), rfl⟩) hS0 ?_
          simp only [List.getElem_toArray, List.getElem_cons_succ, List.getElem_cons_zero, Act.put, List.setIfInBounds_toArray, List.set_cons_zero, List.set_cons_succ]
          refine but_take (f := 28) (i := 11) (v := undef) rfl (by kernel_rfl) (by kernel_rfl) (by kernel_rfl) (by kernel_rfl) (by kernel_rfl) (fun _ _ _ h => h) (Or.inr ⟨((wanted_at rfl rfl rfl rfl).trans rfl), rfl⟩) hS0 ?_
          simp only [List.getElem_toArray, List.getElem_cons_succ, List.getElem_cons_zero, Act.put, List.setIfInBounds_toArray, List.set_cons_zero, List.set_cons_succ]
          refine but_take (f := 28) (i := 12) (v := undef) rfl (by kernel_rfl) (by kernel_rfl) (by kernel_rfl) (by kernel_rfl) (by kernel_rfl) (fun _ _ _ h => h) (Or.inr ⟨((wanted_at rfl rfl rfl rfl).trans rfl), rfl⟩) hS0 ?_
          simp only [List.getElem_toArray, List.getElem_cons_succ, List.getElem_cons_zero, Act.put, List.setIfInBounds_toArray, List.set_cons_zero, List.set_cons_succ]
          refine but_take (f := 28) (i := 13) (v := undef) rfl (by kernel_rfl) (by kernel_rfl) (by kernel_rfl) (by kernel_rfl) (by kernel_rfl) (fun _ _ _ h => h) (Or.inr ⟨((wanted_at rfl rfl rfl rfl).trans rfl), rfl⟩) hS0 ?_
          simp only [List.getElem_toArray, List.getElem_cons_succ, List.getElem_cons_zero, Act.put, List.setIfInBounds_toArray, List.set_cons_zero, List.set_cons_succ]
          refine but_take (f := 28) (i := 14) (v := undef) rfl (by kernel_rfl) (by kernel_rfl) (by kernel_rfl) (by kernel_rfl) (by kernel_rfl) (fun _ _ _ h => h) (Or.inr ⟨((wanted_at rfl rfl rfl rfl).trans rfl), rfl⟩) hS0 ?_
          simp only [List.getElem_toArray, List.getElem_cons_succ, List.getElem_cons_zero, Act.put, List.setIfInBounds_toArray, List.set_cons_zero, List.set_cons_succ]
          refine but_take (f := 28) (i := 15) (v := undef) rfl (by kernel_rfl) (by kernel_rfl) (by kernel_rfl) (by kernel_rfl) (by kernel_rfl) (fun _ _ _ h => h) (Or.inr ⟨((wanted_at rfl rfl rfl rfl).trans rfl), rfl⟩) hS0 ?_
          simp only [List.getElem_toArray, List.getElem_cons_succ, List.getElem_cons_zero, Act.put, List.setIfInBounds_toArray, List.set_cons_zero, List.set_cons_succ]
          refine but_take (f := 28) (i := 16) (v := ?v2f16) rfl (by kernel_rfl) (by kernel_rfl) (by kernel_rfl) (by kernel_rfl) (by kernel_rfl) (fun _ _ _ h => h) (Or.inl ⟨((wanted_at rfl rfl rfl rfl).trans rfl), ?hy2f16⟩) hS0 ?rest2f16
          case hy2f16 =>
            intro W hW
            obtain ⟨h0, h1, h2, h3, h4, h5, h6, h7, h8, h9, h10⟩ := hW
            go_simp
            exact rfl
          simp only [List.getElem_toArray, List.getElem_cons_succ, List.getElem_cons_zero, Act.put, List.setIfInBounds_toArray, List.set_cons_zero, List.set_cons_succ]
          refine but_take (f := 28) (i := 17) (v := ?v2f17) rfl (by kernel_rfl) (by kernel_rfl) (by kernel_rfl) (by kernel_rfl) (by kernel_rfl) (fun _ _ _ h => h) (Or.inl ⟨(by rfl), ?hy2f17⟩) hS0 ?rest2f17
          case hy2f17 =>
            intro W hW
            obtain ⟨h0, h1, h2, h3, h4, h5, h6, h7, h8, h9, h10⟩ := hW
            go_simp
            exact rfl
          simp only [List.getElem_toArray, List.getElem_cons_succ, List.getElem_cons_zero, Act.put, List.setIfInBounds_toArray, List.set_cons_zero, List.set_cons_succ]
          refine but_take (f := 28) (i := 18) (v := ?v2f18) rfl (by kernel_rfl) (by kernel_rfl) (by kernel_rfl) (by kernel_rfl) (by kernel_rfl) (fun _ _ _ h => h) (Or.inl ⟨(by rfl), ?hy2f18⟩) hS0 ?rest2f18
          case hy2f18 =>
            intro W hW
            obtain ⟨h0, h1, h2, h3, h4, h5, h6, h7, h8, h9, h10⟩ := hW
            go_simp
            exact rfl
          simp only [List.getElem_toArray, List.getElem_cons_succ, List.getElem_cons_zero, Act.put, List.setIfInBounds_toArray, List.set_cons_zero, List.set_cons_succ]
          refine but_take (f := 28) (i := 19) (v := ?v2f19) rfl (by kernel_rfl) (by kernel_rfl) (by kernel_rfl) (by kernel_rfl) (by kernel_rfl) (fun _ _ _ h => h) (Or.inl ⟨((wanted_at rfl rfl rfl rfl).trans rfl), ?hy2f19⟩) hS0 ?rest2f19
          case hy2f19 =>
            intro W hW
            obtain ⟨h0, h1, h2, h3, h4, h5, h6, h7, h8, h9, h10⟩ := hW
            go_simp
            exact rfl
          simp only [List.getElem_toArray, List.getElem_cons_succ, List.getElem_cons_zero, Act.put, List.setIfInBounds_toArray, List.set_cons_zero, List.set_cons_succ]
          refine but_take (f := 28) (i := 20) (v := ?v2f20) rfl (by kernel_rfl) (by kernel_rfl) (by kernel_rfl) (by kernel_rfl) (by kernel_rfl) (fun _ _ _ h => h) (Or.inl ⟨((wanted_at rfl rfl rfl rfl).trans rfl), ?hy2f20⟩) hS0 ?rest2f20
          case hy2f20 =>
            intro W hW
            obtain ⟨h0, h1, h2, h3, h4, h5, h6, h7, h8, h9, h10⟩ := hW
            go_simp
            exact rfl
          simp only [List.getElem_toArray, List.getElem_cons_succ, List.getElem_cons_zero, Act.put, List.setIfInBounds_toArray, List.set_cons_zero, List.set_cons_succ]
          refine but_take (f := 28) (i := 21) (v := ?v2f21) rfl (by kernel_rfl) (by kernel_rfl) (by kernel_rfl) (by kernel_rfl) (by kernel_rfl) (fun _ _ _ h => h) (Or.inl ⟨(by rfl), ?hy2f21⟩) hS0 ?rest2f21
          case hy2f21 =>
            intro W hW
            obtain ⟨h0, h1, h2, h3, h4, h5, h6, h7, h8, h9, h10⟩ := hW
            go_simp
            exact rfl
          simp only [List.getElem_toArray, List.getElem_cons_succ, List.getElem_cons_zero, Act.put, List.setIfInBounds_toArray, List.set_cons_zero, List.set_cons_succ]
          refine but_take (f := 28) (i := 22) (v := ?v2f22) rfl (by kernel_rfl) (by kernel_rfl) (by kernel_rfl) (by kernel_rfl) (by kernel_rfl) (fun _ _ _ h => h) (Or.inl ⟨(by rfl), ?hy2f22⟩) hS0 ?rest2f22
          case hy2f22 =>
            intro W hW
            obtain ⟨h0, h1, h2, h3, h4, h5, h6, h7, h8, h9, h10⟩ := hW
            go_simp
            exact rfl
          simp only [List.getElem_toArray, List.getElem_cons_succ, List.getElem_cons_zero, Act.put, List.setIfInBounds_toArray, List.set_cons_zero, List.set_cons_succ]
          refine but_take (f := 28) (i := 23) (v := ?v2f23) rfl (by kernel_rfl) (by kernel_rfl) (by kernel_rfl) (by kernel_rfl) (by kernel_rfl) (fun _ _ _ h => h) (Or.inl ⟨((wanted_at rfl rfl rfl rfl).trans rfl), ?hy2f23⟩) hS0 ?rest2f23
          case hy2f23 =>
            intro W hW
            obtain ⟨h0, h1, h2, h3, h4, h5, h6, h7, h8, h9, h10⟩ := hW
            go_simp
            exact rfl
          simp only [List.getElem_toArray, List.getElem_cons_succ, List.getElem_cons_zero, Act.put, List.setIfInBounds_toArray, List.set_cons_zero, List.set_cons_succ]
          refine but_take (f := 28) (i := 25) (v := ?v2f25) rfl (by kernel_rfl) (by kernel_rfl) (by kernel_rfl) (by kernel_rfl) (by kernel_rfl) (fun _ _ _ h => h) (Or.inl ⟨((wanted_at rfl rfl rfl rfl).trans rfl), ?hy2f25⟩) hS0 ?rest2f25
          case hy2f25 =>
            intro W hW
            obtain ⟨h0, h1, h2, h3, h4, h5, h6, h7, h8, h9, h10⟩ := hW
            go_simp
            exact rfl
          simp only [List.getElem_toArray, List.getElem_cons_succ, List.getElem_cons_zero, Act.put, List.setIfInBounds_toArray, List.set_cons_zero, List.set_cons_succ]
          refine but_run (i := 24) (by kernel_rfl) rfl ((wanted_at rfl rfl rfl rfl).trans rfl) ?_
          simp only [List.getElem_toArray, List.getElem_cons_succ, List.getElem_cons_zero]
          intro K HK
          go_wp2_with fail
          refine (HKI2.out _ hS0.1).mono ?_
          rintro r V2 ⟨rfl, hb8⟩
          have hS8 : (fun V => Below wc.heap.size wc V ∧ V.cell? ⟨by_, 0, none⟩ = some (.int .i64 y1) ∧ V.cell? ⟨by_, 1, none⟩ = some (.int .i64 y2) ∧ V.cell? ⟨by_, 2, none⟩ = some (.int .i64 y3) ∧ V.cell? ⟨by_, 3, none⟩ = some (.int .i64 y4) ∧ V.cell? ⟨by_, 4, none⟩ = some (.int .i64 y5) ∧ V.cell? ⟨bk, 0, none⟩ = some (.int .i64 a) ∧ V.cell? ⟨bk, 1, none⟩ = some (.int .i64 b) ∧ V.cell? ⟨bk, 2, none⟩ = some (.int .i64 c) ∧ V.cell? ⟨bk, 3, none⟩ = some (.int .i64 d) ∧ V.cell? ⟨bk, 4, none⟩ = some (.int .i64 e)) V2 := keys_held2 QY.out QK.out hb8
          go_wp2_with fail
          refine HK.out _ V2 (fun _ => hS8) ?_
          clear HK
          refine but_run (i := 26) (by kernel_rfl) rfl ((wanted_at rfl rfl rfl rfl).trans rfl) ?_
          simp only [List.getElem_toArray, List.getElem_cons_succ, List.getElem_cons_zero]
          intro K HK
          go_wp2_with fail
          refine (HKS2.out _ hb8).mono ?_
          rintro r V3 ⟨rfl, hb9⟩
          have hS9 : (fun V => Below wc.heap.size wc V ∧ V.cell? ⟨by_, 0, none⟩ = some (.int .i64 y1) ∧ V.cell? ⟨by_, 1, none⟩ = some (.int .i64 y2) ∧ V.cell? ⟨by_, 2, none⟩ = some (.int .i64 y3) ∧ V.cell? ⟨by_, 3, none⟩ = some (.int .i64 y4) ∧ V.cell? ⟨by_, 4, none⟩ = some (.int .i64 y5) ∧ V.cell? ⟨bk, 0, none⟩ = some (.int .i64 a) ∧ V.cell? ⟨bk, 1, none⟩ = some (.int .i64 b) ∧ V.cell? ⟨bk, 2, none⟩ = some (.int .i64 c) ∧ V.cell? ⟨bk, 3, none⟩ = some (.int .i64 d) ∧ V.cell? ⟨bk, 4, none⟩ = some (.int .i64 e)) V3 := keys_held2 QY.out QK.out hb9
          go_wp2_with fail
          refine HK.out _ V3 (fun _ => hS9) ?_
          clear HK
          refine but_take (f := 28) (i := 27) (v := ?v2f27) rfl (by kernel_rfl) (by kernel_rfl) (by kernel_rfl) (by kernel_rfl) (by kernel_rfl) (fun _ _ _ h => h) (Or.inl ⟨((wanted_at rfl rfl rfl rfl).trans rfl), ?hy2f27⟩) hS9 ?rest2f27
          case hy2f27 =>
            intro W hW
            obtain ⟨h0, h1, h2, h3, h4, h5, h6, h7, h8, h9, h10⟩ := hW
            go_simp
            exact rfl
          simp only [List.getElem_toArray, List.getElem_cons_succ, List.getElem_cons_zero, Act.put, List.setIfInBounds_toArray, List.set_cons_zero, List.set_cons_succ]
          refine but_run (i := 28) (by kernel_rfl) rfl (by rfl) ?_
          simp only [List.getElem_toArray, List.getElem_cons_succ, List.getElem_cons_zero]
          intro K HK
          go_wp2_with fail
          refine HK.out _ V3 (fun h => absurd rfl h) ?_
          clear HK
          refine but_done (by kernel_rfl) ?_
          go_wp2_with fail
          go_meet
          exact ⟨rfl, Lib.hid hb9⟩
      case rest =>
        obtain ⟨rfl, HX⟩ := hcut
        rename_i wd
        replace QK := Lib.hid (box_on QK.out HX.out)
        replace OB := Lib.hid (OB.out.on HX.out)
        replace OP := Lib.hid (OP.out.on HX.out)
        replace BB := Lib.hid (bstep BB.out HX.out)
        clear HX QY OC HY HKI2 HKS2 hdw HKS
        obtain ⟨p0, p1, p2, p3, p4, p5⟩ := box5 QK.out
        go_wp2_with fail
        refine (HKI.out _).mono ?_
        rintro r we ⟨rfl, be⟩
        replace QK := Lib.hid (box_on QK.out be)
        replace OB := Lib.hid (OB.out.on be)
        replace OP := Lib.hid (OP.out.on be)
        replace BB := Lib.hid (bstep BB.out be)
        clear p0 p1 p2 p3 p4 p5 be
        cases kb
        · have hPb : P = bl := by rw [HPE.out]; unfold encK; rw [hKB]; simp
          subst hPb
          have k1 := conv_rd OP.out.all hc2
          have k2 := conv_rd OB.out.all hc1
          go_wp2
          go_ret
          exact ⟨rfl, BB.out⟩
        · obtain ⟨hg, hl6⟩ := getK_put hKB HPE.out
          have HG : Hid (Calls Try.prog 40 #[.slice (some ⟨g2, 0, none⟩) P.length c2, .int .i64 (bl.length : Int)] we fun r V' => r = .returned (.tuple #[.agg #[.int .i64 a, .int .i64 b, .int .i64 c, .int .i64 d, .int .i64 e], .int .i64 ((bl.length : Int) + 6), .bool true]) ∧ Below we.heap.size we V') := Lib.hid (by
            have h := implGetKey_any (some ⟨g2, 0, none⟩) c2 P (bl.length : Nat) we OP.out.all (by omega)
            rw [hg] at h
            exact h)
          have tl : (((bl.length : Int) + 6) == (P.length : Int)) = true := by rw [hl6]; simp
          clear hg hl6
          go_wp2_with fail
          refine HG.out.mono ?_
          rintro r wf ⟨rfl, bf⟩
          have qk := box_on QK.out bf
          obtain ⟨p0, p1, p2, p3, p4, p5⟩ := box5 qk
          have hlt : bk < wf.heap.size := (Array.getElem?_eq_some_iff.1 qk).1
          have BF := Lib.hid (bstep (bstep BB.out bf) (bal1 wf (.cells #[.int .i64 a, .int .i64 b, .int .i64 c, .int .i64 d, .int .i64 e] 45)))
          clear bf qk HG
          go_wp2
          go_ret
          exact ⟨rfl, BF.out⟩
    · go_wp2_with fail
      refine (HL2.out _).mono ?_
      rintro r x2 ⟨rfl, f2⟩
      have X2 := Lib.hid (bstep X1.out f2)
      clear p0 p1 p2 p3 p4 p5 q0 q1 q2 q3 q4 q5 f2
      obtain ⟨p0, p1, p2, p3, p4, p5⟩ := box5 (box_on QU.out X2.out)
      obtain ⟨q0, q1, q2, q3, q4, q5⟩ := box5 (box_on QV.out X2.out)
      go_wp2_with fail
      refine (HL3.out _).mono ?_
      rintro r wc ⟨rfl, f3⟩
      have HW := Lib.hid (bstep X2.out f3)
      clear p0 p1 p2 p3 p4 p5 q0 q1 q2 q3 q4 q5 f3 X1 X2
      replace QK := Lib.hid (box_on QK.out HW.out)
      replace QY := Lib.hid (box_on QY.out HW.out)
      replace OB := Lib.hid (OB.out.on HW.out)
      replace OP := Lib.hid (OP.out.on HW.out)
      replace OC := Lib.hid (OC.out.on HW.out)
      replace BB := Lib.hid (bstep BB.out HW.out)
      clear HW QU QV HL1 HL2 HL3 TRI
      generalize hKB : keyOkB a b c d e = kb at *
      go_upto_region 16 with (fail)
      have HKI2 : Hid (∀ V, Below wc.heap.size wc V → Calls Try.prog 45 #[.agg #[.int .i64 a, .int .i64 b, .int .i64 c, .int .i64 d, .int .i64 e]] V fun r V' => r = .returned (.bool kb) ∧ Below wc.heap.size wc V') := Lib.hid (fun V hV => (HKI.out V).mono (fun r V' h => ⟨h.1, bstep hV h.2⟩))
      have HKS2 : Hid (∀ V, Below wc.heap.size wc V → Calls Try.prog 46 #[.agg #[.int .i64 a, .int .i64 b, .int .i64 c, .int .i64 d, .int .i64 e]] V fun r V' => r = .returned (.bool kb) ∧ Below wc.heap.size wc V') := Lib.hid (fun V hV => (HKS.out V).mono (fun r V' h => ⟨h.1, bstep hV h.2⟩))
      have hdw : Below wc.heap.size wc wc.drew := (Below.refl _ _).drew
      have tkk : (kb != kb) = false := by simp
      go_cut [97] (fun s97 wx => s97 = .bool false ∧ Hid (Below wc.heap.size wc wx))
      case first =>
        rcases HY.out with ⟨rfl, hget, rfl⟩ | ⟨rfl, hget⟩
        · obtain ⟨j, rfl, hj, hE6, hEc⟩ := put_getK hget
          have HPY := Lib.hid (implPutKey_any (some ⟨wc.heap.size, 0, none⟩) 0 [] y1 y2 y3 y4 y5)
          dsimp only at hE6 hEc
          unfold keyV at HPY
          rw [List.nil_append] at HPY
          generalize encK y1 y2 y3 y4 y5 = E at *
          have HPY2 : Hid (∀ V, Below wc.heap.size wc V → Calls Try.prog 38 #[.slice (some ⟨wc.heap.size, 0, none⟩) 0 0, .agg #[.int .i64 y1, .int .i64 y2, .int .i64 y3, .int .i64 y4, .int .i64 y5]] V (PutOut wc E V)) := Lib.hid (fun V hV => putOut hV (HPY.out V (.inl rfl) (by simp)))
          have CF : Hid (∀ U, Below wc.heap.size wc U → (convert 22 9 (.slice (some ⟨g3, j, none⟩) 6 (c3 - j))).run Try.prog U = .ok (.string ⟨E.toArray⟩) U) := Lib.hid (fun U hU => by
            refine conv_at U g3 j 6 (c3 - j) E hE6 (fun i hi => ?_)
            have h := ((OC.out.on hU).cellAt (j := j + i) (by omega)).1
            rw [h, hEc i (by omega) hi])
          have cvc0 := CF.out _ hdw
          have b1 : Below wc.heap.size wc (wc.alloc (.cells #[] 5)).drew := (bal1 wc (.cells #[] 5)).drew
          have cvc1 := CF.out _ b1
          have i1 : (0 : Int) ≤ (j : Int) := by omega
          have i2 : (j : Int) ≤ (j : Int) + 6 := by omega
          have i3 : (j : Int) + 6 ≤ (c3 : Int) := by omega
          have i4 : ((j : Int) + 6).toNat = j + 6 := by omega
          have i5 : j + 6 - j = 6 := by omega
          have i6 : ¬ (c3 = j) := by omega
          clear hget hE6 hEc HPY HY
          have hS0 : (fun V => Below wc.heap.size wc V ∧ V.cell? ⟨by_, 0, none⟩ = some (.int .i64 y1) ∧ V.cell? ⟨by_, 1, none⟩ = some (.int .i64 y2) ∧ V.cell? ⟨by_, 2, none⟩ = some (.int .i64 y3) ∧ V.cell? ⟨by_, 3, none⟩ = some (.int .i64 y4) ∧ V.cell? ⟨by_, 4, none⟩ = some (.int .i64 y5) ∧ V.cell? ⟨bk, 0, none⟩ = some (.int .i64 a) ∧ V.cell? ⟨bk, 1, none⟩ = some (.int .i64 b) ∧ V.cell? ⟨bk, 2, none⟩ = some (.int .i64 c) ∧ V.cell? ⟨bk, 3, none⟩ = some (.int .i64 d) ∧ V.cell? ⟨bk, 4, none⟩ = some (.int .i64 e) ∧ (convert 22 9 (.slice (some ⟨g3, j, none⟩) 6 (c3 - j))).run Try.prog V = .ok (.string ⟨E.toArray⟩) V) wc.drew := ⟨hdw, (keys_held QY.out QK.out hdw).1, (keys_held QY.out QK.out hdw).2.1, (keys_held QY.out QK.out hdw).2.2.1, (keys_held QY.out QK.out hdw).2.2.2.1, (keys_held QY.out QK.out hdw).2.2.2.2.1, (keys_held QY.out QK.out hdw).2.2.2.2.2.1, (keys_held QY.out QK.out hdw).2.2.2.2.2.2.1, (keys_held QY.out QK.out hdw).2.2.2.2.2.2.2.1, (keys_held QY.out QK.out hdw).2.2.2.2.2.2.2.2.1, (keys_held QY.out QK.out hdw).2.2.2.2.2.2.2.2.2, CF.out _ hdw⟩
          refine but_begin (f := 28) (S := (fun V => Below wc.heap.size wc V ∧ V.cell? ⟨by_, 0, none⟩ = some (.int .i64 y1) ∧ V.cell? ⟨by_, 1, none⟩ = some (.int .i64 y2) ∧ V.cell? ⟨by_, 2, none⟩ = some (.int .i64 y3) ∧ V.cell? ⟨by_, 3, none⟩ = some (.int .i64 y4) ∧ V.cell? ⟨by_, 4, none⟩ = some (.int .i64 y5) ∧ V.cell? ⟨bk, 0, none⟩ = some (.int .i64 a) ∧ V.cell? ⟨bk, 1, none⟩ = some (.int .i64 b) ∧ V.cell? ⟨bk, 2, none⟩ = some (.int .i64 c) ∧ V.cell? ⟨bk, 3, none⟩ = some (.int .i64 d) ∧ V.cell? ⟨bk, 4, none⟩ = some (.int .i64 e) ∧ (convert 22 9 (.slice (some ⟨g3, j, none⟩) 6 (c3 - j))).run Try.prog V = .ok (.string ⟨E.toArray⟩) V)) (by kernel_rfl) ?_
          refine but_take (f := 28) (i := 0) (v := ?v3t0) rfl (by kernel_rfl) (by kernel_rfl) (by kernel_rfl) (by kernel_rfl) (by kernel_rfl) (fun _ _ _ h => h) (Or.inl ⟨(by rfl), ?hy3t0⟩) hS0 ?rest3t0
          case hy3t0 =>
            intro W hW
            obtain ⟨h0, h1, h2, h3, h4, h5, h6, h7, h8, h9, h10, h11⟩ := hW
            go_simp
            exact rfl
          simp only [List.getElem_toArray, List.getElem_cons_succ, List.getElem_cons_zero, Act.put, List.setIfInBounds_toArray, List.set_cons_zero, List.set_cons_succ]
          refine but_take (f := 28) (i := 1) (v := ?v3t1) rfl (by kernel_rfl) (by kernel_rfl) (by kernel_rfl) (by kernel_rfl) (by kernel_rfl) (fun _ _ _ h => h) (Or.inl ⟨(by rfl), ?hy3t1⟩) hS0 ?rest3t1
          case hy3t1 =>
            intro W hW
            obtain ⟨h0, h1, h2, h3, h4, h5, h6, h7, h8, h9, h10, h11⟩ := hW
            go_simp
            exact rfl
          simp only [List.getElem_toArray, List.getElem_cons_succ, List.getElem_cons_zero, Act.put, List.setIfInBounds_toArray, List.set_cons_zero, List.set_cons_succ]
          refine but_take (f := 28) (i := 2) (v := ?v3t2) rfl (by kernel_rfl) (by kernel_rfl) (by kernel_rfl) (by kernel_rfl) (by kernel_rfl) (fun _ _ _ h => h) (Or.inl ⟨(by rfl), ?hy3t2⟩) hS0 ?rest3t2
          case hy3t2 =>
            intro W hW
            obtain ⟨h0, h1, h2, h3, h4, h5, h6, h7, h8, h9, h10, h11⟩ := hW
            go_simp
            exact rfl
          simp only [List.getElem_toArray, List.getElem_cons_succ, List.getElem_cons_zero, Act.put, List.setIfInBounds_toArray, List.set_cons_zero, List.set_cons_succ]
          refine but_take (f := 28) (i := 3) (v := ?v3t3) rfl (by kernel_rfl) (by kernel_rfl) (by kernel_rfl) (by kernel_rfl) (by kernel_rfl) (fun _ _ _ h => h) (Or.inl ⟨(by rfl), ?hy3t3⟩) hS0 ?rest3t3
          case hy3t3 =>
            intro W hW
            obtain ⟨h0, h1, h2, h3, h4, h5, h6, h7, h8, h9, h10, h11⟩ := hW
            go_simp
            exact rfl
          simp only [List.getElem_toArray, List.getElem_cons_succ, List.getElem_cons_zero, Act.put, List.setIfInBounds_toArray, List.set_cons_zero, List.set_cons_succ]
          refine but_take (f := 28) (i := 4) (v := ?v3t4) rfl (by kernel_rfl) (by kernel_rfl) (by kernel_rfl) (by kernel_rfl) (by kernel_rfl) (fun _ _ _ h => h) (Or.inl ⟨((wanted_at rfl rfl rfl rfl).trans rfl), ?hy3t4⟩) hS0 ?rest3t4
          case hy3t4 =>
            intro W hW
            obtain ⟨h0, h1, h2, h3, h4, h5, h6, h7, h8, h9, h10, h11⟩ := hW
            go_simp
            exact rfl
          simp only [List.getElem_toArray, List.getElem_cons_succ, List.getElem_cons_zero, Act.put, List.setIfInBounds_toArray, List.set_cons_zero, List.set_cons_succ]
          refine but_take (f := 28) (i := 5) (v := ?v3t5) rfl (by kernel_rfl) (by kernel_rfl) (by kernel_rfl) (by kernel_rfl) (by kernel_rfl) (fun _ _ _ h => h) (Or.inl ⟨((wanted_at rfl rfl rfl rfl).trans rfl), ?hy3t5⟩) hS0 ?rest3t5
          case hy3t5 =>
            intro W hW
            obtain ⟨h0, h1, h2, h3, h4, h5, h6, h7, h8, h9, h10, h11⟩ := hW
            go_simp
            exact rfl
          simp only [List.getElem_toArray, List.getElem_cons_succ, List.getElem_cons_zero, Act.put, List.setIfInBounds_toArray, List.set_cons_zero, List.set_cons_succ]
          refine but_take (f := 28) (i := 7) (v := ?v3t7) rfl (by kernel_rfl) (by kernel_rfl) (by kernel_rfl) (by kernel_rfl) (by kernel_rfl) (fun _ _ _ h => h) (Or.inl ⟨((wanted_at rfl rfl rfl rfl).trans rfl), ?hy3t7⟩) hS0 ?rest3t7
          case hy3t7 =>
            intro W hW
            obtain ⟨h0, h1, h2, h3, h4, h5, h6, h7, h8, h9, h10, h11⟩ := hW
            go_simp
            exact rfl
          simp only [List.getElem_toArray, List.getElem_cons_succ, List.getElem_cons_zero, Act.put, List.setIfInBounds_toArray, List.set_cons_zero, List.set_cons_succ]
          refine but_take (f := 28) (i := 10) (v := ?v3t10) rfl (by kernel_rfl) (by kernel_rfl) (by kernel_rfl) (by kernel_rfl) (by kernel_rfl) (fun _ _ _ h => h) (Or.inl ⟨((wanted_at rfl rfl rfl rfl).trans rfl), ?hy3t10⟩) hS0 ?rest3t10
          case hy3t10 =>
            intro W hW
            obtain ⟨h0, h1, h2, h3, h4, h5, h6, h7, h8, h9, h10, h11⟩ := hW
            go_simp
            exact rfl
          simp only [List.getElem_toArray, List.getElem_cons_succ, List.getElem_cons_zero, Act.put, List.setIfInBounds_toArray, List.set_cons_zero, List.set_cons_succ]
          refine but_take (f := 28) (i := 11) (v := ?v3t11) rfl (by kernel_rfl) (by kernel_rfl) (by kernel_rfl) (by kernel_rfl) (by kernel_rfl) (fun _ _ _ h => h) (Or.inl ⟨((wanted_at rfl rfl rfl rfl).trans rfl), ?hy3t11⟩) hS0 ?rest3t11
          case hy3t11 =>
            intro W hW
            obtain ⟨h0, h1, h2, h3, h4, h5, h6, h7, h8, h9, h10, h11⟩ := hW
            go_simp
            exact rfl
          simp only [List.getElem_toArray, List.getElem_cons_succ, List.getElem_cons_zero, Act.put, List.setIfInBounds_toArray, List.set_cons_zero, List.set_cons_succ]
          refine but_take (f := 28) (i := 12) (v := ?v3t12) rfl (by kernel_rfl) (by kernel_rfl) (by kernel_rfl) (by kernel_rfl) (by kernel_rfl) (fun _ _ _ h => h) (Or.inl ⟨((wanted_at rfl rfl rfl rfl).trans rfl), ?hy3t12⟩) hS0 ?rest3t12
          case hy3t12 =>
            intro W hW
            obtain ⟨h0, h1, h2, h3, h4, h5, h6, h7, h8, h9, h10, h11⟩ := hW
            go_simp
            exact rfl
          simp only [List.getElem_toArray, List.getElem_cons_succ, List.getElem_cons_zero, Act.put, List.setIfInBounds_toArray, List.set_cons_zero, List.set_cons_succ]
          refine but_take (f := 28) (i := 13) (v := ?v3t13) rfl (by kernel_rfl) (by kernel_rfl) (by kernel_rfl) (by kernel_rfl) (by kernel_rfl) (fun _ _ _ h => h) (Or.inl ⟨((wanted_at rfl rfl rfl rfl).trans rfl), ?hy3t13⟩) hS0 ?rest3t13
          case hy3t13 =>
            intro W hW
            obtain ⟨h0, h1, h2, h3, h4, h5, h6, h7, h8, h9, h10, h11⟩ := hW
            go_simp
            exact rfl
          simp only [List.getElem_toArray, List.getElem_cons_succ, List.getElem_cons_zero, Act.put, List.setIfInBounds_toArray, List.set_cons_zero, List.set_cons_succ]
          refine but_take (f := 28) (i := 14) (v := ?v3t14) rfl (by kernel_rfl) (by kernel_rfl) (by kernel_rfl) (by kernel_rfl) (by kernel_rfl) (fun _ _ _ h => h) (Or.inl ⟨((wanted_at rfl rfl rfl rfl).trans rfl), ?hy3t14⟩) hS0 ?rest3t14
          case hy3t14 =>
            intro W hW
            obtain ⟨h0, h1, h2, h3, h4, h5, h6, h7, h8, h9, h10, h11⟩ := hW
            go_simp
            exact rfl
          simp only [List.getElem_toArray, List.getElem_cons_succ, List.getElem_cons_zero, Act.put, List.setIfInBounds_toArray, List.set_cons_zero, List.set_cons_succ]
          refine but_run (i := 6) (by kernel_rfl) rfl ((wanted_at rfl rfl rfl rfl).trans rfl) ?_
          simp only [List.getElem_toArray, List.getElem_cons_succ, List.getElem_cons_zero]
          intro K HK
          go_wp2_with fail
          have hb1 : Below wc.heap.size wc (wc.drew.alloc (.cells #[] 5)) := hdw.alloc (Nat.le_refl _) _
          have hS1 : (fun V => Below wc.heap.size wc V ∧ V.cell? ⟨by_, 0, none⟩ = some (.int .i64 y1) ∧ V.cell? ⟨by_, 1, none⟩ = some (.int .i64 y2) ∧ V.cell? ⟨by_, 2, none⟩ = some (.int .i64 y3) ∧ V.cell? ⟨by_, 3, none⟩ = some (.int .i64 y4) ∧ V.cell? ⟨by_, 4, none⟩ = some (.int .i64 y5) ∧ V.cell? ⟨bk, 0, none⟩ = some (.int .i64 a) ∧ V.cell? ⟨bk, 1, none⟩ = some (.int .i64 b) ∧ V.cell? ⟨bk, 2, none⟩ = some (.int .i64 c) ∧ V.cell? ⟨bk, 3, none⟩ = some (.int .i64 d) ∧ V.cell? ⟨bk, 4, none⟩ = some (.int .i64 e) ∧ (convert 22 9 (.slice (some ⟨g3, j, none⟩) 6 (c3 - j))).run Try.prog V = .ok (.string ⟨E.toArray⟩) V) (wc.drew.alloc (.cells #[] 5)) := ⟨hb1, (keys_held QY.out QK.out hb1).1, (keys_held QY.out QK.out hb1).2.1, (keys_held QY.out QK.out hb1).2.2.1, (keys_held QY.out QK.out hb1).2.2.2.1, (keys_held QY.out QK.out hb1).2.2.2.2.1, (keys_held QY.out QK.out hb1).2.2.2.2.2.1, (keys_held QY.out QK.out hb1).2.2.2.2.2.2.1, (keys_held QY.out QK.out hb1).2.2.2.2.2.2.2.1, (keys_held QY.out QK.out hb1).2.2.2.2.2.2.2.2.1, (keys_held QY.out QK.out hb1).2.2.2.2.2.2.2.2.2, CF.out _ hb1⟩
          refine HK.out _ (wc.drew.alloc (.cells #[] 5)) (fun _ => hS1) ?_
          clear HK
          refine but_run (i := 8) (by kernel_rfl) rfl ((wanted_at rfl rfl rfl rfl).trans rfl) ?_
          simp only [List.getElem_toArray, List.getElem_cons_succ, List.getElem_cons_zero]
          intro K HK
          go_wp2_with fail
          refine (HPY2.out _ hb1).mono ?_
          rintro r V1 ⟨g7, c7, rfl, hb7, hc7⟩
          have cv7 := hc7 _ (Below.refl _ _)
          have hS2 : (fun V => Below wc.heap.size wc V ∧ V.cell? ⟨by_, 0, none⟩ = some (.int .i64 y1) ∧ V.cell? ⟨by_, 1, none⟩ = some (.int .i64 y2) ∧ V.cell? ⟨by_, 2, none⟩ = some (.int .i64 y3) ∧ V.cell? ⟨by_, 3, none⟩ = some (.int .i64 y4) ∧ V.cell? ⟨by_, 4, none⟩ = some (.int .i64 y5) ∧ V.cell? ⟨bk, 0, none⟩ = some (.int .i64 a) ∧ V.cell? ⟨bk, 1, none⟩ = some (.int .i64 b) ∧ V.cell? ⟨bk, 2, none⟩ = some (.int .i64 c) ∧ V.cell? ⟨bk, 3, none⟩ = some (.int .i64 d) ∧ V.cell? ⟨bk, 4, none⟩ = some (.int .i64 e) ∧ (convert 22 9 (.slice (some ⟨g3, j, none⟩) 6 (c3 - j))).run Try.prog V = .ok (.string ⟨E.toArray⟩) V) V1 := ⟨hb7, (keys_held QY.out QK.out hb7).1, (keys_held QY.out QK.out hb7).2.1, (keys_held QY.out QK.out hb7).2.2.1, (keys_held QY.out QK.out hb7).2.2.2.1, (keys_held QY.out QK.out hb7).2.2.2.2.1, (keys_held QY.out QK.out hb7).2.2.2.2.2.1, (keys_held QY.out QK.out hb7).2.2.2.2.2.2.1, (keys_held QY.out QK.out hb7).2.2.2.2.2.2.2.1, (keys_held QY.out QK.out hb7).2.2.2.2.2.2.2.2.1, (keys_held QY.out QK.out hb7).2.2.2.2.2.2.2.2.2, CF.out _ hb7⟩
          go_wp2_with fail
          refine HK.out _ V1 (fun _ => hS2) ?_
          clear HK hc7
          refine but_run (i := 9) (by kernel_rfl) rfl ((wanted_at rfl rfl rfl rfl).trans rfl) ?_
          simp only [List.getElem_toArray, List.getElem_cons_succ, List.getElem_cons_zero]
          intro K HK
          go_wp2_with fail
          refine HK.out _ V1 (fun _ => hS2) ?_
          clear HK
          refine but_take (f := 28) (i := 15) (v := ?v3t15) rfl (by kernel_rfl) (by kernel_rfl) (by kernel_rfl) (by kernel_rfl) (by kernel_rfl) (fun _ _ _ h => h) (Or.inl ⟨((wanted_at rfl rfl rfl rfl).trans rfl), ?hy3t15⟩) hS2 ?rest3t15
          case hy3t15 =>
            intro W hW
            obtain ⟨h0, h1, h2, h3, h4, h5, h6, h7, h8, h9, h10, h11⟩ := hW
            go_simp
            exact rfl
          simp only [List.getElem_toArray, List.getElem_cons_succ, List.getElem_cons_zero, Act.put, List.setIfInBounds_toArray, List.set_cons_zero, List.set_cons_succ]
          refine but_take (f := 28) (i := 16) (v := ?v3t16) rfl (by kernel_rfl) (by kernel_rfl) (by kernel_rfl) (by kernel_rfl) (by kernel_rfl) (fun _ _ _ h => h) (Or.inl ⟨((wanted_at rfl rfl rfl rfl).trans rfl), ?hy3t16⟩) hS2 ?rest3t16
          case hy3t16 =>
            intro W hW
            obtain ⟨h0, h1, h2, h3, h4, h5, h6, h7, h8, h9, h10, h11⟩ := hW
            go_simp
            exact rfl
          simp only [List.getElem_toArray, List.getElem_cons_succ, List.getElem_cons_zero, Act.put, List.setIfInBounds_toArray, List.set_cons_zero, List.set_cons_succ]
          refine but_take (f := 28) (i := 17) (v := ?v3t17) rfl (by kernel_rfl) (by kernel_rfl) (by kernel_rfl) (by kernel_rfl) (by kernel_rfl) (fun _ _ _ h => h) (Or.inl ⟨(by rfl), ?hy3t17⟩) hS2 ?rest3t17
          case hy3t17 =>
            intro W hW
            obtain ⟨h0, h1, h2, h3, h4, h5, h6, h7, h8, h9, h10, h11⟩ := hW
            go_simp
            exact rfl
          simp only [List.getElem_toArray, List.getElem_cons_succ, List.getElem_cons_zero, Act.put, List.setIfInBounds_toArray, List.set_cons_zero, List.set_cons_succ]
          refine but_take (f := 28) (i := 18) (v := ?v3t18) rfl (by kernel_rfl) (by kernel_rfl) (by kernel_rfl) (by kernel_rfl) (by kernel_rfl) (fun _ _ _ h => h) (Or.inl ⟨(by rfl), ?hy3t18⟩) hS2 ?rest3t18
          case hy3t18 =>
            intro W hW
            obtain ⟨h0, h1, h2, h3, h4, h5, h6, h7, h8, h9, h10, h11⟩ := hW
            go_simp
            exact rfl
          simp only [List.getElem_toArray, List.getElem_cons_succ, List.getElem_cons_zero, Act.put, List.setIfInBounds_toArray, List.set_cons_zero, List.set_cons_succ]
          refine but_take (f := 28) (i := 19) (v := ?v3t19) rfl (by kernel_rfl) (by kernel_rfl) (by kernel_rfl) (by kernel_rfl) (by kernel_rfl) (fun _ _ _ h => h) (Or.inl ⟨((wanted_at rfl rfl rfl rfl).trans rfl), ?hy3t19⟩) hS2 ?rest3t19
          case hy3t19 =>
            intro W hW
            obtain ⟨h0, h1, h2, h3, h4, h5, h6, h7, h8, h9, h10, h11⟩ := hW
            go_simp
            exact rfl
          simp only [List.getElem_toArray, List.getElem_cons_succ, List.getElem_cons_zero, Act.put, List.setIfInBounds_toArray, List.set_cons_zero, List.set_cons_succ]
          refine but_take (f := 28) (i := 20) (v := ?v3t20) rfl (by kernel_rfl) (by kernel_rfl) (by kernel_rfl) (by kernel_rfl) (by kernel_rfl) (fun _ _ _ h => h) (Or.inl ⟨((wanted_at rfl rfl rfl rfl).trans rfl), ?hy3t20⟩) hS2 ?rest3t20
          case hy3t20 =>
            intro W hW
            obtain ⟨h0, h1, h2, h3, h4, h5, h6, h7, h8, h9, h10, h11⟩ := hW
            go_simp
            exact rfl
          simp only [List.getElem_toArray, List.getElem_cons_succ, List.getElem_cons_zero, Act.put, List.setIfInBounds_toArray, List.set_cons_zero, List.set_cons_succ]
          refine but_take (f := 28) (i := 21) (v := ?v3t21) rfl (by kernel_rfl) (by kernel_rfl) (by kernel_rfl) (by kernel_rfl) (by kernel_rfl) (fun _ _ _ h => h) (Or.inl ⟨(by rfl), ?hy3t21⟩) hS2 ?rest3t21
          case hy3t21 =>
            intro W hW
            obtain ⟨h0, h1, h2, h3, h4, h5, h6, h7, h8, h9, h10, h11⟩ := hW
            go_simp
            exact rfl
          simp only [List.getElem_toArray, List.getElem_cons_succ, List.getElem_cons_zero, Act.put, List.setIfInBounds_toArray, List.set_cons_zero, List.set_cons_succ]
          refine but_take (f := 28) (i := 22) (v := ?v3t22) rfl (by kernel_rfl) (by kernel_rfl) (by kernel_rfl) (by kernel_rfl) (by kernel_rfl) (fun _ _ _ h => h) (Or.inl ⟨(by rfl), ?hy3t22⟩) hS2 ?rest3t22
          case hy3t22 =>
            intro W hW
            obtain ⟨h0, h1, h2, h3, h4, h5, h6, h7, h8, h9, h10, h11⟩ := hW
            go_simp
            exact rfl
          simp only [List.getElem_toArray, List.getElem_cons_succ, List.getElem_cons_zero, Act.put, List.setIfInBounds_toArray, List.set_cons_zero, List.set_cons_succ]
          refine but_take (f := 28) (i := 23) (v := ?v3t23) rfl (by kernel_rfl) (by kernel_rfl) (by kernel_rfl) (by kernel_rfl) (by kernel_rfl) (fun _ _ _ h => h) (Or.inl ⟨((wanted_at rfl rfl rfl rfl).trans rfl), ?hy3t23⟩) hS2 ?rest3t23
          case hy3t23 =>
            intro W hW
            obtain ⟨h0, h1, h2, h3, h4, h5, h6, h7, h8, h9, h10, h11⟩ := hW
            go_simp
            exact rfl
          simp only [List.getElem_toArray, List.getElem_cons_succ, List.getElem_cons_zero, Act.put, List.setIfInBounds_toArray, List.set_cons_zero, List.set_cons_succ]
          refine but_take (f := 28) (i := 25) (v := ?v3t25) rfl (by kernel_rfl) (by kernel_rfl) (by kernel_rfl) (by kernel_rfl) (by kernel_rfl) (fun _ _ _ h => h) (Or.inl ⟨((wanted_at rfl rfl rfl rfl).trans rfl), ?hy3t25⟩) hS2 ?rest3t25
          case hy3t25 =>
            intro W hW
            obtain ⟨h0, h1, h2, h3, h4, h5, h6, h7, h8, h9, h10, h11⟩ := hW
            go_simp
            exact rfl
          simp only [List.getElem_toArray, List.getElem_cons_succ, List.getElem_cons_zero, Act.put, List.setIfInBounds_toArray, List.set_cons_zero, List.set_cons_succ]
          refine but_run (i := 24) (by kernel_rfl) rfl ((wanted_at rfl rfl rfl rfl).trans rfl) ?_
          simp only [List.getElem_toArray, List.getElem_cons_succ, List.getElem_cons_zero]
          intro K HK
          go_wp2_with fail
          refine (HKI2.out _ hS2.1).mono ?_
          rintro r V2 ⟨rfl, hb8⟩
          have hS8 : (fun V => Below wc.heap.size wc V ∧ V.cell? ⟨by_, 0, none⟩ = some (.int .i64 y1) ∧ V.cell? ⟨by_, 1, none⟩ = some (.int .i64 y2) ∧ V.cell? ⟨by_, 2, none⟩ = some (.int .i64 y3) ∧ V.cell? ⟨by_, 3, none⟩ = some (.int .i64 y4) ∧ V.cell? ⟨by_, 4, none⟩ = some (.int .i64 y5) ∧ V.cell? ⟨bk, 0, none⟩ = some (.int .i64 a) ∧ V.cell? ⟨bk, 1, none⟩ = some (.int .i64 b) ∧ V.cell? ⟨bk, 2, none⟩ = some (.int .i64 c) ∧ V.cell? ⟨bk, 3, none⟩ = some (.int .i64 d) ∧ V.cell? ⟨bk, 4, none⟩ = some (.int .i64 e) ∧ (convert 22 9 (.slice (some ⟨g3, j, none⟩) 6 (c3 - j))).run Try.prog V = .ok (.string ⟨E.toArray⟩) V) V2 := ⟨hb8, (keys_held QY.out QK.out hb8).1, (keys_held QY.out QK.out hb8).2.1, (keys_held QY.out QK.out hb8).2.2.1, (keys_held QY.out QK.out hb8).2.2.2.1, (keys_held QY.out QK.out hb8).2.2.2.2.1, (keys_held QY.out QK.out hb8).2.2.2.2.2.1, (keys_held QY.out QK.out hb8).2.2.2.2.2.2.1, (keys_held QY.out QK.out hb8).2.2.2.2.2.2.2.1, (keys_held QY.out QK.out hb8).2.2.2.2.2.2.2.2.1, (keys_held QY.out QK.out hb8).2.2.2.2.2.2.2.2.2, CF.out _ hb8⟩
          go_wp2_with fail
          refine HK.out _ V2 (fun _ => hS8) ?_
          clear HK
          refine but_run (i := 26) (by kernel_rfl) rfl ((wanted_at rfl rfl rfl rfl).trans rfl) ?_
          simp only [List.getElem_toArray, List.getElem_cons_succ, List.getElem_cons_zero]
          intro K HK
          go_wp2_with fail
          refine (HKS2.out _ hb8).mono ?_
          rintro r V3 ⟨rfl, hb9⟩
          have hS9 : (fun V => Below wc.heap.size wc V ∧ V.cell? ⟨by_, 0, none⟩ = some (.int .i64 y1) ∧ V.cell? ⟨by_, 1, none⟩ = some (.int .i64 y2) ∧ V.cell? ⟨by_, 2, none⟩ = some (.int .i64 y3) ∧ V.cell? ⟨by_, 3, none⟩ = some (.int .i64 y4) ∧ V.cell? ⟨by_, 4, none⟩ = some (.int .i64 y5) ∧ V.cell? ⟨bk, 0, none⟩ = some (.int .i64 a) ∧ V.cell? ⟨bk, 1, none⟩ = some (.int .i64 b) ∧ V.cell? ⟨bk, 2, none⟩ = some (.int .i64 c) ∧ V.cell? ⟨bk, 3, none⟩ = some (.int .i64 d) ∧ V.cell? ⟨bk, 4, none⟩ = some (.int .i64 e) ∧ (convert 22 9 (.slice (some ⟨g3, j, none⟩) 6 (c3 - j))).run Try.prog V = .ok (.string ⟨E.toArray⟩) V) V3 := ⟨hb9, (keys_held QY.out QK.out hb9).1, (keys_held QY.out QK.out hb9).2.1, (keys_held QY.out QK.out hb9).2.2.1, (keys_held QY.out QK.out hb9).2.2.2.1, (keys_held QY.out QK.out hb9).2.2.2.2.1, (keys_held QY.out QK.out hb9).2.2.2.2.2.1, (keys_held QY.out QK.out hb9).2.2.2.2.2.2.1, (keys_held QY.out QK.out hb9).2.2.2.2.2.2.2.1, (keys_held QY.out QK.out hb9).2.2.2.2.2.2.2.2.1, (keys_held QY.out QK.out hb9).2.2.2.2.2.2.2.2.2, CF.out _ hb9⟩
          go_wp2_with fail
          refine HK.out _ V3 (fun _ => hS9) ?_
          clear HK
          refine but_take (f := 28) (i := 27) (v := ?v3t27) rfl (by kernel_rfl) (by kernel_rfl) (by kernel_rfl) (by kernel_rfl) (by kernel_rfl) (fun _ _ _ h => h) (Or.inl ⟨((wanted_at rfl rfl rfl rfl).trans rfl), ?hy3t27⟩) hS9 ?rest3t27
          case hy3t27 =>
            intro W hW
            obtain ⟨h0, h1, h2, h3, h4, h5, h6, h7, h8, h9, h10, h11⟩ := hW
            go_simp
            exact rfl
          simp only [List.getElem_toArray, List.getElem_cons_succ, List.getElem_cons_zero, Act.put, List.setIfInBounds_toArray, List.set_cons_zero, List.set_cons_succ]
          refine but_run (i := 28) (by kernel_rfl) rfl (by rfl) ?_
          simp only [List.getElem_toArray, List.getElem_cons_succ, List.getElem_cons_zero]
          intro K HK
          go_wp2_with fail
          refine HK.out _ V3 (fun h => absurd rfl h) ?_
          clear HK
          refine but_done (by kernel_rfl) ?_
          go_wp2_with fail
          go_meet
          exact ⟨rfl, Lib.hid hb9⟩
        · clear hget HY
          have hS0 : (fun V => Below wc.heap.size wc V ∧ V.cell? ⟨by_, 0, none⟩ = some (.int .i64 y1) ∧ V.cell? ⟨by_, 1, none⟩ = some (.int .i64 y2) ∧ V.cell? ⟨by_, 2, none⟩ = some (.int .i64 y3) ∧ V.cell? ⟨by_, 3, none⟩ = some (.int .i64 y4) ∧ V.cell? ⟨by_, 4, none⟩ = some (.int .i64 y5) ∧ V.cell? ⟨bk, 0, none⟩ = some (.int .i64 a) ∧ V.cell? ⟨bk, 1, none⟩ = some (.int .i64 b) ∧ V.cell? ⟨bk, 2, none⟩ = some (.int .i64 c) ∧ V.cell? ⟨bk, 3, none⟩ = some (.int .i64 d) ∧ V.cell? ⟨bk, 4, none⟩ = some (.int .i64 e)) wc.drew := keys_held2 QY.out QK.out hdw
          refine but_begin (f := 28) (S := (fun V => Below wc.heap.size wc V ∧ V.cell? ⟨by_, 0, none⟩ = some (.int .i64 y1) ∧ V.cell? ⟨by_, 1, none⟩ = some (.int .i64 y2) ∧ V.cell? ⟨by_, 2, none⟩ = some (.int .i64 y3) ∧ V.cell? ⟨by_, 3, none⟩ = some (.int .i64 y4) ∧ V.cell? ⟨by_, 4, none⟩ = some (.int .i64 y5) ∧ V.cell? ⟨bk, 0, none⟩ = some (.int .i64 a) ∧ V.cell? ⟨bk, 1, none⟩ = some (.int .i64 b) ∧ V.cell? ⟨bk, 2, none⟩ = some (.int .i64 c) ∧ V.cell? ⟨bk, 3, none⟩ = some (.int .i64 d) ∧ V.cell? ⟨bk, 4, none⟩ = some (.int .i64 e))) (by kernel_rfl) ?_
          refine but_take (f := 28) (i := 0) (v := ?v3f0) rfl (by kernel_rfl) (by kernel_rfl) (by kernel_rfl) (by kernel_rfl) (by kernel_rfl) (fun _ _ _ h => h) (Or.inl ⟨(by rfl), ?hy3f0⟩) hS0 ?rest3f0
          case hy3f0 =>
            intro W hW
            obtain ⟨h0, h1, h2, h3, h4, h5, h6, h7, h8, h9, h10⟩ := hW
            go_simp
            exact rfl
          simp only [List.getElem_toArray, List.getElem_cons_succ, List.getElem_cons_zero, Act.put, List.setIfInBounds_toArray, List.set_cons_zero, List.set_cons_succ]
          refine but_take (f := 28) (i := 1) (v := ?v3f1) rfl (by kernel_rfl) (by kernel_rfl) (by kernel_rfl) (by kernel_rfl) (by kernel_rfl) (fun _ _ _ h => h) (Or.inl ⟨(by rfl), ?hy3f1⟩) hS0 ?rest3f1
          case hy3f1 =>
            intro W hW
            obtain ⟨h0, h1, h2, h3, h4, h5, h6, h7, h8, h9, h10⟩ := hW
            go_simp
            exact rfl
          simp only [List.getElem_toArray, List.getElem_cons_succ, List.getElem_cons_zero, Act.put, List.setIfInBounds_toArray, List.set_cons_zero, List.set_cons_succ]
          refine but_take (f := 28) (i := 2) (v := ?v3f2) rfl (by kernel_rfl) (by kernel_rfl) (by kernel_rfl) (by kernel_rfl) (by kernel_rfl) (fun _ _ _ h => h) (Or.inl ⟨(by rfl), ?hy3f2⟩) hS0 ?rest3f2
          case hy3f2 =>
            intro W hW
            obtain ⟨h0, h1, h2, h3, h4, h5, h6, h7, h8, h9, h10⟩ := hW
            go_simp
            exact rfl
          simp only [List.getElem_toArray, List.getElem_cons_succ, List.getElem_cons_zero, Act.put, List.setIfInBounds_toArray, List.set_cons_zero, List.set_cons_succ]
          refine but_take (f := 28) (i := 3) (v := ?v3f3) rfl (by kernel_rfl) (by kernel_rfl) (by kernel_rfl) (by kernel_rfl) (by kernel_rfl) (fun _ _ _ h => h) (Or.inl ⟨(by rfl), ?hy3f3⟩) hS0 ?rest3f3
          case hy3f3 =>
            intro W hW
            obtain ⟨h0, h1, h2, h3, h4, h5, h6, h7, h8, h9, h10⟩ := hW
            go_simp
            exact rfl
          simp only [List.getElem_toArray, List.getElem_cons_succ, List.getElem_cons_zero, Act.put, List.setIfInBounds_toArray, List.set_cons_zero, List.set_cons_succ]
          refine but_take (f := 28) (i := 4) (v := ?v3f4) rfl (by kernel_rfl) (by kernel_rfl) (by kernel_rfl) (by kernel_rfl) (by kernel_rfl) (fun _ _ _ h => h) (Or.inl ⟨((wanted_at rfl rfl rfl rfl).trans rfl), ?hy3f4⟩) hS0 ?rest3f4
          case hy3f4 =>
            intro W hW
            obtain ⟨h0, h1, h2, h3, h4, h5, h6, h7, h8, h9, h10⟩ := hW
            go_simp
            exact rfl
          simp only [List.getElem_toArray, List.getElem_cons_succ, List.getElem_cons_zero, Act.put, List.setIfInBounds_toArray, List.set_cons_zero, List.set_cons_succ]
          refine but_take (f := 28) (i := 5) (v := ?v3f5) rfl (by kernel_rfl) (by kernel_rfl) (by kernel_rfl) (by kernel_rfl) (by kernel_rfl) (fun _ _ _ h => h) (Or.inl ⟨((wanted_at rfl rfl rfl rfl).trans rfl), ?hy3f5⟩) hS0 ?rest3f5
          case hy3f5 =>
            intro W hW
            obtain ⟨h0, h1, h2, h3, h4, h5, h6, h7, h8, h9, h10⟩ := hW
            go_simp
            exact rfl
          simp only [List.getElem_toArray, List.getElem_cons_succ, List.getElem_cons_zero, Act.put, List.setIfInBounds_toArray, List.set_cons_zero, List.set_cons_succ]
          refine but_take (f := 28) (i := 6) (v := undef) rfl (by kernel_rfl) (by kernel_rfl) (by kernel_rfl) (by kernel_rfl) (by kernel_rfl) (fun _ _ _ h => h) (Or.inr ⟨((wanted_at rfl rfl rfl rfl).trans rfl), rfl⟩) hS0 ?_
          simp only [List.getElem_toArray, List.getElem_cons_succ, List.getElem_cons_zero, Act.put, List.setIfInBounds_toArray, List.set_cons_zero, List.set_cons_succ]
          refine but_take (f := 28) (i := 7) (v := undef) rfl (by kernel_rfl) (by kernel_rfl) (by kernel_rfl) (by kernel_rfl) (by kernel_rfl) (fun _ _ _ h => h) (Or.inr ⟨((wanted_at rfl rfl rfl rfl).trans rfl), rfl⟩) hS0 ?_
          simp only [List.getElem_toArray, List.getElem_cons_succ, List.getElem_cons_zero, Act.put, List.setIfInBounds_toArray, List.set_cons_zero, List.set_cons_succ]
          refine but_take (f := 28) (i := 8) (v := undef) rfl (by kernel_rfl) (by kernel_rfl) (by kernel_rfl) (by kernel_rfl) (by kernel_rfl) (fun _ _ _ h => h) (Or.inr ⟨((wanted_at rfl rfl rfl rfl).trans rfl), rfl⟩) hS0 ?_
          simp only [List.getElem_toArray, List.getElem_cons_succ, List.getElem_cons_zero, Act.put, List.setIfInBounds_toArray, List.set_cons_zero, List.set_cons_succ]
          refine but_take (f := 28) (i := 9) (v := undef) rfl (by kernel_rfl) (by kernel_rfl) (by kernel_rfl) (by kernel_rfl) (by kernel_rfl) (fun _ _ _ h => h) (Or.inr ⟨((wanted_at rfl rfl rfl rfl).trans rfl), rfl⟩) hS0 ?_
          simp only [List.getElem_toArray, List.getElem_cons_succ, List.getElem_cons_zero, Act.put, List.setIfInBounds_toArray, List.set_cons_zero, List.set_cons_succ]
          refine but_take (f := 28) (i := 10) (v := undef) rfl (by kernel_rfl) (by kernel_rfl) (by kernel_rfl) (by kernel_rfl) (by kernel_rfl) (fun _ _ _ h => h) (Or.inr ⟨((wanted_at rfl rfl rfl rfl).trans rfl), rfl⟩) hS0 ?_
          simp only [List.getElem_toArray, List.getElem_cons_succ, List.getElem_cons_zero, Act.put, List.setIfInBounds_toArray, List.set_cons_zero, List.set_cons_succ]
          refine but_take (f := 28) (i := 11) (v := undef) rfl (by kernel_rfl) (by kernel_rfl) (by kernel_rfl) (by kernel_rfl) (by kernel_rfl) (fun _ _ _ h => h) (Or.inr ⟨((wanted_at rfl rfl rfl rfl).trans rfl), rfl⟩) hS0 ?_
          simp only [List.getElem_toArray, List.getElem_cons_succ, List.getElem_cons_zero, Act.put, List.setIfInBounds_toArray, List.set_cons_zero, List.set_cons_succ]
          refine but_take (f := 28) (i := 12) (v := undef) rfl (by kernel_rfl) (by kernel_rfl) (by kernel_rfl) (by kernel_rfl) (by kernel_rfl) (fun _ _ _ h => h) (Or.inr ⟨((wanted_at rfl rfl rfl rfl).trans rfl), rfl⟩) hS0 ?_
          simp only [List.getElem_toArray, List.getElem_cons_succ, List.getElem_cons_zero, Act.put, List.setIfInBounds_toArray, List.set_cons_zero, List.set_cons_succ]
          refine but_take (f := 28) (i := 13) (v := undef) rfl (by kernel_rfl) (by kernel_rfl) (by kernel_rfl) (by kernel_rfl) (by kernel_rfl) (fun _ _ _ h => h) (Or.inr ⟨((wanted_at rfl rfl rfl rfl).trans rfl), rfl⟩) hS0 ?_
          simp only [List.getElem_toArray, List.getElem_cons_succ, List.getElem_cons_zero, Act.put, List.setIfInBounds_toArray, List.set_cons_zero, List.set_cons_succ]
          refine but_take (f := 28) (i := 14) (v := undef) rfl (by kernel_rfl) (by kernel_rfl) (by kernel_rfl) (by kernel_rfl) (by kernel_rfl) (fun _ _ _ h => h) (Or.inr ⟨((wanted_at rfl rfl rfl rfl).trans rfl), rfl⟩) hS0 ?_
          simp only [List.getElem_toArray, List.getElem_cons_succ, List.getElem_cons_zero, Act.put, List.setIfInBounds_toArray, List.set_cons_zero, List.set_cons_succ]
          refine but_take (f := 28) (i := 15) (v := undef) rfl (by kernel_rfl) (by kernel_rfl) (by kernel_rfl) (by kernel_rfl) (by kernel_rfl) (fun _ _ _ h => h) (Or.inr ⟨((wanted_at rfl rfl rfl rfl).trans rfl), rfl⟩) hS0 ?_
          simp only [List.getElem_toArray, List.getElem_cons_succ, List.getElem_cons_zero, Act.put, List.setIfInBounds_toArray, List.set_cons_zero, List.set_cons_succ]
          refine but_take (f := 28) (i := 16) (v := ?v3f16) rfl (by kernel_rfl) (by kernel_rfl) (by kernel_rfl) (by kernel_rfl) (by kernel_rfl) (fun _ _ _ h => h) (Or.inl ⟨((wanted_at rfl rfl rfl rfl).trans rfl), ?hy3f16⟩) hS0 ?rest3f16
          case hy3f16 =>
            intro W hW
            obtain ⟨h0, h1, h2, h3, h4, h5, h6, h7, h8, h9, h10⟩ := hW
            go_simp
            exact rfl
          simp only [List.getElem_toArray, List.getElem_cons_succ, List.getElem_cons_zero, Act.put, List.setIfInBounds_toArray, List.set_cons_zero, List.set_cons_succ]
          refine but_take (f := 28) (i := 17) (v := ?v3f17) rfl (by kernel_rfl) (by kernel_rfl) (by kernel_rfl) (by kernel_rfl) (by kernel_rfl) (fun _ _ _ h => h) (Or.inl ⟨(by rfl), ?hy3f17⟩) hS0 ?rest3f17
          case hy3f17 =>
            intro W hW
            obtain ⟨h0, h1, h2, h3, h4, h5, h6, h7, h8, h9, h10⟩ := hW
            go_simp
            exact rfl
          simp only [List.getElem_toArray, List.getElem_cons_succ, List.getElem_cons_zero, Act.put, List.setIfInBounds_toArray, List.set_cons_zero, List.set_cons_succ]
          refine but_take (f := 28) (i := 18) (v := ?v3f18) rfl (by kernel_rfl) (by kernel_rfl) (by kernel_rfl) (by kernel_rfl) (by kernel_rfl) (fun _ _ _ h => h) (Or.inl ⟨(by rfl), ?hy3f18⟩) hS0 ?rest3f18
          case hy3f18 =>
            intro W hW
            obtain ⟨h0, h1, h2, h3, h4, h5, h6, h7, h8, h9, h10⟩ := hW
            go_simp
            exact rfl
          simp only [List.getElem_toArray, List.getElem_cons_succ, List.getElem_cons_zero, Act.put, List.setIfInBounds_toArray, List.set_cons_zero, List.set_cons_succ]
          refine but_take (f := 28) (i := 19) (v := ?v3f19) rfl (by kernel_rfl) (by kernel_rfl) (by kernel_rfl) (by kernel_rfl) (by kernel_rfl) (fun _ _ _ h => h) (Or.inl ⟨((wanted_at rfl rfl rfl rfl).trans rfl), ?hy3f19⟩) hS0 ?rest3f19
          case hy3f19 =>
            intro W hW
            obtain ⟨h0, h1, h2, h3, h4, h5, h6, h7, h8, h9, h10⟩ := hW
            go_simp
            exact rfl
          simp only [List.getElem_toArray, List.getElem_cons_succ, List.getElem_cons_zero, Act.put, List.setIfInBounds_toArray, List.set_cons_zero, List.set_cons_succ]
          refine but_take (f := 28) (i := 20) (v := ?v3f20) rfl (by kernel_rfl) (by kernel_rfl) (by kernel_rfl) (by kernel_rfl) (by kernel_rfl) (fun _ _ _ h => h) (Or.inl ⟨((wanted_at rfl rfl rfl rfl).trans rfl), ?hy3f20⟩) hS0 ?rest3f20
          case hy3f20 =>
            intro W hW
            obtain ⟨h0, h1, h2, h3, h4, h5, h6, h7, h8, h9, h10⟩ := hW
            go_simp
            exact rfl
          simp only [List.getElem_toArray, List.getElem_cons_succ, List.getElem_cons_zero, Act.put, List.setIfInBounds_toArray, List.set_cons_zero, List.set_cons_succ]
          refine but_take (f := 28) (i := 21) (v := ?v3f21) rfl (by kernel_rfl) (by kernel_rfl) (by kernel_rfl) (by kernel_rfl) (by kernel_rfl) (fun _ _ _ h => h) (Or.inl ⟨(by rfl), ?hy3f21⟩) hS0 ?rest3f21
          case hy3f21 =>
            intro W hW
            obtain ⟨h0, h1, h2, h3, h4, h5, h6, h7, h8, h9, h10⟩ := hW
            go_simp
            exact rfl
          simp only [List.getElem_toArray, List.getElem_cons_succ, List.getElem_cons_zero, Act.put, List.setIfInBounds_toArray, List.set_cons_zero, List.set_cons_succ]
          refine but_take (f := 28) (i := 22) (v := ?v3f22) rfl (by kernel_rfl) (by kernel_rfl) (by kernel_rfl) (by kernel_rfl) (by kernel_rfl) (fun _ _ _ h => h) (Or.inl ⟨(by rfl), ?hy3f22⟩) hS0 ?rest3f22
          case hy3f22 =>
            intro W hW
            obtain ⟨h0, h1, h2, h3, h4, h5, h6, h7, h8, h9, h10⟩ := hW
            go_simp
            exact rfl
          simp only [List.getElem_toArray, List.getElem_cons_succ, List.getElem_cons_zero, Act.put, List.setIfInBounds_toArray, List.set_cons_zero, List.set_cons_succ]
          refine but_take (f := 28) (i := 23) (v := ?v3f23) rfl (by kernel_rfl) (by kernel_rfl) (by kernel_rfl) (by kernel_rfl) (by kernel_rfl) (fun _ _ _ h => h) (Or.inl ⟨((wanted_at rfl rfl rfl rfl).trans rfl), ?hy3f23⟩) hS0 ?rest3f23
          case hy3f23 =>
            intro W hW
            obtain ⟨h0, h1, h2, h3, h4, h5, h6, h7, h8, h9, h10⟩ := hW
            go_simp
            exact rfl
          simp only [List.getElem_toArray, List.getElem_cons_succ, List.getElem_cons_zero, Act.put, List.setIfInBounds_toArray, List.set_cons_zero, List.set_cons_succ]
          refine but_take (f := 28) (i := 25) (v := ?v3f25) rfl (by kernel_rfl) (by kernel_rfl) (by kernel_rfl) (by kernel_rfl) (by kernel_rfl) (fun _ _ _ h => h) (Or.inl ⟨((wanted_at rfl rfl rfl rfl).trans rfl), ?hy3f25⟩) hS0 ?rest3f25
          case hy3f25 =>
            intro W hW
            obtain ⟨h0, h1, h2, h3, h4, h5, h6, h7, h8, h9, h10⟩ := hW
            go_simp
            exact rfl
          simp only [List.getElem_toArray, List.getElem_cons_succ, List.getElem_cons_zero, Act.put, List.setIfInBounds_toArray, List.set_cons_zero, List.set_cons_succ]
          refine but_run (i := 24) (by kernel_rfl) rfl ((wanted_at rfl rfl rfl rfl).trans rfl) ?_
          simp only [List.getElem_toArray, List.getElem_cons_succ, List.getElem_cons_zero]
          intro K HK
          go_wp2_with fail
          refine (HKI2.out _ hS0.1).mono ?_
          rintro r V2 ⟨rfl, hb8⟩
          have hS8 : (fun V => Below wc.heap.size wc V ∧ V.cell? ⟨by_, 0, none⟩ = some (.int .i64 y1) ∧ V.cell? ⟨by_, 1, none⟩ = some (.int .i64 y2) ∧ V.cell? ⟨by_, 2, none⟩ = some (.int .i64 y3) ∧ V.cell? ⟨by_, 3, none⟩ = some (.int .i64 y4) ∧ V.cell? ⟨by_, 4, none⟩ = some (.int .i64 y5) ∧ V.cell? ⟨bk, 0, none⟩ = some (.int .i64 a) ∧ V.cell? ⟨bk, 1, none⟩ = some (.int .i64 b) ∧ V.cell? ⟨bk, 2, none⟩ = some (.int .i64 c) ∧ V.cell? ⟨bk, 3, none⟩ = some (.int .i64 d) ∧ V.cell? ⟨bk, 4, none⟩ = some (.int .i64 e)) V2 := keys_held2 QY.out QK.out hb8
          go_wp2_with fail
          refine HK.out _ V2 (fun _ => hS8) ?_
          clear HK
          refine but_run (i := 26) (by kernel_rfl) rfl ((wanted_at rfl rfl rfl rfl).trans rfl) ?_
          simp only [List.getElem_toArray, List.getElem_cons_succ, List.getElem_cons_zero]
          intro K HK
          go_wp2_with fail
          refine (HKS2.out _ hb8).mono ?_
          rintro r V3 ⟨rfl, hb9⟩
          have hS9 : (fun V => Below wc.heap.size wc V ∧ V.cell? ⟨by_, 0, none⟩ = some (.int .i64 y1) ∧ V.cell? ⟨by_, 1, none⟩ = some (.int .i64 y2) ∧ V.cell? ⟨by_, 2, none⟩ = some (.int .i64 y3) ∧ V.cell? ⟨by_, 3, none⟩ = some (.int .i64 y4) ∧ V.cell? ⟨by_, 4, none⟩ = some (.int .i64 y5) ∧ V.cell? ⟨bk, 0, none⟩ = some (.int .i64 a) ∧ V.cell? ⟨bk, 1, none⟩ = some (.int .i64 b) ∧ V.cell? ⟨bk, 2, none⟩ = some (.int .i64 c) ∧ V.cell? ⟨bk, 3, none⟩ = some (.int .i64 d) ∧ V.cell? ⟨bk, 4, none⟩ = some (.int .i64 e)) V3 := keys_held2 QY.out QK.out hb9
          go_wp2_with fail
          refine HK.out _ V3 (fun _ => hS9) ?_
          clear HK
          refine but_take (f := 28) (i := 27) (v := ?v3f27) rfl (by kernel_rfl) (by kernel_rfl) (by kernel_rfl) (by kernel_rfl) (by kernel_rfl) (fun _ _ _ h => h) (Or.inl ⟨((wanted_at rfl rfl rfl rfl).trans rfl), ?hy3f27⟩) hS9 ?rest3f27
          case hy3f27 =>
            intro W hW
            obtain ⟨h0, h1, h2, h3, h4, h5, h6, h7, h8, h9, h10⟩ := hW
            go_simp
            exact rfl
          simp only [List.getElem_toArray, List.getElem_cons_succ, List.getElem_cons_zero, Act.put, List.setIfInBounds_toArray, List.set_cons_zero, List.set_cons_succ]
          refine but_run (i := 28) (by kernel_rfl) rfl (by rfl) ?_
          simp only [List.getElem_toArray, List.getElem_cons_succ, List.getElem_cons_zero]
          intro K HK
          go_wp2_with fail
          refine HK.out _ V3 (fun h => absurd rfl h) ?_
          clear HK
          refine but_done (by kernel_rfl) ?_
          go_wp2_with fail
          go_meet
          exact ⟨rfl, Lib.hid hb9⟩
      case rest =>
        obtain ⟨rfl, HX⟩ := hcut
        rename_i wd
        replace QK := Lib.hid (box_on QK.out HX.out)
        replace OB := Lib.hid (OB.out.on HX.out)
        replace OP := Lib.hid (OP.out.on HX.out)
        replace BB := Lib.hid (bstep BB.out HX.out)
        clear HX QY OC HY HKI2 HKS2 hdw HKS
        obtain ⟨p0, p1, p2, p3, p4, p5⟩ := box5 QK.out
        go_wp2_with fail
        refine (HKI.out _).mono ?_
        rintro r we ⟨rfl, be⟩
        replace QK := Lib.hid (box_on QK.out be)
        replace OB := Lib.hid (OB.out.on be)
        replace OP := Lib.hid (OP.out.on be)
        replace BB := Lib.hid (bstep BB.out be)
        clear p0 p1 p2 p3 p4 p5 be
        cases kb
        · have hPb : P = bl := by rw [HPE.out]; unfold encK; rw [hKB]; simp
          subst hPb
          have k1 := conv_rd OP.out.all hc2
          have k2 := conv_rd OB.out.all hc1
          go_wp2
          go_ret
          exact ⟨rfl, BB.out⟩
        · obtain ⟨hg, hl6⟩ := getK_put hKB HPE.out
          have HG : Hid (Calls Try.prog 40 #[.slice (some ⟨g2, 0, none⟩) P.length c2, .int .i64 (bl.length : Int)] we fun r V' => r = .returned (.tuple #[.agg #[.int .i64 a, .int .i64 b, .int .i64 c, .int .i64 d, .int .i64 e], .int .i64 ((bl.length : Int) + 6), .bool true]) ∧ Below we.heap.size we V') := Lib.hid (by
            have h := implGetKey_any (some ⟨g2, 0, none⟩) c2 P (bl.length : Nat) we OP.out.all (by omega)
            rw [hg] at h
            exact h)
          have tl : (((bl.length : Int) + 6) == (P.length : Int)) = true := by rw [hl6]; simp
          clear hg hl6
          go_wp2_with fail
          refine HG.out.mono ?_
          rintro r wf ⟨rfl, bf⟩
          have qk := box_on QK.out bf
          obtain ⟨p0, p1, p2, p3, p4, p5⟩ := box5 qk
          have hlt : bk < wf.heap.size := (Array.getElem?_eq_some_iff.1 qk).1
          have BF := Lib.hid (bstep (bstep BB.out bf) (bal1 wf (.cells #[.int .i64 a, .int .i64 b, .int .i64 c, .int .i64 d, .int .i64 e] 45)))
          clear bf qk HG
          go_wp2
          go_ret
          exact ⟨rfl, BF.out⟩
  · have d0 : decide ((1048576 : Int) < (l.length : Int)) = true := decide_eq_true (by omega)
    go_enter Try.func6, Try.ntmps6
    go_wp2_with fail
    refine (big_any _ _ _ _).mono ?_
    rintro r w1 ⟨rfl, rfl⟩
    rw [d0]
    go_wp2
    go_ret
    exact ⟨rfl, Below.refl _ _⟩
end Go.Proofs.Ytkahjomkjhlkbaa
