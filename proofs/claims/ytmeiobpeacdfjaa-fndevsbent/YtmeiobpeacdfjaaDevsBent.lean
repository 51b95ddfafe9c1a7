/- The walk of FnDevsBent: at every code the call returns true and writes nothing that was there. No condition. -/
import Derived.Test.YtmeiobpeacdfjaaDrawBentD
import Derived.Test.YtmeiobpeacdfjaaDevSame
import Derived.Test.YtmeiobpeacdfjaaDevReadI
import Derived.Test.YtmeiobpeacdfjaaDevSFall
import Derived.Test.YtmeiobpeacdfjaaDevSWrite
import Derived.Test.YtmeiobpeacdfjaaDevSFlush
import Derived.Test.YtmeiobpeacdfjaaDevSmall
import Derived.Test.YtmeiobpeacdfjaaKeyLaw
namespace Go.Proofs.Ytmeiobpeacdfjaa
open Go.RowKit
set_option maxRecDepth 100000
set_option linter.unusedSimpArgs false
set_option linter.unusedVariables false

set_option maxHeartbeats 20000000 in
theorem devsBent_walk (a0 : Option Addr) (len0 cap0 : Nat) (z0 : List Int) (w : World) (w0 : CameIn .u8 w a0 len0 cap0 z0) :
    Calls Try.prog 3 #[.slice a0 len0 cap0] w fun e w' => e = .returned (.bool true) ∧ Below w.heap.size w w' := by
  obtain ⟨l, rfl, hr⟩ := w0.rd
  clear w0
  by_cases hbig : l.length ≤ 1048576
  · have d0 : decide ((1048576 : Int) < (l.length : Int)) = false := decide_eq_false (by omega)
    have HR := Lib.hid hr
    have BB := Lib.hid (Below.refl w.heap.size w)
    have HIO := Lib.hid implDevOk_any
    have HSO := Lib.hid specDevOk_any
    have HIR := Lib.hid implReadSec_any
    have HSR := Lib.hid specReadSec_any
    have HIW := Lib.hid implWriteSec_any
    have HSW := Lib.hid specWriteSec_any
    have HIF := Lib.hid implFlushDev_any
    have HSF := Lib.hid specFlushDev_any
    have HIA := Lib.hid implFallDev_any
    have HSA := Lib.hid specFallDev_any
    have HIN := Lib.hid implDevNew_any
    have HSN := Lib.hid specDevNew_any
    have HSD := Lib.hid sameDev_same
    clear hr
    go_enter Try.func3, Try.ntmps3
    go_wp2_with fail
    refine (big_any _ _ _ _).mono ?_
    rintro r w1 ⟨rfl, rfl⟩
    rw [d0]
    clear d0
    go_wp2_with fail
    refine (drawDevOk_any _ _ l _ (HR.out.on BB.out) hbig).mono ?_
    rintro r w1 ⟨v, D, rfl, o, sm, bd⟩
    obtain ⟨AD, aD, BD, bD, rfl⟩ := o.rd.shape
    have SD := Lib.hid sm
    have ba := bal1 w1 (.cells #[.slice AD D.secs.length aD, .slice BD D.cache.length bD, .int .i64 D.fuse, .bool D.down] 27)
    have QD := Lib.hid (al1 w1 (.cells #[.slice AD D.secs.length aD, .slice BD D.cache.length bD, .int .i64 D.fuse, .bool D.down] 27))
    have RD := Lib.hid (o.rd.on ba)
    replace bd := bstep bd ba
    replace BB := Lib.hid (bstep BB.out bd)
    clear o sm bd ba
    go_upto_region 4 with (fail)
    generalize w1.alloc (.cells #[.slice AD D.secs.length aD, .slice BD D.cache.length bD, .int .i64 D.fuse, .bool D.down] 27) = w2 at *
    generalize w1.heap.size = pD at *
    go_wp2_with fail
    refine (drawReadSec_any _ _ l _ (HR.out.on BB.out) hbig).mono ?_
    rintro r w3 ⟨v, E, nr, rfl, o, sm, bd⟩
    obtain ⟨AE, aE, BE, bE, rfl⟩ := o.rd.shape
    have SE := Lib.hid sm
    have ba := bal1 w3 (.cells #[.slice AE E.secs.length aE, .slice BE E.cache.length bE, .int .i64 E.fuse, .bool E.down] 27)
    have QE := Lib.hid (al1 w3 (.cells #[.slice AE E.secs.length aE, .slice BE E.cache.length bE, .int .i64 E.fuse, .bool E.down] 27))
    have RE := Lib.hid (o.rd.on ba)
    replace bd := bstep bd ba
    replace QD := Lib.hid (box_on QD.out bd)
    replace RD := Lib.hid (RD.out.on bd)
    replace BB := Lib.hid (bstep BB.out bd)
    clear o sm bd ba
    go_upto_region 5 with (fail)
    generalize w3.alloc (.cells #[.slice AE E.secs.length aE, .slice BE E.cache.length bE, .int .i64 E.fuse, .bool E.down] 27) = w4 at *
    generalize w3.heap.size = pE at *
    go_wp2_with fail
    refine (drawWriteSec_any _ _ l _ (HR.out.on BB.out) hbig).mono ?_
    rintro r w5 ⟨v, F, kw, vb, lb, rfl, o, sm, rb, hlb, bd⟩
    obtain ⟨AF, aF, BF, bF, rfl⟩ := o.rd.shape
    obtain ⟨Ab, cb, rfl, _, _, _⟩ := rb.bytes
    have RB := Lib.hid rb
    clear rb
    have SF := Lib.hid sm
    have ba := bal1 w5 (.cells #[.slice AF F.secs.length aF, .slice BF F.cache.length bF, .int .i64 F.fuse, .bool F.down] 27)
    have QF := Lib.hid (al1 w5 (.cells #[.slice AF F.secs.length aF, .slice BF F.cache.length bF, .int .i64 F.fuse, .bool F.down] 27))
    have RF := Lib.hid (o.rd.on ba)
    replace RB := Lib.hid (RB.out.on ba)
    replace bd := bstep bd ba
    replace QD := Lib.hid (box_on QD.out bd)
    replace RD := Lib.hid (RD.out.on bd)
    replace QE := Lib.hid (box_on QE.out bd)
    replace RE := Lib.hid (RE.out.on bd)
    replace BB := Lib.hid (bstep BB.out bd)
    clear o sm bd ba
    go_upto_region 6 with (fail)
    generalize w5.alloc (.cells #[.slice AF F.secs.length aF, .slice BF F.cache.length bF, .int .i64 F.fuse, .bool F.down] 27) = w6 at *
    generalize w5.heap.size = pF at *
    go_wp2_with fail
    refine (drawFlushDev_any _ _ l _ (HR.out.on BB.out) hbig).mono ?_
    rintro r w7 ⟨v, G, rfl, o, sm, bd⟩
    obtain ⟨AG, aG, BG, bG, rfl⟩ := o.rd.shape
    have SG := Lib.hid sm
    have ba := bal1 w7 (.cells #[.slice AG G.secs.length aG, .slice BG G.cache.length bG, .int .i64 G.fuse, .bool G.down] 27)
    have QG := Lib.hid (al1 w7 (.cells #[.slice AG G.secs.length aG, .slice BG G.cache.length bG, .int .i64 G.fuse, .bool G.down] 27))
    have RG := Lib.hid (o.rd.on ba)
    replace bd := bstep bd ba
    replace QD := Lib.hid (box_on QD.out bd)
    replace RD := Lib.hid (RD.out.on bd)
    replace QE := Lib.hid (box_on QE.out bd)
    replace RE := Lib.hid (RE.out.on bd)
    replace QF := Lib.hid (box_on QF.out bd)
    replace RF := Lib.hid (RF.out.on bd)
    replace RB := Lib.hid (RB.out.on bd)
    replace BB := Lib.hid (bstep BB.out bd)
    clear o sm bd ba
    go_upto_region 7 with (fail)
    generalize w7.alloc (.cells #[.slice AG G.secs.length aG, .slice BG G.cache.length bG, .int .i64 G.fuse, .bool G.down] 27) = w8 at *
    generalize w7.heap.size = pG at *
    go_wp2_with fail
    refine (drawFallDev_any _ _ l _ (HR.out.on BB.out) hbig).mono ?_
    rintro r w9 ⟨v, H, ka, rfl, o, sm, bd⟩
    obtain ⟨AH, aH, BH, bH, rfl⟩ := o.rd.shape
    have SH := Lib.hid sm
    have ba := bal1 w9 (.cells #[.slice AH H.secs.length aH, .slice BH H.cache.length bH, .int .i64 H.fuse, .bool H.down] 27)
    have QH := Lib.hid (al1 w9 (.cells #[.slice AH H.secs.length aH, .slice BH H.cache.length bH, .int .i64 H.fuse, .bool H.down] 27))
    have RH := Lib.hid (o.rd.on ba)
    replace bd := bstep bd ba
    replace QD := Lib.hid (box_on QD.out bd)
    replace RD := Lib.hid (RD.out.on bd)
    replace QE := Lib.hid (box_on QE.out bd)
    replace RE := Lib.hid (RE.out.on bd)
    replace QF := Lib.hid (box_on QF.out bd)
    replace RF := Lib.hid (RF.out.on bd)
    replace RB := Lib.hid (RB.out.on bd)
    replace QG := Lib.hid (box_on QG.out bd)
    replace RG := Lib.hid (RG.out.on bd)
    replace BB := Lib.hid (bstep BB.out bd)
    clear o sm bd ba
    go_upto_region 8 with (fail)
    generalize w9.alloc (.cells #[.slice AH H.secs.length aH, .slice BH H.cache.length bH, .int .i64 H.fuse, .bool H.down] 27) = w10 at *
    generalize w9.heap.size = pH at *
    go_wp2_with fail
    refine (drawDevNew_any _ _ l _ (HR.out.on BB.out) hbig).mono ?_
    rintro r W0 ⟨nm, _, rfl, bd⟩
    replace QD := Lib.hid (box_on QD.out bd)
    replace RD := Lib.hid (RD.out.on bd)
    replace QE := Lib.hid (box_on QE.out bd)
    replace RE := Lib.hid (RE.out.on bd)
    replace QF := Lib.hid (box_on QF.out bd)
    replace RF := Lib.hid (RF.out.on bd)
    replace RB := Lib.hid (RB.out.on bd)
    replace QG := Lib.hid (box_on QG.out bd)
    replace RG := Lib.hid (RG.out.on bd)
    replace QH := Lib.hid (box_on QH.out bd)
    replace RH := Lib.hid (RH.out.on bd)
    replace BB := Lib.hid (bstep BB.out bd)
    clear bd
    obtain ⟨bo, hbo⟩ : ∃ b, okD D = b := ⟨_, rfl⟩
    obtain ⟨L, hL⟩ : ∃ L, readD E nr = L := ⟨_, rfl⟩
    obtain ⟨X, hX⟩ : ∃ X, writeD F kw lb = X := ⟨_, rfl⟩
    obtain ⟨Y, hY⟩ : ∃ X, flushD G = X := ⟨_, rfl⟩
    obtain ⟨Z, hZ⟩ : ∃ X, fallD H ka = X := ⟨_, rfl⟩
    obtain ⟨U, hU⟩ : ∃ X, newD nm = X := ⟨_, rfl⟩
    have SX := Lib.hid (hX ▸ writeD_sm (n := kw) (l := lb) SF.out (by omega))
    have SY := Lib.hid (hY ▸ flushD_sm SG.out)
    have SZ := Lib.hid (hZ ▸ fallD_sm (k := ka) SH.out)
    have SU := Lib.hid (hU ▸ newD_sm nm)
    have HBO := Lib.hid hbo
    have HL := Lib.hid hL
    have HX := Lib.hid hX
    have HY := Lib.hid hY
    have HZ := Lib.hid hZ
    have HU := Lib.hid hU
    clear hbo hL hX hY hZ hU
    go_upto_region 9 with (fail)
    refine but_begin (f := 50) (S := fun V => Below W0.drew.heap.size W0.drew V) (by kernel_rfl) ?_
    refine but_take (f := 50) (i := 0) (v := ?vt0) rfl (by kernel_rfl) (by kernel_rfl) (by kernel_rfl) (by kernel_rfl) (by kernel_rfl) (fun _ _ _ h => h) (Or.inl ⟨(by rfl), ?hyt0⟩) (Below.refl _ _) ?restt0
    case hyt0 =>
      intro W hW
      have hb0 : Below W0.heap.size W0 W := bstep (Below.drew1 _) hW
      obtain ⟨x0, x1, x2, x3, x4⟩ := box4 (box_on QD.out hb0)
      go_simp
      exact rfl
    simp only [List.getElem_toArray, List.getElem_cons_succ, List.getElem_cons_zero, Act.put, List.setIfInBounds_toArray, List.set_cons_zero, List.set_cons_succ]
    refine but_take (f := 50) (i := 2) (v := ?vt2) rfl (by kernel_rfl) (by kernel_rfl) (by kernel_rfl) (by kernel_rfl) (by kernel_rfl) (fun _ _ _ h => h) (Or.inl ⟨(by rfl), ?hyt2⟩) (Below.refl _ _) ?restt2
    case hyt2 =>
      intro W hW
      have hb0 : Below W0.heap.size W0 W := bstep (Below.drew1 _) hW
      obtain ⟨x0, x1, x2, x3, x4⟩ := box4 (box_on QD.out hb0)
      go_simp
      exact rfl
    simp only [List.getElem_toArray, List.getElem_cons_succ, List.getElem_cons_zero, Act.put, List.setIfInBounds_toArray, List.set_cons_zero, List.set_cons_succ]
    refine but_run (i := 1) (by kernel_rfl) rfl (by rfl) ?_
    simp only [List.getElem_toArray, List.getElem_cons_succ, List.getElem_cons_zero]
    intro K HK
    go_wp2_with fail
    refine (HIO.out _ D _ (RD.out.on (Below.drew1 _)) SD.out).mono ?_
    rintro r Vt1 ⟨rfl, hBt1⟩
    rw [HBO.out]
    go_wp2_with fail
    refine HK.out _ Vt1 (fun _ => hBt1) ?_
    clear HK
    refine but_more (S' := fun V => Below Vt1.heap.size Vt1 V) (fun V h => bstep hBt1 h) ?_
    have hRt1 : Below W0.heap.size W0 Vt1 := bstep (Below.drew1 _) hBt1
    refine but_run (i := 3) (by kernel_rfl) rfl (by rfl) ?_
    simp only [List.getElem_toArray, List.getElem_cons_succ, List.getElem_cons_zero]
    intro K HK
    go_wp2_with fail
    refine (HSO.out _ D _ (RD.out.on hRt1) SD.out).mono ?_
    rintro r Vt2 ⟨rfl, hBt2⟩
    rw [HBO.out]
    go_wp2_with fail
    refine HK.out _ Vt2 (fun _ => hBt2) ?_
    clear HK
    refine but_more (S' := fun V => Below Vt2.heap.size Vt2 V) (fun V h => bstep hBt2 h) ?_
    have hRt2 : Below W0.heap.size W0 Vt2 := bstep hRt1 hBt2
    refine but_take (f := 50) (i := 4) (v := ?vt4) rfl (by kernel_rfl) (by kernel_rfl) (by kernel_rfl) (by kernel_rfl) (by kernel_rfl) (fun _ _ _ h => h) (Or.inl ⟨(by rfl), ?hyt4⟩) (Below.refl _ _) ?restt4
    case hyt4 =>
      intro W hW
      go_simp
      exact rfl
    simp only [List.getElem_toArray, List.getElem_cons_succ, List.getElem_cons_zero, Act.put, List.setIfInBounds_toArray, List.set_cons_zero, List.set_cons_succ]
    refine but_take (f := 50) (i := 5) (v := ?vt5) rfl (by kernel_rfl) (by kernel_rfl) (by kernel_rfl) (by kernel_rfl) (by kernel_rfl) (fun _ _ _ h => h) (Or.inl ⟨(by rfl), ?hyt5⟩) (Below.refl _ _) ?restt5
    case hyt5 =>
      intro W hW
      go_simp
      exact rfl
    simp only [List.getElem_toArray, List.getElem_cons_succ, List.getElem_cons_zero, Act.put, List.setIfInBounds_toArray, List.set_cons_zero, List.set_cons_succ]
    refine but_take (f := 50) (i := 6) (v := ?vt6) rfl (by kernel_rfl) (by kernel_rfl) (by kernel_rfl) (by kernel_rfl) (by kernel_rfl) (fun _ _ _ h => h) (Or.inl ⟨((wanted_at rfl rfl rfl rfl).trans rfl), ?hyt6⟩) (Below.refl _ _) ?restt6
    case hyt6 =>
      intro W hW
      have hb0 : Below W0.heap.size W0 W := bstep hRt2 hW
      obtain ⟨x0, x1, x2, x3, x4⟩ := box4 (box_on QE.out hb0)
      go_simp
      exact rfl
    simp only [List.getElem_toArray, List.getElem_cons_succ, List.getElem_cons_zero, Act.put, List.setIfInBounds_toArray, List.set_cons_zero, List.set_cons_succ]
    refine but_take (f := 50) (i := 7) (v := ?vt7) rfl (by kernel_rfl) (by kernel_rfl) (by kernel_rfl) (by kernel_rfl) (by kernel_rfl) (fun _ _ _ h => h) (Or.inl ⟨((wanted_at rfl rfl rfl rfl).trans rfl), ?hyt7⟩) (Below.refl _ _) ?restt7
    case hyt7 =>
      intro W hW
      go_simp
      exact rfl
    simp only [List.getElem_toArray, List.getElem_cons_succ, List.getElem_cons_zero, Act.put, List.setIfInBounds_toArray, List.set_cons_zero, List.set_cons_succ]
    refine but_take (f := 50) (i := 10) (v := ?vt10) rfl (by kernel_rfl) (by kernel_rfl) (by kernel_rfl) (by kernel_rfl) (by kernel_rfl) (fun _ _ _ h => h) (Or.inl ⟨((wanted_at rfl rfl rfl rfl).trans rfl), ?hyt10⟩) (Below.refl _ _) ?restt10
    case hyt10 =>
      intro W hW
      have hb0 : Below W0.heap.size W0 W := bstep hRt2 hW
      obtain ⟨x0, x1, x2, x3, x4⟩ := box4 (box_on QE.out hb0)
      go_simp
      exact rfl
    simp only [List.getElem_toArray, List.getElem_cons_succ, List.getElem_cons_zero, Act.put, List.setIfInBounds_toArray, List.set_cons_zero, List.set_cons_succ]
    refine but_take (f := 50) (i := 11) (v := ?vt11) rfl (by kernel_rfl) (by kernel_rfl) (by kernel_rfl) (by kernel_rfl) (by kernel_rfl) (fun _ _ _ h => h) (Or.inl ⟨((wanted_at rfl rfl rfl rfl).trans rfl), ?hyt11⟩) (Below.refl _ _) ?restt11
    case hyt11 =>
      intro W hW
      go_simp
      exact rfl
    simp only [List.getElem_toArray, List.getElem_cons_succ, List.getElem_cons_zero, Act.put, List.setIfInBounds_toArray, List.set_cons_zero, List.set_cons_succ]
    refine but_run (i := 8) (by kernel_rfl) rfl ((wanted_at rfl rfl rfl rfl).trans rfl) ?_
    simp only [List.getElem_toArray, List.getElem_cons_succ, List.getElem_cons_zero]
    intro K HK
    go_wp2_with fail
    refine (HIR.out _ E nr _ (RE.out.on hRt2) SE.out).mono ?_
    rintro r Vt3 ⟨v1, rfl, o, hBt3⟩
    rw [HL.out] at o
    obtain ⟨C1, c1, rfl, _, _, _⟩ := o.reads.bytes
    have CV1 : Hid (∀ U, Below Vt3.heap.size Vt3 U → (convert 22 9 (.slice C1 L.length c1)).run Try.prog U = .ok (.string ⟨L.toArray⟩) U) := Lib.hid (fun U hU => conv_own (o.reads.on hU))
    clear o
    go_wp2_with fail
    refine HK.out _ Vt3 (fun _ => hBt3) ?_
    clear HK
    refine but_more (S' := fun V => Below Vt3.heap.size Vt3 V) (fun V h => bstep hBt3 h) ?_
    have hRt3 : Below W0.heap.size W0 Vt3 := bstep hRt2 hBt3
    refine but_take (f := 50) (i := 9) (v := ?vt9) rfl (by kernel_rfl) (by kernel_rfl) (by kernel_rfl) (by kernel_rfl) (by kernel_rfl) (fun _ _ _ h => h) (Or.inl ⟨((wanted_at rfl rfl rfl rfl).trans rfl), ?hyt9⟩) (Below.refl _ _) ?restt9
    case hyt9 =>
      intro W hW
      have hb0 : Below W0.heap.size W0 W := bstep hRt3 hW
      have cv := CV1.out _ hW
      go_simp
      exact rfl
    simp only [List.getElem_toArray, List.getElem_cons_succ, List.getElem_cons_zero, Act.put, List.setIfInBounds_toArray, List.set_cons_zero, List.set_cons_succ]
    refine but_run (i := 12) (by kernel_rfl) rfl ((wanted_at rfl rfl rfl rfl).trans rfl) ?_
    simp only [List.getElem_toArray, List.getElem_cons_succ, List.getElem_cons_zero]
    intro K HK
    go_wp2_with fail
    refine (HSR.out _ E nr _ (RE.out.on hRt3) SE.out).mono ?_
    rintro r Vt4 ⟨v2, rfl, o, hBt4⟩
    rw [HL.out] at o
    obtain ⟨C2, c2, rfl, _, _, _⟩ := o.reads.bytes
    have CV2 : Hid (∀ U, Below Vt4.heap.size Vt4 U → (convert 22 9 (.slice C2 L.length c2)).run Try.prog U = .ok (.string ⟨L.toArray⟩) U) := Lib.hid (fun U hU => conv_own (o.reads.on hU))
    clear o
    go_wp2_with fail
    refine HK.out _ Vt4 (fun _ => hBt4) ?_
    clear HK
    refine but_more (S' := fun V => Below Vt4.heap.size Vt4 V) (fun V h => bstep hBt4 h) ?_
    have hRt4 : Below W0.heap.size W0 Vt4 := bstep hRt3 hBt4
    refine but_take (f := 50) (i := 13) (v := ?vt13) rfl (by kernel_rfl) (by kernel_rfl) (by kernel_rfl) (by kernel_rfl) (by kernel_rfl) (fun _ _ _ h => h) (Or.inl ⟨((wanted_at rfl rfl rfl rfl).trans rfl), ?hyt13⟩) (Below.refl _ _) ?restt13
    case hyt13 =>
      intro W hW
      have hb0 : Below W0.heap.size W0 W := bstep hRt4 hW
      have cv := CV2.out _ hW
      go_simp
      exact rfl
    simp only [List.getElem_toArray, List.getElem_cons_succ, List.getElem_cons_zero, Act.put, List.setIfInBounds_toArray, List.set_cons_zero, List.set_cons_succ]
    refine but_take (f := 50) (i := 14) (v := ?vt14) rfl (by kernel_rfl) (by kernel_rfl) (by kernel_rfl) (by kernel_rfl) (by kernel_rfl) (fun _ _ _ h => h) (Or.inl ⟨((wanted_at rfl rfl rfl rfl).trans rfl), ?hyt14⟩) (Below.refl _ _) ?restt14
    case hyt14 =>
      intro W hW
      go_simp
      exact rfl
    simp only [List.getElem_toArray, List.getElem_cons_succ, List.getElem_cons_zero, Act.put, List.setIfInBounds_toArray, List.set_cons_zero, List.set_cons_succ]
    refine but_take (f := 50) (i := 15) (v := ?vt15) rfl (by kernel_rfl) (by kernel_rfl) (by kernel_rfl) (by kernel_rfl) (by kernel_rfl) (fun _ _ _ h => h) (Or.inl ⟨(by rfl), ?hyt15⟩) (Below.refl _ _) ?restt15
    case hyt15 =>
      intro W hW
      go_simp
      exact rfl
    simp only [List.getElem_toArray, List.getElem_cons_succ, List.getElem_cons_zero, Act.put, List.setIfInBounds_toArray, List.set_cons_zero, List.set_cons_succ]
    refine but_take (f := 50) (i := 16) (v := ?vt16) rfl (by kernel_rfl) (by kernel_rfl) (by kernel_rfl) (by kernel_rfl) (by kernel_rfl) (fun _ _ _ h => h) (Or.inl ⟨(by rfl), ?hyt16⟩) (Below.refl _ _) ?restt16
    case hyt16 =>
      intro W hW
      go_simp
      exact rfl
    simp only [List.getElem_toArray, List.getElem_cons_succ, List.getElem_cons_zero, Act.put, List.setIfInBounds_toArray, List.set_cons_zero, List.set_cons_succ]
    refine but_take (f := 50) (i := 17) (v := ?vt17) rfl (by kernel_rfl) (by kernel_rfl) (by kernel_rfl) (by kernel_rfl) (by kernel_rfl) (fun _ _ _ h => h) (Or.inl ⟨((wanted_at rfl rfl rfl rfl).trans rfl), ?hyt17⟩) (Below.refl _ _) ?restt17
    case hyt17 =>
      intro W hW
      have hb0 : Below W0.heap.size W0 W := bstep hRt4 hW
      obtain ⟨x0, x1, x2, x3, x4⟩ := box4 (box_on QF.out hb0)
      go_simp
      exact rfl
    simp only [List.getElem_toArray, List.getElem_cons_succ, List.getElem_cons_zero, Act.put, List.setIfInBounds_toArray, List.set_cons_zero, List.set_cons_succ]
    refine but_take (f := 50) (i := 18) (v := ?vt18) rfl (by kernel_rfl) (by kernel_rfl) (by kernel_rfl) (by kernel_rfl) (by kernel_rfl) (fun _ _ _ h => h) (Or.inl ⟨((wanted_at rfl rfl rfl rfl).trans rfl), ?hyt18⟩) (Below.refl _ _) ?restt18
    case hyt18 =>
      intro W hW
      go_simp
      exact rfl
    simp only [List.getElem_toArray, List.getElem_cons_succ, List.getElem_cons_zero, Act.put, List.setIfInBounds_toArray, List.set_cons_zero, List.set_cons_succ]
    refine but_take (f := 50) (i := 19) (v := ?vt19) rfl (by kernel_rfl) (by kernel_rfl) (by kernel_rfl) (by kernel_rfl) (by kernel_rfl) (fun _ _ _ h => h) (Or.inl ⟨((wanted_at rfl rfl rfl rfl).trans rfl), ?hyt19⟩) (Below.refl _ _) ?restt19
    case hyt19 =>
      intro W hW
      go_simp
      exact rfl
    simp only [List.getElem_toArray, List.getElem_cons_succ, List.getElem_cons_zero, Act.put, List.setIfInBounds_toArray, List.set_cons_zero, List.set_cons_succ]
    refine but_take (f := 50) (i := 21) (v := ?vt21) rfl (by kernel_rfl) (by kernel_rfl) (by kernel_rfl) (by kernel_rfl) (by kernel_rfl) (fun _ _ _ h => h) (Or.inl ⟨((wanted_at rfl rfl rfl rfl).trans rfl), ?hyt21⟩) (Below.refl _ _) ?restt21
    case hyt21 =>
      intro W hW
      have hb0 : Below W0.heap.size W0 W := bstep hRt4 hW
      obtain ⟨x0, x1, x2, x3, x4⟩ := box4 (box_on QF.out hb0)
      go_simp
      exact rfl
    simp only [List.getElem_toArray, List.getElem_cons_succ, List.getElem_cons_zero, Act.put, List.setIfInBounds_toArray, List.set_cons_zero, List.set_cons_succ]
    refine but_take (f := 50) (i := 22) (v := ?vt22) rfl (by kernel_rfl) (by kernel_rfl) (by kernel_rfl) (by kernel_rfl) (by kernel_rfl) (fun _ _ _ h => h) (Or.inl ⟨((wanted_at rfl rfl rfl rfl).trans rfl), ?hyt22⟩) (Below.refl _ _) ?restt22
    case hyt22 =>
      intro W hW
      go_simp
      exact rfl
    simp only [List.getElem_toArray, List.getElem_cons_succ, List.getElem_cons_zero, Act.put, List.setIfInBounds_toArray, List.set_cons_zero, List.set_cons_succ]
    refine but_take (f := 50) (i := 23) (v := ?vt23) rfl (by kernel_rfl) (by kernel_rfl) (by kernel_rfl) (by kernel_rfl) (by kernel_rfl) (fun _ _ _ h => h) (Or.inl ⟨((wanted_at rfl rfl rfl rfl).trans rfl), ?hyt23⟩) (Below.refl _ _) ?restt23
    case hyt23 =>
      intro W hW
      go_simp
      exact rfl
    simp only [List.getElem_toArray, List.getElem_cons_succ, List.getElem_cons_zero, Act.put, List.setIfInBounds_toArray, List.set_cons_zero, List.set_cons_succ]
    refine but_run (i := 20) (by kernel_rfl) rfl ((wanted_at rfl rfl rfl rfl).trans rfl) ?_
    simp only [List.getElem_toArray, List.getElem_cons_succ, List.getElem_cons_zero]
    intro K HK
    go_wp2_with fail
    refine (HIW.out _ _ F kw lb _ (RF.out.on hRt4) (RB.out.on hRt4) SF.out (by omega)).mono ?_
    rintro r Vt5 ⟨v3, rfl, o, hBt5⟩
    rw [HX.out] at o
    obtain ⟨_, _, _, _, rfl⟩ := o.rd.shape
    have X3 := Lib.hid o.rd
    clear o
    go_wp2_with fail
    refine HK.out _ Vt5 (fun _ => hBt5) ?_
    clear HK
    refine but_more (S' := fun V => Below Vt5.heap.size Vt5 V) (fun V h => bstep hBt5 h) ?_
    have hRt5 : Below W0.heap.size W0 Vt5 := bstep hRt4 hBt5
    refine but_run (i := 24) (by kernel_rfl) rfl ((wanted_at rfl rfl rfl rfl).trans rfl) ?_
    simp only [List.getElem_toArray, List.getElem_cons_succ, List.getElem_cons_zero]
    intro K HK
    go_wp2_with fail
    refine (HSW.out _ _ F kw lb _ (RF.out.on hRt5) (RB.out.on hRt5) SF.out (by omega)).mono ?_
    rintro r Vt6 ⟨v4, rfl, o, hBt6⟩
    rw [HX.out] at o
    obtain ⟨_, _, _, _, rfl⟩ := o.rd.shape
    have X4 := Lib.hid o.rd
    clear o
    go_wp2_with fail
    refine HK.out _ Vt6 (fun _ => hBt6) ?_
    clear HK
    refine but_more (S' := fun V => Below Vt6.heap.size Vt6 V) (fun V h => bstep hBt6 h) ?_
    have hRt6 : Below W0.heap.size W0 Vt6 := bstep hRt5 hBt6
    replace X3 := Lib.hid (X3.out.on hBt6)
    refine but_run (i := 25) (by kernel_rfl) rfl ((wanted_at rfl rfl rfl rfl).trans rfl) ?_
    simp only [List.getElem_toArray, List.getElem_cons_succ, List.getElem_cons_zero]
    intro K HK
    go_wp2_with fail
    refine (HSD.out _ _ X _ X3.out X4.out SX.out).mono ?_
    rintro r Vt7 ⟨rfl, hBt7⟩
    go_wp2_with fail
    refine HK.out _ Vt7 (fun _ => hBt7) ?_
    clear HK
    refine but_more (S' := fun V => Below Vt7.heap.size Vt7 V) (fun V h => bstep hBt7 h) ?_
    have hRt7 : Below W0.heap.size W0 Vt7 := bstep hRt6 hBt7
    clear X3 X4
    refine but_take (f := 50) (i := 26) (v := ?vt26) rfl (by kernel_rfl) (by kernel_rfl) (by kernel_rfl) (by kernel_rfl) (by kernel_rfl) (fun _ _ _ h => h) (Or.inl ⟨(by rfl), ?hyt26⟩) (Below.refl _ _) ?restt26
    case hyt26 =>
      intro W hW
      go_simp
      exact rfl
    simp only [List.getElem_toArray, List.getElem_cons_succ, List.getElem_cons_zero, Act.put, List.setIfInBounds_toArray, List.set_cons_zero, List.set_cons_succ]
    refine but_take (f := 50) (i := 27) (v := ?vt27) rfl (by kernel_rfl) (by kernel_rfl) (by kernel_rfl) (by kernel_rfl) (by kernel_rfl) (fun _ _ _ h => h) (Or.inl ⟨(by rfl), ?hyt27⟩) (Below.refl _ _) ?restt27
    case hyt27 =>
      intro W hW
      go_simp
      exact rfl
    simp only [List.getElem_toArray, List.getElem_cons_succ, List.getElem_cons_zero, Act.put, List.setIfInBounds_toArray, List.set_cons_zero, List.set_cons_succ]
    refine but_take (f := 50) (i := 28) (v := ?vt28) rfl (by kernel_rfl) (by kernel_rfl) (by kernel_rfl) (by kernel_rfl) (by kernel_rfl) (fun _ _ _ h => h) (Or.inl ⟨((wanted_at rfl rfl rfl rfl).trans rfl), ?hyt28⟩) (Below.refl _ _) ?restt28
    case hyt28 =>
      intro W hW
      have hb0 : Below W0.heap.size W0 W := bstep hRt7 hW
      obtain ⟨x0, x1, x2, x3, x4⟩ := box4 (box_on QG.out hb0)
      go_simp
      exact rfl
    simp only [List.getElem_toArray, List.getElem_cons_succ, List.getElem_cons_zero, Act.put, List.setIfInBounds_toArray, List.set_cons_zero, List.set_cons_succ]
    refine but_take (f := 50) (i := 30) (v := ?vt30) rfl (by kernel_rfl) (by kernel_rfl) (by kernel_rfl) (by kernel_rfl) (by kernel_rfl) (fun _ _ _ h => h) (Or.inl ⟨((wanted_at rfl rfl rfl rfl).trans rfl), ?hyt30⟩) (Below.refl _ _) ?restt30
    case hyt30 =>
      intro W hW
      have hb0 : Below W0.heap.size W0 W := bstep hRt7 hW
      obtain ⟨x0, x1, x2, x3, x4⟩ := box4 (box_on QG.out hb0)
      go_simp
      exact rfl
    simp only [List.getElem_toArray, List.getElem_cons_succ, List.getElem_cons_zero, Act.put, List.setIfInBounds_toArray, List.set_cons_zero, List.set_cons_succ]
    refine but_run (i := 29) (by kernel_rfl) rfl ((wanted_at rfl rfl rfl rfl).trans rfl) ?_
    simp only [List.getElem_toArray, List.getElem_cons_succ, List.getElem_cons_zero]
    intro K HK
    go_wp2_with fail
    refine (HIF.out _ G _ (RG.out.on hRt7) SG.out).mono ?_
    rintro r Vt8 ⟨v5, rfl, o, hBt8⟩
    rw [HY.out] at o
    obtain ⟨_, _, _, _, rfl⟩ := o.rd.shape
    have X3 := Lib.hid o.rd
    clear o
    go_wp2_with fail
    refine HK.out _ Vt8 (fun _ => hBt8) ?_
    clear HK
    refine but_more (S' := fun V => Below Vt8.heap.size Vt8 V) (fun V h => bstep hBt8 h) ?_
    have hRt8 : Below W0.heap.size W0 Vt8 := bstep hRt7 hBt8
    refine but_run (i := 31) (by kernel_rfl) rfl ((wanted_at rfl rfl rfl rfl).trans rfl) ?_
    simp only [List.getElem_toArray, List.getElem_cons_succ, List.getElem_cons_zero]
    intro K HK
    go_wp2_with fail
    refine (HSF.out _ G _ (RG.out.on hRt8) SG.out).mono ?_
    rintro r Vt9 ⟨v6, rfl, o, hBt9⟩
    rw [HY.out] at o
    obtain ⟨_, _, _, _, rfl⟩ := o.rd.shape
    have X4 := Lib.hid o.rd
    clear o
    go_wp2_with fail
    refine HK.out _ Vt9 (fun _ => hBt9) ?_
    clear HK
    refine but_more (S' := fun V => Below Vt9.heap.size Vt9 V) (fun V h => bstep hBt9 h) ?_
    have hRt9 : Below W0.heap.size W0 Vt9 := bstep hRt8 hBt9
    replace X3 := Lib.hid (X3.out.on hBt9)
    refine but_run (i := 32) (by kernel_rfl) rfl ((wanted_at rfl rfl rfl rfl).trans rfl) ?_
    simp only [List.getElem_toArray, List.getElem_cons_succ, List.getElem_cons_zero]
    intro K HK
    go_wp2_with fail
    refine (HSD.out _ _ Y _ X3.out X4.out SY.out).mono ?_
    rintro r Vt10 ⟨rfl, hBt10⟩
    go_wp2_with fail
    refine HK.out _ Vt10 (fun _ => hBt10) ?_
    clear HK
    refine but_more (S' := fun V => Below Vt10.heap.size Vt10 V) (fun V h => bstep hBt10 h) ?_
    have hRt10 : Below W0.heap.size W0 Vt10 := bstep hRt9 hBt10
    clear X3 X4
    refine but_take (f := 50) (i := 33) (v := ?vt33) rfl (by kernel_rfl) (by kernel_rfl) (by kernel_rfl) (by kernel_rfl) (by kernel_rfl) (fun _ _ _ h => h) (Or.inl ⟨(by rfl), ?hyt33⟩) (Below.refl _ _) ?restt33
    case hyt33 =>
      intro W hW
      go_simp
      exact rfl
    simp only [List.getElem_toArray, List.getElem_cons_succ, List.getElem_cons_zero, Act.put, List.setIfInBounds_toArray, List.set_cons_zero, List.set_cons_succ]
    refine but_take (f := 50) (i := 34) (v := ?vt34) rfl (by kernel_rfl) (by kernel_rfl) (by kernel_rfl) (by kernel_rfl) (by kernel_rfl) (fun _ _ _ h => h) (Or.inl ⟨(by rfl), ?hyt34⟩) (Below.refl _ _) ?restt34
    case hyt34 =>
      intro W hW
      go_simp
      exact rfl
    simp only [List.getElem_toArray, List.getElem_cons_succ, List.getElem_cons_zero, Act.put, List.setIfInBounds_toArray, List.set_cons_zero, List.set_cons_succ]
    refine but_take (f := 50) (i := 35) (v := ?vt35) rfl (by kernel_rfl) (by kernel_rfl) (by kernel_rfl) (by kernel_rfl) (by kernel_rfl) (fun _ _ _ h => h) (Or.inl ⟨((wanted_at rfl rfl rfl rfl).trans rfl), ?hyt35⟩) (Below.refl _ _) ?restt35
    case hyt35 =>
      intro W hW
      have hb0 : Below W0.heap.size W0 W := bstep hRt10 hW
      obtain ⟨x0, x1, x2, x3, x4⟩ := box4 (box_on QH.out hb0)
      go_simp
      exact rfl
    simp only [List.getElem_toArray, List.getElem_cons_succ, List.getElem_cons_zero, Act.put, List.setIfInBounds_toArray, List.set_cons_zero, List.set_cons_succ]
    refine but_take (f := 50) (i := 36) (v := ?vt36) rfl (by kernel_rfl) (by kernel_rfl) (by kernel_rfl) (by kernel_rfl) (by kernel_rfl) (fun _ _ _ h => h) (Or.inl ⟨((wanted_at rfl rfl rfl rfl).trans rfl), ?hyt36⟩) (Below.refl _ _) ?restt36
    case hyt36 =>
      intro W hW
      go_simp
      exact rfl
    simp only [List.getElem_toArray, List.getElem_cons_succ, List.getElem_cons_zero, Act.put, List.setIfInBounds_toArray, List.set_cons_zero, List.set_cons_succ]
    refine but_take (f := 50) (i := 38) (v := ?vt38) rfl (by kernel_rfl) (by kernel_rfl) (by kernel_rfl) (by kernel_rfl) (by kernel_rfl) (fun _ _ _ h => h) (Or.inl ⟨((wanted_at rfl rfl rfl rfl).trans rfl), ?hyt38⟩) (Below.refl _ _) ?restt38
    case hyt38 =>
      intro W hW
      have hb0 : Below W0.heap.size W0 W := bstep hRt10 hW
      obtain ⟨x0, x1, x2, x3, x4⟩ := box4 (box_on QH.out hb0)
      go_simp
      exact rfl
    simp only [List.getElem_toArray, List.getElem_cons_succ, List.getElem_cons_zero, Act.put, List.setIfInBounds_toArray, List.set_cons_zero, List.set_cons_succ]
    refine but_take (f := 50) (i := 39) (v := ?vt39) rfl (by kernel_rfl) (by kernel_rfl) (by kernel_rfl) (by kernel_rfl) (by kernel_rfl) (fun _ _ _ h => h) (Or.inl ⟨((wanted_at rfl rfl rfl rfl).trans rfl), ?hyt39⟩) (Below.refl _ _) ?restt39
    case hyt39 =>
      intro W hW
      go_simp
      exact rfl
    simp only [List.getElem_toArray, List.getElem_cons_succ, List.getElem_cons_zero, Act.put, List.setIfInBounds_toArray, List.set_cons_zero, List.set_cons_succ]
    refine but_run (i := 37) (by kernel_rfl) rfl ((wanted_at rfl rfl rfl rfl).trans rfl) ?_
    simp only [List.getElem_toArray, List.getElem_cons_succ, List.getElem_cons_zero]
    intro K HK
    go_wp2_with fail
    refine (HIA.out _ ka H _ (RH.out.on hRt10) SH.out).mono ?_
    rintro r Vt11 ⟨v7, rfl, o, hBt11⟩
    rw [HZ.out] at o
    obtain ⟨_, _, _, _, rfl⟩ := o.rd.shape
    have X3 := Lib.hid o.rd
    clear o
    go_wp2_with fail
    refine HK.out _ Vt11 (fun _ => hBt11) ?_
    clear HK
    refine but_more (S' := fun V => Below Vt11.heap.size Vt11 V) (fun V h => bstep hBt11 h) ?_
    have hRt11 : Below W0.heap.size W0 Vt11 := bstep hRt10 hBt11
    refine but_run (i := 40) (by kernel_rfl) rfl ((wanted_at rfl rfl rfl rfl).trans rfl) ?_
    simp only [List.getElem_toArray, List.getElem_cons_succ, List.getElem_cons_zero]
    intro K HK
    go_wp2_with fail
    refine (HSA.out _ ka H _ (RH.out.on hRt11) SH.out).mono ?_
    rintro r Vt12 ⟨v8, rfl, o, hBt12⟩
    rw [HZ.out] at o
    obtain ⟨_, _, _, _, rfl⟩ := o.rd.shape
    have X4 := Lib.hid o.rd
    clear o
    go_wp2_with fail
    refine HK.out _ Vt12 (fun _ => hBt12) ?_
    clear HK
    refine but_more (S' := fun V => Below Vt12.heap.size Vt12 V) (fun V h => bstep hBt12 h) ?_
    have hRt12 : Below W0.heap.size W0 Vt12 := bstep hRt11 hBt12
    replace X3 := Lib.hid (X3.out.on hBt12)
    refine but_run (i := 41) (by kernel_rfl) rfl ((wanted_at rfl rfl rfl rfl).trans rfl) ?_
    simp only [List.getElem_toArray, List.getElem_cons_succ, List.getElem_cons_zero]
    intro K HK
    go_wp2_with fail
    refine (HSD.out _ _ Z _ X3.out X4.out SZ.out).mono ?_
    rintro r Vt13 ⟨rfl, hBt13⟩
    go_wp2_with fail
    refine HK.out _ Vt13 (fun _ => hBt13) ?_
    clear HK
    refine but_more (S' := fun V => Below Vt13.heap.size Vt13 V) (fun V h => bstep hBt13 h) ?_
    have hRt13 : Below W0.heap.size W0 Vt13 := bstep hRt12 hBt13
    clear X3 X4
    refine but_take (f := 50) (i := 42) (v := ?vt42) rfl (by kernel_rfl) (by kernel_rfl) (by kernel_rfl) (by kernel_rfl) (by kernel_rfl) (fun _ _ _ h => h) (Or.inl ⟨(by rfl), ?hyt42⟩) (Below.refl _ _) ?restt42
    case hyt42 =>
      intro W hW
      go_simp
      exact rfl
    simp only [List.getElem_toArray, List.getElem_cons_succ, List.getElem_cons_zero, Act.put, List.setIfInBounds_toArray, List.set_cons_zero, List.set_cons_succ]
    refine but_take (f := 50) (i := 43) (v := ?vt43) rfl (by kernel_rfl) (by kernel_rfl) (by kernel_rfl) (by kernel_rfl) (by kernel_rfl) (fun _ _ _ h => h) (Or.inl ⟨(by rfl), ?hyt43⟩) (Below.refl _ _) ?restt43
    case hyt43 =>
      intro W hW
      go_simp
      exact rfl
    simp only [List.getElem_toArray, List.getElem_cons_succ, List.getElem_cons_zero, Act.put, List.setIfInBounds_toArray, List.set_cons_zero, List.set_cons_succ]
    refine but_take (f := 50) (i := 44) (v := ?vt44) rfl (by kernel_rfl) (by kernel_rfl) (by kernel_rfl) (by kernel_rfl) (by kernel_rfl) (fun _ _ _ h => h) (Or.inl ⟨((wanted_at rfl rfl rfl rfl).trans rfl), ?hyt44⟩) (Below.refl _ _) ?restt44
    case hyt44 =>
      intro W hW
      go_simp
      exact rfl
    simp only [List.getElem_toArray, List.getElem_cons_succ, List.getElem_cons_zero, Act.put, List.setIfInBounds_toArray, List.set_cons_zero, List.set_cons_succ]
    refine but_take (f := 50) (i := 46) (v := ?vt46) rfl (by kernel_rfl) (by kernel_rfl) (by kernel_rfl) (by kernel_rfl) (by kernel_rfl) (fun _ _ _ h => h) (Or.inl ⟨((wanted_at rfl rfl rfl rfl).trans rfl), ?hyt46⟩) (Below.refl _ _) ?restt46
    case hyt46 =>
      intro W hW
      go_simp
      exact rfl
    simp only [List.getElem_toArray, List.getElem_cons_succ, List.getElem_cons_zero, Act.put, List.setIfInBounds_toArray, List.set_cons_zero, List.set_cons_succ]
    refine but_run (i := 45) (by kernel_rfl) rfl ((wanted_at rfl rfl rfl rfl).trans rfl) ?_
    simp only [List.getElem_toArray, List.getElem_cons_succ, List.getElem_cons_zero]
    intro K HK
    go_wp2_with fail
    refine (HIN.out nm _).mono ?_
    rintro r Vt14 ⟨v9, rfl, o, hBt14⟩
    rw [HU.out] at o
    obtain ⟨_, _, _, _, rfl⟩ := o.rd.shape
    have X3 := Lib.hid o.rd
    clear o
    go_wp2_with fail
    refine HK.out _ Vt14 (fun _ => hBt14) ?_
    clear HK
    refine but_more (S' := fun V => Below Vt14.heap.size Vt14 V) (fun V h => bstep hBt14 h) ?_
    have hRt14 : Below W0.heap.size W0 Vt14 := bstep hRt13 hBt14
    refine but_run (i := 47) (by kernel_rfl) rfl ((wanted_at rfl rfl rfl rfl).trans rfl) ?_
    simp only [List.getElem_toArray, List.getElem_cons_succ, List.getElem_cons_zero]
    intro K HK
    go_wp2_with fail
    refine (HSN.out nm _).mono ?_
    rintro r Vt15 ⟨va, rfl, o, hBt15⟩
    rw [HU.out] at o
    obtain ⟨_, _, _, _, rfl⟩ := o.rd.shape
    have X4 := Lib.hid o.rd
    clear o
    go_wp2_with fail
    refine HK.out _ Vt15 (fun _ => hBt15) ?_
    clear HK
    refine but_more (S' := fun V => Below Vt15.heap.size Vt15 V) (fun V h => bstep hBt15 h) ?_
    have hRt15 : Below W0.heap.size W0 Vt15 := bstep hRt14 hBt15
    replace X3 := Lib.hid (X3.out.on hBt15)
    refine but_run (i := 48) (by kernel_rfl) rfl ((wanted_at rfl rfl rfl rfl).trans rfl) ?_
    simp only [List.getElem_toArray, List.getElem_cons_succ, List.getElem_cons_zero]
    intro K HK
    go_wp2_with fail
    refine (HSD.out _ _ U _ X3.out X4.out SU.out).mono ?_
    rintro r Vt16 ⟨rfl, hBt16⟩
    go_wp2_with fail
    refine HK.out _ Vt16 (fun _ => hBt16) ?_
    clear HK
    refine but_more (S' := fun V => Below Vt16.heap.size Vt16 V) (fun V h => bstep hBt16 h) ?_
    have hRt16 : Below W0.heap.size W0 Vt16 := bstep hRt15 hBt16
    clear X3 X4
    refine but_take (f := 50) (i := 49) (v := ?vt49) rfl (by kernel_rfl) (by kernel_rfl) (by kernel_rfl) (by kernel_rfl) (by kernel_rfl) (fun _ _ _ h => h) (Or.inl ⟨(by rfl), ?hyt49⟩) (Below.refl _ _) ?restt49
    case hyt49 =>
      intro W hW
      go_simp
      exact rfl
    simp only [List.getElem_toArray, List.getElem_cons_succ, List.getElem_cons_zero, Act.put, List.setIfInBounds_toArray, List.set_cons_zero, List.set_cons_succ]
    refine but_run (i := 50) (by kernel_rfl) rfl (by rfl) ?_
    simp only [List.getElem_toArray, List.getElem_cons_succ, List.getElem_cons_zero]
    intro K HK
    go_wp2_with fail
    refine HK.out _ Vt16 (fun h => absurd rfl h) ?_
    clear HK
    refine but_done (by kernel_rfl) ?_
    go_wp2
    go_ret
    exact ⟨rfl, bstep BB.out hRt16⟩
  · have d0 : decide ((1048576 : Int) < (l.length : Int)) = true := decide_eq_true (by omega)
    go_enter Try.func3, Try.ntmps3
    go_wp2_with fail
    refine (big_any _ _ _ _).mono ?_
    rintro r w1 ⟨rfl, rfl⟩
    rw [d0]
    go_wp2
    go_ret
    exact ⟨rfl, Below.refl _ _⟩
end Go.Proofs.Ytmeiobpeacdfjaa
