/- The walk of FnSets: at every code the call returns true and writes nothing that was there. No condition. -/
import Derived.Test.YtmeiobpeacdfjaaDrawSet2
import Derived.Test.YtmeiobpeacdfjaaKSetIMerge
import Derived.Test.YtmeiobpeacdfjaaExDrop
import Derived.Test.YtmeiobpeacdfjaaLast2
import Derived.Test.YtmeiobpeacdfjaaLast3
namespace Go.Proofs.Ytmeiobpeacdfjaa
open Go.RowKit
set_option maxRecDepth 100000
set_option linter.unusedSimpArgs false
set_option linter.unusedVariables false

theorem box_sets {w : World} {p : Nat} {t : TypeId} {z1 z2 z3 z4 z5 u1 u2 u3 u4 u5 : Value} (h : w.heap[p]? = some (.cells #[z1, z2, z3, z4, z5] t (0, 0))) : (((((w.setCell ⟨p, 0, none⟩ u1).setCell ⟨p, 1, none⟩ u2).setCell ⟨p, 2, none⟩ u3).setCell ⟨p, 3, none⟩ u4).setCell ⟨p, 4, none⟩ u5).heap[p]? = some (.cells #[u1, u2, u3, u4, u5] t (0, 0)) :=
  heap_setCell_same _ _ _ _ _ _ (heap_setCell_same _ _ _ _ _ _ (heap_setCell_same _ _ _ _ _ _ (heap_setCell_same _ _ _ _ _ _ (heap_setCell_same _ _ _ _ _ _ h))))
theorem merge_case {a b : List KeyD} {k : KeyD} (h1 : ∀ y, atK b k.a k.b = some y → y = k) (h2 : atK b k.a k.b = none → atK a k.a k.b = some k) :
    ((atK b k.a k.b).isSome = true ∧ (atK b k.a k.b).getD zK = k) ∨ ((atK b k.a k.b).isSome = false ∧ (atK a k.a k.b).isSome = true ∧ (atK a k.a k.b).getD zK = k) := by
  cases h : atK b k.a k.b with
  | none => right; rw [h2 h]; exact ⟨rfl, rfl, rfl⟩
  | some y => left; rw [h1 y h]; exact ⟨rfl, rfl⟩
theorem good_merge {a b : List KeyD} (h : GoodS a) (k : GoodS b) : GoodS (mergeK a b) := ⟨h.1.merge, ok_merge h.2 k.2⟩
theorem good_ok {l : List KeyD} (h : GoodS l) (hn : l.length ≤ 60) : setOkB l = true := by
  simp only [setOkB, h.2, h.1.rise, decide_eq_true hn, Bool.and_self]
set_option maxHeartbeats 20000000 in
theorem sets_walk (a0 : Option Addr) (len0 cap0 : Nat) (z0 : List Int) (w : World) (w0 : CameIn .u8 w a0 len0 cap0 z0) :
    Calls Try.prog 4 #[.slice a0 len0 cap0] w fun e w' => e = .returned (.bool true) ∧ Below w.heap.size w w' := by
  obtain ⟨l, rfl, hr⟩ := w0.rd
  clear w0
  by_cases hbig : l.length ≤ 1048576
  · have d0 : decide ((1048576 : Int) < (l.length : Int)) = false := decide_eq_false (by omega)
    have HR := Lib.hid hr
    have HIA := Lib.hid implSetAt_any
    have HL := Lib.hid implLessKey_any
    unfold SaysFind KeyD.v keyV at HIA
    unfold keyV at HL
    clear hr
    go_enter Try.func4, Try.ntmps4
    go_wp2_with fail
    refine (big_any _ _ _ _).mono ?_
    rintro r w1 ⟨rfl, rfl⟩
    rw [d0]
    clear d0
    go_wp2_with fail
    refine (drawMergeSets_any _ _ l _ HR.out hbig).mono ?_
    rintro r w1 ⟨vA, vB, a, b, rfl, oa, ob, ga, gb, ha, hb, bd⟩
    have OA := Lib.hid oa.ownR
    have OB := Lib.hid ob.ownR
    have BB := Lib.hid bd
    clear oa ob bd HR
    have GM := good_merge ga gb
    have ML := mergeK_len a b
    have MB := merge_len (a := a) gb.1
    have FROM := Lib.hid (fun (k : KeyD) (hk : k ∈ mergeK a b) => merge_from ga.1 gb.1 hk)
    have OLD := Lib.hid (fun (k : KeyD) (hk : k ∈ a) => merge_old ga.1 gb.1 hk)
    obtain ⟨m, hm⟩ : ∃ m, mergeK a b = m := ⟨_, rfl⟩
    rw [hm] at GM ML MB FROM OLD
    have DL := dropK_len m
    have KIND := Lib.hid (fun (k : KeyD) (hk : k ∈ dropK m) => drop_kind hk)
    obtain ⟨d, hd⟩ : ∃ d, dropK m = d := ⟨_, rfl⟩
    rw [hd] at DL KIND
    have OK := Lib.hid (good_ok GM (by omega))
    have ASC := Lib.hid GM.1
    have HM := Lib.hid hm
    have HD := Lib.hid hd
    clear hm hd GM ga gb
    go_wp2_with fail
    refine (implMergeSets_any _ _ a b _ OA.out.reads OB.out.reads (by omega)).mono ?_
    rintro r w2 ⟨vM, rfl, o, bd⟩
    rw [HM.out] at o
    have OM := Lib.hid o.ownR
    replace OA := Lib.hid (OA.out.on bd)
    replace OB := Lib.hid (OB.out.on bd)
    replace BB := Lib.hid (bstep BB.out bd)
    clear o bd
    go_wp2_with fail
    refine (implDrop_any _ m _ OM.out.reads (by omega)).mono ?_
    rintro r W0 ⟨vD, rfl, o, bd⟩
    rw [HD.out] at o
    have OD := Lib.hid o.ownR
    replace OA := Lib.hid (OA.out.on bd)
    replace OB := Lib.hid (OB.out.on bd)
    replace OM := Lib.hid (OM.out.on bd)
    replace BB := Lib.hid (bstep BB.out bd)
    clear o bd HM HD
    obtain ⟨Aa, ca, rfl, _, _⟩ := OA.out.reads.shapeK
    obtain ⟨Ab, cb, rfl, _, _⟩ := OB.out.reads.shapeK
    obtain ⟨Am, cm, rfl, _, _⟩ := OM.out.reads.shapeK
    obtain ⟨Ad, cd, rfl, _, _⟩ := OD.out.reads.shapeK
    go_wp2
    go_loopw [7] (fun i wr => ∃ k : Nat, k ≤ m.length ∧ i = .int .i64 k ∧ Hid (Below W0.heap.size W0 wr)) (fun i _ => m.length - (intOf i).toNat)
    case atStart => exact ⟨0, Nat.zero_le _, rfl, Lib.hid (Below.refl _ _)⟩
    case round =>
      obtain ⟨k, hk, rfl, HBr⟩ := hrel
      by_cases hlt : k < m.length
      · obtain ⟨bm, om, rfl, hbb, hc⟩ := OM.out.reads.keys hlt
        have HC := merge_case (FROM.out m[k] (List.getElem_mem hlt)).1 (FROM.out m[k] (List.getElem_mem hlt)).2
        have HF := hc k hlt
        have HP : 0 < k → Hid (lessB (m[k - 1]).a (m[k - 1]).b (m[k]).a (m[k]).b = true) := fun h0 => Lib.hid (List.pairwise_iff_getElem.1 ASC.out (k - 1) k (by omega) hlt (by omega))
        have HFp : 0 < k → Five W0 bm (om + (k - 1) * 5) m[k - 1] := fun h0 => hc (k - 1) (by omega)
        have hb0 : ∀ {V}, Below wr.heap.size wr V → V.heap[bm]? = W0.heap[bm]? := fun {V} h => ((HBr.out.trans (h.mono HBr.out.size)).block bm hbb)
        have FM := Lib.hid (fun V (h : Below wr.heap.size wr V) => HF.keep (hb0 h))
        have HFP := Lib.hid (fun (h0 : 0 < k) V (h : Below wr.heap.size wr V) => (HFp h0).keep (hb0 h))
        generalize m[k] = mk at HC FM HP
        obtain ⟨xk, hxk⟩ : ∃ x, (atK a mk.a mk.b).getD zK = x := ⟨_, rfl⟩
        obtain ⟨xa, hxa⟩ : ∃ x, (atK a mk.a mk.b).isSome = x := ⟨_, rfl⟩
        obtain ⟨yk, hyk⟩ : ∃ x, (atK b mk.a mk.b).getD zK = x := ⟨_, rfl⟩
        obtain ⟨yb, hyb⟩ : ∃ x, (atK b mk.a mk.b).isSome = x := ⟨_, rfl⟩
        rw [hxk, hxa, hyk, hyb] at HC
        have HXK := Lib.hid hxk
        have HXA := Lib.hid hxa
        have HYK := Lib.hid hyk
        have HYB := Lib.hid hyb
        have HCC := Lib.hid HC
        have hld := HBr.out
        have OAr := Lib.hid (OA.out.on hld)
        have OBr := Lib.hid (OB.out.on hld)
        have i1 : (k : Int) < (m.length : Int) := by omega
        have i2 : (0 : Int) ≤ (k : Int) := by omega
        clear hxk hxa hyk hyb HC HF HFp hb0 hc hbb hld
        go_upto_region 9 with (fail)
        go_cut [8, 9] (fun s8 s9 W1 => ∃ pb, s8 = .pointer (some ⟨pb, 0, none⟩) ∧ s9 = .bool xa ∧ Hid (W1.heap[pb]? = some (.cells #[.int .i64 xk.a, .int .i64 xk.b, .int .i64 xk.c, .int .i64 xk.d, .int .i64 xk.e] 47)) ∧ Hid (Below wr.heap.size wr W1))
        case first =>
          refine but_begin (f := 17) (S := fun V => Below wr.drew.heap.size wr.drew V) (by kernel_rfl) ?_
          refine but_take (f := 17) (i := 0) (v := ?vc0) rfl (by kernel_rfl) (by kernel_rfl) (by kernel_rfl) (by kernel_rfl) (by kernel_rfl) (fun _ _ _ h => h) (Or.inl ⟨(by rfl), ?hyc0⟩) (Below.refl _ _) ?restc0
          case hyc0 =>
            intro W hW
            go_simp
            exact rfl
          simp only [List.getElem_toArray, List.getElem_cons_succ, List.getElem_cons_zero, Act.put, List.setIfInBounds_toArray, List.set_cons_zero, List.set_cons_succ]
          refine but_take (f := 17) (i := 1) (v := ?vc1) rfl (by kernel_rfl) (by kernel_rfl) (by kernel_rfl) (by kernel_rfl) (by kernel_rfl) (fun _ _ _ h => h) (Or.inl ⟨(by rfl), ?hyc1⟩) (Below.refl _ _) ?restc1
          case hyc1 =>
            intro W hW
            go_simp
            exact rfl
          simp only [List.getElem_toArray, List.getElem_cons_succ, List.getElem_cons_zero, Act.put, List.setIfInBounds_toArray, List.set_cons_zero, List.set_cons_succ]
          refine but_take (f := 17) (i := 2) (v := ?vc2) rfl (by kernel_rfl) (by kernel_rfl) (by kernel_rfl) (by kernel_rfl) (by kernel_rfl) (fun _ _ _ h => h) (Or.inl ⟨(by rfl), ?hyc2⟩) (Below.refl _ _) ?restc2
          case hyc2 =>
            intro W hW
            go_simp
            exact rfl
          simp only [List.getElem_toArray, List.getElem_cons_succ, List.getElem_cons_zero, Act.put, List.setIfInBounds_toArray, List.set_cons_zero, List.set_cons_succ]
          refine but_take (f := 17) (i := 3) (v := ?vc3) rfl (by kernel_rfl) (by kernel_rfl) (by kernel_rfl) (by kernel_rfl) (by kernel_rfl) (fun _ _ _ h => h) (Or.inl ⟨(by rfl), ?hyc3⟩) (Below.refl _ _) ?restc3
          case hyc3 =>
            intro W hW
            go_simp
            exact rfl
          simp only [List.getElem_toArray, List.getElem_cons_succ, List.getElem_cons_zero, Act.put, List.setIfInBounds_toArray, List.set_cons_zero, List.set_cons_succ]
          refine but_take (f := 17) (i := 4) (v := ?vc4) rfl (by kernel_rfl) (by kernel_rfl) (by kernel_rfl) (by kernel_rfl) (by kernel_rfl) (fun _ _ _ h => h) (Or.inl ⟨(by rfl), ?hyc4⟩) (Below.refl _ _) ?restc4
          case hyc4 =>
            intro W hW
            go_simp
            exact rfl
          simp only [List.getElem_toArray, List.getElem_cons_succ, List.getElem_cons_zero, Act.put, List.setIfInBounds_toArray, List.set_cons_zero, List.set_cons_succ]
          refine but_take (f := 17) (i := 5) (v := ?vc5) rfl (by kernel_rfl) (by kernel_rfl) (by kernel_rfl) (by kernel_rfl) (by kernel_rfl) (fun _ _ _ h => h) (Or.inl ⟨(by rfl), ?hyc5⟩) (Below.refl _ _) ?restc5
          case hyc5 =>
            intro W hW
            have hb0 : Below wr.heap.size wr W := bstep (Below.drew1 _) hW
            obtain ⟨m0, m1, m2, m3, m4⟩ := FM.out _ hb0
            go_simp
            exact rfl
          simp only [List.getElem_toArray, List.getElem_cons_succ, List.getElem_cons_zero, Act.put, List.setIfInBounds_toArray, List.set_cons_zero, List.set_cons_succ]
          refine but_take (f := 17) (i := 6) (v := ?vc6) rfl (by kernel_rfl) (by kernel_rfl) (by kernel_rfl) (by kernel_rfl) (by kernel_rfl) (fun _ _ _ h => h) (Or.inl ⟨(by rfl), ?hyc6⟩) (Below.refl _ _) ?restc6
          case hyc6 =>
            intro W hW
            go_simp
            exact rfl
          simp only [List.getElem_toArray, List.getElem_cons_succ, List.getElem_cons_zero, Act.put, List.setIfInBounds_toArray, List.set_cons_zero, List.set_cons_succ]
          refine but_take (f := 17) (i := 7) (v := ?vc7) rfl (by kernel_rfl) (by kernel_rfl) (by kernel_rfl) (by kernel_rfl) (by kernel_rfl) (fun _ _ _ h => h) (Or.inl ⟨(by rfl), ?hyc7⟩) (Below.refl _ _) ?restc7
          case hyc7 =>
            intro W hW
            go_simp
            exact rfl
          simp only [List.getElem_toArray, List.getElem_cons_succ, List.getElem_cons_zero, Act.put, List.setIfInBounds_toArray, List.set_cons_zero, List.set_cons_succ]
          refine but_take (f := 17) (i := 8) (v := ?vc8) rfl (by kernel_rfl) (by kernel_rfl) (by kernel_rfl) (by kernel_rfl) (by kernel_rfl) (fun _ _ _ h => h) (Or.inl ⟨(by rfl), ?hyc8⟩) (Below.refl _ _) ?restc8
          case hyc8 =>
            intro W hW
            go_simp
            exact rfl
          simp only [List.getElem_toArray, List.getElem_cons_succ, List.getElem_cons_zero, Act.put, List.setIfInBounds_toArray, List.set_cons_zero, List.set_cons_succ]
          refine but_take (f := 17) (i := 9) (v := ?vc9) rfl (by kernel_rfl) (by kernel_rfl) (by kernel_rfl) (by kernel_rfl) (by kernel_rfl) (fun _ _ _ h => h) (Or.inl ⟨(by rfl), ?hyc9⟩) (Below.refl _ _) ?restc9
          case hyc9 =>
            intro W hW
            go_simp
            exact rfl
          simp only [List.getElem_toArray, List.getElem_cons_succ, List.getElem_cons_zero, Act.put, List.setIfInBounds_toArray, List.set_cons_zero, List.set_cons_succ]
          refine but_take (f := 17) (i := 10) (v := ?vc10) rfl (by kernel_rfl) (by kernel_rfl) (by kernel_rfl) (by kernel_rfl) (by kernel_rfl) (fun _ _ _ h => h) (Or.inl ⟨(by rfl), ?hyc10⟩) (Below.refl _ _) ?restc10
          case hyc10 =>
            intro W hW
            have hb0 : Below wr.heap.size wr W := bstep (Below.drew1 _) hW
            obtain ⟨m0, m1, m2, m3, m4⟩ := FM.out _ hb0
            go_simp
            exact rfl
          simp only [List.getElem_toArray, List.getElem_cons_succ, List.getElem_cons_zero, Act.put, List.setIfInBounds_toArray, List.set_cons_zero, List.set_cons_succ]
          refine but_two (i := 11) (j := 15) (by kernel_rfl) rfl rfl (by rfl) (by rfl) ?_ ?_
          · simp only [List.getElem_toArray, List.getElem_cons_succ, List.getElem_cons_zero]
            intro K HK
            go_wp2_with fail
            refine (HIA.out _ a mk.a mk.b _ (OAr.out.on (Below.drew1 _)).reads (by omega)).mono ?_
            rintro r Vcp1 ⟨rfl, hBcp1⟩
            rw [HXK.out, HXA.out]
            have hScp1 := bstep (Below.refl _ _) hBcp1
            go_wp2_with fail
            refine HK.out _ Vcp1 (fun _ => hScp1) ?_
            clear HK
            refine but_take (f := 17) (i := 12) (v := ?vcp12) rfl (by kernel_rfl) (by kernel_rfl) (by kernel_rfl) (by kernel_rfl) (by kernel_rfl) (fun _ _ _ h => h) (Or.inl ⟨(by rfl), ?hycp12⟩) hScp1 ?restcp12
            case hycp12 =>
              intro W hW
              go_simp
              exact rfl
            simp only [List.getElem_toArray, List.getElem_cons_succ, List.getElem_cons_zero, Act.put, List.setIfInBounds_toArray, List.set_cons_zero, List.set_cons_succ]
            refine but_take (f := 17) (i := 13) (v := ?vcp13) rfl (by kernel_rfl) (by kernel_rfl) (by kernel_rfl) (by kernel_rfl) (by kernel_rfl) (fun _ _ _ h => h) (Or.inl ⟨(by rfl), ?hycp13⟩) hScp1 ?restcp13
            case hycp13 =>
              intro W hW
              go_simp
              exact rfl
            simp only [List.getElem_toArray, List.getElem_cons_succ, List.getElem_cons_zero, Act.put, List.setIfInBounds_toArray, List.set_cons_zero, List.set_cons_succ]
            refine but_take (f := 17) (i := 14) (v := ?vcp14) rfl (by kernel_rfl) (by kernel_rfl) (by kernel_rfl) (by kernel_rfl) (by kernel_rfl) (fun _ _ _ h => h) (Or.inl ⟨(by rfl), ?hycp14⟩) hScp1 ?restcp14
            case hycp14 =>
              intro W hW
              go_simp
              exact rfl
            simp only [List.getElem_toArray, List.getElem_cons_succ, List.getElem_cons_zero, Act.put, List.setIfInBounds_toArray, List.set_cons_zero, List.set_cons_succ]
            refine but_run (i := 15) (by kernel_rfl) rfl (by rfl) ?_
            simp only [List.getElem_toArray, List.getElem_cons_succ, List.getElem_cons_zero]
            intro K HK
            have hScp2 : Below wr.drew.heap.size wr.drew (Vcp1.alloc (.cells #[.int .i64 0, .int .i64 0, .int .i64 0, .int .i64 0, .int .i64 0] 47)) := bstep hScp1 (bal1 _ _)
            go_wp2_with fail
            refine HK.out _ (Vcp1.alloc (.cells #[.int .i64 0, .int .i64 0, .int .i64 0, .int .i64 0, .int .i64 0] 47)) (fun _ => hScp2) ?_
            clear HK
            refine but_run (i := 16) (by kernel_rfl) rfl (by rfl) ?_
            simp only [List.getElem_toArray, List.getElem_cons_succ, List.getElem_cons_zero]
            intro K HK
            have hScp3 : Below wr.drew.heap.size wr.drew (Vcp1.alloc (.cells #[.int .i64 xk.a, .int .i64 xk.b, .int .i64 xk.c, .int .i64 xk.d, .int .i64 xk.e] 47)) := bstep hScp1 (bal1 _ _)
            go_wp2_with fail
            refine HK.out _ (Vcp1.alloc (.cells #[.int .i64 xk.a, .int .i64 xk.b, .int .i64 xk.c, .int .i64 xk.d, .int .i64 xk.e] 47)) (fun _ => hScp3) ?_
            clear HK
            refine but_run (i := 17) (by kernel_rfl) rfl (by rfl) ?_
            simp only [List.getElem_toArray, List.getElem_cons_succ, List.getElem_cons_zero]
            intro K HK
            go_wp2_with fail
            refine HK.out _ (Vcp1.alloc (.cells #[.int .i64 xk.a, .int .i64 xk.b, .int .i64 xk.c, .int .i64 xk.d, .int .i64 xk.e] 47)) (fun h => absurd rfl h) ?_
            clear HK
            refine but_done (by kernel_rfl) ?_
            go_wp2_with fail
            go_meet
            exact ⟨_, rfl, rfl, Lib.hid (al1 Vcp1 (.cells #[.int .i64 xk.a, .int .i64 xk.b, .int .i64 xk.c, .int .i64 xk.d, .int .i64 xk.e] 47)), Lib.hid (bstep (Below.drew1 _) hScp3)⟩
          · simp only [List.getElem_toArray, List.getElem_cons_succ, List.getElem_cons_zero]
            intro K HK
            have hScq1 : Below wr.drew.heap.size wr.drew (wr.drew.alloc (.cells #[.int .i64 0, .int .i64 0, .int .i64 0, .int .i64 0, .int .i64 0] 47)) := bal1 _ _
            go_wp2_with fail
            refine HK.out _ (wr.drew.alloc (.cells #[.int .i64 0, .int .i64 0, .int .i64 0, .int .i64 0, .int .i64 0] 47)) (fun _ => hScq1) ?_
            clear HK
            refine but_run (i := 11) (by kernel_rfl) rfl (by rfl) ?_
            simp only [List.getElem_toArray, List.getElem_cons_succ, List.getElem_cons_zero]
            intro K HK
            go_wp2_with fail
            refine (HIA.out _ a mk.a mk.b _ (OAr.out.on (bstep (Below.drew1 _) hScq1)).reads (by omega)).mono ?_
            rintro r Vcq2 ⟨rfl, hBcq2⟩
            rw [HXK.out, HXA.out]
            have hScq2 := bstep hScq1 hBcq2
            go_wp2_with fail
            refine HK.out _ Vcq2 (fun _ => hScq2) ?_
            clear HK
            refine but_take (f := 17) (i := 12) (v := ?vcq12) rfl (by kernel_rfl) (by kernel_rfl) (by kernel_rfl) (by kernel_rfl) (by kernel_rfl) (fun _ _ _ h => h) (Or.inl ⟨(by rfl), ?hycq12⟩) hScq2 ?restcq12
            case hycq12 =>
              intro W hW
              go_simp
              exact rfl
            simp only [List.getElem_toArray, List.getElem_cons_succ, List.getElem_cons_zero, Act.put, List.setIfInBounds_toArray, List.set_cons_zero, List.set_cons_succ]
            refine but_take (f := 17) (i := 13) (v := ?vcq13) rfl (by kernel_rfl) (by kernel_rfl) (by kernel_rfl) (by kernel_rfl) (by kernel_rfl) (fun _ _ _ h => h) (Or.inl ⟨(by rfl), ?hycq13⟩) hScq2 ?restcq13
            case hycq13 =>
              intro W hW
              go_simp
              exact rfl
            simp only [List.getElem_toArray, List.getElem_cons_succ, List.getElem_cons_zero, Act.put, List.setIfInBounds_toArray, List.set_cons_zero, List.set_cons_succ]
            refine but_take (f := 17) (i := 14) (v := ?vcq14) rfl (by kernel_rfl) (by kernel_rfl) (by kernel_rfl) (by kernel_rfl) (by kernel_rfl) (fun _ _ _ h => h) (Or.inl ⟨(by rfl), ?hycq14⟩) hScq2 ?restcq14
            case hycq14 =>
              intro W hW
              go_simp
              exact rfl
            simp only [List.getElem_toArray, List.getElem_cons_succ, List.getElem_cons_zero, Act.put, List.setIfInBounds_toArray, List.set_cons_zero, List.set_cons_succ]
            have qz : Vcq2.heap[wr.heap.size]? = some (.cells #[.int .i64 0, .int .i64 0, .int .i64 0, .int .i64 0, .int .i64 0] 47) := box_on (al1 wr.drew (.cells #[.int .i64 0, .int .i64 0, .int .i64 0, .int .i64 0, .int .i64 0] 47)) hBcq2
            refine but_run (i := 16) (by kernel_rfl) rfl (by rfl) ?_
            simp only [List.getElem_toArray, List.getElem_cons_succ, List.getElem_cons_zero]
            intro K HK
            obtain ⟨z0, z1, z2, z3, z4, z5⟩ := box5 qz
            have hScq3 : Below wr.drew.heap.size wr.drew (((((Vcq2.setCell ⟨wr.heap.size, 0, none⟩ (.int .i64 xk.a)).setCell ⟨wr.heap.size, 1, none⟩ (.int .i64 xk.b)).setCell ⟨wr.heap.size, 2, none⟩ (.int .i64 xk.c)).setCell ⟨wr.heap.size, 3, none⟩ (.int .i64 xk.d)).setCell ⟨wr.heap.size, 4, none⟩ (.int .i64 xk.e)) := b5' hScq2 (Nat.le_refl _)
            go_wp2_with fail
            refine HK.out _ (((((Vcq2.setCell ⟨wr.heap.size, 0, none⟩ (.int .i64 xk.a)).setCell ⟨wr.heap.size, 1, none⟩ (.int .i64 xk.b)).setCell ⟨wr.heap.size, 2, none⟩ (.int .i64 xk.c)).setCell ⟨wr.heap.size, 3, none⟩ (.int .i64 xk.d)).setCell ⟨wr.heap.size, 4, none⟩ (.int .i64 xk.e)) (fun _ => hScq3) ?_
            clear HK
            refine but_run (i := 17) (by kernel_rfl) rfl (by rfl) ?_
            simp only [List.getElem_toArray, List.getElem_cons_succ, List.getElem_cons_zero]
            intro K HK
            go_wp2_with fail
            refine HK.out _ (((((Vcq2.setCell ⟨wr.heap.size, 0, none⟩ (.int .i64 xk.a)).setCell ⟨wr.heap.size, 1, none⟩ (.int .i64 xk.b)).setCell ⟨wr.heap.size, 2, none⟩ (.int .i64 xk.c)).setCell ⟨wr.heap.size, 3, none⟩ (.int .i64 xk.d)).setCell ⟨wr.heap.size, 4, none⟩ (.int .i64 xk.e)) (fun h => absurd rfl h) ?_
            clear HK
            refine but_done (by kernel_rfl) ?_
            go_wp2_with fail
            go_meet
            exact ⟨_, rfl, rfl, Lib.hid (box_sets qz), Lib.hid (bstep (Below.drew1 _) hScq3)⟩
        case rest =>
          obtain ⟨pb, rfl, rfl, QX, HX⟩ := hcut
          obtain ⟨W1, rfl⟩ : ∃ W, W = wc := ⟨_, rfl⟩
          replace FM := Lib.hid (fun V (h : Below W1.heap.size W1 V) => FM.out V (bstep HX.out h))
          replace HFP := Lib.hid (fun (h0 : 0 < k) V (h : Below W1.heap.size W1 V) => HFP.out h0 V (bstep HX.out h))
          have OBs := Lib.hid (OBr.out.on HX.out)
          have HB1 := Lib.hid (bstep HBr.out HX.out)
          clear HX OAr OBr HBr
          go_upto_region 10 with (fail)
          go_cut [10, 11] (fun s10 s11 W2 => ∃ pb, s10 = .pointer (some ⟨pb, 0, none⟩) ∧ s11 = .bool yb ∧ Hid (W2.heap[pb]? = some (.cells #[.int .i64 yk.a, .int .i64 yk.b, .int .i64 yk.c, .int .i64 yk.d, .int .i64 yk.e] 47)) ∧ Hid (Below W1.heap.size W1 W2))
          case first =>
            refine but_begin (f := 17) (S := fun V => Below W1.drew.heap.size W1.drew V) (by kernel_rfl) ?_
            refine but_take (f := 17) (i := 0) (v := ?ve0) rfl (by kernel_rfl) (by kernel_rfl) (by kernel_rfl) (by kernel_rfl) (by kernel_rfl) (fun _ _ _ h => h) (Or.inl ⟨(by rfl), ?hye0⟩) (Below.refl _ _) ?reste0
            case hye0 =>
              intro W hW
              go_simp
              exact rfl
            simp only [List.getElem_toArray, List.getElem_cons_succ, List.getElem_cons_zero, Act.put, List.setIfInBounds_toArray, List.set_cons_zero, List.set_cons_succ]
            refine but_take (f := 17) (i := 1) (v := ?ve1) rfl (by kernel_rfl) (by kernel_rfl) (by kernel_rfl) (by kernel_rfl) (by kernel_rfl) (fun _ _ _ h => h) (Or.inl ⟨(by rfl), ?hye1⟩) (Below.refl _ _) ?reste1
            case hye1 =>
              intro W hW
              go_simp
              exact rfl
            simp only [List.getElem_toArray, List.getElem_cons_succ, List.getElem_cons_zero, Act.put, List.setIfInBounds_toArray, List.set_cons_zero, List.set_cons_succ]
            refine but_take (f := 17) (i := 2) (v := ?ve2) rfl (by kernel_rfl) (by kernel_rfl) (by kernel_rfl) (by kernel_rfl) (by kernel_rfl) (fun _ _ _ h => h) (Or.inl ⟨(by rfl), ?hye2⟩) (Below.refl _ _) ?reste2
            case hye2 =>
              intro W hW
              go_simp
              exact rfl
            simp only [List.getElem_toArray, List.getElem_cons_succ, List.getElem_cons_zero, Act.put, List.setIfInBounds_toArray, List.set_cons_zero, List.set_cons_succ]
            refine but_take (f := 17) (i := 3) (v := ?ve3) rfl (by kernel_rfl) (by kernel_rfl) (by kernel_rfl) (by kernel_rfl) (by kernel_rfl) (fun _ _ _ h => h) (Or.inl ⟨(by rfl), ?hye3⟩) (Below.refl _ _) ?reste3
            case hye3 =>
              intro W hW
              go_simp
              exact rfl
            simp only [List.getElem_toArray, List.getElem_cons_succ, List.getElem_cons_zero, Act.put, List.setIfInBounds_toArray, List.set_cons_zero, List.set_cons_succ]
            refine but_take (f := 17) (i := 4) (v := ?ve4) rfl (by kernel_rfl) (by kernel_rfl) (by kernel_rfl) (by kernel_rfl) (by kernel_rfl) (fun _ _ _ h => h) (Or.inl ⟨(by rfl), ?hye4⟩) (Below.refl _ _) ?reste4
            case hye4 =>
              intro W hW
              go_simp
              exact rfl
            simp only [List.getElem_toArray, List.getElem_cons_succ, List.getElem_cons_zero, Act.put, List.setIfInBounds_toArray, List.set_cons_zero, List.set_cons_succ]
            refine but_take (f := 17) (i := 5) (v := ?ve5) rfl (by kernel_rfl) (by kernel_rfl) (by kernel_rfl) (by kernel_rfl) (by kernel_rfl) (fun _ _ _ h => h) (Or.inl ⟨(by rfl), ?hye5⟩) (Below.refl _ _) ?reste5
            case hye5 =>
              intro W hW
              have hb0 : Below W1.heap.size W1 W := bstep (Below.drew1 _) hW
              obtain ⟨m0, m1, m2, m3, m4⟩ := FM.out _ hb0
              go_simp
              exact rfl
            simp only [List.getElem_toArray, List.getElem_cons_succ, List.getElem_cons_zero, Act.put, List.setIfInBounds_toArray, List.set_cons_zero, List.set_cons_succ]
            refine but_take (f := 17) (i := 6) (v := ?ve6) rfl (by kernel_rfl) (by kernel_rfl) (by kernel_rfl) (by kernel_rfl) (by kernel_rfl) (fun _ _ _ h => h) (Or.inl ⟨(by rfl), ?hye6⟩) (Below.refl _ _) ?reste6
            case hye6 =>
              intro W hW
              go_simp
              exact rfl
            simp only [List.getElem_toArray, List.getElem_cons_succ, List.getElem_cons_zero, Act.put, List.setIfInBounds_toArray, List.set_cons_zero, List.set_cons_succ]
            refine but_take (f := 17) (i := 7) (v := ?ve7) rfl (by kernel_rfl) (by kernel_rfl) (by kernel_rfl) (by kernel_rfl) (by kernel_rfl) (fun _ _ _ h => h) (Or.inl ⟨(by rfl), ?hye7⟩) (Below.refl _ _) ?reste7
            case hye7 =>
              intro W hW
              go_simp
              exact rfl
            simp only [List.getElem_toArray, List.getElem_cons_succ, List.getElem_cons_zero, Act.put, List.setIfInBounds_toArray, List.set_cons_zero, List.set_cons_succ]
            refine but_take (f := 17) (i := 8) (v := ?ve8) rfl (by kernel_rfl) (by kernel_rfl) (by kernel_rfl) (by kernel_rfl) (by kernel_rfl) (fun _ _ _ h => h) (Or.inl ⟨(by rfl), ?hye8⟩) (Below.refl _ _) ?reste8
            case hye8 =>
              intro W hW
              go_simp
              exact rfl
            simp only [List.getElem_toArray, List.getElem_cons_succ, List.getElem_cons_zero, Act.put, List.setIfInBounds_toArray, List.set_cons_zero, List.set_cons_succ]
            refine but_take (f := 17) (i := 9) (v := ?ve9) rfl (by kernel_rfl) (by kernel_rfl) (by kernel_rfl) (by kernel_rfl) (by kernel_rfl) (fun _ _ _ h => h) (Or.inl ⟨(by rfl), ?hye9⟩) (Below.refl _ _) ?reste9
            case hye9 =>
              intro W hW
              go_simp
              exact rfl
            simp only [List.getElem_toArray, List.getElem_cons_succ, List.getElem_cons_zero, Act.put, List.setIfInBounds_toArray, List.set_cons_zero, List.set_cons_succ]
            refine but_take (f := 17) (i := 10) (v := ?ve10) rfl (by kernel_rfl) (by kernel_rfl) (by kernel_rfl) (by kernel_rfl) (by kernel_rfl) (fun _ _ _ h => h) (Or.inl ⟨(by rfl), ?hye10⟩) (Below.refl _ _) ?reste10
            case hye10 =>
              intro W hW
              have hb0 : Below W1.heap.size W1 W := bstep (Below.drew1 _) hW
              obtain ⟨m0, m1, m2, m3, m4⟩ := FM.out _ hb0
              go_simp
              exact rfl
            simp only [List.getElem_toArray, List.getElem_cons_succ, List.getElem_cons_zero, Act.put, List.setIfInBounds_toArray, List.set_cons_zero, List.set_cons_succ]
            refine but_two (i := 11) (j := 15) (by kernel_rfl) rfl rfl (by rfl) (by rfl) ?_ ?_
            · simp only [List.getElem_toArray, List.getElem_cons_succ, List.getElem_cons_zero]
              intro K HK
              go_wp2_with fail
              refine (HIA.out _ b mk.a mk.b _ (OBs.out.on (Below.drew1 _)).reads (by omega)).mono ?_
              rintro r Vep1 ⟨rfl, hBep1⟩
              rw [HYK.out, HYB.out]
              have hSep1 := bstep (Below.refl _ _) hBep1
              go_wp2_with fail
              refine HK.out _ Vep1 (fun _ => hSep1) ?_
              clear HK
              refine but_take (f := 17) (i := 12) (v := ?vep12) rfl (by kernel_rfl) (by kernel_rfl) (by kernel_rfl) (by kernel_rfl) (by kernel_rfl) (fun _ _ _ h => h) (Or.inl ⟨(by rfl), ?hyep12⟩) hSep1 ?restep12
              case hyep12 =>
                intro W hW
                go_simp
                exact rfl
              simp only [List.getElem_toArray, List.getElem_cons_succ, List.getElem_cons_zero, Act.put, List.setIfInBounds_toArray, List.set_cons_zero, List.set_cons_succ]
              refine but_take (f := 17) (i := 13) (v := ?vep13) rfl (by kernel_rfl) (by kernel_rfl) (by kernel_rfl) (by kernel_rfl) (by kernel_rfl) (fun _ _ _ h => h) (Or.inl ⟨(by rfl), ?hyep13⟩) hSep1 ?restep13
              case hyep13 =>
                intro W hW
                go_simp
                exact rfl
              simp only [List.getElem_toArray, List.getElem_cons_succ, List.getElem_cons_zero, Act.put, List.setIfInBounds_toArray, List.set_cons_zero, List.set_cons_succ]
              refine but_take (f := 17) (i := 14) (v := ?vep14) rfl (by kernel_rfl) (by kernel_rfl) (by kernel_rfl) (by kernel_rfl) (by kernel_rfl) (fun _ _ _ h => h) (Or.inl ⟨(by rfl), ?hyep14⟩) hSep1 ?restep14
              case hyep14 =>
                intro W hW
                go_simp
                exact rfl
              simp only [List.getElem_toArray, List.getElem_cons_succ, List.getElem_cons_zero, Act.put, List.setIfInBounds_toArray, List.set_cons_zero, List.set_cons_succ]
              refine but_run (i := 15) (by kernel_rfl) rfl (by rfl) ?_
              simp only [List.getElem_toArray, List.getElem_cons_succ, List.getElem_cons_zero]
              intro K HK
              have hSep2 : Below W1.drew.heap.size W1.drew (Vep1.alloc (.cells #[.int .i64 0, .int .i64 0, .int .i64 0, .int .i64 0, .int .i64 0] 47)) := bstep hSep1 (bal1 _ _)
              go_wp2_with fail
              refine HK.out _ (Vep1.alloc (.cells #[.int .i64 0, .int .i64 0, .int .i64 0, .int .i64 0, .int .i64 0] 47)) (fun _ => hSep2) ?_
              clear HK
              refine but_run (i := 16) (by kernel_rfl) rfl (by rfl) ?_
              simp only [List.getElem_toArray, List.getElem_cons_succ, List.getElem_cons_zero]
              intro K HK
              have hSep3 : Below W1.drew.heap.size W1.drew (Vep1.alloc (.cells #[.int .i64 yk.a, .int .i64 yk.b, .int .i64 yk.c, .int .i64 yk.d, .int .i64 yk.e] 47)) := bstep hSep1 (bal1 _ _)
              go_wp2_with fail
              refine HK.out _ (Vep1.alloc (.cells #[.int .i64 yk.a, .int .i64 yk.b, .int .i64 yk.c, .int .i64 yk.d, .int .i64 yk.e] 47)) (fun _ => hSep3) ?_
              clear HK
              refine but_run (i := 17) (by kernel_rfl) rfl (by rfl) ?_
              simp only [List.getElem_toArray, List.getElem_cons_succ, List.getElem_cons_zero]
              intro K HK
              go_wp2_with fail
              refine HK.out _ (Vep1.alloc (.cells #[.int .i64 yk.a, .int .i64 yk.b, .int .i64 yk.c, .int .i64 yk.d, .int .i64 yk.e] 47)) (fun h => absurd rfl h) ?_
              clear HK
              refine but_done (by kernel_rfl) ?_
              go_wp2_with fail
              go_meet
              exact ⟨_, rfl, rfl, Lib.hid (al1 Vep1 (.cells #[.int .i64 yk.a, .int .i64 yk.b, .int .i64 yk.c, .int .i64 yk.d, .int .i64 yk.e] 47)), Lib.hid (bstep (Below.drew1 _) hSep3)⟩
            · simp only [List.getElem_toArray, List.getElem_cons_succ, List.getElem_cons_zero]
              intro K HK
              have hSeq1 : Below W1.drew.heap.size W1.drew (W1.drew.alloc (.cells #[.int .i64 0, .int .i64 0, .int .i64 0, .int .i64 0, .int .i64 0] 47)) := bal1 _ _
              go_wp2_with fail
              refine HK.out _ (W1.drew.alloc (.cells #[.int .i64 0, .int .i64 0, .int .i64 0, .int .i64 0, .int .i64 0] 47)) (fun _ => hSeq1) ?_
              clear HK
              refine but_run (i := 11) (by kernel_rfl) rfl (by rfl) ?_
              simp only [List.getElem_toArray, List.getElem_cons_succ, List.getElem_cons_zero]
              intro K HK
              go_wp2_with fail
              refine (HIA.out _ b mk.a mk.b _ (OBs.out.on (bstep (Below.drew1 _) hSeq1)).reads (by omega)).mono ?_
              rintro r Veq2 ⟨rfl, hBeq2⟩
              rw [HYK.out, HYB.out]
              have hSeq2 := bstep hSeq1 hBeq2
              go_wp2_with fail
              refine HK.out _ Veq2 (fun _ => hSeq2) ?_
              clear HK
              refine but_take (f := 17) (i := 12) (v := ?veq12) rfl (by kernel_rfl) (by kernel_rfl) (by kernel_rfl) (by kernel_rfl) (by kernel_rfl) (fun _ _ _ h => h) (Or.inl ⟨(by rfl), ?hyeq12⟩) hSeq2 ?resteq12
              case hyeq12 =>
                intro W hW
                go_simp
                exact rfl
              simp only [List.getElem_toArray, List.getElem_cons_succ, List.getElem_cons_zero, Act.put, List.setIfInBounds_toArray, List.set_cons_zero, List.set_cons_succ]
              refine but_take (f := 17) (i := 13) (v := ?veq13) rfl (by kernel_rfl) (by kernel_rfl) (by kernel_rfl) (by kernel_rfl) (by kernel_rfl) (fun _ _ _ h => h) (Or.inl ⟨(by rfl), ?hyeq13⟩) hSeq2 ?resteq13
              case hyeq13 =>
                intro W hW
                go_simp
                exact rfl
              simp only [List.getElem_toArray, List.getElem_cons_succ, List.getElem_cons_zero, Act.put, List.setIfInBounds_toArray, List.set_cons_zero, List.set_cons_succ]
              refine but_take (f := 17) (i := 14) (v := ?veq14) rfl (by kernel_rfl) (by kernel_rfl) (by kernel_rfl) (by kernel_rfl) (by kernel_rfl) (fun _ _ _ h => h) (Or.inl ⟨(by rfl), ?hyeq14⟩) hSeq2 ?resteq14
              case hyeq14 =>
                intro W hW
                go_simp
                exact rfl
              simp only [List.getElem_toArray, List.getElem_cons_succ, List.getElem_cons_zero, Act.put, List.setIfInBounds_toArray, List.set_cons_zero, List.set_cons_succ]
              have qz : Veq2.heap[W1.heap.size]? = some (.cells #[.int .i64 0, .int .i64 0, .int .i64 0, .int .i64 0, .int .i64 0] 47) := box_on (al1 W1.drew (.cells #[.int .i64 0, .int .i64 0, .int .i64 0, .int .i64 0, .int .i64 0] 47)) hBeq2
              refine but_run (i := 16) (by kernel_rfl) rfl (by rfl) ?_
              simp only [List.getElem_toArray, List.getElem_cons_succ, List.getElem_cons_zero]
              intro K HK
              obtain ⟨z0, z1, z2, z3, z4, z5⟩ := box5 qz
              have hSeq3 : Below W1.drew.heap.size W1.drew (((((Veq2.setCell ⟨W1.heap.size, 0, none⟩ (.int .i64 yk.a)).setCell ⟨W1.heap.size, 1, none⟩ (.int .i64 yk.b)).setCell ⟨W1.heap.size, 2, none⟩ (.int .i64 yk.c)).setCell ⟨W1.heap.size, 3, none⟩ (.int .i64 yk.d)).setCell ⟨W1.heap.size, 4, none⟩ (.int .i64 yk.e)) := b5' hSeq2 (Nat.le_refl _)
              go_wp2_with fail
              refine HK.out _ (((((Veq2.setCell ⟨W1.heap.size, 0, none⟩ (.int .i64 yk.a)).setCell ⟨W1.heap.size, 1, none⟩ (.int .i64 yk.b)).setCell ⟨W1.heap.size, 2, none⟩ (.int .i64 yk.c)).setCell ⟨W1.heap.size, 3, none⟩ (.int .i64 yk.d)).setCell ⟨W1.heap.size, 4, none⟩ (.int .i64 yk.e)) (fun _ => hSeq3) ?_
              clear HK
              refine but_run (i := 17) (by kernel_rfl) rfl (by rfl) ?_
              simp only [List.getElem_toArray, List.getElem_cons_succ, List.getElem_cons_zero]
              intro K HK
              go_wp2_with fail
              refine HK.out _ (((((Veq2.setCell ⟨W1.heap.size, 0, none⟩ (.int .i64 yk.a)).setCell ⟨W1.heap.size, 1, none⟩ (.int .i64 yk.b)).setCell ⟨W1.heap.size, 2, none⟩ (.int .i64 yk.c)).setCell ⟨W1.heap.size, 3, none⟩ (.int .i64 yk.d)).setCell ⟨W1.heap.size, 4, none⟩ (.int .i64 yk.e)) (fun h => absurd rfl h) ?_
              clear HK
              refine but_done (by kernel_rfl) ?_
              go_wp2_with fail
              go_meet
              exact ⟨_, rfl, rfl, Lib.hid (box_sets qz), Lib.hid (bstep (Below.drew1 _) hSeq3)⟩
          case rest =>
            obtain ⟨pc, rfl, rfl, QY, HX⟩ := hcut
            obtain ⟨W2, rfl⟩ : ∃ W, W = wc := ⟨_, rfl⟩
            replace FM := Lib.hid (fun V (h : Below W2.heap.size W2 V) => FM.out V (bstep HX.out h))
            replace HFP := Lib.hid (fun (h0 : 0 < k) V (h : Below W2.heap.size W2 V) => HFP.out h0 V (bstep HX.out h))
            replace QX := Lib.hid (box_on QX.out HX.out)
            have HB2 := Lib.hid (bstep HB1.out HX.out)
            have HC := HCC.out
            clear HX HB1 OBs HXK HXA HYK HYB HCC
            go_upto_region 11 with (fail)
            go_cut [105] (fun s105 wx => s105 = .bool false ∧ Hid (Below W2.heap.size W2 wx))
            case first =>
              by_cases h0 : 0 < k
              · have FP := Lib.hid (HFP.out h0)
                have HLT := HP h0
                have d1 : decide ((0 : Int) < (k : Int)) = true := decide_eq_true (by omega)
                obtain ⟨j, hj⟩ : ∃ j, k - 1 = j := ⟨_, rfl⟩
                have i3 : IntKind.i64.wrap ((k : Int) - 1) = (j : Int) := by rw [IntKind.wrap_i64]; omega
                have i4 : (j : Int) < (m.length : Int) := by omega
                have i5 : (0 : Int) ≤ (j : Int) := by omega
                generalize hmj : m[k - 1] = mj at FP HLT
                rw [hj] at FP
                clear hj HP HFP hmj
                rcases HC with ⟨rfl, rfl⟩ | ⟨rfl, rfl, rfl⟩
                · refine but_begin (f := 41) (S := fun V => Below W2.drew.heap.size W2.drew V) (by kernel_rfl) ?_
                  refine but_take (f := 41) (i := 0) (v := ?vf0) rfl (by kernel_rfl) (by kernel_rfl) (by kernel_rfl) (by kernel_rfl) (by kernel_rfl) (fun _ _ _ h => h) (Or.inl ⟨(by rfl), ?hyf0⟩) (Below.refl _ _) ?restf0
                  case hyf0 =>
                    intro W hW
                    go_simp
                    exact rfl
                  simp only [List.getElem_toArray, List.getElem_cons_succ, List.getElem_cons_zero, Act.put, List.setIfInBounds_toArray, List.set_cons_zero, List.set_cons_succ]
                  refine but_take (f := 41) (i := 1) (v := ?vf1) rfl (by kernel_rfl) (by kernel_rfl) (by kernel_rfl) (by kernel_rfl) (by kernel_rfl) (fun _ _ _ h => h) (Or.inl ⟨(by rfl), ?hyf1⟩) (Below.refl _ _) ?restf1
                  case hyf1 =>
                    intro W hW
                    go_simp
                    exact rfl
                  simp only [List.getElem_toArray, List.getElem_cons_succ, List.getElem_cons_zero, Act.put, List.setIfInBounds_toArray, List.set_cons_zero, List.set_cons_succ]
                  refine but_take (f := 41) (i := 2) (v := ?vf2) rfl (by kernel_rfl) (by kernel_rfl) (by kernel_rfl) (by kernel_rfl) (by kernel_rfl) (fun _ _ _ h => h) (Or.inl ⟨((wanted_at rfl rfl rfl rfl).trans rfl), ?hyf2⟩) (Below.refl _ _) ?restf2
                  case hyf2 =>
                    intro W hW
                    go_simp
                    exact rfl
                  simp only [List.getElem_toArray, List.getElem_cons_succ, List.getElem_cons_zero, Act.put, List.setIfInBounds_toArray, List.set_cons_zero, List.set_cons_succ]
                  refine but_take (f := 41) (i := 3) (v := ?vf3) rfl (by kernel_rfl) (by kernel_rfl) (by kernel_rfl) (by kernel_rfl) (by kernel_rfl) (fun _ _ _ h => h) (Or.inl ⟨((wanted_at rfl rfl rfl rfl).trans rfl), ?hyf3⟩) (Below.refl _ _) ?restf3
                  case hyf3 =>
                    intro W hW
                    go_simp
                    exact rfl
                  simp only [List.getElem_toArray, List.getElem_cons_succ, List.getElem_cons_zero, Act.put, List.setIfInBounds_toArray, List.set_cons_zero, List.set_cons_succ]
                  refine but_take (f := 41) (i := 4) (v := ?vf4) rfl (by kernel_rfl) (by kernel_rfl) (by kernel_rfl) (by kernel_rfl) (by kernel_rfl) (fun _ _ _ h => h) (Or.inl ⟨((wanted_at rfl rfl rfl rfl).trans rfl), ?hyf4⟩) (Below.refl _ _) ?restf4
                  case hyf4 =>
                    intro W hW
                    go_simp
                    exact rfl
                  simp only [List.getElem_toArray, List.getElem_cons_succ, List.getElem_cons_zero, Act.put, List.setIfInBounds_toArray, List.set_cons_zero, List.set_cons_succ]
                  refine but_take (f := 41) (i := 5) (v := ?vf5) rfl (by kernel_rfl) (by kernel_rfl) (by kernel_rfl) (by kernel_rfl) (by kernel_rfl) (fun _ _ _ h => h) (Or.inl ⟨((wanted_at rfl rfl rfl rfl).trans rfl), ?hyf5⟩) (Below.refl _ _) ?restf5
                  case hyf5 =>
                    intro W hW
                    have hb0 : Below W2.heap.size W2 W := bstep (Below.drew1 _) hW
                    obtain ⟨m0, m1, m2, m3, m4⟩ := FM.out _ hb0
                    go_simp
                    exact rfl
                  simp only [List.getElem_toArray, List.getElem_cons_succ, List.getElem_cons_zero, Act.put, List.setIfInBounds_toArray, List.set_cons_zero, List.set_cons_succ]
                  refine but_take (f := 41) (i := 6) (v := ?vf6) rfl (by kernel_rfl) (by kernel_rfl) (by kernel_rfl) (by kernel_rfl) (by kernel_rfl) (fun _ _ _ h => h) (Or.inl ⟨((wanted_at rfl rfl rfl rfl).trans rfl), ?hyf6⟩) (Below.refl _ _) ?restf6
                  case hyf6 =>
                    intro W hW
                    have hb0 : Below W2.heap.size W2 W := bstep (Below.drew1 _) hW
                    obtain ⟨y0, y1, y2, y3, y4, y5⟩ := box5 (box_on QY.out hb0)
                    go_simp
                    exact rfl
                  simp only [List.getElem_toArray, List.getElem_cons_succ, List.getElem_cons_zero, Act.put, List.setIfInBounds_toArray, List.set_cons_zero, List.set_cons_succ]
                  refine but_take (f := 41) (i := 7) (v := ?vf7) rfl (by kernel_rfl) (by kernel_rfl) (by kernel_rfl) (by kernel_rfl) (by kernel_rfl) (fun _ _ _ h => h) (Or.inl ⟨((wanted_at rfl rfl rfl rfl).trans rfl), ?hyf7⟩) (Below.refl _ _) ?restf7
                  case hyf7 =>
                    intro W hW
                    go_simp
                    exact rfl
                  simp only [List.getElem_toArray, List.getElem_cons_succ, List.getElem_cons_zero, Act.put, List.setIfInBounds_toArray, List.set_cons_zero, List.set_cons_succ]
                  refine but_take (f := 41) (i := 8) (v := ?vf8) rfl (by kernel_rfl) (by kernel_rfl) (by kernel_rfl) (by kernel_rfl) (by kernel_rfl) (fun _ _ _ h => h) (Or.inl ⟨(by rfl), ?hyf8⟩) (Below.refl _ _) ?restf8
                  case hyf8 =>
                    intro W hW
                    go_simp
                    exact rfl
                  simp only [List.getElem_toArray, List.getElem_cons_succ, List.getElem_cons_zero, Act.put, List.setIfInBounds_toArray, List.set_cons_zero, List.set_cons_succ]
                  refine but_take (f := 41) (i := 9) (v := ?vf9) rfl (by kernel_rfl) (by kernel_rfl) (by kernel_rfl) (by kernel_rfl) (by kernel_rfl) (fun _ _ _ h => h) (Or.inl ⟨(by rfl), ?hyf9⟩) (Below.refl _ _) ?restf9
                  case hyf9 =>
                    intro W hW
                    go_simp
                    exact rfl
                  simp only [List.getElem_toArray, List.getElem_cons_succ, List.getElem_cons_zero, Act.put, List.setIfInBounds_toArray, List.set_cons_zero, List.set_cons_succ]
                  refine but_take (f := 41) (i := 10) (v := ?vf10) rfl (by kernel_rfl) (by kernel_rfl) (by kernel_rfl) (by kernel_rfl) (by kernel_rfl) (fun _ _ _ h => h) (Or.inl ⟨((wanted_at rfl rfl rfl rfl).trans rfl), ?hyf10⟩) (Below.refl _ _) ?restf10
                  case hyf10 =>
                    intro W hW
                    go_simp
                    exact rfl
                  simp only [List.getElem_toArray, List.getElem_cons_succ, List.getElem_cons_zero, Act.put, List.setIfInBounds_toArray, List.set_cons_zero, List.set_cons_succ]
                  refine but_take (f := 41) (i := 11) (v := ?vf11) rfl (by kernel_rfl) (by kernel_rfl) (by kernel_rfl) (by kernel_rfl) (by kernel_rfl) (fun _ _ _ h => h) (Or.inl ⟨((wanted_at rfl rfl rfl rfl).trans rfl), ?hyf11⟩) (Below.refl _ _) ?restf11
                  case hyf11 =>
                    intro W hW
                    go_simp
                    exact rfl
                  simp only [List.getElem_toArray, List.getElem_cons_succ, List.getElem_cons_zero, Act.put, List.setIfInBounds_toArray, List.set_cons_zero, List.set_cons_succ]
                  refine but_take (f := 41) (i := 12) (v := ?vf12) rfl (by kernel_rfl) (by kernel_rfl) (by kernel_rfl) (by kernel_rfl) (by kernel_rfl) (fun _ _ _ h => h) (Or.inl ⟨((wanted_at rfl rfl rfl rfl).trans rfl), ?hyf12⟩) (Below.refl _ _) ?restf12
                  case hyf12 =>
                    intro W hW
                    go_simp
                    exact rfl
                  simp only [List.getElem_toArray, List.getElem_cons_succ, List.getElem_cons_zero, Act.put, List.setIfInBounds_toArray, List.set_cons_zero, List.set_cons_succ]
                  refine but_take (f := 41) (i := 13) (v := undef) rfl (by kernel_rfl) (by kernel_rfl) (by kernel_rfl) (by kernel_rfl) (by kernel_rfl) (fun _ _ _ h => h) (Or.inr ⟨((wanted_at rfl rfl rfl rfl).trans rfl), rfl⟩) (Below.refl _ _) ?_
                  simp only [List.getElem_toArray, List.getElem_cons_succ, List.getElem_cons_zero, Act.put, List.setIfInBounds_toArray, List.set_cons_zero, List.set_cons_succ]
                  refine but_take (f := 41) (i := 14) (v := undef) rfl (by kernel_rfl) (by kernel_rfl) (by kernel_rfl) (by kernel_rfl) (by kernel_rfl) (fun _ _ _ h => h) (Or.inr ⟨((wanted_at rfl rfl rfl rfl).trans rfl), rfl⟩) (Below.refl _ _) ?_
                  simp only [List.getElem_toArray, List.getElem_cons_succ, List.getElem_cons_zero, Act.put, List.setIfInBounds_toArray, List.set_cons_zero, List.set_cons_succ]
                  refine but_take (f := 41) (i := 15) (v := undef) rfl (by kernel_rfl) (by kernel_rfl) (by kernel_rfl) (by kernel_rfl) (by kernel_rfl) (fun _ _ _ h => h) (Or.inr ⟨((wanted_at rfl rfl rfl rfl).trans rfl), rfl⟩) (Below.refl _ _) ?_
                  simp only [List.getElem_toArray, List.getElem_cons_succ, List.getElem_cons_zero, Act.put, List.setIfInBounds_toArray, List.set_cons_zero, List.set_cons_succ]
                  refine but_take (f := 41) (i := 16) (v := undef) rfl (by kernel_rfl) (by kernel_rfl) (by kernel_rfl) (by kernel_rfl) (by kernel_rfl) (fun _ _ _ h => h) (Or.inr ⟨(wanted_un rfl rfl rfl rfl), rfl⟩) (Below.refl _ _) ?_
                  simp only [List.getElem_toArray, List.getElem_cons_succ, List.getElem_cons_zero, Act.put, List.setIfInBounds_toArray, List.set_cons_zero, List.set_cons_succ]
                  refine but_take (f := 41) (i := 17) (v := undef) rfl (by kernel_rfl) (by kernel_rfl) (by kernel_rfl) (by kernel_rfl) (by kernel_rfl) (fun _ _ _ h => h) (Or.inr ⟨(wanted_un rfl rfl rfl rfl), rfl⟩) (Below.refl _ _) ?_
                  simp only [List.getElem_toArray, List.getElem_cons_succ, List.getElem_cons_zero, Act.put, List.setIfInBounds_toArray, List.set_cons_zero, List.set_cons_succ]
                  refine but_take (f := 41) (i := 18) (v := undef) rfl (by kernel_rfl) (by kernel_rfl) (by kernel_rfl) (by kernel_rfl) (by kernel_rfl) (fun _ _ _ h => h) (Or.inr ⟨(wanted_un rfl rfl rfl rfl), rfl⟩) (Below.refl _ _) ?_
                  simp only [List.getElem_toArray, List.getElem_cons_succ, List.getElem_cons_zero, Act.put, List.setIfInBounds_toArray, List.set_cons_zero, List.set_cons_succ]
                  refine but_take (f := 41) (i := 19) (v := undef) rfl (by kernel_rfl) (by kernel_rfl) (by kernel_rfl) (by kernel_rfl) (by kernel_rfl) (fun _ _ _ h => h) (Or.inr ⟨(wanted_un rfl rfl rfl rfl), rfl⟩) (Below.refl _ _) ?_
                  simp only [List.getElem_toArray, List.getElem_cons_succ, List.getElem_cons_zero, Act.put, List.setIfInBounds_toArray, List.set_cons_zero, List.set_cons_succ]
                  refine but_take (f := 41) (i := 20) (v := undef) rfl (by kernel_rfl) (by kernel_rfl) (by kernel_rfl) (by kernel_rfl) (by kernel_rfl) (fun _ _ _ h => h) (Or.inr ⟨(wanted_un rfl rfl rfl rfl), rfl⟩) (Below.refl _ _) ?_
                  simp only [List.getElem_toArray, List.getElem_cons_succ, List.getElem_cons_zero, Act.put, List.setIfInBounds_toArray, List.set_cons_zero, List.set_cons_succ]
                  refine but_take (f := 41) (i := 21) (v := undef) rfl (by kernel_rfl) (by kernel_rfl) (by kernel_rfl) (by kernel_rfl) (by kernel_rfl) (fun _ _ _ h => h) (Or.inr ⟨(wanted_un rfl rfl rfl rfl), rfl⟩) (Below.refl _ _) ?_
                  simp only [List.getElem_toArray, List.getElem_cons_succ, List.getElem_cons_zero, Act.put, List.setIfInBounds_toArray, List.set_cons_zero, List.set_cons_succ]
                  refine but_take (f := 41) (i := 22) (v := undef) rfl (by kernel_rfl) (by kernel_rfl) (by kernel_rfl) (by kernel_rfl) (by kernel_rfl) (fun _ _ _ h => h) (Or.inr ⟨((wanted_at rfl rfl rfl rfl).trans rfl), rfl⟩) (Below.refl _ _) ?_
                  simp only [List.getElem_toArray, List.getElem_cons_succ, List.getElem_cons_zero, Act.put, List.setIfInBounds_toArray, List.set_cons_zero, List.set_cons_succ]
                  refine but_take (f := 41) (i := 23) (v := ?vf23) rfl (by kernel_rfl) (by kernel_rfl) (by kernel_rfl) (by kernel_rfl) (by kernel_rfl) (fun _ _ _ h => h) (Or.inl ⟨((wanted_at rfl rfl rfl rfl).trans rfl), ?hyf23⟩) (Below.refl _ _) ?restf23
                  case hyf23 =>
                    intro W hW
                    go_simp
                    exact rfl
                  simp only [List.getElem_toArray, List.getElem_cons_succ, List.getElem_cons_zero, Act.put, List.setIfInBounds_toArray, List.set_cons_zero, List.set_cons_succ]
                  refine but_take (f := 41) (i := 24) (v := ?vf24) rfl (by kernel_rfl) (by kernel_rfl) (by kernel_rfl) (by kernel_rfl) (by kernel_rfl) (fun _ _ _ h => h) (Or.inl ⟨(by rfl), ?hyf24⟩) (Below.refl _ _) ?restf24
                  case hyf24 =>
                    intro W hW
                    go_simp
                    exact rfl
                  simp only [List.getElem_toArray, List.getElem_cons_succ, List.getElem_cons_zero, Act.put, List.setIfInBounds_toArray, List.set_cons_zero, List.set_cons_succ]
                  refine but_take (f := 41) (i := 25) (v := ?vf25) rfl (by kernel_rfl) (by kernel_rfl) (by kernel_rfl) (by kernel_rfl) (by kernel_rfl) (fun _ _ _ h => h) (Or.inl ⟨(by rfl), ?hyf25⟩) (Below.refl _ _) ?restf25
                  case hyf25 =>
                    intro W hW
                    go_simp
                    exact rfl
                  simp only [List.getElem_toArray, List.getElem_cons_succ, List.getElem_cons_zero, Act.put, List.setIfInBounds_toArray, List.set_cons_zero, List.set_cons_succ]
                  refine but_take (f := 41) (i := 26) (v := ?vf26) rfl (by kernel_rfl) (by kernel_rfl) (by kernel_rfl) (by kernel_rfl) (by kernel_rfl) (fun _ _ _ h => h) (Or.inl ⟨((wanted_at rfl rfl rfl rfl).trans rfl), ?hyf26⟩) (Below.refl _ _) ?restf26
                  case hyf26 =>
                    intro W hW
                    go_simp
                    exact rfl
                  simp only [List.getElem_toArray, List.getElem_cons_succ, List.getElem_cons_zero, Act.put, List.setIfInBounds_toArray, List.set_cons_zero, List.set_cons_succ]
                  refine but_take (f := 41) (i := 27) (v := ?vf27) rfl (by kernel_rfl) (by kernel_rfl) (by kernel_rfl) (by kernel_rfl) (by kernel_rfl) (fun _ _ _ h => h) (Or.inl ⟨((wanted_at rfl rfl rfl rfl).trans rfl), ?hyf27⟩) (Below.refl _ _) ?restf27
                  case hyf27 =>
                    intro W hW
                    go_simp
                    exact rfl
                  simp only [List.getElem_toArray, List.getElem_cons_succ, List.getElem_cons_zero, Act.put, List.setIfInBounds_toArray, List.set_cons_zero, List.set_cons_succ]
                  refine but_take (f := 41) (i := 28) (v := ?vf28) rfl (by kernel_rfl) (by kernel_rfl) (by kernel_rfl) (by kernel_rfl) (by kernel_rfl) (fun _ _ _ h => h) (Or.inl ⟨((wanted_at rfl rfl rfl rfl).trans rfl), ?hyf28⟩) (Below.refl _ _) ?restf28
                  case hyf28 =>
                    intro W hW
                    go_simp
                    exact rfl
                  simp only [List.getElem_toArray, List.getElem_cons_succ, List.getElem_cons_zero, Act.put, List.setIfInBounds_toArray, List.set_cons_zero, List.set_cons_succ]
                  refine but_take (f := 41) (i := 29) (v := ?vf29) rfl (by kernel_rfl) (by kernel_rfl) (by kernel_rfl) (by kernel_rfl) (by kernel_rfl) (fun _ _ _ h => h) (Or.inl ⟨((wanted_at rfl rfl rfl rfl).trans rfl), ?hyf29⟩) (Below.refl _ _) ?restf29
                  case hyf29 =>
                    intro W hW
                    go_simp
                    exact rfl
                  simp only [List.getElem_toArray, List.getElem_cons_succ, List.getElem_cons_zero, Act.put, List.setIfInBounds_toArray, List.set_cons_zero, List.set_cons_succ]
                  refine but_take (f := 41) (i := 30) (v := ?vf30) rfl (by kernel_rfl) (by kernel_rfl) (by kernel_rfl) (by kernel_rfl) (by kernel_rfl) (fun _ _ _ h => h) (Or.inl ⟨((wanted_at rfl rfl rfl rfl).trans rfl), ?hyf30⟩) (Below.refl _ _) ?restf30
                  case hyf30 =>
                    intro W hW
                    go_simp
                    exact rfl
                  simp only [List.getElem_toArray, List.getElem_cons_succ, List.getElem_cons_zero, Act.put, List.setIfInBounds_toArray, List.set_cons_zero, List.set_cons_succ]
                  refine but_take (f := 41) (i := 31) (v := ?vf31) rfl (by kernel_rfl) (by kernel_rfl) (by kernel_rfl) (by kernel_rfl) (by kernel_rfl) (fun _ _ _ h => h) (Or.inl ⟨((wanted_at rfl rfl rfl rfl).trans rfl), ?hyf31⟩) (Below.refl _ _) ?restf31
                  case hyf31 =>
                    intro W hW
                    go_simp
                    exact rfl
                  simp only [List.getElem_toArray, List.getElem_cons_succ, List.getElem_cons_zero, Act.put, List.setIfInBounds_toArray, List.set_cons_zero, List.set_cons_succ]
                  refine but_take (f := 41) (i := 32) (v := ?vf32) rfl (by kernel_rfl) (by kernel_rfl) (by kernel_rfl) (by kernel_rfl) (by kernel_rfl) (fun _ _ _ h => h) (Or.inl ⟨((wanted_at rfl rfl rfl rfl).trans rfl), ?hyf32⟩) (Below.refl _ _) ?restf32
                  case hyf32 =>
                    intro W hW
                    go_simp
                    exact rfl
                  simp only [List.getElem_toArray, List.getElem_cons_succ, List.getElem_cons_zero, Act.put, List.setIfInBounds_toArray, List.set_cons_zero, List.set_cons_succ]
                  refine but_take (f := 41) (i := 33) (v := ?vf33) rfl (by kernel_rfl) (by kernel_rfl) (by kernel_rfl) (by kernel_rfl) (by kernel_rfl) (fun _ _ _ h => h) (Or.inl ⟨((wanted_at rfl rfl rfl rfl).trans rfl), ?hyf33⟩) (Below.refl _ _) ?restf33
                  case hyf33 =>
                    intro W hW
                    have hb0 : Below W2.heap.size W2 W := bstep (Below.drew1 _) hW
                    obtain ⟨p0, p1, p2, p3, p4⟩ := FP.out _ hb0
                    go_simp
                    exact rfl
                  simp only [List.getElem_toArray, List.getElem_cons_succ, List.getElem_cons_zero, Act.put, List.setIfInBounds_toArray, List.set_cons_zero, List.set_cons_succ]
                  refine but_take (f := 41) (i := 34) (v := ?vf34) rfl (by kernel_rfl) (by kernel_rfl) (by kernel_rfl) (by kernel_rfl) (by kernel_rfl) (fun _ _ _ h => h) (Or.inl ⟨((wanted_at rfl rfl rfl rfl).trans rfl), ?hyf34⟩) (Below.refl _ _) ?restf34
                  case hyf34 =>
                    intro W hW
                    go_simp
                    exact rfl
                  simp only [List.getElem_toArray, List.getElem_cons_succ, List.getElem_cons_zero, Act.put, List.setIfInBounds_toArray, List.set_cons_zero, List.set_cons_succ]
                  refine but_take (f := 41) (i := 35) (v := ?vf35) rfl (by kernel_rfl) (by kernel_rfl) (by kernel_rfl) (by kernel_rfl) (by kernel_rfl) (fun _ _ _ h => h) (Or.inl ⟨((wanted_at rfl rfl rfl rfl).trans rfl), ?hyf35⟩) (Below.refl _ _) ?restf35
                  case hyf35 =>
                    intro W hW
                    go_simp
                    exact rfl
                  simp only [List.getElem_toArray, List.getElem_cons_succ, List.getElem_cons_zero, Act.put, List.setIfInBounds_toArray, List.set_cons_zero, List.set_cons_succ]
                  refine but_take (f := 41) (i := 36) (v := ?vf36) rfl (by kernel_rfl) (by kernel_rfl) (by kernel_rfl) (by kernel_rfl) (by kernel_rfl) (fun _ _ _ h => h) (Or.inl ⟨((wanted_at rfl rfl rfl rfl).trans rfl), ?hyf36⟩) (Below.refl _ _) ?restf36
                  case hyf36 =>
                    intro W hW
                    go_simp
                    exact rfl
                  simp only [List.getElem_toArray, List.getElem_cons_succ, List.getElem_cons_zero, Act.put, List.setIfInBounds_toArray, List.set_cons_zero, List.set_cons_succ]
                  refine but_take (f := 41) (i := 37) (v := ?vf37) rfl (by kernel_rfl) (by kernel_rfl) (by kernel_rfl) (by kernel_rfl) (by kernel_rfl) (fun _ _ _ h => h) (Or.inl ⟨((wanted_at rfl rfl rfl rfl).trans rfl), ?hyf37⟩) (Below.refl _ _) ?restf37
                  case hyf37 =>
                    intro W hW
                    have hb0 : Below W2.heap.size W2 W := bstep (Below.drew1 _) hW
                    obtain ⟨m0, m1, m2, m3, m4⟩ := FM.out _ hb0
                    go_simp
                    exact rfl
                  simp only [List.getElem_toArray, List.getElem_cons_succ, List.getElem_cons_zero, Act.put, List.setIfInBounds_toArray, List.set_cons_zero, List.set_cons_succ]
                  refine but_run (i := 38) (by kernel_rfl) rfl ((wanted_at rfl rfl rfl rfl).trans rfl) ?_
                  simp only [List.getElem_toArray, List.getElem_cons_succ, List.getElem_cons_zero]
                  intro K HK
                  go_wp2_with fail
                  refine (HL.out _ _ _ _ _ _ _ _ _ _ _).mono ?_
                  rintro r Vf1 ⟨rfl, hBf1⟩
                  rw [HLT.out]
                  have hSf1 := bstep (Below.refl _ _) hBf1
                  go_wp2_with fail
                  refine HK.out _ Vf1 (fun _ => hSf1) ?_
                  clear HK
                  refine but_take (f := 41) (i := 39) (v := ?vf39) rfl (by kernel_rfl) (by kernel_rfl) (by kernel_rfl) (by kernel_rfl) (by kernel_rfl) (fun _ _ _ h => h) (Or.inl ⟨((wanted_at rfl rfl rfl rfl).trans rfl), ?hyf39⟩) hSf1 ?restf39
                  case hyf39 =>
                    intro W hW
                    go_simp
                    exact rfl
                  simp only [List.getElem_toArray, List.getElem_cons_succ, List.getElem_cons_zero, Act.put, List.setIfInBounds_toArray, List.set_cons_zero, List.set_cons_succ]
                  refine but_take (f := 41) (i := 40) (v := ?vf40) rfl (by kernel_rfl) (by kernel_rfl) (by kernel_rfl) (by kernel_rfl) (by kernel_rfl) (fun _ _ _ h => h) (Or.inl ⟨((wanted_at rfl rfl rfl rfl).trans rfl), ?hyf40⟩) hSf1 ?restf40
                  case hyf40 =>
                    intro W hW
                    go_simp
                    exact rfl
                  simp only [List.getElem_toArray, List.getElem_cons_succ, List.getElem_cons_zero, Act.put, List.setIfInBounds_toArray, List.set_cons_zero, List.set_cons_succ]
                  refine but_run (i := 41) (by kernel_rfl) rfl (by rfl) ?_
                  simp only [List.getElem_toArray, List.getElem_cons_succ, List.getElem_cons_zero]
                  intro K HK
                  go_wp2_with fail
                  refine HK.out _ Vf1 (fun h => absurd rfl h) ?_
                  clear HK
                  refine but_done (by kernel_rfl) ?_
                  go_wp2_with fail
                  go_meet
                  exact ⟨rfl, Lib.hid (bstep (Below.drew1 _) hSf1)⟩
                · refine but_begin (f := 41) (S := fun V => Below W2.drew.heap.size W2.drew V) (by kernel_rfl) ?_
                  refine but_take (f := 41) (i := 0) (v := ?vg0) rfl (by kernel_rfl) (by kernel_rfl) (by kernel_rfl) (by kernel_rfl) (by kernel_rfl) (fun _ _ _ h => h) (Or.inl ⟨(by rfl), ?hyg0⟩) (Below.refl _ _) ?restg0
                  case hyg0 =>
                    intro W hW
                    go_simp
                    exact rfl
                  simp only [List.getElem_toArray, List.getElem_cons_succ, List.getElem_cons_zero, Act.put, List.setIfInBounds_toArray, List.set_cons_zero, List.set_cons_succ]
                  refine but_take (f := 41) (i := 1) (v := ?vg1) rfl (by kernel_rfl) (by kernel_rfl) (by kernel_rfl) (by kernel_rfl) (by kernel_rfl) (fun _ _ _ h => h) (Or.inl ⟨(by rfl), ?hyg1⟩) (Below.refl _ _) ?restg1
                  case hyg1 =>
                    intro W hW
                    go_simp
                    exact rfl
                  simp only [List.getElem_toArray, List.getElem_cons_succ, List.getElem_cons_zero, Act.put, List.setIfInBounds_toArray, List.set_cons_zero, List.set_cons_succ]
                  refine but_take (f := 41) (i := 2) (v := undef) rfl (by kernel_rfl) (by kernel_rfl) (by kernel_rfl) (by kernel_rfl) (by kernel_rfl) (fun _ _ _ h => h) (Or.inr ⟨((wanted_at rfl rfl rfl rfl).trans rfl), rfl⟩) (Below.refl _ _) ?_
                  simp only [List.getElem_toArray, List.getElem_cons_succ, List.getElem_cons_zero, Act.put, List.setIfInBounds_toArray, List.set_cons_zero, List.set_cons_succ]
                  refine but_take (f := 41) (i := 3) (v := undef) rfl (by kernel_rfl) (by kernel_rfl) (by kernel_rfl) (by kernel_rfl) (by kernel_rfl) (fun _ _ _ h => h) (Or.inr ⟨((wanted_at rfl rfl rfl rfl).trans rfl), rfl⟩) (Below.refl _ _) ?_
                  simp only [List.getElem_toArray, List.getElem_cons_succ, List.getElem_cons_zero, Act.put, List.setIfInBounds_toArray, List.set_cons_zero, List.set_cons_succ]
                  refine but_take (f := 41) (i := 4) (v := undef) rfl (by kernel_rfl) (by kernel_rfl) (by kernel_rfl) (by kernel_rfl) (by kernel_rfl) (fun _ _ _ h => h) (Or.inr ⟨((wanted_at rfl rfl rfl rfl).trans rfl), rfl⟩) (Below.refl _ _) ?_
                  simp only [List.getElem_toArray, List.getElem_cons_succ, List.getElem_cons_zero, Act.put, List.setIfInBounds_toArray, List.set_cons_zero, List.set_cons_succ]
                  refine but_take (f := 41) (i := 5) (v := undef) rfl (by kernel_rfl) (by kernel_rfl) (by kernel_rfl) (by kernel_rfl) (by kernel_rfl) (fun _ _ _ h => h) (Or.inr ⟨((wanted_at rfl rfl rfl rfl).trans rfl), rfl⟩) (Below.refl _ _) ?_
                  simp only [List.getElem_toArray, List.getElem_cons_succ, List.getElem_cons_zero, Act.put, List.setIfInBounds_toArray, List.set_cons_zero, List.set_cons_succ]
                  refine but_take (f := 41) (i := 6) (v := undef) rfl (by kernel_rfl) (by kernel_rfl) (by kernel_rfl) (by kernel_rfl) (by kernel_rfl) (fun _ _ _ h => h) (Or.inr ⟨((wanted_at rfl rfl rfl rfl).trans rfl), rfl⟩) (Below.refl _ _) ?_
                  simp only [List.getElem_toArray, List.getElem_cons_succ, List.getElem_cons_zero, Act.put, List.setIfInBounds_toArray, List.set_cons_zero, List.set_cons_succ]
                  refine but_take (f := 41) (i := 7) (v := undef) rfl (by kernel_rfl) (by kernel_rfl) (by kernel_rfl) (by kernel_rfl) (by kernel_rfl) (fun _ _ _ h => h) (Or.inr ⟨((wanted_at rfl rfl rfl rfl).trans rfl), rfl⟩) (Below.refl _ _) ?_
                  simp only [List.getElem_toArray, List.getElem_cons_succ, List.getElem_cons_zero, Act.put, List.setIfInBounds_toArray, List.set_cons_zero, List.set_cons_succ]
                  refine but_take (f := 41) (i := 8) (v := ?vg8) rfl (by kernel_rfl) (by kernel_rfl) (by kernel_rfl) (by kernel_rfl) (by kernel_rfl) (fun _ _ _ h => h) (Or.inl ⟨(by rfl), ?hyg8⟩) (Below.refl _ _) ?restg8
                  case hyg8 =>
                    intro W hW
                    go_simp
                    exact rfl
                  simp only [List.getElem_toArray, List.getElem_cons_succ, List.getElem_cons_zero, Act.put, List.setIfInBounds_toArray, List.set_cons_zero, List.set_cons_succ]
                  refine but_take (f := 41) (i := 9) (v := ?vg9) rfl (by kernel_rfl) (by kernel_rfl) (by kernel_rfl) (by kernel_rfl) (by kernel_rfl) (fun _ _ _ h => h) (Or.inl ⟨(by rfl), ?hyg9⟩) (Below.refl _ _) ?restg9
                  case hyg9 =>
                    intro W hW
                    go_simp
                    exact rfl
                  simp only [List.getElem_toArray, List.getElem_cons_succ, List.getElem_cons_zero, Act.put, List.setIfInBounds_toArray, List.set_cons_zero, List.set_cons_succ]
                  refine but_take (f := 41) (i := 10) (v := ?vg10) rfl (by kernel_rfl) (by kernel_rfl) (by kernel_rfl) (by kernel_rfl) (by kernel_rfl) (fun _ _ _ h => h) (Or.inl ⟨((wanted_at rfl rfl rfl rfl).trans rfl), ?hyg10⟩) (Below.refl _ _) ?restg10
                  case hyg10 =>
                    intro W hW
                    go_simp
                    exact rfl
                  simp only [List.getElem_toArray, List.getElem_cons_succ, List.getElem_cons_zero, Act.put, List.setIfInBounds_toArray, List.set_cons_zero, List.set_cons_succ]
                  refine but_take (f := 41) (i := 11) (v := ?vg11) rfl (by kernel_rfl) (by kernel_rfl) (by kernel_rfl) (by kernel_rfl) (by kernel_rfl) (fun _ _ _ h => h) (Or.inl ⟨((wanted_at rfl rfl rfl rfl).trans rfl), ?hyg11⟩) (Below.refl _ _) ?restg11
                  case hyg11 =>
                    intro W hW
                    go_simp
                    exact rfl
                  simp only [List.getElem_toArray, List.getElem_cons_succ, List.getElem_cons_zero, Act.put, List.setIfInBounds_toArray, List.set_cons_zero, List.set_cons_succ]
                  refine but_take (f := 41) (i := 12) (v := ?vg12) rfl (by kernel_rfl) (by kernel_rfl) (by kernel_rfl) (by kernel_rfl) (by kernel_rfl) (fun _ _ _ h => h) (Or.inl ⟨((wanted_at rfl rfl rfl rfl).trans rfl), ?hyg12⟩) (Below.refl _ _) ?restg12
                  case hyg12 =>
                    intro W hW
                    go_simp
                    exact rfl
                  simp only [List.getElem_toArray, List.getElem_cons_succ, List.getElem_cons_zero, Act.put, List.setIfInBounds_toArray, List.set_cons_zero, List.set_cons_succ]
                  refine but_take (f := 41) (i := 13) (v := ?vg13) rfl (by kernel_rfl) (by kernel_rfl) (by kernel_rfl) (by kernel_rfl) (by kernel_rfl) (fun _ _ _ h => h) (Or.inl ⟨((wanted_at rfl rfl rfl rfl).trans rfl), ?hyg13⟩) (Below.refl _ _) ?restg13
                  case hyg13 =>
                    intro W hW
                    go_simp
                    exact rfl
                  simp only [List.getElem_toArray, List.getElem_cons_succ, List.getElem_cons_zero, Act.put, List.setIfInBounds_toArray, List.set_cons_zero, List.set_cons_succ]
                  refine but_take (f := 41) (i := 14) (v := ?vg14) rfl (by kernel_rfl) (by kernel_rfl) (by kernel_rfl) (by kernel_rfl) (by kernel_rfl) (fun _ _ _ h => h) (Or.inl ⟨((wanted_at rfl rfl rfl rfl).trans rfl), ?hyg14⟩) (Below.refl _ _) ?restg14
                  case hyg14 =>
                    intro W hW
                    go_simp
                    exact rfl
                  simp only [List.getElem_toArray, List.getElem_cons_succ, List.getElem_cons_zero, Act.put, List.setIfInBounds_toArray, List.set_cons_zero, List.set_cons_succ]
                  refine but_take (f := 41) (i := 15) (v := ?vg15) rfl (by kernel_rfl) (by kernel_rfl) (by kernel_rfl) (by kernel_rfl) (by kernel_rfl) (fun _ _ _ h => h) (Or.inl ⟨((wanted_at rfl rfl rfl rfl).trans rfl), ?hyg15⟩) (Below.refl _ _) ?restg15
                  case hyg15 =>
                    intro W hW
                    go_simp
                    exact rfl
                  simp only [List.getElem_toArray, List.getElem_cons_succ, List.getElem_cons_zero, Act.put, List.setIfInBounds_toArray, List.set_cons_zero, List.set_cons_succ]
                  refine but_take (f := 41) (i := 16) (v := ?vg16) rfl (by kernel_rfl) (by kernel_rfl) (by kernel_rfl) (by kernel_rfl) (by kernel_rfl) (fun _ _ _ h => h) (Or.inl ⟨((wanted_at rfl rfl rfl rfl).trans rfl), ?hyg16⟩) (Below.refl _ _) ?restg16
                  case hyg16 =>
                    intro W hW
                    go_simp
                    exact rfl
                  simp only [List.getElem_toArray, List.getElem_cons_succ, List.getElem_cons_zero, Act.put, List.setIfInBounds_toArray, List.set_cons_zero, List.set_cons_succ]
                  refine but_take (f := 41) (i := 17) (v := ?vg17) rfl (by kernel_rfl) (by kernel_rfl) (by kernel_rfl) (by kernel_rfl) (by kernel_rfl) (fun _ _ _ h => h) (Or.inl ⟨((wanted_at rfl rfl rfl rfl).trans rfl), ?hyg17⟩) (Below.refl _ _) ?restg17
                  case hyg17 =>
                    intro W hW
                    go_simp
                    exact rfl
                  simp only [List.getElem_toArray, List.getElem_cons_succ, List.getElem_cons_zero, Act.put, List.setIfInBounds_toArray, List.set_cons_zero, List.set_cons_succ]
                  refine but_take (f := 41) (i := 18) (v := ?vg18) rfl (by kernel_rfl) (by kernel_rfl) (by kernel_rfl) (by kernel_rfl) (by kernel_rfl) (fun _ _ _ h => h) (Or.inl ⟨((wanted_at rfl rfl rfl rfl).trans rfl), ?hyg18⟩) (Below.refl _ _) ?restg18
                  case hyg18 =>
                    intro W hW
                    go_simp
                    exact rfl
                  simp only [List.getElem_toArray, List.getElem_cons_succ, List.getElem_cons_zero, Act.put, List.setIfInBounds_toArray, List.set_cons_zero, List.set_cons_succ]
                  refine but_take (f := 41) (i := 19) (v := ?vg19) rfl (by kernel_rfl) (by kernel_rfl) (by kernel_rfl) (by kernel_rfl) (by kernel_rfl) (fun _ _ _ h => h) (Or.inl ⟨((wanted_at rfl rfl rfl rfl).trans rfl), ?hyg19⟩) (Below.refl _ _) ?restg19
                  case hyg19 =>
                    intro W hW
                    have hb0 : Below W2.heap.size W2 W := bstep (Below.drew1 _) hW
                    obtain ⟨m0, m1, m2, m3, m4⟩ := FM.out _ hb0
                    go_simp
                    exact rfl
                  simp only [List.getElem_toArray, List.getElem_cons_succ, List.getElem_cons_zero, Act.put, List.setIfInBounds_toArray, List.set_cons_zero, List.set_cons_succ]
                  refine but_take (f := 41) (i := 20) (v := ?vg20) rfl (by kernel_rfl) (by kernel_rfl) (by kernel_rfl) (by kernel_rfl) (by kernel_rfl) (fun _ _ _ h => h) (Or.inl ⟨((wanted_at rfl rfl rfl rfl).trans rfl), ?hyg20⟩) (Below.refl _ _) ?restg20
                  case hyg20 =>
                    intro W hW
                    have hb0 : Below W2.heap.size W2 W := bstep (Below.drew1 _) hW
                    obtain ⟨x0, x1, x2, x3, x4, x5⟩ := box5 (box_on QX.out hb0)
                    go_simp
                    exact rfl
                  simp only [List.getElem_toArray, List.getElem_cons_succ, List.getElem_cons_zero, Act.put, List.setIfInBounds_toArray, List.set_cons_zero, List.set_cons_succ]
                  refine but_take (f := 41) (i := 21) (v := ?vg21) rfl (by kernel_rfl) (by kernel_rfl) (by kernel_rfl) (by kernel_rfl) (by kernel_rfl) (fun _ _ _ h => h) (Or.inl ⟨((wanted_at rfl rfl rfl rfl).trans rfl), ?hyg21⟩) (Below.refl _ _) ?restg21
                  case hyg21 =>
                    intro W hW
                    go_simp
                    exact rfl
                  simp only [List.getElem_toArray, List.getElem_cons_succ, List.getElem_cons_zero, Act.put, List.setIfInBounds_toArray, List.set_cons_zero, List.set_cons_succ]
                  refine but_take (f := 41) (i := 22) (v := ?vg22) rfl (by kernel_rfl) (by kernel_rfl) (by kernel_rfl) (by kernel_rfl) (by kernel_rfl) (fun _ _ _ h => h) (Or.inl ⟨((wanted_at rfl rfl rfl rfl).trans rfl), ?hyg22⟩) (Below.refl _ _) ?restg22
                  case hyg22 =>
                    intro W hW
                    go_simp
                    exact rfl
                  simp only [List.getElem_toArray, List.getElem_cons_succ, List.getElem_cons_zero, Act.put, List.setIfInBounds_toArray, List.set_cons_zero, List.set_cons_succ]
                  refine but_take (f := 41) (i := 23) (v := ?vg23) rfl (by kernel_rfl) (by kernel_rfl) (by kernel_rfl) (by kernel_rfl) (by kernel_rfl) (fun _ _ _ h => h) (Or.inl ⟨((wanted_at rfl rfl rfl rfl).trans rfl), ?hyg23⟩) (Below.refl _ _) ?restg23
                  case hyg23 =>
                    intro W hW
                    go_simp
                    exact rfl
                  simp only [List.getElem_toArray, List.getElem_cons_succ, List.getElem_cons_zero, Act.put, List.setIfInBounds_toArray, List.set_cons_zero, List.set_cons_succ]
                  refine but_take (f := 41) (i := 24) (v := ?vg24) rfl (by kernel_rfl) (by kernel_rfl) (by kernel_rfl) (by kernel_rfl) (by kernel_rfl) (fun _ _ _ h => h) (Or.inl ⟨(by rfl), ?hyg24⟩) (Below.refl _ _) ?restg24
                  case hyg24 =>
                    intro W hW
                    go_simp
                    exact rfl
                  simp only [List.getElem_toArray, List.getElem_cons_succ, List.getElem_cons_zero, Act.put, List.setIfInBounds_toArray, List.set_cons_zero, List.set_cons_succ]
                  refine but_take (f := 41) (i := 25) (v := ?vg25) rfl (by kernel_rfl) (by kernel_rfl) (by kernel_rfl) (by kernel_rfl) (by kernel_rfl) (fun _ _ _ h => h) (Or.inl ⟨(by rfl), ?hyg25⟩) (Below.refl _ _) ?restg25
                  case hyg25 =>
                    intro W hW
                    go_simp
                    exact rfl
                  simp only [List.getElem_toArray, List.getElem_cons_succ, List.getElem_cons_zero, Act.put, List.setIfInBounds_toArray, List.set_cons_zero, List.set_cons_succ]
                  refine but_take (f := 41) (i := 26) (v := ?vg26) rfl (by kernel_rfl) (by kernel_rfl) (by kernel_rfl) (by kernel_rfl) (by kernel_rfl) (fun _ _ _ h => h) (Or.inl ⟨((wanted_at rfl rfl rfl rfl).trans rfl), ?hyg26⟩) (Below.refl _ _) ?restg26
                  case hyg26 =>
                    intro W hW
                    go_simp
                    exact rfl
                  simp only [List.getElem_toArray, List.getElem_cons_succ, List.getElem_cons_zero, Act.put, List.setIfInBounds_toArray, List.set_cons_zero, List.set_cons_succ]
                  refine but_take (f := 41) (i := 27) (v := ?vg27) rfl (by kernel_rfl) (by kernel_rfl) (by kernel_rfl) (by kernel_rfl) (by kernel_rfl) (fun _ _ _ h => h) (Or.inl ⟨((wanted_at rfl rfl rfl rfl).trans rfl), ?hyg27⟩) (Below.refl _ _) ?restg27
                  case hyg27 =>
                    intro W hW
                    go_simp
                    exact rfl
                  simp only [List.getElem_toArray, List.getElem_cons_succ, List.getElem_cons_zero, Act.put, List.setIfInBounds_toArray, List.set_cons_zero, List.set_cons_succ]
                  refine but_take (f := 41) (i := 28) (v := ?vg28) rfl (by kernel_rfl) (by kernel_rfl) (by kernel_rfl) (by kernel_rfl) (by kernel_rfl) (fun _ _ _ h => h) (Or.inl ⟨((wanted_at rfl rfl rfl rfl).trans rfl), ?hyg28⟩) (Below.refl _ _) ?restg28
                  case hyg28 =>
                    intro W hW
                    go_simp
                    exact rfl
                  simp only [List.getElem_toArray, List.getElem_cons_succ, List.getElem_cons_zero, Act.put, List.setIfInBounds_toArray, List.set_cons_zero, List.set_cons_succ]
                  refine but_take (f := 41) (i := 29) (v := ?vg29) rfl (by kernel_rfl) (by kernel_rfl) (by kernel_rfl) (by kernel_rfl) (by kernel_rfl) (fun _ _ _ h => h) (Or.inl ⟨((wanted_at rfl rfl rfl rfl).trans rfl), ?hyg29⟩) (Below.refl _ _) ?restg29
                  case hyg29 =>
                    intro W hW
                    go_simp
                    exact rfl
                  simp only [List.getElem_toArray, List.getElem_cons_succ, List.getElem_cons_zero, Act.put, List.setIfInBounds_toArray, List.set_cons_zero, List.set_cons_succ]
                  refine but_take (f := 41) (i := 30) (v := ?vg30) rfl (by kernel_rfl) (by kernel_rfl) (by kernel_rfl) (by kernel_rfl) (by kernel_rfl) (fun _ _ _ h => h) (Or.inl ⟨((wanted_at rfl rfl rfl rfl).trans rfl), ?hyg30⟩) (Below.refl _ _) ?restg30
                  case hyg30 =>
                    intro W hW
                    go_simp
                    exact rfl
                  simp only [List.getElem_toArray, List.getElem_cons_succ, List.getElem_cons_zero, Act.put, List.setIfInBounds_toArray, List.set_cons_zero, List.set_cons_succ]
                  refine but_take (f := 41) (i := 31) (v := ?vg31) rfl (by kernel_rfl) (by kernel_rfl) (by kernel_rfl) (by kernel_rfl) (by kernel_rfl) (fun _ _ _ h => h) (Or.inl ⟨((wanted_at rfl rfl rfl rfl).trans rfl), ?hyg31⟩) (Below.refl _ _) ?restg31
                  case hyg31 =>
                    intro W hW
                    go_simp
                    exact rfl
                  simp only [List.getElem_toArray, List.getElem_cons_succ, List.getElem_cons_zero, Act.put, List.setIfInBounds_toArray, List.set_cons_zero, List.set_cons_succ]
                  refine but_take (f := 41) (i := 32) (v := ?vg32) rfl (by kernel_rfl) (by kernel_rfl) (by kernel_rfl) (by kernel_rfl) (by kernel_rfl) (fun _ _ _ h => h) (Or.inl ⟨((wanted_at rfl rfl rfl rfl).trans rfl), ?hyg32⟩) (Below.refl _ _) ?restg32
                  case hyg32 =>
                    intro W hW
                    go_simp
                    exact rfl
                  simp only [List.getElem_toArray, List.getElem_cons_succ, List.getElem_cons_zero, Act.put, List.setIfInBounds_toArray, List.set_cons_zero, List.set_cons_succ]
                  refine but_take (f := 41) (i := 33) (v := ?vg33) rfl (by kernel_rfl) (by kernel_rfl) (by kernel_rfl) (by kernel_rfl) (by kernel_rfl) (fun _ _ _ h => h) (Or.inl ⟨((wanted_at rfl rfl rfl rfl).trans rfl), ?hyg33⟩) (Below.refl _ _) ?restg33
                  case hyg33 =>
                    intro W hW
                    have hb0 : Below W2.heap.size W2 W := bstep (Below.drew1 _) hW
                    obtain ⟨p0, p1, p2, p3, p4⟩ := FP.out _ hb0
                    go_simp
                    exact rfl
                  simp only [List.getElem_toArray, List.getElem_cons_succ, List.getElem_cons_zero, Act.put, List.setIfInBounds_toArray, List.set_cons_zero, List.set_cons_succ]
                  refine but_take (f := 41) (i := 34) (v := ?vg34) rfl (by kernel_rfl) (by kernel_rfl) (by kernel_rfl) (by kernel_rfl) (by kernel_rfl) (fun _ _ _ h => h) (Or.inl ⟨((wanted_at rfl rfl rfl rfl).trans rfl), ?hyg34⟩) (Below.refl _ _) ?restg34
                  case hyg34 =>
                    intro W hW
                    go_simp
                    exact rfl
                  simp only [List.getElem_toArray, List.getElem_cons_succ, List.getElem_cons_zero, Act.put, List.setIfInBounds_toArray, List.set_cons_zero, List.set_cons_succ]
                  refine but_take (f := 41) (i := 35) (v := ?vg35) rfl (by kernel_rfl) (by kernel_rfl) (by kernel_rfl) (by kernel_rfl) (by kernel_rfl) (fun _ _ _ h => h) (Or.inl ⟨((wanted_at rfl rfl rfl rfl).trans rfl), ?hyg35⟩) (Below.refl _ _) ?restg35
                  case hyg35 =>
                    intro W hW
                    go_simp
                    exact rfl
                  simp only [List.getElem_toArray, List.getElem_cons_succ, List.getElem_cons_zero, Act.put, List.setIfInBounds_toArray, List.set_cons_zero, List.set_cons_succ]
                  refine but_take (f := 41) (i := 36) (v := ?vg36) rfl (by kernel_rfl) (by kernel_rfl) (by kernel_rfl) (by kernel_rfl) (by kernel_rfl) (fun _ _ _ h => h) (Or.inl ⟨((wanted_at rfl rfl rfl rfl).trans rfl), ?hyg36⟩) (Below.refl _ _) ?restg36
                  case hyg36 =>
                    intro W hW
                    go_simp
                    exact rfl
                  simp only [List.getElem_toArray, List.getElem_cons_succ, List.getElem_cons_zero, Act.put, List.setIfInBounds_toArray, List.set_cons_zero, List.set_cons_succ]
                  refine but_take (f := 41) (i := 37) (v := ?vg37) rfl (by kernel_rfl) (by kernel_rfl) (by kernel_rfl) (by kernel_rfl) (by kernel_rfl) (fun _ _ _ h => h) (Or.inl ⟨((wanted_at rfl rfl rfl rfl).trans rfl), ?hyg37⟩) (Below.refl _ _) ?restg37
                  case hyg37 =>
                    intro W hW
                    have hb0 : Below W2.heap.size W2 W := bstep (Below.drew1 _) hW
                    obtain ⟨m0, m1, m2, m3, m4⟩ := FM.out _ hb0
                    go_simp
                    exact rfl
                  simp only [List.getElem_toArray, List.getElem_cons_succ, List.getElem_cons_zero, Act.put, List.setIfInBounds_toArray, List.set_cons_zero, List.set_cons_succ]
                  refine but_run (i := 38) (by kernel_rfl) rfl ((wanted_at rfl rfl rfl rfl).trans rfl) ?_
                  simp only [List.getElem_toArray, List.getElem_cons_succ, List.getElem_cons_zero]
                  intro K HK
                  go_wp2_with fail
                  refine (HL.out _ _ _ _ _ _ _ _ _ _ _).mono ?_
                  rintro r Vg1 ⟨rfl, hBg1⟩
                  rw [HLT.out]
                  have hSg1 := bstep (Below.refl _ _) hBg1
                  go_wp2_with fail
                  refine HK.out _ Vg1 (fun _ => hSg1) ?_
                  clear HK
                  refine but_take (f := 41) (i := 39) (v := ?vg39) rfl (by kernel_rfl) (by kernel_rfl) (by kernel_rfl) (by kernel_rfl) (by kernel_rfl) (fun _ _ _ h => h) (Or.inl ⟨((wanted_at rfl rfl rfl rfl).trans rfl), ?hyg39⟩) hSg1 ?restg39
                  case hyg39 =>
                    intro W hW
                    go_simp
                    exact rfl
                  simp only [List.getElem_toArray, List.getElem_cons_succ, List.getElem_cons_zero, Act.put, List.setIfInBounds_toArray, List.set_cons_zero, List.set_cons_succ]
                  refine but_take (f := 41) (i := 40) (v := ?vg40) rfl (by kernel_rfl) (by kernel_rfl) (by kernel_rfl) (by kernel_rfl) (by kernel_rfl) (fun _ _ _ h => h) (Or.inl ⟨((wanted_at rfl rfl rfl rfl).trans rfl), ?hyg40⟩) hSg1 ?restg40
                  case hyg40 =>
                    intro W hW
                    go_simp
                    exact rfl
                  simp only [List.getElem_toArray, List.getElem_cons_succ, List.getElem_cons_zero, Act.put, List.setIfInBounds_toArray, List.set_cons_zero, List.set_cons_succ]
                  refine but_run (i := 41) (by kernel_rfl) rfl (by rfl) ?_
                  simp only [List.getElem_toArray, List.getElem_cons_succ, List.getElem_cons_zero]
                  intro K HK
                  go_wp2_with fail
                  refine HK.out _ Vg1 (fun h => absurd rfl h) ?_
                  clear HK
                  refine but_done (by kernel_rfl) ?_
                  go_wp2_with fail
                  go_meet
                  exact ⟨rfl, Lib.hid (bstep (Below.drew1 _) hSg1)⟩
              · have d1 : decide ((0 : Int) < (k : Int)) = false := decide_eq_false (by omega)
                clear HP HFP
                rcases HC with ⟨rfl, rfl⟩ | ⟨rfl, rfl, rfl⟩
                · refine but_begin (f := 41) (S := fun V => Below W2.drew.heap.size W2.drew V) (by kernel_rfl) ?_
                  refine but_take (f := 41) (i := 0) (v := ?vh0) rfl (by kernel_rfl) (by kernel_rfl) (by kernel_rfl) (by kernel_rfl) (by kernel_rfl) (fun _ _ _ h => h) (Or.inl ⟨(by rfl), ?hyh0⟩) (Below.refl _ _) ?resth0
                  case hyh0 =>
                    intro W hW
                    go_simp
                    exact rfl
                  simp only [List.getElem_toArray, List.getElem_cons_succ, List.getElem_cons_zero, Act.put, List.setIfInBounds_toArray, List.set_cons_zero, List.set_cons_succ]
                  refine but_take (f := 41) (i := 1) (v := ?vh1) rfl (by kernel_rfl) (by kernel_rfl) (by kernel_rfl) (by kernel_rfl) (by kernel_rfl) (fun _ _ _ h => h) (Or.inl ⟨(by rfl), ?hyh1⟩) (Below.refl _ _) ?resth1
                  case hyh1 =>
                    intro W hW
                    go_simp
                    exact rfl
                  simp only [List.getElem_toArray, List.getElem_cons_succ, List.getElem_cons_zero, Act.put, List.setIfInBounds_toArray, List.set_cons_zero, List.set_cons_succ]
                  refine but_take (f := 41) (i := 2) (v := ?vh2) rfl (by kernel_rfl) (by kernel_rfl) (by kernel_rfl) (by kernel_rfl) (by kernel_rfl) (fun _ _ _ h => h) (Or.inl ⟨((wanted_at rfl rfl rfl rfl).trans rfl), ?hyh2⟩) (Below.refl _ _) ?resth2
                  case hyh2 =>
                    intro W hW
                    go_simp
                    exact rfl
                  simp only [List.getElem_toArray, List.getElem_cons_succ, List.getElem_cons_zero, Act.put, List.setIfInBounds_toArray, List.set_cons_zero, List.set_cons_succ]
                  refine but_take (f := 41) (i := 3) (v := ?vh3) rfl (by kernel_rfl) (by kernel_rfl) (by kernel_rfl) (by kernel_rfl) (by kernel_rfl) (fun _ _ _ h => h) (Or.inl ⟨((wanted_at rfl rfl rfl rfl).trans rfl), ?hyh3⟩) (Below.refl _ _) ?resth3
                  case hyh3 =>
                    intro W hW
                    go_simp
                    exact rfl
                  simp only [List.getElem_toArray, List.getElem_cons_succ, List.getElem_cons_zero, Act.put, List.setIfInBounds_toArray, List.set_cons_zero, List.set_cons_succ]
                  refine but_take (f := 41) (i := 4) (v := ?vh4) rfl (by kernel_rfl) (by kernel_rfl) (by kernel_rfl) (by kernel_rfl) (by kernel_rfl) (fun _ _ _ h => h) (Or.inl ⟨((wanted_at rfl rfl rfl rfl).trans rfl), ?hyh4⟩) (Below.refl _ _) ?resth4
                  case hyh4 =>
                    intro W hW
                    go_simp
                    exact rfl
                  simp only [List.getElem_toArray, List.getElem_cons_succ, List.getElem_cons_zero, Act.put, List.setIfInBounds_toArray, List.set_cons_zero, List.set_cons_succ]
                  refine but_take (f := 41) (i := 5) (v := ?vh5) rfl (by kernel_rfl) (by kernel_rfl) (by kernel_rfl) (by kernel_rfl) (by kernel_rfl) (fun _ _ _ h => h) (Or.inl ⟨((wanted_at rfl rfl rfl rfl).trans rfl), ?hyh5⟩) (Below.refl _ _) ?resth5
                  case hyh5 =>
                    intro W hW
                    have hb0 : Below W2.heap.size W2 W := bstep (Below.drew1 _) hW
                    obtain ⟨m0, m1, m2, m3, m4⟩ := FM.out _ hb0
                    go_simp
                    exact rfl
                  simp only [List.getElem_toArray, List.getElem_cons_succ, List.getElem_cons_zero, Act.put, List.setIfInBounds_toArray, List.set_cons_zero, List.set_cons_succ]
                  refine but_take (f := 41) (i := 6) (v := ?vh6) rfl (by kernel_rfl) (by kernel_rfl) (by kernel_rfl) (by kernel_rfl) (by kernel_rfl) (fun _ _ _ h => h) (Or.inl ⟨((wanted_at rfl rfl rfl rfl).trans rfl), ?hyh6⟩) (Below.refl _ _) ?resth6
                  case hyh6 =>
                    intro W hW
                    have hb0 : Below W2.heap.size W2 W := bstep (Below.drew1 _) hW
                    obtain ⟨y0, y1, y2, y3, y4, y5⟩ := box5 (box_on QY.out hb0)
                    go_simp
                    exact rfl
                  simp only [List.getElem_toArray, List.getElem_cons_succ, List.getElem_cons_zero, Act.put, List.setIfInBounds_toArray, List.set_cons_zero, List.set_cons_succ]
                  refine but_take (f := 41) (i := 7) (v := ?vh7) rfl (by kernel_rfl) (by kernel_rfl) (by kernel_rfl) (by kernel_rfl) (by kernel_rfl) (fun _ _ _ h => h) (Or.inl ⟨((wanted_at rfl rfl rfl rfl).trans rfl), ?hyh7⟩) (Below.refl _ _) ?resth7
                  case hyh7 =>
                    intro W hW
                    go_simp
                    exact rfl
                  simp only [List.getElem_toArray, List.getElem_cons_succ, List.getElem_cons_zero, Act.put, List.setIfInBounds_toArray, List.set_cons_zero, List.set_cons_succ]
                  refine but_take (f := 41) (i := 8) (v := ?vh8) rfl (by kernel_rfl) (by kernel_rfl) (by kernel_rfl) (by kernel_rfl) (by kernel_rfl) (fun _ _ _ h => h) (Or.inl ⟨(by rfl), ?hyh8⟩) (Below.refl _ _) ?resth8
                  case hyh8 =>
                    intro W hW
                    go_simp
                    exact rfl
                  simp only [List.getElem_toArray, List.getElem_cons_succ, List.getElem_cons_zero, Act.put, List.setIfInBounds_toArray, List.set_cons_zero, List.set_cons_succ]
                  refine but_take (f := 41) (i := 9) (v := ?vh9) rfl (by kernel_rfl) (by kernel_rfl) (by kernel_rfl) (by kernel_rfl) (by kernel_rfl) (fun _ _ _ h => h) (Or.inl ⟨(by rfl), ?hyh9⟩) (Below.refl _ _) ?resth9
                  case hyh9 =>
                    intro W hW
                    go_simp
                    exact rfl
                  simp only [List.getElem_toArray, List.getElem_cons_succ, List.getElem_cons_zero, Act.put, List.setIfInBounds_toArray, List.set_cons_zero, List.set_cons_succ]
                  refine but_take (f := 41) (i := 10) (v := ?vh10) rfl (by kernel_rfl) (by kernel_rfl) (by kernel_rfl) (by kernel_rfl) (by kernel_rfl) (fun _ _ _ h => h) (Or.inl ⟨((wanted_at rfl rfl rfl rfl).trans rfl), ?hyh10⟩) (Below.refl _ _) ?resth10
                  case hyh10 =>
                    intro W hW
                    go_simp
                    exact rfl
                  simp only [List.getElem_toArray, List.getElem_cons_succ, List.getElem_cons_zero, Act.put, List.setIfInBounds_toArray, List.set_cons_zero, List.set_cons_succ]
                  refine but_take (f := 41) (i := 11) (v := ?vh11) rfl (by kernel_rfl) (by kernel_rfl) (by kernel_rfl) (by kernel_rfl) (by kernel_rfl) (fun _ _ _ h => h) (Or.inl ⟨((wanted_at rfl rfl rfl rfl).trans rfl), ?hyh11⟩) (Below.refl _ _) ?resth11
                  case hyh11 =>
                    intro W hW
                    go_simp
                    exact rfl
                  simp only [List.getElem_toArray, List.getElem_cons_succ, List.getElem_cons_zero, Act.put, List.setIfInBounds_toArray, List.set_cons_zero, List.set_cons_succ]
                  refine but_take (f := 41) (i := 12) (v := ?vh12) rfl (by kernel_rfl) (by kernel_rfl) (by kernel_rfl) (by kernel_rfl) (by kernel_rfl) (fun _ _ _ h => h) (Or.inl ⟨((wanted_at rfl rfl rfl rfl).trans rfl), ?hyh12⟩) (Below.refl _ _) ?resth12
                  case hyh12 =>
                    intro W hW
                    go_simp
                    exact rfl
                  simp only [List.getElem_toArray, List.getElem_cons_succ, List.getElem_cons_zero, Act.put, List.setIfInBounds_toArray, List.set_cons_zero, List.set_cons_succ]
                  refine but_take (f := 41) (i := 13) (v := undef) rfl (by kernel_rfl) (by kernel_rfl) (by kernel_rfl) (by kernel_rfl) (by kernel_rfl) (fun _ _ _ h => h) (Or.inr ⟨((wanted_at rfl rfl rfl rfl).trans rfl), rfl⟩) (Below.refl _ _) ?_
                  simp only [List.getElem_toArray, List.getElem_cons_succ, List.getElem_cons_zero, Act.put, List.setIfInBounds_toArray, List.set_cons_zero, List.set_cons_succ]
                  refine but_take (f := 41) (i := 14) (v := undef) rfl (by kernel_rfl) (by kernel_rfl) (by kernel_rfl) (by kernel_rfl) (by kernel_rfl) (fun _ _ _ h => h) (Or.inr ⟨((wanted_at rfl rfl rfl rfl).trans rfl), rfl⟩) (Below.refl _ _) ?_
                  simp only [List.getElem_toArray, List.getElem_cons_succ, List.getElem_cons_zero, Act.put, List.setIfInBounds_toArray, List.set_cons_zero, List.set_cons_succ]
                  refine but_take (f := 41) (i := 15) (v := undef) rfl (by kernel_rfl) (by kernel_rfl) (by kernel_rfl) (by kernel_rfl) (by kernel_rfl) (fun _ _ _ h => h) (Or.inr ⟨((wanted_at rfl rfl rfl rfl).trans rfl), rfl⟩) (Below.refl _ _) ?_
                  simp only [List.getElem_toArray, List.getElem_cons_succ, List.getElem_cons_zero, Act.put, List.setIfInBounds_toArray, List.set_cons_zero, List.set_cons_succ]
                  refine but_take (f := 41) (i := 16) (v := undef) rfl (by kernel_rfl) (by kernel_rfl) (by kernel_rfl) (by kernel_rfl) (by kernel_rfl) (fun _ _ _ h => h) (Or.inr ⟨(wanted_un rfl rfl rfl rfl), rfl⟩) (Below.refl _ _) ?_
                  simp only [List.getElem_toArray, List.getElem_cons_succ, List.getElem_cons_zero, Act.put, List.setIfInBounds_toArray, List.set_cons_zero, List.set_cons_succ]
                  refine but_take (f := 41) (i := 17) (v := undef) rfl (by kernel_rfl) (by kernel_rfl) (by kernel_rfl) (by kernel_rfl) (by kernel_rfl) (fun _ _ _ h => h) (Or.inr ⟨(wanted_un rfl rfl rfl rfl), rfl⟩) (Below.refl _ _) ?_
                  simp only [List.getElem_toArray, List.getElem_cons_succ, List.getElem_cons_zero, Act.put, List.setIfInBounds_toArray, List.set_cons_zero, List.set_cons_succ]
                  refine but_take (f := 41) (i := 18) (v := undef) rfl (by kernel_rfl) (by kernel_rfl) (by kernel_rfl) (by kernel_rfl) (by kernel_rfl) (fun _ _ _ h => h) (Or.inr ⟨(wanted_un rfl rfl rfl rfl), rfl⟩) (Below.refl _ _) ?_
                  simp only [List.getElem_toArray, List.getElem_cons_succ, List.getElem_cons_zero, Act.put, List.setIfInBounds_toArray, List.set_cons_zero, List.set_cons_succ]
                  refine but_take (f := 41) (i := 19) (v := undef) rfl (by kernel_rfl) (by kernel_rfl) (by kernel_rfl) (by kernel_rfl) (by kernel_rfl) (fun _ _ _ h => h) (Or.inr ⟨(wanted_un rfl rfl rfl rfl), rfl⟩) (Below.refl _ _) ?_
                  simp only [List.getElem_toArray, List.getElem_cons_succ, List.getElem_cons_zero, Act.put, List.setIfInBounds_toArray, List.set_cons_zero, List.set_cons_succ]
                  refine but_take (f := 41) (i := 20) (v := undef) rfl (by kernel_rfl) (by kernel_rfl) (by kernel_rfl) (by kernel_rfl) (by kernel_rfl) (fun _ _ _ h => h) (Or.inr ⟨(wanted_un rfl rfl rfl rfl), rfl⟩) (Below.refl _ _) ?_
                  simp only [List.getElem_toArray, List.getElem_cons_succ, List.getElem_cons_zero, Act.put, List.setIfInBounds_toArray, List.set_cons_zero, List.set_cons_succ]
                  refine but_take (f := 41) (i := 21) (v := undef) rfl (by kernel_rfl) (by kernel_rfl) (by kernel_rfl) (by kernel_rfl) (by kernel_rfl) (fun _ _ _ h => h) (Or.inr ⟨(wanted_un rfl rfl rfl rfl), rfl⟩) (Below.refl _ _) ?_
                  simp only [List.getElem_toArray, List.getElem_cons_succ, List.getElem_cons_zero, Act.put, List.setIfInBounds_toArray, List.set_cons_zero, List.set_cons_succ]
                  refine but_take (f := 41) (i := 22) (v := undef) rfl (by kernel_rfl) (by kernel_rfl) (by kernel_rfl) (by kernel_rfl) (by kernel_rfl) (fun _ _ _ h => h) (Or.inr ⟨((wanted_at rfl rfl rfl rfl).trans rfl), rfl⟩) (Below.refl _ _) ?_
                  simp only [List.getElem_toArray, List.getElem_cons_succ, List.getElem_cons_zero, Act.put, List.setIfInBounds_toArray, List.set_cons_zero, List.set_cons_succ]
                  refine but_take (f := 41) (i := 23) (v := ?vh23) rfl (by kernel_rfl) (by kernel_rfl) (by kernel_rfl) (by kernel_rfl) (by kernel_rfl) (fun _ _ _ h => h) (Or.inl ⟨((wanted_at rfl rfl rfl rfl).trans rfl), ?hyh23⟩) (Below.refl _ _) ?resth23
                  case hyh23 =>
                    intro W hW
                    go_simp
                    exact rfl
                  simp only [List.getElem_toArray, List.getElem_cons_succ, List.getElem_cons_zero, Act.put, List.setIfInBounds_toArray, List.set_cons_zero, List.set_cons_succ]
                  refine but_take (f := 41) (i := 24) (v := ?vh24) rfl (by kernel_rfl) (by kernel_rfl) (by kernel_rfl) (by kernel_rfl) (by kernel_rfl) (fun _ _ _ h => h) (Or.inl ⟨(by rfl), ?hyh24⟩) (Below.refl _ _) ?resth24
                  case hyh24 =>
                    intro W hW
                    go_simp
                    exact rfl
                  simp only [List.getElem_toArray, List.getElem_cons_succ, List.getElem_cons_zero, Act.put, List.setIfInBounds_toArray, List.set_cons_zero, List.set_cons_succ]
                  refine but_take (f := 41) (i := 25) (v := ?vh25) rfl (by kernel_rfl) (by kernel_rfl) (by kernel_rfl) (by kernel_rfl) (by kernel_rfl) (fun _ _ _ h => h) (Or.inl ⟨(by rfl), ?hyh25⟩) (Below.refl _ _) ?resth25
                  case hyh25 =>
                    intro W hW
                    go_simp
                    exact rfl
                  simp only [List.getElem_toArray, List.getElem_cons_succ, List.getElem_cons_zero, Act.put, List.setIfInBounds_toArray, List.set_cons_zero, List.set_cons_succ]
                  refine but_take (f := 41) (i := 26) (v := ?vh26) rfl (by kernel_rfl) (by kernel_rfl) (by kernel_rfl) (by kernel_rfl) (by kernel_rfl) (fun _ _ _ h => h) (Or.inl ⟨((wanted_at rfl rfl rfl rfl).trans rfl), ?hyh26⟩) (Below.refl _ _) ?resth26
                  case hyh26 =>
                    intro W hW
                    go_simp
                    exact rfl
                  simp only [List.getElem_toArray, List.getElem_cons_succ, List.getElem_cons_zero, Act.put, List.setIfInBounds_toArray, List.set_cons_zero, List.set_cons_succ]
                  refine but_take (f := 41) (i := 27) (v := ?vh27) rfl (by kernel_rfl) (by kernel_rfl) (by kernel_rfl) (by kernel_rfl) (by kernel_rfl) (fun _ _ _ h => h) (Or.inl ⟨((wanted_at rfl rfl rfl rfl).trans rfl), ?hyh27⟩) (Below.refl _ _) ?resth27
                  case hyh27 =>
                    intro W hW
                    go_simp
                    exact rfl
                  simp only [List.getElem_toArray, List.getElem_cons_succ, List.getElem_cons_zero, Act.put, List.setIfInBounds_toArray, List.set_cons_zero, List.set_cons_succ]
                  refine but_take (f := 41) (i := 28) (v := ?vh28) rfl (by kernel_rfl) (by kernel_rfl) (by kernel_rfl) (by kernel_rfl) (by kernel_rfl) (fun _ _ _ h => h) (Or.inl ⟨((wanted_at rfl rfl rfl rfl).trans rfl), ?hyh28⟩) (Below.refl _ _) ?resth28
                  case hyh28 =>
                    intro W hW
                    go_simp
                    exact rfl
                  simp only [List.getElem_toArray, List.getElem_cons_succ, List.getElem_cons_zero, Act.put, List.setIfInBounds_toArray, List.set_cons_zero, List.set_cons_succ]
                  refine but_take (f := 41) (i := 29) (v := undef) rfl (by kernel_rfl) (by kernel_rfl) (by kernel_rfl) (by kernel_rfl) (by kernel_rfl) (fun _ _ _ h => h) (Or.inr ⟨((wanted_at rfl rfl rfl rfl).trans rfl), rfl⟩) (Below.refl _ _) ?_
                  simp only [List.getElem_toArray, List.getElem_cons_succ, List.getElem_cons_zero, Act.put, List.setIfInBounds_toArray, List.set_cons_zero, List.set_cons_succ]
                  refine but_take (f := 41) (i := 30) (v := undef) rfl (by kernel_rfl) (by kernel_rfl) (by kernel_rfl) (by kernel_rfl) (by kernel_rfl) (fun _ _ _ h => h) (Or.inr ⟨((wanted_at rfl rfl rfl rfl).trans rfl), rfl⟩) (Below.refl _ _) ?_
                  simp only [List.getElem_toArray, List.getElem_cons_succ, List.getElem_cons_zero, Act.put, List.setIfInBounds_toArray, List.set_cons_zero, List.set_cons_succ]
                  refine but_take (f := 41) (i := 31) (v := undef) rfl (by kernel_rfl) (by kernel_rfl) (by kernel_rfl) (by kernel_rfl) (by kernel_rfl) (fun _ _ _ h => h) (Or.inr ⟨((wanted_at rfl rfl rfl rfl).trans rfl), rfl⟩) (Below.refl _ _) ?_
                  simp only [List.getElem_toArray, List.getElem_cons_succ, List.getElem_cons_zero, Act.put, List.setIfInBounds_toArray, List.set_cons_zero, List.set_cons_succ]
                  refine but_take (f := 41) (i := 32) (v := undef) rfl (by kernel_rfl) (by kernel_rfl) (by kernel_rfl) (by kernel_rfl) (by kernel_rfl) (fun _ _ _ h => h) (Or.inr ⟨((wanted_at rfl rfl rfl rfl).trans rfl), rfl⟩) (Below.refl _ _) ?_
                  simp only [List.getElem_toArray, List.getElem_cons_succ, List.getElem_cons_zero, Act.put, List.setIfInBounds_toArray, List.set_cons_zero, List.set_cons_succ]
                  refine but_take (f := 41) (i := 33) (v := undef) rfl (by kernel_rfl) (by kernel_rfl) (by kernel_rfl) (by kernel_rfl) (by kernel_rfl) (fun _ _ _ h => h) (Or.inr ⟨((wanted_at rfl rfl rfl rfl).trans rfl), rfl⟩) (Below.refl _ _) ?_
                  simp only [List.getElem_toArray, List.getElem_cons_succ, List.getElem_cons_zero, Act.put, List.setIfInBounds_toArray, List.set_cons_zero, List.set_cons_succ]
                  refine but_take (f := 41) (i := 34) (v := undef) rfl (by kernel_rfl) (by kernel_rfl) (by kernel_rfl) (by kernel_rfl) (by kernel_rfl) (fun _ _ _ h => h) (Or.inr ⟨((wanted_at rfl rfl rfl rfl).trans rfl), rfl⟩) (Below.refl _ _) ?_
                  simp only [List.getElem_toArray, List.getElem_cons_succ, List.getElem_cons_zero, Act.put, List.setIfInBounds_toArray, List.set_cons_zero, List.set_cons_succ]
                  refine but_take (f := 41) (i := 35) (v := undef) rfl (by kernel_rfl) (by kernel_rfl) (by kernel_rfl) (by kernel_rfl) (by kernel_rfl) (fun _ _ _ h => h) (Or.inr ⟨((wanted_at rfl rfl rfl rfl).trans rfl), rfl⟩) (Below.refl _ _) ?_
                  simp only [List.getElem_toArray, List.getElem_cons_succ, List.getElem_cons_zero, Act.put, List.setIfInBounds_toArray, List.set_cons_zero, List.set_cons_succ]
                  refine but_take (f := 41) (i := 36) (v := undef) rfl (by kernel_rfl) (by kernel_rfl) (by kernel_rfl) (by kernel_rfl) (by kernel_rfl) (fun _ _ _ h => h) (Or.inr ⟨((wanted_at rfl rfl rfl rfl).trans rfl), rfl⟩) (Below.refl _ _) ?_
                  simp only [List.getElem_toArray, List.getElem_cons_succ, List.getElem_cons_zero, Act.put, List.setIfInBounds_toArray, List.set_cons_zero, List.set_cons_succ]
                  refine but_take (f := 41) (i := 37) (v := undef) rfl (by kernel_rfl) (by kernel_rfl) (by kernel_rfl) (by kernel_rfl) (by kernel_rfl) (fun _ _ _ h => h) (Or.inr ⟨((wanted_at rfl rfl rfl rfl).trans rfl), rfl⟩) (Below.refl _ _) ?_
                  simp only [List.getElem_toArray, List.getElem_cons_succ, List.getElem_cons_zero, Act.put, List.setIfInBounds_toArray, List.set_cons_zero, List.set_cons_succ]
                  refine but_take (f := 41) (i := 38) (v := undef) rfl (by kernel_rfl) (by kernel_rfl) (by kernel_rfl) (by kernel_rfl) (by kernel_rfl) (fun _ _ _ h => h) (Or.inr ⟨((wanted_at rfl rfl rfl rfl).trans rfl), rfl⟩) (Below.refl _ _) ?_
                  simp only [List.getElem_toArray, List.getElem_cons_succ, List.getElem_cons_zero, Act.put, List.setIfInBounds_toArray, List.set_cons_zero, List.set_cons_succ]
                  refine but_take (f := 41) (i := 39) (v := undef) rfl (by kernel_rfl) (by kernel_rfl) (by kernel_rfl) (by kernel_rfl) (by kernel_rfl) (fun _ _ _ h => h) (Or.inr ⟨((wanted_at rfl rfl rfl rfl).trans rfl), rfl⟩) (Below.refl _ _) ?_
                  simp only [List.getElem_toArray, List.getElem_cons_succ, List.getElem_cons_zero, Act.put, List.setIfInBounds_toArray, List.set_cons_zero, List.set_cons_succ]
                  refine but_take (f := 41) (i := 40) (v := ?vh40) rfl (by kernel_rfl) (by kernel_rfl) (by kernel_rfl) (by kernel_rfl) (by kernel_rfl) (fun _ _ _ h => h) (Or.inl ⟨((wanted_at rfl rfl rfl rfl).trans rfl), ?hyh40⟩) (Below.refl _ _) ?resth40
                  case hyh40 =>
                    intro W hW
                    go_simp
                    exact rfl
                  simp only [List.getElem_toArray, List.getElem_cons_succ, List.getElem_cons_zero, Act.put, List.setIfInBounds_toArray, List.set_cons_zero, List.set_cons_succ]
                  refine but_run (i := 41) (by kernel_rfl) rfl (by rfl) ?_
                  simp only [List.getElem_toArray, List.getElem_cons_succ, List.getElem_cons_zero]
                  intro K HK
                  go_wp2_with fail
                  refine HK.out _ W2.drew (fun h => absurd rfl h) ?_
                  clear HK
                  refine but_done (by kernel_rfl) ?_
                  go_wp2_with fail
                  go_meet
                  exact ⟨rfl, Lib.hid (bstep (Below.drew1 _) (Below.refl _ _))⟩
                · refine but_begin (f := 41) (S := fun V => Below W2.drew.heap.size W2.drew V) (by kernel_rfl) ?_
                  refine but_take (f := 41) (i := 0) (v := ?vi0) rfl (by kernel_rfl) (by kernel_rfl) (by kernel_rfl) (by kernel_rfl) (by kernel_rfl) (fun _ _ _ h => h) (Or.inl ⟨(by rfl), ?hyi0⟩) (Below.refl _ _) ?resti0
                  case hyi0 =>
                    intro W hW
                    go_simp
                    exact rfl
                  simp only [List.getElem_toArray, List.getElem_cons_succ, List.getElem_cons_zero, Act.put, List.setIfInBounds_toArray, List.set_cons_zero, List.set_cons_succ]
                  refine but_take (f := 41) (i := 1) (v := ?vi1) rfl (by kernel_rfl) (by kernel_rfl) (by kernel_rfl) (by kernel_rfl) (by kernel_rfl) (fun _ _ _ h => h) (Or.inl ⟨(by rfl), ?hyi1⟩) (Below.refl _ _) ?resti1
                  case hyi1 =>
                    intro W hW
                    go_simp
                    exact rfl
                  simp only [List.getElem_toArray, List.getElem_cons_succ, List.getElem_cons_zero, Act.put, List.setIfInBounds_toArray, List.set_cons_zero, List.set_cons_succ]
                  refine but_take (f := 41) (i := 2) (v := undef) rfl (by kernel_rfl) (by kernel_rfl) (by kernel_rfl) (by kernel_rfl) (by kernel_rfl) (fun _ _ _ h => h) (Or.inr ⟨((wanted_at rfl rfl rfl rfl).trans rfl), rfl⟩) (Below.refl _ _) ?_
                  simp only [List.getElem_toArray, List.getElem_cons_succ, List.getElem_cons_zero, Act.put, List.setIfInBounds_toArray, List.set_cons_zero, List.set_cons_succ]
                  refine but_take (f := 41) (i := 3) (v := undef) rfl (by kernel_rfl) (by kernel_rfl) (by kernel_rfl) (by kernel_rfl) (by kernel_rfl) (fun _ _ _ h => h) (Or.inr ⟨((wanted_at rfl rfl rfl rfl).trans rfl), rfl⟩) (Below.refl _ _) ?_
                  simp only [List.getElem_toArray, List.getElem_cons_succ, List.getElem_cons_zero, Act.put, List.setIfInBounds_toArray, List.set_cons_zero, List.set_cons_succ]
                  refine but_take (f := 41) (i := 4) (v := undef) rfl (by kernel_rfl) (by kernel_rfl) (by kernel_rfl) (by kernel_rfl) (by kernel_rfl) (fun _ _ _ h => h) (Or.inr ⟨((wanted_at rfl rfl rfl rfl).trans rfl), rfl⟩) (Below.refl _ _) ?_
                  simp only [List.getElem_toArray, List.getElem_cons_succ, List.getElem_cons_zero, Act.put, List.setIfInBounds_toArray, List.set_cons_zero, List.set_cons_succ]
                  refine but_take (f := 41) (i := 5) (v := undef) rfl (by kernel_rfl) (by kernel_rfl) (by kernel_rfl) (by kernel_rfl) (by kernel_rfl) (fun _ _ _ h => h) (Or.inr ⟨((wanted_at rfl rfl rfl rfl).trans rfl), rfl⟩) (Below.refl _ _) ?_
                  simp only [List.getElem_toArray, List.getElem_cons_succ, List.getElem_cons_zero, Act.put, List.setIfInBounds_toArray, List.set_cons_zero, List.set_cons_succ]
                  refine but_take (f := 41) (i := 6) (v := undef) rfl (by kernel_rfl) (by kernel_rfl) (by kernel_rfl) (by kernel_rfl) (by kernel_rfl) (fun _ _ _ h => h) (Or.inr ⟨((wanted_at rfl rfl rfl rfl).trans rfl), rfl⟩) (Below.refl _ _) ?_
                  simp only [List.getElem_toArray, List.getElem_cons_succ, List.getElem_cons_zero, Act.put, List.setIfInBounds_toArray, List.set_cons_zero, List.set_cons_succ]
                  refine but_take (f := 41) (i := 7) (v := undef) rfl (by kernel_rfl) (by kernel_rfl) (by kernel_rfl) (by kernel_rfl) (by kernel_rfl) (fun _ _ _ h => h) (Or.inr ⟨((wanted_at rfl rfl rfl rfl).trans rfl), rfl⟩) (Below.refl _ _) ?_
                  simp only [List.getElem_toArray, List.getElem_cons_succ, List.getElem_cons_zero, Act.put, List.setIfInBounds_toArray, List.set_cons_zero, List.set_cons_succ]
                  refine but_take (f := 41) (i := 8) (v := ?vi8) rfl (by kernel_rfl) (by kernel_rfl) (by kernel_rfl) (by kernel_rfl) (by kernel_rfl) (fun _ _ _ h => h) (Or.inl ⟨(by rfl), ?hyi8⟩) (Below.refl _ _) ?resti8
                  case hyi8 =>
                    intro W hW
                    go_simp
                    exact rfl
                  simp only [List.getElem_toArray, List.getElem_cons_succ, List.getElem_cons_zero, Act.put, List.setIfInBounds_toArray, List.set_cons_zero, List.set_cons_succ]
                  refine but_take (f := 41) (i := 9) (v := ?vi9) rfl (by kernel_rfl) (by kernel_rfl) (by kernel_rfl) (by kernel_rfl) (by kernel_rfl) (fun _ _ _ h => h) (Or.inl ⟨(by rfl), ?hyi9⟩) (Below.refl _ _) ?resti9
                  case hyi9 =>
                    intro W hW
                    go_simp
                    exact rfl
                  simp only [List.getElem_toArray, List.getElem_cons_succ, List.getElem_cons_zero, Act.put, List.setIfInBounds_toArray, List.set_cons_zero, List.set_cons_succ]
                  refine but_take (f := 41) (i := 10) (v := ?vi10) rfl (by kernel_rfl) (by kernel_rfl) (by kernel_rfl) (by kernel_rfl) (by kernel_rfl) (fun _ _ _ h => h) (Or.inl ⟨((wanted_at rfl rfl rfl rfl).trans rfl), ?hyi10⟩) (Below.refl _ _) ?resti10
                  case hyi10 =>
                    intro W hW
                    go_simp
                    exact rfl
                  simp only [List.getElem_toArray, List.getElem_cons_succ, List.getElem_cons_zero, Act.put, List.setIfInBounds_toArray, List.set_cons_zero, List.set_cons_succ]
                  refine but_take (f := 41) (i := 11) (v := ?vi11) rfl (by kernel_rfl) (by kernel_rfl) (by kernel_rfl) (by kernel_rfl) (by kernel_rfl) (fun _ _ _ h => h) (Or.inl ⟨((wanted_at rfl rfl rfl rfl).trans rfl), ?hyi11⟩) (Below.refl _ _) ?resti11
                  case hyi11 =>
                    intro W hW
                    go_simp
                    exact rfl
                  simp only [List.getElem_toArray, List.getElem_cons_succ, List.getElem_cons_zero, Act.put, List.setIfInBounds_toArray, List.set_cons_zero, List.set_cons_succ]
                  refine but_take (f := 41) (i := 12) (v := ?vi12) rfl (by kernel_rfl) (by kernel_rfl) (by kernel_rfl) (by kernel_rfl) (by kernel_rfl) (fun _ _ _ h => h) (Or.inl ⟨((wanted_at rfl rfl rfl rfl).trans rfl), ?hyi12⟩) (Below.refl _ _) ?resti12
                  case hyi12 =>
                    intro W hW
                    go_simp
                    exact rfl
                  simp only [List.getElem_toArray, List.getElem_cons_succ, List.getElem_cons_zero, Act.put, List.setIfInBounds_toArray, List.set_cons_zero, List.set_cons_succ]
                  refine but_take (f := 41) (i := 13) (v := ?vi13) rfl (by kernel_rfl) (by kernel_rfl) (by kernel_rfl) (by kernel_rfl) (by kernel_rfl) (fun _ _ _ h => h) (Or.inl ⟨((wanted_at rfl rfl rfl rfl).trans rfl), ?hyi13⟩) (Below.refl _ _) ?resti13
                  case hyi13 =>
                    intro W hW
                    go_simp
                    exact rfl
                  simp only [List.getElem_toArray, List.getElem_cons_succ, List.getElem_cons_zero, Act.put, List.setIfInBounds_toArray, List.set_cons_zero, List.set_cons_succ]
                  refine but_take (f := 41) (i := 14) (v := ?vi14) rfl (by kernel_rfl) (by kernel_rfl) (by kernel_rfl) (by kernel_rfl) (by kernel_rfl) (fun _ _ _ h => h) (Or.inl ⟨((wanted_at rfl rfl rfl rfl).trans rfl), ?hyi14⟩) (Below.refl _ _) ?resti14
                  case hyi14 =>
                    intro W hW
                    go_simp
                    exact rfl
                  simp only [List.getElem_toArray, List.getElem_cons_succ, List.getElem_cons_zero, Act.put, List.setIfInBounds_toArray, List.set_cons_zero, List.set_cons_succ]
                  refine but_take (f := 41) (i := 15) (v := ?vi15) rfl (by kernel_rfl) (by kernel_rfl) (by kernel_rfl) (by kernel_rfl) (by kernel_rfl) (fun _ _ _ h => h) (Or.inl ⟨((wanted_at rfl rfl rfl rfl).trans rfl), ?hyi15⟩) (Below.refl _ _) ?resti15
                  case hyi15 =>
                    intro W hW
                    go_simp
                    exact rfl
                  simp only [List.getElem_toArray, List.getElem_cons_succ, List.getElem_cons_zero, Act.put, List.setIfInBounds_toArray, List.set_cons_zero, List.set_cons_succ]
                  refine but_take (f := 41) (i := 16) (v := ?vi16) rfl (by kernel_rfl) (by kernel_rfl) (by kernel_rfl) (by kernel_rfl) (by kernel_rfl) (fun _ _ _ h => h) (Or.inl ⟨((wanted_at rfl rfl rfl rfl).trans rfl), ?hyi16⟩) (Below.refl _ _) ?resti16
                  case hyi16 =>
                    intro W hW
                    go_simp
                    exact rfl
                  simp only [List.getElem_toArray, List.getElem_cons_succ, List.getElem_cons_zero, Act.put, List.setIfInBounds_toArray, List.set_cons_zero, List.set_cons_succ]
                  refine but_take (f := 41) (i := 17) (v := ?vi17) rfl (by kernel_rfl) (by kernel_rfl) (by kernel_rfl) (by kernel_rfl) (by kernel_rfl) (fun _ _ _ h => h) (Or.inl ⟨((wanted_at rfl rfl rfl rfl).trans rfl), ?hyi17⟩) (Below.refl _ _) ?resti17
                  case hyi17 =>
                    intro W hW
                    go_simp
                    exact rfl
                  simp only [List.getElem_toArray, List.getElem_cons_succ, List.getElem_cons_zero, Act.put, List.setIfInBounds_toArray, List.set_cons_zero, List.set_cons_succ]
                  refine but_take (f := 41) (i := 18) (v := ?vi18) rfl (by kernel_rfl) (by kernel_rfl) (by kernel_rfl) (by kernel_rfl) (by kernel_rfl) (fun _ _ _ h => h) (Or.inl ⟨((wanted_at rfl rfl rfl rfl).trans rfl), ?hyi18⟩) (Below.refl _ _) ?resti18
                  case hyi18 =>
                    intro W hW
                    go_simp
                    exact rfl
                  simp only [List.getElem_toArray, List.getElem_cons_succ, List.getElem_cons_zero, Act.put, List.setIfInBounds_toArray, List.set_cons_zero, List.set_cons_succ]
                  refine but_take (f := 41) (i := 19) (v := ?vi19) rfl (by kernel_rfl) (by kernel_rfl) (by kernel_rfl) (by kernel_rfl) (by kernel_rfl) (fun _ _ _ h => h) (Or.inl ⟨((wanted_at rfl rfl rfl rfl).trans rfl), ?hyi19⟩) (Below.refl _ _) ?resti19
                  case hyi19 =>
                    intro W hW
                    have hb0 : Below W2.heap.size W2 W := bstep (Below.drew1 _) hW
                    obtain ⟨m0, m1, m2, m3, m4⟩ := FM.out _ hb0
                    go_simp
                    exact rfl
                  simp only [List.getElem_toArray, List.getElem_cons_succ, List.getElem_cons_zero, Act.put, List.setIfInBounds_toArray, List.set_cons_zero, List.set_cons_succ]
                  refine but_take (f := 41) (i := 20) (v := ?vi20) rfl (by kernel_rfl) (by kernel_rfl) (by kernel_rfl) (by kernel_rfl) (by kernel_rfl) (fun _ _ _ h => h) (Or.inl ⟨((wanted_at rfl rfl rfl rfl).trans rfl), ?hyi20⟩) (Below.refl _ _) ?resti20
                  case hyi20 =>
                    intro W hW
                    have hb0 : Below W2.heap.size W2 W := bstep (Below.drew1 _) hW
                    obtain ⟨x0, x1, x2, x3, x4, x5⟩ := box5 (box_on QX.out hb0)
                    go_simp
                    exact rfl
                  simp only [List.getElem_toArray, List.getElem_cons_succ, List.getElem_cons_zero, Act.put, List.setIfInBounds_toArray, List.set_cons_zero, List.set_cons_succ]
                  refine but_take (f := 41) (i := 21) (v := ?vi21) rfl (by kernel_rfl) (by kernel_rfl) (by kernel_rfl) (by kernel_rfl) (by kernel_rfl) (fun _ _ _ h => h) (Or.inl ⟨((wanted_at rfl rfl rfl rfl).trans rfl), ?hyi21⟩) (Below.refl _ _) ?resti21
                  case hyi21 =>
                    intro W hW
                    go_simp
                    exact rfl
                  simp only [List.getElem_toArray, List.getElem_cons_succ, List.getElem_cons_zero, Act.put, List.setIfInBounds_toArray, List.set_cons_zero, List.set_cons_succ]
                  refine but_take (f := 41) (i := 22) (v := ?vi22) rfl (by kernel_rfl) (by kernel_rfl) (by kernel_rfl) (by kernel_rfl) (by kernel_rfl) (fun _ _ _ h => h) (Or.inl ⟨((wanted_at rfl rfl rfl rfl).trans rfl), ?hyi22⟩) (Below.refl _ _) ?resti22
                  case hyi22 =>
                    intro W hW
                    go_simp
                    exact rfl
                  simp only [List.getElem_toArray, List.getElem_cons_succ, List.getElem_cons_zero, Act.put, List.setIfInBounds_toArray, List.set_cons_zero, List.set_cons_succ]
                  refine but_take (f := 41) (i := 23) (v := ?vi23) rfl (by kernel_rfl) (by kernel_rfl) (by kernel_rfl) (by kernel_rfl) (by kernel_rfl) (fun _ _ _ h => h) (Or.inl ⟨((wanted_at rfl rfl rfl rfl).trans rfl), ?hyi23⟩) (Below.refl _ _) ?resti23
                  case hyi23 =>
                    intro W hW
                    go_simp
                    exact rfl
                  simp only [List.getElem_toArray, List.getElem_cons_succ, List.getElem_cons_zero, Act.put, List.setIfInBounds_toArray, List.set_cons_zero, List.set_cons_succ]
                  refine but_take (f := 41) (i := 24) (v := ?vi24) rfl (by kernel_rfl) (by kernel_rfl) (by kernel_rfl) (by kernel_rfl) (by kernel_rfl) (fun _ _ _ h => h) (Or.inl ⟨(by rfl), ?hyi24⟩) (Below.refl _ _) ?resti24
                  case hyi24 =>
                    intro W hW
                    go_simp
                    exact rfl
                  simp only [List.getElem_toArray, List.getElem_cons_succ, List.getElem_cons_zero, Act.put, List.setIfInBounds_toArray, List.set_cons_zero, List.set_cons_succ]
                  refine but_take (f := 41) (i := 25) (v := ?vi25) rfl (by kernel_rfl) (by kernel_rfl) (by kernel_rfl) (by kernel_rfl) (by kernel_rfl) (fun _ _ _ h => h) (Or.inl ⟨(by rfl), ?hyi25⟩) (Below.refl _ _) ?resti25
                  case hyi25 =>
                    intro W hW
                    go_simp
                    exact rfl
                  simp only [List.getElem_toArray, List.getElem_cons_succ, List.getElem_cons_zero, Act.put, List.setIfInBounds_toArray, List.set_cons_zero, List.set_cons_succ]
                  refine but_take (f := 41) (i := 26) (v := ?vi26) rfl (by kernel_rfl) (by kernel_rfl) (by kernel_rfl) (by kernel_rfl) (by kernel_rfl) (fun _ _ _ h => h) (Or.inl ⟨((wanted_at rfl rfl rfl rfl).trans rfl), ?hyi26⟩) (Below.refl _ _) ?resti26
                  case hyi26 =>
                    intro W hW
                    go_simp
                    exact rfl
                  simp only [List.getElem_toArray, List.getElem_cons_succ, List.getElem_cons_zero, Act.put, List.setIfInBounds_toArray, List.set_cons_zero, List.set_cons_succ]
                  refine but_take (f := 41) (i := 27) (v := ?vi27) rfl (by kernel_rfl) (by kernel_rfl) (by kernel_rfl) (by kernel_rfl) (by kernel_rfl) (fun _ _ _ h => h) (Or.inl ⟨((wanted_at rfl rfl rfl rfl).trans rfl), ?hyi27⟩) (Below.refl _ _) ?resti27
                  case hyi27 =>
                    intro W hW
                    go_simp
                    exact rfl
                  simp only [List.getElem_toArray, List.getElem_cons_succ, List.getElem_cons_zero, Act.put, List.setIfInBounds_toArray, List.set_cons_zero, List.set_cons_succ]
                  refine but_take (f := 41) (i := 28) (v := ?vi28) rfl (by kernel_rfl) (by kernel_rfl) (by kernel_rfl) (by kernel_rfl) (by kernel_rfl) (fun _ _ _ h => h) (Or.inl ⟨((wanted_at rfl rfl rfl rfl).trans rfl), ?hyi28⟩) (Below.refl _ _) ?resti28
                  case hyi28 =>
                    intro W hW
                    go_simp
                    exact rfl
                  simp only [List.getElem_toArray, List.getElem_cons_succ, List.getElem_cons_zero, Act.put, List.setIfInBounds_toArray, List.set_cons_zero, List.set_cons_succ]
                  refine but_take (f := 41) (i := 29) (v := undef) rfl (by kernel_rfl) (by kernel_rfl) (by kernel_rfl) (by kernel_rfl) (by kernel_rfl) (fun _ _ _ h => h) (Or.inr ⟨((wanted_at rfl rfl rfl rfl).trans rfl), rfl⟩) (Below.refl _ _) ?_
                  simp only [List.getElem_toArray, List.getElem_cons_succ, List.getElem_cons_zero, Act.put, List.setIfInBounds_toArray, List.set_cons_zero, List.set_cons_succ]
                  refine but_take (f := 41) (i := 30) (v := undef) rfl (by kernel_rfl) (by kernel_rfl) (by kernel_rfl) (by kernel_rfl) (by kernel_rfl) (fun _ _ _ h => h) (Or.inr ⟨((wanted_at rfl rfl rfl rfl).trans rfl), rfl⟩) (Below.refl _ _) ?_
                  simp only [List.getElem_toArray, List.getElem_cons_succ, List.getElem_cons_zero, Act.put, List.setIfInBounds_toArray, List.set_cons_zero, List.set_cons_succ]
                  refine but_take (f := 41) (i := 31) (v := undef) rfl (by kernel_rfl) (by kernel_rfl) (by kernel_rfl) (by kernel_rfl) (by kernel_rfl) (fun _ _ _ h => h) (Or.inr ⟨((wanted_at rfl rfl rfl rfl).trans rfl), rfl⟩) (Below.refl _ _) ?_
                  simp only [List.getElem_toArray, List.getElem_cons_succ, List.getElem_cons_zero, Act.put, List.setIfInBounds_toArray, List.set_cons_zero, List.set_cons_succ]
                  refine but_take (f := 41) (i := 32) (v := undef) rfl (by kernel_rfl) (by kernel_rfl) (by kernel_rfl) (by kernel_rfl) (by kernel_rfl) (fun _ _ _ h => h) (Or.inr ⟨((wanted_at rfl rfl rfl rfl).trans rfl), rfl⟩) (Below.refl _ _) ?_
                  simp only [List.getElem_toArray, List.getElem_cons_succ, List.getElem_cons_zero, Act.put, List.setIfInBounds_toArray, List.set_cons_zero, List.set_cons_succ]
                  refine but_take (f := 41) (i := 33) (v := undef) rfl (by kernel_rfl) (by kernel_rfl) (by kernel_rfl) (by kernel_rfl) (by kernel_rfl) (fun _ _ _ h => h) (Or.inr ⟨((wanted_at rfl rfl rfl rfl).trans rfl), rfl⟩) (Below.refl _ _) ?_
                  simp only [List.getElem_toArray, List.getElem_cons_succ, List.getElem_cons_zero, Act.put, List.setIfInBounds_toArray, List.set_cons_zero, List.set_cons_succ]
                  refine but_take (f := 41) (i := 34) (v := undef) rfl (by kernel_rfl) (by kernel_rfl) (by kernel_rfl) (by kernel_rfl) (by kernel_rfl) (fun _ _ _ h => h) (Or.inr ⟨((wanted_at rfl rfl rfl rfl).trans rfl), rfl⟩) (Below.refl _ _) ?_
                  simp only [List.getElem_toArray, List.getElem_cons_succ, List.getElem_cons_zero, Act.put, List.setIfInBounds_toArray, List.set_cons_zero, List.set_cons_succ]
                  refine but_take (f := 41) (i := 35) (v := undef) rfl (by kernel_rfl) (by kernel_rfl) (by kernel_rfl) (by kernel_rfl) (by kernel_rfl) (fun _ _ _ h => h) (Or.inr ⟨((wanted_at rfl rfl rfl rfl).trans rfl), rfl⟩) (Below.refl _ _) ?_
                  simp only [List.getElem_toArray, List.getElem_cons_succ, List.getElem_cons_zero, Act.put, List.setIfInBounds_toArray, List.set_cons_zero, List.set_cons_succ]
                  refine but_take (f := 41) (i := 36) (v := undef) rfl (by kernel_rfl) (by kernel_rfl) (by kernel_rfl) (by kernel_rfl) (by kernel_rfl) (fun _ _ _ h => h) (Or.inr ⟨((wanted_at rfl rfl rfl rfl).trans rfl), rfl⟩) (Below.refl _ _) ?_
                  simp only [List.getElem_toArray, List.getElem_cons_succ, List.getElem_cons_zero, Act.put, List.setIfInBounds_toArray, List.set_cons_zero, List.set_cons_succ]
                  refine but_take (f := 41) (i := 37) (v := undef) rfl (by kernel_rfl) (by kernel_rfl) (by kernel_rfl) (by kernel_rfl) (by kernel_rfl) (fun _ _ _ h => h) (Or.inr ⟨((wanted_at rfl rfl rfl rfl).trans rfl), rfl⟩) (Below.refl _ _) ?_
                  simp only [List.getElem_toArray, List.getElem_cons_succ, List.getElem_cons_zero, Act.put, List.setIfInBounds_toArray, List.set_cons_zero, List.set_cons_succ]
                  refine but_take (f := 41) (i := 38) (v := undef) rfl (by kernel_rfl) (by kernel_rfl) (by kernel_rfl) (by kernel_rfl) (by kernel_rfl) (fun _ _ _ h => h) (Or.inr ⟨((wanted_at rfl rfl rfl rfl).trans rfl), rfl⟩) (Below.refl _ _) ?_
                  simp only [List.getElem_toArray, List.getElem_cons_succ, List.getElem_cons_zero, Act.put, List.setIfInBounds_toArray, List.set_cons_zero, List.set_cons_succ]
                  refine but_take (f := 41) (i := 39) (v := undef) rfl (by kernel_rfl) (by kernel_rfl) (by kernel_rfl) (by kernel_rfl) (by kernel_rfl) (fun _ _ _ h => h) (Or.inr ⟨((wanted_at rfl rfl rfl rfl).trans rfl), rfl⟩) (Below.refl _ _) ?_
                  simp only [List.getElem_toArray, List.getElem_cons_succ, List.getElem_cons_zero, Act.put, List.setIfInBounds_toArray, List.set_cons_zero, List.set_cons_succ]
                  refine but_take (f := 41) (i := 40) (v := ?vi40) rfl (by kernel_rfl) (by kernel_rfl) (by kernel_rfl) (by kernel_rfl) (by kernel_rfl) (fun _ _ _ h => h) (Or.inl ⟨((wanted_at rfl rfl rfl rfl).trans rfl), ?hyi40⟩) (Below.refl _ _) ?resti40
                  case hyi40 =>
                    intro W hW
                    go_simp
                    exact rfl
                  simp only [List.getElem_toArray, List.getElem_cons_succ, List.getElem_cons_zero, Act.put, List.setIfInBounds_toArray, List.set_cons_zero, List.set_cons_succ]
                  refine but_run (i := 41) (by kernel_rfl) rfl (by rfl) ?_
                  simp only [List.getElem_toArray, List.getElem_cons_succ, List.getElem_cons_zero]
                  intro K HK
                  go_wp2_with fail
                  refine HK.out _ W2.drew (fun h => absurd rfl h) ?_
                  clear HK
                  refine but_done (by kernel_rfl) ?_
                  go_wp2_with fail
                  go_meet
                  exact ⟨rfl, Lib.hid (bstep (Below.drew1 _) (Below.refl _ _))⟩
            case rest =>
              obtain ⟨rfl, HW⟩ := hcut
              go_wp2
              go_roundw
              case rel => exact ⟨k + 1, by omega, by go_num, Lib.hid (bstep HB2.out HW.out)⟩
              case measure => simp [intOf]; omega
      · have tz : decide ((k : Int) < (m.length : Int)) = false := decide_eq_false (by omega)
        have HB1 := Lib.hid HBr.out
        clear HBr
        go_wp2
        clear hk hlt tz
        go_loopw [12] (fun i wr => ∃ k : Nat, k ≤ a.length ∧ i = .int .i64 k ∧ Hid (Below W0.heap.size W0 wr)) (fun i _ => a.length - (intOf i).toNat)
        case atStart => exact ⟨0, Nat.zero_le _, rfl, HB1⟩
        case round =>
          clear HB1
          obtain ⟨k, hk, rfl, HBr⟩ := hrel
          by_cases hlt : k < a.length
          · obtain ⟨bm, om, rfl, hbb, hc⟩ := OA.out.reads.keys hlt
            have HF := hc k hlt
            have hy := OLD.out a[k] (List.getElem_mem hlt)
            have FM := Lib.hid (fun V (h : Below wr.heap.size wr V) => HF.keep ((HBr.out.trans (h.mono HBr.out.size)).block bm hbb))
            generalize a[k] = mk at FM hy
            obtain ⟨xk, hxk⟩ : ∃ x, (atK m mk.a mk.b).getD zK = x := ⟨_, rfl⟩
            have HXK := Lib.hid hxk
            have HXA := Lib.hid hy
            have hld := HBr.out
            have OMr := Lib.hid (OM.out.on hld)
            have i1 : (k : Int) < (a.length : Int) := by omega
            have i2 : (0 : Int) ≤ (k : Int) := by omega
            clear hxk hy hc hbb hld HF
            go_upto_region 16 with (fail)
            go_cut [13, 14] (fun s8 s9 wx => ∃ pb, s8 = .pointer (some ⟨pb, 0, none⟩) ∧ s9 = .bool true ∧ Hid (wx.heap[pb]? = some (.cells #[.int .i64 xk.a, .int .i64 xk.b, .int .i64 xk.c, .int .i64 xk.d, .int .i64 xk.e] 47)) ∧ Hid (Below wr.heap.size wr wx))
            case first =>
              refine but_begin (f := 17) (S := fun V => Below wr.drew.heap.size wr.drew V) (by kernel_rfl) ?_
              refine but_take (f := 17) (i := 0) (v := ?vj0) rfl (by kernel_rfl) (by kernel_rfl) (by kernel_rfl) (by kernel_rfl) (by kernel_rfl) (fun _ _ _ h => h) (Or.inl ⟨(by rfl), ?hyj0⟩) (Below.refl _ _) ?restj0
              case hyj0 =>
                intro W hW
                go_simp
                exact rfl
              simp only [List.getElem_toArray, List.getElem_cons_succ, List.getElem_cons_zero, Act.put, List.setIfInBounds_toArray, List.set_cons_zero, List.set_cons_succ]
              refine but_take (f := 17) (i := 1) (v := ?vj1) rfl (by kernel_rfl) (by kernel_rfl) (by kernel_rfl) (by kernel_rfl) (by kernel_rfl) (fun _ _ _ h => h) (Or.inl ⟨(by rfl), ?hyj1⟩) (Below.refl _ _) ?restj1
              case hyj1 =>
                intro W hW
                go_simp
                exact rfl
              simp only [List.getElem_toArray, List.getElem_cons_succ, List.getElem_cons_zero, Act.put, List.setIfInBounds_toArray, List.set_cons_zero, List.set_cons_succ]
              refine but_take (f := 17) (i := 2) (v := ?vj2) rfl (by kernel_rfl) (by kernel_rfl) (by kernel_rfl) (by kernel_rfl) (by kernel_rfl) (fun _ _ _ h => h) (Or.inl ⟨(by rfl), ?hyj2⟩) (Below.refl _ _) ?restj2
              case hyj2 =>
                intro W hW
                go_simp
                exact rfl
              simp only [List.getElem_toArray, List.getElem_cons_succ, List.getElem_cons_zero, Act.put, List.setIfInBounds_toArray, List.set_cons_zero, List.set_cons_succ]
              refine but_take (f := 17) (i := 3) (v := ?vj3) rfl (by kernel_rfl) (by kernel_rfl) (by kernel_rfl) (by kernel_rfl) (by kernel_rfl) (fun _ _ _ h => h) (Or.inl ⟨(by rfl), ?hyj3⟩) (Below.refl _ _) ?restj3
              case hyj3 =>
                intro W hW
                go_simp
                exact rfl
              simp only [List.getElem_toArray, List.getElem_cons_succ, List.getElem_cons_zero, Act.put, List.setIfInBounds_toArray, List.set_cons_zero, List.set_cons_succ]
              refine but_take (f := 17) (i := 4) (v := ?vj4) rfl (by kernel_rfl) (by kernel_rfl) (by kernel_rfl) (by kernel_rfl) (by kernel_rfl) (fun _ _ _ h => h) (Or.inl ⟨(by rfl), ?hyj4⟩) (Below.refl _ _) ?restj4
              case hyj4 =>
                intro W hW
                go_simp
                exact rfl
              simp only [List.getElem_toArray, List.getElem_cons_succ, List.getElem_cons_zero, Act.put, List.setIfInBounds_toArray, List.set_cons_zero, List.set_cons_succ]
              refine but_take (f := 17) (i := 5) (v := ?vj5) rfl (by kernel_rfl) (by kernel_rfl) (by kernel_rfl) (by kernel_rfl) (by kernel_rfl) (fun _ _ _ h => h) (Or.inl ⟨(by rfl), ?hyj5⟩) (Below.refl _ _) ?restj5
              case hyj5 =>
                intro W hW
                have hb0 : Below wr.heap.size wr W := bstep (Below.drew1 _) hW
                obtain ⟨m0, m1, m2, m3, m4⟩ := FM.out _ hb0
                go_simp
                exact rfl
              simp only [List.getElem_toArray, List.getElem_cons_succ, List.getElem_cons_zero, Act.put, List.setIfInBounds_toArray, List.set_cons_zero, List.set_cons_succ]
              refine but_take (f := 17) (i := 6) (v := ?vj6) rfl (by kernel_rfl) (by kernel_rfl) (by kernel_rfl) (by kernel_rfl) (by kernel_rfl) (fun _ _ _ h => h) (Or.inl ⟨(by rfl), ?hyj6⟩) (Below.refl _ _) ?restj6
              case hyj6 =>
                intro W hW
                go_simp
                exact rfl
              simp only [List.getElem_toArray, List.getElem_cons_succ, List.getElem_cons_zero, Act.put, List.setIfInBounds_toArray, List.set_cons_zero, List.set_cons_succ]
              refine but_take (f := 17) (i := 7) (v := ?vj7) rfl (by kernel_rfl) (by kernel_rfl) (by kernel_rfl) (by kernel_rfl) (by kernel_rfl) (fun _ _ _ h => h) (Or.inl ⟨(by rfl), ?hyj7⟩) (Below.refl _ _) ?restj7
              case hyj7 =>
                intro W hW
                go_simp
                exact rfl
              simp only [List.getElem_toArray, List.getElem_cons_succ, List.getElem_cons_zero, Act.put, List.setIfInBounds_toArray, List.set_cons_zero, List.set_cons_succ]
              refine but_take (f := 17) (i := 8) (v := ?vj8) rfl (by kernel_rfl) (by kernel_rfl) (by kernel_rfl) (by kernel_rfl) (by kernel_rfl) (fun _ _ _ h => h) (Or.inl ⟨(by rfl), ?hyj8⟩) (Below.refl _ _) ?restj8
              case hyj8 =>
                intro W hW
                go_simp
                exact rfl
              simp only [List.getElem_toArray, List.getElem_cons_succ, List.getElem_cons_zero, Act.put, List.setIfInBounds_toArray, List.set_cons_zero, List.set_cons_succ]
              refine but_take (f := 17) (i := 9) (v := ?vj9) rfl (by kernel_rfl) (by kernel_rfl) (by kernel_rfl) (by kernel_rfl) (by kernel_rfl) (fun _ _ _ h => h) (Or.inl ⟨(by rfl), ?hyj9⟩) (Below.refl _ _) ?restj9
              case hyj9 =>
                intro W hW
                go_simp
                exact rfl
              simp only [List.getElem_toArray, List.getElem_cons_succ, List.getElem_cons_zero, Act.put, List.setIfInBounds_toArray, List.set_cons_zero, List.set_cons_succ]
              refine but_take (f := 17) (i := 10) (v := ?vj10) rfl (by kernel_rfl) (by kernel_rfl) (by kernel_rfl) (by kernel_rfl) (by kernel_rfl) (fun _ _ _ h => h) (Or.inl ⟨(by rfl), ?hyj10⟩) (Below.refl _ _) ?restj10
              case hyj10 =>
                intro W hW
                have hb0 : Below wr.heap.size wr W := bstep (Below.drew1 _) hW
                obtain ⟨m0, m1, m2, m3, m4⟩ := FM.out _ hb0
                go_simp
                exact rfl
              simp only [List.getElem_toArray, List.getElem_cons_succ, List.getElem_cons_zero, Act.put, List.setIfInBounds_toArray, List.set_cons_zero, List.set_cons_succ]
              refine but_two (i := 11) (j := 15) (by kernel_rfl) rfl rfl (by rfl) (by rfl) ?_ ?_
              · simp only [List.getElem_toArray, List.getElem_cons_succ, List.getElem_cons_zero]
                intro K HK
                go_wp2_with fail
                refine (HIA.out _ m mk.a mk.b _ (OMr.out.on (Below.drew1 _)).reads (by omega)).mono ?_
                rintro r Vjp1 ⟨rfl, hBjp1⟩
                rw [HXK.out, HXA.out]
                have hSjp1 := bstep (Below.refl _ _) hBjp1
                go_wp2_with fail
                refine HK.out _ Vjp1 (fun _ => hSjp1) ?_
                clear HK
                refine but_take (f := 17) (i := 12) (v := ?vjp12) rfl (by kernel_rfl) (by kernel_rfl) (by kernel_rfl) (by kernel_rfl) (by kernel_rfl) (fun _ _ _ h => h) (Or.inl ⟨(by rfl), ?hyjp12⟩) hSjp1 ?restjp12
                case hyjp12 =>
                  intro W hW
                  go_simp
                  exact rfl
                simp only [List.getElem_toArray, List.getElem_cons_succ, List.getElem_cons_zero, Act.put, List.setIfInBounds_toArray, List.set_cons_zero, List.set_cons_succ]
                refine but_take (f := 17) (i := 13) (v := ?vjp13) rfl (by kernel_rfl) (by kernel_rfl) (by kernel_rfl) (by kernel_rfl) (by kernel_rfl) (fun _ _ _ h => h) (Or.inl ⟨(by rfl), ?hyjp13⟩) hSjp1 ?restjp13
                case hyjp13 =>
                  intro W hW
                  go_simp
                  exact rfl
                simp only [List.getElem_toArray, List.getElem_cons_succ, List.getElem_cons_zero, Act.put, List.setIfInBounds_toArray, List.set_cons_zero, List.set_cons_succ]
                refine but_take (f := 17) (i := 14) (v := ?vjp14) rfl (by kernel_rfl) (by kernel_rfl) (by kernel_rfl) (by kernel_rfl) (by kernel_rfl) (fun _ _ _ h => h) (Or.inl ⟨(by rfl), ?hyjp14⟩) hSjp1 ?restjp14
                case hyjp14 =>
                  intro W hW
                  go_simp
                  exact rfl
                simp only [List.getElem_toArray, List.getElem_cons_succ, List.getElem_cons_zero, Act.put, List.setIfInBounds_toArray, List.set_cons_zero, List.set_cons_succ]
                refine but_run (i := 15) (by kernel_rfl) rfl (by rfl) ?_
                simp only [List.getElem_toArray, List.getElem_cons_succ, List.getElem_cons_zero]
                intro K HK
                have hSjp2 : Below wr.drew.heap.size wr.drew (Vjp1.alloc (.cells #[.int .i64 0, .int .i64 0, .int .i64 0, .int .i64 0, .int .i64 0] 47)) := bstep hSjp1 (bal1 _ _)
                go_wp2_with fail
                refine HK.out _ (Vjp1.alloc (.cells #[.int .i64 0, .int .i64 0, .int .i64 0, .int .i64 0, .int .i64 0] 47)) (fun _ => hSjp2) ?_
                clear HK
                refine but_run (i := 16) (by kernel_rfl) rfl (by rfl) ?_
                simp only [List.getElem_toArray, List.getElem_cons_succ, List.getElem_cons_zero]
                intro K HK
                have hSjp3 : Below wr.drew.heap.size wr.drew (Vjp1.alloc (.cells #[.int .i64 xk.a, .int .i64 xk.b, .int .i64 xk.c, .int .i64 xk.d, .int .i64 xk.e] 47)) := bstep hSjp1 (bal1 _ _)
                go_wp2_with fail
                refine HK.out _ (Vjp1.alloc (.cells #[.int .i64 xk.a, .int .i64 xk.b, .int .i64 xk.c, .int .i64 xk.d, .int .i64 xk.e] 47)) (fun _ => hSjp3) ?_
                clear HK
                refine but_run (i := 17) (by kernel_rfl) rfl (by rfl) ?_
                simp only [List.getElem_toArray, List.getElem_cons_succ, List.getElem_cons_zero]
                intro K HK
                go_wp2_with fail
                refine HK.out _ (Vjp1.alloc (.cells #[.int .i64 xk.a, .int .i64 xk.b, .int .i64 xk.c, .int .i64 xk.d, .int .i64 xk.e] 47)) (fun h => absurd rfl h) ?_
                clear HK
                refine but_done (by kernel_rfl) ?_
                go_wp2_with fail
                go_meet
                exact ⟨_, rfl, rfl, Lib.hid (al1 Vjp1 (.cells #[.int .i64 xk.a, .int .i64 xk.b, .int .i64 xk.c, .int .i64 xk.d, .int .i64 xk.e] 47)), Lib.hid (bstep (Below.drew1 _) hSjp3)⟩
              · simp only [List.getElem_toArray, List.getElem_cons_succ, List.getElem_cons_zero]
                intro K HK
                have hSjq1 : Below wr.drew.heap.size wr.drew (wr.drew.alloc (.cells #[.int .i64 0, .int .i64 0, .int .i64 0, .int .i64 0, .int .i64 0] 47)) := bal1 _ _
                go_wp2_with fail
                refine HK.out _ (wr.drew.alloc (.cells #[.int .i64 0, .int .i64 0, .int .i64 0, .int .i64 0, .int .i64 0] 47)) (fun _ => hSjq1) ?_
                clear HK
                refine but_run (i := 11) (by kernel_rfl) rfl (by rfl) ?_
                simp only [List.getElem_toArray, List.getElem_cons_succ, List.getElem_cons_zero]
                intro K HK
                go_wp2_with fail
                refine (HIA.out _ m mk.a mk.b _ (OMr.out.on (bstep (Below.drew1 _) hSjq1)).reads (by omega)).mono ?_
                rintro r Vjq2 ⟨rfl, hBjq2⟩
                rw [HXK.out, HXA.out]
                have hSjq2 := bstep hSjq1 hBjq2
                go_wp2_with fail
                refine HK.out _ Vjq2 (fun _ => hSjq2) ?_
                clear HK
                refine but_take (f := 17) (i := 12) (v := ?vjq12) rfl (by kernel_rfl) (by kernel_rfl) (by kernel_rfl) (by kernel_rfl) (by kernel_rfl) (fun _ _ _ h => h) (Or.inl ⟨(by rfl), ?hyjq12⟩) hSjq2 ?restjq12
                case hyjq12 =>
                  intro W hW
                  go_simp
                  exact rfl
                simp only [List.getElem_toArray, List.getElem_cons_succ, List.getElem_cons_zero, Act.put, List.setIfInBounds_toArray, List.set_cons_zero, List.set_cons_succ]
                refine but_take (f := 17) (i := 13) (v := ?vjq13) rfl (by kernel_rfl) (by kernel_rfl) (by kernel_rfl) (by kernel_rfl) (by kernel_rfl) (fun _ _ _ h => h) (Or.inl ⟨(by rfl), ?hyjq13⟩) hSjq2 ?restjq13
                case hyjq13 =>
                  intro W hW
                  go_simp
                  exact rfl
                simp only [List.getElem_toArray, List.getElem_cons_succ, List.getElem_cons_zero, Act.put, List.setIfInBounds_toArray, List.set_cons_zero, List.set_cons_succ]
                refine but_take (f := 17) (i := 14) (v := ?vjq14) rfl (by kernel_rfl) (by kernel_rfl) (by kernel_rfl) (by kernel_rfl) (by kernel_rfl) (fun _ _ _ h => h) (Or.inl ⟨(by rfl), ?hyjq14⟩) hSjq2 ?restjq14
                case hyjq14 =>
                  intro W hW
                  go_simp
                  exact rfl
                simp only [List.getElem_toArray, List.getElem_cons_succ, List.getElem_cons_zero, Act.put, List.setIfInBounds_toArray, List.set_cons_zero, List.set_cons_succ]
                have qz : Vjq2.heap[wr.heap.size]? = some (.cells #[.int .i64 0, .int .i64 0, .int .i64 0, .int .i64 0, .int .i64 0] 47) := box_on (al1 wr.drew (.cells #[.int .i64 0, .int .i64 0, .int .i64 0, .int .i64 0, .int .i64 0] 47)) hBjq2
                refine but_run (i := 16) (by kernel_rfl) rfl (by rfl) ?_
                simp only [List.getElem_toArray, List.getElem_cons_succ, List.getElem_cons_zero]
                intro K HK
                obtain ⟨z0, z1, z2, z3, z4, z5⟩ := box5 qz
                have hSjq3 : Below wr.drew.heap.size wr.drew (((((Vjq2.setCell ⟨wr.heap.size, 0, none⟩ (.int .i64 xk.a)).setCell ⟨wr.heap.size, 1, none⟩ (.int .i64 xk.b)).setCell ⟨wr.heap.size, 2, none⟩ (.int .i64 xk.c)).setCell ⟨wr.heap.size, 3, none⟩ (.int .i64 xk.d)).setCell ⟨wr.heap.size, 4, none⟩ (.int .i64 xk.e)) := b5' hSjq2 (Nat.le_refl _)
                go_wp2_with fail
                refine HK.out _ (((((Vjq2.setCell ⟨wr.heap.size, 0, none⟩ (.int .i64 xk.a)).setCell ⟨wr.heap.size, 1, none⟩ (.int .i64 xk.b)).setCell ⟨wr.heap.size, 2, none⟩ (.int .i64 xk.c)).setCell ⟨wr.heap.size, 3, none⟩ (.int .i64 xk.d)).setCell ⟨wr.heap.size, 4, none⟩ (.int .i64 xk.e)) (fun _ => hSjq3) ?_
                clear HK
                refine but_run (i := 17) (by kernel_rfl) rfl (by rfl) ?_
                simp only [List.getElem_toArray, List.getElem_cons_succ, List.getElem_cons_zero]
                intro K HK
                go_wp2_with fail
                refine HK.out _ (((((Vjq2.setCell ⟨wr.heap.size, 0, none⟩ (.int .i64 xk.a)).setCell ⟨wr.heap.size, 1, none⟩ (.int .i64 xk.b)).setCell ⟨wr.heap.size, 2, none⟩ (.int .i64 xk.c)).setCell ⟨wr.heap.size, 3, none⟩ (.int .i64 xk.d)).setCell ⟨wr.heap.size, 4, none⟩ (.int .i64 xk.e)) (fun h => absurd rfl h) ?_
                clear HK
                refine but_done (by kernel_rfl) ?_
                go_wp2_with fail
                go_meet
                exact ⟨_, rfl, rfl, Lib.hid (box_sets qz), Lib.hid (bstep (Below.drew1 _) hSjq3)⟩
            case rest =>
              obtain ⟨pb, rfl, rfl, QX, HX⟩ := hcut
              have HB1 := Lib.hid (bstep HBr.out HX.out)
              clear HX HBr QX OMr
              go_wp2
              go_roundw
              case rel => exact ⟨k + 1, by omega, by go_num, HB1⟩
              case measure => simp [intOf]; omega
          · have tz : decide ((k : Int) < (a.length : Int)) = false := decide_eq_false (by omega)
            have HB1 := Lib.hid HBr.out
            clear HBr
            go_wp2
            clear hk hlt tz
            go_loopw [15] (fun i wr => ∃ k : Nat, k ≤ d.length ∧ i = .int .i64 k ∧ Hid (Below W0.heap.size W0 wr)) (fun i _ => d.length - (intOf i).toNat)
            case atStart => exact ⟨0, Nat.zero_le _, rfl, HB1⟩
            case round =>
              clear HB1
              obtain ⟨k, hk, rfl, HBr⟩ := hrel
              by_cases hlt : k < d.length
              · obtain ⟨bm, om, rfl, hbb, hc⟩ := OD.out.reads.keys hlt
                have HF := (hc k hlt).keep (w' := wr) (HBr.out.block bm hbb)
                have hy := KIND.out d[k] (List.getElem_mem hlt)
                generalize d[k] = mk at HF hy
                have hz : (mk.c == 0) = false := by simpa using hy
                obtain ⟨m0, m1, m2, m3, m4⟩ := HF
                have i1 : (k : Int) < (d.length : Int) := by omega
                have i2 : (0 : Int) ≤ (k : Int) := by omega
                clear hy hc hbb
                go_wp2
                go_roundw
                case rel => exact ⟨k + 1, by omega, by go_num, HBr⟩
                case measure => simp [intOf]; omega
              · have tz : decide ((k : Int) < (d.length : Int)) = false := decide_eq_false (by omega)
                have i1 : IntKind.i64.wrap ((a.length : Int) + (b.length : Int)) = (a.length : Int) + (b.length : Int) := by rw [IntKind.wrap_i64]; omega
                have e1 : decide ((m.length : Int) ≤ (a.length : Int) + (b.length : Int)) = true := decide_eq_true (by omega)
                have e2 : decide ((b.length : Int) ≤ (m.length : Int)) = true := decide_eq_true (by omega)
                have e3 : decide ((d.length : Int) ≤ (m.length : Int)) = true := decide_eq_true (by omega)
                have e4 : decide (b.length ≤ m.length) = true := decide_eq_true (by omega)
                have e5 : decide (d.length ≤ m.length) = true := decide_eq_true (by omega)
                go_wp2_with fail
                refine (implSetOk_any _ m _ (OM.out.on HBr.out).reads (by omega)).mono ?_
                rintro r wz ⟨rfl, bz⟩
                rw [OK.out]
                go_wp2
                go_ret
                exact ⟨rfl, bstep BB.out (bstep HBr.out bz)⟩
  · have d0 : decide ((1048576 : Int) < (l.length : Int)) = true := decide_eq_true (by omega)
    go_enter Try.func4, Try.ntmps4
    go_wp2_with fail
    refine (big_any _ _ _ _).mono ?_
    rintro r w1 ⟨rfl, rfl⟩
    rw [d0]
    go_wp2
    go_ret
    exact ⟨rfl, Below.refl _ _⟩
end Go.Proofs.Ytmeiobpeacdfjaa
