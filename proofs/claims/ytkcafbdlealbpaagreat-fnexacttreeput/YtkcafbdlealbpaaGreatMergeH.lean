/- Several texts in one: ExTreePut. -/
import Derived.Test.YtkcafbdlealbpaaGreatMergeA
import Derived.Test.YtkcafbdlealbpaaGreatMergeD
import Derived.Test.YtkcafbdlealbpaaGreatMergeG
/- The walk of FnExactTreePut: at every argument the call returns true and writes nothing that was there. No condition. -/
namespace Go.Proofs.YtkcafbdlealbpaaGreat
open Go.RowKit
set_option maxRecDepth 100000
set_option linter.unusedSimpArgs false
set_option linter.unusedVariables false
theorem put_small {lo : List Int} {ts : List NodeD} {x : KeyD} (h : SmallT lo ts) : SmallT (treePutK lo ts x).1 (treePutK lo ts x).2 := by
  unfold treePutK
  cases hb : treePutB lo ts x
  · exact h
  · simp only [treePutB, Bool.and_eq_true] at hb
    have := treeP_small' (of_decide_eq_true hb.2)
    simp only [if_true]
    exact ⟨by omega, by omega, by omega⟩
set_option maxHeartbeats 16000000 in
theorem exactTreePut_walk (v : Value) (dt : List Int × List NodeD) (u : Value) (x : KeyD) (w : World) (hv : TreeIs w v dt) (hu : KeyIs u x) : Calls Tryz.prog 5 #[v, u] w fun e w' => e = .returned (.bool true) ∧ Below w.heap.size w w' := by
  obtain ⟨lo, ts⟩ := dt
  obtain ⟨vl, vn, rfl, hl, hv⟩ := hv
  dsimp only at hl hv
  obtain ⟨A, c, rfl, _, _⟩ := hl.lenN
  obtain ⟨B, d, rfl, _, _⟩ := hv.lenN
  unfold KeyIs at hu
  subst hu
  have HL := Lib.hid hl
  have HV := Lib.hid hv
  clear hv hl
  have BB := Lib.hid (bal2 w (.cells #[.slice A lo.length c, .slice B ts.length d] 54) (.cells #[.int .i64 x.a, .int .i64 x.b, .int .i64 x.c, .int .i64 x.d, .int .i64 x.e] 55))
  obtain ⟨q0, q1⟩ := al2 w (.cells #[.slice A lo.length c, .slice B ts.length d] 54) (.cells #[.int .i64 x.a, .int .i64 x.b, .int .i64 x.c, .int .i64 x.d, .int .i64 x.e] 55)
  have QN := Lib.hid q0
  have QK := Lib.hid q1
  clear q0 q1
  have hWz : Hid (((w.alloc (.cells #[.slice A lo.length c, .slice B ts.length d] 54)).alloc (.cells #[.int .i64 x.a, .int .i64 x.b, .int .i64 x.c, .int .i64 x.d, .int .i64 x.e] 55)).heap.size = w.heap.size + 2) := Lib.hid (by simp)
  unfold keyV
  by_cases hn : lo.length + (ts.length + sumT ts) ≤ 1048576
  · have HT := Lib.hid (fun w' (b : Below w.heap.size w w') => toTree_any (.slice A lo.length c) (.slice B ts.length d) lo ts w' (HL.out.on b) (HV.out.on b) hn)
    have HKY := Lib.hid (toKey_any x.a x.b x.c x.d x.e)
    have hs : Hid (SmallT lo ts) := Lib.hid ⟨by omega, by omega, by omega⟩
    have HPS := Lib.hid (fun vl vn V hv => specTreePut_any vl vn lo ts x V hv (by omega) (by omega) (by omega))
    have HPI := Lib.hid (fun vl vn V hv => implTreePut_any vl vn lo ts x V hv (by omega) (by omega) (by omega))
    have hsR := Lib.hid (put_small (x := x) hs.out)
    obtain ⟨⟨rl, rt⟩, hRT⟩ : ∃ R, treePutK lo ts x = R := ⟨_, rfl⟩
    obtain ⟨RB, hRB⟩ : ∃ RB, treePutB lo ts x = RB := ⟨_, rfl⟩
    rw [hRT] at hsR
    rw [hRT, hRB] at HPS HPI
    unfold PutsT KeyD.v keyV at HPS
    unfold PutsC KeyD.v keyV at HPI
    unfold SaysK keyV at HKY
    have hne : (RB != RB) = false := by simp
    clear hRT hRB
    dsimp only at hsR
    go_enter Tryz.func5, Tryz.ntmps5
    go_upto_region 1 with (fail)
    generalize (w.alloc (.cells #[.slice A lo.length c, .slice B ts.length d] 54)).alloc (.cells #[.int .i64 x.a, .int .i64 x.b, .int .i64 x.c, .int .i64 x.d, .int .i64 x.e] 55) = W at *
    have hWz1 := Nat.le_of_eq hWz.out
    have hWz2 := Nat.le_of_eq hWz.out.symm
    clear hWz
    obtain ⟨N0, N1, N2⟩ := box2 QN.out
    go_wp2_with fail
    refine (szT_small _ _ lo ts _ (HL.out.on BB.out) (HV.out.on BB.out) hn).mono ?_
    clear N0 N1 N2
    rintro r w0 ⟨⟨q0, rfl, hq0⟩, b⟩
    have z0 := b.size
    replace QN := Lib.hid (box_on QN.out b)
    replace QK := Lib.hid (box_on QK.out b)
    replace BB := Lib.hid (bstep BB.out b)
    have d0 : decide (q0 < 0) = false := decide_eq_false (by omega)
    clear b hq0
    go_upto_region 5 with (fail)
    go_cut [6, 7] (fun s6 s7 wx => ∃ (pb : Nat) (AP : Option Addr) (cP : Nat) (BP : Option Addr) (dP : Nat), s6 = .pointer (some ⟨pb, 0, none⟩) ∧ s7 = .bool RB ∧ w0.heap.size ≤ pb ∧ Hid (wx.heap[pb]? = some (.cells #[.slice AP rl.length cP, .slice BP rt.length dP] 27 (0, 0))) ∧ Hid (TreeC wx (fun b => w0.heap.size ≤ b ∧ b ≠ pb) (.slice AP rl.length cP) (.slice BP rt.length dP) rl rt) ∧ Hid (Below w0.heap.size w0 wx))
    case first =>
      refine but_begin (f := 10) (S := fun V => Below w0.heap.size w0 V) (by kernel_rfl) ?_
      have hS0g5 : Below w0.heap.size w0 w0.drew := Below.drew1 _
      generalize w0.drew = Udg5 at *
      refine but_take (f := 10) (i := 0) (v := ?vg50) rfl (by kernel_rfl) (by kernel_rfl) (by kernel_rfl) (by kernel_rfl) (by kernel_rfl) (fun _ _ _ h => h) (Or.inl ⟨(by rfl), ?hyg50⟩) hS0g5 ?restg50
      case hyg50 =>
        intro W hW
        obtain ⟨N0, N1, N2⟩ := box2 (box_on QN.out hW)
        go_simp
        exact rfl
      simp only [List.getElem_toArray, List.getElem_cons_succ, List.getElem_cons_zero, Act.put, List.setIfInBounds_toArray, List.set_cons_zero, List.set_cons_succ]
      refine but_take (f := 10) (i := 2) (v := ?vg52) rfl (by kernel_rfl) (by kernel_rfl) (by kernel_rfl) (by kernel_rfl) (by kernel_rfl) (fun _ _ _ h => h) (Or.inl ⟨(by rfl), ?hyg52⟩) hS0g5 ?restg52
      case hyg52 =>
        intro W hW
        obtain ⟨K0, K1, K2, K3, K4, K5⟩ := box5 (box_on QK.out hW)
        go_simp
        exact rfl
      simp only [List.getElem_toArray, List.getElem_cons_succ, List.getElem_cons_zero, Act.put, List.setIfInBounds_toArray, List.set_cons_zero, List.set_cons_succ]
      refine but_two (i := 1) (j := 8) (by kernel_rfl) rfl rfl (by rfl) (by rfl) ?_ ?_
      · simp only [List.getElem_toArray, List.getElem_cons_succ, List.getElem_cons_zero]
        intro K HK
        go_wp2_with fail
        refine (HT.out _ (bstep BB.out hS0g5)).mono ?_
        rintro r Vg5p1 ⟨vlT, vnT, rfl, oT, hbg5p1⟩
        obtain ⟨AT, cT, BT, dT, rfl, rfl⟩ := oT.reads.shape
        go_wp2_with fail
        have hSg5p1 : (fun V => Below w0.heap.size w0 V) Vg5p1 := bstep hS0g5 hbg5p1
        refine HK.out _ _ (fun _ => hSg5p1) ?_
        clear HK
        have OT := Lib.hid oT.reads
        clear oT
        refine but_two (i := 3) (j := 8) (by kernel_rfl) rfl rfl (by rfl) (by rfl) ?_ ?_
        · simp only [List.getElem_toArray, List.getElem_cons_succ, List.getElem_cons_zero]
          intro K HK
          go_wp2_with fail
          refine (HKY.out _).mono ?_
          rintro r Vg5pp2 ⟨rfl, hbg5pp2⟩
          go_wp2_with fail
          have hSg5pp2 : (fun V => Below w0.heap.size w0 V) Vg5pp2 := bstep hSg5p1 hbg5pp2
          refine HK.out _ _ (fun _ => hSg5pp2) ?_
          clear HK
          have hkg5pp2 := hbg5pp2.size
          replace OT := Lib.hid (OT.out.on hbg5pp2)
          refine but_two (i := 4) (j := 8) (by kernel_rfl) rfl rfl (by rfl) (by rfl) ?_ ?_
          · simp only [List.getElem_toArray, List.getElem_cons_succ, List.getElem_cons_zero]
            intro K HK
            go_wp2_with fail
            refine (HPS.out _ _ _ OT.out).mono ?_
            rintro r Vg5ppp3 ⟨vlP, vnP, rfl, oP, hbg5ppp3⟩
            obtain ⟨AP, cP, BP, dP, rfl, rfl⟩ := oP.reads.shape
            go_wp2_with fail
            have hSg5ppp3 : (fun V => Below w0.heap.size w0 V) Vg5ppp3 := bstep hSg5pp2 hbg5ppp3
            refine HK.out _ _ (fun _ => hSg5ppp3) ?_
            clear HK
            have OP := Lib.hid (oP.c.lt.mono (T := fun b => w0.heap.size ≤ b) (fun b hb => Nat.le_trans (hSg5pp2).size hb.1))
            clear oP
            refine but_take (f := 10) (i := 5) (v := ?vg5ppp5) rfl (by kernel_rfl) (by kernel_rfl) (by kernel_rfl) (by kernel_rfl) (by kernel_rfl) (fun _ _ _ h => h) (Or.inl ⟨(by rfl), ?hyg5ppp5⟩) hSg5ppp3 ?restg5ppp5
            case hyg5ppp5 =>
              intro W hW
              go_simp
              exact rfl
            simp only [List.getElem_toArray, List.getElem_cons_succ, List.getElem_cons_zero, Act.put, List.setIfInBounds_toArray, List.set_cons_zero, List.set_cons_succ]
            refine but_take (f := 10) (i := 6) (v := ?vg5ppp6) rfl (by kernel_rfl) (by kernel_rfl) (by kernel_rfl) (by kernel_rfl) (by kernel_rfl) (fun _ _ _ h => h) (Or.inl ⟨(by rfl), ?hyg5ppp6⟩) hSg5ppp3 ?restg5ppp6
            case hyg5ppp6 =>
              intro W hW
              go_simp
              exact rfl
            simp only [List.getElem_toArray, List.getElem_cons_succ, List.getElem_cons_zero, Act.put, List.setIfInBounds_toArray, List.set_cons_zero, List.set_cons_succ]
            refine but_take (f := 10) (i := 7) (v := ?vg5ppp7) rfl (by kernel_rfl) (by kernel_rfl) (by kernel_rfl) (by kernel_rfl) (by kernel_rfl) (fun _ _ _ h => h) (Or.inl ⟨(by rfl), ?hyg5ppp7⟩) hSg5ppp3 ?restg5ppp7
            case hyg5ppp7 =>
              intro W hW
              go_simp
              exact rfl
            simp only [List.getElem_toArray, List.getElem_cons_succ, List.getElem_cons_zero, Act.put, List.setIfInBounds_toArray, List.set_cons_zero, List.set_cons_succ]
            refine but_run (i := 8) (by kernel_rfl) rfl (by rfl) ?_
            simp only [List.getElem_toArray, List.getElem_cons_succ, List.getElem_cons_zero]
            intro K HK
            go_wp2_with fail
            have hSg5ppp4 : (fun V => Below w0.heap.size w0 V) (Vg5ppp3.alloc (.cells #[.slice none 0 0, .slice none 0 0] 27)) := bstep hSg5ppp3 (bal1 _ _)
            refine HK.out _ _ (fun _ => hSg5ppp4) ?_
            clear HK
            have QB := Lib.hid (al1 Vg5ppp3 (.cells #[.slice none 0 0, .slice none 0 0] 27))
            obtain ⟨pb, hpb⟩ : ∃ p, Vg5ppp3.heap.size = p := ⟨_, rfl⟩
            have hpb2 : w0.heap.size ≤ pb := by rw [← hpb]; exact (hSg5ppp3).size
            have hpl : pb < (Vg5ppp3.alloc (.cells #[.slice none 0 0, .slice none 0 0] 27)).heap.size := by rw [← hpb]; simp
            replace OP := Lib.hid ((OP.out.lt.on (bal1 Vg5ppp3 (.cells #[.slice none 0 0, .slice none 0 0] 27))).mono (T := fun b => w0.heap.size ≤ b ∧ b ≠ pb) (fun b hb => ⟨hb.1, by have := hb.2; omega⟩))
            rw [hpb] at QB ⊢
            clear hpb
            generalize Vg5ppp3.alloc (.cells #[.slice none 0 0, .slice none 0 0] 27) = Vng5ppp4 at *
            refine but_run (i := 9) (by kernel_rfl) rfl (by rfl) ?_
            simp only [List.getElem_toArray, List.getElem_cons_succ, List.getElem_cons_zero]
            intro K HK
            obtain ⟨y0, y1, y2⟩ := box2 QB.out
            go_wp2_with fail
            have hSg5ppp5 : (fun V => Below w0.heap.size w0 V) ((Vng5ppp4.setCell ⟨pb, 0, none⟩ (.slice AP rl.length cP)).setCell ⟨pb, 1, none⟩ (.slice BP rt.length dP)) := ((hSg5ppp4).setCell (p := ⟨pb, 0, none⟩) hpb2 _).setCell (p := ⟨pb, 1, none⟩) hpb2 _
            refine HK.out _ _ (fun _ => hSg5ppp5) ?_
            clear HK
            have QB2 := Lib.hid (box_set (i := 1) (u := .slice BP rt.length dP) (box_set (i := 0) (u := .slice AP rl.length cP) QB.out))
            have OP2 := Lib.hid (OP.out.keep (w' := (Vng5ppp4.setCell ⟨pb, 0, none⟩ (.slice AP rl.length cP)).setCell ⟨pb, 1, none⟩ (.slice BP rt.length dP)) (fun b hb hl => (only_two Vng5ppp4 pb 0 1 (.slice AP rl.length cP) (.slice BP rt.length dP)).block b hl (fun e => hb.2 e)))
            refine but_run (i := 10) (by kernel_rfl) rfl (by rfl) ?_
            simp only [List.getElem_toArray, List.getElem_cons_succ, List.getElem_cons_zero]
            intro K HK
            go_wp2_with fail
            refine HK.out _ _ (fun h => absurd rfl h) ?_
            clear HK
            refine but_done (by kernel_rfl) ?_
            go_wp2_with fail
            go_meet
            exact ⟨pb, AP, cP, BP, dP, rfl, rfl, hpb2, QB2, OP2, Lib.hid (hSg5ppp5)⟩
          · simp only [List.getElem_toArray, List.getElem_cons_succ, List.getElem_cons_zero]
            intro K HK
            go_wp2_with fail
            have hSg5ppq3 : (fun V => Below w0.heap.size w0 V) (Vg5pp2.alloc (.cells #[.slice none 0 0, .slice none 0 0] 27)) := bstep hSg5pp2 (bal1 _ _)
            refine HK.out _ _ (fun _ => hSg5ppq3) ?_
            clear HK
            have QB := Lib.hid (al1 Vg5pp2 (.cells #[.slice none 0 0, .slice none 0 0] 27))
            obtain ⟨pb, hpb⟩ : ∃ p, Vg5pp2.heap.size = p := ⟨_, rfl⟩
            have hpb2 : w0.heap.size ≤ pb := by rw [← hpb]; exact (hSg5pp2).size
            have hpl : pb < (Vg5pp2.alloc (.cells #[.slice none 0 0, .slice none 0 0] 27)).heap.size := by rw [← hpb]; simp
            replace OT := Lib.hid (OT.out.on (bal1 Vg5pp2 (.cells #[.slice none 0 0, .slice none 0 0] 27)))
            rw [hpb] at QB ⊢
            clear hpb
            generalize Vg5pp2.alloc (.cells #[.slice none 0 0, .slice none 0 0] 27) = Vng5ppq3 at *
            refine but_run (i := 4) (by kernel_rfl) rfl (by rfl) ?_
            simp only [List.getElem_toArray, List.getElem_cons_succ, List.getElem_cons_zero]
            intro K HK
            go_wp2_with fail
            refine (HPS.out _ _ _ OT.out).mono ?_
            rintro r Vg5ppq4 ⟨vlP, vnP, rfl, oP, hbg5ppq4⟩
            obtain ⟨AP, cP, BP, dP, rfl, rfl⟩ := oP.reads.shape
            go_wp2_with fail
            have hSg5ppq4 : (fun V => Below w0.heap.size w0 V) Vg5ppq4 := bstep hSg5ppq3 hbg5ppq4
            refine HK.out _ _ (fun _ => hSg5ppq4) ?_
            clear HK
            have OP := Lib.hid (oP.c.lt.mono (T := fun b => w0.heap.size ≤ b ∧ b ≠ pb) (fun b hb => ⟨Nat.le_trans (hSg5ppq3).size hb.1, by have := hb.1; omega⟩))
            clear oP
            replace QB := Lib.hid (box_on QB.out hbg5ppq4)
            replace hpl : pb < Vg5ppq4.heap.size := Nat.lt_of_lt_of_le hpl hbg5ppq4.size
            refine but_take (f := 10) (i := 5) (v := ?vg5ppq5) rfl (by kernel_rfl) (by kernel_rfl) (by kernel_rfl) (by kernel_rfl) (by kernel_rfl) (fun _ _ _ h => h) (Or.inl ⟨(by rfl), ?hyg5ppq5⟩) hSg5ppq4 ?restg5ppq5
            case hyg5ppq5 =>
              intro W hW
              go_simp
              exact rfl
            simp only [List.getElem_toArray, List.getElem_cons_succ, List.getElem_cons_zero, Act.put, List.setIfInBounds_toArray, List.set_cons_zero, List.set_cons_succ]
            refine but_take (f := 10) (i := 6) (v := ?vg5ppq6) rfl (by kernel_rfl) (by kernel_rfl) (by kernel_rfl) (by kernel_rfl) (by kernel_rfl) (fun _ _ _ h => h) (Or.inl ⟨(by rfl), ?hyg5ppq6⟩) hSg5ppq4 ?restg5ppq6
            case hyg5ppq6 =>
              intro W hW
              go_simp
              exact rfl
            simp only [List.getElem_toArray, List.getElem_cons_succ, List.getElem_cons_zero, Act.put, List.setIfInBounds_toArray, List.set_cons_zero, List.set_cons_succ]
            refine but_take (f := 10) (i := 7) (v := ?vg5ppq7) rfl (by kernel_rfl) (by kernel_rfl) (by kernel_rfl) (by kernel_rfl) (by kernel_rfl) (fun _ _ _ h => h) (Or.inl ⟨(by rfl), ?hyg5ppq7⟩) hSg5ppq4 ?restg5ppq7
            case hyg5ppq7 =>
              intro W hW
              go_simp
              exact rfl
            simp only [List.getElem_toArray, List.getElem_cons_succ, List.getElem_cons_zero, Act.put, List.setIfInBounds_toArray, List.set_cons_zero, List.set_cons_succ]
            refine but_run (i := 9) (by kernel_rfl) rfl (by rfl) ?_
            simp only [List.getElem_toArray, List.getElem_cons_succ, List.getElem_cons_zero]
            intro K HK
            obtain ⟨y0, y1, y2⟩ := box2 QB.out
            go_wp2_with fail
            have hSg5ppq5 : (fun V => Below w0.heap.size w0 V) ((Vg5ppq4.setCell ⟨pb, 0, none⟩ (.slice AP rl.length cP)).setCell ⟨pb, 1, none⟩ (.slice BP rt.length dP)) := ((hSg5ppq4).setCell (p := ⟨pb, 0, none⟩) hpb2 _).setCell (p := ⟨pb, 1, none⟩) hpb2 _
            refine HK.out _ _ (fun _ => hSg5ppq5) ?_
            clear HK
            have QB2 := Lib.hid (box_set (i := 1) (u := .slice BP rt.length dP) (box_set (i := 0) (u := .slice AP rl.length cP) QB.out))
            have OP2 := Lib.hid (OP.out.keep (w' := (Vg5ppq4.setCell ⟨pb, 0, none⟩ (.slice AP rl.length cP)).setCell ⟨pb, 1, none⟩ (.slice BP rt.length dP)) (fun b hb hl => (only_two Vg5ppq4 pb 0 1 (.slice AP rl.length cP) (.slice BP rt.length dP)).block b hl (fun e => hb.2 e)))
            refine but_run (i := 10) (by kernel_rfl) rfl (by rfl) ?_
            simp only [List.getElem_toArray, List.getElem_cons_succ, List.getElem_cons_zero]
            intro K HK
            go_wp2_with fail
            refine HK.out _ _ (fun h => absurd rfl h) ?_
            clear HK
            refine but_done (by kernel_rfl) ?_
            go_wp2_with fail
            go_meet
            exact ⟨pb, AP, cP, BP, dP, rfl, rfl, hpb2, QB2, OP2, Lib.hid (hSg5ppq5)⟩
        · simp only [List.getElem_toArray, List.getElem_cons_succ, List.getElem_cons_zero]
          intro K HK
          go_wp2_with fail
          have hSg5pq2 : (fun V => Below w0.heap.size w0 V) (Vg5p1.alloc (.cells #[.slice none 0 0, .slice none 0 0] 27)) := bstep hSg5p1 (bal1 _ _)
          refine HK.out _ _ (fun _ => hSg5pq2) ?_
          clear HK
          have QB := Lib.hid (al1 Vg5p1 (.cells #[.slice none 0 0, .slice none 0 0] 27))
          obtain ⟨pb, hpb⟩ : ∃ p, Vg5p1.heap.size = p := ⟨_, rfl⟩
          have hpb2 : w0.heap.size ≤ pb := by rw [← hpb]; exact (hSg5p1).size
          have hpl : pb < (Vg5p1.alloc (.cells #[.slice none 0 0, .slice none 0 0] 27)).heap.size := by rw [← hpb]; simp
          replace OT := Lib.hid (OT.out.on (bal1 Vg5p1 (.cells #[.slice none 0 0, .slice none 0 0] 27)))
          rw [hpb] at QB ⊢
          clear hpb
          generalize Vg5p1.alloc (.cells #[.slice none 0 0, .slice none 0 0] 27) = Vng5pq2 at *
          refine but_run (i := 3) (by kernel_rfl) rfl (by rfl) ?_
          simp only [List.getElem_toArray, List.getElem_cons_succ, List.getElem_cons_zero]
          intro K HK
          go_wp2_with fail
          refine (HKY.out _).mono ?_
          rintro r Vg5pq3 ⟨rfl, hbg5pq3⟩
          go_wp2_with fail
          have hSg5pq3 : (fun V => Below w0.heap.size w0 V) Vg5pq3 := bstep hSg5pq2 hbg5pq3
          refine HK.out _ _ (fun _ => hSg5pq3) ?_
          clear HK
          have hkg5pq3 := hbg5pq3.size
          replace OT := Lib.hid (OT.out.on hbg5pq3)
          replace QB := Lib.hid (box_on QB.out hbg5pq3)
          replace hpl : pb < Vg5pq3.heap.size := Nat.lt_of_lt_of_le hpl hbg5pq3.size
          refine but_run (i := 4) (by kernel_rfl) rfl (by rfl) ?_
          simp only [List.getElem_toArray, List.getElem_cons_succ, List.getElem_cons_zero]
          intro K HK
          go_wp2_with fail
          refine (HPS.out _ _ _ OT.out).mono ?_
          rintro r Vg5pq4 ⟨vlP, vnP, rfl, oP, hbg5pq4⟩
          obtain ⟨AP, cP, BP, dP, rfl, rfl⟩ := oP.reads.shape
          go_wp2_with fail
          have hSg5pq4 : (fun V => Below w0.heap.size w0 V) Vg5pq4 := bstep hSg5pq3 hbg5pq4
          refine HK.out _ _ (fun _ => hSg5pq4) ?_
          clear HK
          have OP := Lib.hid (oP.c.lt.mono (T := fun b => w0.heap.size ≤ b ∧ b ≠ pb) (fun b hb => ⟨Nat.le_trans (hSg5pq3).size hb.1, by have := hb.1; omega⟩))
          clear oP
          replace QB := Lib.hid (box_on QB.out hbg5pq4)
          replace hpl : pb < Vg5pq4.heap.size := Nat.lt_of_lt_of_le hpl hbg5pq4.size
          refine but_take (f := 10) (i := 5) (v := ?vg5pq5) rfl (by kernel_rfl) (by kernel_rfl) (by kernel_rfl) (by kernel_rfl) (by kernel_rfl) (fun _ _ _ h => h) (Or.inl ⟨(by rfl), ?hyg5pq5⟩) hSg5pq4 ?restg5pq5
          case hyg5pq5 =>
            intro W hW
            go_simp
            exact rfl
          simp only [List.getElem_toArray, List.getElem_cons_succ, List.getElem_cons_zero, Act.put, List.setIfInBounds_toArray, List.set_cons_zero, List.set_cons_succ]
          refine but_take (f := 10) (i := 6) (v := ?vg5pq6) rfl (by kernel_rfl) (by kernel_rfl) (by kernel_rfl) (by kernel_rfl) (by kernel_rfl) (fun _ _ _ h => h) (Or.inl ⟨(by rfl), ?hyg5pq6⟩) hSg5pq4 ?restg5pq6
          case hyg5pq6 =>
            intro W hW
            go_simp
            exact rfl
          simp only [List.getElem_toArray, List.getElem_cons_succ, List.getElem_cons_zero, Act.put, List.setIfInBounds_toArray, List.set_cons_zero, List.set_cons_succ]
          refine but_take (f := 10) (i := 7) (v := ?vg5pq7) rfl (by kernel_rfl) (by kernel_rfl) (by kernel_rfl) (by kernel_rfl) (by kernel_rfl) (fun _ _ _ h => h) (Or.inl ⟨(by rfl), ?hyg5pq7⟩) hSg5pq4 ?restg5pq7
          case hyg5pq7 =>
            intro W hW
            go_simp
            exact rfl
          simp only [List.getElem_toArray, List.getElem_cons_succ, List.getElem_cons_zero, Act.put, List.setIfInBounds_toArray, List.set_cons_zero, List.set_cons_succ]
          refine but_run (i := 9) (by kernel_rfl) rfl (by rfl) ?_
          simp only [List.getElem_toArray, List.getElem_cons_succ, List.getElem_cons_zero]
          intro K HK
          obtain ⟨y0, y1, y2⟩ := box2 QB.out
          go_wp2_with fail
          have hSg5pq5 : (fun V => Below w0.heap.size w0 V) ((Vg5pq4.setCell ⟨pb, 0, none⟩ (.slice AP rl.length cP)).setCell ⟨pb, 1, none⟩ (.slice BP rt.length dP)) := ((hSg5pq4).setCell (p := ⟨pb, 0, none⟩) hpb2 _).setCell (p := ⟨pb, 1, none⟩) hpb2 _
          refine HK.out _ _ (fun _ => hSg5pq5) ?_
          clear HK
          have QB2 := Lib.hid (box_set (i := 1) (u := .slice BP rt.length dP) (box_set (i := 0) (u := .slice AP rl.length cP) QB.out))
          have OP2 := Lib.hid (OP.out.keep (w' := (Vg5pq4.setCell ⟨pb, 0, none⟩ (.slice AP rl.length cP)).setCell ⟨pb, 1, none⟩ (.slice BP rt.length dP)) (fun b hb hl => (only_two Vg5pq4 pb 0 1 (.slice AP rl.length cP) (.slice BP rt.length dP)).block b hl (fun e => hb.2 e)))
          refine but_run (i := 10) (by kernel_rfl) rfl (by rfl) ?_
          simp only [List.getElem_toArray, List.getElem_cons_succ, List.getElem_cons_zero]
          intro K HK
          go_wp2_with fail
          refine HK.out _ _ (fun h => absurd rfl h) ?_
          clear HK
          refine but_done (by kernel_rfl) ?_
          go_wp2_with fail
          go_meet
          exact ⟨pb, AP, cP, BP, dP, rfl, rfl, hpb2, QB2, OP2, Lib.hid (hSg5pq5)⟩
      · simp only [List.getElem_toArray, List.getElem_cons_succ, List.getElem_cons_zero]
        intro K HK
        go_wp2_with fail
        have hSg5q1 : (fun V => Below w0.heap.size w0 V) (Udg5.alloc (.cells #[.slice none 0 0, .slice none 0 0] 27)) := bstep hS0g5 (bal1 _ _)
        refine HK.out _ _ (fun _ => hSg5q1) ?_
        clear HK
        have QB := Lib.hid (al1 Udg5 (.cells #[.slice none 0 0, .slice none 0 0] 27))
        obtain ⟨pb, hpb⟩ : ∃ p, Udg5.heap.size = p := ⟨_, rfl⟩
        have hpb2 : w0.heap.size ≤ pb := by rw [← hpb]; exact (hS0g5).size
        have hpl : pb < (Udg5.alloc (.cells #[.slice none 0 0, .slice none 0 0] 27)).heap.size := by rw [← hpb]; simp
        rw [hpb] at QB ⊢
        clear hpb
        generalize Udg5.alloc (.cells #[.slice none 0 0, .slice none 0 0] 27) = Vng5q1 at *
        refine but_run (i := 1) (by kernel_rfl) rfl (by rfl) ?_
        simp only [List.getElem_toArray, List.getElem_cons_succ, List.getElem_cons_zero]
        intro K HK
        go_wp2_with fail
        refine (HT.out _ (bstep BB.out hSg5q1)).mono ?_
        rintro r Vg5q2 ⟨vlT, vnT, rfl, oT, hbg5q2⟩
        obtain ⟨AT, cT, BT, dT, rfl, rfl⟩ := oT.reads.shape
        go_wp2_with fail
        have hSg5q2 : (fun V => Below w0.heap.size w0 V) Vg5q2 := bstep hSg5q1 hbg5q2
        refine HK.out _ _ (fun _ => hSg5q2) ?_
        clear HK
        have OT := Lib.hid oT.reads
        clear oT
        replace QB := Lib.hid (box_on QB.out hbg5q2)
        replace hpl : pb < Vg5q2.heap.size := Nat.lt_of_lt_of_le hpl hbg5q2.size
        refine but_run (i := 3) (by kernel_rfl) rfl (by rfl) ?_
        simp only [List.getElem_toArray, List.getElem_cons_succ, List.getElem_cons_zero]
        intro K HK
        go_wp2_with fail
        refine (HKY.out _).mono ?_
        rintro r Vg5q3 ⟨rfl, hbg5q3⟩
        go_wp2_with fail
        have hSg5q3 : (fun V => Below w0.heap.size w0 V) Vg5q3 := bstep hSg5q2 hbg5q3
        refine HK.out _ _ (fun _ => hSg5q3) ?_
        clear HK
        have hkg5q3 := hbg5q3.size
        replace OT := Lib.hid (OT.out.on hbg5q3)
        replace QB := Lib.hid (box_on QB.out hbg5q3)
        replace hpl : pb < Vg5q3.heap.size := Nat.lt_of_lt_of_le hpl hbg5q3.size
        refine but_run (i := 4) (by kernel_rfl) rfl (by rfl) ?_
        simp only [List.getElem_toArray, List.getElem_cons_succ, List.getElem_cons_zero]
        intro K HK
        go_wp2_with fail
        refine (HPS.out _ _ _ OT.out).mono ?_
        rintro r Vg5q4 ⟨vlP, vnP, rfl, oP, hbg5q4⟩
        obtain ⟨AP, cP, BP, dP, rfl, rfl⟩ := oP.reads.shape
        go_wp2_with fail
        have hSg5q4 : (fun V => Below w0.heap.size w0 V) Vg5q4 := bstep hSg5q3 hbg5q4
        refine HK.out _ _ (fun _ => hSg5q4) ?_
        clear HK
        have OP := Lib.hid (oP.c.lt.mono (T := fun b => w0.heap.size ≤ b ∧ b ≠ pb) (fun b hb => ⟨Nat.le_trans (hSg5q3).size hb.1, by have := hb.1; omega⟩))
        clear oP
        replace QB := Lib.hid (box_on QB.out hbg5q4)
        replace hpl : pb < Vg5q4.heap.size := Nat.lt_of_lt_of_le hpl hbg5q4.size
        refine but_take (f := 10) (i := 5) (v := ?vg5q5) rfl (by kernel_rfl) (by kernel_rfl) (by kernel_rfl) (by kernel_rfl) (by kernel_rfl) (fun _ _ _ h => h) (Or.inl ⟨(by rfl), ?hyg5q5⟩) hSg5q4 ?restg5q5
        case hyg5q5 =>
          intro W hW
          go_simp
          exact rfl
        simp only [List.getElem_toArray, List.getElem_cons_succ, List.getElem_cons_zero, Act.put, List.setIfInBounds_toArray, List.set_cons_zero, List.set_cons_succ]
        refine but_take (f := 10) (i := 6) (v := ?vg5q6) rfl (by kernel_rfl) (by kernel_rfl) (by kernel_rfl) (by kernel_rfl) (by kernel_rfl) (fun _ _ _ h => h) (Or.inl ⟨(by rfl), ?hyg5q6⟩) hSg5q4 ?restg5q6
        case hyg5q6 =>
          intro W hW
          go_simp
          exact rfl
        simp only [List.getElem_toArray, List.getElem_cons_succ, List.getElem_cons_zero, Act.put, List.setIfInBounds_toArray, List.set_cons_zero, List.set_cons_succ]
        refine but_take (f := 10) (i := 7) (v := ?vg5q7) rfl (by kernel_rfl) (by kernel_rfl) (by kernel_rfl) (by kernel_rfl) (by kernel_rfl) (fun _ _ _ h => h) (Or.inl ⟨(by rfl), ?hyg5q7⟩) hSg5q4 ?restg5q7
        case hyg5q7 =>
          intro W hW
          go_simp
          exact rfl
        simp only [List.getElem_toArray, List.getElem_cons_succ, List.getElem_cons_zero, Act.put, List.setIfInBounds_toArray, List.set_cons_zero, List.set_cons_succ]
        refine but_run (i := 9) (by kernel_rfl) rfl (by rfl) ?_
        simp only [List.getElem_toArray, List.getElem_cons_succ, List.getElem_cons_zero]
        intro K HK
        obtain ⟨y0, y1, y2⟩ := box2 QB.out
        go_wp2_with fail
        have hSg5q5 : (fun V => Below w0.heap.size w0 V) ((Vg5q4.setCell ⟨pb, 0, none⟩ (.slice AP rl.length cP)).setCell ⟨pb, 1, none⟩ (.slice BP rt.length dP)) := ((hSg5q4).setCell (p := ⟨pb, 0, none⟩) hpb2 _).setCell (p := ⟨pb, 1, none⟩) hpb2 _
        refine HK.out _ _ (fun _ => hSg5q5) ?_
        clear HK
        have QB2 := Lib.hid (box_set (i := 1) (u := .slice BP rt.length dP) (box_set (i := 0) (u := .slice AP rl.length cP) QB.out))
        have OP2 := Lib.hid (OP.out.keep (w' := (Vg5q4.setCell ⟨pb, 0, none⟩ (.slice AP rl.length cP)).setCell ⟨pb, 1, none⟩ (.slice BP rt.length dP)) (fun b hb hl => (only_two Vg5q4 pb 0 1 (.slice AP rl.length cP) (.slice BP rt.length dP)).block b hl (fun e => hb.2 e)))
        refine but_run (i := 10) (by kernel_rfl) rfl (by rfl) ?_
        simp only [List.getElem_toArray, List.getElem_cons_succ, List.getElem_cons_zero]
        intro K HK
        go_wp2_with fail
        refine HK.out _ _ (fun h => absurd rfl h) ?_
        clear HK
        refine but_done (by kernel_rfl) ?_
        go_wp2_with fail
        go_meet
        exact ⟨pb, AP, cP, BP, dP, rfl, rfl, hpb2, QB2, OP2, Lib.hid (hSg5q5)⟩
    case rest =>
      obtain ⟨pbS, AS, cS, BS, dS, rfl, rfl, hpbS, QS, OS, BX⟩ := hcut
      obtain ⟨w1, rfl⟩ : ∃ W, W = wc := ⟨_, rfl⟩
      replace QN := Lib.hid (box_on QN.out BX.out)
      replace QK := Lib.hid (box_on QK.out BX.out)
      replace BB := Lib.hid (bstep BB.out BX.out)
      have zw1 := BX.out.size
      have lS := (Array.getElem?_eq_some_iff.1 QS.out).1
      replace OS := Lib.hid OS.out.lt
      clear BX
      clear d0
      obtain ⟨N0, N1, N2⟩ := box2 QN.out
      obtain ⟨K0, K1, K2, K3, K4, K5⟩ := box5 QK.out
      obtain ⟨S0, S1, S2⟩ := box2 QS.out
      go_wp2_with fail
      refine (HT.out _ BB.out).mono ?_
      clear N0 N1 N2 K0 K1 K2 K3 K4 K5 S0 S1 S2
      rintro r w2 ⟨vlX, vnX, rfl, o, b⟩
      have zX := b.size
      replace OS := Lib.hid (OS.out.on b)
      replace QN := Lib.hid (box_on QN.out b)
      replace QK := Lib.hid (box_on QK.out b)
      replace QS := Lib.hid (box_on QS.out b)
      replace BB := Lib.hid (bstep BB.out b)
      have OX := Lib.hid o.c.lt
      clear o b
      obtain ⟨AX, cX, BX, dX, rfl, rfl⟩ := OX.out.reads.shape
      have ba := bal1 w2 (.cells #[.slice AX lo.length cX, .slice BX ts.length dX] 27)
      have QX := Lib.hid (al1 w2 (.cells #[.slice AX lo.length cX, .slice BX ts.length dX] 27))
      have hw3 : (w2.alloc (.cells #[.slice AX lo.length cX, .slice BX ts.length dX] 27)).heap.size = w2.heap.size + 1 := by simp
      replace OS := Lib.hid (OS.out.on ba)
      replace OX := Lib.hid (OX.out.on ba)
      replace QN := Lib.hid (box_on QN.out ba)
      replace QK := Lib.hid (box_on QK.out ba)
      replace QS := Lib.hid (box_on QS.out ba)
      replace BB := Lib.hid (bstep BB.out ba)
      clear ba
      have yw3 := Lib.hid hw3
      clear hw3
      obtain ⟨N0, N1, N2⟩ := box2 QN.out
      obtain ⟨K0, K1, K2, K3, K4, K5⟩ := box5 QK.out
      obtain ⟨S0, S1, S2⟩ := box2 QS.out
      go_upto_region 7 with (fail)
      clear N0 N1 N2 K0 K1 K2 K3 K4 K5 S0 S1 S2
      generalize w2.alloc (.cells #[.slice AX lo.length cX, .slice BX ts.length dX] 27) = w3 at *
      have xw3 := Nat.le_of_eq yw3.out
      have uw3 := Nat.le_of_eq yw3.out.symm
      clear yw3
      go_upto_region 7 with (fail)
      go_cut [9, 10] (fun s6 s7 wx => ∃ (pb : Nat) (AP : Option Addr) (cP : Nat) (BP : Option Addr) (dP : Nat), s6 = .pointer (some ⟨pb, 0, none⟩) ∧ s7 = .bool RB ∧ w3.heap.size ≤ pb ∧ Hid (wx.heap[pb]? = some (.cells #[.slice AP rl.length cP, .slice BP rt.length dP] 27 (0, 0))) ∧ Hid (TreeC wx (fun b => w3.heap.size ≤ b ∧ b ≠ pb) (.slice AP rl.length cP) (.slice BP rt.length dP) rl rt) ∧ Hid (Below w3.heap.size w3 wx))
      case first =>
        refine but_begin (f := 9) (S := fun V => Below w3.heap.size w3 V) (by kernel_rfl) ?_
        have hS0g7 : Below w3.heap.size w3 w3.drew := Below.drew1 _
        generalize w3.drew = Udg7 at *
        refine but_take (f := 9) (i := 0) (v := ?vg70) rfl (by kernel_rfl) (by kernel_rfl) (by kernel_rfl) (by kernel_rfl) (by kernel_rfl) (fun _ _ _ h => h) (Or.inl ⟨(by rfl), ?hyg70⟩) hS0g7 ?restg70
        case hyg70 =>
          intro W hW
          obtain ⟨X0, X1, X2⟩ := box2 (box_on QX.out hW)
          go_simp
          exact rfl
        simp only [List.getElem_toArray, List.getElem_cons_succ, List.getElem_cons_zero, Act.put, List.setIfInBounds_toArray, List.set_cons_zero, List.set_cons_succ]
        refine but_take (f := 9) (i := 1) (v := ?vg71) rfl (by kernel_rfl) (by kernel_rfl) (by kernel_rfl) (by kernel_rfl) (by kernel_rfl) (fun _ _ _ h => h) (Or.inl ⟨(by rfl), ?hyg71⟩) hS0g7 ?restg71
        case hyg71 =>
          intro W hW
          obtain ⟨K0, K1, K2, K3, K4, K5⟩ := box5 (box_on QK.out hW)
          go_simp
          exact rfl
        simp only [List.getElem_toArray, List.getElem_cons_succ, List.getElem_cons_zero, Act.put, List.setIfInBounds_toArray, List.set_cons_zero, List.set_cons_succ]
        refine but_two (i := 2) (j := 7) (by kernel_rfl) rfl rfl (by rfl) (by rfl) ?_ ?_
        · simp only [List.getElem_toArray, List.getElem_cons_succ, List.getElem_cons_zero]
          intro K HK
          go_wp2_with fail
          refine (HKY.out _).mono ?_
          rintro r Vg7p1 ⟨rfl, hbg7p1⟩
          go_wp2_with fail
          have hSg7p1 : (fun V => Below w3.heap.size w3 V) Vg7p1 := bstep hS0g7 hbg7p1
          refine HK.out _ _ (fun _ => hSg7p1) ?_
          clear HK
          have hkg7p1 := hbg7p1.size
          refine but_two (i := 3) (j := 7) (by kernel_rfl) rfl rfl (by rfl) (by rfl) ?_ ?_
          · simp only [List.getElem_toArray, List.getElem_cons_succ, List.getElem_cons_zero]
            intro K HK
            go_wp2_with fail
            refine (HPI.out _ _ _ (OX.out.on hSg7p1).reads).mono ?_
            rintro r Vg7pp2 ⟨vlP, vnP, rfl, oP, hbg7pp2⟩
            obtain ⟨AP, cP, BP, dP, rfl, rfl⟩ := oP.reads.shape
            go_wp2_with fail
            have hSg7pp2 : (fun V => Below w3.heap.size w3 V) Vg7pp2 := bstep hSg7p1 hbg7pp2
            refine HK.out _ _ (fun _ => hSg7pp2) ?_
            clear HK
            have OP := Lib.hid (oP.lt.mono (T := fun b => w3.heap.size ≤ b) (fun b hb => Nat.le_trans (hSg7p1).size hb.1))
            clear oP
            refine but_take (f := 9) (i := 4) (v := ?vg7pp4) rfl (by kernel_rfl) (by kernel_rfl) (by kernel_rfl) (by kernel_rfl) (by kernel_rfl) (fun _ _ _ h => h) (Or.inl ⟨(by rfl), ?hyg7pp4⟩) hSg7pp2 ?restg7pp4
            case hyg7pp4 =>
              intro W hW
              go_simp
              exact rfl
            simp only [List.getElem_toArray, List.getElem_cons_succ, List.getElem_cons_zero, Act.put, List.setIfInBounds_toArray, List.set_cons_zero, List.set_cons_succ]
            refine but_take (f := 9) (i := 5) (v := ?vg7pp5) rfl (by kernel_rfl) (by kernel_rfl) (by kernel_rfl) (by kernel_rfl) (by kernel_rfl) (fun _ _ _ h => h) (Or.inl ⟨(by rfl), ?hyg7pp5⟩) hSg7pp2 ?restg7pp5
            case hyg7pp5 =>
              intro W hW
              go_simp
              exact rfl
            simp only [List.getElem_toArray, List.getElem_cons_succ, List.getElem_cons_zero, Act.put, List.setIfInBounds_toArray, List.set_cons_zero, List.set_cons_succ]
            refine but_take (f := 9) (i := 6) (v := ?vg7pp6) rfl (by kernel_rfl) (by kernel_rfl) (by kernel_rfl) (by kernel_rfl) (by kernel_rfl) (fun _ _ _ h => h) (Or.inl ⟨(by rfl), ?hyg7pp6⟩) hSg7pp2 ?restg7pp6
            case hyg7pp6 =>
              intro W hW
              go_simp
              exact rfl
            simp only [List.getElem_toArray, List.getElem_cons_succ, List.getElem_cons_zero, Act.put, List.setIfInBounds_toArray, List.set_cons_zero, List.set_cons_succ]
            refine but_run (i := 7) (by kernel_rfl) rfl (by rfl) ?_
            simp only [List.getElem_toArray, List.getElem_cons_succ, List.getElem_cons_zero]
            intro K HK
            go_wp2_with fail
            have hSg7pp3 : (fun V => Below w3.heap.size w3 V) (Vg7pp2.alloc (.cells #[.slice none 0 0, .slice none 0 0] 27)) := bstep hSg7pp2 (bal1 _ _)
            refine HK.out _ _ (fun _ => hSg7pp3) ?_
            clear HK
            have QB := Lib.hid (al1 Vg7pp2 (.cells #[.slice none 0 0, .slice none 0 0] 27))
            obtain ⟨pb, hpb⟩ : ∃ p, Vg7pp2.heap.size = p := ⟨_, rfl⟩
            have hpb2 : w3.heap.size ≤ pb := by rw [← hpb]; exact (hSg7pp2).size
            have hpl : pb < (Vg7pp2.alloc (.cells #[.slice none 0 0, .slice none 0 0] 27)).heap.size := by rw [← hpb]; simp
            replace OP := Lib.hid ((OP.out.lt.on (bal1 Vg7pp2 (.cells #[.slice none 0 0, .slice none 0 0] 27))).mono (T := fun b => w3.heap.size ≤ b ∧ b ≠ pb) (fun b hb => ⟨hb.1, by have := hb.2; omega⟩))
            rw [hpb] at QB ⊢
            clear hpb
            generalize Vg7pp2.alloc (.cells #[.slice none 0 0, .slice none 0 0] 27) = Vng7pp3 at *
            refine but_run (i := 8) (by kernel_rfl) rfl (by rfl) ?_
            simp only [List.getElem_toArray, List.getElem_cons_succ, List.getElem_cons_zero]
            intro K HK
            obtain ⟨y0, y1, y2⟩ := box2 QB.out
            go_wp2_with fail
            have hSg7pp4 : (fun V => Below w3.heap.size w3 V) ((Vng7pp3.setCell ⟨pb, 0, none⟩ (.slice AP rl.length cP)).setCell ⟨pb, 1, none⟩ (.slice BP rt.length dP)) := ((hSg7pp3).setCell (p := ⟨pb, 0, none⟩) hpb2 _).setCell (p := ⟨pb, 1, none⟩) hpb2 _
            refine HK.out _ _ (fun _ => hSg7pp4) ?_
            clear HK
            have QB2 := Lib.hid (box_set (i := 1) (u := .slice BP rt.length dP) (box_set (i := 0) (u := .slice AP rl.length cP) QB.out))
            have OP2 := Lib.hid (OP.out.keep (w' := (Vng7pp3.setCell ⟨pb, 0, none⟩ (.slice AP rl.length cP)).setCell ⟨pb, 1, none⟩ (.slice BP rt.length dP)) (fun b hb hl => (only_two Vng7pp3 pb 0 1 (.slice AP rl.length cP) (.slice BP rt.length dP)).block b hl (fun e => hb.2 e)))
            refine but_run (i := 9) (by kernel_rfl) rfl (by rfl) ?_
            simp only [List.getElem_toArray, List.getElem_cons_succ, List.getElem_cons_zero]
            intro K HK
            go_wp2_with fail
            refine HK.out _ _ (fun h => absurd rfl h) ?_
            clear HK
            refine but_done (by kernel_rfl) ?_
            go_wp2_with fail
            go_meet
            exact ⟨pb, AP, cP, BP, dP, rfl, rfl, hpb2, QB2, OP2, Lib.hid (hSg7pp4)⟩
          · simp only [List.getElem_toArray, List.getElem_cons_succ, List.getElem_cons_zero]
            intro K HK
            go_wp2_with fail
            have hSg7pq2 : (fun V => Below w3.heap.size w3 V) (Vg7p1.alloc (.cells #[.slice none 0 0, .slice none 0 0] 27)) := bstep hSg7p1 (bal1 _ _)
            refine HK.out _ _ (fun _ => hSg7pq2) ?_
            clear HK
            have QB := Lib.hid (al1 Vg7p1 (.cells #[.slice none 0 0, .slice none 0 0] 27))
            obtain ⟨pb, hpb⟩ : ∃ p, Vg7p1.heap.size = p := ⟨_, rfl⟩
            have hpb2 : w3.heap.size ≤ pb := by rw [← hpb]; exact (hSg7p1).size
            have hpl : pb < (Vg7p1.alloc (.cells #[.slice none 0 0, .slice none 0 0] 27)).heap.size := by rw [← hpb]; simp
            rw [hpb] at QB ⊢
            clear hpb
            generalize Vg7p1.alloc (.cells #[.slice none 0 0, .slice none 0 0] 27) = Vng7pq2 at *
            refine but_run (i := 3) (by kernel_rfl) rfl (by rfl) ?_
            simp only [List.getElem_toArray, List.getElem_cons_succ, List.getElem_cons_zero]
            intro K HK
            go_wp2_with fail
            refine (HPI.out _ _ _ (OX.out.on hSg7pq2).reads).mono ?_
            rintro r Vg7pq3 ⟨vlP, vnP, rfl, oP, hbg7pq3⟩
            obtain ⟨AP, cP, BP, dP, rfl, rfl⟩ := oP.reads.shape
            go_wp2_with fail
            have hSg7pq3 : (fun V => Below w3.heap.size w3 V) Vg7pq3 := bstep hSg7pq2 hbg7pq3
            refine HK.out _ _ (fun _ => hSg7pq3) ?_
            clear HK
            have OP := Lib.hid (oP.lt.mono (T := fun b => w3.heap.size ≤ b ∧ b ≠ pb) (fun b hb => ⟨Nat.le_trans (hSg7pq2).size hb.1, by have := hb.1; omega⟩))
            clear oP
            replace QB := Lib.hid (box_on QB.out hbg7pq3)
            replace hpl : pb < Vg7pq3.heap.size := Nat.lt_of_lt_of_le hpl hbg7pq3.size
            refine but_take (f := 9) (i := 4) (v := ?vg7pq4) rfl (by kernel_rfl) (by kernel_rfl) (by kernel_rfl) (by kernel_rfl) (by kernel_rfl) (fun _ _ _ h => h) (Or.inl ⟨(by rfl), ?hyg7pq4⟩) hSg7pq3 ?restg7pq4
            case hyg7pq4 =>
              intro W hW
              go_simp
              exact rfl
            simp only [List.getElem_toArray, List.getElem_cons_succ, List.getElem_cons_zero, Act.put, List.setIfInBounds_toArray, List.set_cons_zero, List.set_cons_succ]
            refine but_take (f := 9) (i := 5) (v := ?vg7pq5) rfl (by kernel_rfl) (by kernel_rfl) (by kernel_rfl) (by kernel_rfl) (by kernel_rfl) (fun _ _ _ h => h) (Or.inl ⟨(by rfl), ?hyg7pq5⟩) hSg7pq3 ?restg7pq5
            case hyg7pq5 =>
              intro W hW
              go_simp
              exact rfl
            simp only [List.getElem_toArray, List.getElem_cons_succ, List.getElem_cons_zero, Act.put, List.setIfInBounds_toArray, List.set_cons_zero, List.set_cons_succ]
            refine but_take (f := 9) (i := 6) (v := ?vg7pq6) rfl (by kernel_rfl) (by kernel_rfl) (by kernel_rfl) (by kernel_rfl) (by kernel_rfl) (fun _ _ _ h => h) (Or.inl ⟨(by rfl), ?hyg7pq6⟩) hSg7pq3 ?restg7pq6
            case hyg7pq6 =>
              intro W hW
              go_simp
              exact rfl
            simp only [List.getElem_toArray, List.getElem_cons_succ, List.getElem_cons_zero, Act.put, List.setIfInBounds_toArray, List.set_cons_zero, List.set_cons_succ]
            refine but_run (i := 8) (by kernel_rfl) rfl (by rfl) ?_
            simp only [List.getElem_toArray, List.getElem_cons_succ, List.getElem_cons_zero]
            intro K HK
            obtain ⟨y0, y1, y2⟩ := box2 QB.out
            go_wp2_with fail
            have hSg7pq4 : (fun V => Below w3.heap.size w3 V) ((Vg7pq3.setCell ⟨pb, 0, none⟩ (.slice AP rl.length cP)).setCell ⟨pb, 1, none⟩ (.slice BP rt.length dP)) := ((hSg7pq3).setCell (p := ⟨pb, 0, none⟩) hpb2 _).setCell (p := ⟨pb, 1, none⟩) hpb2 _
            refine HK.out _ _ (fun _ => hSg7pq4) ?_
            clear HK
            have QB2 := Lib.hid (box_set (i := 1) (u := .slice BP rt.length dP) (box_set (i := 0) (u := .slice AP rl.length cP) QB.out))
            have OP2 := Lib.hid (OP.out.keep (w' := (Vg7pq3.setCell ⟨pb, 0, none⟩ (.slice AP rl.length cP)).setCell ⟨pb, 1, none⟩ (.slice BP rt.length dP)) (fun b hb hl => (only_two Vg7pq3 pb 0 1 (.slice AP rl.length cP) (.slice BP rt.length dP)).block b hl (fun e => hb.2 e)))
            refine but_run (i := 9) (by kernel_rfl) rfl (by rfl) ?_
            simp only [List.getElem_toArray, List.getElem_cons_succ, List.getElem_cons_zero]
            intro K HK
            go_wp2_with fail
            refine HK.out _ _ (fun h => absurd rfl h) ?_
            clear HK
            refine but_done (by kernel_rfl) ?_
            go_wp2_with fail
            go_meet
            exact ⟨pb, AP, cP, BP, dP, rfl, rfl, hpb2, QB2, OP2, Lib.hid (hSg7pq4)⟩
        · simp only [List.getElem_toArray, List.getElem_cons_succ, List.getElem_cons_zero]
          intro K HK
          go_wp2_with fail
          have hSg7q1 : (fun V => Below w3.heap.size w3 V) (Udg7.alloc (.cells #[.slice none 0 0, .slice none 0 0] 27)) := bstep hS0g7 (bal1 _ _)
          refine HK.out _ _ (fun _ => hSg7q1) ?_
          clear HK
          have QB := Lib.hid (al1 Udg7 (.cells #[.slice none 0 0, .slice none 0 0] 27))
          obtain ⟨pb, hpb⟩ : ∃ p, Udg7.heap.size = p := ⟨_, rfl⟩
          have hpb2 : w3.heap.size ≤ pb := by rw [← hpb]; exact (hS0g7).size
          have hpl : pb < (Udg7.alloc (.cells #[.slice none 0 0, .slice none 0 0] 27)).heap.size := by rw [← hpb]; simp
          rw [hpb] at QB ⊢
          clear hpb
          generalize Udg7.alloc (.cells #[.slice none 0 0, .slice none 0 0] 27) = Vng7q1 at *
          refine but_run (i := 2) (by kernel_rfl) rfl (by rfl) ?_
          simp only [List.getElem_toArray, List.getElem_cons_succ, List.getElem_cons_zero]
          intro K HK
          go_wp2_with fail
          refine (HKY.out _).mono ?_
          rintro r Vg7q2 ⟨rfl, hbg7q2⟩
          go_wp2_with fail
          have hSg7q2 : (fun V => Below w3.heap.size w3 V) Vg7q2 := bstep hSg7q1 hbg7q2
          refine HK.out _ _ (fun _ => hSg7q2) ?_
          clear HK
          have hkg7q2 := hbg7q2.size
          replace QB := Lib.hid (box_on QB.out hbg7q2)
          replace hpl : pb < Vg7q2.heap.size := Nat.lt_of_lt_of_le hpl hbg7q2.size
          refine but_run (i := 3) (by kernel_rfl) rfl (by rfl) ?_
          simp only [List.getElem_toArray, List.getElem_cons_succ, List.getElem_cons_zero]
          intro K HK
          go_wp2_with fail
          refine (HPI.out _ _ _ (OX.out.on hSg7q2).reads).mono ?_
          rintro r Vg7q3 ⟨vlP, vnP, rfl, oP, hbg7q3⟩
          obtain ⟨AP, cP, BP, dP, rfl, rfl⟩ := oP.reads.shape
          go_wp2_with fail
          have hSg7q3 : (fun V => Below w3.heap.size w3 V) Vg7q3 := bstep hSg7q2 hbg7q3
          refine HK.out _ _ (fun _ => hSg7q3) ?_
          clear HK
          have OP := Lib.hid (oP.lt.mono (T := fun b => w3.heap.size ≤ b ∧ b ≠ pb) (fun b hb => ⟨Nat.le_trans (hSg7q2).size hb.1, by have := hb.1; omega⟩))
          clear oP
          replace QB := Lib.hid (box_on QB.out hbg7q3)
          replace hpl : pb < Vg7q3.heap.size := Nat.lt_of_lt_of_le hpl hbg7q3.size
          refine but_take (f := 9) (i := 4) (v := ?vg7q4) rfl (by kernel_rfl) (by kernel_rfl) (by kernel_rfl) (by kernel_rfl) (by kernel_rfl) (fun _ _ _ h => h) (Or.inl ⟨(by rfl), ?hyg7q4⟩) hSg7q3 ?restg7q4
          case hyg7q4 =>
            intro W hW
            go_simp
            exact rfl
          simp only [List.getElem_toArray, List.getElem_cons_succ, List.getElem_cons_zero, Act.put, List.setIfInBounds_toArray, List.set_cons_zero, List.set_cons_succ]
          refine but_take (f := 9) (i := 5) (v := ?vg7q5) rfl (by kernel_rfl) (by kernel_rfl) (by kernel_rfl) (by kernel_rfl) (by kernel_rfl) (fun _ _ _ h => h) (Or.inl ⟨(by rfl), ?hyg7q5⟩) hSg7q3 ?restg7q5
          case hyg7q5 =>
            intro W hW
            go_simp
            exact rfl
          simp only [List.getElem_toArray, List.getElem_cons_succ, List.getElem_cons_zero, Act.put, List.setIfInBounds_toArray, List.set_cons_zero, List.set_cons_succ]
          refine but_take (f := 9) (i := 6) (v := ?vg7q6) rfl (by kernel_rfl) (by kernel_rfl) (by kernel_rfl) (by kernel_rfl) (by kernel_rfl) (fun _ _ _ h => h) (Or.inl ⟨(by rfl), ?hyg7q6⟩) hSg7q3 ?restg7q6
          case hyg7q6 =>
            intro W hW
            go_simp
            exact rfl
          simp only [List.getElem_toArray, List.getElem_cons_succ, List.getElem_cons_zero, Act.put, List.setIfInBounds_toArray, List.set_cons_zero, List.set_cons_succ]
          refine but_run (i := 8) (by kernel_rfl) rfl (by rfl) ?_
          simp only [List.getElem_toArray, List.getElem_cons_succ, List.getElem_cons_zero]
          intro K HK
          obtain ⟨y0, y1, y2⟩ := box2 QB.out
          go_wp2_with fail
          have hSg7q4 : (fun V => Below w3.heap.size w3 V) ((Vg7q3.setCell ⟨pb, 0, none⟩ (.slice AP rl.length cP)).setCell ⟨pb, 1, none⟩ (.slice BP rt.length dP)) := ((hSg7q3).setCell (p := ⟨pb, 0, none⟩) hpb2 _).setCell (p := ⟨pb, 1, none⟩) hpb2 _
          refine HK.out _ _ (fun _ => hSg7q4) ?_
          clear HK
          have QB2 := Lib.hid (box_set (i := 1) (u := .slice BP rt.length dP) (box_set (i := 0) (u := .slice AP rl.length cP) QB.out))
          have OP2 := Lib.hid (OP.out.keep (w' := (Vg7q3.setCell ⟨pb, 0, none⟩ (.slice AP rl.length cP)).setCell ⟨pb, 1, none⟩ (.slice BP rt.length dP)) (fun b hb hl => (only_two Vg7q3 pb 0 1 (.slice AP rl.length cP) (.slice BP rt.length dP)).block b hl (fun e => hb.2 e)))
          refine but_run (i := 9) (by kernel_rfl) rfl (by rfl) ?_
          simp only [List.getElem_toArray, List.getElem_cons_succ, List.getElem_cons_zero]
          intro K HK
          go_wp2_with fail
          refine HK.out _ _ (fun h => absurd rfl h) ?_
          clear HK
          refine but_done (by kernel_rfl) ?_
          go_wp2_with fail
          go_meet
          exact ⟨pb, AP, cP, BP, dP, rfl, rfl, hpb2, QB2, OP2, Lib.hid (hSg7q4)⟩
      case rest =>
        obtain ⟨pbG, AG, cG, BG, dG, rfl, rfl, hpbG, QG, OG, BX⟩ := hcut
        obtain ⟨w4, rfl⟩ : ∃ W, W = wc := ⟨_, rfl⟩
        replace OS := Lib.hid (OS.out.on BX.out)
        replace OX := Lib.hid (OX.out.on BX.out)
        replace QN := Lib.hid (box_on QN.out BX.out)
        replace QK := Lib.hid (box_on QK.out BX.out)
        replace QS := Lib.hid (box_on QS.out BX.out)
        replace QX := Lib.hid (box_on QX.out BX.out)
        replace BB := Lib.hid (bstep BB.out BX.out)
        have zw4 := BX.out.size
        have lG := (Array.getElem?_eq_some_iff.1 QG.out).1
        replace OG := Lib.hid OG.out.lt
        clear BX
        obtain ⟨N0, N1, N2⟩ := box2 QN.out
        obtain ⟨K0, K1, K2, K3, K4, K5⟩ := box5 QK.out
        obtain ⟨S0, S1, S2⟩ := box2 QS.out
        obtain ⟨X0, X1, X2⟩ := box2 QX.out
        obtain ⟨G0, G1, G2⟩ := box2 QG.out
        go_wp2_with fail
        refine (eqTree_same _ _ _ _ rl rt _ OG.out.reads OS.out.reads hsR.out).mono ?_
        clear N0 N1 N2 K0 K1 K2 K3 K4 K5 S0 S1 S2 X0 X1 X2 G0 G1 G2
        rintro r w5 ⟨rfl, b⟩
        have z5 := b.size
        replace OS := Lib.hid (OS.out.on b)
        replace OX := Lib.hid (OX.out.on b)
        replace OG := Lib.hid (OG.out.on b)
        replace QN := Lib.hid (box_on QN.out b)
        replace QK := Lib.hid (box_on QK.out b)
        replace QS := Lib.hid (box_on QS.out b)
        replace QX := Lib.hid (box_on QX.out b)
        replace QG := Lib.hid (box_on QG.out b)
        replace BB := Lib.hid (bstep BB.out b)
        clear b
        obtain ⟨N0, N1, N2⟩ := box2 QN.out
        obtain ⟨K0, K1, K2, K3, K4, K5⟩ := box5 QK.out
        obtain ⟨S0, S1, S2⟩ := box2 QS.out
        obtain ⟨X0, X1, X2⟩ := box2 QX.out
        obtain ⟨G0, G1, G2⟩ := box2 QG.out
        go_upto_region 10 with (fail)
        go_region_held3 (fun V => V.cell? ⟨w.heap.size, 0, none⟩ = some (.slice A lo.length c) ∧ V.cell? ⟨w.heap.size, 1, none⟩ = some (.slice B ts.length d) ∧ V.cell? ⟨w.heap.size + 1, 0, none⟩ = some (.int .i64 x.a) ∧ V.cell? ⟨w.heap.size + 1, 1, none⟩ = some (.int .i64 x.b) ∧ V.cell? ⟨w.heap.size + 1, 2, none⟩ = some (.int .i64 x.c) ∧ V.cell? ⟨w.heap.size + 1, 3, none⟩ = some (.int .i64 x.d) ∧ V.cell? ⟨w.heap.size + 1, 4, none⟩ = some (.int .i64 x.e) ∧ V.cell? ⟨pbS, 0, none⟩ = some (.slice AS rl.length cS) ∧ V.cell? ⟨pbS, 1, none⟩ = some (.slice BS rt.length dS) ∧ V.cell? ⟨w2.heap.size, 0, none⟩ = some (.slice AX lo.length cX) ∧ V.cell? ⟨w2.heap.size, 1, none⟩ = some (.slice BX ts.length dX) ∧ V.cell? ⟨pbG, 0, none⟩ = some (.slice AG rl.length cG) ∧ V.cell? ⟨pbG, 1, none⟩ = some (.slice BG rt.length dG))
          (first | with_reducible exact ⟨(box2 (box_on QN.out (bstep (bstep (Below.drew1 _) b1p5) b2p5))).1, (box2 (box_on QN.out (bstep (bstep (Below.drew1 _) b1p5) b2p5))).2.1, (box5 (box_on QK.out (bstep (bstep (Below.drew1 _) b1p5) b2p5))).1, (box5 (box_on QK.out (bstep (bstep (Below.drew1 _) b1p5) b2p5))).2.1, (box5 (box_on QK.out (bstep (bstep (Below.drew1 _) b1p5) b2p5))).2.2.1, (box5 (box_on QK.out (bstep (bstep (Below.drew1 _) b1p5) b2p5))).2.2.2.1, (box5 (box_on QK.out (bstep (bstep (Below.drew1 _) b1p5) b2p5))).2.2.2.2.1, (box2 (box_on QS.out (bstep (bstep (Below.drew1 _) b1p5) b2p5))).1, (box2 (box_on QS.out (bstep (bstep (Below.drew1 _) b1p5) b2p5))).2.1, (box2 (box_on QX.out (bstep (bstep (Below.drew1 _) b1p5) b2p5))).1, (box2 (box_on QX.out (bstep (bstep (Below.drew1 _) b1p5) b2p5))).2.1, (box2 (box_on QG.out (bstep (bstep (Below.drew1 _) b1p5) b2p5))).1, (box2 (box_on QG.out (bstep (bstep (Below.drew1 _) b1p5) b2p5))).2.1⟩ | with_reducible exact ⟨(box2 (box_on QN.out (bstep (Below.drew1 _) b1p5))).1, (box2 (box_on QN.out (bstep (Below.drew1 _) b1p5))).2.1, (box5 (box_on QK.out (bstep (Below.drew1 _) b1p5))).1, (box5 (box_on QK.out (bstep (Below.drew1 _) b1p5))).2.1, (box5 (box_on QK.out (bstep (Below.drew1 _) b1p5))).2.2.1, (box5 (box_on QK.out (bstep (Below.drew1 _) b1p5))).2.2.2.1, (box5 (box_on QK.out (bstep (Below.drew1 _) b1p5))).2.2.2.2.1, (box2 (box_on QS.out (bstep (Below.drew1 _) b1p5))).1, (box2 (box_on QS.out (bstep (Below.drew1 _) b1p5))).2.1, (box2 (box_on QX.out (bstep (Below.drew1 _) b1p5))).1, (box2 (box_on QX.out (bstep (Below.drew1 _) b1p5))).2.1, (box2 (box_on QG.out (bstep (Below.drew1 _) b1p5))).1, (box2 (box_on QG.out (bstep (Below.drew1 _) b1p5))).2.1⟩ | with_reducible exact ⟨(box2 (box_on QN.out (Below.drew1 _))).1, (box2 (box_on QN.out (Below.drew1 _))).2.1, (box5 (box_on QK.out (Below.drew1 _))).1, (box5 (box_on QK.out (Below.drew1 _))).2.1, (box5 (box_on QK.out (Below.drew1 _))).2.2.1, (box5 (box_on QK.out (Below.drew1 _))).2.2.2.1, (box5 (box_on QK.out (Below.drew1 _))).2.2.2.2.1, (box2 (box_on QS.out (Below.drew1 _))).1, (box2 (box_on QS.out (Below.drew1 _))).2.1, (box2 (box_on QX.out (Below.drew1 _))).1, (box2 (box_on QX.out (Below.drew1 _))).2.1, (box2 (box_on QG.out (Below.drew1 _))).1, (box2 (box_on QG.out (Below.drew1 _))).2.1⟩ | exact ⟨N0, N1, K0, K1, K2, K3, K4, S0, S1, X0, X1, G0, G1⟩ | fail)
          (first
            | (go_at_call 34; refine (eqTree_same _ _ _ _ lo ts _ (OX.out.on (bstep (Below.drew1 _) b1p5)).reads oop5.reads hs.out).mono ?_; rintro r u2p5 ⟨rfl, b2p5⟩)
            | (go_at_call 32; refine (HT.out _ (bstep BB.out (Below.drew1 _))).mono ?_; rintro r u1p5 ⟨vvlp5, vvnp5, rfl, oop5, b1p5⟩; obtain ⟨AAp5, ccp5, BBp5, ddp5, rfl, rfl⟩ := oop5.reads.shape)
            | fail)
        clear N0 N1 N2 K0 K1 K2 K3 K4 K5 S0 S1 S2 X0 X1 X2 G0 G1 G2
        have b := bstep (bstep (Below.drew1 _) b1p5) b2p5
        have zp5 := b.size
        replace OS := Lib.hid (OS.out.on b)
        replace OX := Lib.hid (OX.out.on b)
        replace OG := Lib.hid (OG.out.on b)
        replace QN := Lib.hid (box_on QN.out b)
        replace QK := Lib.hid (box_on QK.out b)
        replace QS := Lib.hid (box_on QS.out b)
        replace QX := Lib.hid (box_on QX.out b)
        replace QG := Lib.hid (box_on QG.out b)
        replace BB := Lib.hid (bstep BB.out b)
        clear b b1p5 b2p5 oop5
        obtain ⟨N0, N1, N2⟩ := box2 QN.out
        obtain ⟨K0, K1, K2, K3, K4, K5⟩ := box5 QK.out
        obtain ⟨S0, S1, S2⟩ := box2 QS.out
        obtain ⟨X0, X1, X2⟩ := box2 QX.out
        obtain ⟨G0, G1, G2⟩ := box2 QG.out
        go_wp2_with fail
        refine (markTree_any _ _ _ lo ts 1 _ OX.out (fun b hb => by omega) hs.out (by omega) (by omega)).mono ?_
        clear N0 N1 N2 K0 K1 K2 K3 K4 K5 S0 S1 S2 X0 X1 X2 G0 G1 G2
        rintro r w6 ⟨rfl, o, g⟩
        have z6 := g.size
        replace OS := Lib.hid (OS.out.far g (fun b hb _ hb' => by omega))
        replace OG := Lib.hid (OG.out.far g (fun b hb _ hb' => by omega))
        replace QN := Lib.hid (box_only QN.out g (fun hb => by omega))
        replace QK := Lib.hid (box_only QK.out g (fun hb => by omega))
        replace QS := Lib.hid (box_only QS.out g (fun hb => by omega))
        replace QX := Lib.hid (box_only QX.out g (fun hb => by omega))
        replace QG := Lib.hid (box_only QG.out g (fun hb => by omega))
        replace BB := Lib.hid (BB.out.trans (g.below BB.out.size (fun b hb => by omega)))
        replace OX := Lib.hid o
        clear o g
        have d1 : decide (markEnd 1 lo ts < 0) = false := decide_eq_false (by have := (markEnd_le hs.out (k := 1) (by omega) (by omega)).1; omega)
        clear OX
        clear QX
        generalize markEnd 1 lo ts = me at *
        obtain ⟨N0, N1, N2⟩ := box2 QN.out
        obtain ⟨K0, K1, K2, K3, K4, K5⟩ := box5 QK.out
        obtain ⟨S0, S1, S2⟩ := box2 QS.out
        obtain ⟨G0, G1, G2⟩ := box2 QG.out
        go_wp2_with fail
        refine (eqTree_same _ _ _ _ rl rt _ OG.out.reads OS.out.reads hsR.out).mono ?_
        clear N0 N1 N2 K0 K1 K2 K3 K4 K5 S0 S1 S2 G0 G1 G2
        rintro r w7 ⟨rfl, b⟩
        have z7 := b.size
        replace OS := Lib.hid (OS.out.on b)
        replace OG := Lib.hid (OG.out.on b)
        replace QN := Lib.hid (box_on QN.out b)
        replace QK := Lib.hid (box_on QK.out b)
        replace QS := Lib.hid (box_on QS.out b)
        replace QG := Lib.hid (box_on QG.out b)
        replace BB := Lib.hid (bstep BB.out b)
        clear b
        clear d1
        obtain ⟨N0, N1, N2⟩ := box2 QN.out
        obtain ⟨K0, K1, K2, K3, K4, K5⟩ := box5 QK.out
        obtain ⟨S0, S1, S2⟩ := box2 QS.out
        obtain ⟨G0, G1, G2⟩ := box2 QG.out
        go_wp2_with fail
        refine (markTree_any _ _ _ rl rt 1 _ OG.out (fun b hb => by omega) hsR.out (by omega) (by omega)).mono ?_
        clear N0 N1 N2 K0 K1 K2 K3 K4 K5 S0 S1 S2 G0 G1 G2
        rintro r w8 ⟨rfl, o, g⟩
        have z8 := g.size
        replace OS := Lib.hid (OS.out.far g (fun b hb _ hb' => by omega))
        replace QN := Lib.hid (box_only QN.out g (fun hb => by omega))
        replace QK := Lib.hid (box_only QK.out g (fun hb => by omega))
        replace QS := Lib.hid (box_only QS.out g (fun hb => by omega))
        replace QG := Lib.hid (box_only QG.out g (fun hb => by omega))
        replace BB := Lib.hid (BB.out.trans (g.below BB.out.size (fun b hb => by omega)))
        replace OG := Lib.hid o
        clear o g
        have hme := markEnd_le hsR.out (k := 1) (by omega) (by omega)
        have d2 : decide (markEnd 1 rl rt < 0) = false := decide_eq_false (by omega)
        have d3 : (markEnd 1 rl rt != markEnd 1 rl rt) = false := by simp
        obtain ⟨mq, hq⟩ : ∃ mq, markEnd 1 rl rt = mq := ⟨_, rfl⟩
        rw [hq] at d2 d3 hme
        rw [hq]
        have HQ := Lib.hid hq
        clear hq
        obtain ⟨N0, N1, N2⟩ := box2 QN.out
        obtain ⟨K0, K1, K2, K3, K4, K5⟩ := box5 QK.out
        obtain ⟨S0, S1, S2⟩ := box2 QS.out
        obtain ⟨G0, G1, G2⟩ := box2 QG.out
        go_wp2_with fail
        refine (heldTree_any _ _ rl rt 1 _ OG.out.reads hsR.out (by omega) (by omega)).mono ?_
        clear N0 N1 N2 K0 K1 K2 K3 K4 K5 S0 S1 S2 G0 G1 G2
        rintro r w9 ⟨rfl, b⟩
        have z9 := b.size
        replace OS := Lib.hid (OS.out.on b)
        replace OG := Lib.hid (OG.out.on b)
        replace QN := Lib.hid (box_on QN.out b)
        replace QK := Lib.hid (box_on QK.out b)
        replace QS := Lib.hid (box_on QS.out b)
        replace QG := Lib.hid (box_on QG.out b)
        replace BB := Lib.hid (bstep BB.out b)
        clear b
        rw [HQ.out]
        go_upto_region 24 with (fail)
        go_cut [14, 15] (fun s6 s7 wx => ∃ (pb : Nat) (AP : Option Addr) (cP : Nat) (BP : Option Addr) (dP : Nat), s6 = .pointer (some ⟨pb, 0, none⟩) ∧ s7 = .bool RB ∧ w9.heap.size ≤ pb ∧ Hid (wx.heap[pb]? = some (.cells #[.slice AP rl.length cP, .slice BP rt.length dP] 27 (0, 0))) ∧ Hid (TreeC wx (fun b => w9.heap.size ≤ b ∧ b ≠ pb) (.slice AP rl.length cP) (.slice BP rt.length dP) rl rt) ∧ Hid (Below w9.heap.size w9 wx))
        case first =>
          refine but_begin (f := 10) (S := fun V => Below w9.heap.size w9 V) (by kernel_rfl) ?_
          have hS0g24 : Below w9.heap.size w9 w9.drew := Below.drew1 _
          generalize w9.drew = Udg24 at *
          refine but_take (f := 10) (i := 0) (v := ?vg240) rfl (by kernel_rfl) (by kernel_rfl) (by kernel_rfl) (by kernel_rfl) (by kernel_rfl) (fun _ _ _ h => h) (Or.inl ⟨(by rfl), ?hyg240⟩) hS0g24 ?restg240
          case hyg240 =>
            intro W hW
            obtain ⟨N0, N1, N2⟩ := box2 (box_on QN.out hW)
            go_simp
            exact rfl
          simp only [List.getElem_toArray, List.getElem_cons_succ, List.getElem_cons_zero, Act.put, List.setIfInBounds_toArray, List.set_cons_zero, List.set_cons_succ]
          refine but_take (f := 10) (i := 2) (v := ?vg242) rfl (by kernel_rfl) (by kernel_rfl) (by kernel_rfl) (by kernel_rfl) (by kernel_rfl) (fun _ _ _ h => h) (Or.inl ⟨(by rfl), ?hyg242⟩) hS0g24 ?restg242
          case hyg242 =>
            intro W hW
            obtain ⟨K0, K1, K2, K3, K4, K5⟩ := box5 (box_on QK.out hW)
            go_simp
            exact rfl
          simp only [List.getElem_toArray, List.getElem_cons_succ, List.getElem_cons_zero, Act.put, List.setIfInBounds_toArray, List.set_cons_zero, List.set_cons_succ]
          refine but_two (i := 1) (j := 8) (by kernel_rfl) rfl rfl (by rfl) (by rfl) ?_ ?_
          · simp only [List.getElem_toArray, List.getElem_cons_succ, List.getElem_cons_zero]
            intro K HK
            go_wp2_with fail
            refine (HT.out _ (bstep BB.out hS0g24)).mono ?_
            rintro r Vg24p1 ⟨vlT, vnT, rfl, oT, hbg24p1⟩
            obtain ⟨AT, cT, BT, dT, rfl, rfl⟩ := oT.reads.shape
            go_wp2_with fail
            have hSg24p1 : (fun V => Below w9.heap.size w9 V) Vg24p1 := bstep hS0g24 hbg24p1
            refine HK.out _ _ (fun _ => hSg24p1) ?_
            clear HK
            have OT := Lib.hid oT.reads
            clear oT
            refine but_two (i := 3) (j := 8) (by kernel_rfl) rfl rfl (by rfl) (by rfl) ?_ ?_
            · simp only [List.getElem_toArray, List.getElem_cons_succ, List.getElem_cons_zero]
              intro K HK
              go_wp2_with fail
              refine (HKY.out _).mono ?_
              rintro r Vg24pp2 ⟨rfl, hbg24pp2⟩
              go_wp2_with fail
              have hSg24pp2 : (fun V => Below w9.heap.size w9 V) Vg24pp2 := bstep hSg24p1 hbg24pp2
              refine HK.out _ _ (fun _ => hSg24pp2) ?_
              clear HK
              have hkg24pp2 := hbg24pp2.size
              replace OT := Lib.hid (OT.out.on hbg24pp2)
              refine but_two (i := 4) (j := 8) (by kernel_rfl) rfl rfl (by rfl) (by rfl) ?_ ?_
              · simp only [List.getElem_toArray, List.getElem_cons_succ, List.getElem_cons_zero]
                intro K HK
                go_wp2_with fail
                refine (HPI.out _ _ _ OT.out).mono ?_
                rintro r Vg24ppp3 ⟨vlP, vnP, rfl, oP, hbg24ppp3⟩
                obtain ⟨AP, cP, BP, dP, rfl, rfl⟩ := oP.reads.shape
                go_wp2_with fail
                have hSg24ppp3 : (fun V => Below w9.heap.size w9 V) Vg24ppp3 := bstep hSg24pp2 hbg24ppp3
                refine HK.out _ _ (fun _ => hSg24ppp3) ?_
                clear HK
                have OP := Lib.hid (oP.lt.mono (T := fun b => w9.heap.size ≤ b) (fun b hb => Nat.le_trans (hSg24pp2).size hb.1))
                clear oP
                refine but_take (f := 10) (i := 5) (v := ?vg24ppp5) rfl (by kernel_rfl) (by kernel_rfl) (by kernel_rfl) (by kernel_rfl) (by kernel_rfl) (fun _ _ _ h => h) (Or.inl ⟨(by rfl), ?hyg24ppp5⟩) hSg24ppp3 ?restg24ppp5
                case hyg24ppp5 =>
                  intro W hW
                  go_simp
                  exact rfl
                simp only [List.getElem_toArray, List.getElem_cons_succ, List.getElem_cons_zero, Act.put, List.setIfInBounds_toArray, List.set_cons_zero, List.set_cons_succ]
                refine but_take (f := 10) (i := 6) (v := ?vg24ppp6) rfl (by kernel_rfl) (by kernel_rfl) (by kernel_rfl) (by kernel_rfl) (by kernel_rfl) (fun _ _ _ h => h) (Or.inl ⟨(by rfl), ?hyg24ppp6⟩) hSg24ppp3 ?restg24ppp6
                case hyg24ppp6 =>
                  intro W hW
                  go_simp
                  exact rfl
                simp only [List.getElem_toArray, List.getElem_cons_succ, List.getElem_cons_zero, Act.put, List.setIfInBounds_toArray, List.set_cons_zero, List.set_cons_succ]
                refine but_take (f := 10) (i := 7) (v := ?vg24ppp7) rfl (by kernel_rfl) (by kernel_rfl) (by kernel_rfl) (by kernel_rfl) (by kernel_rfl) (fun _ _ _ h => h) (Or.inl ⟨(by rfl), ?hyg24ppp7⟩) hSg24ppp3 ?restg24ppp7
                case hyg24ppp7 =>
                  intro W hW
                  go_simp
                  exact rfl
                simp only [List.getElem_toArray, List.getElem_cons_succ, List.getElem_cons_zero, Act.put, List.setIfInBounds_toArray, List.set_cons_zero, List.set_cons_succ]
                refine but_run (i := 8) (by kernel_rfl) rfl (by rfl) ?_
                simp only [List.getElem_toArray, List.getElem_cons_succ, List.getElem_cons_zero]
                intro K HK
                go_wp2_with fail
                have hSg24ppp4 : (fun V => Below w9.heap.size w9 V) (Vg24ppp3.alloc (.cells #[.slice none 0 0, .slice none 0 0] 27)) := bstep hSg24ppp3 (bal1 _ _)
                refine HK.out _ _ (fun _ => hSg24ppp4) ?_
                clear HK
                have QB := Lib.hid (al1 Vg24ppp3 (.cells #[.slice none 0 0, .slice none 0 0] 27))
                obtain ⟨pb, hpb⟩ : ∃ p, Vg24ppp3.heap.size = p := ⟨_, rfl⟩
                have hpb2 : w9.heap.size ≤ pb := by rw [← hpb]; exact (hSg24ppp3).size
                have hpl : pb < (Vg24ppp3.alloc (.cells #[.slice none 0 0, .slice none 0 0] 27)).heap.size := by rw [← hpb]; simp
                replace OP := Lib.hid ((OP.out.lt.on (bal1 Vg24ppp3 (.cells #[.slice none 0 0, .slice none 0 0] 27))).mono (T := fun b => w9.heap.size ≤ b ∧ b ≠ pb) (fun b hb => ⟨hb.1, by have := hb.2; omega⟩))
                rw [hpb] at QB ⊢
                clear hpb
                generalize Vg24ppp3.alloc (.cells #[.slice none 0 0, .slice none 0 0] 27) = Vng24ppp4 at *
                refine but_run (i := 9) (by kernel_rfl) rfl (by rfl) ?_
                simp only [List.getElem_toArray, List.getElem_cons_succ, List.getElem_cons_zero]
                intro K HK
                obtain ⟨y0, y1, y2⟩ := box2 QB.out
                go_wp2_with fail
                have hSg24ppp5 : (fun V => Below w9.heap.size w9 V) ((Vng24ppp4.setCell ⟨pb, 0, none⟩ (.slice AP rl.length cP)).setCell ⟨pb, 1, none⟩ (.slice BP rt.length dP)) := ((hSg24ppp4).setCell (p := ⟨pb, 0, none⟩) hpb2 _).setCell (p := ⟨pb, 1, none⟩) hpb2 _
                refine HK.out _ _ (fun _ => hSg24ppp5) ?_
                clear HK
                have QB2 := Lib.hid (box_set (i := 1) (u := .slice BP rt.length dP) (box_set (i := 0) (u := .slice AP rl.length cP) QB.out))
                have OP2 := Lib.hid (OP.out.keep (w' := (Vng24ppp4.setCell ⟨pb, 0, none⟩ (.slice AP rl.length cP)).setCell ⟨pb, 1, none⟩ (.slice BP rt.length dP)) (fun b hb hl => (only_two Vng24ppp4 pb 0 1 (.slice AP rl.length cP) (.slice BP rt.length dP)).block b hl (fun e => hb.2 e)))
                refine but_run (i := 10) (by kernel_rfl) rfl (by rfl) ?_
                simp only [List.getElem_toArray, List.getElem_cons_succ, List.getElem_cons_zero]
                intro K HK
                go_wp2_with fail
                refine HK.out _ _ (fun h => absurd rfl h) ?_
                clear HK
                refine but_done (by kernel_rfl) ?_
                go_wp2_with fail
                go_meet
                exact ⟨pb, AP, cP, BP, dP, rfl, rfl, hpb2, QB2, OP2, Lib.hid (hSg24ppp5)⟩
              · simp only [List.getElem_toArray, List.getElem_cons_succ, List.getElem_cons_zero]
                intro K HK
                go_wp2_with fail
                have hSg24ppq3 : (fun V => Below w9.heap.size w9 V) (Vg24pp2.alloc (.cells #[.slice none 0 0, .slice none 0 0] 27)) := bstep hSg24pp2 (bal1 _ _)
                refine HK.out _ _ (fun _ => hSg24ppq3) ?_
                clear HK
                have QB := Lib.hid (al1 Vg24pp2 (.cells #[.slice none 0 0, .slice none 0 0] 27))
                obtain ⟨pb, hpb⟩ : ∃ p, Vg24pp2.heap.size = p := ⟨_, rfl⟩
                have hpb2 : w9.heap.size ≤ pb := by rw [← hpb]; exact (hSg24pp2).size
                have hpl : pb < (Vg24pp2.alloc (.cells #[.slice none 0 0, .slice none 0 0] 27)).heap.size := by rw [← hpb]; simp
                replace OT := Lib.hid (OT.out.on (bal1 Vg24pp2 (.cells #[.slice none 0 0, .slice none 0 0] 27)))
                rw [hpb] at QB ⊢
                clear hpb
                generalize Vg24pp2.alloc (.cells #[.slice none 0 0, .slice none 0 0] 27) = Vng24ppq3 at *
                refine but_run (i := 4) (by kernel_rfl) rfl (by rfl) ?_
                simp only [List.getElem_toArray, List.getElem_cons_succ, List.getElem_cons_zero]
                intro K HK
                go_wp2_with fail
                refine (HPI.out _ _ _ OT.out).mono ?_
                rintro r Vg24ppq4 ⟨vlP, vnP, rfl, oP, hbg24ppq4⟩
                obtain ⟨AP, cP, BP, dP, rfl, rfl⟩ := oP.reads.shape
                go_wp2_with fail
                have hSg24ppq4 : (fun V => Below w9.heap.size w9 V) Vg24ppq4 := bstep hSg24ppq3 hbg24ppq4
                refine HK.out _ _ (fun _ => hSg24ppq4) ?_
                clear HK
                have OP := Lib.hid (oP.lt.mono (T := fun b => w9.heap.size ≤ b ∧ b ≠ pb) (fun b hb => ⟨Nat.le_trans (hSg24ppq3).size hb.1, by have := hb.1; omega⟩))
                clear oP
                replace QB := Lib.hid (box_on QB.out hbg24ppq4)
                replace hpl : pb < Vg24ppq4.heap.size := Nat.lt_of_lt_of_le hpl hbg24ppq4.size
                refine but_take (f := 10) (i := 5) (v := ?vg24ppq5) rfl (by kernel_rfl) (by kernel_rfl) (by kernel_rfl) (by kernel_rfl) (by kernel_rfl) (fun _ _ _ h => h) (Or.inl ⟨(by rfl), ?hyg24ppq5⟩) hSg24ppq4 ?restg24ppq5
                case hyg24ppq5 =>
                  intro W hW
                  go_simp
                  exact rfl
                simp only [List.getElem_toArray, List.getElem_cons_succ, List.getElem_cons_zero, Act.put, List.setIfInBounds_toArray, List.set_cons_zero, List.set_cons_succ]
                refine but_take (f := 10) (i := 6) (v := ?vg24ppq6) rfl (by kernel_rfl) (by kernel_rfl) (by kernel_rfl) (by kernel_rfl) (by kernel_rfl) (fun _ _ _ h => h) (Or.inl ⟨(by rfl), ?hyg24ppq6⟩) hSg24ppq4 ?restg24ppq6
                case hyg24ppq6 =>
                  intro W hW
                  go_simp
                  exact rfl
                simp only [List.getElem_toArray, List.getElem_cons_succ, List.getElem_cons_zero, Act.put, List.setIfInBounds_toArray, List.set_cons_zero, List.set_cons_succ]
                refine but_take (f := 10) (i := 7) (v := ?vg24ppq7) rfl (by kernel_rfl) (by kernel_rfl) (by kernel_rfl) (by kernel_rfl) (by kernel_rfl) (fun _ _ _ h => h) (Or.inl ⟨(by rfl), ?hyg24ppq7⟩) hSg24ppq4 ?restg24ppq7
                case hyg24ppq7 =>
                  intro W hW
                  go_simp
                  exact rfl
                simp only [List.getElem_toArray, List.getElem_cons_succ, List.getElem_cons_zero, Act.put, List.setIfInBounds_toArray, List.set_cons_zero, List.set_cons_succ]
                refine but_run (i := 9) (by kernel_rfl) rfl (by rfl) ?_
                simp only [List.getElem_toArray, List.getElem_cons_succ, List.getElem_cons_zero]
                intro K HK
                obtain ⟨y0, y1, y2⟩ := box2 QB.out
                go_wp2_with fail
                have hSg24ppq5 : (fun V => Below w9.heap.size w9 V) ((Vg24ppq4.setCell ⟨pb, 0, none⟩ (.slice AP rl.length cP)).setCell ⟨pb, 1, none⟩ (.slice BP rt.length dP)) := ((hSg24ppq4).setCell (p := ⟨pb, 0, none⟩) hpb2 _).setCell (p := ⟨pb, 1, none⟩) hpb2 _
                refine HK.out _ _ (fun _ => hSg24ppq5) ?_
                clear HK
                have QB2 := Lib.hid (box_set (i := 1) (u := .slice BP rt.length dP) (box_set (i := 0) (u := .slice AP rl.length cP) QB.out))
                have OP2 := Lib.hid (OP.out.keep (w' := (Vg24ppq4.setCell ⟨pb, 0, none⟩ (.slice AP rl.length cP)).setCell ⟨pb, 1, none⟩ (.slice BP rt.length dP)) (fun b hb hl => (only_two Vg24ppq4 pb 0 1 (.slice AP rl.length cP) (.slice BP rt.length dP)).block b hl (fun e => hb.2 e)))
                refine but_run (i := 10) (by kernel_rfl) rfl (by rfl) ?_
                simp only [List.getElem_toArray, List.getElem_cons_succ, List.getElem_cons_zero]
                intro K HK
                go_wp2_with fail
                refine HK.out _ _ (fun h => absurd rfl h) ?_
                clear HK
                refine but_done (by kernel_rfl) ?_
                go_wp2_with fail
                go_meet
                exact ⟨pb, AP, cP, BP, dP, rfl, rfl, hpb2, QB2, OP2, Lib.hid (hSg24ppq5)⟩
            · simp only [List.getElem_toArray, List.getElem_cons_succ, List.getElem_cons_zero]
              intro K HK
              go_wp2_with fail
              have hSg24pq2 : (fun V => Below w9.heap.size w9 V) (Vg24p1.alloc (.cells #[.slice none 0 0, .slice none 0 0] 27)) := bstep hSg24p1 (bal1 _ _)
              refine HK.out _ _ (fun _ => hSg24pq2) ?_
              clear HK
              have QB := Lib.hid (al1 Vg24p1 (.cells #[.slice none 0 0, .slice none 0 0] 27))
              obtain ⟨pb, hpb⟩ : ∃ p, Vg24p1.heap.size = p := ⟨_, rfl⟩
              have hpb2 : w9.heap.size ≤ pb := by rw [← hpb]; exact (hSg24p1).size
              have hpl : pb < (Vg24p1.alloc (.cells #[.slice none 0 0, .slice none 0 0] 27)).heap.size := by rw [← hpb]; simp
              replace OT := Lib.hid (OT.out.on (bal1 Vg24p1 (.cells #[.slice none 0 0, .slice none 0 0] 27)))
              rw [hpb] at QB ⊢
              clear hpb
              generalize Vg24p1.alloc (.cells #[.slice none 0 0, .slice none 0 0] 27) = Vng24pq2 at *
              refine but_run (i := 3) (by kernel_rfl) rfl (by rfl) ?_
              simp only [List.getElem_toArray, List.getElem_cons_succ, List.getElem_cons_zero]
              intro K HK
              go_wp2_with fail
              refine (HKY.out _).mono ?_
              rintro r Vg24pq3 ⟨rfl, hbg24pq3⟩
              go_wp2_with fail
              have hSg24pq3 : (fun V => Below w9.heap.size w9 V) Vg24pq3 := bstep hSg24pq2 hbg24pq3
              refine HK.out _ _ (fun _ => hSg24pq3) ?_
              clear HK
              have hkg24pq3 := hbg24pq3.size
              replace OT := Lib.hid (OT.out.on hbg24pq3)
              replace QB := Lib.hid (box_on QB.out hbg24pq3)
              replace hpl : pb < Vg24pq3.heap.size := Nat.lt_of_lt_of_le hpl hbg24pq3.size
              refine but_run (i := 4) (by kernel_rfl) rfl (by rfl) ?_
              simp only [List.getElem_toArray, List.getElem_cons_succ, List.getElem_cons_zero]
              intro K HK
              go_wp2_with fail
              refine (HPI.out _ _ _ OT.out).mono ?_
              rintro r Vg24pq4 ⟨vlP, vnP, rfl, oP, hbg24pq4⟩
              obtain ⟨AP, cP, BP, dP, rfl, rfl⟩ := oP.reads.shape
              go_wp2_with fail
              have hSg24pq4 : (fun V => Below w9.heap.size w9 V) Vg24pq4 := bstep hSg24pq3 hbg24pq4
              refine HK.out _ _ (fun _ => hSg24pq4) ?_
              clear HK
              have OP := Lib.hid (oP.lt.mono (T := fun b => w9.heap.size ≤ b ∧ b ≠ pb) (fun b hb => ⟨Nat.le_trans (hSg24pq3).size hb.1, by have := hb.1; omega⟩))
              clear oP
              replace QB := Lib.hid (box_on QB.out hbg24pq4)
              replace hpl : pb < Vg24pq4.heap.size := Nat.lt_of_lt_of_le hpl hbg24pq4.size
              refine but_take (f := 10) (i := 5) (v := ?vg24pq5) rfl (by kernel_rfl) (by kernel_rfl) (by kernel_rfl) (by kernel_rfl) (by kernel_rfl) (fun _ _ _ h => h) (Or.inl ⟨(by rfl), ?hyg24pq5⟩) hSg24pq4 ?restg24pq5
              case hyg24pq5 =>
                intro W hW
                go_simp
                exact rfl
              simp only [List.getElem_toArray, List.getElem_cons_succ, List.getElem_cons_zero, Act.put, List.setIfInBounds_toArray, List.set_cons_zero, List.set_cons_succ]
              refine but_take (f := 10) (i := 6) (v := ?vg24pq6) rfl (by kernel_rfl) (by kernel_rfl) (by kernel_rfl) (by kernel_rfl) (by kernel_rfl) (fun _ _ _ h => h) (Or.inl ⟨(by rfl), ?hyg24pq6⟩) hSg24pq4 ?restg24pq6
              case hyg24pq6 =>
                intro W hW
                go_simp
                exact rfl
              simp only [List.getElem_toArray, List.getElem_cons_succ, List.getElem_cons_zero, Act.put, List.setIfInBounds_toArray, List.set_cons_zero, List.set_cons_succ]
              refine but_take (f := 10) (i := 7) (v := ?vg24pq7) rfl (by kernel_rfl) (by kernel_rfl) (by kernel_rfl) (by kernel_rfl) (by kernel_rfl) (fun _ _ _ h => h) (Or.inl ⟨(by rfl), ?hyg24pq7⟩) hSg24pq4 ?restg24pq7
              case hyg24pq7 =>
                intro W hW
                go_simp
                exact rfl
              simp only [List.getElem_toArray, List.getElem_cons_succ, List.getElem_cons_zero, Act.put, List.setIfInBounds_toArray, List.set_cons_zero, List.set_cons_succ]
              refine but_run (i := 9) (by kernel_rfl) rfl (by rfl) ?_
              simp only [List.getElem_toArray, List.getElem_cons_succ, List.getElem_cons_zero]
              intro K HK
              obtain ⟨y0, y1, y2⟩ := box2 QB.out
              go_wp2_with fail
              have hSg24pq5 : (fun V => Below w9.heap.size w9 V) ((Vg24pq4.setCell ⟨pb, 0, none⟩ (.slice AP rl.length cP)).setCell ⟨pb, 1, none⟩ (.slice BP rt.length dP)) := ((hSg24pq4).setCell (p := ⟨pb, 0, none⟩) hpb2 _).setCell (p := ⟨pb, 1, none⟩) hpb2 _
              refine HK.out _ _ (fun _ => hSg24pq5) ?_
              clear HK
              have QB2 := Lib.hid (box_set (i := 1) (u := .slice BP rt.length dP) (box_set (i := 0) (u := .slice AP rl.length cP) QB.out))
              have OP2 := Lib.hid (OP.out.keep (w' := (Vg24pq4.setCell ⟨pb, 0, none⟩ (.slice AP rl.length cP)).setCell ⟨pb, 1, none⟩ (.slice BP rt.length dP)) (fun b hb hl => (only_two Vg24pq4 pb 0 1 (.slice AP rl.length cP) (.slice BP rt.length dP)).block b hl (fun e => hb.2 e)))
              refine but_run (i := 10) (by kernel_rfl) rfl (by rfl) ?_
              simp only [List.getElem_toArray, List.getElem_cons_succ, List.getElem_cons_zero]
              intro K HK
              go_wp2_with fail
              refine HK.out _ _ (fun h => absurd rfl h) ?_
              clear HK
              refine but_done (by kernel_rfl) ?_
              go_wp2_with fail
              go_meet
              exact ⟨pb, AP, cP, BP, dP, rfl, rfl, hpb2, QB2, OP2, Lib.hid (hSg24pq5)⟩
          · simp only [List.getElem_toArray, List.getElem_cons_succ, List.getElem_cons_zero]
            intro K HK
            go_wp2_with fail
            have hSg24q1 : (fun V => Below w9.heap.size w9 V) (Udg24.alloc (.cells #[.slice none 0 0, .slice none 0 0] 27)) := bstep hS0g24 (bal1 _ _)
            refine HK.out _ _ (fun _ => hSg24q1) ?_
            clear HK
            have QB := Lib.hid (al1 Udg24 (.cells #[.slice none 0 0, .slice none 0 0] 27))
            obtain ⟨pb, hpb⟩ : ∃ p, Udg24.heap.size = p := ⟨_, rfl⟩
            have hpb2 : w9.heap.size ≤ pb := by rw [← hpb]; exact (hS0g24).size
            have hpl : pb < (Udg24.alloc (.cells #[.slice none 0 0, .slice none 0 0] 27)).heap.size := by rw [← hpb]; simp
            rw [hpb] at QB ⊢
            clear hpb
            generalize Udg24.alloc (.cells #[.slice none 0 0, .slice none 0 0] 27) = Vng24q1 at *
            refine but_run (i := 1) (by kernel_rfl) rfl (by rfl) ?_
            simp only [List.getElem_toArray, List.getElem_cons_succ, List.getElem_cons_zero]
            intro K HK
            go_wp2_with fail
            refine (HT.out _ (bstep BB.out hSg24q1)).mono ?_
            rintro r Vg24q2 ⟨vlT, vnT, rfl, oT, hbg24q2⟩
            obtain ⟨AT, cT, BT, dT, rfl, rfl⟩ := oT.reads.shape
            go_wp2_with fail
            have hSg24q2 : (fun V => Below w9.heap.size w9 V) Vg24q2 := bstep hSg24q1 hbg24q2
            refine HK.out _ _ (fun _ => hSg24q2) ?_
            clear HK
            have OT := Lib.hid oT.reads
            clear oT
            replace QB := Lib.hid (box_on QB.out hbg24q2)
            replace hpl : pb < Vg24q2.heap.size := Nat.lt_of_lt_of_le hpl hbg24q2.size
            refine but_run (i := 3) (by kernel_rfl) rfl (by rfl) ?_
            simp only [List.getElem_toArray, List.getElem_cons_succ, List.getElem_cons_zero]
            intro K HK
            go_wp2_with fail
            refine (HKY.out _).mono ?_
            rintro r Vg24q3 ⟨rfl, hbg24q3⟩
            go_wp2_with fail
            have hSg24q3 : (fun V => Below w9.heap.size w9 V) Vg24q3 := bstep hSg24q2 hbg24q3
            refine HK.out _ _ (fun _ => hSg24q3) ?_
            clear HK
            have hkg24q3 := hbg24q3.size
            replace OT := Lib.hid (OT.out.on hbg24q3)
            replace QB := Lib.hid (box_on QB.out hbg24q3)
            replace hpl : pb < Vg24q3.heap.size := Nat.lt_of_lt_of_le hpl hbg24q3.size
            refine but_run (i := 4) (by kernel_rfl) rfl (by rfl) ?_
            simp only [List.getElem_toArray, List.getElem_cons_succ, List.getElem_cons_zero]
            intro K HK
            go_wp2_with fail
            refine (HPI.out _ _ _ OT.out).mono ?_
            rintro r Vg24q4 ⟨vlP, vnP, rfl, oP, hbg24q4⟩
            obtain ⟨AP, cP, BP, dP, rfl, rfl⟩ := oP.reads.shape
            go_wp2_with fail
            have hSg24q4 : (fun V => Below w9.heap.size w9 V) Vg24q4 := bstep hSg24q3 hbg24q4
            refine HK.out _ _ (fun _ => hSg24q4) ?_
            clear HK
            have OP := Lib.hid (oP.lt.mono (T := fun b => w9.heap.size ≤ b ∧ b ≠ pb) (fun b hb => ⟨Nat.le_trans (hSg24q3).size hb.1, by have := hb.1; omega⟩))
            clear oP
            replace QB := Lib.hid (box_on QB.out hbg24q4)
            replace hpl : pb < Vg24q4.heap.size := Nat.lt_of_lt_of_le hpl hbg24q4.size
            refine but_take (f := 10) (i := 5) (v := ?vg24q5) rfl (by kernel_rfl) (by kernel_rfl) (by kernel_rfl) (by kernel_rfl) (by kernel_rfl) (fun _ _ _ h => h) (Or.inl ⟨(by rfl), ?hyg24q5⟩) hSg24q4 ?restg24q5
            case hyg24q5 =>
              intro W hW
              go_simp
              exact rfl
            simp only [List.getElem_toArray, List.getElem_cons_succ, List.getElem_cons_zero, Act.put, List.setIfInBounds_toArray, List.set_cons_zero, List.set_cons_succ]
            refine but_take (f := 10) (i := 6) (v := ?vg24q6) rfl (by kernel_rfl) (by kernel_rfl) (by kernel_rfl) (by kernel_rfl) (by kernel_rfl) (fun _ _ _ h => h) (Or.inl ⟨(by rfl), ?hyg24q6⟩) hSg24q4 ?restg24q6
            case hyg24q6 =>
              intro W hW
              go_simp
              exact rfl
            simp only [List.getElem_toArray, List.getElem_cons_succ, List.getElem_cons_zero, Act.put, List.setIfInBounds_toArray, List.set_cons_zero, List.set_cons_succ]
            refine but_take (f := 10) (i := 7) (v := ?vg24q7) rfl (by kernel_rfl) (by kernel_rfl) (by kernel_rfl) (by kernel_rfl) (by kernel_rfl) (fun _ _ _ h => h) (Or.inl ⟨(by rfl), ?hyg24q7⟩) hSg24q4 ?restg24q7
            case hyg24q7 =>
              intro W hW
              go_simp
              exact rfl
            simp only [List.getElem_toArray, List.getElem_cons_succ, List.getElem_cons_zero, Act.put, List.setIfInBounds_toArray, List.set_cons_zero, List.set_cons_succ]
            refine but_run (i := 9) (by kernel_rfl) rfl (by rfl) ?_
            simp only [List.getElem_toArray, List.getElem_cons_succ, List.getElem_cons_zero]
            intro K HK
            obtain ⟨y0, y1, y2⟩ := box2 QB.out
            go_wp2_with fail
            have hSg24q5 : (fun V => Below w9.heap.size w9 V) ((Vg24q4.setCell ⟨pb, 0, none⟩ (.slice AP rl.length cP)).setCell ⟨pb, 1, none⟩ (.slice BP rt.length dP)) := ((hSg24q4).setCell (p := ⟨pb, 0, none⟩) hpb2 _).setCell (p := ⟨pb, 1, none⟩) hpb2 _
            refine HK.out _ _ (fun _ => hSg24q5) ?_
            clear HK
            have QB2 := Lib.hid (box_set (i := 1) (u := .slice BP rt.length dP) (box_set (i := 0) (u := .slice AP rl.length cP) QB.out))
            have OP2 := Lib.hid (OP.out.keep (w' := (Vg24q4.setCell ⟨pb, 0, none⟩ (.slice AP rl.length cP)).setCell ⟨pb, 1, none⟩ (.slice BP rt.length dP)) (fun b hb hl => (only_two Vg24q4 pb 0 1 (.slice AP rl.length cP) (.slice BP rt.length dP)).block b hl (fun e => hb.2 e)))
            refine but_run (i := 10) (by kernel_rfl) rfl (by rfl) ?_
            simp only [List.getElem_toArray, List.getElem_cons_succ, List.getElem_cons_zero]
            intro K HK
            go_wp2_with fail
            refine HK.out _ _ (fun h => absurd rfl h) ?_
            clear HK
            refine but_done (by kernel_rfl) ?_
            go_wp2_with fail
            go_meet
            exact ⟨pb, AP, cP, BP, dP, rfl, rfl, hpb2, QB2, OP2, Lib.hid (hSg24q5)⟩
        case rest =>
          obtain ⟨pbH, AH, cH, BH, dH, rfl, rfl, hpbH, QH, OH, BX⟩ := hcut
          obtain ⟨w10, rfl⟩ : ∃ W, W = wc := ⟨_, rfl⟩
          replace OS := Lib.hid (OS.out.on BX.out)
          replace OG := Lib.hid (OG.out.on BX.out)
          replace QN := Lib.hid (box_on QN.out BX.out)
          replace QK := Lib.hid (box_on QK.out BX.out)
          replace QS := Lib.hid (box_on QS.out BX.out)
          replace QG := Lib.hid (box_on QG.out BX.out)
          replace BB := Lib.hid (bstep BB.out BX.out)
          have zw10 := BX.out.size
          have lH := (Array.getElem?_eq_some_iff.1 QH.out).1
          replace OH := Lib.hid OH.out.lt
          clear BX
          obtain ⟨N0, N1, N2⟩ := box2 QN.out
          obtain ⟨K0, K1, K2, K3, K4, K5⟩ := box5 QK.out
          obtain ⟨S0, S1, S2⟩ := box2 QS.out
          obtain ⟨G0, G1, G2⟩ := box2 QG.out
          obtain ⟨H0, H1, H2⟩ := box2 QH.out
          go_wp2_with fail
          refine (eqTree_same _ _ _ _ rl rt _ OH.out.reads OS.out.reads hsR.out).mono ?_
          clear N0 N1 N2 K0 K1 K2 K3 K4 K5 S0 S1 S2 G0 G1 G2 H0 H1 H2
          rintro r w11 ⟨rfl, b⟩
          have z11 := b.size
          replace OS := Lib.hid (OS.out.on b)
          replace OG := Lib.hid (OG.out.on b)
          replace OH := Lib.hid (OH.out.on b)
          replace QN := Lib.hid (box_on QN.out b)
          replace QK := Lib.hid (box_on QK.out b)
          replace QS := Lib.hid (box_on QS.out b)
          replace QG := Lib.hid (box_on QG.out b)
          replace QH := Lib.hid (box_on QH.out b)
          replace BB := Lib.hid (bstep BB.out b)
          clear b
          obtain ⟨N0, N1, N2⟩ := box2 QN.out
          obtain ⟨K0, K1, K2, K3, K4, K5⟩ := box5 QK.out
          obtain ⟨S0, S1, S2⟩ := box2 QS.out
          obtain ⟨G0, G1, G2⟩ := box2 QG.out
          obtain ⟨H0, H1, H2⟩ := box2 QH.out
          go_wp2_with fail
          refine (heldTree_any _ _ rl rt 1 _ OG.out.reads hsR.out (by omega) (by omega)).mono ?_
          clear N0 N1 N2 K0 K1 K2 K3 K4 K5 S0 S1 S2 G0 G1 G2 H0 H1 H2
          rintro r w12 ⟨rfl, b⟩
          have z12 := b.size
          replace OS := Lib.hid (OS.out.on b)
          replace OG := Lib.hid (OG.out.on b)
          replace OH := Lib.hid (OH.out.on b)
          replace QN := Lib.hid (box_on QN.out b)
          replace QK := Lib.hid (box_on QK.out b)
          replace QS := Lib.hid (box_on QS.out b)
          replace QG := Lib.hid (box_on QG.out b)
          replace QH := Lib.hid (box_on QH.out b)
          replace BB := Lib.hid (bstep BB.out b)
          clear b
          rw [HQ.out]
          go_wp2
          go_ret
          exact ⟨rfl, BB.out⟩
  · go_enter Tryz.func5, Tryz.ntmps5
    go_upto_region 1 with (fail)
    generalize (w.alloc (.cells #[.slice A lo.length c, .slice B ts.length d] 54)).alloc (.cells #[.int .i64 x.a, .int .i64 x.b, .int .i64 x.c, .int .i64 x.d, .int .i64 x.e] 55) = W at *
    obtain ⟨N0, N1, N2⟩ := box2 QN.out
    go_wp2_with fail
    refine (szT_big _ _ lo ts _ (HL.out.on BB.out) (HV.out.on BB.out) (by omega)).mono ?_
    clear N0 N1 N2
    rintro r w0 ⟨rfl, b⟩
    have B1 := Lib.hid (bstep BB.out b)
    clear b
    go_wp2
    go_ret
    exact ⟨rfl, B1.out⟩
end Go.Proofs.YtkcafbdlealbpaaGreat
