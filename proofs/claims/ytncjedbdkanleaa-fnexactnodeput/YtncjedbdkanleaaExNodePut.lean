/- The walk of FnExactNodePut: at every argument the call returns true and writes nothing that was there. No condition. -/
import Derived.Test.YtncjedbdkanleaaExNode
import Derived.Test.YtncjedbdkanleaaNodeSPut
namespace Go.Proofs.Ytncjedbdkanleaa
open Go.RowKit
set_option maxRecDepth 100000
set_option linter.unusedSimpArgs false
set_option linter.unusedVariables false
set_option maxHeartbeats 8000000 in
theorem exactNodePut_walk (v : Value) (ns : List (List KeyD)) (u : Value) (x : KeyD) (w : World) (hv : NodeIs w v ns) (hu : KeyIs u x) : Calls Try.prog 8 #[v, u] w fun e w' => e = .returned (.bool true) ∧ Below w.heap.size w w' := by
  obtain ⟨v0, rfl, hv⟩ := hv
  obtain ⟨A, c, rfl, _, _⟩ := hv.lenN
  unfold KeyIs at hu
  subst hu
  have HV := Lib.hid hv
  clear hv
  have BB := Lib.hid (bal2 w (.cells #[.slice A ns.length c] 49) (.cells #[.int .i64 x.a, .int .i64 x.b, .int .i64 x.c, .int .i64 x.d, .int .i64 x.e] 56))
  obtain ⟨q0, q1⟩ := al2 w (.cells #[.slice A ns.length c] 49) (.cells #[.int .i64 x.a, .int .i64 x.b, .int .i64 x.c, .int .i64 x.d, .int .i64 x.e] 56)
  have QN := Lib.hid q0
  have QK := Lib.hid q1
  clear q0 q1
  have hWz : Hid (((w.alloc (.cells #[.slice A ns.length c] 49)).alloc (.cells #[.int .i64 x.a, .int .i64 x.b, .int .i64 x.c, .int .i64 x.d, .int .i64 x.e] 56)).heap.size = w.heap.size + 2) := Lib.hid (by simp)
  unfold keyV
  by_cases hn : ns.length + sumN ns ≤ 1048576
  · have HT := Lib.hid (fun w' (b : Below w.heap.size w w') => toNode_any (.slice A ns.length c) ns w' (HV.out.on b) hn)
    have HKY := Lib.hid (toKey_any x.a x.b x.c x.d x.e)
    have HPS := Lib.hid specNodePut_any
    have HPI := Lib.hid implNodePut_any
    unfold KeyD.v keyV at HPS HPI
    unfold SaysK keyV at HKY
    have hs : Hid (SmallN ns) := Lib.hid ⟨by omega, by omega⟩
    obtain ⟨R, hR⟩ : ∃ R, putN ns x = R := ⟨_, rfl⟩
    obtain ⟨RB, hRB⟩ : ∃ RB, putNB ns x = RB := ⟨_, rfl⟩
    have hps := putN_small (ns := ns) (k := x) (m := 1048576) (by omega) (by omega)
    rw [hR] at hps
    have hsR : Hid (SmallN R) := Lib.hid ⟨by omega, by omega⟩
    have hRl := hsR.out.1
    have hRs := hsR.out.2
    have HR := Lib.hid hR
    have HRB := Lib.hid hRB
    have hne : (RB != RB) = false := by simp
    clear hR hRB hps
    go_enter Try.func8, Try.ntmps8
    go_upto_region 1 with (fail)
    generalize (w.alloc (.cells #[.slice A ns.length c] 49)).alloc (.cells #[.int .i64 x.a, .int .i64 x.b, .int .i64 x.c, .int .i64 x.d, .int .i64 x.e] 56) = W at *
    have hWz1 := Nat.le_of_eq hWz.out
    have hWz2 := Nat.le_of_eq hWz.out.symm
    clear hWz
    obtain ⟨N0, N1⟩ := box1N QN.out
    go_wp2_with fail
    refine (szN_small _ ns _ (HV.out.on BB.out) hn).mono ?_
    clear N0 N1
    rintro r w0 ⟨⟨q0, rfl, hq0⟩, b⟩
    have z0 := b.size
    replace QN := Lib.hid (box_on QN.out b)
    replace QK := Lib.hid (box_on QK.out b)
    replace BB := Lib.hid (bstep BB.out b)
    have d0 : decide (q0 < 0) = false := decide_eq_false (by omega)
    clear b hq0
    have hdr : w0.heap.size ≤ w0.drew.heap.size := Nat.le_refl _
    go_upto_region 5 with (fail)
    go_cut [6, 7] (fun s6 s7 wx => ∃ pb vq, s6 = .pointer (some ⟨pb, 0, none⟩) ∧ s7 = .bool RB ∧ w0.heap.size ≤ pb ∧ Hid (wx.heap[pb]? = some (.cells #[vq] 26)) ∧ Hid (Owns wx (fun b => w0.heap.size ≤ b ∧ b ≠ pb) vq (setsD R)) ∧ Hid (Below w0.heap.size w0 wx))
    case first =>
      refine but_begin (f := 10) (S := fun V => Below w0.heap.size w0 V) (by kernel_rfl) ?_
      refine but_take (f := 10) (i := 0) (v := ?vg50) rfl (by kernel_rfl) (by kernel_rfl) (by kernel_rfl) (by kernel_rfl) (by kernel_rfl) (fun _ _ _ h => h) (Or.inl ⟨(by rfl), ?hyg50⟩) (Below.drew1 _) ?restg50
      case hyg50 =>
        intro W hW
        obtain ⟨N0, N1⟩ := box1N (box_on QN.out hW)
        go_simp
        exact rfl
      simp only [List.getElem_toArray, List.getElem_cons_succ, List.getElem_cons_zero, Act.put, List.setIfInBounds_toArray, List.set_cons_zero, List.set_cons_succ]
      refine but_take (f := 10) (i := 2) (v := ?vg52) rfl (by kernel_rfl) (by kernel_rfl) (by kernel_rfl) (by kernel_rfl) (by kernel_rfl) (fun _ _ _ h => h) (Or.inl ⟨(by rfl), ?hyg52⟩) (Below.drew1 _) ?restg52
      case hyg52 =>
        intro W hW
        obtain ⟨K0, K1, K2, K3, K4, K5⟩ := box5 (box_on QK.out hW)
        go_simp
        exact rfl
      simp only [List.getElem_toArray, List.getElem_cons_succ, List.getElem_cons_zero, Act.put, List.setIfInBounds_toArray, List.set_cons_zero, List.set_cons_succ]
      refine but_two (i := 1) (j := 8) (by kernel_rfl) rfl rfl (by rfl) (by rfl) ?_ ?_
      · simp only [List.getElem_toArray, List.getElem_cons_succ, List.getElem_cons_zero]
        intro K HK
        go_wp2_with fail
        refine (HT.out _ (bstep BB.out (Below.drew1 _))).mono ?_
        rintro r Vg5p1 ⟨vT, rfl, oT, hbg5p1⟩
        obtain ⟨AT, cT, rfl, _, _⟩ := oT.reads.lenN
        go_wp2_with fail
        have hSg5p1 : (fun V => Below w0.heap.size w0 V) Vg5p1 := bstep (Below.drew1 _) hbg5p1
        refine HK.out _ _ (fun _ => hSg5p1) ?_
        clear HK
        have OTT := Lib.hid oT
        clear oT
        try replace QB := Lib.hid (box_on QB.out hbg5p1)
        have hzg5p1 := hbg5p1.size
        refine but_two (i := 3) (j := 8) (by kernel_rfl) rfl rfl (by rfl) (by rfl) ?_ ?_
        · simp only [List.getElem_toArray, List.getElem_cons_succ, List.getElem_cons_zero]
          intro K HK
          go_wp2_with fail
          refine (HKY.out _).mono ?_
          rintro r Vg5pp2 ⟨rfl, hbg5pp2⟩
          go_wp2_with fail
          have hSg5pp2 : (fun V => Below w0.heap.size w0 V) Vg5pp2 := bstep hSg5p1 hbg5pp2
          refine HK.out _ _ (fun _ => hSg5pp2) ?_
          clear HK
          try replace OTT := Lib.hid (OTT.out.on hbg5pp2)
          try replace QB := Lib.hid (box_on QB.out hbg5pp2)
          have hzg5pp2 := hbg5pp2.size
          refine but_two (i := 4) (j := 8) (by kernel_rfl) rfl rfl (by rfl) (by rfl) ?_ ?_
          · simp only [List.getElem_toArray, List.getElem_cons_succ, List.getElem_cons_zero]
            intro K HK
            go_wp2_with fail
            refine (HPS.out _ ns x _ OTT.out.reads (by omega) (by omega)).mono ?_
            rintro r Vg5ppp3 ⟨vP, rfl, oP, hbg5ppp3⟩
            rw [HR.out] at oP
            rw [HRB.out]
            obtain ⟨AS, cS, rfl, _, _⟩ := oP.reads.lenN
            go_wp2_with fail
            have hSg5ppp3 : (fun V => Below w0.heap.size w0 V) Vg5ppp3 := bstep hSg5pp2 hbg5ppp3
            refine HK.out _ _ (fun _ => hSg5ppp3) ?_
            clear HK
            have ON := Lib.hid oP.lt
            clear oP
            try replace QB := Lib.hid (box_on QB.out hbg5ppp3)
            have hzg5ppp3 := hbg5ppp3.size
            refine but_take (f := 10) (i := 5) (v := ?vg5ppp5) rfl (by kernel_rfl) (by kernel_rfl) (by kernel_rfl) (by kernel_rfl) (by kernel_rfl) (fun _ _ _ h => h) (Or.inl ⟨(by rfl), ?hyg5ppp5⟩) hSg5ppp3 ?restg5ppp5
            case hyg5ppp5 =>
              intro W hW
              go_simp
              exact rfl
            simp only [List.getElem_toArray, List.getElem_cons_succ, List.getElem_cons_zero, Act.put, List.setIfInBounds_toArray, List.set_cons_zero, List.set_cons_succ]
            refine but_take (f := 10) (i := 6) (v := ?vg5ppp6) rfl (by kernel_rfl) (by kernel_rfl) (by kernel_rfl) (by kernel_rfl) (by kernel_rfl) (fun _ _ _ h => h) (Or.inl ⟨(by rfl), ?hyg5ppp6⟩) hSg5ppp3 ?restg5ppp6
            case hyg5ppp6 =>
              intro W hW
              go_simp
              exact rfl
            simp only [List.getElem_toArray, List.getElem_cons_succ, List.getElem_cons_zero, Act.put, List.setIfInBounds_toArray, List.set_cons_zero, List.set_cons_succ]
            refine but_take (f := 10) (i := 7) (v := ?vg5ppp7) rfl (by kernel_rfl) (by kernel_rfl) (by kernel_rfl) (by kernel_rfl) (by kernel_rfl) (fun _ _ _ h => h) (Or.inl ⟨(by rfl), ?hyg5ppp7⟩) hSg5ppp3 ?restg5ppp7
            case hyg5ppp7 =>
              intro W hW
              go_simp
              exact rfl
            simp only [List.getElem_toArray, List.getElem_cons_succ, List.getElem_cons_zero, Act.put, List.setIfInBounds_toArray, List.set_cons_zero, List.set_cons_succ]
            refine but_run (i := 8) (by kernel_rfl) rfl (by rfl) ?_
            simp only [List.getElem_toArray, List.getElem_cons_succ, List.getElem_cons_zero]
            intro K HK
            go_wp2_with fail
            have hSg5ppp4 : (fun V => Below w0.heap.size w0 V) (Vg5ppp3.alloc (.cells #[.slice none 0 0] 26)) := bstep hSg5ppp3 (bal1 _ _)
            refine HK.out _ _ (fun _ => hSg5ppp4) ?_
            clear HK
            have QB := Lib.hid (al1 Vg5ppp3 (.cells #[.slice none 0 0] 26))
            try (change Hid ((w0.drew.alloc (.cells #[.slice none 0 0] 26)).heap[w0.heap.size]? = some (.cells #[.slice none 0 0] 26)) at QB)
            try have ON0 := ON
            try replace OTT := Lib.hid (OTT.out.on (bal1 _ (.cells #[.slice none 0 0] 26)))
            try replace ON := Lib.hid (ON.out.on (bal1 _ (.cells #[.slice none 0 0] 26)))
            have hzg5ppp4 : (Vg5ppp3.alloc (.cells #[.slice none 0 0] 26)).heap.size ≤ Vg5ppp3.heap.size + 1 := by simp
            have hyg5ppp4 : Vg5ppp3.heap.size + 1 ≤ (Vg5ppp3.alloc (.cells #[.slice none 0 0] 26)).heap.size := by simp
            have hvg5ppp4 : w0.heap.size + 1 ≤ (w0.alloc (.cells #[.slice none 0 0] 26)).drew.heap.size := by show w0.heap.size + 1 ≤ (w0.alloc (.cells #[.slice none 0 0] 26)).heap.size; simp
            refine but_run (i := 9) (by kernel_rfl) rfl (by rfl) ?_
            simp only [List.getElem_toArray, List.getElem_cons_succ, List.getElem_cons_zero]
            intro K HK
            obtain ⟨z0, z1⟩ := box1N QB.out
            go_wp2_with fail
            have hSg5ppp5 : (fun V => Below w0.heap.size w0 V) (Vg5ppp3.alloc (.cells #[.slice AS R.length cS] 26)) := bstep hSg5ppp3 (bal1 _ _)
            refine HK.out _ _ (fun _ => hSg5ppp5) ?_
            clear HK
            have QB2 := Lib.hid (al1 Vg5ppp3 (.cells #[.slice AS R.length cS] 26))
            have ON2 := Lib.hid ((ON0.out.on (bal1 _ (.cells #[.slice AS R.length cS] 26))).mono (T := fun b => w0.heap.size ≤ b ∧ b ≠ Vg5ppp3.heap.size) (fun b hb => ⟨by omega, by omega⟩))
            refine but_run (i := 10) (by kernel_rfl) rfl (by rfl) ?_
            simp only [List.getElem_toArray, List.getElem_cons_succ, List.getElem_cons_zero]
            intro K HK
            go_wp2_with fail
            refine HK.out _ _ (fun h => absurd rfl h) ?_
            clear HK
            refine but_done (by kernel_rfl) ?_
            go_wp2_with fail
            go_meet
            exact ⟨Vg5ppp3.heap.size, _, rfl, rfl, by omega, QB2, ON2, Lib.hid hSg5ppp5⟩
          · simp only [List.getElem_toArray, List.getElem_cons_succ, List.getElem_cons_zero]
            intro K HK
            go_wp2_with fail
            have hSg5ppq3 : (fun V => Below w0.heap.size w0 V) (Vg5pp2.alloc (.cells #[.slice none 0 0] 26)) := bstep hSg5pp2 (bal1 _ _)
            refine HK.out _ _ (fun _ => hSg5ppq3) ?_
            clear HK
            have QB := Lib.hid (al1 Vg5pp2 (.cells #[.slice none 0 0] 26))
            try (change Hid ((w0.drew.alloc (.cells #[.slice none 0 0] 26)).heap[w0.heap.size]? = some (.cells #[.slice none 0 0] 26)) at QB)
            try have ON0 := ON
            try replace OTT := Lib.hid (OTT.out.on (bal1 _ (.cells #[.slice none 0 0] 26)))
            try replace ON := Lib.hid (ON.out.on (bal1 _ (.cells #[.slice none 0 0] 26)))
            have hzg5ppq3 : (Vg5pp2.alloc (.cells #[.slice none 0 0] 26)).heap.size ≤ Vg5pp2.heap.size + 1 := by simp
            have hyg5ppq3 : Vg5pp2.heap.size + 1 ≤ (Vg5pp2.alloc (.cells #[.slice none 0 0] 26)).heap.size := by simp
            have hvg5ppq3 : w0.heap.size + 1 ≤ (w0.alloc (.cells #[.slice none 0 0] 26)).drew.heap.size := by show w0.heap.size + 1 ≤ (w0.alloc (.cells #[.slice none 0 0] 26)).heap.size; simp
            refine but_run (i := 4) (by kernel_rfl) rfl (by rfl) ?_
            simp only [List.getElem_toArray, List.getElem_cons_succ, List.getElem_cons_zero]
            intro K HK
            go_wp2_with fail
            refine (HPS.out _ ns x _ OTT.out.reads (by omega) (by omega)).mono ?_
            rintro r Vg5ppq4 ⟨vP, rfl, oP, hbg5ppq4⟩
            rw [HR.out] at oP
            rw [HRB.out]
            obtain ⟨AS, cS, rfl, _, _⟩ := oP.reads.lenN
            go_wp2_with fail
            have hSg5ppq4 : (fun V => Below w0.heap.size w0 V) Vg5ppq4 := bstep hSg5ppq3 hbg5ppq4
            refine HK.out _ _ (fun _ => hSg5ppq4) ?_
            clear HK
            have ON := Lib.hid oP.lt
            clear oP
            try replace QB := Lib.hid (box_on QB.out hbg5ppq4)
            have hzg5ppq4 := hbg5ppq4.size
            refine but_take (f := 10) (i := 5) (v := ?vg5ppq5) rfl (by kernel_rfl) (by kernel_rfl) (by kernel_rfl) (by kernel_rfl) (by kernel_rfl) (fun _ _ _ h => h) (Or.inl ⟨(by rfl), ?hyg5ppq5⟩) hSg5ppq4 ?restg5ppq5
            case hyg5ppq5 =>
              intro W hW
              go_simp
              exact rfl
            simp only [List.getElem_toArray, List.getElem_cons_succ, List.getElem_cons_zero, Act.put, List.setIfInBounds_toArray, List.set_cons_zero, List.set_cons_succ]
            refine but_take (f := 10) (i := 6) (v := ?vg5ppq6) rfl (by kernel_rfl) (by kernel_rfl) (by kernel_rfl) (by kernel_rfl) (by kernel_rfl) (fun _ _ _ h => h) (Or.inl ⟨(by rfl), ?hyg5ppq6⟩) hSg5ppq4 ?restg5ppq6
            case hyg5ppq6 =>
              intro W hW
              go_simp
              exact rfl
            simp only [List.getElem_toArray, List.getElem_cons_succ, List.getElem_cons_zero, Act.put, List.setIfInBounds_toArray, List.set_cons_zero, List.set_cons_succ]
            refine but_take (f := 10) (i := 7) (v := ?vg5ppq7) rfl (by kernel_rfl) (by kernel_rfl) (by kernel_rfl) (by kernel_rfl) (by kernel_rfl) (fun _ _ _ h => h) (Or.inl ⟨(by rfl), ?hyg5ppq7⟩) hSg5ppq4 ?restg5ppq7
            case hyg5ppq7 =>
              intro W hW
              go_simp
              exact rfl
            simp only [List.getElem_toArray, List.getElem_cons_succ, List.getElem_cons_zero, Act.put, List.setIfInBounds_toArray, List.set_cons_zero, List.set_cons_succ]
            refine but_run (i := 9) (by kernel_rfl) rfl (by rfl) ?_
            simp only [List.getElem_toArray, List.getElem_cons_succ, List.getElem_cons_zero]
            intro K HK
            obtain ⟨z0, z1⟩ := box1N QB.out
            go_wp2_with fail
            have hSg5ppq5 : (fun V => Below w0.heap.size w0 V) (Vg5ppq4.setCell ⟨Vg5pp2.heap.size, 0, none⟩ (.slice AS R.length cS)) := Below.setCell hSg5ppq4 (p := ⟨Vg5pp2.heap.size, 0, none⟩) (show w0.heap.size ≤ Vg5pp2.heap.size by omega) _
            refine HK.out _ _ (fun _ => hSg5ppq5) ?_
            clear HK
            have QB2 := Lib.hid (box_set (i := 0) (u := .slice AS R.length cS) QB.out)
            have ON2 := Lib.hid (Owns.setFar (u := .slice AS R.length cS) (j := 0) (ON.out.mono (T := fun b => w0.heap.size ≤ b ∧ b ≠ Vg5pp2.heap.size) (fun b hb => ⟨by omega, by omega⟩)) (fun h => h.2 rfl))
            refine but_run (i := 10) (by kernel_rfl) rfl (by rfl) ?_
            simp only [List.getElem_toArray, List.getElem_cons_succ, List.getElem_cons_zero]
            intro K HK
            go_wp2_with fail
            refine HK.out _ _ (fun h => absurd rfl h) ?_
            clear HK
            refine but_done (by kernel_rfl) ?_
            go_wp2_with fail
            go_meet
            exact ⟨Vg5pp2.heap.size, _, rfl, rfl, by omega, QB2, ON2, Lib.hid hSg5ppq5⟩
        · simp only [List.getElem_toArray, List.getElem_cons_succ, List.getElem_cons_zero]
          intro K HK
          go_wp2_with fail
          have hSg5pq2 : (fun V => Below w0.heap.size w0 V) (Vg5p1.alloc (.cells #[.slice none 0 0] 26)) := bstep hSg5p1 (bal1 _ _)
          refine HK.out _ _ (fun _ => hSg5pq2) ?_
          clear HK
          have QB := Lib.hid (al1 Vg5p1 (.cells #[.slice none 0 0] 26))
          try (change Hid ((w0.drew.alloc (.cells #[.slice none 0 0] 26)).heap[w0.heap.size]? = some (.cells #[.slice none 0 0] 26)) at QB)
          try have ON0 := ON
          try replace OTT := Lib.hid (OTT.out.on (bal1 _ (.cells #[.slice none 0 0] 26)))
          try replace ON := Lib.hid (ON.out.on (bal1 _ (.cells #[.slice none 0 0] 26)))
          have hzg5pq2 : (Vg5p1.alloc (.cells #[.slice none 0 0] 26)).heap.size ≤ Vg5p1.heap.size + 1 := by simp
          have hyg5pq2 : Vg5p1.heap.size + 1 ≤ (Vg5p1.alloc (.cells #[.slice none 0 0] 26)).heap.size := by simp
          have hvg5pq2 : w0.heap.size + 1 ≤ (w0.alloc (.cells #[.slice none 0 0] 26)).drew.heap.size := by show w0.heap.size + 1 ≤ (w0.alloc (.cells #[.slice none 0 0] 26)).heap.size; simp
          refine but_run (i := 3) (by kernel_rfl) rfl (by rfl) ?_
          simp only [List.getElem_toArray, List.getElem_cons_succ, List.getElem_cons_zero]
          intro K HK
          go_wp2_with fail
          refine (HKY.out _).mono ?_
          rintro r Vg5pq3 ⟨rfl, hbg5pq3⟩
          go_wp2_with fail
          have hSg5pq3 : (fun V => Below w0.heap.size w0 V) Vg5pq3 := bstep hSg5pq2 hbg5pq3
          refine HK.out _ _ (fun _ => hSg5pq3) ?_
          clear HK
          try replace OTT := Lib.hid (OTT.out.on hbg5pq3)
          try replace QB := Lib.hid (box_on QB.out hbg5pq3)
          have hzg5pq3 := hbg5pq3.size
          refine but_run (i := 4) (by kernel_rfl) rfl (by rfl) ?_
          simp only [List.getElem_toArray, List.getElem_cons_succ, List.getElem_cons_zero]
          intro K HK
          go_wp2_with fail
          refine (HPS.out _ ns x _ OTT.out.reads (by omega) (by omega)).mono ?_
          rintro r Vg5pq4 ⟨vP, rfl, oP, hbg5pq4⟩
          rw [HR.out] at oP
          rw [HRB.out]
          obtain ⟨AS, cS, rfl, _, _⟩ := oP.reads.lenN
          go_wp2_with fail
          have hSg5pq4 : (fun V => Below w0.heap.size w0 V) Vg5pq4 := bstep hSg5pq3 hbg5pq4
          refine HK.out _ _ (fun _ => hSg5pq4) ?_
          clear HK
          have ON := Lib.hid oP.lt
          clear oP
          try replace QB := Lib.hid (box_on QB.out hbg5pq4)
          have hzg5pq4 := hbg5pq4.size
          refine but_take (f := 10) (i := 5) (v := ?vg5pq5) rfl (by kernel_rfl) (by kernel_rfl) (by kernel_rfl) (by kernel_rfl) (by kernel_rfl) (fun _ _ _ h => h) (Or.inl ⟨(by rfl), ?hyg5pq5⟩) hSg5pq4 ?restg5pq5
          case hyg5pq5 =>
            intro W hW
            go_simp
            exact rfl
          simp only [List.getElem_toArray, List.getElem_cons_succ, List.getElem_cons_zero, Act.put, List.setIfInBounds_toArray, List.set_cons_zero, List.set_cons_succ]
          refine but_take (f := 10) (i := 6) (v := ?vg5pq6) rfl (by kernel_rfl) (by kernel_rfl) (by kernel_rfl) (by kernel_rfl) (by kernel_rfl) (fun _ _ _ h => h) (Or.inl ⟨(by rfl), ?hyg5pq6⟩) hSg5pq4 ?restg5pq6
          case hyg5pq6 =>
            intro W hW
            go_simp
            exact rfl
          simp only [List.getElem_toArray, List.getElem_cons_succ, List.getElem_cons_zero, Act.put, List.setIfInBounds_toArray, List.set_cons_zero, List.set_cons_succ]
          refine but_take (f := 10) (i := 7) (v := ?vg5pq7) rfl (by kernel_rfl) (by kernel_rfl) (by kernel_rfl) (by kernel_rfl) (by kernel_rfl) (fun _ _ _ h => h) (Or.inl ⟨(by rfl), ?hyg5pq7⟩) hSg5pq4 ?restg5pq7
          case hyg5pq7 =>
            intro W hW
            go_simp
            exact rfl
          simp only [List.getElem_toArray, List.getElem_cons_succ, List.getElem_cons_zero, Act.put, List.setIfInBounds_toArray, List.set_cons_zero, List.set_cons_succ]
          refine but_run (i := 9) (by kernel_rfl) rfl (by rfl) ?_
          simp only [List.getElem_toArray, List.getElem_cons_succ, List.getElem_cons_zero]
          intro K HK
          obtain ⟨z0, z1⟩ := box1N QB.out
          go_wp2_with fail
          have hSg5pq5 : (fun V => Below w0.heap.size w0 V) (Vg5pq4.setCell ⟨Vg5p1.heap.size, 0, none⟩ (.slice AS R.length cS)) := Below.setCell hSg5pq4 (p := ⟨Vg5p1.heap.size, 0, none⟩) (show w0.heap.size ≤ Vg5p1.heap.size by omega) _
          refine HK.out _ _ (fun _ => hSg5pq5) ?_
          clear HK
          have QB2 := Lib.hid (box_set (i := 0) (u := .slice AS R.length cS) QB.out)
          have ON2 := Lib.hid (Owns.setFar (u := .slice AS R.length cS) (j := 0) (ON.out.mono (T := fun b => w0.heap.size ≤ b ∧ b ≠ Vg5p1.heap.size) (fun b hb => ⟨by omega, by omega⟩)) (fun h => h.2 rfl))
          refine but_run (i := 10) (by kernel_rfl) rfl (by rfl) ?_
          simp only [List.getElem_toArray, List.getElem_cons_succ, List.getElem_cons_zero]
          intro K HK
          go_wp2_with fail
          refine HK.out _ _ (fun h => absurd rfl h) ?_
          clear HK
          refine but_done (by kernel_rfl) ?_
          go_wp2_with fail
          go_meet
          exact ⟨Vg5p1.heap.size, _, rfl, rfl, by omega, QB2, ON2, Lib.hid hSg5pq5⟩
      · simp only [List.getElem_toArray, List.getElem_cons_succ, List.getElem_cons_zero]
        intro K HK
        go_wp2_with fail
        have hSg5q1 : (fun V => Below w0.heap.size w0 V) (w0.drew.alloc (.cells #[.slice none 0 0] 26)) := bstep (Below.drew1 _) (bal1 _ _)
        refine HK.out _ _ (fun _ => hSg5q1) ?_
        clear HK
        have QB := Lib.hid (al1 w0.drew (.cells #[.slice none 0 0] 26))
        try (change Hid ((w0.drew.alloc (.cells #[.slice none 0 0] 26)).heap[w0.heap.size]? = some (.cells #[.slice none 0 0] 26)) at QB)
        try have ON0 := ON
        try replace OTT := Lib.hid (OTT.out.on (bal1 _ (.cells #[.slice none 0 0] 26)))
        try replace ON := Lib.hid (ON.out.on (bal1 _ (.cells #[.slice none 0 0] 26)))
        have hzg5q1 : (w0.drew.alloc (.cells #[.slice none 0 0] 26)).heap.size ≤ w0.drew.heap.size + 1 := by simp
        have hyg5q1 : w0.drew.heap.size + 1 ≤ (w0.drew.alloc (.cells #[.slice none 0 0] 26)).heap.size := by simp
        have hvg5q1 : w0.heap.size + 1 ≤ (w0.alloc (.cells #[.slice none 0 0] 26)).drew.heap.size := by show w0.heap.size + 1 ≤ (w0.alloc (.cells #[.slice none 0 0] 26)).heap.size; simp
        refine but_run (i := 1) (by kernel_rfl) rfl (by rfl) ?_
        simp only [List.getElem_toArray, List.getElem_cons_succ, List.getElem_cons_zero]
        intro K HK
        go_wp2_with fail
        refine (HT.out _ (bstep BB.out hSg5q1)).mono ?_
        rintro r Vg5q2 ⟨vT, rfl, oT, hbg5q2⟩
        obtain ⟨AT, cT, rfl, _, _⟩ := oT.reads.lenN
        go_wp2_with fail
        have hSg5q2 : (fun V => Below w0.heap.size w0 V) Vg5q2 := bstep hSg5q1 hbg5q2
        refine HK.out _ _ (fun _ => hSg5q2) ?_
        clear HK
        have OTT := Lib.hid oT
        clear oT
        try replace QB := Lib.hid (box_on QB.out hbg5q2)
        have hzg5q2 := hbg5q2.size
        refine but_run (i := 3) (by kernel_rfl) rfl (by rfl) ?_
        simp only [List.getElem_toArray, List.getElem_cons_succ, List.getElem_cons_zero]
        intro K HK
        go_wp2_with fail
        refine (HKY.out _).mono ?_
        rintro r Vg5q3 ⟨rfl, hbg5q3⟩
        go_wp2_with fail
        have hSg5q3 : (fun V => Below w0.heap.size w0 V) Vg5q3 := bstep hSg5q2 hbg5q3
        refine HK.out _ _ (fun _ => hSg5q3) ?_
        clear HK
        try replace OTT := Lib.hid (OTT.out.on hbg5q3)
        try replace QB := Lib.hid (box_on QB.out hbg5q3)
        have hzg5q3 := hbg5q3.size
        refine but_run (i := 4) (by kernel_rfl) rfl (by rfl) ?_
        simp only [List.getElem_toArray, List.getElem_cons_succ, List.getElem_cons_zero]
        intro K HK
        go_wp2_with fail
        refine (HPS.out _ ns x _ OTT.out.reads (by omega) (by omega)).mono ?_
        rintro r Vg5q4 ⟨vP, rfl, oP, hbg5q4⟩
        rw [HR.out] at oP
        rw [HRB.out]
        obtain ⟨AS, cS, rfl, _, _⟩ := oP.reads.lenN
        go_wp2_with fail
        have hSg5q4 : (fun V => Below w0.heap.size w0 V) Vg5q4 := bstep hSg5q3 hbg5q4
        refine HK.out _ _ (fun _ => hSg5q4) ?_
        clear HK
        have ON := Lib.hid oP.lt
        clear oP
        try replace QB := Lib.hid (box_on QB.out hbg5q4)
        have hzg5q4 := hbg5q4.size
        refine but_take (f := 10) (i := 5) (v := ?vg5q5) rfl (by kernel_rfl) (by kernel_rfl) (by kernel_rfl) (by kernel_rfl) (by kernel_rfl) (fun _ _ _ h => h) (Or.inl ⟨(by rfl), ?hyg5q5⟩) hSg5q4 ?restg5q5
        case hyg5q5 =>
          intro W hW
          go_simp
          exact rfl
        simp only [List.getElem_toArray, List.getElem_cons_succ, List.getElem_cons_zero, Act.put, List.setIfInBounds_toArray, List.set_cons_zero, List.set_cons_succ]
        refine but_take (f := 10) (i := 6) (v := ?vg5q6) rfl (by kernel_rfl) (by kernel_rfl) (by kernel_rfl) (by kernel_rfl) (by kernel_rfl) (fun _ _ _ h => h) (Or.inl ⟨(by rfl), ?hyg5q6⟩) hSg5q4 ?restg5q6
        case hyg5q6 =>
          intro W hW
          go_simp
          exact rfl
        simp only [List.getElem_toArray, List.getElem_cons_succ, List.getElem_cons_zero, Act.put, List.setIfInBounds_toArray, List.set_cons_zero, List.set_cons_succ]
        refine but_take (f := 10) (i := 7) (v := ?vg5q7) rfl (by kernel_rfl) (by kernel_rfl) (by kernel_rfl) (by kernel_rfl) (by kernel_rfl) (fun _ _ _ h => h) (Or.inl ⟨(by rfl), ?hyg5q7⟩) hSg5q4 ?restg5q7
        case hyg5q7 =>
          intro W hW
          go_simp
          exact rfl
        simp only [List.getElem_toArray, List.getElem_cons_succ, List.getElem_cons_zero, Act.put, List.setIfInBounds_toArray, List.set_cons_zero, List.set_cons_succ]
        refine but_run (i := 9) (by kernel_rfl) rfl (by rfl) ?_
        simp only [List.getElem_toArray, List.getElem_cons_succ, List.getElem_cons_zero]
        intro K HK
        obtain ⟨z0, z1⟩ := box1N QB.out
        go_wp2_with fail
        have hSg5q5 : (fun V => Below w0.heap.size w0 V) (Vg5q4.setCell ⟨w0.heap.size, 0, none⟩ (.slice AS R.length cS)) := Below.setCell hSg5q4 (p := ⟨w0.heap.size, 0, none⟩) (show w0.heap.size ≤ w0.heap.size by omega) _
        refine HK.out _ _ (fun _ => hSg5q5) ?_
        clear HK
        have QB2 := Lib.hid (box_set (i := 0) (u := .slice AS R.length cS) QB.out)
        have ON2 := Lib.hid (Owns.setFar (u := .slice AS R.length cS) (j := 0) (ON.out.mono (T := fun b => w0.heap.size ≤ b ∧ b ≠ w0.heap.size) (fun b hb => ⟨by omega, by omega⟩)) (fun h => h.2 rfl))
        refine but_run (i := 10) (by kernel_rfl) rfl (by rfl) ?_
        simp only [List.getElem_toArray, List.getElem_cons_succ, List.getElem_cons_zero]
        intro K HK
        go_wp2_with fail
        refine HK.out _ _ (fun h => absurd rfl h) ?_
        clear HK
        refine but_done (by kernel_rfl) ?_
        go_wp2_with fail
        go_meet
        exact ⟨w0.heap.size, _, rfl, rfl, by omega, QB2, ON2, Lib.hid hSg5q5⟩
    case rest =>
      obtain ⟨pbS, vq, rfl, rfl, hpbS, QS, OS, BX⟩ := hcut
      obtain ⟨AS, cS, rfl, _, _⟩ := OS.out.reads.lenN
      obtain ⟨w1, rfl⟩ : ∃ W, W = wc := ⟨_, rfl⟩
      replace QN := Lib.hid (box_on QN.out BX.out)
      replace QK := Lib.hid (box_on QK.out BX.out)
      replace BB := Lib.hid (bstep BB.out BX.out)
      have zw1 := BX.out.size
      have lS := (Array.getElem?_eq_some_iff.1 QS.out).1
      replace OS := Lib.hid OS.out.lt
      clear BX hdr
      clear d0
      obtain ⟨N0, N1⟩ := box1N QN.out
      obtain ⟨K0, K1, K2, K3, K4, K5⟩ := box5 QK.out
      obtain ⟨S0, S1⟩ := box1N QS.out
      go_wp2_with fail
      refine (HT.out _ BB.out).mono ?_
      clear N0 N1 K0 K1 K2 K3 K4 K5 S0 S1
      rintro r w2 ⟨vX, rfl, o, b⟩
      have zX := b.size
      replace OS := Lib.hid (OS.out.on b)
      replace QN := Lib.hid (box_on QN.out b)
      replace QK := Lib.hid (box_on QK.out b)
      replace QS := Lib.hid (box_on QS.out b)
      replace BB := Lib.hid (bstep BB.out b)
      have OX := Lib.hid o.lt
      clear o b
      obtain ⟨AX, cX, rfl, _, _⟩ := OX.out.reads.lenN
      have ba := bal1 w2 (.cells #[.slice AX ns.length cX] 26)
      have QX := Lib.hid (al1 w2 (.cells #[.slice AX ns.length cX] 26))
      have hw3 : (w2.alloc (.cells #[.slice AX ns.length cX] 26)).heap.size = w2.heap.size + 1 := by simp
      replace OS := Lib.hid (OS.out.on ba)
      replace OX := Lib.hid (OX.out.on ba)
      replace QN := Lib.hid (box_on QN.out ba)
      replace QK := Lib.hid (box_on QK.out ba)
      replace QS := Lib.hid (box_on QS.out ba)
      replace BB := Lib.hid (bstep BB.out ba)
      clear ba
      have yw3 := Lib.hid hw3
      clear hw3
      obtain ⟨N0, N1⟩ := box1N QN.out
      obtain ⟨K0, K1, K2, K3, K4, K5⟩ := box5 QK.out
      obtain ⟨S0, S1⟩ := box1N QS.out
      go_upto_region 7 with (fail)
      clear N0 N1 K0 K1 K2 K3 K4 K5 S0 S1
      generalize w2.alloc (.cells #[.slice AX ns.length cX] 26) = w3 at *
      have xw3 := Nat.le_of_eq yw3.out
      have uw3 := Nat.le_of_eq yw3.out.symm
      clear yw3
      have hdr : w3.heap.size ≤ w3.drew.heap.size := Nat.le_refl _
      go_upto_region 7 with (fail)
      go_cut [9, 10] (fun s6 s7 wx => ∃ pb vq, s6 = .pointer (some ⟨pb, 0, none⟩) ∧ s7 = .bool RB ∧ w3.heap.size ≤ pb ∧ Hid (wx.heap[pb]? = some (.cells #[vq] 26)) ∧ Hid (Owns wx (fun b => w3.heap.size ≤ b ∧ b ≠ pb) vq (setsD R)) ∧ Hid (Below w3.heap.size w3 wx))
      case first =>
        refine but_begin (f := 9) (S := fun V => Below w3.heap.size w3 V) (by kernel_rfl) ?_
        refine but_take (f := 9) (i := 0) (v := ?vg70) rfl (by kernel_rfl) (by kernel_rfl) (by kernel_rfl) (by kernel_rfl) (by kernel_rfl) (fun _ _ _ h => h) (Or.inl ⟨(by rfl), ?hyg70⟩) (Below.drew1 _) ?restg70
        case hyg70 =>
          intro W hW
          obtain ⟨X0, X1⟩ := box1N (box_on QX.out hW)
          go_simp
          exact rfl
        simp only [List.getElem_toArray, List.getElem_cons_succ, List.getElem_cons_zero, Act.put, List.setIfInBounds_toArray, List.set_cons_zero, List.set_cons_succ]
        refine but_take (f := 9) (i := 1) (v := ?vg71) rfl (by kernel_rfl) (by kernel_rfl) (by kernel_rfl) (by kernel_rfl) (by kernel_rfl) (fun _ _ _ h => h) (Or.inl ⟨(by rfl), ?hyg71⟩) (Below.drew1 _) ?restg71
        case hyg71 =>
          intro W hW
          obtain ⟨K0, K1, K2, K3, K4, K5⟩ := box5 (box_on QK.out hW)
          go_simp
          exact rfl
        simp only [List.getElem_toArray, List.getElem_cons_succ, List.getElem_cons_zero, Act.put, List.setIfInBounds_toArray, List.set_cons_zero, List.set_cons_succ]
        refine but_two (i := 2) (j := 7) (by kernel_rfl) rfl rfl (by rfl) (by rfl) ?_ ?_
        · simp only [List.getElem_toArray, List.getElem_cons_succ, List.getElem_cons_zero]
          intro K HK
          go_wp2_with fail
          refine (HKY.out _).mono ?_
          rintro r Vg7p1 ⟨rfl, hbg7p1⟩
          go_wp2_with fail
          have hSg7p1 : (fun V => Below w3.heap.size w3 V) Vg7p1 := bstep (Below.drew1 _) hbg7p1
          refine HK.out _ _ (fun _ => hSg7p1) ?_
          clear HK
          try replace OTT := Lib.hid (OTT.out.on hbg7p1)
          try replace QB := Lib.hid (box_on QB.out hbg7p1)
          have hzg7p1 := hbg7p1.size
          refine but_two (i := 3) (j := 7) (by kernel_rfl) rfl rfl (by rfl) (by rfl) ?_ ?_
          · simp only [List.getElem_toArray, List.getElem_cons_succ, List.getElem_cons_zero]
            intro K HK
            go_wp2_with fail
            refine (HPI.out _ ns x _ (OX.out.on hSg7p1).reads (by omega) (by omega)).mono ?_
            rintro r Vg7pp2 ⟨vP, rfl, oP, hbg7pp2⟩
            rw [HR.out] at oP
            rw [HRB.out]
            obtain ⟨AG, cG, rfl, _, _⟩ := oP.reads.lenN
            go_wp2_with fail
            have hSg7pp2 : (fun V => Below w3.heap.size w3 V) Vg7pp2 := bstep hSg7p1 hbg7pp2
            refine HK.out _ _ (fun _ => hSg7pp2) ?_
            clear HK
            have ON := Lib.hid oP.lt
            clear oP
            try replace QB := Lib.hid (box_on QB.out hbg7pp2)
            have hzg7pp2 := hbg7pp2.size
            refine but_take (f := 9) (i := 4) (v := ?vg7pp4) rfl (by kernel_rfl) (by kernel_rfl) (by kernel_rfl) (by kernel_rfl) (by kernel_rfl) (fun _ _ _ h => h) (Or.inl ⟨(by rfl), ?hyg7pp4⟩) hSg7pp2 ?restg7pp4
            case hyg7pp4 =>
              intro W hW
              go_simp
              exact rfl
            simp only [List.getElem_toArray, List.getElem_cons_succ, List.getElem_cons_zero, Act.put, List.setIfInBounds_toArray, List.set_cons_zero, List.set_cons_succ]
            refine but_take (f := 9) (i := 5) (v := ?vg7pp5) rfl (by kernel_rfl) (by kernel_rfl) (by kernel_rfl) (by kernel_rfl) (by kernel_rfl) (fun _ _ _ h => h) (Or.inl ⟨(by rfl), ?hyg7pp5⟩) hSg7pp2 ?restg7pp5
            case hyg7pp5 =>
              intro W hW
              go_simp
              exact rfl
            simp only [List.getElem_toArray, List.getElem_cons_succ, List.getElem_cons_zero, Act.put, List.setIfInBounds_toArray, List.set_cons_zero, List.set_cons_succ]
            refine but_take (f := 9) (i := 6) (v := ?vg7pp6) rfl (by kernel_rfl) (by kernel_rfl) (by kernel_rfl) (by kernel_rfl) (by kernel_rfl) (fun _ _ _ h => h) (Or.inl ⟨(by rfl), ?hyg7pp6⟩) hSg7pp2 ?restg7pp6
            case hyg7pp6 =>
              intro W hW
              go_simp
              exact rfl
            simp only [List.getElem_toArray, List.getElem_cons_succ, List.getElem_cons_zero, Act.put, List.setIfInBounds_toArray, List.set_cons_zero, List.set_cons_succ]
            refine but_run (i := 7) (by kernel_rfl) rfl (by rfl) ?_
            simp only [List.getElem_toArray, List.getElem_cons_succ, List.getElem_cons_zero]
            intro K HK
            go_wp2_with fail
            have hSg7pp3 : (fun V => Below w3.heap.size w3 V) (Vg7pp2.alloc (.cells #[.slice none 0 0] 26)) := bstep hSg7pp2 (bal1 _ _)
            refine HK.out _ _ (fun _ => hSg7pp3) ?_
            clear HK
            have QB := Lib.hid (al1 Vg7pp2 (.cells #[.slice none 0 0] 26))
            try (change Hid ((w3.drew.alloc (.cells #[.slice none 0 0] 26)).heap[w3.heap.size]? = some (.cells #[.slice none 0 0] 26)) at QB)
            try have ON0 := ON
            try replace OTT := Lib.hid (OTT.out.on (bal1 _ (.cells #[.slice none 0 0] 26)))
            try replace ON := Lib.hid (ON.out.on (bal1 _ (.cells #[.slice none 0 0] 26)))
            have hzg7pp3 : (Vg7pp2.alloc (.cells #[.slice none 0 0] 26)).heap.size ≤ Vg7pp2.heap.size + 1 := by simp
            have hyg7pp3 : Vg7pp2.heap.size + 1 ≤ (Vg7pp2.alloc (.cells #[.slice none 0 0] 26)).heap.size := by simp
            have hvg7pp3 : w3.heap.size + 1 ≤ (w3.alloc (.cells #[.slice none 0 0] 26)).drew.heap.size := by show w3.heap.size + 1 ≤ (w3.alloc (.cells #[.slice none 0 0] 26)).heap.size; simp
            refine but_run (i := 8) (by kernel_rfl) rfl (by rfl) ?_
            simp only [List.getElem_toArray, List.getElem_cons_succ, List.getElem_cons_zero]
            intro K HK
            obtain ⟨z0, z1⟩ := box1N QB.out
            go_wp2_with fail
            have hSg7pp4 : (fun V => Below w3.heap.size w3 V) (Vg7pp2.alloc (.cells #[.slice AG R.length cG] 26)) := bstep hSg7pp2 (bal1 _ _)
            refine HK.out _ _ (fun _ => hSg7pp4) ?_
            clear HK
            have QB2 := Lib.hid (al1 Vg7pp2 (.cells #[.slice AG R.length cG] 26))
            have ON2 := Lib.hid ((ON0.out.on (bal1 _ (.cells #[.slice AG R.length cG] 26))).mono (T := fun b => w3.heap.size ≤ b ∧ b ≠ Vg7pp2.heap.size) (fun b hb => ⟨by omega, by omega⟩))
            refine but_run (i := 9) (by kernel_rfl) rfl (by rfl) ?_
            simp only [List.getElem_toArray, List.getElem_cons_succ, List.getElem_cons_zero]
            intro K HK
            go_wp2_with fail
            refine HK.out _ _ (fun h => absurd rfl h) ?_
            clear HK
            refine but_done (by kernel_rfl) ?_
            go_wp2_with fail
            go_meet
            exact ⟨Vg7pp2.heap.size, _, rfl, rfl, by omega, QB2, ON2, Lib.hid hSg7pp4⟩
          · simp only [List.getElem_toArray, List.getElem_cons_succ, List.getElem_cons_zero]
            intro K HK
            go_wp2_with fail
            have hSg7pq2 : (fun V => Below w3.heap.size w3 V) (Vg7p1.alloc (.cells #[.slice none 0 0] 26)) := bstep hSg7p1 (bal1 _ _)
            refine HK.out _ _ (fun _ => hSg7pq2) ?_
            clear HK
            have QB := Lib.hid (al1 Vg7p1 (.cells #[.slice none 0 0] 26))
            try (change Hid ((w3.drew.alloc (.cells #[.slice none 0 0] 26)).heap[w3.heap.size]? = some (.cells #[.slice none 0 0] 26)) at QB)
            try have ON0 := ON
            try replace OTT := Lib.hid (OTT.out.on (bal1 _ (.cells #[.slice none 0 0] 26)))
            try replace ON := Lib.hid (ON.out.on (bal1 _ (.cells #[.slice none 0 0] 26)))
            have hzg7pq2 : (Vg7p1.alloc (.cells #[.slice none 0 0] 26)).heap.size ≤ Vg7p1.heap.size + 1 := by simp
            have hyg7pq2 : Vg7p1.heap.size + 1 ≤ (Vg7p1.alloc (.cells #[.slice none 0 0] 26)).heap.size := by simp
            have hvg7pq2 : w3.heap.size + 1 ≤ (w3.alloc (.cells #[.slice none 0 0] 26)).drew.heap.size := by show w3.heap.size + 1 ≤ (w3.alloc (.cells #[.slice none 0 0] 26)).heap.size; simp
            refine but_run (i := 3) (by kernel_rfl) rfl (by rfl) ?_
            simp only [List.getElem_toArray, List.getElem_cons_succ, List.getElem_cons_zero]
            intro K HK
            go_wp2_with fail
            refine (HPI.out _ ns x _ (OX.out.on hSg7pq2).reads (by omega) (by omega)).mono ?_
            rintro r Vg7pq3 ⟨vP, rfl, oP, hbg7pq3⟩
            rw [HR.out] at oP
            rw [HRB.out]
            obtain ⟨AG, cG, rfl, _, _⟩ := oP.reads.lenN
            go_wp2_with fail
            have hSg7pq3 : (fun V => Below w3.heap.size w3 V) Vg7pq3 := bstep hSg7pq2 hbg7pq3
            refine HK.out _ _ (fun _ => hSg7pq3) ?_
            clear HK
            have ON := Lib.hid oP.lt
            clear oP
            try replace QB := Lib.hid (box_on QB.out hbg7pq3)
            have hzg7pq3 := hbg7pq3.size
            refine but_take (f := 9) (i := 4) (v := ?vg7pq4) rfl (by kernel_rfl) (by kernel_rfl) (by kernel_rfl) (by kernel_rfl) (by kernel_rfl) (fun _ _ _ h => h) (Or.inl ⟨(by rfl), ?hyg7pq4⟩) hSg7pq3 ?restg7pq4
            case hyg7pq4 =>
              intro W hW
              go_simp
              exact rfl
            simp only [List.getElem_toArray, List.getElem_cons_succ, List.getElem_cons_zero, Act.put, List.setIfInBounds_toArray, List.set_cons_zero, List.set_cons_succ]
            refine but_take (f := 9) (i := 5) (v := ?vg7pq5) rfl (by kernel_rfl) (by kernel_rfl) (by kernel_rfl) (by kernel_rfl) (by kernel_rfl) (fun _ _ _ h => h) (Or.inl ⟨(by rfl), ?hyg7pq5⟩) hSg7pq3 ?restg7pq5
            case hyg7pq5 =>
              intro W hW
              go_simp
              exact rfl
            simp only [List.getElem_toArray, List.getElem_cons_succ, List.getElem_cons_zero, Act.put, List.setIfInBounds_toArray, List.set_cons_zero, List.set_cons_succ]
            refine but_take (f := 9) (i := 6) (v := ?vg7pq6) rfl (by kernel_rfl) (by kernel_rfl) (by kernel_rfl) (by kernel_rfl) (by kernel_rfl) (fun _ _ _ h => h) (Or.inl ⟨(by rfl), ?hyg7pq6⟩) hSg7pq3 ?restg7pq6
            case hyg7pq6 =>
              intro W hW
              go_simp
              exact rfl
            simp only [List.getElem_toArray, List.getElem_cons_succ, List.getElem_cons_zero, Act.put, List.setIfInBounds_toArray, List.set_cons_zero, List.set_cons_succ]
            refine but_run (i := 8) (by kernel_rfl) rfl (by rfl) ?_
            simp only [List.getElem_toArray, List.getElem_cons_succ, List.getElem_cons_zero]
            intro K HK
            obtain ⟨z0, z1⟩ := box1N QB.out
            go_wp2_with fail
            have hSg7pq4 : (fun V => Below w3.heap.size w3 V) (Vg7pq3.setCell ⟨Vg7p1.heap.size, 0, none⟩ (.slice AG R.length cG)) := Below.setCell hSg7pq3 (p := ⟨Vg7p1.heap.size, 0, none⟩) (show w3.heap.size ≤ Vg7p1.heap.size by omega) _
            refine HK.out _ _ (fun _ => hSg7pq4) ?_
            clear HK
            have QB2 := Lib.hid (box_set (i := 0) (u := .slice AG R.length cG) QB.out)
            have ON2 := Lib.hid (Owns.setFar (u := .slice AG R.length cG) (j := 0) (ON.out.mono (T := fun b => w3.heap.size ≤ b ∧ b ≠ Vg7p1.heap.size) (fun b hb => ⟨by omega, by omega⟩)) (fun h => h.2 rfl))
            refine but_run (i := 9) (by kernel_rfl) rfl (by rfl) ?_
            simp only [List.getElem_toArray, List.getElem_cons_succ, List.getElem_cons_zero]
            intro K HK
            go_wp2_with fail
            refine HK.out _ _ (fun h => absurd rfl h) ?_
            clear HK
            refine but_done (by kernel_rfl) ?_
            go_wp2_with fail
            go_meet
            exact ⟨Vg7p1.heap.size, _, rfl, rfl, by omega, QB2, ON2, Lib.hid hSg7pq4⟩
        · simp only [List.getElem_toArray, List.getElem_cons_succ, List.getElem_cons_zero]
          intro K HK
          go_wp2_with fail
          have hSg7q1 : (fun V => Below w3.heap.size w3 V) (w3.drew.alloc (.cells #[.slice none 0 0] 26)) := bstep (Below.drew1 _) (bal1 _ _)
          refine HK.out _ _ (fun _ => hSg7q1) ?_
          clear HK
          have QB := Lib.hid (al1 w3.drew (.cells #[.slice none 0 0] 26))
          try (change Hid ((w3.drew.alloc (.cells #[.slice none 0 0] 26)).heap[w3.heap.size]? = some (.cells #[.slice none 0 0] 26)) at QB)
          try have ON0 := ON
          try replace OTT := Lib.hid (OTT.out.on (bal1 _ (.cells #[.slice none 0 0] 26)))
          try replace ON := Lib.hid (ON.out.on (bal1 _ (.cells #[.slice none 0 0] 26)))
          have hzg7q1 : (w3.drew.alloc (.cells #[.slice none 0 0] 26)).heap.size ≤ w3.drew.heap.size + 1 := by simp
          have hyg7q1 : w3.drew.heap.size + 1 ≤ (w3.drew.alloc (.cells #[.slice none 0 0] 26)).heap.size := by simp
          have hvg7q1 : w3.heap.size + 1 ≤ (w3.alloc (.cells #[.slice none 0 0] 26)).drew.heap.size := by show w3.heap.size + 1 ≤ (w3.alloc (.cells #[.slice none 0 0] 26)).heap.size; simp
          refine but_run (i := 2) (by kernel_rfl) rfl (by rfl) ?_
          simp only [List.getElem_toArray, List.getElem_cons_succ, List.getElem_cons_zero]
          intro K HK
          go_wp2_with fail
          refine (HKY.out _).mono ?_
          rintro r Vg7q2 ⟨rfl, hbg7q2⟩
          go_wp2_with fail
          have hSg7q2 : (fun V => Below w3.heap.size w3 V) Vg7q2 := bstep hSg7q1 hbg7q2
          refine HK.out _ _ (fun _ => hSg7q2) ?_
          clear HK
          try replace OTT := Lib.hid (OTT.out.on hbg7q2)
          try replace QB := Lib.hid (box_on QB.out hbg7q2)
          have hzg7q2 := hbg7q2.size
          refine but_run (i := 3) (by kernel_rfl) rfl (by rfl) ?_
          simp only [List.getElem_toArray, List.getElem_cons_succ, List.getElem_cons_zero]
          intro K HK
          go_wp2_with fail
          refine (HPI.out _ ns x _ (OX.out.on hSg7q2).reads (by omega) (by omega)).mono ?_
          rintro r Vg7q3 ⟨vP, rfl, oP, hbg7q3⟩
          rw [HR.out] at oP
          rw [HRB.out]
          obtain ⟨AG, cG, rfl, _, _⟩ := oP.reads.lenN
          go_wp2_with fail
          have hSg7q3 : (fun V => Below w3.heap.size w3 V) Vg7q3 := bstep hSg7q2 hbg7q3
          refine HK.out _ _ (fun _ => hSg7q3) ?_
          clear HK
          have ON := Lib.hid oP.lt
          clear oP
          try replace QB := Lib.hid (box_on QB.out hbg7q3)
          have hzg7q3 := hbg7q3.size
          refine but_take (f := 9) (i := 4) (v := ?vg7q4) rfl (by kernel_rfl) (by kernel_rfl) (by kernel_rfl) (by kernel_rfl) (by kernel_rfl) (fun _ _ _ h => h) (Or.inl ⟨(by rfl), ?hyg7q4⟩) hSg7q3 ?restg7q4
          case hyg7q4 =>
            intro W hW
            go_simp
            exact rfl
          simp only [List.getElem_toArray, List.getElem_cons_succ, List.getElem_cons_zero, Act.put, List.setIfInBounds_toArray, List.set_cons_zero, List.set_cons_succ]
          refine but_take (f := 9) (i := 5) (v := ?vg7q5) rfl (by kernel_rfl) (by kernel_rfl) (by kernel_rfl) (by kernel_rfl) (by kernel_rfl) (fun _ _ _ h => h) (Or.inl ⟨(by rfl), ?hyg7q5⟩) hSg7q3 ?restg7q5
          case hyg7q5 =>
            intro W hW
            go_simp
            exact rfl
          simp only [List.getElem_toArray, List.getElem_cons_succ, List.getElem_cons_zero, Act.put, List.setIfInBounds_toArray, List.set_cons_zero, List.set_cons_succ]
          refine but_take (f := 9) (i := 6) (v := ?vg7q6) rfl (by kernel_rfl) (by kernel_rfl) (by kernel_rfl) (by kernel_rfl) (by kernel_rfl) (fun _ _ _ h => h) (Or.inl ⟨(by rfl), ?hyg7q6⟩) hSg7q3 ?restg7q6
          case hyg7q6 =>
            intro W hW
            go_simp
            exact rfl
          simp only [List.getElem_toArray, List.getElem_cons_succ, List.getElem_cons_zero, Act.put, List.setIfInBounds_toArray, List.set_cons_zero, List.set_cons_succ]
          refine but_run (i := 8) (by kernel_rfl) rfl (by rfl) ?_
          simp only [List.getElem_toArray, List.getElem_cons_succ, List.getElem_cons_zero]
          intro K HK
          obtain ⟨z0, z1⟩ := box1N QB.out
          go_wp2_with fail
          have hSg7q4 : (fun V => Below w3.heap.size w3 V) (Vg7q3.setCell ⟨w3.heap.size, 0, none⟩ (.slice AG R.length cG)) := Below.setCell hSg7q3 (p := ⟨w3.heap.size, 0, none⟩) (show w3.heap.size ≤ w3.heap.size by omega) _
          refine HK.out _ _ (fun _ => hSg7q4) ?_
          clear HK
          have QB2 := Lib.hid (box_set (i := 0) (u := .slice AG R.length cG) QB.out)
          have ON2 := Lib.hid (Owns.setFar (u := .slice AG R.length cG) (j := 0) (ON.out.mono (T := fun b => w3.heap.size ≤ b ∧ b ≠ w3.heap.size) (fun b hb => ⟨by omega, by omega⟩)) (fun h => h.2 rfl))
          refine but_run (i := 9) (by kernel_rfl) rfl (by rfl) ?_
          simp only [List.getElem_toArray, List.getElem_cons_succ, List.getElem_cons_zero]
          intro K HK
          go_wp2_with fail
          refine HK.out _ _ (fun h => absurd rfl h) ?_
          clear HK
          refine but_done (by kernel_rfl) ?_
          go_wp2_with fail
          go_meet
          exact ⟨w3.heap.size, _, rfl, rfl, by omega, QB2, ON2, Lib.hid hSg7q4⟩
      case rest =>
        obtain ⟨pbG, vq, rfl, rfl, hpbG, QG, OG, BX⟩ := hcut
        obtain ⟨AG, cG, rfl, _, _⟩ := OG.out.reads.lenN
        obtain ⟨w4, rfl⟩ : ∃ W, W = wc := ⟨_, rfl⟩
        replace OS := Lib.hid (OS.out.on BX.out)
        replace OX := Lib.hid (OX.out.on BX.out)
        replace QN := Lib.hid (box_on QN.out BX.out)
        replace QK := Lib.hid (box_on QK.out BX.out)
        replace QS := Lib.hid (box_on QS.out BX.out)
        replace QX := Lib.hid (box_on QX.out BX.out)
        replace BB := Lib.hid (bstep BB.out BX.out)
        have zw4 := BX.out.size
        have lG := (Array.getElem?_eq_some_iff.1 QG.out).1
        replace OG := Lib.hid OG.out.lt
        clear BX hdr
        obtain ⟨N0, N1⟩ := box1N QN.out
        obtain ⟨K0, K1, K2, K3, K4, K5⟩ := box5 QK.out
        obtain ⟨S0, S1⟩ := box1N QS.out
        obtain ⟨X0, X1⟩ := box1N QX.out
        obtain ⟨G0, G1⟩ := box1N QG.out
        go_wp2_with fail
        refine (eqNode_same _ _ R _ OG.out.reads OS.out.reads hsR.out).mono ?_
        clear N0 N1 K0 K1 K2 K3 K4 K5 S0 S1 X0 X1 G0 G1
        rintro r w5 ⟨rfl, b⟩
        have z5 := b.size
        replace OS := Lib.hid (OS.out.on b)
        replace OX := Lib.hid (OX.out.on b)
        replace OG := Lib.hid (OG.out.on b)
        replace QN := Lib.hid (box_on QN.out b)
        replace QK := Lib.hid (box_on QK.out b)
        replace QS := Lib.hid (box_on QS.out b)
        replace QX := Lib.hid (box_on QX.out b)
        replace QG := Lib.hid (box_on QG.out b)
        replace BB := Lib.hid (bstep BB.out b)
        clear b
        obtain ⟨N0, N1⟩ := box1N QN.out
        obtain ⟨K0, K1, K2, K3, K4, K5⟩ := box5 QK.out
        obtain ⟨S0, S1⟩ := box1N QS.out
        obtain ⟨X0, X1⟩ := box1N QX.out
        obtain ⟨G0, G1⟩ := box1N QG.out
        go_upto_region 10 with (fail)
        go_region_held3 (fun V => V.cell? ⟨w.heap.size, 0, none⟩ = some (.slice A ns.length c) ∧ V.cell? ⟨w.heap.size + 1, 0, none⟩ = some (.int .i64 x.a) ∧ V.cell? ⟨w.heap.size + 1, 1, none⟩ = some (.int .i64 x.b) ∧ V.cell? ⟨w.heap.size + 1, 2, none⟩ = some (.int .i64 x.c) ∧ V.cell? ⟨w.heap.size + 1, 3, none⟩ = some (.int .i64 x.d) ∧ V.cell? ⟨w.heap.size + 1, 4, none⟩ = some (.int .i64 x.e) ∧ V.cell? ⟨pbS, 0, none⟩ = some (.slice AS R.length cS) ∧ V.cell? ⟨w2.heap.size, 0, none⟩ = some (.slice AX ns.length cX) ∧ V.cell? ⟨pbG, 0, none⟩ = some (.slice AG R.length cG))
          (first | with_reducible exact ⟨(box1N (box_on QN.out (bstep (bstep (Below.drew1 _) b1p5) b2p5))).1, (box5 (box_on QK.out (bstep (bstep (Below.drew1 _) b1p5) b2p5))).1, (box5 (box_on QK.out (bstep (bstep (Below.drew1 _) b1p5) b2p5))).2.1, (box5 (box_on QK.out (bstep (bstep (Below.drew1 _) b1p5) b2p5))).2.2.1, (box5 (box_on QK.out (bstep (bstep (Below.drew1 _) b1p5) b2p5))).2.2.2.1, (box5 (box_on QK.out (bstep (bstep (Below.drew1 _) b1p5) b2p5))).2.2.2.2.1, (box1N (box_on QS.out (bstep (bstep (Below.drew1 _) b1p5) b2p5))).1, (box1N (box_on QX.out (bstep (bstep (Below.drew1 _) b1p5) b2p5))).1, (box1N (box_on QG.out (bstep (bstep (Below.drew1 _) b1p5) b2p5))).1⟩ | with_reducible exact ⟨(box1N (box_on QN.out (bstep (Below.drew1 _) b1p5))).1, (box5 (box_on QK.out (bstep (Below.drew1 _) b1p5))).1, (box5 (box_on QK.out (bstep (Below.drew1 _) b1p5))).2.1, (box5 (box_on QK.out (bstep (Below.drew1 _) b1p5))).2.2.1, (box5 (box_on QK.out (bstep (Below.drew1 _) b1p5))).2.2.2.1, (box5 (box_on QK.out (bstep (Below.drew1 _) b1p5))).2.2.2.2.1, (box1N (box_on QS.out (bstep (Below.drew1 _) b1p5))).1, (box1N (box_on QX.out (bstep (Below.drew1 _) b1p5))).1, (box1N (box_on QG.out (bstep (Below.drew1 _) b1p5))).1⟩ | with_reducible exact ⟨(box1N (box_on QN.out (Below.drew1 _))).1, (box5 (box_on QK.out (Below.drew1 _))).1, (box5 (box_on QK.out (Below.drew1 _))).2.1, (box5 (box_on QK.out (Below.drew1 _))).2.2.1, (box5 (box_on QK.out (Below.drew1 _))).2.2.2.1, (box5 (box_on QK.out (Below.drew1 _))).2.2.2.2.1, (box1N (box_on QS.out (Below.drew1 _))).1, (box1N (box_on QX.out (Below.drew1 _))).1, (box1N (box_on QG.out (Below.drew1 _))).1⟩ | exact ⟨N0, K0, K1, K2, K3, K4, S0, X0, G0⟩ | fail)
          (first
            | (go_at_call 36; refine (eqNode_same _ _ ns _ (OX.out.on (bstep (Below.drew1 _) b1p5)).reads oop5.reads hs.out).mono ?_; rintro r u2p5 ⟨rfl, b2p5⟩)
            | (go_at_call 35; refine (HT.out _ (bstep BB.out (Below.drew1 _))).mono ?_; rintro r u1p5 ⟨vvp5, rfl, oop5, b1p5⟩; obtain ⟨AAp5, ccp5, rfl, _, _⟩ := oop5.reads.lenN)
            | fail)
        clear N0 N1 K0 K1 K2 K3 K4 K5 S0 S1 X0 X1 G0 G1
        have b := bstep (bstep (Below.drew1 _) b1p5) b2p5
        have zp5 := b.size
        replace OS := Lib.hid (OS.out.on b)
        replace OX := Lib.hid (OX.out.on b)
        replace OG := Lib.hid (OG.out.on b)
        replace QN := Lib.hid (box_on QN.out b)
        replace QK := Lib.hid (box_on QK.out b)
        replace QS := Lib.hid (box_on QS.out b)
        replace QX := Lib.hid (box_on QX.out b)
        replace QG := Lib.hid (box_on QG.out b)
        replace BB := Lib.hid (bstep BB.out b)
        clear b b1p5 b2p5 oop5
        obtain ⟨N0, N1⟩ := box1N QN.out
        obtain ⟨K0, K1, K2, K3, K4, K5⟩ := box5 QK.out
        obtain ⟨S0, S1⟩ := box1N QS.out
        obtain ⟨X0, X1⟩ := box1N QX.out
        obtain ⟨G0, G1⟩ := box1N QG.out
        go_wp2_with fail
        refine (markNode_any _ _ ns 1 _ OX.out (fun b hb => by omega) hs.out (by omega) (by omega)).mono ?_
        clear N0 N1 K0 K1 K2 K3 K4 K5 S0 S1 X0 X1 G0 G1
        rintro r w6 ⟨rfl, o, g⟩
        have z6 := g.size
        replace OS := Lib.hid (OS.out.far g (fun b hb _ hb' => by omega))
        replace OG := Lib.hid (OG.out.far g (fun b hb _ hb' => by omega))
        replace QN := Lib.hid (box_only QN.out g (fun hb => by omega))
        replace QK := Lib.hid (box_only QK.out g (fun hb => by omega))
        replace QS := Lib.hid (box_only QS.out g (fun hb => by omega))
        replace QX := Lib.hid (box_only QX.out g (fun hb => by omega))
        replace QG := Lib.hid (box_only QG.out g (fun hb => by omega))
        replace BB := Lib.hid (BB.out.trans (g.below BB.out.size (fun b hb => by omega)))
        replace OX := Lib.hid o
        clear o g
        have d1 : decide ((1 : Int) + ((sumN ns * 5 : Nat) : Int) < 0) = false := decide_eq_false (by omega)
        clear OX
        clear QX
        obtain ⟨N0, N1⟩ := box1N QN.out
        obtain ⟨K0, K1, K2, K3, K4, K5⟩ := box5 QK.out
        obtain ⟨S0, S1⟩ := box1N QS.out
        obtain ⟨G0, G1⟩ := box1N QG.out
        go_wp2_with fail
        refine (eqNode_same _ _ R _ OG.out.reads OS.out.reads hsR.out).mono ?_
        clear N0 N1 K0 K1 K2 K3 K4 K5 S0 S1 G0 G1
        rintro r w7 ⟨rfl, b⟩
        have z7 := b.size
        replace OS := Lib.hid (OS.out.on b)
        replace OG := Lib.hid (OG.out.on b)
        replace QN := Lib.hid (box_on QN.out b)
        replace QK := Lib.hid (box_on QK.out b)
        replace QS := Lib.hid (box_on QS.out b)
        replace QG := Lib.hid (box_on QG.out b)
        replace BB := Lib.hid (bstep BB.out b)
        clear b
        clear d1
        obtain ⟨N0, N1⟩ := box1N QN.out
        obtain ⟨K0, K1, K2, K3, K4, K5⟩ := box5 QK.out
        obtain ⟨S0, S1⟩ := box1N QS.out
        obtain ⟨G0, G1⟩ := box1N QG.out
        go_wp2_with fail
        refine (markNode_any _ _ R 1 _ OG.out (fun b hb => by omega) hsR.out (by omega) (by omega)).mono ?_
        clear N0 N1 K0 K1 K2 K3 K4 K5 S0 S1 G0 G1
        rintro r w8 ⟨rfl, o, g⟩
        have z8 := g.size
        replace OS := Lib.hid (OS.out.far g (fun b hb _ hb' => by omega))
        replace QN := Lib.hid (box_only QN.out g (fun hb => by omega))
        replace QK := Lib.hid (box_only QK.out g (fun hb => by omega))
        replace QS := Lib.hid (box_only QS.out g (fun hb => by omega))
        replace QG := Lib.hid (box_only QG.out g (fun hb => by omega))
        replace BB := Lib.hid (BB.out.trans (g.below BB.out.size (fun b hb => by omega)))
        replace OG := Lib.hid o
        clear o g
        have d2 : decide ((1 : Int) + ((sumN R * 5 : Nat) : Int) < 0) = false := decide_eq_false (by omega)
        have d3 : ((1 : Int) + ((sumN R * 5 : Nat) : Int) != (1 : Int) + ((sumN R * 5 : Nat) : Int)) = false := by simp
        generalize hq : (1 : Int) + ((sumN R * 5 : Nat) : Int) = q at *
        have HQ := Lib.hid hq
        clear hq
        obtain ⟨N0, N1⟩ := box1N QN.out
        obtain ⟨K0, K1, K2, K3, K4, K5⟩ := box5 QK.out
        obtain ⟨S0, S1⟩ := box1N QS.out
        obtain ⟨G0, G1⟩ := box1N QG.out
        go_wp2_with fail
        refine (heldNode_any _ R 1 _ OG.out.reads hsR.out (by omega) (by omega)).mono ?_
        clear N0 N1 K0 K1 K2 K3 K4 K5 S0 S1 G0 G1
        rintro r w9 ⟨rfl, b⟩
        have z9 := b.size
        replace OS := Lib.hid (OS.out.on b)
        replace OG := Lib.hid (OG.out.on b)
        replace QN := Lib.hid (box_on QN.out b)
        replace QK := Lib.hid (box_on QK.out b)
        replace QS := Lib.hid (box_on QS.out b)
        replace QG := Lib.hid (box_on QG.out b)
        replace BB := Lib.hid (bstep BB.out b)
        clear b
        rw [HQ.out]
        obtain ⟨N0, N1⟩ := box1N QN.out
        obtain ⟨K0, K1, K2, K3, K4, K5⟩ := box5 QK.out
        obtain ⟨S0, S1⟩ := box1N QS.out
        obtain ⟨G0, G1⟩ := box1N QG.out
        clear N0 N1 K0 K1 K2 K3 K4 K5 S0 S1 G0 G1
        have hdr : w9.heap.size ≤ w9.drew.heap.size := Nat.le_refl _
        go_upto_region 24 with (fail)
        go_cut [14, 15] (fun s6 s7 wx => ∃ pb vq, s6 = .pointer (some ⟨pb, 0, none⟩) ∧ s7 = .bool RB ∧ w9.heap.size ≤ pb ∧ Hid (wx.heap[pb]? = some (.cells #[vq] 26)) ∧ Hid (Owns wx (fun b => w9.heap.size ≤ b ∧ b ≠ pb) vq (setsD R)) ∧ Hid (Below w9.heap.size w9 wx))
        case first =>
          refine but_begin (f := 10) (S := fun V => Below w9.heap.size w9 V) (by kernel_rfl) ?_
          refine but_take (f := 10) (i := 0) (v := ?vg240) rfl (by kernel_rfl) (by kernel_rfl) (by kernel_rfl) (by kernel_rfl) (by kernel_rfl) (fun _ _ _ h => h) (Or.inl ⟨(by rfl), ?hyg240⟩) (Below.drew1 _) ?restg240
          case hyg240 =>
            intro W hW
            obtain ⟨N0, N1⟩ := box1N (box_on QN.out hW)
            go_simp
            exact rfl
          simp only [List.getElem_toArray, List.getElem_cons_succ, List.getElem_cons_zero, Act.put, List.setIfInBounds_toArray, List.set_cons_zero, List.set_cons_succ]
          refine but_take (f := 10) (i := 2) (v := ?vg242) rfl (by kernel_rfl) (by kernel_rfl) (by kernel_rfl) (by kernel_rfl) (by kernel_rfl) (fun _ _ _ h => h) (Or.inl ⟨(by rfl), ?hyg242⟩) (Below.drew1 _) ?restg242
          case hyg242 =>
            intro W hW
            obtain ⟨K0, K1, K2, K3, K4, K5⟩ := box5 (box_on QK.out hW)
            go_simp
            exact rfl
          simp only [List.getElem_toArray, List.getElem_cons_succ, List.getElem_cons_zero, Act.put, List.setIfInBounds_toArray, List.set_cons_zero, List.set_cons_succ]
          refine but_two (i := 1) (j := 8) (by kernel_rfl) rfl rfl (by rfl) (by rfl) ?_ ?_
          · simp only [List.getElem_toArray, List.getElem_cons_succ, List.getElem_cons_zero]
            intro K HK
            go_wp2_with fail
            refine (HT.out _ (bstep BB.out (Below.drew1 _))).mono ?_
            rintro r Vg24p1 ⟨vT, rfl, oT, hbg24p1⟩
            obtain ⟨AT, cT, rfl, _, _⟩ := oT.reads.lenN
            go_wp2_with fail
            have hSg24p1 : (fun V => Below w9.heap.size w9 V) Vg24p1 := bstep (Below.drew1 _) hbg24p1
            refine HK.out _ _ (fun _ => hSg24p1) ?_
            clear HK
            have OTT := Lib.hid oT
            clear oT
            try replace QB := Lib.hid (box_on QB.out hbg24p1)
            have hzg24p1 := hbg24p1.size
            refine but_two (i := 3) (j := 8) (by kernel_rfl) rfl rfl (by rfl) (by rfl) ?_ ?_
            · simp only [List.getElem_toArray, List.getElem_cons_succ, List.getElem_cons_zero]
              intro K HK
              go_wp2_with fail
              refine (HKY.out _).mono ?_
              rintro r Vg24pp2 ⟨rfl, hbg24pp2⟩
              go_wp2_with fail
              have hSg24pp2 : (fun V => Below w9.heap.size w9 V) Vg24pp2 := bstep hSg24p1 hbg24pp2
              refine HK.out _ _ (fun _ => hSg24pp2) ?_
              clear HK
              try replace OTT := Lib.hid (OTT.out.on hbg24pp2)
              try replace QB := Lib.hid (box_on QB.out hbg24pp2)
              have hzg24pp2 := hbg24pp2.size
              refine but_two (i := 4) (j := 8) (by kernel_rfl) rfl rfl (by rfl) (by rfl) ?_ ?_
              · simp only [List.getElem_toArray, List.getElem_cons_succ, List.getElem_cons_zero]
                intro K HK
                go_wp2_with fail
                refine (HPI.out _ ns x _ OTT.out.reads (by omega) (by omega)).mono ?_
                rintro r Vg24ppp3 ⟨vP, rfl, oP, hbg24ppp3⟩
                rw [HR.out] at oP
                rw [HRB.out]
                obtain ⟨AH, cH, rfl, _, _⟩ := oP.reads.lenN
                go_wp2_with fail
                have hSg24ppp3 : (fun V => Below w9.heap.size w9 V) Vg24ppp3 := bstep hSg24pp2 hbg24ppp3
                refine HK.out _ _ (fun _ => hSg24ppp3) ?_
                clear HK
                have ON := Lib.hid oP.lt
                clear oP
                try replace QB := Lib.hid (box_on QB.out hbg24ppp3)
                have hzg24ppp3 := hbg24ppp3.size
                refine but_take (f := 10) (i := 5) (v := ?vg24ppp5) rfl (by kernel_rfl) (by kernel_rfl) (by kernel_rfl) (by kernel_rfl) (by kernel_rfl) (fun _ _ _ h => h) (Or.inl ⟨(by rfl), ?hyg24ppp5⟩) hSg24ppp3 ?restg24ppp5
                case hyg24ppp5 =>
                  intro W hW
                  go_simp
                  exact rfl
                simp only [List.getElem_toArray, List.getElem_cons_succ, List.getElem_cons_zero, Act.put, List.setIfInBounds_toArray, List.set_cons_zero, List.set_cons_succ]
                refine but_take (f := 10) (i := 6) (v := ?vg24ppp6) rfl (by kernel_rfl) (by kernel_rfl) (by kernel_rfl) (by kernel_rfl) (by kernel_rfl) (fun _ _ _ h => h) (Or.inl ⟨(by rfl), ?hyg24ppp6⟩) hSg24ppp3 ?restg24ppp6
                case hyg24ppp6 =>
                  intro W hW
                  go_simp
                  exact rfl
                simp only [List.getElem_toArray, List.getElem_cons_succ, List.getElem_cons_zero, Act.put, List.setIfInBounds_toArray, List.set_cons_zero, List.set_cons_succ]
                refine but_take (f := 10) (i := 7) (v := ?vg24ppp7) rfl (by kernel_rfl) (by kernel_rfl) (by kernel_rfl) (by kernel_rfl) (by kernel_rfl) (fun _ _ _ h => h) (Or.inl ⟨(by rfl), ?hyg24ppp7⟩) hSg24ppp3 ?restg24ppp7
                case hyg24ppp7 =>
                  intro W hW
                  go_simp
                  exact rfl
                simp only [List.getElem_toArray, List.getElem_cons_succ, List.getElem_cons_zero, Act.put, List.setIfInBounds_toArray, List.set_cons_zero, List.set_cons_succ]
                refine but_run (i := 8) (by kernel_rfl) rfl (by rfl) ?_
                simp only [List.getElem_toArray, List.getElem_cons_succ, List.getElem_cons_zero]
                intro K HK
                go_wp2_with fail
                have hSg24ppp4 : (fun V => Below w9.heap.size w9 V) (Vg24ppp3.alloc (.cells #[.slice none 0 0] 26)) := bstep hSg24ppp3 (bal1 _ _)
                refine HK.out _ _ (fun _ => hSg24ppp4) ?_
                clear HK
                have QB := Lib.hid (al1 Vg24ppp3 (.cells #[.slice none 0 0] 26))
                try (change Hid ((w9.drew.alloc (.cells #[.slice none 0 0] 26)).heap[w9.heap.size]? = some (.cells #[.slice none 0 0] 26)) at QB)
                try have ON0 := ON
                try replace OTT := Lib.hid (OTT.out.on (bal1 _ (.cells #[.slice none 0 0] 26)))
                try replace ON := Lib.hid (ON.out.on (bal1 _ (.cells #[.slice none 0 0] 26)))
                have hzg24ppp4 : (Vg24ppp3.alloc (.cells #[.slice none 0 0] 26)).heap.size ≤ Vg24ppp3.heap.size + 1 := by simp
                have hyg24ppp4 : Vg24ppp3.heap.size + 1 ≤ (Vg24ppp3.alloc (.cells #[.slice none 0 0] 26)).heap.size := by simp
                have hvg24ppp4 : w9.heap.size + 1 ≤ (w9.alloc (.cells #[.slice none 0 0] 26)).drew.heap.size := by show w9.heap.size + 1 ≤ (w9.alloc (.cells #[.slice none 0 0] 26)).heap.size; simp
                refine but_run (i := 9) (by kernel_rfl) rfl (by rfl) ?_
                simp only [List.getElem_toArray, List.getElem_cons_succ, List.getElem_cons_zero]
                intro K HK
                obtain ⟨z0, z1⟩ := box1N QB.out
                go_wp2_with fail
                have hSg24ppp5 : (fun V => Below w9.heap.size w9 V) (Vg24ppp3.alloc (.cells #[.slice AH R.length cH] 26)) := bstep hSg24ppp3 (bal1 _ _)
                refine HK.out _ _ (fun _ => hSg24ppp5) ?_
                clear HK
                have QB2 := Lib.hid (al1 Vg24ppp3 (.cells #[.slice AH R.length cH] 26))
                have ON2 := Lib.hid ((ON0.out.on (bal1 _ (.cells #[.slice AH R.length cH] 26))).mono (T := fun b => w9.heap.size ≤ b ∧ b ≠ Vg24ppp3.heap.size) (fun b hb => ⟨by omega, by omega⟩))
                refine but_run (i := 10) (by kernel_rfl) rfl (by rfl) ?_
                simp only [List.getElem_toArray, List.getElem_cons_succ, List.getElem_cons_zero]
                intro K HK
                go_wp2_with fail
                refine HK.out _ _ (fun h => absurd rfl h) ?_
                clear HK
                refine but_done (by kernel_rfl) ?_
                go_wp2_with fail
                go_meet
                exact ⟨Vg24ppp3.heap.size, _, rfl, rfl, by omega, QB2, ON2, Lib.hid hSg24ppp5⟩
              · simp only [List.getElem_toArray, List.getElem_cons_succ, List.getElem_cons_zero]
                intro K HK
                go_wp2_with fail
                have hSg24ppq3 : (fun V => Below w9.heap.size w9 V) (Vg24pp2.alloc (.cells #[.slice none 0 0] 26)) := bstep hSg24pp2 (bal1 _ _)
                refine HK.out _ _ (fun _ => hSg24ppq3) ?_
                clear HK
                have QB := Lib.hid (al1 Vg24pp2 (.cells #[.slice none 0 0] 26))
                try (change Hid ((w9.drew.alloc (.cells #[.slice none 0 0] 26)).heap[w9.heap.size]? = some (.cells #[.slice none 0 0] 26)) at QB)
                try have ON0 := ON
                try replace OTT := Lib.hid (OTT.out.on (bal1 _ (.cells #[.slice none 0 0] 26)))
                try replace ON := Lib.hid (ON.out.on (bal1 _ (.cells #[.slice none 0 0] 26)))
                have hzg24ppq3 : (Vg24pp2.alloc (.cells #[.slice none 0 0] 26)).heap.size ≤ Vg24pp2.heap.size + 1 := by simp
                have hyg24ppq3 : Vg24pp2.heap.size + 1 ≤ (Vg24pp2.alloc (.cells #[.slice none 0 0] 26)).heap.size := by simp
                have hvg24ppq3 : w9.heap.size + 1 ≤ (w9.alloc (.cells #[.slice none 0 0] 26)).drew.heap.size := by show w9.heap.size + 1 ≤ (w9.alloc (.cells #[.slice none 0 0] 26)).heap.size; simp
                refine but_run (i := 4) (by kernel_rfl) rfl (by rfl) ?_
                simp only [List.getElem_toArray, List.getElem_cons_succ, List.getElem_cons_zero]
                intro K HK
                go_wp2_with fail
                refine (HPI.out _ ns x _ OTT.out.reads (by omega) (by omega)).mono ?_
                rintro r Vg24ppq4 ⟨vP, rfl, oP, hbg24ppq4⟩
                rw [HR.out] at oP
                rw [HRB.out]
                obtain ⟨AH, cH, rfl, _, _⟩ := oP.reads.lenN
                go_wp2_with fail
                have hSg24ppq4 : (fun V => Below w9.heap.size w9 V) Vg24ppq4 := bstep hSg24ppq3 hbg24ppq4
                refine HK.out _ _ (fun _ => hSg24ppq4) ?_
                clear HK
                have ON := Lib.hid oP.lt
                clear oP
                try replace QB := Lib.hid (box_on QB.out hbg24ppq4)
                have hzg24ppq4 := hbg24ppq4.size
                refine but_take (f := 10) (i := 5) (v := ?vg24ppq5) rfl (by kernel_rfl) (by kernel_rfl) (by kernel_rfl) (by kernel_rfl) (by kernel_rfl) (fun _ _ _ h => h) (Or.inl ⟨(by rfl), ?hyg24ppq5⟩) hSg24ppq4 ?restg24ppq5
                case hyg24ppq5 =>
                  intro W hW
                  go_simp
                  exact rfl
                simp only [List.getElem_toArray, List.getElem_cons_succ, List.getElem_cons_zero, Act.put, List.setIfInBounds_toArray, List.set_cons_zero, List.set_cons_succ]
                refine but_take (f := 10) (i := 6) (v := ?vg24ppq6) rfl (by kernel_rfl) (by kernel_rfl) (by kernel_rfl) (by kernel_rfl) (by kernel_rfl) (fun _ _ _ h => h) (Or.inl ⟨(by rfl), ?hyg24ppq6⟩) hSg24ppq4 ?restg24ppq6
                case hyg24ppq6 =>
                  intro W hW
                  go_simp
                  exact rfl
                simp only [List.getElem_toArray, List.getElem_cons_succ, List.getElem_cons_zero, Act.put, List.setIfInBounds_toArray, List.set_cons_zero, List.set_cons_succ]
                refine but_take (f := 10) (i := 7) (v := ?vg24ppq7) rfl (by kernel_rfl) (by kernel_rfl) (by kernel_rfl) (by kernel_rfl) (by kernel_rfl) (fun _ _ _ h => h) (Or.inl ⟨(by rfl), ?hyg24ppq7⟩) hSg24ppq4 ?restg24ppq7
                case hyg24ppq7 =>
                  intro W hW
                  go_simp
                  exact rfl
                simp only [List.getElem_toArray, List.getElem_cons_succ, List.getElem_cons_zero, Act.put, List.setIfInBounds_toArray, List.set_cons_zero, List.set_cons_succ]
                refine but_run (i := 9) (by kernel_rfl) rfl (by rfl) ?_
                simp only [List.getElem_toArray, List.getElem_cons_succ, List.getElem_cons_zero]
                intro K HK
                obtain ⟨z0, z1⟩ := box1N QB.out
                go_wp2_with fail
                have hSg24ppq5 : (fun V => Below w9.heap.size w9 V) (Vg24ppq4.setCell ⟨Vg24pp2.heap.size, 0, none⟩ (.slice AH R.length cH)) := Below.setCell hSg24ppq4 (p := ⟨Vg24pp2.heap.size, 0, none⟩) (show w9.heap.size ≤ Vg24pp2.heap.size by omega) _
                refine HK.out _ _ (fun _ => hSg24ppq5) ?_
                clear HK
                have QB2 := Lib.hid (box_set (i := 0) (u := .slice AH R.length cH) QB.out)
                have ON2 := Lib.hid (Owns.setFar (u := .slice AH R.length cH) (j := 0) (ON.out.mono (T := fun b => w9.heap.size ≤ b ∧ b ≠ Vg24pp2.heap.size) (fun b hb => ⟨by omega, by omega⟩)) (fun h => h.2 rfl))
                refine but_run (i := 10) (by kernel_rfl) rfl (by rfl) ?_
                simp only [List.getElem_toArray, List.getElem_cons_succ, List.getElem_cons_zero]
                intro K HK
                go_wp2_with fail
                refine HK.out _ _ (fun h => absurd rfl h) ?_
                clear HK
                refine but_done (by kernel_rfl) ?_
                go_wp2_with fail
                go_meet
                exact ⟨Vg24pp2.heap.size, _, rfl, rfl, by omega, QB2, ON2, Lib.hid hSg24ppq5⟩
            · simp only [List.getElem_toArray, List.getElem_cons_succ, List.getElem_cons_zero]
              intro K HK
              go_wp2_with fail
              have hSg24pq2 : (fun V => Below w9.heap.size w9 V) (Vg24p1.alloc (.cells #[.slice none 0 0] 26)) := bstep hSg24p1 (bal1 _ _)
              refine HK.out _ _ (fun _ => hSg24pq2) ?_
              clear HK
              have QB := Lib.hid (al1 Vg24p1 (.cells #[.slice none 0 0] 26))
              try (change Hid ((w9.drew.alloc (.cells #[.slice none 0 0] 26)).heap[w9.heap.size]? = some (.cells #[.slice none 0 0] 26)) at QB)
              try have ON0 := ON
              try replace OTT := Lib.hid (OTT.out.on (bal1 _ (.cells #[.slice none 0 0] 26)))
              try replace ON := Lib.hid (ON.out.on (bal1 _ (.cells #[.slice none 0 0] 26)))
              have hzg24pq2 : (Vg24p1.alloc (.cells #[.slice none 0 0] 26)).heap.size ≤ Vg24p1.heap.size + 1 := by simp
              have hyg24pq2 : Vg24p1.heap.size + 1 ≤ (Vg24p1.alloc (.cells #[.slice none 0 0] 26)).heap.size := by simp
              have hvg24pq2 : w9.heap.size + 1 ≤ (w9.alloc (.cells #[.slice none 0 0] 26)).drew.heap.size := by show w9.heap.size + 1 ≤ (w9.alloc (.cells #[.slice none 0 0] 26)).heap.size; simp
              refine but_run (i := 3) (by kernel_rfl) rfl (by rfl) ?_
              simp only [List.getElem_toArray, List.getElem_cons_succ, List.getElem_cons_zero]
              intro K HK
              go_wp2_with fail
              refine (HKY.out _).mono ?_
              rintro r Vg24pq3 ⟨rfl, hbg24pq3⟩
              go_wp2_with fail
              have hSg24pq3 : (fun V => Below w9.heap.size w9 V) Vg24pq3 := bstep hSg24pq2 hbg24pq3
              refine HK.out _ _ (fun _ => hSg24pq3) ?_
              clear HK
              try replace OTT := Lib.hid (OTT.out.on hbg24pq3)
              try replace QB := Lib.hid (box_on QB.out hbg24pq3)
              have hzg24pq3 := hbg24pq3.size
              refine but_run (i := 4) (by kernel_rfl) rfl (by rfl) ?_
              simp only [List.getElem_toArray, List.getElem_cons_succ, List.getElem_cons_zero]
              intro K HK
              go_wp2_with fail
              refine (HPI.out _ ns x _ OTT.out.reads (by omega) (by omega)).mono ?_
              rintro r Vg24pq4 ⟨vP, rfl, oP, hbg24pq4⟩
              rw [HR.out] at oP
              rw [HRB.out]
              obtain ⟨AH, cH, rfl, _, _⟩ := oP.reads.lenN
              go_wp2_with fail
              have hSg24pq4 : (fun V => Below w9.heap.size w9 V) Vg24pq4 := bstep hSg24pq3 hbg24pq4
              refine HK.out _ _ (fun _ => hSg24pq4) ?_
              clear HK
              have ON := Lib.hid oP.lt
              clear oP
              try replace QB := Lib.hid (box_on QB.out hbg24pq4)
              have hzg24pq4 := hbg24pq4.size
              refine but_take (f := 10) (i := 5) (v := ?vg24pq5) rfl (by kernel_rfl) (by kernel_rfl) (by kernel_rfl) (by kernel_rfl) (by kernel_rfl) (fun _ _ _ h => h) (Or.inl ⟨(by rfl), ?hyg24pq5⟩) hSg24pq4 ?restg24pq5
              case hyg24pq5 =>
                intro W hW
                go_simp
                exact rfl
              simp only [List.getElem_toArray, List.getElem_cons_succ, List.getElem_cons_zero, Act.put, List.setIfInBounds_toArray, List.set_cons_zero, List.set_cons_succ]
              refine but_take (f := 10) (i := 6) (v := ?vg24pq6) rfl (by kernel_rfl) (by kernel_rfl) (by kernel_rfl) (by kernel_rfl) (by kernel_rfl) (fun _ _ _ h => h) (Or.inl ⟨(by rfl), ?hyg24pq6⟩) hSg24pq4 ?restg24pq6
              case hyg24pq6 =>
                intro W hW
                go_simp
                exact rfl
              simp only [List.getElem_toArray, List.getElem_cons_succ, List.getElem_cons_zero, Act.put, List.setIfInBounds_toArray, List.set_cons_zero, List.set_cons_succ]
              refine but_take (f := 10) (i := 7) (v := ?vg24pq7) rfl (by kernel_rfl) (by kernel_rfl) (by kernel_rfl) (by kernel_rfl) (by kernel_rfl) (fun _ _ _ h => h) (Or.inl ⟨(by rfl), ?hyg24pq7⟩) hSg24pq4 ?restg24pq7
              case hyg24pq7 =>
                intro W hW
                go_simp
                exact rfl
              simp only [List.getElem_toArray, List.getElem_cons_succ, List.getElem_cons_zero, Act.put, List.setIfInBounds_toArray, List.set_cons_zero, List.set_cons_succ]
              refine but_run (i := 9) (by kernel_rfl) rfl (by rfl) ?_
              simp only [List.getElem_toArray, List.getElem_cons_succ, List.getElem_cons_zero]
              intro K HK
              obtain ⟨z0, z1⟩ := box1N QB.out
              go_wp2_with fail
              have hSg24pq5 : (fun V => Below w9.heap.size w9 V) (Vg24pq4.setCell ⟨Vg24p1.heap.size, 0, none⟩ (.slice AH R.length cH)) := Below.setCell hSg24pq4 (p := ⟨Vg24p1.heap.size, 0, none⟩) (show w9.heap.size ≤ Vg24p1.heap.size by omega) _
              refine HK.out _ _ (fun _ => hSg24pq5) ?_
              clear HK
              have QB2 := Lib.hid (box_set (i := 0) (u := .slice AH R.length cH) QB.out)
              have ON2 := Lib.hid (Owns.setFar (u := .slice AH R.length cH) (j := 0) (ON.out.mono (T := fun b => w9.heap.size ≤ b ∧ b ≠ Vg24p1.heap.size) (fun b hb => ⟨by omega, by omega⟩)) (fun h => h.2 rfl))
              refine but_run (i := 10) (by kernel_rfl) rfl (by rfl) ?_
              simp only [List.getElem_toArray, List.getElem_cons_succ, List.getElem_cons_zero]
              intro K HK
              go_wp2_with fail
              refine HK.out _ _ (fun h => absurd rfl h) ?_
              clear HK
              refine but_done (by kernel_rfl) ?_
              go_wp2_with fail
              go_meet
              exact ⟨Vg24p1.heap.size, _, rfl, rfl, by omega, QB2, ON2, Lib.hid hSg24pq5⟩
          · simp only [List.getElem_toArray, List.getElem_cons_succ, List.getElem_cons_zero]
            intro K HK
            go_wp2_with fail
            have hSg24q1 : (fun V => Below w9.heap.size w9 V) (w9.drew.alloc (.cells #[.slice none 0 0] 26)) := bstep (Below.drew1 _) (bal1 _ _)
            refine HK.out _ _ (fun _ => hSg24q1) ?_
            clear HK
            have QB := Lib.hid (al1 w9.drew (.cells #[.slice none 0 0] 26))
            try (change Hid ((w9.drew.alloc (.cells #[.slice none 0 0] 26)).heap[w9.heap.size]? = some (.cells #[.slice none 0 0] 26)) at QB)
            try have ON0 := ON
            try replace OTT := Lib.hid (OTT.out.on (bal1 _ (.cells #[.slice none 0 0] 26)))
            try replace ON := Lib.hid (ON.out.on (bal1 _ (.cells #[.slice none 0 0] 26)))
            have hzg24q1 : (w9.drew.alloc (.cells #[.slice none 0 0] 26)).heap.size ≤ w9.drew.heap.size + 1 := by simp
            have hyg24q1 : w9.drew.heap.size + 1 ≤ (w9.drew.alloc (.cells #[.slice none 0 0] 26)).heap.size := by simp
            have hvg24q1 : w9.heap.size + 1 ≤ (w9.alloc (.cells #[.slice none 0 0] 26)).drew.heap.size := by show w9.heap.size + 1 ≤ (w9.alloc (.cells #[.slice none 0 0] 26)).heap.size; simp
            refine but_run (i := 1) (by kernel_rfl) rfl (by rfl) ?_
            simp only [List.getElem_toArray, List.getElem_cons_succ, List.getElem_cons_zero]
            intro K HK
            go_wp2_with fail
            refine (HT.out _ (bstep BB.out hSg24q1)).mono ?_
            rintro r Vg24q2 ⟨vT, rfl, oT, hbg24q2⟩
            obtain ⟨AT, cT, rfl, _, _⟩ := oT.reads.lenN
            go_wp2_with fail
            have hSg24q2 : (fun V => Below w9.heap.size w9 V) Vg24q2 := bstep hSg24q1 hbg24q2
            refine HK.out _ _ (fun _ => hSg24q2) ?_
            clear HK
            have OTT := Lib.hid oT
            clear oT
            try replace QB := Lib.hid (box_on QB.out hbg24q2)
            have hzg24q2 := hbg24q2.size
            refine but_run (i := 3) (by kernel_rfl) rfl (by rfl) ?_
            simp only [List.getElem_toArray, List.getElem_cons_succ, List.getElem_cons_zero]
            intro K HK
            go_wp2_with fail
            refine (HKY.out _).mono ?_
            rintro r Vg24q3 ⟨rfl, hbg24q3⟩
            go_wp2_with fail
            have hSg24q3 : (fun V => Below w9.heap.size w9 V) Vg24q3 := bstep hSg24q2 hbg24q3
            refine HK.out _ _ (fun _ => hSg24q3) ?_
            clear HK
            try replace OTT := Lib.hid (OTT.out.on hbg24q3)
            try replace QB := Lib.hid (box_on QB.out hbg24q3)
            have hzg24q3 := hbg24q3.size
            refine but_run (i := 4) (by kernel_rfl) rfl (by rfl) ?_
            simp only [List.getElem_toArray, List.getElem_cons_succ, List.getElem_cons_zero]
            intro K HK
            go_wp2_with fail
            refine (HPI.out _ ns x _ OTT.out.reads (by omega) (by omega)).mono ?_
            rintro r Vg24q4 ⟨vP, rfl, oP, hbg24q4⟩
            rw [HR.out] at oP
            rw [HRB.out]
            obtain ⟨AH, cH, rfl, _, _⟩ := oP.reads.lenN
            go_wp2_with fail
            have hSg24q4 : (fun V => Below w9.heap.size w9 V) Vg24q4 := bstep hSg24q3 hbg24q4
            refine HK.out _ _ (fun _ => hSg24q4) ?_
            clear HK
            have ON := Lib.hid oP.lt
            clear oP
            try replace QB := Lib.hid (box_on QB.out hbg24q4)
            have hzg24q4 := hbg24q4.size
            refine but_take (f := 10) (i := 5) (v := ?vg24q5) rfl (by kernel_rfl) (by kernel_rfl) (by kernel_rfl) (by kernel_rfl) (by kernel_rfl) (fun _ _ _ h => h) (Or.inl ⟨(by rfl), ?hyg24q5⟩) hSg24q4 ?restg24q5
            case hyg24q5 =>
              intro W hW
              go_simp
              exact rfl
            simp only [List.getElem_toArray, List.getElem_cons_succ, List.getElem_cons_zero, Act.put, List.setIfInBounds_toArray, List.set_cons_zero, List.set_cons_succ]
            refine but_take (f := 10) (i := 6) (v := ?vg24q6) rfl (by kernel_rfl) (by kernel_rfl) (by kernel_rfl) (by kernel_rfl) (by kernel_rfl) (fun _ _ _ h => h) (Or.inl ⟨(by rfl), ?hyg24q6⟩) hSg24q4 ?restg24q6
            case hyg24q6 =>
              intro W hW
              go_simp
              exact rfl
            simp only [List.getElem_toArray, List.getElem_cons_succ, List.getElem_cons_zero, Act.put, List.setIfInBounds_toArray, List.set_cons_zero, List.set_cons_succ]
            refine but_take (f := 10) (i := 7) (v := ?vg24q7) rfl (by kernel_rfl) (by kernel_rfl) (by kernel_rfl) (by kernel_rfl) (by kernel_rfl) (fun _ _ _ h => h) (Or.inl ⟨(by rfl), ?hyg24q7⟩) hSg24q4 ?restg24q7
            case hyg24q7 =>
              intro W hW
              go_simp
              exact rfl
            simp only [List.getElem_toArray, List.getElem_cons_succ, List.getElem_cons_zero, Act.put, List.setIfInBounds_toArray, List.set_cons_zero, List.set_cons_succ]
            refine but_run (i := 9) (by kernel_rfl) rfl (by rfl) ?_
            simp only [List.getElem_toArray, List.getElem_cons_succ, List.getElem_cons_zero]
            intro K HK
            obtain ⟨z0, z1⟩ := box1N QB.out
            go_wp2_with fail
            have hSg24q5 : (fun V => Below w9.heap.size w9 V) (Vg24q4.setCell ⟨w9.heap.size, 0, none⟩ (.slice AH R.length cH)) := Below.setCell hSg24q4 (p := ⟨w9.heap.size, 0, none⟩) (show w9.heap.size ≤ w9.heap.size by omega) _
            refine HK.out _ _ (fun _ => hSg24q5) ?_
            clear HK
            have QB2 := Lib.hid (box_set (i := 0) (u := .slice AH R.length cH) QB.out)
            have ON2 := Lib.hid (Owns.setFar (u := .slice AH R.length cH) (j := 0) (ON.out.mono (T := fun b => w9.heap.size ≤ b ∧ b ≠ w9.heap.size) (fun b hb => ⟨by omega, by omega⟩)) (fun h => h.2 rfl))
            refine but_run (i := 10) (by kernel_rfl) rfl (by rfl) ?_
            simp only [List.getElem_toArray, List.getElem_cons_succ, List.getElem_cons_zero]
            intro K HK
            go_wp2_with fail
            refine HK.out _ _ (fun h => absurd rfl h) ?_
            clear HK
            refine but_done (by kernel_rfl) ?_
            go_wp2_with fail
            go_meet
            exact ⟨w9.heap.size, _, rfl, rfl, by omega, QB2, ON2, Lib.hid hSg24q5⟩
        case rest =>
          obtain ⟨pbH, vq, rfl, rfl, hpbH, QH, OH, BX⟩ := hcut
          obtain ⟨AH, cH, rfl, _, _⟩ := OH.out.reads.lenN
          obtain ⟨w10, rfl⟩ : ∃ W, W = wc := ⟨_, rfl⟩
          replace OS := Lib.hid (OS.out.on BX.out)
          replace OG := Lib.hid (OG.out.on BX.out)
          replace QN := Lib.hid (box_on QN.out BX.out)
          replace QK := Lib.hid (box_on QK.out BX.out)
          replace QS := Lib.hid (box_on QS.out BX.out)
          replace QG := Lib.hid (box_on QG.out BX.out)
          replace BB := Lib.hid (bstep BB.out BX.out)
          have zw10 := BX.out.size
          have lH := (Array.getElem?_eq_some_iff.1 QH.out).1
          replace OH := Lib.hid OH.out.lt
          clear BX hdr
          obtain ⟨N0, N1⟩ := box1N QN.out
          obtain ⟨K0, K1, K2, K3, K4, K5⟩ := box5 QK.out
          obtain ⟨S0, S1⟩ := box1N QS.out
          obtain ⟨G0, G1⟩ := box1N QG.out
          obtain ⟨H0, H1⟩ := box1N QH.out
          go_wp2_with fail
          refine (eqNode_same _ _ R _ OH.out.reads OS.out.reads hsR.out).mono ?_
          clear N0 N1 K0 K1 K2 K3 K4 K5 S0 S1 G0 G1 H0 H1
          rintro r w11 ⟨rfl, b⟩
          have z11 := b.size
          replace OS := Lib.hid (OS.out.on b)
          replace OG := Lib.hid (OG.out.on b)
          replace OH := Lib.hid (OH.out.on b)
          replace QN := Lib.hid (box_on QN.out b)
          replace QK := Lib.hid (box_on QK.out b)
          replace QS := Lib.hid (box_on QS.out b)
          replace QG := Lib.hid (box_on QG.out b)
          replace QH := Lib.hid (box_on QH.out b)
          replace BB := Lib.hid (bstep BB.out b)
          clear b
          obtain ⟨N0, N1⟩ := box1N QN.out
          obtain ⟨K0, K1, K2, K3, K4, K5⟩ := box5 QK.out
          obtain ⟨S0, S1⟩ := box1N QS.out
          obtain ⟨G0, G1⟩ := box1N QG.out
          obtain ⟨H0, H1⟩ := box1N QH.out
          go_wp2_with fail
          refine (heldNode_any _ R 1 _ OG.out.reads hsR.out (by omega) (by omega)).mono ?_
          clear N0 N1 K0 K1 K2 K3 K4 K5 S0 S1 G0 G1 H0 H1
          rintro r w12 ⟨rfl, b⟩
          have z12 := b.size
          replace OS := Lib.hid (OS.out.on b)
          replace OG := Lib.hid (OG.out.on b)
          replace OH := Lib.hid (OH.out.on b)
          replace QN := Lib.hid (box_on QN.out b)
          replace QK := Lib.hid (box_on QK.out b)
          replace QS := Lib.hid (box_on QS.out b)
          replace QG := Lib.hid (box_on QG.out b)
          replace QH := Lib.hid (box_on QH.out b)
          replace BB := Lib.hid (bstep BB.out b)
          clear b
          rw [HQ.out]
          go_wp2
          go_ret
          exact ⟨rfl, BB.out⟩
  · go_enter Try.func8, Try.ntmps8
    go_upto_region 1 with (fail)
    generalize (w.alloc (.cells #[.slice A ns.length c] 49)).alloc (.cells #[.int .i64 x.a, .int .i64 x.b, .int .i64 x.c, .int .i64 x.d, .int .i64 x.e] 56) = W at *
    obtain ⟨N0, N1⟩ := box1N QN.out
    go_wp2_with fail
    refine (szN_big _ ns _ (HV.out.on BB.out) (by omega)).mono ?_
    clear N0 N1
    rintro r w0 ⟨rfl, b⟩
    have B1 := Lib.hid (bstep BB.out b)
    clear b
    go_wp2
    go_ret
    exact ⟨rfl, B1.out⟩
end Go.Proofs.Ytncjedbdkanleaa
