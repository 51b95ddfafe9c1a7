/- The contract of impl.NodePut. Conditions: at most 1048576 sets and keys. -/
import Derived.Test.YtncjedbdkanleaaNodeLayer
import Derived.Test.YtncjedbdkanleaaNodeIKeys
import Derived.Test.YtncjedbdkanleaaLast2
namespace Go.Proofs.Ytncjedbdkanleaa
open Go.RowKit
set_option maxRecDepth 100000
set_option linter.unusedSimpArgs false
set_option linter.unusedVariables false
/-- What putting a key into a node answers: a node of the call's own, and whether it was taken. -/
def PutsN (w : World) (ns : List (List KeyD)) (x : KeyD) (e : Ending) (w' : World) : Prop := ∃ v, e = .returned (.tuple #[.agg #[v], .bool (putNB ns x)]) ∧ Owns w' (fun b => w.heap.size ≤ b) v (setsD (putN ns x)) ∧ Below w.heap.size w w'
theorem put_one {ns : List (List KeyD)} {x : KeyD} (h : nodeOkB (layerK ns x) = true) : putN ns x = layerK ns x ∧ putNB ns x = true := by simp [putN, putNB, h]
theorem put_two {ns : List (List KeyD)} {x : KeyD} (h : nodeOkB (layerK ns x) = false) (k : nodeOkB (nodeNewK (rebK ns x)) = true) : putN ns x = nodeNewK (rebK ns x) ∧ putNB ns x = true := by simp [putN, putNB, h, k]
theorem put_no {ns : List (List KeyD)} {x : KeyD} (h : nodeOkB (layerK ns x) = false) (k : nodeOkB (nodeNewK (rebK ns x)) = false) : putN ns x = ns ∧ putNB ns x = false := by simp [putN, putNB, h, k]
set_option maxHeartbeats 4000000 in
theorem implNodePut_any (v : Value) (ns : List (List KeyD)) (x : KeyD) (w : World) (hv : Reads w w.heap.size v (setsD ns)) (h1 : ns.length ≤ 1048576) (h2 : sumN ns ≤ 1048576) : Calls Try.prog 13 #[.agg #[v], x.v] w (PutsN w ns x) := by
  obtain ⟨A, c, rfl, _, _⟩ := hv.lenN
  obtain ⟨q0, q1, q2⟩ := al3 w (.cells #[.slice A ns.length c] 26) (.cells #[.int .i64 x.a, .int .i64 x.b, .int .i64 x.c, .int .i64 x.d, .int .i64 x.e] 28) (.cells #[.slice none 0 0] 26)
  have B0 := bal3 w (.cells #[.slice A ns.length c] 26) (.cells #[.int .i64 x.a, .int .i64 x.b, .int .i64 x.c, .int .i64 x.d, .int .i64 x.e] 28) (.cells #[.slice none 0 0] 26)
  have HB := Lib.hid B0
  have QN := Lib.hid q0
  have QK := Lib.hid q1
  have QR := Lib.hid q2
  have HV := Lib.hid (hv.on B0)
  have HZ : Hid ((((w.alloc (.cells #[.slice A ns.length c] 26)).alloc (.cells #[.int .i64 x.a, .int .i64 x.b, .int .i64 x.c, .int .i64 x.d, .int .i64 x.e] 28)).alloc (.cells #[.slice none 0 0] 26)).heap.size = w.heap.size + 3) := Lib.hid (by simp)
  have HS : Hid (SmallN ns) := Lib.hid ⟨by omega, by omega⟩
  obtain ⟨KL, hKL⟩ : ∃ KL, nodeKeysK ns = KL := ⟨_, rfl⟩
  obtain ⟨PL, hPL⟩ : ∃ PL, putK KL x = PL := ⟨_, rfl⟩
  obtain ⟨DL, hDL⟩ : ∃ DL, dropK PL = DL := ⟨_, rfl⟩
  have hkl : KL.length ≤ 1048576 := by rw [← hKL]; exact Nat.le_trans (nodeKeys_len ns) h2
  have hpl : PL.length ≤ 1048577 := by rw [← hPL]; exact Nat.le_trans (putK_len KL x) (by omega)
  have hdl : DL.length ≤ 1048577 := by rw [← hDL]; exact Nat.le_trans (dropK_len PL) hpl
  have hreb : rebK ns x = DL := by rw [rebK, hKL, hPL, hDL]
  have HREB := Lib.hid hreb
  have HKL := Lib.hid hKL
  have HPL := Lib.hid hPL
  have HDL := Lib.hid hDL
  obtain ⟨NQ, hNQ⟩ : ∃ NQ, nodeNewK DL = NQ := ⟨_, rfl⟩
  have HNQ := Lib.hid hNQ
  have HSQ : Hid (SmallN NQ) := Lib.hid (by rw [← hNQ]; exact ⟨by have := len_new DL; omega, by rw [sum_new]; omega⟩)
  obtain ⟨R1, hR1⟩ : ∃ R, nodeOkB (layerK ns x) = R := ⟨_, rfl⟩
  obtain ⟨R2, hR2⟩ : ∃ R, nodeOkB NQ = R := ⟨_, rfl⟩
  have HR1 := Lib.hid hR1
  have HR2 := Lib.hid hR2
  have P1 : Hid (R1 = true → putN ns x = layerK ns x ∧ putNB ns x = true) := Lib.hid (fun h => put_one (by rw [hR1, h]))
  have P2 : Hid (R1 = false → R2 = true → putN ns x = NQ ∧ putNB ns x = true) := Lib.hid (fun h k => by have := put_two (ns := ns) (x := x) (by rw [hR1, h]) (by rw [hreb, hNQ, hR2, k]); rw [hreb, hNQ] at this; exact this)
  have P3 : Hid (R1 = false → R2 = false → putN ns x = ns ∧ putNB ns x = false) := Lib.hid (fun h k => put_no (by rw [hR1, h]) (by rw [hreb, hNQ, hR2, k]))
  have hls := layer_small ns x
  obtain ⟨LY, hLY⟩ : ∃ LY, layerK ns x = LY := ⟨_, rfl⟩
  rw [hLY] at hls HR1 P1
  have HLY := Lib.hid hLY
  have HSL : Hid (SmallN LY) := Lib.hid ⟨by omega, by omega⟩
  clear hv B0 q0 q1 q2 hKL hPL hDL hreb hNQ hR1 hR2 hLY
  unfold KeyD.v keyV
  have HI := Lib.hid implSetPut_any
  have HLK := Lib.hid layerKey_any
  unfold KeyD.v keyV at HI HLK
  go_enter Try.func13, Try.ntmps13
  go_upto_region 1 with (fail)
  generalize ((w.alloc (.cells #[.slice A ns.length c] 26)).alloc (.cells #[.int .i64 x.a, .int .i64 x.b, .int .i64 x.c, .int .i64 x.d, .int .i64 x.e] 28)).alloc (.cells #[.slice none 0 0] 26) = W at *
  have hz1 := Nat.le_of_eq HZ.out
  have hz2 := Nat.le_of_eq HZ.out.symm
  clear HZ
  obtain ⟨x0, x1⟩ := box1N QN.out
  obtain ⟨k0, k1, k2, k3, k4, k5⟩ := box5 QK.out
  go_wp2_with fail
  refine (HLK.out _ ns x W HV.out h1 h2).mono ?_
  clear x0 x1 k0 k1 k2 k3 k4 k5
  rintro r w1 ⟨u, rfl, o1, b1⟩
  rw [HLY.out] at o1
  obtain ⟨Au, cu, rfl, _, _⟩ := o1.reads.lenN
  have ba := bstep b1 (bal1 w1 (.cells #[.slice Au LY.length cu] 26))
  have OU := Lib.hid (o1.lt.on (bal1 w1 (.cells #[.slice Au LY.length cu] 26)))
  have QO := Lib.hid (al1 w1 (.cells #[.slice Au LY.length cu] 26))
  replace QN := Lib.hid (box_on QN.out ba)
  replace QK := Lib.hid (box_on QK.out ba)
  replace QR := Lib.hid (box_on QR.out ba)
  have BBW := Lib.hid ba
  have hb1 := b1.size
  have HZ : Hid ((w1.alloc (.cells #[.slice Au LY.length cu] 26)).heap.size = w1.heap.size + 1) := Lib.hid (by simp)
  clear o1 b1 ba
  go_upto_region 2 with (fail)
  generalize w1.alloc (.cells #[.slice Au LY.length cu] 26) = W2 at *
  have hz3 := Nat.le_of_eq HZ.out
  have hz4 := Nat.le_of_eq HZ.out.symm
  clear HZ
  obtain ⟨z0, z1⟩ := box1N QO.out
  go_wp2_with fail
  refine (implNodeOk_any _ LY W2 OU.out.reads HSL.out).mono ?_
  rintro r w3 ⟨rfl, b3⟩
  rw [HR1.out]
  replace OU := Lib.hid (OU.out.on b3)
  replace QO := Lib.hid (box_on QO.out b3)
  replace QN := Lib.hid (box_on QN.out b3)
  replace QK := Lib.hid (box_on QK.out b3)
  replace QR := Lib.hid (box_on QR.out b3)
  replace BBW := Lib.hid (bstep BBW.out b3)
  have hb3 := b3.size
  clear b3 z0 z1
  cases R1
  · have P2' := Lib.hid (P2.out rfl)
    have P3' := Lib.hid (P3.out rfl)
    clear P1 P2 P3 HR1 OU QO
    have hdr : w3.heap.size ≤ w3.drew.heap.size := Nat.le_refl _
    go_upto_region 4 with (fail)
    go_cut [7] (fun s7 wx => ∃ pb vq, s7 = .pointer (some ⟨pb, 0, none⟩) ∧ w3.heap.size ≤ pb ∧ Hid (wx.heap[pb]? = some (.cells #[vq] 26)) ∧ Hid (Owns wx (fun b => w3.heap.size ≤ b ∧ b ≠ pb) vq (setsD NQ)) ∧ Hid (Below w3.heap.size w3 wx))
    case first =>
      refine but_begin (f := 7) (S := fun V => Below w3.heap.size w3 V) (by kernel_rfl) ?_
      refine but_take (f := 7) (i := 0) (v := ?vh0) rfl (by kernel_rfl) (by kernel_rfl) (by kernel_rfl) (by kernel_rfl) (by kernel_rfl) (fun _ _ _ h => h) (Or.inl ⟨(by rfl), ?hyh0⟩) (Below.drew1 _) ?resth0
      case hyh0 =>
        intro W hW
        obtain ⟨x0, x1⟩ := box1N (box_on QN.out hW)
        go_simp
        exact rfl
      simp only [List.getElem_toArray, List.getElem_cons_succ, List.getElem_cons_zero, Act.put, List.setIfInBounds_toArray, List.set_cons_zero, List.set_cons_succ]
      refine but_take (f := 7) (i := 2) (v := ?vh2) rfl (by kernel_rfl) (by kernel_rfl) (by kernel_rfl) (by kernel_rfl) (by kernel_rfl) (fun _ _ _ h => h) (Or.inl ⟨(by rfl), ?hyh2⟩) (Below.drew1 _) ?resth2
      case hyh2 =>
        intro W hW
        obtain ⟨k0, k1, k2, k3, k4, k5⟩ := box5 (box_on QK.out hW)
        go_simp
        exact rfl
      simp only [List.getElem_toArray, List.getElem_cons_succ, List.getElem_cons_zero, Act.put, List.setIfInBounds_toArray, List.set_cons_zero, List.set_cons_succ]
      refine but_two (i := 1) (j := 6) (by kernel_rfl) rfl rfl (by rfl) (by rfl) ?_ ?_
      · simp only [List.getElem_toArray, List.getElem_cons_succ, List.getElem_cons_zero]
        intro K HK
        go_wp2_with fail
        refine (implNodeKeys_any _ ns _ (HV.out.on (bstep BBW.out (Below.drew1 _))) h1 h2).mono ?_
        rintro r Vhp1 ⟨v1, rfl, o1, hbhp1⟩
        rw [HKL.out] at o1
        obtain ⟨A1, c1, rfl, _, _⟩ := o1.shape
        go_wp2_with fail
        have hShp1 : (fun V => Below w3.heap.size w3 V) Vhp1 := bstep (Below.drew1 _) hbhp1
        refine HK.out _ _ (fun _ => hShp1) ?_
        clear HK
        have OC := Lib.hid o1
        clear o1
        try replace QB := Lib.hid (box_on QB.out hbhp1)
        have hzhp1 := hbhp1.size
        refine but_two (i := 3) (j := 6) (by kernel_rfl) rfl rfl (by rfl) (by rfl) ?_ ?_
        · simp only [List.getElem_toArray, List.getElem_cons_succ, List.getElem_cons_zero]
          intro K HK
          go_wp2_with fail
          refine (HI.out _ KL x _ OC.out.owns.reads (by omega)).mono ?_
          rintro r Vhpp2 ⟨v3, rfl, o3, hbhpp2⟩
          rw [HPL.out] at o3
          obtain ⟨A3, c3, rfl, _, _⟩ := o3.shape
          go_wp2_with fail
          have hShpp2 : (fun V => Below w3.heap.size w3 V) Vhpp2 := bstep hShp1 hbhpp2
          refine HK.out _ _ (fun _ => hShpp2) ?_
          clear HK
          replace OC := Lib.hid o3
          clear o3
          try replace QB := Lib.hid (box_on QB.out hbhpp2)
          have hzhpp2 := hbhpp2.size
          refine but_two (i := 4) (j := 6) (by kernel_rfl) rfl rfl (by rfl) (by rfl) ?_ ?_
          · simp only [List.getElem_toArray, List.getElem_cons_succ, List.getElem_cons_zero]
            intro K HK
            go_wp2_with fail
            refine (implDrop_any _ PL _ OC.out.owns.reads (by omega)).mono ?_
            rintro r Vhppp3 ⟨v4, rfl, o4, hbhppp3⟩
            rw [HDL.out] at o4
            obtain ⟨A4, c4, rfl, _, _⟩ := o4.shape
            go_wp2_with fail
            have hShppp3 : (fun V => Below w3.heap.size w3 V) Vhppp3 := bstep hShpp2 hbhppp3
            refine HK.out _ _ (fun _ => hShppp3) ?_
            clear HK
            replace OC := Lib.hid o4
            clear o4
            try replace QB := Lib.hid (box_on QB.out hbhppp3)
            have hzhppp3 := hbhppp3.size
            refine but_two (i := 5) (j := 6) (by kernel_rfl) rfl rfl (by rfl) (by rfl) ?_ ?_
            · simp only [List.getElem_toArray, List.getElem_cons_succ, List.getElem_cons_zero]
              intro K HK
              go_wp2_with fail
              refine (implNodeNew_any _ DL _ OC.out.owns.reads (by omega)).mono ?_
              rintro r Vhpppp4 ⟨v5, rfl, o5, hbhpppp4⟩
              rw [HNQ.out] at o5
              obtain ⟨A5, c5, rfl, _, _⟩ := o5.reads.lenN
              go_wp2_with fail
              have hShpppp4 : (fun V => Below w3.heap.size w3 V) Vhpppp4 := bstep hShppp3 hbhpppp4
              refine HK.out _ _ (fun _ => hShpppp4) ?_
              clear HK
              have ON := Lib.hid o5.lt
              clear o5
              try replace QB := Lib.hid (box_on QB.out hbhpppp4)
              have hzhpppp4 := hbhpppp4.size
              refine but_run (i := 6) (by kernel_rfl) rfl (by rfl) ?_
              simp only [List.getElem_toArray, List.getElem_cons_succ, List.getElem_cons_zero]
              intro K HK
              go_wp2_with fail
              have hShpppp5 : (fun V => Below w3.heap.size w3 V) (Vhpppp4.alloc (.cells #[.slice none 0 0] 26)) := bstep hShpppp4 (bal1 _ _)
              refine HK.out _ _ (fun _ => hShpppp5) ?_
              clear HK
              have QB := Lib.hid (al1 Vhpppp4 (.cells #[.slice none 0 0] 26))
              try (change Hid ((w3.drew.alloc (.cells #[.slice none 0 0] 26)).heap[w3.heap.size]? = some (.cells #[.slice none 0 0] 26)) at QB)
              try have ON0 := ON
              try replace OC := Lib.hid (OC.out.on (bal1 _ (.cells #[.slice none 0 0] 26)))
              try replace ON := Lib.hid (ON.out.on (bal1 _ (.cells #[.slice none 0 0] 26)))
              have hzhpppp5 : (Vhpppp4.alloc (.cells #[.slice none 0 0] 26)).heap.size ≤ Vhpppp4.heap.size + 1 := by simp
              have hyhpppp5 : Vhpppp4.heap.size + 1 ≤ (Vhpppp4.alloc (.cells #[.slice none 0 0] 26)).heap.size := by simp
              refine but_run (i := 7) (by kernel_rfl) rfl (by rfl) ?_
              simp only [List.getElem_toArray, List.getElem_cons_succ, List.getElem_cons_zero]
              obtain ⟨z0, z1⟩ := box1N QB.out
              intro K HK
              go_wp2_with fail
              refine HK.out _ _ (fun h => absurd rfl h) ?_
              clear HK
              refine but_done (by kernel_rfl) ?_
              have hzz := hShpppp5.size
              go_wp2_with fail
              go_meet
              exact ⟨Vhpppp4.heap.size, _, rfl, by omega, Lib.hid (al1 _ _), Lib.hid ((ON0.out.on (bal1 _ _)).mono (T := fun b => w3.heap.size ≤ b ∧ b ≠ Vhpppp4.heap.size) (fun b hb => ⟨by omega, by omega⟩)), Lib.hid (bstep hShpppp4 (bal1 _ _))⟩
            · simp only [List.getElem_toArray, List.getElem_cons_succ, List.getElem_cons_zero]
              intro K HK
              go_wp2_with fail
              have hShpppq4 : (fun V => Below w3.heap.size w3 V) (Vhppp3.alloc (.cells #[.slice none 0 0] 26)) := bstep hShppp3 (bal1 _ _)
              refine HK.out _ _ (fun _ => hShpppq4) ?_
              clear HK
              have QB := Lib.hid (al1 Vhppp3 (.cells #[.slice none 0 0] 26))
              try (change Hid ((w3.drew.alloc (.cells #[.slice none 0 0] 26)).heap[w3.heap.size]? = some (.cells #[.slice none 0 0] 26)) at QB)
              try have ON0 := ON
              try replace OC := Lib.hid (OC.out.on (bal1 _ (.cells #[.slice none 0 0] 26)))
              try replace ON := Lib.hid (ON.out.on (bal1 _ (.cells #[.slice none 0 0] 26)))
              have hzhpppq4 : (Vhppp3.alloc (.cells #[.slice none 0 0] 26)).heap.size ≤ Vhppp3.heap.size + 1 := by simp
              have hyhpppq4 : Vhppp3.heap.size + 1 ≤ (Vhppp3.alloc (.cells #[.slice none 0 0] 26)).heap.size := by simp
              refine but_run (i := 5) (by kernel_rfl) rfl (by rfl) ?_
              simp only [List.getElem_toArray, List.getElem_cons_succ, List.getElem_cons_zero]
              intro K HK
              go_wp2_with fail
              refine (implNodeNew_any _ DL _ OC.out.owns.reads (by omega)).mono ?_
              rintro r Vhpppq5 ⟨v5, rfl, o5, hbhpppq5⟩
              rw [HNQ.out] at o5
              obtain ⟨A5, c5, rfl, _, _⟩ := o5.reads.lenN
              go_wp2_with fail
              have hShpppq5 : (fun V => Below w3.heap.size w3 V) Vhpppq5 := bstep hShpppq4 hbhpppq5
              refine HK.out _ _ (fun _ => hShpppq5) ?_
              clear HK
              have ON := Lib.hid o5.lt
              clear o5
              try replace QB := Lib.hid (box_on QB.out hbhpppq5)
              have hzhpppq5 := hbhpppq5.size
              refine but_run (i := 7) (by kernel_rfl) rfl (by rfl) ?_
              simp only [List.getElem_toArray, List.getElem_cons_succ, List.getElem_cons_zero]
              obtain ⟨z0, z1⟩ := box1N QB.out
              intro K HK
              go_wp2_with fail
              refine HK.out _ _ (fun h => absurd rfl h) ?_
              clear HK
              refine but_done (by kernel_rfl) ?_
              have hzz := hShpppq5.size
              go_wp2_with fail
              go_meet
              exact ⟨Vhppp3.heap.size, _, rfl, by omega, Lib.hid (box_set QB.out), Lib.hid ((ON.out.mono (T := fun b => w3.heap.size ≤ b ∧ b ≠ Vhppp3.heap.size) (fun b hb => ⟨by omega, by omega⟩)).setFar (fun h => h.2 rfl)), Lib.hid (Below.setCell hShpppq5 (p := ⟨Vhppp3.heap.size, 0, none⟩) (show w3.heap.size ≤ Vhppp3.heap.size by omega) _)⟩
          · simp only [List.getElem_toArray, List.getElem_cons_succ, List.getElem_cons_zero]
            intro K HK
            go_wp2_with fail
            have hShppq3 : (fun V => Below w3.heap.size w3 V) (Vhpp2.alloc (.cells #[.slice none 0 0] 26)) := bstep hShpp2 (bal1 _ _)
            refine HK.out _ _ (fun _ => hShppq3) ?_
            clear HK
            have QB := Lib.hid (al1 Vhpp2 (.cells #[.slice none 0 0] 26))
            try (change Hid ((w3.drew.alloc (.cells #[.slice none 0 0] 26)).heap[w3.heap.size]? = some (.cells #[.slice none 0 0] 26)) at QB)
            try have ON0 := ON
            try replace OC := Lib.hid (OC.out.on (bal1 _ (.cells #[.slice none 0 0] 26)))
            try replace ON := Lib.hid (ON.out.on (bal1 _ (.cells #[.slice none 0 0] 26)))
            have hzhppq3 : (Vhpp2.alloc (.cells #[.slice none 0 0] 26)).heap.size ≤ Vhpp2.heap.size + 1 := by simp
            have hyhppq3 : Vhpp2.heap.size + 1 ≤ (Vhpp2.alloc (.cells #[.slice none 0 0] 26)).heap.size := by simp
            refine but_run (i := 4) (by kernel_rfl) rfl (by rfl) ?_
            simp only [List.getElem_toArray, List.getElem_cons_succ, List.getElem_cons_zero]
            intro K HK
            go_wp2_with fail
            refine (implDrop_any _ PL _ OC.out.owns.reads (by omega)).mono ?_
            rintro r Vhppq4 ⟨v4, rfl, o4, hbhppq4⟩
            rw [HDL.out] at o4
            obtain ⟨A4, c4, rfl, _, _⟩ := o4.shape
            go_wp2_with fail
            have hShppq4 : (fun V => Below w3.heap.size w3 V) Vhppq4 := bstep hShppq3 hbhppq4
            refine HK.out _ _ (fun _ => hShppq4) ?_
            clear HK
            replace OC := Lib.hid o4
            clear o4
            try replace QB := Lib.hid (box_on QB.out hbhppq4)
            have hzhppq4 := hbhppq4.size
            refine but_run (i := 5) (by kernel_rfl) rfl (by rfl) ?_
            simp only [List.getElem_toArray, List.getElem_cons_succ, List.getElem_cons_zero]
            intro K HK
            go_wp2_with fail
            refine (implNodeNew_any _ DL _ OC.out.owns.reads (by omega)).mono ?_
            rintro r Vhppq5 ⟨v5, rfl, o5, hbhppq5⟩
            rw [HNQ.out] at o5
            obtain ⟨A5, c5, rfl, _, _⟩ := o5.reads.lenN
            go_wp2_with fail
            have hShppq5 : (fun V => Below w3.heap.size w3 V) Vhppq5 := bstep hShppq4 hbhppq5
            refine HK.out _ _ (fun _ => hShppq5) ?_
            clear HK
            have ON := Lib.hid o5.lt
            clear o5
            try replace QB := Lib.hid (box_on QB.out hbhppq5)
            have hzhppq5 := hbhppq5.size
            refine but_run (i := 7) (by kernel_rfl) rfl (by rfl) ?_
            simp only [List.getElem_toArray, List.getElem_cons_succ, List.getElem_cons_zero]
            obtain ⟨z0, z1⟩ := box1N QB.out
            intro K HK
            go_wp2_with fail
            refine HK.out _ _ (fun h => absurd rfl h) ?_
            clear HK
            refine but_done (by kernel_rfl) ?_
            have hzz := hShppq5.size
            go_wp2_with fail
            go_meet
            exact ⟨Vhpp2.heap.size, _, rfl, by omega, Lib.hid (box_set QB.out), Lib.hid ((ON.out.mono (T := fun b => w3.heap.size ≤ b ∧ b ≠ Vhpp2.heap.size) (fun b hb => ⟨by omega, by omega⟩)).setFar (fun h => h.2 rfl)), Lib.hid (Below.setCell hShppq5 (p := ⟨Vhpp2.heap.size, 0, none⟩) (show w3.heap.size ≤ Vhpp2.heap.size by omega) _)⟩
        · simp only [List.getElem_toArray, List.getElem_cons_succ, List.getElem_cons_zero]
          intro K HK
          go_wp2_with fail
          have hShpq2 : (fun V => Below w3.heap.size w3 V) (Vhp1.alloc (.cells #[.slice none 0 0] 26)) := bstep hShp1 (bal1 _ _)
          refine HK.out _ _ (fun _ => hShpq2) ?_
          clear HK
          have QB := Lib.hid (al1 Vhp1 (.cells #[.slice none 0 0] 26))
          try (change Hid ((w3.drew.alloc (.cells #[.slice none 0 0] 26)).heap[w3.heap.size]? = some (.cells #[.slice none 0 0] 26)) at QB)
          try have ON0 := ON
          try replace OC := Lib.hid (OC.out.on (bal1 _ (.cells #[.slice none 0 0] 26)))
          try replace ON := Lib.hid (ON.out.on (bal1 _ (.cells #[.slice none 0 0] 26)))
          have hzhpq2 : (Vhp1.alloc (.cells #[.slice none 0 0] 26)).heap.size ≤ Vhp1.heap.size + 1 := by simp
          have hyhpq2 : Vhp1.heap.size + 1 ≤ (Vhp1.alloc (.cells #[.slice none 0 0] 26)).heap.size := by simp
          refine but_run (i := 3) (by kernel_rfl) rfl (by rfl) ?_
          simp only [List.getElem_toArray, List.getElem_cons_succ, List.getElem_cons_zero]
          intro K HK
          go_wp2_with fail
          refine (HI.out _ KL x _ OC.out.owns.reads (by omega)).mono ?_
          rintro r Vhpq3 ⟨v3, rfl, o3, hbhpq3⟩
          rw [HPL.out] at o3
          obtain ⟨A3, c3, rfl, _, _⟩ := o3.shape
          go_wp2_with fail
          have hShpq3 : (fun V => Below w3.heap.size w3 V) Vhpq3 := bstep hShpq2 hbhpq3
          refine HK.out _ _ (fun _ => hShpq3) ?_
          clear HK
          replace OC := Lib.hid o3
          clear o3
          try replace QB := Lib.hid (box_on QB.out hbhpq3)
          have hzhpq3 := hbhpq3.size
          refine but_run (i := 4) (by kernel_rfl) rfl (by rfl) ?_
          simp only [List.getElem_toArray, List.getElem_cons_succ, List.getElem_cons_zero]
          intro K HK
          go_wp2_with fail
          refine (implDrop_any _ PL _ OC.out.owns.reads (by omega)).mono ?_
          rintro r Vhpq4 ⟨v4, rfl, o4, hbhpq4⟩
          rw [HDL.out] at o4
          obtain ⟨A4, c4, rfl, _, _⟩ := o4.shape
          go_wp2_with fail
          have hShpq4 : (fun V => Below w3.heap.size w3 V) Vhpq4 := bstep hShpq3 hbhpq4
          refine HK.out _ _ (fun _ => hShpq4) ?_
          clear HK
          replace OC := Lib.hid o4
          clear o4
          try replace QB := Lib.hid (box_on QB.out hbhpq4)
          have hzhpq4 := hbhpq4.size
          refine but_run (i := 5) (by kernel_rfl) rfl (by rfl) ?_
          simp only [List.getElem_toArray, List.getElem_cons_succ, List.getElem_cons_zero]
          intro K HK
          go_wp2_with fail
          refine (implNodeNew_any _ DL _ OC.out.owns.reads (by omega)).mono ?_
          rintro r Vhpq5 ⟨v5, rfl, o5, hbhpq5⟩
          rw [HNQ.out] at o5
          obtain ⟨A5, c5, rfl, _, _⟩ := o5.reads.lenN
          go_wp2_with fail
          have hShpq5 : (fun V => Below w3.heap.size w3 V) Vhpq5 := bstep hShpq4 hbhpq5
          refine HK.out _ _ (fun _ => hShpq5) ?_
          clear HK
          have ON := Lib.hid o5.lt
          clear o5
          try replace QB := Lib.hid (box_on QB.out hbhpq5)
          have hzhpq5 := hbhpq5.size
          refine but_run (i := 7) (by kernel_rfl) rfl (by rfl) ?_
          simp only [List.getElem_toArray, List.getElem_cons_succ, List.getElem_cons_zero]
          obtain ⟨z0, z1⟩ := box1N QB.out
          intro K HK
          go_wp2_with fail
          refine HK.out _ _ (fun h => absurd rfl h) ?_
          clear HK
          refine but_done (by kernel_rfl) ?_
          have hzz := hShpq5.size
          go_wp2_with fail
          go_meet
          exact ⟨Vhp1.heap.size, _, rfl, by omega, Lib.hid (box_set QB.out), Lib.hid ((ON.out.mono (T := fun b => w3.heap.size ≤ b ∧ b ≠ Vhp1.heap.size) (fun b hb => ⟨by omega, by omega⟩)).setFar (fun h => h.2 rfl)), Lib.hid (Below.setCell hShpq5 (p := ⟨Vhp1.heap.size, 0, none⟩) (show w3.heap.size ≤ Vhp1.heap.size by omega) _)⟩
      · simp only [List.getElem_toArray, List.getElem_cons_succ, List.getElem_cons_zero]
        intro K HK
        go_wp2_with fail
        have hShq1 : (fun V => Below w3.heap.size w3 V) (w3.drew.alloc (.cells #[.slice none 0 0] 26)) := bstep (Below.drew1 _) (bal1 _ _)
        refine HK.out _ _ (fun _ => hShq1) ?_
        clear HK
        have QB := Lib.hid (al1 w3.drew (.cells #[.slice none 0 0] 26))
        try (change Hid ((w3.drew.alloc (.cells #[.slice none 0 0] 26)).heap[w3.heap.size]? = some (.cells #[.slice none 0 0] 26)) at QB)
        try have ON0 := ON
        try replace OC := Lib.hid (OC.out.on (bal1 _ (.cells #[.slice none 0 0] 26)))
        try replace ON := Lib.hid (ON.out.on (bal1 _ (.cells #[.slice none 0 0] 26)))
        have hzhq1 : (w3.drew.alloc (.cells #[.slice none 0 0] 26)).heap.size ≤ w3.drew.heap.size + 1 := by simp
        have hyhq1 : w3.drew.heap.size + 1 ≤ (w3.drew.alloc (.cells #[.slice none 0 0] 26)).heap.size := by simp
        refine but_run (i := 1) (by kernel_rfl) rfl (by rfl) ?_
        simp only [List.getElem_toArray, List.getElem_cons_succ, List.getElem_cons_zero]
        intro K HK
        go_wp2_with fail
        refine (implNodeKeys_any _ ns _ (HV.out.on (bstep BBW.out hShq1)) h1 h2).mono ?_
        rintro r Vhq2 ⟨v1, rfl, o1, hbhq2⟩
        rw [HKL.out] at o1
        obtain ⟨A1, c1, rfl, _, _⟩ := o1.shape
        go_wp2_with fail
        have hShq2 : (fun V => Below w3.heap.size w3 V) Vhq2 := bstep hShq1 hbhq2
        refine HK.out _ _ (fun _ => hShq2) ?_
        clear HK
        have OC := Lib.hid o1
        clear o1
        try replace QB := Lib.hid (box_on QB.out hbhq2)
        have hzhq2 := hbhq2.size
        refine but_run (i := 3) (by kernel_rfl) rfl (by rfl) ?_
        simp only [List.getElem_toArray, List.getElem_cons_succ, List.getElem_cons_zero]
        intro K HK
        go_wp2_with fail
        refine (HI.out _ KL x _ OC.out.owns.reads (by omega)).mono ?_
        rintro r Vhq3 ⟨v3, rfl, o3, hbhq3⟩
        rw [HPL.out] at o3
        obtain ⟨A3, c3, rfl, _, _⟩ := o3.shape
        go_wp2_with fail
        have hShq3 : (fun V => Below w3.heap.size w3 V) Vhq3 := bstep hShq2 hbhq3
        refine HK.out _ _ (fun _ => hShq3) ?_
        clear HK
        replace OC := Lib.hid o3
        clear o3
        try replace QB := Lib.hid (box_on QB.out hbhq3)
        have hzhq3 := hbhq3.size
        refine but_run (i := 4) (by kernel_rfl) rfl (by rfl) ?_
        simp only [List.getElem_toArray, List.getElem_cons_succ, List.getElem_cons_zero]
        intro K HK
        go_wp2_with fail
        refine (implDrop_any _ PL _ OC.out.owns.reads (by omega)).mono ?_
        rintro r Vhq4 ⟨v4, rfl, o4, hbhq4⟩
        rw [HDL.out] at o4
        obtain ⟨A4, c4, rfl, _, _⟩ := o4.shape
        go_wp2_with fail
        have hShq4 : (fun V => Below w3.heap.size w3 V) Vhq4 := bstep hShq3 hbhq4
        refine HK.out _ _ (fun _ => hShq4) ?_
        clear HK
        replace OC := Lib.hid o4
        clear o4
        try replace QB := Lib.hid (box_on QB.out hbhq4)
        have hzhq4 := hbhq4.size
        refine but_run (i := 5) (by kernel_rfl) rfl (by rfl) ?_
        simp only [List.getElem_toArray, List.getElem_cons_succ, List.getElem_cons_zero]
        intro K HK
        go_wp2_with fail
        refine (implNodeNew_any _ DL _ OC.out.owns.reads (by omega)).mono ?_
        rintro r Vhq5 ⟨v5, rfl, o5, hbhq5⟩
        rw [HNQ.out] at o5
        obtain ⟨A5, c5, rfl, _, _⟩ := o5.reads.lenN
        go_wp2_with fail
        have hShq5 : (fun V => Below w3.heap.size w3 V) Vhq5 := bstep hShq4 hbhq5
        refine HK.out _ _ (fun _ => hShq5) ?_
        clear HK
        have ON := Lib.hid o5.lt
        clear o5
        try replace QB := Lib.hid (box_on QB.out hbhq5)
        have hzhq5 := hbhq5.size
        refine but_run (i := 7) (by kernel_rfl) rfl (by rfl) ?_
        simp only [List.getElem_toArray, List.getElem_cons_succ, List.getElem_cons_zero]
        obtain ⟨z0, z1⟩ := box1N QB.out
        intro K HK
        go_wp2_with fail
        refine HK.out _ _ (fun h => absurd rfl h) ?_
        clear HK
        refine but_done (by kernel_rfl) ?_
        have hzz := hShq5.size
        go_wp2_with fail
        go_meet
        exact ⟨w3.heap.size, _, rfl, by omega, Lib.hid (box_set QB.out), Lib.hid ((ON.out.mono (T := fun b => w3.heap.size ≤ b ∧ b ≠ w3.heap.size) (fun b hb => ⟨by omega, by omega⟩)).setFar (fun h => h.2 rfl)), Lib.hid (Below.setCell hShq5 (p := ⟨w3.heap.size, 0, none⟩) (show w3.heap.size ≤ w3.heap.size by omega) _)⟩
    case rest =>
      obtain ⟨pb, vq, rfl, hpb, QB, ON, BX⟩ := hcut
      obtain ⟨A5, c5, rfl, _, _⟩ := ON.out.reads.lenN
      replace QN := Lib.hid (box_on QN.out BX.out)
      replace QR := Lib.hid (box_on QR.out BX.out)
      replace BBW := Lib.hid (bstep BBW.out BX.out)
      have hbx := BX.out.size
      obtain ⟨z0, z1⟩ := box1N QB.out
      go_wp2_with fail
      refine (implNodeOk_any _ NQ _ ON.out.reads HSQ.out).mono ?_
      rintro r w5 ⟨rfl, b5⟩
      rw [HR2.out]
      replace QN := Lib.hid (box_on QN.out b5)
      replace QB := Lib.hid (box_on QB.out b5)
      replace QR := Lib.hid (box_on QR.out b5)
      replace ON := Lib.hid (ON.out.on b5)
      replace BBW := Lib.hid (bstep BBW.out b5)
      clear b5 z0 z1
      obtain ⟨y0, y1⟩ := box1N QR.out
      cases R2
      · have hP := P3'.out rfl
        have HP := Lib.hid hP
        clear hP P2' P3' HR2
        obtain ⟨x0, x1⟩ := box1N QN.out
        go_wp2_with fail
        refine (copyNode_any _ ns _ (HV.out.on BBW.out) HS.out).mono ?_
        rintro r w6 ⟨v6, rfl, o6, b6⟩
        obtain ⟨A6, c6, rfl, _, _⟩ := o6.reads.lenN
        have hb6 := BBW.out.size
        have O6 := Lib.hid o6
        have B6 := Lib.hid (bstep (bstep HB.out BBW.out) b6)
        clear y0 y1 x0 x1
        obtain ⟨y0, y1⟩ := box1N (box_on QR.out b6)
        clear o6 b6
        go_wp2
        refine bodyPost_ret (v := .tuple #[.agg #[.slice A6 ns.length c6], .bool false]) (by simp [results, Try.results13, go_sem, y0, y1]) rfl ⟨_, by rw [HP.out.2], ?_, ?_⟩
        · rw [HP.out.1]
          exact (O6.out.setFar (by omega)).mono (fun b hb => by omega)
        · exact B6.out.setCell (p := ⟨w.heap.size + 1 + 1, 0, none⟩) (show w.heap.size ≤ w.heap.size + 1 + 1 by omega) _
      · have hP := P2'.out rfl
        have HP := Lib.hid hP
        clear hP P2' P3' HR2
        obtain ⟨z0, z1⟩ := box1N QB.out
        have B6 := Lib.hid (bstep HB.out BBW.out)
        have hw3 : w.heap.size + 1 + 1 < w3.heap.size := by omega
        go_wp2
        refine bodyPost_ret (v := .tuple #[.agg #[.slice A5 NQ.length c5], .bool true]) (by simp [results, Try.results13, go_sem, y0, y1]) rfl ⟨_, by rw [HP.out.2], ?_, ?_⟩
        · rw [HP.out.1]
          exact (ON.out.setFar (fun h => by have := h.1; omega)).mono (fun b hb => by have := hb.1; omega)
        · exact B6.out.setCell (p := ⟨w.heap.size + 1 + 1, 0, none⟩) (show w.heap.size ≤ w.heap.size + 1 + 1 by omega) _
  · have hP := P1.out rfl
    have HP := Lib.hid hP
    clear hP P1 P2 P3 HR1
    obtain ⟨z0, z1⟩ := box1N QO.out
    obtain ⟨y0, y1⟩ := box1N QR.out
    have B6 := Lib.hid (bstep HB.out BBW.out)
    go_wp2
    refine bodyPost_ret (v := .tuple #[.agg #[.slice Au LY.length cu], .bool true]) (by simp [results, Try.results13, go_sem, y0, y1]) rfl ⟨_, by rw [HP.out.2], ?_, ?_⟩
    · rw [HP.out.1]
      exact (OU.out.setFar (fun h => by have := h.1; omega)).mono (fun b hb => by have := hb.1; omega)
    · exact B6.out.setCell (p := ⟨w.heap.size + 1 + 1, 0, none⟩) (show w.heap.size ≤ w.heap.size + 1 + 1 by omega) _
end Go.Proofs.Ytncjedbdkanleaa
