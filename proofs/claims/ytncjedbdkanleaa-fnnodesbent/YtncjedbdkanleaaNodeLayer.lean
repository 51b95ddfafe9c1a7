/- The contract of impl.layerKey. Conditions: at most 1048576 sets and keys. -/
import Derived.Test.YtncjedbdkanleaaNodeBox
import Derived.Test.YtncjedbdkanleaaLast3
namespace Go.Proofs.Ytncjedbdkanleaa
open Go.RowKit
set_option maxRecDepth 100000
set_option linter.unusedSimpArgs false
set_option linter.unusedVariables false
set_option maxHeartbeats 4000000 in
theorem layerKey_any (v : Value) (ns : List (List KeyD)) (x : KeyD) (w : World) (hv : Reads w w.heap.size v (setsD ns)) (h1 : ns.length ≤ 1048576) (h2 : sumN ns ≤ 1048576) : Calls Try.prog 49 #[.agg #[v], x.v] w (NewN w (layerK ns x)) := by
  obtain ⟨A, c, rfl, _, _⟩ := hv.lenN
  obtain ⟨q0, q1, q2⟩ := al3 w (.cells #[.slice A ns.length c] 26) (.cells #[.int .i64 x.a, .int .i64 x.b, .int .i64 x.c, .int .i64 x.d, .int .i64 x.e] 28) (.cells #[.slice none 0 0] 26)
  have B0 := bal3 w (.cells #[.slice A ns.length c] 26) (.cells #[.int .i64 x.a, .int .i64 x.b, .int .i64 x.c, .int .i64 x.d, .int .i64 x.e] 28) (.cells #[.slice none 0 0] 26)
  have HB := Lib.hid B0
  have Q0 := Lib.hid q0
  have QK := Lib.hid q1
  have QR := Lib.hid q2
  have HV := Lib.hid (hv.on B0)
  have HZ : Hid ((((w.alloc (.cells #[.slice A ns.length c] 26)).alloc (.cells #[.int .i64 x.a, .int .i64 x.b, .int .i64 x.c, .int .i64 x.d, .int .i64 x.e] 28)).alloc (.cells #[.slice none 0 0] 26)).heap.size = w.heap.size + 3) := Lib.hid (by simp)
  have HS : Hid (SmallN ns) := Lib.hid ⟨by omega, by omega⟩
  have HT := Lib.hid takesKey_any
  have HI := Lib.hid implSetPut_any
  unfold KeyD.v keyV at HT HI
  unfold KeyD.v keyV
  clear hv B0 q0 q1 q2
  go_enter Try.func49, Try.ntmps49
  go_upto_region 1 with (fail)
  generalize ((w.alloc (.cells #[.slice A ns.length c] 26)).alloc (.cells #[.int .i64 x.a, .int .i64 x.b, .int .i64 x.c, .int .i64 x.d, .int .i64 x.e] 28)).alloc (.cells #[.slice none 0 0] 26) = W at *
  have hz1 := Nat.le_of_eq HZ.out
  have hz2 := Nat.le_of_eq HZ.out.symm
  clear HZ
  obtain ⟨x0, x1⟩ := box1N Q0.out
  go_wp2_with fail
  refine (copyNode_any _ ns W HV.out HS.out).mono ?_
  rintro r w1 ⟨u, rfl, o1, b1⟩
  obtain ⟨Au, cu, rfl, _, _⟩ := o1.reads.lenN
  have NO := Lib.hid (NOwn.of o1 (.cells #[.slice Au ns.length cu] 26))
  have QO := Lib.hid (al1 w1 (.cells #[.slice Au ns.length cu] 26))
  have ba := bstep b1 (bal1 w1 (.cells #[.slice Au ns.length cu] 26))
  replace QK := Lib.hid (box_on QK.out ba)
  replace QR := Lib.hid (box_on QR.out ba)
  have BBW := Lib.hid ba
  have hb1 := b1.size
  have HZ : Hid ((w1.alloc (.cells #[.slice Au ns.length cu] 26)).heap.size = w1.heap.size + 1) := Lib.hid (by simp)
  clear o1 b1 ba x0 x1 HV
  go_upto_region 2 with (fail)
  generalize w1.alloc (.cells #[.slice Au ns.length cu] 26) = W2 at *
  have hz3 := Nat.le_of_eq HZ.out
  have hz4 := Nat.le_of_eq HZ.out.symm
  clear HZ
  obtain ⟨z0, z1⟩ := box1N QO.out
  by_cases h0 : ns.length = 0
  · have hnil : ns = [] := List.length_eq_zero_iff.1 h0
    subst hnil
    have HLay : Hid (layerK [] x = [] ++ [[x]]) := Lib.hid rfl
    clear h0
    go_upto_region 3 with (fail)
    refine but_begin (f := 10) (S := fun V => Below W2.heap.size W2 V) (by kernel_rfl) ?_
    refine but_take (f := 10) (i := 0) (v := ?ve0) rfl (by kernel_rfl) (by kernel_rfl) (by kernel_rfl) (by kernel_rfl) (by kernel_rfl) (fun _ _ _ h => h) (Or.inl ⟨(by rfl), ?hye0⟩) (Below.drew1 _) ?reste0
    case hye0 =>
      intro W hW
      go_simp
      exact rfl
    simp only [List.getElem_toArray, List.getElem_cons_succ, List.getElem_cons_zero, Act.put, List.setIfInBounds_toArray, List.set_cons_zero, List.set_cons_succ]
    refine but_take (f := 10) (i := 1) (v := ?ve1) rfl (by kernel_rfl) (by kernel_rfl) (by kernel_rfl) (by kernel_rfl) (by kernel_rfl) (fun _ _ _ h => h) (Or.inl ⟨(by rfl), ?hye1⟩) (Below.drew1 _) ?reste1
    case hye1 =>
      intro W hW
      go_simp
      exact rfl
    simp only [List.getElem_toArray, List.getElem_cons_succ, List.getElem_cons_zero, Act.put, List.setIfInBounds_toArray, List.set_cons_zero, List.set_cons_succ]
    refine but_take (f := 10) (i := 2) (v := ?ve2) rfl (by kernel_rfl) (by kernel_rfl) (by kernel_rfl) (by kernel_rfl) (by kernel_rfl) (fun _ _ _ h => h) (Or.inl ⟨(by rfl), ?hye2⟩) (Below.drew1 _) ?reste2
    case hye2 =>
      intro W hW
      go_simp
      exact rfl
    simp only [List.getElem_toArray, List.getElem_cons_succ, List.getElem_cons_zero, Act.put, List.setIfInBounds_toArray, List.set_cons_zero, List.set_cons_succ]
    refine but_take (f := 10) (i := 3) (v := undef) rfl (by kernel_rfl) (by kernel_rfl) (by kernel_rfl) (by kernel_rfl) (by kernel_rfl) (fun _ _ _ h => h) (Or.inr ⟨((wanted_at rfl rfl rfl rfl).trans rfl), rfl⟩) (Below.drew1 _) ?_
    simp only [List.getElem_toArray, List.getElem_cons_succ, List.getElem_cons_zero, Act.put, List.setIfInBounds_toArray, List.set_cons_zero, List.set_cons_succ]
    refine but_take (f := 10) (i := 4) (v := undef) rfl (by kernel_rfl) (by kernel_rfl) (by kernel_rfl) (by kernel_rfl) (by kernel_rfl) (fun _ _ _ h => h) (Or.inr ⟨((wanted_at rfl rfl rfl rfl).trans rfl), rfl⟩) (Below.drew1 _) ?_
    simp only [List.getElem_toArray, List.getElem_cons_succ, List.getElem_cons_zero, Act.put, List.setIfInBounds_toArray, List.set_cons_zero, List.set_cons_succ]
    refine but_take (f := 10) (i := 5) (v := undef) rfl (by kernel_rfl) (by kernel_rfl) (by kernel_rfl) (by kernel_rfl) (by kernel_rfl) (fun _ _ _ h => h) (Or.inr ⟨((wanted_at rfl rfl rfl rfl).trans rfl), rfl⟩) (Below.drew1 _) ?_
    simp only [List.getElem_toArray, List.getElem_cons_succ, List.getElem_cons_zero, Act.put, List.setIfInBounds_toArray, List.set_cons_zero, List.set_cons_succ]
    refine but_take (f := 10) (i := 6) (v := undef) rfl (by kernel_rfl) (by kernel_rfl) (by kernel_rfl) (by kernel_rfl) (by kernel_rfl) (fun _ _ _ h => h) (Or.inr ⟨((wanted_at rfl rfl rfl rfl).trans rfl), rfl⟩) (Below.drew1 _) ?_
    simp only [List.getElem_toArray, List.getElem_cons_succ, List.getElem_cons_zero, Act.put, List.setIfInBounds_toArray, List.set_cons_zero, List.set_cons_succ]
    refine but_take (f := 10) (i := 7) (v := undef) rfl (by kernel_rfl) (by kernel_rfl) (by kernel_rfl) (by kernel_rfl) (by kernel_rfl) (fun _ _ _ h => h) (Or.inr ⟨((wanted_at rfl rfl rfl rfl).trans rfl), rfl⟩) (Below.drew1 _) ?_
    simp only [List.getElem_toArray, List.getElem_cons_succ, List.getElem_cons_zero, Act.put, List.setIfInBounds_toArray, List.set_cons_zero, List.set_cons_succ]
    refine but_take (f := 10) (i := 8) (v := undef) rfl (by kernel_rfl) (by kernel_rfl) (by kernel_rfl) (by kernel_rfl) (by kernel_rfl) (fun _ _ _ h => h) (Or.inr ⟨((wanted_at rfl rfl rfl rfl).trans rfl), rfl⟩) (Below.drew1 _) ?_
    simp only [List.getElem_toArray, List.getElem_cons_succ, List.getElem_cons_zero, Act.put, List.setIfInBounds_toArray, List.set_cons_zero, List.set_cons_succ]
    refine but_take (f := 10) (i := 9) (v := undef) rfl (by kernel_rfl) (by kernel_rfl) (by kernel_rfl) (by kernel_rfl) (by kernel_rfl) (fun _ _ _ h => h) (Or.inr ⟨((wanted_at rfl rfl rfl rfl).trans rfl), rfl⟩) (Below.drew1 _) ?_
    simp only [List.getElem_toArray, List.getElem_cons_succ, List.getElem_cons_zero, Act.put, List.setIfInBounds_toArray, List.set_cons_zero, List.set_cons_succ]
    refine but_run (i := 10) (by kernel_rfl) rfl (by rfl) ?_
    simp only [List.getElem_toArray, List.getElem_cons_succ, List.getElem_cons_zero]
    intro K HK
    go_wp2_with fail
    refine HK.out _ _ (fun h => absurd rfl h) ?_
    clear HK
    refine but_done (by kernel_rfl) ?_
    clear z0 z1
    replace QK := Lib.hid (box_on QK.out (Below.drew1 _))
    replace QR := Lib.hid (box_on QR.out (Below.drew1 _))
    replace QO := Lib.hid (box_on QO.out (Below.drew1 _))
    replace NO := Lib.hid (NO.out.on (Below.drew1 _))
    replace BBW := Lib.hid (bstep BBW.out (Below.drew1 _))
    have hzd : W2.heap.size ≤ W2.drew.heap.size := Nat.le_refl _
    generalize W2.drew = W3 at *
    obtain ⟨xs, hr, ho, hne⟩ := NO.out
    obtain ⟨k0, k1, k2, k3, k4, k5⟩ := box5 QK.out
    obtain ⟨z0, z1⟩ := box1N QO.out
    have AT := Lib.hid (At.lit1n (W3.alloc (.cells #[.int .i64 x.a, .int .i64 x.b, .int .i64 x.c, .int .i64 x.d, .int .i64 x.e] 28)) (.slice (some ⟨W3.heap.size, 0, none⟩) 1 1) 34 (n := W3.heap.size + 1) (by simp))
    have HRW := Lib.hid (row_on hr (bal2 W3 (.cells #[.int .i64 x.a, .int .i64 x.b, .int .i64 x.c, .int .i64 x.d, .int .i64 x.e] 28) (.cells #[.slice (some ⟨W3.heap.size, 0, none⟩) 1 1] 34)))
    have HR0 := Lib.hid hr
    have HO0 := Lib.hid ho
    have HNE := Lib.hid hne
    clear hr ho hne
    go_wp2_with (at_builtin; refine wpList_appV _ rfl (.tmp 37) (.tmp 40) 24 34 1 24 (.slice none 0 0) rfl Try.underlying24 (by kernel_rfl) rfl (by omega) (by omega) W.heap.size ([] : List (List KeyD)).length _ xs rfl HRW.out (some ⟨W3.heap.size + 1, 0, none⟩) 1 1 [.slice (some ⟨W3.heap.size, 0, none⟩) 1 1] rfl rfl AT.out (by simp [Value.oneCell']) (by first | omega | (simp; done)) (by have := BBW.out.size; simp; omega) ?_; intro v8 w8 o8 g8 n8 at8; clear z0 z1 k0 k1 k2 k3 k4 k5; have P8 := Lib.hid (box_grown (box_on QO.out (bal2 W3 (.cells #[.int .i64 x.a, .int .i64 x.b, .int .i64 x.c, .int .i64 x.d, .int .i64 x.e] 28) (.cells #[.slice (some ⟨W3.heap.size, 0, none⟩) 1 1] 34))) g8 HNE.out); have P9 := Lib.hid (box_grown (box_on QR.out (bal2 W3 (.cells #[.int .i64 x.a, .int .i64 x.b, .int .i64 x.c, .int .i64 x.d, .int .i64 x.e] 28) (.cells #[.slice (some ⟨W3.heap.size, 0, none⟩) 1 1] 34))) g8 (row_ne HR0.out (by omega))); have G8 := Lib.hid g8; have O8 := Lib.hid o8; have AT8 := Lib.hid at8; obtain ⟨gv, cv, rfl⟩ := row_shape o8 (by omega); obtain ⟨z0, z1⟩ := box1N P8.out; obtain ⟨y0, y1⟩ := box1N P9.out; clear o8 g8 n8 at8 HRW)
    have n1 : ¬ w1.heap.size = w.heap.size + 1 + 1 := by omega
    have n2 : ¬ w.heap.size + 1 + 1 = w1.heap.size := by omega
    go_wp2
    refine bodyPost_ret (v := .agg #[.slice (some ⟨gv, 0, none⟩) (([] : List (List KeyD)).length + 1) cv]) (by simp [results, Try.results49, go_sem, z0, z1, y0, y1, n1, n2]) rfl ⟨_, rfl, ?_, ?_⟩
    · rw [HLay.out]
      have hN := (NOwn.app HR0.out HO0.out HNE.out (by omega) (by have := BBW.out.size; omega) O8.out G8.out AT8.out).owns
      exact (hN.setFar (by omega)).mono (fun b hb => by have := hb.1; omega)
    · have hb8 : Below W.heap.size W w8 := (BBW.out.trans ((bal2 _ _ _).mono BBW.out.size)).grown G8.out (by have := BBW.out.size; simp; omega) (fun k e => (row_lt HR0.out k e).2)
      exact ((bstep HB.out hb8).setCell (p := ⟨w1.heap.size, 0, none⟩) (show w.heap.size ≤ w1.heap.size by omega) _).setCell (p := ⟨w.heap.size + 1 + 1, 0, none⟩) (show w.heap.size ≤ w.heap.size + 1 + 1 by omega) _
  · obtain ⟨L, hL⟩ : ∃ L, ns.length = L + 1 := ⟨ns.length - 1, by omega⟩
    have hlt : L < ns.length := by omega
    have i3 : IntKind.i64.wrap ((ns.length : Int) - 1) = (L : Int) := by rw [IntKind.wrap_i64]; omega
    have i1 : (L : Int) < (ns.length : Int) := by omega
    have i2 : (0 : Int) ≤ (L : Int) := by omega
    have t0 : decide ((0 : Int) ≤ (L : Int)) = true := decide_eq_true i2
    have e1 : ns.length - 1 = L := by omega
    obtain ⟨T, hT⟩ : ∃ T, takesB ns[L] x = T := ⟨_, rfl⟩
    have HT0 := Lib.hid hT
    have HLay : Hid (layerK ns x = if T then ns.set L (putK ns[L] x) else ns ++ [[x]]) := Lib.hid (by
      unfold layerK
      rw [dif_pos (by omega)]
      simp only [e1, hT])
    have hll := HS.out.at hlt
    clear h0 hL hT e1
    obtain ⟨g, cap, A2, c2, hu, hbg, hgo, hgl, c1, fz, r1⟩ := NO.out.elem hlt
    cases hu
    have C1 := Lib.hid c1
    have R1 := Lib.hid r1
    clear c1 fz r1
    go_upto_region 3 with (fail)
    refine but_begin (f := 10) (S := fun V => Below W2.heap.size W2 V) (by kernel_rfl) ?_
    refine but_take (f := 10) (i := 0) (v := ?vf0) rfl (by kernel_rfl) (by kernel_rfl) (by kernel_rfl) (by kernel_rfl) (by kernel_rfl) (fun _ _ _ h => h) (Or.inl ⟨(by rfl), ?hyf0⟩) (Below.drew1 _) ?restf0
    case hyf0 =>
      intro W hW
      go_simp
      exact rfl
    simp only [List.getElem_toArray, List.getElem_cons_succ, List.getElem_cons_zero, Act.put, List.setIfInBounds_toArray, List.set_cons_zero, List.set_cons_succ]
    refine but_take (f := 10) (i := 1) (v := ?vf1) rfl (by kernel_rfl) (by kernel_rfl) (by kernel_rfl) (by kernel_rfl) (by kernel_rfl) (fun _ _ _ h => h) (Or.inl ⟨(by rfl), ?hyf1⟩) (Below.drew1 _) ?restf1
    case hyf1 =>
      intro W hW
      go_simp
      exact rfl
    simp only [List.getElem_toArray, List.getElem_cons_succ, List.getElem_cons_zero, Act.put, List.setIfInBounds_toArray, List.set_cons_zero, List.set_cons_succ]
    refine but_take (f := 10) (i := 2) (v := ?vf2) rfl (by kernel_rfl) (by kernel_rfl) (by kernel_rfl) (by kernel_rfl) (by kernel_rfl) (fun _ _ _ h => h) (Or.inl ⟨(by rfl), ?hyf2⟩) (Below.drew1 _) ?restf2
    case hyf2 =>
      intro W hW
      go_simp
      exact rfl
    simp only [List.getElem_toArray, List.getElem_cons_succ, List.getElem_cons_zero, Act.put, List.setIfInBounds_toArray, List.set_cons_zero, List.set_cons_succ]
    refine but_take (f := 10) (i := 3) (v := ?vf3) rfl (by kernel_rfl) (by kernel_rfl) (by kernel_rfl) (by kernel_rfl) (by kernel_rfl) (fun _ _ _ h => h) (Or.inl ⟨((wanted_at rfl rfl rfl rfl).trans rfl), ?hyf3⟩) (Below.drew1 _) ?restf3
    case hyf3 =>
      intro W hW
      go_simp
      exact rfl
    simp only [List.getElem_toArray, List.getElem_cons_succ, List.getElem_cons_zero, Act.put, List.setIfInBounds_toArray, List.set_cons_zero, List.set_cons_succ]
    refine but_take (f := 10) (i := 4) (v := ?vf4) rfl (by kernel_rfl) (by kernel_rfl) (by kernel_rfl) (by kernel_rfl) (by kernel_rfl) (fun _ _ _ h => h) (Or.inl ⟨((wanted_at rfl rfl rfl rfl).trans rfl), ?hyf4⟩) (Below.drew1 _) ?restf4
    case hyf4 =>
      intro W hW
      obtain ⟨z0, z1⟩ := box1N (box_on QO.out hW)
      go_simp
      exact rfl
    simp only [List.getElem_toArray, List.getElem_cons_succ, List.getElem_cons_zero, Act.put, List.setIfInBounds_toArray, List.set_cons_zero, List.set_cons_succ]
    refine but_take (f := 10) (i := 5) (v := ?vf5) rfl (by kernel_rfl) (by kernel_rfl) (by kernel_rfl) (by kernel_rfl) (by kernel_rfl) (fun _ _ _ h => h) (Or.inl ⟨((wanted_at rfl rfl rfl rfl).trans rfl), ?hyf5⟩) (Below.drew1 _) ?restf5
    case hyf5 =>
      intro W hW
      go_simp
      exact rfl
    simp only [List.getElem_toArray, List.getElem_cons_succ, List.getElem_cons_zero, Act.put, List.setIfInBounds_toArray, List.set_cons_zero, List.set_cons_succ]
    refine but_take (f := 10) (i := 6) (v := ?vf6) rfl (by kernel_rfl) (by kernel_rfl) (by kernel_rfl) (by kernel_rfl) (by kernel_rfl) (fun _ _ _ h => h) (Or.inl ⟨((wanted_at rfl rfl rfl rfl).trans rfl), ?hyf6⟩) (Below.drew1 _) ?restf6
    case hyf6 =>
      intro W hW
      go_simp
      exact rfl
    simp only [List.getElem_toArray, List.getElem_cons_succ, List.getElem_cons_zero, Act.put, List.setIfInBounds_toArray, List.set_cons_zero, List.set_cons_succ]
    refine but_take (f := 10) (i := 7) (v := ?vf7) rfl (by kernel_rfl) (by kernel_rfl) (by kernel_rfl) (by kernel_rfl) (by kernel_rfl) (fun _ _ _ h => h) (Or.inl ⟨((wanted_at rfl rfl rfl rfl).trans rfl), ?hyf7⟩) (Below.drew1 _) ?restf7
    case hyf7 =>
      intro W hW
      have hcc := (hW.cell (p := ⟨g, L, none⟩) hgl).trans C1.out
      go_simp
      exact rfl
    simp only [List.getElem_toArray, List.getElem_cons_succ, List.getElem_cons_zero, Act.put, List.setIfInBounds_toArray, List.set_cons_zero, List.set_cons_succ]
    refine but_take (f := 10) (i := 8) (v := ?vf8) rfl (by kernel_rfl) (by kernel_rfl) (by kernel_rfl) (by kernel_rfl) (by kernel_rfl) (fun _ _ _ h => h) (Or.inl ⟨((wanted_at rfl rfl rfl rfl).trans rfl), ?hyf8⟩) (Below.drew1 _) ?restf8
    case hyf8 =>
      intro W hW
      obtain ⟨k0, k1, k2, k3, k4, k5⟩ := box5 (box_on QK.out hW)
      go_simp
      exact rfl
    simp only [List.getElem_toArray, List.getElem_cons_succ, List.getElem_cons_zero, Act.put, List.setIfInBounds_toArray, List.set_cons_zero, List.set_cons_succ]
    refine but_run (i := 9) (by kernel_rfl) rfl ((wanted_at rfl rfl rfl rfl).trans rfl) ?_
    simp only [List.getElem_toArray, List.getElem_cons_succ, List.getElem_cons_zero]
    intro K HK
    go_wp2_with fail
    refine (HT.out _ ns[L] x _ (R1.out.on (Below.drew1 _)) (by omega)).mono ?_
    rintro r Vf1 ⟨rfl, hbf1⟩
    rw [HT0.out]
    go_wp2_with fail
    have hSf1 : (fun V => Below W2.heap.size W2 V) Vf1 := bstep (Below.drew1 _) hbf1
    refine HK.out _ _ (fun _ => hSf1) ?_
    clear HK
    refine but_run (i := 10) (by kernel_rfl) rfl (by rfl) ?_
    simp only [List.getElem_toArray, List.getElem_cons_succ, List.getElem_cons_zero]
    intro K HK
    go_wp2_with fail
    refine HK.out _ _ (fun h => absurd rfl h) ?_
    clear HK
    refine but_done (by kernel_rfl) ?_
    clear z0 z1 HT
    replace QK := Lib.hid (box_on QK.out hSf1)
    replace QR := Lib.hid (box_on QR.out hSf1)
    replace QO := Lib.hid (box_on QO.out hSf1)
    replace NO := Lib.hid (NO.out.on hSf1)
    replace BBW := Lib.hid (bstep BBW.out hSf1)
    have hzV1 := hSf1.size
    cases T
    · replace HLay := Lib.hid (show layerK ns x = ns ++ [[x]] from HLay.out)
      obtain ⟨xs, hr, ho, hne⟩ := NO.out
      obtain ⟨k0, k1, k2, k3, k4, k5⟩ := box5 QK.out
      obtain ⟨z0, z1⟩ := box1N QO.out
      have AT := Lib.hid (At.lit1n (Vf1.alloc (.cells #[.int .i64 x.a, .int .i64 x.b, .int .i64 x.c, .int .i64 x.d, .int .i64 x.e] 28)) (.slice (some ⟨Vf1.heap.size, 0, none⟩) 1 1) 34 (n := Vf1.heap.size + 1) (by simp))
      have HRW := Lib.hid (row_on hr (bal2 Vf1 (.cells #[.int .i64 x.a, .int .i64 x.b, .int .i64 x.c, .int .i64 x.d, .int .i64 x.e] 28) (.cells #[.slice (some ⟨Vf1.heap.size, 0, none⟩) 1 1] 34)))
      have HR0 := Lib.hid hr
      have HO0 := Lib.hid ho
      have HNE := Lib.hid hne
      clear hr ho hne
      go_wp2_with (at_builtin; refine wpList_appV _ rfl (.tmp 37) (.tmp 40) 24 34 1 24 (.slice none 0 0) rfl Try.underlying24 (by kernel_rfl) rfl (by omega) (by omega) W.heap.size ns.length _ xs rfl HRW.out (some ⟨Vf1.heap.size + 1, 0, none⟩) 1 1 [.slice (some ⟨Vf1.heap.size, 0, none⟩) 1 1] rfl rfl AT.out (by simp [Value.oneCell']) (by first | omega | (simp; done)) (by have := BBW.out.size; simp; omega) ?_; intro v8 w8 o8 g8 n8 at8; clear z0 z1 k0 k1 k2 k3 k4 k5; have P8 := Lib.hid (box_grown (box_on QO.out (bal2 Vf1 (.cells #[.int .i64 x.a, .int .i64 x.b, .int .i64 x.c, .int .i64 x.d, .int .i64 x.e] 28) (.cells #[.slice (some ⟨Vf1.heap.size, 0, none⟩) 1 1] 34))) g8 HNE.out); have P9 := Lib.hid (box_grown (box_on QR.out (bal2 Vf1 (.cells #[.int .i64 x.a, .int .i64 x.b, .int .i64 x.c, .int .i64 x.d, .int .i64 x.e] 28) (.cells #[.slice (some ⟨Vf1.heap.size, 0, none⟩) 1 1] 34))) g8 (row_ne HR0.out (by omega))); have G8 := Lib.hid g8; have O8 := Lib.hid o8; have AT8 := Lib.hid at8; obtain ⟨gv, cv, rfl⟩ := row_shape o8 (by omega); obtain ⟨z0, z1⟩ := box1N P8.out; obtain ⟨y0, y1⟩ := box1N P9.out; clear o8 g8 n8 at8 HRW)
      have n1 : ¬ w1.heap.size = w.heap.size + 1 + 1 := by omega
      have n2 : ¬ w.heap.size + 1 + 1 = w1.heap.size := by omega
      go_wp2
      refine bodyPost_ret (v := .agg #[.slice (some ⟨gv, 0, none⟩) (ns.length + 1) cv]) (by simp [results, Try.results49, go_sem, z0, z1, y0, y1, n1, n2]) rfl ⟨_, rfl, ?_, ?_⟩
      · rw [HLay.out]
        have hN := (NOwn.app HR0.out HO0.out HNE.out (by omega) (by have := BBW.out.size; omega) O8.out G8.out AT8.out).owns
        exact (hN.setFar (by omega)).mono (fun b hb => by have := hb.1; omega)
      · have hb8 : Below W.heap.size W w8 := (BBW.out.trans ((bal2 _ _ _).mono BBW.out.size)).grown G8.out (by have := BBW.out.size; simp; omega) (fun k e => (row_lt HR0.out k e).2)
        exact ((bstep HB.out hb8).setCell (p := ⟨w1.heap.size, 0, none⟩) (show w.heap.size ≤ w1.heap.size by omega) _).setCell (p := ⟨w.heap.size + 1 + 1, 0, none⟩) (show w.heap.size ≤ w.heap.size + 1 + 1 by omega) _
    · replace HLay := Lib.hid (show layerK ns x = ns.set L (putK ns[L] x) from HLay.out)
      have hgl1 : g < Vf1.heap.size := Nat.lt_of_lt_of_le hgl hSf1.size
      replace C1 := Lib.hid ((hSf1.cell (p := ⟨g, L, none⟩) hgl).trans C1.out)
      replace R1 := Lib.hid (R1.out.on hSf1)
      clear hSf1 hbf1
      clear hgl
      have hgl := hgl1
      go_upto_region 4 with (fail)
      refine but_begin (f := 11) (S := fun V => Below Vf1.heap.size Vf1 V) (by kernel_rfl) ?_
      refine but_take (f := 11) (i := 0) (v := ?vh0) rfl (by kernel_rfl) (by kernel_rfl) (by kernel_rfl) (by kernel_rfl) (by kernel_rfl) (fun _ _ _ h => h) (Or.inl ⟨(by rfl), ?hyh0⟩) (Below.drew1 _) ?resth0
      case hyh0 =>
        intro W hW
        go_simp
        exact rfl
      simp only [List.getElem_toArray, List.getElem_cons_succ, List.getElem_cons_zero, Act.put, List.setIfInBounds_toArray, List.set_cons_zero, List.set_cons_succ]
      refine but_take (f := 11) (i := 1) (v := ?vh1) rfl (by kernel_rfl) (by kernel_rfl) (by kernel_rfl) (by kernel_rfl) (by kernel_rfl) (fun _ _ _ h => h) (Or.inl ⟨(by rfl), ?hyh1⟩) (Below.drew1 _) ?resth1
      case hyh1 =>
        intro W hW
        obtain ⟨z0, z1⟩ := box1N (box_on QO.out hW)
        go_simp
        exact rfl
      simp only [List.getElem_toArray, List.getElem_cons_succ, List.getElem_cons_zero, Act.put, List.setIfInBounds_toArray, List.set_cons_zero, List.set_cons_succ]
      refine but_take (f := 11) (i := 2) (v := ?vh2) rfl (by kernel_rfl) (by kernel_rfl) (by kernel_rfl) (by kernel_rfl) (by kernel_rfl) (fun _ _ _ h => h) (Or.inl ⟨(by rfl), ?hyh2⟩) (Below.drew1 _) ?resth2
      case hyh2 =>
        intro W hW
        go_simp
        exact rfl
      simp only [List.getElem_toArray, List.getElem_cons_succ, List.getElem_cons_zero, Act.put, List.setIfInBounds_toArray, List.set_cons_zero, List.set_cons_succ]
      refine but_take (f := 11) (i := 3) (v := ?vh3) rfl (by kernel_rfl) (by kernel_rfl) (by kernel_rfl) (by kernel_rfl) (by kernel_rfl) (fun _ _ _ h => h) (Or.inl ⟨(by rfl), ?hyh3⟩) (Below.drew1 _) ?resth3
      case hyh3 =>
        intro W hW
        go_simp
        exact rfl
      simp only [List.getElem_toArray, List.getElem_cons_succ, List.getElem_cons_zero, Act.put, List.setIfInBounds_toArray, List.set_cons_zero, List.set_cons_succ]
      refine but_take (f := 11) (i := 4) (v := ?vh4) rfl (by kernel_rfl) (by kernel_rfl) (by kernel_rfl) (by kernel_rfl) (by kernel_rfl) (fun _ _ _ h => h) (Or.inl ⟨(by rfl), ?hyh4⟩) (Below.drew1 _) ?resth4
      case hyh4 =>
        intro W hW
        obtain ⟨z0, z1⟩ := box1N (box_on QO.out hW)
        go_simp
        exact rfl
      simp only [List.getElem_toArray, List.getElem_cons_succ, List.getElem_cons_zero, Act.put, List.setIfInBounds_toArray, List.set_cons_zero, List.set_cons_succ]
      refine but_take (f := 11) (i := 5) (v := ?vh5) rfl (by kernel_rfl) (by kernel_rfl) (by kernel_rfl) (by kernel_rfl) (by kernel_rfl) (fun _ _ _ h => h) (Or.inl ⟨(by rfl), ?hyh5⟩) (Below.drew1 _) ?resth5
      case hyh5 =>
        intro W hW
        go_simp
        exact rfl
      simp only [List.getElem_toArray, List.getElem_cons_succ, List.getElem_cons_zero, Act.put, List.setIfInBounds_toArray, List.set_cons_zero, List.set_cons_succ]
      refine but_take (f := 11) (i := 6) (v := ?vh6) rfl (by kernel_rfl) (by kernel_rfl) (by kernel_rfl) (by kernel_rfl) (by kernel_rfl) (fun _ _ _ h => h) (Or.inl ⟨(by rfl), ?hyh6⟩) (Below.drew1 _) ?resth6
      case hyh6 =>
        intro W hW
        go_simp
        exact rfl
      simp only [List.getElem_toArray, List.getElem_cons_succ, List.getElem_cons_zero, Act.put, List.setIfInBounds_toArray, List.set_cons_zero, List.set_cons_succ]
      refine but_take (f := 11) (i := 7) (v := ?vh7) rfl (by kernel_rfl) (by kernel_rfl) (by kernel_rfl) (by kernel_rfl) (by kernel_rfl) (fun _ _ _ h => h) (Or.inl ⟨(by rfl), ?hyh7⟩) (Below.drew1 _) ?resth7
      case hyh7 =>
        intro W hW
        have hcc := (hW.cell (p := ⟨g, L, none⟩) hgl).trans C1.out
        go_simp
        exact rfl
      simp only [List.getElem_toArray, List.getElem_cons_succ, List.getElem_cons_zero, Act.put, List.setIfInBounds_toArray, List.set_cons_zero, List.set_cons_succ]
      refine but_take (f := 11) (i := 8) (v := ?vh8) rfl (by kernel_rfl) (by kernel_rfl) (by kernel_rfl) (by kernel_rfl) (by kernel_rfl) (fun _ _ _ h => h) (Or.inl ⟨(by rfl), ?hyh8⟩) (Below.drew1 _) ?resth8
      case hyh8 =>
        intro W hW
        obtain ⟨k0, k1, k2, k3, k4, k5⟩ := box5 (box_on QK.out hW)
        go_simp
        exact rfl
      simp only [List.getElem_toArray, List.getElem_cons_succ, List.getElem_cons_zero, Act.put, List.setIfInBounds_toArray, List.set_cons_zero, List.set_cons_succ]
      refine but_run (i := 9) (by kernel_rfl) rfl (by rfl) ?_
      simp only [List.getElem_toArray, List.getElem_cons_succ, List.getElem_cons_zero]
      intro K HK
      go_wp2_with fail
      refine (HI.out _ ns[L] x _ (R1.out.on (Below.drew1 _)) (by omega)).mono ?_
      rintro r Vh1 ⟨v9, rfl, o9, hbh1⟩
      obtain ⟨A9, c9, rfl, _, _⟩ := o9.shape
      go_wp2_with fail
      have hSh1 : (fun V => Below Vf1.heap.size Vf1 V) Vh1 := bstep (Below.drew1 _) hbh1
      refine HK.out _ _ (fun _ => hSh1) ?_
      clear HK
      have N9 := Lib.hid (NO.out.on (Below.drew1 Vf1))
      obtain ⟨g', cap', A2', c2', hu', _, _, _, cc, ff, _⟩ := (NO.out.on hSh1).elem hlt
      cases hu'
      have fg := ff L
      refine but_take (f := 11) (i := 10) (v := ?vh10) rfl (by kernel_rfl) (by kernel_rfl) (by kernel_rfl) (by kernel_rfl) (by kernel_rfl) (fun _ _ _ h => h) (Or.inl ⟨(by rfl), ?hyh10⟩) hSh1 ?resth10
      case hyh10 =>
        intro W hW
        go_simp
        exact rfl
      simp only [List.getElem_toArray, List.getElem_cons_succ, List.getElem_cons_zero, Act.put, List.setIfInBounds_toArray, List.set_cons_zero, List.set_cons_succ]
      refine but_run (i := 11) (by kernel_rfl) rfl (by rfl) ?_
      simp only [List.getElem_toArray, List.getElem_cons_succ, List.getElem_cons_zero]
      intro K HK
      go_wp2_with fail
      refine HK.out _ _ (fun h => absurd rfl h) ?_
      clear HK
      refine but_done (by kernel_rfl) ?_
      skip
      obtain ⟨l9, hl9⟩ : ∃ l9, putK ns[L] x = l9 := ⟨_, rfl⟩
      rw [hl9] at o9
      have N2 := Lib.hid (NOwn.put (i := L) NO.out hlt hSh1 (o9.mono (Nat.le_refl _)) (by omega) (by have := BBW.out.size; omega))
      have P8 := Lib.hid (box_far (j := L) (u := .slice A9 (putK ns[L] x).length c9) (box_on QO.out hSh1) (fun e => hgo e.symm))
      have P9 := Lib.hid (box_far (j := L) (u := .slice A9 (putK ns[L] x).length c9) (box_on QR.out hSh1) (show w.heap.size + 1 + 1 ≠ g by omega))
      have B8 := Lib.hid ((bstep (bstep HB.out BBW.out) hSh1).setCell (p := ⟨g, L, none⟩) (show w.heap.size ≤ g by omega) (.slice A9 (putK ns[L] x).length c9))
      rw [← hl9] at N2
      clear hl9 o9 hSh1 cc ff fg N9
      go_upto_region 5 with (fail)
      generalize Vh1.setCell ⟨g, L, none⟩ (.slice A9 (putK ns[L] x).length c9) = W5 at *
      obtain ⟨z0, z1⟩ := box1N P8.out
      obtain ⟨y0, y1⟩ := box1N P9.out
      go_wp2
      refine bodyPost_ret (v := .agg #[.slice (some ⟨g, 0, none⟩) ns.length cu]) (by simp [results, Try.results49, go_sem, z0, z1, y0, y1]) rfl ⟨_, rfl, ?_, ?_⟩
      · rw [HLay.out]
        exact (N2.out.owns.setFar (by omega)).mono (fun b hb => by have := hb.1; omega)
      · exact B8.out.setCell (p := ⟨w.heap.size + 1 + 1, 0, none⟩) (show w.heap.size ≤ w.heap.size + 1 + 1 by omega) _
end Go.Proofs.Ytncjedbdkanleaa
