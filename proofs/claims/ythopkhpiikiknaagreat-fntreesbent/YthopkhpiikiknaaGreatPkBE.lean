/- Several texts in one: NodeLayer, NodePut, NodeSPut. -/
import Derived.Test.YthopkhpiikiknaaGreatPkBD
namespace Go.Proofs.YthopkhpiikiknaaGreat
open Go.RowKit
set_option maxRecDepth 100000
set_option linter.unusedSimpArgs false
set_option linter.unusedVariables false
set_option maxHeartbeats 4000000 in
theorem layerKey_any (v : Value) (ns : List (List KeyD)) (x : KeyD) (w : World) (hv : Reads w w.heap.size v (setsD ns)) (h1 : ns.length ≤ 1048576) (h2 : sumN ns ≤ 1048576) : Calls Tryz.prog 103 #[.agg #[v], x.v] w (NewN w (layerK ns x)) := by
 obtain ⟨A, c, rfl, _, _⟩ := hv.lenN
 obtain ⟨q0, q1, q2⟩ := al3 w (.cells #[.slice A ns.length c] 62) (.cells #[.int .i64 x.a, .int .i64 x.b, .int .i64 x.c, .int .i64 x.d, .int .i64 x.e] 29) (.cells #[.slice none 0 0] 62)
 have B0 := bal3 w (.cells #[.slice A ns.length c] 62) (.cells #[.int .i64 x.a, .int .i64 x.b, .int .i64 x.c, .int .i64 x.d, .int .i64 x.e] 29) (.cells #[.slice none 0 0] 62)
 have HB := Lib.hid B0
 have Q0 := Lib.hid q0
 have QK := Lib.hid q1
 have QR := Lib.hid q2
 have HV := Lib.hid (hv.on B0)
 have HZ : Hid ((((w.alloc (.cells #[.slice A ns.length c] 62)).alloc (.cells #[.int .i64 x.a, .int .i64 x.b, .int .i64 x.c, .int .i64 x.d, .int .i64 x.e] 29)).alloc (.cells #[.slice none 0 0] 62)).heap.size = w.heap.size + 3) := Lib.hid (by simp)
 have HS : Hid (SmallN ns) := Lib.hid ⟨by omega, by omega⟩
 have HT := Lib.hid takesKey_any
 have HI := Lib.hid implSetPut_any
 unfold KeyD.v keyV at HT HI
 unfold KeyD.v keyV
 clear hv B0 q0 q1 q2
 go_enter Tryz.func103, Tryz.ntmps103
 go_upto_region 1 with (fail)
 generalize ((w.alloc (.cells #[.slice A ns.length c] 62)).alloc (.cells #[.int .i64 x.a, .int .i64 x.b, .int .i64 x.c, .int .i64 x.d, .int .i64 x.e] 29)).alloc (.cells #[.slice none 0 0] 62) = W at *
 have hz1 := Nat.le_of_eq HZ.out
 have hz2 := Nat.le_of_eq HZ.out.symm
 clear HZ
 obtain ⟨x0, x1⟩ := box1N Q0.out
 go_wp2_with fail
 refine (copyNode_any _ ns W HV.out HS.out).mono ?_
 rintro r w1 ⟨u, rfl, o1, b1⟩
 obtain ⟨Au, cu, rfl, _, _⟩ := o1.reads.lenN
 have NO := Lib.hid (NOwn.of o1 (.cells #[.slice Au ns.length cu] 62))
 have QO := Lib.hid (al1 w1 (.cells #[.slice Au ns.length cu] 62))
 have ba := bstep b1 (bal1 w1 (.cells #[.slice Au ns.length cu] 62))
 replace QK := Lib.hid (box_on QK.out ba)
 replace QR := Lib.hid (box_on QR.out ba)
 have BBW := Lib.hid ba
 have hb1 := b1.size
 have HZ : Hid ((w1.alloc (.cells #[.slice Au ns.length cu] 62)).heap.size = w1.heap.size + 1) := Lib.hid (by simp)
 clear o1 b1 ba x0 x1 HV
 go_upto_region 2 with (fail)
 generalize w1.alloc (.cells #[.slice Au ns.length cu] 62) = W2 at *
 have hz3 := Nat.le_of_eq HZ.out
 have hz4 := Nat.le_of_eq HZ.out.symm
 clear HZ
 obtain ⟨z0, z1⟩ := box1N QO.out
 by_cases h0 : ns.length = 0
 ·have hnil : ns = [] := List.length_eq_zero_iff.1 h0
  subst hnil
  have HLay : Hid (layerK [] x = [] ++ [[x]]) := Lib.hid rfl
  clear h0
  go_upto_region 3 with (fail)
  refine but_begin (f := 10) (S := fun V => Below W2.heap.size W2 V) (by kernel_rfl) ?_
  refine but_take (f := 10) (i := 0) (v := ?ve0) rfl (by kernel_rfl) (by kernel_rfl) (by kernel_rfl) (by kernel_rfl) (by kernel_rfl) (fun _ _ _ h => h) (Or.inl ⟨(by rfl), ?hye0⟩) (Below.drew1 _) ?reste0
  case hye0 =>
   intro W hW
   go_simp
   exact rfl
  simp only [List.getElem_toArray, List.getElem_cons_succ, List.getElem_cons_zero, Act.put, List.setIfInBounds_toArray, List.set_cons_zero, List.set_cons_succ]
  refine but_take (f := 10) (i := 1) (v := ?ve1) rfl (by kernel_rfl) (by kernel_rfl) (by kernel_rfl) (by kernel_rfl) (by kernel_rfl) (fun _ _ _ h => h) (Or.inl ⟨(by rfl), ?hye1⟩) (Below.drew1 _) ?reste1
  case hye1 =>
   intro W hW
   go_simp
   exact rfl
  simp only [List.getElem_toArray, List.getElem_cons_succ, List.getElem_cons_zero, Act.put, List.setIfInBounds_toArray, List.set_cons_zero, List.set_cons_succ]
  refine but_take (f := 10) (i := 2) (v := ?ve2) rfl (by kernel_rfl) (by kernel_rfl) (by kernel_rfl) (by kernel_rfl) (by kernel_rfl) (fun _ _ _ h => h) (Or.inl ⟨(by rfl), ?hye2⟩) (Below.drew1 _) ?reste2
  case hye2 =>
   intro W hW
   go_simp
   exact rfl
  simp only [List.getElem_toArray, List.getElem_cons_succ, List.getElem_cons_zero, Act.put, List.setIfInBounds_toArray, List.set_cons_zero, List.set_cons_succ]
  refine but_take (f := 10) (i := 3) (v := undef) rfl (by kernel_rfl) (by kernel_rfl) (by kernel_rfl) (by kernel_rfl) (by kernel_rfl) (fun _ _ _ h => h) (Or.inr ⟨((wanted_at rfl rfl rfl rfl).trans rfl), rfl⟩) (Below.drew1 _) ?_
  simp only [List.getElem_toArray, List.getElem_cons_succ, List.getElem_cons_zero, Act.put, List.setIfInBounds_toArray, List.set_cons_zero, List.set_cons_succ]
  refine but_take (f := 10) (i := 4) (v := undef) rfl (by kernel_rfl) (by kernel_rfl) (by kernel_rfl) (by kernel_rfl) (by kernel_rfl) (fun _ _ _ h => h) (Or.inr ⟨((wanted_at rfl rfl rfl rfl).trans rfl), rfl⟩) (Below.drew1 _) ?_
  simp only [List.getElem_toArray, List.getElem_cons_succ, List.getElem_cons_zero, Act.put, List.setIfInBounds_toArray, List.set_cons_zero, List.set_cons_succ]
  refine but_take (f := 10) (i := 5) (v := undef) rfl (by kernel_rfl) (by kernel_rfl) (by kernel_rfl) (by kernel_rfl) (by kernel_rfl) (fun _ _ _ h => h) (Or.inr ⟨((wanted_at rfl rfl rfl rfl).trans rfl), rfl⟩) (Below.drew1 _) ?_
  simp only [List.getElem_toArray, List.getElem_cons_succ, List.getElem_cons_zero, Act.put, List.setIfInBounds_toArray, List.set_cons_zero, List.set_cons_succ]
  refine but_take (f := 10) (i := 6) (v := undef) rfl (by kernel_rfl) (by kernel_rfl) (by kernel_rfl) (by kernel_rfl) (by kernel_rfl) (fun _ _ _ h => h) (Or.inr ⟨((wanted_at rfl rfl rfl rfl).trans rfl), rfl⟩) (Below.drew1 _) ?_
  simp only [List.getElem_toArray, List.getElem_cons_succ, List.getElem_cons_zero, Act.put, List.setIfInBounds_toArray, List.set_cons_zero, List.set_cons_succ]
  refine but_take (f := 10) (i := 7) (v := undef) rfl (by kernel_rfl) (by kernel_rfl) (by kernel_rfl) (by kernel_rfl) (by kernel_rfl) (fun _ _ _ h => h) (Or.inr ⟨((wanted_at rfl rfl rfl rfl).trans rfl), rfl⟩) (Below.drew1 _) ?_
  simp only [List.getElem_toArray, List.getElem_cons_succ, List.getElem_cons_zero, Act.put, List.setIfInBounds_toArray, List.set_cons_zero, List.set_cons_succ]
  refine but_take (f := 10) (i := 8) (v := undef) rfl (by kernel_rfl) (by kernel_rfl) (by kernel_rfl) (by kernel_rfl) (by kernel_rfl) (fun _ _ _ h => h) (Or.inr ⟨((wanted_at rfl rfl rfl rfl).trans rfl), rfl⟩) (Below.drew1 _) ?_
  simp only [List.getElem_toArray, List.getElem_cons_succ, List.getElem_cons_zero, Act.put, List.setIfInBounds_toArray, List.set_cons_zero, List.set_cons_succ]
  refine but_take (f := 10) (i := 9) (v := undef) rfl (by kernel_rfl) (by kernel_rfl) (by kernel_rfl) (by kernel_rfl) (by kernel_rfl) (fun _ _ _ h => h) (Or.inr ⟨((wanted_at rfl rfl rfl rfl).trans rfl), rfl⟩) (Below.drew1 _) ?_
  simp only [List.getElem_toArray, List.getElem_cons_succ, List.getElem_cons_zero, Act.put, List.setIfInBounds_toArray, List.set_cons_zero, List.set_cons_succ]
  refine but_run (i := 10) (by kernel_rfl) rfl (by rfl) ?_
  simp only [List.getElem_toArray, List.getElem_cons_succ, List.getElem_cons_zero]
  intro K HK
  go_wp2_with fail
  refine HK.out _ _ (fun h => absurd rfl h) ?_
  clear HK
  refine but_done (by kernel_rfl) ?_
  clear z0 z1
  replace QK := Lib.hid (box_on QK.out (Below.drew1 _))
  replace QR := Lib.hid (box_on QR.out (Below.drew1 _))
  replace QO := Lib.hid (box_on QO.out (Below.drew1 _))
  replace NO := Lib.hid (NO.out.on (Below.drew1 _))
  replace BBW := Lib.hid (bstep BBW.out (Below.drew1 _))
  have hzd : W2.heap.size ≤ W2.drew.heap.size := Nat.le_refl _
  generalize W2.drew = W3 at *
  obtain ⟨xs, hr, ho, hne⟩ := NO.out
  obtain ⟨k0, k1, k2, k3, k4, k5⟩ := box5 QK.out
  obtain ⟨z0, z1⟩ := box1N QO.out
  have AT := Lib.hid (At.lit1n (W3.alloc (.cells #[.int .i64 x.a, .int .i64 x.b, .int .i64 x.c, .int .i64 x.d, .int .i64 x.e] 29)) (.slice (some ⟨W3.heap.size, 0, none⟩) 1 1) 36 (n := W3.heap.size + 1) (by simp))
  have HRW := Lib.hid (row_on hr (bal2 W3 (.cells #[.int .i64 x.a, .int .i64 x.b, .int .i64 x.c, .int .i64 x.d, .int .i64 x.e] 29) (.cells #[.slice (some ⟨W3.heap.size, 0, none⟩) 1 1] 36)))
  have HR0 := Lib.hid hr
  have HO0 := Lib.hid ho
  have HNE := Lib.hid hne
  clear hr ho hne
  go_wp2_with (at_builtin; refine wpList_appV _ rfl (.tmp 37) (.tmp 40) 60 36 1 24 (.slice none 0 0) rfl Tryz.underlying60 (by kernel_rfl) rfl (by omega) (by omega) W.heap.size ([] : List (List KeyD)).length _ xs rfl HRW.out (some ⟨W3.heap.size + 1, 0, none⟩) 1 1 [.slice (some ⟨W3.heap.size, 0, none⟩) 1 1] rfl rfl AT.out (by simp [Value.oneCell']) (by first | omega | (simp; done)) (by have := BBW.out.size; simp; omega) ?_; intro v8 w8 o8 g8 n8 at8; clear z0 z1 k0 k1 k2 k3 k4 k5; have P8 := Lib.hid (box_grown (box_on QO.out (bal2 W3 (.cells #[.int .i64 x.a, .int .i64 x.b, .int .i64 x.c, .int .i64 x.d, .int .i64 x.e] 29) (.cells #[.slice (some ⟨W3.heap.size, 0, none⟩) 1 1] 36))) g8 HNE.out); have P9 := Lib.hid (box_grown (box_on QR.out (bal2 W3 (.cells #[.int .i64 x.a, .int .i64 x.b, .int .i64 x.c, .int .i64 x.d, .int .i64 x.e] 29) (.cells #[.slice (some ⟨W3.heap.size, 0, none⟩) 1 1] 36))) g8 (row_ne HR0.out (by omega))); have G8 := Lib.hid g8; have O8 := Lib.hid o8; have AT8 := Lib.hid at8; obtain ⟨gv, cv, rfl⟩ := row_shape o8 (by omega); obtain ⟨z0, z1⟩ := box1N P8.out; obtain ⟨y0, y1⟩ := box1N P9.out; clear o8 g8 n8 at8 HRW)
  have n1 : ¬ w1.heap.size = w.heap.size + 1 + 1 := by omega
  have n2 : ¬ w.heap.size + 1 + 1 = w1.heap.size := by omega
  go_wp2
  refine bodyPost_ret (v := .agg #[.slice (some ⟨gv, 0, none⟩) (([] : List (List KeyD)).length + 1) cv]) (by simp [results, Tryz.results103, go_sem, z0, z1, y0, y1, n1, n2]) rfl ⟨_, rfl, ?_, ?_⟩
  ·rw [HLay.out]
   have hN := (NOwn.app HR0.out HO0.out HNE.out (by omega) (by have := BBW.out.size; omega) O8.out G8.out AT8.out).owns
   exact (hN.setFar (by omega)).mono (fun b hb => by have := hb.1; omega)
  ·have hb8 : Below W.heap.size W w8 := (BBW.out.trans ((bal2 _ _ _).mono BBW.out.size)).grown G8.out (by have := BBW.out.size; simp; omega) (fun k e => (row_lt HR0.out k e).2)
   exact ((bstep HB.out hb8).setCell (p := ⟨w1.heap.size, 0, none⟩) (show w.heap.size ≤ w1.heap.size by omega) _).setCell (p := ⟨w.heap.size + 1 + 1, 0, none⟩) (show w.heap.size ≤ w.heap.size + 1 + 1 by omega) _
 ·obtain ⟨L, hL⟩ : ∃ L, ns.length = L + 1 := ⟨ns.length - 1, by omega⟩
  have hlt : L < ns.length := by omega
  have i3 : IntKind.i64.wrap ((ns.length : Int) - 1) = (L : Int) := by rw [IntKind.wrap_i64]; omega
  have i1 : (L : Int) < (ns.length : Int) := by omega
  have i2 : (0 : Int) ≤ (L : Int) := by omega
  have t0 : decide ((0 : Int) ≤ (L : Int)) = true := decide_eq_true i2
  have e1 : ns.length - 1 = L := by omega
  obtain ⟨T, hT⟩ : ∃ T, takesB ns[L] x = T := ⟨_, rfl⟩
  have HT0 := Lib.hid hT
  have HLay : Hid (layerK ns x = if T then ns.set L (putK ns[L] x) else ns ++ [[x]]) := Lib.hid (by
   unfold layerK
   rw [dif_pos (by omega)]
   simp only [e1, hT])
  have hll := HS.out.at hlt
  clear h0 hL hT e1
  obtain ⟨g, cap, A2, c2, hu, hbg, hgo, hgl, c1, fz, r1⟩ := NO.out.elem hlt
  cases hu
  have C1 := Lib.hid c1
  have R1 := Lib.hid r1
  clear c1 fz r1
  go_upto_region 3 with (fail)
  refine but_begin (f := 10) (S := fun V => Below W2.heap.size W2 V) (by kernel_rfl) ?_
  refine but_take (f := 10) (i := 0) (v := ?vf0) rfl (by kernel_rfl) (by kernel_rfl) (by kernel_rfl) (by kernel_rfl) (by kernel_rfl) (fun _ _ _ h => h) (Or.inl ⟨(by rfl), ?hyf0⟩) (Below.drew1 _) ?restf0
  case hyf0 =>
   intro W hW
   go_simp
   exact rfl
  simp only [List.getElem_toArray, List.getElem_cons_succ, List.getElem_cons_zero, Act.put, List.setIfInBounds_toArray, List.set_cons_zero, List.set_cons_succ]
  refine but_take (f := 10) (i := 1) (v := ?vf1) rfl (by kernel_rfl) (by kernel_rfl) (by kernel_rfl) (by kernel_rfl) (by kernel_rfl) (fun _ _ _ h => h) (Or.inl ⟨(by rfl), ?hyf1⟩) (Below.drew1 _) ?restf1
  case hyf1 =>
   intro W hW
   go_simp
   exact rfl
  simp only [List.getElem_toArray, List.getElem_cons_succ, List.getElem_cons_zero, Act.put, List.setIfInBounds_toArray, List.set_cons_zero, List.set_cons_succ]
  refine but_take (f := 10) (i := 2) (v := ?vf2) rfl (by kernel_rfl) (by kernel_rfl) (by kernel_rfl) (by kernel_rfl) (by kernel_rfl) (fun _ _ _ h => h) (Or.inl ⟨(by rfl), ?hyf2⟩) (Below.drew1 _) ?restf2
  case hyf2 =>
   intro W hW
   go_simp
   exact rfl
  simp only [List.getElem_toArray, List.getElem_cons_succ, List.getElem_cons_zero, Act.put, List.setIfInBounds_toArray, List.set_cons_zero, List.set_cons_succ]
  refine but_take (f := 10) (i := 3) (v := ?vf3) rfl (by kernel_rfl) (by kernel_rfl) (by kernel_rfl) (by kernel_rfl) (by kernel_rfl) (fun _ _ _ h => h) (Or.inl ⟨((wanted_at rfl rfl rfl rfl).trans rfl), ?hyf3⟩) (Below.drew1 _) ?restf3
  case hyf3 =>
   intro W hW
   go_simp
   exact rfl
  simp only [List.getElem_toArray, List.getElem_cons_succ, List.getElem_cons_zero, Act.put, List.setIfInBounds_toArray, List.set_cons_zero, List.set_cons_succ]
  refine but_take (f := 10) (i := 4) (v := ?vf4) rfl (by kernel_rfl) (by kernel_rfl) (by kernel_rfl) (by kernel_rfl) (by kernel_rfl) (fun _ _ _ h => h) (Or.inl ⟨((wanted_at rfl rfl rfl rfl).trans rfl), ?hyf4⟩) (Below.drew1 _) ?restf4
  case hyf4 =>
   intro W hW
   obtain ⟨z0, z1⟩ := box1N (box_on QO.out hW)
   go_simp
   exact rfl
  simp only [List.getElem_toArray, List.getElem_cons_succ, List.getElem_cons_zero, Act.put, List.setIfInBounds_toArray, List.set_cons_zero, List.set_cons_succ]
  refine but_take (f := 10) (i := 5) (v := ?vf5) rfl (by kernel_rfl) (by kernel_rfl) (by kernel_rfl) (by kernel_rfl) (by kernel_rfl) (fun _ _ _ h => h) (Or.inl ⟨((wanted_at rfl rfl rfl rfl).trans rfl), ?hyf5⟩) (Below.drew1 _) ?restf5
  case hyf5 =>
   intro W hW
   go_simp
   exact rfl
  simp only [List.getElem_toArray, List.getElem_cons_succ, List.getElem_cons_zero, Act.put, List.setIfInBounds_toArray, List.set_cons_zero, List.set_cons_succ]
  refine but_take (f := 10) (i := 6) (v := ?vf6) rfl (by kernel_rfl) (by kernel_rfl) (by kernel_rfl) (by kernel_rfl) (by kernel_rfl) (fun _ _ _ h => h) (Or.inl ⟨((wanted_at rfl rfl rfl rfl).trans rfl), ?hyf6⟩) (Below.drew1 _) ?restf6
  case hyf6 =>
   intro W hW
   go_simp
   exact rfl
  simp only [List.getElem_toArray, List.getElem_cons_succ, List.getElem_cons_zero, Act.put, List.setIfInBounds_toArray, List.set_cons_zero, List.set_cons_succ]
  refine but_take (f := 10) (i := 7) (v := ?vf7) rfl (by kernel_rfl) (by kernel_rfl) (by kernel_rfl) (by kernel_rfl) (by kernel_rfl) (fun _ _ _ h => h) (Or.inl ⟨((wanted_at rfl rfl rfl rfl).trans rfl), ?hyf7⟩) (Below.drew1 _) ?restf7
  case hyf7 =>
   intro W hW
   have hcc := (hW.cell (p := ⟨g, L, none⟩) hgl).trans C1.out
   go_simp
   exact rfl
  simp only [List.getElem_toArray, List.getElem_cons_succ, List.getElem_cons_zero, Act.put, List.setIfInBounds_toArray, List.set_cons_zero, List.set_cons_succ]
  refine but_take (f := 10) (i := 8) (v := ?vf8) rfl (by kernel_rfl) (by kernel_rfl) (by kernel_rfl) (by kernel_rfl) (by kernel_rfl) (fun _ _ _ h => h) (Or.inl ⟨((wanted_at rfl rfl rfl rfl).trans rfl), ?hyf8⟩) (Below.drew1 _) ?restf8
  case hyf8 =>
   intro W hW
   obtain ⟨k0, k1, k2, k3, k4, k5⟩ := box5 (box_on QK.out hW)
   go_simp
   exact rfl
  simp only [List.getElem_toArray, List.getElem_cons_succ, List.getElem_cons_zero, Act.put, List.setIfInBounds_toArray, List.set_cons_zero, List.set_cons_succ]
  refine but_run (i := 9) (by kernel_rfl) rfl ((wanted_at rfl rfl rfl rfl).trans rfl) ?_
  simp only [List.getElem_toArray, List.getElem_cons_succ, List.getElem_cons_zero]
  intro K HK
  go_wp2_with fail
  refine (HT.out _ ns[L] x _ (R1.out.on (Below.drew1 _)) (by omega)).mono ?_
  rintro r Vf1 ⟨rfl, hbf1⟩
  rw [HT0.out]
  go_wp2_with fail
  have hSf1 : (fun V => Below W2.heap.size W2 V) Vf1 := bstep (Below.drew1 _) hbf1
  refine HK.out _ _ (fun _ => hSf1) ?_
  clear HK
  refine but_run (i := 10) (by kernel_rfl) rfl (by rfl) ?_
  simp only [List.getElem_toArray, List.getElem_cons_succ, List.getElem_cons_zero]
  intro K HK
  go_wp2_with fail
  refine HK.out _ _ (fun h => absurd rfl h) ?_
  clear HK
  refine but_done (by kernel_rfl) ?_
  clear z0 z1 HT
  replace QK := Lib.hid (box_on QK.out hSf1)
  replace QR := Lib.hid (box_on QR.out hSf1)
  replace QO := Lib.hid (box_on QO.out hSf1)
  replace NO := Lib.hid (NO.out.on hSf1)
  replace BBW := Lib.hid (bstep BBW.out hSf1)
  have hzV1 := hSf1.size
  cases T
  ·replace HLay := Lib.hid (show layerK ns x = ns ++ [[x]] from HLay.out)
   obtain ⟨xs, hr, ho, hne⟩ := NO.out
   obtain ⟨k0, k1, k2, k3, k4, k5⟩ := box5 QK.out
   obtain ⟨z0, z1⟩ := box1N QO.out
   have AT := Lib.hid (At.lit1n (Vf1.alloc (.cells #[.int .i64 x.a, .int .i64 x.b, .int .i64 x.c, .int .i64 x.d, .int .i64 x.e] 29)) (.slice (some ⟨Vf1.heap.size, 0, none⟩) 1 1) 36 (n := Vf1.heap.size + 1) (by simp))
   have HRW := Lib.hid (row_on hr (bal2 Vf1 (.cells #[.int .i64 x.a, .int .i64 x.b, .int .i64 x.c, .int .i64 x.d, .int .i64 x.e] 29) (.cells #[.slice (some ⟨Vf1.heap.size, 0, none⟩) 1 1] 36)))
   have HR0 := Lib.hid hr
   have HO0 := Lib.hid ho
   have HNE := Lib.hid hne
   clear hr ho hne
   go_wp2_with (at_builtin; refine wpList_appV _ rfl (.tmp 37) (.tmp 40) 60 36 1 24 (.slice none 0 0) rfl Tryz.underlying60 (by kernel_rfl) rfl (by omega) (by omega) W.heap.size ns.length _ xs rfl HRW.out (some ⟨Vf1.heap.size + 1, 0, none⟩) 1 1 [.slice (some ⟨Vf1.heap.size, 0, none⟩) 1 1] rfl rfl AT.out (by simp [Value.oneCell']) (by first | omega | (simp; done)) (by have := BBW.out.size; simp; omega) ?_; intro v8 w8 o8 g8 n8 at8; clear z0 z1 k0 k1 k2 k3 k4 k5; have P8 := Lib.hid (box_grown (box_on QO.out (bal2 Vf1 (.cells #[.int .i64 x.a, .int .i64 x.b, .int .i64 x.c, .int .i64 x.d, .int .i64 x.e] 29) (.cells #[.slice (some ⟨Vf1.heap.size, 0, none⟩) 1 1] 36))) g8 HNE.out); have P9 := Lib.hid (box_grown (box_on QR.out (bal2 Vf1 (.cells #[.int .i64 x.a, .int .i64 x.b, .int .i64 x.c, .int .i64 x.d, .int .i64 x.e] 29) (.cells #[.slice (some ⟨Vf1.heap.size, 0, none⟩) 1 1] 36))) g8 (row_ne HR0.out (by omega))); have G8 := Lib.hid g8; have O8 := Lib.hid o8; have AT8 := Lib.hid at8; obtain ⟨gv, cv, rfl⟩ := row_shape o8 (by omega); obtain ⟨z0, z1⟩ := box1N P8.out; obtain ⟨y0, y1⟩ := box1N P9.out; clear o8 g8 n8 at8 HRW)
   have n1 : ¬ w1.heap.size = w.heap.size + 1 + 1 := by omega
   have n2 : ¬ w.heap.size + 1 + 1 = w1.heap.size := by omega
   go_wp2
   refine bodyPost_ret (v := .agg #[.slice (some ⟨gv, 0, none⟩) (ns.length + 1) cv]) (by simp [results, Tryz.results103, go_sem, z0, z1, y0, y1, n1, n2]) rfl ⟨_, rfl, ?_, ?_⟩
   ·rw [HLay.out]
    have hN := (NOwn.app HR0.out HO0.out HNE.out (by omega) (by have := BBW.out.size; omega) O8.out G8.out AT8.out).owns
    exact (hN.setFar (by omega)).mono (fun b hb => by have := hb.1; omega)
   ·have hb8 : Below W.heap.size W w8 := (BBW.out.trans ((bal2 _ _ _).mono BBW.out.size)).grown G8.out (by have := BBW.out.size; simp; omega) (fun k e => (row_lt HR0.out k e).2)
    exact ((bstep HB.out hb8).setCell (p := ⟨w1.heap.size, 0, none⟩) (show w.heap.size ≤ w1.heap.size by omega) _).setCell (p := ⟨w.heap.size + 1 + 1, 0, none⟩) (show w.heap.size ≤ w.heap.size + 1 + 1 by omega) _
  ·replace HLay := Lib.hid (show layerK ns x = ns.set L (putK ns[L] x) from HLay.out)
   have hgl1 : g < Vf1.heap.size := Nat.lt_of_lt_of_le hgl hSf1.size
   replace C1 := Lib.hid ((hSf1.cell (p := ⟨g, L, none⟩) hgl).trans C1.out)
   replace R1 := Lib.hid (R1.out.on hSf1)
   clear hSf1 hbf1
   clear hgl
   have hgl := hgl1
   go_upto_region 4 with (fail)
   refine but_begin (f := 11) (S := fun V => Below Vf1.heap.size Vf1 V) (by kernel_rfl) ?_
   refine but_take (f := 11) (i := 0) (v := ?vh0) rfl (by kernel_rfl) (by kernel_rfl) (by kernel_rfl) (by kernel_rfl) (by kernel_rfl) (fun _ _ _ h => h) (Or.inl ⟨(by rfl), ?hyh0⟩) (Below.drew1 _) ?resth0
   case hyh0 =>
    intro W hW
    go_simp
    exact rfl
   simp only [List.getElem_toArray, List.getElem_cons_succ, List.getElem_cons_zero, Act.put, List.setIfInBounds_toArray, List.set_cons_zero, List.set_cons_succ]
   refine but_take (f := 11) (i := 1) (v := ?vh1) rfl (by kernel_rfl) (by kernel_rfl) (by kernel_rfl) (by kernel_rfl) (by kernel_rfl) (fun _ _ _ h => h) (Or.inl ⟨(by rfl), ?hyh1⟩) (Below.drew1 _) ?resth1
   case hyh1 =>
    intro W hW
    obtain ⟨z0, z1⟩ := box1N (box_on QO.out hW)
    go_simp
    exact rfl
   simp only [List.getElem_toArray, List.getElem_cons_succ, List.getElem_cons_zero, Act.put, List.setIfInBounds_toArray, List.set_cons_zero, List.set_cons_succ]
   refine but_take (f := 11) (i := 2) (v := ?vh2) rfl (by kernel_rfl) (by kernel_rfl) (by kernel_rfl) (by kernel_rfl) (by kernel_rfl) (fun _ _ _ h => h) (Or.inl ⟨(by rfl), ?hyh2⟩) (Below.drew1 _) ?resth2
   case hyh2 =>
    intro W hW
    go_simp
    exact rfl
   simp only [List.getElem_toArray, List.getElem_cons_succ, List.getElem_cons_zero, Act.put, List.setIfInBounds_toArray, List.set_cons_zero, List.set_cons_succ]
   refine but_take (f := 11) (i := 3) (v := ?vh3) rfl (by kernel_rfl) (by kernel_rfl) (by kernel_rfl) (by kernel_rfl) (by kernel_rfl) (fun _ _ _ h => h) (Or.inl ⟨(by rfl), ?hyh3⟩) (Below.drew1 _) ?resth3
   case hyh3 =>
    intro W hW
    go_simp
    exact rfl
   simp only [List.getElem_toArray, List.getElem_cons_succ, List.getElem_cons_zero, Act.put, List.setIfInBounds_toArray, List.set_cons_zero, List.set_cons_succ]
   refine but_take (f := 11) (i := 4) (v := ?vh4) rfl (by kernel_rfl) (by kernel_rfl) (by kernel_rfl) (by kernel_rfl) (by kernel_rfl) (fun _ _ _ h => h) (Or.inl ⟨(by rfl), ?hyh4⟩) (Below.drew1 _) ?resth4
   case hyh4 =>
    intro W hW
    obtain ⟨z0, z1⟩ := box1N (box_on QO.out hW)
    go_simp
    exact rfl
   simp only [List.getElem_toArray, List.getElem_cons_succ, List.getElem_cons_zero, Act.put, List.setIfInBounds_toArray, List.set_cons_zero, List.set_cons_succ]
   refine but_take (f := 11) (i := 5) (v := ?vh5) rfl (by kernel_rfl) (by kernel_rfl) (by kernel_rfl) (by kernel_rfl) (by kernel_rfl) (fun _ _ _ h => h) (Or.inl ⟨(by rfl), ?hyh5⟩) (Below.drew1 _) ?resth5
   case hyh5 =>
    intro W hW
    go_simp
    exact rfl
   simp only [List.getElem_toArray, List.getElem_cons_succ, List.getElem_cons_zero, Act.put, List.setIfInBounds_toArray, List.set_cons_zero, List.set_cons_succ]
   refine but_take (f := 11) (i := 6) (v := ?vh6) rfl (by kernel_rfl) (by kernel_rfl) (by kernel_rfl) (by kernel_rfl) (by kernel_rfl) (fun _ _ _ h => h) (Or.inl ⟨(by rfl), ?hyh6⟩) (Below.drew1 _) ?resth6
   case hyh6 =>
    intro W hW
    go_simp
    exact rfl
   simp only [List.getElem_toArray, List.getElem_cons_succ, List.getElem_cons_zero, Act.put, List.setIfInBounds_toArray, List.set_cons_zero, List.set_cons_succ]
   refine but_take (f := 11) (i := 7) (v := ?vh7) rfl (by kernel_rfl) (by kernel_rfl) (by kernel_rfl) (by kernel_rfl) (by kernel_rfl) (fun _ _ _ h => h) (Or.inl ⟨(by rfl), ?hyh7⟩) (Below.drew1 _) ?resth7
   case hyh7 =>
    intro W hW
    have hcc := (hW.cell (p := ⟨g, L, none⟩) hgl).trans C1.out
    go_simp
    exact rfl
   simp only [List.getElem_toArray, List.getElem_cons_succ, List.getElem_cons_zero, Act.put, List.setIfInBounds_toArray, List.set_cons_zero, List.set_cons_succ]
   refine but_take (f := 11) (i := 8) (v := ?vh8) rfl (by kernel_rfl) (by kernel_rfl) (by kernel_rfl) (by kernel_rfl) (by kernel_rfl) (fun _ _ _ h => h) (Or.inl ⟨(by rfl), ?hyh8⟩) (Below.drew1 _) ?resth8
   case hyh8 =>
    intro W hW
    obtain ⟨k0, k1, k2, k3, k4, k5⟩ := box5 (box_on QK.out hW)
    go_simp
    exact rfl
   simp only [List.getElem_toArray, List.getElem_cons_succ, List.getElem_cons_zero, Act.put, List.setIfInBounds_toArray, List.set_cons_zero, List.set_cons_succ]
   refine but_run (i := 9) (by kernel_rfl) rfl (by rfl) ?_
   simp only [List.getElem_toArray, List.getElem_cons_succ, List.getElem_cons_zero]
   intro K HK
   go_wp2_with fail
   refine (HI.out _ ns[L] x _ (R1.out.on (Below.drew1 _)) (by omega)).mono ?_
   rintro r Vh1 ⟨v9, rfl, o9, hbh1⟩
   obtain ⟨A9, c9, rfl, _, _⟩ := o9.shape
   go_wp2_with fail
   have hSh1 : (fun V => Below Vf1.heap.size Vf1 V) Vh1 := bstep (Below.drew1 _) hbh1
   refine HK.out _ _ (fun _ => hSh1) ?_
   clear HK
   have N9 := Lib.hid (NO.out.on (Below.drew1 Vf1))
   obtain ⟨g', cap', A2', c2', hu', _, _, _, cc, ff, _⟩ := (NO.out.on hSh1).elem hlt
   cases hu'
   have fg := ff L
   refine but_take (f := 11) (i := 10) (v := ?vh10) rfl (by kernel_rfl) (by kernel_rfl) (by kernel_rfl) (by kernel_rfl) (by kernel_rfl) (fun _ _ _ h => h) (Or.inl ⟨(by rfl), ?hyh10⟩) hSh1 ?resth10
   case hyh10 =>
    intro W hW
    go_simp
    exact rfl
   simp only [List.getElem_toArray, List.getElem_cons_succ, List.getElem_cons_zero, Act.put, List.setIfInBounds_toArray, List.set_cons_zero, List.set_cons_succ]
   refine but_run (i := 11) (by kernel_rfl) rfl (by rfl) ?_
   simp only [List.getElem_toArray, List.getElem_cons_succ, List.getElem_cons_zero]
   intro K HK
   go_wp2_with fail
   refine HK.out _ _ (fun h => absurd rfl h) ?_
   clear HK
   refine but_done (by kernel_rfl) ?_
   skip
   obtain ⟨l9, hl9⟩ : ∃ l9, putK ns[L] x = l9 := ⟨_, rfl⟩
   rw [hl9] at o9
   have N2 := Lib.hid (NOwn.put (i := L) NO.out hlt hSh1 (o9.mono (Nat.le_refl _)) (by omega) (by have := BBW.out.size; omega))
   have P8 := Lib.hid (box_far (j := L) (u := .slice A9 (putK ns[L] x).length c9) (box_on QO.out hSh1) (fun e => hgo e.symm))
   have P9 := Lib.hid (box_far (j := L) (u := .slice A9 (putK ns[L] x).length c9) (box_on QR.out hSh1) (show w.heap.size + 1 + 1 ≠ g by omega))
   have B8 := Lib.hid ((bstep (bstep HB.out BBW.out) hSh1).setCell (p := ⟨g, L, none⟩) (show w.heap.size ≤ g by omega) (.slice A9 (putK ns[L] x).length c9))
   rw [← hl9] at N2
   clear hl9 o9 hSh1 cc ff fg N9
   go_upto_region 5 with (fail)
   generalize Vh1.setCell ⟨g, L, none⟩ (.slice A9 (putK ns[L] x).length c9) = W5 at *
   obtain ⟨z0, z1⟩ := box1N P8.out
   obtain ⟨y0, y1⟩ := box1N P9.out
   go_wp2
   refine bodyPost_ret (v := .agg #[.slice (some ⟨g, 0, none⟩) ns.length cu]) (by simp [results, Tryz.results103, go_sem, z0, z1, y0, y1]) rfl ⟨_, rfl, ?_, ?_⟩
   ·rw [HLay.out]
    exact (N2.out.owns.setFar (by omega)).mono (fun b hb => by have := hb.1; omega)
   ·exact B8.out.setCell (p := ⟨w.heap.size + 1 + 1, 0, none⟩) (show w.heap.size ≤ w.heap.size + 1 + 1 by omega) _
end Go.Proofs.YthopkhpiikiknaaGreat
namespace Go.Proofs.YthopkhpiikiknaaGreat
open Go.RowKit
set_option maxRecDepth 100000
set_option linter.unusedSimpArgs false
set_option linter.unusedVariables false
/-- What putting a key into a node answers: a node of the call's own, and whether it was taken. -/
def PutsN (w : World) (ns : List (List KeyD)) (x : KeyD) (e : Ending) (w' : World) : Prop := ∃ v, e = .returned (.tuple #[.agg #[v], .bool (putNB ns x)]) ∧ Owns w' (fun b => w.heap.size ≤ b) v (setsD (putN ns x)) ∧ Below w.heap.size w w'
theorem put_one {ns : List (List KeyD)} {x : KeyD} (h : nodeOkB (layerK ns x) = true) : putN ns x = layerK ns x ∧ putNB ns x = true := by simp [putN, putNB, h]
theorem put_two {ns : List (List KeyD)} {x : KeyD} (h : nodeOkB (layerK ns x) = false) (k : nodeOkB (nodeNewK (rebK ns x)) = true) : putN ns x = nodeNewK (rebK ns x) ∧ putNB ns x = true := by simp [putN, putNB, h, k]
theorem put_no {ns : List (List KeyD)} {x : KeyD} (h : nodeOkB (layerK ns x) = false) (k : nodeOkB (nodeNewK (rebK ns x)) = false) : putN ns x = ns ∧ putNB ns x = false := by simp [putN, putNB, h, k]
set_option maxHeartbeats 4000000 in
theorem implNodePut_any (v : Value) (ns : List (List KeyD)) (x : KeyD) (w : World) (hv : Reads w w.heap.size v (setsD ns)) (h1 : ns.length ≤ 1048576) (h2 : sumN ns ≤ 1048576) : Calls Tryz.prog 79 #[.agg #[v], x.v] w (PutsN w ns x) := by
 obtain ⟨A, c, rfl, _, _⟩ := hv.lenN
 obtain ⟨q0, q1, q2⟩ := al3 w (.cells #[.slice A ns.length c] 62) (.cells #[.int .i64 x.a, .int .i64 x.b, .int .i64 x.c, .int .i64 x.d, .int .i64 x.e] 29) (.cells #[.slice none 0 0] 62)
 have B0 := bal3 w (.cells #[.slice A ns.length c] 62) (.cells #[.int .i64 x.a, .int .i64 x.b, .int .i64 x.c, .int .i64 x.d, .int .i64 x.e] 29) (.cells #[.slice none 0 0] 62)
 have HB := Lib.hid B0
 have QN := Lib.hid q0
 have QK := Lib.hid q1
 have QR := Lib.hid q2
 have HV := Lib.hid (hv.on B0)
 have HZ : Hid ((((w.alloc (.cells #[.slice A ns.length c] 62)).alloc (.cells #[.int .i64 x.a, .int .i64 x.b, .int .i64 x.c, .int .i64 x.d, .int .i64 x.e] 29)).alloc (.cells #[.slice none 0 0] 62)).heap.size = w.heap.size + 3) := Lib.hid (by simp)
 have HS : Hid (SmallN ns) := Lib.hid ⟨by omega, by omega⟩
 obtain ⟨KL, hKL⟩ : ∃ KL, nodeKeysK ns = KL := ⟨_, rfl⟩
 obtain ⟨PL, hPL⟩ : ∃ PL, putK KL x = PL := ⟨_, rfl⟩
 obtain ⟨DL, hDL⟩ : ∃ DL, dropK PL = DL := ⟨_, rfl⟩
 have hkl : KL.length ≤ 1048576 := by rw [← hKL]; exact Nat.le_trans (nodeKeys_len ns) h2
 have hpl : PL.length ≤ 1048577 := by rw [← hPL]; exact Nat.le_trans (putK_len KL x) (by omega)
 have hdl : DL.length ≤ 1048577 := by rw [← hDL]; exact Nat.le_trans (dropK_len PL) hpl
 have hreb : rebK ns x = DL := by rw [rebK, hKL, hPL, hDL]
 have HREB := Lib.hid hreb
 have HKL := Lib.hid hKL
 have HPL := Lib.hid hPL
 have HDL := Lib.hid hDL
 obtain ⟨NQ, hNQ⟩ : ∃ NQ, nodeNewK DL = NQ := ⟨_, rfl⟩
 have HNQ := Lib.hid hNQ
 have HSQ : Hid (SmallN NQ) := Lib.hid (by rw [← hNQ]; exact ⟨by have := len_new DL; omega, by rw [sum_new]; omega⟩)
 obtain ⟨R1, hR1⟩ : ∃ R, nodeOkB (layerK ns x) = R := ⟨_, rfl⟩
 obtain ⟨R2, hR2⟩ : ∃ R, nodeOkB NQ = R := ⟨_, rfl⟩
 have HR1 := Lib.hid hR1
 have HR2 := Lib.hid hR2
 have P1 : Hid (R1 = true → putN ns x = layerK ns x ∧ putNB ns x = true) := Lib.hid (fun h => put_one (by rw [hR1, h]))
 have P2 : Hid (R1 = false → R2 = true → putN ns x = NQ ∧ putNB ns x = true) := Lib.hid (fun h k => by have := put_two (ns := ns) (x := x) (by rw [hR1, h]) (by rw [hreb, hNQ, hR2, k]); rw [hreb, hNQ] at this; exact this)
 have P3 : Hid (R1 = false → R2 = false → putN ns x = ns ∧ putNB ns x = false) := Lib.hid (fun h k => put_no (by rw [hR1, h]) (by rw [hreb, hNQ, hR2, k]))
 have hls := layer_small ns x
 obtain ⟨LY, hLY⟩ : ∃ LY, layerK ns x = LY := ⟨_, rfl⟩
 rw [hLY] at hls HR1 P1
 have HLY := Lib.hid hLY
 have HSL : Hid (SmallN LY) := Lib.hid ⟨by omega, by omega⟩
 clear hv B0 q0 q1 q2 hKL hPL hDL hreb hNQ hR1 hR2 hLY
 unfold KeyD.v keyV
 have HI := Lib.hid implSetPut_any
 have HLK := Lib.hid layerKey_any
 unfold KeyD.v keyV at HI HLK
 go_enter Tryz.func79, Tryz.ntmps79
 go_upto_region 1 with (fail)
 generalize ((w.alloc (.cells #[.slice A ns.length c] 62)).alloc (.cells #[.int .i64 x.a, .int .i64 x.b, .int .i64 x.c, .int .i64 x.d, .int .i64 x.e] 29)).alloc (.cells #[.slice none 0 0] 62) = W at *
 have hz1 := Nat.le_of_eq HZ.out
 have hz2 := Nat.le_of_eq HZ.out.symm
 clear HZ
 obtain ⟨x0, x1⟩ := box1N QN.out
 obtain ⟨k0, k1, k2, k3, k4, k5⟩ := box5 QK.out
 go_wp2_with fail
 refine (HLK.out _ ns x W HV.out h1 h2).mono ?_
 clear x0 x1 k0 k1 k2 k3 k4 k5
 rintro r w1 ⟨u, rfl, o1, b1⟩
 rw [HLY.out] at o1
 obtain ⟨Au, cu, rfl, _, _⟩ := o1.reads.lenN
 have ba := bstep b1 (bal1 w1 (.cells #[.slice Au LY.length cu] 62))
 have OU := Lib.hid (o1.lt.on (bal1 w1 (.cells #[.slice Au LY.length cu] 62)))
 have QO := Lib.hid (al1 w1 (.cells #[.slice Au LY.length cu] 62))
 replace QN := Lib.hid (box_on QN.out ba)
 replace QK := Lib.hid (box_on QK.out ba)
 replace QR := Lib.hid (box_on QR.out ba)
 have BBW := Lib.hid ba
 have hb1 := b1.size
 have HZ : Hid ((w1.alloc (.cells #[.slice Au LY.length cu] 62)).heap.size = w1.heap.size + 1) := Lib.hid (by simp)
 clear o1 b1 ba
 go_upto_region 2 with (fail)
 generalize w1.alloc (.cells #[.slice Au LY.length cu] 62) = W2 at *
 have hz3 := Nat.le_of_eq HZ.out
 have hz4 := Nat.le_of_eq HZ.out.symm
 clear HZ
 obtain ⟨z0, z1⟩ := box1N QO.out
 go_wp2_with fail
 refine (implNodeOk_any _ LY W2 OU.out.reads HSL.out).mono ?_
 rintro r w3 ⟨rfl, b3⟩
 rw [HR1.out]
 replace OU := Lib.hid (OU.out.on b3)
 replace QO := Lib.hid (box_on QO.out b3)
 replace QN := Lib.hid (box_on QN.out b3)
 replace QK := Lib.hid (box_on QK.out b3)
 replace QR := Lib.hid (box_on QR.out b3)
 replace BBW := Lib.hid (bstep BBW.out b3)
 have hb3 := b3.size
 clear b3 z0 z1
 cases R1
 ·have P2' := Lib.hid (P2.out rfl)
  have P3' := Lib.hid (P3.out rfl)
  clear P1 P2 P3 HR1 OU QO
  have hdr : w3.heap.size ≤ w3.drew.heap.size := Nat.le_refl _
  go_upto_region 4 with (fail)
  go_cut [7] (fun s7 wx => ∃ pb vq, s7 = .pointer (some ⟨pb, 0, none⟩) ∧ w3.heap.size ≤ pb ∧ Hid (wx.heap[pb]? = some (.cells #[vq] 62)) ∧ Hid (Owns wx (fun b => w3.heap.size ≤ b ∧ b ≠ pb) vq (setsD NQ)) ∧ Hid (Below w3.heap.size w3 wx))
  case first =>
   refine but_begin (f := 7) (S := fun V => Below w3.heap.size w3 V) (by kernel_rfl) ?_
   refine but_take (f := 7) (i := 0) (v := ?vh0) rfl (by kernel_rfl) (by kernel_rfl) (by kernel_rfl) (by kernel_rfl) (by kernel_rfl) (fun _ _ _ h => h) (Or.inl ⟨(by rfl), ?hyh0⟩) (Below.drew1 _) ?resth0
   case hyh0 =>
    intro W hW
    obtain ⟨x0, x1⟩ := box1N (box_on QN.out hW)
    go_simp
    exact rfl
   simp only [List.getElem_toArray, List.getElem_cons_succ, List.getElem_cons_zero, Act.put, List.setIfInBounds_toArray, List.set_cons_zero, List.set_cons_succ]
   refine but_take (f := 7) (i := 2) (v := ?vh2) rfl (by kernel_rfl) (by kernel_rfl) (by kernel_rfl) (by kernel_rfl) (by kernel_rfl) (fun _ _ _ h => h) (Or.inl ⟨(by rfl), ?hyh2⟩) (Below.drew1 _) ?resth2
   case hyh2 =>
    intro W hW
    obtain ⟨k0, k1, k2, k3, k4, k5⟩ := box5 (box_on QK.out hW)
    go_simp
    exact rfl
   simp only [List.getElem_toArray, List.getElem_cons_succ, List.getElem_cons_zero, Act.put, List.setIfInBounds_toArray, List.set_cons_zero, List.set_cons_succ]
   refine but_two (i := 1) (j := 6) (by kernel_rfl) rfl rfl (by rfl) (by rfl) ?_ ?_
   ·simp only [List.getElem_toArray, List.getElem_cons_succ, List.getElem_cons_zero]
    intro K HK
    go_wp2_with fail
    refine (implNodeKeys_any _ ns _ (HV.out.on (bstep BBW.out (Below.drew1 _))) h1 h2).mono ?_
    rintro r Vhp1 ⟨v1, rfl, o1, hbhp1⟩
    rw [HKL.out] at o1
    obtain ⟨A1, c1, rfl, _, _⟩ := o1.shape
    go_wp2_with fail
    have hShp1 : (fun V => Below w3.heap.size w3 V) Vhp1 := bstep (Below.drew1 _) hbhp1
    refine HK.out _ _ (fun _ => hShp1) ?_
    clear HK
    have OC := Lib.hid o1
    clear o1
    try replace QB := Lib.hid (box_on QB.out hbhp1)
    have hzhp1 := hbhp1.size
    refine but_two (i := 3) (j := 6) (by kernel_rfl) rfl rfl (by rfl) (by rfl) ?_ ?_
    ·simp only [List.getElem_toArray, List.getElem_cons_succ, List.getElem_cons_zero]
     intro K HK
     go_wp2_with fail
     refine (HI.out _ KL x _ OC.out.owns.reads (by omega)).mono ?_
     rintro r Vhpp2 ⟨v3, rfl, o3, hbhpp2⟩
     rw [HPL.out] at o3
     obtain ⟨A3, c3, rfl, _, _⟩ := o3.shape
     go_wp2_with fail
     have hShpp2 : (fun V => Below w3.heap.size w3 V) Vhpp2 := bstep hShp1 hbhpp2
     refine HK.out _ _ (fun _ => hShpp2) ?_
     clear HK
     replace OC := Lib.hid o3
     clear o3
     try replace QB := Lib.hid (box_on QB.out hbhpp2)
     have hzhpp2 := hbhpp2.size
     refine but_two (i := 4) (j := 6) (by kernel_rfl) rfl rfl (by rfl) (by rfl) ?_ ?_
     ·simp only [List.getElem_toArray, List.getElem_cons_succ, List.getElem_cons_zero]
      intro K HK
      go_wp2_with fail
      refine (implDrop_any _ PL _ OC.out.owns.reads (by omega)).mono ?_
      rintro r Vhppp3 ⟨v4, rfl, o4, hbhppp3⟩
      rw [HDL.out] at o4
      obtain ⟨A4, c4, rfl, _, _⟩ := o4.shape
      go_wp2_with fail
      have hShppp3 : (fun V => Below w3.heap.size w3 V) Vhppp3 := bstep hShpp2 hbhppp3
      refine HK.out _ _ (fun _ => hShppp3) ?_
      clear HK
      replace OC := Lib.hid o4
      clear o4
      try replace QB := Lib.hid (box_on QB.out hbhppp3)
      have hzhppp3 := hbhppp3.size
      refine but_two (i := 5) (j := 6) (by kernel_rfl) rfl rfl (by rfl) (by rfl) ?_ ?_
      ·simp only [List.getElem_toArray, List.getElem_cons_succ, List.getElem_cons_zero]
       intro K HK
       go_wp2_with fail
       refine (implNodeNew_any _ DL _ OC.out.owns.reads (by omega)).mono ?_
       rintro r Vhpppp4 ⟨v5, rfl, o5, hbhpppp4⟩
       rw [HNQ.out] at o5
       obtain ⟨A5, c5, rfl, _, _⟩ := o5.reads.lenN
       go_wp2_with fail
       have hShpppp4 : (fun V => Below w3.heap.size w3 V) Vhpppp4 := bstep hShppp3 hbhpppp4
       refine HK.out _ _ (fun _ => hShpppp4) ?_
       clear HK
       have ON := Lib.hid o5.lt
       clear o5
       try replace QB := Lib.hid (box_on QB.out hbhpppp4)
       have hzhpppp4 := hbhpppp4.size
       refine but_run (i := 6) (by kernel_rfl) rfl (by rfl) ?_
       simp only [List.getElem_toArray, List.getElem_cons_succ, List.getElem_cons_zero]
       intro K HK
       go_wp2_with fail
       have hShpppp5 : (fun V => Below w3.heap.size w3 V) (Vhpppp4.alloc (.cells #[.slice none 0 0] 62)) := bstep hShpppp4 (bal1 _ _)
       refine HK.out _ _ (fun _ => hShpppp5) ?_
       clear HK
       have QB := Lib.hid (al1 Vhpppp4 (.cells #[.slice none 0 0] 62))
       try (change Hid ((w3.drew.alloc (.cells #[.slice none 0 0] 62)).heap[w3.heap.size]? = some (.cells #[.slice none 0 0] 62)) at QB)
       try have ON0 := ON
       try replace OC := Lib.hid (OC.out.on (bal1 _ (.cells #[.slice none 0 0] 62)))
       try replace ON := Lib.hid (ON.out.on (bal1 _ (.cells #[.slice none 0 0] 62)))
       have hzhpppp5 : (Vhpppp4.alloc (.cells #[.slice none 0 0] 62)).heap.size ≤ Vhpppp4.heap.size + 1 := by simp
       have hyhpppp5 : Vhpppp4.heap.size + 1 ≤ (Vhpppp4.alloc (.cells #[.slice none 0 0] 62)).heap.size := by simp
       refine but_run (i := 7) (by kernel_rfl) rfl (by rfl) ?_
       simp only [List.getElem_toArray, List.getElem_cons_succ, List.getElem_cons_zero]
       obtain ⟨z0, z1⟩ := box1N QB.out
       intro K HK
       go_wp2_with fail
       refine HK.out _ _ (fun h => absurd rfl h) ?_
       clear HK
       refine but_done (by kernel_rfl) ?_
       have hzz := hShpppp5.size
       go_wp2_with fail
       go_meet
       exact ⟨Vhpppp4.heap.size, _, rfl, by omega, Lib.hid (al1 _ _), Lib.hid ((ON0.out.on (bal1 _ _)).mono (T := fun b => w3.heap.size ≤ b ∧ b ≠ Vhpppp4.heap.size) (fun b hb => ⟨by omega, by omega⟩)), Lib.hid (bstep hShpppp4 (bal1 _ _))⟩
      ·simp only [List.getElem_toArray, List.getElem_cons_succ, List.getElem_cons_zero]
       intro K HK
       go_wp2_with fail
       have hShpppq4 : (fun V => Below w3.heap.size w3 V) (Vhppp3.alloc (.cells #[.slice none 0 0] 62)) := bstep hShppp3 (bal1 _ _)
       refine HK.out _ _ (fun _ => hShpppq4) ?_
       clear HK
       have QB := Lib.hid (al1 Vhppp3 (.cells #[.slice none 0 0] 62))
       try (change Hid ((w3.drew.alloc (.cells #[.slice none 0 0] 62)).heap[w3.heap.size]? = some (.cells #[.slice none 0 0] 62)) at QB)
       try have ON0 := ON
       try replace OC := Lib.hid (OC.out.on (bal1 _ (.cells #[.slice none 0 0] 62)))
       try replace ON := Lib.hid (ON.out.on (bal1 _ (.cells #[.slice none 0 0] 62)))
       have hzhpppq4 : (Vhppp3.alloc (.cells #[.slice none 0 0] 62)).heap.size ≤ Vhppp3.heap.size + 1 := by simp
       have hyhpppq4 : Vhppp3.heap.size + 1 ≤ (Vhppp3.alloc (.cells #[.slice none 0 0] 62)).heap.size := by simp
       refine but_run (i := 5) (by kernel_rfl) rfl (by rfl) ?_
       simp only [List.getElem_toArray, List.getElem_cons_succ, List.getElem_cons_zero]
       intro K HK
       go_wp2_with fail
       refine (implNodeNew_any _ DL _ OC.out.owns.reads (by omega)).mono ?_
       rintro r Vhpppq5 ⟨v5, rfl, o5, hbhpppq5⟩
       rw [HNQ.out] at o5
       obtain ⟨A5, c5, rfl, _, _⟩ := o5.reads.lenN
       go_wp2_with fail
       have hShpppq5 : (fun V => Below w3.heap.size w3 V) Vhpppq5 := bstep hShpppq4 hbhpppq5
       refine HK.out _ _ (fun _ => hShpppq5) ?_
       clear HK
       have ON := Lib.hid o5.lt
       clear o5
       try replace QB := Lib.hid (box_on QB.out hbhpppq5)
       have hzhpppq5 := hbhpppq5.size
       refine but_run (i := 7) (by kernel_rfl) rfl (by rfl) ?_
       simp only [List.getElem_toArray, List.getElem_cons_succ, List.getElem_cons_zero]
       obtain ⟨z0, z1⟩ := box1N QB.out
       intro K HK
       go_wp2_with fail
       refine HK.out _ _ (fun h => absurd rfl h) ?_
       clear HK
       refine but_done (by kernel_rfl) ?_
       have hzz := hShpppq5.size
       go_wp2_with fail
       go_meet
       exact ⟨Vhppp3.heap.size, _, rfl, by omega, Lib.hid (box_set QB.out), Lib.hid ((ON.out.mono (T := fun b => w3.heap.size ≤ b ∧ b ≠ Vhppp3.heap.size) (fun b hb => ⟨by omega, by omega⟩)).setFar (fun h => h.2 rfl)), Lib.hid (Below.setCell hShpppq5 (p := ⟨Vhppp3.heap.size, 0, none⟩) (show w3.heap.size ≤ Vhppp3.heap.size by omega) _)⟩
     ·simp only [List.getElem_toArray, List.getElem_cons_succ, List.getElem_cons_zero]
      intro K HK
      go_wp2_with fail
      have hShppq3 : (fun V => Below w3.heap.size w3 V) (Vhpp2.alloc (.cells #[.slice none 0 0] 62)) := bstep hShpp2 (bal1 _ _)
      refine HK.out _ _ (fun _ => hShppq3) ?_
      clear HK
      have QB := Lib.hid (al1 Vhpp2 (.cells #[.slice none 0 0] 62))
      try (change Hid ((w3.drew.alloc (.cells #[.slice none 0 0] 62)).heap[w3.heap.size]? = some (.cells #[.slice none 0 0] 62)) at QB)
      try have ON0 := ON
      try replace OC := Lib.hid (OC.out.on (bal1 _ (.cells #[.slice none 0 0] 62)))
      try replace ON := Lib.hid (ON.out.on (bal1 _ (.cells #[.slice none 0 0] 62)))
      have hzhppq3 : (Vhpp2.alloc (.cells #[.slice none 0 0] 62)).heap.size ≤ Vhpp2.heap.size + 1 := by simp
      have hyhppq3 : Vhpp2.heap.size + 1 ≤ (Vhpp2.alloc (.cells #[.slice none 0 0] 62)).heap.size := by simp
      refine but_run (i := 4) (by kernel_rfl) rfl (by rfl) ?_
      simp only [List.getElem_toArray, List.getElem_cons_succ, List.getElem_cons_zero]
      intro K HK
      go_wp2_with fail
      refine (implDrop_any _ PL _ OC.out.owns.reads (by omega)).mono ?_
      rintro r Vhppq4 ⟨v4, rfl, o4, hbhppq4⟩
      rw [HDL.out] at o4
      obtain ⟨A4, c4, rfl, _, _⟩ := o4.shape
      go_wp2_with fail
      have hShppq4 : (fun V => Below w3.heap.size w3 V) Vhppq4 := bstep hShppq3 hbhppq4
      refine HK.out _ _ (fun _ => hShppq4) ?_
      clear HK
      replace OC := Lib.hid o4
      clear o4
      try replace QB := Lib.hid (box_on QB.out hbhppq4)
      have hzhppq4 := hbhppq4.size
      refine but_run (i := 5) (by kernel_rfl) rfl (by rfl) ?_
      simp only [List.getElem_toArray, List.getElem_cons_succ, List.getElem_cons_zero]
      intro K HK
      go_wp2_with fail
      refine (implNodeNew_any _ DL _ OC.out.owns.reads (by omega)).mono ?_
      rintro r Vhppq5 ⟨v5, rfl, o5, hbhppq5⟩
      rw [HNQ.out] at o5
      obtain ⟨A5, c5, rfl, _, _⟩ := o5.reads.lenN
      go_wp2_with fail
      have hShppq5 : (fun V => Below w3.heap.size w3 V) Vhppq5 := bstep hShppq4 hbhppq5
      refine HK.out _ _ (fun _ => hShppq5) ?_
      clear HK
      have ON := Lib.hid o5.lt
      clear o5
      try replace QB := Lib.hid (box_on QB.out hbhppq5)
      have hzhppq5 := hbhppq5.size
      refine but_run (i := 7) (by kernel_rfl) rfl (by rfl) ?_
      simp only [List.getElem_toArray, List.getElem_cons_succ, List.getElem_cons_zero]
      obtain ⟨z0, z1⟩ := box1N QB.out
      intro K HK
      go_wp2_with fail
      refine HK.out _ _ (fun h => absurd rfl h) ?_
      clear HK
      refine but_done (by kernel_rfl) ?_
      have hzz := hShppq5.size
      go_wp2_with fail
      go_meet
      exact ⟨Vhpp2.heap.size, _, rfl, by omega, Lib.hid (box_set QB.out), Lib.hid ((ON.out.mono (T := fun b => w3.heap.size ≤ b ∧ b ≠ Vhpp2.heap.size) (fun b hb => ⟨by omega, by omega⟩)).setFar (fun h => h.2 rfl)), Lib.hid (Below.setCell hShppq5 (p := ⟨Vhpp2.heap.size, 0, none⟩) (show w3.heap.size ≤ Vhpp2.heap.size by omega) _)⟩
    ·simp only [List.getElem_toArray, List.getElem_cons_succ, List.getElem_cons_zero]
     intro K HK
     go_wp2_with fail
     have hShpq2 : (fun V => Below w3.heap.size w3 V) (Vhp1.alloc (.cells #[.slice none 0 0] 62)) := bstep hShp1 (bal1 _ _)
     refine HK.out _ _ (fun _ => hShpq2) ?_
     clear HK
     have QB := Lib.hid (al1 Vhp1 (.cells #[.slice none 0 0] 62))
     try (change Hid ((w3.drew.alloc (.cells #[.slice none 0 0] 62)).heap[w3.heap.size]? = some (.cells #[.slice none 0 0] 62)) at QB)
     try have ON0 := ON
     try replace OC := Lib.hid (OC.out.on (bal1 _ (.cells #[.slice none 0 0] 62)))
     try replace ON := Lib.hid (ON.out.on (bal1 _ (.cells #[.slice none 0 0] 62)))
     have hzhpq2 : (Vhp1.alloc (.cells #[.slice none 0 0] 62)).heap.size ≤ Vhp1.heap.size + 1 := by simp
     have hyhpq2 : Vhp1.heap.size + 1 ≤ (Vhp1.alloc (.cells #[.slice none 0 0] 62)).heap.size := by simp
     refine but_run (i := 3) (by kernel_rfl) rfl (by rfl) ?_
     simp only [List.getElem_toArray, List.getElem_cons_succ, List.getElem_cons_zero]
     intro K HK
     go_wp2_with fail
     refine (HI.out _ KL x _ OC.out.owns.reads (by omega)).mono ?_
     rintro r Vhpq3 ⟨v3, rfl, o3, hbhpq3⟩
     rw [HPL.out] at o3
     obtain ⟨A3, c3, rfl, _, _⟩ := o3.shape
     go_wp2_with fail
     have hShpq3 : (fun V => Below w3.heap.size w3 V) Vhpq3 := bstep hShpq2 hbhpq3
     refine HK.out _ _ (fun _ => hShpq3) ?_
     clear HK
     replace OC := Lib.hid o3
     clear o3
     try replace QB := Lib.hid (box_on QB.out hbhpq3)
     have hzhpq3 := hbhpq3.size
     refine but_run (i := 4) (by kernel_rfl) rfl (by rfl) ?_
     simp only [List.getElem_toArray, List.getElem_cons_succ, List.getElem_cons_zero]
     intro K HK
     go_wp2_with fail
     refine (implDrop_any _ PL _ OC.out.owns.reads (by omega)).mono ?_
     rintro r Vhpq4 ⟨v4, rfl, o4, hbhpq4⟩
     rw [HDL.out] at o4
     obtain ⟨A4, c4, rfl, _, _⟩ := o4.shape
     go_wp2_with fail
     have hShpq4 : (fun V => Below w3.heap.size w3 V) Vhpq4 := bstep hShpq3 hbhpq4
     refine HK.out _ _ (fun _ => hShpq4) ?_
     clear HK
     replace OC := Lib.hid o4
     clear o4
     try replace QB := Lib.hid (box_on QB.out hbhpq4)
     have hzhpq4 := hbhpq4.size
     refine but_run (i := 5) (by kernel_rfl) rfl (by rfl) ?_
     simp only [List.getElem_toArray, List.getElem_cons_succ, List.getElem_cons_zero]
     intro K HK
     go_wp2_with fail
     refine (implNodeNew_any _ DL _ OC.out.owns.reads (by omega)).mono ?_
     rintro r Vhpq5 ⟨v5, rfl, o5, hbhpq5⟩
     rw [HNQ.out] at o5
     obtain ⟨A5, c5, rfl, _, _⟩ := o5.reads.lenN
     go_wp2_with fail
     have hShpq5 : (fun V => Below w3.heap.size w3 V) Vhpq5 := bstep hShpq4 hbhpq5
     refine HK.out _ _ (fun _ => hShpq5) ?_
     clear HK
     have ON := Lib.hid o5.lt
     clear o5
     try replace QB := Lib.hid (box_on QB.out hbhpq5)
     have hzhpq5 := hbhpq5.size
     refine but_run (i := 7) (by kernel_rfl) rfl (by rfl) ?_
     simp only [List.getElem_toArray, List.getElem_cons_succ, List.getElem_cons_zero]
     obtain ⟨z0, z1⟩ := box1N QB.out
     intro K HK
     go_wp2_with fail
     refine HK.out _ _ (fun h => absurd rfl h) ?_
     clear HK
     refine but_done (by kernel_rfl) ?_
     have hzz := hShpq5.size
     go_wp2_with fail
     go_meet
     exact ⟨Vhp1.heap.size, _, rfl, by omega, Lib.hid (box_set QB.out), Lib.hid ((ON.out.mono (T := fun b => w3.heap.size ≤ b ∧ b ≠ Vhp1.heap.size) (fun b hb => ⟨by omega, by omega⟩)).setFar (fun h => h.2 rfl)), Lib.hid (Below.setCell hShpq5 (p := ⟨Vhp1.heap.size, 0, none⟩) (show w3.heap.size ≤ Vhp1.heap.size by omega) _)⟩
   ·simp only [List.getElem_toArray, List.getElem_cons_succ, List.getElem_cons_zero]
    intro K HK
    go_wp2_with fail
    have hShq1 : (fun V => Below w3.heap.size w3 V) (w3.drew.alloc (.cells #[.slice none 0 0] 62)) := bstep (Below.drew1 _) (bal1 _ _)
    refine HK.out _ _ (fun _ => hShq1) ?_
    clear HK
    have QB := Lib.hid (al1 w3.drew (.cells #[.slice none 0 0] 62))
    try (change Hid ((w3.drew.alloc (.cells #[.slice none 0 0] 62)).heap[w3.heap.size]? = some (.cells #[.slice none 0 0] 62)) at QB)
    try have ON0 := ON
    try replace OC := Lib.hid (OC.out.on (bal1 _ (.cells #[.slice none 0 0] 62)))
    try replace ON := Lib.hid (ON.out.on (bal1 _ (.cells #[.slice none 0 0] 62)))
    have hzhq1 : (w3.drew.alloc (.cells #[.slice none 0 0] 62)).heap.size ≤ w3.drew.heap.size + 1 := by simp
    have hyhq1 : w3.drew.heap.size + 1 ≤ (w3.drew.alloc (.cells #[.slice none 0 0] 62)).heap.size := by simp
    refine but_run (i := 1) (by kernel_rfl) rfl (by rfl) ?_
    simp only [List.getElem_toArray, List.getElem_cons_succ, List.getElem_cons_zero]
    intro K HK
    go_wp2_with fail
    refine (implNodeKeys_any _ ns _ (HV.out.on (bstep BBW.out hShq1)) h1 h2).mono ?_
    rintro r Vhq2 ⟨v1, rfl, o1, hbhq2⟩
    rw [HKL.out] at o1
    obtain ⟨A1, c1, rfl, _, _⟩ := o1.shape
    go_wp2_with fail
    have hShq2 : (fun V => Below w3.heap.size w3 V) Vhq2 := bstep hShq1 hbhq2
    refine HK.out _ _ (fun _ => hShq2) ?_
    clear HK
    have OC := Lib.hid o1
    clear o1
    try replace QB := Lib.hid (box_on QB.out hbhq2)
    have hzhq2 := hbhq2.size
    refine but_run (i := 3) (by kernel_rfl) rfl (by rfl) ?_
    simp only [List.getElem_toArray, List.getElem_cons_succ, List.getElem_cons_zero]
    intro K HK
    go_wp2_with fail
    refine (HI.out _ KL x _ OC.out.owns.reads (by omega)).mono ?_
    rintro r Vhq3 ⟨v3, rfl, o3, hbhq3⟩
    rw [HPL.out] at o3
    obtain ⟨A3, c3, rfl, _, _⟩ := o3.shape
    go_wp2_with fail
    have hShq3 : (fun V => Below w3.heap.size w3 V) Vhq3 := bstep hShq2 hbhq3
    refine HK.out _ _ (fun _ => hShq3) ?_
    clear HK
    replace OC := Lib.hid o3
    clear o3
    try replace QB := Lib.hid (box_on QB.out hbhq3)
    have hzhq3 := hbhq3.size
    refine but_run (i := 4) (by kernel_rfl) rfl (by rfl) ?_
    simp only [List.getElem_toArray, List.getElem_cons_succ, List.getElem_cons_zero]
    intro K HK
    go_wp2_with fail
    refine (implDrop_any _ PL _ OC.out.owns.reads (by omega)).mono ?_
    rintro r Vhq4 ⟨v4, rfl, o4, hbhq4⟩
    rw [HDL.out] at o4
    obtain ⟨A4, c4, rfl, _, _⟩ := o4.shape
    go_wp2_with fail
    have hShq4 : (fun V => Below w3.heap.size w3 V) Vhq4 := bstep hShq3 hbhq4
    refine HK.out _ _ (fun _ => hShq4) ?_
    clear HK
    replace OC := Lib.hid o4
    clear o4
    try replace QB := Lib.hid (box_on QB.out hbhq4)
    have hzhq4 := hbhq4.size
    refine but_run (i := 5) (by kernel_rfl) rfl (by rfl) ?_
    simp only [List.getElem_toArray, List.getElem_cons_succ, List.getElem_cons_zero]
    intro K HK
    go_wp2_with fail
    refine (implNodeNew_any _ DL _ OC.out.owns.reads (by omega)).mono ?_
    rintro r Vhq5 ⟨v5, rfl, o5, hbhq5⟩
    rw [HNQ.out] at o5
    obtain ⟨A5, c5, rfl, _, _⟩ := o5.reads.lenN
    go_wp2_with fail
    have hShq5 : (fun V => Below w3.heap.size w3 V) Vhq5 := bstep hShq4 hbhq5
    refine HK.out _ _ (fun _ => hShq5) ?_
    clear HK
    have ON := Lib.hid o5.lt
    clear o5
    try replace QB := Lib.hid (box_on QB.out hbhq5)
    have hzhq5 := hbhq5.size
    refine but_run (i := 7) (by kernel_rfl) rfl (by rfl) ?_
    simp only [List.getElem_toArray, List.getElem_cons_succ, List.getElem_cons_zero]
    obtain ⟨z0, z1⟩ := box1N QB.out
    intro K HK
    go_wp2_with fail
    refine HK.out _ _ (fun h => absurd rfl h) ?_
    clear HK
    refine but_done (by kernel_rfl) ?_
    have hzz := hShq5.size
    go_wp2_with fail
    go_meet
    exact ⟨w3.heap.size, _, rfl, by omega, Lib.hid (box_set QB.out), Lib.hid ((ON.out.mono (T := fun b => w3.heap.size ≤ b ∧ b ≠ w3.heap.size) (fun b hb => ⟨by omega, by omega⟩)).setFar (fun h => h.2 rfl)), Lib.hid (Below.setCell hShq5 (p := ⟨w3.heap.size, 0, none⟩) (show w3.heap.size ≤ w3.heap.size by omega) _)⟩
  case rest =>
   obtain ⟨pb, vq, rfl, hpb, QB, ON, BX⟩ := hcut
   obtain ⟨A5, c5, rfl, _, _⟩ := ON.out.reads.lenN
   replace QN := Lib.hid (box_on QN.out BX.out)
   replace QR := Lib.hid (box_on QR.out BX.out)
   replace BBW := Lib.hid (bstep BBW.out BX.out)
   have hbx := BX.out.size
   obtain ⟨z0, z1⟩ := box1N QB.out
   go_wp2_with fail
   refine (implNodeOk_any _ NQ _ ON.out.reads HSQ.out).mono ?_
   rintro r w5 ⟨rfl, b5⟩
   rw [HR2.out]
   replace QN := Lib.hid (box_on QN.out b5)
   replace QB := Lib.hid (box_on QB.out b5)
   replace QR := Lib.hid (box_on QR.out b5)
   replace ON := Lib.hid (ON.out.on b5)
   replace BBW := Lib.hid (bstep BBW.out b5)
   clear b5 z0 z1
   obtain ⟨y0, y1⟩ := box1N QR.out
   cases R2
   ·have hP := P3'.out rfl
    have HP := Lib.hid hP
    clear hP P2' P3' HR2
    obtain ⟨x0, x1⟩ := box1N QN.out
    go_wp2_with fail
    refine (copyNode_any _ ns _ (HV.out.on BBW.out) HS.out).mono ?_
    rintro r w6 ⟨v6, rfl, o6, b6⟩
    obtain ⟨A6, c6, rfl, _, _⟩ := o6.reads.lenN
    have hb6 := BBW.out.size
    have O6 := Lib.hid o6
    have B6 := Lib.hid (bstep (bstep HB.out BBW.out) b6)
    clear y0 y1 x0 x1
    obtain ⟨y0, y1⟩ := box1N (box_on QR.out b6)
    clear o6 b6
    go_wp2
    refine bodyPost_ret (v := .tuple #[.agg #[.slice A6 ns.length c6], .bool false]) (by simp [results, Tryz.results79, go_sem, y0, y1]) rfl ⟨_, by rw [HP.out.2], ?_, ?_⟩
    ·rw [HP.out.1]
     exact (O6.out.setFar (by omega)).mono (fun b hb => by omega)
    ·exact B6.out.setCell (p := ⟨w.heap.size + 1 + 1, 0, none⟩) (show w.heap.size ≤ w.heap.size + 1 + 1 by omega) _
   ·have hP := P2'.out rfl
    have HP := Lib.hid hP
    clear hP P2' P3' HR2
    obtain ⟨z0, z1⟩ := box1N QB.out
    have B6 := Lib.hid (bstep HB.out BBW.out)
    have hw3 : w.heap.size + 1 + 1 < w3.heap.size := by omega
    go_wp2
    refine bodyPost_ret (v := .tuple #[.agg #[.slice A5 NQ.length c5], .bool true]) (by simp [results, Tryz.results79, go_sem, y0, y1]) rfl ⟨_, by rw [HP.out.2], ?_, ?_⟩
    ·rw [HP.out.1]
     exact (ON.out.setFar (fun h => by have := h.1; omega)).mono (fun b hb => by have := hb.1; omega)
    ·exact B6.out.setCell (p := ⟨w.heap.size + 1 + 1, 0, none⟩) (show w.heap.size ≤ w.heap.size + 1 + 1 by omega) _
 ·have hP := P1.out rfl
  have HP := Lib.hid hP
  clear hP P1 P2 P3 HR1
  obtain ⟨z0, z1⟩ := box1N QO.out
  obtain ⟨y0, y1⟩ := box1N QR.out
  have B6 := Lib.hid (bstep HB.out BBW.out)
  go_wp2
  refine bodyPost_ret (v := .tuple #[.agg #[.slice Au LY.length cu], .bool true]) (by simp [results, Tryz.results79, go_sem, y0, y1]) rfl ⟨_, by rw [HP.out.2], ?_, ?_⟩
  ·rw [HP.out.1]
   exact (OU.out.setFar (fun h => by have := h.1; omega)).mono (fun b hb => by have := hb.1; omega)
  ·exact B6.out.setCell (p := ⟨w.heap.size + 1 + 1, 0, none⟩) (show w.heap.size ≤ w.heap.size + 1 + 1 by omega) _
end Go.Proofs.YthopkhpiikiknaaGreat
namespace Go.Proofs.YthopkhpiikiknaaGreat
open Go.RowKit
set_option maxRecDepth 100000
set_option linter.unusedSimpArgs false
set_option linter.unusedVariables false
set_option maxHeartbeats 1000000 in
theorem specNodePut_any (v : Value) (ns : List (List KeyD)) (x : KeyD) (w : World) (hv : Reads w w.heap.size v (setsD ns)) (h1 : ns.length ≤ 1048576) (h2 : sumN ns ≤ 1048576) : Calls Tryz.prog 40 #[.agg #[v], x.v] w (PutsN w ns x) := by
 obtain ⟨A, c, rfl, _, _⟩ := hv.lenN
 obtain ⟨q0, q1, q2⟩ := al3 w (.cells #[.slice A ns.length c] 62) (.cells #[.int .i64 x.a, .int .i64 x.b, .int .i64 x.c, .int .i64 x.d, .int .i64 x.e] 29) (.cells #[.slice none 0 0] 62)
 have B0 := bal3 w (.cells #[.slice A ns.length c] 62) (.cells #[.int .i64 x.a, .int .i64 x.b, .int .i64 x.c, .int .i64 x.d, .int .i64 x.e] 29) (.cells #[.slice none 0 0] 62)
 have HB := Lib.hid B0
 have QN := Lib.hid q0
 have QK := Lib.hid q1
 have QR := Lib.hid q2
 have HV := Lib.hid (hv.on B0)
 have HZ : Hid ((((w.alloc (.cells #[.slice A ns.length c] 62)).alloc (.cells #[.int .i64 x.a, .int .i64 x.b, .int .i64 x.c, .int .i64 x.d, .int .i64 x.e] 29)).alloc (.cells #[.slice none 0 0] 62)).heap.size = w.heap.size + 3) := Lib.hid (by simp)
 have HS : Hid (SmallN ns) := Lib.hid ⟨by omega, by omega⟩
 obtain ⟨KL, hKL⟩ : ∃ KL, nodeKeysK ns = KL := ⟨_, rfl⟩
 obtain ⟨PL, hPL⟩ : ∃ PL, putK KL x = PL := ⟨_, rfl⟩
 obtain ⟨DL, hDL⟩ : ∃ DL, dropK PL = DL := ⟨_, rfl⟩
 have hkl : KL.length ≤ 1048576 := by rw [← hKL]; exact Nat.le_trans (nodeKeys_len ns) h2
 have hpl : PL.length ≤ 1048577 := by rw [← hPL]; exact Nat.le_trans (putK_len KL x) (by omega)
 have hdl : DL.length ≤ 1048577 := by rw [← hDL]; exact Nat.le_trans (dropK_len PL) hpl
 have hreb : rebK ns x = DL := by rw [rebK, hKL, hPL, hDL]
 have HREB := Lib.hid hreb
 have HKL := Lib.hid hKL
 have HPL := Lib.hid hPL
 have HDL := Lib.hid hDL
 obtain ⟨NQ, hNQ⟩ : ∃ NQ, nodeNewK DL = NQ := ⟨_, rfl⟩
 have HNQ := Lib.hid hNQ
 have HSQ : Hid (SmallN NQ) := Lib.hid (by rw [← hNQ]; exact ⟨by have := len_new DL; omega, by rw [sum_new]; omega⟩)
 obtain ⟨R1, hR1⟩ : ∃ R, nodeOkB (layerK ns x) = R := ⟨_, rfl⟩
 obtain ⟨R2, hR2⟩ : ∃ R, nodeOkB NQ = R := ⟨_, rfl⟩
 have HR1 := Lib.hid hR1
 have HR2 := Lib.hid hR2
 have P1 : Hid (R1 = true → putN ns x = layerK ns x ∧ putNB ns x = true) := Lib.hid (fun h => put_one (by rw [hR1, h]))
 have P2 : Hid (R1 = false → R2 = true → putN ns x = NQ ∧ putNB ns x = true) := Lib.hid (fun h k => by have := put_two (ns := ns) (x := x) (by rw [hR1, h]) (by rw [hreb, hNQ, hR2, k]); rw [hreb, hNQ] at this; exact this)
 have P3 : Hid (R1 = false → R2 = false → putN ns x = ns ∧ putNB ns x = false) := Lib.hid (fun h k => put_no (by rw [hR1, h]) (by rw [hreb, hNQ, hR2, k]))
 have hls := layer_small ns x
 obtain ⟨LY, hLY⟩ : ∃ LY, layerK ns x = LY := ⟨_, rfl⟩
 rw [hLY] at hls HR1 P1
 have HLY := Lib.hid hLY
 have HSL : Hid (SmallN LY) := Lib.hid ⟨by omega, by omega⟩
 clear hv B0 q0 q1 q2 hKL hPL hDL hreb hNQ hR1 hR2 hLY
 unfold KeyD.v keyV
 have HI := Lib.hid specSetPut_any
 have HA := Lib.hid specSetAt_any
 unfold SaysFind KeyD.v keyV at HA
 unfold KeyD.v keyV at HI
 have HLONG : Hid (8 < DL.length → R2 = false) := Lib.hid (fun h => by rw [← HR2.out, ← HNQ.out]; exact ok_new_long h)
 go_enter Tryz.func40, Tryz.ntmps40
 go_upto_region 1 with (fail)
 generalize ((w.alloc (.cells #[.slice A ns.length c] 62)).alloc (.cells #[.int .i64 x.a, .int .i64 x.b, .int .i64 x.c, .int .i64 x.d, .int .i64 x.e] 29)).alloc (.cells #[.slice none 0 0] 62) = W at *
 have hz1 := Nat.le_of_eq HZ.out
 have hz2 := Nat.le_of_eq HZ.out.symm
 clear HZ
 obtain ⟨x0, x1⟩ := box1N QN.out
 go_wp2_with fail
 refine (l5Copy_any _ ns W HV.out HS.out).mono ?_
 rintro r w1 ⟨u, rfl, o1, b1⟩
 obtain ⟨Au, cu, rfl, _, _⟩ := o1.reads.lenN
 have NO := Lib.hid (NOwn.of o1 (.cells #[.slice Au ns.length cu] 62))
 have QO := Lib.hid (al1 w1 (.cells #[.slice Au ns.length cu] 62))
 have ba := bstep b1 (bal1 w1 (.cells #[.slice Au ns.length cu] 62))
 replace QN := Lib.hid (box_on QN.out ba)
 replace QK := Lib.hid (box_on QK.out ba)
 replace QR := Lib.hid (box_on QR.out ba)
 have BBW := Lib.hid ba
 have hb1 := b1.size
 have HZ : Hid ((w1.alloc (.cells #[.slice Au ns.length cu] 62)).heap.size = w1.heap.size + 1) := Lib.hid (by simp)
 clear o1 b1 ba x0 x1
 go_upto_region 2 with (fail)
 generalize w1.alloc (.cells #[.slice Au ns.length cu] 62) = W2 at *
 have hz3 := Nat.le_of_eq HZ.out
 have hz4 := Nat.le_of_eq HZ.out.symm
 clear HZ
 obtain ⟨z0, z1⟩ := box1N QO.out
 by_cases h0 : ns.length = 0
 ·have HLay : Hid (ns ++ [[x]] = LY) := Lib.hid (by rw [← HLY.out]; unfold layerK; rw [dif_neg (by omega)])
  have i3 : IntKind.i64.wrap ((ns.length : Int) - 1) = -1 := by rw [IntKind.wrap_i64]; omega
  clear h0
  go_upto_region 8 with (fail)
  clear z0 z1 i3
  obtain ⟨xs, hr, ho, hne⟩ := NO.out
  obtain ⟨k0, k1, k2, k3, k4, k5⟩ := box5 QK.out
  obtain ⟨z0, z1⟩ := box1N QO.out
  have AT := Lib.hid (At.lit1n (W2.alloc (.cells #[.int .i64 x.a, .int .i64 x.b, .int .i64 x.c, .int .i64 x.d, .int .i64 x.e] 29)) (.slice (some ⟨W2.heap.size, 0, none⟩) 1 1) 36 (n := W2.heap.size + 1) (by simp))
  have HRW := Lib.hid (row_on hr (bal2 W2 (.cells #[.int .i64 x.a, .int .i64 x.b, .int .i64 x.c, .int .i64 x.d, .int .i64 x.e] 29) (.cells #[.slice (some ⟨W2.heap.size, 0, none⟩) 1 1] 36)))
  have HR0 := Lib.hid hr
  have HO0 := Lib.hid ho
  have HNE := Lib.hid hne
  clear hr ho hne
  go_wp2_with (at_builtin; refine wpList_appV _ rfl (.tmp 57) (.tmp 60) 60 36 1 24 (.slice none 0 0) rfl Tryz.underlying60 (by kernel_rfl) rfl (by omega) (by omega) W.heap.size ns.length _ xs rfl HRW.out (some ⟨W2.heap.size + 1, 0, none⟩) 1 1 [.slice (some ⟨W2.heap.size, 0, none⟩) 1 1] rfl rfl AT.out (by simp [Value.oneCell']) (by first | omega | (simp; done)) (by have := BBW.out.size; simp; omega) ?_; intro v8 w8 o8 g8 n8 at8; clear z0 z1 k0 k1 k2 k3 k4 k5; have P8 := Lib.hid (box_grown (box_on QO.out (bal2 W2 (.cells #[.int .i64 x.a, .int .i64 x.b, .int .i64 x.c, .int .i64 x.d, .int .i64 x.e] 29) (.cells #[.slice (some ⟨W2.heap.size, 0, none⟩) 1 1] 36))) g8 HNE.out); have P9 := Lib.hid (box_grown (box_on QR.out (bal2 W2 (.cells #[.int .i64 x.a, .int .i64 x.b, .int .i64 x.c, .int .i64 x.d, .int .i64 x.e] 29) (.cells #[.slice (some ⟨W2.heap.size, 0, none⟩) 1 1] 36))) g8 (row_ne HR0.out (by omega))); have G8 := Lib.hid g8; have O8 := Lib.hid o8; have AT8 := Lib.hid at8; obtain ⟨gv, cv, rfl⟩ := row_shape o8 (by omega); obtain ⟨z0, z1⟩ := box1N P8.out; obtain ⟨y0, y1⟩ := box1N P9.out; clear o8 g8 n8 at8 HRW)
  have hN := NOwn.app HR0.out HO0.out HNE.out (by omega) (by have := BBW.out.size; omega) O8.out G8.out AT8.out
  have hb8 : Below W.heap.size W w8 := (BBW.out.trans ((bal2 _ _ _).mono BBW.out.size)).grown G8.out (by have := BBW.out.size; simp; omega) (fun k e => (row_lt HR0.out k e).2)
  have P7 := Lib.hid (box_far (j := 0) (u := .slice (some ⟨gv, 0, none⟩) (ns.length + 1) cv) (box_grown (box_on QN.out (bal2 W2 (.cells #[.int .i64 x.a, .int .i64 x.b, .int .i64 x.c, .int .i64 x.d, .int .i64 x.e] 29) (.cells #[.slice (some ⟨W2.heap.size, 0, none⟩) 1 1] 36))) G8.out (row_ne HR0.out (by omega))) (show w.heap.size ≠ w1.heap.size by omega))
  have P6 := Lib.hid (box_far (j := 0) (u := .slice (some ⟨gv, 0, none⟩) (ns.length + 1) cv) (box_grown (box_on QK.out (bal2 W2 (.cells #[.int .i64 x.a, .int .i64 x.b, .int .i64 x.c, .int .i64 x.d, .int .i64 x.e] 29) (.cells #[.slice (some ⟨W2.heap.size, 0, none⟩) 1 1] 36))) G8.out (row_ne HR0.out (by omega))) (show w.heap.size + 1 ≠ w1.heap.size by omega))
  have P5 := Lib.hid (box_far (j := 0) (u := .slice (some ⟨gv, 0, none⟩) (ns.length + 1) cv) P9.out (show w.heap.size + 1 + 1 ≠ w1.heap.size by omega))
  have P4 := Lib.hid (box_set (i := 0) (u := .slice (some ⟨gv, 0, none⟩) (ns.length + 1) cv) P8.out)
  have OL := Lib.hid hN.owns
  have HB8 := Lib.hid (hb8.setCell (p := ⟨w1.heap.size, 0, none⟩) (show W.heap.size ≤ w1.heap.size by omega) (.slice (some ⟨gv, 0, none⟩) (ns.length + 1) cv))
  have hlc : (ns ++ [[x]]).length = ns.length + 1 := by simp
  rw [← hlc, HLay.out] at OL HB8 P4 P5 P6 P7
  rw [← hlc, HLay.out]
  clear hlc hN hb8 QN QK QR QO NO BBW P8 P9 G8 O8 AT8 HR0 HO0 HNE z0 z1 y0 y1 AT
  have QN := P7
  have QK := P6
  have QR := P5
  have QO := P4
  have BBW := HB8
  clear P7 P6 P5 P4 HB8
  generalize w8.setCell ⟨w1.heap.size, 0, none⟩ (.slice (some ⟨gv, 0, none⟩) LY.length cv) = W9 at *
  obtain ⟨z0, z1⟩ := box1N QO.out
  have hQV := BBW.out.size
  skip
  refine (specNodeOk_any _ LY _ OL.out.reads HSL.out).mono ?_
  rintro r w3a ⟨rfl, b3⟩
  rw [HR1.out]
  replace OL := Lib.hid (OL.out.on b3)
  replace QO := Lib.hid (box_on QO.out b3)
  replace QN := Lib.hid (box_on QN.out b3)
  replace QK := Lib.hid (box_on QK.out b3)
  replace QR := Lib.hid (box_on QR.out b3)
  replace BBW := Lib.hid (bstep BBW.out b3)
  have hb3 := b3.size
  clear b3 z0 z1
  cases R1
  ·have P2' := Lib.hid (P2.out rfl)
   have P3' := Lib.hid (P3.out rfl)
   clear P1 P2 P3 HR1 OL QO
   go_upto_region 11 with (fail)
   refine but_begin (f := 5) (S := fun V => Below w3a.heap.size w3a V) (by kernel_rfl) ?_
   refine but_take (f := 5) (i := 0) (v := ?vra0) rfl (by kernel_rfl) (by kernel_rfl) (by kernel_rfl) (by kernel_rfl) (by kernel_rfl) (fun _ _ _ h => h) (Or.inl ⟨(by rfl), ?hyra0⟩) (Below.drew1 _) ?restra0
   case hyra0 =>
    intro W hW
    obtain ⟨x0, x1⟩ := box1N (box_on QN.out hW)
    go_simp
    exact rfl
   simp only [List.getElem_toArray, List.getElem_cons_succ, List.getElem_cons_zero, Act.put, List.setIfInBounds_toArray, List.set_cons_zero, List.set_cons_succ]
   refine but_take (f := 5) (i := 2) (v := ?vra2) rfl (by kernel_rfl) (by kernel_rfl) (by kernel_rfl) (by kernel_rfl) (by kernel_rfl) (fun _ _ _ h => h) (Or.inl ⟨(by rfl), ?hyra2⟩) (Below.drew1 _) ?restra2
   case hyra2 =>
    intro W hW
    obtain ⟨k0, k1, k2, k3, k4, k5⟩ := box5 (box_on QK.out hW)
    go_simp
    exact rfl
   simp only [List.getElem_toArray, List.getElem_cons_succ, List.getElem_cons_zero, Act.put, List.setIfInBounds_toArray, List.set_cons_zero, List.set_cons_succ]
   refine but_run (i := 1) (by kernel_rfl) rfl (by rfl) ?_
   simp only [List.getElem_toArray, List.getElem_cons_succ, List.getElem_cons_zero]
   intro K HK
   go_wp2_with fail
   refine (specNodeKeys_any _ ns _ (HV.out.on (bstep BBW.out (Below.drew1 _))) h1 h2).mono ?_
   rintro r Vra1 ⟨v1, rfl, o1, hbra1⟩
   rw [HKL.out] at o1
   obtain ⟨A1, c1, rfl, _, _⟩ := o1.shape
   go_wp2_with fail
   have hSra1 : (fun V => Below w3a.heap.size w3a V) Vra1 := bstep (Below.drew1 _) hbra1
   refine HK.out _ _ (fun _ => hSra1) ?_
   clear HK
   have OC := Lib.hid o1
   clear o1
   refine but_run (i := 3) (by kernel_rfl) rfl (by rfl) ?_
   simp only [List.getElem_toArray, List.getElem_cons_succ, List.getElem_cons_zero]
   intro K HK
   go_wp2_with fail
   refine (HI.out _ KL x _ OC.out.owns.reads (by omega)).mono ?_
   rintro r Vra2 ⟨v3, rfl, o3, hbra2⟩
   rw [HPL.out] at o3
   obtain ⟨A3, c3, rfl, _, _⟩ := o3.shape
   go_wp2_with fail
   have hSra2 : (fun V => Below w3a.heap.size w3a V) Vra2 := bstep hSra1 hbra2
   refine HK.out _ _ (fun _ => hSra2) ?_
   clear HK
   replace OC := Lib.hid o3
   clear o3
   refine but_run (i := 4) (by kernel_rfl) rfl (by rfl) ?_
   simp only [List.getElem_toArray, List.getElem_cons_succ, List.getElem_cons_zero]
   intro K HK
   go_wp2_with fail
   refine (specDrop_any _ PL _ OC.out.owns.reads (by omega)).mono ?_
   rintro r Vra3 ⟨v4, rfl, o4, hbra3⟩
   rw [HDL.out] at o4
   obtain ⟨A4, c4, rfl, _, _⟩ := o4.shape
   go_wp2_with fail
   have hSra3 : (fun V => Below w3a.heap.size w3a V) Vra3 := bstep hSra2 hbra3
   refine HK.out _ _ (fun _ => hSra3) ?_
   clear HK
   replace OC := Lib.hid o4
   clear o4
   refine but_run (i := 5) (by kernel_rfl) rfl (by rfl) ?_
   simp only [List.getElem_toArray, List.getElem_cons_succ, List.getElem_cons_zero]
   intro K HK
   go_wp2_with fail
   refine HK.out _ _ (fun h => absurd rfl h) ?_
   clear HK
   refine but_done (by kernel_rfl) ?_
   skip
   have OD := Lib.hid OC.out.owns
   replace QN := Lib.hid (box_on QN.out hSra3)
   replace QR := Lib.hid (box_on QR.out hSra3)
   replace BBW := Lib.hid (bstep BBW.out hSra3)
   clear OC QK
   by_cases h8 : 8 < DL.length
   ·have d8 : decide ((8 : Int) < (DL.length : Int)) = true := decide_eq_true (by omega)
    have hP := P3'.out (HLONG.out h8)
    have HP := Lib.hid hP
    clear hP P2' P3' HR2 HLONG h8
    obtain ⟨x0, x1⟩ := box1N QN.out
    go_wp2_with fail
    refine (l5Copy_any _ ns _ (HV.out.on BBW.out) HS.out).mono ?_
    rintro r w6 ⟨v6, rfl, o6, b6⟩
    obtain ⟨A6, c6, rfl, _, _⟩ := o6.reads.lenN
    have hb6 := BBW.out.size
    have O6 := Lib.hid o6
    have B6 := Lib.hid (bstep (bstep HB.out BBW.out) b6)
    clear x0 x1
    obtain ⟨y0, y1⟩ := box1N (box_on QR.out b6)
    clear o6 b6
    go_wp2
    refine bodyPost_ret (v := .tuple #[.agg #[.slice A6 ns.length c6], .bool false]) (by simp [results, Tryz.results40, go_sem, y0, y1]) rfl ⟨_, by rw [HP.out.2], ?_, ?_⟩
    ·rw [HP.out.1]
     exact (O6.out.setFar (by omega)).mono (fun b hb => by omega)
    ·exact B6.out.setCell (p := ⟨w.heap.size + 1 + 1, 0, none⟩) (show w.heap.size ≤ w.heap.size + 1 + 1 by omega) _
   ·have d8 : decide ((8 : Int) < (DL.length : Int)) = false := decide_eq_false (by omega)
    clear h8 HLONG
    go_wp2_with fail
    refine (specNodeNew_any _ DL _ OD.out.reads (by omega)).mono ?_
    rintro r w5 ⟨v5, rfl, o5, b5⟩
    rw [HNQ.out] at o5
    obtain ⟨A5, c5, rfl, _, _⟩ := o5.reads.lenN
    replace QN := Lib.hid (box_on QN.out b5)
    replace QR := Lib.hid (box_on QR.out b5)
    replace OD := Lib.hid (OD.out.on b5)
    replace BBW := Lib.hid (bstep BBW.out b5)
    have O5 := Lib.hid o5
    clear o5 b5
    go_wp2_with fail
    refine (specNodeOk_any _ NQ _ O5.out.reads HSQ.out).mono ?_
    rintro r w7 ⟨rfl, b7⟩
    rw [HR2.out]
    replace QN := Lib.hid (box_on QN.out b7)
    replace QR := Lib.hid (box_on QR.out b7)
    replace OD := Lib.hid (OD.out.on b7)
    replace BBW := Lib.hid (bstep BBW.out b7)
    clear b7 O5 d8
    cases R2
    ·have hP := P3'.out rfl
     have HP := Lib.hid hP
     clear hP P2' P3' HR2
     obtain ⟨x0, x1⟩ := box1N QN.out
     go_wp2_with fail
     refine (l5Copy_any _ ns _ (HV.out.on BBW.out) HS.out).mono ?_
     rintro r w6 ⟨v6, rfl, o6, b6⟩
     obtain ⟨A6, c6, rfl, _, _⟩ := o6.reads.lenN
     have hb6 := BBW.out.size
     have O6 := Lib.hid o6
     have B6 := Lib.hid (bstep (bstep HB.out BBW.out) b6)
     clear x0 x1
     obtain ⟨y0, y1⟩ := box1N (box_on QR.out b6)
     clear o6 b6
     go_wp2
     refine bodyPost_ret (v := .tuple #[.agg #[.slice A6 ns.length c6], .bool false]) (by simp [results, Tryz.results40, go_sem, y0, y1]) rfl ⟨_, by rw [HP.out.2], ?_, ?_⟩
     ·rw [HP.out.1]
      exact (O6.out.setFar (by omega)).mono (fun b hb => by omega)
     ·exact B6.out.setCell (p := ⟨w.heap.size + 1 + 1, 0, none⟩) (show w.heap.size ≤ w.heap.size + 1 + 1 by omega) _
    ·have hP := P2'.out rfl
     have HP := Lib.hid hP
     clear hP P2' P3' HR2
     go_wp2_with fail
     refine (specNodeNew_any _ DL _ OD.out.reads (by omega)).mono ?_
     rintro r w8 ⟨v8, rfl, o8, b8⟩
     rw [HNQ.out] at o8
     obtain ⟨A8, c8, rfl, _, _⟩ := o8.reads.lenN
     have hb6 := BBW.out.size
     have O6 := Lib.hid o8
     have B6 := Lib.hid (bstep (bstep HB.out BBW.out) b8)
     obtain ⟨y0, y1⟩ := box1N (box_on QR.out b8)
     clear o8 b8
     go_wp2
     refine bodyPost_ret (v := .tuple #[.agg #[.slice A8 NQ.length c8], .bool true]) (by simp [results, Tryz.results40, go_sem, y0, y1]) rfl ⟨_, by rw [HP.out.2], ?_, ?_⟩
     ·rw [HP.out.1]
      exact (O6.out.setFar (by omega)).mono (fun b hb => by omega)
     ·exact B6.out.setCell (p := ⟨w.heap.size + 1 + 1, 0, none⟩) (show w.heap.size ≤ w.heap.size + 1 + 1 by omega) _
  ·have hP := P1.out rfl
   have HP := Lib.hid hP
   clear hP P1 P2 P3 HR1
   obtain ⟨z0, z1⟩ := box1N QO.out
   obtain ⟨y0, y1⟩ := box1N QR.out
   have B6 := Lib.hid (bstep HB.out BBW.out)
   go_wp2
   refine bodyPost_ret (v := .tuple #[.agg #[.slice (some ⟨gv, 0, none⟩) LY.length cv], .bool true]) (by simp [results, Tryz.results40, go_sem, y0, y1]) rfl ⟨_, by rw [HP.out.2], ?_, ?_⟩
   ·rw [HP.out.1]
    exact (OL.out.setFar (fun h => by have := h.1; omega)).mono (fun b hb => by have := hb.1; omega)
   ·exact B6.out.setCell (p := ⟨w.heap.size + 1 + 1, 0, none⟩) (show w.heap.size ≤ w.heap.size + 1 + 1 by omega) _
 ·obtain ⟨L, hL⟩ : ∃ L, ns.length = L + 1 := ⟨ns.length - 1, by omega⟩
  have hlt : L < ns.length := by omega
  have i3 : IntKind.i64.wrap ((ns.length : Int) - 1) = (L : Int) := by rw [IntKind.wrap_i64]; omega
  have i1 : (L : Int) < (ns.length : Int) := by omega
  have i2 : (0 : Int) ≤ (L : Int) := by omega
  have t0 : decide ((0 : Int) ≤ (L : Int)) = true := decide_eq_true i2
  have e1 : ns.length - 1 = L := by omega
  obtain ⟨Y, hY⟩ : ∃ Y, (atK ns[L] x.a x.b).isSome = Y := ⟨_, rfl⟩
  have HY := Lib.hid hY
  have HLay : Hid ((if Y || decide (ns[L].length < 4) then ns.set L (putK ns[L] x) else ns ++ [[x]]) = LY) := Lib.hid (by
   rw [← HLY.out]
   unfold layerK
   rw [dif_pos (by omega)]
   simp only [e1, takesB, hY])
  have hll := HS.out.at hlt
  clear h0 hL hY e1
  obtain ⟨g, cap, A2, c2, hu, hbg, hgo, hgl, c1, fz, r1⟩ := NO.out.elem hlt
  cases hu
  have C1 := Lib.hid c1
  have R1' := Lib.hid r1
  clear c1 fz r1
  go_upto_region 5 with (fail)
  refine but_begin (f := 13) (S := fun V => Below W2.heap.size W2 V) (by kernel_rfl) ?_
  refine but_take (f := 13) (i := 0) (v := ?vf0) rfl (by kernel_rfl) (by kernel_rfl) (by kernel_rfl) (by kernel_rfl) (by kernel_rfl) (fun _ _ _ h => h) (Or.inl ⟨(by rfl), ?hyf0⟩) (Below.drew1 _) ?restf0
  case hyf0 =>
   intro W hW
   go_simp
   exact rfl
  simp only [List.getElem_toArray, List.getElem_cons_succ, List.getElem_cons_zero, Act.put, List.setIfInBounds_toArray, List.set_cons_zero, List.set_cons_succ]
  refine but_take (f := 13) (i := 1) (v := ?vf1) rfl (by kernel_rfl) (by kernel_rfl) (by kernel_rfl) (by kernel_rfl) (by kernel_rfl) (fun _ _ _ h => h) (Or.inl ⟨(by rfl), ?hyf1⟩) (Below.drew1 _) ?restf1
  case hyf1 =>
   intro W hW
   obtain ⟨z0, z1⟩ := box1N (box_on QO.out hW)
   go_simp
   exact rfl
  simp only [List.getElem_toArray, List.getElem_cons_succ, List.getElem_cons_zero, Act.put, List.setIfInBounds_toArray, List.set_cons_zero, List.set_cons_succ]
  refine but_take (f := 13) (i := 2) (v := ?vf2) rfl (by kernel_rfl) (by kernel_rfl) (by kernel_rfl) (by kernel_rfl) (by kernel_rfl) (fun _ _ _ h => h) (Or.inl ⟨(by rfl), ?hyf2⟩) (Below.drew1 _) ?restf2
  case hyf2 =>
   intro W hW
   go_simp
   exact rfl
  simp only [List.getElem_toArray, List.getElem_cons_succ, List.getElem_cons_zero, Act.put, List.setIfInBounds_toArray, List.set_cons_zero, List.set_cons_succ]
  refine but_take (f := 13) (i := 3) (v := ?vf3) rfl (by kernel_rfl) (by kernel_rfl) (by kernel_rfl) (by kernel_rfl) (by kernel_rfl) (fun _ _ _ h => h) (Or.inl ⟨(by rfl), ?hyf3⟩) (Below.drew1 _) ?restf3
  case hyf3 =>
   intro W hW
   go_simp
   exact rfl
  simp only [List.getElem_toArray, List.getElem_cons_succ, List.getElem_cons_zero, Act.put, List.setIfInBounds_toArray, List.set_cons_zero, List.set_cons_succ]
  refine but_take (f := 13) (i := 4) (v := ?vf4) rfl (by kernel_rfl) (by kernel_rfl) (by kernel_rfl) (by kernel_rfl) (by kernel_rfl) (fun _ _ _ h => h) (Or.inl ⟨(by rfl), ?hyf4⟩) (Below.drew1 _) ?restf4
  case hyf4 =>
   intro W hW
   have hcc := (hW.cell (p := ⟨g, L, none⟩) hgl).trans C1.out
   go_simp
   exact rfl
  simp only [List.getElem_toArray, List.getElem_cons_succ, List.getElem_cons_zero, Act.put, List.setIfInBounds_toArray, List.set_cons_zero, List.set_cons_succ]
  refine but_take (f := 13) (i := 5) (v := ?vf5) rfl (by kernel_rfl) (by kernel_rfl) (by kernel_rfl) (by kernel_rfl) (by kernel_rfl) (fun _ _ _ h => h) (Or.inl ⟨(by rfl), ?hyf5⟩) (Below.drew1 _) ?restf5
  case hyf5 =>
   intro W hW
   go_simp
   exact rfl
  simp only [List.getElem_toArray, List.getElem_cons_succ, List.getElem_cons_zero, Act.put, List.setIfInBounds_toArray, List.set_cons_zero, List.set_cons_succ]
  refine but_take (f := 13) (i := 6) (v := ?vf6) rfl (by kernel_rfl) (by kernel_rfl) (by kernel_rfl) (by kernel_rfl) (by kernel_rfl) (fun _ _ _ h => h) (Or.inl ⟨(by rfl), ?hyf6⟩) (Below.drew1 _) ?restf6
  case hyf6 =>
   intro W hW
   obtain ⟨k0, k1, k2, k3, k4, k5⟩ := box5 (box_on QK.out hW)
   go_simp
   exact rfl
  simp only [List.getElem_toArray, List.getElem_cons_succ, List.getElem_cons_zero, Act.put, List.setIfInBounds_toArray, List.set_cons_zero, List.set_cons_succ]
  refine but_take (f := 13) (i := 7) (v := ?vf7) rfl (by kernel_rfl) (by kernel_rfl) (by kernel_rfl) (by kernel_rfl) (by kernel_rfl) (fun _ _ _ h => h) (Or.inl ⟨(by rfl), ?hyf7⟩) (Below.drew1 _) ?restf7
  case hyf7 =>
   intro W hW
   go_simp
   exact rfl
  simp only [List.getElem_toArray, List.getElem_cons_succ, List.getElem_cons_zero, Act.put, List.setIfInBounds_toArray, List.set_cons_zero, List.set_cons_succ]
  refine but_take (f := 13) (i := 8) (v := ?vf8) rfl (by kernel_rfl) (by kernel_rfl) (by kernel_rfl) (by kernel_rfl) (by kernel_rfl) (fun _ _ _ h => h) (Or.inl ⟨(by rfl), ?hyf8⟩) (Below.drew1 _) ?restf8
  case hyf8 =>
   intro W hW
   obtain ⟨k0, k1, k2, k3, k4, k5⟩ := box5 (box_on QK.out hW)
   go_simp
   exact rfl
  simp only [List.getElem_toArray, List.getElem_cons_succ, List.getElem_cons_zero, Act.put, List.setIfInBounds_toArray, List.set_cons_zero, List.set_cons_succ]
  refine but_run (i := 9) (by kernel_rfl) rfl (by rfl) ?_
  simp only [List.getElem_toArray, List.getElem_cons_succ, List.getElem_cons_zero]
  intro K HK
  go_wp2_with fail
  refine (HA.out _ ns[L] x.a x.b _ (R1'.out.on (Below.drew1 _)) (by omega)).mono ?_
  rintro r Vf1 ⟨rfl, hbf1⟩
  rw [HY.out]
  generalize (atK ns[L] x.a x.b).getD zK = zz
  go_wp2_with fail
  have hSf1 : (fun V => Below W2.heap.size W2 V) Vf1 := bstep (Below.drew1 _) hbf1
  refine HK.out _ _ (fun _ => hSf1) ?_
  clear HK
  refine but_take (f := 13) (i := 10) (v := ?vf10) rfl (by kernel_rfl) (by kernel_rfl) (by kernel_rfl) (by kernel_rfl) (by kernel_rfl) (fun _ _ _ h => h) (Or.inl ⟨(by rfl), ?hyf10⟩) hSf1 ?restf10
  case hyf10 =>
   intro W hW
   go_simp
   exact rfl
  simp only [List.getElem_toArray, List.getElem_cons_succ, List.getElem_cons_zero, Act.put, List.setIfInBounds_toArray, List.set_cons_zero, List.set_cons_succ]
  refine but_take (f := 13) (i := 11) (v := ?vf11) rfl (by kernel_rfl) (by kernel_rfl) (by kernel_rfl) (by kernel_rfl) (by kernel_rfl) (fun _ _ _ h => h) (Or.inl ⟨(by rfl), ?hyf11⟩) hSf1 ?restf11
  case hyf11 =>
   intro W hW
   go_simp
   exact rfl
  simp only [List.getElem_toArray, List.getElem_cons_succ, List.getElem_cons_zero, Act.put, List.setIfInBounds_toArray, List.set_cons_zero, List.set_cons_succ]
  refine but_take (f := 13) (i := 12) (v := ?vf12) rfl (by kernel_rfl) (by kernel_rfl) (by kernel_rfl) (by kernel_rfl) (by kernel_rfl) (fun _ _ _ h => h) (Or.inl ⟨(by rfl), ?hyf12⟩) hSf1 ?restf12
  case hyf12 =>
   intro W hW
   go_simp
   exact rfl
  simp only [List.getElem_toArray, List.getElem_cons_succ, List.getElem_cons_zero, Act.put, List.setIfInBounds_toArray, List.set_cons_zero, List.set_cons_succ]
  refine but_run (i := 13) (by kernel_rfl) rfl (by rfl) ?_
  simp only [List.getElem_toArray, List.getElem_cons_succ, List.getElem_cons_zero]
  intro K HK
  go_wp2_with fail
  refine HK.out _ _ (fun h => absurd rfl h) ?_
  clear HK
  refine but_done (by kernel_rfl) ?_
  clear z0 z1 HA
  replace QN := Lib.hid (box_on QN.out hSf1)
  replace QK := Lib.hid (box_on QK.out hSf1)
  replace QR := Lib.hid (box_on QR.out hSf1)
  replace QO := Lib.hid (box_on QO.out hSf1)
  replace NO := Lib.hid (NO.out.on hSf1)
  replace BBW := Lib.hid (bstep BBW.out hSf1)
  have hzV1 := hSf1.size
  have hgl1 : g < Vf1.heap.size := Nat.lt_of_lt_of_le hgl hSf1.size
  replace C1 := Lib.hid ((hSf1.cell (p := ⟨g, L, none⟩) hgl).trans C1.out)
  replace R1' := Lib.hid (R1'.out.on hSf1)
  clear hSf1 hbf1 hgl
  have hgl := hgl1
  clear hgl1
  obtain ⟨z0, z1⟩ := box1N QO.out
  have c1 := C1.out
  obtain ⟨D, hD⟩ : ∃ D, decide ((ns[L].length : Int) < 4) = D := ⟨_, rfl⟩
  have hD2 : decide (ns[L].length < 4) = D := by rw [← hD]; congr 1; simp; omega
  rw [hD2] at HLay
  clear hD2
  obtain ⟨T, hT⟩ : ∃ T, (Y || D) = T := ⟨_, rfl⟩
  rw [hT] at HLay
  have HT := Lib.hid hT
  clear hT
  cases T
  ·have hy0 : Y = false := by have := HT.out; cases Y <;> simp_all
   have hd0 : D = false := by have := HT.out; cases D <;> simp_all
   subst hy0 hd0
   replace HLay := Lib.hid (show ns ++ [[x]] = LY from HLay.out)
   go_upto_region 8 with (fail)
   clear z0 z1 c1 hD HT
   obtain ⟨xs, hr, ho, hne⟩ := NO.out
   obtain ⟨k0, k1, k2, k3, k4, k5⟩ := box5 QK.out
   obtain ⟨z0, z1⟩ := box1N QO.out
   have AT := Lib.hid (At.lit1n (Vf1.alloc (.cells #[.int .i64 x.a, .int .i64 x.b, .int .i64 x.c, .int .i64 x.d, .int .i64 x.e] 29)) (.slice (some ⟨Vf1.heap.size, 0, none⟩) 1 1) 36 (n := Vf1.heap.size + 1) (by simp))
   have HRW := Lib.hid (row_on hr (bal2 Vf1 (.cells #[.int .i64 x.a, .int .i64 x.b, .int .i64 x.c, .int .i64 x.d, .int .i64 x.e] 29) (.cells #[.slice (some ⟨Vf1.heap.size, 0, none⟩) 1 1] 36)))
   have HR0 := Lib.hid hr
   have HO0 := Lib.hid ho
   have HNE := Lib.hid hne
   clear hr ho hne
   go_wp2_with (at_builtin; refine wpList_appV _ rfl (.tmp 57) (.tmp 60) 60 36 1 24 (.slice none 0 0) rfl Tryz.underlying60 (by kernel_rfl) rfl (by omega) (by omega) W.heap.size ns.length _ xs rfl HRW.out (some ⟨Vf1.heap.size + 1, 0, none⟩) 1 1 [.slice (some ⟨Vf1.heap.size, 0, none⟩) 1 1] rfl rfl AT.out (by simp [Value.oneCell']) (by first | omega | (simp; done)) (by have := BBW.out.size; simp; omega) ?_; intro v8 w8 o8 g8 n8 at8; clear z0 z1 k0 k1 k2 k3 k4 k5; have P8 := Lib.hid (box_grown (box_on QO.out (bal2 Vf1 (.cells #[.int .i64 x.a, .int .i64 x.b, .int .i64 x.c, .int .i64 x.d, .int .i64 x.e] 29) (.cells #[.slice (some ⟨Vf1.heap.size, 0, none⟩) 1 1] 36))) g8 HNE.out); have P9 := Lib.hid (box_grown (box_on QR.out (bal2 Vf1 (.cells #[.int .i64 x.a, .int .i64 x.b, .int .i64 x.c, .int .i64 x.d, .int .i64 x.e] 29) (.cells #[.slice (some ⟨Vf1.heap.size, 0, none⟩) 1 1] 36))) g8 (row_ne HR0.out (by omega))); have G8 := Lib.hid g8; have O8 := Lib.hid o8; have AT8 := Lib.hid at8; obtain ⟨gv, cv, rfl⟩ := row_shape o8 (by omega); obtain ⟨z0, z1⟩ := box1N P8.out; obtain ⟨y0, y1⟩ := box1N P9.out; clear o8 g8 n8 at8 HRW)
   have hN := NOwn.app HR0.out HO0.out HNE.out (by omega) (by have := BBW.out.size; omega) O8.out G8.out AT8.out
   have hb8 : Below W.heap.size W w8 := (BBW.out.trans ((bal2 _ _ _).mono BBW.out.size)).grown G8.out (by have := BBW.out.size; simp; omega) (fun k e => (row_lt HR0.out k e).2)
   have P7 := Lib.hid (box_far (j := 0) (u := .slice (some ⟨gv, 0, none⟩) (ns.length + 1) cv) (box_grown (box_on QN.out (bal2 Vf1 (.cells #[.int .i64 x.a, .int .i64 x.b, .int .i64 x.c, .int .i64 x.d, .int .i64 x.e] 29) (.cells #[.slice (some ⟨Vf1.heap.size, 0, none⟩) 1 1] 36))) G8.out (row_ne HR0.out (by omega))) (show w.heap.size ≠ w1.heap.size by omega))
   have P6 := Lib.hid (box_far (j := 0) (u := .slice (some ⟨gv, 0, none⟩) (ns.length + 1) cv) (box_grown (box_on QK.out (bal2 Vf1 (.cells #[.int .i64 x.a, .int .i64 x.b, .int .i64 x.c, .int .i64 x.d, .int .i64 x.e] 29) (.cells #[.slice (some ⟨Vf1.heap.size, 0, none⟩) 1 1] 36))) G8.out (row_ne HR0.out (by omega))) (show w.heap.size + 1 ≠ w1.heap.size by omega))
   have P5 := Lib.hid (box_far (j := 0) (u := .slice (some ⟨gv, 0, none⟩) (ns.length + 1) cv) P9.out (show w.heap.size + 1 + 1 ≠ w1.heap.size by omega))
   have P4 := Lib.hid (box_set (i := 0) (u := .slice (some ⟨gv, 0, none⟩) (ns.length + 1) cv) P8.out)
   have OL := Lib.hid hN.owns
   have HB8 := Lib.hid (hb8.setCell (p := ⟨w1.heap.size, 0, none⟩) (show W.heap.size ≤ w1.heap.size by omega) (.slice (some ⟨gv, 0, none⟩) (ns.length + 1) cv))
   have hlc : (ns ++ [[x]]).length = ns.length + 1 := by simp
   rw [← hlc, HLay.out] at OL HB8 P4 P5 P6 P7
   rw [← hlc, HLay.out]
   clear hlc hN hb8 QN QK QR QO NO BBW P8 P9 G8 O8 AT8 HR0 HO0 HNE z0 z1 y0 y1 AT
   have QN := P7
   have QK := P6
   have QR := P5
   have QO := P4
   have BBW := HB8
   clear P7 P6 P5 P4 HB8
   generalize w8.setCell ⟨w1.heap.size, 0, none⟩ (.slice (some ⟨gv, 0, none⟩) LY.length cv) = W9 at *
   obtain ⟨z0, z1⟩ := box1N QO.out
   have hQV := BBW.out.size
   skip
   refine (specNodeOk_any _ LY _ OL.out.reads HSL.out).mono ?_
   rintro r w3b ⟨rfl, b3⟩
   rw [HR1.out]
   replace OL := Lib.hid (OL.out.on b3)
   replace QO := Lib.hid (box_on QO.out b3)
   replace QN := Lib.hid (box_on QN.out b3)
   replace QK := Lib.hid (box_on QK.out b3)
   replace QR := Lib.hid (box_on QR.out b3)
   replace BBW := Lib.hid (bstep BBW.out b3)
   have hb3 := b3.size
   clear b3 z0 z1
   cases R1
   ·have P2' := Lib.hid (P2.out rfl)
    have P3' := Lib.hid (P3.out rfl)
    clear P1 P2 P3 HR1 OL QO
    go_upto_region 11 with (fail)
    refine but_begin (f := 5) (S := fun V => Below w3b.heap.size w3b V) (by kernel_rfl) ?_
    refine but_take (f := 5) (i := 0) (v := ?vrb0) rfl (by kernel_rfl) (by kernel_rfl) (by kernel_rfl) (by kernel_rfl) (by kernel_rfl) (fun _ _ _ h => h) (Or.inl ⟨(by rfl), ?hyrb0⟩) (Below.drew1 _) ?restrb0
    case hyrb0 =>
     intro W hW
     obtain ⟨x0, x1⟩ := box1N (box_on QN.out hW)
     go_simp
     exact rfl
    simp only [List.getElem_toArray, List.getElem_cons_succ, List.getElem_cons_zero, Act.put, List.setIfInBounds_toArray, List.set_cons_zero, List.set_cons_succ]
    refine but_take (f := 5) (i := 2) (v := ?vrb2) rfl (by kernel_rfl) (by kernel_rfl) (by kernel_rfl) (by kernel_rfl) (by kernel_rfl) (fun _ _ _ h => h) (Or.inl ⟨(by rfl), ?hyrb2⟩) (Below.drew1 _) ?restrb2
    case hyrb2 =>
     intro W hW
     obtain ⟨k0, k1, k2, k3, k4, k5⟩ := box5 (box_on QK.out hW)
     go_simp
     exact rfl
    simp only [List.getElem_toArray, List.getElem_cons_succ, List.getElem_cons_zero, Act.put, List.setIfInBounds_toArray, List.set_cons_zero, List.set_cons_succ]
    refine but_run (i := 1) (by kernel_rfl) rfl (by rfl) ?_
    simp only [List.getElem_toArray, List.getElem_cons_succ, List.getElem_cons_zero]
    intro K HK
    go_wp2_with fail
    refine (specNodeKeys_any _ ns _ (HV.out.on (bstep BBW.out (Below.drew1 _))) h1 h2).mono ?_
    rintro r Vrb1 ⟨v1, rfl, o1, hbrb1⟩
    rw [HKL.out] at o1
    obtain ⟨A1, c1, rfl, _, _⟩ := o1.shape
    go_wp2_with fail
    have hSrb1 : (fun V => Below w3b.heap.size w3b V) Vrb1 := bstep (Below.drew1 _) hbrb1
    refine HK.out _ _ (fun _ => hSrb1) ?_
    clear HK
    have OC := Lib.hid o1
    clear o1
    refine but_run (i := 3) (by kernel_rfl) rfl (by rfl) ?_
    simp only [List.getElem_toArray, List.getElem_cons_succ, List.getElem_cons_zero]
    intro K HK
    go_wp2_with fail
    refine (HI.out _ KL x _ OC.out.owns.reads (by omega)).mono ?_
    rintro r Vrb2 ⟨v3, rfl, o3, hbrb2⟩
    rw [HPL.out] at o3
    obtain ⟨A3, c3, rfl, _, _⟩ := o3.shape
    go_wp2_with fail
    have hSrb2 : (fun V => Below w3b.heap.size w3b V) Vrb2 := bstep hSrb1 hbrb2
    refine HK.out _ _ (fun _ => hSrb2) ?_
    clear HK
    replace OC := Lib.hid o3
    clear o3
    refine but_run (i := 4) (by kernel_rfl) rfl (by rfl) ?_
    simp only [List.getElem_toArray, List.getElem_cons_succ, List.getElem_cons_zero]
    intro K HK
    go_wp2_with fail
    refine (specDrop_any _ PL _ OC.out.owns.reads (by omega)).mono ?_
    rintro r Vrb3 ⟨v4, rfl, o4, hbrb3⟩
    rw [HDL.out] at o4
    obtain ⟨A4, c4, rfl, _, _⟩ := o4.shape
    go_wp2_with fail
    have hSrb3 : (fun V => Below w3b.heap.size w3b V) Vrb3 := bstep hSrb2 hbrb3
    refine HK.out _ _ (fun _ => hSrb3) ?_
    clear HK
    replace OC := Lib.hid o4
    clear o4
    refine but_run (i := 5) (by kernel_rfl) rfl (by rfl) ?_
    simp only [List.getElem_toArray, List.getElem_cons_succ, List.getElem_cons_zero]
    intro K HK
    go_wp2_with fail
    refine HK.out _ _ (fun h => absurd rfl h) ?_
    clear HK
    refine but_done (by kernel_rfl) ?_
    skip
    have OD := Lib.hid OC.out.owns
    replace QN := Lib.hid (box_on QN.out hSrb3)
    replace QR := Lib.hid (box_on QR.out hSrb3)
    replace BBW := Lib.hid (bstep BBW.out hSrb3)
    clear OC QK
    by_cases h8 : 8 < DL.length
    ·have d8 : decide ((8 : Int) < (DL.length : Int)) = true := decide_eq_true (by omega)
     have hP := P3'.out (HLONG.out h8)
     have HP := Lib.hid hP
     clear hP P2' P3' HR2 HLONG h8
     obtain ⟨x0, x1⟩ := box1N QN.out
     go_wp2_with fail
     refine (l5Copy_any _ ns _ (HV.out.on BBW.out) HS.out).mono ?_
     rintro r w6 ⟨v6, rfl, o6, b6⟩
     obtain ⟨A6, c6, rfl, _, _⟩ := o6.reads.lenN
     have hb6 := BBW.out.size
     have O6 := Lib.hid o6
     have B6 := Lib.hid (bstep (bstep HB.out BBW.out) b6)
     clear x0 x1
     obtain ⟨y0, y1⟩ := box1N (box_on QR.out b6)
     clear o6 b6
     go_wp2
     refine bodyPost_ret (v := .tuple #[.agg #[.slice A6 ns.length c6], .bool false]) (by simp [results, Tryz.results40, go_sem, y0, y1]) rfl ⟨_, by rw [HP.out.2], ?_, ?_⟩
     ·rw [HP.out.1]
      exact (O6.out.setFar (by omega)).mono (fun b hb => by omega)
     ·exact B6.out.setCell (p := ⟨w.heap.size + 1 + 1, 0, none⟩) (show w.heap.size ≤ w.heap.size + 1 + 1 by omega) _
    ·have d8 : decide ((8 : Int) < (DL.length : Int)) = false := decide_eq_false (by omega)
     clear h8 HLONG
     go_wp2_with fail
     refine (specNodeNew_any _ DL _ OD.out.reads (by omega)).mono ?_
     rintro r w5 ⟨v5, rfl, o5, b5⟩
     rw [HNQ.out] at o5
     obtain ⟨A5, c5, rfl, _, _⟩ := o5.reads.lenN
     replace QN := Lib.hid (box_on QN.out b5)
     replace QR := Lib.hid (box_on QR.out b5)
     replace OD := Lib.hid (OD.out.on b5)
     replace BBW := Lib.hid (bstep BBW.out b5)
     have O5 := Lib.hid o5
     clear o5 b5
     go_wp2_with fail
     refine (specNodeOk_any _ NQ _ O5.out.reads HSQ.out).mono ?_
     rintro r w7 ⟨rfl, b7⟩
     rw [HR2.out]
     replace QN := Lib.hid (box_on QN.out b7)
     replace QR := Lib.hid (box_on QR.out b7)
     replace OD := Lib.hid (OD.out.on b7)
     replace BBW := Lib.hid (bstep BBW.out b7)
     clear b7 O5 d8
     cases R2
     ·have hP := P3'.out rfl
      have HP := Lib.hid hP
      clear hP P2' P3' HR2
      obtain ⟨x0, x1⟩ := box1N QN.out
      go_wp2_with fail
      refine (l5Copy_any _ ns _ (HV.out.on BBW.out) HS.out).mono ?_
      rintro r w6 ⟨v6, rfl, o6, b6⟩
      obtain ⟨A6, c6, rfl, _, _⟩ := o6.reads.lenN
      have hb6 := BBW.out.size
      have O6 := Lib.hid o6
      have B6 := Lib.hid (bstep (bstep HB.out BBW.out) b6)
      clear x0 x1
      obtain ⟨y0, y1⟩ := box1N (box_on QR.out b6)
      clear o6 b6
      go_wp2
      refine bodyPost_ret (v := .tuple #[.agg #[.slice A6 ns.length c6], .bool false]) (by simp [results, Tryz.results40, go_sem, y0, y1]) rfl ⟨_, by rw [HP.out.2], ?_, ?_⟩
      ·rw [HP.out.1]
       exact (O6.out.setFar (by omega)).mono (fun b hb => by omega)
      ·exact B6.out.setCell (p := ⟨w.heap.size + 1 + 1, 0, none⟩) (show w.heap.size ≤ w.heap.size + 1 + 1 by omega) _
     ·have hP := P2'.out rfl
      have HP := Lib.hid hP
      clear hP P2' P3' HR2
      go_wp2_with fail
      refine (specNodeNew_any _ DL _ OD.out.reads (by omega)).mono ?_
      rintro r w8 ⟨v8, rfl, o8, b8⟩
      rw [HNQ.out] at o8
      obtain ⟨A8, c8, rfl, _, _⟩ := o8.reads.lenN
      have hb6 := BBW.out.size
      have O6 := Lib.hid o8
      have B6 := Lib.hid (bstep (bstep HB.out BBW.out) b8)
      obtain ⟨y0, y1⟩ := box1N (box_on QR.out b8)
      clear o8 b8
      go_wp2
      refine bodyPost_ret (v := .tuple #[.agg #[.slice A8 NQ.length c8], .bool true]) (by simp [results, Tryz.results40, go_sem, y0, y1]) rfl ⟨_, by rw [HP.out.2], ?_, ?_⟩
      ·rw [HP.out.1]
       exact (O6.out.setFar (by omega)).mono (fun b hb => by omega)
      ·exact B6.out.setCell (p := ⟨w.heap.size + 1 + 1, 0, none⟩) (show w.heap.size ≤ w.heap.size + 1 + 1 by omega) _
   ·have hP := P1.out rfl
    have HP := Lib.hid hP
    clear hP P1 P2 P3 HR1
    obtain ⟨z0, z1⟩ := box1N QO.out
    obtain ⟨y0, y1⟩ := box1N QR.out
    have B6 := Lib.hid (bstep HB.out BBW.out)
    go_wp2
    refine bodyPost_ret (v := .tuple #[.agg #[.slice (some ⟨gv, 0, none⟩) LY.length cv], .bool true]) (by simp [results, Tryz.results40, go_sem, y0, y1]) rfl ⟨_, by rw [HP.out.2], ?_, ?_⟩
    ·rw [HP.out.1]
     exact (OL.out.setFar (fun h => by have := h.1; omega)).mono (fun b hb => by have := hb.1; omega)
    ·exact B6.out.setCell (p := ⟨w.heap.size + 1 + 1, 0, none⟩) (show w.heap.size ≤ w.heap.size + 1 + 1 by omega) _
  ·replace HLay := Lib.hid (show ns.set L (putK ns[L] x) = LY from HLay.out)
   have hyd : D = true ∨ (D = false ∧ Y = true) := by have := HT.out; cases D <;> simp_all
   have hcut2 : Hid True := Lib.hid trivial
   go_upto_region 6 with (fail)
   go_cut [44] (fun s44 wx => s44 = .bool true ∧ Vf1 = wx)
   case first =>
    rcases hyd with rfl | ⟨rfl, rfl⟩
    all_goals
     go_wp2_with fail
     go_meet
     exact ⟨rfl, rfl⟩
   case rest =>
    obtain ⟨rfl, rfl⟩ := hcut
    clear z0 z1 c1 hD HT hyd hcut2
    go_upto_region 7 with (fail)
    refine but_begin (f := 11) (S := fun V => Below Vf1.heap.size Vf1 V) (by kernel_rfl) ?_
    refine but_take (f := 11) (i := 0) (v := ?vh0) rfl (by kernel_rfl) (by kernel_rfl) (by kernel_rfl) (by kernel_rfl) (by kernel_rfl) (fun _ _ _ h => h) (Or.inl ⟨(by rfl), ?hyh0⟩) (Below.drew1 _) ?resth0
    case hyh0 =>
     intro W hW
     go_simp
     exact rfl
    simp only [List.getElem_toArray, List.getElem_cons_succ, List.getElem_cons_zero, Act.put, List.setIfInBounds_toArray, List.set_cons_zero, List.set_cons_succ]
    refine but_take (f := 11) (i := 1) (v := ?vh1) rfl (by kernel_rfl) (by kernel_rfl) (by kernel_rfl) (by kernel_rfl) (by kernel_rfl) (fun _ _ _ h => h) (Or.inl ⟨(by rfl), ?hyh1⟩) (Below.drew1 _) ?resth1
    case hyh1 =>
     intro W hW
     obtain ⟨z0, z1⟩ := box1N (box_on QO.out hW)
     go_simp
     exact rfl
    simp only [List.getElem_toArray, List.getElem_cons_succ, List.getElem_cons_zero, Act.put, List.setIfInBounds_toArray, List.set_cons_zero, List.set_cons_succ]
    refine but_take (f := 11) (i := 2) (v := ?vh2) rfl (by kernel_rfl) (by kernel_rfl) (by kernel_rfl) (by kernel_rfl) (by kernel_rfl) (fun _ _ _ h => h) (Or.inl ⟨(by rfl), ?hyh2⟩) (Below.drew1 _) ?resth2
    case hyh2 =>
     intro W hW
     go_simp
     exact rfl
    simp only [List.getElem_toArray, List.getElem_cons_succ, List.getElem_cons_zero, Act.put, List.setIfInBounds_toArray, List.set_cons_zero, List.set_cons_succ]
    refine but_take (f := 11) (i := 3) (v := ?vh3) rfl (by kernel_rfl) (by kernel_rfl) (by kernel_rfl) (by kernel_rfl) (by kernel_rfl) (fun _ _ _ h => h) (Or.inl ⟨(by rfl), ?hyh3⟩) (Below.drew1 _) ?resth3
    case hyh3 =>
     intro W hW
     go_simp
     exact rfl
    simp only [List.getElem_toArray, List.getElem_cons_succ, List.getElem_cons_zero, Act.put, List.setIfInBounds_toArray, List.set_cons_zero, List.set_cons_succ]
    refine but_take (f := 11) (i := 4) (v := ?vh4) rfl (by kernel_rfl) (by kernel_rfl) (by kernel_rfl) (by kernel_rfl) (by kernel_rfl) (fun _ _ _ h => h) (Or.inl ⟨(by rfl), ?hyh4⟩) (Below.drew1 _) ?resth4
    case hyh4 =>
     intro W hW
     obtain ⟨z0, z1⟩ := box1N (box_on QO.out hW)
     go_simp
     exact rfl
    simp only [List.getElem_toArray, List.getElem_cons_succ, List.getElem_cons_zero, Act.put, List.setIfInBounds_toArray, List.set_cons_zero, List.set_cons_succ]
    refine but_take (f := 11) (i := 5) (v := ?vh5) rfl (by kernel_rfl) (by kernel_rfl) (by kernel_rfl) (by kernel_rfl) (by kernel_rfl) (fun _ _ _ h => h) (Or.inl ⟨(by rfl), ?hyh5⟩) (Below.drew1 _) ?resth5
    case hyh5 =>
     intro W hW
     go_simp
     exact rfl
    simp only [List.getElem_toArray, List.getElem_cons_succ, List.getElem_cons_zero, Act.put, List.setIfInBounds_toArray, List.set_cons_zero, List.set_cons_succ]
    refine but_take (f := 11) (i := 6) (v := ?vh6) rfl (by kernel_rfl) (by kernel_rfl) (by kernel_rfl) (by kernel_rfl) (by kernel_rfl) (fun _ _ _ h => h) (Or.inl ⟨(by rfl), ?hyh6⟩) (Below.drew1 _) ?resth6
    case hyh6 =>
     intro W hW
     go_simp
     exact rfl
    simp only [List.getElem_toArray, List.getElem_cons_succ, List.getElem_cons_zero, Act.put, List.setIfInBounds_toArray, List.set_cons_zero, List.set_cons_succ]
    refine but_take (f := 11) (i := 7) (v := ?vh7) rfl (by kernel_rfl) (by kernel_rfl) (by kernel_rfl) (by kernel_rfl) (by kernel_rfl) (fun _ _ _ h => h) (Or.inl ⟨(by rfl), ?hyh7⟩) (Below.drew1 _) ?resth7
    case hyh7 =>
     intro W hW
     have hcc := (hW.cell (p := ⟨g, L, none⟩) hgl).trans C1.out
     go_simp
     exact rfl
    simp only [List.getElem_toArray, List.getElem_cons_succ, List.getElem_cons_zero, Act.put, List.setIfInBounds_toArray, List.set_cons_zero, List.set_cons_succ]
    refine but_take (f := 11) (i := 8) (v := ?vh8) rfl (by kernel_rfl) (by kernel_rfl) (by kernel_rfl) (by kernel_rfl) (by kernel_rfl) (fun _ _ _ h => h) (Or.inl ⟨(by rfl), ?hyh8⟩) (Below.drew1 _) ?resth8
    case hyh8 =>
     intro W hW
     obtain ⟨k0, k1, k2, k3, k4, k5⟩ := box5 (box_on QK.out hW)
     go_simp
     exact rfl
    simp only [List.getElem_toArray, List.getElem_cons_succ, List.getElem_cons_zero, Act.put, List.setIfInBounds_toArray, List.set_cons_zero, List.set_cons_succ]
    refine but_run (i := 9) (by kernel_rfl) rfl (by rfl) ?_
    simp only [List.getElem_toArray, List.getElem_cons_succ, List.getElem_cons_zero]
    intro K HK
    go_wp2_with fail
    refine (HI.out _ ns[L] x _ (R1'.out.on (Below.drew1 _)) (by omega)).mono ?_
    rintro r Vh1 ⟨v9, rfl, o9, hbh1⟩
    obtain ⟨A9, c9, rfl, _, _⟩ := o9.shape
    go_wp2_with fail
    have hSh1 : (fun V => Below Vf1.heap.size Vf1 V) Vh1 := bstep (Below.drew1 _) hbh1
    refine HK.out _ _ (fun _ => hSh1) ?_
    clear HK
    obtain ⟨g', cap', A2', c2', hu', _, _, _, cc, ff, _⟩ := (NO.out.on hSh1).elem hlt
    cases hu'
    have fg := ff L
    refine but_take (f := 11) (i := 10) (v := ?vh10) rfl (by kernel_rfl) (by kernel_rfl) (by kernel_rfl) (by kernel_rfl) (by kernel_rfl) (fun _ _ _ h => h) (Or.inl ⟨(by rfl), ?hyh10⟩) hSh1 ?resth10
    case hyh10 =>
     intro W hW
     go_simp
     exact rfl
    simp only [List.getElem_toArray, List.getElem_cons_succ, List.getElem_cons_zero, Act.put, List.setIfInBounds_toArray, List.set_cons_zero, List.set_cons_succ]
    refine but_run (i := 11) (by kernel_rfl) rfl (by rfl) ?_
    simp only [List.getElem_toArray, List.getElem_cons_succ, List.getElem_cons_zero]
    intro K HK
    go_wp2_with fail
    refine HK.out _ _ (fun h => absurd rfl h) ?_
    clear HK
    refine but_done (by kernel_rfl) ?_
    skip
    obtain ⟨l9, hl9⟩ : ∃ l9, putK ns[L] x = l9 := ⟨_, rfl⟩
    rw [hl9] at o9
    have N2 := NOwn.put (i := L) NO.out hlt hSh1 (o9.mono (Nat.le_refl _)) (by omega) (by have := BBW.out.size; omega)
    rw [← hl9] at N2
    have P8 := Lib.hid (box_far (j := L) (u := .slice A9 (putK ns[L] x).length c9) (box_on QO.out hSh1) (fun e => hgo e.symm))
    have P9 := Lib.hid (box_far (j := L) (u := .slice A9 (putK ns[L] x).length c9) (box_on QR.out hSh1) (show w.heap.size + 1 + 1 ≠ g by omega))
    have P7 := Lib.hid (box_far (j := L) (u := .slice A9 (putK ns[L] x).length c9) (box_on QN.out hSh1) (show w.heap.size ≠ g by omega))
    have P6 := Lib.hid (box_far (j := L) (u := .slice A9 (putK ns[L] x).length c9) (box_on QK.out hSh1) (show w.heap.size + 1 ≠ g by omega))
    have HB8 := Lib.hid ((bstep BBW.out hSh1).setCell (p := ⟨g, L, none⟩) (show W.heap.size ≤ g by omega) (.slice A9 (putK ns[L] x).length c9))
    have hln : ns.length = LY.length := by rw [← HLay.out]; simp
    have OL := Lib.hid N2.owns
    rw [HLay.out] at OL
    rw [hln] at P8 OL
    clear hl9 o9 hSh1 cc ff fg N2 QN QK QR QO NO BBW
    have QN := P7
    have QK := P6
    have QR := P9
    have QO := P8
    have BBW := HB8
    clear P7 P6 P9 P8 HB8 hln
    go_upto_region 9 with (fail)
    generalize Vh1.setCell ⟨g, L, none⟩ (.slice A9 (putK ns[L] x).length c9) = W9 at *
    obtain ⟨z0, z1⟩ := box1N QO.out
    have hQV := BBW.out.size
    go_wp2_with fail
    refine (specNodeOk_any _ LY _ OL.out.reads HSL.out).mono ?_
    rintro r w3c ⟨rfl, b3⟩
    rw [HR1.out]
    replace OL := Lib.hid (OL.out.on b3)
    replace QO := Lib.hid (box_on QO.out b3)
    replace QN := Lib.hid (box_on QN.out b3)
    replace QK := Lib.hid (box_on QK.out b3)
    replace QR := Lib.hid (box_on QR.out b3)
    replace BBW := Lib.hid (bstep BBW.out b3)
    have hb3 := b3.size
    clear b3 z0 z1
    cases R1
    ·have P2' := Lib.hid (P2.out rfl)
     have P3' := Lib.hid (P3.out rfl)
     clear P1 P2 P3 HR1 OL QO
     go_upto_region 11 with (fail)
     refine but_begin (f := 5) (S := fun V => Below w3c.heap.size w3c V) (by kernel_rfl) ?_
     refine but_take (f := 5) (i := 0) (v := ?vrc0) rfl (by kernel_rfl) (by kernel_rfl) (by kernel_rfl) (by kernel_rfl) (by kernel_rfl) (fun _ _ _ h => h) (Or.inl ⟨(by rfl), ?hyrc0⟩) (Below.drew1 _) ?restrc0
     case hyrc0 =>
      intro W hW
      obtain ⟨x0, x1⟩ := box1N (box_on QN.out hW)
      go_simp
      exact rfl
     simp only [List.getElem_toArray, List.getElem_cons_succ, List.getElem_cons_zero, Act.put, List.setIfInBounds_toArray, List.set_cons_zero, List.set_cons_succ]
     refine but_take (f := 5) (i := 2) (v := ?vrc2) rfl (by kernel_rfl) (by kernel_rfl) (by kernel_rfl) (by kernel_rfl) (by kernel_rfl) (fun _ _ _ h => h) (Or.inl ⟨(by rfl), ?hyrc2⟩) (Below.drew1 _) ?restrc2
     case hyrc2 =>
      intro W hW
      obtain ⟨k0, k1, k2, k3, k4, k5⟩ := box5 (box_on QK.out hW)
      go_simp
      exact rfl
     simp only [List.getElem_toArray, List.getElem_cons_succ, List.getElem_cons_zero, Act.put, List.setIfInBounds_toArray, List.set_cons_zero, List.set_cons_succ]
     refine but_run (i := 1) (by kernel_rfl) rfl (by rfl) ?_
     simp only [List.getElem_toArray, List.getElem_cons_succ, List.getElem_cons_zero]
     intro K HK
     go_wp2_with fail
     refine (specNodeKeys_any _ ns _ (HV.out.on (bstep BBW.out (Below.drew1 _))) h1 h2).mono ?_
     rintro r Vrc1 ⟨v1, rfl, o1, hbrc1⟩
     rw [HKL.out] at o1
     obtain ⟨A1, c1, rfl, _, _⟩ := o1.shape
     go_wp2_with fail
     have hSrc1 : (fun V => Below w3c.heap.size w3c V) Vrc1 := bstep (Below.drew1 _) hbrc1
     refine HK.out _ _ (fun _ => hSrc1) ?_
     clear HK
     have OC := Lib.hid o1
     clear o1
     refine but_run (i := 3) (by kernel_rfl) rfl (by rfl) ?_
     simp only [List.getElem_toArray, List.getElem_cons_succ, List.getElem_cons_zero]
     intro K HK
     go_wp2_with fail
     refine (HI.out _ KL x _ OC.out.owns.reads (by omega)).mono ?_
     rintro r Vrc2 ⟨v3, rfl, o3, hbrc2⟩
     rw [HPL.out] at o3
     obtain ⟨A3, c3, rfl, _, _⟩ := o3.shape
     go_wp2_with fail
     have hSrc2 : (fun V => Below w3c.heap.size w3c V) Vrc2 := bstep hSrc1 hbrc2
     refine HK.out _ _ (fun _ => hSrc2) ?_
     clear HK
     replace OC := Lib.hid o3
     clear o3
     refine but_run (i := 4) (by kernel_rfl) rfl (by rfl) ?_
     simp only [List.getElem_toArray, List.getElem_cons_succ, List.getElem_cons_zero]
     intro K HK
     go_wp2_with fail
     refine (specDrop_any _ PL _ OC.out.owns.reads (by omega)).mono ?_
     rintro r Vrc3 ⟨v4, rfl, o4, hbrc3⟩
     rw [HDL.out] at o4
     obtain ⟨A4, c4, rfl, _, _⟩ := o4.shape
     go_wp2_with fail
     have hSrc3 : (fun V => Below w3c.heap.size w3c V) Vrc3 := bstep hSrc2 hbrc3
     refine HK.out _ _ (fun _ => hSrc3) ?_
     clear HK
     replace OC := Lib.hid o4
     clear o4
     refine but_run (i := 5) (by kernel_rfl) rfl (by rfl) ?_
     simp only [List.getElem_toArray, List.getElem_cons_succ, List.getElem_cons_zero]
     intro K HK
     go_wp2_with fail
     refine HK.out _ _ (fun h => absurd rfl h) ?_
     clear HK
     refine but_done (by kernel_rfl) ?_
     skip
     have OD := Lib.hid OC.out.owns
     replace QN := Lib.hid (box_on QN.out hSrc3)
     replace QR := Lib.hid (box_on QR.out hSrc3)
     replace BBW := Lib.hid (bstep BBW.out hSrc3)
     clear OC QK
     by_cases h8 : 8 < DL.length
     ·have d8 : decide ((8 : Int) < (DL.length : Int)) = true := decide_eq_true (by omega)
      have hP := P3'.out (HLONG.out h8)
      have HP := Lib.hid hP
      clear hP P2' P3' HR2 HLONG h8
      obtain ⟨x0, x1⟩ := box1N QN.out
      go_wp2_with fail
      refine (l5Copy_any _ ns _ (HV.out.on BBW.out) HS.out).mono ?_
      rintro r w6 ⟨v6, rfl, o6, b6⟩
      obtain ⟨A6, c6, rfl, _, _⟩ := o6.reads.lenN
      have hb6 := BBW.out.size
      have O6 := Lib.hid o6
      have B6 := Lib.hid (bstep (bstep HB.out BBW.out) b6)
      clear x0 x1
      obtain ⟨y0, y1⟩ := box1N (box_on QR.out b6)
      clear o6 b6
      go_wp2
      refine bodyPost_ret (v := .tuple #[.agg #[.slice A6 ns.length c6], .bool false]) (by simp [results, Tryz.results40, go_sem, y0, y1]) rfl ⟨_, by rw [HP.out.2], ?_, ?_⟩
      ·rw [HP.out.1]
       exact (O6.out.setFar (by omega)).mono (fun b hb => by omega)
      ·exact B6.out.setCell (p := ⟨w.heap.size + 1 + 1, 0, none⟩) (show w.heap.size ≤ w.heap.size + 1 + 1 by omega) _
     ·have d8 : decide ((8 : Int) < (DL.length : Int)) = false := decide_eq_false (by omega)
      clear h8 HLONG
      go_wp2_with fail
      refine (specNodeNew_any _ DL _ OD.out.reads (by omega)).mono ?_
      rintro r w5 ⟨v5, rfl, o5, b5⟩
      rw [HNQ.out] at o5
      obtain ⟨A5, c5, rfl, _, _⟩ := o5.reads.lenN
      replace QN := Lib.hid (box_on QN.out b5)
      replace QR := Lib.hid (box_on QR.out b5)
      replace OD := Lib.hid (OD.out.on b5)
      replace BBW := Lib.hid (bstep BBW.out b5)
      have O5 := Lib.hid o5
      clear o5 b5
      go_wp2_with fail
      refine (specNodeOk_any _ NQ _ O5.out.reads HSQ.out).mono ?_
      rintro r w7 ⟨rfl, b7⟩
      rw [HR2.out]
      replace QN := Lib.hid (box_on QN.out b7)
      replace QR := Lib.hid (box_on QR.out b7)
      replace OD := Lib.hid (OD.out.on b7)
      replace BBW := Lib.hid (bstep BBW.out b7)
      clear b7 O5 d8
      cases R2
      ·have hP := P3'.out rfl
       have HP := Lib.hid hP
       clear hP P2' P3' HR2
       obtain ⟨x0, x1⟩ := box1N QN.out
       go_wp2_with fail
       refine (l5Copy_any _ ns _ (HV.out.on BBW.out) HS.out).mono ?_
       rintro r w6 ⟨v6, rfl, o6, b6⟩
       obtain ⟨A6, c6, rfl, _, _⟩ := o6.reads.lenN
       have hb6 := BBW.out.size
       have O6 := Lib.hid o6
       have B6 := Lib.hid (bstep (bstep HB.out BBW.out) b6)
       clear x0 x1
       obtain ⟨y0, y1⟩ := box1N (box_on QR.out b6)
       clear o6 b6
       go_wp2
       refine bodyPost_ret (v := .tuple #[.agg #[.slice A6 ns.length c6], .bool false]) (by simp [results, Tryz.results40, go_sem, y0, y1]) rfl ⟨_, by rw [HP.out.2], ?_, ?_⟩
       ·rw [HP.out.1]
        exact (O6.out.setFar (by omega)).mono (fun b hb => by omega)
       ·exact B6.out.setCell (p := ⟨w.heap.size + 1 + 1, 0, none⟩) (show w.heap.size ≤ w.heap.size + 1 + 1 by omega) _
      ·have hP := P2'.out rfl
       have HP := Lib.hid hP
       clear hP P2' P3' HR2
       go_wp2_with fail
       refine (specNodeNew_any _ DL _ OD.out.reads (by omega)).mono ?_
       rintro r w8 ⟨v8, rfl, o8, b8⟩
       rw [HNQ.out] at o8
       obtain ⟨A8, c8, rfl, _, _⟩ := o8.reads.lenN
       have hb6 := BBW.out.size
       have O6 := Lib.hid o8
       have B6 := Lib.hid (bstep (bstep HB.out BBW.out) b8)
       obtain ⟨y0, y1⟩ := box1N (box_on QR.out b8)
       clear o8 b8
       go_wp2
       refine bodyPost_ret (v := .tuple #[.agg #[.slice A8 NQ.length c8], .bool true]) (by simp [results, Tryz.results40, go_sem, y0, y1]) rfl ⟨_, by rw [HP.out.2], ?_, ?_⟩
       ·rw [HP.out.1]
        exact (O6.out.setFar (by omega)).mono (fun b hb => by omega)
       ·exact B6.out.setCell (p := ⟨w.heap.size + 1 + 1, 0, none⟩) (show w.heap.size ≤ w.heap.size + 1 + 1 by omega) _
    ·have hP := P1.out rfl
     have HP := Lib.hid hP
     clear hP P1 P2 P3 HR1
     obtain ⟨z0, z1⟩ := box1N QO.out
     obtain ⟨y0, y1⟩ := box1N QR.out
     have B6 := Lib.hid (bstep HB.out BBW.out)
     go_wp2
     refine bodyPost_ret (v := .tuple #[.agg #[.slice (some ⟨g, 0, none⟩) LY.length cu], .bool true]) (by simp [results, Tryz.results40, go_sem, y0, y1]) rfl ⟨_, by rw [HP.out.2], ?_, ?_⟩
     ·rw [HP.out.1]
      exact (OL.out.setFar (fun h => by have := h.1; omega)).mono (fun b hb => by have := hb.1; omega)
     ·exact B6.out.setCell (p := ⟨w.heap.size + 1 + 1, 0, none⟩) (show w.heap.size ≤ w.heap.size + 1 + 1 by omega) _
end Go.Proofs.YthopkhpiikiknaaGreat
