/- Contracts for spec.NodeAt, spec.NodeKeys, spec.NodeNew, spec.NodePack. Conditions: at most 1048576 sets and keys. -/
import Derived.Test.YtkcafbdlealbpaaGreatNodeOk
import Derived.Test.YtkcafbdlealbpaaGreatKSetMerge
namespace Go.Proofs.YtkcafbdlealbpaaGreat
open Go.RowKit
set_option maxRecDepth 100000
set_option linter.unusedSimpArgs false
set_option linter.unusedVariables false

set_option maxHeartbeats 2000000 in
theorem specNodeAt_any (v : Value) (ns : List (List KeyD)) (p q : Int) (w : World) (hv : Reads w w.heap.size v (setsD ns)) (hs : SmallN ns) : Calls Tryz.prog 67 #[.agg #[v], .int .i64 p, .int .i64 q] w (SaysFind w (nodeAtK ns p q)) := by
  obtain ⟨A, c, rfl, _, _⟩ := hv.lenN
  have B0 := bal2 w (.cells #[.slice A ns.length c] 71) (.cells #[.int .i64 0, .int .i64 0, .int .i64 0, .int .i64 0, .int .i64 0] 29)
  obtain ⟨q0, q1⟩ := al2 w (.cells #[.slice A ns.length c] 71) (.cells #[.int .i64 0, .int .i64 0, .int .i64 0, .int .i64 0, .int .i64 0] 29)
  have HB := Lib.hid B0
  have Q0 := Lib.hid q0
  have Q1 := Lib.hid q1
  have HV := Lib.hid (hv.on B0)
  have HS := Lib.hid hs
  have HZ : Hid (((w.alloc (.cells #[.slice A ns.length c] 71)).alloc (.cells #[.int .i64 0, .int .i64 0, .int .i64 0, .int .i64 0, .int .i64 0] 29)).heap.size = w.heap.size + 2) := Lib.hid (by simp)
  have hn := hs.1
  have HC := Lib.hid specSetAt_any
  unfold SaysFind KeyD.v keyV at HC
  unfold SaysFind KeyD.v keyV
  obtain ⟨F, hF⟩ : ∃ F, nodeAtK ns p q = F := ⟨_, rfl⟩
  rw [hF]
  have HF := Lib.hid (show atRev (ns.take ns.length).reverse p q = F by rw [List.take_length]; exact hF)
  clear hv hs B0 q0 q1 hF
  go_enter Tryz.func67, Tryz.ntmps67
  go_wp2
  generalize (w.alloc (.cells #[.slice A ns.length c] 71)).alloc (.cells #[.int .i64 0, .int .i64 0, .int .i64 0, .int .i64 0, .int .i64 0] 29) = W at *
  go_loopw [8] (fun i wr => ∃ r : Nat, r ≤ ns.length ∧ i = .int .i64 ((r : Int) - 1) ∧ Hid (atRev (ns.take r).reverse p q = F) ∧ Hid (Below W.heap.size W wr)) (fun i _ => (intOf i + 1).toNat)
  case atStart => exact ⟨ns.length, Nat.le_refl _, rfl, HF, Lib.hid (Below.refl _ _)⟩
  case round =>
    clear HF
    obtain ⟨r, hr, rfl, HI, HW⟩ := hrel
    have hzW := HZ.out
    have hzr := HW.out.size
    rcases Nat.eq_zero_or_pos r with rfl | hpos
    · have t0 : decide ((0 : Int) ≤ ((0 : Nat) : Int) - 1) = false := by decide
      obtain ⟨z0, z1, z2, z3, z4, z5⟩ := box5 (box_on Q1.out HW.out)
      have hF : F = none := by rw [← HI.out]; rfl
      clear HI
      go_wp2
      refine bodyPost_ret (v := .tuple #[(F.getD zK).v, .bool F.isSome]) (by simp [results, Tryz.results67, go_sem, keyV, KeyD.v, hF, zK, *]) rfl ⟨rfl, ?_⟩
      exact b5' (bstep HB.out HW.out) (by omega)
    · obtain ⟨k, rfl⟩ : ∃ k, r = k + 1 := ⟨r - 1, by omega⟩
      have hlt : k < ns.length := by omega
      have e1 : ((k + 1 : Nat) : Int) - 1 = (k : Int) := by omega
      rw [e1]
      have HI2 := HI.out
      rw [atRev_step hlt] at HI2
      obtain ⟨b, off, rfl, hbb, hc⟩ := (HV.out.on HW.out).set hlt
      obtain ⟨A1, d1, c1, _, _, r1⟩ := hc k hlt
      have hl := HS.out.at hlt
      have R1 := Lib.hid r1
      obtain ⟨x0, x1⟩ := box1N (box_on Q0.out HW.out)
      have i1 : (k : Int) < (ns.length : Int) := by omega
      have i2 : (0 : Int) ≤ (k : Int) := by omega
      obtain ⟨x, hx⟩ : ∃ x, (atK ns[k] p q).getD zK = x := ⟨_, rfl⟩
      obtain ⟨y, hy⟩ : ∃ y, (atK ns[k] p q).isSome = y := ⟨_, rfl⟩
      have HX := Lib.hid hx
      have HY := Lib.hid hy
      have HI3 : Hid (y = false → atRev (ns.take k).reverse p q = F) := Lib.hid (by
        intro h
        rw [h] at hy
        rw [Option.isSome_eq_false_iff, Option.isNone_iff_eq_none] at hy
        rw [hy] at HI2
        exact HI2)
      have HI4 : Hid (y = true → F = if x.c = 0 then none else some x) := Lib.hid (by
        intro h
        rw [h] at hy
        obtain ⟨x', hx'⟩ := Option.isSome_iff_exists.1 hy
        rw [hx'] at HI2 hx
        simp only [Option.getD_some] at hx
        subst hx
        exact HI2.symm)
      clear hc r1 HI2 HI hx hy e1 hpos
      go_wp2_with fail
      refine (HC.out _ ns[k] p q _ R1.out (by omega)).mono ?_
      rintro r w1 ⟨rfl, b1⟩
      rw [HX.out, HY.out]
      have B1 := Lib.hid (HW.out.trans (b1.mono hzr))
      have BA := Lib.hid (B1.out.trans ((bal1 w1 (.cells #[.int .i64 x.a, .int .i64 x.b, .int .i64 x.c, .int .i64 x.d, .int .i64 x.e] 29)).mono B1.out.size))
      have P3 := Lib.hid (al1 w1 (.cells #[.int .i64 x.a, .int .i64 x.b, .int .i64 x.c, .int .i64 x.d, .int .i64 x.e] 29))
      have hz1 := B1.out.size
      clear b1 x0 x1 c1
      cases y
      · have HI5 := Lib.hid (HI3.out rfl)
        clear HI3 HI4
        go_wp2
        go_roundw
        case rel => exact ⟨k, by omega, by go_num, HI5, BA⟩
        case measure => simp [intOf]
      · have hF := HI4.out rfl
        clear HI3 HI4
        by_cases hx0 : x.c = 0
        · have z : (x.c == 0) = true := by simp [hx0]
          rw [if_pos hx0] at hF
          obtain ⟨z0, z1, z2, z3, z4, z5⟩ := box5 (box_on Q1.out BA.out)
          have hne : ¬ w1.heap.size = w.heap.size + 1 := by omega
          clear hx0
          go_wp2
          refine bodyPost_ret (v := .tuple #[(F.getD zK).v, .bool F.isSome]) (by simp [results, Tryz.results67, go_sem, keyV, KeyD.v, hF, zK, *]) rfl ⟨rfl, ?_⟩
          exact b5' (bstep HB.out BA.out) (by omega)
        · have z : (x.c == 0) = false := by simp [hx0]
          rw [if_neg hx0] at hF
          obtain ⟨z0, z1, z2, z3, z4, z5⟩ := box5 (box_on Q1.out BA.out)
          have hne : ¬ w1.heap.size = w.heap.size + 1 := by omega
          clear hx0
          go_wp2
          refine bodyPost_ret (v := .tuple #[(F.getD zK).v, .bool F.isSome]) (by simp [results, Tryz.results67, go_sem, keyV, KeyD.v, hF, *]) rfl ⟨rfl, ?_⟩
          exact b5' (bstep HB.out BA.out) (by omega)
theorem fold_take {ns : List (List KeyD)} {k : Nat} (h : k < ns.length) : (ns.take (k + 1)).foldl mergeK [] = mergeK ((ns.take k).foldl mergeK []) ns[k] := by
  rw [List.take_succ_eq_append_getElem h, List.foldl_append]
  rfl
theorem fold_take_len (ns : List (List KeyD)) (k : Nat) : ((ns.take k).foldl mergeK []).length ≤ sumN ns := by
  have h1 := fold_len (ns.take k) []
  have h2 := sumN_take_le ns k
  simp only [List.length_nil] at h1
  omega
set_option maxHeartbeats 1000000 in
theorem specNodeKeys_any (v : Value) (ns : List (List KeyD)) (w : World) (hv : Reads w w.heap.size v (setsD ns)) (h1 : ns.length ≤ 1048576) (h2 : sumN ns ≤ 1048576) : Calls Tryz.prog 51 #[.agg #[v]] w (NewK w (nodeKeysK ns)) := by
  obtain ⟨A, c, rfl, _, _⟩ := hv.lenN
  have B0 := bal1 w (.cells #[.slice A ns.length c] 71)
  have HB := Lib.hid B0
  have Q0 := Lib.hid (al1 w (.cells #[.slice A ns.length c] 71))
  have HV := Lib.hid (hv.on B0)
  have hnk : nodeKeysK ns = dropK ((ns.take ns.length).foldl mergeK []) := by rw [List.take_length]; rfl
  rw [hnk]
  clear hv B0 hnk
  go_enter Tryz.func51, Tryz.ntmps51
  go_upto_region 1 with (fail)
  generalize w.alloc (.cells #[.slice A ns.length c] 71) = W at *
  have START := Lib.hid (show Grow W (W.alloc (.cells #[] 29)) (.slice (some ⟨W.heap.size, 0, none⟩) 0 0) [] from ⟨RowK.lit W, bal1 _ _⟩)
  go_wp2
  go_loopw [3, 4] (fun o i wr => ∃ (k : Nat) (m : List KeyD), k ≤ ns.length ∧ i = .int .i64 k ∧ Hid (m = (ns.take k).foldl mergeK []) ∧ Hid (Grow W wr o m)) (fun _ i _ => ns.length - (intOf i).toNat)
  case atStart => exact ⟨0, [], Nat.zero_le _, rfl, Lib.hid rfl, START⟩
  case round =>
    clear START
    obtain ⟨k, m, hk, rfl, HM, HG⟩ := hrel
    obtain ⟨Ao, co, rfl, _, _⟩ := HG.out.1.shape
    obtain ⟨x0, x1⟩ := box1N (box_on Q0.out HG.out.2)
    have hm : m.length ≤ 1048576 := by rw [HM.out]; exact Nat.le_trans (fold_take_len ns k) h2
    by_cases hlt : k < ns.length
    · obtain ⟨b, off, rfl, hbb, hc⟩ := (HV.out.on HG.out.2).set hlt
      obtain ⟨A1, d1, c1, _, _, r1⟩ := hc k hlt
      have hl := Nat.le_trans (sumN_mem (List.getElem_mem hlt)) h2
      have R1 := Lib.hid r1
      have i1 : (k : Int) < (ns.length : Int) := by omega
      have i2 : (0 : Int) ≤ (k : Int) := by omega
      clear hc r1
      go_wp2_with fail
      refine (specMergeSets_any _ _ m ns[k] _ HG.out.reads R1.out hm hl).mono ?_
      rintro r w1 ⟨v1, rfl, o1, b1⟩
      have HG1 := Lib.hid (NewK.grow o1 b1 HG.out.2)
      have HM1 := Lib.hid (show mergeK m ns[k] = (ns.take (k + 1)).foldl mergeK [] by rw [fold_take hlt, HM.out])
      clear o1 b1 x0 x1 c1
      go_wp2
      go_roundw
      case rel => exact ⟨k + 1, _, by omega, by go_num, HM1, HG1⟩
      case measure => simp [intOf]; omega
    · have e : k = ns.length := by omega
      subst e
      go_wp2_with fail
      refine (specDrop_any _ m _ HG.out.reads (by omega)).mono ?_
      rintro r w1 ⟨v1, rfl, o1, b1⟩
      rw [HM.out] at o1
      have O1 := Lib.hid (o1.mono (Nat.le_trans HB.out.size HG.out.2.size))
      have B1 := Lib.hid (bstep (bstep HB.out HG.out.2) b1)
      clear o1 b1 x0 x1
      go_wp2
      go_ret
      exact ⟨_, rfl, O1.out, B1.out⟩
theorem Owns.wrap {w : World} {base : Nat} {v : Value} {l : List KeyD} (h : Owns w (fun b => base ≤ b) v (keysD l)) (hb : base ≤ w.heap.size) : Owns (w.alloc (.cells #[v] 36)) (fun b => base ≤ b) (.slice (some ⟨w.heap.size, 0, none⟩) 1 1) (setsD [l]) := by
  have h2 : Owns (w.alloc (.cells #[v] 36)) (fun b => base ≤ b ∧ b ≠ w.heap.size) v (keysD l) := (h.lt.keep (fun b _ hl => (bal1 w (.cells #[v] 36)).block b hl)).mono (fun b hb => ⟨hb.1, by omega⟩)
  exact OwnsL.row (S := fun b => base ≤ b) (cs := [keysD l]) (xs := [v]) hb (heap_alloc_new w _) (Nat.le_refl _) (by unfold maxLen; omega) rfl rfl rfl (.one h2)
theorem Owns.setFar {w : World} {S : Nat → Prop} {v u : Value} {c : Dat} {g j : Nat} (h : Owns w S v c) (hg : ¬ S g) : Owns (w.setCell ⟨g, j, none⟩ u) S v c := h.keep (fun b hb _ => Below.heap_setCell _ _ _ _ (fun e => hg (by have e' : b = g := e; rw [← e']; exact hb)))
theorem len0K (l : List KeyD) (h : l.length = 0) : nodeNewK l = [] := by simp [nodeNewK, h]
theorem lenpK (l : List KeyD) (h : ¬ l.length = 0) : nodeNewK l = [l] := by simp only [nodeNewK, h, if_false]
set_option maxHeartbeats 1000000 in
theorem specNodeNew_any (v : Value) (l : List KeyD) (w : World) (hv : Reads w w.heap.size v (keysD l)) (hn : l.length ≤ 1100000) : Calls Tryz.prog 53 #[v] w (NewN w (nodeNewK l)) := by
  obtain ⟨A, c, rfl, _, _⟩ := hv.shapeK
  have B0 := bal1 w (.cells #[.slice none 0 0] 71)
  have HB := Lib.hid B0
  have Q0 := Lib.hid (al1 w (.cells #[.slice none 0 0] 71))
  have HV := Lib.hid (hv.on B0)
  have HZ : Hid ((w.alloc (.cells #[.slice none 0 0] 71)).heap.size = w.heap.size + 1) := Lib.hid (by simp)
  clear hv B0
  by_cases h0 : l.length = 0
  · rw [len0K l h0]
    have z0 : ((l.length : Int) == 0) = true := by simp [h0]
    clear h0
    go_enter Tryz.func53, Tryz.ntmps53
    go_upto_region 1 with (fail)
    generalize w.alloc (.cells #[.slice none 0 0] 71) = W at *
    obtain ⟨x0, x1⟩ := box1N Q0.out
    go_wp2
    refine bodyPost_ret (v := .agg #[.slice none 0 0]) (by simp [results, Tryz.results53, go_sem, *]) rfl ⟨_, rfl, .nil _ _ _, ?_⟩
    exact HB.out.setCell (p := ⟨w.heap.size, 0, none⟩) (Nat.le_refl _) _
  · rw [lenpK l h0]
    have z0 : ((l.length : Int) == 0) = false := by simp; simpa using h0
    clear h0
    go_enter Tryz.func53, Tryz.ntmps53
    go_upto_region 1 with (fail)
    generalize w.alloc (.cells #[.slice none 0 0] 71) = W at *
    have HAt := Lib.hid (HV.out.on (bal1 W (.cells #[] 29))).atK
    have HRow := Lib.hid (RowK.lit W)
    have HB1 := Lib.hid (bal1 W (.cells #[] 29))
    go_wp2_with (at_builtin; refine wpList_appK _ rfl (.tmp 7) (.tmp 8) rfl W.heap.size _ [] rfl HRow.out A l.length c l rfl rfl HAt.out (by simp; omega) (by simp) ?_; intro v1 w1 o1 b1; rw [List.nil_append] at o1; obtain ⟨Av, cv, rfl, _, _⟩ := o1.shape; have hzs := Nat.le_trans HB1.out.size b1.size; have O1 := Lib.hid (Owns.wrap o1.owns (Nat.le_trans HB1.out.size b1.size)); have B1 := Lib.hid (bstep (bstep HB.out (HB1.out.trans b1)) (bal1 w1 (.cells #[.slice Av l.length cv] 36))); have Q1 := Lib.hid (box_on Q0.out (bstep (HB1.out.trans b1) (bal1 w1 (.cells #[.slice Av l.length cv] 36)))); clear o1 b1 HAt HRow; obtain ⟨x0, x1⟩ := box1N Q1.out)
    have hz := HZ.out
    refine bodyPost_ret (v := .agg #[.slice (some ⟨w1.heap.size, 0, none⟩) 1 1]) (by simp [results, Tryz.results53, go_sem, x0, x1]) rfl ⟨_, rfl, ?_, ?_⟩
    · exact (O1.out.setFar (by omega)).mono (fun b hb => by omega)
    · exact B1.out.setCell (p := ⟨w.heap.size, 0, none⟩) (Nat.le_refl _) _
set_option maxHeartbeats 1000000 in
theorem specNodePack_any (v : Value) (ns : List (List KeyD)) (w : World) (hv : Reads w w.heap.size v (setsD ns)) (h1 : ns.length ≤ 1048576) (h2 : sumN ns ≤ 1048576) : Calls Tryz.prog 75 #[.agg #[v]] w (NewN w (nodePackK ns)) := by
  obtain ⟨A, c, rfl, _, _⟩ := hv.lenN
  have B0 := bal2 w (.cells #[.slice A ns.length c] 71) (.cells #[.slice none 0 0] 71)
  obtain ⟨q0, q1⟩ := al2 w (.cells #[.slice A ns.length c] 71) (.cells #[.slice none 0 0] 71)
  have HB := Lib.hid B0
  have Q1 := Lib.hid q1
  have HV := Lib.hid (hv.on B0)
  have HZ : Hid (((w.alloc (.cells #[.slice A ns.length c] 71)).alloc (.cells #[.slice none 0 0] 71)).heap.size = w.heap.size + 2) := Lib.hid (by simp)
  have hkl := nodeKeys_len ns
  unfold nodePackK
  generalize hK : nodeKeysK ns = K at *
  have HK := Lib.hid hK
  clear hv B0 q0 q1 hK
  go_enter Tryz.func75, Tryz.ntmps75
  go_wp2_with fail
  refine (specNodeKeys_any _ ns _ HV.out h1 h2).mono ?_
  rintro r w1 ⟨v1, rfl, o1, b1⟩
  rw [HK.out] at o1
  generalize (w.alloc (.cells #[.slice A ns.length c] 71)).alloc (.cells #[.slice none 0 0] 71) = W at *
  obtain ⟨A1, c1, rfl, _, _⟩ := o1.shape
  go_wp2_with fail
  refine (specNodeNew_any _ K _ o1.owns.reads (by omega)).mono ?_
  rintro r w2 ⟨v2, rfl, o2, b2⟩
  obtain ⟨A2, c2, rfl, _, _⟩ := o2.reads.lenN
  have hz := HZ.out
  have hz1 := b1.size
  have O2 := Lib.hid (o2.mono (T := fun b => w.heap.size + 2 ≤ b) (fun b hb => by omega))
  have B2 := Lib.hid (bstep (bstep HB.out b1) b2)
  obtain ⟨x0, x1⟩ := box1N (box_on Q1.out (bstep b1 b2))
  clear o1 b1 o2 b2
  go_wp2
  generalize hN : (nodeNewK K).length = N at *
  refine bodyPost_ret (v := .agg #[.slice A2 N c2]) (by simp [results, Tryz.results75, go_sem, *]) rfl ⟨_, rfl, ?_, ?_⟩
  · exact (O2.out.setFar (by omega)).mono (fun b hb => by omega)
  · exact B2.out.setCell (p := ⟨w.heap.size + 1, 0, none⟩) (show w.heap.size ≤ w.heap.size + 1 by omega) _
end Go.Proofs.YtkcafbdlealbpaaGreat
