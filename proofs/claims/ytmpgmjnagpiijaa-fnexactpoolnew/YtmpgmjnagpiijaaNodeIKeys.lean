/- Contracts for slices.AppendSeq, slices.Collect at keys, impl.NodeKeys, impl.NodeNew, impl.NodePack. Conditions: at most 1048576 sets and keys. -/
import Derived.Test.YtmpgmjnagpiijaaNodeIAt
import Derived.Test.YtmpgmjnagpiijaaNodeSKeys
import Derived.Test.YtmpgmjnagpiijaaKSetIMerge
namespace Go.Proofs.Ytmpgmjnagpiijaa
open Go.RowKit Go.Shelf
set_option maxRecDepth 100000
set_option linter.unusedSimpArgs false
set_option linter.unusedVariables false
attribute [local go_sem] Oper.semAt_some

theorem RowK.keepC {w w' : World} {base : Nat} {v : Value} {l : List KeyD} (h : RowK w base v l) (hk : ∀ (b : Nat) (cur : Array Value) (e : TypeId), w.heap[b]? = some (.cells cur e (0, 0)) → w'.heap[b]? = some (.cells cur e (0, 0))) : RowK w' base v l := by
  obtain ⟨h1, h2 | ⟨g, cap, cur, e1, e2, e3, e4⟩⟩ := h
  · exact ⟨h1, .inl h2⟩
  · exact ⟨h1, .inr ⟨g, cap, cur, e1, e2, hk _ _ _ e3, e4⟩⟩
theorem RowK.cells {w : World} {base : Nat} {v : Value} {l : List KeyD} (h : RowK w base v l) {g : Nat} (hg : v.ownBlock = some g) : ∃ cur, w.heap[g]? = some (.cells cur 75 (0, 0)) := by
  obtain ⟨h1, ⟨rfl, _⟩ | ⟨g', cap, cur, rfl, e2, e3, e4⟩⟩ := h
  · simp [Value.ownBlock] at hg
  · simp [Value.ownBlock] at hg
    subst hg
    exact ⟨cur, e3⟩
theorem wpListIn_appK {F : Fence} {n : Nat} {ops : Array Oper} {rest : List Oper} {o : Oper} {a : Act} {Q : Exit → Act → World → Prop} (w : World) (hgd : o.guard = none) (s x : Operand)
    (hop : o.op = .call { callee := .builtin .append, args := #[s, x], argTypes := #[115, 115] })
    (base : Nat) (v : Value) (l : List KeyD) (hs : a.eval s = v) (hown : RowK w base v l) (b c : Nat) (m : List KeyD) (hx : a.eval x = .slice (some ⟨b, 0, none⟩) m.length c) (hA : At w (some ⟨b, 0, none⟩) (kvl m)) (hlen : l.length + m.length ≤ 1073741824) (hbase : base ≤ w.heap.size)
    (h : ∀ v' w', RowK w' base v' (l ++ m) → w.grownBy w' v.ownBlock → wpListIn F n Try.prog ops Q rest (a.put o.dst v') w') : wpListIn F n Try.prog ops Q (o :: rest) a w := by
  obtain ⟨i, hi, h0, h1, h2⟩ := info_parts key_info
  refine wpListIn_append_own w hgd s x 115 hop base 75 i _ 5 40 Try.underlying115 hi h0 h1 h2 rfl (by omega) v l.length (kvl l) hs hown ⟨b, 0, none⟩ m.length c (kvl m) hx (kvl_len m) ?_ (kvl_cells m) (by unfold maxLen; omega) (by omega) hbase ?_
  · intro j u hu
    have hj := (List.getElem?_eq_some_iff.1 hu).1
    rcases hA with h | ⟨b', off, he, hc⟩
    · rw [h] at hj; simp at hj
    · injection he with he
      injection he with e1 e2
      subst e1 e2
      rw [Addr.add_lit, hc j hj]
      rw [List.getElem?_eq_getElem hj] at hu
      exact hu
  · intro v' w' h2 h3 _
    refine h v' w' ?_ h3
    rw [← kvl_append, ← List.length_append] at h2
    exact h2
set_option maxHeartbeats 4000000 in
theorem appendSeq_any (gf n₀ : Nat) (lb : Array Value) (xs : List KeyD) (w : World) (hn₀ : n₀ ≤ w.heap.size) (eg : ∀ args w, (callFunc gf args).run Try.prog w = .ok (.enter gf args) w) (hseq : SeqL 75 Try.prog gf lb (fun k : KeyD => #[k.v]) n₀ xs w) (hl : xs.length ≤ 1100000) :
    Calls Try.prog 118 #[.slice none 0 0, .func (.func gf) #[] lb] w (NewK w xs) := by
  have HSQ := Lib.hid hseq
  have q0 := al1 w (.cells #[.slice none 0 0] 115)
  have hb := bal1 w (.cells #[.slice none 0 0] 115)
  have hz : (w.alloc (.cells #[.slice none 0 0] 115)).heap.size = w.heap.size + 1 := by simp
  clear hseq
  refine (callsIn_wide (n := 3)).1 ?_
  refine callsIn_of_wp_marks Try.func118 rfl trivial ?_ rfl
  simp only [Try.ntmps118, List.size_toArray, List.length_cons, List.length_nil, Nat.reduceAdd, Nat.reduceSub, Array.replicate_succ, Array.replicate_zero, List.push_toArray, List.append_toArray, List.nil_append, List.cons_append]
  gi_wp2
  generalize w.alloc (.cells #[.slice none 0 0] 115) = W0 at *
  refine rangeL (E := 75) (gf := gf) (lb := lb) rfl eg HSQ.out hb (by omega) (fun _ => rfl)
    (fun pre V => (∃ v, V.heap[w.heap.size]? = some (.cells #[v] 115 (0, 0)) ∧ RowK V (w.heap.size + 1) v pre) ∧ Below w.heap.size w V)
    (fun _ _ _ => False)
    (fun s X Y row hs hg hr => by
      obtain ⟨⟨v, h1, h2⟩, h3⟩ := hs
      have hr' : ∀ r, row = some r → ∃ o : Obj, X.heap[r]? = some o ∧ o.isCells = false := fun r e => (hr r e).2
      exact ⟨⟨v, cellsN hg hr' h1, h2.keepC (fun _ _ _ h => cellsN hg hr' h)⟩, ownFrom_below (β := Unit) (Nat.le_refl _) hb.size () X Y row h3 hg hr⟩)
    (fun _ _ _ _ _ hs _ _ => hs.elim)
    ⟨⟨_, q0, row_nil _ _ _ _⟩, hb⟩
    (fun x a' V => ∃ Bx, W0.heap.size ≤ Bx ∧ V.heap[Bx]? = some (.cells #[.int .i64 x.a, .int .i64 x.b, .int .i64 x.c, .int .i64 x.d, .int .i64 x.e] 75 (0, 0)) ∧ a' = { tmps := #[.slice none 0 0, .func (.func gf) #[] lb, .pointer (some ⟨w.heap.size, 0, none⟩), undef, .slice none 0 0, .pointer (some ⟨Bx, 0, none⟩), .func (.func gf) #[] lb, .agg #[.int .i64 x.a, .int .i64 x.b, .int .i64 x.c, .int .i64 x.d, .int .i64 x.e], undef, undef, undef, undef, undef], defers := [] })
    (fun x a' _ X Y row hs hg hr => by obtain ⟨Bx, h1, h2, h3⟩ := hs; exact ⟨Bx, h1, cellsN hg (fun r e => (hr r e).2) h2, h3⟩)
    ?assign ?body ?done ?stop
  case assign =>
    rintro l pre x V K hpx ⟨⟨v, h1, h2⟩, hB⟩ hK
    unfold KeyD.v keyV
    have hzV := (Array.getElem?_eq_some_iff.1 h1).1
    gi_wp2
    exact hK _ _ (only_alloc0 _ _ _) ⟨⟨v, box_on h1 (bal1 _ _), h2.on (bal1 _ _)⟩, hB.alloc hB.size _⟩ ⟨V.heap.size, by omega, al1 _ _, rfl⟩
  case body =>
    rintro l pre x a' V hpx ⟨⟨v, h1, h2⟩, hB⟩ ⟨Bx, hBx, qx, rfl⟩
    have hpl : pre.length + 1 ≤ 1100000 := by
      have h := hpx.length_le
      simp at h
      omega
    obtain ⟨A, c, rfl, _, _⟩ := h2.shape
    have Q1 := Lib.hid h1
    have R1 := Lib.hid h2
    have HBV := Lib.hid hB
    have hzV := (Array.getElem?_eq_some_iff.1 h1).1
    obtain ⟨a0, a1, a2, a3, a4, a5⟩ := box5 qx
    obtain ⟨c0, c1⟩ := box1N h1
    have ba := bal1 V (.cells #[.int .i64 x.a, .int .i64 x.b, .int .i64 x.c, .int .i64 x.d, .int .i64 x.e] 75)
    have HA := Lib.hid (At.key V x 75)
    have HRow := Lib.hid (h2.on ba)
    clear h1 h2 hB qx ba
    gi_wp2_with (gi_at_builtin; refine wpListIn_appK _ rfl (.tmp 8) (.tmp 10) rfl (w.heap.size + 1) _ pre rfl HRow.out V.heap.size 1 [x] rfl HA.out (by simp; omega) (by simp; omega) ?_; intro v1 w1 o1 g1; obtain ⟨Av, cv, rfl, _, _⟩ := o1.shape; have hk1 : w1.heap[w.heap.size]? = some (.cells #[.slice A pre.length c] 115 (0, 0)) := (g1.block _ (by simp; omega) (fun e => by have := (HRow.out.lt _ e.symm).2; omega)).trans (box_on Q1.out (bal1 V (.cells #[.int .i64 x.a, .int .i64 x.b, .int .i64 x.c, .int .i64 x.d, .int .i64 x.e] 75))); have G1 := Lib.hid g1; have O1 := Lib.hid o1; have K1 := Lib.hid hk1; clear c0 c1; obtain ⟨c0, c1⟩ := box1N hk1; clear hk1 o1 g1)
    have ht1 : Kept 75 n₀ W0.heap.size (V.alloc (.cells #[.int .i64 x.a, .int .i64 x.b, .int .i64 x.c, .int .i64 x.d, .int .i64 x.e] 75)) w1 := by
      refine Only.kept (S := fun b => (Value.slice A pre.length c).ownBlock = some b) ⟨G1.out.os, G1.out.tape, G1.out.output, G1.out.size, fun i hi hn => G1.out.block i hi (fun e => hn e.symm)⟩ _ (fun b hb => ⟨by have := (HRow.out.lt _ hb).2; omega, fun _ => HRow.out.cells hb⟩)
    have ht2 : Kept 75 n₀ W0.heap.size w1 (w1.setCell ⟨w.heap.size, 0, none⟩ (.slice Av (pre.length + 1) cv)) :=
      Only.kept (S := fun b => b = w.heap.size) (Only.setCell (S := fun b => b = w.heap.size) (g := w.heap.size) (Only.refl _ _) rfl _) _ (fun b hb => ⟨by omega, fun h => by omega⟩)
    have hlen1 : (pre ++ [x]).length = pre.length + 1 := by simp
    have o2 := O1.out
    rw [hlen1] at o2
    refine ⟨((Kept.of_below (bal1 _ _) _ _ _).trans ht1).trans ht2, ⟨_, box_set K1.out, o2.set (by omega)⟩, ?_⟩
    have hb1 : Below w.heap.size (V.alloc (.cells #[.int .i64 x.a, .int .i64 x.b, .int .i64 x.c, .int .i64 x.d, .int .i64 x.e] 75)) w1 := (Below.refl _ _).grown G1.out (by simp; omega) (fun k e => by have := (HRow.out.lt _ e).2; omega)
    exact ((HBV.out.alloc HBV.out.size _).trans hb1).setCell (p := ⟨w.heap.size, 0, none⟩) (Nat.le_refl _) _
  case done =>
    rintro D V hD ⟨⟨v, h1, h2⟩, hB⟩ hK
    obtain ⟨c0, c1⟩ := box1N h1
    obtain ⟨A, c, rfl, _, _⟩ := h2.shape
    gi_wp2
    refine ⟨by simp, .inl ⟨_, _, rfl, run_takeDeferred hK, ?_⟩⟩
    have hput := fun b cur e => cellsN (b := b) (cur := cur) (e := e) (grownBy_putObj' V D (.deferred none)) (fun r e => by cases e; exact ⟨_, hK, rfl⟩)
    exact ⟨_, results_tmp rfl _ _ _, _, rfl, (h2.keepC hput).mono (by omega), hB.trans (belowK_b (w := w) (Nat.le_refl _) _ D _ _ (by omega) hK rfl rfl)⟩
  case stop =>
    rintro D cd pre V hD _ h hK
    exact h.elim
theorem reads_nilK (w : World) : Reads w w.heap.size (.slice none 0 0) (keysD []) := Reads.nil none 0 75 5 (Nat.zero_le _)
theorem collect_any (gf n₀ : Nat) (lb : Array Value) (xs : List KeyD) (w : World) (hn₀ : n₀ ≤ w.heap.size) (eg : ∀ args w, (callFunc gf args).run Try.prog w = .ok (.enter gf args) w) (hseq : SeqL 75 Try.prog gf lb (fun k : KeyD => #[k.v]) n₀ xs w) (hl : xs.length ≤ 1100000) :
    Calls Try.prog 112 #[.func (.func gf) #[] lb] w (NewK w xs) := by
  go_enter Try.func112, Try.ntmps112
  go_wp2_with fail
  refine (appendSeq_any gf n₀ lb xs w hn₀ eg hseq hl).mono ?_
  rintro r w1 ⟨v1, rfl, o1, b1⟩
  have O1 := Lib.hid o1
  have B1 := Lib.hid b1
  clear o1 b1 eg hseq
  go_wp2
  go_ret
  exact ⟨_, rfl, O1.out, B1.out⟩
set_option maxHeartbeats 400000 in
theorem implNodeKeys_any (v : Value) (ns : List (List KeyD)) (w : World) (hv : Reads w w.heap.size v (setsD ns)) (h1 : ns.length ≤ 1048576) (h2 : sumN ns ≤ 1048576) : Calls Try.prog 107 #[.agg #[v]] w (NewK w (nodeKeysK ns)) := by
  obtain ⟨A, c, rfl, _, _⟩ := hv.lenN
  obtain ⟨zs, hzl, hzm, hzs, hzr⟩ := sets_sv hv
  have hkf : keysOfS zs = ns.flatten := by rw [keysOfS_map, hzm]
  have hfl : ns.flatten.length ≤ 1048576 := by rw [flat_sum ns]; exact h2
  rw [keys_flat]
  have HM := Lib.hid (mergeK_len [] ns.flatten)
  generalize hfn : ns.flatten = L at *
  have HKF := Lib.hid hkf
  have HL : Hid (∀ z ∈ zs, z.ks.length ≤ 1100000) := Lib.hid (fun z hz => Nat.le_trans (sumN_sv hzm hz) (by omega))
  have hn : zs.length ≤ 1100000 := by omega
  rw [← hzl] at *
  have B0 := bal3 w (.cells #[.slice A zs.length c] 87) (.cells #[.slice A zs.length c] 85) (.cells #[.func (.func 120) #[] #[.pointer (some ⟨w.heap.size + 1, 0, none⟩)]] 151)
  obtain ⟨q0, q1, q2⟩ := al3 w (.cells #[.slice A zs.length c] 87) (.cells #[.slice A zs.length c] 85) (.cells #[.func (.func 120) #[] #[.pointer (some ⟨w.heap.size + 1, 0, none⟩)]] 151)
  have hz3 : (((w.alloc (.cells #[.slice A zs.length c] 87)).alloc (.cells #[.slice A zs.length c] 85)).alloc (.cells #[.func (.func 120) #[] #[.pointer (some ⟨w.heap.size + 1, 0, none⟩)]] 151)).heap.size = w.heap.size + 3 := by simp
  have HZS := Lib.hid hzs
  have HZR := Lib.hid hzr
  have HB := Lib.hid B0
  have Q1 := Lib.hid q1
  have Q2 := Lib.hid q2
  have HZ := Lib.hid hz3
  clear hkf hzs hzr hv B0 q0 q1 q2 hzm hfn hz3 hzl
  go_enter Try.func107, Try.ntmps107
  go_wp2_with fail
  refine (allF_any _ _ _ _).mono ?_
  rintro r w1 ⟨rfl, rfl⟩
  go_wp2_with fail
  refine (layered_any _ _ _).mono ?_
  rintro r w2 ⟨rfl, rfl⟩
  go_wp2_with fail
  generalize ((w.alloc (.cells #[.slice A zs.length c] 87)).alloc (.cells #[.slice A zs.length c] 85)).alloc (.cells #[.func (.func 120) #[] #[.pointer (some ⟨w.heap.size + 1, 0, none⟩)]] 151) = W0 at *
  have hz := HZ.out
  have hww := HB.out.size
  have HC := Lib.hid (collect_any 119 W0.heap.size #[.pointer (some ⟨w.heap.size + 1 + 1, 0, none⟩)] (keysOfS zs) W0 (Nat.le_refl _) (enters_of Try.func119 (by kernel_rfl) rfl)
    (layered_seq 75 (fun _ _ h => by cases h) (w.heap.size + 1 + 1) W0.heap.size 120 #[.pointer (some ⟨w.heap.size + 1, 0, none⟩)] zs W0 (Nat.le_refl _) (by omega) (box1N Q2.out).1 (enters_of Try.func120 (by kernel_rfl) rfl)
      (all_seq 75 (w.heap.size + 1) W0.heap.size A c zs hn (by omega) W0 (Nat.le_refl _) (box1N Q1.out).1 ((HZS.out.below HB.out).mono hww))
      (fun z hz => (HZR.out z hz).on HB.out) HL.out) (by rw [HKF.out]; omega))
  rw [HKF.out] at HC
  refine HC.out.mono ?_
  clear HC hz
  rintro r w3 ⟨v3, rfl, o3, b3⟩
  have B3 := Lib.hid (bstep HB.out b3)
  have O3 := Lib.hid o3.owns
  obtain ⟨A3, c3, rfl, _, _⟩ := o3.shape
  clear o3 b3
  go_wp2_with fail
  refine (implMergeSets_any _ _ [] L _ (reads_nilK _) O3.out.reads (by rw [List.length_nil]; omega)).mono ?_
  rintro r w4 ⟨v4, rfl, o4, b4⟩
  have hml := HM.out
  simp only [List.length_nil] at hml
  generalize mergeK [] L = M at *
  have B4 := Lib.hid (bstep B3.out b4)
  have O4 := Lib.hid o4.owns
  obtain ⟨A4, c4, rfl, _, _⟩ := o4.shape
  clear o4 b4
  go_wp2_with fail
  refine (implDrop_any _ M _ O4.out.reads (by omega)).mono ?_
  rintro r w5 ⟨v5, rfl, o5, b5⟩
  have B5 := Lib.hid (bstep B4.out b5)
  have O5 := Lib.hid (o5.mono B4.out.size)
  clear o5 b5
  go_wp2
  go_ret
  exact ⟨_, rfl, O5.out, B5.out⟩
set_option maxHeartbeats 1000000 in
theorem implNodeNew_any (v : Value) (l : List KeyD) (w : World) (hv : Reads w w.heap.size v (keysD l)) (hn : l.length ≤ 1100000) : Calls Try.prog 53 #[v] w (NewN w (nodeNewK l)) := by
  obtain ⟨A, c, rfl, _, _⟩ := hv.shapeK
  have B0 := bal1 w (.cells #[.slice none 0 0] 87)
  have HB := Lib.hid B0
  have Q0 := Lib.hid (al1 w (.cells #[.slice none 0 0] 87))
  have HV := Lib.hid (hv.on B0)
  have HZ : Hid ((w.alloc (.cells #[.slice none 0 0] 87)).heap.size = w.heap.size + 1) := Lib.hid (by simp)
  clear hv B0
  by_cases h0 : l.length = 0
  · rw [len0K l h0]
    have z0 : ((l.length : Int) == 0) = true := by simp [h0]
    clear h0
    go_enter Try.func53, Try.ntmps53
    go_upto_region 1 with (fail)
    generalize w.alloc (.cells #[.slice none 0 0] 87) = W at *
    obtain ⟨x0, x1⟩ := box1N Q0.out
    go_wp2
    refine bodyPost_ret (v := .agg #[.slice none 0 0]) (by simp [results, Try.results53, go_sem, *]) rfl ⟨_, rfl, .nil _ _ _, ?_⟩
    exact HB.out.setCell (p := ⟨w.heap.size, 0, none⟩) (Nat.le_refl _) _
  · rw [lenpK l h0]
    have z0 : ((l.length : Int) == 0) = false := by simp; simpa using h0
    clear h0
    go_enter Try.func53, Try.ntmps53
    go_upto_region 1 with (fail)
    generalize w.alloc (.cells #[.slice none 0 0] 87) = W at *
    go_wp2_with fail
    refine (cloneK_any _ l _ HV.out (by omega)).mono ?_
    rintro r w1 ⟨v1, rfl, o1, b1⟩
    have O1 := Lib.hid (Owns.wrap o1.owns b1.size)
    have hzs := b1.size
    obtain ⟨Av, cv, rfl, _, _⟩ := o1.shape
    have B1 := Lib.hid (bstep (bstep HB.out b1) (bal1 w1 (.cells #[.slice Av l.length cv] 115)))
    obtain ⟨x0, x1⟩ := box1N (box_on Q0.out (bstep b1 (bal1 w1 (.cells #[.slice Av l.length cv] 115))))
    clear o1 b1
    go_wp2
    have hz := HZ.out
    refine bodyPost_ret (v := .agg #[.slice (some ⟨w1.heap.size, 0, none⟩) 1 1]) (by simp [results, Try.results53, go_sem, x0, x1]) rfl ⟨_, rfl, ?_, ?_⟩
    · exact (O1.out.setFar (by omega)).mono (fun b hb => by omega)
    · exact B1.out.setCell (p := ⟨w.heap.size, 0, none⟩) (Nat.le_refl _) _
end Go.Proofs.Ytmpgmjnagpiijaa
