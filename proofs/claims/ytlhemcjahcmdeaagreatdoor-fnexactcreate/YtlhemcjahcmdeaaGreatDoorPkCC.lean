/- Several texts in one: KSetIMerge, NodeIKeys, TreePure, PoolFind, AgePure, AgeFind, Last, Terse, Last2, Last3, AgeOkA, TreeWhere, TreeKeys, TreeOk, PoolPure, VolPut, NodeCopy, TreeCopy, NodeBox, TreePutPure, DoPure, Box, PoolSet. -/
import Derived.OrdersHeld
import Derived.Deep.RegionHeld3
import Derived.Deep.DeepCutAuto
import Derived.Test.YtlhemcjahcmdeaaGreatDoorPkCB
namespace Go.Proofs.YtlhemcjahcmdeaaGreatDoor
open Go.RowKit
theorem zA {α : Type _} {xs : List α} {i : Nat} (h : i < xs.toArray.size) : xs.toArray[i] = xs[i]'(by simpa using h) := rfl
theorem zB {α : Type _} (a : α) (l : List α) (i : Nat) (h : i + 1 < (a :: l).length) : (a :: l)[i + 1] = l[i]'(Nat.lt_of_succ_lt_succ h) := rfl
theorem zC {α : Type _} (a : α) (l : List α) (h : 0 < (a :: l).length) : (a :: l)[0] = a := rfl
theorem zD {α : Type _} (l : List α) (i : Nat) (a : α) : l.toArray.setIfInBounds i a = (l.set i a).toArray := by simp
theorem zE {α : Type _} (x y : α) (l : List α) : (x :: l).set 0 y = y :: l := rfl
theorem zF {α : Type _} (x y : α) (l : List α) (n : Nat) : (x :: l).set (n + 1) y = x :: l.set n y := rfl
set_option maxRecDepth 100000
set_option linter.unusedSimpArgs false
set_option linter.unusedVariables false

theorem cloneK_any (v : Value) (l : List KeyD) (w : World) (hv : Reads w w.heap.size v (keysD l)) (hn : l.length ≤ 2097152) : Calls Tryz.prog 294 #[v] w (NewK w l) := by
  obtain ⟨A, c, rfl, _, _⟩ := hv.shapeK
  rcases A with _ | ad
  · have h0 : l = [] := by
      rcases hv.atK with h | ⟨b, off, h, _⟩
      · have := congrArg List.length h
        rw [kvl_len] at this
        exact List.length_eq_zero_iff.1 (by simp at this; omega)
      · cases h
    subst h0
    have hq := run_eqnil (P := Tryz.prog) w 221 112 none 0 c Tryz.underlying221
    go_enter Tryz.func294, Tryz.ntmps294
    go_wp2
    go_ret
    exact ⟨_, rfl, row_nil _ _ _ _, Below.refl _ _⟩
  · have b0 := bal1 w (.cells #[] 112)
    have HAt := Lib.hid ((hv.on b0).atK)
    have HRow := Lib.hid (RowK.lit w)
    have HB := Lib.hid b0
    have HZ := Lib.hid b0.size
    have hq := run_eqnil (P := Tryz.prog) w 221 112 (some ad) l.length c Tryz.underlying221
    clear hv b0
    go_enter Tryz.func294, Tryz.ntmps294
    go_wp2_with (at_builtin; refine wpList_appK _ rfl (.tmp 5) (.tmp 6) rfl w.heap.size _ [] rfl HRow.out (some ad) l.length c l rfl rfl HAt.out (by simp; omega) HZ.out ?_; intro v1 w1 o1 b1; clear HRow HAt)
    go_ret
    exact ⟨v1, rfl, o1, HB.out.trans b1⟩
set_option maxHeartbeats 2000000 in
theorem implMergeSets_any (v u : Value) (a b : List KeyD) (w : World) (hv : Reads w w.heap.size v (keysD a)) (hu : Reads w w.heap.size u (keysD b)) (hn : a.length + b.length ≤ 1500000) : Calls Tryz.prog 358 #[v, u] w (NewK w (mergeK a b)) := by
  obtain ⟨A, c, rfl, _, _⟩ := hv.shapeK
  obtain ⟨A', c', rfl, _, _⟩ := hu.shapeK
  obtain ⟨R, hR⟩ : ∃ R, mergeK a b = R := ⟨_, rfl⟩
  rw [hR]
  have HC := Lib.hid cloneK_any
  have HK := Lib.hid keySet_any
  have HP := Lib.hid put_any
  unfold lessV at HK HP
  unfold KeyD.v keyV at HP
  have hst := store_less
  have HR := Lib.hid hR
  have HU := Lib.hid hu
  have HV := Lib.hid hv
  clear hv hu hR
  go_enter Tryz.func358, Tryz.ntmps358
  go_wp2_with fail
  refine (HC.out _ a _ HV.out (by omega)).mono ?_
  rintro r w1 ⟨v1, rfl, o1, b1⟩
  have HG1 := Lib.hid (show Grow w w1 v1 a from ⟨o1, b1⟩)
  obtain ⟨A1, c1, rfl, _, _⟩ := o1.shape
  clear o1 b1 HV
  go_wp2_with fail
  refine (HK.out _ _ _ _).mono ?_
  rintro r w2 ⟨rfl, b2⟩
  have HG2 := Lib.hid (HG1.out.on b2)
  have ba := bal1 w2 (.cells #[.slice A1 a.length c1, .func (.func 368) #[] #[]] 348)
  have START := Lib.hid (HG2.out.on ba)
  have BOX := Lib.hid (al1 w2 (.cells #[.slice A1 a.length c1, .func (.func 368) #[] #[]] 348))
  have hz2 := HG2.out.2.size
  have NEQ : Hid (∀ g, (Value.slice A1 a.length c1).ownBlock = some g → g ≠ w2.heap.size) := Lib.hid (fun g hg => by have := (HG2.out.1.lt g hg).1; omega)
  clear HG1 HG2 b2 ba
  go_wp2
  go_loopw [7, 13] (fun _ i wr => ∃ (k : Nat) (m : List KeyD) (o : Value), k ≤ b.length ∧ i = .int .i64 k ∧ Hid (m.length ≤ a.length + k) ∧ Hid (mergeK m (b.drop k) = R) ∧ Hid (Grow w wr o m) ∧ Hid (wr.heap[w2.heap.size]? = some (.cells #[o, .func (.func 368) #[] #[]] 348)) ∧ Hid (∀ g, o.ownBlock = some g → g ≠ w2.heap.size)) (fun _ i _ => b.length - (intOf i).toNat)
  case atStart => exact ⟨0, a, _, Nat.zero_le _, rfl, Lib.hid (Nat.le_refl _), HR, START, BOX, NEQ⟩
  case round =>
    clear START BOX NEQ
    obtain ⟨k, m, o, hk, rfl, HM, HI, HG, BOX, NEQ⟩ := hrel
    obtain ⟨Ao, co, rfl, _, _⟩ := HG.out.1.shape
    have hzw : w2.heap.size < wr.heap.size := (Array.getElem?_eq_some_iff.1 BOX.out).1
    by_cases hlt : k < b.length
    · obtain ⟨bb, off, rfl, hbb, hc⟩ := (HU.out.on HG.out.2).keys hlt
      have i1 : (k : Int) < (b.length : Int) := by omega
      have i2 : (0 : Int) ≤ (k : Int) := by omega
      obtain ⟨c0, c1, c2, c3, c4⟩ := hc k hlt
      have ba := bal1 wr (.cells #[.int .i64 (b[k]).a, .int .i64 (b[k]).b, .int .i64 (b[k]).c, .int .i64 (b[k]).d, .int .i64 (b[k]).e] 112)
      have HGa := Lib.hid (HG.out.on ba)
      have BOXa := Lib.hid (box_on BOX.out ba)
      have hza : (wr.alloc (.cells #[.int .i64 (b[k]).a, .int .i64 (b[k]).b, .int .i64 (b[k]).c, .int .i64 (b[k]).d, .int .i64 (b[k]).e] 112)).heap.size = wr.heap.size + 1 := by simp
      obtain ⟨x0, x1, x2⟩ := box2 BOXa.out
      have HZa := Lib.hid hza
      clear hc ba hza
      go_wp2_with fail
      refine (HP.out _ m b[k] _ HGa.out.reads (by have := HM.out; omega)).mono ?_
      rintro r w5 ⟨v5, rfl, o5, b5⟩
      have bx := box_on BOXa.out b5
      rw [HZa.out] at o5
      have hb5 := bstep HGa.out.2 b5
      have HM2 := Lib.hid (show (putK m b[k]).length ≤ a.length + (k + 1) by have := putK_len m b[k]; have := HM.out; omega)
      obtain ⟨A5, c5, rfl, _, _⟩ := o5.shape
      have NEQ5 : Hid (∀ g, (Value.slice A5 (putK m b[k]).length c5).ownBlock = some g → g ≠ w2.heap.size) := Lib.hid (fun g hg => by have := (o5.lt g hg).2; omega)
      have HG5 := Lib.hid (show Grow w ((w5.setCell ⟨w2.heap.size, 0, none⟩ (.slice A5 (putK m b[k]).length c5)).setCell ⟨w2.heap.size, 1, none⟩ (.func (.func 368) #[] #[])) (.slice A5 (putK m b[k]).length c5) (putK m b[k]) from ⟨((o5.set (by omega)).set (by omega)).mono (by have := HG.out.2.size; omega), (hb5.setCell (p := ⟨w2.heap.size, 0, none⟩) hz2 _).setCell (p := ⟨w2.heap.size, 1, none⟩) hz2 _⟩)
      have BOX5 := Lib.hid (box_set (i := 1) (u := .func (.func 368) #[] #[]) (box_set (i := 0) (u := .slice A5 (putK m b[k]).length c5) bx))
      clear x0 x1 x2 c0 c1 c2 c3 c4
      obtain ⟨x0, x1, x2⟩ := box2 bx
      clear o5 b5 bx hb5 HGa HG BOXa BOX NEQ
      go_wp2
      go_roundw
      case rel => exact ⟨k + 1, putK m b[k], _, by omega, by go_num, HM2, Lib.hid (merge_step hlt HI.out), HG5, BOX5, NEQ5⟩
      case measure => simp [intOf]; omega
    · have e : m = R := by
        have := HI.out
        rw [List.drop_eq_nil_of_le (by omega)] at this
        exact this
      subst e
      obtain ⟨x0, x1, x2⟩ := box2 BOX.out
      go_wp2
      go_ret
      exact ⟨_, rfl, HG.out.1, HG.out.2⟩
end Go.Proofs.YtlhemcjahcmdeaaGreatDoor
namespace Go.Proofs.YtlhemcjahcmdeaaGreatDoor
open Go.RowKit Go.Shelf
set_option maxRecDepth 100000
set_option linter.unusedSimpArgs false
set_option linter.unusedVariables false
attribute [local go_sem] Oper.semAt_some

theorem RowK.keepC {w w' : World} {base : Nat} {v : Value} {l : List KeyD} (h : RowK w base v l) (hk : ∀ (b : Nat) (cur : Array Value) (e : TypeId), w.heap[b]? = some (.cells cur e (0, 0)) → w'.heap[b]? = some (.cells cur e (0, 0))) : RowK w' base v l := by
  obtain ⟨h1, h2 | ⟨g, cap, cur, e1, e2, e3, e4⟩⟩ := h
  · exact ⟨h1, .inl h2⟩
  · exact ⟨h1, .inr ⟨g, cap, cur, e1, e2, hk _ _ _ e3, e4⟩⟩
theorem RowK.cells {w : World} {base : Nat} {v : Value} {l : List KeyD} (h : RowK w base v l) {g : Nat} (hg : v.ownBlock = some g) : ∃ cur, w.heap[g]? = some (.cells cur 112 (0, 0)) := by
  obtain ⟨h1, ⟨rfl, _⟩ | ⟨g', cap, cur, rfl, e2, e3, e4⟩⟩ := h
  · simp [Value.ownBlock] at hg
  · simp [Value.ownBlock] at hg
    subst hg
    exact ⟨cur, e3⟩
theorem wpListIn_appK {F : Fence} {n : Nat} {ops : Array Oper} {rest : List Oper} {o : Oper} {a : Act} {Q : Exit → Act → World → Prop} (w : World) (hgd : o.guard = none) (s x : Operand)
    (hop : o.op = .call { callee := .builtin .append, args := #[s, x], argTypes := #[221, 221] })
    (base : Nat) (v : Value) (l : List KeyD) (hs : a.eval s = v) (hown : RowK w base v l) (b c : Nat) (m : List KeyD) (hx : a.eval x = .slice (some ⟨b, 0, none⟩) m.length c) (hA : At w (some ⟨b, 0, none⟩) (kvl m)) (hlen : l.length + m.length ≤ 1073741824) (hbase : base ≤ w.heap.size)
    (h : ∀ v' w', RowK w' base v' (l ++ m) → w.grownBy w' v.ownBlock → wpListIn F n Tryz.prog ops Q rest (a.put o.dst v') w') : wpListIn F n Tryz.prog ops Q (o :: rest) a w := by
  obtain ⟨i, hi, h0, h1, h2⟩ := info_parts key_info
  refine wpListIn_append_own w hgd s x 221 hop base 112 i _ 5 40 Tryz.underlying221 hi h0 h1 h2 rfl (by omega) v l.length (kvl l) hs hown ⟨b, 0, none⟩ m.length c (kvl m) hx (kvl_len m) ?_ (kvl_cells m) (by unfold maxLen; omega) (by omega) hbase ?_
  · intro j u hu
    have hj := (List.getElem?_eq_some_iff.1 hu).1
    rcases hA with h | ⟨b', off, he, hc⟩
    · rw [h] at hj; simp at hj
    · injection he with he
      injection he with e1 e2
      subst e1 e2
      rw [Addr.add_lit, hc j hj]
      rw [List.getElem?_eq_getElem hj] at hu
      exact hu
  · intro v' w' h2 h3 _
    refine h v' w' ?_ h3
    rw [← kvl_append, ← List.length_append] at h2
    exact h2
set_option maxHeartbeats 4000000 in
theorem appendSeq_any (gf n₀ : Nat) (lb : Array Value) (xs : List KeyD) (w : World) (hn₀ : n₀ ≤ w.heap.size) (eg : ∀ args w, (callFunc gf args).run Tryz.prog w = .ok (.enter gf args) w) (hseq : SeqL 112 Tryz.prog gf lb (fun k : KeyD => #[k.v]) n₀ xs w) (hl : xs.length ≤ 1100000) :
    Calls Tryz.prog 366 #[.slice none 0 0, .func (.func gf) #[] lb] w (NewK w xs) := by
  have HSQ := Lib.hid hseq
  have q0 := al1 w (.cells #[.slice none 0 0] 221)
  have hb := bal1 w (.cells #[.slice none 0 0] 221)
  have hz : (w.alloc (.cells #[.slice none 0 0] 221)).heap.size = w.heap.size + 1 := by simp
  clear hseq
  refine (callsIn_wide (n := 3)).1 ?_
  refine callsIn_of_wp_marks Tryz.func366 rfl trivial ?_ rfl
  simp only [Tryz.ntmps366, List.size_toArray, List.length_cons, List.length_nil, Nat.reduceAdd, Nat.reduceSub, Array.replicate_succ, Array.replicate_zero, List.push_toArray, List.append_toArray, List.nil_append, List.cons_append]
  gi_wp2
  generalize w.alloc (.cells #[.slice none 0 0] 221) = W0 at *
  refine rangeL (E := 112) (gf := gf) (lb := lb) rfl eg HSQ.out hb (by omega) (fun _ => rfl)
    (fun pre V => (∃ v, V.heap[w.heap.size]? = some (.cells #[v] 221 (0, 0)) ∧ RowK V (w.heap.size + 1) v pre) ∧ Below w.heap.size w V)
    (fun _ _ _ => False)
    (fun s X Y row hs hg hr => by
      obtain ⟨⟨v, h1, h2⟩, h3⟩ := hs
      have hr' : ∀ r, row = some r → ∃ o : Obj, X.heap[r]? = some o ∧ o.isCells = false := fun r e => (hr r e).2
      exact ⟨⟨v, cellsN hg hr' h1, h2.keepC (fun _ _ _ h => cellsN hg hr' h)⟩, ownFrom_below (β := Unit) (Nat.le_refl _) hb.size () X Y row h3 hg hr⟩)
    (fun _ _ _ _ _ hs _ _ => hs.elim)
    ⟨⟨_, q0, row_nil _ _ _ _⟩, hb⟩
    (fun x a' V => ∃ Bx, W0.heap.size ≤ Bx ∧ V.heap[Bx]? = some (.cells #[.int .i64 x.a, .int .i64 x.b, .int .i64 x.c, .int .i64 x.d, .int .i64 x.e] 112 (0, 0)) ∧ a' = { tmps := #[.slice none 0 0, .func (.func gf) #[] lb, .pointer (some ⟨w.heap.size, 0, none⟩), undef, .slice none 0 0, .pointer (some ⟨Bx, 0, none⟩), .func (.func gf) #[] lb, .agg #[.int .i64 x.a, .int .i64 x.b, .int .i64 x.c, .int .i64 x.d, .int .i64 x.e], undef, undef, undef, undef, undef], defers := [] })
    (fun x a' _ X Y row hs hg hr => by obtain ⟨Bx, h1, h2, h3⟩ := hs; exact ⟨Bx, h1, cellsN hg (fun r e => (hr r e).2) h2, h3⟩)
    ?assign ?body ?done ?stop
  case assign =>
    rintro l pre x V K hpx ⟨⟨v, h1, h2⟩, hB⟩ hK
    unfold KeyD.v keyV
    have hzV := (Array.getElem?_eq_some_iff.1 h1).1
    gi_wp2
    exact hK _ _ (only_alloc0 _ _ _) ⟨⟨v, box_on h1 (bal1 _ _), h2.on (bal1 _ _)⟩, hB.alloc hB.size _⟩ ⟨V.heap.size, by omega, al1 _ _, rfl⟩
  case body =>
    rintro l pre x a' V hpx ⟨⟨v, h1, h2⟩, hB⟩ ⟨Bx, hBx, qx, rfl⟩
    have hpl : pre.length + 1 ≤ 1100000 := by
      have h := hpx.length_le
      simp at h
      omega
    obtain ⟨A, c, rfl, _, _⟩ := h2.shape
    have Q1 := Lib.hid h1
    have R1 := Lib.hid h2
    have HBV := Lib.hid hB
    have hzV := (Array.getElem?_eq_some_iff.1 h1).1
    obtain ⟨a0, a1, a2, a3, a4, a5⟩ := box5 qx
    obtain ⟨c0, c1⟩ := box1N h1
    have ba := bal1 V (.cells #[.int .i64 x.a, .int .i64 x.b, .int .i64 x.c, .int .i64 x.d, .int .i64 x.e] 112)
    have HA := Lib.hid (At.key V x 112)
    have HRow := Lib.hid (h2.on ba)
    clear h1 h2 hB qx ba
    gi_wp2_with (gi_at_builtin; refine wpListIn_appK _ rfl (.tmp 8) (.tmp 10) rfl (w.heap.size + 1) _ pre rfl HRow.out V.heap.size 1 [x] rfl HA.out (by simp; omega) (by simp; omega) ?_; intro v1 w1 o1 g1; obtain ⟨Av, cv, rfl, _, _⟩ := o1.shape; have hk1 : w1.heap[w.heap.size]? = some (.cells #[.slice A pre.length c] 221 (0, 0)) := (g1.block _ (by simp; omega) (fun e => by have := (HRow.out.lt _ e.symm).2; omega)).trans (box_on Q1.out (bal1 V (.cells #[.int .i64 x.a, .int .i64 x.b, .int .i64 x.c, .int .i64 x.d, .int .i64 x.e] 112))); have G1 := Lib.hid g1; have O1 := Lib.hid o1; have K1 := Lib.hid hk1; clear c0 c1; obtain ⟨c0, c1⟩ := box1N hk1; clear hk1 o1 g1)
    have ht1 : Kept 112 n₀ W0.heap.size (V.alloc (.cells #[.int .i64 x.a, .int .i64 x.b, .int .i64 x.c, .int .i64 x.d, .int .i64 x.e] 112)) w1 := by
      refine Only.kept (S := fun b => (Value.slice A pre.length c).ownBlock = some b) ⟨G1.out.os, G1.out.tape, G1.out.output, G1.out.size, fun i hi hn => G1.out.block i hi (fun e => hn e.symm)⟩ _ (fun b hb => ⟨by have := (HRow.out.lt _ hb).2; omega, fun _ => HRow.out.cells hb⟩)
    have ht2 : Kept 112 n₀ W0.heap.size w1 (w1.setCell ⟨w.heap.size, 0, none⟩ (.slice Av (pre.length + 1) cv)) :=
      Only.kept (S := fun b => b = w.heap.size) (Only.setCell (S := fun b => b = w.heap.size) (g := w.heap.size) (Only.refl _ _) rfl _) _ (fun b hb => ⟨by omega, fun h => by omega⟩)
    have hlen1 : (pre ++ [x]).length = pre.length + 1 := by simp
    have o2 := O1.out
    rw [hlen1] at o2
    refine ⟨((Kept.of_below (bal1 _ _) _ _ _).trans ht1).trans ht2, ⟨_, box_set K1.out, o2.set (by omega)⟩, ?_⟩
    have hb1 : Below w.heap.size (V.alloc (.cells #[.int .i64 x.a, .int .i64 x.b, .int .i64 x.c, .int .i64 x.d, .int .i64 x.e] 112)) w1 := (Below.refl _ _).grown G1.out (by simp; omega) (fun k e => by have := (HRow.out.lt _ e).2; omega)
    exact ((HBV.out.alloc HBV.out.size _).trans hb1).setCell (p := ⟨w.heap.size, 0, none⟩) (Nat.le_refl _) _
  case done =>
    rintro D V hD ⟨⟨v, h1, h2⟩, hB⟩ hK
    obtain ⟨c0, c1⟩ := box1N h1
    obtain ⟨A, c, rfl, _, _⟩ := h2.shape
    gi_wp2
    refine ⟨by simp, .inl ⟨_, _, rfl, run_takeDeferred hK, ?_⟩⟩
    have hput := fun b cur e => cellsN (b := b) (cur := cur) (e := e) (grownBy_putObj' V D (.deferred none)) (fun r e => by cases e; exact ⟨_, hK, rfl⟩)
    exact ⟨_, results_tmp rfl _ _ _, _, rfl, (h2.keepC hput).mono (by omega), hB.trans (belowK_b (w := w) (Nat.le_refl _) _ D _ _ (by omega) hK rfl rfl)⟩
  case stop =>
    rintro D cd pre V hD _ h hK
    exact h.elim
theorem reads_nilK (w : World) : Reads w w.heap.size (.slice none 0 0) (keysD []) := Reads.nil none 0 112 5 (Nat.zero_le _)
theorem collect_any (gf n₀ : Nat) (lb : Array Value) (xs : List KeyD) (w : World) (hn₀ : n₀ ≤ w.heap.size) (eg : ∀ args w, (callFunc gf args).run Tryz.prog w = .ok (.enter gf args) w) (hseq : SeqL 112 Tryz.prog gf lb (fun k : KeyD => #[k.v]) n₀ xs w) (hl : xs.length ≤ 1100000) :
    Calls Tryz.prog 357 #[.func (.func gf) #[] lb] w (NewK w xs) := by
  go_enter Tryz.func357, Tryz.ntmps357
  go_wp2_with fail
  refine (appendSeq_any gf n₀ lb xs w hn₀ eg hseq hl).mono ?_
  rintro r w1 ⟨v1, rfl, o1, b1⟩
  have O1 := Lib.hid o1
  have B1 := Lib.hid b1
  clear o1 b1 eg hseq
  go_wp2
  go_ret
  exact ⟨_, rfl, O1.out, B1.out⟩
set_option maxHeartbeats 400000 in
theorem implNodeKeys_any (v : Value) (ns : List (List KeyD)) (w : World) (hv : Reads w w.heap.size v (setsD ns)) (h1 : ns.length ≤ 1048576) (h2 : sumN ns ≤ 1048576) : Calls Tryz.prog 328 #[.agg #[v]] w (NewK w (nodeKeysK ns)) := by
  obtain ⟨A, c, rfl, _, _⟩ := hv.lenN
  obtain ⟨zs, hzl, hzm, hzs, hzr⟩ := sets_sv hv
  have hkf : keysOfS zs = ns.flatten := by rw [keysOfS_map, hzm]
  have hfl : ns.flatten.length ≤ 1048576 := by rw [flat_sum ns]; exact h2
  rw [keys_flat]
  have HM := Lib.hid (mergeK_len [] ns.flatten)
  generalize hfn : ns.flatten = L at *
  have HKF := Lib.hid hkf
  have HL : Hid (∀ z ∈ zs, z.ks.length ≤ 1100000) := Lib.hid (fun z hz => Nat.le_trans (sumN_sv hzm hz) (by omega))
  have hn : zs.length ≤ 1100000 := by omega
  rw [← hzl] at *
  have B0 := bal3 w (.cells #[.slice A zs.length c] 153) (.cells #[.slice A zs.length c] 151) (.cells #[.func (.func 359) #[] #[.pointer (some ⟨w.heap.size + 1, 0, none⟩)]] 318)
  obtain ⟨q0, q1, q2⟩ := al3 w (.cells #[.slice A zs.length c] 153) (.cells #[.slice A zs.length c] 151) (.cells #[.func (.func 359) #[] #[.pointer (some ⟨w.heap.size + 1, 0, none⟩)]] 318)
  have hz3 : (((w.alloc (.cells #[.slice A zs.length c] 153)).alloc (.cells #[.slice A zs.length c] 151)).alloc (.cells #[.func (.func 359) #[] #[.pointer (some ⟨w.heap.size + 1, 0, none⟩)]] 318)).heap.size = w.heap.size + 3 := by simp
  have HZS := Lib.hid hzs
  have HZR := Lib.hid hzr
  have HB := Lib.hid B0
  have Q1 := Lib.hid q1
  have Q2 := Lib.hid q2
  have HZ := Lib.hid hz3
  clear hkf hzs hzr hv B0 q0 q1 q2 hzm hfn hz3 hzl
  go_enter Tryz.func328, Tryz.ntmps328
  go_wp2_with fail
  refine (allF_any _ _ _ _).mono ?_
  rintro r w1 ⟨rfl, rfl⟩
  go_wp2_with fail
  refine (layered_any _ _ _).mono ?_
  rintro r w2 ⟨rfl, rfl⟩
  go_wp2_with fail
  generalize ((w.alloc (.cells #[.slice A zs.length c] 153)).alloc (.cells #[.slice A zs.length c] 151)).alloc (.cells #[.func (.func 359) #[] #[.pointer (some ⟨w.heap.size + 1, 0, none⟩)]] 318) = W0 at *
  have hz := HZ.out
  have hww := HB.out.size
  have HC := Lib.hid (collect_any 346 W0.heap.size #[.pointer (some ⟨w.heap.size + 1 + 1, 0, none⟩)] (keysOfS zs) W0 (Nat.le_refl _) (enters_of Tryz.func346 (by kernel_rfl) rfl)
    (layered_seq 112 (fun _ _ h => by cases h) (w.heap.size + 1 + 1) W0.heap.size 359 #[.pointer (some ⟨w.heap.size + 1, 0, none⟩)] zs W0 (Nat.le_refl _) (by omega) (box1N Q2.out).1 (enters_of Tryz.func359 (by kernel_rfl) rfl)
      (all_seq 112 (w.heap.size + 1) W0.heap.size A c zs hn (by omega) W0 (Nat.le_refl _) (box1N Q1.out).1 ((HZS.out.below HB.out).mono hww))
      (fun z hz => (HZR.out z hz).on HB.out) HL.out) (by rw [HKF.out]; omega))
  rw [HKF.out] at HC
  refine HC.out.mono ?_
  clear HC hz
  rintro r w3 ⟨v3, rfl, o3, b3⟩
  have B3 := Lib.hid (bstep HB.out b3)
  have O3 := Lib.hid o3.owns
  obtain ⟨A3, c3, rfl, _, _⟩ := o3.shape
  clear o3 b3
  go_wp2_with fail
  refine (implMergeSets_any _ _ [] L _ (reads_nilK _) O3.out.reads (by rw [List.length_nil]; omega)).mono ?_
  rintro r w4 ⟨v4, rfl, o4, b4⟩
  have hml := HM.out
  simp only [List.length_nil] at hml
  generalize mergeK [] L = M at *
  have B4 := Lib.hid (bstep B3.out b4)
  have O4 := Lib.hid o4.owns
  obtain ⟨A4, c4, rfl, _, _⟩ := o4.shape
  clear o4 b4
  go_wp2_with fail
  refine (implDrop_any _ M _ O4.out.reads (by omega)).mono ?_
  rintro r w5 ⟨v5, rfl, o5, b5⟩
  have B5 := Lib.hid (bstep B4.out b5)
  have O5 := Lib.hid (o5.mono B4.out.size)
  clear o5 b5
  go_wp2
  go_ret
  exact ⟨_, rfl, O5.out, B5.out⟩
end Go.Proofs.YtlhemcjahcmdeaaGreatDoor
namespace Go.Proofs.YtlhemcjahcmdeaaGreatDoor
open Go.RowKit
set_option maxRecDepth 100000
set_option linter.unusedSimpArgs false
set_option linter.unusedVariables false

def spotI (b a : Int) : Int := wrap64 (wrap64 (64 * b) + a)
theorem specSpotOf_any (b a : Int) (w : World) : Calls Tryz.prog 256 #[.int .i64 b, .int .i64 a] w fun e w' => e = .returned (.int .i64 (spotI b a)) ∧ w = w' := by
  unfold spotI
  go_enter Tryz.func256, Tryz.ntmps256
  go_wp2
  go_ret
  exact ⟨rfl, rfl⟩
theorem implSpotOf_any (b a : Int) (w : World) : Calls Tryz.prog 305 #[.int .i64 b, .int .i64 a] w fun e w' => e = .returned (.int .i64 (spotI b a)) ∧ w = w' := by
  unfold spotI
  go_enter Tryz.func305, Tryz.ntmps305
  go_wp2
  go_ret
  exact ⟨rfl, rfl⟩
end Go.Proofs.YtlhemcjahcmdeaaGreatDoor
namespace Go.Proofs.YtlhemcjahcmdeaaGreatDoor
open Go.RowKit
set_option maxRecDepth 100000
set_option linter.unusedSimpArgs false
set_option linter.unusedVariables false

/-- How many volumes at the head have another name. -/
def volJ (s : ByteArray) : List VolD → Nat
  | [] => 0
  | k :: l => if (k.a.toList == s.toList) = true then 0 else volJ s l + 1
def volK (s : ByteArray) (l : List VolD) : Int := if volJ s l < l.length then (volJ s l : Int) else -1
theorem volJ_hit {s : ByteArray} {l : List VolD} {k : Nat} (h : k < l.length) (hs : ((l[k]).a.toList == s.toList) = true) (hi : volJ s l = k + volJ s (l.drop k)) : volJ s l = k := by
  rw [vol_drop h, volJ, if_pos hs] at hi
  exact hi
theorem volJ_step {s : ByteArray} {l : List VolD} {k : Nat} (h : k < l.length) (hs : ((l[k]).a.toList == s.toList) = false) (hi : volJ s l = k + volJ s (l.drop k)) : volJ s l = (k + 1) + volJ s (l.drop (k + 1)) := by
  rw [vol_drop h, volJ, if_neg (by rw [hs]; simp)] at hi
  omega
theorem volK_hit {s : ByteArray} {l : List VolD} {k : Nat} (h : k < l.length) (hi : volJ s l = k) : volK s l = (k : Int) := by
  unfold volK
  rw [hi, if_pos h]
theorem volK_none {s : ByteArray} {l : List VolD} {k : Nat} (h : ¬ k < l.length) (hi : volJ s l = k + volJ s (l.drop k)) : volK s l = -1 := by
  unfold volK
  rw [if_neg (by omega)]
/-- How many volumes have the version. -/
def usesK (id : Int) (l : List VolD) : Nat := l.countP (fun k => k.b == id)
theorem uses_le (id : Int) (l : List VolD) (k : Nat) : usesK id (l.take k) ≤ l.length := by
  have h1 := List.countP_le_length (p := fun k : VolD => k.b == id) (l := l.take k)
  have h2 : (l.take k).length ≤ l.length := by simp; omega
  unfold usesK
  omega
theorem uses_step {id : Int} {l : List VolD} {k : Nat} (h : k < l.length) : usesK id (l.take (k + 1)) = usesK id (l.take k) + (if (l[k]).b == id then 1 else 0) := by
  unfold usesK
  rw [List.take_succ_eq_append_getElem h, List.countP_append, List.countP_singleton]
theorem specVolAt_any {t : TypeId} (vl vn va vc vv : Value) (d : PoolD) (s : ByteArray) (w : World) (h : RdP t w w.heap.size vl vn va vc vv d) (hn : d.vo.length ≤ 2097152) :
    Calls Tryz.prog 62 #[.agg #[vl, vn, va, vc, vv, .int .i64 d.nx], .string s] w fun e w' => e = .returned (.int .i64 (volK s d.vo)) ∧ Below w.heap.size w w' := by
  obtain ⟨A0, c0, A1, c1, A2, c2, A3, c3, A4, c4, rfl, rfl, rfl, rfl, rfl⟩ := h.shape
  have HV := Lib.hid (h.2.2.2)
  have Q0 := Lib.hid (al1 w (.cells #[.slice A0 d.lo.length c0, .slice A1 d.ts.length c1, .slice A2 d.ag.length c2, .slice A3 d.ce.length c3, .slice A4 d.vo.length c4, .int .i64 d.nx] 32))
  have HB := Lib.hid (bal1 w (.cells #[.slice A0 d.lo.length c0, .slice A1 d.ts.length c1, .slice A2 d.ag.length c2, .slice A3 d.ce.length c3, .slice A4 d.vo.length c4, .int .i64 d.nx] 32))
  obtain ⟨R, hR⟩ : ∃ R, volK s d.vo = R := ⟨_, rfl⟩
  rw [hR]
  have HR := Lib.hid hR
  clear h hR
  go_enter Tryz.func62, Tryz.ntmps62
  go_upto_region 2 with (fail)
  generalize w.alloc (.cells #[.slice A0 d.lo.length c0, .slice A1 d.ts.length c1, .slice A2 d.ag.length c2, .slice A3 d.ce.length c3, .slice A4 d.vo.length c4, .int .i64 d.nx] 32) = W at *
  obtain ⟨x0, x1, x2, x3, x4, x5, x6⟩ := boxP Q0.out
  go_loop [5] (fun i => ∃ k : Nat, k ≤ d.vo.length ∧ i = .int .i64 k ∧ Hid (volJ s d.vo = k + volJ s (d.vo.drop k))) (fun i => d.vo.length - (intOf i).toNat)
  case atStart => exact ⟨0, Nat.zero_le _, rfl, Lib.hid (by simp)⟩
  case round =>
    obtain ⟨k, hk, rfl, HI⟩ := hrel
    by_cases hlt : k < d.vo.length
    · obtain ⟨b, off, rfl, hbb, hc⟩ := (HV.out.on HB.out).vols hlt
      have i1 : (k : Int) < (d.vo.length : Int) := by omega
      have i2 : (0 : Int) ≤ (k : Int) := by omega
      obtain ⟨y0, y1, y2, y3⟩ := hc k hlt
      clear hc
      cases hs : ((d.vo[k]).a.toList == s.toList)
      · have HS := Lib.hid (volJ_step hlt hs HI.out)
        go_wp2
        go_round
        case rel => exact ⟨k + 1, by omega, by go_num, HS⟩
        case measure => simp [intOf]; omega
      · have HK : Hid (R = (k : Int)) := Lib.hid (by rw [← HR.out, volK_hit hlt (volJ_hit hlt hs HI.out)])
        go_wp2
        go_ret
        exact ⟨by rw [HK.out]; rfl, HB.out⟩
    · have HK : Hid (R = -1) := Lib.hid (by rw [← HR.out, volK_none hlt HI.out])
      go_wp2
      go_ret
      exact ⟨by rw [HK.out]; rfl, HB.out⟩
set_option maxHeartbeats 1000000 in
theorem implVolsWith_any {t : TypeId} (vl vn va vc vv : Value) (d : PoolD) (id : Int) (w : World) (h : RdP t w w.heap.size vl vn va vc vv d) (hn : d.vo.length ≤ 2097152) :
    Calls Tryz.prog 332 #[.agg #[vl, vn, va, vc, vv, .int .i64 d.nx], .int .i64 id] w fun e w' => e = .returned (.int .i64 (usesK id d.vo)) ∧ Below w.heap.size w w' := by
  obtain ⟨A0, c0, A1, c1, A2, c2, A3, c3, A4, c4, rfl, rfl, rfl, rfl, rfl⟩ := h.shape
  have HV := Lib.hid (h.2.2.2)
  have Q0 := Lib.hid (al1 w (.cells #[.slice A0 d.lo.length c0, .slice A1 d.ts.length c1, .slice A2 d.ag.length c2, .slice A3 d.ce.length c3, .slice A4 d.vo.length c4, .int .i64 d.nx] 32))
  have HB := Lib.hid (bal1 w (.cells #[.slice A0 d.lo.length c0, .slice A1 d.ts.length c1, .slice A2 d.ag.length c2, .slice A3 d.ce.length c3, .slice A4 d.vo.length c4, .int .i64 d.nx] 32))
  clear h
  go_enter Tryz.func332, Tryz.ntmps332
  go_upto_region 2 with (fail)
  generalize w.alloc (.cells #[.slice A0 d.lo.length c0, .slice A1 d.ts.length c1, .slice A2 d.ag.length c2, .slice A3 d.ce.length c3, .slice A4 d.vo.length c4, .int .i64 d.nx] 32) = W at *
  obtain ⟨x0, x1, x2, x3, x4, x5, x6⟩ := boxP Q0.out
  go_wp2
  go_loopw [5, 7, 11] (fun q _ i wr => ∃ k : Nat, k ≤ d.vo.length ∧ i = .int .i64 k ∧ q = .int .i64 (usesK id (d.vo.take k)) ∧ Hid (Below w.heap.size w wr)) (fun _ _ i _ => d.vo.length - (intOf i).toNat)
  case atStart => exact ⟨0, Nat.zero_le _, rfl, rfl, HB⟩
  case round =>
    obtain ⟨k, hk, rfl, rfl, HW⟩ := hrel
    by_cases hlt : k < d.vo.length
    · obtain ⟨b, off, rfl, hbb, hc⟩ := (HV.out.on HW.out).vols hlt
      have i1 : (k : Int) < (d.vo.length : Int) := by omega
      have i2 : (0 : Int) ≤ (k : Int) := by omega
      obtain ⟨y0, y1, y2, y3⟩ := hc k hlt
      have hu := uses_le id d.vo k
      have hst := uses_step (id := id) hlt
      have BA := Lib.hid (HW.out.alloc HW.out.size (.cells #[.string (d.vo[k]).a, .int .i64 (d.vo[k]).b, .int .i64 (d.vo[k]).c, .bool (d.vo[k]).d] 41))
      clear hc
      cases hs : ((d.vo[k]).b == id)
      · rw [hs] at hst
        have HS := Lib.hid hst
        clear hst
        generalize usesK id (d.vo.take k) = q at *
        go_wp2
        go_roundw
        case rel => exact ⟨k + 1, by omega, by go_num, by rw [HS.out]; rfl, BA⟩
        case measure => simp [intOf]; omega
      · rw [hs] at hst
        have HS := Lib.hid hst
        clear hst
        generalize usesK id (d.vo.take k) = q at *
        go_wp2
        go_roundw
        case rel => exact ⟨k + 1, by omega, by go_num, by rw [HS.out]; rfl, BA⟩
        case measure => simp [intOf]; omega
    · have e : k = d.vo.length := by omega
      subst e
      rw [List.take_length]
      go_wp2
      go_ret
      exact ⟨rfl, HW.out⟩
/-- The closure of VolAt, bound to the name's box. -/
theorem volAt1_any (k : VolD) (s : ByteArray) (pb : Nat) (w : World) (hp : w.heap[pb]? = some (.cells #[.string s] 9 (0, 0))) :
    Calls Tryz.prog 168 #[.agg #[.string k.a, .int .i64 k.b, .int .i64 k.c, .bool k.d], .pointer (some ⟨pb, 0, none⟩)] w (SaysBool w (k.a.toList == s.toList)) := by
  have Q0 := Lib.hid (al1 w (.cells #[.string k.a, .int .i64 k.b, .int .i64 k.c, .bool k.d] 41))
  have b0 := bal1 w (.cells #[.string k.a, .int .i64 k.b, .int .i64 k.c, .bool k.d] 41)
  have HB := Lib.hid b0
  have HP := Lib.hid (box_on hp b0)
  clear hp b0
  go_enter Tryz.func168, Tryz.ntmps168
  go_upto_region 1 with (fail)
  generalize w.alloc (.cells #[.string k.a, .int .i64 k.b, .int .i64 k.c, .bool k.d] 41) = W at *
  obtain ⟨x0, x1, x2, x3, x4⟩ := box4 Q0.out
  have y0 : W.cell? ⟨pb, 0, none⟩ = some (.string s) := by rw [cell_of_row W pb 0 _ _ _ HP.out]; rfl
  cases hs : (k.a.toList == s.toList)
  all_goals
    go_wp2
    go_ret
    exact ⟨by rw [hs]; rfl, HB.out⟩
set_option maxHeartbeats 1000000 in
theorem indexFuncV_any (v : Value) (l : List VolD) (s : ByteArray) (pb : Nat) (w : World) (hv : Reads w w.heap.size v (volsD l)) (hp : w.heap[pb]? = some (.cells #[.string s] 9 (0, 0))) (hn : l.length ≤ 2097152) :
    Calls Tryz.prog 167 #[v, .func (.func 168) #[] #[.pointer (some ⟨pb, 0, none⟩)]] w fun e w' => e = .returned (.int .i64 (volK s l)) ∧ Below w.heap.size w w' := by
  obtain ⟨A, c, rfl, _, _⟩ := hv.shapeVol
  have HT := Lib.hid volAt1_any
  have HV := Lib.hid hv
  have HP := Lib.hid hp
  clear hv hp
  obtain ⟨R, hR⟩ : ∃ R, volK s l = R := ⟨_, rfl⟩
  rw [hR]
  have HR := Lib.hid hR
  clear hR
  go_enter Tryz.func167, Tryz.ntmps167
  go_wp2
  go_loopw [5, 8] (fun _ i wr => ∃ k : Nat, k ≤ l.length ∧ i = .int .i64 k ∧ Hid (volJ s l = k + volJ s (l.drop k)) ∧ Hid (Below w.heap.size w wr)) (fun _ i _ => l.length - (intOf i).toNat)
  case atStart => exact ⟨0, Nat.zero_le _, rfl, Lib.hid (by simp), Lib.hid (Below.refl _ _)⟩
  case round =>
    obtain ⟨k, hk, rfl, HI, HB⟩ := hrel
    by_cases hlt : k < l.length
    · obtain ⟨b, off, rfl, hbb, hc⟩ := (HV.out.on HB.out).vols hlt
      have i1 : (k : Int) < (l.length : Int) := by omega
      have i2 : (0 : Int) ≤ (k : Int) := by omega
      obtain ⟨y0, y1, y2, y3⟩ := hc k hlt
      have HX := Lib.hid (HT.out l[k] s pb wr (box_on HP.out HB.out))
      clear hc
      cases hs : ((l[k]).a.toList == s.toList)
      · have HS := Lib.hid (volJ_step hlt hs HI.out)
        rw [hs] at HX
        clear hs
        go_wp2_with fail
        go_at_call 168
        refine HX.out.mono ?_
        rintro r w8 ⟨rfl, b8⟩
        have B8 := Lib.hid (bstep HB.out b8)
        clear b8 y0 y1 y2 y3
        go_wp2
        go_roundw
        case rel => exact ⟨k + 1, by omega, by go_num, HS, B8⟩
        case measure => simp [intOf]; omega
      · have HK : Hid (R = (k : Int)) := Lib.hid (by rw [← HR.out, volK_hit hlt (volJ_hit hlt hs HI.out)])
        rw [hs] at HX
        clear hs
        go_wp2_with fail
        go_at_call 168
        refine HX.out.mono ?_
        rintro r w8 ⟨rfl, b8⟩
        have B8 := Lib.hid (bstep HB.out b8)
        clear b8 y0 y1 y2 y3
        go_wp2
        go_ret
        exact ⟨by rw [HK.out]; rfl, B8.out⟩
    · have HK : Hid (R = -1) := Lib.hid (by rw [← HR.out, volK_none hlt HI.out])
      go_wp2
      go_ret
      exact ⟨by rw [HK.out]; rfl, HB.out⟩
theorem implVolAt_any {t : TypeId} (vl vn va vc vv : Value) (d : PoolD) (s : ByteArray) (w : World) (h : RdP t w w.heap.size vl vn va vc vv d) (hn : d.vo.length ≤ 2097152) :
    Calls Tryz.prog 109 #[.agg #[vl, vn, va, vc, vv, .int .i64 d.nx], .string s] w fun e w' => e = .returned (.int .i64 (volK s d.vo)) ∧ Below w.heap.size w w' := by
  obtain ⟨A0, c0, A1, c1, A2, c2, A3, c3, A4, c4, rfl, rfl, rfl, rfl, rfl⟩ := h.shape
  have HB := Lib.hid (bal2 w (.cells #[.slice A0 d.lo.length c0, .slice A1 d.ts.length c1, .slice A2 d.ag.length c2, .slice A3 d.ce.length c3, .slice A4 d.vo.length c4, .int .i64 d.nx] 32) (.cells #[.string s] 9))
  obtain ⟨q0, q1⟩ := al2 w (.cells #[.slice A0 d.lo.length c0, .slice A1 d.ts.length c1, .slice A2 d.ag.length c2, .slice A3 d.ce.length c3, .slice A4 d.vo.length c4, .int .i64 d.nx] 32) (.cells #[.string s] 9)
  have Q0 := Lib.hid q0
  have HX := Lib.hid (indexFuncV_any _ d.vo s (w.heap.size + 1) _ (h.2.2.2.on HB.out) q1 hn)
  clear h q0 q1
  go_enter Tryz.func109, Tryz.ntmps109
  go_upto_region 1 with (fail)
  generalize (w.alloc (.cells #[.slice A0 d.lo.length c0, .slice A1 d.ts.length c1, .slice A2 d.ag.length c2, .slice A3 d.ce.length c3, .slice A4 d.vo.length c4, .int .i64 d.nx] 32)).alloc (.cells #[.string s] 9) = W at *
  obtain ⟨x0, x1, x2, x3, x4, x5, x6⟩ := boxP Q0.out
  go_wp2_with fail
  refine HX.out.mono ?_
  rintro e w1 ⟨rfl, b1⟩
  have B1 := Lib.hid (bstep HB.out b1)
  clear b1
  go_wp2
  go_ret
  exact ⟨rfl, B1.out⟩
end Go.Proofs.YtlhemcjahcmdeaaGreatDoor
namespace Go.Proofs.YtlhemcjahcmdeaaGreatDoor
open Go.RowKit
set_option maxRecDepth 100000
set_option linter.unusedSimpArgs false
set_option linter.unusedVariables false

/-- The place of the first version id, or the length. -/
def ageI (l : List AgeD) (id : Int) : Nat := l.findIdx (fun x => x.a == id)
def ageAtK (l : List AgeD) (id : Int) : Int := if ageI l id < l.length then (ageI l id : Int) else -1
def hasG (l : List AgeD) (id : Int) : Bool := decide (ageI l id < l.length)
theorem ageAt_neg (l : List AgeD) (id : Int) : (decide (ageAtK l id < 0)) = !hasG l id := by
  unfold ageAtK hasG
  by_cases h : ageI l id < l.length
  · rw [if_pos h]; simp [h]
  · rw [if_neg h]; simp [h]
theorem ageAt_geq (l : List AgeD) (id : Int) : (decide (ageAtK l id ≥ 0)) = hasG l id := by
  unfold ageAtK hasG
  by_cases h : ageI l id < l.length
  · rw [if_pos h]; simp [h]
  · rw [if_neg h]; simp [h]
theorem ageI_le (l : List AgeD) (id : Int) : ageI l id ≤ l.length := List.findIdx_le_length
theorem ageI_step {l : List AgeD} {k : Nat} {id : Int} (h : k < l.length) (hp : ((l[k]).a == id) = false) (hf : ageI l id = k + ageI (l.drop k) id) : ageI l id = (k + 1) + ageI (l.drop (k + 1)) id := by
  rw [gdrop_at h] at hf
  unfold ageI at hf ⊢
  rw [List.findIdx_cons, hp] at hf
  simp only [cond_false] at hf
  omega
theorem ageI_hit {l : List AgeD} {k : Nat} {id : Int} (h : k < l.length) (hp : ((l[k]).a == id) = true) (hf : ageI l id = k + ageI (l.drop k) id) : ageI l id = k := by
  rw [gdrop_at h] at hf
  unfold ageI at hf ⊢
  rw [List.findIdx_cons, hp] at hf
  simpa using hf
def parGB (l : List AgeD) (i : Nat) (f : Int) : Bool := f == 0 || hasG (l.take i) f
def idG (n : Int) : Bool := decide (1 ≤ n) && decide (n ≤ 60)
def riseG (l : List AgeD) : Bool := decide (∀ i (h : i < l.length - 1), (l[i]'(by omega)).a < (l[i + 1]'(by omega)).a)
/-- The version at place i has an Id in range and a parent ahead. -/
def fitG (l : List AgeD) (i : Nat) : Bool := match l[i]? with | none => true | some x => idG x.a && parGB l i x.b
def agesOkB (l : List AgeD) : Bool := decide (∀ i, i < l.length → fitG l i = true) && riseG l && decide (l.length ≤ 16)
def kidsK (l : List AgeD) (id : Int) : List Int := if id == 0 then [] else (l.filter (fun x => x.b == id)).map (·.a)
/-- The place of the first version whose Id is not less. -/
def plG (l : List AgeD) (id : Int) : Nat := l.findIdx (fun x => !decide (x.a < id))
def insG (l : List AgeD) (x : AgeD) : List AgeD := l.take (plG l x.a) ++ x :: l.drop (plG l x.a)
def newOk (l : List AgeD) (id f : Int) : Bool := !hasG l id && agesOkB (insG l ⟨id, f⟩)
def newK (l : List AgeD) (id f : Int) : List AgeD := if newOk l id f then insG l ⟨id, f⟩ else l
theorem plG_le (l : List AgeD) (id : Int) : plG l id ≤ l.length := List.findIdx_le_length
theorem insG_len (l : List AgeD) (x : AgeD) : (insG l x).length = l.length + 1 := by
  have := plG_le l x.a
  unfold insG
  simp
  omega
theorem newK_len (l : List AgeD) (id f : Int) : (newK l id f).length ≤ l.length + 1 := by
  unfold newK
  split
  · rw [insG_len]
    omega
  · omega
theorem plG_step {l : List AgeD} {k : Nat} {id : Int} (h : k < l.length) (hp : decide ((l[k]).a < id) = true) (hf : plG l id = k + plG (l.drop k) id) : plG l id = (k + 1) + plG (l.drop (k + 1)) id := by
  rw [gdrop_at h] at hf
  unfold plG at hf ⊢
  rw [List.findIdx_cons, hp] at hf
  simp only [Bool.not_true, cond_false] at hf
  omega
theorem plG_hit {l : List AgeD} {k : Nat} {id : Int} (h : k < l.length) (hp : decide ((l[k]).a < id) = false) (hf : plG l id = k + plG (l.drop k) id) : plG l id = k := by
  rw [gdrop_at h] at hf
  unfold plG at hf ⊢
  rw [List.findIdx_cons, hp] at hf
  simpa using hf
/-- Who is not there is of no version's Id. -/
theorem no_has {l : List AgeD} {id : Int} (h : hasG l id = false) : ∀ x ∈ l, (x.a == id) = false := by
  unfold hasG at h
  have h2 : ageI l id = l.length := by
    have := ageI_le l id
    have := of_decide_eq_false h
    omega
  intro x hx
  unfold ageI at h2
  rw [List.findIdx_eq_length] at h2
  exact h2 x hx
end Go.Proofs.YtlhemcjahcmdeaaGreatDoor
namespace Go.Proofs.YtlhemcjahcmdeaaGreatDoor
open Go.RowKit
set_option maxRecDepth 100000
set_option linter.unusedSimpArgs false
set_option linter.unusedVariables false

theorem l1InG_any (a lo hi : Int) (w : World) : Calls Tryz.prog 63 #[.int .i64 a, .int .i64 lo, .int .i64 hi] w fun e w' => e = .returned (.bool (decide (lo ≤ a) && decide (a ≤ hi))) ∧ w = w' := by
  by_cases h1 : lo ≤ a
  · by_cases h2 : a ≤ hi
    · rw [decide_eq_true h1, decide_eq_true h2]
      go_enter Tryz.func63, Tryz.ntmps63
      go_wp2
      go_ret
      exact ⟨rfl, rfl⟩
    · have h3 : hi < a := by omega
      rw [decide_eq_true h1, decide_eq_false h2]
      go_enter Tryz.func63, Tryz.ntmps63
      go_wp2
      go_ret
      exact ⟨rfl, rfl⟩
  · have h3 : a < lo := by omega
    rw [decide_eq_false h1, Bool.false_and]
    go_enter Tryz.func63, Tryz.ntmps63
    go_wp2
    go_ret
    exact ⟨rfl, rfl⟩
def SaysG (w : World) (n : Int) (e : Ending) (w' : World) : Prop := e = .returned (.int .i64 n) ∧ Below w.heap.size w w'
set_option maxHeartbeats 1000000 in
theorem implAgeAt_any (v : Value) (l : List AgeD) (d : Int) (w : World) (hv : Reads w w.heap.size v (agesD l)) (hn : l.length ≤ 2097152) : Calls Tryz.prog 249 #[v, .int .i64 d] w (SaysG w (ageAtK l d)) := by
  obtain ⟨A, c, rfl, _, _⟩ := hv.shapeG
  obtain ⟨N, hN⟩ : ∃ N, ageAtK l d = N := ⟨_, rfl⟩
  rw [hN]
  have HN := Lib.hid hN
  have HV := Lib.hid hv
  clear hv hN
  go_enter Tryz.func249, Tryz.ntmps249
  go_wp2
  go_loopw [5, 6, 9] (fun _ _ i wr => ∃ k : Nat, k ≤ l.length ∧ i = .int .i64 k ∧ Hid (ageI l d = k + ageI (l.drop k) d) ∧ Hid (Below w.heap.size w wr)) (fun _ _ i _ => l.length - (intOf i).toNat)
  case atStart => exact ⟨0, Nat.zero_le _, rfl, Lib.hid (by simp), Lib.hid (Below.refl _ _)⟩
  case round =>
    obtain ⟨k, hk, rfl, HI, HW⟩ := hrel
    have hzr := HW.out.size
    by_cases hlt : k < l.length
    · obtain ⟨b, off, rfl, hbb, hc⟩ := (HV.out.on HW.out).ages hlt
      have i1 : (k : Int) < (l.length : Int) := by omega
      have i2 : (0 : Int) ≤ (k : Int) := by omega
      obtain ⟨c0, c1⟩ := hc k hlt
      have BA := Lib.hid (HW.out.trans ((bal1 wr (.cells #[.int .i64 (l[k]).a, .int .i64 (l[k]).b] 155)).mono hzr))
      clear hc
      cases hs : ((l[k]).a == d)
      · have HS := Lib.hid hs
        go_wp2
        go_roundw
        case rel => exact ⟨k + 1, by omega, by go_num, Lib.hid (ageI_step hlt HS.out HI.out), BA⟩
        case measure => simp [intOf]; omega
      · have HS := Lib.hid hs
        go_wp2
        go_ret
        exact ⟨ret_intB (by rw [← HN.out]; unfold ageAtK; rw [ageI_hit hlt HS.out HI.out, if_pos hlt]), BA.out⟩
    · go_wp2
      go_ret
      refine ⟨ret_intB ?_, HW.out⟩
      rw [← HN.out]
      unfold ageAtK
      rw [if_neg (by rw [HI.out]; omega)]
set_option maxHeartbeats 1000000 in
theorem specAgeAt_any (v : Value) (l : List AgeD) (d : Int) (w : World) (hv : Reads w w.heap.size v (agesD l)) (hn : l.length ≤ 2097152) : Calls Tryz.prog 133 #[v, .int .i64 d] w fun e w' => e = .returned (.int .i64 (ageAtK l d)) ∧ w = w' := by
  obtain ⟨A, c, rfl, _, _⟩ := hv.shapeG
  obtain ⟨N, hN⟩ : ∃ N, ageAtK l d = N := ⟨_, rfl⟩
  rw [hN]
  have HN := Lib.hid hN
  have HV := Lib.hid hv
  clear hv hN
  go_enter Tryz.func133, Tryz.ntmps133
  go_wp2
  go_loop [5] (fun i => ∃ k : Nat, k ≤ l.length ∧ i = .int .i64 k ∧ Hid (ageI l d = k + ageI (l.drop k) d)) (fun i => l.length - (intOf i).toNat)
  case atStart => exact ⟨0, Nat.zero_le _, rfl, Lib.hid (by simp)⟩
  case round =>
    obtain ⟨k, hk, rfl, HI⟩ := hrel
    by_cases hlt : k < l.length
    · obtain ⟨b, off, rfl, hbb, hc⟩ := HV.out.ages hlt
      have i1 : (k : Int) < (l.length : Int) := by omega
      have i2 : (0 : Int) ≤ (k : Int) := by omega
      obtain ⟨c0, c1⟩ := hc k hlt
      clear hc
      cases hs : ((l[k]).a == d)
      · have HS := Lib.hid hs
        go_wp2
        go_round
        case rel => exact ⟨k + 1, by omega, by go_num, Lib.hid (ageI_step hlt HS.out HI.out)⟩
        case measure => simp [intOf]; omega
      · have HS := Lib.hid hs
        go_wp2
        go_ret
        exact ⟨ret_intB (by rw [← HN.out]; unfold ageAtK; rw [ageI_hit hlt HS.out HI.out, if_pos hlt]), rfl⟩
    · go_wp2
      go_ret
      refine ⟨ret_intB ?_, rfl⟩
      rw [← HN.out]
      unfold ageAtK
      rw [if_neg (by rw [HI.out]; omega)]
theorem parentOk_any (v : Value) (l : List AgeD) (f : Int) (w : World) (hv : Reads w w.heap.size v (agesD l)) (hn : l.length ≤ 2097152) : Calls Tryz.prog 280 #[v, .int .i64 f] w (SaysBool w (f == 0 || hasG l f)) := by
  obtain ⟨A, c, rfl, _, _⟩ := hv.shapeG
  have HV := Lib.hid hv
  have HG := Lib.hid (ageAt_geq l f)
  clear hv
  cases hf : (f == 0)
  · go_enter Tryz.func280, Tryz.ntmps280
    go_wp2_with fail
    refine (implAgeAt_any _ l f _ HV.out hn).mono ?_
    rintro e w1 ⟨rfl, b1⟩
    generalize ageAtK l f = q at *
    have hq := HG.out
    generalize hasG l f = g at *
    cases g
    all_goals
      have hq2 : decide (0 ≤ q) = _ := hq
      go_wp2
      go_ret
      exact ⟨by simp [*], b1⟩
  · go_enter Tryz.func280, Tryz.ntmps280
    go_wp2
    go_ret
    exact ⟨rfl, Below.refl _ _⟩
theorem kids_yes {l : List AgeD} {m : List Int} {k : Nat} {d : Int} (h : k < l.length) (hp : ((l[k]).b == d) = true) {R : List Int} (hf : m ++ ((l.drop k).filter (fun x => x.b == d)).map (·.a) = R) : (m ++ [(l[k]).a]) ++ ((l.drop (k + 1)).filter (fun x => x.b == d)).map (·.a) = R := by
  rw [gdrop_at h, List.filter_cons, hp] at hf
  simpa using hf
theorem kids_no {l : List AgeD} {m : List Int} {k : Nat} {d : Int} (h : k < l.length) (hp : ((l[k]).b == d) = false) {R : List Int} (hf : m ++ ((l.drop k).filter (fun x => x.b == d)).map (·.a) = R) : m ++ ((l.drop (k + 1)).filter (fun x => x.b == d)).map (·.a) = R := by
  rw [gdrop_at h, List.filter_cons, hp] at hf
  simpa using hf
/-- What a loop that appends ints to a row of its own holds on to. -/
def GrowI (w wr : World) (o : Value) (m : List Int) : Prop := RowI wr w.heap.size o m ∧ Below w.heap.size w wr
set_option maxHeartbeats 1000000 in
theorem implKidsOf_any (v : Value) (l : List AgeD) (d : Int) (w : World) (hv : Reads w w.heap.size v (agesD l)) (hn : l.length ≤ 2097152) : Calls Tryz.prog 331 #[v, .int .i64 d] w (NewI w (kidsK l d)) := by
  obtain ⟨A, c, rfl, _, _⟩ := hv.shapeG
  obtain ⟨R, hR⟩ : ∃ R, kidsK l d = R := ⟨_, rfl⟩
  rw [hR]
  unfold kidsK at hR
  have HV := Lib.hid hv
  clear hv
  cases hd : (d == 0)
  · rw [hd] at hR
    simp only [Bool.false_eq_true, if_false] at hR
    have HR := Lib.hid hR
    clear hR
    go_enter Tryz.func331, Tryz.ntmps331
    go_wp2
    go_loopw [5, 7, 14] (fun o _ i wr => ∃ (k : Nat) (m : List Int), k ≤ l.length ∧ i = .int .i64 k ∧ Hid (m.length ≤ k) ∧ Hid (m ++ ((l.drop k).filter (fun x => x.b == d)).map (·.a) = R) ∧ Hid (GrowI w wr o m)) (fun _ _ i _ => l.length - (intOf i).toNat)
    case atStart => exact ⟨0, [], Nat.zero_le _, rfl, Lib.hid (Nat.zero_le _), Lib.hid HR.out, Lib.hid ⟨RowI.lit w, bal1 _ _⟩⟩
    case round =>
      obtain ⟨k, m, hk, rfl, HM, HI, HG⟩ := hrel
      obtain ⟨hrow, hb⟩ := HG.out
      by_cases hlt : k < l.length
      · obtain ⟨b, off, rfl, hbb, hc⟩ := (HV.out.on hb).ages hlt
        have i1 : (k : Int) < (l.length : Int) := by omega
        have i2 : (0 : Int) ≤ (k : Int) := by omega
        obtain ⟨c0, c1⟩ := hc k hlt
        clear hc
        have ba := bal1 wr (.cells #[.int .i64 (l[k]).a, .int .i64 (l[k]).b] 155)
        obtain ⟨Ao, co, rfl, _, _⟩ := hrow.shape
        have HG1 := Lib.hid (show GrowI w (wr.alloc (.cells #[.int .i64 (l[k]).a, .int .i64 (l[k]).b] 155)) (.slice Ao m.length co) m from ⟨hrow.on ba, hb.trans (ba.mono hb.size)⟩)
        cases hs : ((l[k]).b == d)
        · have HS := Lib.hid hs
          clear hrow hb ba
          go_wp2
          go_roundw
          case rel => exact ⟨k + 1, m, by omega, by go_num, Lib.hid (Nat.le_succ_of_le HM.out), Lib.hid (kids_no hlt HS.out HI.out), HG1⟩
          case measure => simp [intOf]; omega
        · have HS := Lib.hid hs
          have hat := At.intOne (wr.alloc (.cells #[.int .i64 (l[k]).a, .int .i64 (l[k]).b] 155)) (l[k]).a 3
          simp only [World.size_alloc] at hat
          have HAt := Lib.hid hat
          have bb := bal1 (wr.alloc (.cells #[.int .i64 (l[k]).a, .int .i64 (l[k]).b] 155)) (.cells #[.int .i64 (l[k]).a] 3)
          have HRow := Lib.hid (HG1.out.1.on bb)
          have HB := Lib.hid (HG1.out.2.trans (bb.mono HG1.out.2.size))
          have HZ := Lib.hid HB.out.size
          clear hrow hb ba bb hat HG HG1
          go_wp2_with (at_builtin; refine wpList_appI _ rfl (.tmp 22) (.tmp 25) rfl w.heap.size _ m rfl HRow.out (some ⟨wr.heap.size + 1, 0, none⟩) 1 1 [(l[k]).a] rfl rfl HAt.out (by have := HM.out; simp; omega) HZ.out ?_; intro v1 w1 o1 b1; clear HRow HAt)
          have HG := Lib.hid (show GrowI w w1 v1 (m ++ [(l[k]).a]) from ⟨o1, HB.out.trans b1⟩)
          clear o1 b1
          go_roundw
          case rel => exact ⟨k + 1, m ++ [(l[k]).a], by omega, by go_num, Lib.hid (by have := HM.out; simp; omega), Lib.hid (kids_yes hlt HS.out HI.out), HG⟩
          case measure => simp [intOf]; omega
      · have e : m = R := by
          have := HI.out
          rw [List.drop_eq_nil_of_le (by omega)] at this
          simpa using this
        subst e
        obtain ⟨Ao, co, rfl, _, _⟩ := hrow.shape
        go_wp2
        go_ret
        exact ⟨_, rfl, HG.out.1, HG.out.2⟩
  · rw [hd] at hR
    simp only [if_true] at hR
    subst hR
    go_enter Tryz.func331, Tryz.ntmps331
    go_wp2
    go_ret
    exact ⟨_, rfl, RowI.lit w, bal1 _ _⟩
set_option maxHeartbeats 1000000 in
theorem specKidsOf_any (v : Value) (l : List AgeD) (d : Int) (w : World) (hv : Reads w w.heap.size v (agesD l)) (hn : l.length ≤ 2097152) : Calls Tryz.prog 254 #[v, .int .i64 d] w (NewI w (kidsK l d)) := by
  obtain ⟨A, c, rfl, _, _⟩ := hv.shapeG
  obtain ⟨R, hR⟩ : ∃ R, kidsK l d = R := ⟨_, rfl⟩
  rw [hR]
  unfold kidsK at hR
  have HV := Lib.hid hv
  clear hv
  cases hd : (d != 0)
  · have hd2 : (d == 0) = true := by simpa using hd
    rw [hd2] at hR
    simp only [if_true] at hR
    subst hR
    clear hd2
    go_enter Tryz.func254, Tryz.ntmps254
    go_wp2
    go_loopw [5, 6] (fun o i wr => ∃ (k : Nat), k ≤ l.length ∧ i = .int .i64 k ∧ o = .slice (some ⟨w.heap.size, 0, none⟩) 0 0 ∧ w.alloc (.cells #[] 3) = wr) (fun _ i _ => l.length - (intOf i).toNat)
    case atStart => exact ⟨0, Nat.zero_le _, rfl, rfl, rfl⟩
    case round =>
      obtain ⟨k, hk, rfl, rfl, rfl⟩ := hrel
      by_cases hlt : k < l.length
      · obtain ⟨b, off, rfl, hbb, hc⟩ := (HV.out.on (bal1 w (.cells #[] 3))).ages hlt
        have i1 : (k : Int) < (l.length : Int) := by omega
        have i2 : (0 : Int) ≤ (k : Int) := by omega
        obtain ⟨c0, c1⟩ := hc k hlt
        clear hc
        cases hs : ((l[k]).b == d)
        all_goals
          go_wp2
          go_roundw
          case rel => exact ⟨k + 1, by omega, by go_num, rfl, by first | trivial | rfl⟩
          case measure => simp [intOf]; omega
      · go_wp2
        go_ret
        exact ⟨_, rfl, RowI.lit w, bal1 _ _⟩
  · have hd2 : (d == 0) = false := by simpa using hd
    rw [hd2] at hR
    simp only [Bool.false_eq_true, if_false] at hR
    have HR := Lib.hid hR
    clear hR hd2
    go_enter Tryz.func254, Tryz.ntmps254
    go_wp2
    go_loopw [5, 6] (fun o i wr => ∃ (k : Nat) (m : List Int), k ≤ l.length ∧ i = .int .i64 k ∧ Hid (m.length ≤ k) ∧ Hid (m ++ ((l.drop k).filter (fun x => x.b == d)).map (·.a) = R) ∧ Hid (GrowI w wr o m)) (fun _ i _ => l.length - (intOf i).toNat)
    case atStart => exact ⟨0, [], Nat.zero_le _, rfl, Lib.hid (Nat.zero_le _), Lib.hid HR.out, Lib.hid ⟨RowI.lit w, bal1 _ _⟩⟩
    case round =>
      obtain ⟨k, m, hk, rfl, HM, HI, HG⟩ := hrel
      obtain ⟨hrow, hb⟩ := HG.out
      by_cases hlt : k < l.length
      · obtain ⟨b, off, rfl, hbb, hc⟩ := (HV.out.on hb).ages hlt
        have i1 : (k : Int) < (l.length : Int) := by omega
        have i2 : (0 : Int) ≤ (k : Int) := by omega
        obtain ⟨c0, c1⟩ := hc k hlt
        clear hc
        obtain ⟨Ao, co, rfl, _, _⟩ := hrow.shape
        cases hs : ((l[k]).b == d)
        · have HS := Lib.hid hs
          clear hrow hb
          go_wp2
          go_roundw
          case rel => exact ⟨k + 1, m, by omega, by go_num, Lib.hid (Nat.le_succ_of_le HM.out), Lib.hid (kids_no hlt HS.out HI.out), HG⟩
          case measure => simp [intOf]; omega
        · have HS := Lib.hid hs
          have HAt := Lib.hid (At.intOne wr (l[k]).a 3)
          have bb := bal1 wr (.cells #[.int .i64 (l[k]).a] 3)
          have HRow := Lib.hid (HG.out.1.on bb)
          have HB := Lib.hid (HG.out.2.trans (bb.mono HG.out.2.size))
          have HZ := Lib.hid HB.out.size
          clear hrow hb bb HG
          go_wp2_with (at_builtin; refine wpList_appI _ rfl (.tmp 25) (.tmp 31) rfl w.heap.size _ m rfl HRow.out (some ⟨wr.heap.size, 0, none⟩) 1 1 [(l[k]).a] rfl rfl HAt.out (by have := HM.out; simp; omega) HZ.out ?_; intro v1 w1 o1 b1; clear HRow HAt)
          have HG := Lib.hid (show GrowI w w1 v1 (m ++ [(l[k]).a]) from ⟨o1, HB.out.trans b1⟩)
          clear o1 b1
          go_roundw
          case rel => exact ⟨k + 1, m ++ [(l[k]).a], by omega, by go_num, Lib.hid (by have := HM.out; simp; omega), Lib.hid (kids_yes hlt HS.out HI.out), HG⟩
          case measure => simp [intOf]; omega
      · have e : m = R := by
          have := HI.out
          rw [List.drop_eq_nil_of_le (by omega)] at this
          simpa using this
        subst e
        obtain ⟨Ao, co, rfl, _, _⟩ := hrow.shape
        go_wp2
        go_ret
        exact ⟨_, rfl, HG.out.1, HG.out.2⟩
end Go.Proofs.YtlhemcjahcmdeaaGreatDoor
namespace Go.Proofs.YtlhemcjahcmdeaaGreatDoor
open Go.RowKit
set_option maxRecDepth 100000
set_option linter.unusedSimpArgs false
set_option linter.unusedVariables false

section
variable {P : Program} {md : Region.Mode} {ops : Array Oper} {Q : Exit → Act → World → Prop} {S : World → Prop} {f : Nat}
/-- Whatever order is picked from here on; S holds behind each operation but number f. -/
def anyBut (P : Program) (md : Region.Mode) (ops : Array Oper) (Q : Exit → Act → World → Prop) (S : World → Prop) (f : Nat) : Nat → Array Bool → Act → World → Prop
  | 0, listed, a, w => Region.ready md ops listed = [] ∧ Q .normal a w
  | n + 1, listed, a, w => (Region.ready md ops listed = [] → Q .normal a w) ∧ ∀ i ∈ Region.ready md ops listed, wpOp P ops Q i (fun a' w' => (i ≠ f → S w') ∧ anyBut P md ops Q S f n (listed.setIfInBounds i true) a' w') a w
theorem anyBut_any : ∀ (n : Nat) (listed : Array Bool) (a : Act) (w : World), anyBut P md ops Q S f n listed a w → wpAny P md ops Q n listed a w
  | 0, _, _, _, h => h
  | n + 1, _, _, _, h => ⟨h.1, fun i hi => wpOp_mono (fun a' w' h' => anyBut_any n _ a' w' h'.2) (h.2 i hi)⟩
/-- What has come up is not what has not. -/
theorem on_ne {listed : Array Bool} {i k : Nat} (hun : listed.getD i true = false) (hk : listed.getD k false = true) : k ≠ i := by
  rintro rfl
  rcases Nat.lt_or_ge k listed.size with h | h
  · simp [h] at hk hun; rw [hk] at hun; cases hun
  · simp [Array.getElem?_eq_none h] at hk
/-- What has come up came up behind what it waits for. -/
def Closed (md : Region.Mode) (ops : Array Oper) (listed : Array Bool) : Prop := ∀ k o, ops[k]? = some o → listed.getD k false = true → ∀ e ∈ o.after, Region.binds md e = true → listed.getD e.on false = true
def closedB (md : Region.Mode) (ops : Array Oper) (listed : Array Bool) : Bool := (List.range ops.size).all (fun k => match ops[k]? with | some o => !listed.getD k false || o.after.toList.all (fun e => !Region.binds md e || listed.getD e.on false) | none => true)
theorem closedB_spec {listed : Array Bool} (h : closedB md ops listed = true) : Closed md ops listed := by
  intro k o ho hk e he hb
  have hlt : k < ops.size := (Array.getElem?_eq_some_iff.1 ho).1
  have h1 := List.all_eq_true.1 h k (List.mem_range.2 hlt)
  simp only [ho, hk, Bool.not_true, Bool.false_or] at h1
  have h2 := List.all_eq_true.1 h1 e (Array.mem_toList_iff.2 he)
  simpa [hb] using h2
theorem Closed.set {listed : Array Bool} {j : Nat} (h : Closed md ops listed) (hj : j ∈ Region.ready md ops listed) : Closed md ops (listed.setIfInBounds j true) := by
  obtain ⟨hun, oj, hoj, hall⟩ := mem_ready.1 hj
  have up : ∀ m, listed.getD m false = true → (listed.setIfInBounds j true).getD m false = true := fun m hm => by rw [getD_set_ne false (fun hh => on_ne hun hm hh.symm)]; exact hm
  intro k o ho hk e he hb
  by_cases hkj : j = k
  · subst hkj; rw [hoj] at ho; cases ho; exact up _ (hall e he hb)
  · rw [getD_set_ne false hkj] at hk; exact up _ (h k o ho hk e he hb)
/-- Operation f waits for operation i, itself or through others. -/
def waits (md : Region.Mode) (ops : Array Oper) (i : Nat) : Nat → Nat → Bool
  | 0, _ => false
  | n + 1, f => match ops[f]? with | some o => o.after.toList.any (fun e => Region.binds md e && (e.on == i || waits md ops i n e.on)) | none => false
theorem waits_out {i : Nat} {listed : Array Bool} (hc : Closed md ops listed) (hun : listed.getD i true = false) : ∀ (n g : Nat), waits md ops i n g = true → g ∉ Region.ready md ops listed ∧ ¬ listed.getD g false = true
  | 0, _, h => by simp [waits] at h
  | n + 1, g, h => by
    unfold waits at h
    split at h
    · rename_i o ho
      simp only [List.any_eq_true, Bool.and_eq_true, Bool.or_eq_true, beq_iff_eq] at h
      obtain ⟨e, he, hb, hi⟩ := h
      have hn : ¬ listed.getD e.on false = true := by
        rcases hi with hi | hi
        · exact fun hh => on_ne hun hh hi
        · exact (waits_out hc hun n e.on hi).2
      refine ⟨fun hf => ?_, fun hh => hn (hc g o ho hh e (Array.mem_toList_iff.1 he) hb)⟩
      obtain ⟨_, o', ho', hall⟩ := mem_ready.1 hf
      rw [ho] at ho'; cases ho'
      exact hn (hall e (Array.mem_toList_iff.1 he) hb)
    · cases h
theorem anyBut_take {i m : Nat} {oi : Oper} {v : Value} (hi : ops[i]? = some oi) (hs : Region.noSelect ops = true) (hwt : waits md ops i m f = true) (hQ : ∀ c a w, Q (.panic c) (a.put oi.dst v) w → Q (.panic c) a w) :
    ∀ (n : Nat) (listed : Array Bool) (a : Act) (w : World), Closed md ops listed → (∀ j oj, ops[j]? = some oj → j ≠ i → listed.getD j true = false → (∀ e ∈ oj.after, Region.binds md e = true → e.on ≠ i) → oi.apart ops oj = true) →
      i ∈ Region.ready md ops listed → YieldsIf P ops S oi v a → S w → anyBut P md ops Q S f n (listed.setIfInBounds i true) (a.put oi.dst v) w → anyBut P md ops Q S f (n + 1) listed a w := by
  have hsel := Region.noSelect_spec hs
  intro n
  induction n with
  | zero =>
    intro listed a w _ _ hr hy hS H
    refine ⟨fun h => (by rw [h] at hr; cases hr), fun j hj => ?_⟩
    by_cases hji : j = i
    · subst hji; exact hy.wpOp hi hS ⟨fun _ => hS, H⟩
    · have h := ready_mono hj hji
      rw [H.1] at h
      cases h
  | succ n ih =>
    intro listed a w hcl hfree hr hy hS H
    refine ⟨fun h => (by rw [h] at hr; cases hr), fun j hj => ?_⟩
    by_cases hji : j = i
    · subst hji; exact hy.wpOp hi hS ⟨fun _ => hS, H⟩
    · have hjf : j ≠ f := fun h => (waits_out hcl (mem_ready.1 hr).1 m f hwt).1 (h ▸ hj)
      obtain ⟨hjun, oj, hoj, hall⟩ := mem_ready.1 hj
      have h2 := wpOp_putIf hoj (hfree j oj hoj hji hjun (fun e he hb => on_ne (mem_ready.1 hr).1 (hall e he hb))) (fun cs b => hsel i oi cs b hi) (fun cs b => hsel j oj cs b hoj) hQ hy (H.2 j (ready_mono hj hji))
      refine wpOp_mono (fun a' w' h3 => ⟨fun _ => h3.2.1 hjf, ih (listed.setIfInBounds j true) a' w' (hcl.set hj) (fun k ok hk hki hun hno => hfree k ok hk hki ?_ hno) (ready_mono hr (Ne.symm hji)) h3.1 (h3.2.1 hjf) ?_⟩) h2
      · by_cases hjk : j = k
        · subst hjk; exact hjun
        · rw [getD_set_ne true hjk] at hun; exact hun
      · rw [Array.setIfInBounds_comm _ _ hji]
        exact h3.2.2
/-- Take number i first. -/
theorem but_take {i : Nat} {oi : Oper} {v : Value} {n : Nat} {listed : Array Bool} {a : Act} {w : World} (hi : ops[i]? = some oi) (hs : Region.noSelect ops = true) (hwt : waits md ops i ops.size f = true) (hcl : closedB md ops listed = true) (hf : Region.free md ops listed i = true) (hr : (Region.ready md ops listed).contains i = true)
    (hQ : ∀ c a w, Q (.panic c) (a.put oi.dst v) w → Q (.panic c) a w) (hy : YieldsIf P ops S oi v a) (hS : S w) (h : anyBut P md ops Q S f n (listed.setIfInBounds i true) (a.put oi.dst v) w) : anyBut P md ops Q S f (n + 1) listed a w :=
  anyBut_take hi hs hwt hQ n listed a w (closedB_spec hcl) (Region.free_spec hi hf) (by simpa using hr) hy hS h
/-- One alone may come up: it is carried out. -/
theorem but_one {i : Nat} {o : Oper} {n : Nat} {listed : Array Bool} {a : Act} {w : World} (hr : Region.ready md ops listed = [i]) (ho : ops[i]? = some o)
    (h : ∀ K : Act → World → Prop, Hid (∀ a' w', (i ≠ f → S w') → anyBut P md ops Q S f n (listed.setIfInBounds i true) a' w' → K a' w') → if Region.wanted o (yielded ops a.tmps) = true then Oper.wp P o a w K Q else K (a.put o.dst undef) w) : anyBut P md ops Q S f (n + 1) listed a w := by
  refine ⟨fun h0 => (by rw [h0] at hr; cases hr), fun j hj => ?_⟩
  rw [hr, List.mem_singleton] at hj
  subst hj
  have h1 := h (fun a' w' => (j ≠ f → S w') ∧ anyBut P md ops Q S f n (listed.setIfInBounds j true) a' w') (Lib.hid (fun a' w' h2 h3 => ⟨h2, h3⟩))
  unfold wpOp
  simp only [ho]
  split
  · rename_i hw; rw [if_pos hw] at h1; exact .inl h1
  · rename_i hw; rw [if_neg hw] at h1; exact h1
/-- The same, where it is wanted. -/
theorem but_run {i : Nat} {o : Oper} {n : Nat} {listed : Array Bool} {a : Act} {w : World} (hr : Region.ready md ops listed = [i]) (ho : ops[i]? = some o) (hw : Region.wanted o (yielded ops a.tmps) = true)
    (h : ∀ K : Act → World → Prop, Hid (∀ a' w', (i ≠ f → S w') → anyBut P md ops Q S f n (listed.setIfInBounds i true) a' w' → K a' w') → Oper.wp P o a w K Q) : anyBut P md ops Q S f (n + 1) listed a w :=
  but_one hr ho (fun K hK => by rw [if_pos hw]; exact h K hK)
theorem but_done {n : Nat} {listed : Array Bool} {a : Act} {w : World} (hr : Region.ready md ops listed = []) (h : Q .normal a w) : anyBut P md ops Q S f n listed a w := by
  cases n with
  | zero => exact ⟨hr, h⟩
  | succ n => exact ⟨fun _ => h, by rw [hr]; simp⟩
theorem but_begin {id : Nat} {a : Act} {w : World} (hm : P.follows .mixedOrders = true) (h : anyBut P .any ops Q S f ops.size (Array.replicate ops.size false) a w.drew) : (Code.region id ops true).wp P Q a w := wp_region_any hm (anyBut_any _ _ _ _ h)
end
end Go.Proofs.YtlhemcjahcmdeaaGreatDoor
namespace Go.Proofs.YtlhemcjahcmdeaaGreatDoor
open Go.RowKit
set_option maxRecDepth 100000
set_option linter.unusedSimpArgs false
set_option linter.unusedVariables false

/-- The same, its closed conditions asked of the kernel. -/
theorem bt {P : Program} {md : Region.Mode} {ops : Array Oper} {Q : Exit → Act → World → Prop} {S : World → Prop} {f : Nat} {i : Nat} {oi : Oper} {v : Value} {n : Nat} {listed : Array Bool} {a : Act} {w : World} (hi : ops[i]? = some oi) (hy : YieldsIf P ops S oi v a) (hS : S w) (h : anyBut P md ops Q S f n (listed.setIfInBounds i true) (a.put oi.dst v) w)
    (hs : Region.noSelect ops = true := by kernel_rfl) (hwt : waits md ops i ops.size f = true := by kernel_rfl) (hcl : closedB md ops listed = true := by kernel_rfl) (hf : Region.free md ops listed i = true := by kernel_rfl) (hr : (Region.ready md ops listed).contains i = true := by kernel_rfl)
    (hQ : ∀ c a w, Q (.panic c) (a.put oi.dst v) w → Q (.panic c) a w := by exact fun _ _ _ h => h) : anyBut P md ops Q S f (n + 1) listed a w := but_take hi hs hwt hcl hf hr hQ hy hS h
end Go.Proofs.YtlhemcjahcmdeaaGreatDoor
namespace Go.Proofs.YtlhemcjahcmdeaaGreatDoor
open Go.RowKit
set_option maxRecDepth 100000
set_option linter.unusedSimpArgs false
set_option linter.unusedVariables false

section
variable {P : Program} {md : Region.Mode} {ops : Array Oper} {Q : Exit → Act → World → Prop} {S : World → Prop} {f : Nat}
/-- Two may come up: each is carried out. -/
theorem but_two {i j : Nat} {oi oj : Oper} {n : Nat} {listed : Array Bool} {a : Act} {w : World} (hr : Region.ready md ops listed = [i, j]) (hoi : ops[i]? = some oi) (hoj : ops[j]? = some oj) (hwi : Region.wanted oi (yielded ops a.tmps) = true) (hwj : Region.wanted oj (yielded ops a.tmps) = true)
    (h : ∀ K : Act → World → Prop, Hid (∀ a' w', (i ≠ f → S w') → anyBut P md ops Q S f n (listed.setIfInBounds i true) a' w' → K a' w') → Oper.wp P oi a w K Q)
    (h' : ∀ K : Act → World → Prop, Hid (∀ a' w', (j ≠ f → S w') → anyBut P md ops Q S f n (listed.setIfInBounds j true) a' w' → K a' w') → Oper.wp P oj a w K Q) : anyBut P md ops Q S f (n + 1) listed a w := by
  refine ⟨fun h0 => (by rw [h0] at hr; cases hr), fun m hm => ?_⟩
  rw [hr] at hm
  simp only [List.mem_cons, List.not_mem_nil, or_false] at hm
  rcases hm with rfl | rfl
  · have h1 := h (fun a' w' => (m ≠ f → S w') ∧ anyBut P md ops Q S f n (listed.setIfInBounds m true) a' w') (Lib.hid (fun a' w' h2 h3 => ⟨h2, h3⟩))
    unfold wpOp
    simp only [hoi, hwi, if_true]
    exact .inl h1
  · have h1 := h' (fun a' w' => (m ≠ f → S w') ∧ anyBut P md ops Q S f n (listed.setIfInBounds m true) a' w') (Lib.hid (fun a' w' h2 h3 => ⟨h2, h3⟩))
    unfold wpOp
    simp only [hoj, hwj, if_true]
    exact .inl h1
end
end Go.Proofs.YtlhemcjahcmdeaaGreatDoor
namespace Go.Proofs.YtlhemcjahcmdeaaGreatDoor
open Go.RowKit
set_option maxRecDepth 100000
set_option linter.unusedSimpArgs false
set_option linter.unusedVariables false

theorem wanted_at {o og : Oper} {ops : Array Oper} {tmps : Array Value} {g s : Nat} {b v : Bool} (hg : o.guard = some (g, b)) (ho : ops[g]? = some og) (hd : og.dst = some s) (hv : tmps[s]? = some (.bool v)) : Region.wanted o (yielded ops tmps) = (v == b) := by
  simp [Region.wanted, yielded, hg, ho, hd, hv]
theorem wanted_un {o og : Oper} {ops : Array Oper} {tmps : Array Value} {g s : Nat} {b : Bool} (hg : o.guard = some (g, b)) (ho : ops[g]? = some og) (hd : og.dst = some s) (hv : tmps[s]? = some undef) : Region.wanted o (yielded ops tmps) = false := by
  simp [Region.wanted, yielded, hg, ho, hd, hv, undef]
end Go.Proofs.YtlhemcjahcmdeaaGreatDoor
namespace Go.Proofs.YtlhemcjahcmdeaaGreatDoor
open Go.RowKit
set_option maxRecDepth 100000
set_option linter.unusedSimpArgs false
set_option linter.unusedVariables false

def lessVG : Value := .func (.func 314) #[] #[]
theorem store_lessG (a : Addr) (m : Mode) (w : World) : (store a (.func (.func 314) #[] #[]) m).run Tryz.prog w = stored Tryz.prog w a (.func (.func 314) #[] #[]) m := run_store _ w a _ m rfl
theorem ageSet_any (A : Option Addr) (n c : Nat) (w : World) : Calls Tryz.prog 250 #[.slice A n c] w fun e w' => e = .returned (.agg #[.slice A n c, lessVG]) ∧ Below w.heap.size w w' := by
  have hst := store_lessG
  go_enter Tryz.func250, Tryz.ntmps250
  go_wp2
  exact bodyPost_ret (v := .agg #[.slice A n c, lessVG]) (by simp [results, Tryz.results250, go_sem, lessVG]) rfl ⟨rfl, bal1 _ _⟩
theorem lessAge_any (x y : AgeD) (w : World) : Calls Tryz.prog 314 #[.agg #[.int .i64 x.a, .int .i64 x.b], .agg #[.int .i64 y.a, .int .i64 y.b]] w (SaysBool w (decide (x.a < y.a))) := by
  obtain ⟨R, hR⟩ : ∃ R, decide (x.a < y.a) = R := ⟨_, rfl⟩
  rw [hR]
  go_enter Tryz.func314, Tryz.ntmps314
  go_wp2
  all_goals
    go_ret
    first
      | exact ⟨ret_boolB (by simp_all), bal2 _ _ _⟩
      | exact ⟨rfl, bal2 _ _ _⟩
theorem riseG_snoc {l : List AgeD} {j : Nat} (hlt : j + 1 < l.length) (h : ∀ i (h : i < j) (h2 : i + 1 < l.length), (l[i]).a < (l[i + 1]).a) (h2 : decide ((l[j]).a < (l[j + 1]).a) = true) : ∀ i (h : i < j + 1) (h2 : i + 1 < l.length), (l[i]).a < (l[i + 1]).a := by
  intro i hi h4
  by_cases h3 : i < j
  · exact h i h3 h4
  · have : i = j := by omega
    subst this
    exact of_decide_eq_true h2
set_option maxHeartbeats 1000000 in
theorem ascendingG_any (v : Value) (l : List AgeD) (w : World) (hv : Reads w w.heap.size v (agesD l)) (hn : l.length ≤ 2097152) : Calls Tryz.prog 281 #[.agg #[v, lessVG]] w (SaysBool w (riseG l)) := by
  obtain ⟨A, c, rfl, _, _⟩ := hv.shapeG
  have HT := Lib.hid lessAge_any
  unfold lessVG
  have HV := Lib.hid (hv.on (bal1 w (.cells #[.slice A l.length c, .func (.func 314) #[] #[]] 276)))
  have Q0 := Lib.hid (al1 w (.cells #[.slice A l.length c, .func (.func 314) #[] #[]] 276))
  have HB := Lib.hid (bal1 w (.cells #[.slice A l.length c, .func (.func 314) #[] #[]] 276))
  clear hv
  go_enter Tryz.func281, Tryz.ntmps281
  go_wp2
  generalize w.alloc (.cells #[.slice A l.length c, .func (.func 314) #[] #[]] 276) = W at *
  go_loopw [3] (fun i wr => ∃ j : Nat, (j < l.length ∨ j = 0) ∧ i = .int .i64 ((j : Int) + 1) ∧ Hid (∀ i (h : i < j) (h2 : i + 1 < l.length), (l[i]).a < (l[i + 1]).a) ∧ Hid (Below W.heap.size W wr)) (fun i _ => l.length - (intOf i).toNat)
  case atStart => exact ⟨0, .inr rfl, rfl, Lib.hid (fun i h => by omega), Lib.hid (Below.refl _ _)⟩
  case round =>
    obtain ⟨j, hj, rfl, HI, HW⟩ := hrel
    obtain ⟨x0, x1, x2⟩ := box2 (box_on Q0.out HW.out)
    by_cases hlt : j + 1 < l.length
    · obtain ⟨b, off, rfl, hbb, hc⟩ := (HV.out.on HW.out).ages hlt
      have F := Lib.hid (hc j (by omega))
      have F' := Lib.hid (hc (j + 1) hlt)
      have i1 : (j : Int) + 1 < (l.length : Int) := by omega
      have i2 : (0 : Int) ≤ (j : Int) + 1 := by omega
      have i3 : IntKind.i64.wrap ((j : Int) + 1 - 1) = (j : Int) := by rw [IntKind.wrap_i64]; omega
      have i7 : IntKind.i64.wrap (j : Int) = (j : Int) := by rw [IntKind.wrap_i64]; omega
      have i4 : (j : Int) < (l.length : Int) := by omega
      have i5 : (0 : Int) ≤ (j : Int) := by omega
      have i6 : ((j : Int) + 1).toNat = j + 1 := by omega
      have HP := Lib.hid (box_on Q0.out HW.out)
      clear hc
      obtain ⟨c0, c1⟩ := F.out
      obtain ⟨d0, d1⟩ := F'.out
      cases hless : decide ((l[j]).a < (l[j + 1]).a)
      all_goals
        have HL := Lib.hid hless
        clear hless
        go_wp2
        go_region_held3 (fun W => W.cell? ⟨w.heap.size, 0, none⟩ = some (.slice (some ⟨b, off, none⟩) l.length c) ∧ W.cell? ⟨w.heap.size, 1, none⟩ = some (.func (.func 314) #[] #[]) ∧ W.cell? ⟨b, off + j * 2, none⟩ = some (.int .i64 (l[j]).a) ∧ W.cell? ⟨b, off + j * 2 + 1, none⟩ = some (.int .i64 (l[j]).b) ∧ W.cell? ⟨b, off + (j + 1) * 2, none⟩ = some (.int .i64 (l[j + 1]).a) ∧ W.cell? ⟨b, off + (j + 1) * 2 + 1, none⟩ = some (.int .i64 (l[j + 1]).b))
          (first | with_reducible exact ⟨(box2 (box_on HP.out B8)).1, (box2 (box_on HP.out B8)).2.1, ⟨(F.out.on hbb B8).1, (F.out.on hbb B8).2, (F'.out.on hbb B8).1, (F'.out.on hbb B8).2⟩⟩ | with_reducible exact ⟨(box2 (box_on HP.out (Below.drew1 _))).1, (box2 (box_on HP.out (Below.drew1 _))).2.1, ⟨(F.out.on hbb (Below.drew1 _)).1, (F.out.on hbb (Below.drew1 _)).2, (F'.out.on hbb (Below.drew1 _)).1, (F'.out.on hbb (Below.drew1 _)).2⟩⟩ | exact ⟨x0, x1, F.out.1, F.out.2, F'.out.1, F'.out.2⟩ | fail)
          (first
            | (go_at_call 314; refine (HT.out l[j] l[j + 1] _).mono ?_; rintro r w8 ⟨rfl, b8⟩; rw [HL.out]; have B8 := bstep (Below.drew1 _) b8)
            | fail)
        all_goals
          have BC := Lib.hid (HW.out.trans (B8.mono HW.out.size))
          clear B8 b8 c0 c1 d0 d1 x0 x1 x2
          go_wp2
          first
            | go_ret
              refine ⟨ret_boolB ?_, bstep HB.out BC.out⟩
              symm
              refine decide_eq_false (fun h => ?_)
              have h2 := h j (by omega)
              have h3 := of_decide_eq_false HL.out
              exact h3 h2
            | go_roundw
              case rel => exact ⟨j + 1, .inl hlt, by go_num, Lib.hid (riseG_snoc hlt HI.out HL.out), BC⟩
              case measure => simp [intOf]; omega
    · have i2 : ¬ (j : Int) + 1 < (l.length : Int) := by omega
      go_wp2
      go_ret
      refine ⟨ret_boolB ?_, bstep HB.out HW.out⟩
      symm
      exact decide_eq_true (fun i h => HI.out i (by omega) (by omega))
theorem gfit_at {l : List AgeD} {k : Nat} (h : k < l.length) : fitG l k = (idG (l[k]).a && parGB l k (l[k]).b) := by
  unfold fitG
  rw [List.getElem?_eq_getElem h]
theorem fit_miss {l : List AgeD} {k : Nat} (h : k < l.length) (hf : fitG l k = false) : agesOkB l = false := by
  unfold agesOkB
  rw [decide_eq_false (fun hh => by rw [hh k h] at hf; cases hf)]
  rfl
theorem rise_miss {l : List AgeD} {j : Nat} (h : j + 1 < l.length) (hf : ¬ (l[j]).a < (l[j + 1]).a) : agesOkB l = false := by
  unfold agesOkB riseG
  rw [decide_eq_false (p := ∀ i (h : i < l.length - 1), (l[i]'(by omega)).a < (l[i + 1]'(by omega)).a) (fun hh => hf (hh j (by omega)))]
  simp
theorem fit_step {l : List AgeD} {k : Nat} (h : ∀ j, j < k → fitG l j = true) (hf : fitG l k = true) : ∀ j, j < k + 1 → fitG l j = true := by
  intro j hj
  by_cases h2 : j < k
  · exact h j h2
  · have : j = k := by omega
    subst this
    exact hf
/-- l1In at the range of an Id. -/
theorem inG_any (a : Int) (w : World) : Calls Tryz.prog 63 #[.int .i64 a, .int .i64 1, .int .i64 60] w (SaysBool w (idG a)) :=
  (l1InG_any a 1 60 w).mono (fun _ _ h => ⟨h.1, h.2 ▸ Below.refl _ _⟩)
theorem specAgeAtB (v : Value) (l : List AgeD) (d : Int) (w : World) (hv : Reads w w.heap.size v (agesD l)) (hn : l.length ≤ 2097152) : Calls Tryz.prog 133 #[v, .int .i64 d] w (SaysG w (ageAtK l d)) :=
  (specAgeAt_any v l d w hv hn).mono (fun _ _ h => ⟨h.1, h.2 ▸ Below.refl _ _⟩)
end Go.Proofs.YtlhemcjahcmdeaaGreatDoor
namespace Go.Proofs.YtlhemcjahcmdeaaGreatDoor
open Go.RowKit Go.Shelf
set_option maxRecDepth 100000
set_option linter.unusedSimpArgs false
set_option linter.unusedVariables false
attribute [local go_sem] Oper.semAt_some

def idxL (lo : List Int) : List (Nat × Int) := lo.mapIdx (fun i a => (i, a))
theorem idxL_len (lo : List Int) : (idxL lo).length = lo.length := by simp [idxL]
theorem idxL_get (lo : List Int) (k : Nat) (h : k < (idxL lo).length) : (idxL lo)[k] = (k, lo[k]'(by rw [idxL_len] at h; exact h)) := by simp [idxL]
theorem idxL_snoc (l : List Int) (a : Int) : idxL (l ++ [a]) = idxL l ++ [(l.length, a)] := by simp [idxL, List.mapIdx_append]
def foundI : Option (Nat × Int) → Int
  | some y => (y.1 : Int)
  | none => -1
def whereK (lo : List Int) (s : Int) : Int := foundI ((idxL lo).reverse.find? (fun y => decide (y.2 ≤ s)))
theorem whereK_nil (s : Int) : whereK [] s = -1 := rfl
theorem whereK_snoc (l : List Int) (a s : Int) : whereK (l ++ [a]) s = if a ≤ s then (l.length : Int) else whereK l s := by
  unfold whereK
  rw [idxL_snoc, List.reverse_append]
  simp only [List.reverse_cons, List.reverse_nil, List.nil_append, List.singleton_append, List.find?_cons]
  by_cases h : a ≤ s <;> simp [h, foundI]
theorem whereK_take {lo : List Int} {k : Nat} (h : k < lo.length) (s : Int) : whereK (lo.take (k + 1)) s = if lo[k] ≤ s then (k : Int) else whereK (lo.take k) s := by
  rw [List.take_succ_eq_append_getElem h, whereK_snoc]
  simp only [List.length_take, Nat.min_eq_left (Nat.le_of_lt h)]
theorem find_preG {α : Type} {K pre : List α} {x : α} {p : α → Bool} (h : pre ++ [x] <+: K) (h1 : ∀ y ∈ pre, p y = false) (h2 : p x = true) : K.find? p = some x := by
  obtain ⟨t, rfl⟩ := h
  rw [List.append_assoc, List.find?_append, List.find?_eq_none.2 (fun y hy => by simp [h1 y hy])]
  simp [List.find?_cons, h2]
/-- A number as the answer, nothing old written. -/
def SaysInt (w : World) (x : Int) (e : Ending) (w' : World) : Prop := e = .returned (.int .i64 x) ∧ Below w.heap.size w w'
def encI (x : Nat × Int) : Array Value := #[.int .i64 (x.1 : Int), .int .i64 x.2]
/-- The cells of the ints lie below n₀. -/
def IntsAt (W : World) (n₀ : Nat) (A : Option Addr) (lo : List Int) : Prop := lo = [] ∨ ∃ b off, A = some ⟨b, off, none⟩ ∧ b < n₀ ∧ ∀ k (h : k < lo.length), W.cell? ⟨b, off + k, none⟩ = some (.int .i64 lo[k])
theorem IntsAt.below {W W' : World} {n₀ : Nat} {A : Option Addr} {lo : List Int} (h : IntsAt W n₀ A lo) (hb : Below n₀ W W') : IntsAt W' n₀ A lo := by
  rcases h with h | ⟨b, off, h2, h3, h4⟩
  · exact .inl h
  · exact .inr ⟨b, off, h2, h3, fun k hk => (hb.cell (p := ⟨b, off + k, none⟩) h3).trans (h4 k hk)⟩
theorem IntsAt.mono {W : World} {n₀ n₁ : Nat} {A : Option Addr} {lo : List Int} (h : IntsAt W n₀ A lo) (hn : n₀ ≤ n₁) : IntsAt W n₁ A lo := by
  rcases h with h | ⟨b, off, h2, h3, h4⟩
  · exact .inl h
  · exact .inr ⟨b, off, h2, by omega, h4⟩
theorem Reads.intsAt {w : World} {A : Option Addr} {c : Nat} {lo : List Int} (h : Reads w w.heap.size (.slice A lo.length c) (intsD lo)) : IntsAt w w.heap.size A lo := by
  by_cases h0 : 0 < lo.length
  · obtain ⟨b, off, h1, h2, h3⟩ := h.int h0
    exact .inr ⟨b, off, h1, h2, h3⟩
  · exact .inl (List.length_eq_zero_iff.1 (by omega))
set_option maxHeartbeats 2000000 in
theorem backI_seq (E : TypeId) (Bs n₀ : Nat) (A : Option Addr) (c : Nat) (lo : List Int) (hm : lo.length ≤ 1100000) (hBs : Bs < n₀) (w : World) (hn₀ : n₀ ≤ w.heap.size) (hc : w.cell? ⟨Bs, 0, none⟩ = some (.slice A lo.length c)) (hz : IntsAt w n₀ A lo) :
    SeqL E Tryz.prog 345 #[.pointer (some ⟨Bs, 0, none⟩)] encI n₀ (idxL lo).reverse w := by
  intro l J Jx W hW hJ hJx hY h0
  have hc' : W.cell? ⟨Bs, 0, none⟩ = some (.slice A lo.length c) := (hW.cell (p := ⟨Bs, 0, none⟩) (show Bs < w.heap.size by omega)).trans hc
  have HZ := Lib.hid (hz.below (hW.mono hn₀))
  have hnW : n₀ ≤ W.heap.size := Nat.le_trans hn₀ hW.size
  clear hc hz hW hJ hJx
  refine (callsIn_wide (n := 1)).1 ?_
  refine callsIn_of_wp Tryz.func345 rfl trivial ?_ rfl
  simp only [Tryz.ntmps345, List.size_toArray, List.length_cons, List.length_nil, Nat.reduceAdd, Nat.reduceSub, Array.replicate_succ, Array.replicate_zero, List.push_toArray, List.append_toArray, List.nil_append, List.cons_append]
  gi_wp2
  gi_loopw [3] (fun i wr => ∃ r : Nat, r ≤ lo.length ∧ i = .int .i64 ((r : Int) - 1) ∧ Hid (J ((idxL lo).reverse.take ((idxL lo).length - r)) wr) ∧ Hid (Below n₀ W wr)) (fun i _ => (intOf i + 1).toNat)
  case atStart => exact ⟨lo.length, Nat.le_refl _, rfl, Lib.hid (by rw [idxL_len, Nat.sub_self]; exact h0), Lib.hid (Below.refl _ _)⟩
  case round =>
    obtain ⟨r, hr, rfl, HJ, HX⟩ := hrel
    have hB2 : wr.cell? ⟨Bs, 0, none⟩ = some (.slice A lo.length c) := (HX.out.cell (p := ⟨Bs, 0, none⟩) hBs).trans hc'
    rcases Nat.eq_zero_or_pos r with rfl | hpos
    · have t0 : decide ((0 : Int) ≤ ((0 : Nat) : Int) - 1) = false := by decide
      have HJ2 := HJ.out
      rw [Nat.sub_zero, List.take_of_length_le (by simp)] at HJ2
      gi_wp2
      go_end0
      exact ⟨⟨_, rfl⟩, .inl HJ2⟩
    · obtain ⟨k, rfl⟩ : ∃ k, r = k + 1 := ⟨r - 1, by omega⟩
      have hlt : k < lo.length := by omega
      have hlz : k < (idxL lo).length := by rw [idxL_len]; exact hlt
      have e1 : ((k + 1 : Nat) : Int) - 1 = (k : Int) := by omega
      rw [e1]
      obtain ⟨b, off, rfl, hb, hcc⟩ : ∃ b off, A = some ⟨b, off, none⟩ ∧ b < n₀ ∧ ∀ k (h : k < lo.length), W.cell? ⟨b, off + k, none⟩ = some (.int .i64 lo[k]) := by
        rcases HZ.out with h | h
        · rw [h] at hlt; simp at hlt
        · exact h
      have y0 := (HX.out.cell (p := ⟨b, off + k, none⟩) hb).trans (hcc k hlt)
      obtain ⟨fn, tmps, assign, body, hy, hR⟩ := hY _ (idxL lo)[k] wr (rev_pre hlz) HJ.out
      rw [idxL_get] at hy
      unfold encI at hy
      have HR := Lib.hid hR
      have hsz := HX.out.size
      have HT := Lib.hid (rev_take hlz)
      have HPX := Lib.hid (rev_pre hlz)
      have i2 : (k : Int) < (lo.length : Int) := by omega
      have i3 : (0 : Int) ≤ (k : Int) := by omega
      clear hcc hR e1 hpos
      gi_wp2
      refine (HR.out _).mono ?_
      rintro e W3 (⟨rfl, hJ3, ho3⟩ | ⟨rfl, hJx3, ho3⟩)
      · gi_wp2
        go_roundw
        case rel => exact ⟨k, by omega, by go_num, Lib.hid (by rw [HT.out]; exact hJ3), Lib.hid (HX.out.trans (only_below ho3 (Nat.le_trans hnW hsz)))⟩
        case measure => simp [intOf]
      · gi_wp2
        refine bodyPost_ret (results_none rfl _ _ _) rfl ?_
        exact ⟨⟨_, rfl⟩, .inr ⟨_, HPX.out, hJx3⟩⟩
theorem backIF_any (a : Option Addr) (len cap : Nat) (w : World) :
    Calls Tryz.prog 306 #[.slice a len cap] w fun e w' => e = .returned (.func (.func 345) #[] #[.pointer (some ⟨w.heap.size, 0, none⟩)]) ∧ w' = w.alloc (.cells #[.slice a len cap] 24) := by
  go_enter Tryz.func306, Tryz.ntmps306
  go_wp2
  go_ret
  exact ⟨rfl, rfl⟩
set_option maxHeartbeats 4000000 in
theorem implWhereIn_any (vl vn : Value) (lo : List Int) (ts : List NodeD) (p q : Int) (w : World) (hv : RdT w w.heap.size vl vn lo ts) (hn : lo.length ≤ 1100000) :
    Calls Tryz.prog 242 #[.agg #[vl, vn], .int .i64 p, .int .i64 q] w (SaysInt w (whereK lo (spotI p q))) := by
  obtain ⟨A, c, A', c', rfl, rfl⟩ := hv.shape
  have HV := Lib.hid hv.1.intsAt
  have HP := Lib.hid implSpotOf_any
  have HF1 : Hid (∀ s x pre, pre ++ [x] <+: (idxL lo).reverse → (∀ y ∈ pre, decide (y.2 ≤ s) = false) → decide (x.2 ≤ s) = true → whereK lo s = (x.1 : Int)) := Lib.hid (fun s x pre h1 h2 h3 => by unfold whereK; rw [find_preG h1 h2 h3]; rfl)
  have HF0 : Hid (∀ s, (∀ y ∈ (idxL lo).reverse, decide (y.2 ≤ s) = false) → whereK lo s = -1) := Lib.hid (fun s h => by unfold whereK; rw [List.find?_eq_none.2 (fun y hy => by simp [h y hy])]; rfl)
  clear hv
  refine (callsIn_wide (n := 3)).1 ?_
  refine callsIn_of_wp_marks Tryz.func242 rfl trivial ?_ rfl
  simp only [Tryz.ntmps242, List.size_toArray, List.length_cons, List.length_nil, Nat.reduceAdd, Nat.reduceSub, Array.replicate_succ, Array.replicate_zero, List.push_toArray, List.append_toArray, List.nil_append, List.cons_append]
  gi_wp2_with fail
  refine ⟨trivial, (callsIn_wide.2 (HP.out _ _ _)).mono ?_⟩
  rintro r w1 ⟨rfl, rfl⟩
  generalize spotI p q = s at *
  gi_wp2_with fail
  refine ⟨trivial, (callsIn_wide.2 (backIF_any _ _ _ _)).mono ?_⟩
  rintro r w1 ⟨rfl, rfl⟩
  gi_wp2_with fail
  obtain ⟨q0, q1⟩ := al2 w (.cells #[.slice A lo.length c, .slice A' ts.length c'] 27) (.cells #[.int .i64 0] 3)
  have hb2 := bal2 w (.cells #[.slice A lo.length c, .slice A' ts.length c'] 27) (.cells #[.int .i64 0] 3)
  obtain ⟨r0, r1⟩ := al2 ((w.alloc (.cells #[.slice A lo.length c, .slice A' ts.length c'] 27)).alloc (.cells #[.int .i64 0] 3)) (.cells #[.int .i64 s] 3) (.cells #[.slice A lo.length c] 24)
  have hb3 := bal2 ((w.alloc (.cells #[.slice A lo.length c, .slice A' ts.length c'] 27)).alloc (.cells #[.int .i64 0] 3)) (.cells #[.int .i64 s] 3) (.cells #[.slice A lo.length c] 24)
  have hz6 : ((((w.alloc (.cells #[.slice A lo.length c, .slice A' ts.length c'] 27)).alloc (.cells #[.int .i64 0] 3)).alloc (.cells #[.int .i64 s] 3)).alloc (.cells #[.slice A lo.length c] 24)).heap.size = w.heap.size + 4 := by simp
  simp only [World.size_alloc] at r0 r1
  have HB6 := Lib.hid (bstep hb2 hb3)
  have P1 := Lib.hid (box_on q1 hb3)
  clear hb2 hb3 q0 q1
  generalize (((w.alloc (.cells #[.slice A lo.length c, .slice A' ts.length c'] 27)).alloc (.cells #[.int .i64 0] 3)).alloc (.cells #[.int .i64 s] 3)).alloc (.cells #[.slice A lo.length c] 24) = W0 at *
  have R0 := Lib.hid r0
  have hww := HB6.out.size
  refine rangeL (E := 112) (gf := 345) (lb := #[.pointer (some ⟨w.heap.size + 1 + 1 + 1, 0, none⟩)]) rfl (enters_of Tryz.func345 (by kernel_rfl) rfl)
    (backI_seq 112 (w.heap.size + 1 + 1 + 1) W0.heap.size A c lo hn (by omega) W0 (Nat.le_refl _) (box1N r1).1 ((HV.out.below HB6.out).mono hww))
    (Below.refl _ _) (Nat.le_refl _) (fun _ => rfl)
    (fun pre V => Below W0.heap.size W0 V ∧ ∀ y ∈ pre, decide (y.2 ≤ s) = false)
    (fun cd _ V => cd = .ret ∧ V.heap[w.heap.size + 1]? = some (.cells #[.int .i64 (whereK lo s)] 3 (0, 0)) ∧ Below w.heap.size w V)
    (OwnFrom.and (ownFrom_below (Nat.le_refl _) (Nat.le_refl _)) (ownFrom_pure _ _))
    (fun cd _ X Y row hs hg hr => by
      obtain ⟨h1, h2, h4⟩ := hs
      have hr' : ∀ r, row = some r → ∃ o : Obj, X.heap[r]? = some o ∧ o.isCells = false := fun r e => (hr r e).2
      exact ⟨h1, cellsN hg hr' h2, ownFrom_below (β := Unit) (Nat.le_refl _) hww () X Y row h4 hg hr⟩)
    ⟨Below.refl _ _, fun y hy => by cases hy⟩
    (fun x a' _ => a' = { tmps := #[.agg #[.slice A lo.length c, .slice A' ts.length c'], .int .i64 p, .int .i64 q, .pointer (some ⟨w.heap.size, 0, none⟩), undef, undef, .pointer (some ⟨w.heap.size + 1, 0, none⟩), .pointer (some ⟨w.heap.size + 1 + 1, 0, none⟩), .int .i64 (x.1 : Int), .int .i64 x.2, .int .i64 p, .int .i64 q, .int .i64 s, .pointer (some ⟨w.heap.size, 0, none⟩), .slice A lo.length c, .func (.func 345) #[] #[.pointer (some ⟨w.heap.size + 1 + 1 + 1, 0, none⟩)], .int .i64 (x.1 : Int), .int .i64 x.2, undef, undef, undef, undef], defers := [] })
    (fun x a' => fun _ _ _ _ hs _ _ => hs)
    ?assign ?body ?done ?stop
  case assign =>
    rintro l pre x V K hpx hi hK
    simp only [encI]
    gi_wp2
    exact hK _ _ (Only.refl _ _) hi rfl
  case body =>
    rintro l pre x a' V hpx ⟨hB, hpre⟩ rfl
    have HBV := Lib.hid hB
    have HPR := Lib.hid hpre
    have HPX := Lib.hid hpx
    have hzV := hB.size
    obtain ⟨a0, a1⟩ := box1N (box_on R0.out hB)
    have p1 := box_on P1.out hB
    obtain ⟨c0, c1⟩ := box1N p1
    have P1' := Lib.hid p1
    clear hB hpre hpx p1
    cases hsp : decide (x.2 ≤ s)
    · have HSx := Lib.hid hsp
      gi_wp2
      exact ⟨Kept.refl _ _ _ _, HBV.out, fun y hy => (List.mem_append.1 hy).elim (HPR.out y) (fun e => by simp at e; subst e; exact HSx.out)⟩
    · have HFx := Lib.hid (HF1.out s x pre HPX.out HPR.out hsp)
      gi_wp2
      refine ⟨((Only.refl (fun b => b < W0.heap.size) V).setCell (g := w.heap.size + 1) (j := 0) (by omega) _).kept _ (fun b hb => ⟨Nat.zero_le _, fun h => by omega⟩), rfl, ?_, (bstep HB6.out HBV.out).setCell (p := ⟨w.heap.size + 1, 0, none⟩) (show w.heap.size ≤ w.heap.size + 1 by omega) _⟩
      rw [HFx.out]
      exact box_set P1'.out
  case done =>
    rintro D V hD ⟨hB, hall⟩ hK
    have HFx := Lib.hid (HF0.out s hall)
    have HBV := Lib.hid hB
    have HKD := Lib.hid hK
    have hDV : D < V.heap.size := (Array.getElem?_eq_some_iff.1 hK).1
    have p1 := box_on P1.out hB
    obtain ⟨c0, c1⟩ := box1N p1
    have P1' := Lib.hid p1
    clear hB hall hK p1
    gi_wp2
    have hK5 : (V.setCell ⟨w.heap.size + 1, 0, none⟩ (.int .i64 (-1))).heap[D]? = some (.deferred (some [])) := box_far HKD.out (by omega)
    refine ⟨by simp, .inl ⟨_, _, rfl, run_takeDeferred hK5, ?_⟩⟩
    have hput := fun {b cur e} => cellsN (b := b) (cur := cur) (e := e) (grownBy_putObj' _ D (.deferred none)) (fun r e => by cases e; exact ⟨_, hK5, rfl⟩)
    obtain ⟨d0, d1⟩ := box1N (hput (box_set (i := 0) (u := .int .i64 (-1)) P1'.out))
    have hFn := HFx.out
    refine ⟨.int .i64 (-1), by simp [results, Tryz.results242, go_sem, d0], by rw [hFn], ((bstep HB6.out HBV.out).setCell (p := ⟨w.heap.size + 1, 0, none⟩) (show w.heap.size ≤ w.heap.size + 1 by omega) _).trans (belowK_b (w := w) (Nat.le_refl _) _ D _ _ (by omega) hK5 rfl rfl)⟩
  case stop =>
    rintro D cd pre V hD _ ⟨rfl, h1, h3⟩ hK
    gi_wp2
    refine ⟨by simp, .inl ⟨_, _, rfl, run_takeDeferred hK, ?_⟩⟩
    have hput := fun {b cur e} => cellsN (b := b) (cur := cur) (e := e) (grownBy_putObj' V D (.deferred none)) (fun r e => by cases e; exact ⟨_, hK, rfl⟩)
    obtain ⟨a0, a1⟩ := box1N (hput h1)
    refine ⟨.int .i64 (whereK lo s), by simp [results, Tryz.results242, go_sem, a0], rfl, h3.trans (belowK_b (w := w) (Nat.le_refl _) _ D _ _ (by omega) hK rfl rfl)⟩
end Go.Proofs.YtlhemcjahcmdeaaGreatDoor
namespace Go.Proofs.YtlhemcjahcmdeaaGreatDoor
open Go.RowKit
set_option maxRecDepth 100000
set_option linter.unusedSimpArgs false
set_option linter.unusedVariables false

theorem l1In_any (a lo hi : Int) (w : World) : Calls Tryz.prog 63 #[.int .i64 a, .int .i64 lo, .int .i64 hi] w fun e w' => e = .returned (.bool (decide (lo ≤ a) && decide (a ≤ hi))) ∧ w = w' := by
  by_cases h1 : lo ≤ a
  · by_cases h2 : a ≤ hi
    · rw [decide_eq_true h1, decide_eq_true h2]
      go_enter Tryz.func63, Tryz.ntmps63
      go_wp2
      go_ret
      exact ⟨rfl, rfl⟩
    · have h3 : hi < a := by omega
      rw [decide_eq_true h1, decide_eq_false h2]
      go_enter Tryz.func63, Tryz.ntmps63
      go_wp2
      go_ret
      exact ⟨rfl, rfl⟩
  · have h3 : a < lo := by omega
    rw [decide_eq_false h1, Bool.false_and]
    go_enter Tryz.func63, Tryz.ntmps63
    go_wp2
    go_ret
    exact ⟨rfl, rfl⟩
def treeKeysK (ts : List NodeD) : List KeyD := (ts.map nodeKeysK).flatten
theorem treeKeys_cons (n : NodeD) (ts : List NodeD) : treeKeysK (n :: ts) = nodeKeysK n ++ treeKeysK ts := rfl
theorem treeKeys_append (a b : List NodeD) : treeKeysK (a ++ b) = treeKeysK a ++ treeKeysK b := by simp [treeKeysK]
theorem treeKeys_take {ts : List NodeD} {k : Nat} (h : k < ts.length) : treeKeysK (ts.take (k + 1)) = treeKeysK (ts.take k) ++ nodeKeysK ts[k] := by
  rw [List.take_succ_eq_append_getElem h, treeKeys_append]
  simp [treeKeysK]
theorem treeKeys_len (ts : List NodeD) : (treeKeysK ts).length ≤ sumT ts := by
  induction ts with
  | nil => simp [treeKeysK, sumT]
  | cons n ts ih =>
    have := nodeKeys_len n
    rw [treeKeys_cons, List.length_append, sumT_cons]
    omega
theorem treeKeys_takelen (ts : List NodeD) (k : Nat) : (treeKeysK (ts.take k)).length ≤ sumT ts := Nat.le_trans (treeKeys_len _) (sumT_take_le ts k)
set_option maxHeartbeats 1000000 in
theorem specTreeKeys_any (vl vn : Value) (lo : List Int) (ts : List NodeD) (w : World) (hv : RdT w w.heap.size vl vn lo ts) (hn : ts.length ≤ 1048576) (hs : sumT ts ≤ 1048576) :
    Calls Tryz.prog 253 #[.agg #[vl, vn]] w (NewK w (treeKeysK ts)) := by
  obtain ⟨A, c, A', c', rfl, rfl⟩ := hv.shape
  have HV := Lib.hid hv.2
  have HB := Lib.hid (bal1 w (.cells #[.slice A lo.length c, .slice A' ts.length c'] 27))
  have Q0 := Lib.hid (al1 w (.cells #[.slice A lo.length c, .slice A' ts.length c'] 27))
  clear hv
  go_enter Tryz.func253, Tryz.ntmps253
  go_upto_region 1 with (fail)
  generalize w.alloc (.cells #[.slice A lo.length c, .slice A' ts.length c'] 27) = W at *
  go_wp2
  go_loopw [3, 4] (fun o i wr => ∃ k : Nat, k ≤ ts.length ∧ i = .int .i64 k ∧ Hid (RowK wr W.heap.size o (treeKeysK (ts.take k))) ∧ Hid (Below W.heap.size W wr)) (fun _ i _ => ts.length - (intOf i).toNat)
  case atStart => exact ⟨0, Nat.zero_le _, rfl, Lib.hid (RowK.lit W), Lib.hid (bal1 _ _)⟩
  case round =>
    obtain ⟨k, hk, rfl, HR, HX⟩ := hrel
    obtain ⟨x0, x1, x2⟩ := box2 (box_on Q0.out HX.out)
    obtain ⟨Ao, co, rfl, _, _⟩ := HR.out.shape
    by_cases hlt : k < ts.length
    · obtain ⟨b, off, rfl, hbb, hc⟩ := (HV.out.on (bstep HB.out HX.out)).node hlt
      obtain ⟨A1, d1, c1, _, _, r1⟩ := hc k hlt
      have R1 := Lib.hid r1
      have HT := Lib.hid (treeKeys_take hlt)
      have HL := Lib.hid (treeKeys_takelen ts k)
      have hl := sumT_mem (List.getElem_mem hlt)
      have hlk := nodeKeys_len ts[k]
      have i1 : (k : Int) < (ts.length : Int) := by omega
      have i2 : (0 : Int) ≤ (k : Int) := by omega
      clear hc r1
      go_wp2_with fail
      refine (specNodeKeys_any _ ts[k] _ R1.out (by omega) (by omega)).mono ?_
      rintro e w2 ⟨v2, rfl, o2, b2⟩
      obtain ⟨A2, c2, rfl, _, _⟩ := o2.shape
      have HRow := Lib.hid (HR.out.on b2)
      have HAt := Lib.hid (o2.owns.reads.atK)
      have B2 := Lib.hid (bstep HX.out b2)
      have HZ := Lib.hid B2.out.size
      clear o2 b2 x0 x1 x2 c1
      go_wp2_with (at_builtin; refine wpList_appK _ rfl (.tmp 13) (.tmp 19) rfl W.heap.size _ (treeKeysK (ts.take k)) rfl HRow.out A2 (nodeKeysK ts[k]).length c2 (nodeKeysK ts[k]) rfl rfl HAt.out (by have := HL.out; omega) HZ.out ?_; intro v1 w1 o1 b1; clear HRow HAt)
      have HO := Lib.hid o1
      have B3 := Lib.hid (B2.out.trans b1)
      clear o1 b1
      go_roundw
      case rel => exact ⟨k + 1, by omega, by go_num, Lib.hid (by rw [HT.out]; exact HO.out), B3⟩
      case measure => simp [intOf]; omega
    · have e : k = ts.length := by omega
      subst e
      have h := HR.out
      rw [List.take_length] at h
      have HF := Lib.hid h
      clear h
      go_wp2
      go_ret
      refine ⟨_, rfl, ?_, bstep HB.out HX.out⟩
      have h := HF.out.mono (base' := w.heap.size) HB.out.size
      rw [List.take_length]
      exact h
set_option maxHeartbeats 1000000 in
theorem implTreeKeys_any (vl vn : Value) (lo : List Int) (ts : List NodeD) (w : World) (hv : RdT w w.heap.size vl vn lo ts) (hn : ts.length ≤ 1048576) (hs : sumT ts ≤ 1048576) :
    Calls Tryz.prog 279 #[.agg #[vl, vn]] w (NewK w (treeKeysK ts)) := by
  obtain ⟨A, c, A', c', rfl, rfl⟩ := hv.shape
  have HV := Lib.hid hv.2
  have HB := Lib.hid (bal1 w (.cells #[.slice A lo.length c, .slice A' ts.length c'] 27))
  have Q0 := Lib.hid (al1 w (.cells #[.slice A lo.length c, .slice A' ts.length c'] 27))
  clear hv
  go_enter Tryz.func279, Tryz.ntmps279
  go_upto_region 1 with (fail)
  generalize w.alloc (.cells #[.slice A lo.length c, .slice A' ts.length c'] 27) = W at *
  obtain ⟨x0, x1, x2⟩ := box2 (box_on Q0.out (bal1 W (.cells #[] 112)))
  go_wp2
  clear x0 x1 x2
  go_loopw [3, 10] (fun o i wr => ∃ k : Nat, k ≤ ts.length ∧ i = .int .i64 k ∧ Hid (RowK wr W.heap.size o (treeKeysK (ts.take k))) ∧ Hid (Below W.heap.size W wr)) (fun _ i _ => ts.length - (intOf i).toNat)
  case atStart => exact ⟨0, Nat.zero_le _, rfl, Lib.hid (RowK.lit W), Lib.hid (bal1 _ _)⟩
  case round =>
    obtain ⟨k, hk, rfl, HR, HX⟩ := hrel
    obtain ⟨Ao, co, rfl, _, _⟩ := HR.out.shape
    by_cases hlt : k < ts.length
    · obtain ⟨b, off, rfl, hbb, hc⟩ := (HV.out.on (bstep HB.out HX.out)).node hlt
      obtain ⟨A1, d1, c1, _, _, r1⟩ := hc k hlt
      have ba := bal1 wr (.cells #[.slice A1 (ts[k]).length d1] 153)
      have R1 := Lib.hid (r1.on ba)
      have HT := Lib.hid (treeKeys_take hlt)
      have HL := Lib.hid (treeKeys_takelen ts k)
      have hl := sumT_mem (List.getElem_mem hlt)
      have hlk := nodeKeys_len ts[k]
      have i1 : (k : Int) < (ts.length : Int) := by omega
      have i2 : (0 : Int) ≤ (k : Int) := by omega
      replace HX := Lib.hid (bstep HX.out ba)
      replace HR := Lib.hid (HR.out.on ba)
      clear hc r1 ba
      go_wp2_with fail
      refine (implNodeKeys_any _ ts[k] _ R1.out (by omega) (by omega)).mono ?_
      rintro e w2 ⟨v2, rfl, o2, b2⟩
      obtain ⟨A2, c2, rfl, _, _⟩ := o2.shape
      have HRow := Lib.hid (HR.out.on b2)
      have HAt := Lib.hid (o2.owns.reads.atK)
      have B2 := Lib.hid (bstep HX.out b2)
      have HZ := Lib.hid B2.out.size
      clear o2 b2 c1
      go_wp2_with (at_builtin; refine wpList_appK _ rfl (.tmp 14) (.tmp 16) rfl W.heap.size _ (treeKeysK (ts.take k)) rfl HRow.out A2 (nodeKeysK ts[k]).length c2 (nodeKeysK ts[k]) rfl rfl HAt.out (by have := HL.out; omega) HZ.out ?_; intro v1 w1 o1 b1; clear HRow HAt)
      have HO := Lib.hid o1
      have B3 := Lib.hid (B2.out.trans b1)
      clear o1 b1
      go_roundw
      case rel => exact ⟨k + 1, by omega, by go_num, Lib.hid (by rw [HT.out]; exact HO.out), B3⟩
      case measure => simp [intOf]; omega
    · have e : k = ts.length := by omega
      subst e
      have h := HR.out
      rw [List.take_length] at h
      have HF := Lib.hid h
      clear h
      go_wp2
      go_ret
      refine ⟨_, rfl, ?_, bstep HB.out HX.out⟩
      have h := HF.out.mono (base' := w.heap.size) HB.out.size
      rw [List.take_length]
      exact h
end Go.Proofs.YtlhemcjahcmdeaaGreatDoor
namespace Go.Proofs.YtlhemcjahcmdeaaGreatDoor
open Go.RowKit
set_option maxRecDepth 100000
set_option linter.unusedSimpArgs false
set_option linter.unusedVariables false

def InP (lo : List Int) (i : Nat) (x : Int) : Prop := lo.getD i 0 ≤ x ∧ (i + 1 < lo.length → x < lo.getD (i + 1) 0)
instance (lo : List Int) (i : Nat) (x : Int) : Decidable (InP lo i x) := inferInstanceAs (Decidable (_ ∧ _))
def FitP (lo : List Int) (i : Nat) (ns : NodeD) : Prop := nodeOkB ns = true ∧ (i = 0 ∨ 0 < (nodeKeysK ns).length) ∧ ∀ l ∈ ns, ∀ x ∈ l, InP lo i (spotI x.a x.b)
instance (lo : List Int) (i : Nat) (ns : NodeD) : Decidable (FitP lo i ns) := inferInstanceAs (Decidable (_ ∧ _ ∧ _))
def fitB (lo : List Int) (i : Nat) (ns : NodeD) : Bool := decide (FitP lo i ns)
def RiseP (lo : List Int) : Prop := ∀ i, i < lo.length - 1 → lo.getD i 0 < lo.getD (i + 1) 0
instance (lo : List Int) : Decidable (RiseP lo) := inferInstanceAs (Decidable (∀ i, i < lo.length - 1 → _))
def TreeP (lo : List Int) (ts : List NodeD) : Prop := 1 ≤ ts.length ∧ ts.length ≤ 20 ∧ lo.length = ts.length ∧ lo.getD 0 0 = 0 ∧ RiseP lo ∧ (∀ i, i < ts.length → fitB lo i (ts.getD i []) = true) ∧ (treeKeysK ts).length ≤ 60
instance (lo : List Int) (ts : List NodeD) : Decidable (TreeP lo ts) := inferInstanceAs (Decidable (_ ∧ _ ∧ _ ∧ _ ∧ _ ∧ (∀ i, i < ts.length → _) ∧ _))
def treeOkB (lo : List Int) (ts : List NodeD) : Bool := decide (TreeP lo ts)
theorem getD_at {lo : List Int} {i : Nat} (h : i < lo.length) : lo.getD i 0 = lo[i] := by simp [List.getD_eq_getElem?_getD, h]
theorem getD_node {ts : List NodeD} {i : Nat} (h : i < ts.length) : ts.getD i [] = ts[i] := by simp [List.getD_eq_getElem?_getD, h]
theorem fit_bad {lo : List Int} {i : Nat} {ns : NodeD} {k j : Nat} (hk : k < ns.length) (hj : j < (ns[k]).length) (h : ¬ InP lo i (spotI ((ns[k])[j]).a ((ns[k])[j]).b)) : fitB lo i ns = false :=
  decide_eq_false (fun hf => h (hf.2.2 _ (List.getElem_mem hk) _ (List.getElem_mem hj)))
theorem all_snoc {P : KeyD → Prop} {l : List KeyD} {j : Nat} (hj : j < l.length) (h : ∀ x ∈ l.take j, P x) (h2 : P l[j]) : ∀ x ∈ l.take (j + 1), P x := by
  rw [List.take_succ_eq_append_getElem hj]
  intro x hx
  rcases List.mem_append.1 hx with hx | hx
  · exact h x hx
  · simp at hx; subst hx; exact h2
theorem alls_snoc {P : KeyD → Prop} {ns : NodeD} {k : Nat} (hk : k < ns.length) (h : ∀ l ∈ ns.take k, ∀ x ∈ l, P x) (h2 : ∀ x ∈ ns[k], P x) : ∀ l ∈ ns.take (k + 1), ∀ x ∈ l, P x := by
  rw [List.take_succ_eq_append_getElem hk]
  intro l hl
  rcases List.mem_append.1 hl with hl | hl
  · exact h l hl
  · simp at hl; subst hl; exact h2
theorem l6Spot_any (x : KeyD) (w : World) : Calls Tryz.prog 205 #[x.v] w (SaysInt w (spotI x.a x.b)) := by
  have HP := Lib.hid (specSpotOf_any x.a x.b)
  have HB := Lib.hid (bal1 w (.cells #[.int .i64 x.a, .int .i64 x.b, .int .i64 x.c, .int .i64 x.d, .int .i64 x.e] 112))
  generalize spotI x.a x.b = s at *
  unfold KeyD.v keyV
  go_enter Tryz.func205, Tryz.ntmps205
  go_wp2_with fail
  refine (HP.out _).mono ?_
  rintro e w1 ⟨rfl, rfl⟩
  go_wp2
  go_ret
  exact ⟨rfl, HB.out⟩
set_option maxHeartbeats 8000000 in
theorem l6Node_any (vl vn : Value) (lo : List Int) (ts : List NodeD) (i : Nat) (w : World) (hv : RdT w w.heap.size vl vn lo ts) (hi : i < ts.length) (hiL : i < lo.length) (hn : ts.length ≤ 1048576) (hm : lo.length ≤ 1048576) (hs : sumT ts ≤ 1048576) :
    Calls Tryz.prog 252 #[.agg #[vl, vn], .int .i64 (i : Int)] w (SaysBool w (fitB lo i ts[i])) := by
  obtain ⟨A, c, B, d, rfl, rfl⟩ := hv.shape
  have HVL := Lib.hid hv.1
  obtain ⟨b0, off0, rfl, _, hc0⟩ := hv.2.node hi
  obtain ⟨A1, d1, c1, _, _, r1⟩ := hc0 i hi
  have HS := Lib.hid (small_at (by omega) hi)
  have hsm := sumT_mem (List.getElem_mem hi)
  have i3 : (i : Int) < (ts.length : Int) := by omega
  have i4 : (0 : Int) ≤ (i : Int) := by omega
  have i5 : (i : Int) < (lo.length : Int) := by omega
  generalize ts[i] = ns at *
  have hb2 := bal2 w (.cells #[.slice A lo.length c, .slice (some ⟨b0, off0, none⟩) ts.length d] 27) (.cells #[.slice A1 ns.length d1] 153)
  obtain ⟨q0, q1⟩ := al2 w (.cells #[.slice A lo.length c, .slice (some ⟨b0, off0, none⟩) ts.length d] 27) (.cells #[.slice A1 ns.length d1] 153)
  have HV2 := Lib.hid (r1.on hb2)
  have HB := Lib.hid hb2
  have Q0 := Lib.hid q0
  have Q1 := Lib.hid q1
  have c1' := (bcell (bal1 w (.cells #[.slice A lo.length c, .slice (some ⟨b0, off0, none⟩) ts.length d] 27))).1 b0 (off0 + i) (by assumption)
  rw [c1] at c1'
  clear hv hc0 r1 hb2 q0 q1
  go_enter Tryz.func252, Tryz.ntmps252
  go_upto_region 2 with (fail)
  clear c1 c1'
  generalize (w.alloc (.cells #[.slice A lo.length c, .slice (some ⟨b0, off0, none⟩) ts.length d] 27)).alloc (.cells #[.slice A1 ns.length d1] 153) = W at *
  obtain ⟨y0, y1⟩ := box1N Q1.out
  go_wp2_with fail
  refine (specNodeOk_any _ ns _ HV2.out HS.out).mono ?_
  rintro e W1 ⟨rfl, b1⟩
  have HVN := Lib.hid (HV2.out.on b1)
  replace Q0 := Lib.hid (box_on Q0.out b1)
  replace Q1 := Lib.hid (box_on Q1.out b1)
  have HB1 := Lib.hid (bstep HB.out b1)
  clear y0 y1 b1
  obtain ⟨x0, x1, x2⟩ := box2 Q0.out
  obtain ⟨y0, y1⟩ := box1N Q1.out
  cases hok : nodeOkB ns
  · have HF : Hid (fitB lo i ns = false) := Lib.hid (decide_eq_false (fun h => by have := h.1; rw [hok] at this; cases this))
    go_wp2
    go_ret
    exact ⟨ret_boolB HF.out.symm, HB1.out⟩
  · have HOK := Lib.hid hok
    clear hok
    by_cases hi0 : i = 0
    · have z0 : ¬ (0 : Int) < (i : Int) := by omega
      have z1 : (i : Int) ≤ 0 := by omega
      have HNE : Hid (i = 0 ∨ 0 < (nodeKeysK ns).length) := Lib.hid (.inl hi0)
      clear hi0 HV2 HB
      go_wp2
      go_loopw [6] (fun q wr => ∃ k : Nat, k ≤ ns.length ∧ q = .int .i64 k ∧ Hid (∀ l ∈ ns.take k, ∀ x ∈ l, InP lo i (spotI x.a x.b)) ∧ Hid (Below W1.heap.size W1 wr)) (fun q _ => ns.length - (intOf q).toNat)
      case atStart => exact ⟨0, Nat.zero_le _, rfl, Lib.hid (fun l hl => by simp at hl), Lib.hid (Below.refl _ _)⟩
      case round =>
        clear x0 x1 x2 y0 y1
        obtain ⟨k, hk, rfl, HI, HX⟩ := hrel
        obtain ⟨x0, x1, x2⟩ := box2 (box_on Q0.out HX.out)
        obtain ⟨y0, y1⟩ := box1N (box_on Q1.out HX.out)
        by_cases hlt : k < ns.length
        · have hlk := HS.out.at hlt
          have i1 : (k : Int) < (ns.length : Int) := by omega
          have i2 : (0 : Int) ≤ (k : Int) := by omega
          go_wp2
          go_loopw [7] (fun q wr => ∃ j : Nat, j ≤ (ns[k]).length ∧ q = .int .i64 j ∧ Hid (∀ x ∈ (ns[k]).take j, InP lo i (spotI x.a x.b)) ∧ Hid (Below W1.heap.size W1 wr)) (fun q _ => (ns[k]).length - (intOf q).toNat)
          case atStart => exact ⟨0, Nat.zero_le _, rfl, Lib.hid (fun l hl => by simp at hl), HX⟩
          case round =>
            clear x0 x1 x2 y0 y1 HX
            obtain ⟨j, hj, rfl, HJ, HX⟩ := hrel
            obtain ⟨x0, x1, x2⟩ := box2 (box_on Q0.out HX.out)
            obtain ⟨y0, y1⟩ := box1N (box_on Q1.out HX.out)
            obtain ⟨b, off, hA1, hbb, hc⟩ := (HVN.out.on HX.out).set hlt
            subst hA1
            obtain ⟨A2, d2, c1, _, _, r1⟩ := hc k hlt
            by_cases hlj : j < (ns[k]).length
            · obtain ⟨b3, off3, rfl, hbb3, hc3⟩ := r1.keys hlj
              obtain ⟨e0, e1, e2, e3, e4⟩ := hc3 j hlj
              have j1 : (j : Int) < ((ns[k]).length : Int) := by omega
              have j2 : (0 : Int) ≤ (j : Int) := by omega
              have HBAD := Lib.hid (fun h => fit_bad (lo := lo) (i := i) hlt hlj h)
              have HSN := Lib.hid (all_snoc (P := fun x => InP lo i (spotI x.a x.b)) hlj HJ.out)
              obtain ⟨s, hs⟩ : ∃ s, spotI ((ns[k])[j]).a ((ns[k])[j]).b = s := ⟨_, rfl⟩
              have HSP := Lib.hid (l6Spot_any (ns[k])[j])
              unfold KeyD.v keyV at HSP
              rw [hs] at HBAD HSN HSP
              clear hc hc3 r1 hs
              go_wp2_with fail
              refine (HSP.out _).mono ?_
              rintro e w5 ⟨rfl, b5⟩
              have HX5 := Lib.hid (bstep HX.out b5)
              clear x0 x1 x2 y0 y1 b5 c1 e0 e1 e2 e3 e4
              obtain ⟨x0, x1, x2⟩ := box2 (box_on Q0.out HX5.out)
              obtain ⟨b6, off6, hA6, hbb6, hc6⟩ := (HVL.out.on (bstep HB1.out HX5.out)).int hiL
              subst hA6
              have f1 := hc6 i hiL
              unfold iV at f1
              have g1 := getD_at hiL
              by_cases p1 : lo[i] ≤ s
              · by_cases p2 : i + 1 < lo.length
                · have f2 := hc6 (i + 1) p2
                  unfold iV at f2
                  have g2 := getD_at p2
                  have k1 : (i : Int) + 1 < (lo.length : Int) := by omega
                  have k2 : ((i : Int) + 1).toNat = i + 1 := by omega
                  have k3 : (0 : Int) ≤ (i : Int) + 1 := by omega
                  by_cases p3 : s < lo[i + 1]
                  · have HIN : Hid (InP lo i s) := Lib.hid ⟨by rw [g1]; exact p1, fun _ => by rw [g2]; exact p3⟩
                    clear hc6 g1 g2
                    go_wp2
                    go_roundw
                    case rel => exact ⟨j + 1, by omega, by go_num, Lib.hid (HSN.out HIN.out), HX5⟩
                    case measure => simp [intOf]; omega
                  · have p4 : lo[i + 1] ≤ s := by omega
                    have HN : Hid (¬ InP lo i s) := Lib.hid (fun h => by have := h.2 p2; rw [g2] at this; omega)
                    clear hc6 g1 g2 p3
                    go_wp2
                    go_ret
                    exact ⟨ret_boolB (HBAD.out HN.out).symm, bstep HB1.out HX5.out⟩
                · have k1 : ¬ (i : Int) + 1 < (lo.length : Int) := by omega
                  have k4 : (lo.length : Int) ≤ (i : Int) + 1 := by omega
                  have HIN : Hid (InP lo i s) := Lib.hid ⟨by rw [g1]; exact p1, fun h => absurd h p2⟩
                  clear hc6 g1 p2
                  go_wp2
                  go_roundw
                  case rel => exact ⟨j + 1, by omega, by go_num, Lib.hid (HSN.out HIN.out), HX5⟩
                  case measure => simp [intOf]; omega
              · have p4 : s < lo[i] := by omega
                have HN : Hid (¬ InP lo i s) := Lib.hid (fun h => by have := h.1; rw [g1] at this; omega)
                clear hc6 g1 p1
                go_wp2
                go_ret
                exact ⟨ret_boolB (HBAD.out HN.out).symm, bstep HB1.out HX5.out⟩
            · have e : j = (ns[k]).length := by omega
              subst e
              have h := HJ.out
              rw [List.take_length] at h
              have HSN := Lib.hid (alls_snoc (P := fun x => InP lo i (spotI x.a x.b)) hlt HI.out h)
              clear hc r1 h
              go_wp2
              go_roundw
              case rel => exact ⟨k + 1, by omega, by go_num, HSN, HX⟩
              case measure => simp [intOf]; omega
        · have e : k = ns.length := by omega
          subst e
          have h := HI.out
          rw [List.take_length] at h
          have HF := Lib.hid h
          clear h
          go_wp2
          go_ret
          exact ⟨ret_boolB (by symm; exact decide_eq_true ⟨HOK.out, HNE.out, HF.out⟩), bstep HB1.out HX.out⟩
    · have z0 : (0 : Int) < (i : Int) := by omega
      clear HB
      go_wp2_with fail
      refine (specNodeKeys_any _ ns _ HVN.out (by omega) (by omega)).mono ?_
      clear x0 x1 x2 y0 y1
      rintro e w2 ⟨v2, rfl, o2, b1⟩
      obtain ⟨A2, c2, rfl, _, _⟩ := o2.shape
      replace HVN := Lib.hid (HVN.out.on b1)
      replace Q0 := Lib.hid (box_on Q0.out b1)
      replace Q1 := Lib.hid (box_on Q1.out b1)
      replace HB1 := Lib.hid (bstep HB1.out b1)
      clear o2 b1 HV2
      obtain ⟨W1, rfl⟩ : ∃ W1, W1 = w2 := ⟨_, rfl⟩
      obtain ⟨x0, x1, x2⟩ := box2 Q0.out
      obtain ⟨y0, y1⟩ := box1N Q1.out
      by_cases hke : (nodeKeysK ns).length = 0
      · have hz : (((nodeKeysK ns).length : Int) == 0) = true := by simp [hke]
        have HF : Hid (fitB lo i ns = false) := Lib.hid (decide_eq_false (fun h => by have := h.2.1; omega))
        clear hke
        go_wp2
        go_ret
        exact ⟨ret_boolB HF.out.symm, HB1.out⟩
      · have hz : (((nodeKeysK ns).length : Int) == 0) = false := by simp; simpa using hke
        have HNE : Hid (i = 0 ∨ 0 < (nodeKeysK ns).length) := Lib.hid (.inr (by omega))
        clear hke
        go_wp2
        go_loopw [6] (fun q wr => ∃ k : Nat, k ≤ ns.length ∧ q = .int .i64 k ∧ Hid (∀ l ∈ ns.take k, ∀ x ∈ l, InP lo i (spotI x.a x.b)) ∧ Hid (Below W1.heap.size W1 wr)) (fun q _ => ns.length - (intOf q).toNat)
        case atStart => exact ⟨0, Nat.zero_le _, rfl, Lib.hid (fun l hl => by simp at hl), Lib.hid (Below.refl _ _)⟩
        case round =>
          clear x0 x1 x2 y0 y1
          obtain ⟨k, hk, rfl, HI, HX⟩ := hrel
          obtain ⟨x0, x1, x2⟩ := box2 (box_on Q0.out HX.out)
          obtain ⟨y0, y1⟩ := box1N (box_on Q1.out HX.out)
          by_cases hlt : k < ns.length
          · have hlk := HS.out.at hlt
            have i1 : (k : Int) < (ns.length : Int) := by omega
            have i2 : (0 : Int) ≤ (k : Int) := by omega
            go_wp2
            go_loopw [7] (fun q wr => ∃ j : Nat, j ≤ (ns[k]).length ∧ q = .int .i64 j ∧ Hid (∀ x ∈ (ns[k]).take j, InP lo i (spotI x.a x.b)) ∧ Hid (Below W1.heap.size W1 wr)) (fun q _ => (ns[k]).length - (intOf q).toNat)
            case atStart => exact ⟨0, Nat.zero_le _, rfl, Lib.hid (fun l hl => by simp at hl), HX⟩
            case round =>
              clear x0 x1 x2 y0 y1 HX
              obtain ⟨j, hj, rfl, HJ, HX⟩ := hrel
              obtain ⟨x0, x1, x2⟩ := box2 (box_on Q0.out HX.out)
              obtain ⟨y0, y1⟩ := box1N (box_on Q1.out HX.out)
              obtain ⟨b, off, hA1, hbb, hc⟩ := (HVN.out.on HX.out).set hlt
              subst hA1
              obtain ⟨A2, d2, c1, _, _, r1⟩ := hc k hlt
              by_cases hlj : j < (ns[k]).length
              · obtain ⟨b3, off3, rfl, hbb3, hc3⟩ := r1.keys hlj
                obtain ⟨e0, e1, e2, e3, e4⟩ := hc3 j hlj
                have j1 : (j : Int) < ((ns[k]).length : Int) := by omega
                have j2 : (0 : Int) ≤ (j : Int) := by omega
                have HBAD := Lib.hid (fun h => fit_bad (lo := lo) (i := i) hlt hlj h)
                have HSN := Lib.hid (all_snoc (P := fun x => InP lo i (spotI x.a x.b)) hlj HJ.out)
                obtain ⟨s, hs⟩ : ∃ s, spotI ((ns[k])[j]).a ((ns[k])[j]).b = s := ⟨_, rfl⟩
                have HSP := Lib.hid (l6Spot_any (ns[k])[j])
                unfold KeyD.v keyV at HSP
                rw [hs] at HBAD HSN HSP
                clear hc hc3 r1 hs
                go_wp2_with fail
                refine (HSP.out _).mono ?_
                rintro e w5 ⟨rfl, b5⟩
                have HX5 := Lib.hid (bstep HX.out b5)
                clear x0 x1 x2 y0 y1 b5 c1 e0 e1 e2 e3 e4
                obtain ⟨x0, x1, x2⟩ := box2 (box_on Q0.out HX5.out)
                obtain ⟨b6, off6, hA6, hbb6, hc6⟩ := (HVL.out.on (bstep HB1.out HX5.out)).int hiL
                subst hA6
                have f1 := hc6 i hiL
                unfold iV at f1
                have g1 := getD_at hiL
                by_cases p1 : lo[i] ≤ s
                · by_cases p2 : i + 1 < lo.length
                  · have f2 := hc6 (i + 1) p2
                    unfold iV at f2
                    have g2 := getD_at p2
                    have k1 : (i : Int) + 1 < (lo.length : Int) := by omega
                    have k2 : ((i : Int) + 1).toNat = i + 1 := by omega
                    have k3 : (0 : Int) ≤ (i : Int) + 1 := by omega
                    by_cases p3 : s < lo[i + 1]
                    · have HIN : Hid (InP lo i s) := Lib.hid ⟨by rw [g1]; exact p1, fun _ => by rw [g2]; exact p3⟩
                      clear hc6 g1 g2
                      go_wp2
                      go_roundw
                      case rel => exact ⟨j + 1, by omega, by go_num, Lib.hid (HSN.out HIN.out), HX5⟩
                      case measure => simp [intOf]; omega
                    · have p4 : lo[i + 1] ≤ s := by omega
                      have HN : Hid (¬ InP lo i s) := Lib.hid (fun h => by have := h.2 p2; rw [g2] at this; omega)
                      clear hc6 g1 g2 p3
                      go_wp2
                      go_ret
                      exact ⟨ret_boolB (HBAD.out HN.out).symm, bstep HB1.out HX5.out⟩
                  · have k1 : ¬ (i : Int) + 1 < (lo.length : Int) := by omega
                    have k4 : (lo.length : Int) ≤ (i : Int) + 1 := by omega
                    have HIN : Hid (InP lo i s) := Lib.hid ⟨by rw [g1]; exact p1, fun h => absurd h p2⟩
                    clear hc6 g1 p2
                    go_wp2
                    go_roundw
                    case rel => exact ⟨j + 1, by omega, by go_num, Lib.hid (HSN.out HIN.out), HX5⟩
                    case measure => simp [intOf]; omega
                · have p4 : s < lo[i] := by omega
                  have HN : Hid (¬ InP lo i s) := Lib.hid (fun h => by have := h.1; rw [g1] at this; omega)
                  clear hc6 g1 p1
                  go_wp2
                  go_ret
                  exact ⟨ret_boolB (HBAD.out HN.out).symm, bstep HB1.out HX5.out⟩
              · have e : j = (ns[k]).length := by omega
                subst e
                have h := HJ.out
                rw [List.take_length] at h
                have HSN := Lib.hid (alls_snoc (P := fun x => InP lo i (spotI x.a x.b)) hlt HI.out h)
                clear hc r1 h
                go_wp2
                go_roundw
                case rel => exact ⟨k + 1, by omega, by go_num, HSN, HX⟩
                case measure => simp [intOf]; omega
          · have e : k = ns.length := by omega
            subst e
            have h := HI.out
            rw [List.take_length] at h
            have HF := Lib.hid h
            clear h
            go_wp2
            go_ret
            exact ⟨ret_boolB (by symm; exact decide_eq_true ⟨HOK.out, HNE.out, HF.out⟩), bstep HB1.out HX.out⟩
/-- A row of ints, laid down as cells. -/
def IntsIn (w : World) (b off : Nat) (lo : List Int) : Prop := b < w.heap.size ∧ ∀ k (hk : k < lo.length), w.cell? ⟨b, off + k, none⟩ = some (.int .i64 lo[k])
theorem IntsIn.on {w w' : World} {b off : Nat} {lo : List Int} (h : IntsIn w b off lo) (hb : Below w.heap.size w w') : IntsIn w' b off lo := ⟨Nat.lt_of_lt_of_le h.1 hb.size, fun k hk => (hb.cell (p := ⟨b, off + k, none⟩) h.1).trans (h.2 k hk)⟩
theorem IntsIn.cellI {w : World} {b off : Nat} {lo : List Int} (h : IntsIn w b off lo) {k : Nat} (hk : k < lo.length) : w.cell? ⟨b, off + k, none⟩ = some (.int .i64 lo[k]) := h.2 k hk
theorem tree_bad {lo : List Int} {ts : List NodeD} (h : ¬ TreeP lo ts) : treeOkB lo ts = false := decide_eq_false h
set_option maxHeartbeats 8000000 in
theorem specTreeOk_any (vl vn : Value) (lo : List Int) (ts : List NodeD) (w : World) (hv : RdT w w.heap.size vl vn lo ts) (hn : ts.length ≤ 1048576) (hm : lo.length ≤ 1048576) (hs : sumT ts ≤ 1048576) :
    Calls Tryz.prog 192 #[.agg #[vl, vn]] w (SaysBool w (treeOkB lo ts)) := by
  obtain ⟨A, c, B, d, rfl, rfl⟩ := hv.shape
  have HB := Lib.hid (bal1 w (.cells #[.slice A lo.length c, .slice B ts.length d] 27))
  have Q0 := Lib.hid (al1 w (.cells #[.slice A lo.length c, .slice B ts.length d] 27))
  have HV := Lib.hid (hv.on (bal1 w (.cells #[.slice A lo.length c, .slice B ts.length d] 27)))
  clear hv
  go_enter Tryz.func192, Tryz.ntmps192
  go_upto_region 1 with (fail)
  generalize w.alloc (.cells #[.slice A lo.length c, .slice B ts.length d] 27) = W at *
  obtain ⟨x0, x1, x2⟩ := box2 Q0.out
  go_wp2_with fail
  refine (l1In_any (ts.length : Int) 1 20 _).mono ?_
  rintro e w1 ⟨rfl, rfl⟩
  by_cases h1 : 1 ≤ ts.length ∧ ts.length ≤ 20
  · have d1 : (decide ((1 : Int) ≤ (ts.length : Int)) && decide ((ts.length : Int) ≤ 20)) = true := by simp; omega
    rw [d1]
    by_cases h2 : lo.length = ts.length
    · have d2 : ((lo.length : Int) != (ts.length : Int)) = false := by simp [h2]
      have h0 : 0 < lo.length := by omega
      obtain ⟨b, off, rfl, hbb, hc⟩ := HV.out.1.int h0
      have HLI : Hid (IntsIn W b off lo) := Lib.hid ⟨hbb, hc⟩
      have f0 := hc 0 h0
      unfold iV at f0
      rw [Nat.add_zero] at f0
      have i0 : (0 : Int) < (lo.length : Int) := by omega
      have g0 := getD_at h0
      by_cases h3 : lo[0] = 0
      · have d3 : (lo[0] != 0) = false := by simp [h3]
        have H3 : Hid (lo.getD 0 0 = 0) := Lib.hid (by rw [g0]; exact h3)
        have H12 := Lib.hid h1
        have H2 := Lib.hid h2
        have h2a := Nat.le_of_eq h2
        have h2b := Nat.le_of_eq h2.symm
        clear hc g0 h3 h1 d1
        go_wp2
        clear x0 x1 x2 f0 d2 d3 h2
        go_loopw [3] (fun q wr => ∃ k : Nat, k ≤ ts.length ∧ q = .int .i64 k ∧ Hid (∀ j, j < k → fitB lo j (ts.getD j []) = true) ∧ Hid (∀ j, j + 1 < k → lo.getD j 0 < lo.getD (j + 1) 0) ∧ Hid (Below W.heap.size W wr)) (fun q _ => ts.length - (intOf q).toNat)
        case atStart => exact ⟨0, Nat.zero_le _, rfl, Lib.hid (fun j h => by omega), Lib.hid (fun j h => by omega), Lib.hid (Below.refl _ _)⟩
        case round =>
          obtain ⟨k, hk, rfl, HI1, HI2, HX⟩ := hrel
          have QW := Lib.hid (box_on Q0.out HX.out)
          obtain ⟨x0, x1, x2⟩ := box2 QW.out
          by_cases hlt : k < ts.length
          · have HLO := Lib.hid (HLI.out.on HX.out)
            have HVV := Lib.hid (HV.out.on HX.out)
            have hkL : k < lo.length := by omega
            have i1 : (k : Int) < (ts.length : Int) := by omega
            have i2 : (0 : Int) ≤ (k : Int) := by omega
            have i3 : (k : Int) < (lo.length : Int) := by omega
            have gk := getD_at hkL
            by_cases hk0 : k = 0
            · have z0 : decide (0 < k) = false := decide_eq_false (by omega)
              have HR : Hid (∀ j, j + 1 < k + 1 → lo.getD j 0 < lo.getD (j + 1) 0) := Lib.hid (fun j h => by omega)
              clear hk0
              cases hfb : fitB lo k ts[k]
              · have HFB := Lib.hid hfb
                have HBAD : Hid (treeOkB lo ts = false) := Lib.hid (tree_bad (fun h => by have := h.2.2.2.2.2.1 k hlt; rw [getD_node hlt, hfb] at this; cases this))
                clear hfb
                go_wp2
                refine but_begin (f := 21) (S := fun V => Below wr.drew.heap.size wr.drew V) (by kernel_rfl) ?_
                refine bt (f := 21) (i := 0) (v := ?vk0b0) rfl (Or.inl ⟨(by rfl), ?hyk0b0⟩) (Below.refl _ _) ?restk0b0
                case hyk0b0 => intro W hW; go_simp; exact rfl
                simp only [zA, zB, zC, Act.put, zD, zE, zF]
                refine bt (f := 21) (i := 1) (v := ?vk0b1) rfl (Or.inl ⟨(by rfl), ?hyk0b1⟩) (Below.refl _ _) ?restk0b1
                case hyk0b1 => intro W hW; go_simp; exact rfl
                simp only [zA, zB, zC, Act.put, zD, zE, zF]
                refine bt (f := 21) (i := 2) (v := ?vk0b2) rfl (Or.inl ⟨(by rfl), ?hyk0b2⟩) (Below.refl _ _) ?restk0b2
                case hyk0b2 => intro W hW; go_simp; exact rfl
                simp only [zA, zB, zC, Act.put, zD, zE, zF]
                refine bt (f := 21) (i := 3) (v := undef) rfl (Or.inr ⟨((wanted_at rfl rfl rfl rfl).trans rfl), rfl⟩) (Below.refl _ _) ?_
                simp only [zA, zB, zC, Act.put, zD, zE, zF]
                refine bt (f := 21) (i := 4) (v := undef) rfl (Or.inr ⟨((wanted_at rfl rfl rfl rfl).trans rfl), rfl⟩) (Below.refl _ _) ?_
                simp only [zA, zB, zC, Act.put, zD, zE, zF]
                refine bt (f := 21) (i := 5) (v := undef) rfl (Or.inr ⟨((wanted_at rfl rfl rfl rfl).trans rfl), rfl⟩) (Below.refl _ _) ?_
                simp only [zA, zB, zC, Act.put, zD, zE, zF]
                refine bt (f := 21) (i := 6) (v := undef) rfl (Or.inr ⟨((wanted_at rfl rfl rfl rfl).trans rfl), rfl⟩) (Below.refl _ _) ?_
                simp only [zA, zB, zC, Act.put, zD, zE, zF]
                refine bt (f := 21) (i := 7) (v := undef) rfl (Or.inr ⟨((wanted_at rfl rfl rfl rfl).trans rfl), rfl⟩) (Below.refl _ _) ?_
                simp only [zA, zB, zC, Act.put, zD, zE, zF]
                refine bt (f := 21) (i := 8) (v := undef) rfl (Or.inr ⟨((wanted_at rfl rfl rfl rfl).trans rfl), rfl⟩) (Below.refl _ _) ?_
                simp only [zA, zB, zC, Act.put, zD, zE, zF]
                refine bt (f := 21) (i := 9) (v := undef) rfl (Or.inr ⟨((wanted_at rfl rfl rfl rfl).trans rfl), rfl⟩) (Below.refl _ _) ?_
                simp only [zA, zB, zC, Act.put, zD, zE, zF]
                refine bt (f := 21) (i := 10) (v := undef) rfl (Or.inr ⟨((wanted_at rfl rfl rfl rfl).trans rfl), rfl⟩) (Below.refl _ _) ?_
                simp only [zA, zB, zC, Act.put, zD, zE, zF]
                refine bt (f := 21) (i := 11) (v := undef) rfl (Or.inr ⟨((wanted_at rfl rfl rfl rfl).trans rfl), rfl⟩) (Below.refl _ _) ?_
                simp only [zA, zB, zC, Act.put, zD, zE, zF]
                refine bt (f := 21) (i := 12) (v := undef) rfl (Or.inr ⟨((wanted_at rfl rfl rfl rfl).trans rfl), rfl⟩) (Below.refl _ _) ?_
                simp only [zA, zB, zC, Act.put, zD, zE, zF]
                refine bt (f := 21) (i := 13) (v := undef) rfl (Or.inr ⟨((wanted_at rfl rfl rfl rfl).trans rfl), rfl⟩) (Below.refl _ _) ?_
                simp only [zA, zB, zC, Act.put, zD, zE, zF]
                refine bt (f := 21) (i := 14) (v := undef) rfl (Or.inr ⟨((wanted_at rfl rfl rfl rfl).trans rfl), rfl⟩) (Below.refl _ _) ?_
                simp only [zA, zB, zC, Act.put, zD, zE, zF]
                refine bt (f := 21) (i := 15) (v := ?vk0b15) rfl (Or.inl ⟨(by rfl), ?hyk0b15⟩) (Below.refl _ _) ?restk0b15
                case hyk0b15 => intro W hW; go_simp; exact rfl
                simp only [zA, zB, zC, Act.put, zD, zE, zF]
                refine bt (f := 21) (i := 16) (v := ?vk0b16) rfl (Or.inl ⟨(by rfl), ?hyk0b16⟩) (Below.refl _ _) ?restk0b16
                case hyk0b16 => intro W hW; go_simp; exact rfl
                simp only [zA, zB, zC, Act.put, zD, zE, zF]
                refine bt (f := 21) (i := 17) (v := ?vk0b17) rfl (Or.inl ⟨((wanted_at rfl rfl rfl rfl).trans rfl), ?hyk0b17⟩) (Below.refl _ _) ?restk0b17
                case hyk0b17 =>
                  intro W hW
                  have hb0 : Below wr.heap.size wr W := bstep (Below.drew1 _) hW
                  obtain ⟨x0, x1, x2⟩ := box2 (box_on QW.out hb0)
                  go_simp
                  exact rfl
                simp only [zA, zB, zC, Act.put, zD, zE, zF]
                refine bt (f := 21) (i := 18) (v := ?vk0b18) rfl (Or.inl ⟨((wanted_at rfl rfl rfl rfl).trans rfl), ?hyk0b18⟩) (Below.refl _ _) ?restk0b18
                case hyk0b18 => intro W hW; go_simp; exact rfl
                simp only [zA, zB, zC, Act.put, zD, zE, zF]
                refine but_run (i := 19) (by kernel_rfl) rfl ((wanted_at rfl rfl rfl rfl).trans rfl) ?_
                simp only [zA, zB, zC]
                intro K HK
                go_wp2_with fail
                refine (l6Node_any _ _ lo ts k _ (HVV.out.on (bstep (Below.drew1 _) (Below.refl _ _))) hlt (by omega) (by omega) (by omega) (by omega)).mono ?_
                rintro r Vk0b1 ⟨rfl, hBk0b1⟩
                rw [HFB.out]
                have hSk0b1 := bstep (Below.refl _ _) hBk0b1
                go_wp2_with fail
                refine HK.out _ Vk0b1 (fun _ => hSk0b1) ?_
                clear HK
                refine bt (f := 21) (i := 20) (v := ?vk0b20) rfl (Or.inl ⟨((wanted_at rfl rfl rfl rfl).trans rfl), ?hyk0b20⟩) hSk0b1 ?restk0b20
                case hyk0b20 => intro W hW; go_simp; exact rfl
                simp only [zA, zB, zC, Act.put, zD, zE, zF]
                refine but_run (i := 21) (by kernel_rfl) rfl (by rfl) ?_
                simp only [zA, zB, zC]
                intro K HK
                go_wp2_with fail
                refine HK.out _ Vk0b1 (fun h => absurd rfl h) ?_
                clear HK
                refine but_done (by kernel_rfl) ?_
                go_wp2_with fail
                go_ret
                exact ⟨ret_boolB HBAD.out.symm, bstep HB.out (bstep HX.out (bstep (Below.drew1 _) hSk0b1))⟩
              · have HFB := Lib.hid hfb
                have HN1 : Hid (∀ j, j < k + 1 → fitB lo j (ts.getD j []) = true) := Lib.hid (fun j h => by
                  rcases Nat.lt_or_ge j k with h' | h'
                  · exact HI1.out j h'
                  · have : j = k := by omega
                    subst this; rw [getD_node hlt]; exact hfb)
                have HN2 := HR
                clear hfb
                go_wp2
                refine but_begin (f := 21) (S := fun V => Below wr.drew.heap.size wr.drew V) (by kernel_rfl) ?_
                refine bt (f := 21) (i := 0) (v := ?vk0g0) rfl (Or.inl ⟨(by rfl), ?hyk0g0⟩) (Below.refl _ _) ?restk0g0
                case hyk0g0 => intro W hW; go_simp; exact rfl
                simp only [zA, zB, zC, Act.put, zD, zE, zF]
                refine bt (f := 21) (i := 1) (v := ?vk0g1) rfl (Or.inl ⟨(by rfl), ?hyk0g1⟩) (Below.refl _ _) ?restk0g1
                case hyk0g1 => intro W hW; go_simp; exact rfl
                simp only [zA, zB, zC, Act.put, zD, zE, zF]
                refine bt (f := 21) (i := 2) (v := ?vk0g2) rfl (Or.inl ⟨(by rfl), ?hyk0g2⟩) (Below.refl _ _) ?restk0g2
                case hyk0g2 => intro W hW; go_simp; exact rfl
                simp only [zA, zB, zC, Act.put, zD, zE, zF]
                refine bt (f := 21) (i := 3) (v := undef) rfl (Or.inr ⟨((wanted_at rfl rfl rfl rfl).trans rfl), rfl⟩) (Below.refl _ _) ?_
                simp only [zA, zB, zC, Act.put, zD, zE, zF]
                refine bt (f := 21) (i := 4) (v := undef) rfl (Or.inr ⟨((wanted_at rfl rfl rfl rfl).trans rfl), rfl⟩) (Below.refl _ _) ?_
                simp only [zA, zB, zC, Act.put, zD, zE, zF]
                refine bt (f := 21) (i := 5) (v := undef) rfl (Or.inr ⟨((wanted_at rfl rfl rfl rfl).trans rfl), rfl⟩) (Below.refl _ _) ?_
                simp only [zA, zB, zC, Act.put, zD, zE, zF]
                refine bt (f := 21) (i := 6) (v := undef) rfl (Or.inr ⟨((wanted_at rfl rfl rfl rfl).trans rfl), rfl⟩) (Below.refl _ _) ?_
                simp only [zA, zB, zC, Act.put, zD, zE, zF]
                refine bt (f := 21) (i := 7) (v := undef) rfl (Or.inr ⟨((wanted_at rfl rfl rfl rfl).trans rfl), rfl⟩) (Below.refl _ _) ?_
                simp only [zA, zB, zC, Act.put, zD, zE, zF]
                refine bt (f := 21) (i := 8) (v := undef) rfl (Or.inr ⟨((wanted_at rfl rfl rfl rfl).trans rfl), rfl⟩) (Below.refl _ _) ?_
                simp only [zA, zB, zC, Act.put, zD, zE, zF]
                refine bt (f := 21) (i := 9) (v := undef) rfl (Or.inr ⟨((wanted_at rfl rfl rfl rfl).trans rfl), rfl⟩) (Below.refl _ _) ?_
                simp only [zA, zB, zC, Act.put, zD, zE, zF]
                refine bt (f := 21) (i := 10) (v := undef) rfl (Or.inr ⟨((wanted_at rfl rfl rfl rfl).trans rfl), rfl⟩) (Below.refl _ _) ?_
                simp only [zA, zB, zC, Act.put, zD, zE, zF]
                refine bt (f := 21) (i := 11) (v := undef) rfl (Or.inr ⟨((wanted_at rfl rfl rfl rfl).trans rfl), rfl⟩) (Below.refl _ _) ?_
                simp only [zA, zB, zC, Act.put, zD, zE, zF]
                refine bt (f := 21) (i := 12) (v := undef) rfl (Or.inr ⟨((wanted_at rfl rfl rfl rfl).trans rfl), rfl⟩) (Below.refl _ _) ?_
                simp only [zA, zB, zC, Act.put, zD, zE, zF]
                refine bt (f := 21) (i := 13) (v := undef) rfl (Or.inr ⟨((wanted_at rfl rfl rfl rfl).trans rfl), rfl⟩) (Below.refl _ _) ?_
                simp only [zA, zB, zC, Act.put, zD, zE, zF]
                refine bt (f := 21) (i := 14) (v := undef) rfl (Or.inr ⟨((wanted_at rfl rfl rfl rfl).trans rfl), rfl⟩) (Below.refl _ _) ?_
                simp only [zA, zB, zC, Act.put, zD, zE, zF]
                refine bt (f := 21) (i := 15) (v := ?vk0g15) rfl (Or.inl ⟨(by rfl), ?hyk0g15⟩) (Below.refl _ _) ?restk0g15
                case hyk0g15 => intro W hW; go_simp; exact rfl
                simp only [zA, zB, zC, Act.put, zD, zE, zF]
                refine bt (f := 21) (i := 16) (v := ?vk0g16) rfl (Or.inl ⟨(by rfl), ?hyk0g16⟩) (Below.refl _ _) ?restk0g16
                case hyk0g16 => intro W hW; go_simp; exact rfl
                simp only [zA, zB, zC, Act.put, zD, zE, zF]
                refine bt (f := 21) (i := 17) (v := ?vk0g17) rfl (Or.inl ⟨((wanted_at rfl rfl rfl rfl).trans rfl), ?hyk0g17⟩) (Below.refl _ _) ?restk0g17
                case hyk0g17 =>
                  intro W hW
                  have hb0 : Below wr.heap.size wr W := bstep (Below.drew1 _) hW
                  obtain ⟨x0, x1, x2⟩ := box2 (box_on QW.out hb0)
                  go_simp
                  exact rfl
                simp only [zA, zB, zC, Act.put, zD, zE, zF]
                refine bt (f := 21) (i := 18) (v := ?vk0g18) rfl (Or.inl ⟨((wanted_at rfl rfl rfl rfl).trans rfl), ?hyk0g18⟩) (Below.refl _ _) ?restk0g18
                case hyk0g18 => intro W hW; go_simp; exact rfl
                simp only [zA, zB, zC, Act.put, zD, zE, zF]
                refine but_run (i := 19) (by kernel_rfl) rfl ((wanted_at rfl rfl rfl rfl).trans rfl) ?_
                simp only [zA, zB, zC]
                intro K HK
                go_wp2_with fail
                refine (l6Node_any _ _ lo ts k _ (HVV.out.on (bstep (Below.drew1 _) (Below.refl _ _))) hlt (by omega) (by omega) (by omega) (by omega)).mono ?_
                rintro r Vk0g1 ⟨rfl, hBk0g1⟩
                rw [HFB.out]
                have hSk0g1 := bstep (Below.refl _ _) hBk0g1
                go_wp2_with fail
                refine HK.out _ Vk0g1 (fun _ => hSk0g1) ?_
                clear HK
                refine bt (f := 21) (i := 20) (v := ?vk0g20) rfl (Or.inl ⟨((wanted_at rfl rfl rfl rfl).trans rfl), ?hyk0g20⟩) hSk0g1 ?restk0g20
                case hyk0g20 => intro W hW; go_simp; exact rfl
                simp only [zA, zB, zC, Act.put, zD, zE, zF]
                refine but_run (i := 21) (by kernel_rfl) rfl (by rfl) ?_
                simp only [zA, zB, zC]
                intro K HK
                go_wp2_with fail
                refine HK.out _ Vk0g1 (fun h => absurd rfl h) ?_
                clear HK
                refine but_done (by kernel_rfl) ?_
                go_wp2_with fail
                go_roundw
                case rel => exact ⟨k + 1, by omega, by go_num, HN1, HN2, Lib.hid (bstep HX.out (bstep (Below.drew1 _) hSk0g1))⟩
                case measure => simp [intOf]; omega
            · have hkP : k - 1 < lo.length := by omega
              have z0 : decide (0 < k) = true := decide_eq_true (by omega)
              have i4 : IntKind.i64.wrap ((k : Int) - 1) = (k : Int) - 1 := by rw [IntKind.wrap_i64]; omega
              have i5 : (0 : Int) ≤ (k : Int) - 1 := by omega
              have i8 : (1 : Int) ≤ (k : Int) := by omega
              have i6 : (k : Int) - 1 < (lo.length : Int) := by omega
              have i7 : ((k : Int) - 1).toNat = k - 1 := by omega
              have gp := getD_at hkP
              have hkk : k - 1 + 1 = k := by omega
              by_cases hr : lo[k - 1] < lo[k]
              · have z1 : decide (lo[k] ≤ lo[k - 1]) = false := decide_eq_false (by omega)
                have HR : Hid (∀ j, j + 1 < k + 1 → lo.getD j 0 < lo.getD (j + 1) 0) := Lib.hid (fun j h => by
                  rcases Nat.lt_or_ge (j + 1) k with h' | h'
                  · exact HI2.out j h'
                  · have : j = k - 1 := by omega
                    subst this; rw [hkk, gk, gp]; exact hr)
                clear hkk gp gk hr hk0
                cases hfb : fitB lo k ts[k]
                · have HFB := Lib.hid hfb
                  have HBAD : Hid (treeOkB lo ts = false) := Lib.hid (tree_bad (fun h => by have := h.2.2.2.2.2.1 k hlt; rw [getD_node hlt, hfb] at this; cases this))
                  clear hfb
                  go_wp2
                  refine but_begin (f := 21) (S := fun V => Below wr.drew.heap.size wr.drew V) (by kernel_rfl) ?_
                  refine bt (f := 21) (i := 0) (v := ?vkub0) rfl (Or.inl ⟨(by rfl), ?hykub0⟩) (Below.refl _ _) ?restkub0
                  case hykub0 => intro W hW; go_simp; exact rfl
                  simp only [zA, zB, zC, Act.put, zD, zE, zF]
                  refine bt (f := 21) (i := 1) (v := ?vkub1) rfl (Or.inl ⟨(by rfl), ?hykub1⟩) (Below.refl _ _) ?restkub1
                  case hykub1 => intro W hW; go_simp; exact rfl
                  simp only [zA, zB, zC, Act.put, zD, zE, zF]
                  refine bt (f := 21) (i := 2) (v := ?vkub2) rfl (Or.inl ⟨(by rfl), ?hykub2⟩) (Below.refl _ _) ?restkub2
                  case hykub2 => intro W hW; go_simp; exact rfl
                  simp only [zA, zB, zC, Act.put, zD, zE, zF]
                  refine bt (f := 21) (i := 3) (v := ?vkub3) rfl (Or.inl ⟨((wanted_at rfl rfl rfl rfl).trans rfl), ?hykub3⟩) (Below.refl _ _) ?restkub3
                  case hykub3 => intro W hW; go_simp; exact rfl
                  simp only [zA, zB, zC, Act.put, zD, zE, zF]
                  refine bt (f := 21) (i := 4) (v := ?vkub4) rfl (Or.inl ⟨((wanted_at rfl rfl rfl rfl).trans rfl), ?hykub4⟩) (Below.refl _ _) ?restkub4
                  case hykub4 =>
                    intro W hW
                    have hb0 : Below wr.heap.size wr W := bstep (Below.drew1 _) hW
                    obtain ⟨x0, x1, x2⟩ := box2 (box_on QW.out hb0)
                    go_simp
                    exact rfl
                  simp only [zA, zB, zC, Act.put, zD, zE, zF]
                  refine bt (f := 21) (i := 5) (v := ?vkub5) rfl (Or.inl ⟨((wanted_at rfl rfl rfl rfl).trans rfl), ?hykub5⟩) (Below.refl _ _) ?restkub5
                  case hykub5 => intro W hW; go_simp; exact rfl
                  simp only [zA, zB, zC, Act.put, zD, zE, zF]
                  refine bt (f := 21) (i := 6) (v := ?vkub6) rfl (Or.inl ⟨((wanted_at rfl rfl rfl rfl).trans rfl), ?hykub6⟩) (Below.refl _ _) ?restkub6
                  case hykub6 => intro W hW; go_simp; exact rfl
                  simp only [zA, zB, zC, Act.put, zD, zE, zF]
                  refine bt (f := 21) (i := 7) (v := ?vkub7) rfl (Or.inl ⟨((wanted_at rfl rfl rfl rfl).trans rfl), ?hykub7⟩) (Below.refl _ _) ?restkub7
                  case hykub7 => intro W hW; go_simp; exact rfl
                  simp only [zA, zB, zC, Act.put, zD, zE, zF]
                  refine bt (f := 21) (i := 8) (v := ?vkub8) rfl (Or.inl ⟨((wanted_at rfl rfl rfl rfl).trans rfl), ?hykub8⟩) (Below.refl _ _) ?restkub8
                  case hykub8 =>
                    intro W hW
                    have hb0 : Below wr.heap.size wr W := bstep (Below.drew1 _) hW
                    have f1 := (HLO.out.on hb0).cellI hkL
                    have f2 := (HLO.out.on hb0).cellI hkP
                    go_simp
                    exact rfl
                  simp only [zA, zB, zC, Act.put, zD, zE, zF]
                  refine bt (f := 21) (i := 9) (v := ?vkub9) rfl (Or.inl ⟨((wanted_at rfl rfl rfl rfl).trans rfl), ?hykub9⟩) (Below.refl _ _) ?restkub9
                  case hykub9 => intro W hW; go_simp; exact rfl
                  simp only [zA, zB, zC, Act.put, zD, zE, zF]
                  refine bt (f := 21) (i := 10) (v := ?vkub10) rfl (Or.inl ⟨((wanted_at rfl rfl rfl rfl).trans rfl), ?hykub10⟩) (Below.refl _ _) ?restkub10
                  case hykub10 =>
                    intro W hW
                    have hb0 : Below wr.heap.size wr W := bstep (Below.drew1 _) hW
                    obtain ⟨x0, x1, x2⟩ := box2 (box_on QW.out hb0)
                    go_simp
                    exact rfl
                  simp only [zA, zB, zC, Act.put, zD, zE, zF]
                  refine bt (f := 21) (i := 11) (v := ?vkub11) rfl (Or.inl ⟨((wanted_at rfl rfl rfl rfl).trans rfl), ?hykub11⟩) (Below.refl _ _) ?restkub11
                  case hykub11 => intro W hW; go_simp; exact rfl
                  simp only [zA, zB, zC, Act.put, zD, zE, zF]
                  refine bt (f := 21) (i := 12) (v := ?vkub12) rfl (Or.inl ⟨((wanted_at rfl rfl rfl rfl).trans rfl), ?hykub12⟩) (Below.refl _ _) ?restkub12
                  case hykub12 => intro W hW; go_simp; exact rfl
                  simp only [zA, zB, zC, Act.put, zD, zE, zF]
                  refine bt (f := 21) (i := 13) (v := ?vkub13) rfl (Or.inl ⟨((wanted_at rfl rfl rfl rfl).trans rfl), ?hykub13⟩) (Below.refl _ _) ?restkub13
                  case hykub13 =>
                    intro W hW
                    have hb0 : Below wr.heap.size wr W := bstep (Below.drew1 _) hW
                    have f1 := (HLO.out.on hb0).cellI hkL
                    have f2 := (HLO.out.on hb0).cellI hkP
                    go_simp
                    exact rfl
                  simp only [zA, zB, zC, Act.put, zD, zE, zF]
                  refine bt (f := 21) (i := 14) (v := ?vkub14) rfl (Or.inl ⟨((wanted_at rfl rfl rfl rfl).trans rfl), ?hykub14⟩) (Below.refl _ _) ?restkub14
                  case hykub14 => intro W hW; go_simp; exact rfl
                  simp only [zA, zB, zC, Act.put, zD, zE, zF]
                  refine bt (f := 21) (i := 15) (v := ?vkub15) rfl (Or.inl ⟨(by rfl), ?hykub15⟩) (Below.refl _ _) ?restkub15
                  case hykub15 => intro W hW; go_simp; exact rfl
                  simp only [zA, zB, zC, Act.put, zD, zE, zF]
                  refine bt (f := 21) (i := 16) (v := ?vkub16) rfl (Or.inl ⟨(by rfl), ?hykub16⟩) (Below.refl _ _) ?restkub16
                  case hykub16 => intro W hW; go_simp; exact rfl
                  simp only [zA, zB, zC, Act.put, zD, zE, zF]
                  refine bt (f := 21) (i := 17) (v := ?vkub17) rfl (Or.inl ⟨((wanted_at rfl rfl rfl rfl).trans rfl), ?hykub17⟩) (Below.refl _ _) ?restkub17
                  case hykub17 =>
                    intro W hW
                    have hb0 : Below wr.heap.size wr W := bstep (Below.drew1 _) hW
                    obtain ⟨x0, x1, x2⟩ := box2 (box_on QW.out hb0)
                    go_simp
                    exact rfl
                  simp only [zA, zB, zC, Act.put, zD, zE, zF]
                  refine bt (f := 21) (i := 18) (v := ?vkub18) rfl (Or.inl ⟨((wanted_at rfl rfl rfl rfl).trans rfl), ?hykub18⟩) (Below.refl _ _) ?restkub18
                  case hykub18 => intro W hW; go_simp; exact rfl
                  simp only [zA, zB, zC, Act.put, zD, zE, zF]
                  refine but_run (i := 19) (by kernel_rfl) rfl ((wanted_at rfl rfl rfl rfl).trans rfl) ?_
                  simp only [zA, zB, zC]
                  intro K HK
                  go_wp2_with fail
                  refine (l6Node_any _ _ lo ts k _ (HVV.out.on (bstep (Below.drew1 _) (Below.refl _ _))) hlt (by omega) (by omega) (by omega) (by omega)).mono ?_
                  rintro r Vkub1 ⟨rfl, hBkub1⟩
                  rw [HFB.out]
                  have hSkub1 := bstep (Below.refl _ _) hBkub1
                  go_wp2_with fail
                  refine HK.out _ Vkub1 (fun _ => hSkub1) ?_
                  clear HK
                  refine bt (f := 21) (i := 20) (v := ?vkub20) rfl (Or.inl ⟨((wanted_at rfl rfl rfl rfl).trans rfl), ?hykub20⟩) hSkub1 ?restkub20
                  case hykub20 => intro W hW; go_simp; exact rfl
                  simp only [zA, zB, zC, Act.put, zD, zE, zF]
                  refine but_run (i := 21) (by kernel_rfl) rfl (by rfl) ?_
                  simp only [zA, zB, zC]
                  intro K HK
                  go_wp2_with fail
                  refine HK.out _ Vkub1 (fun h => absurd rfl h) ?_
                  clear HK
                  refine but_done (by kernel_rfl) ?_
                  go_wp2_with fail
                  go_ret
                  exact ⟨ret_boolB HBAD.out.symm, bstep HB.out (bstep HX.out (bstep (Below.drew1 _) hSkub1))⟩
                · have HFB := Lib.hid hfb
                  have HN1 : Hid (∀ j, j < k + 1 → fitB lo j (ts.getD j []) = true) := Lib.hid (fun j h => by
                    rcases Nat.lt_or_ge j k with h' | h'
                    · exact HI1.out j h'
                    · have : j = k := by omega
                      subst this; rw [getD_node hlt]; exact hfb)
                  have HN2 := HR
                  clear hfb
                  go_wp2
                  refine but_begin (f := 21) (S := fun V => Below wr.drew.heap.size wr.drew V) (by kernel_rfl) ?_
                  refine bt (f := 21) (i := 0) (v := ?vkug0) rfl (Or.inl ⟨(by rfl), ?hykug0⟩) (Below.refl _ _) ?restkug0
                  case hykug0 => intro W hW; go_simp; exact rfl
                  simp only [zA, zB, zC, Act.put, zD, zE, zF]
                  refine bt (f := 21) (i := 1) (v := ?vkug1) rfl (Or.inl ⟨(by rfl), ?hykug1⟩) (Below.refl _ _) ?restkug1
                  case hykug1 => intro W hW; go_simp; exact rfl
                  simp only [zA, zB, zC, Act.put, zD, zE, zF]
                  refine bt (f := 21) (i := 2) (v := ?vkug2) rfl (Or.inl ⟨(by rfl), ?hykug2⟩) (Below.refl _ _) ?restkug2
                  case hykug2 => intro W hW; go_simp; exact rfl
                  simp only [zA, zB, zC, Act.put, zD, zE, zF]
                  refine bt (f := 21) (i := 3) (v := ?vkug3) rfl (Or.inl ⟨((wanted_at rfl rfl rfl rfl).trans rfl), ?hykug3⟩) (Below.refl _ _) ?restkug3
                  case hykug3 => intro W hW; go_simp; exact rfl
                  simp only [zA, zB, zC, Act.put, zD, zE, zF]
                  refine bt (f := 21) (i := 4) (v := ?vkug4) rfl (Or.inl ⟨((wanted_at rfl rfl rfl rfl).trans rfl), ?hykug4⟩) (Below.refl _ _) ?restkug4
                  case hykug4 =>
                    intro W hW
                    have hb0 : Below wr.heap.size wr W := bstep (Below.drew1 _) hW
                    obtain ⟨x0, x1, x2⟩ := box2 (box_on QW.out hb0)
                    go_simp
                    exact rfl
                  simp only [zA, zB, zC, Act.put, zD, zE, zF]
                  refine bt (f := 21) (i := 5) (v := ?vkug5) rfl (Or.inl ⟨((wanted_at rfl rfl rfl rfl).trans rfl), ?hykug5⟩) (Below.refl _ _) ?restkug5
                  case hykug5 => intro W hW; go_simp; exact rfl
                  simp only [zA, zB, zC, Act.put, zD, zE, zF]
                  refine bt (f := 21) (i := 6) (v := ?vkug6) rfl (Or.inl ⟨((wanted_at rfl rfl rfl rfl).trans rfl), ?hykug6⟩) (Below.refl _ _) ?restkug6
                  case hykug6 => intro W hW; go_simp; exact rfl
                  simp only [zA, zB, zC, Act.put, zD, zE, zF]
                  refine bt (f := 21) (i := 7) (v := ?vkug7) rfl (Or.inl ⟨((wanted_at rfl rfl rfl rfl).trans rfl), ?hykug7⟩) (Below.refl _ _) ?restkug7
                  case hykug7 => intro W hW; go_simp; exact rfl
                  simp only [zA, zB, zC, Act.put, zD, zE, zF]
                  refine bt (f := 21) (i := 8) (v := ?vkug8) rfl (Or.inl ⟨((wanted_at rfl rfl rfl rfl).trans rfl), ?hykug8⟩) (Below.refl _ _) ?restkug8
                  case hykug8 =>
                    intro W hW
                    have hb0 : Below wr.heap.size wr W := bstep (Below.drew1 _) hW
                    have f1 := (HLO.out.on hb0).cellI hkL
                    have f2 := (HLO.out.on hb0).cellI hkP
                    go_simp
                    exact rfl
                  simp only [zA, zB, zC, Act.put, zD, zE, zF]
                  refine bt (f := 21) (i := 9) (v := ?vkug9) rfl (Or.inl ⟨((wanted_at rfl rfl rfl rfl).trans rfl), ?hykug9⟩) (Below.refl _ _) ?restkug9
                  case hykug9 => intro W hW; go_simp; exact rfl
                  simp only [zA, zB, zC, Act.put, zD, zE, zF]
                  refine bt (f := 21) (i := 10) (v := ?vkug10) rfl (Or.inl ⟨((wanted_at rfl rfl rfl rfl).trans rfl), ?hykug10⟩) (Below.refl _ _) ?restkug10
                  case hykug10 =>
                    intro W hW
                    have hb0 : Below wr.heap.size wr W := bstep (Below.drew1 _) hW
                    obtain ⟨x0, x1, x2⟩ := box2 (box_on QW.out hb0)
                    go_simp
                    exact rfl
                  simp only [zA, zB, zC, Act.put, zD, zE, zF]
                  refine bt (f := 21) (i := 11) (v := ?vkug11) rfl (Or.inl ⟨((wanted_at rfl rfl rfl rfl).trans rfl), ?hykug11⟩) (Below.refl _ _) ?restkug11
                  case hykug11 => intro W hW; go_simp; exact rfl
                  simp only [zA, zB, zC, Act.put, zD, zE, zF]
                  refine bt (f := 21) (i := 12) (v := ?vkug12) rfl (Or.inl ⟨((wanted_at rfl rfl rfl rfl).trans rfl), ?hykug12⟩) (Below.refl _ _) ?restkug12
                  case hykug12 => intro W hW; go_simp; exact rfl
                  simp only [zA, zB, zC, Act.put, zD, zE, zF]
                  refine bt (f := 21) (i := 13) (v := ?vkug13) rfl (Or.inl ⟨((wanted_at rfl rfl rfl rfl).trans rfl), ?hykug13⟩) (Below.refl _ _) ?restkug13
                  case hykug13 =>
                    intro W hW
                    have hb0 : Below wr.heap.size wr W := bstep (Below.drew1 _) hW
                    have f1 := (HLO.out.on hb0).cellI hkL
                    have f2 := (HLO.out.on hb0).cellI hkP
                    go_simp
                    exact rfl
                  simp only [zA, zB, zC, Act.put, zD, zE, zF]
                  refine bt (f := 21) (i := 14) (v := ?vkug14) rfl (Or.inl ⟨((wanted_at rfl rfl rfl rfl).trans rfl), ?hykug14⟩) (Below.refl _ _) ?restkug14
                  case hykug14 => intro W hW; go_simp; exact rfl
                  simp only [zA, zB, zC, Act.put, zD, zE, zF]
                  refine bt (f := 21) (i := 15) (v := ?vkug15) rfl (Or.inl ⟨(by rfl), ?hykug15⟩) (Below.refl _ _) ?restkug15
                  case hykug15 => intro W hW; go_simp; exact rfl
                  simp only [zA, zB, zC, Act.put, zD, zE, zF]
                  refine bt (f := 21) (i := 16) (v := ?vkug16) rfl (Or.inl ⟨(by rfl), ?hykug16⟩) (Below.refl _ _) ?restkug16
                  case hykug16 => intro W hW; go_simp; exact rfl
                  simp only [zA, zB, zC, Act.put, zD, zE, zF]
                  refine bt (f := 21) (i := 17) (v := ?vkug17) rfl (Or.inl ⟨((wanted_at rfl rfl rfl rfl).trans rfl), ?hykug17⟩) (Below.refl _ _) ?restkug17
                  case hykug17 =>
                    intro W hW
                    have hb0 : Below wr.heap.size wr W := bstep (Below.drew1 _) hW
                    obtain ⟨x0, x1, x2⟩ := box2 (box_on QW.out hb0)
                    go_simp
                    exact rfl
                  simp only [zA, zB, zC, Act.put, zD, zE, zF]
                  refine bt (f := 21) (i := 18) (v := ?vkug18) rfl (Or.inl ⟨((wanted_at rfl rfl rfl rfl).trans rfl), ?hykug18⟩) (Below.refl _ _) ?restkug18
                  case hykug18 => intro W hW; go_simp; exact rfl
                  simp only [zA, zB, zC, Act.put, zD, zE, zF]
                  refine but_run (i := 19) (by kernel_rfl) rfl ((wanted_at rfl rfl rfl rfl).trans rfl) ?_
                  simp only [zA, zB, zC]
                  intro K HK
                  go_wp2_with fail
                  refine (l6Node_any _ _ lo ts k _ (HVV.out.on (bstep (Below.drew1 _) (Below.refl _ _))) hlt (by omega) (by omega) (by omega) (by omega)).mono ?_
                  rintro r Vkug1 ⟨rfl, hBkug1⟩
                  rw [HFB.out]
                  have hSkug1 := bstep (Below.refl _ _) hBkug1
                  go_wp2_with fail
                  refine HK.out _ Vkug1 (fun _ => hSkug1) ?_
                  clear HK
                  refine bt (f := 21) (i := 20) (v := ?vkug20) rfl (Or.inl ⟨((wanted_at rfl rfl rfl rfl).trans rfl), ?hykug20⟩) hSkug1 ?restkug20
                  case hykug20 => intro W hW; go_simp; exact rfl
                  simp only [zA, zB, zC, Act.put, zD, zE, zF]
                  refine but_run (i := 21) (by kernel_rfl) rfl (by rfl) ?_
                  simp only [zA, zB, zC]
                  intro K HK
                  go_wp2_with fail
                  refine HK.out _ Vkug1 (fun h => absurd rfl h) ?_
                  clear HK
                  refine but_done (by kernel_rfl) ?_
                  go_wp2_with fail
                  go_roundw
                  case rel => exact ⟨k + 1, by omega, by go_num, HN1, HN2, Lib.hid (bstep HX.out (bstep (Below.drew1 _) hSkug1))⟩
                  case measure => simp [intOf]; omega
              · have z1 : decide (lo[k] ≤ lo[k - 1]) = true := decide_eq_true (by omega)
                have HBAD : Hid (treeOkB lo ts = false) := Lib.hid (tree_bad (fun h => by have := h.2.2.2.2.1 (k - 1) (by omega); rw [hkk, gk, gp] at this; omega))
                clear hkk gp gk hr hk0
                go_wp2
                refine but_begin (f := 21) (S := fun V => Below wr.drew.heap.size wr.drew V) (by kernel_rfl) ?_
                refine bt (f := 21) (i := 0) (v := ?vkdb0) rfl (Or.inl ⟨(by rfl), ?hykdb0⟩) (Below.refl _ _) ?restkdb0
                case hykdb0 => intro W hW; go_simp; exact rfl
                simp only [zA, zB, zC, Act.put, zD, zE, zF]
                refine bt (f := 21) (i := 1) (v := ?vkdb1) rfl (Or.inl ⟨(by rfl), ?hykdb1⟩) (Below.refl _ _) ?restkdb1
                case hykdb1 => intro W hW; go_simp; exact rfl
                simp only [zA, zB, zC, Act.put, zD, zE, zF]
                refine bt (f := 21) (i := 2) (v := ?vkdb2) rfl (Or.inl ⟨(by rfl), ?hykdb2⟩) (Below.refl _ _) ?restkdb2
                case hykdb2 => intro W hW; go_simp; exact rfl
                simp only [zA, zB, zC, Act.put, zD, zE, zF]
                refine bt (f := 21) (i := 3) (v := ?vkdb3) rfl (Or.inl ⟨((wanted_at rfl rfl rfl rfl).trans rfl), ?hykdb3⟩) (Below.refl _ _) ?restkdb3
                case hykdb3 => intro W hW; go_simp; exact rfl
                simp only [zA, zB, zC, Act.put, zD, zE, zF]
                refine bt (f := 21) (i := 4) (v := ?vkdb4) rfl (Or.inl ⟨((wanted_at rfl rfl rfl rfl).trans rfl), ?hykdb4⟩) (Below.refl _ _) ?restkdb4
                case hykdb4 =>
                  intro W hW
                  have hb0 : Below wr.heap.size wr W := bstep (Below.drew1 _) hW
                  obtain ⟨x0, x1, x2⟩ := box2 (box_on QW.out hb0)
                  go_simp
                  exact rfl
                simp only [zA, zB, zC, Act.put, zD, zE, zF]
                refine bt (f := 21) (i := 5) (v := ?vkdb5) rfl (Or.inl ⟨((wanted_at rfl rfl rfl rfl).trans rfl), ?hykdb5⟩) (Below.refl _ _) ?restkdb5
                case hykdb5 => intro W hW; go_simp; exact rfl
                simp only [zA, zB, zC, Act.put, zD, zE, zF]
                refine bt (f := 21) (i := 6) (v := ?vkdb6) rfl (Or.inl ⟨((wanted_at rfl rfl rfl rfl).trans rfl), ?hykdb6⟩) (Below.refl _ _) ?restkdb6
                case hykdb6 => intro W hW; go_simp; exact rfl
                simp only [zA, zB, zC, Act.put, zD, zE, zF]
                refine bt (f := 21) (i := 7) (v := ?vkdb7) rfl (Or.inl ⟨((wanted_at rfl rfl rfl rfl).trans rfl), ?hykdb7⟩) (Below.refl _ _) ?restkdb7
                case hykdb7 => intro W hW; go_simp; exact rfl
                simp only [zA, zB, zC, Act.put, zD, zE, zF]
                refine bt (f := 21) (i := 8) (v := ?vkdb8) rfl (Or.inl ⟨((wanted_at rfl rfl rfl rfl).trans rfl), ?hykdb8⟩) (Below.refl _ _) ?restkdb8
                case hykdb8 =>
                  intro W hW
                  have hb0 : Below wr.heap.size wr W := bstep (Below.drew1 _) hW
                  have f1 := (HLO.out.on hb0).cellI hkL
                  have f2 := (HLO.out.on hb0).cellI hkP
                  go_simp
                  exact rfl
                simp only [zA, zB, zC, Act.put, zD, zE, zF]
                refine bt (f := 21) (i := 9) (v := ?vkdb9) rfl (Or.inl ⟨((wanted_at rfl rfl rfl rfl).trans rfl), ?hykdb9⟩) (Below.refl _ _) ?restkdb9
                case hykdb9 => intro W hW; go_simp; exact rfl
                simp only [zA, zB, zC, Act.put, zD, zE, zF]
                refine bt (f := 21) (i := 10) (v := ?vkdb10) rfl (Or.inl ⟨((wanted_at rfl rfl rfl rfl).trans rfl), ?hykdb10⟩) (Below.refl _ _) ?restkdb10
                case hykdb10 =>
                  intro W hW
                  have hb0 : Below wr.heap.size wr W := bstep (Below.drew1 _) hW
                  obtain ⟨x0, x1, x2⟩ := box2 (box_on QW.out hb0)
                  go_simp
                  exact rfl
                simp only [zA, zB, zC, Act.put, zD, zE, zF]
                refine bt (f := 21) (i := 11) (v := ?vkdb11) rfl (Or.inl ⟨((wanted_at rfl rfl rfl rfl).trans rfl), ?hykdb11⟩) (Below.refl _ _) ?restkdb11
                case hykdb11 => intro W hW; go_simp; exact rfl
                simp only [zA, zB, zC, Act.put, zD, zE, zF]
                refine bt (f := 21) (i := 12) (v := ?vkdb12) rfl (Or.inl ⟨((wanted_at rfl rfl rfl rfl).trans rfl), ?hykdb12⟩) (Below.refl _ _) ?restkdb12
                case hykdb12 => intro W hW; go_simp; exact rfl
                simp only [zA, zB, zC, Act.put, zD, zE, zF]
                refine bt (f := 21) (i := 13) (v := ?vkdb13) rfl (Or.inl ⟨((wanted_at rfl rfl rfl rfl).trans rfl), ?hykdb13⟩) (Below.refl _ _) ?restkdb13
                case hykdb13 =>
                  intro W hW
                  have hb0 : Below wr.heap.size wr W := bstep (Below.drew1 _) hW
                  have f1 := (HLO.out.on hb0).cellI hkL
                  have f2 := (HLO.out.on hb0).cellI hkP
                  go_simp
                  exact rfl
                simp only [zA, zB, zC, Act.put, zD, zE, zF]
                refine bt (f := 21) (i := 14) (v := ?vkdb14) rfl (Or.inl ⟨((wanted_at rfl rfl rfl rfl).trans rfl), ?hykdb14⟩) (Below.refl _ _) ?restkdb14
                case hykdb14 => intro W hW; go_simp; exact rfl
                simp only [zA, zB, zC, Act.put, zD, zE, zF]
                refine bt (f := 21) (i := 15) (v := ?vkdb15) rfl (Or.inl ⟨(by rfl), ?hykdb15⟩) (Below.refl _ _) ?restkdb15
                case hykdb15 => intro W hW; go_simp; exact rfl
                simp only [zA, zB, zC, Act.put, zD, zE, zF]
                refine bt (f := 21) (i := 16) (v := ?vkdb16) rfl (Or.inl ⟨(by rfl), ?hykdb16⟩) (Below.refl _ _) ?restkdb16
                case hykdb16 => intro W hW; go_simp; exact rfl
                simp only [zA, zB, zC, Act.put, zD, zE, zF]
                refine bt (f := 21) (i := 17) (v := undef) rfl (Or.inr ⟨((wanted_at rfl rfl rfl rfl).trans rfl), rfl⟩) (Below.refl _ _) ?_
                simp only [zA, zB, zC, Act.put, zD, zE, zF]
                refine bt (f := 21) (i := 18) (v := undef) rfl (Or.inr ⟨((wanted_at rfl rfl rfl rfl).trans rfl), rfl⟩) (Below.refl _ _) ?_
                simp only [zA, zB, zC, Act.put, zD, zE, zF]
                refine bt (f := 21) (i := 19) (v := undef) rfl (Or.inr ⟨((wanted_at rfl rfl rfl rfl).trans rfl), rfl⟩) (Below.refl _ _) ?_
                simp only [zA, zB, zC, Act.put, zD, zE, zF]
                refine bt (f := 21) (i := 20) (v := undef) rfl (Or.inr ⟨((wanted_at rfl rfl rfl rfl).trans rfl), rfl⟩) (Below.refl _ _) ?_
                simp only [zA, zB, zC, Act.put, zD, zE, zF]
                refine but_run (i := 21) (by kernel_rfl) rfl (by rfl) ?_
                simp only [zA, zB, zC]
                intro K HK
                go_wp2_with fail
                refine HK.out _ wr.drew (fun h => absurd rfl h) ?_
                clear HK
                refine but_done (by kernel_rfl) ?_
                go_wp2_with fail
                go_ret
                exact ⟨ret_boolB HBAD.out.symm, bstep HB.out (bstep HX.out (bstep (Below.drew1 _) (Below.refl _ _)))⟩
          · have e : k = ts.length := by omega
            subst e
            go_wp2_with fail
            refine (specTreeKeys_any _ _ lo ts _ (HV.out.on HX.out) (by omega) (by omega)).mono ?_
            rintro e w2 ⟨v2, rfl, o2, b2⟩
            obtain ⟨A2, c2, rfl, _, _⟩ := o2.shape
            have HB2 := Lib.hid (bstep HB.out (bstep HX.out b2))
            clear o2 b2 x0 x1 x2
            go_wp2
            go_ret
            refine ⟨ret_boolB ?_, HB2.out⟩
            unfold treeOkB
            refine decide_eq_decide.2 ⟨fun h => ⟨H12.out.1, H12.out.2, H2.out, H3.out, fun j hj => HI2.out j (by omega), HI1.out, by omega⟩, fun h => by have := h.2.2.2.2.2.2; omega⟩
      · have d3 : (lo[0] != 0) = true := by simp [h3]
        have HBAD : Hid (treeOkB lo ts = false) := Lib.hid (tree_bad (fun h => h3 (by rw [← g0]; exact h.2.2.2.1)))
        clear hc g0 h3 d1 h1 h2
        go_wp2
        go_ret
        exact ⟨ret_boolB HBAD.out.symm, HB.out⟩
    · have d2 : ((lo.length : Int) != (ts.length : Int)) = true := by simp; omega
      have HBAD : Hid (treeOkB lo ts = false) := Lib.hid (tree_bad (fun h => h2 h.2.2.1))
      clear d1 h1 h2
      go_wp2
      go_ret
      exact ⟨ret_boolB HBAD.out.symm, HB.out⟩
  · have d1 : (decide ((1 : Int) ≤ (ts.length : Int)) && decide ((ts.length : Int) ≤ 20)) = false := by
      rcases Nat.lt_or_ge ts.length 1 with h | h
      · rw [decide_eq_false (by omega)]; rfl
      · rw [decide_eq_false (show ¬ (ts.length : Int) ≤ 20 by omega), Bool.and_false]
    rw [d1]
    have HBAD : Hid (treeOkB lo ts = false) := Lib.hid (tree_bad (fun h => h1 ⟨h.1, h.2.1⟩))
    clear d1 h1
    go_wp2
    go_ret
    exact ⟨ret_boolB HBAD.out.symm, HB.out⟩
end Go.Proofs.YtlhemcjahcmdeaaGreatDoor
namespace Go.Proofs.YtlhemcjahcmdeaaGreatDoor
open Go.RowKit
set_option maxRecDepth 100000
set_option linter.unusedSimpArgs false
set_option linter.unusedVariables false

def ltV (x y : VolD) : Bool := Go.Op.bytesLess x.a.toList y.a.toList
def ascB (l : List VolD) : Bool := decide (∀ i (h : i < l.length - 1), ltV (l[i]'(by omega)) (l[i + 1]'(by omega)) = true)
def sizeB (n : Int) : Bool := decide (1 ≤ n) && decide (n ≤ 12)
def kidlessB (d : PoolD) (id : Int) : Bool := decide (0 ≤ ageAtK d.ag id) && decide ((kidsK d.ag id).length = 0)
def ownB (d : PoolD) (id : Int) : Bool := kidlessB d id && decide (usesK id d.vo = 1)
def okV (d : PoolD) (v : VolD) : Bool := nameOkB v.a && sizeB v.c && ownB d v.b
def volsB (d : PoolD) : Bool := decide (d.vo.length ≤ 6) && ascB d.vo && d.vo.all (okV d)
def nextB (d : PoolD) : Bool := (decide (1 ≤ d.nx) && decide (d.nx ≤ 61)) && d.ag.all (fun a => decide (a.a < d.nx))
def refsK (l : List KeyD) : List KeyD := l.filter (fun k => k.c == 1)
def agesB (d : PoolD) : Bool := (treeKeysK d.ts).all (fun k => decide (0 ≤ ageAtK d.ag k.b))
def cellsB (d : PoolD) : Bool := (refsK (treeKeysK d.ts)).all (fun k => cellB d.ce k.d k.e) && decide (((refsK (treeKeysK d.ts)).map (·.d)).Nodup) && decide ((refsK (treeKeysK d.ts)).length = usedK d.ce)
def poolOkB (d : PoolD) : Bool := treeOkB d.lo d.ts && agesOkB d.ag && celsOkB d.ce && nextB d && volsB d && agesB d && cellsB d
theorem uses_two {l : List VolD} {i j : Nat} (hij : i < j) (hj : j < l.length) (h : (l[i]'(by omega)).b = (l[j]).b) : usesK (l[j]).b l ≠ 1 := by
  unfold usesK
  have e : l.countP (fun k => k.b == (l[j]).b) = (l.take j).countP (fun k => k.b == (l[j]).b) + (l.drop j).countP (fun k => k.b == (l[j]).b) := by
    rw [← List.countP_append, List.take_append_drop]
  have h1 : 0 < (l.take j).countP (fun k => k.b == (l[j]).b) := by
    rw [List.countP_pos_iff]
    exact ⟨l[i], List.mem_take_iff_getElem.2 ⟨i, by omega, rfl⟩, by simp [h]⟩
  have h2 : 0 < (l.drop j).countP (fun k => k.b == (l[j]).b) := by
    rw [List.countP_pos_iff]
    refine ⟨l[j], ?_, by simp⟩
    rw [vol_drop hj]
    exact List.mem_cons_self
  omega
theorem uses_one {l : List VolD} (h : ∀ i j (hij : i < j) (hj : j < l.length), (l[i]'(by omega)).b ≠ (l[j]).b) {i : Nat} (hi : i < l.length) : usesK (l[i]).b l = 1 := by
  unfold usesK
  have e : l.countP (fun k => k.b == (l[i]).b) = (l.take i).countP (fun k => k.b == (l[i]).b) + (l.drop i).countP (fun k => k.b == (l[i]).b) := by
    rw [← List.countP_append, List.take_append_drop]
  have h1 : (l.take i).countP (fun k => k.b == (l[i]).b) = 0 := by
    rw [List.countP_eq_zero]
    intro a ha
    obtain ⟨j, hj, rfl⟩ := List.mem_take_iff_getElem.1 ha
    have := h j i (by omega) hi
    simpa using this
  have h2 : (l.drop (i + 1)).countP (fun k => k.b == (l[i]).b) = 0 := by
    rw [List.countP_eq_zero]
    intro a ha
    obtain ⟨j, hj, rfl⟩ := List.mem_iff_getElem.1 ha
    rw [List.length_drop] at hj
    have := h i (i + 1 + j) (by omega) (by omega)
    rw [List.getElem_drop]
    simp
    exact fun h => this h.symm
  rw [e, h1, vol_drop hi, List.countP_cons, h2]
  simp
/-- What the model asks of the volume in place i. -/
def fitV (d : PoolD) (i : Nat) (h : i < d.vo.length) : Prop := nameOkB (d.vo[i]).a = true ∧ sizeB (d.vo[i]).c = true ∧ kidlessB d (d.vo[i]).b = true ∧ (∀ j (hj : j + 1 = i), ltV (d.vo[j]'(by omega)) d.vo[i] = true) ∧ ∀ j (hj : j < i), (d.vo[j]'(by omega)).b ≠ (d.vo[i]).b
theorem vols_fit {d : PoolD} (h : volsB d = true) {i : Nat} (hi : i < d.vo.length) : fitV d i hi := by
  unfold volsB at h
  simp only [Bool.and_eq_true, decide_eq_true_eq] at h
  obtain ⟨⟨_, ha⟩, hall⟩ := h
  have hv := List.all_eq_true.1 hall _ (List.getElem_mem hi)
  unfold okV ownB at hv
  simp only [Bool.and_eq_true, decide_eq_true_eq] at hv
  obtain ⟨⟨h1, h2⟩, h3, h4⟩ := hv
  refine ⟨h1, h2, h3, ?_, ?_⟩
  · rintro j rfl
    unfold ascB at ha
    exact of_decide_eq_true ha j (by omega)
  · intro j hj he
    exact uses_two hj hi he h4
theorem fit_vols {d : PoolD} (h : ∀ i (hi : i < d.vo.length), fitV d i hi) : volsB d = decide (d.vo.length ≤ 6) := by
  have h1 : ascB d.vo = true := by
    unfold ascB
    exact decide_eq_true (fun i hi => (h (i + 1) (by omega)).2.2.2.1 i rfl)
  have h2 : d.vo.all (okV d) = true := by
    rw [List.all_eq_true]
    intro v hv
    obtain ⟨i, hi, rfl⟩ := List.mem_iff_getElem.1 hv
    obtain ⟨a, b, c, _, _⟩ := h i hi
    unfold okV ownB
    rw [a, b, c, uses_one (fun i j hij hj => (h j hj).2.2.2.2 i hij) hi]
    rfl
  unfold volsB
  rw [h1, h2]
  simp
theorem unfit {d : PoolD} {i : Nat} (hi : i < d.vo.length) (h : ¬ fitV d i hi) : volsB d = false := by
  cases hv : volsB d
  · rfl
  · exact absurd (vols_fit hv hi) h
theorem okV_miss {d : PoolD} {i : Nat} (hi : i < d.vo.length) (h : okV d d.vo[i] = false) : volsB d = false := by
  have : d.vo.all (okV d) = false := by
    rw [List.all_eq_false]
    exact ⟨_, List.getElem_mem hi, by rw [h]; simp⟩
  unfold volsB
  rw [this, Bool.and_false]
theorem okV_step {d : PoolD} {k : Nat} (hi : k < d.vo.length) (h : ∀ j (hj : j < k) (hl : j < d.vo.length), okV d d.vo[j] = true) (h2 : okV d d.vo[k] = true) : ∀ j (hj : j < k + 1) (hl : j < d.vo.length), okV d d.vo[j] = true := by
  intro j hj hl
  by_cases h3 : j < k
  · exact h j h3 hl
  · have : j = k := by omega
    subst this
    exact h2
theorem okV_all {d : PoolD} (h : ∀ j (hl : j < d.vo.length), okV d d.vo[j] = true) : d.vo.all (okV d) = true := by
  rw [List.all_eq_true]
  intro v hv
  obtain ⟨i, hi, rfl⟩ := List.mem_iff_getElem.1 hv
  exact h i hi
theorem fitV_step {d : PoolD} {k : Nat} (hi : k < d.vo.length) (h : ∀ j (hj : j < k) (hl : j < d.vo.length), fitV d j hl) (h2 : fitV d k hi) : ∀ j (hj : j < k + 1) (hl : j < d.vo.length), fitV d j hl := by
  intro j hj hl
  by_cases h3 : j < k
  · exact h j h3 hl
  · have : j = k := by omega
    subst this
    exact h2
/-- The keys ahead of place i that refer to cells. -/
theorem refs_snoc {l : List KeyD} {k : Nat} (h : k < l.length) : refsK (l.take (k + 1)) = refsK (l.take k) ++ (if ((l[k]).c == 1) = true then [l[k]] else []) := by
  unfold refsK
  rw [List.take_succ_eq_append_getElem h, List.filter_append]
  simp [List.filter_cons]
theorem refs_mem {l : List KeyD} {k : Nat} {x : Int} : x ∈ (refsK (l.take k)).map (·.d) ↔ ∃ j, ∃ hj : j < l.length, j < k ∧ (l[j]).c = 1 ∧ (l[j]).d = x := by
  unfold refsK
  simp only [List.mem_map, List.mem_filter, beq_iff_eq]
  constructor
  · rintro ⟨y, ⟨hy, hc⟩, hd⟩
    obtain ⟨j, hj, rfl⟩ := List.mem_take_iff_getElem.1 hy
    exact ⟨j, by omega, by omega, hc, hd⟩
  · rintro ⟨j, hj, hk, hc, hd⟩
    exact ⟨l[j], ⟨List.mem_take_iff_getElem.2 ⟨j, by omega, rfl⟩, hc⟩, hd⟩
theorem refs_sub {l : List KeyD} (k : Nat) : (refsK (l.take k)).Sublist (refsK l) := (List.take_sublist k l).filter _
theorem refs_len (l : List KeyD) : (refsK l).length ≤ l.length := List.length_filter_le _ _
theorem nodup_snoc {l : List Int} {x : Int} (h : l.Nodup) (hx : x ∉ l) : (l ++ [x]).Nodup := by
  rw [List.nodup_append]
  refine ⟨h, by simp, ?_⟩
  intro a ha b hb e
  simp at hb
  subst hb
  subst e
  exact hx ha
theorem cells_miss1 {d : PoolD} {k : KeyD} (hk : k ∈ refsK (treeKeysK d.ts)) (h : cellB d.ce k.d k.e = false) : cellsB d = false := by
  have : (refsK (treeKeysK d.ts)).all (fun k => cellB d.ce k.d k.e) = false := by
    rw [List.all_eq_false]
    exact ⟨k, hk, by rw [h]; simp⟩
  unfold cellsB
  rw [this]
  rfl
theorem cells_miss2 {d : PoolD} (h : ¬ ((refsK (treeKeysK d.ts)).map (·.d)).Nodup) : cellsB d = false := by
  unfold cellsB
  rw [decide_eq_false h, Bool.and_false]
  rfl
theorem cells_end {d : PoolD} (h : ∀ k ∈ refsK (treeKeysK d.ts), cellB d.ce k.d k.e = true) (h2 : ((refsK (treeKeysK d.ts)).map (·.d)).Nodup) : cellsB d = decide ((refsK (treeKeysK d.ts)).length = usedK d.ce) := by
  unfold cellsB
  rw [List.all_eq_true.2 h, decide_eq_true h2]
  rfl
theorem cell_nat {l : List CelD} {i g : Int} (h : cellB l i g = true) : 0 ≤ i := by
  unfold cellB hasC at h
  simp only [Bool.and_eq_true, decide_eq_true_eq] at h
  exact h.1.1.1
end Go.Proofs.YtlhemcjahcmdeaaGreatDoor
namespace Go.Proofs.YtlhemcjahcmdeaaGreatDoor
open Go.RowKit
set_option maxRecDepth 100000
set_option linter.unusedSimpArgs false
set_option linter.unusedVariables false

theorem bless_irr (x : List UInt8) : Go.Op.bytesLess x x = false := by
  induction x with
  | nil => rfl
  | cons a x ih => simp [Go.Op.bytesLess, ih]
theorem bless_tri (x y : List UInt8) : Go.Op.bytesLess x y = true ∨ x = y ∨ Go.Op.bytesLess y x = true := by
  induction x generalizing y with
  | nil =>
    cases y with
    | nil => exact .inr (.inl rfl)
    | cons b y => exact .inl rfl
  | cons a x ih =>
    cases y with
    | nil => exact .inr (.inr rfl)
    | cons b y =>
      rcases Nat.lt_trichotomy a.toNat b.toNat with h | h | h
      · left
        have : a < b := UInt8.lt_iff_toNat_lt.2 h
        simp [Go.Op.bytesLess, this]
      · have e : a = b := UInt8.toNat_inj.1 h
        subst e
        rcases ih y with h | h | h
        · left
          simp [Go.Op.bytesLess, h]
        · right; left
          rw [h]
        · right; right
          simp [Go.Op.bytesLess, h]
      · right; right
        have : b < a := UInt8.lt_iff_toNat_lt.2 h
        simp [Go.Op.bytesLess, this]
theorem bless_trans {x y z : List UInt8} (h : Go.Op.bytesLess x y = true) (k : Go.Op.bytesLess y z = true) : Go.Op.bytesLess x z = true := by
  induction x generalizing y z with
  | nil =>
    cases y with
    | nil => exact k
    | cons b y =>
      cases z with
      | nil => simp [Go.Op.bytesLess] at k
      | cons c z => rfl
  | cons a x ih =>
    cases y with
    | nil => simp [Go.Op.bytesLess] at h
    | cons b y =>
      cases z with
      | nil => simp [Go.Op.bytesLess] at k
      | cons c z =>
        simp only [Go.Op.bytesLess, Bool.or_eq_true, decide_eq_true_eq, Bool.and_eq_true, beq_iff_eq] at h k ⊢
        rcases h with h | ⟨h1, h2⟩
        · rcases k with k | ⟨k1, k2⟩
          · exact .inl (UInt8.lt_trans h k)
          · subst k1
            exact .inl h
        · subst h1
          rcases k with k | ⟨k1, k2⟩
          · exact .inl k
          · exact .inr ⟨k1, ih h2 k2⟩
/-- A volume put in order: behind all that have a lesser name. -/
def putV (l : List VolD) (v : VolD) : List VolD := l.takeWhile (fun k => ltV k v) ++ v :: l.dropWhile (fun k => ltV k v)
theorem putV_len (l : List VolD) (v : VolD) : (putV l v).length = l.length + 1 := by
  have h := congrArg List.length (List.takeWhile_append_dropWhile (p := fun k => ltV k v) (l := l))
  rw [List.length_append] at h
  unfold putV
  rw [List.length_append, List.length_cons]
  omega
/-- Where a volume comes to stand that goes down from the end, past all that have a greater name. -/
def bubK : List VolD → Nat → VolD → Nat
  | _, 0, _ => 0
  | l, k + 1, v => match l[k]? with | none => k + 1 | some x => if ltV v x then bubK l k v else k + 1
def insV (l : List VolD) (k : Nat) (v : VolD) : List VolD := l.take k ++ v :: l.drop k
theorem bub_zero (l : List VolD) (v : VolD) : bubK l 0 v = 0 := by cases l <;> rfl
theorem bub_stop {l : List VolD} {k : Nat} {v : VolD} (h : k < l.length) (hs : ltV v l[k] = false) : bubK l (k + 1) v = k + 1 := by
  rw [bubK, List.getElem?_eq_getElem h]
  simp only [hs]
  rfl
theorem bub_step {l : List VolD} {k : Nat} {v : VolD} (h : k < l.length) (hs : ltV v l[k] = true) : bubK l (k + 1) v = bubK l k v := by
  rw [bubK, List.getElem?_eq_getElem h]
  simp only [hs]
  rfl
theorem ltV_irr (x : VolD) : ltV x x = false := bless_irr _
theorem ltV_trans {x y z : VolD} (h : ltV x y = true) (k : ltV y z = true) : ltV x z = true := bless_trans h k
theorem vasc_lt {l : List VolD} (ha : ascB l = true) : ∀ (d i : Nat) (h : i + 1 + d < l.length), ltV (l[i]'(by omega)) l[i + 1 + d] = true := by
  unfold ascB at ha
  have ha := of_decide_eq_true ha
  intro d
  induction d with
  | zero => intro i h; exact ha i (by omega)
  | succ d ih =>
    intro i h
    have h1 := ih i (by omega)
    have h2 := ha (i + 1 + d) (by omega)
    exact ltV_trans h1 h2
theorem vasc_pair {l : List VolD} (ha : ascB l = true) {i j : Nat} (hij : i < j) (h : j < l.length) : ltV (l[i]'(by omega)) l[j] = true := by
  obtain ⟨d, rfl⟩ : ∃ d, j = i + 1 + d := ⟨j - i - 1, by omega⟩
  exact vasc_lt ha d i h
theorem vcut_at {p : VolD → Bool} : ∀ (l : List VolD) (k : Nat), (∀ j (h : j < l.length), j < k → p l[j] = true) → (∀ (h : k < l.length), p l[k] = false) → l.takeWhile p = l.take k ∧ l.dropWhile p = l.drop k := by
  intro l
  induction l with
  | nil => intro k _ _; simp
  | cons x l ih =>
    intro k h1 h2
    cases k with
    | zero =>
      have := h2 (by simp)
      simp only [List.getElem_cons_zero] at this
      simp [List.takeWhile_cons, List.dropWhile_cons, this]
    | succ k =>
      have h0 := h1 0 (by simp) (by omega)
      simp only [List.getElem_cons_zero] at h0
      have := ih k (fun j h hj => by have := h1 (j + 1) (by simp; omega) (by omega); simpa using this) (fun h => by have := h2 (by simp; omega); simpa using this)
      simp [List.takeWhile_cons, List.dropWhile_cons, h0, this.1, this.2]
/-- In a list in order, without the name, both ways of putting a volume come out alike. -/
theorem insV_put {l : List VolD} {v : VolD} (ha : ascB l = true) (hne : ∀ y ∈ l, y.a.toList ≠ v.a.toList) : insV l (bubK l l.length v) v = putV l v := by
  have key : ∀ k, k ≤ l.length → (∀ j (h : j < l.length), k ≤ j → ltV v l[j] = true) → insV l (bubK l k v) v = putV l v := by
    intro k
    induction k with
    | zero =>
      intro _ h
      rw [bub_zero]
      have := vcut_at (p := fun y => ltV y v) l 0 (fun j h hj => by omega) (fun h0 => by
        cases h1 : ltV l[0] v
        · rfl
        · have := ltV_trans h1 (h 0 h0 (Nat.zero_le _))
          rw [ltV_irr] at this
          cases this)
      unfold insV putV
      rw [this.1, this.2]
    | succ k ih =>
      intro hk h
      cases hs : ltV v l[k]
      · rw [bub_stop (by omega) hs]
        have h3 : ltV l[k] v = true := by
          rcases bless_tri l[k].a.toList v.a.toList with h | h | h
          · exact h
          · exact absurd h (hne _ (List.getElem_mem _))
          · have : ltV v l[k] = true := h
            rw [hs] at this
            cases this
        have := vcut_at (p := fun y => ltV y v) l (k + 1) (fun j hj hk' => by
          by_cases e : j = k
          · subst e; exact h3
          · exact ltV_trans (vasc_pair ha (show j < k by omega) (by omega)) h3) (fun h0 => by
          cases h1 : ltV l[k + 1] v
          · rfl
          · have := ltV_trans h1 (h (k + 1) h0 (Nat.le_refl _))
            rw [ltV_irr] at this
            cases this)
        unfold insV putV
        rw [this.1, this.2]
      · rw [bub_step (by omega) hs]
        refine ih (by omega) (fun j hj hkj => ?_)
        by_cases e : j = k
        · subst e; exact hs
        · exact h j hj (by omega)
  exact key l.length (Nat.le_refl _) (fun j h hj => by omega)
/-- What the row holds while the volume goes down: the place k may be overwritten. -/
theorem ins_shift {l : List VolD} {k : Nat} (h : k < l.length) (x : VolD) : ((l.take (k + 1) ++ x :: l.drop (k + 1)).set (k + 1) l[k]) = l.take k ++ l[k] :: l.drop k := by
  have e : l.take (k + 1) ++ x :: l.drop (k + 1) = l.take (k + 1) ++ x :: l.drop (k + 1) := rfl
  rw [List.set_append_right _ _ (by simp; omega)]
  have h1 : k + 1 - (l.take (k + 1)).length = 0 := by simp; omega
  rw [h1, List.set_cons_zero, ← vol_drop h, List.take_succ_eq_append_getElem h, List.append_assoc]
  rfl
theorem ins_last {l : List VolD} {k : Nat} (h : k ≤ l.length) (x v : VolD) : (l.take k ++ x :: l.drop k).set k v = insV l k v := by
  rw [List.set_append_right _ _ (by simp; omega)]
  have h1 : k - (l.take k).length = 0 := by simp; omega
  rw [h1, List.set_cons_zero]
  rfl
theorem ins_get {l : List VolD} {k j : Nat} (h : j < k) (hk : k ≤ l.length) (x : VolD) : (l.take k ++ x :: l.drop k)[j]'(by simp; omega) = l[j]'(by omega) := by
  rw [List.getElem_append_left (by simp; omega), List.getElem_take]
theorem mem_noname {s : ByteArray} {l : List VolD} (h : volK s l < 0) : ∀ y ∈ l, y.a.toList ≠ s.toList := by
  have h1 : volJ s l = l.length ∨ volJ s l < l.length := by
    have : volJ s l ≤ l.length := by
      clear h
      induction l with
      | nil => simp [volJ]
      | cons k l ih =>
        rw [volJ]
        split
        · omega
        · simp only [List.length_cons]; omega
    omega
  have h2 : volJ s l = l.length := by
    rcases h1 with h1 | h1
    · exact h1
    · unfold volK at h
      rw [if_pos h1] at h
      omega
  clear h h1
  induction l with
  | nil => intro y hy; simp at hy
  | cons k l ih =>
    rw [volJ] at h2
    split at h2
    · simp at h2
    · rename_i hne
      intro y hy
      rcases List.mem_cons.1 hy with rfl | hy
      · simpa using hne
      · exact ih (by simp only [List.length_cons] at h2; omega) y hy
end Go.Proofs.YtlhemcjahcmdeaaGreatDoor
namespace Go.Proofs.YtlhemcjahcmdeaaGreatDoor
open Go.RowKit
set_option maxRecDepth 100000
set_option linter.unusedSimpArgs false
set_option linter.unusedVariables false

theorem cloneSets_any (A : Option Addr) (n c : Nat) (xs : List Value) (w : World) (hA : At w A xs) (hl : xs.length = n * 1) (h1 : ∀ u ∈ xs, u.oneCell' = true) (hn : n ≤ 1100000) : Calls Tryz.prog 293 #[.slice A n c] w (NewRow w 221 1 n xs) := by
  rcases A with _ | ad
  · have h0 : xs = [] := by
      rcases hA with h | ⟨b, off, h, _⟩
      · exact h
      · cases h
    subst h0
    have h2 : n = 0 := by simpa using hl.symm
    subst h2
    have hq := run_eqnil (P := Tryz.prog) w 151 221 none 0 c Tryz.underlying151
    go_enter Tryz.func293, Tryz.ntmps293
    go_wp2
    go_ret
    exact ⟨_, rfl, row_nil _ _ _ _, Below.refl _ _⟩
  · have hA0 := hA.on (bal1 w (.cells #[] 221))
    have ho0 := row_lit w 221 1
    have HB := Lib.hid (bal1 w (.cells #[] 221))
    have hq := run_eqnil (P := Tryz.prog) w 151 221 (some ad) n c Tryz.underlying151
    have HL := Lib.hid hl
    have H1 := Lib.hid h1
    clear hA hl h1
    go_enter Tryz.func293, Tryz.ntmps293
    go_wp2_with (at_builtin; refine wpList_appV _ rfl (.tmp 5) (.tmp 6) 151 221 1 24 (.slice none 0 0) rfl Tryz.underlying151 (by kernel_rfl) rfl (by omega) (by omega) w.heap.size 0 _ [] rfl ho0 (some ad) n c xs rfl HL.out hA0 H1.out (by omega) (by simp) ?_; intro v1 w1 o1 g1 _ _; have b1 := Lib.hid (grown_below HB.out g1 ho0 (Nat.le_refl _)); clear g1 ho0 hA0)
    rw [List.nil_append, Nat.zero_add] at o1
    go_ret
    exact ⟨v1, rfl, o1, b1.out⟩
set_option maxHeartbeats 2000000 in
theorem copyNode_any (v : Value) (ns : List (List KeyD)) (w : World) (hv : Reads w w.heap.size v (setsD ns)) (hs : SmallN ns) : Calls Tryz.prog 233 #[.agg #[v]] w (NewN w ns) := by
  obtain ⟨A0, d0, rfl, _, _⟩ := hv.lenN
  have HS := Lib.hid hs
  have s1 := hs.1
  obtain ⟨xs, hat, hrs, hxl⟩ := hv.cells
  have X0 := Lib.hid hrs
  have HXL := Lib.hid hxl
  have ones : ∀ u ∈ xs, u.oneCell' = true := hrs.ones (fun c hc => by simp at hc; obtain ⟨l, _, rfl⟩ := hc; rfl)
  obtain ⟨q0, q1⟩ := al2 w (.cells #[.slice A0 ns.length d0] 153) (.cells #[.slice none 0 0] 153)
  have Q0 := Lib.hid q0
  have Q1 := Lib.hid q1
  clear hv hs hrs hxl q0 q1
  go_enter Tryz.func233, Tryz.ntmps233
  go_wp2_with fail
  refine (cloneSets_any A0 ns.length d0 xs _ (hat.on (bal2 _ _ _)) HXL.out ones s1).mono ?_
  rintro e w1 ⟨u, rfl, ho1, b1⟩
  have hb1 := bstep (bal2 _ _ _) b1
  have q0 := box_on Q0.out b1
  have q1 := box_on Q1.out b1
  have hz := b1.size
  simp only [World.size_alloc] at hz ho1
  obtain ⟨Au, cu, rfl⟩ := row_form ho1
  have HO1 := Lib.hid ho1
  have P0 := Lib.hid q0
  have P1 := Lib.hid q1
  have HB1 := Lib.hid hb1
  clear b1 ones hat q0 q1 ho1 hb1
  have REL1 : Hid (CopyIn w (w.heap.size + 1 + 1) w.heap.size (.cells #[.slice A0 ns.length d0] 153) (.slice Au ns.length cu) 221 1 ns.length 0 xs (ns.map keysD) w1) :=
    Lib.hid ⟨xs, HO1.out, by simpa using OwnsL.nil _ _, fun _ _ => rfl, P0.out, HB1.out⟩
  go_wp2
  go_loopw [11] (fun i wr => ∃ k : Nat, k ≤ ns.length ∧ i = .int .i64 k ∧ Hid (CopyIn w (w.heap.size + 1 + 1) w.heap.size (.cells #[.slice A0 ns.length d0] 153) (.slice Au ns.length cu) 221 1 ns.length k xs (ns.map keysD) wr) ∧ Hid (wr.heap[w.heap.size + 1]? = some (.cells #[.slice none 0 0] 153))) (fun i _ => ns.length - (intOf i).toNat)
  case atStart => exact ⟨0, Nat.zero_le _, rfl, REL1, P1⟩
  case round =>
    clear hz REL1
    obtain ⟨k, hk, rfl, HC, HP⟩ := hrel
    obtain ⟨zs, ho, hown, htl, hbx, hb⟩ := HC.out
    by_cases hlt : k < ns.length
    · have hxk : k < xs.length := by rw [HXL.out]; omega
      rcases row_cases ho with ⟨_, h, _⟩ | ⟨g, cap, hu, hbg, hR, hn, hc, hl⟩
      · omega
      · cases hu
        have hzk : k < zs.length := by omega
        have ez : zs[k] = xs[k] := by
          have := htl k (Nat.le_refl _)
          rw [List.getElem?_eq_getElem hzk, List.getElem?_eq_getElem hxk] at this
          exact Option.some.inj this
        have c1 := hR.cell hzk
        rw [ez] at c1
        have rk := (X0.out.on hb).2 k hxk (by simpa using hlt)
        rw [List.getElem_map] at rk
        obtain ⟨Ak, dk, ek, _, _⟩ := rk.lenN
        rw [ek] at c1 rk
        have hg := hR.lt
        have hlk := HS.out.at hlt
        have i1 : (k : Int) < (ns.length : Int) := by omega
        have i2 : (0 : Int) ≤ (k : Int) := by omega
        have hne2 : ¬ w.heap.size = g := by omega
        have RK := Lib.hid rk
        have HOWN := Lib.hid hown
        have HO := Lib.hid ho
        have HT := Lib.hid htl
        have HR := Lib.hid hR
        have HBX := Lib.hid hbx
        have HZ := Lib.hid hzk
        have HBB := Lib.hid hb
        clear rk ek ez hown ho htl hR hbx hb hl hxk hzk HC
        go_wp2_with fail
        refine (cloneK_any _ ns[k] _ RK.out (by omega)).mono ?_
        rintro e w2 ⟨x, rfl, ox, b2⟩
        have R2 := HR.out.keep (b2.block g hg)
        have cc := R2.cell HZ.out
        have ff := R2.frozen k
        obtain ⟨Ax, dx, rfl, _, _⟩ := ox.shape
        have NEW := Lib.hid (CopyIn.step (w := w) HO.out HOWN.out HT.out HBX.out HBB.out b2 ox.owns hg (by omega) hne2 (by omega) hlt)
        have HP2 := Lib.hid (box_far (j := k) (u := .slice Ax (ns[k]).length dx) (box_on HP.out b2) (show w.heap.size + 1 ≠ g by omega))
        clear ox b2 R2 c1
        go_wp2
        go_roundw
        case rel =>
          refine ⟨k + 1, by omega, by go_num, ?_, HP2⟩
          have h := NEW.out
          exact Lib.hid (h (by simpa using hlt) (by simp))
        case measure => simp [intOf]; omega
    · have e : k = ns.length := by omega
      have hsec : Owns wr (fun b => w.heap.size + 1 + 1 ≤ b) (.slice Au ns.length cu) (setsD ns) := by
        subst e
        have h1 : zs.length = ns.length * 1 := ho.1
        rw [List.take_of_length_le (by omega), List.take_of_length_le (by simp)] at hown
        exact row_owns ho hown (by simp)
      have HSEC := Lib.hid hsec
      have HBB := Lib.hid hb
      obtain ⟨x0, x1⟩ := box1N HP.out
      clear hsec hown ho htl hbx hb HC
      go_wp2
      refine bodyPost_ret (v := .agg #[.slice Au ns.length cu]) (by simp [results, Tryz.results233, go_sem, x0, x1]) rfl ⟨_, rfl, ?_, ?_⟩
      · exact (HSEC.out.setFar (by omega)).mono (fun b hb => by omega)
      · exact HBB.out.setCell (p := ⟨w.heap.size + 1, 0, none⟩) (show w.heap.size ≤ w.heap.size + 1 by omega) _
/-- What the region of spec.l5Copy reads: two boxes and an element. -/
def NC1 (p1 b1 : Nat) (o1 : Nat) (v1 e1 : Value) (p3 : Nat) (v3 : Value) (W : World) : Prop := W.cell? ⟨p1, 0, none⟩ = some v1 ∧ W.cell? ⟨b1, o1, none⟩ = some e1 ∧ W.cell? ⟨p3, 0, none⟩ = some v3
theorem NC1.on {p1 b1 o1 : Nat} {v1 e1 : Value} {p3 : Nat} {v3 : Value} {wr W : World} (h : NC1 p1 b1 o1 v1 e1 p3 v3 wr) (hb : Below wr.heap.size wr W) : NC1 p1 b1 o1 v1 e1 p3 v3 W :=
  have k : ∀ (b o : Nat) (v : Value), wr.cell? ⟨b, o, none⟩ = some v → W.cell? ⟨b, o, none⟩ = some v := fun b o _ hc => (World.cell?_of_block (a := ⟨b, o, none⟩) (hb.block b (World.block_lt_of_cell? wr _ hc))).trans hc
  ⟨k _ _ _ h.1, k _ _ _ h.2.1, k _ _ _ h.2.2⟩
theorem NC1.grown {p1 b1 o1 : Nat} {v1 e1 : Value} {p3 : Nat} {v3 : Value} {wr W : World} {g : Option Nat} (h : NC1 p1 b1 o1 v1 e1 p3 v3 wr) (hg : wr.grownBy W g) (h1 : g ≠ some p1) (h2 : g ≠ some b1) (h3 : g ≠ some p3) : NC1 p1 b1 o1 v1 e1 p3 v3 W :=
  have k : ∀ (b o : Nat) (v : Value), g ≠ some b → wr.cell? ⟨b, o, none⟩ = some v → W.cell? ⟨b, o, none⟩ = some v := fun b o _ hn hc => (World.cell?_of_block (a := ⟨b, o, none⟩) (hg.block b (World.block_lt_of_cell? wr _ hc) (fun e => hn e.symm))).trans hc
  ⟨k _ _ _ h1 h.1, k _ _ _ h2 h.2.1, k _ _ _ h3 h.2.2⟩
theorem operAppN {P : Program} {o : Oper} {a : Act} {Kn : Act → World → Prop} {Q : Exit → Act → World → Prop} (w : World) (hgd : o.guard = none) (s x : Operand) (t e z by_ : Nat) (zero : Value)
    (hop : o.op = .call { callee := .builtin .append, args := #[s, x], argTypes := #[t, t] }) (ht : P.underlying t = some (.slice e)) (hinfo : (P.info? e).map (fun i => (i.zero, i.size, i.bytes)) = some (some zero, z, by_)) (hzc : zero.cells.size = z) (hz : 0 < z) (hby : by_ ≤ 1024)
    (base n : Nat) (v : Value) (xs : List Value) (hs : a.eval s = v) (hown : w.ownsRow base e z v n xs) (A : Option Addr) (m c : Nat) (news : List Value) (hx : a.eval x = .slice A m c) (hl : news.length = m * z) (hA : At w A news) (h1 : ∀ u ∈ news, u.oneCell' = true) (hlen : n + m ≤ 1073741824) (hbase : base ≤ w.heap.size)
    (h : ∀ v' w', w'.ownsRow base e z v' (n + m) (xs ++ news) → w.grownBy w' v.ownBlock → (v' = .slice none 0 0 ↔ v = .slice none 0 0 ∧ m = 0) → (v'.ownBlock = v.ownBlock ∨ v'.ownBlock = some w.heap.size) → Kn (a.put o.dst v') w') : Oper.wp P o a w Kn Q := by
  have h2 := step_appV (ops := #[]) (Q := Q) (E := True) w hgd s x t e z by_ zero hop ht hinfo hzc hz hby base n v xs hs hown A m c news hx hl hA h1 hlen hbase h
  rwa [if_pos (by simp [Region.wanted, hgd])] at h2
theorem inner_appK (wr w6 : World) {v6 : Value} (l : List KeyD) (o6 : w6.ownsRow wr.heap.size 112 5 v6 (0 + l.length) ([] ++ kvl l)) (g6 : (wr.drew.alloc (.cells #[] 112)).grownBy w6 (Value.slice (some ⟨wr.drew.heap.size, 0, none⟩) 0 0).ownBlock) : Below wr.heap.size wr w6 ∧ RowK w6 wr.heap.size v6 l ∧ ∃ A c, v6 = .slice A l.length c := by
  have o7 : RowK w6 wr.heap.size v6 l := by rw [Nat.zero_add, List.nil_append] at o6; exact o6
  refine ⟨?_, o7, by obtain ⟨A, c, h, _⟩ := o7.shape; exact ⟨A, c, h⟩⟩
  have h : Below wr.heap.size wr (wr.drew.alloc (.cells #[] 112)) := (Below.refl _ _).drew.alloc (Nat.le_refl _) _
  exact h.grown g6 h.size (fun k hk => by simp [Value.ownBlock] at hk; subst hk; exact Nat.le_refl _)
def SetsIn (w : World) (ns : List (List KeyD)) (bx1 bx2 : Obj) (k : Nat) (wr : World) : Prop :=
  ∃ u xs, wr.ownsRow (w.heap.size + 3) 221 1 u k xs ∧ OwnsL wr (Tof (w.heap.size + 3) u) xs ((ns.take k).map keysD) ∧ wr.heap[w.heap.size]? = some bx1 ∧ wr.heap[w.heap.size + 1]? = some bx2 ∧ wr.heap[w.heap.size + 1 + 1]? = some (.cells #[u] 153) ∧ Below w.heap.size w wr
set_option maxHeartbeats 4000000 in
theorem l5Copy_any (v : Value) (ns : List (List KeyD)) (w : World) (hv : Reads w w.heap.size v (setsD ns)) (hs : SmallN ns) : Calls Tryz.prog 195 #[.agg #[v]] w (NewN w ns) := by
  obtain ⟨A0, d0, rfl, _, _⟩ := hv.lenN
  have HS := Lib.hid hs
  have s1 := hs.1
  have V0 := Lib.hid hv
  obtain ⟨q0, q1, q2⟩ := al3 w (.cells #[.slice A0 ns.length d0] 153) (.cells #[.slice none 0 0] 153) (.cells #[.slice none 0 0] 153)
  have REL : Hid (SetsIn w ns (.cells #[.slice A0 ns.length d0] 153) (.cells #[.slice none 0 0] 153) 0 _) := Lib.hid ⟨.slice none 0 0, [], row_nil _ _ _ _, by simpa using OwnsL.nil _ _, q0, q1, q2, bal3 _ _ _ _⟩
  clear hv hs q0 q1 q2
  go_enter Tryz.func195, Tryz.ntmps195
  go_wp2
  go_loopw [4] (fun i wr => ∃ k : Nat, k ≤ ns.length ∧ i = .int .i64 k ∧ Hid (SetsIn w ns (.cells #[.slice A0 ns.length d0] 153) (.cells #[.slice none 0 0] 153) k wr)) (fun i _ => ns.length - (intOf i).toNat)
  case atStart => exact ⟨0, Nat.zero_le _, rfl, REL⟩
  case round =>
    clear REL
    obtain ⟨k, hk, rfl, HC⟩ := hrel
    obtain ⟨u, xs, hr, ho, q0, q1, q2, hb⟩ := HC.out
    obtain ⟨x0, x1⟩ := box1N q0
    by_cases hlt : k < ns.length
    · obtain ⟨b, off, rfl, hb0, _⟩ := V0.out.set hlt
      obtain ⟨b', off', hbe, hbb, hc⟩ := (V0.out.on hb).set hlt
      cases hbe
      obtain ⟨A2, d2, c1, _, _, r1⟩ := hc k hlt
      obtain ⟨z0, z1⟩ := box1N q2
      obtain ⟨Au, cu, rfl⟩ := row_form hr
      have hzw : w.heap.size + 1 + 1 < wr.heap.size := (Array.getElem?_eq_some_iff.1 q2).1
      have hzx : w.heap.size < wr.heap.size := by omega
      have i1 : (k : Int) < (ns.length : Int) := by omega
      have i2 : (0 : Int) ≤ (k : Int) := by omega
      have hlk := HS.out.at hlt
      have n1 : ¬ w.heap.size + 1 + 1 = w.heap.size := by omega
      have n2 : ¬ w.heap.size = w.heap.size + 1 + 1 := by omega
      have Q0 := Lib.hid q0
      have Q1 := Lib.hid q1
      have Q2 := Lib.hid q2
      have HR := Lib.hid hr
      have HO := Lib.hid ho
      have HB := Lib.hid hb
      have AT := Lib.hid (Reads.on r1 ((Below.refl _ _).drew.alloc (Nat.le_refl _) (.cells #[] 112))).atK
      have HZ1 : Hid (wr.heap.size ≤ (wr.drew.alloc (.cells #[] 112)).heap.size) := Lib.hid (Nat.le_of_lt (by rw [World.size_alloc]; exact Nat.lt_succ_self _))
      have C1 := Lib.hid c1
      clear hc q0 q1 q2 hr ho hb r1 HC
      go_wp2
      have hSW : NC1 w.heap.size b (off + k) (.slice (some ⟨b, off, none⟩) ns.length d0) (.slice A2 (ns[k]).length d2) (w.heap.size + 1 + 1) (.slice Au k cu) wr.drew := ⟨x0, c1, z0⟩
      have hSV : NC1 w.heap.size b (off + k) (.slice (some ⟨b, off, none⟩) ns.length d0) (.slice A2 (ns[k]).length d2) (w.heap.size + 1 + 1) (.slice Au k cu) wr := ⟨x0, c1, z0⟩
      refine but_begin (f := 12) (S := NC1 w.heap.size b (off + k) (.slice (some ⟨b, off, none⟩) ns.length d0) (.slice A2 (ns[k]).length d2) (w.heap.size + 1 + 1) (.slice Au k cu)) (by kernel_rfl) ?_
      refine bt (f := 12) (i := 0) (v := ?v0) rfl (Or.inl ⟨by rfl, ?hy0⟩) hSW ?rest0
      case hy0 =>
        intro W hW
        obtain ⟨h1, h2, h3⟩ := hW
        go_simp
        exact rfl
      simp only [zA, zB, zC, Act.put, zD, zE, zF]
      refine bt (f := 12) (i := 1) (v := ?v1) rfl (Or.inl ⟨by rfl, ?hy1⟩) hSW ?rest1
      case hy1 =>
        intro W hW
        obtain ⟨h1, h2, h3⟩ := hW
        go_simp
        exact rfl
      simp only [zA, zB, zC, Act.put, zD, zE, zF]
      refine bt (f := 12) (i := 3) (v := ?v3) rfl (Or.inl ⟨by rfl, ?hy3⟩) hSW ?rest3
      case hy3 =>
        intro W hW
        obtain ⟨h1, h2, h3⟩ := hW
        go_simp
        exact rfl
      simp only [zA, zB, zC, Act.put, zD, zE, zF]
      refine bt (f := 12) (i := 4) (v := ?v4) rfl (Or.inl ⟨by rfl, ?hy4⟩) hSW ?rest4
      case hy4 =>
        intro W hW
        obtain ⟨h1, h2, h3⟩ := hW
        go_simp
        exact rfl
      simp only [zA, zB, zC, Act.put, zD, zE, zF]
      refine bt (f := 12) (i := 5) (v := ?v5) rfl (Or.inl ⟨by rfl, ?hy5⟩) hSW ?rest5
      case hy5 =>
        intro W hW
        obtain ⟨h1, h2, h3⟩ := hW
        go_simp
        exact rfl
      simp only [zA, zB, zC, Act.put, zD, zE, zF]
      refine bt (f := 12) (i := 6) (v := ?v6) rfl (Or.inl ⟨by rfl, ?hy6⟩) hSW ?rest6
      case hy6 =>
        intro W hW
        obtain ⟨h1, h2, h3⟩ := hW
        go_simp
        exact rfl
      simp only [zA, zB, zC, Act.put, zD, zE, zF]
      refine bt (f := 12) (i := 7) (v := ?v7) rfl (Or.inl ⟨by rfl, ?hy7⟩) hSW ?rest7
      case hy7 =>
        intro W hW
        obtain ⟨h1, h2, h3⟩ := hW
        go_simp
        exact rfl
      simp only [zA, zB, zC, Act.put, zD, zE, zF]
      refine but_run (i := 2) (by kernel_rfl) rfl (by rfl) ?_
      simp only [zA, zB, zC]
      intro K_ HK
      go_wp2
      refine HK.out _ (wr.drew.alloc (.cells #[] 112)) (fun _ => hSW.on (bal1 _ _)) ?_
      clear HK
      refine but_run (i := 8) (by kernel_rfl) rfl (by rfl) ?_
      simp only [zA, zB, zC]
      intro K_ HK
      refine operAppN _ (by rfl) (.tmp 15) (.tmp 20) 221 112 5 40 (.agg #[.int .i64 0, .int .i64 0, .int .i64 0, .int .i64 0, .int .i64 0]) (by rfl) Tryz.underlying221 (by kernel_rfl) rfl (by omega) (by omega) wr.heap.size 0 _ [] (by rfl) (row_lit wr.drew 112 5) A2 (ns[k]).length d2 (kvl ns[k]) (by rfl) (kvl_len _) AT.out (kvl_cells _) (by omega) HZ1.out ?_
      intro v6 w6 o6' g6' _ _
      obtain ⟨b6, o6, A6, c6, rfl⟩ := inner_appK wr _ _ o6' g6'
      have hS6 := hSV.on b6
      refine HK.out _ _ (fun _ => hS6) ?_
      clear HK
      have B6 := Lib.hid b6
      have O6 := Lib.hid o6.owns
      clear o6 o6' g6' b6
      simp only [Act.put, List.setIfInBounds_toArray, List.set_cons_zero, List.set_cons_succ]
      refine but_run (i := 9) (by kernel_rfl) rfl (by rfl) ?_
      simp only [zA, zB, zC]
      intro K_ HK
      go_wp2
      have hS7 := hS6.on (bal1 w6 (.cells #[.slice A6 (ns[k]).length c6] 221))
      refine HK.out _ _ (fun _ => hS7) ?_
      clear HK
      have hz6 := B6.out.size
      refine but_run (i := 10) (by kernel_rfl) rfl (by rfl) ?_
      simp only [zA, zB, zC]
      intro K_ HK
      refine operAppN _ (by rfl) (.tmp 14) (.tmp 22) 151 221 1 24 (.slice none 0 0) (by rfl) Tryz.underlying151 (by kernel_rfl) rfl (by omega) (by omega) (w.heap.size + 3) k _ xs (by rfl) (row_on (row_on HR.out B6.out) (bal1 _ _)) _ 1 1 [.slice A6 (ns[k]).length c6] (by rfl) rfl (At.lit1 _ _ _) (by simp [Value.oneCell']) (by omega) (by simp; omega) ?_
      intro v8 w8 o8 g8 n8 at8
      have h8 := box_grown (box_on (box_on Q2.out B6.out) (bal1 _ _)) g8 (row_ne HR.out (by omega))
      have K8 := Lib.hid (box_grown (box_on (box_on Q0.out B6.out) (bal1 _ _)) g8 (row_ne HR.out (by omega)))
      have L8 := Lib.hid (box_grown (box_on (box_on Q1.out B6.out) (bal1 _ _)) g8 (row_ne HR.out (by omega)))
      have hS8 := hS7.grown g8 (row_ne HR.out (by omega)) (row_ne HR.out (by omega)) (row_ne HR.out (by omega))
      refine HK.out _ _ (fun _ => hS8) ?_
      clear HK
      have O8 := Lib.hid o8
      have G8 := Lib.hid g8
      have AT8 := Lib.hid at8
      obtain ⟨gv, cv, rfl⟩ := row_shape o8 (by omega)
      obtain ⟨f0, f1⟩ := box1N h8
      have H8 := Lib.hid h8
      clear h8 o8 g8 at8 n8
      simp only [Act.put, List.setIfInBounds_toArray, List.set_cons_zero, List.set_cons_succ]
      refine but_run (i := 11) (by kernel_rfl) rfl (by rfl) ?_
      simp only [zA, zB, zC]
      intro K_ HK
      go_wp2
      refine HK.out _ _ (fun _ => hS8) ?_
      clear HK
      refine but_run (i := 12) (by kernel_rfl) rfl (by rfl) ?_
      simp only [zA, zB, zC]
      intro K_ HK
      go_wp2
      refine HK.out _ _ (fun h => (h rfl).elim) ?_
      clear HK
      have B7 := Lib.hid (bstep B6.out (bal1 w6 (.cells #[.slice A6 (ns[k]).length c6] 221)))
      have HX := Lib.hid (own_grow HR.out HO.out B7.out (OwnsL.one ((O6.out.on (bal1 _ (.cells #[.slice A6 (ns[k]).length c6] 221))).lt)) G8.out AT8.out (by omega))
      have HB8 := Lib.hid (grown_below (bstep HB.out B7.out) G8.out (row_on HR.out B7.out) (by omega))
      have NEW : Hid (SetsIn w ns (.cells #[.slice (some ⟨b, off, none⟩) ns.length d0] 153) (.cells #[.slice none 0 0] 153) (k + 1) (w8.setCell ⟨w.heap.size + 1 + 1, 0, none⟩ (.slice (some ⟨gv, 0, none⟩) (k + 1) cv))) := by
        refine Lib.hid ⟨_, _, row_keep O8.out (fun g hg => Below.heap_setCell _ _ _ _ (by have := (row_lt O8.out g hg).2; simp; omega)), ?_, box_far K8.out (by omega), box_far L8.out (by omega), box_set H8.out, HB8.out.setCell (p := ⟨w.heap.size + 1 + 1, 0, none⟩) (by simp; omega) _⟩
        rw [List.take_succ_eq_append_getElem hlt, List.map_append]
        exact HX.out.keep (fun b hb _ => Below.heap_setCell _ _ _ _ (by have := hb.1; simp; omega))
      clear HX HB8 O8 G8 AT8 H8 K8 L8 HR HO Q0 Q1 Q2 HB B7 B6 O6
      refine but_done (by kernel_rfl) ?_
      go_wp2
      go_roundw
      case rel => exact ⟨k + 1, by omega, by go_num, NEW⟩
      case measure => simp [intOf]; omega
    · have e : k = ns.length := by omega
      subst e
      rw [List.take_of_length_le (Nat.le_refl _)] at ho
      obtain ⟨Au, cu, rfl⟩ := row_form hr
      obtain ⟨z0, z1⟩ := box1N q2
      obtain ⟨y0, y1⟩ := box1N q1
      have hsec : Owns wr (fun b => w.heap.size + 3 ≤ b) (.slice Au ns.length cu) (setsD ns) := row_owns hr ho (by simp)
      have HSEC := Lib.hid hsec
      have HBB := Lib.hid hb
      clear hsec ho hr q0 q1 q2 hb HC
      go_wp2
      refine bodyPost_ret (v := .agg #[.slice Au ns.length cu]) (by simp [results, Tryz.results195, go_sem, y0, y1]) rfl ⟨_, rfl, ?_, ?_⟩
      · exact (HSEC.out.setFar (by omega)).mono (fun b hb => by omega)
      · exact HBB.out.setCell (p := ⟨w.heap.size + 1, 0, none⟩) (show w.heap.size ≤ w.heap.size + 1 by omega) _
end Go.Proofs.YtlhemcjahcmdeaaGreatDoor
namespace Go.Proofs.YtlhemcjahcmdeaaGreatDoor
open Go.RowKit
set_option maxRecDepth 100000
set_option linter.unusedSimpArgs false
set_option linter.unusedVariables false
theorem cloneNodes_any (A : Option Addr) (n c : Nat) (xs : List Value) (w : World) (hA : At w A xs) (hl : xs.length = n * 1) (h1 : ∀ u ∈ xs, u.oneCell' = true) (hn : n ≤ 1100000) : Calls Tryz.prog 232 #[.slice A n c] w (NewRow w 153 1 n xs) := by
  rcases A with _ | ad
  · have h0 : xs = [] := by
      rcases hA with h | ⟨b, off, h, _⟩
      · exact h
      · cases h
    subst h0
    have h2 : n = 0 := by simpa using hl.symm
    subst h2
    have hq := run_eqnil (P := Tryz.prog) w 25 153 none 0 c Tryz.underlying25
    go_enter Tryz.func232, Tryz.ntmps232
    go_wp2
    go_ret
    exact ⟨_, rfl, row_nil _ _ _ _, Below.refl _ _⟩
  · have hA0 := hA.on (bal1 w (.cells #[] 153))
    have ho0 := row_lit w 153 1
    have HB := Lib.hid (bal1 w (.cells #[] 153))
    have hq := run_eqnil (P := Tryz.prog) w 25 153 (some ad) n c Tryz.underlying25
    have HL := Lib.hid hl
    have H1 := Lib.hid h1
    clear hA hl h1
    go_enter Tryz.func232, Tryz.ntmps232
    go_wp2_with (at_builtin; refine wpList_appV _ rfl (.tmp 5) (.tmp 6) 25 153 1 24 (.agg #[.slice none 0 0]) rfl Tryz.underlying25 (by kernel_rfl) rfl (by omega) (by omega) w.heap.size 0 _ [] rfl ho0 (some ad) n c xs rfl HL.out hA0 H1.out (by omega) (by simp) ?_; intro v1 w1 o1 g1 _ _; have b1 := Lib.hid (grown_below HB.out g1 ho0 (Nat.le_refl _)); clear g1 ho0 hA0)
    rw [List.nil_append, Nat.zero_add] at o1
    go_ret
    exact ⟨v1, rfl, o1, b1.out⟩
theorem cloneInts_any (A : Option Addr) (n c : Nat) (xs : List Value) (w : World) (hA : At w A xs) (hl : xs.length = n * 1) (h1 : ∀ u ∈ xs, u.oneCell' = true) (hn : n ≤ 1100000) : Calls Tryz.prog 234 #[.slice A n c] w (NewRow w 3 1 n xs) := by
  rcases A with _ | ad
  · have h0 : xs = [] := by
      rcases hA with h | ⟨b, off, h, _⟩
      · exact h
      · cases h
    subst h0
    have h2 : n = 0 := by simpa using hl.symm
    subst h2
    have hq := run_eqnil (P := Tryz.prog) w 24 3 none 0 c Tryz.underlying24
    go_enter Tryz.func234, Tryz.ntmps234
    go_wp2
    go_ret
    exact ⟨_, rfl, row_nil _ _ _ _, Below.refl _ _⟩
  · have hA0 := hA.on (bal1 w (.cells #[] 3))
    have ho0 := row_lit w 3 1
    have HB := Lib.hid (bal1 w (.cells #[] 3))
    have hq := run_eqnil (P := Tryz.prog) w 24 3 (some ad) n c Tryz.underlying24
    have HL := Lib.hid hl
    have H1 := Lib.hid h1
    clear hA hl h1
    go_enter Tryz.func234, Tryz.ntmps234
    go_wp2_with (at_builtin; refine wpList_appV _ rfl (.tmp 5) (.tmp 6) 24 3 1 8 (.int .i64 0) rfl Tryz.underlying24 (by kernel_rfl) rfl (by omega) (by omega) w.heap.size 0 _ [] rfl ho0 (some ad) n c xs rfl HL.out hA0 H1.out (by omega) (by simp) ?_; intro v1 w1 o1 g1 _ _; have b1 := Lib.hid (grown_below HB.out g1 ho0 (Nat.le_refl _)); clear g1 ho0 hA0)
    rw [List.nil_append, Nat.zero_add] at o1
    go_ret
    exact ⟨v1, rfl, o1, b1.out⟩
theorem only_two (w : World) (p i j : Nat) (a b : Value) : Only (fun b => b = p) w ((w.setCell ⟨p, i, none⟩ a).setCell ⟨p, j, none⟩ b) :=
  Only.setCell (S := fun b => b = p) (g := p) (Only.setCell (S := fun b => b = p) (g := p) (Only.refl _ _) rfl _) rfl _
theorem one_iV (l : List Int) : ∀ u ∈ l.map iV, u.oneCell' = true := by
  intro u hu
  simp only [List.mem_map] at hu
  obtain ⟨n, _, rfl⟩ := hu
  rfl
theorem row_ints {w : World} {base : Nat} {v : Value} {lo : List Int} (h : w.ownsRow base 3 1 v lo.length (lo.map iV)) : Owns w (fun b => base ≤ b) v (intsD lo) := row_owns h (ints_litL _ _ _) (by simp)
theorem Reads.atI {w : World} {B : Nat} {A : Option Addr} {n c : Nat} {lo : List Int} (h : Reads w B (.slice A n c) (intsD lo)) : At w A (lo.map iV) := by
  obtain ⟨xs, hat, hrs, _⟩ := h.cells
  rw [← lits_eq hrs]
  exact hat
set_option maxHeartbeats 4000000 in
theorem copyTree_any (vl vn : Value) (lo : List Int) (ts : List NodeD) (w : World) (hv : RdT w w.heap.size vl vn lo ts) (hs : SmallT lo ts) : Calls Tryz.prog 176 #[.agg #[vl, vn]] w (NewTS w lo ts) := by
  obtain ⟨A, c, B, d, rfl, rfl⟩ := hv.shape
  have HS := Lib.hid hs
  have s1 := hs.1
  have s2 := hs.2.1
  have HVL := Lib.hid hv.1
  obtain ⟨xs, hat, hrs, hxl⟩ := hv.2.cells
  have X0 := Lib.hid hrs
  have HXL := Lib.hid hxl
  have ones : ∀ u ∈ xs, u.oneCell' = true := hrs.ones (fun c hc => by simp at hc; obtain ⟨l, _, rfl⟩ := hc; rfl)
  obtain ⟨q0, q1⟩ := al2 w (.cells #[.slice A lo.length c, .slice B ts.length d] 27) (.cells #[.slice none 0 0, .slice none 0 0] 27)
  have Q0 := Lib.hid q0
  have Q1 := Lib.hid q1
  clear hv hs hrs hxl q0 q1
  go_enter Tryz.func176, Tryz.ntmps176
  go_wp2_with fail
  refine (cloneNodes_any B ts.length d xs _ (hat.on (bal2 _ _ _)) HXL.out ones s2).mono ?_
  rintro e w1 ⟨u, rfl, ho1, b1⟩
  have hb1 := bstep (bal2 _ _ _) b1
  have q0 := box_on Q0.out b1
  have q1 := box_on Q1.out b1
  have hz := b1.size
  simp only [World.size_alloc] at hz ho1
  obtain ⟨Au, cu, rfl⟩ := row_form ho1
  have HO1 := Lib.hid ho1
  have P0 := Lib.hid q0
  have P1 := Lib.hid q1
  have HB1 := Lib.hid hb1
  clear b1 ones hat q0 q1 ho1 hb1
  have REL1 : Hid (CopyIn w (w.heap.size + 1 + 1) w.heap.size (.cells #[.slice A lo.length c, .slice B ts.length d] 27) (.slice Au ts.length cu) 153 1 ts.length 0 xs (ts.map setsD) w1) :=
    Lib.hid ⟨xs, HO1.out, by simpa using OwnsL.nil _ _, fun _ _ => rfl, P0.out, HB1.out⟩
  go_wp2
  go_loopw [11] (fun i wr => ∃ k : Nat, k ≤ ts.length ∧ i = .int .i64 k ∧ Hid (CopyIn w (w.heap.size + 1 + 1) w.heap.size (.cells #[.slice A lo.length c, .slice B ts.length d] 27) (.slice Au ts.length cu) 153 1 ts.length k xs (ts.map setsD) wr) ∧ Hid (wr.heap[w.heap.size + 1]? = some (.cells #[.slice none 0 0, .slice none 0 0] 27))) (fun i _ => ts.length - (intOf i).toNat)
  case atStart => exact ⟨0, Nat.zero_le _, rfl, REL1, P1⟩
  case round =>
    clear hz REL1
    obtain ⟨k, hk, rfl, HC, HP⟩ := hrel
    obtain ⟨zs, ho, hown, htl, hbx, hb⟩ := HC.out
    by_cases hlt : k < ts.length
    · have hxk : k < xs.length := by rw [HXL.out]; omega
      rcases row_cases ho with ⟨_, h, _⟩ | ⟨g, cap, hu, hbg, hR, hn, hc, hl⟩
      · omega
      · cases hu
        have hzk : k < zs.length := by omega
        have ez : zs[k] = xs[k] := by
          have := htl k (Nat.le_refl _)
          rw [List.getElem?_eq_getElem hzk, List.getElem?_eq_getElem hxk] at this
          exact Option.some.inj this
        have c1 := hR.cell hzk
        rw [ez] at c1
        have rk := (X0.out.on hb).2 k hxk (by simpa using hlt)
        rw [List.getElem_map] at rk
        obtain ⟨Ak, dk, ek, _, _⟩ := rk.lenN
        rw [ek] at c1 rk
        have hg := hR.lt
        have hlk := Lib.hid (HS.out.at hlt)
        have i1 : (k : Int) < (ts.length : Int) := by omega
        have i2 : (0 : Int) ≤ (k : Int) := by omega
        have hne2 : ¬ w.heap.size = g := by omega
        have ba := bal1 wr (.cells #[.slice Ak (ts[k]).length dk] 153)
        have RK := Lib.hid (rk.on ba)
        have BA := Lib.hid ba
        have HOWN := Lib.hid hown
        have HO := Lib.hid ho
        have HT := Lib.hid htl
        have HR := Lib.hid hR
        have HBX := Lib.hid hbx
        have HZ := Lib.hid hzk
        have HBB := Lib.hid hb
        clear rk ek ez hown ho htl hR hbx hb hl hxk hzk HC ba
        go_wp2_with fail
        refine (copyNode_any _ ts[k] _ RK.out hlk.out).mono ?_
        rintro e w2 ⟨x, rfl, ox, b2'⟩
        have b2 := bstep BA.out b2'
        have hsz : wr.heap.size ≤ (wr.alloc (.cells #[.slice Ak (ts[k]).length dk] 153)).heap.size := BA.out.size
        have R2 := HR.out.keep (b2.block g hg)
        have cc := R2.cell HZ.out
        have ff := R2.frozen k
        obtain ⟨Ax, dx, rfl, _, _⟩ := ox.reads.lenN
        have NEW := Lib.hid (CopyIn.step (w := w) HO.out HOWN.out HT.out HBX.out HBB.out b2 (ox.mono (fun b hb => Nat.le_trans hsz hb)) hg (by omega) hne2 (by omega) hlt)
        have HP2 := Lib.hid (box_far (j := k) (u := .slice Ax (ts[k]).length dx) (box_on HP.out b2) (show w.heap.size + 1 ≠ g by omega))
        clear ox b2 b2' R2 c1 hsz
        go_wp2
        go_roundw
        case rel =>
          refine ⟨k + 1, by omega, by go_num, ?_, HP2⟩
          have h := NEW.out
          exact Lib.hid (h (by simpa using hlt) (by simp))
        case measure => simp [intOf]; omega
    · have e : k = ts.length := by omega
      have hsec : Owns wr (fun b => w.heap.size + 1 + 1 ≤ b) (.slice Au ts.length cu) (nodesD ts) := by
        subst e
        have h1 : zs.length = ts.length * 1 := ho.1
        rw [List.take_of_length_le (by omega), List.take_of_length_le (by simp)] at hown
        exact row_owns ho hown (by simp)
      have HSEC := Lib.hid hsec.lt
      have HBB := Lib.hid hb
      obtain ⟨x0, x1, x2⟩ := box2 hbx
      have AT := Lib.hid ((HVL.out.on hb).atI)
      have hzw := (Array.getElem?_eq_some_iff.1 HP.out).1
      clear hsec hown ho htl hbx hb HC
      go_wp2_with fail
      refine (cloneInts_any A lo.length c (lo.map iV) _ AT.out (by simp) (one_iV _) s1).mono ?_
      rintro e w3 ⟨v3, rfl, o3, b3⟩
      obtain ⟨A3, c3, rfl⟩ := row_form o3
      have O3 := Lib.hid (row_ints o3)
      have ON := Lib.hid (HSEC.out.on b3)
      have B3 := Lib.hid (bstep HBB.out b3)
      have hz3 := b3.size
      clear x0 x1 x2
      obtain ⟨x0, x1, x2⟩ := box2 (box_on HP.out b3)
      clear o3 b3
      go_wp2
      have HO : ∀ a b, Only (fun b => b = w.heap.size + 1) w3 ((w3.setCell ⟨w.heap.size + 1, 0, none⟩ a).setCell ⟨w.heap.size + 1, 1, none⟩ b) := fun a b => only_two _ _ _ _ _ _
      refine bodyPost_ret (v := .agg #[.slice A3 lo.length c3, .slice Au ts.length cu]) (by simp [results, Tryz.results176, go_sem, x0, x1, x2]) rfl ⟨_, _, rfl, ⟨fun b => wr.heap.size ≤ b, fun b => w.heap.size + 1 + 1 ≤ b ∧ b < wr.heap.size, fun b hb => by omega, fun b hb => by omega, fun b hb hb' => by omega, O3.out.far (HO _ _) (fun b hb _ hb' => by omega), ON.out.far (HO _ _) (fun b hb _ hb' => by omega)⟩, B3.out.trans ((HO _ _).below B3.out.size (fun b hb => by omega))⟩
/-- What the region of spec.l6Copy reads. -/
def NC2 (p1 b1 o1 : Nat) (v1 e1 : Value) (p3 : Nat) (v3 : Value) (W : World) : Prop := W.cell? ⟨p1, 1, none⟩ = some v1 ∧ W.cell? ⟨b1, o1, none⟩ = some e1 ∧ W.cell? ⟨p3, 1, none⟩ = some v3
theorem NC2.on {p1 b1 o1 : Nat} {v1 e1 : Value} {p3 : Nat} {v3 : Value} {wr W : World} (h : NC2 p1 b1 o1 v1 e1 p3 v3 wr) (hb : Below wr.heap.size wr W) : NC2 p1 b1 o1 v1 e1 p3 v3 W :=
  have k : ∀ (b o : Nat) (v : Value), wr.cell? ⟨b, o, none⟩ = some v → W.cell? ⟨b, o, none⟩ = some v := fun b o _ hc => (World.cell?_of_block (a := ⟨b, o, none⟩) (hb.block b (World.block_lt_of_cell? wr _ hc))).trans hc
  ⟨k _ _ _ h.1, k _ _ _ h.2.1, k _ _ _ h.2.2⟩
theorem NC2.grown {p1 b1 o1 : Nat} {v1 e1 : Value} {p3 : Nat} {v3 : Value} {wr W : World} {g : Option Nat} (h : NC2 p1 b1 o1 v1 e1 p3 v3 wr) (hg : wr.grownBy W g) (h1 : g ≠ some p1) (h2 : g ≠ some b1) (h3 : g ≠ some p3) : NC2 p1 b1 o1 v1 e1 p3 v3 W :=
  have k : ∀ (b o : Nat) (v : Value), g ≠ some b → wr.cell? ⟨b, o, none⟩ = some v → W.cell? ⟨b, o, none⟩ = some v := fun b o _ hn hc => (World.cell?_of_block (a := ⟨b, o, none⟩) (hg.block b (World.block_lt_of_cell? wr _ hc) (fun e => hn e.symm))).trans hc
  ⟨k _ _ _ h1 h.1, k _ _ _ h2 h.2.1, k _ _ _ h3 h.2.2⟩
def NodesIn (W2 : World) (p3 : Nat) (vlo : Value) (ts : List NodeD) (k : Nat) (wr : World) : Prop :=
  ∃ u xs, wr.ownsRow (p3 + 1) 153 1 u k xs ∧ OwnsL wr (Tof (p3 + 1) u) xs ((ts.take k).map setsD) ∧ wr.heap[p3]? = some (.cells #[vlo, u] 27 (0, 0)) ∧ Below p3 W2 wr
theorem Below.of {B : Nat} {a b c : World} (h : Below B a b) (k : Below b.heap.size b c) (hB : B ≤ b.heap.size) : Below B a c := h.trans (k.mono hB)
set_option maxHeartbeats 8000000 in
theorem l6Copy_any (vl vn : Value) (lo : List Int) (ts : List NodeD) (w : World) (hv : RdT w w.heap.size vl vn lo ts) (hs : SmallT lo ts) : Calls Tryz.prog 131 #[.agg #[vl, vn]] w (NewTS w lo ts) := by
  obtain ⟨A, c, B, d, rfl, rfl⟩ := hv.shape
  have HS := Lib.hid hs
  have s1 := hs.1
  have s2 := hs.2.1
  obtain ⟨q0, q1⟩ := al2 w (.cells #[.slice A lo.length c, .slice B ts.length d] 27) (.cells #[.slice none 0 0, .slice none 0 0] 27)
  have hb2 := bal2 w (.cells #[.slice A lo.length c, .slice B ts.length d] 27) (.cells #[.slice none 0 0, .slice none 0 0] 27)
  have hz2 : ((w.alloc (.cells #[.slice A lo.length c, .slice B ts.length d] 27)).alloc (.cells #[.slice none 0 0, .slice none 0 0] 27)).heap.size = w.heap.size + 2 := by simp
  have HV0 := Lib.hid hv.2
  have HV := Lib.hid (hv.on hb2)
  have HB := Lib.hid hb2
  have Q0 := Lib.hid q0
  have Q1 := Lib.hid q1
  have HZ2 := Lib.hid hz2
  clear hv hs q0 q1 hb2 hz2
  go_enter Tryz.func131, Tryz.ntmps131
  go_upto_region 1 with (fail)
  generalize (w.alloc (.cells #[.slice A lo.length c, .slice B ts.length d] 27)).alloc (.cells #[.slice none 0 0, .slice none 0 0] 27) = W at *
  have ba := bal1 W (.cells #[] 3)
  have AT := Lib.hid ((HV.out.1.on ba).atI)
  have ho0 := row_lit W 3 1
  obtain ⟨x0, x1, x2⟩ := box2 (box_on Q0.out ba)
  have BA := Lib.hid ba
  have HON : Hid (∀ u ∈ lo.map iV, u.oneCell' = true) := Lib.hid (one_iV lo)
  clear ba
  go_wp2_with (at_builtin; refine wpList_appV _ rfl (.tmp 5) (.tmp 7) 24 3 1 8 (.int .i64 0) rfl Tryz.underlying24 (by kernel_rfl) rfl (by omega) (by omega) W.heap.size 0 _ [] rfl ho0 A lo.length c (lo.map iV) rfl (by simp) AT.out HON.out (by omega) (by simp) ?_; intro v1 w1 o1 g1 _ _; have b1 := Lib.hid (grown_below BA.out g1 ho0 (Nat.le_refl _)); clear g1 ho0 AT x0 x1 x2; rw [List.nil_append, Nat.zero_add] at o1; obtain ⟨Al, cl, rfl⟩ := row_form o1)
  have OL := Lib.hid (row_ints o1).lt
  have hz2 := Nat.le_of_eq HZ2.out
  have hz2' := Nat.le_of_eq HZ2.out.symm
  have hzb := b1.out.size
  clear o1
  have q3 := al1 w1 (.cells #[.slice Al lo.length cl, .slice none 0 0] 27)
  have ba := bal1 w1 (.cells #[.slice Al lo.length cl, .slice none 0 0] 27)
  have hzA : (w1.alloc (.cells #[.slice Al lo.length cl, .slice none 0 0] 27)).heap.size = w1.heap.size + 1 := by simp
  replace HB := Lib.hid (bstep (bstep HB.out b1.out) ba)
  replace HV := Lib.hid ((HV.out.on b1.out).on ba)
  replace Q0 := Lib.hid (box_on (box_on Q0.out b1.out) ba)
  replace Q1 := Lib.hid (box_on (box_on Q1.out b1.out) ba)
  replace OL := Lib.hid (OL.out.on ba)
  have Q3 := Lib.hid q3
  have HZA := Lib.hid hzA
  clear q3 ba b1 hzA
  go_upto_region 2 with (fail)
  generalize w1.alloc (.cells #[.slice Al lo.length cl, .slice none 0 0] 27) = W2 at *
  have hzA1 := Nat.le_of_eq HZA.out
  have hzA2 := Nat.le_of_eq HZA.out.symm
  have REL : Hid (NodesIn W2 w1.heap.size (.slice Al lo.length cl) ts 0 W2) := Lib.hid ⟨.slice none 0 0, [], row_nil _ _ _ _, by simpa using OwnsL.nil _ _, Q3.out, Below.refl _ _⟩
  go_wp2
  go_loopw [4] (fun i wr => ∃ k : Nat, k ≤ ts.length ∧ i = .int .i64 k ∧ Hid (NodesIn W2 w1.heap.size (.slice Al lo.length cl) ts k wr)) (fun i _ => ts.length - (intOf i).toNat)
  case atStart => exact ⟨0, Nat.zero_le _, rfl, REL⟩
  case round =>
    clear REL
    obtain ⟨k, hk, rfl, HC⟩ := hrel
    obtain ⟨u, xs, hr, ho, q3, hb⟩ := HC.out
    have q0 : wr.heap[w.heap.size]? = some (.cells #[.slice A lo.length c, .slice B ts.length d] 27) := (hb.block _ (by omega)).trans Q0.out
    obtain ⟨x0, x1, x2⟩ := box2 q0
    have hzW := hb.size
    have hbw : Below w.heap.size w wr := HB.out.trans (hb.mono (by omega))
    by_cases hlt : k < ts.length
    · obtain ⟨b, off, hBe, hb0, _⟩ := HV0.out.node hlt
      subst hBe
      obtain ⟨b', off', hbe, _, hc⟩ := (HV0.out.on hbw).node hlt
      cases hbe
      obtain ⟨A2, d2, c1, _, _, r1⟩ := hc k hlt
      obtain ⟨z0, z1, z2⟩ := box2 q3
      obtain ⟨Au, cu, rfl⟩ := row_form hr
      have hz3 := (Array.getElem?_eq_some_iff.1 q3).1
      have i1 : (k : Int) < (ts.length : Int) := by omega
      have i2 : (0 : Int) ≤ (k : Int) := by omega
      have hlk := Lib.hid (HS.out.at hlt)
      have n1 : ¬ w1.heap.size = w.heap.size := by omega
      have n2 : ¬ w.heap.size = w1.heap.size := by omega
      have R1 := Lib.hid r1
      have Q3 := Lib.hid q3
      have HR := Lib.hid hr
      have HO := Lib.hid ho
      have HX := Lib.hid hb
      clear hc q0 q3 hr ho hb r1 HC hbw
      go_wp2
      have hSW : NC2 w.heap.size b (off + k) (.slice (some ⟨b, off, none⟩) ts.length d) (.slice A2 (ts[k]).length d2) w1.heap.size (.slice Au k cu) wr.drew := ⟨x1, c1, z1⟩
      have hSV : NC2 w.heap.size b (off + k) (.slice (some ⟨b, off, none⟩) ts.length d) (.slice A2 (ts[k]).length d2) w1.heap.size (.slice Au k cu) wr := ⟨x1, c1, z1⟩
      refine but_begin (f := 11) (S := NC2 w.heap.size b (off + k) (.slice (some ⟨b, off, none⟩) ts.length d) (.slice A2 (ts[k]).length d2) w1.heap.size (.slice Au k cu)) (by kernel_rfl) ?_
      refine bt (f := 11) (i := 0) (v := ?v0) rfl (Or.inl ⟨by rfl, ?hy0⟩) hSW ?rest0
      case hy0 =>
        intro W hW
        obtain ⟨h1, h2, h3⟩ := hW
        go_simp
        exact rfl
      simp only [zA, zB, zC, Act.put, zD, zE, zF]
      refine bt (f := 11) (i := 1) (v := ?v1) rfl (Or.inl ⟨by rfl, ?hy1⟩) hSW ?rest1
      case hy1 =>
        intro W hW
        obtain ⟨h1, h2, h3⟩ := hW
        go_simp
        exact rfl
      simp only [zA, zB, zC, Act.put, zD, zE, zF]
      refine bt (f := 11) (i := 2) (v := ?v2) rfl (Or.inl ⟨by rfl, ?hy2⟩) hSW ?rest2
      case hy2 =>
        intro W hW
        obtain ⟨h1, h2, h3⟩ := hW
        go_simp
        exact rfl
      simp only [zA, zB, zC, Act.put, zD, zE, zF]
      refine bt (f := 11) (i := 3) (v := ?v3) rfl (Or.inl ⟨by rfl, ?hy3⟩) hSW ?rest3
      case hy3 =>
        intro W hW
        obtain ⟨h1, h2, h3⟩ := hW
        go_simp
        exact rfl
      simp only [zA, zB, zC, Act.put, zD, zE, zF]
      refine bt (f := 11) (i := 4) (v := ?v4) rfl (Or.inl ⟨by rfl, ?hy4⟩) hSW ?rest4
      case hy4 =>
        intro W hW
        obtain ⟨h1, h2, h3⟩ := hW
        go_simp
        exact rfl
      simp only [zA, zB, zC, Act.put, zD, zE, zF]
      refine bt (f := 11) (i := 5) (v := ?v5) rfl (Or.inl ⟨by rfl, ?hy5⟩) hSW ?rest5
      case hy5 =>
        intro W hW
        obtain ⟨h1, h2, h3⟩ := hW
        go_simp
        exact rfl
      simp only [zA, zB, zC, Act.put, zD, zE, zF]
      refine bt (f := 11) (i := 6) (v := ?v6) rfl (Or.inl ⟨by rfl, ?hy6⟩) hSW ?rest6
      case hy6 =>
        intro W hW
        obtain ⟨h1, h2, h3⟩ := hW
        go_simp
        exact rfl
      simp only [zA, zB, zC, Act.put, zD, zE, zF]
      refine but_run (i := 7) (by kernel_rfl) rfl (by rfl) ?_
      simp only [zA, zB, zC]
      intro K_ HK
      go_wp2_with fail
      refine (l5Copy_any _ ts[k] _ (R1.out.on (Below.drew1 _)) hlk.out).mono ?_
      rintro e w6 ⟨v6, rfl, o6, b6'⟩
      obtain ⟨A6, c6, rfl, _, _⟩ := o6.reads.lenN
      have b6 : Below wr.heap.size wr w6 := bstep (Below.drew1 _) b6'
      have hS6 := hSV.on b6
      go_wp2_with fail
      refine HK.out _ _ (fun _ => hS6) ?_
      clear HK
      have B6 := Lib.hid b6
      have O6 : Hid (Owns w6 (fun b => wr.heap.size ≤ b) (.slice A6 (ts[k]).length c6) (setsD ts[k])) := Lib.hid o6
      clear o6 b6 b6'
      try simp only [Act.put, List.setIfInBounds_toArray, List.set_cons_zero, List.set_cons_succ]
      refine but_run (i := 8) (by kernel_rfl) rfl (by rfl) ?_
      simp only [zA, zB, zC]
      intro K_ HK
      go_wp2
      have hS7 := hS6.on (bal1 w6 (.cells #[.slice A6 (ts[k]).length c6] 153))
      refine HK.out _ _ (fun _ => hS7) ?_
      clear HK
      have hz6 := B6.out.size
      refine but_run (i := 9) (by kernel_rfl) rfl (by rfl) ?_
      simp only [zA, zB, zC]
      intro K_ HK
      refine operAppN _ (by rfl) (.tmp 18) (.tmp 25) 25 153 1 24 (.agg #[.slice none 0 0]) (by rfl) Tryz.underlying25 (by kernel_rfl) rfl (by omega) (by omega) (w1.heap.size + 1) k _ xs (by rfl) (row_on (row_on HR.out B6.out) (bal1 _ _)) _ 1 1 [.slice A6 (ts[k]).length c6] (by rfl) rfl (At.lit1 _ _ _) (by simp [Value.oneCell']) (by omega) (by simp; omega) ?_
      intro v8 w8 o8 g8 n8 at8
      have h8 := box_grown (box_on (box_on Q3.out B6.out) (bal1 _ _)) g8 (row_ne HR.out (by omega))
      have hS8 := hS7.grown g8 (row_ne HR.out (by omega)) (row_ne HR.out (by omega)) (row_ne HR.out (by omega))
      refine HK.out _ _ (fun _ => hS8) ?_
      clear HK
      have O8 := Lib.hid o8
      have G8 := Lib.hid g8
      have AT8 := Lib.hid at8
      obtain ⟨gv, cv, rfl⟩ := row_shape o8 (by omega)
      obtain ⟨f0, f1, f2⟩ := box2 h8
      have H8 := Lib.hid h8
      clear h8 o8 g8 at8 n8
      simp only [Act.put, List.setIfInBounds_toArray, List.set_cons_zero, List.set_cons_succ]
      refine but_run (i := 10) (by kernel_rfl) rfl (by rfl) ?_
      simp only [zA, zB, zC]
      intro K_ HK
      go_wp2
      refine HK.out _ _ (fun _ => hS8) ?_
      clear HK
      refine but_run (i := 11) (by kernel_rfl) rfl (by rfl) ?_
      simp only [zA, zB, zC]
      intro K_ HK
      go_wp2
      refine HK.out _ _ (fun h => (h rfl).elim) ?_
      clear HK
      have B7 := Lib.hid (bstep B6.out (bal1 w6 (.cells #[.slice A6 (ts[k]).length c6] 153)))
      have HX2 := Lib.hid (own_grow HR.out HO.out B7.out (OwnsL.one ((O6.out.on (bal1 _ (.cells #[.slice A6 (ts[k]).length c6] 153))).lt)) G8.out AT8.out (by omega))
      have HB8 : Hid (Below w1.heap.size W2 w8) := Lib.hid (((HX.out.trans (B7.out.mono (by omega))).grown G8.out (Nat.le_trans (Nat.le_trans (by omega) hzW) (Nat.le_trans (Nat.le_refl _) B7.out.size)) (fun k hk => by have := (row_lt (row_on HR.out B7.out) k hk).2; omega)))
      have NEW : Hid (NodesIn W2 w1.heap.size (.slice Al lo.length cl) ts (k + 1) (w8.setCell ⟨w1.heap.size, 1, none⟩ (.slice (some ⟨gv, 0, none⟩) (k + 1) cv))) := by
        refine Lib.hid ⟨_, _, row_keep O8.out (fun g hg => Below.heap_setCell _ _ _ _ (by have := (row_lt O8.out g hg).2; simp; omega)), ?_, box_set H8.out, HB8.out.setCell (p := ⟨w1.heap.size, 1, none⟩) (Nat.le_refl _) _⟩
        rw [List.take_succ_eq_append_getElem hlt, List.map_append]
        exact HX2.out.keep (fun b hb _ => Below.heap_setCell _ _ _ _ (by have := hb.1; simp; omega))
      clear HX2 HB8 O8 G8 AT8 H8 HR HO Q3 B7 B6 O6
      refine but_done (by kernel_rfl) ?_
      go_wp2
      go_roundw
      case rel => exact ⟨k + 1, by omega, by go_num, NEW⟩
      case measure => simp [intOf]; omega
    · have e : k = ts.length := by omega
      subst e
      rw [List.take_of_length_le (Nat.le_refl _)] at ho
      obtain ⟨Au, cu, rfl⟩ := row_form hr
      obtain ⟨z0, z1, z2⟩ := box2 q3
      have q1 : wr.heap[w.heap.size + 1]? = some (.cells #[.slice none 0 0, .slice none 0 0] 27) := (hb.block _ (by omega)).trans Q1.out
      obtain ⟨y0, y1, y2⟩ := box2 q1
      have hsec : Owns wr (fun b => w1.heap.size + 1 ≤ b) (.slice Au ts.length cu) (nodesD ts) := row_owns hr ho (by simp)
      have HSEC := Lib.hid hsec
      have HLW : Hid (Owns wr (fun b => W.heap.size ≤ b ∧ b < w1.heap.size) (.slice Al lo.length cl) (intsD lo)) := Lib.hid (OL.out.keep (fun b hb' _ => hb.block b hb'.2))
      have HBB := Lib.hid hbw
      have n3 : ¬ w1.heap.size = w.heap.size + 1 := by omega
      clear hsec ho hr q0 q1 q3 hb HC hbw
      go_wp2
      have HO : ∀ a b, Only (fun b => b = w.heap.size + 1) wr ((wr.setCell ⟨w.heap.size + 1, 0, none⟩ a).setCell ⟨w.heap.size + 1, 1, none⟩ b) := fun a b => only_two _ _ _ _ _ _
      refine bodyPost_ret (v := .agg #[.slice Al lo.length cl, .slice Au ts.length cu]) (by simp [results, Tryz.results131, go_sem, y0, y1, y2]) rfl ⟨_, _, rfl, ⟨fun b => W.heap.size ≤ b ∧ b < w1.heap.size, fun b => w1.heap.size + 1 ≤ b, fun b hb => by omega, fun b hb => by omega, fun b hb hb' => by omega, HLW.out.far (HO _ _) (fun b hb _ hb' => by omega), HSEC.out.far (HO _ _) (fun b hb _ hb' => by omega)⟩, HBB.out.trans ((HO _ _).below HBB.out.size (fun b hb => by omega))⟩
end Go.Proofs.YtlhemcjahcmdeaaGreatDoor
namespace Go.Proofs.YtlhemcjahcmdeaaGreatDoor
open Go.RowKit
set_option maxRecDepth 100000
set_option linter.unusedSimpArgs false
set_option linter.unusedVariables false

/-- u is a row of sets in blocks from base on, none of them bo. -/
def NOwn (w : World) (base bo : Nat) (u : Value) (ns : List (List KeyD)) : Prop :=
  ∃ xs, w.ownsRow base 221 1 u ns.length xs ∧ OwnsL w (fun b => (base ≤ b ∧ b ≠ bo) ∧ u.ownBlock ≠ some b) xs (ns.map keysD) ∧ u.ownBlock ≠ some bo
theorem NOwn.of {w : World} {base : Nat} {u : Value} {ns : List (List KeyD)} (h : Owns w (fun b => base ≤ b) u (setsD ns)) (o : Obj) : NOwn (w.alloc o) base w.heap.size u ns := by
  rcases h.rw' with ⟨rfl, h0, hc⟩ | ⟨g, cap, xs, rfl, hS, hR, hn, hc, hl, hx, ho⟩
  · have : ns = [] := List.length_eq_zero_iff.1 h0
    subst this
    exact ⟨[], row_nil _ _ _ _, OwnsL.nil _ _, by simp [Value.ownBlock]⟩
  · have hlt := hR.lt
    refine ⟨xs, row_on (hR.row hS hn hc (by simpa using hx)) (bal1 _ _), ?_, by simp [Value.ownBlock]; omega⟩
    exact (ho.lt.on (bal1 w o)).mono (fun b hb => ⟨⟨hb.1.1, by omega⟩, fun e => hb.1.2 (by simp [Value.ownBlock] at e; exact e.symm)⟩)
theorem NOwn.on {w w' : World} {base bo : Nat} {u : Value} {ns : List (List KeyD)} (h : NOwn w base bo u ns) (hb : Below w.heap.size w w') : NOwn w' base bo u ns := by
  obtain ⟨xs, h1, h2, h3⟩ := h
  exact ⟨xs, row_on h1 hb, h2.on hb, h3⟩
theorem rowP_owns {P : Nat → Prop} {w : World} {base e z n : Nat} {v : Value} {xs : List Value} {cs : List Dat} (h : w.ownsRow base e z v n xs) (ho : OwnsL w (fun b => P b ∧ v.ownBlock ≠ some b) xs cs) (hP : ∀ g, v.ownBlock = some g → P g) (hl : cs.length = n * z) : Owns w P v (.row e z n cs) := by
  rcases row_cases h with ⟨rfl, rfl, rfl⟩ | ⟨g, cap, rfl, hb, hR, hn, hc, _⟩
  · have : cs = [] := List.length_eq_zero_iff.1 (by simpa using hl)
    subst this
    exact .nil _ _ _
  · exact hR.owns (hP g rfl) (ho.mono (fun b hb => ⟨hb.1, fun e => hb.2 (by rw [e]; rfl)⟩)) hn hc hl
theorem NOwn.owns {w : World} {base bo : Nat} {u : Value} {ns : List (List KeyD)} (h : NOwn w base bo u ns) : Owns w (fun b => base ≤ b ∧ b ≠ bo) u (setsD ns) := by
  obtain ⟨xs, h1, h2, h3⟩ := h
  exact rowP_owns h1 h2 (fun g hg => ⟨(row_lt h1 g hg).2, fun e => h3 (by rw [← e]; exact hg)⟩) (by simp)
theorem NOwn.elem {w : World} {base bo : Nat} {u : Value} {ns : List (List KeyD)} (h : NOwn w base bo u ns) {i : Nat} (hi : i < ns.length) :
    ∃ g cap A2 c2, u = .slice (some ⟨g, 0, none⟩) ns.length cap ∧ base ≤ g ∧ g ≠ bo ∧ g < w.heap.size ∧ w.cell? ⟨g, i, none⟩ = some (.slice A2 (ns[i]).length c2) ∧ (∀ o, w.frozen? ⟨g, o, none⟩ = false) ∧ Reads w w.heap.size (.slice A2 (ns[i]).length c2) (keysD ns[i]) := by
  obtain ⟨xs, h1, h2, h3⟩ := h
  rcases row_cases h1 with ⟨_, h0, _⟩ | ⟨g, cap, rfl, hb, hR, hn, hc, hx⟩
  · omega
  · have hxi : i < xs.length := by omega
    have hr := h2.reads.2 i hxi (by simpa using hi)
    rw [List.getElem_map] at hr
    have hcell := hR.cell hxi
    obtain ⟨A2, c2, e, _, _⟩ := hr.shapeK
    rw [e] at hr hcell
    exact ⟨g, cap, A2, c2, rfl, hb, fun e => h3 (by rw [← e]; rfl), hR.lt, hcell, fun o => hR.frozen o, hr⟩
theorem OwnsL.setN {w : World} {S T : Nat → Prop} {vs : List Value} {cs : List Dat} {i : Nat} {u : Value} {c : Dat} (h : OwnsL w S vs cs) (hu : Owns w T u c) (hd : ∀ b, S b → ¬ T b) : OwnsL w (fun b => S b ∨ T b) (vs.set i u) (cs.set i c) := by
  obtain ⟨hl, F, ho, hF, hj⟩ := h
  refine ⟨by simp [hl], fun j b => (j = i ∧ T b) ∨ (j ≠ i ∧ F j b), fun j a b => ?_, fun j b hb => ?_, fun j k b hjk hb hb' => ?_⟩
  · simp only [List.length_set] at a b
    by_cases hij : i = j
    · subst hij; rw [List.getElem_set_self, List.getElem_set_self]; exact hu.mono (fun b hb => .inl ⟨rfl, hb⟩)
    · rw [List.getElem_set_ne hij, List.getElem_set_ne hij]; exact (ho j a b).mono (fun b hb => .inr ⟨Ne.symm hij, hb⟩)
  · rcases hb with ⟨_, hb⟩ | ⟨_, hb⟩
    · exact .inr hb
    · exact .inl (hF j b hb)
  · rcases hb with ⟨h1, hb⟩ | ⟨h1, hb⟩ <;> rcases hb' with ⟨h2, hb'⟩ | ⟨h2, hb'⟩
    · omega
    · exact hd b (hF k b hb') hb
    · exact hd b (hF j b hb) hb'
    · exact hj j k b hjk hb hb'
theorem NOwn.put {w w' : World} {base bo g cap : Nat} {ns : List (List KeyD)} {x : Value} {l : List KeyD} {i : Nat} (h : NOwn w base bo (.slice (some ⟨g, 0, none⟩) ns.length cap) ns) (hi : i < ns.length) (hb : Below w.heap.size w w') (hx : RowK w' w.heap.size x l) (hbo : bo < w.heap.size) (hbase : base ≤ w.heap.size) :
    NOwn (w'.setCell ⟨g, i, none⟩ x) base bo (.slice (some ⟨g, 0, none⟩) ns.length cap) (ns.set i l) := by
  obtain ⟨xs, h1, h2, h3⟩ := h
  have hg := (row_lt h1 g rfl).1
  refine ⟨xs.set i x, ?_, ?_, h3⟩
  · have h := row_set (row_on h1 hb) i x
    rw [List.length_set]
    exact h
  · have k1 := (h2.lt.on hb).setN (i := i) hx.owns (fun b hb hb' => by have := hb.2; omega)
    rw [List.map_set]
    refine OwnsL.mono (k1.keep (w' := w'.setCell ⟨g, i, none⟩ x) (fun b hb _ => Below.heap_setCell _ _ _ _ ?_)) ?_
    · rintro rfl
      rcases hb with hb | hb
      · exact hb.1.2 rfl
      · omega
    · rintro b (hb | hb)
      · exact hb.1
      · exact ⟨⟨by omega, by omega⟩, by simp [Value.ownBlock]; omega⟩
end Go.Proofs.YtlhemcjahcmdeaaGreatDoor
namespace Go.Proofs.YtlhemcjahcmdeaaGreatDoor
open Go.RowKit
set_option maxRecDepth 100000
set_option linter.unusedSimpArgs false
set_option linter.unusedVariables false

/-- Owned cells, parted. -/
theorem OwnsL.split {w : World} {S : Nat → Prop} {vs : List Value} {cs : List Dat} (h : OwnsL w S vs cs) (i : Nat) : ∃ S1 S2 : Nat → Prop, OwnsL w S1 (vs.take i) (cs.take i) ∧ OwnsL w S2 (vs.drop i) (cs.drop i) ∧ (∀ b, S1 b → S b) ∧ (∀ b, S2 b → S b) ∧ ∀ b, S1 b → ¬ S2 b := by
  obtain ⟨hl, F, ho, hF, hd⟩ := h
  refine ⟨fun b => ∃ k, k < i ∧ F k b, fun b => ∃ k, i ≤ k ∧ F k b, ⟨by simp [hl], fun k b => k < i ∧ F k b, fun k a b => ?_, fun k b h => ⟨k, h⟩, fun k j b hkj h1 h2 => hd k j b hkj h1.2 h2.2⟩, ⟨by simp [hl], fun k b => F (i + k) b, fun k a b => ?_, fun k b h => ⟨i + k, by omega, h⟩, fun k j b hkj h1 h2 => hd _ _ b (by omega) h1 h2⟩, fun b ⟨k, _, h⟩ => hF k b h, fun b ⟨k, _, h⟩ => hF k b h, fun b ⟨k, h1, h2⟩ ⟨j, h3, h4⟩ => hd k j b (by omega) h2 h4⟩
  · simp only [List.length_take] at a b
    rw [List.getElem_take, List.getElem_take]
    exact (ho k (by omega) (by omega)).mono (fun b hb => ⟨by omega, hb⟩)
  · simp only [List.length_drop] at a b
    rw [List.getElem_drop, List.getElem_drop]
    exact ho (i + k) (by omega) (by omega)
end Go.Proofs.YtlhemcjahcmdeaaGreatDoor
namespace Go.Proofs.YtlhemcjahcmdeaaGreatDoor
open Go.RowKit
set_option maxRecDepth 100000
set_option linter.unusedSimpArgs false
set_option linter.unusedVariables false

/-- What a volume operation does to a valid pool: the pool behind, and the code (0: done). -/
abbrev Res := PoolD × Int
def mayB (d : PoolD) (s : ByteArray) : Bool := poolOkB d && nameOkB s
/-- An operation: the checks that all share, do, and the check of what came out. -/
def changeK (d : PoolD) (s : ByteArray) (f : PoolD → Res) : Res :=
  if mayB d s then (if (f d).2 = 0 then (if poolOkB (f d).1 then ((f d).1, 0) else (d, 6)) else (d, (f d).2)) else (d, 1)
def ageD (d : PoolD) (f : Int) : Res := if newOk d.ag d.nx f then ({ d with ag := newK d.ag d.nx f, nx := d.nx + 1 }, 0) else (d, 6)
def createD (s : ByteArray) (n : Int) (d : PoolD) : Res :=
  if 0 ≤ volK s d.vo then (d, 3) else if sizeB n then
    (if (ageD d 0).2 = 0 then ({ (ageD d 0).1 with vo := putV d.vo ⟨s, d.nx, n, false⟩ }, 0) else (d, 6)) else (d, 4)
end Go.Proofs.YtlhemcjahcmdeaaGreatDoor
namespace Go.Proofs.YtlhemcjahcmdeaaGreatDoor
open Go.RowKit
set_option maxRecDepth 100000
set_option linter.unusedSimpArgs false
set_option linter.unusedVariables false

theorem PoolC.setFar {t : TypeId} {w : World} {S : Nat → Prop} {vl vn va vc vv u : Value} {d : PoolD} {g j : Nat} (h : PoolC t w S vl vn va vc vv d) (hg : ¬ S g) : PoolC t (w.setCell ⟨g, j, none⟩ u) S vl vn va vc vv d :=
  h.keep (fun b hb _ => Below.heap_setCell _ _ _ _ (fun e => hg (by have e' : b = g := e; rw [← e']; exact hb)))
theorem PoolC.ages {t : TypeId} {w w1 : World} {S : Nat → Prop} {vl vn va vc vv va' : Value} {d : PoolD} {ag : List AgeD} (h : PoolC t w S vl vn va vc vv d) (b : Below w.heap.size w w1) (o : Owns w1 (fun k => w.heap.size ≤ k) va' (agesD ag)) : PoolC t w1 (fun k => S k ∨ w.heap.size ≤ k) vl vn va' vc vv { d with ag := ag } := by
  obtain ⟨P, Q, R, T, p1, p2, p3, p4, p5, p6, p7, h1, h2, h3, h4⟩ := (h.lt).on b
  exact ⟨P, fun k => w.heap.size ≤ k, R, T, fun k hk => .inl (p1 k hk).1, fun k hk => .inr hk, fun k hk => .inl (p3 k hk).1, fun k hk => .inl (p4 k hk).1, fun k hk => ⟨fun h => by have := (p1 k hk).2; omega, (p5 k hk).2.1, (p5 k hk).2.2⟩, fun k hk => ⟨fun h => by have := (p3 k h).2; omega, fun h => by have := (p4 k h).2; omega⟩, p7, h1, o, h3, h4⟩
theorem PoolC.vols {t : TypeId} {w w1 : World} {S : Nat → Prop} {vl vn va vc vv vv' : Value} {d : PoolD} {vo : List VolD} (h : PoolC t w S vl vn va vc vv d) (b : Below w.heap.size w w1) (o : Owns w1 (fun k => w.heap.size ≤ k) vv' (volsD vo)) : PoolC t w1 (fun k => S k ∨ w.heap.size ≤ k) vl vn va vc vv' { d with vo := vo } := by
  obtain ⟨P, Q, R, T, p1, p2, p3, p4, p5, p6, p7, h1, h2, h3, h4⟩ := (h.lt).on b
  exact ⟨P, Q, R, fun k => w.heap.size ≤ k, fun k hk => .inl (p1 k hk).1, fun k hk => .inl (p2 k hk).1, fun k hk => .inl (p3 k hk).1, fun k hk => .inr hk, fun k hk => ⟨(p5 k hk).1, (p5 k hk).2.1, fun h => by have := (p1 k hk).2; omega⟩, fun k hk => ⟨(p6 k hk).1, fun h => by have := (p2 k hk).2; omega⟩, fun k hk h => by have := (p3 k hk).2; omega, h1, h2, h3, o⟩
theorem PoolC.cels {t t' : TypeId} {w w1 : World} {S : Nat → Prop} {vl vn va vc vv vc' : Value} {d : PoolD} {ce : List CelD} (h : PoolC t w S vl vn va vc vv d) (b : Below w.heap.size w w1) (o : Owns w1 (fun k => w.heap.size ≤ k) vc' (celsT t' ce)) : PoolC t' w1 (fun k => S k ∨ w.heap.size ≤ k) vl vn va vc' vv { d with ce := ce } := by
  obtain ⟨P, Q, R, T, p1, p2, p3, p4, p5, p6, p7, h1, h2, h3, h4⟩ := (h.lt).on b
  exact ⟨P, Q, fun k => w.heap.size ≤ k, T, fun k hk => .inl (p1 k hk).1, fun k hk => .inl (p2 k hk).1, fun k hk => .inr hk, fun k hk => .inl (p4 k hk).1, fun k hk => ⟨(p5 k hk).1, fun h => by have := (p1 k hk).2; omega, (p5 k hk).2.2⟩, fun k hk => ⟨fun h => by have := (p2 k hk).2; omega, (p6 k hk).2⟩, fun k hk h => by have := (p4 k h).2; omega, h1, h2, o, h4⟩
theorem PoolC.tree {t : TypeId} {w w1 : World} {S : Nat → Prop} {vl vn va vc vv vl' vn' : Value} {d : PoolD} {lo : List Int} {ts : List NodeD} (h : PoolC t w S vl vn va vc vv d) (b : Below w.heap.size w w1) (o : TreeC w1 (fun k => w.heap.size ≤ k) vl' vn' lo ts) : PoolC t w1 (fun k => S k ∨ w.heap.size ≤ k) vl' vn' va vc vv { d with lo := lo, ts := ts } := by
  obtain ⟨P, Q, R, T, p1, p2, p3, p4, p5, p6, p7, h1, h2, h3, h4⟩ := (h.lt).on b
  exact ⟨fun k => w.heap.size ≤ k, Q, R, T, fun k hk => .inr hk, fun k hk => .inl (p2 k hk).1, fun k hk => .inl (p3 k hk).1, fun k hk => .inl (p4 k hk).1, fun k hk => ⟨fun h => by have := (p2 k h).2; omega, fun h => by have := (p3 k h).2; omega, fun h => by have := (p4 k h).2; omega⟩, p6, p7, o, h2, h3, h4⟩
theorem PoolC.next {t : TypeId} {w : World} {S : Nat → Prop} {vl vn va vc vv : Value} {d : PoolD} (h : PoolC t w S vl vn va vc vv d) (n : Int) : PoolC t w S vl vn va vc vv { d with nx := n } := h
theorem row_ownsT {w : World} {base e z n : Nat} {v : Value} {xs : List Value} {cs : List Dat} (h : w.ownsRow base e z v n xs) (S : Nat → Prop) (hS : ∀ g, v.ownBlock = some g → S g) (ho : OwnsL w (fun b => S b ∧ v.ownBlock ≠ some b) xs cs) (hl : cs.length = n * z) : Owns w S v (.row e z n cs) := by
  rcases row_cases h with ⟨rfl, rfl, rfl⟩ | ⟨g, cap, rfl, hb, hR, hn, hc, _⟩
  · have : cs = [] := List.length_eq_zero_iff.1 (by simpa using hl)
    subst this
    exact .nil _ _ _
  · exact hR.owns (hS g rfl) (ho.mono (fun b hb => ⟨hb.1, fun e => hb.2 (by rw [e]; rfl)⟩)) hn hc hl
/-- The error that bears a code; nil where it is 0. -/
def errV (c : Int) : Value := if c = 0 then .nilIface else .iface 137 (.agg #[.int .i64 c])
/-- The call yields a pool of its own and a code. -/
def NewPn (w : World) (r : PoolD × Int) (e : Ending) (w' : World) : Prop := ∃ t vl vn va vc vv, e = .returned (.tuple #[.agg #[vl, vn, va, vc, vv, .int .i64 r.1.nx], .int .i64 r.2]) ∧ PoolC t w' (fun b => w.heap.size ≤ b) vl vn va vc vv r.1 ∧ Below w.heap.size w w'
/-- An operation on the pool in box q has done r: its error; where there is none, the pool lies in the box. -/
def DidP (w : World) (q : Nat) (S : Nat → Prop) (r : PoolD × Int) (e : Ending) (w' : World) : Prop := e = .returned (errV r.2) ∧ Only (fun b => b = q ∨ S b) w w' ∧ (r.2 = 0 → ∃ t vl vn va vc vv, w'.heap[q]? = some (.cells #[vl, vn, va, vc, vv, .int .i64 r.1.nx] 32 (0, 0)) ∧ PoolC t w' (fun b => S b ∨ w.heap.size ≤ b) vl vn va vc vv r.1)
end Go.Proofs.YtlhemcjahcmdeaaGreatDoor
namespace Go.Proofs.YtlhemcjahcmdeaaGreatDoor
open Go.RowKit
set_option maxRecDepth 100000
set_option linter.unusedSimpArgs false
set_option linter.unusedVariables false

def lessVV : Value := .func (.func 189) #[] #[]
theorem store_lessV (a : Addr) (m : Mode) (w : World) : (store a (.func (.func 189) #[] #[]) m).run Tryz.prog w = stored Tryz.prog w a (.func (.func 189) #[] #[]) m := run_store _ w a _ m rfl
theorem volSet_any (A : Option Addr) (n c : Nat) (w : World) : Calls Tryz.prog 128 #[.slice A n c] w fun e w' => e = .returned (.agg #[.slice A n c, lessVV]) ∧ Below w.heap.size w w' := by
  have hst := store_lessV
  go_enter Tryz.func128, Tryz.ntmps128
  go_wp2
  exact bodyPost_ret (v := .agg #[.slice A n c, lessVV]) (by simp [results, Tryz.results128, go_sem, lessVV]) rfl ⟨rfl, bal1 _ _⟩
theorem lessVol_any (x y : VolD) (w : World) : Calls Tryz.prog 189 #[.agg #[.string x.a, .int .i64 x.b, .int .i64 x.c, .bool x.d], .agg #[.string y.a, .int .i64 y.b, .int .i64 y.c, .bool y.d]] w (SaysBool w (ltV x y)) := by
  cases hR : ltV x y
  all_goals
    have hS : Go.Op.bytesLess x.a.toList y.a.toList = _ := hR
    go_enter Tryz.func189, Tryz.ntmps189
    go_wp2
    go_ret
    exact ⟨rfl, bal2 _ _ _⟩
theorem ascB_snoc {l : List VolD} {j : Nat} (hlt : j + 1 < l.length) (h : ∀ i (h : i < j) (h2 : i + 1 < l.length), ltV l[i] l[i + 1] = true) (h2 : ltV l[j] l[j + 1] = true) : ∀ i (h : i < j + 1) (h2 : i + 1 < l.length), ltV l[i] l[i + 1] = true := by
  intro i hi h4
  by_cases h3 : i < j
  · exact h i h3 h4
  · have : i = j := by omega
    subst this
    exact h2
set_option maxHeartbeats 1000000 in
theorem ascendingV_any (v : Value) (l : List VolD) (w : World) (hv : Reads w w.heap.size v (volsD l)) (hn : l.length ≤ 2097152) : Calls Tryz.prog 285 #[.agg #[v, lessVV]] w (SaysBool w (ascB l)) := by
  obtain ⟨A, c, rfl, _, _⟩ := hv.shapeVol
  have HT := Lib.hid lessVol_any
  unfold lessVV
  have HV := Lib.hid (hv.on (bal1 w (.cells #[.slice A l.length c, .func (.func 189) #[] #[]] 160)))
  have Q0 := Lib.hid (al1 w (.cells #[.slice A l.length c, .func (.func 189) #[] #[]] 160))
  have HB := Lib.hid (bal1 w (.cells #[.slice A l.length c, .func (.func 189) #[] #[]] 160))
  clear hv
  go_enter Tryz.func285, Tryz.ntmps285
  go_wp2
  generalize w.alloc (.cells #[.slice A l.length c, .func (.func 189) #[] #[]] 160) = W at *
  go_loopw [3] (fun i wr => ∃ j : Nat, (j < l.length ∨ j = 0) ∧ i = .int .i64 ((j : Int) + 1) ∧ Hid (∀ i (h : i < j) (h2 : i + 1 < l.length), ltV l[i] l[i + 1] = true) ∧ Hid (Below W.heap.size W wr)) (fun i _ => l.length - (intOf i).toNat)
  case atStart => exact ⟨0, .inr rfl, rfl, Lib.hid (fun i h => by omega), Lib.hid (Below.refl _ _)⟩
  case round =>
    obtain ⟨j, hj, rfl, HI, HW⟩ := hrel
    obtain ⟨x0, x1, x2⟩ := box2 (box_on Q0.out HW.out)
    by_cases hlt : j + 1 < l.length
    · obtain ⟨b, off, rfl, hbb, hc⟩ := (HV.out.on HW.out).vols hlt
      have F := Lib.hid (hc j (by omega))
      have F' := Lib.hid (hc (j + 1) hlt)
      have i1 : (j : Int) + 1 < (l.length : Int) := by omega
      have i2 : (0 : Int) ≤ (j : Int) + 1 := by omega
      have i3 : IntKind.i64.wrap ((j : Int) + 1 - 1) = (j : Int) := by rw [IntKind.wrap_i64]; omega
      have i7 : IntKind.i64.wrap (j : Int) = (j : Int) := by rw [IntKind.wrap_i64]; omega
      have i4 : (j : Int) < (l.length : Int) := by omega
      have i5 : (0 : Int) ≤ (j : Int) := by omega
      have i6 : ((j : Int) + 1).toNat = j + 1 := by omega
      have HP := Lib.hid (box_on Q0.out HW.out)
      clear hc
      obtain ⟨c0, c1, c2, c3⟩ := F.out
      obtain ⟨d0, d1, d2, d3⟩ := F'.out
      cases hless : ltV l[j] l[j + 1]
      all_goals
        have HL := Lib.hid hless
        clear hless
        go_wp2
        go_region_held3 (fun W => W.cell? ⟨w.heap.size, 0, none⟩ = some (.slice (some ⟨b, off, none⟩) l.length c) ∧ W.cell? ⟨w.heap.size, 1, none⟩ = some (.func (.func 189) #[] #[]) ∧ W.cell? ⟨b, off + j * 4, none⟩ = some (.string (l[j]).a) ∧ W.cell? ⟨b, off + j * 4 + 1, none⟩ = some (.int .i64 (l[j]).b) ∧ W.cell? ⟨b, off + j * 4 + 2, none⟩ = some (.int .i64 (l[j]).c) ∧ W.cell? ⟨b, off + j * 4 + 3, none⟩ = some (.bool (l[j]).d) ∧ W.cell? ⟨b, off + (j + 1) * 4, none⟩ = some (.string (l[j + 1]).a) ∧ W.cell? ⟨b, off + (j + 1) * 4 + 1, none⟩ = some (.int .i64 (l[j + 1]).b) ∧ W.cell? ⟨b, off + (j + 1) * 4 + 2, none⟩ = some (.int .i64 (l[j + 1]).c) ∧ W.cell? ⟨b, off + (j + 1) * 4 + 3, none⟩ = some (.bool (l[j + 1]).d))
          (first | with_reducible exact ⟨(box2 (box_on HP.out B8)).1, (box2 (box_on HP.out B8)).2.1, (F.out.on hbb B8).1, (F.out.on hbb B8).2.1, (F.out.on hbb B8).2.2.1, (F.out.on hbb B8).2.2.2, (F'.out.on hbb B8).1, (F'.out.on hbb B8).2.1, (F'.out.on hbb B8).2.2.1, (F'.out.on hbb B8).2.2.2⟩ | with_reducible exact ⟨(box2 (box_on HP.out (Below.drew1 _))).1, (box2 (box_on HP.out (Below.drew1 _))).2.1, (F.out.on hbb (Below.drew1 _)).1, (F.out.on hbb (Below.drew1 _)).2.1, (F.out.on hbb (Below.drew1 _)).2.2.1, (F.out.on hbb (Below.drew1 _)).2.2.2, (F'.out.on hbb (Below.drew1 _)).1, (F'.out.on hbb (Below.drew1 _)).2.1, (F'.out.on hbb (Below.drew1 _)).2.2.1, (F'.out.on hbb (Below.drew1 _)).2.2.2⟩ | exact ⟨x0, x1, F.out.1, F.out.2.1, F.out.2.2.1, F.out.2.2.2, F'.out.1, F'.out.2.1, F'.out.2.2.1, F'.out.2.2.2⟩ | fail)
          (first
            | (go_at_call 189; refine (HT.out l[j] l[j + 1] _).mono ?_; rintro r w8 ⟨rfl, b8⟩; rw [HL.out]; have B8 := bstep (Below.drew1 _) b8)
            | fail)
        all_goals
          have BC := Lib.hid (HW.out.trans (B8.mono HW.out.size))
          clear B8 b8 c0 c1 c2 c3 d0 d1 d2 d3 x0 x1 x2
          go_wp2
          first
            | go_ret
              refine ⟨ret_boolB ?_, bstep HB.out BC.out⟩
              symm
              refine decide_eq_false (fun h => ?_)
              have h2 := h j (by omega)
              rw [HL.out] at h2
              cases h2
            | go_roundw
              case rel => exact ⟨j + 1, .inl hlt, by go_num, Lib.hid (ascB_snoc hlt HI.out HL.out), BC⟩
              case measure => simp [intOf]; omega
    · have i2 : ¬ (j : Int) + 1 < (l.length : Int) := by omega
      go_wp2
      go_ret
      refine ⟨ret_boolB ?_, bstep HB.out HW.out⟩
      symm
      exact decide_eq_true (fun i h => HI.out i (by omega) (by omega))
theorem sizeOk_any (n : Int) (w : World) : Calls Tryz.prog 126 #[.int .i64 n] w fun e w' => e = .returned (.bool (sizeB n)) ∧ w = w' := by
  unfold sizeB
  cases h1 : decide (1 ≤ n) <;> cases h2 : decide (n ≤ 12)
  all_goals
    go_enter Tryz.func126, Tryz.ntmps126
    go_wp2
    go_ret
    exact ⟨rfl, rfl⟩
end Go.Proofs.YtlhemcjahcmdeaaGreatDoor
