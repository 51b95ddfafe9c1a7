/- Contracts for impl.SetPut, slices.Clone at keys and impl.MergeSets. Conditions: at most 2000000 keys (SetPut), 2^20 each (MergeSets). -/
import Derived.Test.YtkcafbdlealbpaaGreatKSetIPut
namespace Go.Proofs.YtkcafbdlealbpaaGreat
open Go.RowKit
set_option maxRecDepth 100000
set_option linter.unusedSimpArgs false
set_option linter.unusedVariables false

theorem run_items (v f : Value) (w : World) : (Instr.field 139 (.agg #[v, f]) 0).run Tryz.prog w = .ok v w := by
  simp [Instr.field, run_underlying Tryz.underlying139, part, asAgg, go_sem, isAgg, run_underlying Tryz.underlying36]
set_option maxHeartbeats 1000000 in
theorem implSetPut_any (v : Value) (l : List KeyD) (x : KeyD) (w : World) (hv : Reads w w.heap.size v (keysD l)) (hn : l.length ≤ 2000000) : Calls Tryz.prog 99 #[v, x.v] w (NewK w (putK l x)) := by
  obtain ⟨A, c, rfl, _, _⟩ := hv.shapeK
  have HK := Lib.hid (keySet_any A l.length c)
  have HP := Lib.hid (fun w => put_any (.slice A l.length c) l x w)
  unfold lessV at HK HP
  unfold KeyD.v keyV at HP
  unfold KeyD.v keyV
  generalize putK l x = R at *
  have hfi := fun v w => run_items v (.func (.func 15) #[] #[]) w
  have b0 := bal1 w (.cells #[.int .i64 x.a, .int .i64 x.b, .int .i64 x.c, .int .i64 x.d, .int .i64 x.e] 29)
  have Q0 := Lib.hid (al1 w (.cells #[.int .i64 x.a, .int .i64 x.b, .int .i64 x.c, .int .i64 x.d, .int .i64 x.e] 29))
  have HV := Lib.hid (hv.on b0)
  have HB := Lib.hid b0
  clear hv b0
  go_enter Tryz.func99, Tryz.ntmps99
  go_upto_region 1 with (fail)
  generalize w.alloc (.cells #[.int .i64 x.a, .int .i64 x.b, .int .i64 x.c, .int .i64 x.d, .int .i64 x.e] 29) = W at *
  obtain ⟨y0, y1, y2, y3, y4, y5⟩ := box5 Q0.out
  go_region_held3 (fun V => V.cell? ⟨w.heap.size, 0, none⟩ = some (.int .i64 (x).a) ∧ V.cell? ⟨w.heap.size, 0 + 1, none⟩ = some (.int .i64 (x).b) ∧ V.cell? ⟨w.heap.size, 0 + 2, none⟩ = some (.int .i64 (x).c) ∧ V.cell? ⟨w.heap.size, 0 + 3, none⟩ = some (.int .i64 (x).d) ∧ V.cell? ⟨w.heap.size, 0 + 4, none⟩ = some (.int .i64 (x).e))
    (first | with_reducible exact five_box (box_on Q0.out B9) | with_reducible exact five_box (box_on Q0.out B8) | with_reducible exact five_box (box_on Q0.out (Below.drew1 _)) | exact five_box Q0.out | fail)
    (first
      | (go_at_call 127; refine (HP.out _ (HV.out.on B8) hn).mono ?_; rintro r w9 ⟨v9, rfl, o9, b9⟩; have O9 := Lib.hid (o9.mono (base' := W.heap.size) B8.size); have B9 := bstep B8 b9; obtain ⟨A9, c9, rfl, _, _⟩ := o9.shape; clear o9)
      | (go_at_call 126; refine (HK.out _).mono ?_; rintro r w8 ⟨rfl, b8⟩; have B8 := bstep (Below.drew1 _) b8)
      | fail)
  all_goals
    clear y0 y1 y2 y3 y4 y5
    go_wp2
    go_ret
    exact ⟨_, rfl, O9.out.mono HB.out.size, bstep HB.out B9⟩
theorem cloneK_any (v : Value) (l : List KeyD) (w : World) (hv : Reads w w.heap.size v (keysD l)) (hn : l.length ≤ 2097152) : Calls Tryz.prog 123 #[v] w (NewK w l) := by
  obtain ⟨A, c, rfl, _, _⟩ := hv.shapeK
  rcases A with _ | ad
  · have h0 : l = [] := by
      rcases hv.atK with h | ⟨b, off, h, _⟩
      · have := congrArg List.length h
        rw [kvl_len] at this
        exact List.length_eq_zero_iff.1 (by simp at this; omega)
      · cases h
    subst h0
    have hq := run_eqnil (P := Tryz.prog) w 36 29 none 0 c Tryz.underlying36
    go_enter Tryz.func123, Tryz.ntmps123
    go_wp2
    go_ret
    exact ⟨_, rfl, row_nil _ _ _ _, Below.refl _ _⟩
  · have b0 := bal1 w (.cells #[] 29)
    have HAt := Lib.hid ((hv.on b0).atK)
    have HRow := Lib.hid (RowK.lit w)
    have HB := Lib.hid b0
    have HZ := Lib.hid b0.size
    have hq := run_eqnil (P := Tryz.prog) w 36 29 (some ad) l.length c Tryz.underlying36
    clear hv b0
    go_enter Tryz.func123, Tryz.ntmps123
    go_wp2_with (at_builtin; refine wpList_appK _ rfl (.tmp 5) (.tmp 6) rfl w.heap.size _ [] rfl HRow.out (some ad) l.length c l rfl rfl HAt.out (by simp; omega) HZ.out ?_; intro v1 w1 o1 b1; clear HRow HAt)
    go_ret
    exact ⟨v1, rfl, o1, HB.out.trans b1⟩
set_option maxHeartbeats 2000000 in
theorem implMergeSets_any (v u : Value) (a b : List KeyD) (w : World) (hv : Reads w w.heap.size v (keysD a)) (hu : Reads w w.heap.size u (keysD b)) (hn : a.length + b.length ≤ 1500000) : Calls Tryz.prog 112 #[v, u] w (NewK w (mergeK a b)) := by
  obtain ⟨A, c, rfl, _, _⟩ := hv.shapeK
  obtain ⟨A', c', rfl, _, _⟩ := hu.shapeK
  obtain ⟨R, hR⟩ : ∃ R, mergeK a b = R := ⟨_, rfl⟩
  rw [hR]
  have HC := Lib.hid cloneK_any
  have HK := Lib.hid keySet_any
  have HP := Lib.hid put_any
  unfold lessV at HK HP
  unfold KeyD.v keyV at HP
  have hst := store_less
  have HR := Lib.hid hR
  have HU := Lib.hid hu
  have HV := Lib.hid hv
  clear hv hu hR
  go_enter Tryz.func112, Tryz.ntmps112
  go_wp2_with fail
  refine (HC.out _ a _ HV.out (by omega)).mono ?_
  rintro r w1 ⟨v1, rfl, o1, b1⟩
  have HG1 := Lib.hid (show Grow w w1 v1 a from ⟨o1, b1⟩)
  obtain ⟨A1, c1, rfl, _, _⟩ := o1.shape
  clear o1 b1 HV
  go_wp2_with fail
  refine (HK.out _ _ _ _).mono ?_
  rintro r w2 ⟨rfl, b2⟩
  have HG2 := Lib.hid (HG1.out.on b2)
  have ba := bal1 w2 (.cells #[.slice A1 a.length c1, .func (.func 15) #[] #[]] 139)
  have START := Lib.hid (HG2.out.on ba)
  have BOX := Lib.hid (al1 w2 (.cells #[.slice A1 a.length c1, .func (.func 15) #[] #[]] 139))
  have hz2 := HG2.out.2.size
  have NEQ : Hid (∀ g, (Value.slice A1 a.length c1).ownBlock = some g → g ≠ w2.heap.size) := Lib.hid (fun g hg => by have := (HG2.out.1.lt g hg).1; omega)
  clear HG1 HG2 b2 ba
  go_wp2
  go_loopw [7, 13] (fun _ i wr => ∃ (k : Nat) (m : List KeyD) (o : Value), k ≤ b.length ∧ i = .int .i64 k ∧ Hid (m.length ≤ a.length + k) ∧ Hid (mergeK m (b.drop k) = R) ∧ Hid (Grow w wr o m) ∧ Hid (wr.heap[w2.heap.size]? = some (.cells #[o, .func (.func 15) #[] #[]] 139)) ∧ Hid (∀ g, o.ownBlock = some g → g ≠ w2.heap.size)) (fun _ i _ => b.length - (intOf i).toNat)
  case atStart => exact ⟨0, a, _, Nat.zero_le _, rfl, Lib.hid (Nat.le_refl _), HR, START, BOX, NEQ⟩
  case round =>
    clear START BOX NEQ
    obtain ⟨k, m, o, hk, rfl, HM, HI, HG, BOX, NEQ⟩ := hrel
    obtain ⟨Ao, co, rfl, _, _⟩ := HG.out.1.shape
    have hzw : w2.heap.size < wr.heap.size := (Array.getElem?_eq_some_iff.1 BOX.out).1
    by_cases hlt : k < b.length
    · obtain ⟨bb, off, rfl, hbb, hc⟩ := (HU.out.on HG.out.2).keys hlt
      have i1 : (k : Int) < (b.length : Int) := by omega
      have i2 : (0 : Int) ≤ (k : Int) := by omega
      obtain ⟨c0, c1, c2, c3, c4⟩ := hc k hlt
      have ba := bal1 wr (.cells #[.int .i64 (b[k]).a, .int .i64 (b[k]).b, .int .i64 (b[k]).c, .int .i64 (b[k]).d, .int .i64 (b[k]).e] 29)
      have HGa := Lib.hid (HG.out.on ba)
      have BOXa := Lib.hid (box_on BOX.out ba)
      have hza : (wr.alloc (.cells #[.int .i64 (b[k]).a, .int .i64 (b[k]).b, .int .i64 (b[k]).c, .int .i64 (b[k]).d, .int .i64 (b[k]).e] 29)).heap.size = wr.heap.size + 1 := by simp
      obtain ⟨x0, x1, x2⟩ := box2 BOXa.out
      have HZa := Lib.hid hza
      clear hc ba hza
      go_wp2_with fail
      refine (HP.out _ m b[k] _ HGa.out.reads (by have := HM.out; omega)).mono ?_
      rintro r w5 ⟨v5, rfl, o5, b5⟩
      have bx := box_on BOXa.out b5
      rw [HZa.out] at o5
      have hb5 := bstep HGa.out.2 b5
      have HM2 := Lib.hid (show (putK m b[k]).length ≤ a.length + (k + 1) by have := putK_len m b[k]; have := HM.out; omega)
      obtain ⟨A5, c5, rfl, _, _⟩ := o5.shape
      have NEQ5 : Hid (∀ g, (Value.slice A5 (putK m b[k]).length c5).ownBlock = some g → g ≠ w2.heap.size) := Lib.hid (fun g hg => by have := (o5.lt g hg).2; omega)
      have HG5 := Lib.hid (show Grow w ((w5.setCell ⟨w2.heap.size, 0, none⟩ (.slice A5 (putK m b[k]).length c5)).setCell ⟨w2.heap.size, 1, none⟩ (.func (.func 15) #[] #[])) (.slice A5 (putK m b[k]).length c5) (putK m b[k]) from ⟨((o5.set (by omega)).set (by omega)).mono (by have := HG.out.2.size; omega), (hb5.setCell (p := ⟨w2.heap.size, 0, none⟩) hz2 _).setCell (p := ⟨w2.heap.size, 1, none⟩) hz2 _⟩)
      have BOX5 := Lib.hid (box_set (i := 1) (u := .func (.func 15) #[] #[]) (box_set (i := 0) (u := .slice A5 (putK m b[k]).length c5) bx))
      clear x0 x1 x2 c0 c1 c2 c3 c4
      obtain ⟨x0, x1, x2⟩ := box2 bx
      clear o5 b5 bx hb5 HGa HG BOXa BOX NEQ
      go_wp2
      go_roundw
      case rel => exact ⟨k + 1, putK m b[k], _, by omega, by go_num, HM2, Lib.hid (merge_step hlt HI.out), HG5, BOX5, NEQ5⟩
      case measure => simp [intOf]; omega
    · have e : m = R := by
        have := HI.out
        rw [List.drop_eq_nil_of_le (by omega)] at this
        exact this
      subst e
      obtain ⟨x0, x1, x2⟩ := box2 BOX.out
      go_wp2
      go_ret
      exact ⟨_, rfl, HG.out.1, HG.out.2⟩
end Go.Proofs.YtkcafbdlealbpaaGreat
