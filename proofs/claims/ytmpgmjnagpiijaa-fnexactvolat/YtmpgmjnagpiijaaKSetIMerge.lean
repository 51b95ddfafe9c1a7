/- Contracts for impl.SetPut, slices.Clone at keys and impl.MergeSets. Conditions: at most 2000000 keys (SetPut), 2^20 each (MergeSets). -/
import Derived.Test.YtmpgmjnagpiijaaKSetIPut
namespace Go.Proofs.Ytmpgmjnagpiijaa
open Go.RowKit
set_option maxRecDepth 100000
set_option linter.unusedSimpArgs false
set_option linter.unusedVariables false

theorem run_items (v f : Value) (w : World) : (Instr.field 157 (.agg #[v, f]) 0).run Try.prog w = .ok v w := by
  simp [Instr.field, run_underlying Try.underlying157, part, asAgg, go_sem, isAgg, run_underlying Try.underlying115]
theorem cloneK_any (v : Value) (l : List KeyD) (w : World) (hv : Reads w w.heap.size v (keysD l)) (hn : l.length ≤ 2097152) : Calls Try.prog 76 #[v] w (NewK w l) := by
  obtain ⟨A, c, rfl, _, _⟩ := hv.shapeK
  rcases A with _ | ad
  · have h0 : l = [] := by
      rcases hv.atK with h | ⟨b, off, h, _⟩
      · have := congrArg List.length h
        rw [kvl_len] at this
        exact List.length_eq_zero_iff.1 (by simp at this; omega)
      · cases h
    subst h0
    have hq := run_eqnil (P := Try.prog) w 115 75 none 0 c Try.underlying115
    go_enter Try.func76, Try.ntmps76
    go_wp2
    go_ret
    exact ⟨_, rfl, row_nil _ _ _ _, Below.refl _ _⟩
  · have b0 := bal1 w (.cells #[] 75)
    have HAt := Lib.hid ((hv.on b0).atK)
    have HRow := Lib.hid (RowK.lit w)
    have HB := Lib.hid b0
    have HZ := Lib.hid b0.size
    have hq := run_eqnil (P := Try.prog) w 115 75 (some ad) l.length c Try.underlying115
    clear hv b0
    go_enter Try.func76, Try.ntmps76
    go_wp2_with (at_builtin; refine wpList_appK _ rfl (.tmp 5) (.tmp 6) rfl w.heap.size _ [] rfl HRow.out (some ad) l.length c l rfl rfl HAt.out (by simp; omega) HZ.out ?_; intro v1 w1 o1 b1; clear HRow HAt)
    go_ret
    exact ⟨v1, rfl, o1, HB.out.trans b1⟩
set_option maxHeartbeats 2000000 in
theorem implMergeSets_any (v u : Value) (a b : List KeyD) (w : World) (hv : Reads w w.heap.size v (keysD a)) (hu : Reads w w.heap.size u (keysD b)) (hn : a.length + b.length ≤ 1500000) : Calls Try.prog 116 #[v, u] w (NewK w (mergeK a b)) := by
  obtain ⟨A, c, rfl, _, _⟩ := hv.shapeK
  obtain ⟨A', c', rfl, _, _⟩ := hu.shapeK
  obtain ⟨R, hR⟩ : ∃ R, mergeK a b = R := ⟨_, rfl⟩
  rw [hR]
  have HC := Lib.hid cloneK_any
  have HK := Lib.hid keySet_any
  have HP := Lib.hid put_any
  unfold lessV at HK HP
  unfold KeyD.v keyV at HP
  have hst := store_less
  have HR := Lib.hid hR
  have HU := Lib.hid hu
  have HV := Lib.hid hv
  clear hv hu hR
  go_enter Try.func116, Try.ntmps116
  go_wp2_with fail
  refine (HC.out _ a _ HV.out (by omega)).mono ?_
  rintro r w1 ⟨v1, rfl, o1, b1⟩
  have HG1 := Lib.hid (show Grow w w1 v1 a from ⟨o1, b1⟩)
  obtain ⟨A1, c1, rfl, _, _⟩ := o1.shape
  clear o1 b1 HV
  go_wp2_with fail
  refine (HK.out _ _ _ _).mono ?_
  rintro r w2 ⟨rfl, b2⟩
  have HG2 := Lib.hid (HG1.out.on b2)
  have ba := bal1 w2 (.cells #[.slice A1 a.length c1, .func (.func 125) #[] #[]] 157)
  have START := Lib.hid (HG2.out.on ba)
  have BOX := Lib.hid (al1 w2 (.cells #[.slice A1 a.length c1, .func (.func 125) #[] #[]] 157))
  have hz2 := HG2.out.2.size
  have NEQ : Hid (∀ g, (Value.slice A1 a.length c1).ownBlock = some g → g ≠ w2.heap.size) := Lib.hid (fun g hg => by have := (HG2.out.1.lt g hg).1; omega)
  clear HG1 HG2 b2 ba
  go_wp2
  go_loopw [7, 13] (fun _ i wr => ∃ (k : Nat) (m : List KeyD) (o : Value), k ≤ b.length ∧ i = .int .i64 k ∧ Hid (m.length ≤ a.length + k) ∧ Hid (mergeK m (b.drop k) = R) ∧ Hid (Grow w wr o m) ∧ Hid (wr.heap[w2.heap.size]? = some (.cells #[o, .func (.func 125) #[] #[]] 157)) ∧ Hid (∀ g, o.ownBlock = some g → g ≠ w2.heap.size)) (fun _ i _ => b.length - (intOf i).toNat)
  case atStart => exact ⟨0, a, _, Nat.zero_le _, rfl, Lib.hid (Nat.le_refl _), HR, START, BOX, NEQ⟩
  case round =>
    clear START BOX NEQ
    obtain ⟨k, m, o, hk, rfl, HM, HI, HG, BOX, NEQ⟩ := hrel
    obtain ⟨Ao, co, rfl, _, _⟩ := HG.out.1.shape
    have hzw : w2.heap.size < wr.heap.size := (Array.getElem?_eq_some_iff.1 BOX.out).1
    by_cases hlt : k < b.length
    · obtain ⟨bb, off, rfl, hbb, hc⟩ := (HU.out.on HG.out.2).keys hlt
      have i1 : (k : Int) < (b.length : Int) := by omega
      have i2 : (0 : Int) ≤ (k : Int) := by omega
      obtain ⟨c0, c1, c2, c3, c4⟩ := hc k hlt
      have ba := bal1 wr (.cells #[.int .i64 (b[k]).a, .int .i64 (b[k]).b, .int .i64 (b[k]).c, .int .i64 (b[k]).d, .int .i64 (b[k]).e] 75)
      have HGa := Lib.hid (HG.out.on ba)
      have BOXa := Lib.hid (box_on BOX.out ba)
      have hza : (wr.alloc (.cells #[.int .i64 (b[k]).a, .int .i64 (b[k]).b, .int .i64 (b[k]).c, .int .i64 (b[k]).d, .int .i64 (b[k]).e] 75)).heap.size = wr.heap.size + 1 := by simp
      obtain ⟨x0, x1, x2⟩ := box2 BOXa.out
      have HZa := Lib.hid hza
      clear hc ba hza
      go_wp2_with fail
      refine (HP.out _ m b[k] _ HGa.out.reads (by have := HM.out; omega)).mono ?_
      rintro r w5 ⟨v5, rfl, o5, b5⟩
      have bx := box_on BOXa.out b5
      rw [HZa.out] at o5
      have hb5 := bstep HGa.out.2 b5
      have HM2 := Lib.hid (show (putK m b[k]).length ≤ a.length + (k + 1) by have := putK_len m b[k]; have := HM.out; omega)
      obtain ⟨A5, c5, rfl, _, _⟩ := o5.shape
      have NEQ5 : Hid (∀ g, (Value.slice A5 (putK m b[k]).length c5).ownBlock = some g → g ≠ w2.heap.size) := Lib.hid (fun g hg => by have := (o5.lt g hg).2; omega)
      have HG5 := Lib.hid (show Grow w ((w5.setCell ⟨w2.heap.size, 0, none⟩ (.slice A5 (putK m b[k]).length c5)).setCell ⟨w2.heap.size, 1, none⟩ (.func (.func 125) #[] #[])) (.slice A5 (putK m b[k]).length c5) (putK m b[k]) from ⟨((o5.set (by omega)).set (by omega)).mono (by have := HG.out.2.size; omega), (hb5.setCell (p := ⟨w2.heap.size, 0, none⟩) hz2 _).setCell (p := ⟨w2.heap.size, 1, none⟩) hz2 _⟩)
      have BOX5 := Lib.hid (box_set (i := 1) (u := .func (.func 125) #[] #[]) (box_set (i := 0) (u := .slice A5 (putK m b[k]).length c5) bx))
      clear x0 x1 x2 c0 c1 c2 c3 c4
      obtain ⟨x0, x1, x2⟩ := box2 bx
      clear o5 b5 bx hb5 HGa HG BOXa BOX NEQ
      go_wp2
      go_roundw
      case rel => exact ⟨k + 1, putK m b[k], _, by omega, by go_num, HM2, Lib.hid (merge_step hlt HI.out), HG5, BOX5, NEQ5⟩
      case measure => simp [intOf]; omega
    · have e : m = R := by
        have := HI.out
        rw [List.drop_eq_nil_of_le (by omega)] at this
        exact this
      subst e
      obtain ⟨x0, x1, x2⟩ := box2 BOX.out
      go_wp2
      go_ret
      exact ⟨_, rfl, HG.out.1, HG.out.2⟩
end Go.Proofs.Ytmpgmjnagpiijaa
