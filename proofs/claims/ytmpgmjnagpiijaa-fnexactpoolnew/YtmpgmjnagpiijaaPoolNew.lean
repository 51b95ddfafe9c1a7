/- Contracts of spec.PoolNew and impl.PoolNew. No condition. -/
import Derived.Test.YtmpgmjnagpiijaaPoolMark
import Derived.Test.YtmpgmjnagpiijaaCelRow
import Derived.Test.YtmpgmjnagpiijaaTreeNew
namespace Go.Proofs.Ytmpgmjnagpiijaa
open Go.RowKit
set_option maxRecDepth 100000
set_option linter.unusedSimpArgs false
set_option linter.unusedVariables false

def IsNew (d : PoolD) : Prop := d.lo = [0] ∧ d.ts = [[]] ∧ d.ag = [] ∧ d.ce = noCells ∧ d.vo = [] ∧ d.nx = 1
theorem IsNew.small {d : PoolD} (h : IsNew d) : SmallP d := by
  obtain ⟨h1, h2, h3, h4, h5, _⟩ := h
  unfold SmallP
  rw [h1, h2, h3, h4, h5]
  exact ⟨by decide, by decide, by decide, by decide⟩
def NewPx (w : World) (d : PoolD) (e : Ending) (w' : World) : Prop := ∃ t, NewP t w d e w'
set_option maxHeartbeats 1000000 in
theorem specPoolNew_any (d : PoolD) (hd : IsNew d) (w : World) : Calls Try.prog 7 #[] w (NewPx w d) := by
  obtain ⟨h1, h2, h3, h4, h5, h6⟩ := hd
  have HT := Lib.hid (specTreeNew_any)
  have HC := Lib.hid (specCellsNew_any)
  rw [← h1, ← h2] at HT
  rw [← h4] at HC
  have H3 := Lib.hid h3
  have H5 := Lib.hid h5
  have H6 := Lib.hid h6
  have Q0 := Lib.hid (al1 w (.cells #[.slice none 0 0, .slice none 0 0, .slice none 0 0, .slice none 0 0, .slice none 0 0, .int .i64 0] 30))
  have HB := Lib.hid (bal1 w (.cells #[.slice none 0 0, .slice none 0 0, .slice none 0 0, .slice none 0 0, .slice none 0 0, .int .i64 0] 30))
  have hz : Hid ((w.alloc (.cells #[.slice none 0 0, .slice none 0 0, .slice none 0 0, .slice none 0 0, .slice none 0 0, .int .i64 0] 30)).heap.size = w.heap.size + 1) := Lib.hid (by simp)
  clear h1 h2 h3 h4 h5 h6
  go_enter Try.func7, Try.ntmps7
  go_upto_region 1 with (fail)
  generalize w.alloc (.cells #[.slice none 0 0, .slice none 0 0, .slice none 0 0, .slice none 0 0, .slice none 0 0, .int .i64 0] 30) = W at *
  obtain ⟨x0, x1, x2, x3, x4, x5, x6⟩ := boxP Q0.out
  go_wp2_with fail
  refine (HT.out _).mono ?_
  rintro r w1 ⟨vl, vn, rfl, o, b⟩
  have z1 := b.size
  have OT := Lib.hid (o.lt)
  obtain ⟨A0, c0, A1, c1, rfl, rfl⟩ := o.reads.shape
  clear x0 x1 x2 x3 x4 x5 x6
  replace Q0 := Lib.hid (box_on Q0.out b)
  replace HB := Lib.hid (bstep HB.out b)
  clear o b
  obtain ⟨x0, x1, x2, x3, x4, x5, x6⟩ := boxP Q0.out
  go_wp2_with fail
  refine (HC.out _).mono ?_
  rintro r w2 ⟨vc, t, rfl, oq, b⟩
  have z2 := b.size
  have OC := Lib.hid (show Owns w2 (fun k => w1.heap.size ≤ k ∧ k < w2.heap.size) vc (celsT t d.ce) from oq)
  obtain ⟨A3, c3, rfl, _, _⟩ := OC.out.reads.lenN
  clear x0 x1 x2 x3 x4 x5 x6
  replace Q0 := Lib.hid (box_on Q0.out b)
  replace HB := Lib.hid (bstep HB.out b)
  replace OT := Lib.hid (OT.out.on b)
  have hz1 := Nat.le_of_eq hz.out
  have hz2 := Nat.le_of_eq hz.out.symm
  clear oq b
  obtain ⟨x0, x1, x2, x3, x4, x5, x6⟩ := boxP Q0.out
  go_wp2
  have HO : ∀ a0 a1 a2 a3 a4 a5, Only (Mid w.heap.size (w.heap.size + 1)) w2 ((((((w2.setCell ⟨w.heap.size, 0, none⟩ a0).setCell ⟨w.heap.size, 1, none⟩ a1).setCell ⟨w.heap.size, 2, none⟩ a2).setCell ⟨w.heap.size, 3, none⟩ a3).setCell ⟨w.heap.size, 4, none⟩ a4).setCell ⟨w.heap.size, 5, none⟩ a5) := fun a0 a1 a2 a3 a4 a5 => ((((((Only.refl _ _).setCell (.mk (by omega) (by omega)) _).setCell (.mk (by omega) (by omega)) _).setCell (.mk (by omega) (by omega)) _).setCell (.mk (by omega) (by omega)) _).setCell (.mk (by omega) (by omega)) _).setCell (.mk (by omega) (by omega)) _
  refine bodyPost_ret (v := .agg #[.slice A0 d.lo.length c0, .slice A1 d.ts.length c1, .slice none 0 0, .slice A3 d.ce.length c3, .slice none 0 0, .int .i64 1]) (by simp [results, Try.results7, go_sem, x0, x1, x2, x3, x4, x5, x6]) rfl ⟨t, _, _, _, _, _, by rw [H6.out], ⟨fun b => W.heap.size ≤ b ∧ b < w1.heap.size, fun _ => False, fun b => w1.heap.size ≤ b ∧ b < w2.heap.size, fun _ => False, fun b hb => by have := hb.1; omega, fun b hb => hb.elim, fun b hb => by have := hb.1; omega, fun b hb => hb.elim, fun b hb => ⟨fun h => h, fun h => by have := hb.2; have := h.1; omega, fun h => h⟩, fun b hb => hb.elim, fun b hb h => h, ?_, by rw [H3.out]; exact .nil _ _ _, ?_, by rw [H5.out]; exact .nil _ _ _⟩, bpast HB.out (HO _ _ _ _ _ _)⟩
  · exact OT.out.c.far (HO _ _ _ _ _ _) (fun b hb _ hb' => by have := hb'.2; have := hb.1; omega)
  · exact OC.out.far (HO _ _ _ _ _ _) (fun b hb _ hb' => by have := hb'.2; have := hb.1; omega)
set_option maxHeartbeats 1000000 in
theorem implPoolNew_any (d : PoolD) (hd : IsNew d) (w : World) : Calls Try.prog 8 #[] w (NewPx w d) := by
  obtain ⟨h1, h2, h3, h4, h5, h6⟩ := hd
  have HT := Lib.hid (implTreeNew_any)
  have HC := Lib.hid (implCellsNew_any)
  rw [← h1, ← h2] at HT
  rw [← h4] at HC
  have H3 := Lib.hid h3
  have H5 := Lib.hid h5
  have H6 := Lib.hid h6
  have Q0 := Lib.hid (al1 w (.cells #[.slice none 0 0, .slice none 0 0, .slice none 0 0, .slice none 0 0, .slice none 0 0, .int .i64 0] 30))
  have HB := Lib.hid (bal1 w (.cells #[.slice none 0 0, .slice none 0 0, .slice none 0 0, .slice none 0 0, .slice none 0 0, .int .i64 0] 30))
  have hz : Hid ((w.alloc (.cells #[.slice none 0 0, .slice none 0 0, .slice none 0 0, .slice none 0 0, .slice none 0 0, .int .i64 0] 30)).heap.size = w.heap.size + 1) := Lib.hid (by simp)
  clear h1 h2 h3 h4 h5 h6
  go_enter Try.func8, Try.ntmps8
  go_upto_region 1 with (fail)
  generalize w.alloc (.cells #[.slice none 0 0, .slice none 0 0, .slice none 0 0, .slice none 0 0, .slice none 0 0, .int .i64 0] 30) = W at *
  obtain ⟨x0, x1, x2, x3, x4, x5, x6⟩ := boxP Q0.out
  go_wp2_with fail
  refine (HT.out _).mono ?_
  rintro r w1 ⟨vl, vn, rfl, o, b⟩
  have z1 := b.size
  have OT := Lib.hid (o.lt)
  obtain ⟨A0, c0, A1, c1, rfl, rfl⟩ := o.reads.shape
  clear x0 x1 x2 x3 x4 x5 x6
  replace Q0 := Lib.hid (box_on Q0.out b)
  replace HB := Lib.hid (bstep HB.out b)
  clear o b
  obtain ⟨x0, x1, x2, x3, x4, x5, x6⟩ := boxP Q0.out
  go_wp2_with fail
  refine (HC.out _).mono ?_
  rintro r w2 ⟨vc, t, rfl, oq, b⟩
  have z2 := b.size
  have OC := Lib.hid (show Owns w2 (fun k => w1.heap.size ≤ k ∧ k < w2.heap.size) vc (celsT t d.ce) from oq)
  obtain ⟨A3, c3, rfl, _, _⟩ := OC.out.reads.lenN
  clear x0 x1 x2 x3 x4 x5 x6
  replace Q0 := Lib.hid (box_on Q0.out b)
  replace HB := Lib.hid (bstep HB.out b)
  replace OT := Lib.hid (OT.out.on b)
  have hz1 := Nat.le_of_eq hz.out
  have hz2 := Nat.le_of_eq hz.out.symm
  clear oq b
  obtain ⟨x0, x1, x2, x3, x4, x5, x6⟩ := boxP Q0.out
  go_wp2
  have HO : ∀ a0 a1 a2 a3 a4 a5, Only (Mid w.heap.size (w.heap.size + 1)) w2 ((((((w2.setCell ⟨w.heap.size, 0, none⟩ a0).setCell ⟨w.heap.size, 1, none⟩ a1).setCell ⟨w.heap.size, 2, none⟩ a2).setCell ⟨w.heap.size, 3, none⟩ a3).setCell ⟨w.heap.size, 4, none⟩ a4).setCell ⟨w.heap.size, 5, none⟩ a5) := fun a0 a1 a2 a3 a4 a5 => ((((((Only.refl _ _).setCell (.mk (by omega) (by omega)) _).setCell (.mk (by omega) (by omega)) _).setCell (.mk (by omega) (by omega)) _).setCell (.mk (by omega) (by omega)) _).setCell (.mk (by omega) (by omega)) _).setCell (.mk (by omega) (by omega)) _
  refine bodyPost_ret (v := .agg #[.slice A0 d.lo.length c0, .slice A1 d.ts.length c1, .slice none 0 0, .slice A3 d.ce.length c3, .slice none 0 0, .int .i64 1]) (by simp [results, Try.results8, go_sem, x0, x1, x2, x3, x4, x5, x6]) rfl ⟨t, _, _, _, _, _, by rw [H6.out], ⟨fun b => W.heap.size ≤ b ∧ b < w1.heap.size, fun _ => False, fun b => w1.heap.size ≤ b ∧ b < w2.heap.size, fun _ => False, fun b hb => by have := hb.1; omega, fun b hb => hb.elim, fun b hb => by have := hb.1; omega, fun b hb => hb.elim, fun b hb => ⟨fun h => h, fun h => by have := hb.2; have := h.1; omega, fun h => h⟩, fun b hb => hb.elim, fun b hb h => h, ?_, by rw [H3.out]; exact .nil _ _ _, ?_, by rw [H5.out]; exact .nil _ _ _⟩, bpast HB.out (HO _ _ _ _ _ _)⟩
  · exact OT.out.c.far (HO _ _ _ _ _ _) (fun b hb _ hb' => by have := hb'.2; have := hb.1; omega)
  · exact OC.out.far (HO _ _ _ _ _ _) (fun b hb _ hb' => by have := hb'.2; have := hb.1; omega)
end Go.Proofs.Ytmpgmjnagpiijaa
