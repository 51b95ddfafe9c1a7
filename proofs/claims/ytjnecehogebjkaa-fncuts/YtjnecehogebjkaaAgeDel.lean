/- The contract for slices.Delete at versions, one element of a row of the call's own. Conditions: at most 2^21 versions. -/
import Derived.Test.YtjnecehogebjkaaAgeNew
import Derived.Deep.RegionLaw
import Derived.Lib.SliceRun
namespace Go.Proofs.Ytjnecehogebjkaa
open Go.RowKit
set_option maxRecDepth 100000
set_option linter.unusedSimpArgs false
set_option linter.unusedVariables false

def layA : Array Value → Nat → List Value → Array Value
  | a, _, [] => a
  | a, o, v :: r => layA (a.setIfInBounds o v) (o + 1) r
theorem layA_size (vs : List Value) : ∀ (a : Array Value) (o : Nat), (layA a o vs).size = a.size := by
  induction vs with
  | nil => intro a o; rfl
  | cons v r ih => intro a o; rw [layA, ih]; simp
theorem layA_list (vs : List Value) : ∀ (a : Array Value) (o : Nat), o + vs.length ≤ a.size → (layA a o vs).toList = a.toList.take o ++ (vs ++ a.toList.drop (o + vs.length)) := by
  induction vs with
  | nil => intro a o h; simp [layA]
  | cons v r ih =>
    intro a o h
    simp only [List.length_cons] at h
    rw [layA, ih _ _ (by simp; omega), Array.toList_setIfInBounds, List.take_succ_eq_append_getElem (by simp; omega), List.take_set_of_le (Nat.le_refl _), List.getElem_set_self, List.drop_set_of_lt (by omega)]
    simp only [List.length_cons, List.append_assoc, List.singleton_append, List.cons_append, List.nil_append]
    rw [show o + 1 + r.length = o + (r.length + 1) by omega]
theorem heap_lay (g : Nat) (t : TypeId) (vs : List Value) : ∀ (w : World) (a : Array Value) (o : Nat), w.heap[g]? = some (.cells a t (0, 0)) → (w.setCells g o vs).heap[g]? = some (.cells (layA a o vs) t (0, 0)) := by
  induction vs with
  | nil => intro w a o h; exact h
  | cons v r ih => intro w a o h; exact ih _ _ _ (heap_setCell_same w g o a _ _ h)
theorem below_lay {B g : Nat} (hg : B ≤ g) (vs : List Value) : ∀ (a w : World) (o : Nat), Below B a w → Below B a (w.setCells g o vs) := by
  induction vs with
  | nil => intro a w o h; exact h
  | cons v r ih => intro a w o h; exact ih _ _ _ (h.setCell (p := ⟨g, o, none⟩) hg _)
/-- clear of one version. -/
theorem clear_one (W : World) (g o c : Nat) (ty : TypeId) (cur : Array Value) (e : TypeId) (hh : W.heap[g]? = some (.cells cur e (0, 0))) (ho : o + 2 ≤ cur.size) :
    (Builtin.clear_ #[24] ty #[.slice (some ⟨g, o, none⟩) 1 c]).run Try.prog W = .ok (.tuple #[]) (W.setCells g o [.int .i64 0, .int .i64 0]) := by
  obtain ⟨i, hi, h0, h1, h2⟩ := info_parts age_info
  have hst := run_storeCells_cells (P := Try.prog) g o [.int .i64 0, .int .i64 0] 0 W (fun j hj => by
    simp only [List.length_cons, List.length_nil] at hj
    rw [cell_of_row W g _ cur e (0, 0) hh, Array.getElem?_eq_getElem (by omega)]; rfl) (fun j hj => frozen_of_row W g _ cur e hh) (by intro v hv; simp at hv; subst hv; rfl)
  simp only [Nat.add_zero] at hst
  have hz : (Builtin.zeroCells (Value.agg #[.int .i64 0, .int .i64 0]).cells 1).toList = [.int .i64 0, .int .i64 0] := by kernel_rfl
  simp [Builtin.clear_, run_underlying Try.underlying24, zeroValue, typeInfo, hi, h0, hz, hst]
theorem gvl_take (l : List AgeD) (N : Nat) : (gvl l).take (N * 2) = gvl (l.take N) := by
  by_cases h : N ≤ l.length
  · have he : gvl l = gvl (l.take N) ++ gvl (l.drop N) := by rw [← gvl_append, List.take_append_drop]
    have hl : (gvl (l.take N)).length = N * 2 := by rw [gvl_len]; simp; omega
    rw [he, ← hl, List.take_left']
    rfl
  · rw [List.take_of_length_le (by rw [gvl_len]; omega), List.take_of_length_le (by omega)]
set_option maxHeartbeats 4000000 in
theorem deleteG_any (v : Value) (l : List AgeD) (N base : Nat) (w : World) (hv : RowG w base v l) (hb : base ≤ w.heap.size) (hN : N < l.length) (hn : l.length ≤ 2097152) :
    Calls Try.prog 45 #[v, .int .i64 (N : Int), .int .i64 ((N : Int) + 1)] w fun e w' => ∃ v', e = .returned v' ∧ RowG w' base v' (l.eraseIdx N) ∧ Below base w w' := by
  rcases row_cases hv with ⟨_, h, _⟩ | ⟨g, cap, rfl, hbg, ⟨cur, hh, hsz, hx⟩, hcap, hmax, hlen⟩
  · omega
  · obtain ⟨M, hM⟩ : ∃ M, l.length = N + 1 + M := ⟨l.length - (N + 1), by omega⟩
    obtain ⟨news, hnews⟩ : ∃ news, news = gvl (l.drop (N + 1)) := ⟨_, rfl⟩
    have hnl : news.length = M * 2 := by rw [hnews, gvl_len, List.length_drop]; omega
    have hin : ∀ j, j < M * 2 → cur.toList[(N + 1) * 2 + j]? = news[j]? := by
      intro j hj
      have h1 : cur.toList[(N + 1) * 2 + j]? = (gvl l)[(N + 1) * 2 + j]? := by
        rw [← hx, List.getElem?_take_of_lt (by omega)]
      have he : gvl l = gvl (l.take (N + 1)) ++ gvl (l.drop (N + 1)) := by rw [← gvl_append, List.take_append_drop]
      have hl2 : (gvl (l.take (N + 1))).length = (N + 1) * 2 := by rw [gvl_len, List.length_take]; omega
      rw [h1, he, List.getElem?_append_right (by omega), hnews, hl2, Nat.add_sub_cancel_left]
    obtain ⟨A, hA, hsrc⟩ : ∃ A : Addr, (if cap = N + 1 then some (⟨g, 0, none⟩ : Addr) else some ⟨g, (N + 1) * 2, none⟩) = some A ∧ Hid (∀ t u, news[t]? = some u → w.drew.cell? (A.add t) = some u) := by
      by_cases h : cap = N + 1
      · refine ⟨⟨g, 0, none⟩, by simp [h], Lib.hid (fun t u hu => ?_)⟩
        have h0 : news.length = 0 := by omega
        rw [List.length_eq_zero_iff.1 h0] at hu
        simp at hu
      · refine ⟨⟨g, (N + 1) * 2, none⟩, by simp [h], Lib.hid (fun t u hu => ?_)⟩
        have ht : t < M * 2 := by
          have := (List.getElem?_eq_some_iff.1 hu).1
          omega
        rw [Addr.add_lit]
        show w.cell? ⟨g, (N + 1) * 2 + t, none⟩ = some u
        rw [cell_of_row w g _ cur _ (0, 0) hh, ← Array.getElem?_toList, hin t ht]
        exact hu
    have s1 : Hid (news.length = M * 2) := Lib.hid hnl
    have s2 : Hid (∀ u ∈ news, u.oneCell' = true) := Lib.hid (by rw [hnews]; exact gvl_cells _)
    have hcs : cap * 2 = cur.size := hsz.symm
    have s3 : Hid (∀ t, t < news.length → (w.drew.cell? ⟨g, 0 + N * 2 + t, none⟩).isSome = true ∧ w.drew.frozen? ⟨g, 0 + N * 2 + t, none⟩ = false) := Lib.hid (fun t ht => by
      refine ⟨?_, frozen_of_row w g _ cur _ hh⟩
      show (w.cell? _).isSome = true
      rw [cell_of_row w g _ cur _ (0, 0) hh, Array.getElem?_eq_getElem (by omega)]
      rfl)
    obtain ⟨W1, hW1⟩ : ∃ W1, W1 = w.drew.setCells g (0 + N * 2) news := ⟨_, rfl⟩
    have hh1 : W1.heap[g]? = some (.cells (layA cur (0 + N * 2) news) 39 (0, 0)) := by rw [hW1]; exact heap_lay g _ news _ _ _ hh
    have hb1 : Below base w W1 := by rw [hW1]; exact below_lay hbg _ _ _ _ ((Below.drew1 w).mono hb)
    have hsz1 : (layA cur (0 + N * 2) news).size = cap * 2 := by rw [layA_size]; exact hsz
    have hcl : ∀ ty c, (Builtin.clear_ #[24] ty #[.slice (some ⟨g, (N + M) * 2, none⟩) 1 c]).run Try.prog W1 = .ok (.tuple #[]) (W1.setCells g ((N + M) * 2) [.int .i64 0, .int .i64 0]) := fun ty c => clear_one W1 g _ c ty _ _ hh1 (by rw [hsz1]; omega)
    have FIN : Hid (RowG (W1.setCells g ((N + M) * 2) [.int .i64 0, .int .i64 0]) base (.slice (some ⟨g, 0, none⟩) (N + M) cap) (l.eraseIdx N) ∧ Below base w (W1.setCells g ((N + M) * 2) [.int .i64 0, .int .i64 0])) := by
      refine Lib.hid ⟨?_, below_lay hbg _ _ _ _ hb1⟩
      have he : l.eraseIdx N = l.take N ++ l.drop (N + 1) := List.eraseIdx_eq_take_drop_succ l N
      have hel : (l.eraseIdx N).length = N + M := by rw [List.length_eraseIdx_of_lt hN]; omega
      refine ⟨by rw [gvl_len], .inr ⟨g, cap, _, by rw [hel], hbg, heap_lay g _ _ _ _ _ hh1, by omega, hmax, by rw [layA_size]; exact hsz1, ?_⟩⟩
      rw [hel, layA_list _ _ _ (by rw [hsz1]; simp; omega), List.take_append_of_le_length (by rw [List.length_take, Array.length_toList, hsz1]; omega), List.take_take, Nat.min_self, layA_list _ _ _ (by omega), Nat.zero_add, he, gvl_append, ← hnews]
      have hc1 : cur.toList.take (N * 2) = gvl (l.take N) := by
        rw [← gvl_take, ← hx, List.take_take, show min (N * 2) (l.length * 2) = N * 2 by omega]
      rw [hc1, ← List.append_assoc, List.take_append_of_le_length (by rw [List.length_append, gvl_len, List.length_take, hnl]; omega), List.take_of_length_le (by rw [List.length_append, gvl_len, List.length_take, hnl]; omega)]
    have hW : Hid (W1 = w.drew.setCells g (0 + N * 2) news) := Lib.hid hW1
    have hic : N ≤ cap := by omega
    have hjc : N + 1 ≤ cap := by omega
    have HL := Lib.hid hM
    have j0 : (0 : Int) ≤ (N : Int) + 1 := by omega
    have j1 : (N : Int) + 1 ≤ (N : Int) + 1 + (M : Int) := by omega
    have j2 : (N : Int) + (M : Int) ≤ (N : Int) + 1 + (M : Int) := by omega
    have j3 : (0 : Int) ≤ (N : Int) + (M : Int) := by omega
    have j4 : N + 1 + M - (N + M) = 1 := by omega
    have j5 : (N : Int) + 1 + (M : Int) ≤ (cap : Int) := by omega
    have j6 : ¬ cap = N + M := by omega
    obtain ⟨i0, hi0, _, hz1, _⟩ := info_parts age_info
    clear hW1 hh1 hb1 hsz1 hh hin hnews hnl hx hsz hv hlen
    rw [hM] at hN hcap hn ⊢
    clear hM
    go_enter Try.func45, Try.ntmps45
    go_wp2_with fail
    go_region_law (refine step_append_room rfl (.tmp 22) (.tmp 25) 24 rfl 39 i0 2 Try.underlying24 hi0 hz1 g 0 N cap (by simp [Act.eval, Act.put]) A M (cap - (N + 1)) news (by simp [Act.eval, Act.put]) s1.out hsrc.out s2.out (by omega) s3.out ?_; rw [← hW.out])
    go_wp2
    go_ret
    exact ⟨_, rfl, FIN.out.1, FIN.out.2⟩
end Go.Proofs.Ytjnecehogebjkaa
