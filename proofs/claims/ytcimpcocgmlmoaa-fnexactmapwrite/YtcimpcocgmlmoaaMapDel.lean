/- The contract for slices.Delete at Maps, one element of a row of the call's own. Conditions: at most 1100000 Maps. -/
import Derived.Test.YtcimpcocgmlmoaaMapPut
import Derived.Deep.RegionLaw
import Derived.Lib.SliceRun
namespace Go.Proofs.Ytcimpcocgmlmoaa
open Go.RowKit
set_option maxRecDepth 100000
set_option linter.unusedSimpArgs false
set_option linter.unusedVariables false

theorem only_layM {g : Nat} (vs : List Value) : ∀ (a w : World) (o : Nat), Only (fun b => b = g) a w → Only (fun b => b = g) a (w.setCells g o vs) := by
  induction vs with
  | nil => intro a w o h; exact h
  | cons v r ih => intro a w o h; exact ih _ _ _ (h.setCell rfl _)
/-- clear of one Map. -/
theorem clear_oneM (W : World) (g o c : Nat) (ty : TypeId) (cur : Array Value) (e : TypeId) (hh : W.heap[g]? = some (.cells cur e (0, 0))) (ho : o + 3 ≤ cur.size) :
    (Builtin.clear_ #[32] ty #[.slice (some ⟨g, o, none⟩) 1 c]).run Try.prog W = .ok (.tuple #[]) (W.setCells g o [.string ⟨#[]⟩, .bool false, .slice none 0 0]) := by
  obtain ⟨i, hi, h0, h1, h2⟩ := info_parts map_info
  have hst := run_storeCells_cells (P := Try.prog) g o [.string ⟨#[]⟩, .bool false, .slice none 0 0] 0 W (fun j hj => by
    simp only [List.length_cons, List.length_nil] at hj
    rw [cell_of_row W g _ cur e (0, 0) hh, Array.getElem?_eq_getElem (by omega)]; rfl) (fun j hj => frozen_of_row W g _ cur e hh) (by intro v hv; simp at hv; rcases hv with rfl | rfl | rfl <;> rfl)
  simp only [Nat.add_zero] at hst
  have hz : (Builtin.zeroCells (Value.agg #[.string ⟨#[]⟩, .bool false, .slice none 0 0]).cells 1).toList = [.string ⟨#[]⟩, .bool false, .slice none 0 0] := by kernel_rfl
  simp [Builtin.clear_, run_underlying Try.underlying32, zeroValue, typeInfo, hi, h0, hz, hst]
theorem mvl_split {l : List MapD} {us : List Value} (h : us.length = l.length) (k : Nat) : mvl l us = mvl (l.take k) (us.take k) ++ mvl (l.drop k) (us.drop k) := by
  rw [← mvl_append (by simp [h]), List.take_append_drop, List.take_append_drop]
theorem OwnsL.erase {w : World} {S : Nat → Prop} {us : List Value} {l : List MapD} (k : Nat) (h : OwnsL w S us (l.map mapI)) : OwnsL w S (us.eraseIdx k) ((l.eraseIdx k).map mapI) := by
  induction l generalizing us S k with
  | nil =>
    have : us = [] := List.length_eq_zero_iff.1 h.1
    subst this
    exact h
  | cons a l ih =>
    obtain ⟨v, us', P, Q, rfl, h0, h1, hP, hQ, hpq⟩ := OwnsL.uncons h
    cases k with
    | zero => exact h1.mono hQ
    | succ k => exact OwnsL.cons h0 (ih k h1) hP hQ hpq
set_option maxHeartbeats 4000000 in
theorem deleteM_any (g cap N : Nat) (l : List MapD) (us : List Value) (w : World) (hR : Rw w g 53 3 l.length cap (mvl l us)) (hu : us.length = l.length) (hone : ∀ u ∈ us, u.oneCell' = true) (hcap : l.length ≤ cap) (hmax : cap ≤ maxLen) (hN : N < l.length) (hn : l.length ≤ 1100000) :
    Calls Try.prog 61 #[.slice (some ⟨g, 0, none⟩) l.length cap, .int .i64 (N : Int), .int .i64 ((N : Int) + 1)] w fun e w' => e = .returned (.slice (some ⟨g, 0, none⟩) (l.length - 1) cap) ∧ Rw w' g 53 3 (l.length - 1) cap (mvl (l.eraseIdx N) (us.eraseIdx N)) ∧ Only (fun b => b = g) w w' := by
  obtain ⟨cur, hh, hsz, hx⟩ := hR
  obtain ⟨M, hM⟩ : ∃ M, l.length = N + 1 + M := ⟨l.length - (N + 1), by omega⟩
  obtain ⟨news, hnews⟩ : ∃ news, news = mvl (l.drop (N + 1)) (us.drop (N + 1)) := ⟨_, rfl⟩
  have hnl : news.length = M * 3 := by rw [hnews, mvl_len (by simp [hu]), List.length_drop]; omega
  have hll := mvl_len hu
  have hin : ∀ j, j < M * 3 → cur.toList[(N + 1) * 3 + j]? = news[j]? := by
    intro j hj
    have h1 : cur.toList[(N + 1) * 3 + j]? = (mvl l us)[(N + 1) * 3 + j]? := by
      rw [← hx, List.getElem?_take_of_lt (by omega)]
    have hl2 : (mvl (l.take (N + 1)) (us.take (N + 1))).length = (N + 1) * 3 := by rw [mvl_len (by simp [hu]), List.length_take]; omega
    rw [h1, mvl_split hu (N + 1), List.getElem?_append_right (by omega), hnews, hl2, Nat.add_sub_cancel_left]
  obtain ⟨A, hA, hsrc⟩ : ∃ A : Addr, (if cap = N + 1 then some (⟨g, 0, none⟩ : Addr) else some ⟨g, (N + 1) * 3, none⟩) = some A ∧ Hid (∀ t u, news[t]? = some u → w.drew.cell? (A.add t) = some u) := by
    by_cases h : cap = N + 1
    · refine ⟨⟨g, 0, none⟩, by simp [h], Lib.hid (fun t u hu => ?_)⟩
      have h0 : news.length = 0 := by omega
      rw [List.length_eq_zero_iff.1 h0] at hu
      simp at hu
    · refine ⟨⟨g, (N + 1) * 3, none⟩, by simp [h], Lib.hid (fun t u hu => ?_)⟩
      have ht : t < M * 3 := by
        have := (List.getElem?_eq_some_iff.1 hu).1
        omega
      rw [Addr.add_lit]
      show w.cell? ⟨g, (N + 1) * 3 + t, none⟩ = some u
      rw [cell_of_row w g _ cur _ (0, 0) hh, ← Array.getElem?_toList, hin t ht]
      exact hu
  have s1 : Hid (news.length = M * 3) := Lib.hid hnl
  have s2 : Hid (∀ u ∈ news, u.oneCell' = true) := Lib.hid (by rw [hnews]; exact mvl_cells (fun u hu => hone u (List.mem_of_mem_drop hu)))
  have hcs : cap * 3 = cur.size := hsz.symm
  have s3 : Hid (∀ t, t < news.length → (w.drew.cell? ⟨g, 0 + N * 3 + t, none⟩).isSome = true ∧ w.drew.frozen? ⟨g, 0 + N * 3 + t, none⟩ = false) := Lib.hid (fun t ht => by
    refine ⟨?_, frozen_of_row w g _ cur _ hh⟩
    show (w.cell? _).isSome = true
    rw [cell_of_row w g _ cur _ (0, 0) hh, Array.getElem?_eq_getElem (by omega)]
    rfl)
  obtain ⟨W1, hW1⟩ : ∃ W1, W1 = w.drew.setCells g (0 + N * 3) news := ⟨_, rfl⟩
  have hh1 : W1.heap[g]? = some (.cells (layA cur (0 + N * 3) news) 53 (0, 0)) := by rw [hW1]; exact heap_lay g _ news _ _ _ hh
  have hb1 : Only (fun b => b = g) w W1 := by rw [hW1]; exact only_layM _ _ _ _ ((Only.refl _ w).drewN 1)
  have hsz1 : (layA cur (0 + N * 3) news).size = cap * 3 := by rw [layA_size]; exact hsz
  have hcl : ∀ ty c, (Builtin.clear_ #[32] ty #[.slice (some ⟨g, (N + M) * 3, none⟩) 1 c]).run Try.prog W1 = .ok (.tuple #[]) (W1.setCells g ((N + M) * 3) [.string ⟨#[]⟩, .bool false, .slice none 0 0]) := fun ty c => clear_oneM W1 g _ c ty _ _ hh1 (by rw [hsz1]; omega)
  have FIN : Hid (Rw (W1.setCells g ((N + M) * 3) [.string ⟨#[]⟩, .bool false, .slice none 0 0]) g 53 3 (N + M) cap (mvl (l.eraseIdx N) (us.eraseIdx N)) ∧ Only (fun b => b = g) w (W1.setCells g ((N + M) * 3) [.string ⟨#[]⟩, .bool false, .slice none 0 0])) := by
    refine Lib.hid ⟨?_, only_layM _ _ _ _ hb1⟩
    have he : l.eraseIdx N = l.take N ++ l.drop (N + 1) := List.eraseIdx_eq_take_drop_succ l N
    have hue : us.eraseIdx N = us.take N ++ us.drop (N + 1) := List.eraseIdx_eq_take_drop_succ us N
    have hul : (us.take N).length = (l.take N).length := by simp [hu]
    have hl1 : (mvl (l.take N) (us.take N)).length = N * 3 := by rw [mvl_len hul, List.length_take]; omega
    refine ⟨_, heap_lay g _ _ _ _ _ hh1, by rw [layA_size]; exact hsz1, ?_⟩
    rw [layA_list _ _ _ (by rw [hsz1]; simp; omega), List.take_append_of_le_length (by rw [List.length_take, Array.length_toList, hsz1]; omega), List.take_take, Nat.min_self, layA_list _ _ _ (by omega), Nat.zero_add, he, hue, mvl_append hul, ← hnews]
    have hc1 : cur.toList.take (N * 3) = mvl (l.take N) (us.take N) := by
      have h2 := congrArg (List.take (N * 3)) hx
      rw [List.take_take, show min (N * 3) (l.length * 3) = N * 3 by omega] at h2
      rw [h2, mvl_split hu N, ← hl1, List.take_left']
      rfl
    rw [hc1, ← List.append_assoc, List.take_append_of_le_length (by rw [List.length_append, hl1, hnl]; omega), List.take_of_length_le (by rw [List.length_append, hl1, hnl]; omega)]
  have hW : Hid (W1 = w.drew.setCells g (0 + N * 3) news) := Lib.hid hW1
  have hic : N ≤ cap := by omega
  have hjc : N + 1 ≤ cap := by omega
  have HL := Lib.hid hM
  have j0 : (0 : Int) ≤ (N : Int) + 1 := by omega
  have j1 : (N : Int) + 1 ≤ (N : Int) + 1 + (M : Int) := by omega
  have j2 : (N : Int) + (M : Int) ≤ (N : Int) + 1 + (M : Int) := by omega
  have j3 : (0 : Int) ≤ (N : Int) + (M : Int) := by omega
  have j4 : N + 1 + M - (N + M) = 1 := by omega
  have j5 : (N : Int) + 1 + (M : Int) ≤ (cap : Int) := by omega
  have j6 : ¬ cap = N + M := by omega
  have j7 : N + 1 + M - 1 = N + M := by omega
  obtain ⟨i0, hi0, _, hz1, _⟩ := info_parts map_info
  clear hW1 hh1 hb1 hsz1 hh hin hnews hnl hx hsz hll hu hone
  rw [hM] at hN hcap hn ⊢
  rw [j7]
  clear hM
  go_enter Try.func61, Try.ntmps61
  go_wp2_with fail
  go_region_law (refine step_append_room rfl (.tmp 22) (.tmp 25) 32 rfl 53 i0 3 Try.underlying32 hi0 hz1 g 0 N cap (by simp [Act.eval, Act.put]) A M (cap - (N + 1)) news (by simp [Act.eval, Act.put]) s1.out hsrc.out s2.out (by omega) s3.out ?_; rw [← hW.out])
  go_wp2
  go_ret
  exact ⟨rfl, FIN.out.1, FIN.out.2⟩
end Go.Proofs.Ytcimpcocgmlmoaa
