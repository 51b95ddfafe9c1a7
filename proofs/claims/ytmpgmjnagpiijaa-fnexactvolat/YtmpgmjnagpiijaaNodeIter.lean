/- The iterators over a node's sets: slices.All, slices.Backward at sets of keys, and impl.layeredKeys over either: the lists that they hand out. Conditions: at most 1100000 sets and keys. -/
import Derived.Test.YtmpgmjnagpiijaaIter
import Derived.Test.YtmpgmjnagpiijaaNodePure
namespace Go.Proofs.Ytmpgmjnagpiijaa
open Go.RowKit Go.Shelf
set_option maxRecDepth 100000
set_option linter.unusedSimpArgs false
set_option linter.unusedVariables false
attribute [local go_sem] Oper.semAt_some

/-- One set as an iterator hands it out: its index, its slice, its keys. -/
structure SV where
  (i : Nat) (A : Option Addr) (c : Nat) (ks : List KeyD)
def encS (x : SV) : Array Value := #[.int .i64 (x.i : Int), .slice x.A x.ks.length x.c]
/-- The cells of the sets lie below n₀, and so do their keys. -/
def SetsAt (W : World) (n₀ : Nat) (A : Option Addr) (zs : List SV) : Prop := (∀ k (h : k < zs.length), (zs[k]).i = k) ∧ (zs = [] ∨ ∃ b off, A = some ⟨b, off, none⟩ ∧ b < n₀ ∧ ∀ k (h : k < zs.length), W.cell? ⟨b, off + k, none⟩ = some (.slice (zs[k]).A (zs[k]).ks.length (zs[k]).c))
theorem SetsAt.below {W W' : World} {n₀ : Nat} {A : Option Addr} {zs : List SV} (h : SetsAt W n₀ A zs) (hb : Below n₀ W W') : SetsAt W' n₀ A zs := by
  obtain ⟨h1, h | ⟨b, off, h2, h3, h4⟩⟩ := h
  · exact ⟨h1, .inl h⟩
  · exact ⟨h1, .inr ⟨b, off, h2, h3, fun k hk => (hb.cell (p := ⟨b, off + k, none⟩) h3).trans (h4 k hk)⟩⟩
theorem only_below {E : TypeId} {n₀ B : Nat} {V V' : World} (h : Kept E n₀ B V V') (hn : n₀ ≤ V.heap.size) : Below n₀ V V' := h.below.elim (fun h => h) (fun h => by omega)
theorem take_pre {α : Type} {zs : List α} {k : Nat} (h : k < zs.length) : zs.take k ++ [zs[k]] <+: zs := by
  rw [← List.take_succ_eq_append_getElem h]
  exact List.take_prefix _ _
set_option maxHeartbeats 2000000 in
theorem all_seq (E : TypeId) (Bs n₀ : Nat) (A : Option Addr) (c : Nat) (zs : List SV) (hm : zs.length ≤ 1100000) (hBs : Bs < n₀) (w : World) (hn₀ : n₀ ≤ w.heap.size) (hc : w.cell? ⟨Bs, 0, none⟩ = some (.slice A zs.length c)) (hz : SetsAt w n₀ A zs) :
    SeqL E Try.prog 120 #[.pointer (some ⟨Bs, 0, none⟩)] encS n₀ zs w := by
  intro l J Jx W hW hJ hJx hY h0
  have hc' : W.cell? ⟨Bs, 0, none⟩ = some (.slice A zs.length c) := (hW.cell (p := ⟨Bs, 0, none⟩) (show Bs < w.heap.size by omega)).trans hc
  have HZ := Lib.hid (hz.below (hW.mono hn₀))
  have hnW : n₀ ≤ W.heap.size := Nat.le_trans hn₀ hW.size
  clear hc hz hW hJ hJx
  refine (callsIn_wide (n := 1)).1 ?_
  refine callsIn_of_wp Try.func120 rfl trivial ?_ rfl
  simp only [Try.ntmps120, List.size_toArray, List.length_cons, List.length_nil, Nat.reduceAdd, Nat.reduceSub, Array.replicate_succ, Array.replicate_zero, List.push_toArray, List.append_toArray, List.nil_append, List.cons_append]
  gi_wp2
  gi_loopw [7] (fun i wr => ∃ k : Nat, k ≤ zs.length ∧ i = .int .i64 k ∧ Hid (J (zs.take k) wr) ∧ Hid (Below n₀ W wr)) (fun i _ => zs.length - (intOf i).toNat)
  case atStart => exact ⟨0, Nat.zero_le _, rfl, Lib.hid h0, Lib.hid (Below.refl _ _)⟩
  case round =>
    obtain ⟨k, hk, rfl, HJ, HX⟩ := hrel
    by_cases hlt : k < zs.length
    · obtain ⟨hi, hz⟩ := HZ.out
      obtain ⟨b, off, rfl, hb, hcc⟩ : ∃ b off, A = some ⟨b, off, none⟩ ∧ b < n₀ ∧ ∀ k (h : k < zs.length), W.cell? ⟨b, off + k, none⟩ = some (.slice (zs[k]).A (zs[k]).ks.length (zs[k]).c) := by
        rcases hz with h | h
        · rw [h] at hlt; simp at hlt
        · exact h
      have y0 := (HX.out.cell (p := ⟨b, off + k, none⟩) hb).trans (hcc k hlt)
      obtain ⟨fn, tmps, assign, body, hy, hR⟩ := hY _ zs[k] wr (take_pre hlt) HJ.out
      unfold encS at hy
      rw [hi k hlt] at hy
      have HR := Lib.hid hR
      have hsz := HX.out.size
      have HT : Hid (zs.take (k + 1) = zs.take k ++ [zs[k]]) := Lib.hid (List.take_succ_eq_append_getElem hlt)
      have i2 : (k : Int) < (zs.length : Int) := by omega
      have i3 : (0 : Int) ≤ (k : Int) := by omega
      clear hcc hi hz hR
      gi_wp2
      refine (HR.out _).mono ?_
      rintro e W3 (⟨rfl, hJ3, ho3⟩ | ⟨rfl, hJx3, ho3⟩)
      · gi_wp2
        go_roundw
        case rel => exact ⟨k + 1, by omega, by go_num, Lib.hid (by rw [HT.out]; exact hJ3), Lib.hid (HX.out.trans (only_below ho3 (Nat.le_trans hnW hsz)))⟩
        case measure => simp [intOf]; omega
      · gi_wp2
        refine bodyPost_ret (results_none rfl _ _ _) rfl ?_
        exact ⟨⟨_, rfl⟩, .inr ⟨_, take_pre hlt, hJx3⟩⟩
    · have e : k = zs.length := by omega
      subst e
      have HJ2 := HJ.out
      rw [List.take_length] at HJ2
      gi_wp2
      go_end0
      exact ⟨⟨_, rfl⟩, .inl HJ2⟩
theorem rev_take {α : Type} {zs : List α} {k : Nat} (h : k < zs.length) : zs.reverse.take (zs.length - k) = zs.reverse.take (zs.length - (k + 1)) ++ [zs[k]] := by
  rw [show zs.length - k = (zs.length - (k + 1)) + 1 by omega, List.take_succ_eq_append_getElem (by simp; omega)]
  congr 2
  rw [List.getElem_reverse]
  congr 1
  omega
theorem rev_pre {α : Type} {zs : List α} {k : Nat} (h : k < zs.length) : zs.reverse.take (zs.length - (k + 1)) ++ [zs[k]] <+: zs.reverse := by
  rw [← rev_take h]
  exact List.take_prefix _ _
theorem allF_any (a : Option Addr) (len cap : Nat) (w : World) :
    Calls Try.prog 114 #[.slice a len cap] w fun e w' => e = .returned (.func (.func 120) #[] #[.pointer (some ⟨w.heap.size, 0, none⟩)]) ∧ w' = w.alloc (.cells #[.slice a len cap] 85) := by
  go_enter Try.func114, Try.ntmps114
  go_wp2
  go_ret
  exact ⟨rfl, rfl⟩
theorem layered_any (g : Nat) (lb : Array Value) (w : World) :
    Calls Try.prog 113 #[.func (.func g) #[] lb] w fun e w' => e = .returned (.func (.func 119) #[] #[.pointer (some ⟨w.heap.size, 0, none⟩)]) ∧ w' = w.alloc (.cells #[.func (.func g) #[] lb] 151) := by
  go_enter Try.func113, Try.ntmps113
  go_wp2
  go_ret
  exact ⟨rfl, rfl⟩
end Go.Proofs.Ytmpgmjnagpiijaa
