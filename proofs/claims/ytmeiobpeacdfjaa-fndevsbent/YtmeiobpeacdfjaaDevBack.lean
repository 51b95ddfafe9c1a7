/- The contract of the closure that slices.Backward returns over the cached writes: they come in descending order, or some of them if a round says so. Conditions: at most 2^20 writes. -/
import Derived.Test.YtmeiobpeacdfjaaDevRead
namespace Go.Proofs.Ytmeiobpeacdfjaa
open Go.RowKit Go.Shelf
set_option maxRecDepth 100000
set_option linter.unusedSimpArgs false
set_option linter.unusedVariables false
attribute [local go_sem] Oper.semAt_some

/-- The first j numbers below m, from above. -/
def downL (m j : Nat) : List (Fin m) := (List.range j).filterMap (fun i => if h : m - 1 - i < m then some ⟨m - 1 - i, h⟩ else none)
theorem downL_zero (m : Nat) : downL m 0 = [] := rfl
theorem downL_succ {m j : Nat} (h : m - 1 - j < m) : downL m (j + 1) = downL m j ++ [⟨m - 1 - j, h⟩] := by
  unfold downL
  rw [List.range_succ, List.filterMap_append]
  simp [h]
theorem downL_length {m : Nat} : ∀ j, j ≤ m → (downL m j).length = j := by
  intro j
  induction j with
  | zero => intro _; rfl
  | succ j ih =>
    intro hj
    rw [downL_succ (by omega), List.length_append, ih (by omega)]
    rfl
theorem mem_downL {m j : Nat} {x : Fin m} (h : x ∈ downL m j) : m - j ≤ x.val := by
  unfold downL at h
  simp only [List.mem_filterMap, List.mem_range] at h
  obtain ⟨i, hi, he⟩ := h
  split at he
  · simp at he; subst he; simp; omega
  · cases he
theorem downL_mem {m j : Nat} {x : Fin m} (h : m - j ≤ x.val) (hj : j ≤ m) : x ∈ downL m j := by
  unfold downL
  simp only [List.mem_filterMap, List.mem_range]
  refine ⟨m - 1 - x.val, by have := x.isLt; omega, ?_⟩
  have h1 : m - 1 - (m - 1 - x.val) = x.val := by have := x.isLt; omega
  have := x.isLt
  rw [dif_pos (by omega)]
  simp only [h1]
/-- The cells of the cached writes lie below n₀. -/
def AtB (W : World) (n₀ : Nat) (A : Option Addr) (zs : List Value) : Prop := zs = [] ∨ ∃ b off, A = some ⟨b, off, none⟩ ∧ b < n₀ ∧ ∀ i (h : i < zs.length), W.cell? ⟨b, off + i, none⟩ = some zs[i]
def WrV (zs : List Value) (ps : List (Int × List UInt8)) : Prop := zs.length = ps.length * 2 ∧ ∀ k (h : k < ps.length), ∃ (A : Option Addr) (c : Nat), zs[k * 2]? = some (.int .i64 (ps[k]).1) ∧ zs[k * 2 + 1]? = some (.slice A (ps[k]).2.length c) ∧ valOf zs k = .agg #[.int .i64 (ps[k]).1, .slice A (ps[k]).2.length c]
set_option maxHeartbeats 2000000 in
theorem back1_in (F : Fence) (nn : Nat) (hf : F.fn 88) (hro : F.round = none) (hn : 1 ≤ nn) (l Bs n₀ : Nat) (A1 : Option Addr) (c1 : Nat) (zs : List Value) (ps : List (Int × List UInt8)) (hm : ps.length ≤ 1048576) (hBn : Bs < n₀) (J Jx : List (Fin ps.length) → World → Prop)
    (hY : ∀ pre (x : Fin ps.length) W, J pre W → pre.length < ps.length → YieldAt F (nn - 1) Try.prog l #[.int .i64 (x.val : Int), valOf zs x.val] W fun e W' =>
      (e = .returned (.bool true) ∧ J (pre ++ [x]) W' ∧ Below n₀ W W') ∨ (e = .returned (.bool false) ∧ Jx (pre ++ [x]) W'))
    (W : World) (hBs : W.cell? ⟨Bs, 0, none⟩ = some (.slice A1 ps.length c1)) (hA : AtB W n₀ A1 zs) (hz : WrV zs ps) (h0 : J [] W) :
    CallsIn F nn Try.prog 88 #[.func (.yield l) #[] #[], .pointer (some ⟨Bs, 0, none⟩)] W fun e W' => (∃ v, e = .returned v) ∧
      ((∃ ys, ys = downL ps.length ps.length ∧ J ys W') ∨ (∃ pre, (∃ j, j ≤ ps.length ∧ pre = downL ps.length j) ∧ Jx pre W')) := by
  refine callsIn_of_wp Try.func88 rfl hf ?_ hro
  simp only [Try.ntmps88, List.size_toArray, List.length_cons, List.length_nil, Nat.reduceAdd, Nat.reduceSub, Array.replicate_succ, Array.replicate_zero, List.push_toArray, List.append_toArray, List.nil_append, List.cons_append]
  have HZ := Lib.hid hz
  have HA := Lib.hid hA
  clear hz hA
  gi_wp2
  gi_loopw [3] (fun i wr => ∃ r : Nat, r ≤ ps.length ∧ i = .int .i64 ((r : Int) - 1) ∧ Hid (J (downL ps.length (ps.length - r)) wr) ∧ Hid (Below n₀ W wr)) (fun i _ => (intOf i + 1).toNat)
  case atStart => exact ⟨ps.length, Nat.le_refl _, rfl, Lib.hid (by rw [Nat.sub_self]; exact h0), Lib.hid (Below.refl _ _)⟩
  case round =>
    obtain ⟨r, hr, rfl, HJ, HX⟩ := hrel
    have hB2 : wr.cell? ⟨Bs, 0, none⟩ = some (.slice A1 ps.length c1) := (HX.out.cell (p := ⟨Bs, 0, none⟩) hBn).trans hBs
    rcases Nat.eq_zero_or_pos r with rfl | hpos
    · have t0 : decide ((0 : Int) ≤ ((0 : Nat) : Int) - 1) = false := by decide
      gi_wp2
      go_end0
      exact ⟨⟨_, rfl⟩, .inl ⟨_, rfl, by have h := HJ.out; rw [Nat.sub_zero] at h; exact h⟩⟩
    · obtain ⟨k, rfl⟩ : ∃ k, r = k + 1 := ⟨r - 1, by omega⟩
      have hkm : k < ps.length := by omega
      have e1 : ((k + 1 : Nat) : Int) - 1 = (k : Int) := by omega
      rw [e1]
      obtain ⟨A, c, e2, e3, hv⟩ := HZ.out.2 k hkm
      have hzl := HZ.out.1
      obtain ⟨b, off, rfl, hb, hc⟩ : ∃ b off, A1 = some ⟨b, off, none⟩ ∧ b < n₀ ∧ ∀ i (h : i < zs.length), W.cell? ⟨b, off + i, none⟩ = some zs[i] := by
        rcases HA.out with h | h
        · rw [h] at hzl; simp at hzl; omega
        · exact h
      have y0 : wr.cell? ⟨b, off + k * 2, none⟩ = some (.int .i64 (ps[k]).1) := by
        have h := hc (k * 2) (by omega)
        rw [List.getElem?_eq_getElem (by omega)] at e2
        exact (HX.out.cell (p := ⟨b, off + k * 2, none⟩) hb).trans (by rw [h, Option.some.inj e2])
      have y1 : wr.cell? ⟨b, off + k * 2 + 1, none⟩ = some (.slice A (ps[k]).2.length c) := by
        have h := hc (k * 2 + 1) (by omega)
        rw [List.getElem?_eq_getElem (by omega)] at e3
        exact (HX.out.cell (p := ⟨b, off + k * 2 + 1, none⟩) hb).trans (by rw [Nat.add_assoc, h, Option.some.inj e3])
      obtain ⟨fn, tmps, assign, body, hy, hR⟩ := hY _ ⟨k, hkm⟩ wr HJ.out (by rw [downL_length _ (by omega)]; omega)
      dsimp only at hy
      rw [hv] at hy
      have hd : ps.length - 1 - (ps.length - (k + 1)) = k := by omega
      have hdl : downL ps.length (ps.length - k) = downL ps.length (ps.length - (k + 1)) ++ [⟨k, hkm⟩] := by
        have h := downL_succ (m := ps.length) (j := ps.length - (k + 1)) (by omega)
        rw [show ps.length - (k + 1) + 1 = ps.length - k by omega] at h
        rw [h]
        congr 2
        exact Fin.ext hd
      have HD := Lib.hid hdl
      have i2 : (k : Int) < (ps.length : Int) := by omega
      have i3 : (0 : Int) ≤ (k : Int) := by omega
      clear hc e2 e3 hv hdl hd hzl e1 hpos
      gi_wp2
      refine hR.mono ?_
      rintro e W3 (⟨rfl, hJ3, hk3⟩ | ⟨rfl, hJx3⟩)
      · gi_wp2
        go_roundw
        case rel => exact ⟨k, by omega, by go_num, Lib.hid (by rw [HD.out]; exact hJ3), Lib.hid (HX.out.trans hk3)⟩
        case measure => simp [intOf]
      · gi_wp2
        refine bodyPost_ret (results_none rfl _ _ _) rfl ?_
        exact ⟨⟨_, rfl⟩, .inr ⟨_, ⟨ps.length - k, by omega, HD.out.symm⟩, hJx3⟩⟩
theorem back_in (F : Fence) (nn : Nat) (hf : F.fn 63) (hro : F.round = none) (a : Option Addr) (len cap : Nat) (w : World) :
    CallsIn F nn Try.prog 63 #[.slice a len cap] w fun e w' => e = .returned (.func (.func 88) #[] #[.pointer (some ⟨w.heap.size, 0, none⟩)]) ∧ w' = w.alloc (.cells #[.slice a len cap] 25) := by
  refine callsIn_of_wp Try.func63 rfl hf ?_ hro
  simp only [Try.ntmps63, List.size_toArray, List.length_cons, List.length_nil, Nat.reduceAdd, Nat.reduceSub, Array.replicate_succ, Array.replicate_zero, List.push_toArray, List.append_toArray, List.nil_append, List.cons_append]
  gi_wp2
  go_ret
  exact ⟨rfl, rfl⟩
theorem AtB.below {W W' : World} {n₀ : Nat} {A : Option Addr} {zs : List Value} (h : AtB W n₀ A zs) (hb : Below n₀ W W') : AtB W' n₀ A zs := by
  rcases h with h | ⟨b, off, h1, h2, h3⟩
  · exact .inl h
  · exact .inr ⟨b, off, h1, h2, fun i hi => (hb.cell (p := ⟨b, off + i, none⟩) h2).trans (h3 i hi)⟩
theorem back_stops (F : Fence) (nn : Nat) (hf : F.fn 88) (hro : F.round = none) (hn : 1 ≤ nn) (Bs n₀ : Nat) (A1 : Option Addr) (c1 : Nat) (zs : List Value) (ps : List (Int × List UInt8)) (hm : ps.length ≤ 1048576) (hBn : Bs < n₀) (w : World) (hn₀ : n₀ ≤ w.heap.size)
    (hc : w.cell? ⟨Bs, 0, none⟩ = some (.slice A1 ps.length c1)) (hA : AtB w n₀ A1 zs) (hz : WrV zs ps) :
    SeqStopsK F nn Try.prog 88 #[.pointer (some ⟨Bs, 0, none⟩)] (fun x : Fin ps.length => #[Value.int .i64 (x.val : Int), valOf zs x.val]) (Below n₀) (fun ys => ys = downL ps.length ps.length) (fun pre => ∃ j, j ≤ ps.length ∧ pre = downL ps.length j) ps.length w := fun l J Jx W hW _ _ hY h0 =>
  back1_in F nn hf hro hn l Bs n₀ A1 c1 zs ps hm hBn J Jx hY W ((hW.cell (p := ⟨Bs, 0, none⟩) (show Bs < w.heap.size by omega)).trans hc) (hA.below (hW.mono hn₀)) hz h0
end Go.Proofs.Ytmeiobpeacdfjaa
