/- The contract for spec.MergeSets. Conditions: at most 2^20 keys each. -/
import Derived.Test.YtmpgmjnagpiijaaKSetPut
namespace Go.Proofs.Ytmpgmjnagpiijaa
open Go.RowKit
set_option maxRecDepth 100000
set_option linter.unusedSimpArgs false
set_option linter.unusedVariables false

theorem merge_step {a b : List KeyD} {k : Nat} (h : k < b.length) {R : List KeyD} (hf : mergeK a (b.drop k) = R) : mergeK (putK a b[k]) (b.drop (k + 1)) = R := by
  rw [drop_at h] at hf
  exact hf
theorem Grow.reads {W wr : World} {o : Value} {m : List KeyD} (h : Grow W wr o m) : Reads wr wr.heap.size o (keysD m) := h.1.owns.reads
theorem NewK.grow {w wr w' : World} {o : Value} {m : List KeyD} (hr : RowK w' wr.heap.size o m) (hb : Below wr.heap.size wr w') (h : Below w.heap.size w wr) : Grow w w' o m := ⟨hr.mono h.size, bstep h hb⟩
set_option maxHeartbeats 1000000 in
theorem specMergeSets_any (v u : Value) (a b : List KeyD) (w : World) (hv : Reads w w.heap.size v (keysD a)) (hu : Reads w w.heap.size u (keysD b)) (hn : a.length ≤ 1048576) (hm : b.length ≤ 1048576) : Calls Try.prog 110 #[v, u] w (NewK w (mergeK a b)) := by
  obtain ⟨A, c, rfl, _, _⟩ := hv.shapeK
  obtain ⟨A', c', rfl, _, _⟩ := hu.shapeK
  obtain ⟨R, hR⟩ : ∃ R, mergeK a b = R := ⟨_, rfl⟩
  rw [hR]
  have HT := Lib.hid specSetPut_any
  unfold KeyD.v keyV at HT
  have HR := Lib.hid hR
  have HU := Lib.hid hu
  have b0 := bal1 w (.cells #[] 75)
  have HAt := Lib.hid ((hv.on b0).atK)
  have HRow := Lib.hid (RowK.lit w)
  have HB := Lib.hid b0
  have HZ := Lib.hid b0.size
  clear hv hu hR b0
  go_enter Try.func110, Try.ntmps110
  go_wp2_with (at_builtin; refine wpList_appK _ rfl (.tmp 7) (.tmp 8) rfl w.heap.size _ [] rfl HRow.out A a.length c a rfl rfl HAt.out (by simp; omega) HZ.out ?_; intro v1 w1 o1 b1; clear HRow HAt)
  have START := Lib.hid (show Grow w w1 v1 a from ⟨o1, HB.out.trans b1⟩)
  clear o1 b1 HB HZ
  go_loopw [5, 6] (fun o i wr => ∃ (k : Nat) (m : List KeyD), k ≤ b.length ∧ i = .int .i64 k ∧ Hid (m.length ≤ a.length + k) ∧ Hid (mergeK m (b.drop k) = R) ∧ Hid (Grow w wr o m)) (fun _ i _ => b.length - (intOf i).toNat)
  case atStart => exact ⟨0, a, Nat.zero_le _, rfl, Lib.hid (Nat.le_refl _), HR, START⟩
  case round =>
    clear START
    obtain ⟨k, m, hk, rfl, HM, HI, HG⟩ := hrel
    obtain ⟨Ao, co, rfl, _, _⟩ := HG.out.1.shape
    by_cases hlt : k < b.length
    · obtain ⟨bb, off, rfl, hbb, hc⟩ := (HU.out.on HG.out.2).keys hlt
      have i1 : (k : Int) < (b.length : Int) := by omega
      have i2 : (0 : Int) ≤ (k : Int) := by omega
      obtain ⟨c0, c1, c2, c3, c4⟩ := hc k hlt
      clear hc
      go_wp2_with fail
      refine (HT.out _ m b[k] _ HG.out.reads (by have := HM.out; omega)).mono ?_
      rintro r w2 ⟨v2, rfl, o2, b2⟩
      have HG2 := Lib.hid (NewK.grow o2 b2 HG.out.2)
      have HM2 := Lib.hid (show (putK m b[k]).length ≤ a.length + (k + 1) by have := putK_len m b[k]; have := HM.out; omega)
      obtain ⟨Ap, cp, rfl, _, _⟩ := o2.shape
      clear o2 b2 c0 c1 c2 c3 c4 HG
      go_wp2
      go_roundw
      case rel => exact ⟨k + 1, putK m b[k], by omega, by go_num, HM2, Lib.hid (merge_step hlt HI.out), HG2⟩
      case measure => simp [intOf]; omega
    · have e : m = R := by
        have := HI.out
        rw [List.drop_eq_nil_of_le (by omega)] at this
        exact this
      subst e
      go_wp2
      go_ret
      exact ⟨_, rfl, HG.out.1, HG.out.2⟩
end Go.Proofs.Ytmpgmjnagpiijaa
