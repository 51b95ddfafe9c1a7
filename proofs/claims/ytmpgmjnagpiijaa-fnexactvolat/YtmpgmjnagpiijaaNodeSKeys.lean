/- Contracts for spec.NodeAt, spec.NodeKeys, spec.NodeNew, spec.NodePack. Conditions: at most 1048576 sets and keys. -/
import Derived.Test.YtmpgmjnagpiijaaNodeOk
import Derived.Test.YtmpgmjnagpiijaaKSetMerge
namespace Go.Proofs.Ytmpgmjnagpiijaa
open Go.RowKit
set_option maxRecDepth 100000
set_option linter.unusedSimpArgs false
set_option linter.unusedVariables false

theorem fold_take {ns : List (List KeyD)} {k : Nat} (h : k < ns.length) : (ns.take (k + 1)).foldl mergeK [] = mergeK ((ns.take k).foldl mergeK []) ns[k] := by
  rw [List.take_succ_eq_append_getElem h, List.foldl_append]
  rfl
theorem fold_take_len (ns : List (List KeyD)) (k : Nat) : ((ns.take k).foldl mergeK []).length ≤ sumN ns := by
  have h1 := fold_len (ns.take k) []
  have h2 := sumN_take_le ns k
  simp only [List.length_nil] at h1
  omega
set_option maxHeartbeats 1000000 in
theorem specNodeKeys_any (v : Value) (ns : List (List KeyD)) (w : World) (hv : Reads w w.heap.size v (setsD ns)) (h1 : ns.length ≤ 1048576) (h2 : sumN ns ≤ 1048576) : Calls Try.prog 104 #[.agg #[v]] w (NewK w (nodeKeysK ns)) := by
  obtain ⟨A, c, rfl, _, _⟩ := hv.lenN
  have B0 := bal1 w (.cells #[.slice A ns.length c] 87)
  have HB := Lib.hid B0
  have Q0 := Lib.hid (al1 w (.cells #[.slice A ns.length c] 87))
  have HV := Lib.hid (hv.on B0)
  have hnk : nodeKeysK ns = dropK ((ns.take ns.length).foldl mergeK []) := by rw [List.take_length]; rfl
  rw [hnk]
  clear hv B0 hnk
  go_enter Try.func104, Try.ntmps104
  go_upto_region 1 with (fail)
  generalize w.alloc (.cells #[.slice A ns.length c] 87) = W at *
  have START := Lib.hid (show Grow W (W.alloc (.cells #[] 75)) (.slice (some ⟨W.heap.size, 0, none⟩) 0 0) [] from ⟨RowK.lit W, bal1 _ _⟩)
  go_wp2
  go_loopw [3, 4] (fun o i wr => ∃ (k : Nat) (m : List KeyD), k ≤ ns.length ∧ i = .int .i64 k ∧ Hid (m = (ns.take k).foldl mergeK []) ∧ Hid (Grow W wr o m)) (fun _ i _ => ns.length - (intOf i).toNat)
  case atStart => exact ⟨0, [], Nat.zero_le _, rfl, Lib.hid rfl, START⟩
  case round =>
    clear START
    obtain ⟨k, m, hk, rfl, HM, HG⟩ := hrel
    obtain ⟨Ao, co, rfl, _, _⟩ := HG.out.1.shape
    obtain ⟨x0, x1⟩ := box1N (box_on Q0.out HG.out.2)
    have hm : m.length ≤ 1048576 := by rw [HM.out]; exact Nat.le_trans (fold_take_len ns k) h2
    by_cases hlt : k < ns.length
    · obtain ⟨b, off, rfl, hbb, hc⟩ := (HV.out.on HG.out.2).set hlt
      obtain ⟨A1, d1, c1, _, _, r1⟩ := hc k hlt
      have hl := Nat.le_trans (sumN_mem (List.getElem_mem hlt)) h2
      have R1 := Lib.hid r1
      have i1 : (k : Int) < (ns.length : Int) := by omega
      have i2 : (0 : Int) ≤ (k : Int) := by omega
      clear hc r1
      go_wp2_with fail
      refine (specMergeSets_any _ _ m ns[k] _ HG.out.reads R1.out hm hl).mono ?_
      rintro r w1 ⟨v1, rfl, o1, b1⟩
      have HG1 := Lib.hid (NewK.grow o1 b1 HG.out.2)
      have HM1 := Lib.hid (show mergeK m ns[k] = (ns.take (k + 1)).foldl mergeK [] by rw [fold_take hlt, HM.out])
      clear o1 b1 x0 x1 c1
      go_wp2
      go_roundw
      case rel => exact ⟨k + 1, _, by omega, by go_num, HM1, HG1⟩
      case measure => simp [intOf]; omega
    · have e : k = ns.length := by omega
      subst e
      go_wp2_with fail
      refine (specDrop_any _ m _ HG.out.reads (by omega)).mono ?_
      rintro r w1 ⟨v1, rfl, o1, b1⟩
      rw [HM.out] at o1
      have O1 := Lib.hid (o1.mono (Nat.le_trans HB.out.size HG.out.2.size))
      have B1 := Lib.hid (bstep (bstep HB.out HG.out.2) b1)
      clear o1 b1 x0 x1
      go_wp2
      go_ret
      exact ⟨_, rfl, O1.out, B1.out⟩
theorem Owns.wrap {w : World} {base : Nat} {v : Value} {l : List KeyD} (h : Owns w (fun b => base ≤ b) v (keysD l)) (hb : base ≤ w.heap.size) : Owns (w.alloc (.cells #[v] 115)) (fun b => base ≤ b) (.slice (some ⟨w.heap.size, 0, none⟩) 1 1) (setsD [l]) := by
  have h2 : Owns (w.alloc (.cells #[v] 115)) (fun b => base ≤ b ∧ b ≠ w.heap.size) v (keysD l) := (h.lt.keep (fun b _ hl => (bal1 w (.cells #[v] 115)).block b hl)).mono (fun b hb => ⟨hb.1, by omega⟩)
  exact OwnsL.row (S := fun b => base ≤ b) (cs := [keysD l]) (xs := [v]) hb (heap_alloc_new w _) (Nat.le_refl _) (by unfold maxLen; omega) rfl rfl rfl (.one h2)
theorem Owns.setFar {w : World} {S : Nat → Prop} {v u : Value} {c : Dat} {g j : Nat} (h : Owns w S v c) (hg : ¬ S g) : Owns (w.setCell ⟨g, j, none⟩ u) S v c := h.keep (fun b hb _ => Below.heap_setCell _ _ _ _ (fun e => hg (by have e' : b = g := e; rw [← e']; exact hb)))
theorem len0K (l : List KeyD) (h : l.length = 0) : nodeNewK l = [] := by simp [nodeNewK, h]
theorem lenpK (l : List KeyD) (h : ¬ l.length = 0) : nodeNewK l = [l] := by simp only [nodeNewK, h, if_false]
end Go.Proofs.Ytmpgmjnagpiijaa
