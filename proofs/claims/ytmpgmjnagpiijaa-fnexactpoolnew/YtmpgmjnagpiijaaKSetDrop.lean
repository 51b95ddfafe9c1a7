/- Contracts for spec.SetAt, spec.Drop and impl.Drop. Conditions: at most 2^21 keys. -/
import Derived.Test.YtmpgmjnagpiijaaKSetFind
import Derived.Test.YtmpgmjnagpiijaaKSetOk
namespace Go.Proofs.Ytmpgmjnagpiijaa
open Go.RowKit
set_option maxRecDepth 100000
set_option linter.unusedSimpArgs false
set_option linter.unusedVariables false

theorem filt_yes {l m : List KeyD} {k : Nat} {p : KeyD → Bool} (h : k < l.length) (hp : p l[k] = true) {R : List KeyD} (hf : m ++ (l.drop k).filter p = R) : (m ++ [l[k]]) ++ (l.drop (k + 1)).filter p = R := by
  rw [drop_at h, List.filter_cons, hp] at hf
  simpa using hf
theorem filt_no {l m : List KeyD} {k : Nat} {p : KeyD → Bool} (h : k < l.length) (hp : p l[k] = false) {R : List KeyD} (hf : m ++ (l.drop k).filter p = R) : m ++ (l.drop (k + 1)).filter p = R := by
  rw [drop_at h, List.filter_cons, hp] at hf
  simpa using hf
/-- What a loop that appends keys to a row of its own holds on to. -/
def Grow (w wr : World) (o : Value) (m : List KeyD) : Prop := RowK wr w.heap.size o m ∧ Below w.heap.size w wr
set_option maxHeartbeats 1000000 in
theorem specDrop_any (v : Value) (l : List KeyD) (w : World) (hv : Reads w w.heap.size v (keysD l)) (hn : l.length ≤ 2097152) : Calls Try.prog 111 #[v] w (NewK w (dropK l)) := by
  obtain ⟨A, c, rfl, _, _⟩ := hv.shapeK
  obtain ⟨R, hR⟩ : ∃ R, dropK l = R := ⟨_, rfl⟩
  rw [hR]
  unfold dropK at hR
  have HR := Lib.hid hR
  have HV := Lib.hid hv
  clear hv hR
  go_enter Try.func111, Try.ntmps111
  go_wp2
  go_loopw [3, 4] (fun o i wr => ∃ (k : Nat) (m : List KeyD), k ≤ l.length ∧ i = .int .i64 k ∧ Hid (m.length ≤ k) ∧ Hid (m ++ (l.drop k).filter (fun x => x.c != 0) = R) ∧ Hid (Grow w wr o m)) (fun _ i _ => l.length - (intOf i).toNat)
  case atStart => exact ⟨0, [], Nat.zero_le _, rfl, Lib.hid (Nat.zero_le _), Lib.hid HR.out, Lib.hid ⟨RowK.lit w, bal1 _ _⟩⟩
  case round =>
    obtain ⟨k, m, hk, rfl, HM, HI, HG⟩ := hrel
    obtain ⟨hrow, hb⟩ := HG.out
    by_cases hlt : k < l.length
    · obtain ⟨b, off, rfl, hbb, hc⟩ := (HV.out.on hb).keys hlt
      have i1 : (k : Int) < (l.length : Int) := by omega
      have i2 : (0 : Int) ≤ (k : Int) := by omega
      obtain ⟨c0, c1, c2, c3, c4⟩ := hc k hlt
      clear hc
      cases hs : ((l[k]).c != 0)
      · have HS := Lib.hid hs
        clear hrow hb
        go_wp2
        go_roundw
        case rel => exact ⟨k + 1, m, by omega, by go_num, Lib.hid (Nat.le_succ_of_le HM.out), Lib.hid (filt_no (p := fun x => x.c != 0) hlt HS.out HI.out), HG⟩
        case measure => simp [intOf]; omega
      · have HS := Lib.hid hs
        have ba := bal1 wr (.cells #[.int .i64 (l[k]).a, .int .i64 (l[k]).b, .int .i64 (l[k]).c, .int .i64 (l[k]).d, .int .i64 (l[k]).e] 75)
        have HRow := Lib.hid (hrow.on ba)
        have HAt := Lib.hid (At.key wr l[k] 75)
        have HB := Lib.hid (hb.trans (ba.mono hb.size))
        obtain ⟨Ao, co, rfl, _, _⟩ := hrow.shape
        have hzz : (wr.alloc (.cells #[.int .i64 (l[k]).a, .int .i64 (l[k]).b, .int .i64 (l[k]).c, .int .i64 (l[k]).d, .int .i64 (l[k]).e] 75)).heap.size = wr.heap.size + 1 := by simp
        have HZ := Lib.hid (show w.heap.size ≤ (wr.alloc (.cells #[.int .i64 (l[k]).a, .int .i64 (l[k]).b, .int .i64 (l[k]).c, .int .i64 (l[k]).d, .int .i64 (l[k]).e] 75)).heap.size by have := hb.size; omega)
        clear hrow hb ba hzz HG
        go_wp2_with (at_builtin; refine wpList_appK _ rfl (.tmp 18) (.tmp 23) rfl w.heap.size _ m rfl HRow.out (some ⟨wr.heap.size, 0, none⟩) 1 1 [l[k]] rfl rfl HAt.out (by have := HM.out; simp; omega) HZ.out ?_; intro v1 w1 o1 b1; clear HRow HAt)
        have HG := Lib.hid (show Grow w w1 v1 (m ++ [l[k]]) from ⟨o1, HB.out.trans b1⟩)
        clear o1 b1
        go_roundw
        case rel => exact ⟨k + 1, m ++ [l[k]], by omega, by go_num, Lib.hid (by have := HM.out; simp; omega), Lib.hid (filt_yes (p := fun x => x.c != 0) hlt HS.out HI.out), HG⟩
        case measure => simp [intOf]; omega
    · have e : m = R := by
        have := HI.out
        rw [List.drop_eq_nil_of_le (by omega)] at this
        simpa using this
      subst e
      obtain ⟨Ao, co, rfl, _, _⟩ := hrow.shape
      go_wp2
      go_ret
      exact ⟨_, rfl, HG.out.1, HG.out.2⟩
theorem run_makeKeys0 (m : Nat) (hm : m ≤ 2097152) (w : World) :
    (Instr.makeSlice 115 (.int .i64 0) (.int .i64 (m : Int))).run Try.prog w = .ok (.slice (some ⟨w.heap.size, 0, none⟩) 0 m) (w.alloc (.cells (madeCells #[.int .i64 0, .int .i64 0, .int .i64 0, .int .i64 0, .int .i64 0] (m * 5)) 75)) := run_makeKeys 0 m (Nat.zero_le _) hm w
set_option maxHeartbeats 1000000 in
theorem implDrop_any (v : Value) (l : List KeyD) (w : World) (hv : Reads w w.heap.size v (keysD l)) (hn : l.length ≤ 2097152) : Calls Try.prog 115 #[v] w (NewK w (dropK l)) := by
  obtain ⟨A, c, rfl, _, _⟩ := hv.shapeK
  obtain ⟨R, hR⟩ : ∃ R, dropK l = R := ⟨_, rfl⟩
  rw [hR]
  unfold dropK at hR
  have HR := Lib.hid hR
  have HV := Lib.hid hv
  have hmk := run_makeKeys0 l.length hn
  clear hv hR
  go_enter Try.func115, Try.ntmps115
  go_wp2
  clear hmk
  go_loopw [3, 5, 11] (fun o _ i wr => ∃ (k : Nat) (m : List KeyD), k ≤ l.length ∧ i = .int .i64 k ∧ Hid (m.length ≤ k) ∧ Hid (m ++ (l.drop k).filter (fun x => x.c != 0) = R) ∧ Hid (Grow w wr o m)) (fun _ _ i _ => l.length - (intOf i).toNat)
  case atStart => exact ⟨0, [], Nat.zero_le _, rfl, Lib.hid (Nat.zero_le _), Lib.hid HR.out, Lib.hid ⟨RowK.made w l.length hn, bal1 _ _⟩⟩
  case round =>
    obtain ⟨k, m, hk, rfl, HM, HI, HG⟩ := hrel
    obtain ⟨hrow, hb⟩ := HG.out
    by_cases hlt : k < l.length
    · obtain ⟨b, off, rfl, hbb, hc⟩ := (HV.out.on hb).keys hlt
      have i1 : (k : Int) < (l.length : Int) := by omega
      have i2 : (0 : Int) ≤ (k : Int) := by omega
      obtain ⟨c0, c1, c2, c3, c4⟩ := hc k hlt
      clear hc
      have ba := bal1 wr (.cells #[.int .i64 (l[k]).a, .int .i64 (l[k]).b, .int .i64 (l[k]).c, .int .i64 (l[k]).d, .int .i64 (l[k]).e] 75)
      obtain ⟨Ao, co, rfl, _, _⟩ := hrow.shape
      have HG1 := Lib.hid (show Grow w (wr.alloc (.cells #[.int .i64 (l[k]).a, .int .i64 (l[k]).b, .int .i64 (l[k]).c, .int .i64 (l[k]).d, .int .i64 (l[k]).e] 75)) (.slice Ao m.length co) m from ⟨hrow.on ba, hb.trans (ba.mono hb.size)⟩)
      cases hs : ((l[k]).c != 0)
      · have HS := Lib.hid hs
        clear hrow hb ba
        go_wp2
        go_roundw
        case rel => exact ⟨k + 1, m, by omega, by go_num, Lib.hid (Nat.le_succ_of_le HM.out), Lib.hid (filt_no (p := fun x => x.c != 0) hlt HS.out HI.out), HG1⟩
        case measure => simp [intOf]; omega
      · have HS := Lib.hid hs
        have hat := At.key (wr.alloc (.cells #[.int .i64 (l[k]).a, .int .i64 (l[k]).b, .int .i64 (l[k]).c, .int .i64 (l[k]).d, .int .i64 (l[k]).e] 75)) l[k] 75
        simp only [World.size_alloc] at hat
        have HAt := Lib.hid hat
        have bb := bal1 (wr.alloc (.cells #[.int .i64 (l[k]).a, .int .i64 (l[k]).b, .int .i64 (l[k]).c, .int .i64 (l[k]).d, .int .i64 (l[k]).e] 75)) (.cells #[.int .i64 (l[k]).a, .int .i64 (l[k]).b, .int .i64 (l[k]).c, .int .i64 (l[k]).d, .int .i64 (l[k]).e] 75)
        have HRow := Lib.hid (HG1.out.1.on bb)
        have HB := Lib.hid (HG1.out.2.trans (bb.mono HG1.out.2.size))
        have HZ := Lib.hid HB.out.size
        clear hrow hb ba bb hat HG HG1
        go_wp2_with (at_builtin; refine wpList_appK _ rfl (.tmp 18) (.tmp 20) rfl w.heap.size _ m rfl HRow.out (some ⟨wr.heap.size + 1, 0, none⟩) 1 1 [l[k]] rfl rfl HAt.out (by have := HM.out; simp; omega) HZ.out ?_; intro v1 w1 o1 b1; clear HRow HAt)
        have HG := Lib.hid (show Grow w w1 v1 (m ++ [l[k]]) from ⟨o1, HB.out.trans b1⟩)
        clear o1 b1
        go_roundw
        case rel => exact ⟨k + 1, m ++ [l[k]], by omega, by go_num, Lib.hid (by have := HM.out; simp; omega), Lib.hid (filt_yes (p := fun x => x.c != 0) hlt HS.out HI.out), HG⟩
        case measure => simp [intOf]; omega
    · have e : m = R := by
        have := HI.out
        rw [List.drop_eq_nil_of_le (by omega)] at this
        simpa using this
      subst e
      obtain ⟨Ao, co, rfl, _, _⟩ := hrow.shape
      go_wp2
      go_ret
      exact ⟨_, rfl, HG.out.1, HG.out.2⟩
end Go.Proofs.Ytmpgmjnagpiijaa
