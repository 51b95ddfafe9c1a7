/- Contracts of impl.pendingWrites and impl.settle. Conditions: no slice holds more than 2^20 elements; every pending write goes to a sector that exists. -/
import Derived.Test.YtmeiobpeacdfjaaDevNew
import Derived.Test.YtmeiobpeacdfjaaIntMap
namespace Go.Proofs.Ytmeiobpeacdfjaa
open Go.RowKit
set_option maxRecDepth 100000
set_option linter.unusedSimpArgs false
set_option linter.unusedVariables false

def valOf (zs : List Value) (i : Nat) : Value := .agg #[zs.getD (i * 2) undef, zs.getD (i * 2 + 1) undef]
theorem wr_cells {w : World} {B : Nat} {zs : List Value} {ps : List (Int × List UInt8)} (h : ReadsL w B zs (ps.flatMap wrC)) {i : Nat} (hi : i < ps.length) :
    ∃ (A : Option Addr) (c : Nat), zs[i * 2]? = some (.int .i64 (ps[i]).1) ∧ zs[i * 2 + 1]? = some (.slice A (ps[i]).2.length c) ∧ Reads w B (.slice A (ps[i]).2.length c) (bytesD (ps[i]).2) ∧ valOf zs i = .agg #[.int .i64 (ps[i]).1, .slice A (ps[i]).2.length c] := by
  have hl : zs.length = ps.length * 2 := by rw [h.1, cache_len]
  have r0 := h.2 (i * 2) (by omega) (by rw [cache_len]; omega)
  have r1 := h.2 (i * 2 + 1) (by omega) (by rw [cache_len]; omega)
  rw [cache_get0 _ _ hi] at r0
  rw [cache_get' _ _ hi] at r1
  have e0 : zs[i * 2]? = some (zs[i * 2]'(by omega)) := List.getElem?_eq_getElem _
  have e1 : zs[i * 2 + 1]? = some (zs[i * 2 + 1]'(by omega)) := List.getElem?_eq_getElem _
  generalize zs[i * 2]'(by omega) = y0 at r0 e0
  generalize zs[i * 2 + 1]'(by omega) = y1 at r1 e1
  cases r0
  obtain ⟨A, c, rfl, _, _⟩ := r1.len
  exact ⟨A, c, e0, e1, r1, by simp [valOf, List.getD_eq_getElem?_getD, e0, e1]⟩
theorem run_makeMapN {P : Program} {t k e : TypeId} (ht : P.underlying t = some (.map k e)) (n : Nat) (w : World) : (Instr.makeMap t (some (.int .i64 (n : Int)))).run P w = .ok (.map (some w.heap.size)) (w.alloc (.map #[] 0)) := by
  simp [Instr.makeMap, run_underlying ht, asInt, asIntOf]
def Pend (w : World) (n : Nat) (zs : List Value) (e : Ending) (w' : World) : Prop := ∃ b, e = .returned (.map (some b)) ∧ w.heap.size ≤ b ∧ MapIs w' b (List.range n) (valOf zs) ∧ Below w.heap.size w w'
theorem pendingWrites_any (A0 A1 : Option Addr) (n0 c0 c1 : Nat) (f : Int) (dn : Bool) (ps : List (Int × List UInt8)) (zs : List Value) (w : World) (hA : At w A1 zs) (hz : ReadsL w w.heap.size zs (ps.flatMap wrC)) (hn : ps.length ≤ 1048576) :
    Calls Try.prog 70 #[.agg #[.slice A0 n0 c0, .slice A1 ps.length c1, .int .i64 f, .bool dn]] w (Pend w ps.length zs) := by
  have hmm := run_makeMapN (P := Try.prog) Try.underlying88 ps.length
  have HZ := Lib.hid hz
  have HA := Lib.hid hA
  have HB := Lib.hid (bal2 w (.cells #[.slice A0 n0 c0, .slice A1 ps.length c1, .int .i64 f, .bool dn] 27) (.map #[] 0))
  have HM : Hid (MapIs _ _ [] (valOf zs)) := Lib.hid (MapIs.made (w.alloc (.cells #[.slice A0 n0 c0, .slice A1 ps.length c1, .int .i64 f, .bool dn] 27)) (valOf zs))
  clear hA hz
  go_enter Try.func70, Try.ntmps70
  simp only [World.size_alloc] at HM
  go_wp2
  go_loopw [4, 5, 13] (fun _ _ i wr => ∃ k : Nat, k ≤ ps.length ∧ i = .int .i64 k ∧ Hid (MapIs wr (w.heap.size + 1) (List.range k) (valOf zs)) ∧ Below w.heap.size w wr) (fun _ _ i _ => ps.length - (intOf i).toNat)
  case atStart => exact ⟨0, Nat.zero_le _, rfl, HM, HB.out⟩
  case round =>
    obtain ⟨k, hk, rfl, HM2, hb⟩ := hrel
    by_cases hlt : k < ps.length
    · obtain ⟨A, c, e0, e1, _, ev⟩ := wr_cells HZ.out hlt
      have hzl : zs.length = ps.length * 2 := by rw [HZ.out.1, cache_len]
      obtain ⟨b, off, rfl, hc⟩ : ∃ b off, A1 = some ⟨b, off, none⟩ ∧ ∀ i (h : i < zs.length), wr.cell? ⟨b, off + i, none⟩ = some zs[i] := by
        rcases HA.out.on hb with h | h
        · subst h; simp at hzl; omega
        · exact h
      have x0 : wr.cell? ⟨b, off + k * 2, none⟩ = some (.int .i64 (ps[k]).1) := by
        have h := hc (k * 2) (by omega)
        rw [List.getElem?_eq_getElem (by omega)] at e0
        rw [h, Option.some.inj e0]
      have x1 : wr.cell? ⟨b, off + k * 2 + 1, none⟩ = some (.slice A (ps[k]).2.length c) := by
        have h := hc (k * 2 + 1) (by omega)
        rw [List.getElem?_eq_getElem (by omega)] at e1
        rw [Nat.add_assoc, h, Option.some.inj e1]
      obtain ⟨w2, hrun, hm2, hg2⟩ := run_upd (P := Try.prog) Try.underlying88 Try.underlying3 (HM2.out.on (bal1 wr (.cells #[.int .i64 (ps[k]).1, .slice A (ps[k]).2.length c] 78))) k (by simp)
      rw [ev] at hrun
      have HM3 := Lib.hid hm2
      have hb2 := (bstep hb (bal1 wr (.cells #[.int .i64 (ps[k]).1, .slice A (ps[k]).2.length c] 78))).grown hg2 (by have := hb.size; simp; omega) (fun j hj => by injection hj with hj; omega)
      have i1 : (k : Int) < (ps.length : Int) := by omega
      have i2 : (0 : Int) ≤ (k : Int) := by omega
      clear hc e0 e1 ev hm2 hg2 hzl
      go_wp2
      go_roundw
      case rel => exact ⟨k + 1, by omega, by go_num, by rw [List.range_succ]; exact HM3, hb2⟩
      case measure => simp [intOf]; omega
    · have e : k = ps.length := by omega
      subst e
      go_wp2
      go_ret
      exact ⟨_, rfl, by omega, HM2.out, hb⟩
/-- The sectors when the first i pending writes have been applied. -/
def appK (keep : Nat → Bool) (ls : List (List UInt8)) (ps : List (Int × List UInt8)) : Nat → List (List UInt8)
  | 0 => ls
  | i + 1 => match ps[i]? with
    | some p => if keep i then (appK keep ls ps i).set p.1.toNat p.2 else appK keep ls ps i
    | none => appK keep ls ps i
theorem appK_length (keep : Nat → Bool) (ls : List (List UInt8)) (ps : List (Int × List UInt8)) (i : Nat) : (appK keep ls ps i).length = ls.length := by
  induction i with
  | zero => rfl
  | succ i ih =>
    simp only [appK]
    split
    · split
      · simp [ih]
      · exact ih
    · exact ih
theorem appK_yes {keep : Nat → Bool} {ls : List (List UInt8)} {ps : List (Int × List UInt8)} {i : Nat} (hi : i < ps.length) (h : keep i = true) : appK keep ls ps (i + 1) = (appK keep ls ps i).set (ps[i]).1.toNat (ps[i]).2 := by
  simp [appK, List.getElem?_eq_getElem hi, h]
theorem appK_no {keep : Nat → Bool} {ls : List (List UInt8)} {ps : List (Int × List UInt8)} {i : Nat} (hi : i < ps.length) (h : keep i = false) : appK keep ls ps (i + 1) = appK keep ls ps i := by
  simp [appK, List.getElem?_eq_getElem hi, h]
theorem OwnsL.pickBy {w : World} {T : Nat → Prop} {vs vs' : List Value} {cs cs' : List Dat} (h : OwnsL w T vs cs) (hl : vs'.length = cs'.length) (s : Nat → Nat) (h1 : ∀ i, i < vs'.length → vs[s i]? = vs'[i]?) (h2 : ∀ i, i < vs'.length → cs[s i]? = cs'[i]?)
    (inj : ∀ i j, i < vs'.length → j < vs'.length → i ≠ j → s i ≠ s j) : OwnsL w T vs' cs' := by
  obtain ⟨hL, F, ho, hF, hd⟩ := h
  refine ⟨hl, fun i b => i < vs'.length ∧ F (s i) b, fun i a b => ?_, fun i b hb => hF _ b hb.2, fun i j b hij h h' => hd _ _ b (inj i j h.1 h'.1 hij) h.2 h'.2⟩
  have e1 := h1 i a
  have e2 := h2 i a
  rw [List.getElem?_eq_getElem a] at e1
  rw [List.getElem?_eq_getElem b] at e2
  obtain ⟨l1, e1⟩ := List.getElem?_eq_some_iff.1 e1
  obtain ⟨l2, e2⟩ := List.getElem?_eq_some_iff.1 e2
  have := ho (s i) l1 l2
  rw [e1, e2] at this
  exact this.mono (fun b hb => ⟨a, hb⟩)
theorem app_two {α : Type} (ys zs : List α) (y z : α) (i : Nat) (hi : ¬ i < ys.length) : (ys ++ y :: z :: zs)[i + 2]? = zs[i - ys.length]? := by
  rw [List.getElem?_append_right (by omega), show i + 2 - ys.length = (i - ys.length) + 1 + 1 by omega]
  simp
theorem app_set {α : Type} (ys zs : List α) (y z : α) (n i : Nat) : (ys ++ y :: z :: zs)[if i < ys.length then (if i = n then ys.length + 1 else i) else i + 2]? = (ys.set n z ++ zs)[i]? := by
  by_cases hi : i < ys.length
  · rw [if_pos hi, List.getElem?_append_left (l₁ := ys.set n z) (by simpa using hi)]
    by_cases hin : i = n
    · subst hin
      rw [if_pos rfl, List.getElem?_append_right (by omega)]
      simp [hi]
    · rw [if_neg hin, List.getElem?_append_left hi, List.getElem?_set_ne (fun h => hin h.symm)]
  · rw [if_neg hi, app_two _ _ _ _ _ hi, List.getElem?_append_right (by simp; omega)]
    simp
theorem app_drop {α : Type} (ys zs : List α) (y z : α) (i : Nat) : (ys ++ y :: z :: zs)[if i < ys.length then i else i + 2]? = (ys ++ zs)[i]? := by
  by_cases hi : i < ys.length
  · rw [if_pos hi, List.getElem?_append_left hi, List.getElem?_append_left hi]
  · rw [if_neg hi, app_two _ _ _ _ _ hi, List.getElem?_append_right (by omega)]
theorem OwnsL.drop2 {w : World} {T : Nat → Prop} {ys zs : List Value} {cs ds : List Dat} {y z : Value} {c0 c : Dat} (h : OwnsL w T (ys ++ y :: z :: zs) (cs ++ c0 :: c :: ds)) (hl : ys.length = cs.length) : OwnsL w T (ys ++ zs) (cs ++ ds) := by
  have hL := h.1
  simp only [List.length_append, List.length_cons] at hL
  refine h.pickBy (by simp; omega) (fun i => if i < ys.length then i else i + 2) (fun i _ => app_drop _ _ _ _ _) (fun i _ => by rw [hl]; exact app_drop _ _ _ _ _) (fun i j _ _ hij => ?_)
  split <;> split <;> omega
theorem OwnsL.move {w : World} {T : Nat → Prop} {ys zs : List Value} {cs ds : List Dat} {y z : Value} {c0 c : Dat} {n : Nat} (h : OwnsL w T (ys ++ y :: z :: zs) (cs ++ c0 :: c :: ds)) (hl : ys.length = cs.length) : OwnsL w T (ys.set n z ++ zs) (cs.set n c ++ ds) := by
  have hL := h.1
  simp only [List.length_append, List.length_cons] at hL
  refine h.pickBy (by simp; omega) (fun i => if i < ys.length then (if i = n then ys.length + 1 else i) else i + 2) (fun i _ => app_set _ _ _ _ _ _) (fun i _ => by rw [hl]; exact app_set _ _ _ _ _ _) (fun i j _ _ hij => ?_)
  split <;> split <;> (try split) <;> (try split) <;> omega
end Go.Proofs.Ytmeiobpeacdfjaa
