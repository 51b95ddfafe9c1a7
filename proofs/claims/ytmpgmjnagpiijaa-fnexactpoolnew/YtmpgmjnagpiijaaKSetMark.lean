/- Contracts for marks in a list of keys: laws.markKeyS writes marks into every field, laws.heldKeyS finds them. Conditions: at most 2^21 keys. -/
import Derived.Test.YtmpgmjnagpiijaaKSetLaw
namespace Go.Proofs.Ytmpgmjnagpiijaa
open Go.RowKit
set_option maxRecDepth 100000
set_option linter.unusedSimpArgs false
set_option linter.unusedVariables false

def mK (k : Int) (_ : KeyD) : KeyD := ⟨k, k + 1, k + 1 + 1, k + 1 + 1 + 1, k + 1 + 1 + 1 + 1⟩
def sK (_ : KeyD) : Nat := 5
theorem totK (l : List KeyD) (i : Nat) (h : i ≤ l.length) : totL sK l i = i * 5 := by
  induction i with
  | zero => cases l <;> rfl
  | succ i ih => rw [totL_succ sK l i (by omega), ih (by omega)]; simp [sK, Nat.add_mul]
theorem kvl_cons (k : KeyD) (l : List KeyD) : kvl (k :: l) = kX k ++ kvl l := rfl
theorem kvl_set (l : List KeyD) (i : Nat) (k : KeyD) (h : i < l.length) : kvl (l.set i k) = (((((kvl l).set (i * 5) (.int .i64 k.a)).set (i * 5 + 1) (.int .i64 k.b)).set (i * 5 + 2) (.int .i64 k.c)).set (i * 5 + 3) (.int .i64 k.d)).set (i * 5 + 4) (.int .i64 k.e) := by
  induction l generalizing i with
  | nil => simp at h
  | cons x l ih =>
    cases i with
    | zero => simp [kvl_cons, kX]
    | succ i =>
      have h := ih i (by simpa using h)
      rw [List.set_cons_succ, kvl_cons, h, kvl_cons, show (i + 1) * 5 = i * 5 + 1 + 1 + 1 + 1 + 1 by omega]
      simp [kX]
/-- Block g of w holds the keys l in a row of room for cap. -/
def RwK (w : World) (g cap : Nat) (l : List KeyD) : Prop := Rw w g 75 5 l.length cap (kvl l)
theorem RwK.five {w : World} {g cap : Nat} {l : List KeyD} (h : RwK w g cap l) {i : Nat} (hi : i < l.length) : ∀ j, j < 5 → ∃ v, w.cell? ⟨g, i * 5 + j, none⟩ = some v := by
  intro j hj
  have hl := kvl_len l
  exact ⟨_, Rw.cell h (i := i * 5 + j) (by omega)⟩
theorem RwK.set {w : World} {g cap : Nat} {l : List KeyD} (h : RwK w g cap l) {i : Nat} (hi : i < l.length) (k : KeyD) : RwK (((((w.setCell ⟨g, i * 5, none⟩ (.int .i64 k.a)).setCell ⟨g, i * 5 + 1, none⟩ (.int .i64 k.b)).setCell ⟨g, i * 5 + 2, none⟩ (.int .i64 k.c)).setCell ⟨g, i * 5 + 3, none⟩ (.int .i64 k.d)).setCell ⟨g, i * 5 + 4, none⟩ (.int .i64 k.e)) g cap (l.set i k) := by
  have h5 := ((((Rw.set h (i * 5) (.int .i64 k.a)).set (i * 5 + 1) (.int .i64 k.b)).set (i * 5 + 2) (.int .i64 k.c)).set (i * 5 + 3) (.int .i64 k.d)).set (i * 5 + 4) (.int .i64 k.e)
  unfold RwK
  rw [List.length_set, kvl_set l i k hi]
  exact h5
theorem RwK.owns {w : World} {S : Nat → Prop} {g cap : Nat} {l : List KeyD} (h : RwK w g cap l) (hS : S g) (hn : l.length ≤ cap) (hc : cap ≤ maxLen) : Owns w S (.slice (some ⟨g, 0, none⟩) l.length cap) (keysD l) :=
  Rw.owns h hS (by rw [kC_map]; exact lits_own _ _ _) hn hc (keys_len l)
theorem Owns.rwK {w : World} {S : Nat → Prop} {v : Value} {l : List KeyD} (h : Owns w S v (keysD l)) : (v = .slice none 0 0 ∧ l = []) ∨ ∃ g cap, v = .slice (some ⟨g, 0, none⟩) l.length cap ∧ S g ∧ RwK w g cap l ∧ l.length ≤ cap ∧ cap ≤ maxLen := by
  rcases h.rw' with ⟨rfl, h, _⟩ | ⟨g, cap, xs, rfl, hS, hR, hn, hc, hl, hx, ho⟩
  · exact .inl ⟨rfl, List.length_eq_zero_iff.1 h⟩
  · have hr := ho.reads
    rw [kC_map] at hr
    have : xs = kvl l := lit_reads (by rw [hr.1]; simp) hr.2
    subst this
    exact .inr ⟨g, cap, rfl, hS, hR, hn, hc⟩
def MarkedK (w : World) (S : Nat → Prop) (v : Value) (k : Int) (l : List KeyD) (e : Ending) (w' : World) : Prop := e = .returned (.int .i64 (k + (l.length * 5 : Nat))) ∧ Owns w' S v (keysD (mkL mK sK k l l.length)) ∧ Only S w w'
theorem o5 {S : Nat → Prop} {w w1 : World} {g i : Nat} {u1 u2 u3 u4 u5 : Value} (h : Only S w w1) (hg : S g) : Only S w (((((w1.setCell ⟨g, i, none⟩ u1).setCell ⟨g, i + 1, none⟩ u2).setCell ⟨g, i + 2, none⟩ u3).setCell ⟨g, i + 3, none⟩ u4).setCell ⟨g, i + 4, none⟩ u5) :=
  ((((h.setCell hg _).setCell hg _).setCell hg _).setCell hg _).setCell hg _
set_option maxHeartbeats 1000000 in
theorem markKeyS_any (v : Value) (S : Nat → Prop) (l : List KeyD) (k : Int) (w : World) (hv : Owns w S v (keysD l)) (hn : l.length ≤ 2097152) (h0 : 0 ≤ k) (h1 : k ≤ 1125899906842624) :
    Calls Try.prog 90 #[v, .int .i64 k] w (MarkedK w S v k l) := by
  rcases hv.rwK with ⟨rfl, rfl⟩ | ⟨g, cap, rfl, hS, hR, hcap, hmax⟩
  · go_enter Try.func90, Try.ntmps90
    go_wp2
    go_loopw [1, 5] (fun q i wr => i = .int .i64 0 ∧ q = .int .i64 k ∧ w = wr) (fun _ _ _ => 0)
    case atStart => exact ⟨rfl, rfl, rfl⟩
    case round =>
      obtain ⟨rfl, rfl, rfl⟩ := hrel
      go_wp2
      go_ret
      exact ⟨by simp, .nil _ _ _, Only.refl _ _⟩
  · clear hv
    go_enter Try.func90, Try.ntmps90
    go_wp2
    go_loopw [1, 5] (fun q i wr => ∃ j : Nat, j ≤ l.length ∧ i = .int .i64 j ∧ q = .int .i64 (k + (j * 5 : Nat)) ∧ Hid (RwK wr g cap (mkL mK sK k l j)) ∧ Hid (Only S w wr)) (fun _ i _ => l.length - (intOf i).toNat)
    case atStart => exact ⟨0, Nat.zero_le _, rfl, by simp, Lib.hid (by rw [mkL_zero]; exact hR), Lib.hid (Only.refl _ _)⟩
    case round =>
      clear hR
      obtain ⟨j, hj, rfl, rfl, HR, HO⟩ := hrel
      by_cases hlt : j < l.length
      · have hlm : j < (mkL mK sK k l j).length := by rw [mkL_length]; exact hlt
        obtain ⟨y0, d0⟩ := HR.out.five hlm 0 (by omega)
        obtain ⟨y1, d1⟩ := HR.out.five hlm 1 (by omega)
        obtain ⟨y2, d2⟩ := HR.out.five hlm 2 (by omega)
        obtain ⟨y3, d3⟩ := HR.out.five hlm 3 (by omega)
        obtain ⟨y4, d4⟩ := HR.out.five hlm 4 (by omega)
        rw [Nat.add_zero] at d0
        have f0 := Rw.frozen HR.out (j * 5)
        have f1 := Rw.frozen HR.out (j * 5 + 1)
        have f2 := Rw.frozen HR.out (j * 5 + 2)
        have f3 := Rw.frozen HR.out (j * 5 + 3)
        have f4 := Rw.frozen HR.out (j * 5 + 4)
        have hs := HR.out.set hlm (mK (k + (j * 5 : Nat)) l[j])
        rw [show (mkL mK sK k l j).set j (mK (k + (j * 5 : Nat)) l[j]) = mkL mK sK k l (j + 1) by rw [mkL_succ _ _ _ _ _ hlt, totK l j hj]] at hs
        have HS := Lib.hid hs
        have HO2 := Lib.hid (o5 (i := j * 5) (u1 := .int .i64 (k + (j * 5 : Nat))) (u2 := .int .i64 (k + (j * 5 : Nat) + 1)) (u3 := .int .i64 (k + (j * 5 : Nat) + 1 + 1)) (u4 := .int .i64 (k + (j * 5 : Nat) + 1 + 1 + 1)) (u5 := .int .i64 (k + (j * 5 : Nat) + 1 + 1 + 1 + 1)) HO.out hS)
        have i1 : (j : Int) < (l.length : Int) := by omega
        have i2 : (0 : Int) ≤ (j : Int) := by omega
        clear HR HO hlm hs
        have HQ : Hid (k + ((j + 1) * 5 : Nat) = k + (j * 5 : Nat) + 1 + 1 + 1 + 1 + 1) := Lib.hid (by omega)
        have q0 : 0 ≤ k + ((j * 5 : Nat) : Int) := by omega
        have q1 : k + ((j * 5 : Nat) : Int) ≤ 1125899917328384 := by omega
        generalize k + ((j * 5 : Nat) : Int) = q at *
        go_wp2
        go_roundw
        case rel =>
          exact ⟨j + 1, by omega, by go_num, by rw [HQ.out], HS, HO2⟩
        case measure => simp [intOf]; omega
      · go_wp2
        go_ret
        have e : j = l.length := by omega
        subst e
        refine ⟨rfl, ?_, HO.out⟩
        have h := HR.out.owns hS (by rw [mkL_length]; exact hcap) hmax
        rw [mkL_length] at h
        exact h
set_option maxHeartbeats 1000000 in
theorem heldKeyS_any (v : Value) (l : List KeyD) (k : Int) (w : World) (hv : Reads w w.heap.size v (keysD (mkL mK sK k l l.length))) (hn : l.length ≤ 2097152) (h0 : 0 ≤ k) (h1 : k ≤ 1125899906842624) :
    Calls Try.prog 91 #[v, .int .i64 k] w fun e w' => e = .returned (.int .i64 (k + (l.length * 5 : Nat))) ∧ w = w' := by
  obtain ⟨A, c, rfl, _, _⟩ := hv.shapeK
  rw [mkL_length]
  have HV := Lib.hid hv
  clear hv
  go_enter Try.func91, Try.ntmps91
  go_wp2
  go_loop [1, 5] (fun q i => ∃ j : Nat, j ≤ l.length ∧ i = .int .i64 j ∧ q = .int .i64 (k + (j * 5 : Nat))) (fun _ i => l.length - (intOf i).toNat)
  case atStart => exact ⟨0, Nat.zero_le _, rfl, by simp⟩
  case round =>
    obtain ⟨j, hj, rfl, rfl⟩ := hrel
    by_cases hlt : j < l.length
    · have hlm : j < (mkL mK sK k l l.length).length := by rw [mkL_length]; exact hlt
      obtain ⟨b, off, rfl, hbb, hc⟩ := HV.out.keys hlm
      have F := hc j hlm
      rw [mkL_get _ _ _ _ _ _ hlt hlt, totK l j hj] at F
      have HQ : Hid (k + ((j + 1) * 5 : Nat) = k + (j * 5 : Nat) + 1 + 1 + 1 + 1 + 1) := Lib.hid (by omega)
      have q0 : 0 ≤ k + ((j * 5 : Nat) : Int) := by omega
      have q1 : k + ((j * 5 : Nat) : Int) ≤ 1125899917328384 := by omega
      have i1 : (j : Int) < (l.length : Int) := by omega
      have i2 : (0 : Int) ≤ (j : Int) := by omega
      clear hc hlm
      generalize k + ((j * 5 : Nat) : Int) = q at *
      obtain ⟨c0, c1, c2, c3, c4⟩ := F
      unfold mK at c0 c1 c2 c3 c4
      have n0 : (q != q) = false := by simp
      have n1 : (q + 1 != q + 1) = false := by simp
      have n2 : (q + 1 + 1 != q + 1 + 1) = false := by simp
      have n3 : (q + 1 + 1 + 1 != q + 1 + 1 + 1) = false := by simp
      have n4 : (q + 1 + 1 + 1 + 1 != q + 1 + 1 + 1 + 1) = false := by simp
      go_wp2
      go_round
      case rel => exact ⟨j + 1, by omega, by go_num, by rw [HQ.out]⟩
      case measure => simp [intOf]; omega
    · go_wp2
      go_ret
      have e : j = l.length := by omega
      subst e
      exact ⟨rfl, rfl⟩
end Go.Proofs.Ytmpgmjnagpiijaa
