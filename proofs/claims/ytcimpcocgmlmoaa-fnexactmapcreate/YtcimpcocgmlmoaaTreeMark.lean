/- Contracts for trees in the laws: laws.markTree writes marks, laws.heldTree finds them. Conditions: at most 1100000 bounds, nodes, sets and keys. -/
import Derived.Test.YtcimpcocgmlmoaaTreeLaw
namespace Go.Proofs.Ytcimpcocgmlmoaa
open Go.RowKit Go.ChangeShapes Go.WideShapes Go.Deep
set_option maxRecDepth 100000
set_option linter.unusedSimpArgs false
set_option linter.unusedVariables false

def mI (k : Int) (_ : Int) : Int := k
def sI (_ : Int) : Nat := 1
def mNd (k : Int) (ns : NodeD) : NodeD := mkL mN sN k ns ns.length
def sNd (ns : NodeD) : Nat := sumN ns * 5
def mkI (k : Int) (l : List Int) : List Int := mkL mI sI k l l.length
def mkT (k : Int) (ts : List NodeD) : List NodeD := mkL mNd sNd k ts ts.length
theorem mNd_len (k : Int) (ns : NodeD) : (mNd k ns).length = ns.length := mkL_length _ _ _ _ _
theorem totI (l : List Int) (i : Nat) (h : i ≤ l.length) : totL sI l i = i := by
  induction l generalizing i with
  | nil => simp at h; subst h; rfl
  | cons a l ih =>
    cases i with
    | zero => rfl
    | succ i => simp only [totL, sI]; rw [ih i (by simpa using h)]; omega
theorem totT (ts : List NodeD) (i : Nat) : totL sNd ts i ≤ sumT ts * 5 := by
  induction ts generalizing i with
  | nil => cases i <;> simp [totL]
  | cons a ts ih =>
    cases i with
    | zero => simp [totL]
    | succ i => have := ih i; simp only [totL, sNd, sumT_cons]; omega
def RwC (w : World) (g : Nat) (e : TypeId) (n : Nat) (xs : List Value) : Prop := ∃ cur : Array Value, w.heap[g]? = some (.cells cur e (0, 0)) ∧ n ≤ cur.size ∧ cur.toList.take n = xs
theorem RwC.set {w : World} {g : Nat} {e : TypeId} {n : Nat} {xs : List Value} (h : RwC w g e n xs) (i : Nat) (u : Value) : RwC (w.setCell ⟨g, i, none⟩ u) g e n (xs.set i u) := by
  obtain ⟨cur, hg, hs, hx⟩ := h
  refine ⟨cur.setIfInBounds i u, heap_setCell_same w g i cur _ _ hg, by simpa using hs, ?_⟩
  rw [Array.toList_setIfInBounds, ← hx, List.take_set]
theorem RwC.cell {w : World} {g : Nat} {e : TypeId} {n : Nat} {xs : List Value} (h : RwC w g e n xs) {i : Nat} (hi : i < xs.length) : w.cell? ⟨g, i, none⟩ = some xs[i] := by
  obtain ⟨cur, hg, hs, hx⟩ := h
  rw [cell_of_row w g i cur _ _ hg]
  subst hx
  simp at hi ⊢
theorem RwC.frozen {w : World} {g : Nat} {e : TypeId} {n : Nat} {xs : List Value} (h : RwC w g e n xs) (k : Nat) : w.frozen? ⟨g, k, none⟩ = false := by
  obtain ⟨cur, hg, _⟩ := h
  exact frozen_of_row w g k cur _ hg
theorem lits_eq {w : World} {B : Nat} {xs : List Value} {l : List Int} (h : ReadsL w B xs (l.map fun n => .lit (iV n))) : xs = l.map iV := by
  refine List.ext_getElem (by rw [h.1]; simp) (fun i h1 h2 => ?_)
  have := h.2 i h1 (by rw [← h.1]; exact h1)
  simp only [List.getElem_map] at this ⊢
  generalize xs[i] = x at this
  cases this
  rfl
set_option maxHeartbeats 1000000 in
theorem markIntS_any (v : Value) (S : Nat → Prop) (l : List Int) (k : Int) (w : World) (hv : OwnC w S v (intsD l)) (hn : l.length ≤ 1100000) (h0 : 0 ≤ k) (h1 : k ≤ 1099511627776) :
    Calls Try.prog 56 #[v, .int .i64 k] w fun e w' => e = .returned (.int .i64 (k + (l.length : Nat))) ∧ OwnC w' S v (intsD (mkI k l)) ∧ Only S w w' := by
  rcases hv with ⟨rfl, hl, hc⟩ | ⟨g, cap, cur, xs, rfl, hS, hh, hcap, hmax, hsz, hl, hx, ho⟩
  · have : l = [] := List.length_eq_zero_iff.1 hl
    subst this
    go_enter Try.func56, Try.ntmps56
    go_wp2
    go_loopw [1, 5] (fun q i wr => i = .int .i64 0 ∧ q = .int .i64 k ∧ w = wr) (fun _ _ _ => 0)
    case atStart => exact ⟨rfl, rfl, rfl⟩
    case round =>
      obtain ⟨rfl, rfl, rfl⟩ := hrel
      go_wp2
      go_ret
      exact ⟨by simp, .inl ⟨rfl, rfl, rfl⟩, Only.refl _ _⟩
  · have hxs := lits_eq ho.reads
    rw [Nat.mul_one] at hx hsz
    have HR : Hid (RwC w g 3 l.length (l.map iV)) := Lib.hid ⟨cur, hh, hsz, by rw [hx, hxs]⟩
    clear hh hx ho hxs hsz hl
    go_enter Try.func56, Try.ntmps56
    go_wp2
    go_loopw [1, 5] (fun q i wr => ∃ j : Nat, j ≤ l.length ∧ i = .int .i64 j ∧ q = .int .i64 (k + (j : Nat)) ∧ Hid (RwC wr g 3 l.length ((mkL mI sI k l j).map iV)) ∧ Hid (Only S w wr)) (fun _ i _ => l.length - (intOf i).toNat)
    case atStart => exact ⟨0, Nat.zero_le _, rfl, by simp, by rw [mkL_zero]; exact HR, Lib.hid (Only.refl _ _)⟩
    case round =>
      clear HR
      obtain ⟨j, hj, rfl, rfl, HR, HO⟩ := hrel
      by_cases hlt : j < l.length
      · have hlm : j < ((mkL mI sI k l j).map iV).length := by simp [mkL_length]; exact hlt
        obtain ⟨y, c1⟩ : ∃ y : Int, wr.cell? ⟨g, j, none⟩ = some (.int .i64 y) := ⟨_, (HR.out.cell hlm).trans (by rw [List.getElem_map]; rfl)⟩
        have f1 := HR.out.frozen j
        have hs := HR.out.set j (iV (k + (j : Nat)))
        rw [← List.map_set, show (mkL mI sI k l j).set j (k + (j : Nat)) = mkL mI sI k l (j + 1) by rw [mkL_succ _ _ _ _ _ hlt, totI l j hj]; rfl] at hs
        have HS := Lib.hid hs
        have HO2 := Lib.hid (HO.out.setCell (j := j) hS (iV (k + (j : Nat))))
        unfold iV at HS HO2
        have i1 : (j : Int) < (l.length : Int) := by omega
        have i2 : (0 : Int) ≤ (j : Int) := by omega
        clear HR HO hlm hs
        have q1 : k + (j : Int) ≤ 1199511627776 := by omega
        have q0 : 0 ≤ k + (j : Int) := by omega
        generalize hq : k + (j : Int) = q at *
        have HQ := Lib.hid hq
        clear hq
        go_wp2
        go_roundw
        case rel => exact ⟨j + 1, by omega, by go_num, by rw [← HQ.out]; go_num, HS, HO2⟩
        case measure => simp [intOf]; omega
      · go_wp2
        go_ret
        have e : j = l.length := by omega
        subst e
        obtain ⟨cur2, k1, k2, k3⟩ := HR.out
        refine ⟨rfl, .inr ⟨g, cap, cur2, (mkI k l).map iV, by rw [mkI, mkL_length], hS, k1, by rw [mkI, mkL_length]; exact hcap, hmax, by rw [mkI, mkL_length, Nat.mul_one]; exact k2, by simp, by rw [mkI, mkL_length, Nat.mul_one]; exact k3, ints_litL _ _ _⟩, HO.out⟩
def markEnd (k : Int) (lo : List Int) (ts : List NodeD) : Int := k + (lo.length : Nat) + (totL sNd ts ts.length : Nat)
theorem markEnd_le {k : Int} {lo : List Int} {ts : List NodeD} (hs : SmallT lo ts) (h0 : 0 ≤ k) (h1 : k ≤ 274877906944) : 0 ≤ markEnd k lo ts ∧ markEnd k lo ts ≤ 549755813888 := by
  have := totT ts ts.length
  have := hs.1
  have := hs.2.2
  unfold markEnd
  omega
theorem heldIntS_any (v : Value) (l : List Int) (k : Int) (w : World) (hv : Reads w w.heap.size v (intsD (mkI k l))) (hn : l.length ≤ 1100000) (h0 : 0 ≤ k) (h1 : k ≤ 1099511627776) :
    Calls Try.prog 57 #[v, .int .i64 k] w fun e w' => e = .returned (.int .i64 (k + (l.length : Nat))) ∧ w = w' := by
  have hml : (mkI k l).length = l.length := mkL_length _ _ _ _ _
  obtain ⟨A, c, rfl, _, _⟩ := hv.lenN
  rw [hml] at hv
  rw [hml]
  have HV := Lib.hid hv
  clear hv
  go_enter Try.func57, Try.ntmps57
  go_wp2
  go_loop [1, 5] (fun q i => ∃ j : Nat, j ≤ l.length ∧ i = .int .i64 j ∧ q = .int .i64 (k + (j : Nat))) (fun _ i => l.length - (intOf i).toNat)
  case atStart => exact ⟨0, Nat.zero_le _, rfl, by simp⟩
  case round =>
    obtain ⟨j, hj, rfl, rfl⟩ := hrel
    by_cases hlt : j < l.length
    · obtain ⟨b, off, rfl, hbb, hc⟩ := HV.out.int (i := j) (by rw [hml]; exact hlt)
      have c1 := hc j (by rw [hml]; exact hlt)
      rw [show (mkI k l)[j]'(by rw [hml]; exact hlt) = k + (j : Nat) from (mkL_get _ _ _ _ _ _ hlt hlt).trans (by rw [totI l j hj]; rfl)] at c1
      unfold iV at c1
      have i1 : (j : Int) < (l.length : Int) := by omega
      have i2 : (0 : Int) ≤ (j : Int) := by omega
      have q1 : k + (j : Int) ≤ 1199511627776 := by omega
      have q0 : 0 ≤ k + (j : Int) := by omega
      clear hc
      generalize hq : k + (j : Int) = q at *
      have HQ := Lib.hid hq
      have hne : (q != q) = false := by simp
      clear hq
      go_wp2
      go_round
      case rel => exact ⟨j + 1, by omega, by go_num, by rw [← HQ.out]; go_num⟩
      case measure => simp [intOf]; omega
    · go_wp2
      go_ret
      have e : j = l.length := by omega
      subst e
      exact ⟨rfl, rfl⟩
end Go.Proofs.Ytcimpcocgmlmoaa
