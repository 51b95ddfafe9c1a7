/- Lists of keys: how they lie in memory, how they are read, owned, made and appended to. Conditions: at most 2^20 keys (making), 2^30 (appending). -/
import Derived.Test.YtcimpcocgmlmoaaKeyLaw
import Derived.Test.YtcimpcocgmlmoaaAppV
namespace Go.Proofs.Ytcimpcocgmlmoaa
open Go.RowKit
set_option maxRecDepth 100000
set_option linter.unusedSimpArgs false
set_option linter.unusedVariables false

def KeyD.v (k : KeyD) : Value := keyV k.a k.b k.c k.d k.e
def kC (k : KeyD) : List Dat := [.lit (.int .i64 k.a), .lit (.int .i64 k.b), .lit (.int .i64 k.c), .lit (.int .i64 k.d), .lit (.int .i64 k.e)]
def kX (k : KeyD) : List Value := [.int .i64 k.a, .int .i64 k.b, .int .i64 k.c, .int .i64 k.d, .int .i64 k.e]
theorem kC_len (k : KeyD) : (kC k).length = 5 := rfl
def kvl (l : List KeyD) : List Value := l.flatMap kX
theorem kvl_len (l : List KeyD) : (kvl l).length = l.length * 5 := by
  induction l with
  | nil => rfl
  | cons k l ih =>
    have : kvl (k :: l) = kX k ++ kvl l := rfl
    rw [this, List.length_append, ih]
    simp [kX, Nat.add_mul]; omega
theorem kvl_append (l m : List KeyD) : kvl (l ++ m) = kvl l ++ kvl m := by simp [kvl]
theorem kvl_one (k : KeyD) : kvl [k] = kX k := by simp [kvl]
theorem kvl_cells (l : List KeyD) : ∀ u ∈ kvl l, u.oneCell' = true := by
  intro u hu
  simp only [kvl, List.mem_flatMap, kX] at hu
  obtain ⟨k, _, hk⟩ := hu
  simp at hk
  rcases hk with rfl | rfl | rfl | rfl | rfl <;> rfl
theorem keys_len (l : List KeyD) : (l.flatMap kC).length = l.length * 5 := flat_len kC 5 l kC_len
theorem kC_map (l : List KeyD) : l.flatMap kC = (kvl l).map Dat.lit := by
  induction l with
  | nil => rfl
  | cons k l ih =>
    have : kvl (k :: l) = kX k ++ kvl l := rfl
    rw [this, List.map_append, ← ih]
    rfl
/-- The five cells from place o of block b on hold the key k. -/
abbrev Five (w : World) (b o : Nat) (k : KeyD) : Prop := w.cell? ⟨b, o, none⟩ = some (.int .i64 k.a) ∧ w.cell? ⟨b, o + 1, none⟩ = some (.int .i64 k.b) ∧ w.cell? ⟨b, o + 2, none⟩ = some (.int .i64 k.c) ∧ w.cell? ⟨b, o + 3, none⟩ = some (.int .i64 k.d) ∧ w.cell? ⟨b, o + 4, none⟩ = some (.int .i64 k.e)
theorem Five.keep {w w' : World} {b o : Nat} {k : KeyD} (h : Five w b o k) (hb : w'.heap[b]? = w.heap[b]?) : Five w' b o k := by
  obtain ⟨h0, h1, h2, h3, h4⟩ := h
  exact ⟨(World.cell?_of_block (a := ⟨b, o, none⟩) hb).trans h0, (World.cell?_of_block (a := ⟨b, o + 1, none⟩) hb).trans h1, (World.cell?_of_block (a := ⟨b, o + 2, none⟩) hb).trans h2, (World.cell?_of_block (a := ⟨b, o + 3, none⟩) hb).trans h3, (World.cell?_of_block (a := ⟨b, o + 4, none⟩) hb).trans h4⟩
theorem Reads.keys {w : World} {B : Nat} {A : Option Addr} {e n cap : Nat} {l : List KeyD} (h : Reads w B (.slice A n cap) (.row e 5 l.length (l.flatMap kC))) {i : Nat} (hi : i < l.length) :
    ∃ b off, A = some ⟨b, off, none⟩ ∧ b < B ∧ ∀ k (hk : k < l.length), Five w b (off + k * 5) l[k] := by
  obtain ⟨A', cap', hv, hn, hc, hl, _, k⟩ := h.row'
  cases hv
  rcases k with h | ⟨b, off, xs, rfl, hb, hx, hcell, hr⟩
  · have := congrArg List.length h
    rw [keys_len] at this; simp only [List.length_nil] at this; omega
  · refine ⟨b, off, rfl, hb, fun k hk => ?_⟩
    rw [keys_len] at hx
    have get : ∀ j, j < 5 → ∃ x c, w.cell? ⟨b, off + (k * 5 + j), none⟩ = some x ∧ (kC l[k])[j]? = some c ∧ Reads w B x c := by
      intro j hj
      have hlt := flat_lt (z := 5) hk hj
      have h1 := hr (k * 5 + j) (by omega) (by rw [keys_len]; omega)
      have h2 := hcell (k * 5 + j) (by omega)
      have h3 := flat_get kC 5 l kC_len k j hk hj
      rw [List.getElem?_eq_getElem (by rw [keys_len]; omega)] at h3
      exact ⟨_, _, h2, h3.symm, h1⟩
    obtain ⟨x0, c0, a0, b0, r0⟩ := get 0 (by omega)
    obtain ⟨x1, c1, a1, b1, r1⟩ := get 1 (by omega)
    obtain ⟨x2, c2, a2, b2, r2⟩ := get 2 (by omega)
    obtain ⟨x3, c3, a3, b3, r3⟩ := get 3 (by omega)
    obtain ⟨x4, c4, a4, b4, r4⟩ := get 4 (by omega)
    simp [kC] at b0 b1 b2 b3 b4
    subst b0 b1 b2 b3 b4
    cases r0
    cases r1
    cases r2
    cases r3
    cases r4
    exact ⟨a0, a1, a2, a3, a4⟩
theorem Reads.shapeK {w : World} {B : Nat} {v : Value} {e : TypeId} {l : List KeyD} (h : Reads w B v (.row e 5 l.length (l.flatMap kC))) : ∃ A cap, v = .slice A l.length cap ∧ l.length ≤ cap ∧ cap ≤ maxLen := by
  obtain ⟨A, cap, hv, hn, hc, _⟩ := h.row'
  exact ⟨A, cap, hv, hn, hc⟩
theorem lit_reads {w : World} {B : Nat} {xs vs : List Value} (hl : xs.length = vs.length) (h : ∀ i (h : i < xs.length) (h' : i < (vs.map Dat.lit).length), Reads w B xs[i] (vs.map Dat.lit)[i]) : xs = vs := by
  refine List.ext_getElem hl (fun i h1 h2 => ?_)
  have := h i h1 (by simpa using h2)
  rw [List.getElem_map] at this
  generalize xs[i] = x at this
  cases this
  rfl
theorem Reads.atK {w : World} {B : Nat} {A : Option Addr} {e n cap : Nat} {l : List KeyD} (h : Reads w B (.slice A n cap) (.row e 5 l.length (l.flatMap kC))) : At w A (kvl l) := by
  obtain ⟨A', cap', hv, hn, hc, hl, _, k⟩ := h.row'
  cases hv
  rcases k with h | ⟨b, off, xs, rfl, hb, hx, hcell, hr⟩
  · left
    have := congrArg List.length h
    rw [keys_len] at this
    exact List.length_eq_zero_iff.1 (by rw [kvl_len]; simpa using this)
  · right
    refine ⟨b, off, rfl, ?_⟩
    have : xs = kvl l := lit_reads (by rw [hx, keys_len, kvl_len]) (by rw [← kC_map]; exact hr)
    subst this
    exact hcell
theorem lits_own (w : World) (S : Nat → Prop) (vs : List Value) : OwnsL w S vs (vs.map Dat.lit) :=
  ⟨by simp, fun _ _ => False, fun i h h' => by rw [List.getElem_map]; exact .lit _ _, fun _ _ h => h.elim, fun _ _ _ _ h => h.elim⟩
theorem At.key (w : World) (k : KeyD) (e : TypeId) : At (w.alloc (.cells #[.int .i64 k.a, .int .i64 k.b, .int .i64 k.c, .int .i64 k.d, .int .i64 k.e] e)) (some ⟨w.heap.size, 0, none⟩) (kvl [k]) := by
  refine .inr ⟨w.heap.size, 0, rfl, fun i hi => ?_⟩
  rw [cell_of_row _ _ _ _ _ _ (heap_alloc_new w _)]
  simp only [kvl_one, kX, List.length_cons, List.length_nil] at hi ⊢
  match i, hi with
  | 0, _ => rfl
  | 1, _ => rfl
  | 2, _ => rfl
  | 3, _ => rfl
  | 4, _ => rfl
end Go.Proofs.Ytcimpcocgmlmoaa
