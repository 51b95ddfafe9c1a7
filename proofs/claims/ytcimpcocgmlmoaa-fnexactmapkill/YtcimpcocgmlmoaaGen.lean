/- Rows of cells of a call's own: an element written, a copy under way, one more element appended. No condition: general lemmas. -/
import Derived.Test.YtcimpcocgmlmoaaAppV
import Derived.Deep.RegionHeld3
namespace Go.Proofs.Ytcimpcocgmlmoaa
open Go.RowKit
set_option maxRecDepth 100000
set_option linter.unusedSimpArgs false
set_option linter.unusedVariables false

def Dat.one : Dat → Bool
  | .lit u => u.oneCell'
  | .row _ _ _ _ => true
theorem Reads.one {w : World} {B : Nat} {v : Value} {c : Dat} (h : Reads w B v c) (hc : c.one = true) : v.oneCell' = true := by
  cases h with
  | lit u => exact hc
  | nil A cap e z h => rfl
  | row b off n cap e z xs cs hb hn hc hl hx hcell hr => rfl
theorem ReadsL.ones {w : World} {B : Nat} {vs : List Value} {cs : List Dat} (h : ReadsL w B vs cs) (hc : ∀ c ∈ cs, c.one = true) : ∀ u ∈ vs, u.oneCell' = true := by
  intro u hu
  obtain ⟨i, hi, rfl⟩ := List.getElem_of_mem hu
  exact (h.2 i hi (by rw [← h.1]; exact hi)).one (hc _ (List.getElem_mem _))
theorem Reads.cells {w : World} {B : Nat} {A : Option Addr} {n m c : Nat} {e z : Nat} {cs : List Dat} (h : Reads w B (.slice A m c) (.row e z n cs)) : ∃ xs, At w A xs ∧ ReadsL w B xs cs ∧ xs.length = n * z := by
  obtain ⟨A', cap', hv, hn, hc, hl, _, k⟩ := h.row'
  cases hv
  rcases k with rfl | ⟨b, off, xs, rfl, hb, hx, hcell, hr⟩
  · exact ⟨[], .inl rfl, ⟨rfl, fun i h => by simp at h⟩, by simpa using hl⟩
  · exact ⟨xs, .inr ⟨b, off, rfl, hcell⟩, ⟨hx, hr⟩, hx.trans hl⟩
/-- A cell of a row of the call's own is written. -/
theorem row_set {w : World} {base e z n g cap : Nat} {xs : List Value} (h : w.ownsRow base e z (.slice (some ⟨g, 0, none⟩) n cap) n xs) (i : Nat) (x : Value) : (w.setCell ⟨g, i, none⟩ x).ownsRow base e z (.slice (some ⟨g, 0, none⟩) n cap) n (xs.set i x) := by
  rcases row_cases h with ⟨hv, _⟩ | ⟨g', cap', hv, hb, hR, hn, hc, hl⟩
  · cases hv
  · cases hv
    exact (hR.set i x).row hb hn hc (by simpa using hl)
theorem own_push {wr w1 : World} {T : Nat → Prop} {base g j : Nat} {xs : List Value} {cs : List Dat} {v u : Value} {c : Dat} (h : OwnsL wr T xs cs) (hT1 : ∀ b, base ≤ b → b ≠ g → T b) (hT2 : ∀ b, T b → b ≠ g) (hb : Below wr.heap.size wr w1) (hv : Owns w1 (fun b => wr.heap.size ≤ b) v c) (hg : g < wr.heap.size) (hbase : base ≤ wr.heap.size) :
    OwnsL (w1.setCell ⟨g, j, none⟩ u) T (xs ++ [v]) (cs ++ [c]) := by
  have h1 : OwnsL w1 (fun b => T b ∧ b < wr.heap.size) xs cs := h.lt.on hb
  have h2 := h1.snoc hv (U := T) (fun b hb => hb.1) (fun b hb => hT1 b (by omega) (by omega)) (fun b hb hb' => by have := hb.2; omega)
  exact h2.keep (fun b hb _ => Below.heap_setCell _ _ _ _ (by simpa using hT2 b hb))
theorem take_set_succ {α : Type} (xs : List α) (k : Nat) (x : α) (h : k < xs.length) : (xs.set k x).take (k + 1) = xs.take k ++ [x] := by
  rw [List.take_succ_eq_append_getElem (by simpa using h)]
  simp [List.take_set_of_le]
/-- The blocks of a row's cells: made by the call, and not the row's own. -/
def Tof (base : Nat) (u : Value) : Nat → Prop := fun b => base ≤ b ∧ u.ownBlock ≠ some b
def CopyIn (w : World) (base : Nat) (p : Nat) (bx : Obj) (u : Value) (e z n k : Nat) (xs : List Value) (cs : List Dat) (wr : World) : Prop :=
  ∃ ys : List Value, wr.ownsRow base e z u n ys ∧ OwnsL wr (Tof base u) (ys.take k) (cs.take k) ∧ (∀ j, k ≤ j → ys[j]? = xs[j]?) ∧ wr.heap[p]? = some bx ∧ Below w.heap.size w wr
theorem CopyIn.step {w wr w2 : World} {base p g cap : Nat} {bx : Obj} {e n k : Nat} {xs zs : List Value} {cs : List Dat} {x : Value} {c : Dat} (ho : wr.ownsRow base e 1 (.slice (some ⟨g, 0, none⟩) n cap) n zs) (hown : OwnsL wr (Tof base (.slice (some ⟨g, 0, none⟩) n cap)) (zs.take k) (cs.take k)) (ht : ∀ j, k ≤ j → zs[j]? = xs[j]?) (hbx : wr.heap[p]? = some bx) (hb : Below w.heap.size w wr)
    (b2 : Below wr.heap.size wr w2) (ox : Owns w2 (fun b => wr.heap.size ≤ b) x c) (hg : g < wr.heap.size) (hbase : base ≤ g) (hp : p ≠ g) (hwg : w.heap.size ≤ g) (hkn : k < n) (hk : k < cs.length) (hc : cs[k] = c) :
    CopyIn w base p bx (.slice (some ⟨g, 0, none⟩) n cap) e 1 n (k + 1) xs cs (w2.setCell ⟨g, k, none⟩ x) := by
  have hzl : zs.length = n * 1 := ho.1
  refine ⟨zs.set k x, row_set (row_on ho b2) k x, ?_, ?_, box_far (box_on hbx b2) hp, (hb.trans (b2.mono hb.size)).setCell hwg x⟩
  · rw [take_set_succ zs k x (by omega), List.take_succ_eq_append_getElem hk, hc]
    refine own_push (base := base) hown (fun b h1 h2 => ⟨h1, fun h => h2 (by simp [Value.ownBlock] at h; exact h.symm)⟩) (fun b h1 h2 => h1.2 (by rw [h2]; rfl)) b2 ox hg (by omega)
  · intro j hj
    rw [List.getElem?_set_ne (by omega)]
    exact ht j (by omega)
theorem CopyIn.step2 {w wr w2 : World} {base p g cap : Nat} {bx : Obj} {e n k : Nat} {xs zs : List Value} {cs : List Dat} {x y : Value} {c : Dat} (ho : wr.ownsRow base e 2 (.slice (some ⟨g, 0, none⟩) n cap) n zs) (hown : OwnsL wr (Tof base (.slice (some ⟨g, 0, none⟩) n cap)) (zs.take (k * 2)) (cs.take (k * 2))) (ht : ∀ j, k * 2 ≤ j → zs[j]? = xs[j]?) (hbx : wr.heap[p]? = some bx) (hb : Below w.heap.size w wr)
    (b2 : Below wr.heap.size wr w2) (ox : Owns w2 (fun b => wr.heap.size ≤ b) x c) (hg : g < wr.heap.size) (hbase : base ≤ g) (hp : p ≠ g) (hwg : w.heap.size ≤ g) (hkn : k < n) (hy : xs[k * 2]? = some y) (hk : k * 2 + 1 < cs.length) (hc0 : cs[k * 2] = .lit y) (hc : cs[k * 2 + 1] = c) :
    CopyIn w base p bx (.slice (some ⟨g, 0, none⟩) n cap) e 2 n ((k + 1) * 2) xs cs (w2.setCell ⟨g, k * 2 + 1, none⟩ x) := by
  have hzl : zs.length = n * 2 := ho.1
  refine ⟨zs.set (k * 2 + 1) x, row_set (row_on ho b2) _ x, ?_, ?_, box_far (box_on hbx b2) hp, (hb.trans (b2.mono hb.size)).setCell hwg x⟩
  · rw [show (k + 1) * 2 = k * 2 + 1 + 1 by omega, take_set_succ zs (k * 2 + 1) x (by omega), List.take_succ_eq_append_getElem hk, hc, List.take_succ_eq_append_getElem (l := zs) (by omega), List.take_succ_eq_append_getElem (l := cs) (by omega), hc0]
    have hzy : zs[k * 2] = y := by
      have := ht (k * 2) (Nat.le_refl _)
      rw [List.getElem?_eq_getElem (by omega), hy] at this
      exact Option.some.inj this
    rw [hzy]
    have h1 : OwnsL wr (Tof base (.slice (some ⟨g, 0, none⟩) n cap)) (zs.take (k * 2) ++ [y]) (cs.take (k * 2) ++ [.lit y]) := hown.snoc (T := fun _ => False) (.lit _ _) (fun _ h => h) (fun _ h => h.elim) (fun _ _ h => h)
    exact own_push (base := base) h1 (fun b h1 h2 => ⟨h1, fun h => h2 (by simp [Value.ownBlock] at h; exact h.symm)⟩) (fun b h1 h2 => h1.2 (by rw [h2]; rfl)) b2 ox hg (by omega)
  · intro j hj
    rw [List.getElem?_set_ne (by omega)]
    exact ht j (by omega)
theorem box_grown {w w' : World} {row : Option Nat} {p : Nat} {o : Obj} (q : w.heap[p]? = some o) (hg : w.grownBy w' row) (hne : row ≠ some p) : w'.heap[p]? = some o := (hg.block p (Array.getElem?_eq_some_iff.1 q).1 (fun e => hne e.symm)).trans q
theorem row_shape {w : World} {base e z n : Nat} {v : Value} {xs : List Value} (h : w.ownsRow base e z v n xs) (hn : 0 < n) : ∃ g cap, v = .slice (some ⟨g, 0, none⟩) n cap := by
  rcases row_cases h with ⟨_, h, _⟩ | ⟨g, cap, rfl, _⟩
  · omega
  · exact ⟨g, cap, rfl⟩
theorem own_grow {wr w7 w8 : World} {base e z n : Nat} {u v' : Value} {xs news : List Value} {cs ds : List Dat} (hr : wr.ownsRow base e z u n xs) (ho : OwnsL wr (Tof base u) xs cs) (b7 : Below wr.heap.size wr w7) (hn : OwnsL w7 (fun b => wr.heap.size ≤ b ∧ b < w7.heap.size) news ds)
    (hg : w7.grownBy w8 u.ownBlock) (hat : v'.ownBlock = u.ownBlock ∨ v'.ownBlock = some w7.heap.size) (hbase : base ≤ wr.heap.size) : OwnsL w8 (Tof base v') (xs ++ news) (cs ++ ds) := by
  have hO : Only (fun b => u.ownBlock = some b) w7 w8 := ⟨hg.os, hg.tape, hg.output, hg.size, fun i hi hn => hg.block i hi (fun e => hn e.symm)⟩
  have hz7 := b7.size
  have k1 : OwnsL w8 (fun b => Tof base u b ∧ b < wr.heap.size) xs cs := (ho.lt.on b7).far hO (fun b hb _ hb' => hb.1.2 hb')
  have k2 := hn.far hO (fun b hb _ hb' => by have := (row_lt hr b hb').1; have := hb.1; omega)
  refine k1.append k2 (fun b hb => ⟨hb.1.1, fun hv => ?_⟩) (fun b hb => ⟨by have := hb.1; omega, fun hv => ?_⟩) (fun b hb hb' => by have := hb.2; have := hb'.1; omega)
  · rcases hat with h | h
    · exact hb.1.2 (h ▸ hv)
    · rw [h] at hv; simp at hv; have := hb.2; omega
  · rcases hat with h | h
    · have := (row_lt hr b (h ▸ hv)).1; have := hb.1; omega
    · rw [h] at hv; simp at hv; have := hb.2; omega
theorem At.lit1 (w : World) (a : Value) (e : TypeId) : At (w.alloc (.cells #[a] e)) (some ⟨w.heap.size, 0, none⟩) [a] := by
  refine .inr ⟨w.heap.size, 0, rfl, fun i hi => ?_⟩
  rw [cell_of_row _ _ _ _ _ _ (heap_alloc_new w _)]
  match i, hi with
  | 0, _ => rfl
theorem At.lit1n (w : World) (a : Value) (e : TypeId) {n : Nat} (h : w.heap.size = n) : At (w.alloc (.cells #[a] e)) (some ⟨n, 0, none⟩) [a] := h ▸ At.lit1 w a e
theorem row_ne {w : World} {base e z n : Nat} {v : Value} {xs : List Value} (h : w.ownsRow base e z v n xs) {p : Nat} (hp : p < base) : v.ownBlock ≠ some p := fun hv => by have := (row_lt h p hv).2; omega
theorem row_form {w : World} {base e z n : Nat} {v : Value} {xs : List Value} (h : w.ownsRow base e z v n xs) : ∃ A c, v = .slice A n c := by
  rcases row_cases h with ⟨rfl, rfl, _⟩ | ⟨g, cap, rfl, _⟩
  · exact ⟨none, 0, rfl⟩
  · exact ⟨_, cap, rfl⟩
end Go.Proofs.Ytcimpcocgmlmoaa
