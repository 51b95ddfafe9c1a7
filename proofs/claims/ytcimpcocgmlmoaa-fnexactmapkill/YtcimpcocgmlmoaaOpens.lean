/- Arguments opened to data: whatever the reading of the arguments met at a type, its cells read as data of that type's shape. No condition: plain lemmas. -/
import Derived.Test.YtcimpcocgmlmoaaMem
import Derived.Deep.Slices
import Derived.Deep.Fields
import Derived.ChangeSame
import Derived.ProofKit
import Derived.ShutString
import Derived.ChangeOld
namespace Go.Proofs.Ytcimpcocgmlmoaa
open Go.RowKit Go.ChangeShapes Go.WideShapes Go.Deep
set_option maxRecDepth 100000
set_option linter.unusedSimpArgs false
set_option linter.unusedVariables false

theorem ReadsL.nil (w : World) (B : Nat) : ReadsL w B [] [] := ⟨rfl, fun i h => by simp at h⟩
theorem ReadsL.append {w : World} {B : Nat} {vs us : List Value} {cs ds : List Dat} (h : ReadsL w B vs cs) (k : ReadsL w B us ds) : ReadsL w B (vs ++ us) (cs ++ ds) := by
  refine ⟨by simp [h.1, k.1], fun i a b => ?_⟩
  have hl := h.1
  by_cases hi : i < vs.length
  · rw [List.getElem_append_left hi, List.getElem_append_left (by omega)]; exact h.2 i hi (by omega)
  · rw [List.getElem_append_right (by omega), List.getElem_append_right (by omega)]
    simp only [List.length_append] at a b
    simp only [← hl]
    exact k.2 _ (by omega) (by omega)
theorem ReadsL.one {w : World} {B : Nat} {v : Value} {c : Dat} (h : Reads w B v c) : ReadsL w B [v] [c] := by
  refine ⟨rfl, fun i a b => ?_⟩
  match i, a with
  | 0, _ => exact h

/-- Whatever a reading at type t meets, its cells read as one of C's lists of data. -/
def Opens (P : Program) (t : TypeId) (C : List Dat → Prop) : Prop :=
  ∀ (H : Type) (enc : TypeId × Value → H) (w : World) (base : Nat) (spare : Nat → Bool) (held : Bool) (fuel : Nat) (cs : List Value) (x : DataW H × List MemPlace),
    DataW.trod enc P w base spare held fuel t cs = some x → ∃ ds, C ds ∧ ReadsL w w.heap.size cs ds
theorem Opens.weaken {P : Program} {t : TypeId} {C D : List Dat → Prop} (h : Opens P t C) (hC : ∀ ds, C ds → D ds) : Opens P t D := fun H enc w base spare held fuel cs x hx => by
  obtain ⟨ds, h1, h2⟩ := h H enc w base spare held fuel cs x hx
  exact ⟨ds, hC ds h1, h2⟩
theorem Opens.int {P : Program} {t : TypeId} {k : IntKind} (ht : P.underlying t = some (.int k)) : Opens P t (fun ds => ∃ n, ds = [.lit (.int k n)] ∧ (Lit.int k n).wf = true) := fun H enc w base spare held fuel cs x hx => by
  obtain ⟨n, rfl, _, hw⟩ := DataW.trod_int ht hx
  exact ⟨_, ⟨n, rfl, hw⟩, .one (.lit _)⟩
theorem Opens.bool {P : Program} {t : TypeId} (ht : P.underlying t = some .bool) : Opens P t (fun ds => ∃ b : Bool, ds = [.lit (.bool b)]) := fun H enc w base spare held fuel cs x hx => by
  obtain ⟨n, rfl, _⟩ := DataW.trod_bool ht hx
  exact ⟨_, ⟨n, rfl⟩, .one (.lit _)⟩
theorem Opens.slice {P : Program} {t e : TypeId} {z : Nat} {α : Type} (f : α → List Dat) (hf : ∀ a, (f a).length = z) (hz : 0 < z) (ht : P.underlying t = some (.slice e)) (hc : P.cellsOf e = z) (he : Opens P e (fun ds => ∃ a, ds = f a)) (e' : TypeId) :
    Opens P t (fun ds => ∃ l : List α, ds = [.row e' z l.length (l.flatMap f)]) := fun H enc w base spare held fuel cs x hx => by
  rcases open_slice ht hx with ⟨rfl, _⟩ | ⟨a, len, cap, m, n, D, Pl, rfl, hb, hl, hm, hmm, _, hi⟩
  · exact ⟨_, ⟨[], rfl⟩, .one (.nil none 0 e' z (Nat.zero_le _))⟩
  · have hlm : len ≤ m := by rw [hmm]; split <;> omega
    rw [hc] at hi
    have key : ∀ k, k ≤ len → ∃ (l : List α) (xs : List Value), l.length = k ∧ ReadsL w w.heap.size xs (l.flatMap f) ∧ ∀ j (h : j < xs.length), w.cell? (a.add j) = some xs[j] := by
      intro k
      induction k with
      | zero => exact fun _ => ⟨[], [], rfl, .nil _ _, fun j h => by simp at h⟩
      | succ k ih =>
        intro hk
        obtain ⟨l, xs, h1, h2, h3⟩ := ih (by omega)
        obtain ⟨cs', hcs, htr⟩ := hi k (by omega)
        obtain ⟨_, hcl, hat⟩ := World.cells?_some hcs
        obtain ⟨ds, ⟨b, rfl⟩, hr⟩ := he _ _ _ _ _ _ _ _ _ htr
        have hxl : xs.length = k * z := by rw [h2.1, ← h1]; exact flat_len f z l hf
        refine ⟨l ++ [b], xs ++ cs', by simp [h1], by rw [List.flatMap_append, List.flatMap_singleton]; exact h2.append hr, fun j hj => ?_⟩
        by_cases hjx : j < xs.length
        · rw [List.getElem_append_left hjx]; exact h3 j hjx
        · rw [List.getElem_append_right (by omega)]
          simp only [List.length_append] at hj
          have h4 := hat (j - xs.length) (by omega)
          rw [Go.Deep.add_add, hxl, show k * z + (j - k * z) = j by omega] at h4
          rw [h4, List.getElem?_eq_getElem (by omega)]
          simp only [hxl]
    obtain ⟨l, xs, h1, h2, h3⟩ := key len (Nat.le_refl _)
    subst h1
    have hfl : (l.flatMap f).length = l.length * z := flat_len f z l hf
    refine ⟨_, ⟨l, rfl⟩, .one ?_⟩
    by_cases h0 : l = []
    · subst h0; exact .nil _ _ _ _ hm
    · have hpos : 0 < xs.length := by
        rw [h2.1, hfl]
        exact Nat.mul_pos (List.length_pos_iff.2 h0) hz
      obtain ⟨b, off, spot⟩ := a
      have hs : spot = none := by simpa [Addr.add] using World.cell?_spot (h3 0 hpos)
      subst hs
      exact .row b off l.length cap e' z xs _ (World.block_lt_of_cell? w _ (h3 0 hpos)) hl hm hfl h2.1 (fun i hi => by have := h3 i hi; rw [Addr.add_lit] at this; exact this) h2.2
/-- The fields lie one behind another. -/
def contig (P : Program) : List Field → Nat → Nat → Bool
  | [], o, n => o == n
  | f :: fs, o, n => f.offset == o && contig P fs (o + P.cellsOf f.type) n
theorem contig_cells (P : Program) (fs : List Field) (o : Nat) (cs : List Value) (h : contig P fs o cs.length = true) : cs.drop o = (fs.map fun f => (cs.drop f.offset).take (P.cellsOf f.type)).flatten := by
  induction fs generalizing o with
  | nil => simp [contig] at h; subst h; simp
  | cons f fs ih =>
    simp only [contig, Bool.and_eq_true, beq_iff_eq] at h
    obtain ⟨rfl, h⟩ := h
    simp only [List.map_cons, List.flatten_cons]
    rw [← ih _ h, ← List.drop_drop, List.take_append_drop]
theorem Opens.struct {P : Program} {t : TypeId} {fs : Array Field} (ht : P.underlying t = some (.struct fs)) (hcg : contig P fs.toList 0 (P.cellsOf t) = true) (Cs : List (List Dat → Prop)) (hl : Cs.length = fs.size)
    (hC : ∀ (i : Nat) (h : i < fs.size), Opens P fs[i].type (Cs[i]'(by omega))) :
    Opens P t (fun ds => ∃ dss : List (List Dat), ∃ hd : dss.length = Cs.length, (∀ i (h : i < dss.length), (Cs[i]'(by omega)) dss[i]) ∧ ds = dss.flatten) := fun H enc w base spare held fuel cs x hx => by
  obtain ⟨xs, n, _, _, hcl, hxl, hf⟩ := DataW.trod_struct ht hx
  have hcs : cs = (fs.toList.map fun f => (cs.drop f.offset).take (P.cellsOf f.type)).flatten := by
    have := contig_cells P fs.toList 0 cs (by rw [hcl]; exact hcg)
    simpa using this
  have key : ∀ k, k ≤ fs.size → ∃ dss : List (List Dat), ∃ hd : dss.length = k, (∀ i (h : i < dss.length) (h' : i < Cs.length), Cs[i] dss[i]) ∧ ReadsL w w.heap.size ((fs.toList.take k).map fun f => (cs.drop f.offset).take (P.cellsOf f.type)).flatten dss.flatten := by
    intro k
    induction k with
    | zero => exact fun _ => ⟨[], rfl, fun i h => by simp at h, .nil _ _⟩
    | succ k ih =>
      intro hk
      obtain ⟨dss, hd, h1, h2⟩ := ih (by omega)
      have h3 := hf k fs[k] (Array.getElem?_eq_getElem (by omega))
      rw [List.getElem?_eq_getElem (by omega)] at h3
      obtain ⟨ds, h4, h5⟩ := hC k (by omega) _ _ _ _ _ _ _ _ _ h3
      refine ⟨dss ++ [ds], by simp [hd], fun i h h' => ?_, ?_⟩
      · by_cases hi : i < dss.length
        · rw [List.getElem_append_left hi]; exact h1 i hi h'
        · simp only [List.length_append, List.length_singleton] at h
          have : i = k := by omega
          subst this
          rw [List.getElem_append_right (by omega)]
          simp only [hd, Nat.sub_self, List.getElem_singleton]
          exact h4
      · rw [List.take_succ_eq_append_getElem (by simp; omega), List.map_append, List.flatten_append, List.flatten_append]
        refine h2.append ?_
        simpa using h5
  obtain ⟨dss, hd, h1, h2⟩ := key fs.size (Nat.le_refl _)
  rw [show fs.toList.take fs.size = fs.toList from List.take_of_length_le (by simp), ← hcs] at h2
  exact ⟨_, ⟨dss, hd.trans hl.symm, fun i h => h1 i h (by rw [hl, ← hd]; exact h), rfl⟩, h2⟩
theorem bytes_opens {P : Program} {t e : TypeId} (ht : P.underlying t = some (.slice e)) (he : P.underlying e = some (.int .u8)) (hc : P.cellsOf e = 1) : Opens P t (fun ds => ∃ l : List UInt8, ds = [bytesD l]) := by
  have h := Opens.slice (z := 1) (fun c : UInt8 => [Dat.lit (.int .u8 (c.toNat : Int))]) (fun _ => rfl) (by omega) ht hc ((Opens.int he).weaken (fun ds ⟨n, hn, hw⟩ => ⟨ub n, by
    have := wf_u8 hw
    rw [hn, ub_toNat, show n % 256 = n by omega]⟩)) 5
  refine h.weaken (fun ds ⟨l, hl⟩ => ⟨l, ?_⟩)
  rw [hl, bytesD, flat_one (fun c : UInt8 => Dat.lit (.int .u8 (c.toNat : Int)))]
end Go.Proofs.Ytcimpcocgmlmoaa
