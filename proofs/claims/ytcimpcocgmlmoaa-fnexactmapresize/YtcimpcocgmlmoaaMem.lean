/- Data in memory, whatever its shape: Reads (a value reads as a datum, in blocks below a bound), Owns (it lies in blocks of a set, each met once, which can be written), the same for lists of cells, and what keeps them. No condition: plain lemmas. -/
import Derived.Test.YtcimpcocgmlmoaaBytes
import Derived.Test.YtcimpcocgmlmoaaAppend
namespace Go.Proofs.Ytcimpcocgmlmoaa
open Go.RowKit
set_option maxRecDepth 100000
set_option linter.unusedSimpArgs false
set_option linter.unusedVariables false

/-- What one cell holds: a plain value, or a slice of n elements of type e of z cells each. -/
inductive Dat where
  | lit (u : Value)
  | row (e : TypeId) (z : Nat) (n : Nat) (cs : List Dat)

inductive Reads (w : World) (B : Nat) : Value → Dat → Prop
  | lit (u : Value) : Reads w B u (.lit u)
  | nil (A : Option Addr) (cap : Nat) (e : TypeId) (z : Nat) : cap ≤ maxLen → Reads w B (.slice A 0 cap) (.row e z 0 [])
  | row (b off n cap : Nat) (e : TypeId) (z : Nat) (xs : List Value) (cs : List Dat) : b < B → n ≤ cap → cap ≤ maxLen → cs.length = n * z → xs.length = cs.length →
      (∀ i (h : i < xs.length), w.cell? ⟨b, off + i, none⟩ = some xs[i]) → (∀ i (h : i < xs.length) (h' : i < cs.length), Reads w B xs[i] cs[i]) →
      Reads w B (.slice (some ⟨b, off, none⟩) n cap) (.row e z n cs)

theorem Reads.keep {w w' : World} {B : Nat} {v : Value} {c : Dat} (h : Reads w B v c) (hk : ∀ k, k < B → w'.heap[k]? = w.heap[k]?) : Reads w' B v c := by
  induction h with
  | lit u => exact .lit u
  | nil A cap e z h => exact .nil A cap e z h
  | row b off n cap e z xs cs hb hn hc hl hx hcell _ ih =>
    exact .row b off n cap e z xs cs hb hn hc hl hx (fun i hi => (World.cell?_of_block (a := ⟨b, off + i, none⟩) (hk b hb)).trans (hcell i hi)) ih
theorem Reads.mono {w : World} {B B' : Nat} {v : Value} {c : Dat} (h : Reads w B v c) (hB : B ≤ B') : Reads w B' v c := by
  induction h with
  | lit u => exact .lit u
  | nil A cap e z h => exact .nil A cap e z h
  | row b off n cap e z xs cs hb hn hc hl hx hcell _ ih => exact .row b off n cap e z xs cs (by omega) hn hc hl hx hcell ih
theorem Reads.on {w w' : World} {v : Value} {c : Dat} (h : Reads w w.heap.size v c) (hb : Below w.heap.size w w') : Reads w' w'.heap.size v c := (h.keep hb.block).mono hb.size
theorem Reads.drewN {w : World} {B : Nat} {v : Value} {c : Dat} (h : Reads w B v c) (n : Nat) : Reads (w.drewN n) B v c := h.keep (fun _ _ => rfl)
theorem Reads.row' {w : World} {B : Nat} {v : Value} {e z n : Nat} {cs : List Dat} (h : Reads w B v (.row e z n cs)) :
    ∃ A cap, v = .slice A n cap ∧ n ≤ cap ∧ cap ≤ maxLen ∧ cs.length = n * z ∧ (A = none → n = 0) ∧
      (cs = [] ∨ ∃ (b off : Nat) (xs : List Value), A = some ⟨b, off, none⟩ ∧ b < B ∧ xs.length = cs.length ∧ (∀ i (h : i < xs.length), w.cell? ⟨b, off + i, none⟩ = some xs[i]) ∧ ∀ i (h : i < xs.length) (h' : i < cs.length), Reads w B xs[i] cs[i]) := by
  cases h with
  | nil A cap e z h => exact ⟨A, cap, rfl, Nat.zero_le _, h, by simp, fun _ => rfl, .inl rfl⟩
  | row b off n cap e z xs cs hb hn hc hl hx hcell hr => exact ⟨_, cap, rfl, hn, hc, hl, fun h => by simp at h, .inr ⟨b, off, xs, rfl, hb, hx, hcell, hr⟩⟩
theorem Reads.ofBytes {w : World} {B : Nat} {A : Option Addr} {cap : Nat} {e : TypeId} {z n : Nat} {cs : List Dat} {xs : List Value} (hn : n ≤ cap) (hc : cap ≤ maxLen) (hl : cs.length = n * z) (hz : 0 < z)
    (h : cs = [] ∨ ∃ b off, A = some ⟨b, off, none⟩ ∧ b < B ∧ xs.length = cs.length ∧ (∀ i (h : i < xs.length), w.cell? ⟨b, off + i, none⟩ = some xs[i]) ∧ ∀ i (h : i < xs.length) (h' : i < cs.length), Reads w B xs[i] cs[i]) : Reads w B (.slice A n cap) (.row e z n cs) := by
  rcases h with h0 | ⟨b, off, rfl, hb, hx, hcell, hr⟩
  · subst h0
    have : n = 0 := by
      rcases Nat.mul_eq_zero.1 (show n * z = 0 from hl.symm) with h | h
      · exact h
      · omega
    subst this
    exact .nil A cap e z hc
  · exact .row b off n cap e z xs cs hb hn hc hl hx hcell hr

/-- A list of cells' values reads like a list of data. -/
def ReadsL (w : World) (B : Nat) (vs : List Value) (cs : List Dat) : Prop := vs.length = cs.length ∧ ∀ i (h : i < vs.length) (h' : i < cs.length), Reads w B vs[i] cs[i]
theorem ReadsL.on {w w' : World} {vs : List Value} {cs : List Dat} (h : ReadsL w w.heap.size vs cs) (hb : Below w.heap.size w w') : ReadsL w' w'.heap.size vs cs := ⟨h.1, fun i a b => (h.2 i a b).on hb⟩

inductive Owns (w : World) : (Nat → Prop) → Value → Dat → Prop
  | lit (S : Nat → Prop) (u : Value) : Owns w S u (.lit u)
  | nil (S : Nat → Prop) (e : TypeId) (z : Nat) : Owns w S (.slice none 0 0) (.row e z 0 [])
  | row (S : Nat → Prop) (g n cap : Nat) (e : TypeId) (z : Nat) (cur : Array Value) (xs : List Value) (cs : List Dat) (F : Nat → Nat → Prop) : S g → w.heap[g]? = some (.cells cur e (0, 0)) → n ≤ cap → cap ≤ maxLen → cur.size = cap * z → cs.length = n * z → cur.toList.take (n * z) = xs →
      (∀ i (h : i < xs.length) (h' : i < cs.length), Owns w (F i) xs[i] cs[i]) → (∀ i b, F i b → S b ∧ b ≠ g) → (∀ i j b, i ≠ j → F i b → ¬ F j b) →
      Owns w S (.slice (some ⟨g, 0, none⟩) n cap) (.row e z n cs)
/-- The same of a list of cells: no two of them meet one block. -/
def OwnsL (w : World) (S : Nat → Prop) (vs : List Value) (cs : List Dat) : Prop :=
  vs.length = cs.length ∧ ∃ F : Nat → Nat → Prop, (∀ i (h : i < vs.length) (h' : i < cs.length), Owns w (F i) vs[i] cs[i]) ∧ (∀ i b, F i b → S b) ∧ (∀ i j b, i ≠ j → F i b → ¬ F j b)

theorem Owns.mono {w : World} {S T : Nat → Prop} {v : Value} {c : Dat} (h : Owns w S v c) (hS : ∀ b, S b → T b) : Owns w T v c := by
  cases h with
  | lit S u => exact .lit _ _
  | nil S e z => exact .nil _ e z
  | row S g n cap e z cur xs cs F hg hh hn hc hs hl hx ho hF hd => exact .row T g n cap e z cur xs cs F (hS g hg) hh hn hc hs hl hx ho (fun i b hb => ⟨hS b (hF i b hb).1, (hF i b hb).2⟩) hd
theorem Owns.keep {w w' : World} {S : Nat → Prop} {v : Value} {c : Dat} (h : Owns w S v c) (hk : ∀ b, S b → b < w.heap.size → w'.heap[b]? = w.heap[b]?) : Owns w' S v c := by
  induction h with
  | lit S u => exact .lit _ u
  | nil S e z => exact .nil _ e z
  | row S g n cap e z cur xs cs F hg hh hn hc hs hl hx ho hF hd ih =>
    exact .row S g n cap e z cur xs cs F hg ((hk g hg (Array.getElem?_eq_some_iff.1 hh).1).trans hh) hn hc hs hl hx (fun i a b => ih i a b (fun k hb => hk k (hF i k hb).1)) hF hd
theorem Owns.lt {w : World} {S : Nat → Prop} {v : Value} {c : Dat} (h : Owns w S v c) : Owns w (fun b => S b ∧ b < w.heap.size) v c := by
  induction h with
  | lit S u => exact .lit _ u
  | nil S e z => exact .nil _ e z
  | row S g n cap e z cur xs cs F hg hh hn hc hs hl hx ho hF hd ih =>
    exact .row _ g n cap e z cur xs cs (fun i b => F i b ∧ b < w.heap.size) ⟨hg, (Array.getElem?_eq_some_iff.1 hh).1⟩ hh hn hc hs hl hx ih (fun i b hb => ⟨⟨(hF i b hb.1).1, hb.2⟩, (hF i b hb.1).2⟩) (fun i j b hij h1 h2 => hd i j b hij h1.1 h2.1)
theorem Owns.reads {w : World} {S : Nat → Prop} {v : Value} {c : Dat} (h : Owns w S v c) : Reads w w.heap.size v c := by
  induction h with
  | lit S u => exact .lit u
  | nil S e z => exact .nil _ _ _ _ (Nat.zero_le _)
  | row S g n cap e z cur xs cs F hg hh hn hc hs hl hx ho hF hd ih =>
    have hle : n * z ≤ cur.toList.length := by
      rw [Array.length_toList, hs]; exact Nat.mul_le_mul_right _ hn
    have hxl : xs.length = cs.length := by rw [← hx, hl, List.length_take]; omega
    refine .row g 0 n cap e z xs cs (Array.getElem?_eq_some_iff.1 hh).1 hn hc hl hxl (fun i hi => ?_) ih
    rw [Nat.zero_add, cell_of_row w g i cur e (0, 0) hh]
    subst hx
    simp at hi ⊢
theorem Owns.row' {w : World} {S : Nat → Prop} {v : Value} {e z n : Nat} {cs : List Dat} (h : Owns w S v (.row e z n cs)) :
    (v = .slice none 0 0 ∧ n = 0 ∧ cs = []) ∨ ∃ (g cap : Nat) (cur : Array Value) (xs : List Value), v = .slice (some ⟨g, 0, none⟩) n cap ∧ S g ∧ w.heap[g]? = some (.cells cur e (0, 0)) ∧ n ≤ cap ∧ cap ≤ maxLen ∧ cur.size = cap * z ∧ cs.length = n * z ∧ cur.toList.take (n * z) = xs ∧ OwnsL w (fun b => S b ∧ b ≠ g) xs cs := by
  cases h with
  | nil S e z => exact .inl ⟨rfl, rfl, rfl⟩
  | row S g n cap e z cur xs cs F hg hh hn hc hs hl hx ho hF hd =>
    have hle : n * z ≤ cur.toList.length := by
      rw [Array.length_toList, hs]; exact Nat.mul_le_mul_right _ hn
    have hxl : xs.length = cs.length := by rw [← hx, hl, List.length_take]; omega
    exact .inr ⟨g, cap, cur, xs, rfl, hg, hh, hn, hc, hs, hl, hx, hxl, F, ho, hF, hd⟩
theorem OwnsL.row {w : World} {S : Nat → Prop} {g n cap e z : Nat} {cur : Array Value} {xs : List Value} {cs : List Dat} (hg : S g) (hh : w.heap[g]? = some (.cells cur e (0, 0))) (hn : n ≤ cap) (hc : cap ≤ maxLen) (hs : cur.size = cap * z) (hl : cs.length = n * z) (hx : cur.toList.take (n * z) = xs)
    (h : OwnsL w (fun b => S b ∧ b ≠ g) xs cs) : Owns w S (.slice (some ⟨g, 0, none⟩) n cap) (.row e z n cs) := by
  obtain ⟨_, F, ho, hF, hd⟩ := h
  exact .row S g n cap e z cur xs cs F hg hh hn hc hs hl hx ho hF hd
theorem OwnsL.mono {w : World} {S T : Nat → Prop} {vs : List Value} {cs : List Dat} (h : OwnsL w S vs cs) (hS : ∀ b, S b → T b) : OwnsL w T vs cs := by
  obtain ⟨hl, F, ho, hF, hd⟩ := h
  exact ⟨hl, F, ho, fun i b hb => hS b (hF i b hb), hd⟩
theorem OwnsL.keep {w w' : World} {S : Nat → Prop} {vs : List Value} {cs : List Dat} (h : OwnsL w S vs cs) (hk : ∀ b, S b → b < w.heap.size → w'.heap[b]? = w.heap[b]?) : OwnsL w' S vs cs := by
  obtain ⟨hl, F, ho, hF, hd⟩ := h
  exact ⟨hl, F, fun i a b => (ho i a b).keep (fun k hb => hk k (hF i k hb)), hF, hd⟩
theorem OwnsL.lt {w : World} {S : Nat → Prop} {vs : List Value} {cs : List Dat} (h : OwnsL w S vs cs) : OwnsL w (fun b => S b ∧ b < w.heap.size) vs cs := by
  obtain ⟨hl, F, ho, hF, hd⟩ := h
  exact ⟨hl, fun i b => F i b ∧ b < w.heap.size, fun i a b => (ho i a b).lt, fun i b hb => ⟨hF i b hb.1, hb.2⟩, fun i j b hij h1 h2 => hd i j b hij h1.1 h2.1⟩
theorem OwnsL.reads {w : World} {S : Nat → Prop} {vs : List Value} {cs : List Dat} (h : OwnsL w S vs cs) : ReadsL w w.heap.size vs cs := by
  obtain ⟨hl, F, ho, hF, hd⟩ := h
  exact ⟨hl, fun i a b => (ho i a b).reads⟩
theorem OwnsL.nil (w : World) (S : Nat → Prop) : OwnsL w S [] [] := ⟨rfl, fun _ _ => False, fun i h => by simp at h, fun _ _ h => h.elim, fun _ _ _ _ h => h.elim⟩
theorem OwnsL.append {w : World} {S T U : Nat → Prop} {vs us : List Value} {cs ds : List Dat} (h : OwnsL w S vs cs) (k : OwnsL w T us ds) (hS : ∀ b, S b → U b) (hT : ∀ b, T b → U b) (hd : ∀ b, S b → ¬ T b) : OwnsL w U (vs ++ us) (cs ++ ds) := by
  obtain ⟨hl, F, ho, hF, hdF⟩ := h
  obtain ⟨kl, G, ko, kG, kd⟩ := k
  refine ⟨by simp [hl, kl], fun i b => (i < vs.length ∧ F i b) ∨ (vs.length ≤ i ∧ G (i - vs.length) b), fun i a b => ?_, ?_, ?_⟩
  · by_cases hi : i < vs.length
    · rw [List.getElem_append_left hi, List.getElem_append_left (by omega)]
      exact (ho i hi (by omega)).mono (fun b hb => .inl ⟨hi, hb⟩)
    · rw [List.getElem_append_right (by omega), List.getElem_append_right (by omega)]
      simp only [List.length_append] at a b
      have := ko (i - vs.length) (by omega) (by omega)
      simp only [← hl]
      exact this.mono (fun b hb => .inr ⟨by omega, hb⟩)
  · rintro i b (⟨_, h⟩ | ⟨_, h⟩)
    · exact hS b (hF i b h)
    · exact hT b (kG _ b h)
  · rintro i j b hij (⟨h1, h⟩ | ⟨h1, h⟩) (⟨k1, k⟩ | ⟨k1, k⟩)
    · exact hdF i j b hij h k
    · exact hd b (hF i b h) (kG _ b k)
    · exact hd b (hF j b k) (kG _ b h)
    · exact kd _ _ b (by omega) h k
theorem OwnsL.one {w : World} {S : Nat → Prop} {v : Value} {c : Dat} (h : Owns w S v c) : OwnsL w S [v] [c] := by
  refine ⟨rfl, fun i b => i = 0 ∧ S b, fun i a b => ?_, fun _ _ h => h.2, fun i j b hij h k => by omega⟩
  match i, a with
  | 0, _ => exact h.mono (fun b hb => ⟨rfl, hb⟩)
theorem OwnsL.snoc {w : World} {S T U : Nat → Prop} {vs : List Value} {cs : List Dat} {v : Value} {c : Dat} (h : OwnsL w S vs cs) (k : Owns w T v c) (hS : ∀ b, S b → U b) (hT : ∀ b, T b → U b) (hd : ∀ b, S b → ¬ T b) : OwnsL w U (vs ++ [v]) (cs ++ [c]) := h.append (.one k) hS hT hd
theorem OwnsL.two {w : World} {S T U : Nat → Prop} {v u : Value} {c d : Dat} (h : Owns w S v c) (k : Owns w T u d) (hS : ∀ b, S b → U b) (hT : ∀ b, T b → U b) (hd : ∀ b, S b → ¬ T b) : OwnsL w U [v, u] [c, d] := (OwnsL.one h).append (.one k) hS hT hd

/-- w' is w but for blocks of S and new ones. -/
structure Only (S : Nat → Prop) (w w' : World) : Prop where
  os : w'.os = w.os
  tape : w'.tape = w.tape
  output : w'.output = w.output
  size : w.heap.size ≤ w'.heap.size
  block : ∀ i, i < w.heap.size → ¬ S i → w'.heap[i]? = w.heap[i]?
theorem Only.refl (S : Nat → Prop) (w : World) : Only S w w := ⟨rfl, rfl, rfl, Nat.le_refl _, fun _ _ _ => rfl⟩
theorem Only.trans {S : Nat → Prop} {a b c : World} (h : Only S a b) (k : Only S b c) : Only S a c :=
  ⟨k.os.trans h.os, k.tape.trans h.tape, k.output.trans h.output, Nat.le_trans h.size k.size, fun i hi hne => (k.block i (Nat.lt_of_lt_of_le hi h.size) hne).trans (h.block i hi hne)⟩
theorem Only.mono {S T : Nat → Prop} {w w' : World} (h : Only S w w') (hS : ∀ b, S b → T b) : Only T w w' := ⟨h.os, h.tape, h.output, h.size, fun i hi hn => h.block i hi (fun hs => hn (hS i hs))⟩
theorem Only.of_below {w w' : World} (h : Below w.heap.size w w') (S : Nat → Prop) : Only S w w' := ⟨h.os, h.tape, h.output, h.size, fun i hi _ => h.block i hi⟩
theorem Only.below {S : Nat → Prop} {w w' : World} {B : Nat} (h : Only S w w') (hB : B ≤ w.heap.size) (hS : ∀ b, S b → B ≤ b) : Below B w w' := ⟨h.os, h.tape, h.output, h.size, fun k hk => h.block k (by omega) (fun hs => by have := hS k hs; omega)⟩
theorem Only.of_grown {w w' : World} {g : Nat} (h : w.grownBy w' (some g)) {S : Nat → Prop} (hS : S g) : Only S w w' := ⟨h.os, h.tape, h.output, h.size, fun i hi hn => h.block i hi (fun e => hn (by injection e with e; exact e ▸ hS))⟩
theorem Only.drewN {S : Nat → Prop} {a w : World} (h : Only S a w) (n : Nat) : Only S a (w.drewN n) := ⟨h.os, h.tape, h.output, h.size, h.block⟩
theorem Only.setCell {S : Nat → Prop} {a w : World} {g j : Nat} (h : Only S a w) (hS : S g) (u : Value) : Only S a (w.setCell ⟨g, j, none⟩ u) :=
  ⟨h.os, h.tape, h.output, by simpa [World.setCell] using h.size, fun i hi hn => (Below.heap_setCell w ⟨g, j, none⟩ u i (by rintro rfl; exact hn hS)).trans (h.block i hi hn)⟩
theorem Owns.far {w w' : World} {S T : Nat → Prop} {v : Value} {c : Dat} (h : Owns w S v c) (hg : Only T w w') (hd : ∀ b, S b → b < w.heap.size → ¬ T b) : Owns w' S v c := h.keep (fun b hb hl => hg.block b hl (hd b hb hl))
theorem OwnsL.far {w w' : World} {S T : Nat → Prop} {v : List Value} {c : List Dat} (h : OwnsL w S v c) (hg : Only T w w') (hd : ∀ b, S b → b < w.heap.size → ¬ T b) : OwnsL w' S v c := h.keep (fun b hb hl => hg.block b hl (hd b hb hl))
theorem Owns.on {w w' : World} {S : Nat → Prop} {v : Value} {c : Dat} (h : Owns w S v c) (hb : Below w.heap.size w w') : Owns w' S v c := h.keep (fun b _ hl => hb.block b hl)
theorem OwnsL.on {w w' : World} {S : Nat → Prop} {v : List Value} {c : List Dat} (h : OwnsL w S v c) (hb : Below w.heap.size w w') : OwnsL w' S v c := h.keep (fun b _ hl => hb.block b hl)
theorem Owns.drewN {w : World} {S : Nat → Prop} {v : Value} {c : Dat} (h : Owns w S v c) (n : Nat) : Owns (w.drewN n) S v c := h.keep (fun _ _ _ => rfl)
theorem OwnsL.drewN {w : World} {S : Nat → Prop} {v : List Value} {c : List Dat} (h : OwnsL w S v c) (n : Nat) : OwnsL (w.drewN n) S v c := h.keep (fun _ _ _ => rfl)

theorem OwnsL.pick {w : World} {S : Nat → Prop} {vs : List Value} {cs : List Dat} (h : OwnsL w S vs cs) {i : Nat} (hi : i < vs.length) (hi' : i < cs.length) :
    ∃ T : Nat → Prop, Owns w T vs[i] cs[i] ∧ (∀ b, T b → S b) ∧ ∀ w' c', Owns w' T vs[i] c' → Only T w w' → OwnsL w' S vs (cs.set i c') := by
  obtain ⟨hl, F, ho, hF, hd⟩ := h
  refine ⟨F i, ho i hi hi', hF i, fun w' c' h' hg => ⟨by simp [hl], F, fun j a b => ?_, hF, hd⟩⟩
  by_cases hij : j = i
  · subst hij; simpa using h'
  · rw [List.getElem_set_ne (by omega)]
    exact (ho j a (by simpa using b)).far hg (fun b hb _ hb' => hd j i b hij hb hb')
/-- One more cell is laid behind those that are owned: it was made by a call, and stored into block g. -/
theorem OwnsL.push {wr w1 : World} {g j : Nat} {xs : List Value} {cs : List Dat} {v u : Value} {c : Dat} (h : OwnsL wr (fun b => g < b) xs cs) (hb : Below wr.heap.size wr w1) (hv : Owns w1 (fun b => wr.heap.size ≤ b) v c) (hg : g < wr.heap.size) :
    OwnsL (w1.setCell ⟨g, j, none⟩ u) (fun b => g < b) (xs ++ [v]) (cs ++ [c]) := by
  have h1 : OwnsL w1 (fun b => g < b ∧ b < wr.heap.size) xs cs := h.lt.on hb
  have h2 := h1.snoc hv (U := fun b => g < b) (fun b hb => hb.1) (fun b hb => by omega) (fun b hb hb' => by omega)
  exact h2.keep (fun b hb _ => Below.heap_setCell _ _ _ _ (by simp; omega))
theorem OwnsL.push2 {wr w1 : World} {g j j' : Nat} {xs : List Value} {cs : List Dat} {v u u' : Value} {c : Dat} (x : Value) (h : OwnsL wr (fun b => g < b) xs cs) (hb : Below wr.heap.size wr w1) (hv : Owns w1 (fun b => wr.heap.size ≤ b) v c) (hg : g < wr.heap.size) :
    OwnsL ((w1.setCell ⟨g, j, none⟩ u).setCell ⟨g, j', none⟩ u') (fun b => g < b) (xs ++ [x, v]) (cs ++ [.lit x, c]) := by
  have h1 : OwnsL w1 (fun b => g < b ∧ b < wr.heap.size) xs cs := h.lt.on hb
  have h2 := h1.append (OwnsL.two (U := fun b => wr.heap.size ≤ b) (Owns.lit (fun _ => False) x) hv (fun _ h => h.elim) (fun _ h => h) (fun _ h => h.elim)) (U := fun b => g < b) (fun b hb => hb.1) (fun b hb => by omega) (fun b hb hb' => by omega)
  exact h2.keep (fun b hb _ => (Below.heap_setCell _ _ _ _ (by simp; omega)).trans (Below.heap_setCell _ _ _ _ (by simp; omega)))
theorem bal1 (w : World) (o : Obj) : Below w.heap.size w (w.alloc o) := (Below.refl _ _).alloc (Nat.le_refl _) _
theorem bal2 (w : World) (o p : Obj) : Below w.heap.size w ((w.alloc o).alloc p) := (bal1 w o).alloc (by simp) _
theorem bal3 (w : World) (o p q : Obj) : Below w.heap.size w (((w.alloc o).alloc p).alloc q) := (bal2 w o p).alloc (by simp; omega) _
theorem bal4 (w : World) (o p q r : Obj) : Below w.heap.size w ((((w.alloc o).alloc p).alloc q).alloc r) := (bal3 w o p q).alloc (by simp; omega) _
theorem bcell {W w1 : World} (hb : Below W.heap.size W w1) : (∀ b o, b < W.heap.size → w1.cell? ⟨b, o, none⟩ = W.cell? ⟨b, o, none⟩) ∧ (∀ b o, b < W.heap.size → w1.frozen? ⟨b, o, none⟩ = W.frozen? ⟨b, o, none⟩) :=
  ⟨fun b o h => hb.cell (p := ⟨b, o, none⟩) h, fun b o h => hb.frozen (p := ⟨b, o, none⟩) h⟩
theorem box_on {w w' : World} {p : Nat} {o : Obj} (q : w.heap[p]? = some o) (hb : Below w.heap.size w w') : w'.heap[p]? = some o := (hb.block p (Array.getElem?_eq_some_iff.1 q).1).trans q
theorem box_far {w : World} {p g j : Nat} {o : Obj} {u : Value} (q : w.heap[p]? = some o) (hne : p ≠ g) : (w.setCell ⟨g, j, none⟩ u).heap[p]? = some o := (Below.heap_setCell _ _ _ _ (by simpa using hne)).trans q
theorem box_set {w : World} {p i : Nat} {cs : Array Value} {t : TypeId} {u : Value} (h : w.heap[p]? = some (.cells cs t (0, 0))) : (w.setCell ⟨p, i, none⟩ u).heap[p]? = some (.cells (cs.setIfInBounds i u) t (0, 0)) := heap_setCell_same w p i cs t u h
theorem box_only {w w' : World} {S : Nat → Prop} {p : Nat} {o : Obj} (q : w.heap[p]? = some o) (hb : Only S w w') (hS : ¬ S p) : w'.heap[p]? = some o := (hb.block p (Array.getElem?_eq_some_iff.1 q).1 hS).trans q
theorem al1 (w : World) (o : Obj) : (w.alloc o).heap[w.heap.size]? = some o := heap_alloc_new w o
theorem al2 (w : World) (o p : Obj) : ((w.alloc o).alloc p).heap[w.heap.size]? = some o ∧ ((w.alloc o).alloc p).heap[w.heap.size + 1]? = some p :=
  ⟨box_on (al1 w o) (bal1 _ _), by have := al1 (w.alloc o) p; simpa using this⟩
theorem al3 (w : World) (o p q : Obj) : (((w.alloc o).alloc p).alloc q).heap[w.heap.size]? = some o ∧ (((w.alloc o).alloc p).alloc q).heap[w.heap.size + 1]? = some p ∧ (((w.alloc o).alloc p).alloc q).heap[w.heap.size + 1 + 1]? = some q :=
  ⟨box_on (al2 w o p).1 (bal1 _ _), box_on (al2 w o p).2 (bal1 _ _), by have := al1 ((w.alloc o).alloc p) q; simpa using this⟩
theorem box2 {w : World} {p : Nat} {a b : Value} {t : TypeId} (h : w.heap[p]? = some (.cells #[a, b] t (0, 0))) : w.cell? ⟨p, 0, none⟩ = some a ∧ w.cell? ⟨p, 1, none⟩ = some b ∧ ∀ o, w.frozen? ⟨p, o, none⟩ = false :=
  ⟨by rw [cell_of_row w p 0 _ _ _ h]; rfl, by rw [cell_of_row w p 1 _ _ _ h]; rfl, fun o => frozen_of_row w p o _ _ h⟩
theorem box4 {w : World} {p : Nat} {a b c d : Value} {t : TypeId} (h : w.heap[p]? = some (.cells #[a, b, c, d] t (0, 0))) : w.cell? ⟨p, 0, none⟩ = some a ∧ w.cell? ⟨p, 1, none⟩ = some b ∧ w.cell? ⟨p, 2, none⟩ = some c ∧ w.cell? ⟨p, 3, none⟩ = some d ∧ ∀ o, w.frozen? ⟨p, o, none⟩ = false :=
  ⟨by rw [cell_of_row w p 0 _ _ _ h]; rfl, by rw [cell_of_row w p 1 _ _ _ h]; rfl, by rw [cell_of_row w p 2 _ _ _ h]; rfl, by rw [cell_of_row w p 3 _ _ _ h]; rfl, fun o => frozen_of_row w p o _ _ h⟩
/-- The blocks of the call's own box and result. -/
def Mid (a b : Nat) : Nat → Prop := fun k => a ≤ k ∧ k < b
theorem Mid.mk {a b k : Nat} (h : a ≤ k) (h' : k < b) : Mid a b k := ⟨h, h'⟩
theorem Owns.past {w w' : World} {a b : Nat} {v : Value} {c : Dat} (h : Owns w (fun k => b ≤ k) v c) (hO : Only (Mid a b) w w') (hab : a ≤ b) : Owns w' (fun k => a ≤ k) v c := (h.far hO (fun k hk _ hk' => by have := hk'.2; omega)).mono (fun k hk => by omega)
theorem OwnsL.past {w w' : World} {a b : Nat} {v : List Value} {c : List Dat} (h : OwnsL w (fun k => b ≤ k) v c) (hO : Only (Mid a b) w w') (hab : a ≤ b) : OwnsL w' (fun k => a ≤ k) v c := (h.far hO (fun k hk _ hk' => by have := hk'.2; omega)).mono (fun k hk => by omega)
theorem bpast {w w1 w' : World} {b : Nat} (h : Below w.heap.size w w1) (hO : Only (Mid w.heap.size b) w1 w') : Below w.heap.size w w' := h.trans (hO.below h.size (fun _ hk => hk.1))
/-- Block g of w is a row of n cells of type e, whose first ones are xs. -/
def RowV (w : World) (g n : Nat) (e : TypeId) (xs : List Value) : Prop :=
  ∃ cur : Array Value, w.heap[g]? = some (.cells cur e (0, 0)) ∧ cur.size = n ∧ xs.length ≤ n ∧ cur.toList.take xs.length = xs
theorem RowV.step {w : World} {g n : Nat} {e : TypeId} {xs : List Value} (h : RowV w g n e xs) (hk : xs.length < n) (u : Value) : RowV (w.setCell ⟨g, xs.length, none⟩ u) g n e (xs ++ [u]) := by
  obtain ⟨cur, hg, hs, hl, ht⟩ := h
  refine ⟨cur.setIfInBounds xs.length u, heap_setCell_same w g xs.length cur _ _ hg, by simpa using hs, by simp; omega, ?_⟩
  simp only [Array.toList_setIfInBounds, List.length_append, List.length_singleton]
  rw [List.take_succ_eq_append_getElem (by simp; omega)]
  simp only [List.take_set_of_le (Nat.le_refl _), ht, List.getElem_set_self]
theorem RowV.keep {w w' : World} {g n : Nat} {e : TypeId} {xs : List Value} (h : RowV w g n e xs) (hk : w'.heap[g]? = w.heap[g]?) : RowV w' g n e xs := by
  obtain ⟨cur, hg, r⟩ := h
  exact ⟨cur, hk.trans hg, r⟩
theorem RowV.lt {w : World} {g n : Nat} {e : TypeId} {xs : List Value} (h : RowV w g n e xs) : g < w.heap.size := by
  obtain ⟨cur, hg, _⟩ := h
  exact (Array.getElem?_eq_some_iff.1 hg).1
theorem RowV.cell {w : World} {g n : Nat} {e : TypeId} {xs : List Value} (h : RowV w g n e xs) {k : Nat} (hk : k < n) : ∃ v, w.cell? ⟨g, k, none⟩ = some v := by
  obtain ⟨cur, hg, hs, hl, ht⟩ := h
  exact ⟨cur[k], by rw [cell_of_row w g k cur _ _ hg]; simp⟩
theorem RowV.frozen {w : World} {g n : Nat} {e : TypeId} {xs : List Value} (h : RowV w g n e xs) (k : Nat) : w.frozen? ⟨g, k, none⟩ = false := by
  obtain ⟨cur, hg, _⟩ := h
  exact frozen_of_row w g k cur _ hg
theorem RowV.new (w : World) (zs : Array Value) (e : TypeId) : RowV (w.alloc (.cells zs e)) w.heap.size zs.size e [] :=
  ⟨_, heap_alloc_new w _, rfl, Nat.zero_le _, rfl⟩
theorem RowV.owns {w : World} {g n z : Nat} {e : TypeId} {xs : List Value} {cs : List Dat} (h : RowV w g (n * z) e xs) (ho : OwnsL w (fun b => g < b) xs cs) (hl : cs.length = n * z) (hn : n ≤ maxLen) : Owns w (fun b => g ≤ b) (.slice (some ⟨g, 0, none⟩) n n) (.row e z n cs) := by
  obtain ⟨cur, hg, hs, hl2, ht⟩ := h
  have hx : xs.length = n * z := ho.1.trans hl
  exact OwnsL.row (xs := xs) (Nat.le_refl _) hg (Nat.le_refl _) hn hs hl (by rw [← hx]; exact ht) (ho.mono (fun b hb => ⟨by omega, by omega⟩))
theorem OwnsL.setLit {w : World} {S : Nat → Prop} {vs : List Value} {cs : List Dat} (h : OwnsL w S vs cs) (i : Nat) (u : Value) : OwnsL w S (vs.set i u) (cs.set i (.lit u)) := by
  obtain ⟨hl, F, ho, hF, hd⟩ := h
  refine ⟨by simp [hl], F, fun j a b => ?_, hF, hd⟩
  simp only [List.length_set] at a b
  by_cases hij : i = j
  · subst hij; simp only [List.getElem_set_self]; exact .lit _ _
  · rw [List.getElem_set_ne hij, List.getElem_set_ne hij]; exact ho j a b
/-- Block g of w: cap elements of z cells of type e; the cells of the first n are xs. -/
def Rw (w : World) (g : Nat) (e : TypeId) (z n cap : Nat) (xs : List Value) : Prop := ∃ cur : Array Value, w.heap[g]? = some (.cells cur e (0, 0)) ∧ cur.size = cap * z ∧ cur.toList.take (n * z) = xs
theorem Rw.keep {w w' : World} {g : Nat} {e : TypeId} {z n cap : Nat} {xs : List Value} (h : Rw w g e z n cap xs) (hk : w'.heap[g]? = w.heap[g]?) : Rw w' g e z n cap xs := by
  obtain ⟨cur, hg, r⟩ := h
  exact ⟨cur, hk.trans hg, r⟩
theorem Rw.lt {w : World} {g : Nat} {e : TypeId} {z n cap : Nat} {xs : List Value} (h : Rw w g e z n cap xs) : g < w.heap.size := by
  obtain ⟨cur, hg, r⟩ := h
  exact (Array.getElem?_eq_some_iff.1 hg).1
theorem Rw.set {w : World} {g : Nat} {e : TypeId} {z n cap : Nat} {xs : List Value} (h : Rw w g e z n cap xs) (i : Nat) (u : Value) : Rw (w.setCell ⟨g, i, none⟩ u) g e z n cap (xs.set i u) := by
  obtain ⟨cur, hg, hs, hx⟩ := h
  refine ⟨cur.setIfInBounds i u, heap_setCell_same w g i cur _ _ hg, by simpa using hs, ?_⟩
  rw [Array.toList_setIfInBounds, ← hx, List.take_set]
theorem Rw.cell {w : World} {g : Nat} {e : TypeId} {z n cap : Nat} {xs : List Value} (h : Rw w g e z n cap xs) {i : Nat} (hi : i < xs.length) : w.cell? ⟨g, i, none⟩ = some xs[i] := by
  obtain ⟨cur, hg, hs, hx⟩ := h
  rw [cell_of_row w g i cur _ _ hg]
  subst hx
  simp at hi ⊢
theorem Rw.frozen {w : World} {g : Nat} {e : TypeId} {z n cap : Nat} {xs : List Value} (h : Rw w g e z n cap xs) (k : Nat) : w.frozen? ⟨g, k, none⟩ = false := by
  obtain ⟨cur, hg, _⟩ := h
  exact frozen_of_row w g k cur _ hg
theorem Rw.owns {w : World} {S : Nat → Prop} {g : Nat} {e : TypeId} {z n cap : Nat} {xs : List Value} {cs : List Dat} (h : Rw w g e z n cap xs) (hS : S g) (ho : OwnsL w (fun b => S b ∧ b ≠ g) xs cs) (hn : n ≤ cap) (hc : cap ≤ maxLen) (hl : cs.length = n * z) : Owns w S (.slice (some ⟨g, 0, none⟩) n cap) (.row e z n cs) := by
  obtain ⟨cur, hg, hs, hx⟩ := h
  exact OwnsL.row hS hg hn hc hs hl hx ho
theorem Owns.rw' {w : World} {S : Nat → Prop} {v : Value} {e z n : Nat} {cs : List Dat} (h : Owns w S v (.row e z n cs)) :
    (v = .slice none 0 0 ∧ n = 0 ∧ cs = []) ∨ ∃ (g cap : Nat) (xs : List Value), v = .slice (some ⟨g, 0, none⟩) n cap ∧ S g ∧ Rw w g e z n cap xs ∧ n ≤ cap ∧ cap ≤ maxLen ∧ cs.length = n * z ∧ xs.length = cs.length ∧ OwnsL w (fun b => S b ∧ b ≠ g) xs cs := by
  rcases h.row' with h | ⟨g, cap, cur, xs, rfl, hS, hh, hn, hc, hs, hl, hx, ho⟩
  · exact .inl h
  · exact .inr ⟨g, cap, xs, rfl, hS, ⟨cur, hh, hs, hx⟩, hn, hc, hl, ho.1, ho⟩
/-- Marks laid into the first elements of a list, element by element. -/
def mkL {α : Type} (m : Int → α → α) (s : α → Nat) : Int → List α → Nat → List α
  | _, ls, 0 => ls
  | _, [], _ + 1 => []
  | k, a :: ls, i + 1 => m k a :: mkL m s (k + s a) ls i
def totL {α : Type} (s : α → Nat) : List α → Nat → Nat
  | _, 0 => 0
  | [], _ + 1 => 0
  | a :: ls, i + 1 => s a + totL s ls i
theorem mkL_zero {α : Type} (m : Int → α → α) (s : α → Nat) (k : Int) (ls : List α) : mkL m s k ls 0 = ls := by cases ls <;> rfl
theorem mkL_length {α : Type} (m : Int → α → α) (s : α → Nat) (k : Int) (ls : List α) (i : Nat) : (mkL m s k ls i).length = ls.length := by
  induction ls generalizing k i with
  | nil => cases i <;> rfl
  | cons a ls ih => cases i <;> simp [mkL, ih]
theorem mkL_at {α : Type} (m : Int → α → α) (s : α → Nat) (k : Int) (ls : List α) (i : Nat) (h : i < ls.length) : (mkL m s k ls i)[i]'(by rw [mkL_length]; exact h) = ls[i] := by
  induction ls generalizing k i with
  | nil => simp at h
  | cons a ls ih =>
    cases i with
    | zero => rfl
    | succ i => simp only [mkL, List.getElem_cons_succ]; exact ih _ i (by simpa using h)
theorem mkL_succ {α : Type} (m : Int → α → α) (s : α → Nat) (k : Int) (ls : List α) (i : Nat) (h : i < ls.length) : mkL m s k ls (i + 1) = (mkL m s k ls i).set i (m (k + totL s ls i) ls[i]) := by
  induction ls generalizing k i with
  | nil => simp at h
  | cons a ls ih =>
    cases i with
    | zero => simp [mkL, totL]
    | succ i =>
      show m k a :: mkL m s (k + s a) ls (i + 1) = _
      rw [ih _ i (by simpa using h)]
      simp [mkL, totL, Int.add_assoc]
theorem totL_succ {α : Type} (s : α → Nat) (ls : List α) (i : Nat) (h : i < ls.length) : totL s ls (i + 1) = totL s ls i + s ls[i] := by
  induction ls generalizing i with
  | nil => simp at h
  | cons a ls ih =>
    cases i with
    | zero => simp [totL]
    | succ i =>
      show s a + totL s ls (i + 1) = s a + totL s ls i + _
      rw [ih i (by simpa using h)]; simp [Nat.add_assoc]
theorem mkL_get {α : Type} (m : Int → α → α) (s : α → Nat) (k : Int) (ls : List α) (n i : Nat) (h : i < ls.length) (hn : i < n) : (mkL m s k ls n)[i]'(by rw [mkL_length]; exact h) = m (k + totL s ls i) ls[i] := by
  induction ls generalizing k i n with
  | nil => simp at h
  | cons a ls ih =>
    cases n with
    | zero => omega
    | succ n =>
      cases i with
      | zero => simp [mkL, totL]
      | succ i =>
        simp only [mkL, totL, List.getElem_cons_succ]
        rw [ih _ n i (by simpa using h) (by omega)]
        simp [Int.add_assoc]
theorem totL_le {α : Type} (s : α → Nat) (ls : List α) (i M : Nat) (h : ∀ a ∈ ls, s a ≤ M) : totL s ls i ≤ ls.length * M := by
  induction ls generalizing i with
  | nil => cases i <;> simp [totL]
  | cons a ls ih =>
    cases i with
    | zero => simp [totL]
    | succ i =>
      have h1 := h a (by simp)
      have h2 := ih i (fun b hb => h b (by simp [hb]))
      simp only [totL, List.length_cons, Nat.add_mul]
      omega

/-- The cells of a list of structs of z cells each. -/
theorem flat_len {α : Type} (f : α → List Dat) (z : Nat) (ps : List α) (hf : ∀ p, (f p).length = z) : (ps.flatMap f).length = ps.length * z := by
  induction ps with
  | nil => simp
  | cons p ps ih => simp [List.flatMap_cons, ih, hf, Nat.add_mul]; omega
theorem flat_get {α : Type} (f : α → List Dat) (z : Nat) (ps : List α) (hf : ∀ p, (f p).length = z) (i j : Nat) (hi : i < ps.length) (hj : j < z) : (ps.flatMap f)[i * z + j]? = (f ps[i])[j]? := by
  induction ps generalizing i with
  | nil => simp at hi
  | cons p ps ih =>
    rw [List.flatMap_cons]
    match i with
    | 0 => rw [List.getElem?_append_left (by rw [hf]; omega)]; simp
    | i + 1 =>
      rw [List.getElem?_append_right (by rw [hf, Nat.add_mul]; omega), hf, show (i + 1) * z + j - z = i * z + j by rw [Nat.add_mul]; omega]
      simpa using ih i (by simpa using hi)
theorem flat_lt {n z i j : Nat} (hi : i < n) (hj : j < z) : i * z + j < n * z := by
  calc i * z + j < i * z + z := by omega
    _ = (i + 1) * z := by rw [Nat.add_mul]; omega
    _ ≤ n * z := Nat.mul_le_mul_right _ hi
theorem flat_one {α β : Type} (g : α → β) (l : List α) : l.flatMap (fun c => [g c]) = l.map g := by induction l <;> simp [*]
/-- Bytes, one cell each. -/
def bytesD (l : List UInt8) : Dat := .row 5 1 l.length (l.map fun c => .lit (.int .u8 (c.toNat : Int)))
theorem Reads.bytes {w : World} {B : Nat} {v : Value} {l : List UInt8} (h : Reads w B v (bytesD l)) : ∃ A cap, v = .slice A l.length cap ∧ l.length ≤ cap ∧ cap ≤ maxLen ∧ Rd w B A l := by
  obtain ⟨A, cap, rfl, hn, hc, _, _, h⟩ := h.row'
  refine ⟨A, cap, rfl, hn, hc, ?_⟩
  rcases h with h | ⟨b, off, xs, rfl, hb, hx, hcell, hr⟩
  · exact .inl (by simpa using h)
  · refine .inr ⟨b, off, rfl, hb, fun i hi => ?_⟩
    have hx' : xs.length = l.length := by simpa using hx
    rw [hcell i (by omega)]
    have := hr i (by omega) (by simpa using hi)
    rw [List.getElem_map] at this
    generalize xs[i] = x at this
    cases this
    rfl
theorem Rd.bytes {w : World} {B : Nat} {A : Option Addr} {cap : Nat} {l : List UInt8} (h : Rd w B A l) (hn : l.length ≤ cap) (hc : cap ≤ maxLen) : Reads w B (.slice A l.length cap) (bytesD l) := by
  rcases h with rfl | ⟨b, off, rfl, hb, hcell⟩
  · exact .nil A cap _ _ hc
  · refine .row b off l.length cap _ 1 (bv l) _ hb hn hc (by simp) (by simp [bv_length]) (fun i hi => ?_) (fun i hi h' => ?_)
    · rw [bv_length] at hi
      rw [hcell i hi]; simp [bv]
    · simp only [bv, List.getElem_map]; exact .lit _
theorem Own.owns {w : World} {g : Nat} {v : Value} {l : List UInt8} (h : Own w g v l) {S : Nat → Prop} (hS : S g) : Owns w S v (bytesD l) := by
  obtain ⟨cap, cur, rfl, hg, h1, h2, h3, h4⟩ := h
  refine .row S g l.length cap _ 1 cur (bv l) _ (fun _ _ => False) hS hg h1 h2 (by simpa using h3) (by simp) (by simpa using h4) (fun i hi h' => ?_) (fun _ _ h => h.elim) (fun _ _ _ _ h => h.elim)
  simp only [bv, List.getElem_map]; exact .lit _ _
theorem Owns.bytes {w : World} {S : Nat → Prop} {v : Value} {l : List UInt8} (h : Owns w S v (bytesD l)) : (v = .slice none 0 0 ∧ l = []) ∨ ∃ g, S g ∧ Own w g v l := by
  rcases h.row' with ⟨rfl, h, _⟩ | ⟨g, cap, cur, xs, rfl, hS, hh, hn, hc, hs, hl, hx, ho⟩
  · exact .inl ⟨rfl, List.length_eq_zero_iff.1 h⟩
  · refine .inr ⟨g, hS, cap, cur, rfl, hh, hn, hc, by simpa using hs, ?_⟩
    rw [Nat.mul_one] at hx
    rw [hx]
    have hr := ho.reads
    refine List.ext_getElem (by rw [hr.1, bv_length]; simp) (fun i h1 h2 => ?_)
    have := hr.2 i h1 (by rw [← hr.1]; exact h1)
    rw [List.getElem_map] at this
    simp only [bv, List.getElem_map]
    generalize xs[i] = x at this
    cases this
    rfl
end Go.Proofs.Ytcimpcocgmlmoaa
