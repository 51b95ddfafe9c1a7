/- Several texts in one: AppFull, TreeCut, TreeHalf, TreeRepl, TreeRepl2. -/
import Derived.Test.YtkcafbdlealbpaaGreatMergeA
import Derived.ArgAppend
import Derived.Test.YtkcafbdlealbpaaGreatMergeB
import Derived.Test.YtkcafbdlealbpaaGreatLast3
import Derived.StillTailTactics
/- append onto a row that is cut at its length (x[:i:i]): what is appended goes to new memory, and where nothing is appended the row stays. Conditions: at most 2^30 elements of at most 1024 bytes. -/
namespace Go.Proofs.YtkcafbdlealbpaaGreat
open Go.RowKit
set_option maxRecDepth 100000
set_option linter.unusedSimpArgs false
set_option linter.unusedVariables false

theorem At.adds {w : World} {ad : Addr} {news : List Value} (hA : At w (some ad) news) : ∀ j u, news[j]? = some u → w.cell? (ad.add j) = some u := by
  intro j u hu
  have hj := (List.getElem?_eq_some_iff.1 hu).1
  rcases hA with h | ⟨b, off, he, hc⟩
  · subst h; simp at hj
  · injection he with he
    subst he
    rw [Addr.add_lit, hc j hj]
    exact congrArg some (List.getElem?_eq_some_iff.1 hu).2
/-- A full row: its capacity is its length. -/
theorem operFull {P : Program} {o : Oper} {a : Act} {Kn : Act → World → Prop} {Q : Exit → Act → World → Prop} (w : World) (hgd : o.guard = none) (s x : Operand) (t e z by_ : Nat) (zero : Value)
    (hop : o.op = .call { callee := .builtin .append, args := #[s, x], argTypes := #[t, t] }) (ht : P.underlying t = some (.slice e)) (hinfo : (P.info? e).map (fun i => (i.zero, i.size, i.bytes)) = some (some zero, z, by_)) (hzc : zero.cells.size = z) (hz : 0 < z) (hby : by_ ≤ 1024)
    (ao : Addr) (n : Nat) (xs : List Value) (hs : a.eval s = .slice (some ao) n n) (hlo : xs.length = n * z) (hxs : At w (some ao) xs) (ad : Addr) (m c : Nat) (news : List Value) (hx : a.eval x = .slice (some ad) m c) (hm : 0 < m) (hl : news.length = m * z) (hA : At w (some ad) news) (hlen : n + m ≤ 1073741824)
    (h : ∀ v' w', w'.ownsRow w.heap.size e z v' (n + m) (xs ++ news) → w.grownBy w' none → Kn (a.put o.dst v') w') : Oper.wp P o a w Kn Q := by
  obtain ⟨i, hi, h0, hsz, hb⟩ := info_parts hinfo
  have hbytes : (n + m) * by_ ≤ 140737488355328 := Nat.le_trans (Nat.mul_le_mul hlen hby) (by decide)
  have h63 : n + m ≤ maxLen := by unfold maxLen; omega
  obtain ⟨v', w', hrun, h2, h3⟩ := run_append_arg_grows (P := P) w t o.type e i zero z by_ ht hi h0 hsz hb hzc hz ao n n xs hlo hxs.adds ad m c news hl hA.adds (by omega) h63 hbytes
  unfold Oper.wp execOp
  simp only [hop, resolve, invoke, builtin, Sem.run_bind, Sem.run_pure, Result.andThen_ok, List.map_toArray, List.map_cons, List.map_nil, hs, hx, hrun]
  exact h v' w' h2 h3
/-- Nothing appended: the row stays. -/
theorem operNone {P : Program} {o : Oper} {a : Act} {Kn : Act → World → Prop} {Q : Exit → Act → World → Prop} (w : World) (hgd : o.guard = none) (s x : Operand) (t e z by_ : Nat) (zero : Value)
    (hop : o.op = .call { callee := .builtin .append, args := #[s, x], argTypes := #[t, t] }) (ht : P.underlying t = some (.slice e)) (hinfo : (P.info? e).map (fun i => (i.zero, i.size, i.bytes)) = some (some zero, z, by_))
    (ao : Addr) (n cap : Nat) (hs : a.eval s = .slice (some ao) n cap) (hn : n ≤ cap) (A : Option Addr) (c : Nat) (hx : a.eval x = .slice A 0 c)
    (h : Kn (a.put o.dst (.slice (some ao) n cap)) w) : Oper.wp P o a w Kn Q := by
  obtain ⟨i, hi, h0, hsz, hb⟩ := info_parts hinfo
  have hrun : (Builtin.append_ #[t, t] o.type #[.slice (some ao) n cap, .slice A 0 c]).run P w = .ok (.slice (some ao) n cap) w := by
    cases A with
    | none => simp [Builtin.append_, run_underlying ht, sizeOf, typeInfo, hi, Builtin.lenOf, Builtin.firstCells, hn, storeCells]
    | some ad => simp [Builtin.append_, run_underlying ht, sizeOf, typeInfo, hi, Builtin.lenOf, Builtin.firstCells, hn, storeCells, loadCells, loadCellsFrom]
  unfold Oper.wp execOp
  simp only [hop, resolve, invoke, builtin, Sem.run_bind, Sem.run_pure, Result.andThen_ok, List.map_toArray, List.map_cons, List.map_nil, hs, hx, hrun]
  exact h
end Go.Proofs.YtkcafbdlealbpaaGreat
/- Rows that are cut at a length: what they own, what they read as. No condition: plain lemmas. -/
namespace Go.Proofs.YtkcafbdlealbpaaGreat
open Go.RowKit
set_option maxRecDepth 100000
set_option linter.unusedSimpArgs false
set_option linter.unusedVariables false

/-- A row cut at i: x[:i:i]. -/
theorem OwnC.cut {w : World} {S : Nat → Prop} {A : Option Addr} {c e z n : Nat} {cs : List Dat} (h : OwnC w S (.slice A n c) (.row e z n cs)) {i : Nat} (hi : i ≤ n) (hA : A ≠ none) : OwnC w S (.slice A i i) (.row e z i (cs.take (i * z))) := by
  rcases h with ⟨h, _⟩ | ⟨g, cap, cur, xs, h1, h2, h3, h4, h5, h6, h7, h8, h9⟩
  · injection h with h
    exact absurd h hA
  · injection h1 with h1 _ h1'
    subst h1 h1'
    have hz : i * z ≤ n * z := Nat.mul_le_mul_right z hi
    obtain ⟨S1, S2, a1, _, a3, _, _⟩ := h9.split (i * z)
    refine .inr ⟨g, i, cur, xs.take (i * z), rfl, h2, h3, Nat.le_refl _, by omega, by omega, ?_, ?_, a1.mono a3⟩
    · rw [List.length_take, h7]
      omega
    · rw [← h8, List.take_take, Nat.min_eq_left hz]
/-- A row of capacities of its own: its block, and the cells that it reads as. -/
theorem OwnC.rows {w : World} {S : Nat → Prop} {A : Option Addr} {c e z n : Nat} {cs : List Dat} (h : OwnC w S (.slice A n c) (.row e z n cs)) (hn : 0 < n) : ∃ (g : Nat) (xs : List Value), A = some ⟨g, 0, none⟩ ∧ S g ∧ At w (some ⟨g, 0, none⟩) xs ∧ xs.length = n * z ∧ OwnsL w (fun b => S b ∧ b ≠ g) xs cs ∧ n ≤ c ∧ c ≤ maxLen := by
  rcases h with ⟨_, h, _⟩ | ⟨g, cap, cur, xs, h1, h2, h3, h4, h5, h6, h7, h8, h9⟩
  · omega
  · injection h1 with h1 _ h1'
    subst h1 h1'
    have hl : xs.length = n * z := by rw [h9.1, h7]
    refine ⟨g, xs, rfl, h2, .inr ⟨g, 0, rfl, fun i hi => ?_⟩, hl, h9, h4, h5⟩
    have hi' : i < cur.size := by omega
    rw [Nat.zero_add, cell_of_row _ _ _ _ _ _ h3]
    subst h8
    rw [List.getElem_take, Array.getElem_toList]
    exact Array.getElem?_eq_getElem hi'
theorem At.drop {w : World} {b off : Nat} {xs : List Value} (h : At w (some ⟨b, off, none⟩) xs) (k : Nat) : At w (some ⟨b, off + k, none⟩) (xs.drop k) := by
  rcases h with h | ⟨b', off', h1, h2⟩
  · exact .inl (by rw [h]; simp)
  · injection h1 with h1
    injection h1 with h1 h1'
    subst h1 h1'
    refine .inr ⟨b, off + k, rfl, fun i hi => ?_⟩
    rw [List.length_drop] at hi
    rw [Nat.add_assoc, h2 (k + i) (by omega), List.getElem_drop]
end Go.Proofs.YtkcafbdlealbpaaGreat
/- Two rows that grow side by side, each at first cut out of an old row (x[:i:i]): what they are, and an append onto one of them. Conditions: at most 2^30 elements. -/
namespace Go.Proofs.YtkcafbdlealbpaaGreat
open Go.RowKit
set_option maxRecDepth 100000
set_option linter.unusedSimpArgs false
set_option linter.unusedVariables false

/-- A row of one cell an element: the call's own, or the first n elements of block g, cut there. -/
def Half (w0 w : World) (g : Nat) (e : TypeId) (v : Value) (n : Nat) (xs : List Value) : Prop :=
  w.ownsRow w0.heap.size e 1 v n xs ∨ (v = .slice (some ⟨g, 0, none⟩) n n ∧ At w (some ⟨g, 0, none⟩) xs ∧ xs.length = n ∧ g < w0.heap.size)
theorem Half.len {w0 w : World} {g : Nat} {e : TypeId} {v : Value} {n : Nat} {xs : List Value} (h : Half w0 w g e v n xs) : xs.length = n := by
  rcases h with h | h
  · simpa using h.1
  · exact h.2.2.1
theorem At.keepB {w w' : World} {b off : Nat} {xs : List Value} (h : At w (some ⟨b, off, none⟩) xs) (hk : w'.heap[b]? = w.heap[b]?) : At w' (some ⟨b, off, none⟩) xs := by
  rcases h with h | ⟨b', off', h1, h2⟩
  · exact .inl h
  · injection h1 with h1
    injection h1 with h1 h1'
    subst h1 h1'
    exact .inr ⟨b, off, rfl, fun i hi => (World.cell?_of_block (a := ⟨b, off + i, none⟩) hk).trans (h2 i hi)⟩
theorem Half.keep {w0 w w' : World} {g : Nat} {e : TypeId} {v : Value} {n : Nat} {xs : List Value} (h : Half w0 w g e v n xs) (hk : ∀ b, v.ownBlock = some b → w'.heap[b]? = w.heap[b]?) : Half w0 w' g e v n xs := by
  rcases h with h | ⟨rfl, h2, h3, h4⟩
  · exact .inl (row_keep h hk)
  · exact .inr ⟨rfl, h2.keepB (hk g rfl), h3, h4⟩
theorem Half.lt {w0 w : World} {g : Nat} {e : TypeId} {v : Value} {n : Nat} {xs : List Value} (h : Half w0 w g e v n xs) (hz : w0.heap.size ≤ w.heap.size) : ∀ b, v.ownBlock = some b → b < w.heap.size := by
  rcases h with h | ⟨rfl, h2, h3, h4⟩
  · exact fun b hb => (row_lt h b hb).1
  · intro b hb
    simp [Value.ownBlock] at hb
    subst hb
    omega
theorem Half.form {w0 w : World} {g : Nat} {e : TypeId} {v : Value} {n : Nat} {xs : List Value} (h : Half w0 w g e v n xs) : ∃ A c, v = .slice A n c := by
  rcases h with h | ⟨rfl, _⟩
  · rcases row_cases h with ⟨rfl, rfl, _⟩ | ⟨g, cap, rfl, _⟩
    · exact ⟨none, 0, rfl⟩
    · exact ⟨_, cap, rfl⟩
  · exact ⟨_, n, rfl⟩
/-- An append onto such a row. -/
theorem operHalf {P : Program} {o : Oper} {a : Act} {Kn : Act → World → Prop} {Q : Exit → Act → World → Prop} (w0 w : World) (hgd : o.guard = none) (s x : Operand) (t e by_ : Nat) (zero : Value)
    (hop : o.op = .call { callee := .builtin .append, args := #[s, x], argTypes := #[t, t] }) (ht : P.underlying t = some (.slice e)) (hinfo : (P.info? e).map (fun i => (i.zero, i.size, i.bytes)) = some (some zero, 1, by_)) (hzc : zero.cells.size = 1) (hby : by_ ≤ 1024)
    (g n : Nat) (v : Value) (xs : List Value) (hs : a.eval s = v) (hh : Half w0 w g e v n xs) (A : Option Addr) (m c : Nat) (news : List Value) (hx : a.eval x = .slice A m c) (hl : news.length = m) (hA : At w A news) (h1 : ∀ u ∈ news, u.oneCell' = true) (hlen : n + m ≤ 1073741824) (hb : Below w0.heap.size w0 w)
    (h : ∀ v' w', Half w0 w' g e v' (n + m) (xs ++ news) → w.grownBy w' v.ownBlock → (∀ b, v'.ownBlock = some b → v.ownBlock = some b ∨ w.heap.size ≤ b) → Below w0.heap.size w0 w' → Kn (a.put o.dst v') w') : Oper.wp P o a w Kn Q := by
  rcases hh with hh | ⟨rfl, h2, h3, h4⟩
  · refine operAppN w hgd s x t e 1 by_ zero hop ht hinfo hzc (by omega) hby w0.heap.size n v xs hs hh A m c news hx (by omega) hA h1 hlen hb.size ?_
    intro v' w' k1 k2 _ k4
    refine h v' w' (.inl k1) k2 (fun b hb' => ?_) (hb.grown k2 hb.size (fun k hk => (row_lt hh k hk).2))
    rcases k4 with k4 | k4
    · exact .inl (k4 ▸ hb')
    · rw [k4] at hb'
      injection hb' with hb'
      exact .inr (by omega)
  · by_cases hm : m = 0
    · subst hm
      have hn : news = [] := List.length_eq_zero_iff.1 hl
      subst hn
      refine operNone w hgd s x t e 1 by_ zero hop ht hinfo ⟨g, 0, none⟩ n n hs (Nat.le_refl _) A c hx ?_
      exact h _ w (.inr ⟨rfl, by simpa using h2, by simpa using h3, h4⟩) (World.grownBy.refl _ _) (fun b hb' => .inl hb') hb
    · obtain ⟨ad, rfl⟩ : ∃ ad, A = some ad := by
        rcases hA with h | ⟨b, off, h, _⟩
        · subst h
          simp at hl
          omega
        · exact ⟨_, h⟩
      refine operFull w hgd s x t e 1 by_ zero hop ht hinfo hzc (by omega) hby ⟨g, 0, none⟩ n xs hs (by omega) h2 ad m c news hx (by omega) (by omega) hA hlen ?_
      intro v' w' k1 k2
      refine h v' w' (.inl ?_) ⟨k2.os, k2.tape, k2.output, k2.size, fun i hi _ => k2.block i hi (by simp)⟩ (fun b hb' => .inr (row_lt k1 b hb').2) (hb.grown k2 hb.size (fun k hk => by simp at hk))
      obtain ⟨k3, k4 | ⟨g', cap, cur, k5, k6, k7⟩⟩ := k1
      · exact ⟨k3, .inl k4⟩
      · exact ⟨k3, .inr ⟨g', cap, cur, k5, Nat.le_trans hb.size k6, k7⟩⟩
/-- The two rows, and blocks F that neither of them is. -/
structure Pair2 (w0 w : World) (F : Nat → Prop) (gl gn : Nat) (vl vn : Value) (nl nn : Nat) (xl xn : List Value) : Prop where
  hl : Half w0 w gl 3 vl nl xl
  hn : Half w0 w gn 71 vn nn xn
  d : ∀ b, vl.ownBlock = some b → vn.ownBlock ≠ some b
  fl : ∀ b, F b → vl.ownBlock ≠ some b ∧ vn.ownBlock ≠ some b ∧ b < w.heap.size
  below : Below w0.heap.size w0 w
theorem Pair2.on {w0 w w' : World} {F : Nat → Prop} {gl gn nl nn : Nat} {vl vn : Value} {xl xn : List Value} (h : Pair2 w0 w F gl gn vl vn nl nn xl xn) (hb : Below w.heap.size w w') : Pair2 w0 w' F gl gn vl vn nl nn xl xn :=
  ⟨h.hl.keep (fun b hb' => hb.block b (h.hl.lt h.below.size b hb')), h.hn.keep (fun b hb' => hb.block b (h.hn.lt h.below.size b hb')), h.d, fun b hF => ⟨(h.fl b hF).1, (h.fl b hF).2.1, Nat.lt_of_lt_of_le (h.fl b hF).2.2 hb.size⟩, bstep h.below hb⟩
theorem Pair2.mono {w0 w : World} {F G : Nat → Prop} {gl gn nl nn : Nat} {vl vn : Value} {xl xn : List Value} (h : Pair2 w0 w F gl gn vl vn nl nn xl xn) (hG : ∀ b, G b → F b) : Pair2 w0 w G gl gn vl vn nl nn xl xn := ⟨h.hl, h.hn, h.d, fun b hb => h.fl b (hG b hb), h.below⟩
/-- A new block beside the rows. -/
theorem Pair2.alloc {w0 w : World} {F : Nat → Prop} {gl gn nl nn : Nat} {vl vn : Value} {xl xn : List Value} (h : Pair2 w0 w F gl gn vl vn nl nn xl xn) (o : Obj) : Pair2 w0 (w.alloc o) (fun b => F b ∨ b = w.heap.size) gl gn vl vn nl nn xl xn := by
  have h2 := h.on (bal1 w o)
  refine ⟨h2.hl, h2.hn, h2.d, fun b hF => ?_, h2.below⟩
  rcases hF with hF | rfl
  · exact h2.fl b hF
  · refine ⟨fun e => ?_, fun e => ?_, by simp⟩
    · have := h.hl.lt h.below.size _ e
      omega
    · have := h.hn.lt h.below.size _ e
      omega
/-- An append onto the first row, onto the second. -/
theorem Pair2.low {w0 w w' : World} {F : Nat → Prop} {gl gn nl nn : Nat} {vl vn v' : Value} {xl xn : List Value} {n' : Nat} {xs' : List Value} (h : Pair2 w0 w F gl gn vl vn nl nn xl xn) (h1 : Half w0 w' gl 3 v' n' xs') (hg : w.grownBy w' vl.ownBlock) (hv : ∀ b, v'.ownBlock = some b → vl.ownBlock = some b ∨ w.heap.size ≤ b) (hb : Below w0.heap.size w0 w') :
    Pair2 w0 w' F gl gn v' vn n' nn xs' xn ∧ ∀ b, F b → w'.heap[b]? = w.heap[b]? := by
  refine ⟨⟨h1, h.hn.keep (fun b hb' => hg.block b (h.hn.lt h.below.size b hb') (fun e => h.d b e.symm hb')), fun b hb' he => ?_, fun b hF => ⟨fun he => ?_, (h.fl b hF).2.1, Nat.lt_of_lt_of_le (h.fl b hF).2.2 hg.size⟩, hb⟩, fun b hF => hg.block b (h.fl b hF).2.2 (fun e => (h.fl b hF).1 e.symm)⟩
  · rcases hv b hb' with h2 | h2
    · exact h.d b h2 he
    · have := h.hn.lt h.below.size b he
      omega
  · rcases hv b he with h2 | h2
    · exact (h.fl b hF).1 h2
    · have := (h.fl b hF).2.2
      omega
theorem Pair2.node {w0 w w' : World} {F : Nat → Prop} {gl gn nl nn : Nat} {vl vn v' : Value} {xl xn : List Value} {n' : Nat} {xs' : List Value} (h : Pair2 w0 w F gl gn vl vn nl nn xl xn) (h1 : Half w0 w' gn 71 v' n' xs') (hg : w.grownBy w' vn.ownBlock) (hv : ∀ b, v'.ownBlock = some b → vn.ownBlock = some b ∨ w.heap.size ≤ b) (hb : Below w0.heap.size w0 w') :
    Pair2 w0 w' F gl gn vl v' nl n' xl xs' ∧ ∀ b, F b → w'.heap[b]? = w.heap[b]? := by
  refine ⟨⟨h.hl.keep (fun b hb' => hg.block b (h.hl.lt h.below.size b hb') (fun e => h.d b hb' e.symm)), h1, fun b hb' he => ?_, fun b hF => ⟨(h.fl b hF).1, fun he => ?_, Nat.lt_of_lt_of_le (h.fl b hF).2.2 hg.size⟩, hb⟩, fun b hF => hg.block b (h.fl b hF).2.2 (fun e => (h.fl b hF).2.1 e.symm)⟩
  · rcases hv b he with h2 | h2
    · exact h.d b hb' h2
    · have := h.hl.lt h.below.size b hb'
      omega
  · rcases hv b he with h2 | h2
    · exact (h.fl b hF).2.1 h2
    · have := (h.fl b hF).2.2
      omega
/-- A store into a block beside the rows. -/
theorem Pair2.store {w0 w : World} {F : Nat → Prop} {gl gn nl nn : Nat} {vl vn : Value} {xl xn : List Value} (h : Pair2 w0 w F gl gn vl vn nl nn xl xn) {p o : Nat} (hF : F p) (hp : w0.heap.size ≤ p) (u : Value) : Pair2 w0 (w.setCell ⟨p, o, none⟩ u) F gl gn vl vn nl nn xl xn := by
  obtain ⟨h1, h2, h3⟩ := h.fl p hF
  exact ⟨h.hl.keep (fun b hb => Below.heap_setCell _ _ _ _ (by rintro rfl; exact h1 hb)), h.hn.keep (fun b hb => Below.heap_setCell _ _ _ _ (by rintro rfl; exact h2 hb)), h.d, fun b hb => ⟨(h.fl b hb).1, (h.fl b hb).2.1, by simpa [World.setCell] using (h.fl b hb).2.2⟩, h.below.setCell (p := ⟨p, o, none⟩) hp u⟩
theorem At.box1 {w : World} {b : Nat} {a : Value} {e : TypeId} (h : w.heap[b]? = some (.cells #[a] e (0, 0))) : At w (some ⟨b, 0, none⟩) [a] := by
  refine .inr ⟨b, 0, rfl, fun i hi => ?_⟩
  rw [cell_of_row _ _ _ _ _ _ h]
  match i, hi with
  | 0, _ => rfl
/-- The cells of branches: a bound and a node each. -/
def brX (br : List (Int × Value)) : List Value := br.flatMap fun p => [.int .i64 p.1, p.2]
theorem brX_at {br : List (Int × Value)} {k : Nat} (h : k < br.length) : (brX br)[k * 2]? = some (.int .i64 (br[k]).1) ∧ (brX br)[k * 2 + 1]? = some (br[k]).2 := by
  induction br generalizing k with
  | nil => simp at h
  | cons p t ih =>
    have e : brX (p :: t) = .int .i64 p.1 :: p.2 :: brX t := rfl
    rw [e]
    cases k with
    | zero => exact ⟨rfl, rfl⟩
    | succ k =>
      obtain ⟨h1, h2⟩ := ih (k := k) (by simpa using h)
      rw [show (k + 1) * 2 = k * 2 + 1 + 1 by omega]
      exact ⟨by simpa using h1, by simpa using h2⟩
theorem At.br {w : World} {B : Option Addr} {br : List (Int × Value)} (h : At w B (brX br)) {k : Nat} (hk : k < br.length) : ∃ b off, B = some ⟨b, off, none⟩ ∧ b < w.heap.size ∧ w.cell? ⟨b, off + k * 2, none⟩ = some (.int .i64 (br[k]).1) ∧ w.cell? ⟨b, off + k * 2 + 1, none⟩ = some (br[k]).2 := by
  obtain ⟨h1, h2⟩ := brX_at hk
  rcases h with h | ⟨b, off, rfl, hc⟩
  · rw [h] at h1
    simp at h1
  · obtain ⟨l1, e1⟩ := List.getElem?_eq_some_iff.1 h1
    obtain ⟨l2, e2⟩ := List.getElem?_eq_some_iff.1 h2
    have c1 := hc _ l1
    have c2 := hc _ l2
    rw [e1] at c1
    rw [e2, ← Nat.add_assoc] at c2
    exact ⟨b, off, rfl, World.block_lt_of_cell? w _ c1, c1, c2⟩
end Go.Proofs.YtkcafbdlealbpaaGreat
/- The contract for impl.replaceNodes, at the level of cells: the rows of bounds and of nodes, cut at i, the branches' cells behind them, then the rows from j on. Conditions: at most 10^6 nodes and 1000 branches. -/
namespace Go.Proofs.YtkcafbdlealbpaaGreat
open Go.RowKit
set_option maxRecDepth 100000
set_option linter.unusedSimpArgs false
set_option linter.unusedVariables false

set_option maxHeartbeats 16000000 in
theorem replaceNodes_cells (gl gn cl cn i j cb : Nat) (lo : List Int) (xs : List Value) (B : Option Addr) (br : List (Int × Value)) (w : World)
    (hal : At w (some ⟨gl, 0, none⟩) (lo.map iV)) (han : At w (some ⟨gn, 0, none⟩) xs) (hxl : xs.length = lo.length) (h1x : ∀ u ∈ xs, u.oneCell' = true) (hcl : lo.length ≤ cl) (hcn : lo.length ≤ cn) (hcl2 : cl ≤ maxLen) (hcn2 : cn ≤ maxLen) (hgl : gl < w.heap.size) (hgn : gn < w.heap.size) (hne : gl ≠ gn) (hij : i ≤ j) (hj : j ≤ lo.length) (hlo : lo.length ≤ 1000000)
    (hB : At w B (brX br)) (hbr : ∀ p ∈ br, ∃ A n c, p.2 = .slice A n c) (hbn : br.length ≤ 1000) :
    Calls Tryz.prog 94 #[.agg #[.slice (some ⟨gl, 0, none⟩) lo.length cl, .slice (some ⟨gn, 0, none⟩) lo.length cn], .int .i64 (i : Int), .int .i64 (j : Int), .slice B br.length cb] w fun e w' => ∃ vl vn, e = .returned (.agg #[vl, vn]) ∧
      Pair2 w w' (fun _ => False) gl gn vl vn (i + br.length + (lo.length - j)) (i + br.length + (lo.length - j)) (((lo.map iV).take i ++ br.map (fun p => .int .i64 p.1)) ++ (lo.map iV).drop j) ((xs.take i ++ br.map (·.2)) ++ xs.drop j) := by
  obtain ⟨q0, q1⟩ := al2 w (.cells #[.slice (some ⟨gl, 0, none⟩) lo.length cl, .slice (some ⟨gn, 0, none⟩) lo.length cn] 27) (.cells #[.slice none 0 0, .slice none 0 0] 27)
  have hb2 := bal2 w (.cells #[.slice (some ⟨gl, 0, none⟩) lo.length cl, .slice (some ⟨gn, 0, none⟩) lo.length cn] 27) (.cells #[.slice none 0 0, .slice none 0 0] 27)
  have hz2 : ((w.alloc (.cells #[.slice (some ⟨gl, 0, none⟩) lo.length cl, .slice (some ⟨gn, 0, none⟩) lo.length cn] 27)).alloc (.cells #[.slice none 0 0, .slice none 0 0] 27)).heap.size = w.heap.size + 2 := by simp
  have TLL := Lib.hid (At.tailV (c := cl) (j := j) hal (by simpa using hcl))
  have TLN := Lib.hid (At.tailV (c := cn) (j := j) han (by omega))
  have HO1 : Hid (∀ u ∈ (lo.map iV).drop j, u.oneCell' = true) := Lib.hid (fun u hu => one_iV lo u (List.mem_of_mem_drop hu))
  have HO2 : Hid (∀ u ∈ xs.drop j, u.oneCell' = true) := Lib.hid (fun u hu => h1x u (List.mem_of_mem_drop hu))
  have HPS : Hid (∀ W, Below w.heap.size w W → W.heap.size = w.heap.size + 2 → Pair2 w W (fun b => b = w.heap.size ∨ b = w.heap.size + 1) gl gn (.slice (some ⟨gl, 0, none⟩) i i) (.slice (some ⟨gn, 0, none⟩) i i) i i ((lo.map iV).take i) (xs.take i)) := Lib.hid (fun W hb hz => by
    refine ⟨.inr ⟨rfl, (hal.keepB (hb.block gl hgl)).takeV i, by simp; omega, hgl⟩, .inr ⟨rfl, (han.keepB (hb.block gn hgn)).takeV i, by simp; omega, hgn⟩, fun b h1 h2 => ?_, fun b hb' => ?_, hb⟩
    · simp [Value.ownBlock] at h1 h2
      omega
    · simp only [Value.ownBlock, Option.some.injEq, ne_eq]
      rcases hb' with rfl | rfl <;> exact ⟨by omega, by omega, by omega⟩)
  have HBR := Lib.hid hB
  have HBK := Lib.hid hbr
  have QT := Lib.hid q0
  have QR := Lib.hid q1
  have HB2 := Lib.hid hb2
  have HXL := Lib.hid hxl
  have HZ := Lib.hid hz2
  have i1 : (0 : Int) ≤ (i : Int) := by omega
  have i2 : (i : Int) ≤ (cl : Int) := by omega
  have i3 : (i : Int) ≤ (cn : Int) := by omega
  have i4 : (0 : Int) ≤ (j : Int) := by omega
  have i5 : (j : Int) ≤ (lo.length : Int) := by omega
  clear hal han h1x hB hbr q0 q1 hb2 hxl hz2
  go_enter Tryz.func94, Tryz.ntmps94
  go_wp2
  generalize (w.alloc (.cells #[.slice (some ⟨gl, 0, none⟩) lo.length cl, .slice (some ⟨gn, 0, none⟩) lo.length cn] 27)).alloc (.cells #[.slice none 0 0, .slice none 0 0] 27) = W at *
  have HP1 := Lib.hid (HPS.out W HB2.out HZ.out)
  clear HPS
  have hpr : w.heap.size ≤ w.heap.size + 1 := by omega
  refine but_begin (f := 11) (S := fun V => V.heap[w.heap.size]? = some (.cells #[.slice (some ⟨gl, 0, none⟩) lo.length cl, .slice (some ⟨gn, 0, none⟩) lo.length cn] 27 (0, 0))) (by kernel_rfl) ?_
  refine but_take (f := 11) (i := 0) (v := ?vz0) rfl (by kernel_rfl) (by kernel_rfl) (by kernel_rfl) (by kernel_rfl) (by kernel_rfl) (fun _ _ _ h => h) (Or.inl ⟨(by rfl), ?hyz0⟩) (box_on QT.out (Below.drew1 _)) ?restz0
  case hyz0 =>
    intro W hW
    go_simp
    exact rfl
  simp only [List.getElem_toArray, List.getElem_cons_succ, List.getElem_cons_zero, Act.put, List.setIfInBounds_toArray, List.set_cons_zero, List.set_cons_succ]
  refine but_take (f := 11) (i := 1) (v := ?vz1) rfl (by kernel_rfl) (by kernel_rfl) (by kernel_rfl) (by kernel_rfl) (by kernel_rfl) (fun _ _ _ h => h) (Or.inl ⟨(by rfl), ?hyz1⟩) (box_on QT.out (Below.drew1 _)) ?restz1
  case hyz1 =>
    intro W hW
    obtain ⟨y0, y1, y2⟩ := box2 hW
    go_simp
    exact rfl
  simp only [List.getElem_toArray, List.getElem_cons_succ, List.getElem_cons_zero, Act.put, List.setIfInBounds_toArray, List.set_cons_zero, List.set_cons_succ]
  refine but_take (f := 11) (i := 2) (v := ?vz2) rfl (by kernel_rfl) (by kernel_rfl) (by kernel_rfl) (by kernel_rfl) (by kernel_rfl) (fun _ _ _ h => h) (Or.inl ⟨(by rfl), ?hyz2⟩) (box_on QT.out (Below.drew1 _)) ?restz2
  case hyz2 =>
    intro W hW
    go_simp
    exact rfl
  simp only [List.getElem_toArray, List.getElem_cons_succ, List.getElem_cons_zero, Act.put, List.setIfInBounds_toArray, List.set_cons_zero, List.set_cons_succ]
  refine but_take (f := 11) (i := 3) (v := ?vz3) rfl (by kernel_rfl) (by kernel_rfl) (by kernel_rfl) (by kernel_rfl) (by kernel_rfl) (fun _ _ _ h => h) (Or.inl ⟨(by rfl), ?hyz3⟩) (box_on QT.out (Below.drew1 _)) ?restz3
  case hyz3 =>
    intro W hW
    go_simp
    exact rfl
  simp only [List.getElem_toArray, List.getElem_cons_succ, List.getElem_cons_zero, Act.put, List.setIfInBounds_toArray, List.set_cons_zero, List.set_cons_succ]
  refine but_take (f := 11) (i := 4) (v := ?vz4) rfl (by kernel_rfl) (by kernel_rfl) (by kernel_rfl) (by kernel_rfl) (by kernel_rfl) (fun _ _ _ h => h) (Or.inl ⟨(by rfl), ?hyz4⟩) (box_on QT.out (Below.drew1 _)) ?restz4
  case hyz4 =>
    intro W hW
    go_simp
    exact rfl
  simp only [List.getElem_toArray, List.getElem_cons_succ, List.getElem_cons_zero, Act.put, List.setIfInBounds_toArray, List.set_cons_zero, List.set_cons_succ]
  refine but_take (f := 11) (i := 5) (v := ?vz5) rfl (by kernel_rfl) (by kernel_rfl) (by kernel_rfl) (by kernel_rfl) (by kernel_rfl) (fun _ _ _ h => h) (Or.inl ⟨(by rfl), ?hyz5⟩) (box_on QT.out (Below.drew1 _)) ?restz5
  case hyz5 =>
    intro W hW
    go_simp
    exact rfl
  simp only [List.getElem_toArray, List.getElem_cons_succ, List.getElem_cons_zero, Act.put, List.setIfInBounds_toArray, List.set_cons_zero, List.set_cons_succ]
  refine but_take (f := 11) (i := 6) (v := ?vz6) rfl (by kernel_rfl) (by kernel_rfl) (by kernel_rfl) (by kernel_rfl) (by kernel_rfl) (fun _ _ _ h => h) (Or.inl ⟨(by rfl), ?hyz6⟩) (box_on QT.out (Below.drew1 _)) ?restz6
  case hyz6 =>
    intro W hW
    obtain ⟨y0, y1, y2⟩ := box2 hW
    go_simp
    exact rfl
  simp only [List.getElem_toArray, List.getElem_cons_succ, List.getElem_cons_zero, Act.put, List.setIfInBounds_toArray, List.set_cons_zero, List.set_cons_succ]
  refine but_take (f := 11) (i := 7) (v := ?vz7) rfl (by kernel_rfl) (by kernel_rfl) (by kernel_rfl) (by kernel_rfl) (by kernel_rfl) (fun _ _ _ h => h) (Or.inl ⟨(by rfl), ?hyz7⟩) (box_on QT.out (Below.drew1 _)) ?restz7
  case hyz7 =>
    intro W hW
    go_simp
    exact rfl
  simp only [List.getElem_toArray, List.getElem_cons_succ, List.getElem_cons_zero, Act.put, List.setIfInBounds_toArray, List.set_cons_zero, List.set_cons_succ]
  refine but_take (f := 11) (i := 8) (v := ?vz8) rfl (by kernel_rfl) (by kernel_rfl) (by kernel_rfl) (by kernel_rfl) (by kernel_rfl) (fun _ _ _ h => h) (Or.inl ⟨(by rfl), ?hyz8⟩) (box_on QT.out (Below.drew1 _)) ?restz8
  case hyz8 =>
    intro W hW
    go_simp
    exact rfl
  simp only [List.getElem_toArray, List.getElem_cons_succ, List.getElem_cons_zero, Act.put, List.setIfInBounds_toArray, List.set_cons_zero, List.set_cons_succ]
  refine but_take (f := 11) (i := 9) (v := ?vz9) rfl (by kernel_rfl) (by kernel_rfl) (by kernel_rfl) (by kernel_rfl) (by kernel_rfl) (fun _ _ _ h => h) (Or.inl ⟨(by rfl), ?hyz9⟩) (box_on QT.out (Below.drew1 _)) ?restz9
  case hyz9 =>
    intro W hW
    go_simp
    exact rfl
  simp only [List.getElem_toArray, List.getElem_cons_succ, List.getElem_cons_zero, Act.put, List.setIfInBounds_toArray, List.set_cons_zero, List.set_cons_succ]
  refine but_run (i := 10) (by kernel_rfl) rfl (by rfl) ?_
  simp only [List.getElem_toArray, List.getElem_cons_succ, List.getElem_cons_zero]
  intro K HK
  go_wp2_with fail
  have hSz1 : (fun V => V.heap[w.heap.size]? = some (.cells #[.slice (some ⟨gl, 0, none⟩) lo.length cl, .slice (some ⟨gn, 0, none⟩) lo.length cn] 27 (0, 0))) (W.drew) := (box_on QT.out (Below.drew1 _))
  refine HK.out _ _ (fun _ => hSz1) ?_
  clear HK
  refine but_run (i := 11) (by kernel_rfl) rfl (by rfl) ?_
  simp only [List.getElem_toArray, List.getElem_cons_succ, List.getElem_cons_zero]
  intro K HK
  go_wp2_with fail
  refine HK.out _ _ (fun h => absurd rfl h) ?_
  clear HK
  refine but_done (by kernel_rfl) ?_
  have HPD := Lib.hid (HP1.out.on (Below.drew1 W))
  replace QT := Lib.hid (box_on QT.out (Below.drew1 W))
  replace QR := Lib.hid (box_on QR.out (Below.drew1 W))
  clear HP1 HB2 HZ
  generalize W.drew = wd at *
  go_wp2
  go_loopw [9, 10, 12, 25] (fun o1 o2 _ q wr => ∃ k : Nat, k ≤ br.length ∧ q = .int .i64 k ∧ Hid (Pair2 w wr (fun b => b = w.heap.size ∨ b = w.heap.size + 1) gl gn o1 o2 (i + k) (i + k) ((lo.map iV).take i ++ (br.take k).map (fun p => .int .i64 p.1)) (xs.take i ++ (br.take k).map (·.2))) ∧ Hid (wr.heap[w.heap.size]? = some (.cells #[.slice (some ⟨gl, 0, none⟩) lo.length cl, .slice (some ⟨gn, 0, none⟩) lo.length cn] 27 (0, 0))) ∧ Hid (wr.heap[w.heap.size + 1]? = some (.cells #[.slice none 0 0, .slice none 0 0] 27 (0, 0)))) (fun _ _ _ q _ => br.length - (intOf q).toNat)
  case atStart => exact ⟨0, Nat.zero_le _, rfl, Lib.hid (by simpa using HPD.out), QT, QR⟩
  case round =>
    clear HPD QT QR
    obtain ⟨k, hk, rfl, HP, QT, QR⟩ := hrel
    obtain ⟨Af, cf, hf1⟩ := HP.out.hl.form
    obtain ⟨Ag, cg, hf2⟩ := HP.out.hn.form
    subst hf1 hf2
    by_cases hlt : k < br.length
    · obtain ⟨b, off, hBb, hbb, c0, c1⟩ := (HBR.out.on HP.out.below).br hlt
      subst hBb
      obtain ⟨Ay, ny, cy, hy⟩ := HBK.out br[k] (List.getElem_mem hlt)
      rw [hy] at c1
      have k1 : (k : Int) < (br.length : Int) := by omega
      have k2 : (0 : Int) ≤ (k : Int) := by omega
      have HPB := Lib.hid (HP.out.alloc (.cells #[.int .i64 (br[k]).1, .slice Ay ny cy] 113))
      have QB := Lib.hid (al1 wr (.cells #[.int .i64 (br[k]).1, .slice Ay ny cy] 113))
      have BW := Lib.hid (bstep HP.out.below (bal1 wr (.cells #[.int .i64 (br[k]).1, .slice Ay ny cy] 113)))
      replace QT := Lib.hid (box_on QT.out (bal1 wr (.cells #[.int .i64 (br[k]).1, .slice Ay ny cy] 113)))
      replace QR := Lib.hid (box_on QR.out (bal1 wr (.cells #[.int .i64 (br[k]).1, .slice Ay ny cy] 113)))
      have HE1 : Hid ((lo.map iV).take i ++ (br.take (k + 1)).map (fun p => .int .i64 p.1) = ((lo.map iV).take i ++ (br.take k).map (fun p => .int .i64 p.1)) ++ [.int .i64 (br[k]).1]) := Lib.hid (by rw [List.take_succ_eq_append_getElem hlt, List.map_append, List.append_assoc]; rfl)
      have HE2 : Hid (xs.take i ++ (br.take (k + 1)).map (·.2) = (xs.take i ++ (br.take k).map (·.2)) ++ [.slice Ay ny cy]) := Lib.hid (by rw [List.take_succ_eq_append_getElem hlt, List.map_append, List.append_assoc, List.map_singleton, hy])
      clear HP hy
      go_upto_region 5 with (fail)
      clear c0 c1
      generalize wr.alloc (.cells #[.int .i64 (br[k]).1, .slice Ay ny cy] 113) = wb at *
      refine but_begin (f := 11) (S := fun V => Below w.heap.size w V ∧ V.heap[wr.heap.size]? = some (.cells #[.int .i64 (br[k]).1, .slice Ay ny cy] 113 (0, 0))) (by kernel_rfl) ?_
      have hSd : (fun V => Below w.heap.size w V ∧ V.heap[wr.heap.size]? = some (.cells #[.int .i64 (br[k]).1, .slice Ay ny cy] 113 (0, 0))) wb.drew := ⟨bstep BW.out (Below.drew1 _), box_on QB.out (Below.drew1 _)⟩
      replace QB := Lib.hid (box_on QB.out (Below.drew1 wb))
      replace QT := Lib.hid (box_on QT.out (Below.drew1 wb))
      replace QR := Lib.hid (box_on QR.out (Below.drew1 wb))
      have HP0 := Lib.hid (HPB.out.on (Below.drew1 wb))
      clear HPB
      generalize wb.drew = Vd at *
      refine but_take (f := 11) (i := 0) (v := ?va0) rfl (by kernel_rfl) (by kernel_rfl) (by kernel_rfl) (by kernel_rfl) (by kernel_rfl) (fun _ _ _ h => h) (Or.inl ⟨(by rfl), ?hya0⟩) hSd ?resta0
      case hya0 =>
        intro W hW
        go_simp
        exact rfl
      simp only [List.getElem_toArray, List.getElem_cons_succ, List.getElem_cons_zero, Act.put, List.setIfInBounds_toArray, List.set_cons_zero, List.set_cons_succ]
      refine but_take (f := 11) (i := 1) (v := ?va1) rfl (by kernel_rfl) (by kernel_rfl) (by kernel_rfl) (by kernel_rfl) (by kernel_rfl) (fun _ _ _ h => h) (Or.inl ⟨(by rfl), ?hya1⟩) hSd ?resta1
      case hya1 =>
        intro W hW
        go_simp
        exact rfl
      simp only [List.getElem_toArray, List.getElem_cons_succ, List.getElem_cons_zero, Act.put, List.setIfInBounds_toArray, List.set_cons_zero, List.set_cons_succ]
      refine but_take (f := 11) (i := 2) (v := ?va2) rfl (by kernel_rfl) (by kernel_rfl) (by kernel_rfl) (by kernel_rfl) (by kernel_rfl) (fun _ _ _ h => h) (Or.inl ⟨(by rfl), ?hya2⟩) hSd ?resta2
      case hya2 =>
        intro W hW
        obtain ⟨y0, y1, y2⟩ := box2 hW.2
        go_simp
        exact rfl
      simp only [List.getElem_toArray, List.getElem_cons_succ, List.getElem_cons_zero, Act.put, List.setIfInBounds_toArray, List.set_cons_zero, List.set_cons_succ]
      refine but_take (f := 11) (i := 5) (v := ?va5) rfl (by kernel_rfl) (by kernel_rfl) (by kernel_rfl) (by kernel_rfl) (by kernel_rfl) (fun _ _ _ h => h) (Or.inl ⟨(by rfl), ?hya5⟩) hSd ?resta5
      case hya5 =>
        intro W hW
        go_simp
        exact rfl
      simp only [List.getElem_toArray, List.getElem_cons_succ, List.getElem_cons_zero, Act.put, List.setIfInBounds_toArray, List.set_cons_zero, List.set_cons_succ]
      refine but_take (f := 11) (i := 6) (v := ?va6) rfl (by kernel_rfl) (by kernel_rfl) (by kernel_rfl) (by kernel_rfl) (by kernel_rfl) (fun _ _ _ h => h) (Or.inl ⟨(by rfl), ?hya6⟩) hSd ?resta6
      case hya6 =>
        intro W hW
        go_simp
        exact rfl
      simp only [List.getElem_toArray, List.getElem_cons_succ, List.getElem_cons_zero, Act.put, List.setIfInBounds_toArray, List.set_cons_zero, List.set_cons_succ]
      refine but_take (f := 11) (i := 7) (v := ?va7) rfl (by kernel_rfl) (by kernel_rfl) (by kernel_rfl) (by kernel_rfl) (by kernel_rfl) (fun _ _ _ h => h) (Or.inl ⟨(by rfl), ?hya7⟩) hSd ?resta7
      case hya7 =>
        intro W hW
        obtain ⟨y0, y1, y2⟩ := box2 hW.2
        go_simp
        exact rfl
      simp only [List.getElem_toArray, List.getElem_cons_succ, List.getElem_cons_zero, Act.put, List.setIfInBounds_toArray, List.set_cons_zero, List.set_cons_succ]
      refine but_two (i := 3) (j := 8) (by kernel_rfl) rfl rfl (by rfl) (by rfl) ?_ ?_
      · simp only [List.getElem_toArray, List.getElem_cons_succ, List.getElem_cons_zero]
        intro K HK
        go_wp2_with fail
        have hSap1 : (fun V => Below w.heap.size w V ∧ V.heap[wr.heap.size]? = some (.cells #[.int .i64 (br[k]).1, .slice Ay ny cy] 113 (0, 0))) (Vd.alloc (.cells #[.int .i64 (br[k]).1] 3)) := ⟨bstep hSd.1 (bal1 _ _), box_on hSd.2 (bal1 _ _)⟩
        refine HK.out _ _ (fun _ => hSap1) ?_
        clear HK
        have HPap1 := Lib.hid (HP0.out.alloc (.cells #[.int .i64 (br[k]).1] 3))
        have QL := Lib.hid (al1 Vd (.cells #[.int .i64 (br[k]).1] 3))
        replace QB := Lib.hid (box_on QB.out (bal1 Vd (.cells #[.int .i64 (br[k]).1] 3)))
        replace QT := Lib.hid (box_on QT.out (bal1 Vd (.cells #[.int .i64 (br[k]).1] 3)))
        replace QR := Lib.hid (box_on QR.out (bal1 Vd (.cells #[.int .i64 (br[k]).1] 3)))
        generalize Vd.alloc (.cells #[.int .i64 (br[k]).1] 3) = Vnap1 at *
        refine but_two (i := 4) (j := 8) (by kernel_rfl) rfl rfl (by rfl) (by rfl) ?_ ?_
        · simp only [List.getElem_toArray, List.getElem_cons_succ, List.getElem_cons_zero]
          intro K HK
          refine operHalf w _ (by rfl) (.tmp 29) (.tmp 32) 24 3 8 (.int .i64 0) (by rfl) Tryz.underlying24 (by kernel_rfl) rfl (by omega) gl (i + k) _ _ (by rfl) HPap1.out.hl (some ⟨Vd.heap.size, 0, none⟩) (1) (1) ([.int .i64 (br[k]).1]) (by rfl) (by simp) (At.box1 QL.out) (by simp [Value.oneCell']) (by omega) HPap1.out.below ?_
          intro vapp2 Vapp2 happ2 gapp2 aapp2 bapp2
          obtain ⟨papp2, fapp2⟩ := HPap1.out.low happ2 gapp2 aapp2 bapp2
          have HPapp2 := Lib.hid papp2
          obtain ⟨Aapp2, capp2, rfl⟩ := happ2.form
          have hSapp2 : (fun V => Below w.heap.size w V ∧ V.heap[wr.heap.size]? = some (.cells #[.int .i64 (br[k]).1, .slice Ay ny cy] 113 (0, 0))) Vapp2 := ⟨bapp2, (fapp2 _ (.inl (.inr rfl))).trans hSap1.2⟩
          refine HK.out _ _ (fun _ => hSapp2) ?_
          clear HK
          replace QB := Lib.hid ((fapp2 _ (.inl (.inr rfl))).trans QB.out)
          replace QT := Lib.hid ((fapp2 _ (.inl (.inl (.inl rfl)))).trans QT.out)
          replace QR := Lib.hid ((fapp2 _ (.inl (.inl (.inr rfl)))).trans QR.out)
          replace QL := Lib.hid ((fapp2 _ (.inr rfl)).trans QL.out)
          clear happ2 gapp2 aapp2 bapp2 papp2 fapp2
          simp only [List.getElem_toArray, List.getElem_cons_succ, List.getElem_cons_zero, Act.put, List.setIfInBounds_toArray, List.set_cons_zero, List.set_cons_succ]
          refine but_run (i := 8) (by kernel_rfl) rfl (by rfl) ?_
          simp only [List.getElem_toArray, List.getElem_cons_succ, List.getElem_cons_zero]
          intro K HK
          go_wp2_with fail
          have hSapp3 : (fun V => Below w.heap.size w V ∧ V.heap[wr.heap.size]? = some (.cells #[.int .i64 (br[k]).1, .slice Ay ny cy] 113 (0, 0))) (Vapp2.alloc (.cells #[.slice Ay ny cy] 71)) := ⟨bstep hSapp2.1 (bal1 _ _), box_on hSapp2.2 (bal1 _ _)⟩
          refine HK.out _ _ (fun _ => hSapp3) ?_
          clear HK
          have HPapp3 := Lib.hid (HPapp2.out.alloc (.cells #[.slice Ay ny cy] 71))
          have QN := Lib.hid (al1 Vapp2 (.cells #[.slice Ay ny cy] 71))
          replace QB := Lib.hid (box_on QB.out (bal1 Vapp2 (.cells #[.slice Ay ny cy] 71)))
          replace QT := Lib.hid (box_on QT.out (bal1 Vapp2 (.cells #[.slice Ay ny cy] 71)))
          replace QR := Lib.hid (box_on QR.out (bal1 Vapp2 (.cells #[.slice Ay ny cy] 71)))
          replace QL := Lib.hid (box_on QL.out (bal1 Vapp2 (.cells #[.slice Ay ny cy] 71)))
          generalize Vapp2.alloc (.cells #[.slice Ay ny cy] 71) = Vnapp3 at *
          refine but_run (i := 9) (by kernel_rfl) rfl (by rfl) ?_
          simp only [List.getElem_toArray, List.getElem_cons_succ, List.getElem_cons_zero]
          intro K HK
          refine operHalf w _ (by rfl) (.tmp 34) (.tmp 37) 25 71 24 (.agg #[.slice none 0 0]) (by rfl) Tryz.underlying25 (by kernel_rfl) rfl (by omega) gn (i + k) _ _ (by rfl) HPapp3.out.hn (some ⟨Vapp2.heap.size, 0, none⟩) (1) (1) ([.slice Ay ny cy]) (by rfl) (by simp) (At.box1 QN.out) (by simp [Value.oneCell']) (by omega) HPapp3.out.below ?_
          intro vapp4 Vapp4 happ4 gapp4 aapp4 bapp4
          obtain ⟨papp4, fapp4⟩ := HPapp3.out.node happ4 gapp4 aapp4 bapp4
          have HPapp4 := Lib.hid papp4
          obtain ⟨Aapp4, capp4, rfl⟩ := happ4.form
          have hSapp4 : (fun V => Below w.heap.size w V ∧ V.heap[wr.heap.size]? = some (.cells #[.int .i64 (br[k]).1, .slice Ay ny cy] 113 (0, 0))) Vapp4 := ⟨bapp4, (fapp4 _ (.inl (.inl (.inr rfl)))).trans hSapp3.2⟩
          refine HK.out _ _ (fun _ => hSapp4) ?_
          clear HK
          replace QB := Lib.hid ((fapp4 _ (.inl (.inl (.inr rfl)))).trans QB.out)
          replace QT := Lib.hid ((fapp4 _ (.inl (.inl (.inl (.inl rfl))))).trans QT.out)
          replace QR := Lib.hid ((fapp4 _ (.inl (.inl (.inl (.inr rfl))))).trans QR.out)
          replace QL := Lib.hid ((fapp4 _ (.inl (.inr rfl))).trans QL.out)
          replace QN := Lib.hid ((fapp4 _ (.inr rfl)).trans QN.out)
          clear happ4 gapp4 aapp4 bapp4 papp4 fapp4
          simp only [List.getElem_toArray, List.getElem_cons_succ, List.getElem_cons_zero, Act.put, List.setIfInBounds_toArray, List.set_cons_zero, List.set_cons_succ]
          refine but_run (i := 10) (by kernel_rfl) rfl (by rfl) ?_
          simp only [List.getElem_toArray, List.getElem_cons_succ, List.getElem_cons_zero]
          intro K HK
          go_wp2_with fail
          have hSapp5 : (fun V => Below w.heap.size w V ∧ V.heap[wr.heap.size]? = some (.cells #[.int .i64 (br[k]).1, .slice Ay ny cy] 113 (0, 0))) (Vapp4) := hSapp4
          refine HK.out _ _ (fun _ => hSapp5) ?_
          clear HK
          refine but_run (i := 11) (by kernel_rfl) rfl (by rfl) ?_
          simp only [List.getElem_toArray, List.getElem_cons_succ, List.getElem_cons_zero]
          intro K HK
          go_wp2_with fail
          refine HK.out _ _ (fun h => absurd rfl h) ?_
          clear HK
          refine but_done (by kernel_rfl) ?_
          go_wp2_with fail
          go_roundw
          case rel => exact ⟨k + 1, by omega, by go_num, Lib.hid (by rw [HE1.out, HE2.out]; exact HPapp4.out.mono (fun b hb => .inl (.inl (.inl hb)))), QT, QR⟩
          case measure => simp [intOf]; omega
        · simp only [List.getElem_toArray, List.getElem_cons_succ, List.getElem_cons_zero]
          intro K HK
          go_wp2_with fail
          have hSapq2 : (fun V => Below w.heap.size w V ∧ V.heap[wr.heap.size]? = some (.cells #[.int .i64 (br[k]).1, .slice Ay ny cy] 113 (0, 0))) (Vnap1.alloc (.cells #[.slice Ay ny cy] 71)) := ⟨bstep hSap1.1 (bal1 _ _), box_on hSap1.2 (bal1 _ _)⟩
          refine HK.out _ _ (fun _ => hSapq2) ?_
          clear HK
          have HPapq2 := Lib.hid (HPap1.out.alloc (.cells #[.slice Ay ny cy] 71))
          have QN := Lib.hid (al1 Vnap1 (.cells #[.slice Ay ny cy] 71))
          replace QB := Lib.hid (box_on QB.out (bal1 Vnap1 (.cells #[.slice Ay ny cy] 71)))
          replace QT := Lib.hid (box_on QT.out (bal1 Vnap1 (.cells #[.slice Ay ny cy] 71)))
          replace QR := Lib.hid (box_on QR.out (bal1 Vnap1 (.cells #[.slice Ay ny cy] 71)))
          replace QL := Lib.hid (box_on QL.out (bal1 Vnap1 (.cells #[.slice Ay ny cy] 71)))
          generalize Vnap1.alloc (.cells #[.slice Ay ny cy] 71) = Vnapq2 at *
          refine but_run (i := 4) (by kernel_rfl) rfl (by rfl) ?_
          simp only [List.getElem_toArray, List.getElem_cons_succ, List.getElem_cons_zero]
          intro K HK
          refine operHalf w _ (by rfl) (.tmp 29) (.tmp 32) 24 3 8 (.int .i64 0) (by rfl) Tryz.underlying24 (by kernel_rfl) rfl (by omega) gl (i + k) _ _ (by rfl) HPapq2.out.hl (some ⟨Vd.heap.size, 0, none⟩) (1) (1) ([.int .i64 (br[k]).1]) (by rfl) (by simp) (At.box1 QL.out) (by simp [Value.oneCell']) (by omega) HPapq2.out.below ?_
          intro vapq3 Vapq3 hapq3 gapq3 aapq3 bapq3
          obtain ⟨papq3, fapq3⟩ := HPapq2.out.low hapq3 gapq3 aapq3 bapq3
          have HPapq3 := Lib.hid papq3
          obtain ⟨Aapq3, capq3, rfl⟩ := hapq3.form
          have hSapq3 : (fun V => Below w.heap.size w V ∧ V.heap[wr.heap.size]? = some (.cells #[.int .i64 (br[k]).1, .slice Ay ny cy] 113 (0, 0))) Vapq3 := ⟨bapq3, (fapq3 _ (.inl (.inl (.inr rfl)))).trans hSapq2.2⟩
          refine HK.out _ _ (fun _ => hSapq3) ?_
          clear HK
          replace QB := Lib.hid ((fapq3 _ (.inl (.inl (.inr rfl)))).trans QB.out)
          replace QT := Lib.hid ((fapq3 _ (.inl (.inl (.inl (.inl rfl))))).trans QT.out)
          replace QR := Lib.hid ((fapq3 _ (.inl (.inl (.inl (.inr rfl))))).trans QR.out)
          replace QL := Lib.hid ((fapq3 _ (.inl (.inr rfl))).trans QL.out)
          replace QN := Lib.hid ((fapq3 _ (.inr rfl)).trans QN.out)
          clear hapq3 gapq3 aapq3 bapq3 papq3 fapq3
          simp only [List.getElem_toArray, List.getElem_cons_succ, List.getElem_cons_zero, Act.put, List.setIfInBounds_toArray, List.set_cons_zero, List.set_cons_succ]
          refine but_run (i := 9) (by kernel_rfl) rfl (by rfl) ?_
          simp only [List.getElem_toArray, List.getElem_cons_succ, List.getElem_cons_zero]
          intro K HK
          refine operHalf w _ (by rfl) (.tmp 34) (.tmp 37) 25 71 24 (.agg #[.slice none 0 0]) (by rfl) Tryz.underlying25 (by kernel_rfl) rfl (by omega) gn (i + k) _ _ (by rfl) HPapq3.out.hn (some ⟨Vnap1.heap.size, 0, none⟩) (1) (1) ([.slice Ay ny cy]) (by rfl) (by simp) (At.box1 QN.out) (by simp [Value.oneCell']) (by omega) HPapq3.out.below ?_
          intro vapq4 Vapq4 hapq4 gapq4 aapq4 bapq4
          obtain ⟨papq4, fapq4⟩ := HPapq3.out.node hapq4 gapq4 aapq4 bapq4
          have HPapq4 := Lib.hid papq4
          obtain ⟨Aapq4, capq4, rfl⟩ := hapq4.form
          have hSapq4 : (fun V => Below w.heap.size w V ∧ V.heap[wr.heap.size]? = some (.cells #[.int .i64 (br[k]).1, .slice Ay ny cy] 113 (0, 0))) Vapq4 := ⟨bapq4, (fapq4 _ (.inl (.inl (.inr rfl)))).trans hSapq3.2⟩
          refine HK.out _ _ (fun _ => hSapq4) ?_
          clear HK
          replace QB := Lib.hid ((fapq4 _ (.inl (.inl (.inr rfl)))).trans QB.out)
          replace QT := Lib.hid ((fapq4 _ (.inl (.inl (.inl (.inl rfl))))).trans QT.out)
          replace QR := Lib.hid ((fapq4 _ (.inl (.inl (.inl (.inr rfl))))).trans QR.out)
          replace QL := Lib.hid ((fapq4 _ (.inl (.inr rfl))).trans QL.out)
          replace QN := Lib.hid ((fapq4 _ (.inr rfl)).trans QN.out)
          clear hapq4 gapq4 aapq4 bapq4 papq4 fapq4
          simp only [List.getElem_toArray, List.getElem_cons_succ, List.getElem_cons_zero, Act.put, List.setIfInBounds_toArray, List.set_cons_zero, List.set_cons_succ]
          refine but_run (i := 10) (by kernel_rfl) rfl (by rfl) ?_
          simp only [List.getElem_toArray, List.getElem_cons_succ, List.getElem_cons_zero]
          intro K HK
          go_wp2_with fail
          have hSapq5 : (fun V => Below w.heap.size w V ∧ V.heap[wr.heap.size]? = some (.cells #[.int .i64 (br[k]).1, .slice Ay ny cy] 113 (0, 0))) (Vapq4) := hSapq4
          refine HK.out _ _ (fun _ => hSapq5) ?_
          clear HK
          refine but_run (i := 11) (by kernel_rfl) rfl (by rfl) ?_
          simp only [List.getElem_toArray, List.getElem_cons_succ, List.getElem_cons_zero]
          intro K HK
          go_wp2_with fail
          refine HK.out _ _ (fun h => absurd rfl h) ?_
          clear HK
          refine but_done (by kernel_rfl) ?_
          go_wp2_with fail
          go_roundw
          case rel => exact ⟨k + 1, by omega, by go_num, Lib.hid (by rw [HE1.out, HE2.out]; exact HPapq4.out.mono (fun b hb => .inl (.inl (.inl hb)))), QT, QR⟩
          case measure => simp [intOf]; omega
      · simp only [List.getElem_toArray, List.getElem_cons_succ, List.getElem_cons_zero]
        intro K HK
        go_wp2_with fail
        have hSaq1 : (fun V => Below w.heap.size w V ∧ V.heap[wr.heap.size]? = some (.cells #[.int .i64 (br[k]).1, .slice Ay ny cy] 113 (0, 0))) (Vd.alloc (.cells #[.slice Ay ny cy] 71)) := ⟨bstep hSd.1 (bal1 _ _), box_on hSd.2 (bal1 _ _)⟩
        refine HK.out _ _ (fun _ => hSaq1) ?_
        clear HK
        have HPaq1 := Lib.hid (HP0.out.alloc (.cells #[.slice Ay ny cy] 71))
        have QN := Lib.hid (al1 Vd (.cells #[.slice Ay ny cy] 71))
        replace QB := Lib.hid (box_on QB.out (bal1 Vd (.cells #[.slice Ay ny cy] 71)))
        replace QT := Lib.hid (box_on QT.out (bal1 Vd (.cells #[.slice Ay ny cy] 71)))
        replace QR := Lib.hid (box_on QR.out (bal1 Vd (.cells #[.slice Ay ny cy] 71)))
        generalize Vd.alloc (.cells #[.slice Ay ny cy] 71) = Vnaq1 at *
        refine but_run (i := 3) (by kernel_rfl) rfl (by rfl) ?_
        simp only [List.getElem_toArray, List.getElem_cons_succ, List.getElem_cons_zero]
        intro K HK
        go_wp2_with fail
        have hSaq2 : (fun V => Below w.heap.size w V ∧ V.heap[wr.heap.size]? = some (.cells #[.int .i64 (br[k]).1, .slice Ay ny cy] 113 (0, 0))) (Vnaq1.alloc (.cells #[.int .i64 (br[k]).1] 3)) := ⟨bstep hSaq1.1 (bal1 _ _), box_on hSaq1.2 (bal1 _ _)⟩
        refine HK.out _ _ (fun _ => hSaq2) ?_
        clear HK
        have HPaq2 := Lib.hid (HPaq1.out.alloc (.cells #[.int .i64 (br[k]).1] 3))
        have QL := Lib.hid (al1 Vnaq1 (.cells #[.int .i64 (br[k]).1] 3))
        replace QB := Lib.hid (box_on QB.out (bal1 Vnaq1 (.cells #[.int .i64 (br[k]).1] 3)))
        replace QT := Lib.hid (box_on QT.out (bal1 Vnaq1 (.cells #[.int .i64 (br[k]).1] 3)))
        replace QR := Lib.hid (box_on QR.out (bal1 Vnaq1 (.cells #[.int .i64 (br[k]).1] 3)))
        replace QN := Lib.hid (box_on QN.out (bal1 Vnaq1 (.cells #[.int .i64 (br[k]).1] 3)))
        generalize Vnaq1.alloc (.cells #[.int .i64 (br[k]).1] 3) = Vnaq2 at *
        refine but_run (i := 4) (by kernel_rfl) rfl (by rfl) ?_
        simp only [List.getElem_toArray, List.getElem_cons_succ, List.getElem_cons_zero]
        intro K HK
        refine operHalf w _ (by rfl) (.tmp 29) (.tmp 32) 24 3 8 (.int .i64 0) (by rfl) Tryz.underlying24 (by kernel_rfl) rfl (by omega) gl (i + k) _ _ (by rfl) HPaq2.out.hl (some ⟨Vnaq1.heap.size, 0, none⟩) (1) (1) ([.int .i64 (br[k]).1]) (by rfl) (by simp) (At.box1 QL.out) (by simp [Value.oneCell']) (by omega) HPaq2.out.below ?_
        intro vaq3 Vaq3 haq3 gaq3 aaq3 baq3
        obtain ⟨paq3, faq3⟩ := HPaq2.out.low haq3 gaq3 aaq3 baq3
        have HPaq3 := Lib.hid paq3
        obtain ⟨Aaq3, caq3, rfl⟩ := haq3.form
        have hSaq3 : (fun V => Below w.heap.size w V ∧ V.heap[wr.heap.size]? = some (.cells #[.int .i64 (br[k]).1, .slice Ay ny cy] 113 (0, 0))) Vaq3 := ⟨baq3, (faq3 _ (.inl (.inl (.inr rfl)))).trans hSaq2.2⟩
        refine HK.out _ _ (fun _ => hSaq3) ?_
        clear HK
        replace QB := Lib.hid ((faq3 _ (.inl (.inl (.inr rfl)))).trans QB.out)
        replace QT := Lib.hid ((faq3 _ (.inl (.inl (.inl (.inl rfl))))).trans QT.out)
        replace QR := Lib.hid ((faq3 _ (.inl (.inl (.inl (.inr rfl))))).trans QR.out)
        replace QN := Lib.hid ((faq3 _ (.inl (.inr rfl))).trans QN.out)
        replace QL := Lib.hid ((faq3 _ (.inr rfl)).trans QL.out)
        clear haq3 gaq3 aaq3 baq3 paq3 faq3
        simp only [List.getElem_toArray, List.getElem_cons_succ, List.getElem_cons_zero, Act.put, List.setIfInBounds_toArray, List.set_cons_zero, List.set_cons_succ]
        refine but_run (i := 9) (by kernel_rfl) rfl (by rfl) ?_
        simp only [List.getElem_toArray, List.getElem_cons_succ, List.getElem_cons_zero]
        intro K HK
        refine operHalf w _ (by rfl) (.tmp 34) (.tmp 37) 25 71 24 (.agg #[.slice none 0 0]) (by rfl) Tryz.underlying25 (by kernel_rfl) rfl (by omega) gn (i + k) _ _ (by rfl) HPaq3.out.hn (some ⟨Vd.heap.size, 0, none⟩) (1) (1) ([.slice Ay ny cy]) (by rfl) (by simp) (At.box1 QN.out) (by simp [Value.oneCell']) (by omega) HPaq3.out.below ?_
        intro vaq4 Vaq4 haq4 gaq4 aaq4 baq4
        obtain ⟨paq4, faq4⟩ := HPaq3.out.node haq4 gaq4 aaq4 baq4
        have HPaq4 := Lib.hid paq4
        obtain ⟨Aaq4, caq4, rfl⟩ := haq4.form
        have hSaq4 : (fun V => Below w.heap.size w V ∧ V.heap[wr.heap.size]? = some (.cells #[.int .i64 (br[k]).1, .slice Ay ny cy] 113 (0, 0))) Vaq4 := ⟨baq4, (faq4 _ (.inl (.inl (.inr rfl)))).trans hSaq3.2⟩
        refine HK.out _ _ (fun _ => hSaq4) ?_
        clear HK
        replace QB := Lib.hid ((faq4 _ (.inl (.inl (.inr rfl)))).trans QB.out)
        replace QT := Lib.hid ((faq4 _ (.inl (.inl (.inl (.inl rfl))))).trans QT.out)
        replace QR := Lib.hid ((faq4 _ (.inl (.inl (.inl (.inr rfl))))).trans QR.out)
        replace QN := Lib.hid ((faq4 _ (.inl (.inr rfl))).trans QN.out)
        replace QL := Lib.hid ((faq4 _ (.inr rfl)).trans QL.out)
        clear haq4 gaq4 aaq4 baq4 paq4 faq4
        simp only [List.getElem_toArray, List.getElem_cons_succ, List.getElem_cons_zero, Act.put, List.setIfInBounds_toArray, List.set_cons_zero, List.set_cons_succ]
        refine but_run (i := 10) (by kernel_rfl) rfl (by rfl) ?_
        simp only [List.getElem_toArray, List.getElem_cons_succ, List.getElem_cons_zero]
        intro K HK
        go_wp2_with fail
        have hSaq5 : (fun V => Below w.heap.size w V ∧ V.heap[wr.heap.size]? = some (.cells #[.int .i64 (br[k]).1, .slice Ay ny cy] 113 (0, 0))) (Vaq4) := hSaq4
        refine HK.out _ _ (fun _ => hSaq5) ?_
        clear HK
        refine but_run (i := 11) (by kernel_rfl) rfl (by rfl) ?_
        simp only [List.getElem_toArray, List.getElem_cons_succ, List.getElem_cons_zero]
        intro K HK
        go_wp2_with fail
        refine HK.out _ _ (fun h => absurd rfl h) ?_
        clear HK
        refine but_done (by kernel_rfl) ?_
        go_wp2_with fail
        go_roundw
        case rel => exact ⟨k + 1, by omega, by go_num, Lib.hid (by rw [HE1.out, HE2.out]; exact HPaq4.out.mono (fun b hb => .inl (.inl (.inl hb)))), QT, QR⟩
        case measure => simp [intOf]; omega
    · have hke : k = br.length := by omega
      subst hke
      have hp := HP.out
      rw [List.take_length] at hp
      have HPR := Lib.hid hp
      have BW := Lib.hid HP.out.below
      have ht1 := fun W => run_tailI (w := W) (some ⟨gl, 0, none⟩) lo.length cl j hj hcl
      have ht2 := fun W => run_tailN (w := W) (some ⟨gn, 0, none⟩) lo.length cn j hj hcn
      clear hp HP
      go_upto_region 7 with (fail)
      refine but_begin (f := 13) (S := fun V => Below w.heap.size w V ∧ V.heap[w.heap.size]? = some (.cells #[.slice (some ⟨gl, 0, none⟩) lo.length cl, .slice (some ⟨gn, 0, none⟩) lo.length cn] 27 (0, 0))) (by kernel_rfl) ?_
      have hSd : (fun V => Below w.heap.size w V ∧ V.heap[w.heap.size]? = some (.cells #[.slice (some ⟨gl, 0, none⟩) lo.length cl, .slice (some ⟨gn, 0, none⟩) lo.length cn] 27 (0, 0))) wr.drew := ⟨bstep BW.out (Below.drew1 _), box_on QT.out (Below.drew1 _)⟩
      replace QT := Lib.hid (box_on QT.out (Below.drew1 wr))
      replace QR := Lib.hid (box_on QR.out (Below.drew1 wr))
      have HP0 := Lib.hid (HPR.out.on (Below.drew1 wr))
      clear HPR
      generalize wr.drew = Vd at *
      refine but_take (f := 13) (i := 0) (v := ?vb0) rfl (by kernel_rfl) (by kernel_rfl) (by kernel_rfl) (by kernel_rfl) (by kernel_rfl) (fun _ _ _ h => h) (Or.inl ⟨(by rfl), ?hyb0⟩) hSd ?restb0
      case hyb0 =>
        intro W hW
        go_simp
        exact rfl
      simp only [List.getElem_toArray, List.getElem_cons_succ, List.getElem_cons_zero, Act.put, List.setIfInBounds_toArray, List.set_cons_zero, List.set_cons_succ]
      refine but_take (f := 13) (i := 1) (v := ?vb1) rfl (by kernel_rfl) (by kernel_rfl) (by kernel_rfl) (by kernel_rfl) (by kernel_rfl) (fun _ _ _ h => h) (Or.inl ⟨(by rfl), ?hyb1⟩) hSd ?restb1
      case hyb1 =>
        intro W hW
        go_simp
        exact rfl
      simp only [List.getElem_toArray, List.getElem_cons_succ, List.getElem_cons_zero, Act.put, List.setIfInBounds_toArray, List.set_cons_zero, List.set_cons_succ]
      refine but_take (f := 13) (i := 2) (v := ?vb2) rfl (by kernel_rfl) (by kernel_rfl) (by kernel_rfl) (by kernel_rfl) (by kernel_rfl) (fun _ _ _ h => h) (Or.inl ⟨(by rfl), ?hyb2⟩) hSd ?restb2
      case hyb2 =>
        intro W hW
        obtain ⟨y0, y1, y2⟩ := box2 hW.2
        go_simp
        exact rfl
      simp only [List.getElem_toArray, List.getElem_cons_succ, List.getElem_cons_zero, Act.put, List.setIfInBounds_toArray, List.set_cons_zero, List.set_cons_succ]
      refine but_take (f := 13) (i := 3) (v := ?vb3) rfl (by kernel_rfl) (by kernel_rfl) (by kernel_rfl) (by kernel_rfl) (by kernel_rfl) (fun _ _ _ h => h) (Or.inl ⟨(by rfl), ?hyb3⟩) hSd ?restb3
      case hyb3 =>
        intro W hW
        go_simp
        exact rfl
      simp only [List.getElem_toArray, List.getElem_cons_succ, List.getElem_cons_zero, Act.put, List.setIfInBounds_toArray, List.set_cons_zero, List.set_cons_succ]
      refine but_take (f := 13) (i := 4) (v := ?vb4) rfl (by kernel_rfl) (by kernel_rfl) (by kernel_rfl) (by kernel_rfl) (by kernel_rfl) (fun _ _ _ h => h) (Or.inl ⟨(by rfl), ?hyb4⟩) hSd ?restb4
      case hyb4 =>
        intro W hW
        go_simp
        exact rfl
      simp only [List.getElem_toArray, List.getElem_cons_succ, List.getElem_cons_zero, Act.put, List.setIfInBounds_toArray, List.set_cons_zero, List.set_cons_succ]
      refine but_take (f := 13) (i := 6) (v := ?vb6) rfl (by kernel_rfl) (by kernel_rfl) (by kernel_rfl) (by kernel_rfl) (by kernel_rfl) (fun _ _ _ h => h) (Or.inl ⟨(by rfl), ?hyb6⟩) hSd ?restb6
      case hyb6 =>
        intro W hW
        go_simp
        exact rfl
      simp only [List.getElem_toArray, List.getElem_cons_succ, List.getElem_cons_zero, Act.put, List.setIfInBounds_toArray, List.set_cons_zero, List.set_cons_succ]
      refine but_take (f := 13) (i := 7) (v := ?vb7) rfl (by kernel_rfl) (by kernel_rfl) (by kernel_rfl) (by kernel_rfl) (by kernel_rfl) (fun _ _ _ h => h) (Or.inl ⟨(by rfl), ?hyb7⟩) hSd ?restb7
      case hyb7 =>
        intro W hW
        go_simp
        exact rfl
      simp only [List.getElem_toArray, List.getElem_cons_succ, List.getElem_cons_zero, Act.put, List.setIfInBounds_toArray, List.set_cons_zero, List.set_cons_succ]
      refine but_take (f := 13) (i := 8) (v := ?vb8) rfl (by kernel_rfl) (by kernel_rfl) (by kernel_rfl) (by kernel_rfl) (by kernel_rfl) (fun _ _ _ h => h) (Or.inl ⟨(by rfl), ?hyb8⟩) hSd ?restb8
      case hyb8 =>
        intro W hW
        obtain ⟨y0, y1, y2⟩ := box2 hW.2
        go_simp
        exact rfl
      simp only [List.getElem_toArray, List.getElem_cons_succ, List.getElem_cons_zero, Act.put, List.setIfInBounds_toArray, List.set_cons_zero, List.set_cons_succ]
      refine but_take (f := 13) (i := 9) (v := ?vb9) rfl (by kernel_rfl) (by kernel_rfl) (by kernel_rfl) (by kernel_rfl) (by kernel_rfl) (fun _ _ _ h => h) (Or.inl ⟨(by rfl), ?hyb9⟩) hSd ?restb9
      case hyb9 =>
        intro W hW
        go_simp
        exact rfl
      simp only [List.getElem_toArray, List.getElem_cons_succ, List.getElem_cons_zero, Act.put, List.setIfInBounds_toArray, List.set_cons_zero, List.set_cons_succ]
      refine but_take (f := 13) (i := 10) (v := ?vb10) rfl (by kernel_rfl) (by kernel_rfl) (by kernel_rfl) (by kernel_rfl) (by kernel_rfl) (fun _ _ _ h => h) (Or.inl ⟨(by rfl), ?hyb10⟩) hSd ?restb10
      case hyb10 =>
        intro W hW
        go_simp
        exact rfl
      simp only [List.getElem_toArray, List.getElem_cons_succ, List.getElem_cons_zero, Act.put, List.setIfInBounds_toArray, List.set_cons_zero, List.set_cons_succ]
      refine but_run (i := 5) (by kernel_rfl) rfl (by rfl) ?_
      simp only [List.getElem_toArray, List.getElem_cons_succ, List.getElem_cons_zero]
      intro K HK
      refine operHalf w _ (by rfl) (.tmp 40) (.tmp 44) 24 3 8 (.int .i64 0) (by rfl) Tryz.underlying24 (by kernel_rfl) rfl (by omega) gl (i + br.length) _ _ (by rfl) HP0.out.hl (tailA (some ⟨gl, 0, none⟩) cl j) (lo.length - j) (cl - j) ((lo.map iV).drop j) (by rfl) (by simp) (TLL.out.on hSd.1) (HO1.out) (by omega) HP0.out.below ?_
      intro vb1 Vb1 hb1 gb1 ab1 bb1
      obtain ⟨pb1, fb1⟩ := HP0.out.low hb1 gb1 ab1 bb1
      have HPb1 := Lib.hid pb1
      obtain ⟨Ab1, cb1, rfl⟩ := hb1.form
      have hSb1 : (fun V => Below w.heap.size w V ∧ V.heap[w.heap.size]? = some (.cells #[.slice (some ⟨gl, 0, none⟩) lo.length cl, .slice (some ⟨gn, 0, none⟩) lo.length cn] 27 (0, 0))) Vb1 := ⟨bb1, (fb1 _ (.inl rfl)).trans hSd.2⟩
      refine HK.out _ _ (fun _ => hSb1) ?_
      clear HK
      replace QT := Lib.hid ((fb1 _ (.inl rfl)).trans QT.out)
      replace QR := Lib.hid ((fb1 _ (.inr rfl)).trans QR.out)
      clear hb1 gb1 ab1 bb1 pb1 fb1
      simp only [List.getElem_toArray, List.getElem_cons_succ, List.getElem_cons_zero, Act.put, List.setIfInBounds_toArray, List.set_cons_zero, List.set_cons_succ]
      refine but_run (i := 11) (by kernel_rfl) rfl (by rfl) ?_
      simp only [List.getElem_toArray, List.getElem_cons_succ, List.getElem_cons_zero]
      intro K HK
      refine operHalf w _ (by rfl) (.tmp 46) (.tmp 50) 25 71 24 (.agg #[.slice none 0 0]) (by rfl) Tryz.underlying25 (by kernel_rfl) rfl (by omega) gn (i + br.length) _ _ (by rfl) HPb1.out.hn (tailA (some ⟨gn, 0, none⟩) cn j) (lo.length - j) (cn - j) (xs.drop j) (by rfl) (by rw [List.length_drop, HXL.out]) (TLN.out.on hSb1.1) (HO2.out) (by omega) HPb1.out.below ?_
      intro vb2 Vb2 hb2 gb2 ab2 bb2
      obtain ⟨pb2, fb2⟩ := HPb1.out.node hb2 gb2 ab2 bb2
      have HPb2 := Lib.hid pb2
      obtain ⟨Ab2, cb2, rfl⟩ := hb2.form
      have hSb2 : (fun V => Below w.heap.size w V ∧ V.heap[w.heap.size]? = some (.cells #[.slice (some ⟨gl, 0, none⟩) lo.length cl, .slice (some ⟨gn, 0, none⟩) lo.length cn] 27 (0, 0))) Vb2 := ⟨bb2, (fb2 _ (.inl rfl)).trans hSb1.2⟩
      refine HK.out _ _ (fun _ => hSb2) ?_
      clear HK
      replace QT := Lib.hid ((fb2 _ (.inl rfl)).trans QT.out)
      replace QR := Lib.hid ((fb2 _ (.inr rfl)).trans QR.out)
      clear hb2 gb2 ab2 bb2 pb2 fb2
      simp only [List.getElem_toArray, List.getElem_cons_succ, List.getElem_cons_zero, Act.put, List.setIfInBounds_toArray, List.set_cons_zero, List.set_cons_succ]
      refine but_take (f := 13) (i := 12) (v := ?vb12) rfl (by kernel_rfl) (by kernel_rfl) (by kernel_rfl) (by kernel_rfl) (by kernel_rfl) (fun _ _ _ h => h) (Or.inl ⟨(by rfl), ?hyb12⟩) hSb2 ?restb12
      case hyb12 =>
        intro W hW
        go_simp
        exact rfl
      simp only [List.getElem_toArray, List.getElem_cons_succ, List.getElem_cons_zero, Act.put, List.setIfInBounds_toArray, List.set_cons_zero, List.set_cons_succ]
      obtain ⟨r0, r1, r2⟩ := box2 QR.out
      refine but_run (i := 13) (by kernel_rfl) rfl (by rfl) ?_
      simp only [List.getElem_toArray, List.getElem_cons_succ, List.getElem_cons_zero]
      intro K HK
      go_wp2_with fail
      refine HK.out _ _ (fun h => absurd rfl h) ?_
      clear HK
      refine but_done (by kernel_rfl) ?_
      go_wp2_with fail
      refine bodyPost_ret (v := .agg #[.slice Ab1 (i + br.length + (lo.length - j)) cb1, .slice Ab2 (i + br.length + (lo.length - j)) cb2]) (by simp [results, Tryz.results94, go_sem, *]) rfl ?_
      exact ⟨_, _, rfl, ((HPb2.out.store (.inr rfl) hpr _).store (.inr rfl) hpr _).mono (fun b hb => hb.elim)⟩
end Go.Proofs.YtkcafbdlealbpaaGreat
/- The contract for impl.replaceNodes on trees: out of a tree of the call's own, and branches beside it, comes a tree of the call's own. Conditions: at most 10^6 nodes and two branches. -/
namespace Go.Proofs.YtkcafbdlealbpaaGreat
open Go.RowKit
set_option maxRecDepth 100000
set_option linter.unusedSimpArgs false
set_option linter.unusedVariables false

theorem At.cellsV {w : World} {g : Nat} {cur : Array Value} {e : TypeId} {xs : List Value} (h : At w (some ⟨g, 0, none⟩) xs) (hc : w.heap[g]? = some (.cells cur e (0, 0))) : xs.length ≤ cur.size ∧ cur.toList.take xs.length = xs := by
  have key : ∀ i (hi : i < xs.length), cur[i]? = some xs[i] := by
    intro i hi
    rcases h with h | ⟨b, off, h1, h2⟩
    · rw [h] at hi
      simp at hi
    · injection h1 with h1
      injection h1 with h1 h1'
      subst h1 h1'
      have := h2 i hi
      rw [Nat.zero_add, cell_of_row _ _ _ _ _ _ hc] at this
      exact this
  have hle : xs.length ≤ cur.size := by
    rcases Nat.eq_zero_or_pos xs.length with h0 | h0
    · omega
    · have := (Array.getElem?_eq_some_iff.1 (key (xs.length - 1) (by omega))).1
      omega
  refine ⟨hle, List.ext_getElem? (fun i => ?_)⟩
  by_cases hi : i < xs.length
  · rw [List.getElem?_take_of_lt hi, Array.getElem?_toList, key i hi, List.getElem?_eq_getElem hi]
  · rw [List.getElem?_eq_none (by simp; omega), List.getElem?_eq_none (by omega)]
theorem Half.ownC {w0 w : World} {g : Nat} {e : TypeId} {v : Value} {n : Nat} {xs : List Value} {cs : List Dat} {S U : Nat → Prop} (h : Half w0 w g e v n xs) (hg : ∃ cur, w.heap[g]? = some (.cells cur e (0, 0))) (hS : ∀ b, v.ownBlock = some b → S b) (ho : OwnsL w U xs cs) (hU : ∀ b, U b → S b ∧ v.ownBlock ≠ some b) (hl : cs.length = n) (hn : n ≤ maxLen) : OwnC w S v (.row e 1 n cs) := by
  rcases h with h | ⟨rfl, hat, hxl, _⟩
  · rcases row_cases h with ⟨rfl, rfl, hx⟩ | ⟨g', cap, rfl, hb, ⟨cur, hcur, hsz, htk⟩, hn', hc, _⟩
    · exact .inl ⟨rfl, rfl, List.length_eq_zero_iff.1 hl⟩
    · exact .inr ⟨g', cap, cur, xs, rfl, hS g' rfl, hcur, hn', hc, by omega, by omega, htk, ho.mono (fun b hb => ⟨(hU b hb).1, fun e => (hU b hb).2 (by rw [e]; rfl)⟩)⟩
  · obtain ⟨cur, hcur⟩ := hg
    obtain ⟨h1, h2⟩ := hat.cellsV hcur
    exact .inr ⟨g, n, cur, xs, rfl, hS g rfl, hcur, Nat.le_refl _, hn, by omega, by omega, by rw [Nat.mul_one, ← hxl]; exact h2, ho.mono (fun b hb => ⟨(hU b hb).1, fun e => (hU b hb).2 (by rw [e]; rfl)⟩)⟩
theorem Half.ownB {w0 w : World} {g : Nat} {e : TypeId} {v : Value} {n : Nat} {xs : List Value} (h : Half w0 w g e v n xs) : ∀ b, v.ownBlock = some b → w0.heap.size ≤ b ∨ b = g := by
  rcases h with h | ⟨rfl, _⟩
  · exact fun b hb => .inl (row_lt h b hb).2
  · intro b hb
    simp [Value.ownBlock] at hb
    exact .inr hb.symm
theorem setL_map {α β : Type} (f : α → β) (l : List α) (i : Nat) (m : List α) (j : Nat) : (setL l i m j).map f = (l.map f).take i ++ m.map f ++ (l.map f).drop j := by simp [setL, List.map_take, List.map_drop]
/-- What lies in an owned row of one cell an element that is not empty. -/
theorem OwnC.row1 {w : World} {S : Nat → Prop} {v : Value} {e n : Nat} {cs : List Dat} (h : OwnC w S v (.row e 1 n cs)) (hn : 0 < n) : ∃ (g cap : Nat) (cur : Array Value) (xs : List Value), v = .slice (some ⟨g, 0, none⟩) n cap ∧ S g ∧ w.heap[g]? = some (.cells cur e (0, 0)) ∧ n ≤ cap ∧ cap ≤ maxLen ∧ xs.length = n ∧ At w (some ⟨g, 0, none⟩) xs ∧ OwnsL w (fun b => S b ∧ b ≠ g) xs cs := by
  rcases h with ⟨_, h, _⟩ | ⟨g, cap, cur, xs, rfl, h2, h3, h4, h5, h6, h7, h8, h9⟩
  · omega
  · have hl : xs.length = n := by rw [h9.1, h7]; omega
    refine ⟨g, cap, cur, xs, rfl, h2, h3, h4, h5, hl, .inr ⟨g, 0, rfl, fun i hi => ?_⟩, h9⟩
    rw [Nat.zero_add, cell_of_row _ _ _ _ _ _ h3]
    subst h8
    rw [List.getElem_take, Array.getElem_toList]
    exact Array.getElem?_eq_getElem (by omega)
theorem zip_fst {los : List Int} {us : List Value} (h : los.length = us.length) : (los.zip us).map (fun p => Value.int .i64 p.1) = los.map iV := by
  induction los generalizing us with
  | nil => rfl
  | cons a t ih =>
    cases us with
    | nil => simp at h
    | cons u r => simp only [List.zip_cons_cons, List.map_cons, ih (by simpa using h)]; rfl
theorem zip_snd {los : List Int} {us : List Value} (h : los.length = us.length) : (los.zip us).map (·.2) = us := by
  induction los generalizing us with
  | nil => cases us with | nil => rfl | cons u r => simp at h
  | cons a t ih =>
    cases us with
    | nil => simp at h
    | cons u r => simp only [List.zip_cons_cons, List.map_cons, ih (by simpa using h)]
/-- A tree in blocks of U, whose rows may be cut. -/
def MakesC (w : World) (U : Nat → Prop) (lo : List Int) (ts : List NodeD) (e : Ending) (w' : World) : Prop := ∃ vl vn, e = .returned (.agg #[vl, vn]) ∧ TreeC w' U vl vn lo ts ∧ Below w.heap.size w w'
theorem replaceNodes_any (vl vn : Value) (lo : List Int) (ts : List NodeD) (i j : Nat) (B : Option Addr) (cb : Nat) (los : List Int) (nds : List NodeD) (us : List Value) (S T : Nat → Prop) (w : World) (hv : TreeC w S vl vn lo ts)
    (hB : At w B (brX (los.zip us))) (hlu : los.length = us.length) (hun : us.length = nds.length) (hus : ∀ u ∈ us, ∃ A n c, u = .slice A n c) (hou : OwnsL w T us (nds.map setsD)) (hST : ∀ b, S b → ¬ T b) (hij : i ≤ j) (hj : j ≤ lo.length) (hlt : lo.length = ts.length) (h0 : 0 < lo.length) (hs : lo.length ≤ 1000000) (hbn : los.length ≤ 2) :
    Calls Tryz.prog 94 #[.agg #[vl, vn], .int .i64 (i : Int), .int .i64 (j : Int), .slice B los.length cb] w (MakesC w (fun b => S b ∨ T b ∨ w.heap.size ≤ b) (setL lo i los j) (setL ts i nds j)) := by
  obtain ⟨P, Q, hP, hQ, hPQ, hl, hn⟩ := hv.lt
  obtain ⟨gl, cl, curl, xl, rfl, hPl, hhl, hcl, hcl2, hxl, hal, hol⟩ := OwnC.row1 hl h0
  obtain ⟨gn, cn, curn, xn, rfl, hQn, hhn, hcn, hcn2, hxn, han, hon⟩ := OwnC.row1 hn (by omega)
  have hxi : xl = lo.map iV := lits_eq hol.reads
  subst hxi
  have hgne : gl ≠ gn := by
    rintro rfl
    exact hPQ gl hPl hQn
  have h1x : ∀ u ∈ xn, u.oneCell' = true := hon.reads.ones (fun c hc => by simp at hc; obtain ⟨l, _, rfl⟩ := hc; rfl)
  have hzl : (los.zip us).length = los.length := by simp; omega
  rw [← hlt] at hcn hxn
  have hcall := replaceNodes_cells gl gn cl cn i j cb lo xn B (los.zip us) w hal han hxn h1x hcl hcn hcl2 hcn2 (hP gl hPl).2 (hQ gn hQn).2 hgne hij hj hs hB (fun p hp => hus p.2 (List.of_mem_zip hp).2) (by omega)
  rw [hzl] at hcall
  rw [← hlt]
  refine hcall.mono ?_
  rintro e w' ⟨vl', vn', rfl, hp⟩
  have hb := hp.below
  rw [zip_fst hlu, zip_snd hlu] at hp
  refine ⟨vl', vn', rfl, ?_, hb⟩
  have hsw := OwnsL.swap (U := fun b => (Q b ∧ b ≠ gn) ∨ (T b ∧ b < w.heap.size)) hon hou.lt i j hij (fun b hb => .inl hb) (fun b hb => .inr hb) (fun b hb hb' => hST b (hQ b hb.1).1 hb'.1)
  have hlen : (setL lo i los j).length = i + los.length + (lo.length - j) := by unfold setL; simp; omega
  have hlen2 : (setL ts i nds j).length = i + los.length + (lo.length - j) := by unfold setL; simp; omega
  have hvl := hp.hl.ownB
  have hvn := hp.hn.ownB
  have hgl := hP gl hPl
  have hgn := hQ gn hQn
  refine ⟨fun b => vl'.ownBlock = some b, fun b => ((Q b ∧ b ≠ gn) ∨ (T b ∧ b < w.heap.size)) ∨ vn'.ownBlock = some b, fun b h => ?_, fun b h => ?_, fun b h h' => ?_, ?_, ?_⟩
  · rcases hvl b h with h1 | rfl
    · exact .inr (.inr h1)
    · exact .inl hgl.1
  · rcases h with (h | h) | h
    · exact .inl (hQ b h.1).1
    · exact .inr (.inl h.1)
    · rcases hvn b h with h1 | rfl
      · exact .inr (.inr h1)
      · exact .inl hgn.1
  · rcases h' with (h' | h') | h'
    · rcases hvl b h with h1 | rfl
      · have := (hQ b h'.1).2
        omega
      · exact hPQ b hPl h'.1
    · rcases hvl b h with h1 | rfl
      · omega
      · exact hST b hgl.1 h'.1
    · exact hp.d b h h'
  · have h1 := hp.hl
    rw [← setL_map iV lo i los j] at h1
    have h2 := h1.ownC (S := fun b => vl'.ownBlock = some b) (U := fun _ => False) (cs := (setL lo i los j).map fun n => .lit (iV n)) ⟨curl, (hb.block gl hgl.2).trans hhl⟩ (fun b h => h) (ints_litL w' _ _) (fun b h => h.elim) (by rw [List.length_map, hlen]) (by unfold maxLen; omega)
    rw [← hlen] at h2
    exact h2
  · have h1 := hp.hn
    have h2 := h1.ownC (S := fun b => ((Q b ∧ b ≠ gn) ∨ (T b ∧ b < w.heap.size)) ∨ vn'.ownBlock = some b) ⟨curn, (hb.block gn hgn.2).trans hhn⟩ (fun b h => .inr h) (hsw.on hb) (fun b h => ⟨.inl h, fun he => ?_⟩) (by simp; omega) (by unfold maxLen; omega)
    · rw [← setL_map setsD ts i nds j, ← hlen2] at h2
      exact h2
    · rcases hvn b he with h3 | rfl
      · rcases h with h | h
        · have := (hQ b h.1).2
          omega
        · omega
      · rcases h with h | h
        · exact h.2 rfl
        · exact hST b hgn.1 h.1
end Go.Proofs.YtkcafbdlealbpaaGreat
