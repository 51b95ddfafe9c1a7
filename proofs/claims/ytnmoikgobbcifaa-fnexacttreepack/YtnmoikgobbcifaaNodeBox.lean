/- A node of a call's own in a box of its own: its elements read, one of them replaced, one more appended; impl.takesKey. Conditions: at most 2^20 keys. -/
import Derived.Test.YtnmoikgobbcifaaNodeCopy
import Derived.Test.YtnmoikgobbcifaaKSetFind
namespace Go.Proofs.Ytnmoikgobbcifaa
open Go.RowKit
set_option maxRecDepth 100000
set_option linter.unusedSimpArgs false
set_option linter.unusedVariables false

/-- u is a row of sets in blocks from base on, none of them bo. -/
def NOwn (w : World) (base bo : Nat) (u : Value) (ns : List (List KeyD)) : Prop :=
  ∃ xs, w.ownsRow base 37 1 u ns.length xs ∧ OwnsL w (fun b => (base ≤ b ∧ b ≠ bo) ∧ u.ownBlock ≠ some b) xs (ns.map keysD) ∧ u.ownBlock ≠ some bo
theorem NOwn.of {w : World} {base : Nat} {u : Value} {ns : List (List KeyD)} (h : Owns w (fun b => base ≤ b) u (setsD ns)) (o : Obj) : NOwn (w.alloc o) base w.heap.size u ns := by
  rcases h.rw' with ⟨rfl, h0, hc⟩ | ⟨g, cap, xs, rfl, hS, hR, hn, hc, hl, hx, ho⟩
  · have : ns = [] := List.length_eq_zero_iff.1 h0
    subst this
    exact ⟨[], row_nil _ _ _ _, OwnsL.nil _ _, by simp [Value.ownBlock]⟩
  · have hlt := hR.lt
    refine ⟨xs, row_on (hR.row hS hn hc (by simpa using hx)) (bal1 _ _), ?_, by simp [Value.ownBlock]; omega⟩
    exact (ho.lt.on (bal1 w o)).mono (fun b hb => ⟨⟨hb.1.1, by omega⟩, fun e => hb.1.2 (by simp [Value.ownBlock] at e; exact e.symm)⟩)
theorem NOwn.on {w w' : World} {base bo : Nat} {u : Value} {ns : List (List KeyD)} (h : NOwn w base bo u ns) (hb : Below w.heap.size w w') : NOwn w' base bo u ns := by
  obtain ⟨xs, h1, h2, h3⟩ := h
  exact ⟨xs, row_on h1 hb, h2.on hb, h3⟩
theorem rowP_owns {P : Nat → Prop} {w : World} {base e z n : Nat} {v : Value} {xs : List Value} {cs : List Dat} (h : w.ownsRow base e z v n xs) (ho : OwnsL w (fun b => P b ∧ v.ownBlock ≠ some b) xs cs) (hP : ∀ g, v.ownBlock = some g → P g) (hl : cs.length = n * z) : Owns w P v (.row e z n cs) := by
  rcases row_cases h with ⟨rfl, rfl, rfl⟩ | ⟨g, cap, rfl, hb, hR, hn, hc, _⟩
  · have : cs = [] := List.length_eq_zero_iff.1 (by simpa using hl)
    subst this
    exact .nil _ _ _
  · exact hR.owns (hP g rfl) (ho.mono (fun b hb => ⟨hb.1, fun e => hb.2 (by rw [e]; rfl)⟩)) hn hc hl
theorem NOwn.owns {w : World} {base bo : Nat} {u : Value} {ns : List (List KeyD)} (h : NOwn w base bo u ns) : Owns w (fun b => base ≤ b ∧ b ≠ bo) u (setsD ns) := by
  obtain ⟨xs, h1, h2, h3⟩ := h
  exact rowP_owns h1 h2 (fun g hg => ⟨(row_lt h1 g hg).2, fun e => h3 (by rw [← e]; exact hg)⟩) (by simp)
theorem NOwn.form {w : World} {base bo : Nat} {u : Value} {ns : List (List KeyD)} (h : NOwn w base bo u ns) : ∃ A c, u = .slice A ns.length c := by
  obtain ⟨xs, h1, _, _⟩ := h
  exact row_form h1
theorem NOwn.elem {w : World} {base bo : Nat} {u : Value} {ns : List (List KeyD)} (h : NOwn w base bo u ns) {i : Nat} (hi : i < ns.length) :
    ∃ g cap A2 c2, u = .slice (some ⟨g, 0, none⟩) ns.length cap ∧ base ≤ g ∧ g ≠ bo ∧ g < w.heap.size ∧ w.cell? ⟨g, i, none⟩ = some (.slice A2 (ns[i]).length c2) ∧ (∀ o, w.frozen? ⟨g, o, none⟩ = false) ∧ Reads w w.heap.size (.slice A2 (ns[i]).length c2) (keysD ns[i]) := by
  obtain ⟨xs, h1, h2, h3⟩ := h
  rcases row_cases h1 with ⟨_, h0, _⟩ | ⟨g, cap, rfl, hb, hR, hn, hc, hx⟩
  · omega
  · have hxi : i < xs.length := by omega
    have hr := h2.reads.2 i hxi (by simpa using hi)
    rw [List.getElem_map] at hr
    have hcell := hR.cell hxi
    obtain ⟨A2, c2, e, _, _⟩ := hr.shapeK
    rw [e] at hr hcell
    exact ⟨g, cap, A2, c2, rfl, hb, fun e => h3 (by rw [← e]; rfl), hR.lt, hcell, fun o => hR.frozen o, hr⟩
theorem OwnsL.setN {w : World} {S T : Nat → Prop} {vs : List Value} {cs : List Dat} {i : Nat} {u : Value} {c : Dat} (h : OwnsL w S vs cs) (hu : Owns w T u c) (hd : ∀ b, S b → ¬ T b) : OwnsL w (fun b => S b ∨ T b) (vs.set i u) (cs.set i c) := by
  obtain ⟨hl, F, ho, hF, hj⟩ := h
  refine ⟨by simp [hl], fun j b => (j = i ∧ T b) ∨ (j ≠ i ∧ F j b), fun j a b => ?_, fun j b hb => ?_, fun j k b hjk hb hb' => ?_⟩
  · simp only [List.length_set] at a b
    by_cases hij : i = j
    · subst hij; rw [List.getElem_set_self, List.getElem_set_self]; exact hu.mono (fun b hb => .inl ⟨rfl, hb⟩)
    · rw [List.getElem_set_ne hij, List.getElem_set_ne hij]; exact (ho j a b).mono (fun b hb => .inr ⟨Ne.symm hij, hb⟩)
  · rcases hb with ⟨_, hb⟩ | ⟨_, hb⟩
    · exact .inr hb
    · exact .inl (hF j b hb)
  · rcases hb with ⟨h1, hb⟩ | ⟨h1, hb⟩ <;> rcases hb' with ⟨h2, hb'⟩ | ⟨h2, hb'⟩
    · omega
    · exact hd b (hF k b hb') hb
    · exact hd b (hF j b hb) hb'
    · exact hj j k b hjk hb hb'
theorem NOwn.put {w w' : World} {base bo g cap : Nat} {ns : List (List KeyD)} {x : Value} {l : List KeyD} {i : Nat} (h : NOwn w base bo (.slice (some ⟨g, 0, none⟩) ns.length cap) ns) (hi : i < ns.length) (hb : Below w.heap.size w w') (hx : RowK w' w.heap.size x l) (hbo : bo < w.heap.size) (hbase : base ≤ w.heap.size) :
    NOwn (w'.setCell ⟨g, i, none⟩ x) base bo (.slice (some ⟨g, 0, none⟩) ns.length cap) (ns.set i l) := by
  obtain ⟨xs, h1, h2, h3⟩ := h
  have hg := (row_lt h1 g rfl).1
  refine ⟨xs.set i x, ?_, ?_, h3⟩
  · have h := row_set (row_on h1 hb) i x
    rw [List.length_set]
    exact h
  · have k1 := (h2.lt.on hb).setN (i := i) hx.owns (fun b hb hb' => by have := hb.2; omega)
    rw [List.map_set]
    refine OwnsL.mono (k1.keep (w' := w'.setCell ⟨g, i, none⟩ x) (fun b hb _ => Below.heap_setCell _ _ _ _ ?_)) ?_
    · rintro rfl
      rcases hb with hb | hb
      · exact hb.1.2 rfl
      · omega
    · rintro b (hb | hb)
      · exact hb.1
      · exact ⟨⟨by omega, by omega⟩, by simp [Value.ownBlock]; omega⟩
theorem own_growN {P : Nat → Prop} {wr w7 w8 : World} {base e z n : Nat} {u v' : Value} {xs news : List Value} {cs ds : List Dat} (hr : wr.ownsRow base e z u n xs) (ho : OwnsL wr (fun b => P b ∧ u.ownBlock ≠ some b) xs cs) (b7 : Below wr.heap.size wr w7) (hn : OwnsL w7 (fun b => wr.heap.size ≤ b ∧ b < w7.heap.size) news ds)
    (hg : w7.grownBy w8 u.ownBlock) (hat : v'.ownBlock = u.ownBlock ∨ v'.ownBlock = some w7.heap.size) (hP : ∀ b, wr.heap.size ≤ b → P b) : OwnsL w8 (fun b => P b ∧ v'.ownBlock ≠ some b) (xs ++ news) (cs ++ ds) := by
  have hO : Only (fun b => u.ownBlock = some b) w7 w8 := ⟨hg.os, hg.tape, hg.output, hg.size, fun i hi hn => hg.block i hi (fun e => hn e.symm)⟩
  have hz7 := b7.size
  have k1 : OwnsL w8 (fun b => (P b ∧ u.ownBlock ≠ some b) ∧ b < wr.heap.size) xs cs := (ho.lt.on b7).far hO (fun b hb _ hb' => hb.1.2 hb')
  have k2 := hn.far hO (fun b hb _ hb' => by have := (row_lt hr b hb').1; have := hb.1; omega)
  refine k1.append k2 (fun b hb => ⟨hb.1.1, fun hv => ?_⟩) (fun b hb => ⟨hP b hb.1, fun hv => ?_⟩) (fun b hb hb' => by have := hb.2; have := hb'.1; omega)
  · rcases hat with h | h
    · exact hb.1.2 (h ▸ hv)
    · rw [h] at hv; simp at hv; have := hb.2; omega
  · rcases hat with h | h
    · have := (row_lt hr b (h ▸ hv)).1; have := hb.1; omega
    · rw [h] at hv; simp at hv; have := hb.2; omega
/-- One more set, of one key, and the row's new value stored into the box. -/
theorem NOwn.app {w w8 : World} {base bo : Nat} {u v8 : Value} {ns : List (List KeyD)} {xs : List Value} {k : KeyD} (h1 : w.ownsRow base 37 1 u ns.length xs) (h2 : OwnsL w (fun b => (base ≤ b ∧ b ≠ bo) ∧ u.ownBlock ≠ some b) xs (ns.map keysD)) (h3 : u.ownBlock ≠ some bo) (hbo : bo < w.heap.size) (hbase : base ≤ w.heap.size)
    (o8 : w8.ownsRow base 37 1 v8 (ns.length + 1) (xs ++ [.slice (some ⟨w.heap.size, 0, none⟩) 1 1])) (g8 : ((w.alloc (.cells #[.int .i64 k.a, .int .i64 k.b, .int .i64 k.c, .int .i64 k.d, .int .i64 k.e] 29)).alloc (.cells #[.slice (some ⟨w.heap.size, 0, none⟩) 1 1] 37)).grownBy w8 u.ownBlock)
    (hat : v8.ownBlock = u.ownBlock ∨ v8.ownBlock = some ((w.alloc (.cells #[.int .i64 k.a, .int .i64 k.b, .int .i64 k.c, .int .i64 k.d, .int .i64 k.e] 29)).alloc (.cells #[.slice (some ⟨w.heap.size, 0, none⟩) 1 1] 37)).heap.size) :
    NOwn (w8.setCell ⟨bo, 0, none⟩ v8) base bo v8 (ns ++ [[k]]) := by
  have hrow : RowK (w.alloc (.cells #[.int .i64 k.a, .int .i64 k.b, .int .i64 k.c, .int .i64 k.d, .int .i64 k.e] 29)) w.heap.size (.slice (some ⟨w.heap.size, 0, none⟩) 1 1) [k] :=
    ⟨kvl_len _, .inr ⟨w.heap.size, 1, _, rfl, Nat.le_refl _, heap_alloc_new w _, Nat.le_refl _, by unfold maxLen; omega, rfl, rfl⟩⟩
  have hn8 : v8.ownBlock ≠ some bo := by
    rcases hat with h | h
    · rw [h]; exact h3
    · rw [h]; simp; omega
  have k2 := own_growN (P := fun b => base ≤ b ∧ b ≠ bo) h1 h2 (bal2 _ _ _) (OwnsL.one ((hrow.owns.on (bal1 _ (.cells #[.slice (some ⟨w.heap.size, 0, none⟩) 1 1] 37))).lt)) g8 hat (fun b hb => ⟨by omega, by omega⟩)
  refine ⟨xs ++ [.slice (some ⟨w.heap.size, 0, none⟩) 1 1], ?_, ?_, hn8⟩
  · rw [List.length_append]
    exact row_keep o8 (fun g hg => Below.heap_setCell _ _ _ _ (fun e => hn8 (by have e' : g = bo := e; rw [← e']; exact hg)))
  · rw [List.map_append]
    exact k2.keep (fun b hb _ => Below.heap_setCell _ _ _ _ hb.1.2)
end Go.Proofs.Ytnmoikgobbcifaa
