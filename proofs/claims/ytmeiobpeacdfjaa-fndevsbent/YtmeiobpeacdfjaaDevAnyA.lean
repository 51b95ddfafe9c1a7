/- A device in a box of the call's own: its fuse or down set, its first sector made anew, a write appended to its cache. No condition: plain lemmas. -/
import Derived.Test.YtmeiobpeacdfjaaDrawBent
import Derived.Test.YtmeiobpeacdfjaaDevSCopy
namespace Go.Proofs.Ytmeiobpeacdfjaa
open Go.RowKit
set_option maxRecDepth 100000
set_option linter.unusedSimpArgs false
set_option linter.unusedVariables false

theorem PDev.fuse {w : World} {q : Nat} {S : Nat → Prop} {d : DevD} (h : PDev w q S d) (f : Int) : PDev (w.setCell ⟨q, 2, none⟩ (.int .i64 f)) q S { d with fuse := f } := by
  obtain ⟨A0, c0, A1, c1, hq, od, hn⟩ := h
  exact ⟨A0, c0, A1, c1, by simpa using box_set (i := 2) (u := .int .i64 f) hq, od.turn.far ((Only.refl (fun x => x = q) w).setCell rfl _) (fun b hb _ hb' => hn (hb' ▸ hb)), hn⟩
theorem PDev.dn {w : World} {q : Nat} {S : Nat → Prop} {d : DevD} (h : PDev w q S d) (b : Bool) : PDev (w.setCell ⟨q, 3, none⟩ (.bool b)) q S { d with down := b } := by
  obtain ⟨A0, c0, A1, c1, hq, od, hn⟩ := h
  exact ⟨A0, c0, A1, c1, by simpa using box_set (i := 3) (u := .bool b) hq, od.turn.far ((Only.refl (fun x => x = q) w).setCell rfl _) (fun b hb _ hb' => hn (hb' ▸ hb)), hn⟩
/-- A write is appended to the cache of a device of the call's own; meanwhile other blocks may have turned. -/
theorem OwnDev.app2 {w5 w7 w8 : World} {S T : Nat → Prop} {v0 v1 v' x : Value} {d : DevD} {f n : Int} {dn : Bool} {l : List UInt8} {base : Nat} {xs : List Value} {S0 S1 : Nat → Prop}
    (h0 : Owns w5 S0 v0 (secsD d.secs)) (hS0 : ∀ b, S0 b → S b) (hS1 : ∀ b, S1 b → S b) (hd : ∀ b, S0 b → ¬ S1 b) (hlt0 : ∀ b, S0 b → b < w5.heap.size) (hlt1 : ∀ b, S1 b → b < w5.heap.size)
    (hxs : OwnsL w5 (fun b => S1 b ∧ v1.ownBlock ≠ some b) xs (d.cache.flatMap wrC)) (hg1 : ∀ g, v1.ownBlock = some g → S1 g)
    (b7 : Only T w5 w7) (hT : ∀ b, S b → ¬ T b) (ox : Owns w7 (fun b => w5.heap.size ≤ b ∧ b < w7.heap.size) x (bytesD l)) (hr : w8.ownsRow base 78 2 v' (d.cache.length + 1) (xs ++ [.int .i64 n, x])) (hgr : w7.grownBy w8 v1.ownBlock) (hat : v'.ownBlock = v1.ownBlock ∨ v'.ownBlock = some w7.heap.size) (hf : d.fuse = f) (hdn : d.down = dn) :
    OwnDev w8 (fun b => S b ∨ w5.heap.size ≤ b) (.agg #[v0, v', .int .i64 f, .bool dn]) { d with cache := d.cache ++ [(n, l)] } := by
  have hO : Only (fun b => v1.ownBlock = some b) w7 w8 := ⟨hgr.os, hgr.tape, hgr.output, hgr.size, fun i hi hn => hgr.block i hi (fun e => hn e.symm)⟩
  have k0 : Owns w8 S0 v0 (secsD d.secs) := (h0.far b7 (fun b hb _ hb' => hT b (hS0 b hb) hb')).far hO (fun b hb _ hb' => hd b hb (hg1 b hb'))
  have k1 := (hxs.far b7 (fun b hb _ hb' => hT b (hS1 b hb.1) hb')).far hO (fun b hb _ hb' => hb.2 hb')
  have k2 := ox.far hO (fun b hb _ hb' => by have := hlt1 b (hg1 b hb'); have := hb.1; omega)
  refine ⟨v0, v', by rw [hf, hdn], ?_⟩
  have hz7 := b7.size
  refine OwnsL.two (S := S0) (T := fun b => S1 b ∨ w5.heap.size ≤ b) k0 ?_ (fun b hb => .inl (hS0 b hb)) (fun b hb => hb.elim (fun h => .inl (hS1 b h)) .inr) (fun b hb hb' => hb'.elim (hd b hb) (fun h => by have := hlt0 b hb; omega))
  unfold cacheD
  rw [List.length_append, List.length_singleton, List.flatMap_append, List.flatMap_singleton]
  have hne : ∀ g, v'.ownBlock = some g → S1 g ∨ w7.heap.size ≤ g := by
    intro g hg
    rcases hat with h | h
    · exact .inl (hg1 g (h ▸ hg))
    · rw [h] at hg; simp at hg; exact .inr (by omega)
  refine row_ownsS hr _ (fun g hg => (hne g hg).elim .inl (fun h => .inr (by omega))) ?_ (by rw [List.length_append, cache_len]; simp only [wrC, List.length_cons, List.length_nil]; omega)
  refine OwnsL.append (S := fun b => S1 b ∧ v1.ownBlock ≠ some b) (T := fun b => w5.heap.size ≤ b ∧ b < w7.heap.size) k1 (OwnsL.two (Owns.lit (fun _ => False) _) k2 (fun _ h => h.elim) (fun _ h => h) (fun _ h => h.elim)) (fun b hb => ⟨.inl hb.1, fun hv => ?_⟩) (fun b hb => ⟨.inr hb.1, fun hv => ?_⟩) (fun b hb hb' => by have := hlt1 b hb.1; have := hb'.1; omega)
  · rcases hat with h | h
    · exact hb.2 (h ▸ hv)
    · rw [h] at hv; simp at hv; have := hlt1 b hb.1; omega
  · rcases hat with h | h
    · have := hlt1 b (hg1 b (h ▸ hv)); have := hb.1; omega
    · rw [h] at hv; simp at hv; have := hb.2; omega
theorem OwnsL.setNew {w : World} {S T : Nat → Prop} {vs : List Value} {cs : List Dat} {i : Nat} {u : Value} {c : Dat} (h : OwnsL w S vs cs) (hu : Owns w T u c) (hd : ∀ b, S b → ¬ T b) : OwnsL w (fun b => S b ∨ T b) (vs.set i u) (cs.set i c) := by
  obtain ⟨hl, F, ho, hF, hj⟩ := h
  refine ⟨by simp [hl], fun j b => (j = i ∧ T b) ∨ (j ≠ i ∧ F j b), fun j a b => ?_, fun j b hb => ?_, fun j k b hjk hb hb' => ?_⟩
  · simp only [List.length_set] at a b
    by_cases hij : i = j
    · subst hij; rw [List.getElem_set_self, List.getElem_set_self]; exact hu.mono (fun b hb => .inl ⟨rfl, hb⟩)
    · rw [List.getElem_set_ne hij, List.getElem_set_ne hij]; exact (ho j a b).mono (fun b hb => .inr ⟨Ne.symm hij, hb⟩)
  · rcases hb with ⟨_, hb⟩ | ⟨_, hb⟩
    · exact .inr hb
    · exact .inl (hF j b hb)
  · rcases hb with ⟨h1, hb⟩ | ⟨h1, hb⟩ <;> rcases hb' with ⟨h2, hb'⟩ | ⟨h2, hb'⟩
    · omega
    · exact hd b (hF k b hb') hb
    · exact hd b (hF j b hb) hb'
    · exact hj j k b hjk hb hb'
theorem Own.zeros (w : World) (n : Nat) (hn : n ≤ 1048576) : Own (w.alloc (.cells (madeCells #[.int .u8 0] n) 5)) w.heap.size (.slice (some ⟨w.heap.size, 0, none⟩) n n) (List.replicate n 0) := by
  refine ⟨n, _, by simp, heap_alloc_new w _, by simp, by unfold maxLen; omega, size_madeCells _ _, ?_⟩
  rw [toList_madeCells_one]
  simp [bv]
/-- The first sector of a device of the call's own is made anew. -/
theorem OwnDev.sec0 {V : World} {S : Nat → Prop} {A0 : Option Addr} {c0 : Nat} {v1 : Value} {d : DevD} {f : Int} {dn : Bool} (h : OwnDev V S (.agg #[.slice A0 d.secs.length c0, v1, .int .i64 f, .bool dn]) d) (h0 : 0 < d.secs.length) :
    ∃ g, A0 = some ⟨g, 0, none⟩ ∧ S g ∧ g < V.heap.size ∧ V.frozen? ⟨g, 0, none⟩ = false ∧ ∃ u, V.cell? ⟨g, 0, none⟩ = some u ∧
      ∀ n, n ≤ 1048576 → OwnDev ((V.alloc (.cells (madeCells #[.int .u8 0] n) 5)).setCell ⟨g, 0, none⟩ (.slice (some ⟨V.heap.size, 0, none⟩) n n)) (fun b => S b ∨ V.heap.size ≤ b) (.agg #[.slice A0 d.secs.length c0, v1, .int .i64 f, .bool dn]) { d with secs := d.secs.set 0 (List.replicate n 0) } := by
  obtain ⟨u0, u1, he, ol⟩ := h.lt
  simp at he
  obtain ⟨rfl, rfl, hf, hdn⟩ := he
  obtain ⟨S0, S1, s0, s1, hS0, hS1, hdj⟩ := ol.pair
  rcases s0.rw' with ⟨_, h, _⟩ | ⟨g, cap, xs, hv, hg, hR, hn, hc, hl, hx, ho⟩
  · omega
  · cases hv
    have hx1 : xs.length = d.secs.length := by rw [hx, hl]; omega
    refine ⟨g, rfl, (hS0 g hg).1, hR.lt, hR.frozen 0, _, hR.cell (i := 0) (by omega), fun n hn' => ?_⟩
    have oz := (Own.zeros V n hn').owns (S := fun b => b = V.heap.size) rfl
    have bb := bal1 V (.cells (madeCells #[.int .u8 0] n) 5)
    have hO : Only (fun b => b = g) (V.alloc (.cells (madeCells #[.int .u8 0] n) 5)) ((V.alloc (.cells (madeCells #[.int .u8 0] n) 5)).setCell ⟨g, 0, none⟩ (.slice (some ⟨V.heap.size, 0, none⟩) n n)) := (Only.refl (fun b => b = g) _).setCell rfl _
    have k1 := (s1.on bb).far hO (fun b hb _ hb' => hdj b (hb' ▸ hg) hb)
    have kz := oz.far hO (fun b hb _ hb' => by have := (hS0 g hg).2; omega)
    have ko := (ho.on bb).far hO (fun b hb _ hb' => hb.2 hb')
    have kR := (hR.keep (bb.block g hR.lt)).set 0 (.slice (some ⟨V.heap.size, 0, none⟩) n n)
    have kl := ko.setNew (i := 0) kz (fun b hb hb' => by have := (hS0 b hb.1).2; omega)
    refine ⟨_, _, by rw [hf, hdn], OwnsL.two (S := fun b => S0 b ∨ b = V.heap.size) (T := S1) ?_ k1 (fun b hb => hb.elim (fun h => .inl (hS0 b h).1) (fun h => .inr (by omega))) (fun b hb => .inl (hS1 b hb).1) (fun b hb hb' => hb.elim (fun h => hdj b h hb') (fun h => by have := (hS1 b hb').2; omega))⟩
    have := kR.owns (S := fun b => S0 b ∨ b = V.heap.size) (.inl hg) (kl.mono (fun b hb => hb.elim (fun h => ⟨.inl h.1, h.2⟩) (fun h => ⟨.inr h, by have := (hS0 g hg).2; omega⟩))) hn hc (by simp)
    unfold secsD
    rw [List.map_set, List.length_set]
    exact this
theorem only_past {w a b : World} {P T : Nat → Prop} (h : Only P w a) (k : Only T a b) (hT : ∀ x, T x → w.heap.size ≤ x) : Only P w b :=
  ⟨k.os.trans h.os, k.tape.trans h.tape, k.output.trans h.output, Nat.le_trans h.size k.size, fun i hi hne => (k.block i (by have := h.size; omega) (fun hx => by have := hT i hx; omega)).trans (h.block i hi hne)⟩
def AnyL (w : World) (p q : Nat) (wr : World) : Prop := ∃ d, d.cache.length ≤ 61 ∧ PDev wr q (SDev w.heap.size q) d ∧ SmallD d ∧ Cur wr p ∧ wr.heap[w.heap.size]? = some (.cells #[.slice none 0 0, .slice none 0 0, .int .i64 0, .bool false] 27) ∧ Only (fun x => x = p) w wr
/-- How many writes the device in box q has. -/
def lenAt (q : Nat) (wr : World) : Nat := match wr.cell? ⟨q, 1, none⟩ with | some (.slice _ n _) => n | _ => 0
theorem lenAt_box {w : World} {q : Nat} {a c d : Value} {A : Option Addr} {n m : Nat} {t : TypeId} (h : w.heap[q]? = some (.cells #[a, .slice A n m, c, d] t (0, 0))) : lenAt q w = n := by
  unfold lenAt; rw [(box4 h).2.1]
def fuseList : List Int := [0, 1, 5, -2, 1001]
def AnyDev (w : World) (p : Nat) (e : Ending) (w' : World) : Prop := ∃ v d, e = .returned v ∧ OwnDev w' (fun x => w.heap.size ≤ x) v d ∧ SmallD d ∧ Cur w' p ∧ Only (fun x => x = p) w w'
def AnyIn (w : World) (p q : Nat) (wr : World) : Prop := ∃ d, PDev wr q (SDev w.heap.size q) d ∧ SmallD d ∧ Cur wr p ∧ wr.heap[w.heap.size]? = some (.cells #[.slice none 0 0, .slice none 0 0, .int .i64 0, .bool false] 27) ∧ Only (fun x => x = p) w wr
end Go.Proofs.Ytmeiobpeacdfjaa
