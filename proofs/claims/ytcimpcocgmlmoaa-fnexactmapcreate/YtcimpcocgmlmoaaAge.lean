/- Versions (ages): how lists of them lie in memory, how they are read, owned, made and appended to; the same of lists of ints; a list of versions that comes in as an argument is opened. Conditions: at most 2^20 versions (making), 2^30 (appending). -/
import Derived.Test.YtcimpcocgmlmoaaKSetMark
import Derived.Test.YtcimpcocgmlmoaaTreeMark
namespace Go.Proofs.Ytcimpcocgmlmoaa
open Go.RowKit Go.ChangeShapes Go.WideShapes Go.Deep
set_option maxRecDepth 100000
set_option linter.unusedSimpArgs false
set_option linter.unusedVariables false

structure AgeD where
  (a b : Int)
  deriving DecidableEq
def AgeD.v (k : AgeD) : Value := .agg #[.int .i64 k.a, .int .i64 k.b]
def gC (k : AgeD) : List Dat := [.lit (.int .i64 k.a), .lit (.int .i64 k.b)]
def gX (k : AgeD) : List Value := [.int .i64 k.a, .int .i64 k.b]
theorem gC_len (k : AgeD) : (gC k).length = 2 := rfl
def gvl (l : List AgeD) : List Value := l.flatMap gX
theorem gvl_cons (k : AgeD) (l : List AgeD) : gvl (k :: l) = gX k ++ gvl l := rfl
theorem gvl_len (l : List AgeD) : (gvl l).length = l.length * 2 := by
  induction l with
  | nil => rfl
  | cons k l ih =>
    rw [gvl_cons, List.length_append, ih]
    simp [gX, Nat.add_mul]; omega
theorem gvl_append (l m : List AgeD) : gvl (l ++ m) = gvl l ++ gvl m := by simp [gvl]
theorem gvl_one (k : AgeD) : gvl [k] = gX k := by simp [gvl]
theorem gvl_cells (l : List AgeD) : ∀ u ∈ gvl l, u.oneCell' = true := by
  intro u hu
  simp only [gvl, List.mem_flatMap, gX] at hu
  obtain ⟨k, _, hk⟩ := hu
  simp at hk
  rcases hk with rfl | rfl <;> rfl
theorem ages_len (l : List AgeD) : (l.flatMap gC).length = l.length * 2 := flat_len gC 2 l gC_len
theorem gC_map (l : List AgeD) : l.flatMap gC = (gvl l).map Dat.lit := by
  induction l with
  | nil => rfl
  | cons k l ih =>
    rw [gvl_cons, List.map_append, ← ih]
    rfl
theorem gdrop_at {l : List AgeD} {k : Nat} (h : k < l.length) : l.drop k = l[k] :: l.drop (k + 1) := List.drop_eq_getElem_cons h
/-- The two cells from place o of block b on hold the version k. -/
abbrev Two (w : World) (b o : Nat) (k : AgeD) : Prop := w.cell? ⟨b, o, none⟩ = some (.int .i64 k.a) ∧ w.cell? ⟨b, o + 1, none⟩ = some (.int .i64 k.b)
theorem Two.keep {w w' : World} {b o : Nat} {k : AgeD} (h : Two w b o k) (hb : w'.heap[b]? = w.heap[b]?) : Two w' b o k :=
  ⟨(World.cell?_of_block (a := ⟨b, o, none⟩) hb).trans h.1, (World.cell?_of_block (a := ⟨b, o + 1, none⟩) hb).trans h.2⟩
theorem Two.on {w w' : World} {b o : Nat} {k : AgeD} (h : Two w b o k) (hlt : b < w.heap.size) (hb : Below w.heap.size w w') : Two w' b o k := h.keep (hb.block b hlt)
theorem Reads.ages {w : World} {B : Nat} {A : Option Addr} {e n cap : Nat} {l : List AgeD} (h : Reads w B (.slice A n cap) (.row e 2 l.length (l.flatMap gC))) {i : Nat} (hi : i < l.length) :
    ∃ b off, A = some ⟨b, off, none⟩ ∧ b < B ∧ ∀ k (hk : k < l.length), Two w b (off + k * 2) l[k] := by
  obtain ⟨A', cap', hv, hn, hc, hl, _, k⟩ := h.row'
  cases hv
  rcases k with h | ⟨b, off, xs, rfl, hb, hx, hcell, hr⟩
  · have := congrArg List.length h
    rw [ages_len] at this; simp only [List.length_nil] at this; omega
  · refine ⟨b, off, rfl, hb, fun k hk => ?_⟩
    rw [ages_len] at hx
    have get : ∀ j, j < 2 → ∃ x c, w.cell? ⟨b, off + (k * 2 + j), none⟩ = some x ∧ (gC l[k])[j]? = some c ∧ Reads w B x c := by
      intro j hj
      have hlt := flat_lt (z := 2) hk hj
      have h1 := hr (k * 2 + j) (by omega) (by rw [ages_len]; omega)
      have h2 := hcell (k * 2 + j) (by omega)
      have h3 := flat_get gC 2 l gC_len k j hk hj
      rw [List.getElem?_eq_getElem (by rw [ages_len]; omega)] at h3
      exact ⟨_, _, h2, h3.symm, h1⟩
    obtain ⟨x0, c0, a0, b0, r0⟩ := get 0 (by omega)
    obtain ⟨x1, c1, a1, b1, r1⟩ := get 1 (by omega)
    simp [gC] at b0 b1
    subst b0 b1
    cases r0
    cases r1
    exact ⟨a0, a1⟩
theorem Reads.shapeG {w : World} {B : Nat} {v : Value} {e : TypeId} {l : List AgeD} (h : Reads w B v (.row e 2 l.length (l.flatMap gC))) : ∃ A cap, v = .slice A l.length cap ∧ l.length ≤ cap ∧ cap ≤ maxLen := by
  obtain ⟨A, cap, hv, hn, hc, _⟩ := h.row'
  exact ⟨A, cap, hv, hn, hc⟩
theorem Reads.atG {w : World} {B : Nat} {A : Option Addr} {e n cap : Nat} {l : List AgeD} (h : Reads w B (.slice A n cap) (.row e 2 l.length (l.flatMap gC))) : At w A (gvl l) := by
  obtain ⟨A', cap', hv, hn, hc, hl, _, k⟩ := h.row'
  cases hv
  rcases k with h | ⟨b, off, xs, rfl, hb, hx, hcell, hr⟩
  · left
    have := congrArg List.length h
    rw [ages_len] at this
    exact List.length_eq_zero_iff.1 (by rw [gvl_len]; simpa using this)
  · right
    refine ⟨b, off, rfl, ?_⟩
    have : xs = gvl l := lit_reads (by rw [hx, ages_len, gvl_len]) (by rw [← gC_map]; exact hr)
    subst this
    exact hcell
/-- The first N elements of a row read as the first N of the list. -/
theorem Reads.takeG {w : World} {B : Nat} {A : Option Addr} {e c : Nat} {l : List AgeD} (h : Reads w B (.slice A l.length c) (.row e 2 l.length (l.flatMap gC))) (N : Nat) (hN : N ≤ l.length) : Reads w B (.slice A N c) (.row e 2 (l.take N).length ((l.take N).flatMap gC)) := by
  have hl : (l.take N).length = N := by simp; omega
  rw [hl]
  obtain ⟨A', cap', hv, hn, hc, hll, _, k⟩ := h.row'
  cases hv
  refine Reads.ofBytes (xs := gvl (l.take N)) (by omega) hc (by rw [ages_len, hl]) (by omega) ?_
  by_cases h0 : N = 0
  · left; subst h0; simp
  · right
    obtain ⟨b, off, rfl, hb, ht⟩ := h.ages (i := 0) (by omega)
    refine ⟨b, off, rfl, hb, by rw [gvl_len, ages_len], fun i hi => ?_, fun i hi h' => ?_⟩
    · have hat := h.atG
      rcases hat with h1 | ⟨b', off', he, hcell⟩
      · have := congrArg List.length h1
        rw [gvl_len] at this; simp at this; omega
      · cases he
        have he2 : gvl l = gvl (l.take N) ++ gvl (l.drop N) := by rw [← gvl_append, List.take_append_drop]
        have hlt : i < (gvl l).length := by rw [he2, List.length_append]; omega
        rw [hcell i hlt]
        simp only [he2, List.getElem_append_left hi]
    · simp only [gC_map, List.getElem_map]
      exact .lit _
theorem At.age (w : World) (k : AgeD) (e : TypeId) : At (w.alloc (.cells #[.int .i64 k.a, .int .i64 k.b] e)) (some ⟨w.heap.size, 0, none⟩) (gvl [k]) := by
  refine .inr ⟨w.heap.size, 0, rfl, fun i hi => ?_⟩
  rw [cell_of_row _ _ _ _ _ _ (heap_alloc_new w _)]
  simp only [gvl_one, gX, List.length_cons, List.length_nil] at hi ⊢
  match i, hi with
  | 0, _ => rfl
  | 1, _ => rfl
theorem At.takeG {w : World} {A : Option Addr} {l : List AgeD} (h : At w A (gvl l)) (N : Nat) : At w A (gvl (l.take N)) := by
  rcases h with h | ⟨b, off, rfl, hc⟩
  · left
    have : l = [] := by
      have := congrArg List.length h
      rw [gvl_len] at this
      exact List.length_eq_zero_iff.1 (by simp at this; omega)
    subst this
    simp [gvl]
  · right
    have he : gvl l = gvl (l.take N) ++ gvl (l.drop N) := by rw [← gvl_append, List.take_append_drop]
    refine ⟨b, off, rfl, fun i hi => ?_⟩
    have hlt : i < (gvl l).length := by rw [he, List.length_append]; omega
    rw [hc i hlt]
    simp only [he, List.getElem_append_left hi]
/-- A row of ints of the call's own. -/
def RowI (w : World) (base : Nat) (v : Value) (l : List Int) : Prop := w.ownsRow base 3 1 v l.length (l.map iV)
theorem RowI.owns {w : World} {base : Nat} {v : Value} {l : List Int} (h : RowI w base v l) : Owns w (fun b => base ≤ b) v (intsD l) := by
  refine row_owns (h : w.ownsRow _ _ _ _ _ _) ?_ (by simp)
  have := lits_own w (fun b => base ≤ b ∧ v.ownBlock ≠ some b) (l.map iV)
  rwa [List.map_map] at this
theorem RowI.on {w w' : World} {base : Nat} {v : Value} {l : List Int} (h : RowI w base v l) (hb : Below w.heap.size w w') : RowI w' base v l := row_on (h : w.ownsRow _ _ _ _ _ _) hb
theorem RowI.lt {w : World} {base : Nat} {v : Value} {l : List Int} (h : RowI w base v l) : ∀ g, v.ownBlock = some g → g < w.heap.size ∧ base ≤ g := row_lt (h : w.ownsRow _ _ _ _ _ _)
theorem RowI.shape {w : World} {base : Nat} {v : Value} {l : List Int} (h : RowI w base v l) : ∃ A cap, v = .slice A l.length cap ∧ l.length ≤ cap ∧ cap ≤ maxLen := by
  obtain ⟨A, cap, hv, hn, hc, _⟩ := h.owns.reads.row'
  exact ⟨A, cap, hv, hn, hc⟩
theorem RowI.lit (w : World) : RowI (w.alloc (.cells #[] 3)) w.heap.size (.slice (some ⟨w.heap.size, 0, none⟩) 0 0) [] := row_lit w 3 1
theorem int_info7 : (Try.prog.info? 3).map (fun i => (i.zero, i.size, i.bytes)) = some (some (.int .i64 0), 1, 8) := by kernel_rfl
theorem wpList_appI {ops : Array Oper} {rest : List Oper} {o : Oper} {a : Act} {Q : Exit → Act → World → Prop} (w : World) (hgd : o.guard = none) (s x : Operand)
    (hop : o.op = .call { callee := .builtin .append, args := #[s, x], argTypes := #[50, 50] })
    (base : Nat) (v : Value) (l : List Int) (hs : a.eval s = v) (hown : RowI w base v l) (A : Option Addr) (n c : Nat) (m : List Int) (hx : a.eval x = .slice A n c) (hmn : m.length = n) (hA : At w A (m.map iV)) (hlen : l.length + m.length ≤ 1073741824) (hbase : base ≤ w.heap.size)
    (h : ∀ v' w', RowI w' base v' (l ++ m) → Below base w w' → wpList Try.prog ops Q rest (a.put o.dst v') w') : wpList Try.prog ops Q (o :: rest) a w := by
  subst hmn
  refine wpList_appV w hgd s x 50 3 1 8 (.int .i64 0) hop Try.underlying50 int_info7 rfl (by omega) (by omega) base l.length v (l.map iV) hs hown A m.length c (m.map iV) hx (by simp) hA (by intro u hu; simp only [List.mem_map] at hu; obtain ⟨n, _, rfl⟩ := hu; rfl) hlen hbase ?_
  intro v' w' h2 h3 h4 h5
  refine h v' w' ?_ ?_
  · rw [← List.map_append, ← List.length_append] at h2
    exact h2
  · exact (Below.refl _ _).grown h3 hbase (fun k hk => (hown.lt k hk).2)
theorem At.intOne (w : World) (n : Int) (e : TypeId) : At (w.alloc (.cells #[.int .i64 n] e)) (some ⟨w.heap.size, 0, none⟩) ([n].map iV) := by
  refine .inr ⟨w.heap.size, 0, rfl, fun i hi => ?_⟩
  rw [cell_of_row _ _ _ _ _ _ (heap_alloc_new w _)]
  simp only [List.map_cons, List.map_nil, List.length_cons, List.length_nil] at hi ⊢
  match i, hi with
  | 0, _ => rfl
def NewI (w : World) (l : List Int) (e : Ending) (w' : World) : Prop := ∃ v, e = .returned v ∧ RowI w' w.heap.size v l ∧ Below w.heap.size w w'
end Go.Proofs.Ytcimpcocgmlmoaa
