/- Versions (ages): how lists of them lie in memory, how they are read, owned, made and appended to; the same of lists of ints; a list of versions that comes in as an argument is opened. Conditions: at most 2^20 versions (making), 2^30 (appending). -/
import Derived.Test.YtmpgmjnagpiijaaKSetMark
import Derived.Test.YtmpgmjnagpiijaaTreeMark
namespace Go.Proofs.Ytmpgmjnagpiijaa
open Go.RowKit Go.ChangeShapes Go.WideShapes Go.Deep
set_option maxRecDepth 100000
set_option linter.unusedSimpArgs false
set_option linter.unusedVariables false

structure AgeD where
  (a b : Int)
  deriving DecidableEq
def AgeD.v (k : AgeD) : Value := .agg #[.int .i64 k.a, .int .i64 k.b]
def gC (k : AgeD) : List Dat := [.lit (.int .i64 k.a), .lit (.int .i64 k.b)]
def gX (k : AgeD) : List Value := [.int .i64 k.a, .int .i64 k.b]
theorem gC_len (k : AgeD) : (gC k).length = 2 := rfl
def agesD (l : List AgeD) : Dat := .row 97 2 l.length (l.flatMap gC)
def agesA (l : List AgeD) : Dat := .row 109 2 l.length (l.flatMap gC)
def gvl (l : List AgeD) : List Value := l.flatMap gX
theorem gvl_cons (k : AgeD) (l : List AgeD) : gvl (k :: l) = gX k ++ gvl l := rfl
theorem gvl_len (l : List AgeD) : (gvl l).length = l.length * 2 := by
  induction l with
  | nil => rfl
  | cons k l ih =>
    rw [gvl_cons, List.length_append, ih]
    simp [gX, Nat.add_mul]; omega
theorem gvl_append (l m : List AgeD) : gvl (l ++ m) = gvl l ++ gvl m := by simp [gvl]
theorem gvl_one (k : AgeD) : gvl [k] = gX k := by simp [gvl]
theorem gvl_cells (l : List AgeD) : ∀ u ∈ gvl l, u.oneCell' = true := by
  intro u hu
  simp only [gvl, List.mem_flatMap, gX] at hu
  obtain ⟨k, _, hk⟩ := hu
  simp at hk
  rcases hk with rfl | rfl <;> rfl
theorem ages_len (l : List AgeD) : (l.flatMap gC).length = l.length * 2 := flat_len gC 2 l gC_len
theorem gC_map (l : List AgeD) : l.flatMap gC = (gvl l).map Dat.lit := by
  induction l with
  | nil => rfl
  | cons k l ih =>
    rw [gvl_cons, List.map_append, ← ih]
    rfl
theorem gdrop_at {l : List AgeD} {k : Nat} (h : k < l.length) : l.drop k = l[k] :: l.drop (k + 1) := List.drop_eq_getElem_cons h
/-- The two cells from place o of block b on hold the version k. -/
abbrev Two (w : World) (b o : Nat) (k : AgeD) : Prop := w.cell? ⟨b, o, none⟩ = some (.int .i64 k.a) ∧ w.cell? ⟨b, o + 1, none⟩ = some (.int .i64 k.b)
theorem Two.keep {w w' : World} {b o : Nat} {k : AgeD} (h : Two w b o k) (hb : w'.heap[b]? = w.heap[b]?) : Two w' b o k :=
  ⟨(World.cell?_of_block (a := ⟨b, o, none⟩) hb).trans h.1, (World.cell?_of_block (a := ⟨b, o + 1, none⟩) hb).trans h.2⟩
theorem Two.on {w w' : World} {b o : Nat} {k : AgeD} (h : Two w b o k) (hlt : b < w.heap.size) (hb : Below w.heap.size w w') : Two w' b o k := h.keep (hb.block b hlt)
theorem Reads.ages {w : World} {B : Nat} {A : Option Addr} {e n cap : Nat} {l : List AgeD} (h : Reads w B (.slice A n cap) (.row e 2 l.length (l.flatMap gC))) {i : Nat} (hi : i < l.length) :
    ∃ b off, A = some ⟨b, off, none⟩ ∧ b < B ∧ ∀ k (hk : k < l.length), Two w b (off + k * 2) l[k] := by
  obtain ⟨A', cap', hv, hn, hc, hl, _, k⟩ := h.row'
  cases hv
  rcases k with h | ⟨b, off, xs, rfl, hb, hx, hcell, hr⟩
  · have := congrArg List.length h
    rw [ages_len] at this; simp only [List.length_nil] at this; omega
  · refine ⟨b, off, rfl, hb, fun k hk => ?_⟩
    rw [ages_len] at hx
    have get : ∀ j, j < 2 → ∃ x c, w.cell? ⟨b, off + (k * 2 + j), none⟩ = some x ∧ (gC l[k])[j]? = some c ∧ Reads w B x c := by
      intro j hj
      have hlt := flat_lt (z := 2) hk hj
      have h1 := hr (k * 2 + j) (by omega) (by rw [ages_len]; omega)
      have h2 := hcell (k * 2 + j) (by omega)
      have h3 := flat_get gC 2 l gC_len k j hk hj
      rw [List.getElem?_eq_getElem (by rw [ages_len]; omega)] at h3
      exact ⟨_, _, h2, h3.symm, h1⟩
    obtain ⟨x0, c0, a0, b0, r0⟩ := get 0 (by omega)
    obtain ⟨x1, c1, a1, b1, r1⟩ := get 1 (by omega)
    simp [gC] at b0 b1
    subst b0 b1
    cases r0
    cases r1
    exact ⟨a0, a1⟩
theorem Reads.shapeG {w : World} {B : Nat} {v : Value} {e : TypeId} {l : List AgeD} (h : Reads w B v (.row e 2 l.length (l.flatMap gC))) : ∃ A cap, v = .slice A l.length cap ∧ l.length ≤ cap ∧ cap ≤ maxLen := by
  obtain ⟨A, cap, hv, hn, hc, _⟩ := h.row'
  exact ⟨A, cap, hv, hn, hc⟩
theorem Reads.atG {w : World} {B : Nat} {A : Option Addr} {e n cap : Nat} {l : List AgeD} (h : Reads w B (.slice A n cap) (.row e 2 l.length (l.flatMap gC))) : At w A (gvl l) := by
  obtain ⟨A', cap', hv, hn, hc, hl, _, k⟩ := h.row'
  cases hv
  rcases k with h | ⟨b, off, xs, rfl, hb, hx, hcell, hr⟩
  · left
    have := congrArg List.length h
    rw [ages_len] at this
    exact List.length_eq_zero_iff.1 (by rw [gvl_len]; simpa using this)
  · right
    refine ⟨b, off, rfl, ?_⟩
    have : xs = gvl l := lit_reads (by rw [hx, ages_len, gvl_len]) (by rw [← gC_map]; exact hr)
    subst this
    exact hcell
/-- The first N elements of a row read as the first N of the list. -/
theorem Reads.takeG {w : World} {B : Nat} {A : Option Addr} {e c : Nat} {l : List AgeD} (h : Reads w B (.slice A l.length c) (.row e 2 l.length (l.flatMap gC))) (N : Nat) (hN : N ≤ l.length) : Reads w B (.slice A N c) (.row e 2 (l.take N).length ((l.take N).flatMap gC)) := by
  have hl : (l.take N).length = N := by simp; omega
  rw [hl]
  obtain ⟨A', cap', hv, hn, hc, hll, _, k⟩ := h.row'
  cases hv
  refine Reads.ofBytes (xs := gvl (l.take N)) (by omega) hc (by rw [ages_len, hl]) (by omega) ?_
  by_cases h0 : N = 0
  · left; subst h0; simp
  · right
    obtain ⟨b, off, rfl, hb, ht⟩ := h.ages (i := 0) (by omega)
    refine ⟨b, off, rfl, hb, by rw [gvl_len, ages_len], fun i hi => ?_, fun i hi h' => ?_⟩
    · have hat := h.atG
      rcases hat with h1 | ⟨b', off', he, hcell⟩
      · have := congrArg List.length h1
        rw [gvl_len] at this; simp at this; omega
      · cases he
        have he2 : gvl l = gvl (l.take N) ++ gvl (l.drop N) := by rw [← gvl_append, List.take_append_drop]
        have hlt : i < (gvl l).length := by rw [he2, List.length_append]; omega
        rw [hcell i hlt]
        simp only [he2, List.getElem_append_left hi]
    · simp only [gC_map, List.getElem_map]
      exact .lit _
/-- A row of versions of the call's own, nil or in a block from base on. -/
def RowG (w : World) (base : Nat) (v : Value) (l : List AgeD) : Prop := w.ownsRow base 97 2 v l.length (gvl l)
theorem RowG.owns {w : World} {base : Nat} {v : Value} {l : List AgeD} (h : RowG w base v l) : Owns w (fun b => base ≤ b) v (agesD l) := by
  refine row_owns (h : w.ownsRow _ _ _ _ _ _) ?_ (ages_len l)
  rw [gC_map]
  exact lits_own _ _ _
theorem Owns.rowG {w : World} {S : Nat → Prop} {v : Value} {l : List AgeD} (h : Owns w S v (agesD l)) {base : Nat} (hS : ∀ b, S b → base ≤ b) : RowG w base v l := by
  rcases h.row' with ⟨rfl, h, _⟩ | ⟨g, cap, cur, xs, rfl, hg, hh, hn, hc, hs, hl, hx, ho⟩
  · have : l = [] := List.length_eq_zero_iff.1 h
    subst this
    exact row_nil _ _ _ _
  · have hr := ho.reads
    rw [gC_map] at hr
    have : xs = gvl l := lit_reads (by rw [hr.1]; simp) hr.2
    subst this
    exact ⟨gvl_len l, .inr ⟨g, cap, cur, rfl, hS g hg, hh, hn, hc, hs, hx⟩⟩
theorem RowG.shape {w : World} {base : Nat} {v : Value} {l : List AgeD} (h : RowG w base v l) : ∃ A cap, v = .slice A l.length cap ∧ l.length ≤ cap ∧ cap ≤ maxLen := h.owns.reads.shapeG
theorem RowG.on {w w' : World} {base : Nat} {v : Value} {l : List AgeD} (h : RowG w base v l) (hb : Below w.heap.size w w') : RowG w' base v l := row_on (h : w.ownsRow _ _ _ _ _ _) hb
theorem RowG.keep {w w' : World} {base : Nat} {v : Value} {l : List AgeD} (h : RowG w base v l) (hk : ∀ g, v.ownBlock = some g → w'.heap[g]? = w.heap[g]?) : RowG w' base v l := row_keep (h : w.ownsRow _ _ _ _ _ _) hk
theorem RowG.lt {w : World} {base : Nat} {v : Value} {l : List AgeD} (h : RowG w base v l) : ∀ g, v.ownBlock = some g → g < w.heap.size ∧ base ≤ g := row_lt (h : w.ownsRow _ _ _ _ _ _)
theorem RowG.mono {w : World} {base base' : Nat} {v : Value} {l : List AgeD} (h : RowG w base v l) (hb : base' ≤ base) : RowG w base' v l := h.owns.rowG (fun b hb' => by omega)
/-- A store into a block ahead of the row's. -/
theorem RowG.set {w : World} {base g j : Nat} {v u : Value} {l : List AgeD} (h : RowG w base v l) (hg : g < base) : RowG (w.setCell ⟨g, j, none⟩ u) base v l := h.keep (fun k hk => Below.heap_setCell _ _ _ _ (by have := (h.lt k hk).2; simp; omega))
theorem age_info : (Try.prog.info? 97).map (fun i => (i.zero, i.size, i.bytes)) = some (some (.agg #[.int .i64 0, .int .i64 0]), 2, 16) := by kernel_rfl
theorem run_makeAges (n m : Nat) (hn : n ≤ m) (hm : m ≤ 2097152) (w : World) :
    (Instr.makeSlice 26 (.int .i64 (n : Int)) (.int .i64 (m : Int))).run Try.prog w = .ok (.slice (some ⟨w.heap.size, 0, none⟩) n m) (w.alloc (.cells (madeCells #[.int .i64 0, .int .i64 0] (m * 2)) 97)) := by
  obtain ⟨i, hi, h0, h1, h2⟩ := info_parts age_info
  have hr := run_make (P := Try.prog) w 26 97 i (.agg #[.int .i64 0, .int .i64 0]) Try.underlying26 hi h0 .i64 .i64 n m (by omega) (by omega) (by rw [h2]; omega) (by omega)
  simp only [Int.toNat_natCast, h1] at hr
  exact hr
theorem RowG.made (w : World) (m : Nat) (hm : m ≤ 2097152) : RowG (w.alloc (.cells (madeCells #[.int .i64 0, .int .i64 0] (m * 2)) 97)) w.heap.size (.slice (some ⟨w.heap.size, 0, none⟩) 0 m) [] :=
  ⟨rfl, .inr ⟨w.heap.size, m, _, rfl, Nat.le_refl _, heap_alloc_new w _, Nat.zero_le _, by unfold maxLen; omega, by rw [size_madeCells], rfl⟩⟩
theorem RowG.lit (w : World) : RowG (w.alloc (.cells #[] 97)) w.heap.size (.slice (some ⟨w.heap.size, 0, none⟩) 0 0) [] := row_lit w 97 2
/-- append onto a row of the call's own. -/
theorem wpList_appG {ops : Array Oper} {rest : List Oper} {o : Oper} {a : Act} {Q : Exit → Act → World → Prop} (w : World) (hgd : o.guard = none) (s x : Operand)
    (hop : o.op = .call { callee := .builtin .append, args := #[s, x], argTypes := #[26, 26] })
    (base : Nat) (v : Value) (l : List AgeD) (hs : a.eval s = v) (hown : RowG w base v l) (A : Option Addr) (n c : Nat) (m : List AgeD) (hx : a.eval x = .slice A n c) (hmn : m.length = n) (hA : At w A (gvl m)) (hlen : l.length + m.length ≤ 1073741824) (hbase : base ≤ w.heap.size)
    (h : ∀ v' w', RowG w' base v' (l ++ m) → Below base w w' → wpList Try.prog ops Q rest (a.put o.dst v') w') : wpList Try.prog ops Q (o :: rest) a w := by
  subst hmn
  refine wpList_appV w hgd s x 26 97 2 16 (.agg #[.int .i64 0, .int .i64 0]) hop Try.underlying26 age_info rfl (by omega) (by omega) base l.length v (gvl l) hs hown A m.length c (gvl m) hx (gvl_len m) hA (gvl_cells m) hlen hbase ?_
  intro v' w' h2 h3 h4 h5
  refine h v' w' ?_ ?_
  · rw [← gvl_append, ← List.length_append] at h2
    exact h2
  · exact (Below.refl _ _).grown h3 hbase (fun k hk => (hown.lt k hk).2)
theorem At.age (w : World) (k : AgeD) (e : TypeId) : At (w.alloc (.cells #[.int .i64 k.a, .int .i64 k.b] e)) (some ⟨w.heap.size, 0, none⟩) (gvl [k]) := by
  refine .inr ⟨w.heap.size, 0, rfl, fun i hi => ?_⟩
  rw [cell_of_row _ _ _ _ _ _ (heap_alloc_new w _)]
  simp only [gvl_one, gX, List.length_cons, List.length_nil] at hi ⊢
  match i, hi with
  | 0, _ => rfl
  | 1, _ => rfl
theorem At.takeG {w : World} {A : Option Addr} {l : List AgeD} (h : At w A (gvl l)) (N : Nat) : At w A (gvl (l.take N)) := by
  rcases h with h | ⟨b, off, rfl, hc⟩
  · left
    have : l = [] := by
      have := congrArg List.length h
      rw [gvl_len] at this
      exact List.length_eq_zero_iff.1 (by simp at this; omega)
    subst this
    simp [gvl]
  · right
    have he : gvl l = gvl (l.take N) ++ gvl (l.drop N) := by rw [← gvl_append, List.take_append_drop]
    refine ⟨b, off, rfl, fun i hi => ?_⟩
    have hlt : i < (gvl l).length := by rw [he, List.length_append]; omega
    rw [hc i hlt]
    simp only [he, List.getElem_append_left hi]
/-- A call leaves a row of versions in memory of its own. -/
def NewG (w : World) (l : List AgeD) (e : Ending) (w' : World) : Prop := ∃ v, e = .returned v ∧ RowG w' w.heap.size v l ∧ Below w.heap.size w w'
/-- A row of ints of the call's own. -/
def RowI (w : World) (base : Nat) (v : Value) (l : List Int) : Prop := w.ownsRow base 3 1 v l.length (l.map iV)
theorem RowI.owns {w : World} {base : Nat} {v : Value} {l : List Int} (h : RowI w base v l) : Owns w (fun b => base ≤ b) v (intsD l) := by
  refine row_owns (h : w.ownsRow _ _ _ _ _ _) ?_ (by simp)
  have := lits_own w (fun b => base ≤ b ∧ v.ownBlock ≠ some b) (l.map iV)
  rwa [List.map_map] at this
theorem RowI.on {w w' : World} {base : Nat} {v : Value} {l : List Int} (h : RowI w base v l) (hb : Below w.heap.size w w') : RowI w' base v l := row_on (h : w.ownsRow _ _ _ _ _ _) hb
theorem RowI.lt {w : World} {base : Nat} {v : Value} {l : List Int} (h : RowI w base v l) : ∀ g, v.ownBlock = some g → g < w.heap.size ∧ base ≤ g := row_lt (h : w.ownsRow _ _ _ _ _ _)
theorem RowI.shape {w : World} {base : Nat} {v : Value} {l : List Int} (h : RowI w base v l) : ∃ A cap, v = .slice A l.length cap ∧ l.length ≤ cap ∧ cap ≤ maxLen := by
  obtain ⟨A, cap, hv, hn, hc, _⟩ := h.owns.reads.row'
  exact ⟨A, cap, hv, hn, hc⟩
theorem RowI.lit (w : World) : RowI (w.alloc (.cells #[] 3)) w.heap.size (.slice (some ⟨w.heap.size, 0, none⟩) 0 0) [] := row_lit w 3 1
theorem int_info7 : (Try.prog.info? 3).map (fun i => (i.zero, i.size, i.bytes)) = some (some (.int .i64 0), 1, 8) := by kernel_rfl
theorem wpList_appI {ops : Array Oper} {rest : List Oper} {o : Oper} {a : Act} {Q : Exit → Act → World → Prop} (w : World) (hgd : o.guard = none) (s x : Operand)
    (hop : o.op = .call { callee := .builtin .append, args := #[s, x], argTypes := #[22, 22] })
    (base : Nat) (v : Value) (l : List Int) (hs : a.eval s = v) (hown : RowI w base v l) (A : Option Addr) (n c : Nat) (m : List Int) (hx : a.eval x = .slice A n c) (hmn : m.length = n) (hA : At w A (m.map iV)) (hlen : l.length + m.length ≤ 1073741824) (hbase : base ≤ w.heap.size)
    (h : ∀ v' w', RowI w' base v' (l ++ m) → Below base w w' → wpList Try.prog ops Q rest (a.put o.dst v') w') : wpList Try.prog ops Q (o :: rest) a w := by
  subst hmn
  refine wpList_appV w hgd s x 22 3 1 8 (.int .i64 0) hop Try.underlying22 int_info7 rfl (by omega) (by omega) base l.length v (l.map iV) hs hown A m.length c (m.map iV) hx (by simp) hA (by intro u hu; simp only [List.mem_map] at hu; obtain ⟨n, _, rfl⟩ := hu; rfl) hlen hbase ?_
  intro v' w' h2 h3 h4 h5
  refine h v' w' ?_ ?_
  · rw [← List.map_append, ← List.length_append] at h2
    exact h2
  · exact (Below.refl _ _).grown h3 hbase (fun k hk => (hown.lt k hk).2)
theorem At.intOne (w : World) (n : Int) (e : TypeId) : At (w.alloc (.cells #[.int .i64 n] e)) (some ⟨w.heap.size, 0, none⟩) ([n].map iV) := by
  refine .inr ⟨w.heap.size, 0, rfl, fun i hi => ?_⟩
  rw [cell_of_row _ _ _ _ _ _ (heap_alloc_new w _)]
  simp only [List.map_cons, List.map_nil, List.length_cons, List.length_nil] at hi ⊢
  match i, hi with
  | 0, _ => rfl
def NewI (w : World) (l : List Int) (e : Ending) (w' : World) : Prop := ∃ v, e = .returned v ∧ RowI w' w.heap.size v l ∧ Below w.heap.size w w'
theorem age_opens : Opens Try.prog 109 (fun ds => ∃ k : AgeD, ds = gC k) := by
  have h := Opens.struct (P := Try.prog) Try.underlying109 (by kernel_rfl) (List.replicate 2 (fun ds => ∃ n, ds = [Dat.lit (.int .i64 n)] ∧ (Lit.int .i64 n).wf = true)) rfl (fun i hi => by
    match i, hi with
    | 0, _ => exact Opens.int Try.underlying3
    | 1, _ => exact Opens.int Try.underlying3)
  refine h.weaken (fun ds ⟨dss, hd, hC, hds⟩ => ?_)
  match dss, hd with
  | [a, b], _ =>
    obtain ⟨n0, h0, _⟩ := hC 0 (by simp)
    obtain ⟨n1, h1, _⟩ := hC 1 (by simp)
    simp at h0 h1
    subst h0 h1
    exact ⟨⟨n0, n1⟩, by rw [hds]; rfl⟩
theorem ages_opens : Opens Try.prog 38 (fun ds => ∃ l, ds = [agesA l]) :=
  (Opens.slice (z := 2) gC gC_len (by omega) Try.underlying38 (by kernel_rfl) age_opens 109).weaken (fun ds ⟨l, hl⟩ => ⟨l, hl⟩)
theorem open_agesArg {H : Type} {enc : TypeId × Value → H} {w : World} {r : Reach} {b0 base : Nat} {spare : Nat → Bool} {held : Bool} {v : Value} {x : DataW H} {p : List MemPlace}
    (hv : Value.okWide Try.prog w r b0 38 v) (h : DataW.Trod enc Try.prog w base spare held 38 v x p) : ∃ l, Reads w w.heap.size v (agesA l) := by
  obtain ⟨A, n, c, rfl⟩ := okWide_slice Try.underlying38 hv
  obtain ⟨fuel, hf⟩ := h
  obtain ⟨ds, ⟨l, rfl⟩, hr⟩ := ages_opens _ _ _ _ _ _ _ _ _ hf
  have r0 := hr.2 0 (by simp [Value.cells]) (by simp)
  simp [Value.cells] at r0
  exact ⟨l, r0⟩
end Go.Proofs.Ytmpgmjnagpiijaa
