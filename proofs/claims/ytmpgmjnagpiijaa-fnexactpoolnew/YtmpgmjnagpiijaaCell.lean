/- Cells: how lists of them lie in memory, how they are read, owned, made and appended to; a list that comes in as an argument is opened. Conditions: at most 2^20 of them (making), 2^30 (appending). -/
import Derived.Test.YtmpgmjnagpiijaaKSetMark
import Derived.Test.YtmpgmjnagpiijaaTreeMark
namespace Go.Proofs.Ytmpgmjnagpiijaa
open Go.RowKit Go.ChangeShapes Go.WideShapes Go.Deep
set_option maxRecDepth 100000
set_option linter.unusedSimpArgs false
set_option linter.unusedVariables false

structure CelD where
  (a : Int) (b : Bool) (c : Int)
  deriving DecidableEq
def CelD.v (k : CelD) : Value := .agg #[.int .i64 k.a, .bool k.b, .int .i64 k.c]
def celC (k : CelD) : List Dat := [.lit (.int .i64 k.a), .lit (.bool k.b), .lit (.int .i64 k.c)]
def celX (k : CelD) : List Value := [.int .i64 k.a, .bool k.b, .int .i64 k.c]
theorem celC_len (k : CelD) : (celC k).length = 3 := rfl
def celsD (l : List CelD) : Dat := .row 90 3 l.length (l.flatMap celC)
/-- Cells in a block that was made for a row of type t: a row of cells, or an array of them. -/
def celsT (t : TypeId) (l : List CelD) : Dat := .row t 3 l.length (l.flatMap celC)
def celsA (l : List CelD) : Dat := .row 111 3 l.length (l.flatMap celC)
def celvl (l : List CelD) : List Value := l.flatMap celX
theorem celvl_cons (k : CelD) (l : List CelD) : celvl (k :: l) = celX k ++ celvl l := rfl
theorem celvl_len (l : List CelD) : (celvl l).length = l.length * 3 := by
  induction l with
  | nil => rfl
  | cons k l ih =>
    rw [celvl_cons, List.length_append, ih]
    simp [celX, Nat.add_mul]; omega
theorem celvl_append (l m : List CelD) : celvl (l ++ m) = celvl l ++ celvl m := by simp [celvl]
theorem celvl_one (k : CelD) : celvl [k] = celX k := by simp [celvl]
theorem celvl_cells (l : List CelD) : ∀ u ∈ celvl l, u.oneCell' = true := by
  intro u hu
  simp only [celvl, List.mem_flatMap, celX] at hu
  obtain ⟨k, _, hk⟩ := hu
  simp at hk
  rcases hk with rfl | rfl | rfl <;> rfl
theorem cels_len (l : List CelD) : (l.flatMap celC).length = l.length * 3 := flat_len celC 3 l celC_len
theorem celC_map (l : List CelD) : l.flatMap celC = (celvl l).map Dat.lit := by
  induction l with
  | nil => rfl
  | cons k l ih =>
    rw [celvl_cons, List.map_append, ← ih]
    rfl
theorem cel_drop {l : List CelD} {k : Nat} (h : k < l.length) : l.drop k = l[k] :: l.drop (k + 1) := List.drop_eq_getElem_cons h
/-- The cells from place o of block b on hold the datum k. -/
abbrev CelF (w : World) (b o : Nat) (k : CelD) : Prop := w.cell? ⟨b, o, none⟩ = some (.int .i64 k.a) ∧ w.cell? ⟨b, o + 1, none⟩ = some (.bool k.b) ∧ w.cell? ⟨b, o + 2, none⟩ = some (.int .i64 k.c)
theorem CelF.keep {w w' : World} {b o : Nat} {k : CelD} (h : CelF w b o k) (hb : w'.heap[b]? = w.heap[b]?) : CelF w' b o k :=
  ⟨(World.cell?_of_block (a := ⟨b, o, none⟩) hb).trans h.1, (World.cell?_of_block (a := ⟨b, o + 1, none⟩) hb).trans h.2.1, (World.cell?_of_block (a := ⟨b, o + 2, none⟩) hb).trans h.2.2⟩
theorem CelF.on {w w' : World} {b o : Nat} {k : CelD} (h : CelF w b o k) (hlt : b < w.heap.size) (hb : Below w.heap.size w w') : CelF w' b o k := h.keep (hb.block b hlt)
theorem Reads.cels {w : World} {B : Nat} {A : Option Addr} {e n cap : Nat} {l : List CelD} (h : Reads w B (.slice A n cap) (.row e 3 l.length (l.flatMap celC))) {i : Nat} (hi : i < l.length) :
    ∃ b off, A = some ⟨b, off, none⟩ ∧ b < B ∧ ∀ k (hk : k < l.length), CelF w b (off + k * 3) l[k] := by
  obtain ⟨A', cap', hv, hn, hc, hl, _, k⟩ := h.row'
  cases hv
  rcases k with h | ⟨b, off, xs, rfl, hb, hx, hcell, hr⟩
  · have := congrArg List.length h
    rw [cels_len] at this; simp only [List.length_nil] at this; omega
  · refine ⟨b, off, rfl, hb, fun k hk => ?_⟩
    rw [cels_len] at hx
    have get : ∀ j, j < 3 → ∃ x c, w.cell? ⟨b, off + (k * 3 + j), none⟩ = some x ∧ (celC l[k])[j]? = some c ∧ Reads w B x c := by
      intro j hj
      have hlt := flat_lt (z := 3) hk hj
      have h1 := hr (k * 3 + j) (by omega) (by rw [cels_len]; omega)
      have h2 := hcell (k * 3 + j) (by omega)
      have h3 := flat_get celC 3 l celC_len k j hk hj
      rw [List.getElem?_eq_getElem (by rw [cels_len]; omega)] at h3
      exact ⟨_, _, h2, h3.symm, h1⟩
    obtain ⟨x0, c0, a0, b0, r0⟩ := get 0 (by omega)
    obtain ⟨x1, c1, a1, b1, r1⟩ := get 1 (by omega)
    obtain ⟨x2, c2, a2, b2, r2⟩ := get 2 (by omega)
    simp [celC] at b0 b1 b2
    subst b0 b1 b2
    cases r0
    cases r1
    cases r2
    exact ⟨a0, a1, a2⟩
theorem Reads.shapeCel {w : World} {B : Nat} {v : Value} {e : TypeId} {l : List CelD} (h : Reads w B v (.row e 3 l.length (l.flatMap celC))) : ∃ A cap, v = .slice A l.length cap ∧ l.length ≤ cap ∧ cap ≤ maxLen := by
  obtain ⟨A, cap, hv, hn, hc, _⟩ := h.row'
  exact ⟨A, cap, hv, hn, hc⟩
theorem Reads.atCel {w : World} {B : Nat} {A : Option Addr} {e n cap : Nat} {l : List CelD} (h : Reads w B (.slice A n cap) (.row e 3 l.length (l.flatMap celC))) : At w A (celvl l) := by
  obtain ⟨A', cap', hv, hn, hc, hl, _, k⟩ := h.row'
  cases hv
  rcases k with h | ⟨b, off, xs, rfl, hb, hx, hcell, hr⟩
  · left
    have := congrArg List.length h
    rw [cels_len] at this
    exact List.length_eq_zero_iff.1 (by rw [celvl_len]; simpa using this)
  · right
    refine ⟨b, off, rfl, ?_⟩
    have : xs = celvl l := lit_reads (by rw [hx, cels_len, celvl_len]) (by rw [← celC_map]; exact hr)
    subst this
    exact hcell
theorem Reads.retype {w : World} {B : Nat} {v : Value} {t : TypeId} {l : List CelD} (h : Reads w B v (celsT t l)) (u : TypeId) : Reads w B v (celsT u l) := by
  obtain ⟨A, cap, rfl, hn, hc, hl, _, k⟩ := h.row'
  rcases k with h | ⟨b, off, xs, rfl, hb, hx, hcell, hr⟩
  · exact Reads.ofBytes (xs := []) hn hc hl (by omega) (.inl h)
  · exact .row b off _ cap u 3 xs _ hb hn hc hl hx hcell hr
/-- A row of the call's own, nil or in a block from base on. -/
def RowCel (w : World) (base : Nat) (v : Value) (l : List CelD) : Prop := w.ownsRow base 90 3 v l.length (celvl l)
theorem RowCel.owns {w : World} {base : Nat} {v : Value} {l : List CelD} (h : RowCel w base v l) : Owns w (fun b => base ≤ b) v (celsD l) := by
  refine row_owns (h : w.ownsRow _ _ _ _ _ _) ?_ (cels_len l)
  rw [celC_map]
  exact lits_own _ _ _
theorem Owns.rowCel {w : World} {S : Nat → Prop} {v : Value} {l : List CelD} (h : Owns w S v (celsD l)) {base : Nat} (hS : ∀ b, S b → base ≤ b) : RowCel w base v l := by
  rcases h.row' with ⟨rfl, h, _⟩ | ⟨g, cap, cur, xs, rfl, hg, hh, hn, hc, hs, hl, hx, ho⟩
  · have : l = [] := List.length_eq_zero_iff.1 h
    subst this
    exact row_nil _ _ _ _
  · have hr := ho.reads
    rw [celC_map] at hr
    have : xs = celvl l := lit_reads (by rw [hr.1]; simp) hr.2
    subst this
    exact ⟨celvl_len l, .inr ⟨g, cap, cur, rfl, hS g hg, hh, hn, hc, hs, hx⟩⟩
theorem RowCel.shape {w : World} {base : Nat} {v : Value} {l : List CelD} (h : RowCel w base v l) : ∃ A cap, v = .slice A l.length cap ∧ l.length ≤ cap ∧ cap ≤ maxLen := h.owns.reads.shapeCel
theorem RowCel.on {w w' : World} {base : Nat} {v : Value} {l : List CelD} (h : RowCel w base v l) (hb : Below w.heap.size w w') : RowCel w' base v l := row_on (h : w.ownsRow _ _ _ _ _ _) hb
theorem RowCel.keep {w w' : World} {base : Nat} {v : Value} {l : List CelD} (h : RowCel w base v l) (hk : ∀ g, v.ownBlock = some g → w'.heap[g]? = w.heap[g]?) : RowCel w' base v l := row_keep (h : w.ownsRow _ _ _ _ _ _) hk
theorem RowCel.lt {w : World} {base : Nat} {v : Value} {l : List CelD} (h : RowCel w base v l) : ∀ g, v.ownBlock = some g → g < w.heap.size ∧ base ≤ g := row_lt (h : w.ownsRow _ _ _ _ _ _)
theorem RowCel.mono {w : World} {base base' : Nat} {v : Value} {l : List CelD} (h : RowCel w base v l) (hb : base' ≤ base) : RowCel w base' v l := h.owns.rowCel (fun b hb' => by omega)
theorem RowCel.set {w : World} {base g j : Nat} {v u : Value} {l : List CelD} (h : RowCel w base v l) (hg : g < base) : RowCel (w.setCell ⟨g, j, none⟩ u) base v l := h.keep (fun k hk => Below.heap_setCell _ _ _ _ (by have := (h.lt k hk).2; simp; omega))
theorem cel_info : (Try.prog.info? 90).map (fun i => (i.zero, i.size, i.bytes)) = some (some (.agg #[.int .i64 0, .bool false, .int .i64 0]), 3, 24) := by kernel_rfl
theorem run_makeCel (n m : Nat) (hn : n ≤ m) (hm : m ≤ 2097152) (w : World) :
    (Instr.makeSlice 27 (.int .i64 (n : Int)) (.int .i64 (m : Int))).run Try.prog w = .ok (.slice (some ⟨w.heap.size, 0, none⟩) n m) (w.alloc (.cells (madeCells #[.int .i64 0, .bool false, .int .i64 0] (m * 3)) 90)) := by
  obtain ⟨i, hi, h0, h1, h2⟩ := info_parts cel_info
  have hr := run_make (P := Try.prog) w 27 90 i (.agg #[.int .i64 0, .bool false, .int .i64 0]) Try.underlying27 hi h0 .i64 .i64 n m (by omega) (by omega) (by rw [h2]; omega) (by omega)
  simp only [Int.toNat_natCast, h1] at hr
  exact hr
theorem RowCel.made (w : World) (m : Nat) (hm : m ≤ 2097152) : RowCel (w.alloc (.cells (madeCells #[.int .i64 0, .bool false, .int .i64 0] (m * 3)) 90)) w.heap.size (.slice (some ⟨w.heap.size, 0, none⟩) 0 m) [] :=
  ⟨rfl, .inr ⟨w.heap.size, m, _, rfl, Nat.le_refl _, heap_alloc_new w _, Nat.zero_le _, by unfold maxLen; omega, by rw [size_madeCells], rfl⟩⟩
theorem RowCel.lit (w : World) : RowCel (w.alloc (.cells #[] 90)) w.heap.size (.slice (some ⟨w.heap.size, 0, none⟩) 0 0) [] := row_lit w 90 3
/-- append onto a row of the call's own. -/
theorem wpList_appCel {ops : Array Oper} {rest : List Oper} {o : Oper} {a : Act} {Q : Exit → Act → World → Prop} (w : World) (hgd : o.guard = none) (s x : Operand)
    (hop : o.op = .call { callee := .builtin .append, args := #[s, x], argTypes := #[27, 27] })
    (base : Nat) (v : Value) (l : List CelD) (hs : a.eval s = v) (hown : RowCel w base v l) (A : Option Addr) (n c : Nat) (m : List CelD) (hx : a.eval x = .slice A n c) (hmn : m.length = n) (hA : At w A (celvl m)) (hlen : l.length + m.length ≤ 1073741824) (hbase : base ≤ w.heap.size)
    (h : ∀ v' w', RowCel w' base v' (l ++ m) → Below base w w' → wpList Try.prog ops Q rest (a.put o.dst v') w') : wpList Try.prog ops Q (o :: rest) a w := by
  subst hmn
  refine wpList_appV w hgd s x 27 90 3 24 (.agg #[.int .i64 0, .bool false, .int .i64 0]) hop Try.underlying27 cel_info rfl (by omega) (by omega) base l.length v (celvl l) hs hown A m.length c (celvl m) hx (celvl_len m) hA (celvl_cells m) hlen hbase ?_
  intro v' w' h2 h3 h4 h5
  refine h v' w' ?_ ?_
  · rw [← celvl_append, ← List.length_append] at h2
    exact h2
  · exact (Below.refl _ _).grown h3 hbase (fun k hk => (hown.lt k hk).2)
theorem At.cel (w : World) (k : CelD) (e : TypeId) : At (w.alloc (.cells #[.int .i64 k.a, .bool k.b, .int .i64 k.c] e)) (some ⟨w.heap.size, 0, none⟩) (celvl [k]) := by
  refine .inr ⟨w.heap.size, 0, rfl, fun i hi => ?_⟩
  rw [cell_of_row _ _ _ _ _ _ (heap_alloc_new w _)]
  simp only [celvl_one, celX, List.length_cons, List.length_nil] at hi ⊢
  match i, hi with
  | 0, _ => rfl
  | 1, _ => rfl
  | 2, _ => rfl
/-- A call leaves a row in memory of its own. -/
def NewCel (w : World) (l : List CelD) (e : Ending) (w' : World) : Prop := ∃ v, e = .returned v ∧ RowCel w' w.heap.size v l ∧ Below w.heap.size w w'
theorem cel_opens : Opens Try.prog 111 (fun ds => ∃ k : CelD, ds = celC k) := by
  have h := Opens.struct (P := Try.prog) Try.underlying111 (by kernel_rfl) [(fun ds => ∃ n, ds = [Dat.lit (.int .i64 n)] ∧ (Lit.int .i64 n).wf = true), (fun ds => ∃ n : Bool, ds = [Dat.lit (.bool n)]), (fun ds => ∃ n, ds = [Dat.lit (.int .i64 n)] ∧ (Lit.int .i64 n).wf = true)] rfl (fun i hi => by
    match i, hi with
    | 0, _ => exact Opens.int Try.underlying3
    | 1, _ => exact Opens.bool Try.underlying4
    | 2, _ => exact Opens.int Try.underlying3)
  refine h.weaken (fun ds ⟨dss, hd, hC, hds⟩ => ?_)
  match dss, hd with
  | [d0, d1, d2], _ =>
    obtain ⟨n0, h0, _⟩ := hC 0 (by simp)
    obtain ⟨n1, h1⟩ := hC 1 (by simp)
    obtain ⟨n2, h2, _⟩ := hC 2 (by simp)
    simp at h0 h1 h2
    subst h0 h1 h2
    exact ⟨⟨n0, n1, n2⟩, by rw [hds]; rfl⟩
theorem cels_opens : Opens Try.prog 39 (fun ds => ∃ l, ds = [celsA l]) :=
  (Opens.slice (z := 3) celC celC_len (by omega) Try.underlying39 (by kernel_rfl) cel_opens 111).weaken (fun ds ⟨l, hl⟩ => ⟨l, hl⟩)
theorem open_celsArg {H : Type} {enc : TypeId × Value → H} {w : World} {r : Reach} {b0 base : Nat} {spare : Nat → Bool} {held : Bool} {v : Value} {x : DataW H} {p : List MemPlace}
    (hv : Value.okWide Try.prog w r b0 39 v) (h : DataW.Trod enc Try.prog w base spare held 39 v x p) : ∃ l, Reads w w.heap.size v (celsA l) := by
  obtain ⟨A, n, c, rfl⟩ := okWide_slice Try.underlying39 hv
  obtain ⟨fuel, hf⟩ := h
  obtain ⟨ds, ⟨l, rfl⟩, hr⟩ := cels_opens _ _ _ _ _ _ _ _ _ hf
  have r0 := hr.2 0 (by simp [Value.cells]) (by simp)
  simp [Value.cells] at r0
  exact ⟨l, r0⟩
end Go.Proofs.Ytmpgmjnagpiijaa
