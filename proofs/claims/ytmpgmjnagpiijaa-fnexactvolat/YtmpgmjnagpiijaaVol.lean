/- Volumes: how lists of them lie in memory, how they are read, owned, made and appended to; a list that comes in as an argument is opened. Conditions: at most 2^20 of them (making), 2^30 (appending). -/
import Derived.Test.YtmpgmjnagpiijaaCell
import Derived.Test.YtmpgmjnagpiijaaOpensS
namespace Go.Proofs.Ytmpgmjnagpiijaa
open Go.RowKit Go.ChangeShapes Go.WideShapes Go.Deep
set_option maxRecDepth 100000
set_option linter.unusedSimpArgs false
set_option linter.unusedVariables false

structure VolD where
  (a : ByteArray) (b : Int) (c : Int) (d : Bool)
  deriving DecidableEq
def VolD.v (k : VolD) : Value := .agg #[.string k.a, .int .i64 k.b, .int .i64 k.c, .bool k.d]
def volC (k : VolD) : List Dat := [.lit (.string k.a), .lit (.int .i64 k.b), .lit (.int .i64 k.c), .lit (.bool k.d)]
def volX (k : VolD) : List Value := [.string k.a, .int .i64 k.b, .int .i64 k.c, .bool k.d]
theorem volC_len (k : VolD) : (volC k).length = 4 := rfl
def volsD (l : List VolD) : Dat := .row 66 4 l.length (l.flatMap volC)
/-- Vols in a block that was made for a row of type t: a row of them, or an array. -/
def volsT (t : TypeId) (l : List VolD) : Dat := .row t 4 l.length (l.flatMap volC)
def volsA (l : List VolD) : Dat := .row 105 4 l.length (l.flatMap volC)
def volvl (l : List VolD) : List Value := l.flatMap volX
theorem volvl_cons (k : VolD) (l : List VolD) : volvl (k :: l) = volX k ++ volvl l := rfl
theorem volvl_len (l : List VolD) : (volvl l).length = l.length * 4 := by
  induction l with
  | nil => rfl
  | cons k l ih =>
    rw [volvl_cons, List.length_append, ih]
    simp [volX, Nat.add_mul]; omega
theorem volvl_append (l m : List VolD) : volvl (l ++ m) = volvl l ++ volvl m := by simp [volvl]
theorem volvl_one (k : VolD) : volvl [k] = volX k := by simp [volvl]
theorem volvl_cells (l : List VolD) : ∀ u ∈ volvl l, u.oneCell' = true := by
  intro u hu
  simp only [volvl, List.mem_flatMap, volX] at hu
  obtain ⟨k, _, hk⟩ := hu
  simp at hk
  rcases hk with rfl | rfl | rfl | rfl <;> rfl
theorem vols_len (l : List VolD) : (l.flatMap volC).length = l.length * 4 := flat_len volC 4 l volC_len
theorem volC_map (l : List VolD) : l.flatMap volC = (volvl l).map Dat.lit := by
  induction l with
  | nil => rfl
  | cons k l ih =>
    rw [volvl_cons, List.map_append, ← ih]
    rfl
theorem vol_drop {l : List VolD} {k : Nat} (h : k < l.length) : l.drop k = l[k] :: l.drop (k + 1) := List.drop_eq_getElem_cons h
/-- The cells from place o of block b on hold the datum k. -/
abbrev VolF (w : World) (b o : Nat) (k : VolD) : Prop := w.cell? ⟨b, o, none⟩ = some (.string k.a) ∧ w.cell? ⟨b, o + 1, none⟩ = some (.int .i64 k.b) ∧ w.cell? ⟨b, o + 2, none⟩ = some (.int .i64 k.c) ∧ w.cell? ⟨b, o + 3, none⟩ = some (.bool k.d)
theorem VolF.keep {w w' : World} {b o : Nat} {k : VolD} (h : VolF w b o k) (hb : w'.heap[b]? = w.heap[b]?) : VolF w' b o k :=
  ⟨(World.cell?_of_block (a := ⟨b, o, none⟩) hb).trans h.1, (World.cell?_of_block (a := ⟨b, o + 1, none⟩) hb).trans h.2.1, (World.cell?_of_block (a := ⟨b, o + 2, none⟩) hb).trans h.2.2.1, (World.cell?_of_block (a := ⟨b, o + 3, none⟩) hb).trans h.2.2.2⟩
theorem VolF.on {w w' : World} {b o : Nat} {k : VolD} (h : VolF w b o k) (hlt : b < w.heap.size) (hb : Below w.heap.size w w') : VolF w' b o k := h.keep (hb.block b hlt)
theorem Reads.vols {w : World} {B : Nat} {A : Option Addr} {e n cap : Nat} {l : List VolD} (h : Reads w B (.slice A n cap) (.row e 4 l.length (l.flatMap volC))) {i : Nat} (hi : i < l.length) :
    ∃ b off, A = some ⟨b, off, none⟩ ∧ b < B ∧ ∀ k (hk : k < l.length), VolF w b (off + k * 4) l[k] := by
  obtain ⟨A', cap', hv, hn, hc, hl, _, k⟩ := h.row'
  cases hv
  rcases k with h | ⟨b, off, xs, rfl, hb, hx, hcell, hr⟩
  · have := congrArg List.length h
    rw [vols_len] at this; simp only [List.length_nil] at this; omega
  · refine ⟨b, off, rfl, hb, fun k hk => ?_⟩
    rw [vols_len] at hx
    have get : ∀ j, j < 4 → ∃ x c, w.cell? ⟨b, off + (k * 4 + j), none⟩ = some x ∧ (volC l[k])[j]? = some c ∧ Reads w B x c := by
      intro j hj
      have hlt := flat_lt (z := 4) hk hj
      have h1 := hr (k * 4 + j) (by omega) (by rw [vols_len]; omega)
      have h2 := hcell (k * 4 + j) (by omega)
      have h3 := flat_get volC 4 l volC_len k j hk hj
      rw [List.getElem?_eq_getElem (by rw [vols_len]; omega)] at h3
      exact ⟨_, _, h2, h3.symm, h1⟩
    obtain ⟨x0, c0, a0, b0, r0⟩ := get 0 (by omega)
    obtain ⟨x1, c1, a1, b1, r1⟩ := get 1 (by omega)
    obtain ⟨x2, c2, a2, b2, r2⟩ := get 2 (by omega)
    obtain ⟨x3, c3, a3, b3, r3⟩ := get 3 (by omega)
    simp [volC] at b0 b1 b2 b3
    subst b0 b1 b2 b3
    cases r0
    cases r1
    cases r2
    cases r3
    exact ⟨a0, a1, a2, a3⟩
theorem Reads.shapeVol {w : World} {B : Nat} {v : Value} {e : TypeId} {l : List VolD} (h : Reads w B v (.row e 4 l.length (l.flatMap volC))) : ∃ A cap, v = .slice A l.length cap ∧ l.length ≤ cap ∧ cap ≤ maxLen := by
  obtain ⟨A, cap, hv, hn, hc, _⟩ := h.row'
  exact ⟨A, cap, hv, hn, hc⟩
theorem Reads.atVol {w : World} {B : Nat} {A : Option Addr} {e n cap : Nat} {l : List VolD} (h : Reads w B (.slice A n cap) (.row e 4 l.length (l.flatMap volC))) : At w A (volvl l) := by
  obtain ⟨A', cap', hv, hn, hc, hl, _, k⟩ := h.row'
  cases hv
  rcases k with h | ⟨b, off, xs, rfl, hb, hx, hcell, hr⟩
  · left
    have := congrArg List.length h
    rw [vols_len] at this
    exact List.length_eq_zero_iff.1 (by rw [volvl_len]; simpa using this)
  · right
    refine ⟨b, off, rfl, ?_⟩
    have : xs = volvl l := lit_reads (by rw [hx, vols_len, volvl_len]) (by rw [← volC_map]; exact hr)
    subst this
    exact hcell
theorem Reads.retypeVol {w : World} {B : Nat} {v : Value} {t : TypeId} {l : List VolD} (h : Reads w B v (volsT t l)) (u : TypeId) : Reads w B v (volsT u l) := by
  obtain ⟨A, cap, rfl, hn, hc, hl, _, k⟩ := h.row'
  rcases k with h | ⟨b, off, xs, rfl, hb, hx, hcell, hr⟩
  · exact Reads.ofBytes (xs := []) hn hc hl (by omega) (.inl h)
  · exact .row b off _ cap u 4 xs _ hb hn hc hl hx hcell hr
/-- A row of the call's own, nil or in a block from base on. -/
def RowVol (w : World) (base : Nat) (v : Value) (l : List VolD) : Prop := w.ownsRow base 66 4 v l.length (volvl l)
theorem RowVol.owns {w : World} {base : Nat} {v : Value} {l : List VolD} (h : RowVol w base v l) : Owns w (fun b => base ≤ b) v (volsD l) := by
  refine row_owns (h : w.ownsRow _ _ _ _ _ _) ?_ (vols_len l)
  rw [volC_map]
  exact lits_own _ _ _
theorem Owns.rowVol {w : World} {S : Nat → Prop} {v : Value} {l : List VolD} (h : Owns w S v (volsD l)) {base : Nat} (hS : ∀ b, S b → base ≤ b) : RowVol w base v l := by
  rcases h.row' with ⟨rfl, h, _⟩ | ⟨g, cap, cur, xs, rfl, hg, hh, hn, hc, hs, hl, hx, ho⟩
  · have : l = [] := List.length_eq_zero_iff.1 h
    subst this
    exact row_nil _ _ _ _
  · have hr := ho.reads
    rw [volC_map] at hr
    have : xs = volvl l := lit_reads (by rw [hr.1]; simp) hr.2
    subst this
    exact ⟨volvl_len l, .inr ⟨g, cap, cur, rfl, hS g hg, hh, hn, hc, hs, hx⟩⟩
theorem RowVol.shape {w : World} {base : Nat} {v : Value} {l : List VolD} (h : RowVol w base v l) : ∃ A cap, v = .slice A l.length cap ∧ l.length ≤ cap ∧ cap ≤ maxLen := h.owns.reads.shapeVol
theorem RowVol.on {w w' : World} {base : Nat} {v : Value} {l : List VolD} (h : RowVol w base v l) (hb : Below w.heap.size w w') : RowVol w' base v l := row_on (h : w.ownsRow _ _ _ _ _ _) hb
theorem RowVol.keep {w w' : World} {base : Nat} {v : Value} {l : List VolD} (h : RowVol w base v l) (hk : ∀ g, v.ownBlock = some g → w'.heap[g]? = w.heap[g]?) : RowVol w' base v l := row_keep (h : w.ownsRow _ _ _ _ _ _) hk
theorem RowVol.lt {w : World} {base : Nat} {v : Value} {l : List VolD} (h : RowVol w base v l) : ∀ g, v.ownBlock = some g → g < w.heap.size ∧ base ≤ g := row_lt (h : w.ownsRow _ _ _ _ _ _)
theorem RowVol.mono {w : World} {base base' : Nat} {v : Value} {l : List VolD} (h : RowVol w base v l) (hb : base' ≤ base) : RowVol w base' v l := h.owns.rowVol (fun b hb' => by omega)
theorem RowVol.set {w : World} {base g j : Nat} {v u : Value} {l : List VolD} (h : RowVol w base v l) (hg : g < base) : RowVol (w.setCell ⟨g, j, none⟩ u) base v l := h.keep (fun k hk => Below.heap_setCell _ _ _ _ (by have := (h.lt k hk).2; simp; omega))
theorem vol_info : (Try.prog.info? 66).map (fun i => (i.zero, i.size, i.bytes)) = some (some (.agg #[.string ⟨#[]⟩, .int .i64 0, .int .i64 0, .bool false]), 4, 40) := by kernel_rfl
theorem run_makeVol (n m : Nat) (hn : n ≤ m) (hm : m ≤ 2097152) (w : World) :
    (Instr.makeSlice 28 (.int .i64 (n : Int)) (.int .i64 (m : Int))).run Try.prog w = .ok (.slice (some ⟨w.heap.size, 0, none⟩) n m) (w.alloc (.cells (madeCells #[.string ⟨#[]⟩, .int .i64 0, .int .i64 0, .bool false] (m * 4)) 66)) := by
  obtain ⟨i, hi, h0, h1, h2⟩ := info_parts vol_info
  have hr := run_make (P := Try.prog) w 28 66 i (.agg #[.string ⟨#[]⟩, .int .i64 0, .int .i64 0, .bool false]) Try.underlying28 hi h0 .i64 .i64 n m (by omega) (by omega) (by rw [h2]; omega) (by omega)
  simp only [Int.toNat_natCast, h1] at hr
  exact hr
theorem RowVol.made (w : World) (m : Nat) (hm : m ≤ 2097152) : RowVol (w.alloc (.cells (madeCells #[.string ⟨#[]⟩, .int .i64 0, .int .i64 0, .bool false] (m * 4)) 66)) w.heap.size (.slice (some ⟨w.heap.size, 0, none⟩) 0 m) [] :=
  ⟨rfl, .inr ⟨w.heap.size, m, _, rfl, Nat.le_refl _, heap_alloc_new w _, Nat.zero_le _, by unfold maxLen; omega, by rw [size_madeCells], rfl⟩⟩
theorem RowVol.lit (w : World) : RowVol (w.alloc (.cells #[] 66)) w.heap.size (.slice (some ⟨w.heap.size, 0, none⟩) 0 0) [] := row_lit w 66 4
/-- append onto a row of the call's own. -/
theorem wpList_appVol {ops : Array Oper} {rest : List Oper} {o : Oper} {a : Act} {Q : Exit → Act → World → Prop} (w : World) (hgd : o.guard = none) (s x : Operand)
    (hop : o.op = .call { callee := .builtin .append, args := #[s, x], argTypes := #[28, 28] })
    (base : Nat) (v : Value) (l : List VolD) (hs : a.eval s = v) (hown : RowVol w base v l) (A : Option Addr) (n c : Nat) (m : List VolD) (hx : a.eval x = .slice A n c) (hmn : m.length = n) (hA : At w A (volvl m)) (hlen : l.length + m.length ≤ 1073741824) (hbase : base ≤ w.heap.size)
    (h : ∀ v' w', RowVol w' base v' (l ++ m) → Below base w w' → wpList Try.prog ops Q rest (a.put o.dst v') w') : wpList Try.prog ops Q (o :: rest) a w := by
  subst hmn
  refine wpList_appV w hgd s x 28 66 4 40 (.agg #[.string ⟨#[]⟩, .int .i64 0, .int .i64 0, .bool false]) hop Try.underlying28 vol_info rfl (by omega) (by omega) base l.length v (volvl l) hs hown A m.length c (volvl m) hx (volvl_len m) hA (volvl_cells m) hlen hbase ?_
  intro v' w' h2 h3 h4 h5
  refine h v' w' ?_ ?_
  · rw [← volvl_append, ← List.length_append] at h2
    exact h2
  · exact (Below.refl _ _).grown h3 hbase (fun k hk => (hown.lt k hk).2)
theorem At.vol (w : World) (k : VolD) (e : TypeId) : At (w.alloc (.cells #[.string k.a, .int .i64 k.b, .int .i64 k.c, .bool k.d] e)) (some ⟨w.heap.size, 0, none⟩) (volvl [k]) := by
  refine .inr ⟨w.heap.size, 0, rfl, fun i hi => ?_⟩
  rw [cell_of_row _ _ _ _ _ _ (heap_alloc_new w _)]
  simp only [volvl_one, volX, List.length_cons, List.length_nil] at hi ⊢
  match i, hi with
  | 0, _ => rfl
  | 1, _ => rfl
  | 2, _ => rfl
  | 3, _ => rfl
/-- A call leaves a row in memory of its own. -/
def NewVol (w : World) (l : List VolD) (e : Ending) (w' : World) : Prop := ∃ v, e = .returned v ∧ RowVol w' w.heap.size v l ∧ Below w.heap.size w w'
theorem vol_opens : Opens Try.prog 105 (fun ds => ∃ k : {k : VolD // k.a.size ≤ maxLen}, ds = volC k.1) := by
  have h := Opens.struct (P := Try.prog) Try.underlying105 (by kernel_rfl) [(fun ds => ∃ n : ByteArray, ds = [Dat.lit (.string n)] ∧ n.size ≤ maxLen), (fun ds => ∃ n, ds = [Dat.lit (.int .i64 n)] ∧ (Lit.int .i64 n).wf = true), (fun ds => ∃ n, ds = [Dat.lit (.int .i64 n)] ∧ (Lit.int .i64 n).wf = true), (fun ds => ∃ n : Bool, ds = [Dat.lit (.bool n)])] rfl (fun i hi => by
    match i, hi with
    | 0, _ => exact Opens.str Try.underlying9
    | 1, _ => exact Opens.int Try.underlying3
    | 2, _ => exact Opens.int Try.underlying3
    | 3, _ => exact Opens.bool Try.underlying4)
  refine h.weaken (fun ds ⟨dss, hd, hC, hds⟩ => ?_)
  match dss, hd with
  | [d0, d1, d2, d3], _ =>
    obtain ⟨n0, h0, z0⟩ := hC 0 (by simp)
    obtain ⟨n1, h1, _⟩ := hC 1 (by simp)
    obtain ⟨n2, h2, _⟩ := hC 2 (by simp)
    obtain ⟨n3, h3⟩ := hC 3 (by simp)
    simp at h0 h1 h2 h3
    subst h0 h1 h2 h3
    exact ⟨⟨⟨n0, n1, n2, n3⟩, z0⟩, by rw [hds]; rfl⟩
theorem vols_opens : Opens Try.prog 40 (fun ds => ∃ l, ds = [volsA l] ∧ ∀ k ∈ l, k.a.size ≤ maxLen) :=
  (Opens.slice (z := 4) (fun k : {k : VolD // k.a.size ≤ maxLen} => volC k.1) (fun k => volC_len k.1) (by omega) Try.underlying40 (by kernel_rfl) vol_opens 105).weaken (fun ds ⟨l, hl⟩ => ⟨l.map (·.1), by
    rw [hl]
    unfold volsA
    rw [List.length_map, List.flatMap_map], fun k hk => by
    obtain ⟨x, _, rfl⟩ := List.mem_map.1 hk
    exact x.2⟩)
theorem open_volsArg {H : Type} {enc : TypeId × Value → H} {w : World} {r : Reach} {b0 base : Nat} {spare : Nat → Bool} {held : Bool} {v : Value} {x : DataW H} {p : List MemPlace}
    (hv : Value.okWide Try.prog w r b0 40 v) (h : DataW.Trod enc Try.prog w base spare held 40 v x p) : ∃ l, Reads w w.heap.size v (volsA l) ∧ ∀ k ∈ l, k.a.size ≤ maxLen := by
  obtain ⟨A, n, c, rfl⟩ := okWide_slice Try.underlying40 hv
  obtain ⟨fuel, hf⟩ := h
  obtain ⟨ds, ⟨l, rfl, hl⟩, hr⟩ := vols_opens _ _ _ _ _ _ _ _ _ hf
  have r0 := hr.2 0 (by simp [Value.cells]) (by simp)
  simp [Value.cells] at r0
  exact ⟨l, r0, hl⟩
end Go.Proofs.Ytmpgmjnagpiijaa
