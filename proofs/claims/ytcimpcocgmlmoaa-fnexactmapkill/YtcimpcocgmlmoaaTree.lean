/- Trees as data: lower bounds and nodes; how they lie in memory; contracts for trees in the laws: laws.szTree counts, toTree copies, eqTree finds two that read alike equal, markTree writes marks, heldTree finds them; a tree that comes in as an argument is opened. Conditions: at most 1100000 bounds, nodes, sets and keys. -/
import Derived.Test.YtcimpcocgmlmoaaNodeLaw
import Derived.Test.YtcimpcocgmlmoaaGen
namespace Go.Proofs.Ytcimpcocgmlmoaa
open Go.RowKit Go.ChangeShapes Go.WideShapes Go.Deep
set_option maxRecDepth 100000
set_option linter.unusedSimpArgs false
set_option linter.unusedVariables false

abbrev NodeD := List (List KeyD)
def iV (n : Int) : Value := .int .i64 n
def intsD (l : List Int) : Dat := .row 3 1 l.length (l.map fun n => .lit (iV n))
/-- How many sets and keys the nodes hold. -/
def sumT (ts : List NodeD) : Nat := (ts.map fun ns => ns.length + sumN ns).sum
theorem sumT_nil : sumT [] = 0 := rfl
theorem sumT_cons (n : NodeD) (ts : List NodeD) : sumT (n :: ts) = (n.length + sumN n) + sumT ts := by simp [sumT]
theorem sumT_append (a b : List NodeD) : sumT (a ++ b) = sumT a + sumT b := by simp [sumT]
theorem sumT_mem {n : NodeD} {ts : List NodeD} (h : n ∈ ts) : n.length + sumN n ≤ sumT ts := by
  induction ts with
  | nil => simp at h
  | cons a ns ih =>
    rw [sumT_cons]
    rcases List.mem_cons.1 h with rfl | h
    · omega
    · have := ih h; omega
theorem sumT_take {ts : List NodeD} {k : Nat} (h : k < ts.length) : sumT (ts.take (k + 1)) = sumT (ts.take k) + ((ts[k]).length + sumN ts[k]) := by
  rw [List.take_succ_eq_append_getElem h, sumT_append, sumT_cons, sumT_nil]; omega
theorem sumT_take_le (ts : List NodeD) (k : Nat) : sumT (ts.take k) ≤ sumT ts := by
  have h := sumT_append (ts.take k) (ts.drop k)
  rw [List.take_append_drop] at h
  omega
def SmallT (lo : List Int) (ts : List NodeD) : Prop := lo.length ≤ 1100000 ∧ ts.length ≤ 1100000 ∧ sumT ts ≤ 1100000
theorem SmallT.at {lo : List Int} {ts : List NodeD} (h : SmallT lo ts) {k : Nat} (hk : k < ts.length) : SmallN ts[k] := by
  have := sumT_mem (List.getElem_mem hk)
  have := h.2.2
  exact ⟨by omega, by omega⟩
theorem small_at {ts : List NodeD} (h : sumT ts ≤ 1100000) {k : Nat} (hk : k < ts.length) : SmallN ts[k] := by
  have := sumT_mem (List.getElem_mem hk)
  exact ⟨by omega, by omega⟩
/-- A row of ints, one by one. -/
theorem Reads.int {w : World} {B : Nat} {A : Option Addr} {n cap : Nat} {l : List Int} (h : Reads w B (.slice A n cap) (intsD l)) {i : Nat} (hi : i < l.length) :
    ∃ b off, A = some ⟨b, off, none⟩ ∧ b < B ∧ ∀ k (hk : k < l.length), w.cell? ⟨b, off + k, none⟩ = some (iV l[k]) := by
  obtain ⟨A', cap', hv, hn, hc, hl, _, k⟩ := h.row'
  cases hv
  rcases k with h | ⟨b, off, xs, rfl, hb, hx, hcell, hr⟩
  · simp at h; subst h; simp at hi
  · refine ⟨b, off, rfl, hb, fun k hk => ?_⟩
    have hx' : xs.length = l.length := by simpa using hx
    have h1 := hr k (by omega) (by simpa using hk)
    rw [List.getElem_map] at h1
    have h2 := hcell k (by omega)
    generalize xs[k] = x at h1 h2
    cases h1
    exact h2
theorem Reads.node' {w : World} {B : Nat} {A : Option Addr} {e e2 n cap : Nat} {ts : List NodeD} {f : NodeD → Dat} {g : NodeD → List Dat} (hf : ∀ ns, f ns = .row e2 1 ns.length (g ns)) (h : Reads w B (.slice A n cap) (.row e 1 ts.length (ts.map f))) {i : Nat} (hi : i < ts.length) :
    ∃ b off, A = some ⟨b, off, none⟩ ∧ b < B ∧ ∀ k (hk : k < ts.length), ∃ A2 c2, w.cell? ⟨b, off + k, none⟩ = some (.slice A2 (ts[k]).length c2) ∧ (ts[k]).length ≤ c2 ∧ c2 ≤ maxLen ∧ Reads w B (.slice A2 (ts[k]).length c2) (f ts[k]) := by
  obtain ⟨A', cap', hv, hn, hc, hl, _, k⟩ := h.row'
  cases hv
  rcases k with h | ⟨b, off, xs, rfl, hb, hx, hcell, hr⟩
  · simp at h; subst h; simp at hi
  · refine ⟨b, off, rfl, hb, fun k hk => ?_⟩
    have hx' : xs.length = ts.length := by simpa using hx
    have h1 := hr k (by omega) (by simpa using hk)
    rw [List.getElem_map] at h1
    have h2 := hcell k (by omega)
    generalize xs[k] = x at h1 h2
    rw [hf] at h1
    obtain ⟨A2, c2, rfl, h3, h4⟩ := h1.lenN
    rw [← hf] at h1
    exact ⟨A2, c2, h2, h3, h4, h1⟩
/-- Owned like Owns, but the block may be longer than the slice's capacity says. -/
def OwnC (w : World) (S : Nat → Prop) (v : Value) : Dat → Prop
  | .lit _ => False
  | .row e z n cs => (v = .slice none 0 0 ∧ n = 0 ∧ cs = []) ∨ ∃ (g cap : Nat) (cur : Array Value) (xs : List Value), v = .slice (some ⟨g, 0, none⟩) n cap ∧ S g ∧ w.heap[g]? = some (.cells cur e (0, 0)) ∧ n ≤ cap ∧ cap ≤ maxLen ∧ n * z ≤ cur.size ∧ cs.length = n * z ∧ cur.toList.take (n * z) = xs ∧ OwnsL w (fun b => S b ∧ b ≠ g) xs cs
theorem Owns.ownC {w : World} {S : Nat → Prop} {v : Value} {e z n : Nat} {cs : List Dat} (h : Owns w S v (.row e z n cs)) : OwnC w S v (.row e z n cs) := by
  rcases h.row' with h | ⟨g, cap, cur, xs, h1, h2, h3, h4, h5, h6, h7, h8, h9⟩
  · exact .inl h
  · exact .inr ⟨g, cap, cur, xs, h1, h2, h3, h4, h5, by rw [h6]; exact Nat.mul_le_mul_right _ h4, h7, h8, h9⟩
theorem OwnC.mono {w : World} {S T : Nat → Prop} {v : Value} {c : Dat} (h : OwnC w S v c) (hS : ∀ b, S b → T b) : OwnC w T v c := by
  cases c with
  | lit u => exact h
  | row e z n cs =>
    rcases h with h | ⟨g, cap, cur, xs, h1, h2, h3, h4, h5, h6, h7, h8, h9⟩
    · exact .inl h
    · exact .inr ⟨g, cap, cur, xs, h1, hS _ h2, h3, h4, h5, h6, h7, h8, h9.mono (fun b hb => ⟨hS b hb.1, hb.2⟩)⟩
theorem OwnC.keep {w w' : World} {S : Nat → Prop} {v : Value} {c : Dat} (h : OwnC w S v c) (hk : ∀ b, S b → b < w.heap.size → w'.heap[b]? = w.heap[b]?) : OwnC w' S v c := by
  cases c with
  | lit u => exact h
  | row e z n cs =>
    rcases h with h | ⟨g, cap, cur, xs, h1, h2, h3, h4, h5, h6, h7, h8, h9⟩
    · exact .inl h
    · exact .inr ⟨g, cap, cur, xs, h1, h2, (hk g h2 (Array.getElem?_eq_some_iff.1 h3).1).trans h3, h4, h5, h6, h7, h8, h9.keep (fun b hb hl => hk b hb.1 hl)⟩
theorem OwnC.lt {w : World} {S : Nat → Prop} {v : Value} {c : Dat} (h : OwnC w S v c) : OwnC w (fun b => S b ∧ b < w.heap.size) v c := by
  cases c with
  | lit u => exact h
  | row e z n cs =>
    rcases h with h | ⟨g, cap, cur, xs, h1, h2, h3, h4, h5, h6, h7, h8, h9⟩
    · exact .inl h
    · exact .inr ⟨g, cap, cur, xs, h1, ⟨h2, (Array.getElem?_eq_some_iff.1 h3).1⟩, h3, h4, h5, h6, h7, h8, h9.lt.mono (fun b hb => ⟨⟨hb.1.1, hb.2⟩, hb.1.2⟩)⟩
theorem OwnC.reads {w : World} {S : Nat → Prop} {v : Value} {c : Dat} (h : OwnC w S v c) : Reads w w.heap.size v c := by
  cases c with
  | lit u => exact h.elim
  | row e z n cs =>
    rcases h with ⟨rfl, rfl, rfl⟩ | ⟨g, cap, cur, xs, rfl, h2, h3, h4, h5, h6, h7, h8, h9⟩
    · exact .nil _ _ _ _ (Nat.zero_le _)
    · have hr := h9.reads
      refine .row g 0 n cap e z xs cs (Array.getElem?_eq_some_iff.1 h3).1 h4 h5 h7 hr.1 (fun i hi => ?_) hr.2
      rw [Nat.zero_add, cell_of_row w g i cur e (0, 0) h3]
      subst h8
      simp at hi ⊢
theorem OwnC.on {w w' : World} {S : Nat → Prop} {v : Value} {c : Dat} (h : OwnC w S v c) (hb : Below w.heap.size w w') : OwnC w' S v c := h.keep (fun b _ hl => hb.block b hl)
theorem OwnC.far {w w' : World} {S T : Nat → Prop} {v : Value} {c : Dat} (h : OwnC w S v c) (hg : Only T w w') (hd : ∀ b, S b → b < w.heap.size → ¬ T b) : OwnC w' S v c := h.keep (fun b hb hl => hg.block b hl (hd b hb hl))
theorem int_info : (Try.prog.info? 3).map (fun i => (i.zero, i.size, i.bytes)) = some (some (.int .i64 0), 1, 8) := by kernel_rfl
theorem run_makeInts (n : Nat) (hn : n ≤ 1100000) (w : World) :
    (Instr.makeSlice 50 (.int .i64 (n : Int)) (.int .i64 (n : Int))).run Try.prog w = .ok (.slice (some ⟨w.heap.size, 0, none⟩) n n) (w.alloc (.cells (madeCells #[.int .i64 0] n) 3)) := by
  obtain ⟨i, hi, h0, h1, h2⟩ := info_parts int_info
  have hr := run_make (P := Try.prog) w 50 3 i (.int .i64 0) Try.underlying50 hi h0 .i64 .i64 n n (by omega) (by omega) (by rw [h2]; omega) (by omega)
  simp only [Int.toNat_natCast, h1, Nat.mul_one] at hr
  exact hr
theorem szIntS_any (A : Option Addr) (n c : Nat) (m : Int) (w : World) (hn : n ≤ maxLen) (h1 : 0 ≤ m) (h2 : m ≤ 1048576) :
    Calls Try.prog 64 #[.slice A n c, .int .i64 m] w fun e w' => w = w' ∧ ((e = .returned (.int .i64 (-1)) ∧ m < (n : Nat)) ∨ (e = .returned (.int .i64 (m - (n : Nat))) ∧ ((n : Nat) : Int) ≤ m)) := by
  unfold maxLen at hn
  by_cases h : m - (n : Int) < 0
  · go_enter Try.func64, Try.ntmps64
    go_wp2
    go_ret
    exact ⟨rfl, .inl ⟨rfl, by omega⟩⟩
  · go_enter Try.func64, Try.ntmps64
    go_wp2
    go_ret
    exact ⟨rfl, .inr ⟨rfl, by omega⟩⟩
end Go.Proofs.Ytcimpcocgmlmoaa
