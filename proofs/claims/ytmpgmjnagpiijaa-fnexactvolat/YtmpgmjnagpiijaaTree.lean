/- Trees as data: lower bounds and nodes; how they lie in memory; contracts for trees in the laws: laws.szTree counts, toTree copies, eqTree finds two that read alike equal, markTree writes marks, heldTree finds them; a tree that comes in as an argument is opened. Conditions: at most 1100000 bounds, nodes, sets and keys. -/
import Derived.Test.YtmpgmjnagpiijaaNodeLaw
import Derived.Test.YtmpgmjnagpiijaaGen
namespace Go.Proofs.Ytmpgmjnagpiijaa
open Go.RowKit Go.ChangeShapes Go.WideShapes Go.Deep
set_option maxRecDepth 100000
set_option linter.unusedSimpArgs false
set_option linter.unusedVariables false

abbrev NodeD := List (List KeyD)
def iV (n : Int) : Value := .int .i64 n
def intsD (l : List Int) : Dat := .row 3 1 l.length (l.map fun n => .lit (iV n))
def nodesD (ts : List NodeD) : Dat := .row 87 1 ts.length (ts.map setsD)
def nodesA (ts : List NodeD) : Dat := .row 123 1 ts.length (ts.map setsA)
/-- How many sets and keys the nodes hold. -/
def sumT (ts : List NodeD) : Nat := (ts.map fun ns => ns.length + sumN ns).sum
theorem sumT_nil : sumT [] = 0 := rfl
theorem sumT_cons (n : NodeD) (ts : List NodeD) : sumT (n :: ts) = (n.length + sumN n) + sumT ts := by simp [sumT]
theorem sumT_append (a b : List NodeD) : sumT (a ++ b) = sumT a + sumT b := by simp [sumT]
theorem sumT_mem {n : NodeD} {ts : List NodeD} (h : n ∈ ts) : n.length + sumN n ≤ sumT ts := by
  induction ts with
  | nil => simp at h
  | cons a ns ih =>
    rw [sumT_cons]
    rcases List.mem_cons.1 h with rfl | h
    · omega
    · have := ih h; omega
theorem sumT_take {ts : List NodeD} {k : Nat} (h : k < ts.length) : sumT (ts.take (k + 1)) = sumT (ts.take k) + ((ts[k]).length + sumN ts[k]) := by
  rw [List.take_succ_eq_append_getElem h, sumT_append, sumT_cons, sumT_nil]; omega
theorem sumT_take_le (ts : List NodeD) (k : Nat) : sumT (ts.take k) ≤ sumT ts := by
  have h := sumT_append (ts.take k) (ts.drop k)
  rw [List.take_append_drop] at h
  omega
def SmallT (lo : List Int) (ts : List NodeD) : Prop := lo.length ≤ 1100000 ∧ ts.length ≤ 1100000 ∧ sumT ts ≤ 1100000
theorem SmallT.at {lo : List Int} {ts : List NodeD} (h : SmallT lo ts) {k : Nat} (hk : k < ts.length) : SmallN ts[k] := by
  have := sumT_mem (List.getElem_mem hk)
  have := h.2.2
  exact ⟨by omega, by omega⟩
theorem small_at {ts : List NodeD} (h : sumT ts ≤ 1100000) {k : Nat} (hk : k < ts.length) : SmallN ts[k] := by
  have := sumT_mem (List.getElem_mem hk)
  exact ⟨by omega, by omega⟩
/-- A row of ints, one by one. -/
theorem Reads.int {w : World} {B : Nat} {A : Option Addr} {n cap : Nat} {l : List Int} (h : Reads w B (.slice A n cap) (intsD l)) {i : Nat} (hi : i < l.length) :
    ∃ b off, A = some ⟨b, off, none⟩ ∧ b < B ∧ ∀ k (hk : k < l.length), w.cell? ⟨b, off + k, none⟩ = some (iV l[k]) := by
  obtain ⟨A', cap', hv, hn, hc, hl, _, k⟩ := h.row'
  cases hv
  rcases k with h | ⟨b, off, xs, rfl, hb, hx, hcell, hr⟩
  · simp at h; subst h; simp at hi
  · refine ⟨b, off, rfl, hb, fun k hk => ?_⟩
    have hx' : xs.length = l.length := by simpa using hx
    have h1 := hr k (by omega) (by simpa using hk)
    rw [List.getElem_map] at h1
    have h2 := hcell k (by omega)
    generalize xs[k] = x at h1 h2
    cases h1
    exact h2
theorem Reads.node' {w : World} {B : Nat} {A : Option Addr} {e e2 n cap : Nat} {ts : List NodeD} {f : NodeD → Dat} {g : NodeD → List Dat} (hf : ∀ ns, f ns = .row e2 1 ns.length (g ns)) (h : Reads w B (.slice A n cap) (.row e 1 ts.length (ts.map f))) {i : Nat} (hi : i < ts.length) :
    ∃ b off, A = some ⟨b, off, none⟩ ∧ b < B ∧ ∀ k (hk : k < ts.length), ∃ A2 c2, w.cell? ⟨b, off + k, none⟩ = some (.slice A2 (ts[k]).length c2) ∧ (ts[k]).length ≤ c2 ∧ c2 ≤ maxLen ∧ Reads w B (.slice A2 (ts[k]).length c2) (f ts[k]) := by
  obtain ⟨A', cap', hv, hn, hc, hl, _, k⟩ := h.row'
  cases hv
  rcases k with h | ⟨b, off, xs, rfl, hb, hx, hcell, hr⟩
  · simp at h; subst h; simp at hi
  · refine ⟨b, off, rfl, hb, fun k hk => ?_⟩
    have hx' : xs.length = ts.length := by simpa using hx
    have h1 := hr k (by omega) (by simpa using hk)
    rw [List.getElem_map] at h1
    have h2 := hcell k (by omega)
    generalize xs[k] = x at h1 h2
    rw [hf] at h1
    obtain ⟨A2, c2, rfl, h3, h4⟩ := h1.lenN
    rw [← hf] at h1
    exact ⟨A2, c2, h2, h3, h4, h1⟩
theorem Reads.node {w : World} {B : Nat} {A : Option Addr} {n cap : Nat} {ts : List NodeD} (h : Reads w B (.slice A n cap) (nodesD ts)) {i : Nat} (hi : i < ts.length) :
    ∃ b off, A = some ⟨b, off, none⟩ ∧ b < B ∧ ∀ k (hk : k < ts.length), ∃ A2 c2, w.cell? ⟨b, off + k, none⟩ = some (.slice A2 (ts[k]).length c2) ∧ (ts[k]).length ≤ c2 ∧ c2 ≤ maxLen ∧ Reads w B (.slice A2 (ts[k]).length c2) (setsD ts[k]) :=
  Reads.node' (f := setsD) (fun _ => rfl) h hi
theorem Reads.nodeA {w : World} {B : Nat} {A : Option Addr} {n cap : Nat} {ts : List NodeD} (h : Reads w B (.slice A n cap) (nodesA ts)) {i : Nat} (hi : i < ts.length) :
    ∃ b off, A = some ⟨b, off, none⟩ ∧ b < B ∧ ∀ k (hk : k < ts.length), ∃ A2 c2, w.cell? ⟨b, off + k, none⟩ = some (.slice A2 (ts[k]).length c2) ∧ (ts[k]).length ≤ c2 ∧ c2 ≤ maxLen ∧ Reads w B (.slice A2 (ts[k]).length c2) (setsA ts[k]) :=
  Reads.node' (f := setsA) (fun _ => rfl) h hi
/-- Owned like Owns, but the block may be longer than the slice's capacity says. -/
def OwnC (w : World) (S : Nat → Prop) (v : Value) : Dat → Prop
  | .lit _ => False
  | .row e z n cs => (v = .slice none 0 0 ∧ n = 0 ∧ cs = []) ∨ ∃ (g cap : Nat) (cur : Array Value) (xs : List Value), v = .slice (some ⟨g, 0, none⟩) n cap ∧ S g ∧ w.heap[g]? = some (.cells cur e (0, 0)) ∧ n ≤ cap ∧ cap ≤ maxLen ∧ n * z ≤ cur.size ∧ cs.length = n * z ∧ cur.toList.take (n * z) = xs ∧ OwnsL w (fun b => S b ∧ b ≠ g) xs cs
theorem Owns.ownC {w : World} {S : Nat → Prop} {v : Value} {e z n : Nat} {cs : List Dat} (h : Owns w S v (.row e z n cs)) : OwnC w S v (.row e z n cs) := by
  rcases h.row' with h | ⟨g, cap, cur, xs, h1, h2, h3, h4, h5, h6, h7, h8, h9⟩
  · exact .inl h
  · exact .inr ⟨g, cap, cur, xs, h1, h2, h3, h4, h5, by rw [h6]; exact Nat.mul_le_mul_right _ h4, h7, h8, h9⟩
theorem OwnC.mono {w : World} {S T : Nat → Prop} {v : Value} {c : Dat} (h : OwnC w S v c) (hS : ∀ b, S b → T b) : OwnC w T v c := by
  cases c with
  | lit u => exact h
  | row e z n cs =>
    rcases h with h | ⟨g, cap, cur, xs, h1, h2, h3, h4, h5, h6, h7, h8, h9⟩
    · exact .inl h
    · exact .inr ⟨g, cap, cur, xs, h1, hS _ h2, h3, h4, h5, h6, h7, h8, h9.mono (fun b hb => ⟨hS b hb.1, hb.2⟩)⟩
theorem OwnC.keep {w w' : World} {S : Nat → Prop} {v : Value} {c : Dat} (h : OwnC w S v c) (hk : ∀ b, S b → b < w.heap.size → w'.heap[b]? = w.heap[b]?) : OwnC w' S v c := by
  cases c with
  | lit u => exact h
  | row e z n cs =>
    rcases h with h | ⟨g, cap, cur, xs, h1, h2, h3, h4, h5, h6, h7, h8, h9⟩
    · exact .inl h
    · exact .inr ⟨g, cap, cur, xs, h1, h2, (hk g h2 (Array.getElem?_eq_some_iff.1 h3).1).trans h3, h4, h5, h6, h7, h8, h9.keep (fun b hb hl => hk b hb.1 hl)⟩
theorem OwnC.lt {w : World} {S : Nat → Prop} {v : Value} {c : Dat} (h : OwnC w S v c) : OwnC w (fun b => S b ∧ b < w.heap.size) v c := by
  cases c with
  | lit u => exact h
  | row e z n cs =>
    rcases h with h | ⟨g, cap, cur, xs, h1, h2, h3, h4, h5, h6, h7, h8, h9⟩
    · exact .inl h
    · exact .inr ⟨g, cap, cur, xs, h1, ⟨h2, (Array.getElem?_eq_some_iff.1 h3).1⟩, h3, h4, h5, h6, h7, h8, h9.lt.mono (fun b hb => ⟨⟨hb.1.1, hb.2⟩, hb.1.2⟩)⟩
theorem OwnC.reads {w : World} {S : Nat → Prop} {v : Value} {c : Dat} (h : OwnC w S v c) : Reads w w.heap.size v c := by
  cases c with
  | lit u => exact h.elim
  | row e z n cs =>
    rcases h with ⟨rfl, rfl, rfl⟩ | ⟨g, cap, cur, xs, rfl, h2, h3, h4, h5, h6, h7, h8, h9⟩
    · exact .nil _ _ _ _ (Nat.zero_le _)
    · have hr := h9.reads
      refine .row g 0 n cap e z xs cs (Array.getElem?_eq_some_iff.1 h3).1 h4 h5 h7 hr.1 (fun i hi => ?_) hr.2
      rw [Nat.zero_add, cell_of_row w g i cur e (0, 0) h3]
      subst h8
      simp at hi ⊢
theorem OwnC.on {w w' : World} {S : Nat → Prop} {v : Value} {c : Dat} (h : OwnC w S v c) (hb : Below w.heap.size w w') : OwnC w' S v c := h.keep (fun b _ hl => hb.block b hl)
theorem OwnC.far {w w' : World} {S T : Nat → Prop} {v : Value} {c : Dat} (h : OwnC w S v c) (hg : Only T w w') (hd : ∀ b, S b → b < w.heap.size → ¬ T b) : OwnC w' S v c := h.keep (fun b hb hl => hg.block b hl (hd b hb hl))
/-- A tree that reads so. -/
def RdT (w : World) (B : Nat) (vl vn : Value) (lo : List Int) (ts : List NodeD) : Prop := Reads w B vl (intsD lo) ∧ Reads w B vn (nodesD ts)
theorem RdT.on {w w' : World} {vl vn : Value} {lo : List Int} {ts : List NodeD} (h : RdT w w.heap.size vl vn lo ts) (hb : Below w.heap.size w w') : RdT w' w'.heap.size vl vn lo ts := ⟨h.1.on hb, h.2.on hb⟩
theorem RdT.shape {w : World} {B : Nat} {vl vn : Value} {lo : List Int} {ts : List NodeD} (h : RdT w B vl vn lo ts) : ∃ A c A' c', vl = .slice A lo.length c ∧ vn = .slice A' ts.length c' := by
  obtain ⟨A, c, rfl, _⟩ := h.1.lenN
  obtain ⟨A', c', rfl, _⟩ := h.2.lenN
  exact ⟨A, c, A', c', rfl, rfl⟩
/-- A tree whose memory is owned, each block met once; TreeS: strictly (the capacities are those of the blocks). -/
def TreeC (w : World) (S : Nat → Prop) (vl vn : Value) (lo : List Int) (ts : List NodeD) : Prop := ∃ P Q : Nat → Prop, (∀ b, P b → S b) ∧ (∀ b, Q b → S b) ∧ (∀ b, P b → ¬ Q b) ∧ OwnC w P vl (intsD lo) ∧ OwnC w Q vn (nodesD ts)
def TreeS (w : World) (S : Nat → Prop) (vl vn : Value) (lo : List Int) (ts : List NodeD) : Prop := ∃ P Q : Nat → Prop, (∀ b, P b → S b) ∧ (∀ b, Q b → S b) ∧ (∀ b, P b → ¬ Q b) ∧ Owns w P vl (intsD lo) ∧ Owns w Q vn (nodesD ts)
theorem TreeS.c {w : World} {S : Nat → Prop} {vl vn : Value} {lo : List Int} {ts : List NodeD} (h : TreeS w S vl vn lo ts) : TreeC w S vl vn lo ts := by
  obtain ⟨P, Q, h1, h2, h3, h4, h5⟩ := h
  exact ⟨P, Q, h1, h2, h3, h4.ownC, h5.ownC⟩
theorem TreeC.mono {w : World} {S T : Nat → Prop} {vl vn : Value} {lo : List Int} {ts : List NodeD} (h : TreeC w S vl vn lo ts) (hS : ∀ b, S b → T b) : TreeC w T vl vn lo ts := by
  obtain ⟨P, Q, h1, h2, h3, h4, h5⟩ := h
  exact ⟨P, Q, fun b hb => hS b (h1 b hb), fun b hb => hS b (h2 b hb), h3, h4, h5⟩
theorem TreeC.keep {w w' : World} {S : Nat → Prop} {vl vn : Value} {lo : List Int} {ts : List NodeD} (h : TreeC w S vl vn lo ts) (hk : ∀ b, S b → b < w.heap.size → w'.heap[b]? = w.heap[b]?) : TreeC w' S vl vn lo ts := by
  obtain ⟨P, Q, h1, h2, h3, h4, h5⟩ := h
  exact ⟨P, Q, h1, h2, h3, h4.keep (fun b hb => hk b (h1 b hb)), h5.keep (fun b hb => hk b (h2 b hb))⟩
theorem TreeC.on {w w' : World} {S : Nat → Prop} {vl vn : Value} {lo : List Int} {ts : List NodeD} (h : TreeC w S vl vn lo ts) (hb : Below w.heap.size w w') : TreeC w' S vl vn lo ts := h.keep (fun b _ hl => hb.block b hl)
theorem TreeC.far {w w' : World} {S T : Nat → Prop} {vl vn : Value} {lo : List Int} {ts : List NodeD} (h : TreeC w S vl vn lo ts) (hg : Only T w w') (hd : ∀ b, S b → b < w.heap.size → ¬ T b) : TreeC w' S vl vn lo ts := h.keep (fun b hb hl => hg.block b hl (hd b hb hl))
theorem TreeC.lt {w : World} {S : Nat → Prop} {vl vn : Value} {lo : List Int} {ts : List NodeD} (h : TreeC w S vl vn lo ts) : TreeC w (fun b => S b ∧ b < w.heap.size) vl vn lo ts := by
  obtain ⟨P, Q, h1, h2, h3, h4, h5⟩ := h
  exact ⟨_, _, fun b hb => ⟨h1 b hb.1, hb.2⟩, fun b hb => ⟨h2 b hb.1, hb.2⟩, fun b hb hb' => h3 b hb.1 hb'.1, h4.lt, h5.lt⟩
theorem TreeC.reads {w : World} {S : Nat → Prop} {vl vn : Value} {lo : List Int} {ts : List NodeD} (h : TreeC w S vl vn lo ts) : RdT w w.heap.size vl vn lo ts := by
  obtain ⟨P, Q, h1, h2, h3, h4, h5⟩ := h
  exact ⟨h4.reads, h5.reads⟩
theorem TreeS.mono {w : World} {S T : Nat → Prop} {vl vn : Value} {lo : List Int} {ts : List NodeD} (h : TreeS w S vl vn lo ts) (hS : ∀ b, S b → T b) : TreeS w T vl vn lo ts := by
  obtain ⟨P, Q, h1, h2, h3, h4, h5⟩ := h
  exact ⟨P, Q, fun b hb => hS b (h1 b hb), fun b hb => hS b (h2 b hb), h3, h4, h5⟩
theorem TreeS.keep {w w' : World} {S : Nat → Prop} {vl vn : Value} {lo : List Int} {ts : List NodeD} (h : TreeS w S vl vn lo ts) (hk : ∀ b, S b → b < w.heap.size → w'.heap[b]? = w.heap[b]?) : TreeS w' S vl vn lo ts := by
  obtain ⟨P, Q, h1, h2, h3, h4, h5⟩ := h
  exact ⟨P, Q, h1, h2, h3, h4.keep (fun b hb => hk b (h1 b hb)), h5.keep (fun b hb => hk b (h2 b hb))⟩
theorem TreeS.on {w w' : World} {S : Nat → Prop} {vl vn : Value} {lo : List Int} {ts : List NodeD} (h : TreeS w S vl vn lo ts) (hb : Below w.heap.size w w') : TreeS w' S vl vn lo ts := h.keep (fun b _ hl => hb.block b hl)
theorem TreeS.lt {w : World} {S : Nat → Prop} {vl vn : Value} {lo : List Int} {ts : List NodeD} (h : TreeS w S vl vn lo ts) : TreeS w (fun b => S b ∧ b < w.heap.size) vl vn lo ts := by
  obtain ⟨P, Q, h1, h2, h3, h4, h5⟩ := h
  exact ⟨_, _, fun b hb => ⟨h1 b hb.1, hb.2⟩, fun b hb => ⟨h2 b hb.1, hb.2⟩, fun b hb hb' => h3 b hb.1 hb'.1, h4.lt, h5.lt⟩
theorem TreeS.reads {w : World} {S : Nat → Prop} {vl vn : Value} {lo : List Int} {ts : List NodeD} (h : TreeS w S vl vn lo ts) : RdT w w.heap.size vl vn lo ts := h.c.reads
/-- A call leaves a tree in memory of its own. -/
def NewT (w : World) (lo : List Int) (ts : List NodeD) (e : Ending) (w' : World) : Prop := ∃ vl vn, e = .returned (.agg #[vl, vn]) ∧ TreeC w' (fun b => w.heap.size ≤ b) vl vn lo ts ∧ Below w.heap.size w w'
def NewTS (w : World) (lo : List Int) (ts : List NodeD) (e : Ending) (w' : World) : Prop := ∃ vl vn, e = .returned (.agg #[vl, vn]) ∧ TreeS w' (fun b => w.heap.size ≤ b) vl vn lo ts ∧ Below w.heap.size w w'
theorem int_info : (Try.prog.info? 3).map (fun i => (i.zero, i.size, i.bytes)) = some (some (.int .i64 0), 1, 8) := by kernel_rfl
theorem node_info : (Try.prog.info? 87).map (fun i => (i.zero, i.size, i.bytes)) = some (some (.agg #[.slice none 0 0]), 1, 24) := by kernel_rfl
theorem run_makeInts (n : Nat) (hn : n ≤ 1100000) (w : World) :
    (Instr.makeSlice 22 (.int .i64 (n : Int)) (.int .i64 (n : Int))).run Try.prog w = .ok (.slice (some ⟨w.heap.size, 0, none⟩) n n) (w.alloc (.cells (madeCells #[.int .i64 0] n) 3)) := by
  obtain ⟨i, hi, h0, h1, h2⟩ := info_parts int_info
  have hr := run_make (P := Try.prog) w 22 3 i (.int .i64 0) Try.underlying22 hi h0 .i64 .i64 n n (by omega) (by omega) (by rw [h2]; omega) (by omega)
  simp only [Int.toNat_natCast, h1, Nat.mul_one] at hr
  exact hr
theorem run_makeNodes (n : Nat) (hn : n ≤ 1100000) (w : World) :
    (Instr.makeSlice 23 (.int .i64 (n : Int)) (.int .i64 (n : Int))).run Try.prog w = .ok (.slice (some ⟨w.heap.size, 0, none⟩) n n) (w.alloc (.cells (madeCells #[.slice none 0 0] n) 87)) := by
  obtain ⟨i, hi, h0, h1, h2⟩ := info_parts node_info
  have hr := run_make (P := Try.prog) w 23 87 i (.agg #[.slice none 0 0]) Try.underlying23 hi h0 .i64 .i64 n n (by omega) (by omega) (by rw [h2]; omega) (by omega)
  simp only [Int.toNat_natCast, h1, Nat.mul_one] at hr
  exact hr
theorem szIntS_any (A : Option Addr) (n c : Nat) (m : Int) (w : World) (hn : n ≤ maxLen) (h1 : 0 ≤ m) (h2 : m ≤ 1048576) :
    Calls Try.prog 64 #[.slice A n c, .int .i64 m] w fun e w' => w = w' ∧ ((e = .returned (.int .i64 (-1)) ∧ m < (n : Nat)) ∨ (e = .returned (.int .i64 (m - (n : Nat))) ∧ ((n : Nat) : Int) ≤ m)) := by
  unfold maxLen at hn
  by_cases h : m - (n : Int) < 0
  · go_enter Try.func64, Try.ntmps64
    go_wp2
    go_ret
    exact ⟨rfl, .inl ⟨rfl, by omega⟩⟩
  · go_enter Try.func64, Try.ntmps64
    go_wp2
    go_ret
    exact ⟨rfl, .inr ⟨rfl, by omega⟩⟩
set_option maxHeartbeats 1000000 in
theorem szNodeS_any (v : Value) (ts : List NodeD) (m : Int) (w : World) (hv : Reads w w.heap.size v (nodesA ts)) (h1 : 0 ≤ m) (h2 : m ≤ 1048576) :
    Calls Try.prog 65 #[v, .int .i64 m] w fun e w' => Below w.heap.size w w' ∧ ((e = .returned (.int .i64 (-1)) ∧ m < (ts.length + sumT ts : Nat)) ∨ (e = .returned (.int .i64 (m - (ts.length + sumT ts : Nat))) ∧ ((ts.length + sumT ts : Nat) : Int) ≤ m)) := by
  obtain ⟨A, c, rfl, hc1, hc2⟩ := hv.lenN
  unfold maxLen at hc2
  have HV := Lib.hid hv
  clear hv
  by_cases h : m - (ts.length : Int) < 0
  · go_enter Try.func65, Try.ntmps65
    go_wp2
    go_ret
    exact ⟨Below.refl _ _, .inl ⟨rfl, by omega⟩⟩
  · have d0 : decide (m - (ts.length : Int) < 0) = false := decide_eq_false h
    go_enter Try.func65, Try.ntmps65
    go_wp2
    go_loopw [1, 5] (fun q i wr => ∃ j : Nat, j ≤ ts.length ∧ i = .int .i64 j ∧ q = .int .i64 (m - (ts.length + sumT (ts.take j) : Nat)) ∧ ((ts.length + sumT (ts.take j) : Nat) : Int) ≤ m ∧ Hid (Below w.heap.size w wr)) (fun _ i _ => ts.length - (intOf i).toNat)
    case atStart => exact ⟨0, Nat.zero_le _, rfl, by simp [sumT], by simp [sumT]; omega, Lib.hid (Below.refl _ _)⟩
    case round =>
      clear d0 h
      obtain ⟨j, hj, rfl, rfl, hle, HB⟩ := hrel
      by_cases hlt : j < ts.length
      · obtain ⟨b, off, rfl, hbb, hc⟩ := (HV.out.on HB.out).nodeA hlt
        obtain ⟨A1, d1, c1, hx1, hx2, r1⟩ := hc j hlt
        have R1 := Lib.hid r1
        have T1 := Lib.hid (sumT_take hlt)
        have T2 := Lib.hid (sumT_take_le ts (j + 1))
        have i1 : (j : Int) < (ts.length : Int) := by omega
        have i2 : (0 : Int) ≤ (j : Int) := by omega
        generalize hq : m - ((ts.length + sumT (ts.take j) : Nat) : Int) = q
        have q0 : 0 ≤ q := by omega
        have q1 : q ≤ 1048576 := by omega
        have HQ := Lib.hid hq
        have HL := Lib.hid hle
        clear hc hq hle r1
        go_wp2_with fail
        refine (szNode_any (.slice A1 (ts[j]).length d1) ts[j] _ R1.out q q0 q1).mono ?_
        rintro e w1 ⟨b1, (⟨rfl, h3⟩ | ⟨rfl, h3⟩)⟩
        · have HB2 := Lib.hid (bstep HB.out b1)
          clear b1
          go_wp2
          go_ret
          refine ⟨HB2.out, .inl ⟨rfl, ?_⟩⟩
          have := HQ.out; have := T1.out; have := T2.out; omega
        · have HB2 := Lib.hid (bstep HB.out b1)
          clear b1
          have d2 : decide (q - (((ts[j]).length + sumN ts[j] : Nat) : Int) < 0) = false := decide_eq_false (by omega)
          go_wp2
          go_roundw
          case rel =>
            refine ⟨j + 1, by omega, by go_num, ?_, ?_, HB2⟩
            · congr 1; have := HQ.out; have := T1.out; omega
            · have := HQ.out; have := T1.out; omega
          case measure => simp [intOf]; omega
      · go_wp2
        go_ret
        have e : j = ts.length := by omega
        subst e
        have hh : sumT (ts.take ts.length) = sumT ts := by rw [List.take_length]
        rw [hh] at hle
        exact ⟨HB.out, .inr ⟨by rw [hh]; rfl, hle⟩⟩
theorem szTree_any (vl vn : Value) (lo : List Int) (ts : List NodeD) (w : World) (hl : Reads w w.heap.size vl (intsD lo)) (hv : Reads w w.heap.size vn (nodesA ts)) :
    Calls Try.prog 36 #[.agg #[vl, vn], .int .i64 1048576] w fun e w' => ((∃ q : Int, e = .returned (.int .i64 q) ∧ 0 ≤ q ∧ lo.length + (ts.length + sumT ts) ≤ 1048576) ∨ (e = .returned (.int .i64 (-1)) ∧ 1048576 < lo.length + (ts.length + sumT ts))) ∧ Below w.heap.size w w' := by
  obtain ⟨A, c, rfl, hc1, hc2⟩ := hl.lenN
  have HS := Lib.hid (fun W b m => szNodeS_any vn ts m W (hv.on b))
  obtain ⟨A', c', rfl, _, _⟩ := hv.lenN
  have HB := Lib.hid (bal1 w (.cells #[.slice A lo.length c, .slice A' ts.length c'] 37))
  clear hv hl
  go_enter Try.func36, Try.ntmps36
  go_wp2_with fail
  refine (szIntS_any A lo.length c 1048576 _ (by omega) (by omega) (by omega)).mono ?_
  rintro e w1 ⟨rfl, (⟨rfl, h3⟩ | ⟨rfl, h3⟩)⟩
  · go_wp2
    go_ret
    exact ⟨.inr ⟨rfl, by omega⟩, HB.out⟩
  · generalize hq : (1048576 : Int) - ((lo.length : Nat) : Int) = q
    have d2 : decide (q < 0) = false := decide_eq_false (by omega)
    go_wp2_with fail
    refine (HS.out _ HB.out q (by omega) (by omega)).mono ?_
    rintro e w2 ⟨b2, (⟨rfl, h4⟩ | ⟨rfl, h4⟩)⟩
    · have HB2 := Lib.hid (bstep HB.out b2)
      clear b2
      go_wp2
      go_ret
      exact ⟨.inr ⟨rfl, by omega⟩, HB2.out⟩
    · have HB2 := Lib.hid (bstep HB.out b2)
      clear b2
      generalize hp : q - ((ts.length + sumT ts : Nat) : Int) = p
      have d3 : decide (p < 0) = false := decide_eq_false (by omega)
      go_wp2
      go_ret
      exact ⟨.inl ⟨p, rfl, by omega, by omega⟩, HB2.out⟩
end Go.Proofs.Ytmpgmjnagpiijaa
