/- Several texts in one: TreePutPure, TreeSet, TreePair, TreeJoin. -/
import Derived.Test.YtkcafbdlealbpaaGreatMergeA
import Derived.Test.YtkcafbdlealbpaaGreatLast2
import Derived.Test.YtkcafbdlealbpaaGreatLast3
/- What spec.TreePut and its parts answer, as functions on lists, and the memory of rows that are cut and joined. No condition: plain lemmas. -/
namespace Go.Proofs.YtkcafbdlealbpaaGreat
open Go.RowKit
set_option maxRecDepth 100000
set_option linter.unusedSimpArgs false
set_option linter.unusedVariables false

def setL {α : Type} (l : List α) (i : Nat) (m : List α) (j : Nat) : List α := l.take i ++ m ++ l.drop j
theorem setL_len {α : Type} (l : List α) (i : Nat) (m : List α) (j : Nat) (h : i ≤ j) (hj : j ≤ l.length) : (setL l i m j).length = l.length + m.length - (j - i) := by
  unfold setL
  simp
  omega
def fewB (a b : NodeD) : Bool := decide ((nodeKeysK a).length + (nodeKeysK b).length ≤ 6)
def pairGo : List NodeD → Nat → Int
  | a :: b :: r, k => if fewB a b then (k : Int) else pairGo (b :: r) (k + 1)
  | [_], _ => -1
  | [], _ => -1
def pairK (ts : List NodeD) : Int := pairGo ts 0
/-- The first pair is at i: none ahead of it, and it is one. -/
theorem pairGo_spec (ts : List NodeD) : ∀ k : Nat, (pairGo ts k = -1 ∧ ∀ j (h : j + 1 < ts.length), fewB ts[j] ts[j + 1] = false) ∨ ∃ i : Nat, pairGo ts k = ((k + i : Nat) : Int) ∧ ∃ h : i + 1 < ts.length, fewB ts[i] ts[i + 1] = true ∧ ∀ j (hj : j < i), fewB ts[j] ts[j + 1] = false := by
  induction ts with
  | nil => intro k; exact .inl ⟨rfl, fun j h => by simp at h⟩
  | cons a ts ih =>
    cases ts with
    | nil => intro k; exact .inl ⟨rfl, fun j h => by simp at h⟩
    | cons b r =>
      intro k
      cases hf : fewB a b with
      | true =>
        refine .inr ⟨0, by simp [pairGo, hf], by simp, ?_, fun j hj => by omega⟩
        exact hf
      | false =>
        have he : pairGo (a :: b :: r) k = pairGo (b :: r) (k + 1) := by simp [pairGo, hf]
        rw [he]
        rcases ih (k + 1) with ⟨h1, h2⟩ | ⟨i, h1, h2, h3, h4⟩
        · refine .inl ⟨h1, fun j h => ?_⟩
          cases j with
          | zero => exact hf
          | succ j => exact h2 j (by simpa using h)
        · refine .inr ⟨i + 1, by rw [h1]; congr 1; omega, by simpa using h2, h3, fun j hj => ?_⟩
          cases j with
          | zero => exact hf
          | succ j => exact h4 j (by omega)
theorem pair_spec (ts : List NodeD) : (pairK ts = -1 ∧ ∀ j (h : j + 1 < ts.length), fewB ts[j] ts[j + 1] = false) ∨ ∃ i : Nat, pairK ts = (i : Int) ∧ ∃ h : i + 1 < ts.length, fewB ts[i] ts[i + 1] = true ∧ ∀ j (hj : j < i), fewB ts[j] ts[j + 1] = false := by
  rcases pairGo_spec ts 0 with h | ⟨i, h1, h2⟩
  · exact .inl h
  · exact .inr ⟨i, by rw [pairK, h1, Nat.zero_add], h2⟩
theorem pair_hit {ts : List NodeD} {k : Nat} (hk : k + 1 < ts.length) (h1 : fewB ts[k] ts[k + 1] = true) (h2 : ∀ j (hj : j < k), fewB ts[j] ts[j + 1] = false) : pairK ts = (k : Int) := by
  rcases pair_spec ts with ⟨_, h⟩ | ⟨i, h3, h4, h5, h6⟩
  · rw [h k hk] at h1; cases h1
  · rw [h3]
    rcases Nat.lt_trichotomy i k with h | h | h
    · rw [h2 i h] at h5; cases h5
    · rw [h]
    · rw [h6 k h] at h1; cases h1
theorem pair_miss {ts : List NodeD} (h : ∀ j (hj : j + 1 < ts.length), fewB ts[j] ts[j + 1] = false) : pairK ts = -1 := by
  rcases pair_spec ts with ⟨h1, _⟩ | ⟨i, _, h4, h5, _⟩
  · exact h1
  · rw [h i h4] at h5; cases h5
abbrev TreeD := List Int × List NodeD
def joinAt (t : TreeD) (i : Nat) : TreeD := (t.1.take (i + 1) ++ t.1.drop (i + 2), setL t.2 i [nodeNewK (nodeKeysK (t.2.getD i []) ++ nodeKeysK (t.2.getD (i + 1) []))] (i + 2))
def joinGo : Nat → TreeD → TreeD
  | 0, t => t
  | n + 1, t => if 0 ≤ pairK t.2 then joinGo n (joinAt t (pairK t.2).toNat) else t
def joinK (t : TreeD) : TreeD := joinGo t.2.length t
theorem joinAt_len (t : TreeD) (i : Nat) (h : i + 1 < t.2.length) : (joinAt t i).2.length + 1 = t.2.length := by
  unfold joinAt
  rw [setL_len _ _ _ _ (by omega) (by omega)]
  simp
  omega
theorem pair_lt {ts : List NodeD} (h : 0 ≤ pairK ts) : (pairK ts).toNat + 1 < ts.length := by
  rcases pair_spec ts with ⟨h1, _⟩ | ⟨i, h1, h2, _⟩
  · omega
  · rw [h1]; simpa using h2
theorem join_more (n : Nat) : ∀ (m : Nat) (t : TreeD), t.2.length ≤ n → t.2.length ≤ m → joinGo n t = joinGo m t := by
  induction n with
  | zero =>
    intro m t h _
    have h0 : t.2 = [] := List.length_eq_zero_iff.1 (by omega)
    cases m with
    | zero => rfl
    | succ m =>
      have : ¬ 0 ≤ pairK t.2 := by rw [h0]; decide
      simp [joinGo, this]
  | succ n ih =>
    intro m t h1 h2
    cases m with
    | zero =>
      have h0 : t.2 = [] := List.length_eq_zero_iff.1 (by omega)
      have : ¬ 0 ≤ pairK t.2 := by rw [h0]; decide
      simp [joinGo, this]
    | succ m =>
      simp only [joinGo]
      split
      · rename_i hp
        have hl := joinAt_len t _ (pair_lt hp)
        exact ih m _ (by omega) (by omega)
      · rfl
theorem join_step {t : TreeD} {i : Nat} (h : pairK t.2 = (i : Int)) : joinK t = joinK (joinAt t i) := by
  have hp : 0 ≤ pairK t.2 := by rw [h]; omega
  have hlt := pair_lt hp
  rw [h, show ((i : Int)).toNat = i from rfl] at hlt
  have hl := joinAt_len t i hlt
  unfold joinK
  rw [← hl]
  simp only [joinGo]
  rw [if_pos hp, h, show ((i : Int)).toNat = i from rfl]
theorem join_done {t : TreeD} (h : pairK t.2 = -1) : joinK t = t := by
  unfold joinK
  cases hn : t.2.length with
  | zero => rfl
  | succ n =>
    simp only [joinGo]
    rw [if_neg (by rw [h]; decide)]
def halfK (l : List KeyD) : Nat := (l.length + 1) / 2
/-- What TreePut has ahead of the joining. -/
def midK (lo : List Int) (ts : List NodeD) (x : KeyD) : TreeD :=
  let i := (whereK lo (spotI x.a x.b)).toNat
  let n := ts.getD i []
  let l := rebK n x
  if putNB n x = false then (setL lo i [lo.getD i 0, spotI (l.getD (halfK l) zK).a (l.getD (halfK l) zK).b] (i + 1), setL ts i [nodeNewK (l.take (halfK l)), nodeNewK (l.drop (halfK l))] (i + 1))
  else if 0 < i ∧ (nodeKeysK (putN n x)).length = 0 then (setL lo i [] (i + 1), setL ts i [] (i + 1))
  else (setL lo i [lo.getD i 0] (i + 1), setL ts i [putN n x] (i + 1))
def endK (lo : List Int) (ts : List NodeD) (x : KeyD) : TreeD := joinK (midK lo ts x)
def treePutB (lo : List Int) (ts : List NodeD) (x : KeyD) : Bool := treeOkB lo ts && okK x && treeOkB (endK lo ts x).1 (endK lo ts x).2
def treePutK (lo : List Int) (ts : List NodeD) (x : KeyD) : TreeD := if treePutB lo ts x then endK lo ts x else (lo, ts)
/-- Owned cells, parted. -/
theorem OwnsL.split {w : World} {S : Nat → Prop} {vs : List Value} {cs : List Dat} (h : OwnsL w S vs cs) (i : Nat) : ∃ S1 S2 : Nat → Prop, OwnsL w S1 (vs.take i) (cs.take i) ∧ OwnsL w S2 (vs.drop i) (cs.drop i) ∧ (∀ b, S1 b → S b) ∧ (∀ b, S2 b → S b) ∧ ∀ b, S1 b → ¬ S2 b := by
  obtain ⟨hl, F, ho, hF, hd⟩ := h
  refine ⟨fun b => ∃ k, k < i ∧ F k b, fun b => ∃ k, i ≤ k ∧ F k b, ⟨by simp [hl], fun k b => k < i ∧ F k b, fun k a b => ?_, fun k b h => ⟨k, h⟩, fun k j b hkj h1 h2 => hd k j b hkj h1.2 h2.2⟩, ⟨by simp [hl], fun k b => F (i + k) b, fun k a b => ?_, fun k b h => ⟨i + k, by omega, h⟩, fun k j b hkj h1 h2 => hd _ _ b (by omega) h1 h2⟩, fun b ⟨k, _, h⟩ => hF k b h, fun b ⟨k, _, h⟩ => hF k b h, fun b ⟨k, h1, h2⟩ ⟨j, h3, h4⟩ => hd k j b (by omega) h2 h4⟩
  · simp only [List.length_take] at a b
    rw [List.getElem_take, List.getElem_take]
    exact (ho k (by omega) (by omega)).mono (fun b hb => ⟨by omega, hb⟩)
  · simp only [List.length_drop] at a b
    rw [List.getElem_drop, List.getElem_drop]
    exact ho (i + k) (by omega) (by omega)
/-- Some cells taken out, others laid in their place. -/
theorem OwnsL.swap {w : World} {S T U : Nat → Prop} {vs us : List Value} {cs ds : List Dat} (h : OwnsL w S vs cs) (k : OwnsL w T us ds) (i j : Nat) (hij : i ≤ j) (hS : ∀ b, S b → U b) (hT : ∀ b, T b → U b) (hd : ∀ b, S b → ¬ T b) : OwnsL w U (vs.take i ++ us ++ vs.drop j) (cs.take i ++ ds ++ cs.drop j) := by
  obtain ⟨S1, S2, h1, h2, hs1, hs2, hdd⟩ := h.split i
  obtain ⟨S3, S4, h3, h4, hs3, hs4, _⟩ := h2.split (j - i)
  rw [List.drop_drop, List.drop_drop, show i + (j - i) = j by omega] at h4
  have a1 := h1.append k (U := fun b => S1 b ∨ T b) (fun b hb => .inl hb) (fun b hb => .inr hb) (fun b hb hb' => hd b (hs1 b hb) hb')
  exact a1.append h4 (fun b hb => hb.elim (fun h => hS b (hs1 b h)) (fun h => hT b h)) (fun b hb => hS b (hs2 b (hs4 b hb))) (fun b hb hb' => hb.elim (fun h => hdd b h (hs4 b hb')) (fun h => hd b (hs2 b (hs4 b hb')) h))
/-- The tail of a row, as slicing spells its address. -/
def tailA (A : Option Addr) (c j : Nat) : Option Addr := if c = j then A else A.map (fun a => a.add j)
theorem At.takeV {w : World} {A : Option Addr} {xs : List Value} (h : At w A xs) (i : Nat) : At w A (xs.take i) := by
  rcases h with rfl | ⟨b, off, rfl, hc⟩
  · exact .inl (by simp)
  · refine .inr ⟨b, off, rfl, fun k hk => ?_⟩
    simp only [List.length_take] at hk
    rw [hc k (by omega), List.getElem_take]
theorem At.tailV {w : World} {A : Option Addr} {xs : List Value} (h : At w A xs) {c j : Nat} (hc : xs.length ≤ c) : At w (tailA A c j) (xs.drop j) := by
  unfold tailA
  split
  · exact .inl (List.drop_eq_nil_of_le (by omega))
  · rcases h with rfl | ⟨b, off, rfl, hcell⟩
    · exact .inl (by simp)
    · refine .inr ⟨b, off + j, by rw [Option.map_some, Addr.add_lit], fun k hk => ?_⟩
      simp only [List.length_drop] at hk
      rw [List.getElem_drop, ← hcell (j + k) (by omega), Nat.add_assoc]
theorem run_tailI {w : World} (A : Option Addr) (n c j : Nat) (h1 : j ≤ n) (h2 : n ≤ c) : (Instr.slice 24 (.slice A n c) (some (.int .i64 (j : Int))) none none).run Tryz.prog w = .ok (.slice (tailA A c j) (n - j) (c - j)) w := by
  obtain ⟨i, hi, h0, h3, h4⟩ := info_parts int_info
  have e1 : (0 : Int) ≤ (j : Int) := by omega
  have e2 : (j : Int) ≤ (n : Int) := by omega
  simp [Instr.slice, Instr.sliceBounds, Instr.sliceBound, run_underlying Tryz.underlying24, sizeOf, typeInfo, hi, h3, tailA, e2, go_sem]
  intro h; omega
theorem run_tailN {w : World} (A : Option Addr) (n c j : Nat) (h1 : j ≤ n) (h2 : n ≤ c) : (Instr.slice 25 (.slice A n c) (some (.int .i64 (j : Int))) none none).run Tryz.prog w = .ok (.slice (tailA A c j) (n - j) (c - j)) w := by
  obtain ⟨i, hi, h0, h3, h4⟩ := info_parts node_info
  have e1 : (0 : Int) ≤ (j : Int) := by omega
  have e2 : (j : Int) ≤ (n : Int) := by omega
  simp [Instr.slice, Instr.sliceBounds, Instr.sliceBound, run_underlying Tryz.underlying25, sizeOf, typeInfo, hi, h3, tailA, e2, go_sem]
  intro h; omega
end Go.Proofs.YtkcafbdlealbpaaGreat
/- The contract of spec.l6Set: nodes in the place of one. Conditions: at most 1100000 bounds and nodes. -/
namespace Go.Proofs.YtkcafbdlealbpaaGreat
open Go.RowKit
set_option maxRecDepth 100000
set_option linter.unusedSimpArgs false
set_option linter.unusedVariables false
theorem row_nodes {w : World} {P : Nat → Prop} {N M : Nat} {v : Value} {ts : List NodeD} {xs : List Value} (h : w.ownsRow N 71 1 v ts.length xs) (ho : OwnsL w (fun b => P b ∧ b < M) xs (ts.map setsD)) (hM : M ≤ N) : Owns w (fun b => (P b ∧ b < M) ∨ N ≤ b) v (nodesD ts) := by
  refine rowP_owns h (ho.mono (fun b hb => ⟨.inl hb, fun e => ?_⟩)) (fun g hg => .inr (row_lt h g hg).2) (by simp)
  have := (row_lt h b e).2
  have := hb.2
  omega
theorem Owns.nodeCells {w : World} {S : Nat → Prop} {A : Option Addr} {n c : Nat} {ts : List NodeD} (h : Owns w S (.slice A n c) (nodesD ts)) : ∃ xs, At w A xs ∧ xs.length = ts.length ∧ OwnsL w S xs (ts.map setsD) ∧ (∀ u ∈ xs, u.oneCell' = true) ∧ ts.length ≤ c := by
  rcases h.rw' with ⟨hv, h0, hc⟩ | ⟨g, cap, xs, hv, hS, hR, hn, hc, hl, hx, ho⟩
  · cases hv
    have : ts = [] := List.length_eq_zero_iff.1 h0
    subst this
    exact ⟨[], .inl rfl, rfl, OwnsL.nil _ _, fun u hu => by simp at hu, Nat.zero_le _⟩
  · cases hv
    refine ⟨xs, .inr ⟨g, 0, rfl, fun i hi => by rw [Nat.zero_add]; exact hR.cell hi⟩, by simpa using hx, ho.mono (fun b hb => hb.1), ho.reads.ones (fun c hc => by simp at hc; obtain ⟨l, _, rfl⟩ := hc; rfl), hn⟩
theorem Owns.lenC {w : World} {S : Nat → Prop} {A : Option Addr} {n c : Nat} {lo : List Int} (h : Owns w S (.slice A n c) (intsD lo)) : lo.length ≤ c := by
  rcases h.rw' with ⟨hv, h0, hc⟩ | ⟨g, cap, xs, hv, hS, hR, hn, _⟩
  · cases hv; omega
  · cases hv; exact hn
/-- What a call that lays a tree anew out of an owned one leaves. -/
def MakesT (w : World) (B X : Nat) (lo : List Int) (ts : List NodeD) (e : Ending) (w' : World) : Prop := ∃ vl vn, e = .returned (.agg #[vl, vn]) ∧ TreeS w' (fun b => B ≤ b ∧ b ≠ X) vl vn lo ts ∧ Below w.heap.size w w'
theorem set_map {α β : Type} (f : α → β) (l : List α) (i : Nat) (m : List α) (j : Nat) : (setL l i m j).map f = (l.map f).take i ++ m.map f ++ (l.map f).drop j := by simp [setL, List.map_take, List.map_drop]
/-- Between the two rows that spec.l6Set lays. -/
def SetMid (w W : World) (bt bz : Obj) (rl : List Int) (wx : World) : Prop := ∃ Ak ck, wx.heap[w.heap.size]? = some bt ∧ wx.heap[w.heap.size + 1]? = some bz ∧ wx.heap[w.heap.size + 1 + 1]? = some (.cells #[.slice Ak rl.length ck, .slice none 0 0] 27 (0, 0)) ∧ Below w.heap.size w wx ∧ Owns wx (fun b => W.heap.size ≤ b ∧ b < wx.heap.size) (.slice Ak rl.length ck) (intsD rl) ∧ W.heap.size ≤ wx.heap.size
set_option maxHeartbeats 16000000 in
theorem l6Set_any (vl vn : Value) (lo : List Int) (ts : List NodeD) (i : Nat) (Al : Option Addr) (cl : Nat) (los : List Int) (An : Option Addr) (cn : Nat) (nds : List NodeD) (us : List Value) (Bb M X : Nat) (w : World) (hv : TreeS w (fun b => Bb ≤ b ∧ b < M ∧ b ≠ X) vl vn lo ts)
    (hal : At w Al (los.map iV)) (han : At w An us) (hus : us.length = nds.length) (hou : OwnsL w (fun b => M ≤ b ∧ b ≠ X) us (nds.map setsD)) (hX : X < w.heap.size) (h1u : ∀ u ∈ us, u.oneCell' = true) (hi : i < lo.length) (hit : i < ts.length) (hBb : Bb ≤ w.heap.size) (hBM : Bb ≤ M) (hs1 : lo.length ≤ 1100000) (hs2 : ts.length ≤ 1100000) (hs3 : los.length ≤ 2) (hs4 : nds.length ≤ 2) :
    Calls Tryz.prog 48 #[.agg #[vl, vn], .int .i64 (i : Int), .slice Al los.length cl, .slice An nds.length cn] w (MakesT w Bb X (setL lo i los (i + 1)) (setL ts i nds (i + 1))) := by
  obtain ⟨A, c, B, d, rfl, rfl⟩ := hv.reads.shape
  obtain ⟨P, Q, hP, hQ, hPQ, hvl, hvn⟩ := hv
  have hcl := hvl.lenC
  have HAL := hvl.reads.atI
  obtain ⟨xs, hxa, hxl, hxo, hx1, hcn⟩ := hvn.nodeCells
  have hb3 := bal3 w (.cells #[.slice A lo.length c, .slice B ts.length d] 27) (.cells #[.slice none 0 0, .slice none 0 0] 27) (.cells #[.slice none 0 0, .slice none 0 0] 27)
  obtain ⟨q0, q1, q2⟩ := al3 w (.cells #[.slice A lo.length c, .slice B ts.length d] 27) (.cells #[.slice none 0 0, .slice none 0 0] 27) (.cells #[.slice none 0 0, .slice none 0 0] 27)
  have hz3 : (((w.alloc (.cells #[.slice A lo.length c, .slice B ts.length d] 27)).alloc (.cells #[.slice none 0 0, .slice none 0 0] 27)).alloc (.cells #[.slice none 0 0, .slice none 0 0] 27)).heap.size = w.heap.size + 3 := by simp
  have HOS := Lib.hid (OwnsL.swap (U := fun b => (Bb ≤ b ∧ b ≠ X) ∧ b < w.heap.size) hxo.lt hou.lt i (i + 1) (by omega) (fun b hb => ⟨⟨(hQ b hb.1).1, (hQ b hb.1).2.2⟩, hb.2⟩) (fun b hb => ⟨⟨by have := hb.1.1; omega, hb.1.2⟩, hb.2⟩) (fun b hb hb' => by have := (hQ b hb.1).2.1; have := hb'.1.1; omega))
  have HAT := Lib.hid (HAL.on hb3)
  have HXA := Lib.hid hxa
  have HSL := Lib.hid (hal.on hb3)
  have HSA := Lib.hid han
  have HB := Lib.hid hb3
  have QT := Lib.hid q0
  have QR := Lib.hid q1
  have QO := Lib.hid q2
  have HZ := Lib.hid hz3
  have HXL := Lib.hid hxl
  have HUS := Lib.hid hus
  have HX1 := Lib.hid hx1
  have HU1 := Lib.hid h1u
  have HI1 := Lib.hid (one_iV lo)
  have HI2 := Lib.hid (one_iV los)
  have HLE : Hid ((setL lo i los (i + 1)).length = i + los.length + (lo.length - (i + 1))) := Lib.hid (by unfold setL; simp; omega)
  have HLN : Hid ((setL ts i nds (i + 1)).length = i + nds.length + (ts.length - (i + 1))) := Lib.hid (by unfold setL; simp; omega)
  have HM1 := Lib.hid (set_map iV lo i los (i + 1))
  have HM2 := Lib.hid (set_map setsD ts i nds (i + 1))
  generalize setL lo i los (i + 1) = rl at *
  generalize setL ts i nds (i + 1) = rn at *
  clear hvl hvn HAL hxa hxl hxo hx1 hal han hus hou h1u hb3 q0 q1 q2 hz3 hP hQ hPQ
  have i1 : (0 : Int) ≤ (i : Int) := by omega
  have i2 : (i : Int) ≤ (c : Int) := by omega
  have i3 : (i : Int) ≤ (d : Int) := by omega
  have i4 : (i : Int) + 1 ≤ (lo.length : Int) := by omega
  have i5 : (i : Int) + 1 ≤ (ts.length : Int) := by omega
  have i6 : (0 : Int) ≤ (i : Int) + 1 := by omega
  have i7 : ((i : Int) + 1).toNat = i + 1 := by omega
  have i9 : (i : Int) ≤ (i : Int) + 1 := by omega
  have i8 : IntKind.i64.wrap ((i : Int) + 1) = (i : Int) + 1 := by rw [IntKind.wrap_i64]; omega
  go_enter Tryz.func48, Tryz.ntmps48
  go_upto_region 2 with (fail)
  generalize ((w.alloc (.cells #[.slice A lo.length c, .slice B ts.length d] 27)).alloc (.cells #[.slice none 0 0, .slice none 0 0] 27)).alloc (.cells #[.slice none 0 0, .slice none 0 0] 27) = W at *
  have hz1 := Nat.le_of_eq HZ.out
  have hz2 := Nat.le_of_eq HZ.out.symm
  go_cut [24] (fun _ wx => Hid (SetMid w W (.cells #[.slice A lo.length c, .slice B ts.length d] 27) (.cells #[.slice none 0 0, .slice none 0 0] 27) rl wx))
  case first =>
    by_cases hcN : c = i + 1
    · subst hcN
      refine but_begin (f := 15) (S := fun V => Below W.heap.size W V) (by kernel_rfl) ?_
      refine but_take (f := 15) (i := 1) (v := ?va1) rfl (by kernel_rfl) (by kernel_rfl) (by kernel_rfl) (by kernel_rfl) (by kernel_rfl) (fun _ _ _ h => h) (Or.inl ⟨(by rfl), ?hya1⟩) (Below.drew1 _) ?resta1
      case hya1 =>
        intro W hW
        go_simp
        exact rfl
      simp only [List.getElem_toArray, List.getElem_cons_succ, List.getElem_cons_zero, Act.put, List.setIfInBounds_toArray, List.set_cons_zero, List.set_cons_succ]
      refine but_take (f := 15) (i := 2) (v := ?va2) rfl (by kernel_rfl) (by kernel_rfl) (by kernel_rfl) (by kernel_rfl) (by kernel_rfl) (fun _ _ _ h => h) (Or.inl ⟨(by rfl), ?hya2⟩) (Below.drew1 _) ?resta2
      case hya2 =>
        intro W hW
        obtain ⟨x0, x1, x2⟩ := box2 (box_on QT.out hW)
        go_simp
        exact rfl
      simp only [List.getElem_toArray, List.getElem_cons_succ, List.getElem_cons_zero, Act.put, List.setIfInBounds_toArray, List.set_cons_zero, List.set_cons_succ]
      refine but_take (f := 15) (i := 3) (v := ?va3) rfl (by kernel_rfl) (by kernel_rfl) (by kernel_rfl) (by kernel_rfl) (by kernel_rfl) (fun _ _ _ h => h) (Or.inl ⟨(by rfl), ?hya3⟩) (Below.drew1 _) ?resta3
      case hya3 =>
        intro W hW
        go_simp
        exact rfl
      simp only [List.getElem_toArray, List.getElem_cons_succ, List.getElem_cons_zero, Act.put, List.setIfInBounds_toArray, List.set_cons_zero, List.set_cons_succ]
      refine but_take (f := 15) (i := 4) (v := ?va4) rfl (by kernel_rfl) (by kernel_rfl) (by kernel_rfl) (by kernel_rfl) (by kernel_rfl) (fun _ _ _ h => h) (Or.inl ⟨(by rfl), ?hya4⟩) (Below.drew1 _) ?resta4
      case hya4 =>
        intro W hW
        go_simp
        exact rfl
      simp only [List.getElem_toArray, List.getElem_cons_succ, List.getElem_cons_zero, Act.put, List.setIfInBounds_toArray, List.set_cons_zero, List.set_cons_succ]
      refine but_take (f := 15) (i := 6) (v := ?va6) rfl (by kernel_rfl) (by kernel_rfl) (by kernel_rfl) (by kernel_rfl) (by kernel_rfl) (fun _ _ _ h => h) (Or.inl ⟨(by rfl), ?hya6⟩) (Below.drew1 _) ?resta6
      case hya6 =>
        intro W hW
        go_simp
        exact rfl
      simp only [List.getElem_toArray, List.getElem_cons_succ, List.getElem_cons_zero, Act.put, List.setIfInBounds_toArray, List.set_cons_zero, List.set_cons_succ]
      refine but_take (f := 15) (i := 8) (v := ?va8) rfl (by kernel_rfl) (by kernel_rfl) (by kernel_rfl) (by kernel_rfl) (by kernel_rfl) (fun _ _ _ h => h) (Or.inl ⟨(by rfl), ?hya8⟩) (Below.drew1 _) ?resta8
      case hya8 =>
        intro W hW
        go_simp
        exact rfl
      simp only [List.getElem_toArray, List.getElem_cons_succ, List.getElem_cons_zero, Act.put, List.setIfInBounds_toArray, List.set_cons_zero, List.set_cons_succ]
      refine but_take (f := 15) (i := 9) (v := ?va9) rfl (by kernel_rfl) (by kernel_rfl) (by kernel_rfl) (by kernel_rfl) (by kernel_rfl) (fun _ _ _ h => h) (Or.inl ⟨(by rfl), ?hya9⟩) (Below.drew1 _) ?resta9
      case hya9 =>
        intro W hW
        obtain ⟨x0, x1, x2⟩ := box2 (box_on QT.out hW)
        go_simp
        exact rfl
      simp only [List.getElem_toArray, List.getElem_cons_succ, List.getElem_cons_zero, Act.put, List.setIfInBounds_toArray, List.set_cons_zero, List.set_cons_succ]
      refine but_take (f := 15) (i := 10) (v := ?va10) rfl (by kernel_rfl) (by kernel_rfl) (by kernel_rfl) (by kernel_rfl) (by kernel_rfl) (fun _ _ _ h => h) (Or.inl ⟨(by rfl), ?hya10⟩) (Below.drew1 _) ?resta10
      case hya10 =>
        intro W hW
        go_simp
        exact rfl
      simp only [List.getElem_toArray, List.getElem_cons_succ, List.getElem_cons_zero, Act.put, List.setIfInBounds_toArray, List.set_cons_zero, List.set_cons_succ]
      refine but_take (f := 15) (i := 11) (v := ?va11) rfl (by kernel_rfl) (by kernel_rfl) (by kernel_rfl) (by kernel_rfl) (by kernel_rfl) (fun _ _ _ h => h) (Or.inl ⟨(by rfl), ?hya11⟩) (Below.drew1 _) ?resta11
      case hya11 =>
        intro W hW
        go_simp
        exact rfl
      simp only [List.getElem_toArray, List.getElem_cons_succ, List.getElem_cons_zero, Act.put, List.setIfInBounds_toArray, List.set_cons_zero, List.set_cons_succ]
      refine but_take (f := 15) (i := 12) (v := ?va12) rfl (by kernel_rfl) (by kernel_rfl) (by kernel_rfl) (by kernel_rfl) (by kernel_rfl) (fun _ _ _ h => h) (Or.inl ⟨(by rfl), ?hya12⟩) (Below.drew1 _) ?resta12
      case hya12 =>
        intro W hW
        go_simp
        exact rfl
      simp only [List.getElem_toArray, List.getElem_cons_succ, List.getElem_cons_zero, Act.put, List.setIfInBounds_toArray, List.set_cons_zero, List.set_cons_succ]
      refine but_run (i := 0) (by kernel_rfl) rfl (by rfl) ?_
      simp only [List.getElem_toArray, List.getElem_cons_succ, List.getElem_cons_zero]
      intro K HK
      go_wp2_with fail
      have hSa1 : (fun V => Below W.heap.size W V) (W.drew.alloc (.cells #[] 3)) := bstep (Below.drew1 _) (bal1 _ _)
      refine HK.out _ _ (fun _ => hSa1) ?_
      clear HK
      have Ra1 := Lib.hid (row_lit W.drew 3 1)
      refine but_run (i := 5) (by kernel_rfl) rfl (by rfl) ?_
      simp only [List.getElem_toArray, List.getElem_cons_succ, List.getElem_cons_zero]
      intro K HK
      refine operAppN _ (by rfl) (.tmp 11) (.tmp 15) 24 3 1 8 (.int .i64 0) (by rfl) Tryz.underlying24 (by kernel_rfl) rfl (by omega) (by omega) W.heap.size (0) _ ([]) (by rfl) Ra1.out (A) (i) ((i + 1)) ((lo.map iV).take i) (by rfl) (by simp; omega) (((HAT.out.on hSa1).takeV i)) (fun u hu => HI1.out u (List.mem_of_mem_take hu)) (by omega) (Nat.le_trans (Nat.le_refl _) (hSa1.size)) ?_
      intro va2 Va2 oa2 ga2 _ aa2
      rw [Nat.zero_add, List.nil_append] at oa2
      obtain ⟨Aa2, ca2, rfl⟩ := row_form oa2
      have hSa2 : (fun V => Below W.heap.size W V) Va2 := grown_below hSa1 ga2 Ra1.out (Nat.le_refl _)
      refine HK.out _ _ (fun _ => hSa2) ?_
      clear HK
      have Ra2 := Lib.hid oa2
      clear oa2
      simp only [List.getElem_toArray, List.getElem_cons_succ, List.getElem_cons_zero, Act.put, List.setIfInBounds_toArray, List.set_cons_zero, List.set_cons_succ]
      refine but_run (i := 7) (by kernel_rfl) rfl (by rfl) ?_
      simp only [List.getElem_toArray, List.getElem_cons_succ, List.getElem_cons_zero]
      intro K HK
      refine operAppN _ (by rfl) (.tmp 16) (.tmp 17) 24 3 1 8 (.int .i64 0) (by rfl) Tryz.underlying24 (by kernel_rfl) rfl (by omega) (by omega) W.heap.size (i) _ ((lo.map iV).take i) (by rfl) Ra2.out (Al) (los.length) (cl) (los.map iV) (by rfl) (by simp) (HSL.out.on hSa2) (HI2.out) (by omega) (Nat.le_trans (Nat.le_refl _) (hSa2.size)) ?_
      intro va3 Va3 oa3 ga3 _ aa3
      obtain ⟨Aa3, ca3, rfl⟩ := row_form oa3
      have hSa3 : (fun V => Below W.heap.size W V) Va3 := grown_below hSa2 ga3 Ra2.out (Nat.le_refl _)
      refine HK.out _ _ (fun _ => hSa3) ?_
      clear HK
      have Ra3 := Lib.hid oa3
      clear oa3
      simp only [List.getElem_toArray, List.getElem_cons_succ, List.getElem_cons_zero, Act.put, List.setIfInBounds_toArray, List.set_cons_zero, List.set_cons_succ]
      refine but_run (i := 13) (by kernel_rfl) rfl (by rfl) ?_
      simp only [List.getElem_toArray, List.getElem_cons_succ, List.getElem_cons_zero]
      intro K HK
      refine operAppN _ (by rfl) (.tmp 18) (.tmp 23) 24 3 1 8 (.int .i64 0) (by rfl) Tryz.underlying24 (by kernel_rfl) rfl (by omega) (by omega) W.heap.size (i + los.length) _ ((lo.map iV).take i ++ los.map iV) (by rfl) Ra3.out (_) (0) (_) ([]) (by rfl) (rfl) (.inl rfl) (fun u hu => by simp at hu) (by omega) (Nat.le_trans (Nat.le_refl _) (hSa3.size)) ?_
      intro va4 Va4 oa4 ga4 _ aa4
      have e1 : i + los.length + 0 = rl.length := by rw [HLE.out]; omega
      have e2 : (lo.map iV).take i ++ los.map iV ++ [] = rl.map iV := by rw [HM1.out, show (lo.map iV).drop (i + 1) = [] from List.drop_eq_nil_of_le (by simp; omega)]
      rw [e2, e1] at oa4
      clear e1 e2
      obtain ⟨o0, o1, o2⟩ := box2 (box_on QO.out (grown_below hSa3 ga4 Ra3.out (Nat.le_refl _)))
      obtain ⟨Aa4, ca4, rfl⟩ := row_form oa4
      have hSa4 : (fun V => Below W.heap.size W V) Va4 := grown_below hSa3 ga4 Ra3.out (Nat.le_refl _)
      refine HK.out _ _ (fun _ => hSa4) ?_
      clear HK
      have Ra4 := Lib.hid oa4
      clear oa4
      simp only [List.getElem_toArray, List.getElem_cons_succ, List.getElem_cons_zero, Act.put, List.setIfInBounds_toArray, List.set_cons_zero, List.set_cons_succ]
      refine but_take (f := 15) (i := 14) (v := ?va14) rfl (by kernel_rfl) (by kernel_rfl) (by kernel_rfl) (by kernel_rfl) (by kernel_rfl) (fun _ _ _ h => h) (Or.inl ⟨(by rfl), ?hya14⟩) hSa4 ?resta14
      case hya14 =>
        intro W hW
        go_simp
        exact rfl
      simp only [List.getElem_toArray, List.getElem_cons_succ, List.getElem_cons_zero, Act.put, List.setIfInBounds_toArray, List.set_cons_zero, List.set_cons_succ]
      refine but_run (i := 15) (by kernel_rfl) rfl (by rfl) ?_
      simp only [List.getElem_toArray, List.getElem_cons_succ, List.getElem_cons_zero]
      intro K HK
      go_wp2_with fail
      refine HK.out _ _ (fun h => absurd rfl h) ?_
      clear HK
      refine but_done (by kernel_rfl) ?_
      have hW3 : Below W.heap.size W Va4 := hSa4
      have hsz := hW3.size
      have FIN : Hid (SetMid w W _ _ rl (Va4.setCell ⟨w.heap.size + 1 + 1, 0, none⟩ (.slice Aa4 rl.length ca4))) := Lib.hid ⟨_, _, box_far (box_on QT.out hW3) (by omega), box_far (box_on QR.out hW3) (by omega), box_set (i := 0) (u := .slice Aa4 rl.length ca4) (box_on QO.out hW3), (HB.out.trans (hW3.mono HB.out.size)).setCell (p := ⟨w.heap.size + 1 + 1, 0, none⟩) (show w.heap.size ≤ w.heap.size + 1 + 1 by omega) (.slice Aa4 rl.length ca4), (row_ints (row_keep Ra4.out (w' := Va4.setCell ⟨w.heap.size + 1 + 1, 0, none⟩ (.slice Aa4 rl.length ca4)) (fun g hg => Below.heap_setCell _ _ _ _ (by have := (row_lt Ra4.out g hg).2; simp; omega)))).lt, by simpa using hsz⟩
      go_wp2_with fail
      go_meet
      exact FIN
    · have hcc : i + 1 < c := by omega
      refine but_begin (f := 15) (S := fun V => Below W.heap.size W V) (by kernel_rfl) ?_
      refine but_take (f := 15) (i := 1) (v := ?vb1) rfl (by kernel_rfl) (by kernel_rfl) (by kernel_rfl) (by kernel_rfl) (by kernel_rfl) (fun _ _ _ h => h) (Or.inl ⟨(by rfl), ?hyb1⟩) (Below.drew1 _) ?restb1
      case hyb1 =>
        intro W hW
        go_simp
        exact rfl
      simp only [List.getElem_toArray, List.getElem_cons_succ, List.getElem_cons_zero, Act.put, List.setIfInBounds_toArray, List.set_cons_zero, List.set_cons_succ]
      refine but_take (f := 15) (i := 2) (v := ?vb2) rfl (by kernel_rfl) (by kernel_rfl) (by kernel_rfl) (by kernel_rfl) (by kernel_rfl) (fun _ _ _ h => h) (Or.inl ⟨(by rfl), ?hyb2⟩) (Below.drew1 _) ?restb2
      case hyb2 =>
        intro W hW
        obtain ⟨x0, x1, x2⟩ := box2 (box_on QT.out hW)
        go_simp
        exact rfl
      simp only [List.getElem_toArray, List.getElem_cons_succ, List.getElem_cons_zero, Act.put, List.setIfInBounds_toArray, List.set_cons_zero, List.set_cons_succ]
      refine but_take (f := 15) (i := 3) (v := ?vb3) rfl (by kernel_rfl) (by kernel_rfl) (by kernel_rfl) (by kernel_rfl) (by kernel_rfl) (fun _ _ _ h => h) (Or.inl ⟨(by rfl), ?hyb3⟩) (Below.drew1 _) ?restb3
      case hyb3 =>
        intro W hW
        go_simp
        exact rfl
      simp only [List.getElem_toArray, List.getElem_cons_succ, List.getElem_cons_zero, Act.put, List.setIfInBounds_toArray, List.set_cons_zero, List.set_cons_succ]
      refine but_take (f := 15) (i := 4) (v := ?vb4) rfl (by kernel_rfl) (by kernel_rfl) (by kernel_rfl) (by kernel_rfl) (by kernel_rfl) (fun _ _ _ h => h) (Or.inl ⟨(by rfl), ?hyb4⟩) (Below.drew1 _) ?restb4
      case hyb4 =>
        intro W hW
        go_simp
        exact rfl
      simp only [List.getElem_toArray, List.getElem_cons_succ, List.getElem_cons_zero, Act.put, List.setIfInBounds_toArray, List.set_cons_zero, List.set_cons_succ]
      refine but_take (f := 15) (i := 6) (v := ?vb6) rfl (by kernel_rfl) (by kernel_rfl) (by kernel_rfl) (by kernel_rfl) (by kernel_rfl) (fun _ _ _ h => h) (Or.inl ⟨(by rfl), ?hyb6⟩) (Below.drew1 _) ?restb6
      case hyb6 =>
        intro W hW
        go_simp
        exact rfl
      simp only [List.getElem_toArray, List.getElem_cons_succ, List.getElem_cons_zero, Act.put, List.setIfInBounds_toArray, List.set_cons_zero, List.set_cons_succ]
      refine but_take (f := 15) (i := 8) (v := ?vb8) rfl (by kernel_rfl) (by kernel_rfl) (by kernel_rfl) (by kernel_rfl) (by kernel_rfl) (fun _ _ _ h => h) (Or.inl ⟨(by rfl), ?hyb8⟩) (Below.drew1 _) ?restb8
      case hyb8 =>
        intro W hW
        go_simp
        exact rfl
      simp only [List.getElem_toArray, List.getElem_cons_succ, List.getElem_cons_zero, Act.put, List.setIfInBounds_toArray, List.set_cons_zero, List.set_cons_succ]
      refine but_take (f := 15) (i := 9) (v := ?vb9) rfl (by kernel_rfl) (by kernel_rfl) (by kernel_rfl) (by kernel_rfl) (by kernel_rfl) (fun _ _ _ h => h) (Or.inl ⟨(by rfl), ?hyb9⟩) (Below.drew1 _) ?restb9
      case hyb9 =>
        intro W hW
        obtain ⟨x0, x1, x2⟩ := box2 (box_on QT.out hW)
        go_simp
        exact rfl
      simp only [List.getElem_toArray, List.getElem_cons_succ, List.getElem_cons_zero, Act.put, List.setIfInBounds_toArray, List.set_cons_zero, List.set_cons_succ]
      refine but_take (f := 15) (i := 10) (v := ?vb10) rfl (by kernel_rfl) (by kernel_rfl) (by kernel_rfl) (by kernel_rfl) (by kernel_rfl) (fun _ _ _ h => h) (Or.inl ⟨(by rfl), ?hyb10⟩) (Below.drew1 _) ?restb10
      case hyb10 =>
        intro W hW
        go_simp
        exact rfl
      simp only [List.getElem_toArray, List.getElem_cons_succ, List.getElem_cons_zero, Act.put, List.setIfInBounds_toArray, List.set_cons_zero, List.set_cons_succ]
      refine but_take (f := 15) (i := 11) (v := ?vb11) rfl (by kernel_rfl) (by kernel_rfl) (by kernel_rfl) (by kernel_rfl) (by kernel_rfl) (fun _ _ _ h => h) (Or.inl ⟨(by rfl), ?hyb11⟩) (Below.drew1 _) ?restb11
      case hyb11 =>
        intro W hW
        go_simp
        exact rfl
      simp only [List.getElem_toArray, List.getElem_cons_succ, List.getElem_cons_zero, Act.put, List.setIfInBounds_toArray, List.set_cons_zero, List.set_cons_succ]
      refine but_take (f := 15) (i := 12) (v := ?vb12) rfl (by kernel_rfl) (by kernel_rfl) (by kernel_rfl) (by kernel_rfl) (by kernel_rfl) (fun _ _ _ h => h) (Or.inl ⟨(by rfl), ?hyb12⟩) (Below.drew1 _) ?restb12
      case hyb12 =>
        intro W hW
        go_simp
        exact rfl
      simp only [List.getElem_toArray, List.getElem_cons_succ, List.getElem_cons_zero, Act.put, List.setIfInBounds_toArray, List.set_cons_zero, List.set_cons_succ]
      refine but_run (i := 0) (by kernel_rfl) rfl (by rfl) ?_
      simp only [List.getElem_toArray, List.getElem_cons_succ, List.getElem_cons_zero]
      intro K HK
      go_wp2_with fail
      have hSb1 : (fun V => Below W.heap.size W V) (W.drew.alloc (.cells #[] 3)) := bstep (Below.drew1 _) (bal1 _ _)
      refine HK.out _ _ (fun _ => hSb1) ?_
      clear HK
      have Rb1 := Lib.hid (row_lit W.drew 3 1)
      refine but_run (i := 5) (by kernel_rfl) rfl (by rfl) ?_
      simp only [List.getElem_toArray, List.getElem_cons_succ, List.getElem_cons_zero]
      intro K HK
      refine operAppN _ (by rfl) (.tmp 11) (.tmp 15) 24 3 1 8 (.int .i64 0) (by rfl) Tryz.underlying24 (by kernel_rfl) rfl (by omega) (by omega) W.heap.size (0) _ ([]) (by rfl) Rb1.out (A) (i) (c) ((lo.map iV).take i) (by rfl) (by simp; omega) (((HAT.out.on hSb1).takeV i)) (fun u hu => HI1.out u (List.mem_of_mem_take hu)) (by omega) (Nat.le_trans (Nat.le_refl _) (hSb1.size)) ?_
      intro vb2 Vb2 ob2 gb2 _ ab2
      rw [Nat.zero_add, List.nil_append] at ob2
      obtain ⟨Ab2, cb2, rfl⟩ := row_form ob2
      have hSb2 : (fun V => Below W.heap.size W V) Vb2 := grown_below hSb1 gb2 Rb1.out (Nat.le_refl _)
      refine HK.out _ _ (fun _ => hSb2) ?_
      clear HK
      have Rb2 := Lib.hid ob2
      clear ob2
      simp only [List.getElem_toArray, List.getElem_cons_succ, List.getElem_cons_zero, Act.put, List.setIfInBounds_toArray, List.set_cons_zero, List.set_cons_succ]
      refine but_run (i := 7) (by kernel_rfl) rfl (by rfl) ?_
      simp only [List.getElem_toArray, List.getElem_cons_succ, List.getElem_cons_zero]
      intro K HK
      refine operAppN _ (by rfl) (.tmp 16) (.tmp 17) 24 3 1 8 (.int .i64 0) (by rfl) Tryz.underlying24 (by kernel_rfl) rfl (by omega) (by omega) W.heap.size (i) _ ((lo.map iV).take i) (by rfl) Rb2.out (Al) (los.length) (cl) (los.map iV) (by rfl) (by simp) (HSL.out.on hSb2) (HI2.out) (by omega) (Nat.le_trans (Nat.le_refl _) (hSb2.size)) ?_
      intro vb3 Vb3 ob3 gb3 _ ab3
      obtain ⟨Ab3, cb3, rfl⟩ := row_form ob3
      have hSb3 : (fun V => Below W.heap.size W V) Vb3 := grown_below hSb2 gb3 Rb2.out (Nat.le_refl _)
      refine HK.out _ _ (fun _ => hSb3) ?_
      clear HK
      have Rb3 := Lib.hid ob3
      clear ob3
      simp only [List.getElem_toArray, List.getElem_cons_succ, List.getElem_cons_zero, Act.put, List.setIfInBounds_toArray, List.set_cons_zero, List.set_cons_succ]
      refine but_run (i := 13) (by kernel_rfl) rfl (by rfl) ?_
      simp only [List.getElem_toArray, List.getElem_cons_succ, List.getElem_cons_zero]
      intro K HK
      refine operAppN _ (by rfl) (.tmp 18) (.tmp 23) 24 3 1 8 (.int .i64 0) (by rfl) Tryz.underlying24 (by kernel_rfl) rfl (by omega) (by omega) W.heap.size (i + los.length) _ ((lo.map iV).take i ++ los.map iV) (by rfl) Rb3.out (_) (lo.length - (i + 1)) (_) ((lo.map iV).drop (i + 1)) (by rfl) (by simp) ((by have h := At.tailV (c := c) (j := i + 1) (HAT.out.on hSb3) (by simp; omega); unfold tailA at h; rw [if_neg hcN] at h; exact h)) (fun u hu => HI1.out u (List.mem_of_mem_drop hu)) (by omega) (Nat.le_trans (Nat.le_refl _) (hSb3.size)) ?_
      intro vb4 Vb4 ob4 gb4 _ ab4
      rw [← HLE.out, ← HM1.out] at ob4
      obtain ⟨o0, o1, o2⟩ := box2 (box_on QO.out (grown_below hSb3 gb4 Rb3.out (Nat.le_refl _)))
      obtain ⟨Ab4, cb4, rfl⟩ := row_form ob4
      have hSb4 : (fun V => Below W.heap.size W V) Vb4 := grown_below hSb3 gb4 Rb3.out (Nat.le_refl _)
      refine HK.out _ _ (fun _ => hSb4) ?_
      clear HK
      have Rb4 := Lib.hid ob4
      clear ob4
      simp only [List.getElem_toArray, List.getElem_cons_succ, List.getElem_cons_zero, Act.put, List.setIfInBounds_toArray, List.set_cons_zero, List.set_cons_succ]
      refine but_take (f := 15) (i := 14) (v := ?vb14) rfl (by kernel_rfl) (by kernel_rfl) (by kernel_rfl) (by kernel_rfl) (by kernel_rfl) (fun _ _ _ h => h) (Or.inl ⟨(by rfl), ?hyb14⟩) hSb4 ?restb14
      case hyb14 =>
        intro W hW
        go_simp
        exact rfl
      simp only [List.getElem_toArray, List.getElem_cons_succ, List.getElem_cons_zero, Act.put, List.setIfInBounds_toArray, List.set_cons_zero, List.set_cons_succ]
      refine but_run (i := 15) (by kernel_rfl) rfl (by rfl) ?_
      simp only [List.getElem_toArray, List.getElem_cons_succ, List.getElem_cons_zero]
      intro K HK
      go_wp2_with fail
      refine HK.out _ _ (fun h => absurd rfl h) ?_
      clear HK
      refine but_done (by kernel_rfl) ?_
      have hW3 : Below W.heap.size W Vb4 := hSb4
      have hsz := hW3.size
      have FIN : Hid (SetMid w W _ _ rl (Vb4.setCell ⟨w.heap.size + 1 + 1, 0, none⟩ (.slice Ab4 rl.length cb4))) := Lib.hid ⟨_, _, box_far (box_on QT.out hW3) (by omega), box_far (box_on QR.out hW3) (by omega), box_set (i := 0) (u := .slice Ab4 rl.length cb4) (box_on QO.out hW3), (HB.out.trans (hW3.mono HB.out.size)).setCell (p := ⟨w.heap.size + 1 + 1, 0, none⟩) (show w.heap.size ≤ w.heap.size + 1 + 1 by omega) (.slice Ab4 rl.length cb4), (row_ints (row_keep Rb4.out (w' := Vb4.setCell ⟨w.heap.size + 1 + 1, 0, none⟩ (.slice Ab4 rl.length cb4)) (fun g hg => Below.heap_setCell _ _ _ _ (by have := (row_lt Rb4.out g hg).2; simp; omega)))).lt, by simpa using hsz⟩
      go_wp2_with fail
      go_meet
      exact FIN
  case rest =>
    obtain ⟨Ak, ck, qt, qr, qo, hb2, rl2, hsz⟩ := hcut.out
    obtain ⟨W2, rfl⟩ : ∃ W, W = wc := ⟨_, rfl⟩
    have QT2 := Lib.hid qt
    have QR2 := Lib.hid qr
    have QO2 := Lib.hid qo
    have HB2 := Lib.hid hb2
    have RL := Lib.hid rl2
    have HAN := Lib.hid (HXA.out.on hb2)
    have HSN := Lib.hid (HSA.out.on hb2)
    clear qt qr qo hb2 rl2 hcut QT QR QO HB HAT HSL
    by_cases hcN : d = i + 1
    · subst hcN
      go_wp2
      refine but_begin (f := 15) (S := fun V => Below W2.heap.size W2 V) (by kernel_rfl) ?_
      refine but_take (f := 15) (i := 1) (v := ?ve1) rfl (by kernel_rfl) (by kernel_rfl) (by kernel_rfl) (by kernel_rfl) (by kernel_rfl) (fun _ _ _ h => h) (Or.inl ⟨(by rfl), ?hye1⟩) (Below.drew1 _) ?reste1
      case hye1 =>
        intro W hW
        go_simp
        exact rfl
      simp only [List.getElem_toArray, List.getElem_cons_succ, List.getElem_cons_zero, Act.put, List.setIfInBounds_toArray, List.set_cons_zero, List.set_cons_succ]
      refine but_take (f := 15) (i := 2) (v := ?ve2) rfl (by kernel_rfl) (by kernel_rfl) (by kernel_rfl) (by kernel_rfl) (by kernel_rfl) (fun _ _ _ h => h) (Or.inl ⟨(by rfl), ?hye2⟩) (Below.drew1 _) ?reste2
      case hye2 =>
        intro W hW
        obtain ⟨x0, x1, x2⟩ := box2 (box_on QT2.out hW)
        go_simp
        exact rfl
      simp only [List.getElem_toArray, List.getElem_cons_succ, List.getElem_cons_zero, Act.put, List.setIfInBounds_toArray, List.set_cons_zero, List.set_cons_succ]
      refine but_take (f := 15) (i := 3) (v := ?ve3) rfl (by kernel_rfl) (by kernel_rfl) (by kernel_rfl) (by kernel_rfl) (by kernel_rfl) (fun _ _ _ h => h) (Or.inl ⟨(by rfl), ?hye3⟩) (Below.drew1 _) ?reste3
      case hye3 =>
        intro W hW
        go_simp
        exact rfl
      simp only [List.getElem_toArray, List.getElem_cons_succ, List.getElem_cons_zero, Act.put, List.setIfInBounds_toArray, List.set_cons_zero, List.set_cons_succ]
      refine but_take (f := 15) (i := 4) (v := ?ve4) rfl (by kernel_rfl) (by kernel_rfl) (by kernel_rfl) (by kernel_rfl) (by kernel_rfl) (fun _ _ _ h => h) (Or.inl ⟨(by rfl), ?hye4⟩) (Below.drew1 _) ?reste4
      case hye4 =>
        intro W hW
        go_simp
        exact rfl
      simp only [List.getElem_toArray, List.getElem_cons_succ, List.getElem_cons_zero, Act.put, List.setIfInBounds_toArray, List.set_cons_zero, List.set_cons_succ]
      refine but_take (f := 15) (i := 6) (v := ?ve6) rfl (by kernel_rfl) (by kernel_rfl) (by kernel_rfl) (by kernel_rfl) (by kernel_rfl) (fun _ _ _ h => h) (Or.inl ⟨(by rfl), ?hye6⟩) (Below.drew1 _) ?reste6
      case hye6 =>
        intro W hW
        go_simp
        exact rfl
      simp only [List.getElem_toArray, List.getElem_cons_succ, List.getElem_cons_zero, Act.put, List.setIfInBounds_toArray, List.set_cons_zero, List.set_cons_succ]
      refine but_take (f := 15) (i := 8) (v := ?ve8) rfl (by kernel_rfl) (by kernel_rfl) (by kernel_rfl) (by kernel_rfl) (by kernel_rfl) (fun _ _ _ h => h) (Or.inl ⟨(by rfl), ?hye8⟩) (Below.drew1 _) ?reste8
      case hye8 =>
        intro W hW
        go_simp
        exact rfl
      simp only [List.getElem_toArray, List.getElem_cons_succ, List.getElem_cons_zero, Act.put, List.setIfInBounds_toArray, List.set_cons_zero, List.set_cons_succ]
      refine but_take (f := 15) (i := 9) (v := ?ve9) rfl (by kernel_rfl) (by kernel_rfl) (by kernel_rfl) (by kernel_rfl) (by kernel_rfl) (fun _ _ _ h => h) (Or.inl ⟨(by rfl), ?hye9⟩) (Below.drew1 _) ?reste9
      case hye9 =>
        intro W hW
        obtain ⟨x0, x1, x2⟩ := box2 (box_on QT2.out hW)
        go_simp
        exact rfl
      simp only [List.getElem_toArray, List.getElem_cons_succ, List.getElem_cons_zero, Act.put, List.setIfInBounds_toArray, List.set_cons_zero, List.set_cons_succ]
      refine but_take (f := 15) (i := 10) (v := ?ve10) rfl (by kernel_rfl) (by kernel_rfl) (by kernel_rfl) (by kernel_rfl) (by kernel_rfl) (fun _ _ _ h => h) (Or.inl ⟨(by rfl), ?hye10⟩) (Below.drew1 _) ?reste10
      case hye10 =>
        intro W hW
        go_simp
        exact rfl
      simp only [List.getElem_toArray, List.getElem_cons_succ, List.getElem_cons_zero, Act.put, List.setIfInBounds_toArray, List.set_cons_zero, List.set_cons_succ]
      refine but_take (f := 15) (i := 11) (v := ?ve11) rfl (by kernel_rfl) (by kernel_rfl) (by kernel_rfl) (by kernel_rfl) (by kernel_rfl) (fun _ _ _ h => h) (Or.inl ⟨(by rfl), ?hye11⟩) (Below.drew1 _) ?reste11
      case hye11 =>
        intro W hW
        go_simp
        exact rfl
      simp only [List.getElem_toArray, List.getElem_cons_succ, List.getElem_cons_zero, Act.put, List.setIfInBounds_toArray, List.set_cons_zero, List.set_cons_succ]
      refine but_take (f := 15) (i := 12) (v := ?ve12) rfl (by kernel_rfl) (by kernel_rfl) (by kernel_rfl) (by kernel_rfl) (by kernel_rfl) (fun _ _ _ h => h) (Or.inl ⟨(by rfl), ?hye12⟩) (Below.drew1 _) ?reste12
      case hye12 =>
        intro W hW
        go_simp
        exact rfl
      simp only [List.getElem_toArray, List.getElem_cons_succ, List.getElem_cons_zero, Act.put, List.setIfInBounds_toArray, List.set_cons_zero, List.set_cons_succ]
      refine but_run (i := 0) (by kernel_rfl) rfl (by rfl) ?_
      simp only [List.getElem_toArray, List.getElem_cons_succ, List.getElem_cons_zero]
      intro K HK
      go_wp2_with fail
      have hSe1 : (fun V => Below W2.heap.size W2 V) (W2.drew.alloc (.cells #[] 71)) := bstep (Below.drew1 _) (bal1 _ _)
      refine HK.out _ _ (fun _ => hSe1) ?_
      clear HK
      have Re1 := Lib.hid (row_lit W2.drew 71 1)
      refine but_run (i := 5) (by kernel_rfl) rfl (by rfl) ?_
      simp only [List.getElem_toArray, List.getElem_cons_succ, List.getElem_cons_zero]
      intro K HK
      refine operAppN _ (by rfl) (.tmp 26) (.tmp 30) 25 71 1 24 (.agg #[.slice none 0 0]) (by rfl) Tryz.underlying25 (by kernel_rfl) rfl (by omega) (by omega) W2.heap.size (0) _ ([]) (by rfl) Re1.out (B) (i) ((i + 1)) (xs.take i) (by rfl) (by rw [List.length_take, HXL.out]; omega) (((HAN.out.on hSe1).takeV i)) (fun u hu => HX1.out u (List.mem_of_mem_take hu)) (by omega) (Nat.le_trans (Nat.le_refl _) (hSe1.size)) ?_
      intro ve2 Ve2 oe2 ge2 _ ae2
      rw [Nat.zero_add, List.nil_append] at oe2
      obtain ⟨Ae2, ce2, rfl⟩ := row_form oe2
      have hSe2 : (fun V => Below W2.heap.size W2 V) Ve2 := grown_below hSe1 ge2 Re1.out (Nat.le_refl _)
      refine HK.out _ _ (fun _ => hSe2) ?_
      clear HK
      have Re2 := Lib.hid oe2
      clear oe2
      simp only [List.getElem_toArray, List.getElem_cons_succ, List.getElem_cons_zero, Act.put, List.setIfInBounds_toArray, List.set_cons_zero, List.set_cons_succ]
      refine but_run (i := 7) (by kernel_rfl) rfl (by rfl) ?_
      simp only [List.getElem_toArray, List.getElem_cons_succ, List.getElem_cons_zero]
      intro K HK
      refine operAppN _ (by rfl) (.tmp 31) (.tmp 32) 25 71 1 24 (.agg #[.slice none 0 0]) (by rfl) Tryz.underlying25 (by kernel_rfl) rfl (by omega) (by omega) W2.heap.size (i) _ (xs.take i) (by rfl) Re2.out (An) (nds.length) (cn) (us) (by rfl) (by rw [HUS.out]; omega) (HSN.out.on hSe2) (HU1.out) (by omega) (Nat.le_trans (Nat.le_refl _) (hSe2.size)) ?_
      intro ve3 Ve3 oe3 ge3 _ ae3
      obtain ⟨Ae3, ce3, rfl⟩ := row_form oe3
      have hSe3 : (fun V => Below W2.heap.size W2 V) Ve3 := grown_below hSe2 ge3 Re2.out (Nat.le_refl _)
      refine HK.out _ _ (fun _ => hSe3) ?_
      clear HK
      have Re3 := Lib.hid oe3
      clear oe3
      simp only [List.getElem_toArray, List.getElem_cons_succ, List.getElem_cons_zero, Act.put, List.setIfInBounds_toArray, List.set_cons_zero, List.set_cons_succ]
      refine but_run (i := 13) (by kernel_rfl) rfl (by rfl) ?_
      simp only [List.getElem_toArray, List.getElem_cons_succ, List.getElem_cons_zero]
      intro K HK
      refine operAppN _ (by rfl) (.tmp 33) (.tmp 38) 25 71 1 24 (.agg #[.slice none 0 0]) (by rfl) Tryz.underlying25 (by kernel_rfl) rfl (by omega) (by omega) W2.heap.size (i + nds.length) _ (xs.take i ++ us) (by rfl) Re3.out (_) (0) (_) ([]) (by rfl) (rfl) (.inl rfl) (fun u hu => by simp at hu) (by omega) (Nat.le_trans (Nat.le_refl _) (hSe3.size)) ?_
      intro ve4 Ve4 oe4 ge4 _ ae4
      have e1 : i + nds.length + 0 = rn.length := by rw [HLN.out]; omega
      have e2 : xs.take i ++ us ++ [] = xs.take i ++ us ++ xs.drop (i + 1) := by rw [show xs.drop (i + 1) = [] from List.drop_eq_nil_of_le (by rw [HXL.out]; omega)]
      rw [e2, e1] at oe4
      clear e1 e2
      obtain ⟨o0, o1, o2⟩ := box2 (box_on QO2.out (grown_below hSe3 ge4 Re3.out (Nat.le_refl _)))
      obtain ⟨Ae4, ce4, rfl⟩ := row_form oe4
      have hSe4 : (fun V => Below W2.heap.size W2 V) Ve4 := grown_below hSe3 ge4 Re3.out (Nat.le_refl _)
      refine HK.out _ _ (fun _ => hSe4) ?_
      clear HK
      have Re4 := Lib.hid oe4
      clear oe4
      simp only [List.getElem_toArray, List.getElem_cons_succ, List.getElem_cons_zero, Act.put, List.setIfInBounds_toArray, List.set_cons_zero, List.set_cons_succ]
      refine but_take (f := 15) (i := 14) (v := ?ve14) rfl (by kernel_rfl) (by kernel_rfl) (by kernel_rfl) (by kernel_rfl) (by kernel_rfl) (fun _ _ _ h => h) (Or.inl ⟨(by rfl), ?hye14⟩) hSe4 ?reste14
      case hye14 =>
        intro W hW
        go_simp
        exact rfl
      simp only [List.getElem_toArray, List.getElem_cons_succ, List.getElem_cons_zero, Act.put, List.setIfInBounds_toArray, List.set_cons_zero, List.set_cons_succ]
      refine but_run (i := 15) (by kernel_rfl) rfl (by rfl) ?_
      simp only [List.getElem_toArray, List.getElem_cons_succ, List.getElem_cons_zero]
      intro K HK
      go_wp2_with fail
      refine HK.out _ _ (fun h => absurd rfl h) ?_
      clear HK
      refine but_done (by kernel_rfl) ?_
      have hW4 : Below W2.heap.size W2 Ve4 := hSe4
      have hs4 := hW4.size
      have QR4 := Lib.hid (box_far (g := w.heap.size + 1 + 1) (j := 1) (u := .slice Ae4 rn.length ce4) (box_on QR2.out hW4) (by omega))
      have QO4 : Hid ((Ve4.setCell ⟨w.heap.size + 1 + 1, 1, none⟩ (.slice Ae4 rn.length ce4)).heap[w.heap.size + 1 + 1]? = some (.cells #[.slice Ak rl.length ck, .slice Ae4 rn.length ce4] 27 (0, 0))) := Lib.hid (box_set (i := 1) (u := .slice Ae4 rn.length ce4) (box_on QO2.out hW4))
      have HB4 := Lib.hid ((HB2.out.trans (hW4.mono HB2.out.size)).setCell (p := ⟨w.heap.size + 1 + 1, 1, none⟩) (show w.heap.size ≤ w.heap.size + 1 + 1 by omega) (.slice Ae4 rn.length ce4))
      have HON : Hid (OwnsL Ve4 (fun b => (Bb ≤ b ∧ b ≠ X) ∧ b < w.heap.size) (xs.take i ++ us ++ xs.drop (i + 1)) (rn.map setsD)) := Lib.hid (by rw [HM2.out]; exact HOS.out.on (HB2.out.trans (hW4.mono HB2.out.size)))
      have RN := Lib.hid ((row_nodes Re4.out HON.out (by omega)).keep (w' := Ve4.setCell ⟨w.heap.size + 1 + 1, 1, none⟩ (.slice Ae4 rn.length ce4)) (fun b hb _ => Below.heap_setCell _ _ _ _ (by simp; omega)))
      have RL4 := Lib.hid ((RL.out.on hW4).keep (w' := Ve4.setCell ⟨w.heap.size + 1 + 1, 1, none⟩ (.slice Ae4 rn.length ce4)) (fun b hb _ => Below.heap_setCell _ _ _ _ (by have := hb.1; simp; omega)))
      go_upto_region 4 with (fail)
      clear QT2 QR2 QO2 HB2 o0 o1 o2 HAN HSN RL HON HOS
      generalize Ve4.setCell ⟨w.heap.size + 1 + 1, 1, none⟩ (.slice Ae4 rn.length ce4) = W4 at *
      obtain ⟨x0, x1, x2⟩ := box2 QO4.out
      obtain ⟨y0, y1, y2⟩ := box2 QR4.out
      go_wp2
      have HO : ∀ a b, Only (fun b => b = w.heap.size + 1) W4 ((W4.setCell ⟨w.heap.size + 1, 0, none⟩ a).setCell ⟨w.heap.size + 1, 1, none⟩ b) := fun a b => only_two _ _ _ _ _ _
      exact bodyPost_ret (v := .agg #[.slice Ak rl.length ck, .slice Ae4 rn.length ce4]) (by simp [results, Tryz.results48, go_sem, y0, y1, y2]) rfl ⟨_, _, rfl, ⟨fun b => W.heap.size ≤ b ∧ b < W2.heap.size, fun b => ((Bb ≤ b ∧ b ≠ X) ∧ b < w.heap.size) ∨ W2.heap.size ≤ b, fun b hb => by omega, fun b hb => by omega, fun b hb hb' => by omega, RL4.out.far (HO _ _) (fun b hb _ hb' => by omega), RN.out.far (HO _ _) (fun b hb _ hb' => by omega)⟩, HB4.out.trans ((HO _ _).below HB4.out.size (fun b hb => by omega))⟩
    · have hcc : i + 1 < d := by omega
      go_wp2
      refine but_begin (f := 15) (S := fun V => Below W2.heap.size W2 V) (by kernel_rfl) ?_
      refine but_take (f := 15) (i := 1) (v := ?vf1) rfl (by kernel_rfl) (by kernel_rfl) (by kernel_rfl) (by kernel_rfl) (by kernel_rfl) (fun _ _ _ h => h) (Or.inl ⟨(by rfl), ?hyf1⟩) (Below.drew1 _) ?restf1
      case hyf1 =>
        intro W hW
        go_simp
        exact rfl
      simp only [List.getElem_toArray, List.getElem_cons_succ, List.getElem_cons_zero, Act.put, List.setIfInBounds_toArray, List.set_cons_zero, List.set_cons_succ]
      refine but_take (f := 15) (i := 2) (v := ?vf2) rfl (by kernel_rfl) (by kernel_rfl) (by kernel_rfl) (by kernel_rfl) (by kernel_rfl) (fun _ _ _ h => h) (Or.inl ⟨(by rfl), ?hyf2⟩) (Below.drew1 _) ?restf2
      case hyf2 =>
        intro W hW
        obtain ⟨x0, x1, x2⟩ := box2 (box_on QT2.out hW)
        go_simp
        exact rfl
      simp only [List.getElem_toArray, List.getElem_cons_succ, List.getElem_cons_zero, Act.put, List.setIfInBounds_toArray, List.set_cons_zero, List.set_cons_succ]
      refine but_take (f := 15) (i := 3) (v := ?vf3) rfl (by kernel_rfl) (by kernel_rfl) (by kernel_rfl) (by kernel_rfl) (by kernel_rfl) (fun _ _ _ h => h) (Or.inl ⟨(by rfl), ?hyf3⟩) (Below.drew1 _) ?restf3
      case hyf3 =>
        intro W hW
        go_simp
        exact rfl
      simp only [List.getElem_toArray, List.getElem_cons_succ, List.getElem_cons_zero, Act.put, List.setIfInBounds_toArray, List.set_cons_zero, List.set_cons_succ]
      refine but_take (f := 15) (i := 4) (v := ?vf4) rfl (by kernel_rfl) (by kernel_rfl) (by kernel_rfl) (by kernel_rfl) (by kernel_rfl) (fun _ _ _ h => h) (Or.inl ⟨(by rfl), ?hyf4⟩) (Below.drew1 _) ?restf4
      case hyf4 =>
        intro W hW
        go_simp
        exact rfl
      simp only [List.getElem_toArray, List.getElem_cons_succ, List.getElem_cons_zero, Act.put, List.setIfInBounds_toArray, List.set_cons_zero, List.set_cons_succ]
      refine but_take (f := 15) (i := 6) (v := ?vf6) rfl (by kernel_rfl) (by kernel_rfl) (by kernel_rfl) (by kernel_rfl) (by kernel_rfl) (fun _ _ _ h => h) (Or.inl ⟨(by rfl), ?hyf6⟩) (Below.drew1 _) ?restf6
      case hyf6 =>
        intro W hW
        go_simp
        exact rfl
      simp only [List.getElem_toArray, List.getElem_cons_succ, List.getElem_cons_zero, Act.put, List.setIfInBounds_toArray, List.set_cons_zero, List.set_cons_succ]
      refine but_take (f := 15) (i := 8) (v := ?vf8) rfl (by kernel_rfl) (by kernel_rfl) (by kernel_rfl) (by kernel_rfl) (by kernel_rfl) (fun _ _ _ h => h) (Or.inl ⟨(by rfl), ?hyf8⟩) (Below.drew1 _) ?restf8
      case hyf8 =>
        intro W hW
        go_simp
        exact rfl
      simp only [List.getElem_toArray, List.getElem_cons_succ, List.getElem_cons_zero, Act.put, List.setIfInBounds_toArray, List.set_cons_zero, List.set_cons_succ]
      refine but_take (f := 15) (i := 9) (v := ?vf9) rfl (by kernel_rfl) (by kernel_rfl) (by kernel_rfl) (by kernel_rfl) (by kernel_rfl) (fun _ _ _ h => h) (Or.inl ⟨(by rfl), ?hyf9⟩) (Below.drew1 _) ?restf9
      case hyf9 =>
        intro W hW
        obtain ⟨x0, x1, x2⟩ := box2 (box_on QT2.out hW)
        go_simp
        exact rfl
      simp only [List.getElem_toArray, List.getElem_cons_succ, List.getElem_cons_zero, Act.put, List.setIfInBounds_toArray, List.set_cons_zero, List.set_cons_succ]
      refine but_take (f := 15) (i := 10) (v := ?vf10) rfl (by kernel_rfl) (by kernel_rfl) (by kernel_rfl) (by kernel_rfl) (by kernel_rfl) (fun _ _ _ h => h) (Or.inl ⟨(by rfl), ?hyf10⟩) (Below.drew1 _) ?restf10
      case hyf10 =>
        intro W hW
        go_simp
        exact rfl
      simp only [List.getElem_toArray, List.getElem_cons_succ, List.getElem_cons_zero, Act.put, List.setIfInBounds_toArray, List.set_cons_zero, List.set_cons_succ]
      refine but_take (f := 15) (i := 11) (v := ?vf11) rfl (by kernel_rfl) (by kernel_rfl) (by kernel_rfl) (by kernel_rfl) (by kernel_rfl) (fun _ _ _ h => h) (Or.inl ⟨(by rfl), ?hyf11⟩) (Below.drew1 _) ?restf11
      case hyf11 =>
        intro W hW
        go_simp
        exact rfl
      simp only [List.getElem_toArray, List.getElem_cons_succ, List.getElem_cons_zero, Act.put, List.setIfInBounds_toArray, List.set_cons_zero, List.set_cons_succ]
      refine but_take (f := 15) (i := 12) (v := ?vf12) rfl (by kernel_rfl) (by kernel_rfl) (by kernel_rfl) (by kernel_rfl) (by kernel_rfl) (fun _ _ _ h => h) (Or.inl ⟨(by rfl), ?hyf12⟩) (Below.drew1 _) ?restf12
      case hyf12 =>
        intro W hW
        go_simp
        exact rfl
      simp only [List.getElem_toArray, List.getElem_cons_succ, List.getElem_cons_zero, Act.put, List.setIfInBounds_toArray, List.set_cons_zero, List.set_cons_succ]
      refine but_run (i := 0) (by kernel_rfl) rfl (by rfl) ?_
      simp only [List.getElem_toArray, List.getElem_cons_succ, List.getElem_cons_zero]
      intro K HK
      go_wp2_with fail
      have hSf1 : (fun V => Below W2.heap.size W2 V) (W2.drew.alloc (.cells #[] 71)) := bstep (Below.drew1 _) (bal1 _ _)
      refine HK.out _ _ (fun _ => hSf1) ?_
      clear HK
      have Rf1 := Lib.hid (row_lit W2.drew 71 1)
      refine but_run (i := 5) (by kernel_rfl) rfl (by rfl) ?_
      simp only [List.getElem_toArray, List.getElem_cons_succ, List.getElem_cons_zero]
      intro K HK
      refine operAppN _ (by rfl) (.tmp 26) (.tmp 30) 25 71 1 24 (.agg #[.slice none 0 0]) (by rfl) Tryz.underlying25 (by kernel_rfl) rfl (by omega) (by omega) W2.heap.size (0) _ ([]) (by rfl) Rf1.out (B) (i) (d) (xs.take i) (by rfl) (by rw [List.length_take, HXL.out]; omega) (((HAN.out.on hSf1).takeV i)) (fun u hu => HX1.out u (List.mem_of_mem_take hu)) (by omega) (Nat.le_trans (Nat.le_refl _) (hSf1.size)) ?_
      intro vf2 Vf2 of2 gf2 _ af2
      rw [Nat.zero_add, List.nil_append] at of2
      obtain ⟨Af2, cf2, rfl⟩ := row_form of2
      have hSf2 : (fun V => Below W2.heap.size W2 V) Vf2 := grown_below hSf1 gf2 Rf1.out (Nat.le_refl _)
      refine HK.out _ _ (fun _ => hSf2) ?_
      clear HK
      have Rf2 := Lib.hid of2
      clear of2
      simp only [List.getElem_toArray, List.getElem_cons_succ, List.getElem_cons_zero, Act.put, List.setIfInBounds_toArray, List.set_cons_zero, List.set_cons_succ]
      refine but_run (i := 7) (by kernel_rfl) rfl (by rfl) ?_
      simp only [List.getElem_toArray, List.getElem_cons_succ, List.getElem_cons_zero]
      intro K HK
      refine operAppN _ (by rfl) (.tmp 31) (.tmp 32) 25 71 1 24 (.agg #[.slice none 0 0]) (by rfl) Tryz.underlying25 (by kernel_rfl) rfl (by omega) (by omega) W2.heap.size (i) _ (xs.take i) (by rfl) Rf2.out (An) (nds.length) (cn) (us) (by rfl) (by rw [HUS.out]; omega) (HSN.out.on hSf2) (HU1.out) (by omega) (Nat.le_trans (Nat.le_refl _) (hSf2.size)) ?_
      intro vf3 Vf3 of3 gf3 _ af3
      obtain ⟨Af3, cf3, rfl⟩ := row_form of3
      have hSf3 : (fun V => Below W2.heap.size W2 V) Vf3 := grown_below hSf2 gf3 Rf2.out (Nat.le_refl _)
      refine HK.out _ _ (fun _ => hSf3) ?_
      clear HK
      have Rf3 := Lib.hid of3
      clear of3
      simp only [List.getElem_toArray, List.getElem_cons_succ, List.getElem_cons_zero, Act.put, List.setIfInBounds_toArray, List.set_cons_zero, List.set_cons_succ]
      refine but_run (i := 13) (by kernel_rfl) rfl (by rfl) ?_
      simp only [List.getElem_toArray, List.getElem_cons_succ, List.getElem_cons_zero]
      intro K HK
      refine operAppN _ (by rfl) (.tmp 33) (.tmp 38) 25 71 1 24 (.agg #[.slice none 0 0]) (by rfl) Tryz.underlying25 (by kernel_rfl) rfl (by omega) (by omega) W2.heap.size (i + nds.length) _ (xs.take i ++ us) (by rfl) Rf3.out (_) (ts.length - (i + 1)) (_) (xs.drop (i + 1)) (by rfl) (by rw [List.length_drop, HXL.out]; omega) ((by have h := At.tailV (c := d) (j := i + 1) (HAN.out.on hSf3) (by rw [HXL.out]; omega); unfold tailA at h; rw [if_neg hcN] at h; exact h)) (fun u hu => HX1.out u (List.mem_of_mem_drop hu)) (by omega) (Nat.le_trans (Nat.le_refl _) (hSf3.size)) ?_
      intro vf4 Vf4 of4 gf4 _ af4
      rw [← HLN.out] at of4
      obtain ⟨o0, o1, o2⟩ := box2 (box_on QO2.out (grown_below hSf3 gf4 Rf3.out (Nat.le_refl _)))
      obtain ⟨Af4, cf4, rfl⟩ := row_form of4
      have hSf4 : (fun V => Below W2.heap.size W2 V) Vf4 := grown_below hSf3 gf4 Rf3.out (Nat.le_refl _)
      refine HK.out _ _ (fun _ => hSf4) ?_
      clear HK
      have Rf4 := Lib.hid of4
      clear of4
      simp only [List.getElem_toArray, List.getElem_cons_succ, List.getElem_cons_zero, Act.put, List.setIfInBounds_toArray, List.set_cons_zero, List.set_cons_succ]
      refine but_take (f := 15) (i := 14) (v := ?vf14) rfl (by kernel_rfl) (by kernel_rfl) (by kernel_rfl) (by kernel_rfl) (by kernel_rfl) (fun _ _ _ h => h) (Or.inl ⟨(by rfl), ?hyf14⟩) hSf4 ?restf14
      case hyf14 =>
        intro W hW
        go_simp
        exact rfl
      simp only [List.getElem_toArray, List.getElem_cons_succ, List.getElem_cons_zero, Act.put, List.setIfInBounds_toArray, List.set_cons_zero, List.set_cons_succ]
      refine but_run (i := 15) (by kernel_rfl) rfl (by rfl) ?_
      simp only [List.getElem_toArray, List.getElem_cons_succ, List.getElem_cons_zero]
      intro K HK
      go_wp2_with fail
      refine HK.out _ _ (fun h => absurd rfl h) ?_
      clear HK
      refine but_done (by kernel_rfl) ?_
      have hW4 : Below W2.heap.size W2 Vf4 := hSf4
      have hs4 := hW4.size
      have QR4 := Lib.hid (box_far (g := w.heap.size + 1 + 1) (j := 1) (u := .slice Af4 rn.length cf4) (box_on QR2.out hW4) (by omega))
      have QO4 : Hid ((Vf4.setCell ⟨w.heap.size + 1 + 1, 1, none⟩ (.slice Af4 rn.length cf4)).heap[w.heap.size + 1 + 1]? = some (.cells #[.slice Ak rl.length ck, .slice Af4 rn.length cf4] 27 (0, 0))) := Lib.hid (box_set (i := 1) (u := .slice Af4 rn.length cf4) (box_on QO2.out hW4))
      have HB4 := Lib.hid ((HB2.out.trans (hW4.mono HB2.out.size)).setCell (p := ⟨w.heap.size + 1 + 1, 1, none⟩) (show w.heap.size ≤ w.heap.size + 1 + 1 by omega) (.slice Af4 rn.length cf4))
      have HON : Hid (OwnsL Vf4 (fun b => (Bb ≤ b ∧ b ≠ X) ∧ b < w.heap.size) (xs.take i ++ us ++ xs.drop (i + 1)) (rn.map setsD)) := Lib.hid (by rw [HM2.out]; exact HOS.out.on (HB2.out.trans (hW4.mono HB2.out.size)))
      have RN := Lib.hid ((row_nodes Rf4.out HON.out (by omega)).keep (w' := Vf4.setCell ⟨w.heap.size + 1 + 1, 1, none⟩ (.slice Af4 rn.length cf4)) (fun b hb _ => Below.heap_setCell _ _ _ _ (by simp; omega)))
      have RL4 := Lib.hid ((RL.out.on hW4).keep (w' := Vf4.setCell ⟨w.heap.size + 1 + 1, 1, none⟩ (.slice Af4 rn.length cf4)) (fun b hb _ => Below.heap_setCell _ _ _ _ (by have := hb.1; simp; omega)))
      go_upto_region 4 with (fail)
      clear QT2 QR2 QO2 HB2 o0 o1 o2 HAN HSN RL HON HOS
      generalize Vf4.setCell ⟨w.heap.size + 1 + 1, 1, none⟩ (.slice Af4 rn.length cf4) = W4 at *
      obtain ⟨x0, x1, x2⟩ := box2 QO4.out
      obtain ⟨y0, y1, y2⟩ := box2 QR4.out
      go_wp2
      have HO : ∀ a b, Only (fun b => b = w.heap.size + 1) W4 ((W4.setCell ⟨w.heap.size + 1, 0, none⟩ a).setCell ⟨w.heap.size + 1, 1, none⟩ b) := fun a b => only_two _ _ _ _ _ _
      exact bodyPost_ret (v := .agg #[.slice Ak rl.length ck, .slice Af4 rn.length cf4]) (by simp [results, Tryz.results48, go_sem, y0, y1, y2]) rfl ⟨_, _, rfl, ⟨fun b => W.heap.size ≤ b ∧ b < W2.heap.size, fun b => ((Bb ≤ b ∧ b ≠ X) ∧ b < w.heap.size) ∨ W2.heap.size ≤ b, fun b hb => by omega, fun b hb => by omega, fun b hb hb' => by omega, RL4.out.far (HO _ _) (fun b hb _ hb' => by omega), RN.out.far (HO _ _) (fun b hb _ hb' => by omega)⟩, HB4.out.trans ((HO _ _).below HB4.out.size (fun b hb => by omega))⟩
end Go.Proofs.YtkcafbdlealbpaaGreat
/- The contract of spec.l6Pair. Conditions: at most 2^20 nodes, sets and keys. -/
namespace Go.Proofs.YtkcafbdlealbpaaGreat
open Go.RowKit
set_option maxRecDepth 100000
set_option linter.unusedSimpArgs false
set_option linter.unusedVariables false
theorem few_iff (a b : NodeD) : fewB a b = true ↔ ((nodeKeysK a).length : Int) + ((nodeKeysK b).length : Int) ≤ 6 := by
  unfold fewB
  rw [decide_eq_true_iff]
  omega
set_option maxHeartbeats 8000000 in
theorem l6Pair_any (vl vn : Value) (lo : List Int) (ts : List NodeD) (w : World) (hv : RdT w w.heap.size vl vn lo ts) (hn : ts.length ≤ 1048576) (hs : sumT ts ≤ 1048576) :
    Calls Tryz.prog 106 #[.agg #[vl, vn]] w (SaysInt w (pairK ts)) := by
  obtain ⟨A, c, B, d, rfl, rfl⟩ := hv.shape
  have HB := Lib.hid (bal1 w (.cells #[.slice A lo.length c, .slice B ts.length d] 27))
  have Q0 := Lib.hid (al1 w (.cells #[.slice A lo.length c, .slice B ts.length d] 27))
  have HV := Lib.hid (hv.2.on (bal1 w (.cells #[.slice A lo.length c, .slice B ts.length d] 27)))
  clear hv
  go_enter Tryz.func106, Tryz.ntmps106
  go_upto_region 1 with (fail)
  generalize w.alloc (.cells #[.slice A lo.length c, .slice B ts.length d] 27) = W at *
  go_wp2
  go_loopw [3] (fun q wr => ∃ k : Nat, k ≤ ts.length ∧ q = .int .i64 k ∧ Hid (∀ j (hj : j < k) (h : j + 1 < ts.length), fewB ts[j] ts[j + 1] = false) ∧ Hid (Below W.heap.size W wr)) (fun q _ => ts.length - (intOf q).toNat)
  case atStart => exact ⟨0, Nat.zero_le _, rfl, Lib.hid (fun j h => by omega), Lib.hid (Below.refl _ _)⟩
  case round =>
    obtain ⟨k, hk, rfl, HI, HX⟩ := hrel
    have QW := Lib.hid (box_on Q0.out HX.out)
    obtain ⟨x0, x1, x2⟩ := box2 QW.out
    by_cases hlt : k + 1 < ts.length
    · obtain ⟨b, off, hBe, hbb, hc⟩ := (HV.out.on HX.out).node hlt
      subst hBe
      obtain ⟨A1, d1, e1, _, _, r1⟩ := hc k (by omega)
      obtain ⟨A2, d2, e2, _, _, r2⟩ := hc (k + 1) hlt
      have hl1 := sumT_mem (List.getElem_mem (show k < ts.length by omega))
      have hl2 := sumT_mem (List.getElem_mem hlt)
      have hk1 := nodeKeys_len ts[k]
      have hk2 := nodeKeys_len ts[k + 1]
      have R1 := Lib.hid r1
      have R2 := Lib.hid r2
      have E1 := Lib.hid e1
      have E2 := Lib.hid e2
      have i1 : (k : Int) + 1 < (ts.length : Int) := by omega
      have i2 : (0 : Int) ≤ (k : Int) := by omega
      have i3 : (0 : Int) ≤ (k : Int) + 1 := by omega
      have i4 : (k : Int) < (ts.length : Int) := by omega
      have i5 : ((k : Int) + 1).toNat = k + 1 := by omega
      have i6 : IntKind.i64.wrap ((k : Int) + 1) = (k : Int) + 1 := by rw [IntKind.wrap_i64]; omega
      have i7 : IntKind.i64.wrap (((nodeKeysK ts[k]).length : Int) + ((nodeKeysK ts[k + 1]).length : Int)) = ((nodeKeysK ts[k]).length : Int) + ((nodeKeysK ts[k + 1]).length : Int) := by rw [IntKind.wrap_i64]; omega
      have HFW := Lib.hid (few_iff ts[k] ts[k + 1])
      clear hc r1 r2 e1 e2 x0 x1 x2
      obtain ⟨K1, hK1⟩ : ∃ K, nodeKeysK ts[k] = K := ⟨_, rfl⟩
      obtain ⟨K2, hK2⟩ : ∃ K, nodeKeysK ts[k + 1] = K := ⟨_, rfl⟩
      rw [hK1] at i7 HFW hk1
      rw [hK2] at i7 HFW hk2
      have HK1 := Lib.hid hK1
      have HK2 := Lib.hid hK2
      clear hK1 hK2
      by_cases hf : (K1.length : Int) + (K2.length : Int) ≤ 6
      · have HRES := Lib.hid (pair_hit hlt (HFW.out.2 hf) (fun j hj => HI.out j hj (by omega)))
        obtain ⟨x0, x1, x2⟩ := box2 QW.out
        go_wp2
        clear x0 x1 x2
        refine but_begin (f := 16) (S := fun V => Below wr.drew.heap.size wr.drew V) (by kernel_rfl) ?_
        refine but_take (f := 16) (i := 0) (v := ?vpa0) rfl (by kernel_rfl) (by kernel_rfl) (by kernel_rfl) (by kernel_rfl) (by kernel_rfl) (fun _ _ _ h => h) (Or.inl ⟨(by rfl), ?hypa0⟩) (Below.refl _ _) ?restpa0
        case hypa0 =>
          intro W hW
          go_simp
          exact rfl
        simp only [List.getElem_toArray, List.getElem_cons_succ, List.getElem_cons_zero, Act.put, List.setIfInBounds_toArray, List.set_cons_zero, List.set_cons_succ]
        refine but_take (f := 16) (i := 1) (v := ?vpa1) rfl (by kernel_rfl) (by kernel_rfl) (by kernel_rfl) (by kernel_rfl) (by kernel_rfl) (fun _ _ _ h => h) (Or.inl ⟨(by rfl), ?hypa1⟩) (Below.refl _ _) ?restpa1
        case hypa1 =>
          intro W hW
          have hb0 : Below wr.heap.size wr W := bstep (Below.drew1 _) hW
          obtain ⟨x0, x1, x2⟩ := box2 (box_on QW.out hb0)
          go_simp
          exact rfl
        simp only [List.getElem_toArray, List.getElem_cons_succ, List.getElem_cons_zero, Act.put, List.setIfInBounds_toArray, List.set_cons_zero, List.set_cons_succ]
        refine but_take (f := 16) (i := 2) (v := ?vpa2) rfl (by kernel_rfl) (by kernel_rfl) (by kernel_rfl) (by kernel_rfl) (by kernel_rfl) (fun _ _ _ h => h) (Or.inl ⟨(by rfl), ?hypa2⟩) (Below.refl _ _) ?restpa2
        case hypa2 =>
          intro W hW
          go_simp
          exact rfl
        simp only [List.getElem_toArray, List.getElem_cons_succ, List.getElem_cons_zero, Act.put, List.setIfInBounds_toArray, List.set_cons_zero, List.set_cons_succ]
        refine but_take (f := 16) (i := 3) (v := ?vpa3) rfl (by kernel_rfl) (by kernel_rfl) (by kernel_rfl) (by kernel_rfl) (by kernel_rfl) (fun _ _ _ h => h) (Or.inl ⟨(by rfl), ?hypa3⟩) (Below.refl _ _) ?restpa3
        case hypa3 =>
          intro W hW
          go_simp
          exact rfl
        simp only [List.getElem_toArray, List.getElem_cons_succ, List.getElem_cons_zero, Act.put, List.setIfInBounds_toArray, List.set_cons_zero, List.set_cons_succ]
        refine but_take (f := 16) (i := 4) (v := ?vpa4) rfl (by kernel_rfl) (by kernel_rfl) (by kernel_rfl) (by kernel_rfl) (by kernel_rfl) (fun _ _ _ h => h) (Or.inl ⟨(by rfl), ?hypa4⟩) (Below.refl _ _) ?restpa4
        case hypa4 =>
          intro W hW
          have hb0 : Below wr.heap.size wr W := bstep (Below.drew1 _) hW
          have e1 := (hb0.cell (p := ⟨b, off + k, none⟩) hbb).trans E1.out
          have e2 := (hb0.cell (p := ⟨b, off + (k + 1), none⟩) hbb).trans E2.out
          go_simp
          exact rfl
        simp only [List.getElem_toArray, List.getElem_cons_succ, List.getElem_cons_zero, Act.put, List.setIfInBounds_toArray, List.set_cons_zero, List.set_cons_succ]
        refine but_take (f := 16) (i := 7) (v := ?vpa7) rfl (by kernel_rfl) (by kernel_rfl) (by kernel_rfl) (by kernel_rfl) (by kernel_rfl) (fun _ _ _ h => h) (Or.inl ⟨(by rfl), ?hypa7⟩) (Below.refl _ _) ?restpa7
        case hypa7 =>
          intro W hW
          go_simp
          exact rfl
        simp only [List.getElem_toArray, List.getElem_cons_succ, List.getElem_cons_zero, Act.put, List.setIfInBounds_toArray, List.set_cons_zero, List.set_cons_succ]
        refine but_take (f := 16) (i := 8) (v := ?vpa8) rfl (by kernel_rfl) (by kernel_rfl) (by kernel_rfl) (by kernel_rfl) (by kernel_rfl) (fun _ _ _ h => h) (Or.inl ⟨(by rfl), ?hypa8⟩) (Below.refl _ _) ?restpa8
        case hypa8 =>
          intro W hW
          have hb0 : Below wr.heap.size wr W := bstep (Below.drew1 _) hW
          obtain ⟨x0, x1, x2⟩ := box2 (box_on QW.out hb0)
          go_simp
          exact rfl
        simp only [List.getElem_toArray, List.getElem_cons_succ, List.getElem_cons_zero, Act.put, List.setIfInBounds_toArray, List.set_cons_zero, List.set_cons_succ]
        refine but_take (f := 16) (i := 9) (v := ?vpa9) rfl (by kernel_rfl) (by kernel_rfl) (by kernel_rfl) (by kernel_rfl) (by kernel_rfl) (fun _ _ _ h => h) (Or.inl ⟨(by rfl), ?hypa9⟩) (Below.refl _ _) ?restpa9
        case hypa9 =>
          intro W hW
          go_simp
          exact rfl
        simp only [List.getElem_toArray, List.getElem_cons_succ, List.getElem_cons_zero, Act.put, List.setIfInBounds_toArray, List.set_cons_zero, List.set_cons_succ]
        refine but_take (f := 16) (i := 10) (v := ?vpa10) rfl (by kernel_rfl) (by kernel_rfl) (by kernel_rfl) (by kernel_rfl) (by kernel_rfl) (fun _ _ _ h => h) (Or.inl ⟨(by rfl), ?hypa10⟩) (Below.refl _ _) ?restpa10
        case hypa10 =>
          intro W hW
          go_simp
          exact rfl
        simp only [List.getElem_toArray, List.getElem_cons_succ, List.getElem_cons_zero, Act.put, List.setIfInBounds_toArray, List.set_cons_zero, List.set_cons_succ]
        refine but_take (f := 16) (i := 11) (v := ?vpa11) rfl (by kernel_rfl) (by kernel_rfl) (by kernel_rfl) (by kernel_rfl) (by kernel_rfl) (fun _ _ _ h => h) (Or.inl ⟨(by rfl), ?hypa11⟩) (Below.refl _ _) ?restpa11
        case hypa11 =>
          intro W hW
          go_simp
          exact rfl
        simp only [List.getElem_toArray, List.getElem_cons_succ, List.getElem_cons_zero, Act.put, List.setIfInBounds_toArray, List.set_cons_zero, List.set_cons_succ]
        refine but_take (f := 16) (i := 12) (v := ?vpa12) rfl (by kernel_rfl) (by kernel_rfl) (by kernel_rfl) (by kernel_rfl) (by kernel_rfl) (fun _ _ _ h => h) (Or.inl ⟨(by rfl), ?hypa12⟩) (Below.refl _ _) ?restpa12
        case hypa12 =>
          intro W hW
          have hb0 : Below wr.heap.size wr W := bstep (Below.drew1 _) hW
          have e1 := (hb0.cell (p := ⟨b, off + k, none⟩) hbb).trans E1.out
          have e2 := (hb0.cell (p := ⟨b, off + (k + 1), none⟩) hbb).trans E2.out
          go_simp
          exact rfl
        simp only [List.getElem_toArray, List.getElem_cons_succ, List.getElem_cons_zero, Act.put, List.setIfInBounds_toArray, List.set_cons_zero, List.set_cons_succ]
        refine but_run (i := 5) (by kernel_rfl) rfl (by rfl) ?_
        simp only [List.getElem_toArray, List.getElem_cons_succ, List.getElem_cons_zero]
        intro K HK
        go_wp2_with fail
        refine (specNodeKeys_any _ ts[k] _ (R1.out.on (bstep (Below.drew1 _) (Below.refl _ _))) (by omega) (by omega)).mono ?_
        rintro r Vpa1 ⟨va, rfl, oa, hBpa1⟩
        rw [HK1.out] at oa
        obtain ⟨Aa, ca, rfl, _, _⟩ := oa.shape
        clear oa
        have hSpa1 := bstep (Below.refl _ _) hBpa1
        go_wp2_with fail
        refine HK.out _ Vpa1 (fun _ => hSpa1) ?_
        clear HK
        refine but_take (f := 16) (i := 6) (v := ?vpa6) rfl (by kernel_rfl) (by kernel_rfl) (by kernel_rfl) (by kernel_rfl) (by kernel_rfl) (fun _ _ _ h => h) (Or.inl ⟨(by rfl), ?hypa6⟩) hSpa1 ?restpa6
        case hypa6 =>
          intro W hW
          go_simp
          exact rfl
        simp only [List.getElem_toArray, List.getElem_cons_succ, List.getElem_cons_zero, Act.put, List.setIfInBounds_toArray, List.set_cons_zero, List.set_cons_succ]
        refine but_run (i := 13) (by kernel_rfl) rfl (by rfl) ?_
        simp only [List.getElem_toArray, List.getElem_cons_succ, List.getElem_cons_zero]
        intro K HK
        go_wp2_with fail
        refine (specNodeKeys_any _ ts[k + 1] _ (R2.out.on (bstep (Below.drew1 _) hSpa1)) (by omega) (by omega)).mono ?_
        rintro r Vpa2 ⟨vb, rfl, ob, hBpa2⟩
        rw [HK2.out] at ob
        obtain ⟨Ab, cb, rfl, _, _⟩ := ob.shape
        clear ob
        have hSpa2 := bstep hSpa1 hBpa2
        go_wp2_with fail
        refine HK.out _ Vpa2 (fun _ => hSpa2) ?_
        clear HK
        refine but_take (f := 16) (i := 14) (v := ?vpa14) rfl (by kernel_rfl) (by kernel_rfl) (by kernel_rfl) (by kernel_rfl) (by kernel_rfl) (fun _ _ _ h => h) (Or.inl ⟨(by rfl), ?hypa14⟩) hSpa2 ?restpa14
        case hypa14 =>
          intro W hW
          go_simp
          exact rfl
        simp only [List.getElem_toArray, List.getElem_cons_succ, List.getElem_cons_zero, Act.put, List.setIfInBounds_toArray, List.set_cons_zero, List.set_cons_succ]
        refine but_take (f := 16) (i := 15) (v := ?vpa15) rfl (by kernel_rfl) (by kernel_rfl) (by kernel_rfl) (by kernel_rfl) (by kernel_rfl) (fun _ _ _ h => h) (Or.inl ⟨(by rfl), ?hypa15⟩) hSpa2 ?restpa15
        case hypa15 =>
          intro W hW
          go_simp
          exact rfl
        simp only [List.getElem_toArray, List.getElem_cons_succ, List.getElem_cons_zero, Act.put, List.setIfInBounds_toArray, List.set_cons_zero, List.set_cons_succ]
        refine but_run (i := 16) (by kernel_rfl) rfl (by rfl) ?_
        simp only [List.getElem_toArray, List.getElem_cons_succ, List.getElem_cons_zero]
        intro K HK
        go_wp2_with fail
        refine HK.out _ Vpa2 (fun h => absurd rfl h) ?_
        clear HK
        refine but_done (by kernel_rfl) ?_
        go_wp2_with fail
        go_ret
        exact ⟨by rw [HRES.out]; rfl, bstep HB.out (bstep HX.out (bstep (Below.drew1 _) hSpa2))⟩
      · have hf' : (6 : Int) < (K1.length : Int) + (K2.length : Int) := by omega
        have HNX : Hid (∀ j (hj : j < k + 1) (h : j + 1 < ts.length), fewB ts[j] ts[j + 1] = false) := Lib.hid (fun j hj h => by
          rcases Nat.lt_or_ge j k with h' | h'
          · exact HI.out j h' h
          · have e : j = k := by omega
            subst e
            cases hfe : fewB ts[j] ts[j + 1]
            · rfl
            · exact absurd (HFW.out.1 hfe) hf)
        clear hf
        obtain ⟨x0, x1, x2⟩ := box2 QW.out
        go_wp2
        clear x0 x1 x2
        refine but_begin (f := 16) (S := fun V => Below wr.drew.heap.size wr.drew V) (by kernel_rfl) ?_
        refine but_take (f := 16) (i := 0) (v := ?vpb0) rfl (by kernel_rfl) (by kernel_rfl) (by kernel_rfl) (by kernel_rfl) (by kernel_rfl) (fun _ _ _ h => h) (Or.inl ⟨(by rfl), ?hypb0⟩) (Below.refl _ _) ?restpb0
        case hypb0 =>
          intro W hW
          go_simp
          exact rfl
        simp only [List.getElem_toArray, List.getElem_cons_succ, List.getElem_cons_zero, Act.put, List.setIfInBounds_toArray, List.set_cons_zero, List.set_cons_succ]
        refine but_take (f := 16) (i := 1) (v := ?vpb1) rfl (by kernel_rfl) (by kernel_rfl) (by kernel_rfl) (by kernel_rfl) (by kernel_rfl) (fun _ _ _ h => h) (Or.inl ⟨(by rfl), ?hypb1⟩) (Below.refl _ _) ?restpb1
        case hypb1 =>
          intro W hW
          have hb0 : Below wr.heap.size wr W := bstep (Below.drew1 _) hW
          obtain ⟨x0, x1, x2⟩ := box2 (box_on QW.out hb0)
          go_simp
          exact rfl
        simp only [List.getElem_toArray, List.getElem_cons_succ, List.getElem_cons_zero, Act.put, List.setIfInBounds_toArray, List.set_cons_zero, List.set_cons_succ]
        refine but_take (f := 16) (i := 2) (v := ?vpb2) rfl (by kernel_rfl) (by kernel_rfl) (by kernel_rfl) (by kernel_rfl) (by kernel_rfl) (fun _ _ _ h => h) (Or.inl ⟨(by rfl), ?hypb2⟩) (Below.refl _ _) ?restpb2
        case hypb2 =>
          intro W hW
          go_simp
          exact rfl
        simp only [List.getElem_toArray, List.getElem_cons_succ, List.getElem_cons_zero, Act.put, List.setIfInBounds_toArray, List.set_cons_zero, List.set_cons_succ]
        refine but_take (f := 16) (i := 3) (v := ?vpb3) rfl (by kernel_rfl) (by kernel_rfl) (by kernel_rfl) (by kernel_rfl) (by kernel_rfl) (fun _ _ _ h => h) (Or.inl ⟨(by rfl), ?hypb3⟩) (Below.refl _ _) ?restpb3
        case hypb3 =>
          intro W hW
          go_simp
          exact rfl
        simp only [List.getElem_toArray, List.getElem_cons_succ, List.getElem_cons_zero, Act.put, List.setIfInBounds_toArray, List.set_cons_zero, List.set_cons_succ]
        refine but_take (f := 16) (i := 4) (v := ?vpb4) rfl (by kernel_rfl) (by kernel_rfl) (by kernel_rfl) (by kernel_rfl) (by kernel_rfl) (fun _ _ _ h => h) (Or.inl ⟨(by rfl), ?hypb4⟩) (Below.refl _ _) ?restpb4
        case hypb4 =>
          intro W hW
          have hb0 : Below wr.heap.size wr W := bstep (Below.drew1 _) hW
          have e1 := (hb0.cell (p := ⟨b, off + k, none⟩) hbb).trans E1.out
          have e2 := (hb0.cell (p := ⟨b, off + (k + 1), none⟩) hbb).trans E2.out
          go_simp
          exact rfl
        simp only [List.getElem_toArray, List.getElem_cons_succ, List.getElem_cons_zero, Act.put, List.setIfInBounds_toArray, List.set_cons_zero, List.set_cons_succ]
        refine but_take (f := 16) (i := 7) (v := ?vpb7) rfl (by kernel_rfl) (by kernel_rfl) (by kernel_rfl) (by kernel_rfl) (by kernel_rfl) (fun _ _ _ h => h) (Or.inl ⟨(by rfl), ?hypb7⟩) (Below.refl _ _) ?restpb7
        case hypb7 =>
          intro W hW
          go_simp
          exact rfl
        simp only [List.getElem_toArray, List.getElem_cons_succ, List.getElem_cons_zero, Act.put, List.setIfInBounds_toArray, List.set_cons_zero, List.set_cons_succ]
        refine but_take (f := 16) (i := 8) (v := ?vpb8) rfl (by kernel_rfl) (by kernel_rfl) (by kernel_rfl) (by kernel_rfl) (by kernel_rfl) (fun _ _ _ h => h) (Or.inl ⟨(by rfl), ?hypb8⟩) (Below.refl _ _) ?restpb8
        case hypb8 =>
          intro W hW
          have hb0 : Below wr.heap.size wr W := bstep (Below.drew1 _) hW
          obtain ⟨x0, x1, x2⟩ := box2 (box_on QW.out hb0)
          go_simp
          exact rfl
        simp only [List.getElem_toArray, List.getElem_cons_succ, List.getElem_cons_zero, Act.put, List.setIfInBounds_toArray, List.set_cons_zero, List.set_cons_succ]
        refine but_take (f := 16) (i := 9) (v := ?vpb9) rfl (by kernel_rfl) (by kernel_rfl) (by kernel_rfl) (by kernel_rfl) (by kernel_rfl) (fun _ _ _ h => h) (Or.inl ⟨(by rfl), ?hypb9⟩) (Below.refl _ _) ?restpb9
        case hypb9 =>
          intro W hW
          go_simp
          exact rfl
        simp only [List.getElem_toArray, List.getElem_cons_succ, List.getElem_cons_zero, Act.put, List.setIfInBounds_toArray, List.set_cons_zero, List.set_cons_succ]
        refine but_take (f := 16) (i := 10) (v := ?vpb10) rfl (by kernel_rfl) (by kernel_rfl) (by kernel_rfl) (by kernel_rfl) (by kernel_rfl) (fun _ _ _ h => h) (Or.inl ⟨(by rfl), ?hypb10⟩) (Below.refl _ _) ?restpb10
        case hypb10 =>
          intro W hW
          go_simp
          exact rfl
        simp only [List.getElem_toArray, List.getElem_cons_succ, List.getElem_cons_zero, Act.put, List.setIfInBounds_toArray, List.set_cons_zero, List.set_cons_succ]
        refine but_take (f := 16) (i := 11) (v := ?vpb11) rfl (by kernel_rfl) (by kernel_rfl) (by kernel_rfl) (by kernel_rfl) (by kernel_rfl) (fun _ _ _ h => h) (Or.inl ⟨(by rfl), ?hypb11⟩) (Below.refl _ _) ?restpb11
        case hypb11 =>
          intro W hW
          go_simp
          exact rfl
        simp only [List.getElem_toArray, List.getElem_cons_succ, List.getElem_cons_zero, Act.put, List.setIfInBounds_toArray, List.set_cons_zero, List.set_cons_succ]
        refine but_take (f := 16) (i := 12) (v := ?vpb12) rfl (by kernel_rfl) (by kernel_rfl) (by kernel_rfl) (by kernel_rfl) (by kernel_rfl) (fun _ _ _ h => h) (Or.inl ⟨(by rfl), ?hypb12⟩) (Below.refl _ _) ?restpb12
        case hypb12 =>
          intro W hW
          have hb0 : Below wr.heap.size wr W := bstep (Below.drew1 _) hW
          have e1 := (hb0.cell (p := ⟨b, off + k, none⟩) hbb).trans E1.out
          have e2 := (hb0.cell (p := ⟨b, off + (k + 1), none⟩) hbb).trans E2.out
          go_simp
          exact rfl
        simp only [List.getElem_toArray, List.getElem_cons_succ, List.getElem_cons_zero, Act.put, List.setIfInBounds_toArray, List.set_cons_zero, List.set_cons_succ]
        refine but_run (i := 5) (by kernel_rfl) rfl (by rfl) ?_
        simp only [List.getElem_toArray, List.getElem_cons_succ, List.getElem_cons_zero]
        intro K HK
        go_wp2_with fail
        refine (specNodeKeys_any _ ts[k] _ (R1.out.on (bstep (Below.drew1 _) (Below.refl _ _))) (by omega) (by omega)).mono ?_
        rintro r Vpb1 ⟨va, rfl, oa, hBpb1⟩
        rw [HK1.out] at oa
        obtain ⟨Aa, ca, rfl, _, _⟩ := oa.shape
        clear oa
        have hSpb1 := bstep (Below.refl _ _) hBpb1
        go_wp2_with fail
        refine HK.out _ Vpb1 (fun _ => hSpb1) ?_
        clear HK
        refine but_take (f := 16) (i := 6) (v := ?vpb6) rfl (by kernel_rfl) (by kernel_rfl) (by kernel_rfl) (by kernel_rfl) (by kernel_rfl) (fun _ _ _ h => h) (Or.inl ⟨(by rfl), ?hypb6⟩) hSpb1 ?restpb6
        case hypb6 =>
          intro W hW
          go_simp
          exact rfl
        simp only [List.getElem_toArray, List.getElem_cons_succ, List.getElem_cons_zero, Act.put, List.setIfInBounds_toArray, List.set_cons_zero, List.set_cons_succ]
        refine but_run (i := 13) (by kernel_rfl) rfl (by rfl) ?_
        simp only [List.getElem_toArray, List.getElem_cons_succ, List.getElem_cons_zero]
        intro K HK
        go_wp2_with fail
        refine (specNodeKeys_any _ ts[k + 1] _ (R2.out.on (bstep (Below.drew1 _) hSpb1)) (by omega) (by omega)).mono ?_
        rintro r Vpb2 ⟨vb, rfl, ob, hBpb2⟩
        rw [HK2.out] at ob
        obtain ⟨Ab, cb, rfl, _, _⟩ := ob.shape
        clear ob
        have hSpb2 := bstep hSpb1 hBpb2
        go_wp2_with fail
        refine HK.out _ Vpb2 (fun _ => hSpb2) ?_
        clear HK
        refine but_take (f := 16) (i := 14) (v := ?vpb14) rfl (by kernel_rfl) (by kernel_rfl) (by kernel_rfl) (by kernel_rfl) (by kernel_rfl) (fun _ _ _ h => h) (Or.inl ⟨(by rfl), ?hypb14⟩) hSpb2 ?restpb14
        case hypb14 =>
          intro W hW
          go_simp
          exact rfl
        simp only [List.getElem_toArray, List.getElem_cons_succ, List.getElem_cons_zero, Act.put, List.setIfInBounds_toArray, List.set_cons_zero, List.set_cons_succ]
        refine but_take (f := 16) (i := 15) (v := ?vpb15) rfl (by kernel_rfl) (by kernel_rfl) (by kernel_rfl) (by kernel_rfl) (by kernel_rfl) (fun _ _ _ h => h) (Or.inl ⟨(by rfl), ?hypb15⟩) hSpb2 ?restpb15
        case hypb15 =>
          intro W hW
          go_simp
          exact rfl
        simp only [List.getElem_toArray, List.getElem_cons_succ, List.getElem_cons_zero, Act.put, List.setIfInBounds_toArray, List.set_cons_zero, List.set_cons_succ]
        refine but_run (i := 16) (by kernel_rfl) rfl (by rfl) ?_
        simp only [List.getElem_toArray, List.getElem_cons_succ, List.getElem_cons_zero]
        intro K HK
        go_wp2_with fail
        refine HK.out _ Vpb2 (fun h => absurd rfl h) ?_
        clear HK
        refine but_done (by kernel_rfl) ?_
        go_wp2_with fail
        go_roundw
        case rel => exact ⟨k + 1, by omega, by go_num, HNX, Lib.hid (bstep HX.out (bstep (Below.drew1 _) hSpb2))⟩
        case measure => simp [intOf]; omega
    · have i1 : ¬ (k : Int) + 1 < (ts.length : Int) := by omega
      have i6 : IntKind.i64.wrap ((k : Int) + 1) = (k : Int) + 1 := by rw [IntKind.wrap_i64]; omega
      have HRES := Lib.hid (pair_miss (fun j hj => HI.out j (by omega) hj))
      go_wp2
      go_ret
      exact ⟨by rw [HRES.out]; rfl, bstep HB.out HX.out⟩
end Go.Proofs.YtkcafbdlealbpaaGreat
/- The contract of spec.l6Join. Conditions: at most 2^20 nodes, sets and keys. -/
namespace Go.Proofs.YtkcafbdlealbpaaGreat
open Go.RowKit
set_option maxRecDepth 100000
set_option linter.unusedSimpArgs false
set_option linter.unusedVariables false
/-- Between two rounds of spec.l6Join. -/
def JoinR (w : World) (Bb X : Nat) (J : TreeD) (wr : World) (q : Value) : Prop := ∃ (lo : List Int) (ts : List NodeD) (A : Option Addr) (c : Nat) (B : Option Addr) (d : Nat), q = .int .i64 (pairK ts) ∧ wr.heap[w.heap.size]? = some (.cells #[.slice A lo.length c, .slice B ts.length d] 27 (0, 0)) ∧ wr.heap[w.heap.size + 1]? = some (.cells #[.slice none 0 0, .slice none 0 0] 27) ∧
  TreeS wr (fun b => (Bb ≤ b ∧ b ≠ X) ∧ b ≠ w.heap.size ∧ b ≠ w.heap.size + 1) (.slice A lo.length c) (.slice B ts.length d) lo ts ∧ joinK (lo, ts) = J ∧ lo.length = ts.length ∧ ts.length ≤ 1048576 ∧ sumT ts ≤ 1048576 ∧ Below w.heap.size w wr
def lenN1 (q : Nat) (wr : World) : Nat := match wr.cell? ⟨q, 1, none⟩ with | some (.slice _ n _) => n | _ => 0
theorem lenN1_box {w : World} {q : Nat} {a : Value} {A : Option Addr} {n m : Nat} {t : TypeId} (h : w.heap[q]? = some (.cells #[a, .slice A n m] t (0, 0))) : lenN1 q w = n := by
  unfold lenN1; rw [(box2 h).2.1]
theorem joinAt_sum (t : TreeD) (i : Nat) (h : i + 1 < t.2.length) : sumT (joinAt t i).2 ≤ sumT t.2 := by
  have e : t.2 = t.2.take i ++ ([t.2[i], t.2[i + 1]] ++ t.2.drop (i + 2)) := by
    conv => lhs; rw [← List.take_append_drop i t.2]
    rw [List.drop_eq_getElem_cons (show i < t.2.length by omega), List.drop_eq_getElem_cons h]
    rfl
  have h1 : sumT t.2 = sumT (t.2.take i) + ((t.2[i].length + sumN t.2[i]) + (t.2[i + 1].length + sumN t.2[i + 1]) + sumT (t.2.drop (i + 2))) := by
    conv => lhs; rw [e]
    rw [sumT_append, sumT_append]
    simp only [sumT_cons, sumT_nil]
    omega
  unfold joinAt setL
  simp only [sumT_append, sumT_cons, sumT_nil]
  rw [getD_node (show i < t.2.length by omega), getD_node h, sum_new, List.length_append]
  have h2 := nodeKeys_len t.2[i]
  have h3 := nodeKeys_len t.2[i + 1]
  have h4 : (nodeNewK (nodeKeysK t.2[i] ++ nodeKeysK t.2[i + 1])).length ≤ t.2[i].length + t.2[i + 1].length := by
    unfold nodeNewK
    split
    · simp
    · rename_i hne
      simp only [List.length_append] at hne
      have : t.2[i] ≠ [] ∨ t.2[i + 1] ≠ [] := by
        by_cases ha : t.2[i] = []
        · refine .inr (fun hb => hne ?_)
          rw [ha, hb]; rfl
        · exact .inl ha
      rcases this with h | h
      · have := List.length_pos_iff.2 h; simp; omega
      · have := List.length_pos_iff.2 h; simp; omega
  omega
/-- Between the two rows that a round of spec.l6Join lays. -/
def JoinMid (V4 : World) (rl : List Int) (wx : World) : Prop := ∃ Ak ck, wx.heap[V4.heap.size]? = some (.cells #[.slice Ak rl.length ck, .slice none 0 0] 27 (0, 0)) ∧ Below V4.heap.size V4 wx ∧ Owns wx (fun b => V4.heap.size < b ∧ b < wx.heap.size) (.slice Ak rl.length ck) (intsD rl) ∧ V4.heap.size + 1 ≤ wx.heap.size
def JoinEnd (w V4 : World) (Bb X : Nat) (rl : List Int) (rn : List NodeD) (wx : World) : Prop := ∃ Ak ck An cn, wx.heap[V4.heap.size]? = some (.cells #[.slice Ak rl.length ck, .slice An rn.length cn] 27 (0, 0)) ∧ Below V4.heap.size V4 wx ∧ TreeS wx (fun b => (Bb ≤ b ∧ b ≠ X) ∧ b ≠ w.heap.size ∧ b ≠ w.heap.size + 1) (.slice Ak rl.length ck) (.slice An rn.length cn) rl rn
set_option maxHeartbeats 32000000 in
theorem l6Join_any (vl vn : Value) (lo : List Int) (ts : List NodeD) (Bb X : Nat) (w : World) (hv : TreeS w (fun b => Bb ≤ b ∧ b ≠ X) vl vn lo ts) (hX : X < w.heap.size) (hlen : lo.length = ts.length) (hn : ts.length ≤ 1048576) (hs : sumT ts ≤ 1048576) (hBb : Bb ≤ w.heap.size) :
    Calls Tryz.prog 54 #[.agg #[vl, vn]] w (MakesT w Bb X (joinK (lo, ts)).1 (joinK (lo, ts)).2) := by
  obtain ⟨J, hJ⟩ : ∃ J, joinK (lo, ts) = J := ⟨_, rfl⟩
  rw [hJ]
  obtain ⟨A, c, B, d, rfl, rfl⟩ := hv.reads.shape
  have hb2 := bal2 w (.cells #[.slice A lo.length c, .slice B ts.length d] 27) (.cells #[.slice none 0 0, .slice none 0 0] 27)
  obtain ⟨q0, q1⟩ := al2 w (.cells #[.slice A lo.length c, .slice B ts.length d] 27) (.cells #[.slice none 0 0, .slice none 0 0] 27)
  have HV := Lib.hid (hv.lt.on hb2)
  have HB := Lib.hid hb2
  have Q0 := Lib.hid q0
  have Q1 := Lib.hid q1
  have HJ := Lib.hid hJ
  have HLEN := Lib.hid hlen
  clear hv hb2 q0 q1 hJ hlen
  go_enter Tryz.func54, Tryz.ntmps54
  go_upto_region 1 with (fail)
  generalize (w.alloc (.cells #[.slice A lo.length c, .slice B ts.length d] 27)).alloc (.cells #[.slice none 0 0, .slice none 0 0] 27) = W at *
  obtain ⟨x0, x1, x2⟩ := box2 Q0.out
  go_wp2_with fail
  refine (l6Pair_any _ _ lo ts _ HV.out.reads (by omega) (by omega)).mono ?_
  rintro e w1 ⟨rfl, b1⟩
  have REL : Hid (JoinR w Bb X J w1 (.int .i64 (pairK ts))) := Lib.hid ⟨lo, ts, A, c, B, d, rfl, box_on Q0.out b1, box_on Q1.out b1, (HV.out.on b1).mono (fun b hb => ⟨hb.1, by omega, by omega⟩), HJ.out, HLEN.out, hn, hs, bstep HB.out b1⟩
  clear x0 x1 x2 b1 Q0 Q1 HV HB HLEN HJ
  go_wp2
  go_loopw [3] (fun q wr => Hid (JoinR w Bb X J wr q)) (fun _ wr => lenN1 w.heap.size wr)
  case atStart => exact REL
  case round =>
    clear REL hn hs
    obtain ⟨lo, ts, A, c, B, d, rfl, q0, q1, hv, hJ, hlen, hn, hs, hb⟩ := hrel.out
    rcases pair_spec ts with ⟨hp, _⟩ | ⟨i, hp, hlt, hfew, _⟩
    · rw [hp]
      have hj := join_done (t := (lo, ts)) hp
      rw [hJ] at hj
      have HJ : Hid (J.1 = lo ∧ J.2 = ts) := Lib.hid ⟨by rw [hj], by rw [hj]⟩
      obtain ⟨x0, x1, x2⟩ := box2 q0
      obtain ⟨y0, y1, y2⟩ := box2 q1
      have HV := Lib.hid hv
      have HB := Lib.hid hb
      clear hj hJ hv hb q0 q1 hp hrel hlen
      go_wp2
      have HO : ∀ a b, Only (fun b => b = w.heap.size + 1) wr ((wr.setCell ⟨w.heap.size + 1, 0, none⟩ a).setCell ⟨w.heap.size + 1, 1, none⟩ b) := fun a b => only_two _ _ _ _ _ _
      refine bodyPost_ret (v := .agg #[.slice A lo.length c, .slice B ts.length d]) (by simp [results, Tryz.results54, go_sem, y0, y1, y2]) rfl ⟨_, _, rfl, ?_, HB.out.trans ((HO _ _).below HB.out.size (fun b hb => by omega))⟩
      rw [HJ.out.1, HJ.out.2]
      exact (HV.out.keep (fun b hb hl => (HO _ _).block b hl (fun e => hb.2.2 e))).mono (fun b hb => hb.1)
    · have hj := join_step (t := (lo, ts)) hp
      rw [hJ] at hj
      have hjs := joinAt_sum (lo, ts) i hlt
      have hjl := joinAt_len (lo, ts) i hlt
      rw [hp]
      have hltL : i + 1 < lo.length := by omega
      have hii : i < ts.length := by omega
      obtain ⟨K1, hK1⟩ : ∃ K, nodeKeysK ts[i] = K := ⟨_, rfl⟩
      obtain ⟨K2, hK2⟩ : ∃ K, nodeKeysK ts[i + 1] = K := ⟨_, rfl⟩
      have hja : joinAt (lo, ts) i = (lo.take (i + 1) ++ lo.drop (i + 2), setL ts i [nodeNewK (K1 ++ K2)] (i + 2)) := by
        unfold joinAt
        rw [getD_node (show i < ts.length by omega), getD_node hlt, hK1, hK2]
      have HLE : Hid ((lo.take (i + 1) ++ lo.drop (i + 2)).length = i + 1 + (lo.length - (i + 2))) := Lib.hid (by simp; omega)
      have HLN : Hid ((setL ts i [nodeNewK (K1 ++ K2)] (i + 2)).length = i + 1 + (ts.length - (i + 2))) := Lib.hid (by unfold setL; simp; omega)
      have HM1 : Hid ((lo.take (i + 1) ++ lo.drop (i + 2)).map iV = (lo.map iV).take (i + 1) ++ (lo.map iV).drop (i + 2)) := Lib.hid (by simp [List.map_take, List.map_drop])
      have HM2 := Lib.hid (set_map setsD ts i [nodeNewK (K1 ++ K2)] (i + 2))
      rw [hja] at hj hjs hjl
      have HJ2 := Lib.hid hj.symm
      have HJS := Lib.hid hjs
      have HJL := Lib.hid hjl
      have HEQ : Hid ((lo.take (i + 1) ++ lo.drop (i + 2)).length = (setL ts i [nodeNewK (K1 ++ K2)] (i + 2)).length) := Lib.hid (by rw [HLE.out, HLN.out, hlen])
      generalize lo.take (i + 1) ++ lo.drop (i + 2) = rl at *
      generalize setL ts i [nodeNewK (K1 ++ K2)] (i + 2) = rn at *
      obtain ⟨KK, hKK⟩ : ∃ KK, K1 ++ K2 = KK := ⟨_, rfl⟩
      have hkl : KK.length = K1.length + K2.length := by rw [← hKK, List.length_append]
      have HKK := Lib.hid hKK
      have hkl1 := Nat.le_of_eq hkl
      rw [hKK] at HM2
      clear hKK hkl
      have hk1 := nodeKeys_len ts[i]
      have hk2 := nodeKeys_len ts[i + 1]
      have hl1 := sumT_mem (List.getElem_mem (show i < ts.length by omega))
      have hl2 := sumT_mem (List.getElem_mem hlt)
      rw [hK1] at hk1
      rw [hK2] at hk2
      have hf6 := (few_iff _ _).1 hfew
      rw [hK1, hK2] at hf6
      have HK1 := Lib.hid hK1
      have HK2 := Lib.hid hK2
      obtain ⟨P, Q, hP, hQ, hPQ, hvl, hvn⟩ := hv
      have hcl := hvl.lenC
      have HAL := Lib.hid hvl.reads.atI
      obtain ⟨xs, hxa, hxl, hxo, hx1, hcn⟩ := hvn.nodeCells
      have HXA := Lib.hid hxa
      have HXL := Lib.hid hxl
      have HXO := Lib.hid hxo.lt
      have HX1 := Lib.hid hx1
      have HI1 := Lib.hid (one_iV lo)
      have HQ := Lib.hid hQ
      obtain ⟨b, off, hBe, hbb, hc⟩ := hvn.reads.node hlt
      subst hBe
      obtain ⟨Aa, da, e1, _, _, r1⟩ := hc i hii
      obtain ⟨Ab, db, e2, _, _, r2⟩ := hc (i + 1) hlt
      have R1 := Lib.hid r1
      have R2 := Lib.hid r2
      have E1 := Lib.hid e1
      have E2 := Lib.hid e2
      have QW := Lib.hid q0
      have Q1 := Lib.hid q1
      have HB := Lib.hid hb
      have hwr : w.heap.size + 1 < wr.heap.size := (Array.getElem?_eq_some_iff.1 q1).1
      have h2a := Nat.le_of_eq hlen
      have h2b := Nat.le_of_eq hlen.symm
      have HD := Lib.hid (lenN1_box q0)
      have i1 : (i : Int) + 1 < (ts.length : Int) := by omega
      have i2 : (0 : Int) ≤ (i : Int) := by omega
      have i3 : (0 : Int) ≤ (i : Int) + 1 := by omega
      have i4 : (i : Int) < (ts.length : Int) := by omega
      have i5 : ((i : Int) + 1).toNat = i + 1 := by omega
      have i6 : IntKind.i64.wrap ((i : Int) + 1) = (i : Int) + 1 := by rw [IntKind.wrap_i64]; omega
      have i7 : IntKind.i64.wrap ((i : Int) + 2) = (i : Int) + 2 := by rw [IntKind.wrap_i64]; omega
      have i8 : (i : Int) + 1 ≤ (c : Int) := by omega
      have i9 : (i : Int) + 2 ≤ (lo.length : Int) := by omega
      have i10 : (0 : Int) ≤ (i : Int) + 2 := by omega
      have i11 : ((i : Int) + 2).toNat = i + 2 := by omega
      have i12 : (i : Int) + 2 ≤ (ts.length : Int) := by omega
      have i13 : (i : Int) ≤ (d : Int) := by omega
      have i14 : (i : Int) + 1 ≤ (i : Int) + 2 := by omega
      have i15 : (i : Int) ≤ (i : Int) + 2 := by omega
      clear hrel hj hja hjs hjl hJ hlen hb q0 q1 hvl hvn hxa hxl hxo hx1 hQ hc r1 r2 e1 e2 hP hPQ hK1 hK2 hp hfew
      obtain ⟨x0, x1, x2⟩ := box2 QW.out
      go_wp2
      clear x0 x1 x2
      refine but_begin (f := 14) (S := fun V => Below wr.heap.size wr V) (by kernel_rfl) ?_
      refine but_take (f := 14) (i := 0) (v := ?vj0) rfl (by kernel_rfl) (by kernel_rfl) (by kernel_rfl) (by kernel_rfl) (by kernel_rfl) (fun _ _ _ h => h) (Or.inl ⟨(by rfl), ?hyj0⟩) (Below.drew1 _) ?restj0
      case hyj0 =>
        intro W hW
        go_simp
        exact rfl
      simp only [List.getElem_toArray, List.getElem_cons_succ, List.getElem_cons_zero, Act.put, List.setIfInBounds_toArray, List.set_cons_zero, List.set_cons_succ]
      refine but_take (f := 14) (i := 1) (v := ?vj1) rfl (by kernel_rfl) (by kernel_rfl) (by kernel_rfl) (by kernel_rfl) (by kernel_rfl) (fun _ _ _ h => h) (Or.inl ⟨(by rfl), ?hyj1⟩) (Below.drew1 _) ?restj1
      case hyj1 =>
        intro W hW
        obtain ⟨x0, x1, x2⟩ := box2 (box_on QW.out hW)
        go_simp
        exact rfl
      simp only [List.getElem_toArray, List.getElem_cons_succ, List.getElem_cons_zero, Act.put, List.setIfInBounds_toArray, List.set_cons_zero, List.set_cons_succ]
      refine but_take (f := 14) (i := 2) (v := ?vj2) rfl (by kernel_rfl) (by kernel_rfl) (by kernel_rfl) (by kernel_rfl) (by kernel_rfl) (fun _ _ _ h => h) (Or.inl ⟨(by rfl), ?hyj2⟩) (Below.drew1 _) ?restj2
      case hyj2 =>
        intro W hW
        go_simp
        exact rfl
      simp only [List.getElem_toArray, List.getElem_cons_succ, List.getElem_cons_zero, Act.put, List.setIfInBounds_toArray, List.set_cons_zero, List.set_cons_succ]
      refine but_take (f := 14) (i := 3) (v := ?vj3) rfl (by kernel_rfl) (by kernel_rfl) (by kernel_rfl) (by kernel_rfl) (by kernel_rfl) (fun _ _ _ h => h) (Or.inl ⟨(by rfl), ?hyj3⟩) (Below.drew1 _) ?restj3
      case hyj3 =>
        intro W hW
        go_simp
        exact rfl
      simp only [List.getElem_toArray, List.getElem_cons_succ, List.getElem_cons_zero, Act.put, List.setIfInBounds_toArray, List.set_cons_zero, List.set_cons_succ]
      refine but_take (f := 14) (i := 4) (v := ?vj4) rfl (by kernel_rfl) (by kernel_rfl) (by kernel_rfl) (by kernel_rfl) (by kernel_rfl) (fun _ _ _ h => h) (Or.inl ⟨(by rfl), ?hyj4⟩) (Below.drew1 _) ?restj4
      case hyj4 =>
        intro W hW
        have e1 := (hW.cell (p := ⟨b, off + i, none⟩) hbb).trans E1.out
        have e2 := (hW.cell (p := ⟨b, off + (i + 1), none⟩) hbb).trans E2.out
        go_simp
        exact rfl
      simp only [List.getElem_toArray, List.getElem_cons_succ, List.getElem_cons_zero, Act.put, List.setIfInBounds_toArray, List.set_cons_zero, List.set_cons_succ]
      refine but_take (f := 14) (i := 6) (v := ?vj6) rfl (by kernel_rfl) (by kernel_rfl) (by kernel_rfl) (by kernel_rfl) (by kernel_rfl) (fun _ _ _ h => h) (Or.inl ⟨(by rfl), ?hyj6⟩) (Below.drew1 _) ?restj6
      case hyj6 =>
        intro W hW
        go_simp
        exact rfl
      simp only [List.getElem_toArray, List.getElem_cons_succ, List.getElem_cons_zero, Act.put, List.setIfInBounds_toArray, List.set_cons_zero, List.set_cons_succ]
      refine but_take (f := 14) (i := 7) (v := ?vj7) rfl (by kernel_rfl) (by kernel_rfl) (by kernel_rfl) (by kernel_rfl) (by kernel_rfl) (fun _ _ _ h => h) (Or.inl ⟨(by rfl), ?hyj7⟩) (Below.drew1 _) ?restj7
      case hyj7 =>
        intro W hW
        obtain ⟨x0, x1, x2⟩ := box2 (box_on QW.out hW)
        go_simp
        exact rfl
      simp only [List.getElem_toArray, List.getElem_cons_succ, List.getElem_cons_zero, Act.put, List.setIfInBounds_toArray, List.set_cons_zero, List.set_cons_succ]
      refine but_take (f := 14) (i := 8) (v := ?vj8) rfl (by kernel_rfl) (by kernel_rfl) (by kernel_rfl) (by kernel_rfl) (by kernel_rfl) (fun _ _ _ h => h) (Or.inl ⟨(by rfl), ?hyj8⟩) (Below.drew1 _) ?restj8
      case hyj8 =>
        intro W hW
        go_simp
        exact rfl
      simp only [List.getElem_toArray, List.getElem_cons_succ, List.getElem_cons_zero, Act.put, List.setIfInBounds_toArray, List.set_cons_zero, List.set_cons_succ]
      refine but_take (f := 14) (i := 9) (v := ?vj9) rfl (by kernel_rfl) (by kernel_rfl) (by kernel_rfl) (by kernel_rfl) (by kernel_rfl) (fun _ _ _ h => h) (Or.inl ⟨(by rfl), ?hyj9⟩) (Below.drew1 _) ?restj9
      case hyj9 =>
        intro W hW
        go_simp
        exact rfl
      simp only [List.getElem_toArray, List.getElem_cons_succ, List.getElem_cons_zero, Act.put, List.setIfInBounds_toArray, List.set_cons_zero, List.set_cons_succ]
      refine but_take (f := 14) (i := 10) (v := ?vj10) rfl (by kernel_rfl) (by kernel_rfl) (by kernel_rfl) (by kernel_rfl) (by kernel_rfl) (fun _ _ _ h => h) (Or.inl ⟨(by rfl), ?hyj10⟩) (Below.drew1 _) ?restj10
      case hyj10 =>
        intro W hW
        go_simp
        exact rfl
      simp only [List.getElem_toArray, List.getElem_cons_succ, List.getElem_cons_zero, Act.put, List.setIfInBounds_toArray, List.set_cons_zero, List.set_cons_succ]
      refine but_take (f := 14) (i := 11) (v := ?vj11) rfl (by kernel_rfl) (by kernel_rfl) (by kernel_rfl) (by kernel_rfl) (by kernel_rfl) (fun _ _ _ h => h) (Or.inl ⟨(by rfl), ?hyj11⟩) (Below.drew1 _) ?restj11
      case hyj11 =>
        intro W hW
        have e1 := (hW.cell (p := ⟨b, off + i, none⟩) hbb).trans E1.out
        have e2 := (hW.cell (p := ⟨b, off + (i + 1), none⟩) hbb).trans E2.out
        go_simp
        exact rfl
      simp only [List.getElem_toArray, List.getElem_cons_succ, List.getElem_cons_zero, Act.put, List.setIfInBounds_toArray, List.set_cons_zero, List.set_cons_succ]
      refine but_run (i := 5) (by kernel_rfl) rfl (by rfl) ?_
      simp only [List.getElem_toArray, List.getElem_cons_succ, List.getElem_cons_zero]
      intro K HK
      go_wp2_with fail
      refine (specNodeKeys_any _ ts[i] _ (R1.out.on (Below.drew1 _)) (by omega) (by omega)).mono ?_
      rintro r Vj1 ⟨va, rfl, oa, hbj1⟩
      rw [HK1.out] at oa
      obtain ⟨A1, c1, rfl, _, _⟩ := oa.shape
      go_wp2_with fail
      have hSj1 : (fun V => Below wr.heap.size wr V) Vj1 := bstep (Below.drew1 _) hbj1
      refine HK.out _ _ (fun _ => hSj1) ?_
      clear HK
      have OA := Lib.hid (oa.mono (base' := wr.heap.size) ((Below.drew1 _)).size)
      clear oa
      refine but_run (i := 12) (by kernel_rfl) rfl (by rfl) ?_
      simp only [List.getElem_toArray, List.getElem_cons_succ, List.getElem_cons_zero]
      intro K HK
      go_wp2_with fail
      refine (specNodeKeys_any _ ts[i + 1] _ (R2.out.on hSj1) (by omega) (by omega)).mono ?_
      rintro r Vj2 ⟨vb, rfl, ob, hbj2⟩
      rw [HK2.out] at ob
      obtain ⟨A2, c2, rfl, _, _⟩ := ob.shape
      go_wp2_with fail
      have hSj2 : (fun V => Below wr.heap.size wr V) Vj2 := bstep hSj1 hbj2
      refine HK.out _ _ (fun _ => hSj2) ?_
      clear HK
      replace OA := Lib.hid (OA.out.on hbj2)
      have AB := Lib.hid ob.owns.reads.atK
      clear ob
      refine but_run (i := 13) (by kernel_rfl) rfl (by rfl) ?_
      simp only [List.getElem_toArray, List.getElem_cons_succ, List.getElem_cons_zero]
      intro K HK
      refine operAppN _ (by rfl) (.tmp 17) (.tmp 24) 36 29 5 40 (.agg #[.int .i64 0, .int .i64 0, .int .i64 0, .int .i64 0, .int .i64 0]) (by rfl) Tryz.underlying36 (by kernel_rfl) rfl (by omega) (by omega) wr.heap.size K1.length _ (kvl K1) (by rfl) OA.out A2 K2.length c2 (kvl K2) (by rfl) (kvl_len _) AB.out (kvl_cells _) (by omega) hSj2.size ?_
      intro vj3 Vj3 oj3 gj3 _ aj3
      have hgbj3 := grown_below hSj2 gj3 OA.out (Nat.le_refl _)
      have OK : RowK Vj3 wr.heap.size vj3 KK := by
        rw [← HKK.out]
        unfold RowK
        rw [List.length_append, kvl_append]
        exact oj3
      obtain ⟨Aj3, cj3, rfl, _, _⟩ := OK.shape
      have hSj3 : (fun V => Below wr.heap.size wr V) Vj3 := hgbj3
      refine HK.out _ _ (fun _ => hSj3) ?_
      clear HK
      have OKK := Lib.hid OK
      clear OK oj3 OA AB
      simp only [List.getElem_toArray, List.getElem_cons_succ, List.getElem_cons_zero, Act.put, List.setIfInBounds_toArray, List.set_cons_zero, List.set_cons_succ]
      refine but_run (i := 14) (by kernel_rfl) rfl (by rfl) ?_
      simp only [List.getElem_toArray, List.getElem_cons_succ, List.getElem_cons_zero]
      intro K HK
      go_wp2_with fail
      refine HK.out _ _ (fun h => absurd rfl h) ?_
      clear HK
      refine but_done (by kernel_rfl) ?_
      have B4 : Below wr.heap.size wr Vj3 := hSj3
      have V4z := B4.size
      have QZ := Lib.hid (al1 Vj3 (.cells #[.slice none 0 0, .slice none 0 0] 27))
      have BZ := Lib.hid (bal1 Vj3 (.cells #[.slice none 0 0, .slice none 0 0] 27))
      have HBW := Lib.hid B4
      have hz5 : (Vj3.alloc (.cells #[.slice none 0 0, .slice none 0 0] 27)).heap.size = Vj3.heap.size + 1 := by simp
      have HZ5 := Lib.hid hz5
      clear hz5 B4
      go_upto_region 6 with (fail)
      obtain ⟨V4, rfl⟩ : ∃ V, V = Vj3 := ⟨_, rfl⟩
      have QT5 := Lib.hid (box_on (box_on QW.out HBW.out) BZ.out)
      generalize V4.alloc (.cells #[.slice none 0 0, .slice none 0 0] 27) = W5 at *
      have hy1 := Nat.le_of_eq HZ5.out
      have hy2 := Nat.le_of_eq HZ5.out.symm
      have HAT := Lib.hid ((HAL.out.on HBW.out).on BZ.out)
      go_cut [39] (fun _ wx => Hid (JoinMid V4 rl wx))
      case first =>
        by_cases hcN : c = i + 2
        · subst hcN
          refine but_begin (f := 14) (S := fun V => Below W5.heap.size W5 V) (by kernel_rfl) ?_
          refine but_take (f := 14) (i := 1) (v := ?vp1) rfl (by kernel_rfl) (by kernel_rfl) (by kernel_rfl) (by kernel_rfl) (by kernel_rfl) (fun _ _ _ h => h) (Or.inl ⟨(by rfl), ?hyp1⟩) (Below.drew1 _) ?restp1
          case hyp1 =>
            intro W hW
            go_simp
            exact rfl
          simp only [List.getElem_toArray, List.getElem_cons_succ, List.getElem_cons_zero, Act.put, List.setIfInBounds_toArray, List.set_cons_zero, List.set_cons_succ]
          refine but_take (f := 14) (i := 2) (v := ?vp2) rfl (by kernel_rfl) (by kernel_rfl) (by kernel_rfl) (by kernel_rfl) (by kernel_rfl) (fun _ _ _ h => h) (Or.inl ⟨(by rfl), ?hyp2⟩) (Below.drew1 _) ?restp2
          case hyp2 =>
            intro W hW
            obtain ⟨x0, x1, x2⟩ := box2 (box_on QT5.out hW)
            go_simp
            exact rfl
          simp only [List.getElem_toArray, List.getElem_cons_succ, List.getElem_cons_zero, Act.put, List.setIfInBounds_toArray, List.set_cons_zero, List.set_cons_succ]
          refine but_take (f := 14) (i := 3) (v := ?vp3) rfl (by kernel_rfl) (by kernel_rfl) (by kernel_rfl) (by kernel_rfl) (by kernel_rfl) (fun _ _ _ h => h) (Or.inl ⟨(by rfl), ?hyp3⟩) (Below.drew1 _) ?restp3
          case hyp3 =>
            intro W hW
            go_simp
            exact rfl
          simp only [List.getElem_toArray, List.getElem_cons_succ, List.getElem_cons_zero, Act.put, List.setIfInBounds_toArray, List.set_cons_zero, List.set_cons_succ]
          refine but_take (f := 14) (i := 4) (v := ?vp4) rfl (by kernel_rfl) (by kernel_rfl) (by kernel_rfl) (by kernel_rfl) (by kernel_rfl) (fun _ _ _ h => h) (Or.inl ⟨(by rfl), ?hyp4⟩) (Below.drew1 _) ?restp4
          case hyp4 =>
            intro W hW
            go_simp
            exact rfl
          simp only [List.getElem_toArray, List.getElem_cons_succ, List.getElem_cons_zero, Act.put, List.setIfInBounds_toArray, List.set_cons_zero, List.set_cons_succ]
          refine but_take (f := 14) (i := 5) (v := ?vp5) rfl (by kernel_rfl) (by kernel_rfl) (by kernel_rfl) (by kernel_rfl) (by kernel_rfl) (fun _ _ _ h => h) (Or.inl ⟨(by rfl), ?hyp5⟩) (Below.drew1 _) ?restp5
          case hyp5 =>
            intro W hW
            go_simp
            exact rfl
          simp only [List.getElem_toArray, List.getElem_cons_succ, List.getElem_cons_zero, Act.put, List.setIfInBounds_toArray, List.set_cons_zero, List.set_cons_succ]
          refine but_take (f := 14) (i := 7) (v := ?vp7) rfl (by kernel_rfl) (by kernel_rfl) (by kernel_rfl) (by kernel_rfl) (by kernel_rfl) (fun _ _ _ h => h) (Or.inl ⟨(by rfl), ?hyp7⟩) (Below.drew1 _) ?restp7
          case hyp7 =>
            intro W hW
            go_simp
            exact rfl
          simp only [List.getElem_toArray, List.getElem_cons_succ, List.getElem_cons_zero, Act.put, List.setIfInBounds_toArray, List.set_cons_zero, List.set_cons_succ]
          refine but_take (f := 14) (i := 8) (v := ?vp8) rfl (by kernel_rfl) (by kernel_rfl) (by kernel_rfl) (by kernel_rfl) (by kernel_rfl) (fun _ _ _ h => h) (Or.inl ⟨(by rfl), ?hyp8⟩) (Below.drew1 _) ?restp8
          case hyp8 =>
            intro W hW
            obtain ⟨x0, x1, x2⟩ := box2 (box_on QT5.out hW)
            go_simp
            exact rfl
          simp only [List.getElem_toArray, List.getElem_cons_succ, List.getElem_cons_zero, Act.put, List.setIfInBounds_toArray, List.set_cons_zero, List.set_cons_succ]
          refine but_take (f := 14) (i := 9) (v := ?vp9) rfl (by kernel_rfl) (by kernel_rfl) (by kernel_rfl) (by kernel_rfl) (by kernel_rfl) (fun _ _ _ h => h) (Or.inl ⟨(by rfl), ?hyp9⟩) (Below.drew1 _) ?restp9
          case hyp9 =>
            intro W hW
            go_simp
            exact rfl
          simp only [List.getElem_toArray, List.getElem_cons_succ, List.getElem_cons_zero, Act.put, List.setIfInBounds_toArray, List.set_cons_zero, List.set_cons_succ]
          refine but_take (f := 14) (i := 10) (v := ?vp10) rfl (by kernel_rfl) (by kernel_rfl) (by kernel_rfl) (by kernel_rfl) (by kernel_rfl) (fun _ _ _ h => h) (Or.inl ⟨(by rfl), ?hyp10⟩) (Below.drew1 _) ?restp10
          case hyp10 =>
            intro W hW
            go_simp
            exact rfl
          simp only [List.getElem_toArray, List.getElem_cons_succ, List.getElem_cons_zero, Act.put, List.setIfInBounds_toArray, List.set_cons_zero, List.set_cons_succ]
          refine but_take (f := 14) (i := 11) (v := ?vp11) rfl (by kernel_rfl) (by kernel_rfl) (by kernel_rfl) (by kernel_rfl) (by kernel_rfl) (fun _ _ _ h => h) (Or.inl ⟨(by rfl), ?hyp11⟩) (Below.drew1 _) ?restp11
          case hyp11 =>
            intro W hW
            go_simp
            exact rfl
          simp only [List.getElem_toArray, List.getElem_cons_succ, List.getElem_cons_zero, Act.put, List.setIfInBounds_toArray, List.set_cons_zero, List.set_cons_succ]
          refine but_run (i := 0) (by kernel_rfl) rfl (by rfl) ?_
          simp only [List.getElem_toArray, List.getElem_cons_succ, List.getElem_cons_zero]
          intro K HK
          go_wp2_with fail
          have hSp1 : (fun V => Below W5.heap.size W5 V) (W5.drew.alloc (.cells #[] 3)) := bstep (Below.drew1 _) (bal1 _ _)
          refine HK.out _ _ (fun _ => hSp1) ?_
          clear HK
          have Rp1 := Lib.hid (row_lit W5.drew 3 1)
          refine but_run (i := 6) (by kernel_rfl) rfl (by rfl) ?_
          simp only [List.getElem_toArray, List.getElem_cons_succ, List.getElem_cons_zero]
          intro K HK
          refine operAppN _ (by rfl) (.tmp 27) (.tmp 32) 24 3 1 8 (.int .i64 0) (by rfl) Tryz.underlying24 (by kernel_rfl) rfl (by omega) (by omega) W5.heap.size (0) _ ([]) (by rfl) Rp1.out (A) (i + 1) ((i + 2)) ((lo.map iV).take (i + 1)) (by rfl) (by simp; omega) (((HAT.out.on hSp1).takeV (i + 1))) (fun u hu => HI1.out u (List.mem_of_mem_take hu)) (by omega) (Nat.le_trans (Nat.le_refl _) (hSp1.size)) ?_
          intro vp2 Vp2 op2 gp2 _ ap2
          rw [Nat.zero_add, List.nil_append] at op2
          obtain ⟨Ap2, cp2, rfl⟩ := row_form op2
          have hSp2 : (fun V => Below W5.heap.size W5 V) Vp2 := grown_below hSp1 gp2 Rp1.out (Nat.le_refl _)
          refine HK.out _ _ (fun _ => hSp2) ?_
          clear HK
          have Rp2 := Lib.hid op2
          clear op2
          simp only [List.getElem_toArray, List.getElem_cons_succ, List.getElem_cons_zero, Act.put, List.setIfInBounds_toArray, List.set_cons_zero, List.set_cons_succ]
          refine but_run (i := 12) (by kernel_rfl) rfl (by rfl) ?_
          simp only [List.getElem_toArray, List.getElem_cons_succ, List.getElem_cons_zero]
          intro K HK
          refine operAppN _ (by rfl) (.tmp 33) (.tmp 38) 24 3 1 8 (.int .i64 0) (by rfl) Tryz.underlying24 (by kernel_rfl) rfl (by omega) (by omega) W5.heap.size (i + 1) _ ((lo.map iV).take (i + 1)) (by rfl) Rp2.out (_) (0) (_) ([]) (by rfl) (rfl) (.inl rfl) (fun u hu => by simp at hu) (by omega) (Nat.le_trans (Nat.le_refl _) (hSp2.size)) ?_
          intro vp3 Vp3 op3 gp3 _ ap3
          have e1 : i + 1 + 0 = rl.length := by rw [HLE.out]; omega
          have e2 : (lo.map iV).take (i + 1) ++ [] = rl.map iV := by rw [HM1.out, show (lo.map iV).drop (i + 2) = [] from List.drop_eq_nil_of_le (by simp; omega)]
          rw [e2, e1] at op3
          clear e1 e2
          obtain ⟨o0, o1, o2⟩ := box2 (box_on QZ.out (grown_below hSp2 gp3 Rp2.out (Nat.le_refl _)))
          obtain ⟨Ap3, cp3, rfl⟩ := row_form op3
          have hSp3 : (fun V => Below W5.heap.size W5 V) Vp3 := grown_below hSp2 gp3 Rp2.out (Nat.le_refl _)
          refine HK.out _ _ (fun _ => hSp3) ?_
          clear HK
          have Rp3 := Lib.hid op3
          clear op3
          simp only [List.getElem_toArray, List.getElem_cons_succ, List.getElem_cons_zero, Act.put, List.setIfInBounds_toArray, List.set_cons_zero, List.set_cons_succ]
          refine but_take (f := 14) (i := 13) (v := ?vp13) rfl (by kernel_rfl) (by kernel_rfl) (by kernel_rfl) (by kernel_rfl) (by kernel_rfl) (fun _ _ _ h => h) (Or.inl ⟨(by rfl), ?hyp13⟩) hSp3 ?restp13
          case hyp13 =>
            intro W hW
            go_simp
            exact rfl
          simp only [List.getElem_toArray, List.getElem_cons_succ, List.getElem_cons_zero, Act.put, List.setIfInBounds_toArray, List.set_cons_zero, List.set_cons_succ]
          refine but_run (i := 14) (by kernel_rfl) rfl (by rfl) ?_
          simp only [List.getElem_toArray, List.getElem_cons_succ, List.getElem_cons_zero]
          intro K HK
          go_wp2_with fail
          refine HK.out _ _ (fun h => absurd rfl h) ?_
          clear HK
          refine but_done (by kernel_rfl) ?_
          have hW6 : Below W5.heap.size W5 Vp3 := hSp3
          have hsz := hW6.size
          have FIN : Hid (JoinMid V4 rl (Vp3.setCell ⟨V4.heap.size, 0, none⟩ (.slice Ap3 rl.length cp3))) := Lib.hid ⟨_, _, box_set (i := 0) (u := .slice Ap3 rl.length cp3) (box_on QZ.out hW6), (BZ.out.trans (hW6.mono (by omega))).setCell (p := ⟨V4.heap.size, 0, none⟩) (Nat.le_refl _) (.slice Ap3 rl.length cp3), (row_ints (row_keep Rp3.out (w' := Vp3.setCell ⟨V4.heap.size, 0, none⟩ (.slice Ap3 rl.length cp3)) (fun g hg => Below.heap_setCell _ _ _ _ (by have := (row_lt Rp3.out g hg).2; simp; omega)))).lt.mono (fun b hb => ⟨by omega, hb.2⟩), by simp; omega⟩
          go_wp2_with fail
          go_meet
          exact FIN
        · have hcc : i + 2 < c := by omega
          refine but_begin (f := 14) (S := fun V => Below W5.heap.size W5 V) (by kernel_rfl) ?_
          refine but_take (f := 14) (i := 1) (v := ?vq1) rfl (by kernel_rfl) (by kernel_rfl) (by kernel_rfl) (by kernel_rfl) (by kernel_rfl) (fun _ _ _ h => h) (Or.inl ⟨(by rfl), ?hyq1⟩) (Below.drew1 _) ?restq1
          case hyq1 =>
            intro W hW
            go_simp
            exact rfl
          simp only [List.getElem_toArray, List.getElem_cons_succ, List.getElem_cons_zero, Act.put, List.setIfInBounds_toArray, List.set_cons_zero, List.set_cons_succ]
          refine but_take (f := 14) (i := 2) (v := ?vq2) rfl (by kernel_rfl) (by kernel_rfl) (by kernel_rfl) (by kernel_rfl) (by kernel_rfl) (fun _ _ _ h => h) (Or.inl ⟨(by rfl), ?hyq2⟩) (Below.drew1 _) ?restq2
          case hyq2 =>
            intro W hW
            obtain ⟨x0, x1, x2⟩ := box2 (box_on QT5.out hW)
            go_simp
            exact rfl
          simp only [List.getElem_toArray, List.getElem_cons_succ, List.getElem_cons_zero, Act.put, List.setIfInBounds_toArray, List.set_cons_zero, List.set_cons_succ]
          refine but_take (f := 14) (i := 3) (v := ?vq3) rfl (by kernel_rfl) (by kernel_rfl) (by kernel_rfl) (by kernel_rfl) (by kernel_rfl) (fun _ _ _ h => h) (Or.inl ⟨(by rfl), ?hyq3⟩) (Below.drew1 _) ?restq3
          case hyq3 =>
            intro W hW
            go_simp
            exact rfl
          simp only [List.getElem_toArray, List.getElem_cons_succ, List.getElem_cons_zero, Act.put, List.setIfInBounds_toArray, List.set_cons_zero, List.set_cons_succ]
          refine but_take (f := 14) (i := 4) (v := ?vq4) rfl (by kernel_rfl) (by kernel_rfl) (by kernel_rfl) (by kernel_rfl) (by kernel_rfl) (fun _ _ _ h => h) (Or.inl ⟨(by rfl), ?hyq4⟩) (Below.drew1 _) ?restq4
          case hyq4 =>
            intro W hW
            go_simp
            exact rfl
          simp only [List.getElem_toArray, List.getElem_cons_succ, List.getElem_cons_zero, Act.put, List.setIfInBounds_toArray, List.set_cons_zero, List.set_cons_succ]
          refine but_take (f := 14) (i := 5) (v := ?vq5) rfl (by kernel_rfl) (by kernel_rfl) (by kernel_rfl) (by kernel_rfl) (by kernel_rfl) (fun _ _ _ h => h) (Or.inl ⟨(by rfl), ?hyq5⟩) (Below.drew1 _) ?restq5
          case hyq5 =>
            intro W hW
            go_simp
            exact rfl
          simp only [List.getElem_toArray, List.getElem_cons_succ, List.getElem_cons_zero, Act.put, List.setIfInBounds_toArray, List.set_cons_zero, List.set_cons_succ]
          refine but_take (f := 14) (i := 7) (v := ?vq7) rfl (by kernel_rfl) (by kernel_rfl) (by kernel_rfl) (by kernel_rfl) (by kernel_rfl) (fun _ _ _ h => h) (Or.inl ⟨(by rfl), ?hyq7⟩) (Below.drew1 _) ?restq7
          case hyq7 =>
            intro W hW
            go_simp
            exact rfl
          simp only [List.getElem_toArray, List.getElem_cons_succ, List.getElem_cons_zero, Act.put, List.setIfInBounds_toArray, List.set_cons_zero, List.set_cons_succ]
          refine but_take (f := 14) (i := 8) (v := ?vq8) rfl (by kernel_rfl) (by kernel_rfl) (by kernel_rfl) (by kernel_rfl) (by kernel_rfl) (fun _ _ _ h => h) (Or.inl ⟨(by rfl), ?hyq8⟩) (Below.drew1 _) ?restq8
          case hyq8 =>
            intro W hW
            obtain ⟨x0, x1, x2⟩ := box2 (box_on QT5.out hW)
            go_simp
            exact rfl
          simp only [List.getElem_toArray, List.getElem_cons_succ, List.getElem_cons_zero, Act.put, List.setIfInBounds_toArray, List.set_cons_zero, List.set_cons_succ]
          refine but_take (f := 14) (i := 9) (v := ?vq9) rfl (by kernel_rfl) (by kernel_rfl) (by kernel_rfl) (by kernel_rfl) (by kernel_rfl) (fun _ _ _ h => h) (Or.inl ⟨(by rfl), ?hyq9⟩) (Below.drew1 _) ?restq9
          case hyq9 =>
            intro W hW
            go_simp
            exact rfl
          simp only [List.getElem_toArray, List.getElem_cons_succ, List.getElem_cons_zero, Act.put, List.setIfInBounds_toArray, List.set_cons_zero, List.set_cons_succ]
          refine but_take (f := 14) (i := 10) (v := ?vq10) rfl (by kernel_rfl) (by kernel_rfl) (by kernel_rfl) (by kernel_rfl) (by kernel_rfl) (fun _ _ _ h => h) (Or.inl ⟨(by rfl), ?hyq10⟩) (Below.drew1 _) ?restq10
          case hyq10 =>
            intro W hW
            go_simp
            exact rfl
          simp only [List.getElem_toArray, List.getElem_cons_succ, List.getElem_cons_zero, Act.put, List.setIfInBounds_toArray, List.set_cons_zero, List.set_cons_succ]
          refine but_take (f := 14) (i := 11) (v := ?vq11) rfl (by kernel_rfl) (by kernel_rfl) (by kernel_rfl) (by kernel_rfl) (by kernel_rfl) (fun _ _ _ h => h) (Or.inl ⟨(by rfl), ?hyq11⟩) (Below.drew1 _) ?restq11
          case hyq11 =>
            intro W hW
            go_simp
            exact rfl
          simp only [List.getElem_toArray, List.getElem_cons_succ, List.getElem_cons_zero, Act.put, List.setIfInBounds_toArray, List.set_cons_zero, List.set_cons_succ]
          refine but_run (i := 0) (by kernel_rfl) rfl (by rfl) ?_
          simp only [List.getElem_toArray, List.getElem_cons_succ, List.getElem_cons_zero]
          intro K HK
          go_wp2_with fail
          have hSq1 : (fun V => Below W5.heap.size W5 V) (W5.drew.alloc (.cells #[] 3)) := bstep (Below.drew1 _) (bal1 _ _)
          refine HK.out _ _ (fun _ => hSq1) ?_
          clear HK
          have Rq1 := Lib.hid (row_lit W5.drew 3 1)
          refine but_run (i := 6) (by kernel_rfl) rfl (by rfl) ?_
          simp only [List.getElem_toArray, List.getElem_cons_succ, List.getElem_cons_zero]
          intro K HK
          refine operAppN _ (by rfl) (.tmp 27) (.tmp 32) 24 3 1 8 (.int .i64 0) (by rfl) Tryz.underlying24 (by kernel_rfl) rfl (by omega) (by omega) W5.heap.size (0) _ ([]) (by rfl) Rq1.out (A) (i + 1) (c) ((lo.map iV).take (i + 1)) (by rfl) (by simp; omega) (((HAT.out.on hSq1).takeV (i + 1))) (fun u hu => HI1.out u (List.mem_of_mem_take hu)) (by omega) (Nat.le_trans (Nat.le_refl _) (hSq1.size)) ?_
          intro vq2 Vq2 oq2 gq2 _ aq2
          rw [Nat.zero_add, List.nil_append] at oq2
          obtain ⟨Aq2, cq2, rfl⟩ := row_form oq2
          have hSq2 : (fun V => Below W5.heap.size W5 V) Vq2 := grown_below hSq1 gq2 Rq1.out (Nat.le_refl _)
          refine HK.out _ _ (fun _ => hSq2) ?_
          clear HK
          have Rq2 := Lib.hid oq2
          clear oq2
          simp only [List.getElem_toArray, List.getElem_cons_succ, List.getElem_cons_zero, Act.put, List.setIfInBounds_toArray, List.set_cons_zero, List.set_cons_succ]
          refine but_run (i := 12) (by kernel_rfl) rfl (by rfl) ?_
          simp only [List.getElem_toArray, List.getElem_cons_succ, List.getElem_cons_zero]
          intro K HK
          refine operAppN _ (by rfl) (.tmp 33) (.tmp 38) 24 3 1 8 (.int .i64 0) (by rfl) Tryz.underlying24 (by kernel_rfl) rfl (by omega) (by omega) W5.heap.size (i + 1) _ ((lo.map iV).take (i + 1)) (by rfl) Rq2.out (_) (lo.length - (i + 2)) (_) ((lo.map iV).drop (i + 2)) (by rfl) (by simp) ((by have h := At.tailV (c := c) (j := i + 2) (HAT.out.on hSq2) (by simp; omega); unfold tailA at h; rw [if_neg hcN] at h; exact h)) (fun u hu => HI1.out u (List.mem_of_mem_drop hu)) (by omega) (Nat.le_trans (Nat.le_refl _) (hSq2.size)) ?_
          intro vq3 Vq3 oq3 gq3 _ aq3
          rw [← HLE.out, ← HM1.out] at oq3
          obtain ⟨o0, o1, o2⟩ := box2 (box_on QZ.out (grown_below hSq2 gq3 Rq2.out (Nat.le_refl _)))
          obtain ⟨Aq3, cq3, rfl⟩ := row_form oq3
          have hSq3 : (fun V => Below W5.heap.size W5 V) Vq3 := grown_below hSq2 gq3 Rq2.out (Nat.le_refl _)
          refine HK.out _ _ (fun _ => hSq3) ?_
          clear HK
          have Rq3 := Lib.hid oq3
          clear oq3
          simp only [List.getElem_toArray, List.getElem_cons_succ, List.getElem_cons_zero, Act.put, List.setIfInBounds_toArray, List.set_cons_zero, List.set_cons_succ]
          refine but_take (f := 14) (i := 13) (v := ?vq13) rfl (by kernel_rfl) (by kernel_rfl) (by kernel_rfl) (by kernel_rfl) (by kernel_rfl) (fun _ _ _ h => h) (Or.inl ⟨(by rfl), ?hyq13⟩) hSq3 ?restq13
          case hyq13 =>
            intro W hW
            go_simp
            exact rfl
          simp only [List.getElem_toArray, List.getElem_cons_succ, List.getElem_cons_zero, Act.put, List.setIfInBounds_toArray, List.set_cons_zero, List.set_cons_succ]
          refine but_run (i := 14) (by kernel_rfl) rfl (by rfl) ?_
          simp only [List.getElem_toArray, List.getElem_cons_succ, List.getElem_cons_zero]
          intro K HK
          go_wp2_with fail
          refine HK.out _ _ (fun h => absurd rfl h) ?_
          clear HK
          refine but_done (by kernel_rfl) ?_
          have hW6 : Below W5.heap.size W5 Vq3 := hSq3
          have hsz := hW6.size
          have FIN : Hid (JoinMid V4 rl (Vq3.setCell ⟨V4.heap.size, 0, none⟩ (.slice Aq3 rl.length cq3))) := Lib.hid ⟨_, _, box_set (i := 0) (u := .slice Aq3 rl.length cq3) (box_on QZ.out hW6), (BZ.out.trans (hW6.mono (by omega))).setCell (p := ⟨V4.heap.size, 0, none⟩) (Nat.le_refl _) (.slice Aq3 rl.length cq3), (row_ints (row_keep Rq3.out (w' := Vq3.setCell ⟨V4.heap.size, 0, none⟩ (.slice Aq3 rl.length cq3)) (fun g hg => Below.heap_setCell _ _ _ _ (by have := (row_lt Rq3.out g hg).2; simp; omega)))).lt.mono (fun b hb => ⟨by omega, hb.2⟩), by simp; omega⟩
          go_wp2_with fail
          go_meet
          exact FIN
      case rest =>
        obtain ⟨Ak, ck, qo, hb6, rl6, hz6⟩ := hcut.out
        obtain ⟨W6, rfl⟩ : ∃ W, W = wc := ⟨_, rfl⟩
        have QO6 := Lib.hid qo
        have HB6 := Lib.hid hb6
        have RL := Lib.hid rl6
        have HWW := Lib.hid (bstep HBW.out hb6)
        have QT6 := Lib.hid (box_on QW.out HWW.out)
        have HAN := Lib.hid (HXA.out.on HWW.out)
        have OK6 := Lib.hid (OKK.out.on hb6)
        have hww := HWW.out.size
        clear qo hb6 rl6 hcut QZ BZ QT5 HAT HAL OKK
        go_upto_region 7 with (fail)
        go_cut [56] (fun _ wx => Hid (JoinEnd w V4 Bb X rl rn wx))
        case first =>
          by_cases hcN : d = i + 2
          · subst hcN
            refine but_begin (f := 17) (S := fun V => Below W6.heap.size W6 V) (by kernel_rfl) ?_
            refine but_take (f := 17) (i := 1) (v := ?vr1) rfl (by kernel_rfl) (by kernel_rfl) (by kernel_rfl) (by kernel_rfl) (by kernel_rfl) (fun _ _ _ h => h) (Or.inl ⟨(by rfl), ?hyr1⟩) (Below.drew1 _) ?restr1
            case hyr1 =>
              intro W hW
              go_simp
              exact rfl
            simp only [List.getElem_toArray, List.getElem_cons_succ, List.getElem_cons_zero, Act.put, List.setIfInBounds_toArray, List.set_cons_zero, List.set_cons_succ]
            refine but_take (f := 17) (i := 2) (v := ?vr2) rfl (by kernel_rfl) (by kernel_rfl) (by kernel_rfl) (by kernel_rfl) (by kernel_rfl) (fun _ _ _ h => h) (Or.inl ⟨(by rfl), ?hyr2⟩) (Below.drew1 _) ?restr2
            case hyr2 =>
              intro W hW
              obtain ⟨x0, x1, x2⟩ := box2 (box_on QT6.out hW)
              go_simp
              exact rfl
            simp only [List.getElem_toArray, List.getElem_cons_succ, List.getElem_cons_zero, Act.put, List.setIfInBounds_toArray, List.set_cons_zero, List.set_cons_succ]
            refine but_take (f := 17) (i := 3) (v := ?vr3) rfl (by kernel_rfl) (by kernel_rfl) (by kernel_rfl) (by kernel_rfl) (by kernel_rfl) (fun _ _ _ h => h) (Or.inl ⟨(by rfl), ?hyr3⟩) (Below.drew1 _) ?restr3
            case hyr3 =>
              intro W hW
              go_simp
              exact rfl
            simp only [List.getElem_toArray, List.getElem_cons_succ, List.getElem_cons_zero, Act.put, List.setIfInBounds_toArray, List.set_cons_zero, List.set_cons_succ]
            refine but_take (f := 17) (i := 4) (v := ?vr4) rfl (by kernel_rfl) (by kernel_rfl) (by kernel_rfl) (by kernel_rfl) (by kernel_rfl) (fun _ _ _ h => h) (Or.inl ⟨(by rfl), ?hyr4⟩) (Below.drew1 _) ?restr4
            case hyr4 =>
              intro W hW
              go_simp
              exact rfl
            simp only [List.getElem_toArray, List.getElem_cons_succ, List.getElem_cons_zero, Act.put, List.setIfInBounds_toArray, List.set_cons_zero, List.set_cons_succ]
            refine but_take (f := 17) (i := 6) (v := ?vr6) rfl (by kernel_rfl) (by kernel_rfl) (by kernel_rfl) (by kernel_rfl) (by kernel_rfl) (fun _ _ _ h => h) (Or.inl ⟨(by rfl), ?hyr6⟩) (Below.drew1 _) ?restr6
            case hyr6 =>
              intro W hW
              go_simp
              exact rfl
            simp only [List.getElem_toArray, List.getElem_cons_succ, List.getElem_cons_zero, Act.put, List.setIfInBounds_toArray, List.set_cons_zero, List.set_cons_succ]
            refine but_take (f := 17) (i := 10) (v := ?vr10) rfl (by kernel_rfl) (by kernel_rfl) (by kernel_rfl) (by kernel_rfl) (by kernel_rfl) (fun _ _ _ h => h) (Or.inl ⟨(by rfl), ?hyr10⟩) (Below.drew1 _) ?restr10
            case hyr10 =>
              intro W hW
              go_simp
              exact rfl
            simp only [List.getElem_toArray, List.getElem_cons_succ, List.getElem_cons_zero, Act.put, List.setIfInBounds_toArray, List.set_cons_zero, List.set_cons_succ]
            refine but_take (f := 17) (i := 11) (v := ?vr11) rfl (by kernel_rfl) (by kernel_rfl) (by kernel_rfl) (by kernel_rfl) (by kernel_rfl) (fun _ _ _ h => h) (Or.inl ⟨(by rfl), ?hyr11⟩) (Below.drew1 _) ?restr11
            case hyr11 =>
              intro W hW
              obtain ⟨x0, x1, x2⟩ := box2 (box_on QT6.out hW)
              go_simp
              exact rfl
            simp only [List.getElem_toArray, List.getElem_cons_succ, List.getElem_cons_zero, Act.put, List.setIfInBounds_toArray, List.set_cons_zero, List.set_cons_succ]
            refine but_take (f := 17) (i := 12) (v := ?vr12) rfl (by kernel_rfl) (by kernel_rfl) (by kernel_rfl) (by kernel_rfl) (by kernel_rfl) (fun _ _ _ h => h) (Or.inl ⟨(by rfl), ?hyr12⟩) (Below.drew1 _) ?restr12
            case hyr12 =>
              intro W hW
              go_simp
              exact rfl
            simp only [List.getElem_toArray, List.getElem_cons_succ, List.getElem_cons_zero, Act.put, List.setIfInBounds_toArray, List.set_cons_zero, List.set_cons_succ]
            refine but_take (f := 17) (i := 13) (v := ?vr13) rfl (by kernel_rfl) (by kernel_rfl) (by kernel_rfl) (by kernel_rfl) (by kernel_rfl) (fun _ _ _ h => h) (Or.inl ⟨(by rfl), ?hyr13⟩) (Below.drew1 _) ?restr13
            case hyr13 =>
              intro W hW
              go_simp
              exact rfl
            simp only [List.getElem_toArray, List.getElem_cons_succ, List.getElem_cons_zero, Act.put, List.setIfInBounds_toArray, List.set_cons_zero, List.set_cons_succ]
            refine but_take (f := 17) (i := 14) (v := ?vr14) rfl (by kernel_rfl) (by kernel_rfl) (by kernel_rfl) (by kernel_rfl) (by kernel_rfl) (fun _ _ _ h => h) (Or.inl ⟨(by rfl), ?hyr14⟩) (Below.drew1 _) ?restr14
            case hyr14 =>
              intro W hW
              go_simp
              exact rfl
            simp only [List.getElem_toArray, List.getElem_cons_succ, List.getElem_cons_zero, Act.put, List.setIfInBounds_toArray, List.set_cons_zero, List.set_cons_succ]
            refine but_run (i := 0) (by kernel_rfl) rfl (by rfl) ?_
            simp only [List.getElem_toArray, List.getElem_cons_succ, List.getElem_cons_zero]
            intro K HK
            go_wp2_with fail
            have hSr1 : (fun V => Below W6.heap.size W6 V) (W6.drew.alloc (.cells #[] 71)) := bstep (Below.drew1 _) (bal1 _ _)
            refine HK.out _ _ (fun _ => hSr1) ?_
            clear HK
            have Rr1 := Lib.hid (row_lit W6.drew 71 1)
            refine but_run (i := 5) (by kernel_rfl) rfl (by rfl) ?_
            simp only [List.getElem_toArray, List.getElem_cons_succ, List.getElem_cons_zero]
            intro K HK
            refine operAppN _ (by rfl) (.tmp 41) (.tmp 45) 25 71 1 24 (.agg #[.slice none 0 0]) (by rfl) Tryz.underlying25 (by kernel_rfl) rfl (by omega) (by omega) W6.heap.size (0) _ ([]) (by rfl) Rr1.out ((some ⟨b, off, none⟩)) (i) ((i + 2)) (xs.take i) (by rfl) (by rw [List.length_take, HXL.out]; omega) (((HAN.out.on hSr1).takeV i)) (fun u hu => HX1.out u (List.mem_of_mem_take hu)) (by omega) (Nat.le_trans (Nat.le_refl _) (hSr1.size)) ?_
            intro vr2 Vr2 or2 gr2 _ ar2
            rw [Nat.zero_add, List.nil_append] at or2
            obtain ⟨Ar2, cr2, rfl⟩ := row_form or2
            have hSr2 : (fun V => Below W6.heap.size W6 V) Vr2 := grown_below hSr1 gr2 Rr1.out (Nat.le_refl _)
            refine HK.out _ _ (fun _ => hSr2) ?_
            clear HK
            have Rr2 := Lib.hid or2
            clear or2
            have GB1 : Hid (∀ g, (Value.slice Ar2 i cr2).ownBlock = some g → g < Vr2.heap.size) := Lib.hid (fun g hg => (row_lt Rr2.out g hg).1)
            simp only [List.getElem_toArray, List.getElem_cons_succ, List.getElem_cons_zero, Act.put, List.setIfInBounds_toArray, List.set_cons_zero, List.set_cons_succ]
            refine but_run (i := 7) (by kernel_rfl) rfl (by rfl) ?_
            simp only [List.getElem_toArray, List.getElem_cons_succ, List.getElem_cons_zero]
            intro K HK
            go_wp2_with fail
            refine (specNodeNew_any _ KK _ (OK6.out.on hSr2).owns.reads (by omega)).mono ?_
            rintro r Vr3 ⟨vn, rfl, on, hbr3⟩
            obtain ⟨Ax, cx, rfl, _, _⟩ := on.reads.lenN
            go_wp2_with fail
            have hSr3 : (fun V => Below W6.heap.size W6 V) Vr3 := bstep hSr2 hbr3
            refine HK.out _ _ (fun _ => hSr3) ?_
            clear HK
            have ON := Lib.hid on.lt
            have N12 := hbr3.size
            have RQ := Lib.hid (row_on Rr2.out hbr3)
            clear on
            refine but_run (i := 8) (by kernel_rfl) rfl (by rfl) ?_
            simp only [List.getElem_toArray, List.getElem_cons_succ, List.getElem_cons_zero]
            intro K HK
            go_wp2_with fail
            have hSr4 : (fun V => Below W6.heap.size W6 V) (Vr3.alloc (.cells #[.slice Ax (nodeNewK KK).length cx] 71)) := bstep hSr3 (bal1 _ _)
            refine HK.out _ _ (fun _ => hSr4) ?_
            clear HK
            replace RQ := Lib.hid (row_on RQ.out (bal1 Vr3 (.cells #[.slice Ax (nodeNewK KK).length cx] 71)))
            have ATX := Lib.hid (At.lit1 Vr3 (.slice Ax (nodeNewK KK).length cx) 71)
            refine but_run (i := 9) (by kernel_rfl) rfl (by rfl) ?_
            simp only [List.getElem_toArray, List.getElem_cons_succ, List.getElem_cons_zero]
            intro K HK
            refine operAppN _ (by rfl) (.tmp 46) (.tmp 49) 25 71 1 24 (.agg #[.slice none 0 0]) (by rfl) Tryz.underlying25 (by kernel_rfl) rfl (by omega) (by omega) W6.heap.size (i) _ (xs.take i) (by rfl) RQ.out (_) (1) (1) ([.slice Ax (nodeNewK KK).length cx]) (by rfl) (rfl) (ATX.out) (by simp [Value.oneCell']) (by omega) (Nat.le_trans (Nat.le_refl _) (hSr4.size)) ?_
            intro vr5 Vr5 or5 gr5 _ ar5
            obtain ⟨Ar5, cr5, rfl⟩ := row_form or5
            have hSr5 : (fun V => Below W6.heap.size W6 V) Vr5 := grown_below hSr4 gr5 RQ.out (Nat.le_refl _)
            refine HK.out _ _ (fun _ => hSr5) ?_
            clear HK
            have Rr5 := Lib.hid or5
            have G2 : Hid (∀ g, (Value.slice Ar5 (i + 1) cr5).ownBlock = some g → g < Vr2.heap.size ∨ Vr3.heap.size ≤ g) := Lib.hid (fun g hg => by
              rcases ar5 with h | h
              · rw [h] at hg; exact .inl (GB1.out g hg)
              · rw [h] at hg; injection hg with hg; right; rw [← hg]; simp)
            clear or5
            simp only [List.getElem_toArray, List.getElem_cons_succ, List.getElem_cons_zero, Act.put, List.setIfInBounds_toArray, List.set_cons_zero, List.set_cons_succ]
            refine but_run (i := 15) (by kernel_rfl) rfl (by rfl) ?_
            simp only [List.getElem_toArray, List.getElem_cons_succ, List.getElem_cons_zero]
            intro K HK
            refine operAppN _ (by rfl) (.tmp 50) (.tmp 55) 25 71 1 24 (.agg #[.slice none 0 0]) (by rfl) Tryz.underlying25 (by kernel_rfl) rfl (by omega) (by omega) W6.heap.size (i + 1) _ (xs.take i ++ [.slice Ax (nodeNewK KK).length cx]) (by rfl) Rr5.out (_) (0) (_) ([]) (by rfl) (rfl) (.inl rfl) (fun u hu => by simp at hu) (by omega) (Nat.le_trans (Nat.le_refl _) (hSr5.size)) ?_
            intro vr6 Vr6 or6 gr6 _ ar6
            have e1 : i + 1 + 0 = rn.length := by rw [HLN.out]; omega
            have e2 : xs.take i ++ [.slice Ax (nodeNewK KK).length cx] ++ [] = xs.take i ++ [.slice Ax (nodeNewK KK).length cx] ++ xs.drop (i + 2) := by rw [show xs.drop (i + 2) = [] from List.drop_eq_nil_of_le (by rw [HXL.out]; omega)]
            rw [e2, e1] at or6
            clear e1 e2
            obtain ⟨o0, o1, o2⟩ := box2 (box_on QO6.out (grown_below hSr5 gr6 Rr5.out (Nat.le_refl _)))
            obtain ⟨Ar6, cr6, rfl⟩ := row_form or6
            have hSr6 : (fun V => Below W6.heap.size W6 V) Vr6 := grown_below hSr5 gr6 Rr5.out (Nat.le_refl _)
            refine HK.out _ _ (fun _ => hSr6) ?_
            clear HK
            have Rr6 := Lib.hid or6
            have G3 : Hid (∀ g, (Value.slice Ar6 rn.length cr6).ownBlock = some g → g < Vr2.heap.size ∨ Vr3.heap.size ≤ g) := Lib.hid (fun g hg => by
              rcases ar6 with h | h
              · rw [h] at hg; exact G2.out g hg
              · rw [h] at hg; injection hg with hg; right; rw [← hg]; exact Nat.le_trans (by simp) (gr5.size))
            clear or6
            simp only [List.getElem_toArray, List.getElem_cons_succ, List.getElem_cons_zero, Act.put, List.setIfInBounds_toArray, List.set_cons_zero, List.set_cons_succ]
            refine but_take (f := 17) (i := 16) (v := ?vr16) rfl (by kernel_rfl) (by kernel_rfl) (by kernel_rfl) (by kernel_rfl) (by kernel_rfl) (fun _ _ _ h => h) (Or.inl ⟨(by rfl), ?hyr16⟩) hSr6 ?restr16
            case hyr16 =>
              intro W hW
              go_simp
              exact rfl
            simp only [List.getElem_toArray, List.getElem_cons_succ, List.getElem_cons_zero, Act.put, List.setIfInBounds_toArray, List.set_cons_zero, List.set_cons_succ]
            refine but_run (i := 17) (by kernel_rfl) rfl (by rfl) ?_
            simp only [List.getElem_toArray, List.getElem_cons_succ, List.getElem_cons_zero]
            intro K HK
            go_wp2_with fail
            refine HK.out _ _ (fun h => absurd rfl h) ?_
            clear HK
            refine but_done (by kernel_rfl) ?_
            have hW7 : Below W6.heap.size W6 Vr6 := hSr6
            have hsz := hW7.size
            have hN1 : W6.heap.size ≤ Vr2.heap.size := (grown_below (bstep (Below.drew1 _) (bal1 _ _)) gr2 Rr1.out (Nat.le_refl _)).size
            have hX1 : OwnsL Vr6 (fun b => Q b ∧ b < wr.heap.size) xs (ts.map setsD) := HXO.out.on (bstep HWW.out hW7)
            have hX2 : Owns Vr6 (fun b => Vr2.heap.size ≤ b ∧ b < Vr3.heap.size) (.slice Ax (nodeNewK KK).length cx) (setsD (nodeNewK KK)) := by
              have h1 := ON.out.on (bal1 Vr3 (.cells #[.slice Ax (nodeNewK KK).length cx] 71))
              have h2 := h1.keep (w' := Vr5) (fun b hb hl => gr5.block b hl (fun e => by have := GB1.out b e.symm; have := hb.1; omega))
              exact h2.keep (fun b hb hl => gr6.block b hl (fun e => by rcases G2.out b e.symm with h | h <;> omega))
            have hSW := OwnsL.swap (U := fun b => (((Bb ≤ b ∧ b ≠ X) ∧ b ≠ w.heap.size ∧ b ≠ w.heap.size + 1) ∧ b < wr.heap.size) ∨ (Vr2.heap.size ≤ b ∧ b < Vr3.heap.size)) hX1 (.one hX2) i (i + 2) (by omega) (fun b hb => .inl ⟨HQ.out b hb.1, hb.2⟩) (fun b hb => .inr hb) (fun b hb hb' => by have := hb.2; have := hb'.1; omega)
            have HRN := rowP_owns (P := fun b => (((Bb ≤ b ∧ b ≠ X) ∧ b ≠ w.heap.size ∧ b ≠ w.heap.size + 1) ∧ b < wr.heap.size) ∨ W6.heap.size ≤ b) Rr6.out (cs := rn.map setsD) (by
                rw [HM2.out]
                refine hSW.mono (fun b hb => ⟨hb.elim .inl (fun h => .inr (by omega)), fun e => ?_⟩)
                have h1 := G3.out b e
                have h2 := (row_lt Rr6.out b e).2
                omega) (fun g hg => .inr (row_lt Rr6.out g hg).2) (by simp)
            have FIN : Hid (JoinEnd w V4 Bb X rl rn (Vr6.setCell ⟨V4.heap.size, 1, none⟩ (.slice Ar6 rn.length cr6))) := Lib.hid ⟨_, _, _, _, box_set (i := 1) (u := .slice Ar6 rn.length cr6) (box_on QO6.out hW7), (HB6.out.trans (hW7.mono (by omega))).setCell (p := ⟨V4.heap.size, 1, none⟩) (Nat.le_refl _) (.slice Ar6 rn.length cr6), fun b => V4.heap.size < b ∧ b < W6.heap.size, fun b => (((Bb ≤ b ∧ b ≠ X) ∧ b ≠ w.heap.size ∧ b ≠ w.heap.size + 1) ∧ b < wr.heap.size) ∨ W6.heap.size ≤ b, fun b hb => by omega, fun b hb => by omega, fun b hb hb' => by omega, (RL.out.on hW7).keep (fun b hb _ => Below.heap_setCell _ _ _ _ (by have := hb.1; simp; omega)), HRN.keep (fun b hb _ => Below.heap_setCell _ _ _ _ (by simp; omega))⟩
            go_wp2_with fail
            go_meet
            exact FIN
          · have hcc : i + 2 < d := by omega
            refine but_begin (f := 17) (S := fun V => Below W6.heap.size W6 V) (by kernel_rfl) ?_
            refine but_take (f := 17) (i := 1) (v := ?vs1) rfl (by kernel_rfl) (by kernel_rfl) (by kernel_rfl) (by kernel_rfl) (by kernel_rfl) (fun _ _ _ h => h) (Or.inl ⟨(by rfl), ?hys1⟩) (Below.drew1 _) ?rests1
            case hys1 =>
              intro W hW
              go_simp
              exact rfl
            simp only [List.getElem_toArray, List.getElem_cons_succ, List.getElem_cons_zero, Act.put, List.setIfInBounds_toArray, List.set_cons_zero, List.set_cons_succ]
            refine but_take (f := 17) (i := 2) (v := ?vs2) rfl (by kernel_rfl) (by kernel_rfl) (by kernel_rfl) (by kernel_rfl) (by kernel_rfl) (fun _ _ _ h => h) (Or.inl ⟨(by rfl), ?hys2⟩) (Below.drew1 _) ?rests2
            case hys2 =>
              intro W hW
              obtain ⟨x0, x1, x2⟩ := box2 (box_on QT6.out hW)
              go_simp
              exact rfl
            simp only [List.getElem_toArray, List.getElem_cons_succ, List.getElem_cons_zero, Act.put, List.setIfInBounds_toArray, List.set_cons_zero, List.set_cons_succ]
            refine but_take (f := 17) (i := 3) (v := ?vs3) rfl (by kernel_rfl) (by kernel_rfl) (by kernel_rfl) (by kernel_rfl) (by kernel_rfl) (fun _ _ _ h => h) (Or.inl ⟨(by rfl), ?hys3⟩) (Below.drew1 _) ?rests3
            case hys3 =>
              intro W hW
              go_simp
              exact rfl
            simp only [List.getElem_toArray, List.getElem_cons_succ, List.getElem_cons_zero, Act.put, List.setIfInBounds_toArray, List.set_cons_zero, List.set_cons_succ]
            refine but_take (f := 17) (i := 4) (v := ?vs4) rfl (by kernel_rfl) (by kernel_rfl) (by kernel_rfl) (by kernel_rfl) (by kernel_rfl) (fun _ _ _ h => h) (Or.inl ⟨(by rfl), ?hys4⟩) (Below.drew1 _) ?rests4
            case hys4 =>
              intro W hW
              go_simp
              exact rfl
            simp only [List.getElem_toArray, List.getElem_cons_succ, List.getElem_cons_zero, Act.put, List.setIfInBounds_toArray, List.set_cons_zero, List.set_cons_succ]
            refine but_take (f := 17) (i := 6) (v := ?vs6) rfl (by kernel_rfl) (by kernel_rfl) (by kernel_rfl) (by kernel_rfl) (by kernel_rfl) (fun _ _ _ h => h) (Or.inl ⟨(by rfl), ?hys6⟩) (Below.drew1 _) ?rests6
            case hys6 =>
              intro W hW
              go_simp
              exact rfl
            simp only [List.getElem_toArray, List.getElem_cons_succ, List.getElem_cons_zero, Act.put, List.setIfInBounds_toArray, List.set_cons_zero, List.set_cons_succ]
            refine but_take (f := 17) (i := 10) (v := ?vs10) rfl (by kernel_rfl) (by kernel_rfl) (by kernel_rfl) (by kernel_rfl) (by kernel_rfl) (fun _ _ _ h => h) (Or.inl ⟨(by rfl), ?hys10⟩) (Below.drew1 _) ?rests10
            case hys10 =>
              intro W hW
              go_simp
              exact rfl
            simp only [List.getElem_toArray, List.getElem_cons_succ, List.getElem_cons_zero, Act.put, List.setIfInBounds_toArray, List.set_cons_zero, List.set_cons_succ]
            refine but_take (f := 17) (i := 11) (v := ?vs11) rfl (by kernel_rfl) (by kernel_rfl) (by kernel_rfl) (by kernel_rfl) (by kernel_rfl) (fun _ _ _ h => h) (Or.inl ⟨(by rfl), ?hys11⟩) (Below.drew1 _) ?rests11
            case hys11 =>
              intro W hW
              obtain ⟨x0, x1, x2⟩ := box2 (box_on QT6.out hW)
              go_simp
              exact rfl
            simp only [List.getElem_toArray, List.getElem_cons_succ, List.getElem_cons_zero, Act.put, List.setIfInBounds_toArray, List.set_cons_zero, List.set_cons_succ]
            refine but_take (f := 17) (i := 12) (v := ?vs12) rfl (by kernel_rfl) (by kernel_rfl) (by kernel_rfl) (by kernel_rfl) (by kernel_rfl) (fun _ _ _ h => h) (Or.inl ⟨(by rfl), ?hys12⟩) (Below.drew1 _) ?rests12
            case hys12 =>
              intro W hW
              go_simp
              exact rfl
            simp only [List.getElem_toArray, List.getElem_cons_succ, List.getElem_cons_zero, Act.put, List.setIfInBounds_toArray, List.set_cons_zero, List.set_cons_succ]
            refine but_take (f := 17) (i := 13) (v := ?vs13) rfl (by kernel_rfl) (by kernel_rfl) (by kernel_rfl) (by kernel_rfl) (by kernel_rfl) (fun _ _ _ h => h) (Or.inl ⟨(by rfl), ?hys13⟩) (Below.drew1 _) ?rests13
            case hys13 =>
              intro W hW
              go_simp
              exact rfl
            simp only [List.getElem_toArray, List.getElem_cons_succ, List.getElem_cons_zero, Act.put, List.setIfInBounds_toArray, List.set_cons_zero, List.set_cons_succ]
            refine but_take (f := 17) (i := 14) (v := ?vs14) rfl (by kernel_rfl) (by kernel_rfl) (by kernel_rfl) (by kernel_rfl) (by kernel_rfl) (fun _ _ _ h => h) (Or.inl ⟨(by rfl), ?hys14⟩) (Below.drew1 _) ?rests14
            case hys14 =>
              intro W hW
              go_simp
              exact rfl
            simp only [List.getElem_toArray, List.getElem_cons_succ, List.getElem_cons_zero, Act.put, List.setIfInBounds_toArray, List.set_cons_zero, List.set_cons_succ]
            refine but_run (i := 0) (by kernel_rfl) rfl (by rfl) ?_
            simp only [List.getElem_toArray, List.getElem_cons_succ, List.getElem_cons_zero]
            intro K HK
            go_wp2_with fail
            have hSs1 : (fun V => Below W6.heap.size W6 V) (W6.drew.alloc (.cells #[] 71)) := bstep (Below.drew1 _) (bal1 _ _)
            refine HK.out _ _ (fun _ => hSs1) ?_
            clear HK
            have Rs1 := Lib.hid (row_lit W6.drew 71 1)
            refine but_run (i := 5) (by kernel_rfl) rfl (by rfl) ?_
            simp only [List.getElem_toArray, List.getElem_cons_succ, List.getElem_cons_zero]
            intro K HK
            refine operAppN _ (by rfl) (.tmp 41) (.tmp 45) 25 71 1 24 (.agg #[.slice none 0 0]) (by rfl) Tryz.underlying25 (by kernel_rfl) rfl (by omega) (by omega) W6.heap.size (0) _ ([]) (by rfl) Rs1.out ((some ⟨b, off, none⟩)) (i) (d) (xs.take i) (by rfl) (by rw [List.length_take, HXL.out]; omega) (((HAN.out.on hSs1).takeV i)) (fun u hu => HX1.out u (List.mem_of_mem_take hu)) (by omega) (Nat.le_trans (Nat.le_refl _) (hSs1.size)) ?_
            intro vs2 Vs2 os2 gs2 _ as2
            rw [Nat.zero_add, List.nil_append] at os2
            obtain ⟨As2, cs2, rfl⟩ := row_form os2
            have hSs2 : (fun V => Below W6.heap.size W6 V) Vs2 := grown_below hSs1 gs2 Rs1.out (Nat.le_refl _)
            refine HK.out _ _ (fun _ => hSs2) ?_
            clear HK
            have Rs2 := Lib.hid os2
            clear os2
            have GB1 : Hid (∀ g, (Value.slice As2 i cs2).ownBlock = some g → g < Vs2.heap.size) := Lib.hid (fun g hg => (row_lt Rs2.out g hg).1)
            simp only [List.getElem_toArray, List.getElem_cons_succ, List.getElem_cons_zero, Act.put, List.setIfInBounds_toArray, List.set_cons_zero, List.set_cons_succ]
            refine but_run (i := 7) (by kernel_rfl) rfl (by rfl) ?_
            simp only [List.getElem_toArray, List.getElem_cons_succ, List.getElem_cons_zero]
            intro K HK
            go_wp2_with fail
            refine (specNodeNew_any _ KK _ (OK6.out.on hSs2).owns.reads (by omega)).mono ?_
            rintro r Vs3 ⟨vn, rfl, on, hbs3⟩
            obtain ⟨Ax, cx, rfl, _, _⟩ := on.reads.lenN
            go_wp2_with fail
            have hSs3 : (fun V => Below W6.heap.size W6 V) Vs3 := bstep hSs2 hbs3
            refine HK.out _ _ (fun _ => hSs3) ?_
            clear HK
            have ON := Lib.hid on.lt
            have N12 := hbs3.size
            have RQ := Lib.hid (row_on Rs2.out hbs3)
            clear on
            refine but_run (i := 8) (by kernel_rfl) rfl (by rfl) ?_
            simp only [List.getElem_toArray, List.getElem_cons_succ, List.getElem_cons_zero]
            intro K HK
            go_wp2_with fail
            have hSs4 : (fun V => Below W6.heap.size W6 V) (Vs3.alloc (.cells #[.slice Ax (nodeNewK KK).length cx] 71)) := bstep hSs3 (bal1 _ _)
            refine HK.out _ _ (fun _ => hSs4) ?_
            clear HK
            replace RQ := Lib.hid (row_on RQ.out (bal1 Vs3 (.cells #[.slice Ax (nodeNewK KK).length cx] 71)))
            have ATX := Lib.hid (At.lit1 Vs3 (.slice Ax (nodeNewK KK).length cx) 71)
            refine but_run (i := 9) (by kernel_rfl) rfl (by rfl) ?_
            simp only [List.getElem_toArray, List.getElem_cons_succ, List.getElem_cons_zero]
            intro K HK
            refine operAppN _ (by rfl) (.tmp 46) (.tmp 49) 25 71 1 24 (.agg #[.slice none 0 0]) (by rfl) Tryz.underlying25 (by kernel_rfl) rfl (by omega) (by omega) W6.heap.size (i) _ (xs.take i) (by rfl) RQ.out (_) (1) (1) ([.slice Ax (nodeNewK KK).length cx]) (by rfl) (rfl) (ATX.out) (by simp [Value.oneCell']) (by omega) (Nat.le_trans (Nat.le_refl _) (hSs4.size)) ?_
            intro vs5 Vs5 os5 gs5 _ as5
            obtain ⟨As5, cs5, rfl⟩ := row_form os5
            have hSs5 : (fun V => Below W6.heap.size W6 V) Vs5 := grown_below hSs4 gs5 RQ.out (Nat.le_refl _)
            refine HK.out _ _ (fun _ => hSs5) ?_
            clear HK
            have Rs5 := Lib.hid os5
            have G2 : Hid (∀ g, (Value.slice As5 (i + 1) cs5).ownBlock = some g → g < Vs2.heap.size ∨ Vs3.heap.size ≤ g) := Lib.hid (fun g hg => by
              rcases as5 with h | h
              · rw [h] at hg; exact .inl (GB1.out g hg)
              · rw [h] at hg; injection hg with hg; right; rw [← hg]; simp)
            clear os5
            simp only [List.getElem_toArray, List.getElem_cons_succ, List.getElem_cons_zero, Act.put, List.setIfInBounds_toArray, List.set_cons_zero, List.set_cons_succ]
            refine but_run (i := 15) (by kernel_rfl) rfl (by rfl) ?_
            simp only [List.getElem_toArray, List.getElem_cons_succ, List.getElem_cons_zero]
            intro K HK
            refine operAppN _ (by rfl) (.tmp 50) (.tmp 55) 25 71 1 24 (.agg #[.slice none 0 0]) (by rfl) Tryz.underlying25 (by kernel_rfl) rfl (by omega) (by omega) W6.heap.size (i + 1) _ (xs.take i ++ [.slice Ax (nodeNewK KK).length cx]) (by rfl) Rs5.out (_) (ts.length - (i + 2)) (_) (xs.drop (i + 2)) (by rfl) (by rw [List.length_drop, HXL.out]; omega) ((by have h := At.tailV (c := d) (j := i + 2) (HAN.out.on hSs5) (by rw [HXL.out]; omega); unfold tailA at h; rw [if_neg hcN] at h; exact h)) (fun u hu => HX1.out u (List.mem_of_mem_drop hu)) (by omega) (Nat.le_trans (Nat.le_refl _) (hSs5.size)) ?_
            intro vs6 Vs6 os6 gs6 _ as6
            rw [← HLN.out] at os6
            obtain ⟨o0, o1, o2⟩ := box2 (box_on QO6.out (grown_below hSs5 gs6 Rs5.out (Nat.le_refl _)))
            obtain ⟨As6, cs6, rfl⟩ := row_form os6
            have hSs6 : (fun V => Below W6.heap.size W6 V) Vs6 := grown_below hSs5 gs6 Rs5.out (Nat.le_refl _)
            refine HK.out _ _ (fun _ => hSs6) ?_
            clear HK
            have Rs6 := Lib.hid os6
            have G3 : Hid (∀ g, (Value.slice As6 rn.length cs6).ownBlock = some g → g < Vs2.heap.size ∨ Vs3.heap.size ≤ g) := Lib.hid (fun g hg => by
              rcases as6 with h | h
              · rw [h] at hg; exact G2.out g hg
              · rw [h] at hg; injection hg with hg; right; rw [← hg]; exact Nat.le_trans (by simp) (gs5.size))
            clear os6
            simp only [List.getElem_toArray, List.getElem_cons_succ, List.getElem_cons_zero, Act.put, List.setIfInBounds_toArray, List.set_cons_zero, List.set_cons_succ]
            refine but_take (f := 17) (i := 16) (v := ?vs16) rfl (by kernel_rfl) (by kernel_rfl) (by kernel_rfl) (by kernel_rfl) (by kernel_rfl) (fun _ _ _ h => h) (Or.inl ⟨(by rfl), ?hys16⟩) hSs6 ?rests16
            case hys16 =>
              intro W hW
              go_simp
              exact rfl
            simp only [List.getElem_toArray, List.getElem_cons_succ, List.getElem_cons_zero, Act.put, List.setIfInBounds_toArray, List.set_cons_zero, List.set_cons_succ]
            refine but_run (i := 17) (by kernel_rfl) rfl (by rfl) ?_
            simp only [List.getElem_toArray, List.getElem_cons_succ, List.getElem_cons_zero]
            intro K HK
            go_wp2_with fail
            refine HK.out _ _ (fun h => absurd rfl h) ?_
            clear HK
            refine but_done (by kernel_rfl) ?_
            have hW7 : Below W6.heap.size W6 Vs6 := hSs6
            have hsz := hW7.size
            have hN1 : W6.heap.size ≤ Vs2.heap.size := (grown_below (bstep (Below.drew1 _) (bal1 _ _)) gs2 Rs1.out (Nat.le_refl _)).size
            have hX1 : OwnsL Vs6 (fun b => Q b ∧ b < wr.heap.size) xs (ts.map setsD) := HXO.out.on (bstep HWW.out hW7)
            have hX2 : Owns Vs6 (fun b => Vs2.heap.size ≤ b ∧ b < Vs3.heap.size) (.slice Ax (nodeNewK KK).length cx) (setsD (nodeNewK KK)) := by
              have h1 := ON.out.on (bal1 Vs3 (.cells #[.slice Ax (nodeNewK KK).length cx] 71))
              have h2 := h1.keep (w' := Vs5) (fun b hb hl => gs5.block b hl (fun e => by have := GB1.out b e.symm; have := hb.1; omega))
              exact h2.keep (fun b hb hl => gs6.block b hl (fun e => by rcases G2.out b e.symm with h | h <;> omega))
            have hSW := OwnsL.swap (U := fun b => (((Bb ≤ b ∧ b ≠ X) ∧ b ≠ w.heap.size ∧ b ≠ w.heap.size + 1) ∧ b < wr.heap.size) ∨ (Vs2.heap.size ≤ b ∧ b < Vs3.heap.size)) hX1 (.one hX2) i (i + 2) (by omega) (fun b hb => .inl ⟨HQ.out b hb.1, hb.2⟩) (fun b hb => .inr hb) (fun b hb hb' => by have := hb.2; have := hb'.1; omega)
            have HRN := rowP_owns (P := fun b => (((Bb ≤ b ∧ b ≠ X) ∧ b ≠ w.heap.size ∧ b ≠ w.heap.size + 1) ∧ b < wr.heap.size) ∨ W6.heap.size ≤ b) Rs6.out (cs := rn.map setsD) (by
                rw [HM2.out]
                refine hSW.mono (fun b hb => ⟨hb.elim .inl (fun h => .inr (by omega)), fun e => ?_⟩)
                have h1 := G3.out b e
                have h2 := (row_lt Rs6.out b e).2
                omega) (fun g hg => .inr (row_lt Rs6.out g hg).2) (by simp)
            have FIN : Hid (JoinEnd w V4 Bb X rl rn (Vs6.setCell ⟨V4.heap.size, 1, none⟩ (.slice As6 rn.length cs6))) := Lib.hid ⟨_, _, _, _, box_set (i := 1) (u := .slice As6 rn.length cs6) (box_on QO6.out hW7), (HB6.out.trans (hW7.mono (by omega))).setCell (p := ⟨V4.heap.size, 1, none⟩) (Nat.le_refl _) (.slice As6 rn.length cs6), fun b => V4.heap.size < b ∧ b < W6.heap.size, fun b => (((Bb ≤ b ∧ b ≠ X) ∧ b ≠ w.heap.size ∧ b ≠ w.heap.size + 1) ∧ b < wr.heap.size) ∨ W6.heap.size ≤ b, fun b hb => by omega, fun b hb => by omega, fun b hb hb' => by omega, (RL.out.on hW7).keep (fun b hb _ => Below.heap_setCell _ _ _ _ (by have := hb.1; simp; omega)), HRN.keep (fun b hb _ => Below.heap_setCell _ _ _ _ (by simp; omega))⟩
            go_wp2_with fail
            go_meet
            exact FIN
        case rest =>
          obtain ⟨Al, cl, An, cn, qe, hb7, tv⟩ := hcut.out
          obtain ⟨W7, rfl⟩ : ∃ W, W = wc := ⟨_, rfl⟩
          have hW7 : Below wr.heap.size wr W7 := bstep HBW.out hb7
          have qs := box_on QW.out hW7
          have qr := box_on Q1.out hW7
          have QE := Lib.hid qe
          obtain ⟨x0, x1, x2⟩ := box2 qe
          obtain ⟨y0, y1, y2⟩ := box2 qs
          have hz7 := hW7.size
          have n1 : ¬ V4.heap.size = w.heap.size := by omega
          have X8 : Hid (((W7.setCell ⟨w.heap.size, 0, none⟩ (.slice Al rl.length cl)).setCell ⟨w.heap.size, 1, none⟩ (.slice An rn.length cn)).heap[w.heap.size]? = some (.cells #[.slice Al rl.length cl, .slice An rn.length cn] 27 (0, 0))) := Lib.hid (box_set (i := 1) (u := .slice An rn.length cn) (box_set (i := 0) (u := .slice Al rl.length cl) qs))
          have HO := Lib.hid (only_two W7 w.heap.size 0 1 (.slice Al rl.length cl) (.slice An rn.length cn))
          have QR8 := Lib.hid (box_only qr HO.out (fun e => by omega))
          have TV8 := Lib.hid (tv.keep (w' := (W7.setCell ⟨w.heap.size, 0, none⟩ (.slice Al rl.length cl)).setCell ⟨w.heap.size, 1, none⟩ (.slice An rn.length cn)) (fun b hb hl => HO.out.block b hl (fun e => hb.2.1 e)))
          have HB8 := Lib.hid ((bstep HB.out hW7).trans (HO.out.below (bstep HB.out hW7).size (fun b hb => by omega)))
          clear qe hb7 tv hcut qs qr HO QO6 HB6 RL HWW QT6 HAN OK6
          go_upto_region 3 with (fail)
          clear x0 x1 x2 y0 y1 y2
          generalize (W7.setCell ⟨w.heap.size, 0, none⟩ (.slice Al rl.length cl)).setCell ⟨w.heap.size, 1, none⟩ (.slice An rn.length cn) = W8 at *
          obtain ⟨x0, x1, x2⟩ := box2 X8.out
          go_wp2_with fail
          refine (l6Pair_any _ _ rl rn _ TV8.out.reads (by have := HJL.out; omega) (by have := HJS.out; omega)).mono ?_
          rintro e w9 ⟨rfl, b9⟩
          have NEW : Hid (JoinR w Bb X J w9 (.int .i64 (pairK rn))) := Lib.hid ⟨rl, rn, _, _, _, _, rfl, box_on X8.out b9, box_on QR8.out b9, TV8.out.on b9, HJ2.out, HEQ.out, by have := HJL.out; omega, by have := HJS.out; omega, bstep HB8.out b9⟩
          have HD9 := Lib.hid (lenN1_box (box_on X8.out b9))
          clear b9 x0 x1 x2
          go_wp2
          go_roundw
          case rel => exact NEW
          case measure => rw [HD.out, HD9.out]; have h9 : rn.length + 1 = ts.length := HJL.out; omega
end Go.Proofs.YtkcafbdlealbpaaGreat
