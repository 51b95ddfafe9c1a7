/- Contracts for byte slices: laws.toByteS copies, laws.eqByteS compares, laws.markByteS and laws.heldByteS write and find marks, for every slice (nil among them). Conditions: lengths of at most 2^40 bytes. -/
import Derived.Test.YtcimpcocgmlmoaaRows
import Derived.WalkKit
import Derived.Below
import Derived.OwnWalk
import Derived.Laws.OwnMore
import Derived.Deep.QuietTactic
import Derived.BigQuiet
import Derived.Deep.Draws
import Derived.Lib.Hide
namespace Go.Proofs.Ytcimpcocgmlmoaa
open Go.RowKit
set_option maxRecDepth 100000
set_option linter.unusedSimpArgs false
set_option linter.unusedVariables false

theorem ret_boolB {a b : Bool} (h : a = b) : Ending.returned (.bool a) = .returned (.bool b) := by rw [h]
theorem ret_intB {k : IntKind} {a b : Int} (h : a = b) : Ending.returned (.int k a) = .returned (.int k b) := by rw [h]
theorem u8_le (c : UInt8) : (0 : Int) ≤ (c.toNat : Int) ∧ (c.toNat : Int) ≤ 255 := by
  have := UInt8.toNat_lt c; omega

/-- The cells that hold these bytes. -/
def bv (l : List UInt8) : List Value := l.map fun c => .int .u8 (c.toNat : Int)
theorem bv_length (l : List UInt8) : (bv l).length = l.length := by simp [bv]
theorem bv_at (l : List UInt8) (k : Nat) (h : k < l.length) : (bv l)[k]? = some (.int .u8 (l[k].toNat : Int)) := by simp [bv, h]
theorem bv_one (l : List UInt8) : ∀ u ∈ bv l, u.oneCell' = true := by
  intro u hu; simp [bv] at hu; obtain ⟨c, _, rfl⟩ := hu; rfl
theorem bv_append (l m : List UInt8) : bv (l ++ m) = bv l ++ bv m := by simp [bv]

/-- In w, from the address A on, lie the bytes l; they lie in blocks below B. -/
def Rd (w : World) (B : Nat) (A : Option Addr) (l : List UInt8) : Prop :=
  l = [] ∨ ∃ b off, A = some ⟨b, off, none⟩ ∧ b < B ∧ ∀ i (h : i < l.length), w.cell? ⟨b, off + i, none⟩ = some (.int .u8 (l[i].toNat : Int))
theorem Rd.at_ {w : World} {B : Nat} {A : Option Addr} {l : List UInt8} (h : Rd w B A l) {k : Nat} (hk : k < l.length) :
    ∃ b off, A = some ⟨b, off, none⟩ ∧ b < B ∧ ∀ i (h : i < l.length), w.cell? ⟨b, off + i, none⟩ = some (.int .u8 (l[i].toNat : Int)) := by
  rcases h with rfl | h
  · simp at hk
  · exact h
theorem Rd.keep {w w' : World} {B : Nat} {A : Option Addr} {l : List UInt8} (h : Rd w B A l) (hk : ∀ k, k < B → w'.heap[k]? = w.heap[k]?) : Rd w' B A l := by
  rcases h with rfl | ⟨b, off, rfl, hb, hc⟩
  · exact .inl rfl
  · exact .inr ⟨b, off, rfl, hb, fun i hi => (World.cell?_of_block (a := ⟨b, off + i, none⟩) (hk b hb)).trans (hc i hi)⟩
theorem Rd.below {w w' : World} {B : Nat} {A : Option Addr} {l : List UInt8} (h : Rd w B A l) (hb : Below B w w') : Rd w' B A l := h.keep hb.block
theorem Rd.mono {w : World} {B B' : Nat} {A : Option Addr} {l : List UInt8} (h : Rd w B A l) (hB : B ≤ B') : Rd w B' A l := by
  rcases h with rfl | ⟨b, off, rfl, hb, hc⟩
  · exact .inl rfl
  · exact .inr ⟨b, off, rfl, by omega, hc⟩
theorem Rd.drewN {w : World} {B : Nat} {A : Option Addr} {l : List UInt8} (h : Rd w B A l) (n : Nat) : Rd (w.drewN n) B A l := h

/-- The slice value v is the call's own: it lies in block g alone, which holds its bytes l from its head on, and can be written. -/
def Own (w : World) (g : Nat) (v : Value) (l : List UInt8) : Prop :=
  ∃ cap cur, v = .slice (some ⟨g, 0, none⟩) l.length cap ∧ w.heap[g]? = some (.cells cur 5 (0, 0)) ∧ l.length ≤ cap ∧ cap ≤ maxLen ∧ cur.size = cap ∧ cur.toList.take l.length = bv l
theorem Own.lt {w : World} {g : Nat} {v : Value} {l : List UInt8} (h : Own w g v l) : g < w.heap.size := by
  obtain ⟨cap, cur, _, hg, _⟩ := h
  exact (Array.getElem?_eq_some_iff.1 hg).1
theorem Own.keep {w w' : World} {g : Nat} {v : Value} {l : List UInt8} (h : Own w g v l) (hk : w'.heap[g]? = w.heap[g]?) : Own w' g v l := by
  obtain ⟨cap, cur, hv, hg, r⟩ := h
  exact ⟨cap, cur, hv, hk.trans hg, r⟩
theorem Own.below {w w' : World} {g B : Nat} {v : Value} {l : List UInt8} (h : Own w g v l) (hb : Below B w w') (hB : g < B) : Own w' g v l := h.keep (hb.block g hB)
theorem Own.row {w : World} {g : Nat} {v : Value} {l : List UInt8} (h : Own w g v l) : w.ownsRow g 5 1 v l.length (bv l) := by
  obtain ⟨cap, cur, rfl, hg, h1, h2, h3, h4⟩ := h
  exact ⟨by simp [bv_length], .inr ⟨g, cap, cur, rfl, Nat.le_refl _, hg, h1, h2, by simpa using h3, by simpa using h4⟩⟩
theorem Own.rd {w : World} {g : Nat} {v : Value} {l : List UInt8} (h : Own w g v l) : ∃ cap, v = .slice (some ⟨g, 0, none⟩) l.length cap ∧ l.length ≤ cap ∧ Rd w (g + 1) (some ⟨g, 0, none⟩) l := by
  obtain ⟨cap, cur, rfl, hg, h1, h2, h3, h4⟩ := h
  refine ⟨cap, rfl, h1, .inr ⟨g, 0, rfl, by omega, fun i hi => ?_⟩⟩
  rw [cell_of_row w g (0 + i) cur 5 (0, 0) hg]
  have h5 : (cur.toList.take l.length)[i]? = some (.int .u8 (l[i].toNat : Int)) := by rw [h4]; exact bv_at l i hi
  rw [List.getElem?_take_of_lt hi] at h5
  simpa using h5
theorem Own.of_row {w : World} {base g n cap : Nat} {l : List UInt8} (h : w.ownsRow base 5 1 (.slice (some ⟨g, 0, none⟩) n cap) n (bv l)) : Own w g (.slice (some ⟨g, 0, none⟩) n cap) l ∧ base ≤ g := by
  obtain ⟨h1, h2⟩ := h
  have hn : n = l.length := by simpa [bv_length] using h1.symm
  rcases h2 with ⟨h, _⟩ | ⟨g', cap', cur, hv, hb, hg, a1, a2, a3, a4⟩
  · simp at h
  · simp only [Value.slice.injEq, Option.some.injEq, Addr.mk.injEq, true_and, and_true] at hv
    obtain ⟨rfl, rfl⟩ := hv
    exact ⟨⟨cap, cur, by rw [hn], hg, by omega, a2, by simpa using a3, by rw [← hn]; simpa using a4⟩, hb⟩

theorem u8_info : (Try.prog.info? 5).map (fun i => (i.zero, i.size, i.bytes)) = some (some (.int .u8 0), 1, 1) := by kernel_rfl

theorem run_makeBytes (n : Nat) (hn : n ≤ 1099511627776) (w : World) :
    (Instr.makeSlice 73 (.int .i64 (n : Int)) (.int .i64 (n : Int))).run Try.prog w = .ok (.slice (some ⟨w.heap.size, 0, none⟩) n n) (w.alloc (.cells (madeCells #[.int .u8 0] n) 5)) := by
  obtain ⟨i, hi, h0, h1, h2⟩ := info_parts u8_info
  have hr := run_make (P := Try.prog) w 73 5 i (.int .u8 0) Try.underlying73 hi h0 .i64 .i64 n n (by omega) (by omega) (by rw [h2]; omega) (by omega)
  simp only [Int.toNat_natCast, h1, Nat.mul_one] at hr
  exact hr

/-- Block g of w is a row of n bytes that can be written, whose first k are those of l. -/
def Row (w : World) (g n : Nat) (l : List UInt8) : Prop :=
  ∃ cur : Array Value, w.heap[g]? = some (.cells cur 5 (0, 0)) ∧ cur.size = n ∧ l.length ≤ n ∧ cur.toList.take l.length = bv l
theorem Row.step {w : World} {g n : Nat} {l : List UInt8} (h : Row w g n l) (hk : l.length < n) (c : UInt8) : Row (w.setCell ⟨g, l.length, none⟩ (.int .u8 (c.toNat : Int))) g n (l ++ [c]) := by
  obtain ⟨cur, hg, hs, hl, ht⟩ := h
  refine ⟨cur.setIfInBounds l.length (.int .u8 (c.toNat : Int)), heap_setCell_same w g l.length cur _ _ hg, by simpa using hs, by simp; omega, ?_⟩
  simp only [Array.toList_setIfInBounds, List.length_append, List.length_singleton]
  rw [List.take_succ_eq_append_getElem (by simp; omega)]
  simp only [List.take_set_of_le (Nat.le_refl _), ht, List.getElem_set_self, bv_append]
  rfl
theorem Row.cell {w : World} {g n : Nat} {l : List UInt8} (h : Row w g n l) {k : Nat} (hk : k < n) : ∃ v, w.cell? ⟨g, k, none⟩ = some v := by
  obtain ⟨cur, hg, hs, hl, ht⟩ := h
  exact ⟨cur[k], by rw [cell_of_row w g k cur _ _ hg]; simp⟩
theorem Row.frozen {w : World} {g n : Nat} {l : List UInt8} (h : Row w g n l) (k : Nat) : w.frozen? ⟨g, k, none⟩ = false := by
  obtain ⟨cur, hg, hs, hl, ht⟩ := h
  exact frozen_of_row w g k cur _ hg
theorem Row.new (w : World) (n : Nat) : Row (w.alloc (.cells (madeCells #[.int .u8 0] n) 5)) w.heap.size n [] :=
  ⟨_, heap_alloc_new w _, size_madeCells _ _, Nat.zero_le _, rfl⟩
theorem Row.own {w : World} {g n : Nat} {l : List UInt8} (h : Row w g n l) (hl : l.length = n) (hn : n ≤ 1099511627776) : Own w g (.slice (some ⟨g, 0, none⟩) n n) l := by
  subst hl
  obtain ⟨cur, hg, hs, _, ht⟩ := h
  exact ⟨_, cur, rfl, hg, Nat.le_refl _, by unfold maxLen; omega, hs, ht⟩
theorem take_succ' (l : List UInt8) (k : Nat) (h : k < l.length) : l.take (k + 1) = l.take k ++ [l[k]] := List.take_succ_eq_append_getElem h

theorem eq_of_bytes {l m : List UInt8} (hl : l.length = m.length) (h : ∀ i (h1 : i < l.length) (h2 : i < m.length), l[i] = m[i]) : l = m := List.ext_getElem hl h
theorem u8_beq (a b : UInt8) : ((a.toNat : Int) == (b.toNat : Int)) = (a == b) := by
  rw [Bool.eq_iff_iff]; simp [← UInt8.toNat_inj]; omega
theorem take_ne {l m : List UInt8} {k : Nat} (h1 : k < l.length) (h2 : k < m.length) (h : l[k] ≠ m[k]) : (l == m) = false := by
  rw [beq_eq_false_iff_ne]; rintro rfl; exact h rfl
/-- The byte that an int is converted to. -/
def ub (n : Int) : UInt8 := UInt8.ofNat (n % 256).toNat
theorem ub_toNat (n : Int) : ((ub n).toNat : Int) = n % 256 := by
  unfold ub
  have h : (n % 256).toNat < 256 := by omega
  simp [UInt8.toNat_ofNat_of_lt' (show (n % 256).toNat < UInt8.size from h)]; omega
theorem wrap_ub (n : Int) : IntKind.u8.wrap n = ((ub n).toNat : Int) := by rw [ub_toNat, IntKind.wrap_u8]
/-- The marks k, k + 1, .., n of them. -/
def marks (k : Int) : Nat → List UInt8
  | 0 => []
  | n + 1 => marks k n ++ [ub (k + n)]
theorem marks_length (k : Int) (n : Nat) : (marks k n).length = n := by
  induction n with
  | zero => rfl
  | succ n ih => simp [marks, ih]
theorem marks_at (k : Int) (n i : Nat) (h : i < (marks k n).length) : (marks k n)[i] = ub (k + i) := by
  induction n with
  | zero => simp [marks] at h
  | succ n ih =>
    simp only [marks]
    by_cases hi : i < n
    · rw [List.getElem_append_left (by rw [marks_length]; exact hi)]
      exact ih _
    · rw [marks_length] at h
      have : i = n := by omega
      subst this
      rw [List.getElem_append_right (by rw [marks_length]; omega)]
      simp [marks_length]
theorem Own.row0 {w : World} {g : Nat} {v : Value} {l : List UInt8} (h : Own w g v l) : ∃ cap, v = .slice (some ⟨g, 0, none⟩) l.length cap ∧ l.length ≤ cap ∧ cap ≤ maxLen ∧ Row w g cap [] := by
  obtain ⟨cap, cur, hv, hg, h1, h2, h3, h4⟩ := h
  exact ⟨cap, hv, h1, h2, cur, hg, h3, Nat.zero_le _, rfl⟩
theorem Row.own' {w : World} {g cap : Nat} {l : List UInt8} (h : Row w g cap l) (hc : cap ≤ maxLen) : Own w g (.slice (some ⟨g, 0, none⟩) l.length cap) l := by
  obtain ⟨cur, hg, hs, hl, ht⟩ := h
  exact ⟨_, cur, rfl, hg, hl, hc, hs, ht⟩
theorem only_set {a w : World} {g j : Nat} (h : a.grownBy w (some g)) (u : Value) : a.grownBy (w.setCell ⟨g, j, none⟩ u) (some g) :=
  ⟨h.os, h.tape, h.output, by simpa [World.setCell] using h.size, fun i hi hne => (Below.heap_setCell w ⟨g, j, none⟩ u i (by
    rintro rfl; exact hne rfl)).trans (h.block i hi hne)⟩

theorem Rd.on {w w' : World} {A : Option Addr} {l : List UInt8} (h : Rd w w.heap.size A l) (hb : Below w.heap.size w w') : Rd w' w'.heap.size A l := (h.below hb).mono hb.size
theorem Own.on {w w' : World} {g : Nat} {v : Value} {l : List UInt8} (h : Own w g v l) (hb : Below w.heap.size w w') : Own w' g v l := h.below hb h.lt
theorem Own.all {w : World} {g : Nat} {n cap : Nat} {l : List UInt8} (h : Own w g (.slice (some ⟨g, 0, none⟩) n cap) l) : Rd w w.heap.size (some ⟨g, 0, none⟩) l := by
  obtain ⟨_, _, _, hr⟩ := h.rd
  exact hr.mono h.lt
theorem Own.drewN {w : World} {g : Nat} {v : Value} {l : List UInt8} (h : Own w g v l) (n : Nat) : Own (w.drewN n) g v l := h
theorem bdrew {B : Nat} {a w : World} (h : Below B a w) (n : Nat) : Below B a (w.drewN n) := ⟨h.os, h.tape, h.output, h.size, h.block⟩
theorem bstep {a w w' : World} (h : Below a.heap.size a w) (k : Below w.heap.size w w') : Below a.heap.size a w' := h.trans (k.mono h.size)
/-- What the frame of a law says of a slice of integers that came in. -/
def CameIn (k : IntKind) (w : World) (a : Option Addr) (len cap : Nat) (zs : List Int) : Prop :=
  (a = none ∧ len = 0 ∧ cap = 0 ∧ zs = []) ∨
  ∃ x, a = some x ∧ len ≤ cap ∧ cap ≤ maxLen ∧ zs.length = cap ∧ (∀ i, i < zs.length → w.cell? (x.add i) = some (.int k (zs.getD i 0))) ∧ ∀ n ∈ zs, (Lit.int k n).wf = true
theorem wf_u8 {n : Int} (h : (Lit.int .u8 n).wf = true) : 0 ≤ n ∧ n ≤ 255 := by
  simp [Lit.wf, IntKind.min, IntKind.max, IntKind.signed, IntKind.bits] at h; omega
theorem CameIn.rd {w : World} {a : Option Addr} {len cap : Nat} {zs : List Int} (h : CameIn .u8 w a len cap zs) : ∃ l : List UInt8, l.length = len ∧ Rd w w.heap.size a l := by
  rcases h with ⟨rfl, rfl, rfl, rfl⟩ | ⟨x, rfl, hl, hm, hz, hc, hwf⟩
  · exact ⟨[], rfl, .inl rfl⟩
  · refine ⟨(zs.take len).map ub, by simp; omega, ?_⟩
    by_cases h0 : len = 0
    · subst h0; exact .inl (by simp)
    · obtain ⟨b, off, spot⟩ := x
      have hs : spot = none := by simpa [Addr.add] using World.cell?_spot (hc 0 (by omega))
      subst hs
      refine .inr ⟨b, off, rfl, World.block_lt_of_cell? w _ (hc 0 (by omega)), fun i hi => ?_⟩
      simp at hi
      have h2 := hc i (by omega)
      rw [Addr.add_lit] at h2
      rw [h2]
      have h3 := wf_u8 (hwf zs[i] (List.getElem_mem _))
      simp only [List.getElem_map, List.getElem_take, ub_toNat, List.getD_eq_getElem?_getD, List.getElem?_eq_getElem (show i < zs.length by omega), Option.getD_some]
      rw [show zs[i] % 256 = zs[i] by omega]
end Go.Proofs.Ytcimpcocgmlmoaa
