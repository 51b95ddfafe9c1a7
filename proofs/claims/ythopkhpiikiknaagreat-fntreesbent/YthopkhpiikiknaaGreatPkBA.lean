/- Several texts in one: Names, Bytes, Mem, Keys, Opens, KeyLaw, AppV, KSet, KSetLaw, KSetMark, Node, Gen, Tree, TreeLaw, TreeMark, KSetPure, NodePure, KSetImpl, KSetOk, NodeOk, KSetFind, KSetDrop, KSetPut, KSetMerge, NodeSKeys, KSetIPut, KSetIMerge. -/
import Derived.Test.YthopkhpiikiknaaGreatRows
import Derived.WalkKit
import Derived.Below
import Derived.Deep.QuietTactic
import Derived.BigQuiet
import Derived.Lib.Hide
import Derived.OwnWalk
import Derived.Laws.OwnMore
import Derived.Deep.Draws
import Derived.Deep.RegionHeld3
import Derived.Deep.Slices
import Derived.Deep.Fields
import Derived.ChangeSame
import Derived.ProofKit
import Derived.ShutString
import Derived.ChangeOld
import Derived.Deep.DeepCutAuto
import Derived.Maps.AppendAt
namespace Go.Proofs.YthopkhpiikiknaaGreat
open Go.RowKit
set_option maxRecDepth 100000
set_option linter.unusedSimpArgs false
set_option linter.unusedVariables false

def inB (x lo hi : Int) : Bool := decide (lo ≤ x ∧ x ≤ hi)
theorem inB_t {x lo hi : Int} (h : lo ≤ x) (h2 : x ≤ hi) : inB x lo hi = true := by simp [inB, h, h2]
theorem inB_f1 {x lo hi : Int} (h : x < lo) : inB x lo hi = false := by simp [inB]; omega
theorem inB_f2 {x lo hi : Int} (h : hi < x) : inB x lo hi = false := by simp [inB]; omega
theorem ret_bool {a b : Bool} (h : a = b) : Ending.returned (.bool a) = .returned (.bool b) := by rw [h]
def nb (c : Int) : Bool := inB c 97 122 || inB c 48 57
theorem in_any (x lo hi : Int) (w : World) :
  Calls Tryz.prog 59 #[.int .i64 x, .int .i64 lo, .int .i64 hi] w fun e w' => e = .returned (.bool (inB x lo hi)) ∧ w = w' := by
 by_cases h1 : lo ≤ x
 ·by_cases h2 : x ≤ hi
  ·go_enter Tryz.func59, Tryz.ntmps59
   go_wp2
   go_ret
   exact ⟨ret_bool (inB_t (by omega) (by omega)).symm, rfl⟩
  ·go_enter Tryz.func59, Tryz.ntmps59
   go_wp2
   go_ret
   exact ⟨ret_bool (inB_f2 (by omega)).symm, rfl⟩
 ·go_enter Tryz.func59, Tryz.ntmps59
  go_wp2
  go_ret
  exact ⟨ret_bool (inB_f1 (by omega)).symm, rfl⟩

end Go.Proofs.YthopkhpiikiknaaGreat
namespace Go.Proofs.YthopkhpiikiknaaGreat
open Go.RowKit
set_option maxRecDepth 100000
set_option linter.unusedSimpArgs false
set_option linter.unusedVariables false

theorem ret_boolB {a b : Bool} (h : a = b) : Ending.returned (.bool a) = .returned (.bool b) := by rw [h]
theorem ret_intB {k : IntKind} {a b : Int} (h : a = b) : Ending.returned (.int k a) = .returned (.int k b) := by rw [h]
theorem u8_le (c : UInt8) : (0 : Int) ≤ (c.toNat : Int) ∧ (c.toNat : Int) ≤ 255 := by
 have := UInt8.toNat_lt c; omega

/-- The cells that hold these bytes. -/
def bv (l : List UInt8) : List Value := l.map fun c => .int .u8 (c.toNat : Int)
theorem bv_length (l : List UInt8) : (bv l).length = l.length := by simp [bv]
theorem bv_at (l : List UInt8) (k : Nat) (h : k < l.length) : (bv l)[k]? = some (.int .u8 (l[k].toNat : Int)) := by simp [bv, h]
theorem bv_append (l m : List UInt8) : bv (l ++ m) = bv l ++ bv m := by simp [bv]

/-- In w, from the address A on, lie the bytes l; they lie in blocks below B. -/
def Rd (w : World) (B : Nat) (A : Option Addr) (l : List UInt8) : Prop :=
 l = [] ∨ ∃ b off, A = some ⟨b, off, none⟩ ∧ b < B ∧ ∀ i (h : i < l.length), w.cell? ⟨b, off + i, none⟩ = some (.int .u8 (l[i].toNat : Int))
theorem Rd.at_ {w : World} {B : Nat} {A : Option Addr} {l : List UInt8} (h : Rd w B A l) {k : Nat} (hk : k < l.length) :
  ∃ b off, A = some ⟨b, off, none⟩ ∧ b < B ∧ ∀ i (h : i < l.length), w.cell? ⟨b, off + i, none⟩ = some (.int .u8 (l[i].toNat : Int)) := by
 rcases h with rfl | h
 ·simp at hk
 ·exact h
theorem Rd.keep {w w' : World} {B : Nat} {A : Option Addr} {l : List UInt8} (h : Rd w B A l) (hk : ∀ k, k < B → w'.heap[k]? = w.heap[k]?) : Rd w' B A l := by
 rcases h with rfl | ⟨b, off, rfl, hb, hc⟩
 ·exact .inl rfl
 ·exact .inr ⟨b, off, rfl, hb, fun i hi => (World.cell?_of_block (a := ⟨b, off + i, none⟩) (hk b hb)).trans (hc i hi)⟩
theorem Rd.below {w w' : World} {B : Nat} {A : Option Addr} {l : List UInt8} (h : Rd w B A l) (hb : Below B w w') : Rd w' B A l := h.keep hb.block
theorem Rd.mono {w : World} {B B' : Nat} {A : Option Addr} {l : List UInt8} (h : Rd w B A l) (hB : B ≤ B') : Rd w B' A l := by
 rcases h with rfl | ⟨b, off, rfl, hb, hc⟩
 ·exact .inl rfl
 ·exact .inr ⟨b, off, rfl, by omega, hc⟩
theorem Rd.drewN {w : World} {B : Nat} {A : Option Addr} {l : List UInt8} (h : Rd w B A l) (n : Nat) : Rd (w.drewN n) B A l := h

/-- The slice value v is the call's own: it lies in block g alone, which holds its bytes l from its head on, and can be written. -/
def Own (w : World) (g : Nat) (v : Value) (l : List UInt8) : Prop :=
 ∃ cap cur, v = .slice (some ⟨g, 0, none⟩) l.length cap ∧ w.heap[g]? = some (.cells cur 5 (0, 0)) ∧ l.length ≤ cap ∧ cap ≤ maxLen ∧ cur.size = cap ∧ cur.toList.take l.length = bv l
theorem Own.lt {w : World} {g : Nat} {v : Value} {l : List UInt8} (h : Own w g v l) : g < w.heap.size := by
 obtain ⟨cap, cur, _, hg, _⟩ := h
 exact (Array.getElem?_eq_some_iff.1 hg).1
theorem Own.keep {w w' : World} {g : Nat} {v : Value} {l : List UInt8} (h : Own w g v l) (hk : w'.heap[g]? = w.heap[g]?) : Own w' g v l := by
 obtain ⟨cap, cur, hv, hg, r⟩ := h
 exact ⟨cap, cur, hv, hk.trans hg, r⟩
theorem Own.below {w w' : World} {g B : Nat} {v : Value} {l : List UInt8} (h : Own w g v l) (hb : Below B w w') (hB : g < B) : Own w' g v l := h.keep (hb.block g hB)
theorem Own.row {w : World} {g : Nat} {v : Value} {l : List UInt8} (h : Own w g v l) : w.ownsRow g 5 1 v l.length (bv l) := by
 obtain ⟨cap, cur, rfl, hg, h1, h2, h3, h4⟩ := h
 exact ⟨by simp [bv_length], .inr ⟨g, cap, cur, rfl, Nat.le_refl _, hg, h1, h2, by simpa using h3, by simpa using h4⟩⟩
theorem Own.rd {w : World} {g : Nat} {v : Value} {l : List UInt8} (h : Own w g v l) : ∃ cap, v = .slice (some ⟨g, 0, none⟩) l.length cap ∧ l.length ≤ cap ∧ Rd w (g + 1) (some ⟨g, 0, none⟩) l := by
 obtain ⟨cap, cur, rfl, hg, h1, h2, h3, h4⟩ := h
 refine ⟨cap, rfl, h1, .inr ⟨g, 0, rfl, by omega, fun i hi => ?_⟩⟩
 rw [cell_of_row w g (0 + i) cur 5 (0, 0) hg]
 have h5 : (cur.toList.take l.length)[i]? = some (.int .u8 (l[i].toNat : Int)) := by rw [h4]; exact bv_at l i hi
 rw [List.getElem?_take_of_lt hi] at h5
 simpa using h5
/-- Block g of w is a row of n bytes that can be written, whose first k are those of l. -/
def Row (w : World) (g n : Nat) (l : List UInt8) : Prop :=
 ∃ cur : Array Value, w.heap[g]? = some (.cells cur 5 (0, 0)) ∧ cur.size = n ∧ l.length ≤ n ∧ cur.toList.take l.length = bv l
theorem Row.step {w : World} {g n : Nat} {l : List UInt8} (h : Row w g n l) (hk : l.length < n) (c : UInt8) : Row (w.setCell ⟨g, l.length, none⟩ (.int .u8 (c.toNat : Int))) g n (l ++ [c]) := by
 obtain ⟨cur, hg, hs, hl, ht⟩ := h
 refine ⟨cur.setIfInBounds l.length (.int .u8 (c.toNat : Int)), heap_setCell_same w g l.length cur _ _ hg, by simpa using hs, by simp; omega, ?_⟩
 simp only [Array.toList_setIfInBounds, List.length_append, List.length_singleton]
 rw [List.take_succ_eq_append_getElem (by simp; omega)]
 simp only [List.take_set_of_le (Nat.le_refl _), ht, List.getElem_set_self, bv_append]
 rfl
theorem Row.cell {w : World} {g n : Nat} {l : List UInt8} (h : Row w g n l) {k : Nat} (hk : k < n) : ∃ v, w.cell? ⟨g, k, none⟩ = some v := by
 obtain ⟨cur, hg, hs, hl, ht⟩ := h
 exact ⟨cur[k], by rw [cell_of_row w g k cur _ _ hg]; simp⟩
theorem Row.frozen {w : World} {g n : Nat} {l : List UInt8} (h : Row w g n l) (k : Nat) : w.frozen? ⟨g, k, none⟩ = false := by
 obtain ⟨cur, hg, hs, hl, ht⟩ := h
 exact frozen_of_row w g k cur _ hg
theorem Row.new (w : World) (n : Nat) : Row (w.alloc (.cells (madeCells #[.int .u8 0] n) 5)) w.heap.size n [] :=
 ⟨_, heap_alloc_new w _, size_madeCells _ _, Nat.zero_le _, rfl⟩
theorem Row.own {w : World} {g n : Nat} {l : List UInt8} (h : Row w g n l) (hl : l.length = n) (hn : n ≤ 1099511627776) : Own w g (.slice (some ⟨g, 0, none⟩) n n) l := by
 subst hl
 obtain ⟨cur, hg, hs, _, ht⟩ := h
 exact ⟨_, cur, rfl, hg, Nat.le_refl _, by unfold maxLen; omega, hs, ht⟩
/-- The byte that an int is converted to. -/
def ub (n : Int) : UInt8 := UInt8.ofNat (n % 256).toNat
theorem ub_toNat (n : Int) : ((ub n).toNat : Int) = n % 256 := by
 unfold ub
 have h : (n % 256).toNat < 256 := by omega
 simp [UInt8.toNat_ofNat_of_lt' (show (n % 256).toNat < UInt8.size from h)]; omega
theorem only_set {a w : World} {g j : Nat} (h : a.grownBy w (some g)) (u : Value) : a.grownBy (w.setCell ⟨g, j, none⟩ u) (some g) :=
 ⟨h.os, h.tape, h.output, by simpa [World.setCell] using h.size, fun i hi hne => (Below.heap_setCell w ⟨g, j, none⟩ u i (by
  rintro rfl; exact hne rfl)).trans (h.block i hi hne)⟩

theorem Rd.on {w w' : World} {A : Option Addr} {l : List UInt8} (h : Rd w w.heap.size A l) (hb : Below w.heap.size w w') : Rd w' w'.heap.size A l := (h.below hb).mono hb.size
theorem Own.on {w w' : World} {g : Nat} {v : Value} {l : List UInt8} (h : Own w g v l) (hb : Below w.heap.size w w') : Own w' g v l := h.below hb h.lt
theorem Own.all {w : World} {g : Nat} {n cap : Nat} {l : List UInt8} (h : Own w g (.slice (some ⟨g, 0, none⟩) n cap) l) : Rd w w.heap.size (some ⟨g, 0, none⟩) l := by
 obtain ⟨_, _, _, hr⟩ := h.rd
 exact hr.mono h.lt
theorem Own.drewN {w : World} {g : Nat} {v : Value} {l : List UInt8} (h : Own w g v l) (n : Nat) : Own (w.drewN n) g v l := h
theorem bdrew {B : Nat} {a w : World} (h : Below B a w) (n : Nat) : Below B a (w.drewN n) := ⟨h.os, h.tape, h.output, h.size, h.block⟩
theorem bstep {a w w' : World} (h : Below a.heap.size a w) (k : Below w.heap.size w w') : Below a.heap.size a w' := h.trans (k.mono h.size)
/-- What the frame of a law says of a slice of integers that came in. -/
def CameIn (k : IntKind) (w : World) (a : Option Addr) (len cap : Nat) (zs : List Int) : Prop :=
 (a = none ∧ len = 0 ∧ cap = 0 ∧ zs = []) ∨
 ∃ x, a = some x ∧ len ≤ cap ∧ cap ≤ maxLen ∧ zs.length = cap ∧ (∀ i, i < zs.length → w.cell? (x.add i) = some (.int k (zs.getD i 0))) ∧ ∀ n ∈ zs, (Lit.int k n).wf = true
theorem wf_u8 {n : Int} (h : (Lit.int .u8 n).wf = true) : 0 ≤ n ∧ n ≤ 255 := by
 simp [Lit.wf, IntKind.min, IntKind.max, IntKind.signed, IntKind.bits] at h; omega
theorem CameIn.rd {w : World} {a : Option Addr} {len cap : Nat} {zs : List Int} (h : CameIn .u8 w a len cap zs) : ∃ l : List UInt8, l.length = len ∧ Rd w w.heap.size a l := by
 rcases h with ⟨rfl, rfl, rfl, rfl⟩ | ⟨x, rfl, hl, hm, hz, hc, hwf⟩
 ·exact ⟨[], rfl, .inl rfl⟩
 ·refine ⟨(zs.take len).map ub, by simp; omega, ?_⟩
  by_cases h0 : len = 0
  ·subst h0; exact .inl (by simp)
  ·obtain ⟨b, off, spot⟩ := x
   have hs : spot = none := by simpa [Addr.add] using World.cell?_spot (hc 0 (by omega))
   subst hs
   refine .inr ⟨b, off, rfl, World.block_lt_of_cell? w _ (hc 0 (by omega)), fun i hi => ?_⟩
   simp at hi
   have h2 := hc i (by omega)
   rw [Addr.add_lit] at h2
   rw [h2]
   have h3 := wf_u8 (hwf zs[i] (List.getElem_mem _))
   simp only [List.getElem_map, List.getElem_take, ub_toNat, List.getD_eq_getElem?_getD, List.getElem?_eq_getElem (show i < zs.length by omega), Option.getD_some]
   rw [show zs[i] % 256 = zs[i] by omega]
end Go.Proofs.YthopkhpiikiknaaGreat
namespace Go.Proofs.YthopkhpiikiknaaGreat
open Go.RowKit
set_option maxRecDepth 100000
set_option linter.unusedSimpArgs false
set_option linter.unusedVariables false

/-- What one cell holds: a plain value, or a slice of n elements of type e of z cells each. -/
inductive Dat where
 |lit (u : Value)
 |row (e : TypeId) (z : Nat) (n : Nat) (cs : List Dat)

inductive Reads (w : World) (B : Nat) : Value → Dat → Prop
 |lit (u : Value) : Reads w B u (.lit u)
 |nil (A : Option Addr) (cap : Nat) (e : TypeId) (z : Nat) : cap ≤ maxLen → Reads w B (.slice A 0 cap) (.row e z 0 [])
 |row (b off n cap : Nat) (e : TypeId) (z : Nat) (xs : List Value) (cs : List Dat) : b < B → n ≤ cap → cap ≤ maxLen → cs.length = n * z → xs.length = cs.length →
   (∀ i (h : i < xs.length), w.cell? ⟨b, off + i, none⟩ = some xs[i]) → (∀ i (h : i < xs.length) (h' : i < cs.length), Reads w B xs[i] cs[i]) →
   Reads w B (.slice (some ⟨b, off, none⟩) n cap) (.row e z n cs)

theorem Reads.keep {w w' : World} {B : Nat} {v : Value} {c : Dat} (h : Reads w B v c) (hk : ∀ k, k < B → w'.heap[k]? = w.heap[k]?) : Reads w' B v c := by
 induction h with
 |lit u => exact .lit u
 |nil A cap e z h => exact .nil A cap e z h
 |row b off n cap e z xs cs hb hn hc hl hx hcell _ ih =>
  exact .row b off n cap e z xs cs hb hn hc hl hx (fun i hi => (World.cell?_of_block (a := ⟨b, off + i, none⟩) (hk b hb)).trans (hcell i hi)) ih
theorem Reads.mono {w : World} {B B' : Nat} {v : Value} {c : Dat} (h : Reads w B v c) (hB : B ≤ B') : Reads w B' v c := by
 induction h with
 |lit u => exact .lit u
 |nil A cap e z h => exact .nil A cap e z h
 |row b off n cap e z xs cs hb hn hc hl hx hcell _ ih => exact .row b off n cap e z xs cs (by omega) hn hc hl hx hcell ih
theorem Reads.on {w w' : World} {v : Value} {c : Dat} (h : Reads w w.heap.size v c) (hb : Below w.heap.size w w') : Reads w' w'.heap.size v c := (h.keep hb.block).mono hb.size
theorem Reads.drewN {w : World} {B : Nat} {v : Value} {c : Dat} (h : Reads w B v c) (n : Nat) : Reads (w.drewN n) B v c := h.keep (fun _ _ => rfl)
theorem Reads.row' {w : World} {B : Nat} {v : Value} {e z n : Nat} {cs : List Dat} (h : Reads w B v (.row e z n cs)) :
  ∃ A cap, v = .slice A n cap ∧ n ≤ cap ∧ cap ≤ maxLen ∧ cs.length = n * z ∧ (A = none → n = 0) ∧
   (cs = [] ∨ ∃ (b off : Nat) (xs : List Value), A = some ⟨b, off, none⟩ ∧ b < B ∧ xs.length = cs.length ∧ (∀ i (h : i < xs.length), w.cell? ⟨b, off + i, none⟩ = some xs[i]) ∧ ∀ i (h : i < xs.length) (h' : i < cs.length), Reads w B xs[i] cs[i]) := by
 cases h with
 |nil A cap e z h => exact ⟨A, cap, rfl, Nat.zero_le _, h, by simp, fun _ => rfl, .inl rfl⟩
 |row b off n cap e z xs cs hb hn hc hl hx hcell hr => exact ⟨_, cap, rfl, hn, hc, hl, fun h => by simp at h, .inr ⟨b, off, xs, rfl, hb, hx, hcell, hr⟩⟩
theorem Reads.ofBytes {w : World} {B : Nat} {A : Option Addr} {cap : Nat} {e : TypeId} {z n : Nat} {cs : List Dat} {xs : List Value} (hn : n ≤ cap) (hc : cap ≤ maxLen) (hl : cs.length = n * z) (hz : 0 < z)
  (h : cs = [] ∨ ∃ b off, A = some ⟨b, off, none⟩ ∧ b < B ∧ xs.length = cs.length ∧ (∀ i (h : i < xs.length), w.cell? ⟨b, off + i, none⟩ = some xs[i]) ∧ ∀ i (h : i < xs.length) (h' : i < cs.length), Reads w B xs[i] cs[i]) : Reads w B (.slice A n cap) (.row e z n cs) := by
 rcases h with h0 | ⟨b, off, rfl, hb, hx, hcell, hr⟩
 ·subst h0
  have : n = 0 := by
   rcases Nat.mul_eq_zero.1 (show n * z = 0 from hl.symm) with h | h
   ·exact h
   ·omega
  subst this
  exact .nil A cap e z hc
 ·exact .row b off n cap e z xs cs hb hn hc hl hx hcell hr

/-- A list of cells' values reads like a list of data. -/
def ReadsL (w : World) (B : Nat) (vs : List Value) (cs : List Dat) : Prop := vs.length = cs.length ∧ ∀ i (h : i < vs.length) (h' : i < cs.length), Reads w B vs[i] cs[i]
theorem ReadsL.on {w w' : World} {vs : List Value} {cs : List Dat} (h : ReadsL w w.heap.size vs cs) (hb : Below w.heap.size w w') : ReadsL w' w'.heap.size vs cs := ⟨h.1, fun i a b => (h.2 i a b).on hb⟩

inductive Owns (w : World) : (Nat → Prop) → Value → Dat → Prop
 |lit (S : Nat → Prop) (u : Value) : Owns w S u (.lit u)
 |nil (S : Nat → Prop) (e : TypeId) (z : Nat) : Owns w S (.slice none 0 0) (.row e z 0 [])
 |row (S : Nat → Prop) (g n cap : Nat) (e : TypeId) (z : Nat) (cur : Array Value) (xs : List Value) (cs : List Dat) (F : Nat → Nat → Prop) : S g → w.heap[g]? = some (.cells cur e (0, 0)) → n ≤ cap → cap ≤ maxLen → cur.size = cap * z → cs.length = n * z → cur.toList.take (n * z) = xs →
   (∀ i (h : i < xs.length) (h' : i < cs.length), Owns w (F i) xs[i] cs[i]) → (∀ i b, F i b → S b ∧ b ≠ g) → (∀ i j b, i ≠ j → F i b → ¬ F j b) →
   Owns w S (.slice (some ⟨g, 0, none⟩) n cap) (.row e z n cs)
/-- The same of a list of cells: no two of them meet one block. -/
def OwnsL (w : World) (S : Nat → Prop) (vs : List Value) (cs : List Dat) : Prop :=
 vs.length = cs.length ∧ ∃ F : Nat → Nat → Prop, (∀ i (h : i < vs.length) (h' : i < cs.length), Owns w (F i) vs[i] cs[i]) ∧ (∀ i b, F i b → S b) ∧ (∀ i j b, i ≠ j → F i b → ¬ F j b)

theorem Owns.mono {w : World} {S T : Nat → Prop} {v : Value} {c : Dat} (h : Owns w S v c) (hS : ∀ b, S b → T b) : Owns w T v c := by
 cases h with
 |lit S u => exact .lit _ _
 |nil S e z => exact .nil _ e z
 |row S g n cap e z cur xs cs F hg hh hn hc hs hl hx ho hF hd => exact .row T g n cap e z cur xs cs F (hS g hg) hh hn hc hs hl hx ho (fun i b hb => ⟨hS b (hF i b hb).1, (hF i b hb).2⟩) hd
theorem Owns.keep {w w' : World} {S : Nat → Prop} {v : Value} {c : Dat} (h : Owns w S v c) (hk : ∀ b, S b → b < w.heap.size → w'.heap[b]? = w.heap[b]?) : Owns w' S v c := by
 induction h with
 |lit S u => exact .lit _ u
 |nil S e z => exact .nil _ e z
 |row S g n cap e z cur xs cs F hg hh hn hc hs hl hx ho hF hd ih =>
  exact .row S g n cap e z cur xs cs F hg ((hk g hg (Array.getElem?_eq_some_iff.1 hh).1).trans hh) hn hc hs hl hx (fun i a b => ih i a b (fun k hb => hk k (hF i k hb).1)) hF hd
theorem Owns.lt {w : World} {S : Nat → Prop} {v : Value} {c : Dat} (h : Owns w S v c) : Owns w (fun b => S b ∧ b < w.heap.size) v c := by
 induction h with
 |lit S u => exact .lit _ u
 |nil S e z => exact .nil _ e z
 |row S g n cap e z cur xs cs F hg hh hn hc hs hl hx ho hF hd ih =>
  exact .row _ g n cap e z cur xs cs (fun i b => F i b ∧ b < w.heap.size) ⟨hg, (Array.getElem?_eq_some_iff.1 hh).1⟩ hh hn hc hs hl hx ih (fun i b hb => ⟨⟨(hF i b hb.1).1, hb.2⟩, (hF i b hb.1).2⟩) (fun i j b hij h1 h2 => hd i j b hij h1.1 h2.1)
theorem Owns.reads {w : World} {S : Nat → Prop} {v : Value} {c : Dat} (h : Owns w S v c) : Reads w w.heap.size v c := by
 induction h with
 |lit S u => exact .lit u
 |nil S e z => exact .nil _ _ _ _ (Nat.zero_le _)
 |row S g n cap e z cur xs cs F hg hh hn hc hs hl hx ho hF hd ih =>
  have hle : n * z ≤ cur.toList.length := by
   rw [Array.length_toList, hs]; exact Nat.mul_le_mul_right _ hn
  have hxl : xs.length = cs.length := by rw [← hx, hl, List.length_take]; omega
  refine .row g 0 n cap e z xs cs (Array.getElem?_eq_some_iff.1 hh).1 hn hc hl hxl (fun i hi => ?_) ih
  rw [Nat.zero_add, cell_of_row w g i cur e (0, 0) hh]
  subst hx
  simp at hi ⊢
theorem Owns.row' {w : World} {S : Nat → Prop} {v : Value} {e z n : Nat} {cs : List Dat} (h : Owns w S v (.row e z n cs)) :
  (v = .slice none 0 0 ∧ n = 0 ∧ cs = []) ∨ ∃ (g cap : Nat) (cur : Array Value) (xs : List Value), v = .slice (some ⟨g, 0, none⟩) n cap ∧ S g ∧ w.heap[g]? = some (.cells cur e (0, 0)) ∧ n ≤ cap ∧ cap ≤ maxLen ∧ cur.size = cap * z ∧ cs.length = n * z ∧ cur.toList.take (n * z) = xs ∧ OwnsL w (fun b => S b ∧ b ≠ g) xs cs := by
 cases h with
 |nil S e z => exact .inl ⟨rfl, rfl, rfl⟩
 |row S g n cap e z cur xs cs F hg hh hn hc hs hl hx ho hF hd =>
  have hle : n * z ≤ cur.toList.length := by
   rw [Array.length_toList, hs]; exact Nat.mul_le_mul_right _ hn
  have hxl : xs.length = cs.length := by rw [← hx, hl, List.length_take]; omega
  exact .inr ⟨g, cap, cur, xs, rfl, hg, hh, hn, hc, hs, hl, hx, hxl, F, ho, hF, hd⟩
theorem OwnsL.row {w : World} {S : Nat → Prop} {g n cap e z : Nat} {cur : Array Value} {xs : List Value} {cs : List Dat} (hg : S g) (hh : w.heap[g]? = some (.cells cur e (0, 0))) (hn : n ≤ cap) (hc : cap ≤ maxLen) (hs : cur.size = cap * z) (hl : cs.length = n * z) (hx : cur.toList.take (n * z) = xs)
  (h : OwnsL w (fun b => S b ∧ b ≠ g) xs cs) : Owns w S (.slice (some ⟨g, 0, none⟩) n cap) (.row e z n cs) := by
 obtain ⟨_, F, ho, hF, hd⟩ := h
 exact .row S g n cap e z cur xs cs F hg hh hn hc hs hl hx ho hF hd
theorem OwnsL.mono {w : World} {S T : Nat → Prop} {vs : List Value} {cs : List Dat} (h : OwnsL w S vs cs) (hS : ∀ b, S b → T b) : OwnsL w T vs cs := by
 obtain ⟨hl, F, ho, hF, hd⟩ := h
 exact ⟨hl, F, ho, fun i b hb => hS b (hF i b hb), hd⟩
theorem OwnsL.keep {w w' : World} {S : Nat → Prop} {vs : List Value} {cs : List Dat} (h : OwnsL w S vs cs) (hk : ∀ b, S b → b < w.heap.size → w'.heap[b]? = w.heap[b]?) : OwnsL w' S vs cs := by
 obtain ⟨hl, F, ho, hF, hd⟩ := h
 exact ⟨hl, F, fun i a b => (ho i a b).keep (fun k hb => hk k (hF i k hb)), hF, hd⟩
theorem OwnsL.lt {w : World} {S : Nat → Prop} {vs : List Value} {cs : List Dat} (h : OwnsL w S vs cs) : OwnsL w (fun b => S b ∧ b < w.heap.size) vs cs := by
 obtain ⟨hl, F, ho, hF, hd⟩ := h
 exact ⟨hl, fun i b => F i b ∧ b < w.heap.size, fun i a b => (ho i a b).lt, fun i b hb => ⟨hF i b hb.1, hb.2⟩, fun i j b hij h1 h2 => hd i j b hij h1.1 h2.1⟩
theorem OwnsL.reads {w : World} {S : Nat → Prop} {vs : List Value} {cs : List Dat} (h : OwnsL w S vs cs) : ReadsL w w.heap.size vs cs := by
 obtain ⟨hl, F, ho, hF, hd⟩ := h
 exact ⟨hl, fun i a b => (ho i a b).reads⟩
theorem OwnsL.nil (w : World) (S : Nat → Prop) : OwnsL w S [] [] := ⟨rfl, fun _ _ => False, fun i h => by simp at h, fun _ _ h => h.elim, fun _ _ _ _ h => h.elim⟩
theorem OwnsL.append {w : World} {S T U : Nat → Prop} {vs us : List Value} {cs ds : List Dat} (h : OwnsL w S vs cs) (k : OwnsL w T us ds) (hS : ∀ b, S b → U b) (hT : ∀ b, T b → U b) (hd : ∀ b, S b → ¬ T b) : OwnsL w U (vs ++ us) (cs ++ ds) := by
 obtain ⟨hl, F, ho, hF, hdF⟩ := h
 obtain ⟨kl, G, ko, kG, kd⟩ := k
 refine ⟨by simp [hl, kl], fun i b => (i < vs.length ∧ F i b) ∨ (vs.length ≤ i ∧ G (i - vs.length) b), fun i a b => ?_, ?_, ?_⟩
 ·by_cases hi : i < vs.length
  ·rw [List.getElem_append_left hi, List.getElem_append_left (by omega)]
   exact (ho i hi (by omega)).mono (fun b hb => .inl ⟨hi, hb⟩)
  ·rw [List.getElem_append_right (by omega), List.getElem_append_right (by omega)]
   simp only [List.length_append] at a b
   have := ko (i - vs.length) (by omega) (by omega)
   simp only [← hl]
   exact this.mono (fun b hb => .inr ⟨by omega, hb⟩)
 ·rintro i b (⟨_, h⟩ | ⟨_, h⟩)
  ·exact hS b (hF i b h)
  ·exact hT b (kG _ b h)
 ·rintro i j b hij (⟨h1, h⟩ | ⟨h1, h⟩) (⟨k1, k⟩ | ⟨k1, k⟩)
  ·exact hdF i j b hij h k
  ·exact hd b (hF i b h) (kG _ b k)
  ·exact hd b (hF j b k) (kG _ b h)
  ·exact kd _ _ b (by omega) h k
theorem OwnsL.one {w : World} {S : Nat → Prop} {v : Value} {c : Dat} (h : Owns w S v c) : OwnsL w S [v] [c] := by
 refine ⟨rfl, fun i b => i = 0 ∧ S b, fun i a b => ?_, fun _ _ h => h.2, fun i j b hij h k => by omega⟩
 match i, a with
 |0, _ => exact h.mono (fun b hb => ⟨rfl, hb⟩)
theorem OwnsL.snoc {w : World} {S T U : Nat → Prop} {vs : List Value} {cs : List Dat} {v : Value} {c : Dat} (h : OwnsL w S vs cs) (k : Owns w T v c) (hS : ∀ b, S b → U b) (hT : ∀ b, T b → U b) (hd : ∀ b, S b → ¬ T b) : OwnsL w U (vs ++ [v]) (cs ++ [c]) := h.append (.one k) hS hT hd
theorem OwnsL.two {w : World} {S T U : Nat → Prop} {v u : Value} {c d : Dat} (h : Owns w S v c) (k : Owns w T u d) (hS : ∀ b, S b → U b) (hT : ∀ b, T b → U b) (hd : ∀ b, S b → ¬ T b) : OwnsL w U [v, u] [c, d] := (OwnsL.one h).append (.one k) hS hT hd

/-- w' is w but for blocks of S and new ones. -/
structure Only (S : Nat → Prop) (w w' : World) : Prop where
 os : w'.os = w.os
 tape : w'.tape = w.tape
 output : w'.output = w.output
 size : w.heap.size ≤ w'.heap.size
 block : ∀ i, i < w.heap.size → ¬ S i → w'.heap[i]? = w.heap[i]?
theorem Only.refl (S : Nat → Prop) (w : World) : Only S w w := ⟨rfl, rfl, rfl, Nat.le_refl _, fun _ _ _ => rfl⟩
theorem Only.trans {S : Nat → Prop} {a b c : World} (h : Only S a b) (k : Only S b c) : Only S a c :=
 ⟨k.os.trans h.os, k.tape.trans h.tape, k.output.trans h.output, Nat.le_trans h.size k.size, fun i hi hne => (k.block i (Nat.lt_of_lt_of_le hi h.size) hne).trans (h.block i hi hne)⟩
theorem Only.mono {S T : Nat → Prop} {w w' : World} (h : Only S w w') (hS : ∀ b, S b → T b) : Only T w w' := ⟨h.os, h.tape, h.output, h.size, fun i hi hn => h.block i hi (fun hs => hn (hS i hs))⟩
theorem Only.of_below {w w' : World} (h : Below w.heap.size w w') (S : Nat → Prop) : Only S w w' := ⟨h.os, h.tape, h.output, h.size, fun i hi _ => h.block i hi⟩
theorem Only.below {S : Nat → Prop} {w w' : World} {B : Nat} (h : Only S w w') (hB : B ≤ w.heap.size) (hS : ∀ b, S b → B ≤ b) : Below B w w' := ⟨h.os, h.tape, h.output, h.size, fun k hk => h.block k (by omega) (fun hs => by have := hS k hs; omega)⟩
theorem Only.of_grown {w w' : World} {g : Nat} (h : w.grownBy w' (some g)) {S : Nat → Prop} (hS : S g) : Only S w w' := ⟨h.os, h.tape, h.output, h.size, fun i hi hn => h.block i hi (fun e => hn (by injection e with e; exact e ▸ hS))⟩
theorem Only.drewN {S : Nat → Prop} {a w : World} (h : Only S a w) (n : Nat) : Only S a (w.drewN n) := ⟨h.os, h.tape, h.output, h.size, h.block⟩
theorem Only.setCell {S : Nat → Prop} {a w : World} {g j : Nat} (h : Only S a w) (hS : S g) (u : Value) : Only S a (w.setCell ⟨g, j, none⟩ u) :=
 ⟨h.os, h.tape, h.output, by simpa [World.setCell] using h.size, fun i hi hn => (Below.heap_setCell w ⟨g, j, none⟩ u i (by rintro rfl; exact hn hS)).trans (h.block i hi hn)⟩
theorem Owns.far {w w' : World} {S T : Nat → Prop} {v : Value} {c : Dat} (h : Owns w S v c) (hg : Only T w w') (hd : ∀ b, S b → b < w.heap.size → ¬ T b) : Owns w' S v c := h.keep (fun b hb hl => hg.block b hl (hd b hb hl))
theorem OwnsL.far {w w' : World} {S T : Nat → Prop} {v : List Value} {c : List Dat} (h : OwnsL w S v c) (hg : Only T w w') (hd : ∀ b, S b → b < w.heap.size → ¬ T b) : OwnsL w' S v c := h.keep (fun b hb hl => hg.block b hl (hd b hb hl))
theorem Owns.on {w w' : World} {S : Nat → Prop} {v : Value} {c : Dat} (h : Owns w S v c) (hb : Below w.heap.size w w') : Owns w' S v c := h.keep (fun b _ hl => hb.block b hl)
theorem OwnsL.on {w w' : World} {S : Nat → Prop} {v : List Value} {c : List Dat} (h : OwnsL w S v c) (hb : Below w.heap.size w w') : OwnsL w' S v c := h.keep (fun b _ hl => hb.block b hl)
theorem Owns.drewN {w : World} {S : Nat → Prop} {v : Value} {c : Dat} (h : Owns w S v c) (n : Nat) : Owns (w.drewN n) S v c := h.keep (fun _ _ _ => rfl)
theorem OwnsL.drewN {w : World} {S : Nat → Prop} {v : List Value} {c : List Dat} (h : OwnsL w S v c) (n : Nat) : OwnsL (w.drewN n) S v c := h.keep (fun _ _ _ => rfl)

theorem bal1 (w : World) (o : Obj) : Below w.heap.size w (w.alloc o) := (Below.refl _ _).alloc (Nat.le_refl _) _
theorem bal2 (w : World) (o p : Obj) : Below w.heap.size w ((w.alloc o).alloc p) := (bal1 w o).alloc (by simp) _
theorem bal3 (w : World) (o p q : Obj) : Below w.heap.size w (((w.alloc o).alloc p).alloc q) := (bal2 w o p).alloc (by simp; omega) _
theorem bcell {W w1 : World} (hb : Below W.heap.size W w1) : (∀ b o, b < W.heap.size → w1.cell? ⟨b, o, none⟩ = W.cell? ⟨b, o, none⟩) ∧ (∀ b o, b < W.heap.size → w1.frozen? ⟨b, o, none⟩ = W.frozen? ⟨b, o, none⟩) :=
 ⟨fun b o h => hb.cell (p := ⟨b, o, none⟩) h, fun b o h => hb.frozen (p := ⟨b, o, none⟩) h⟩
theorem box_on {w w' : World} {p : Nat} {o : Obj} (q : w.heap[p]? = some o) (hb : Below w.heap.size w w') : w'.heap[p]? = some o := (hb.block p (Array.getElem?_eq_some_iff.1 q).1).trans q
theorem box_far {w : World} {p g j : Nat} {o : Obj} {u : Value} (q : w.heap[p]? = some o) (hne : p ≠ g) : (w.setCell ⟨g, j, none⟩ u).heap[p]? = some o := (Below.heap_setCell _ _ _ _ (by simpa using hne)).trans q
theorem box_set {w : World} {p i : Nat} {cs : Array Value} {t : TypeId} {u : Value} (h : w.heap[p]? = some (.cells cs t (0, 0))) : (w.setCell ⟨p, i, none⟩ u).heap[p]? = some (.cells (cs.setIfInBounds i u) t (0, 0)) := heap_setCell_same w p i cs t u h
theorem box_only {w w' : World} {S : Nat → Prop} {p : Nat} {o : Obj} (q : w.heap[p]? = some o) (hb : Only S w w') (hS : ¬ S p) : w'.heap[p]? = some o := (hb.block p (Array.getElem?_eq_some_iff.1 q).1 hS).trans q
theorem al1 (w : World) (o : Obj) : (w.alloc o).heap[w.heap.size]? = some o := heap_alloc_new w o
theorem al2 (w : World) (o p : Obj) : ((w.alloc o).alloc p).heap[w.heap.size]? = some o ∧ ((w.alloc o).alloc p).heap[w.heap.size + 1]? = some p :=
 ⟨box_on (al1 w o) (bal1 _ _), by have := al1 (w.alloc o) p; simpa using this⟩
theorem al3 (w : World) (o p q : Obj) : (((w.alloc o).alloc p).alloc q).heap[w.heap.size]? = some o ∧ (((w.alloc o).alloc p).alloc q).heap[w.heap.size + 1]? = some p ∧ (((w.alloc o).alloc p).alloc q).heap[w.heap.size + 1 + 1]? = some q :=
 ⟨box_on (al2 w o p).1 (bal1 _ _), box_on (al2 w o p).2 (bal1 _ _), by have := al1 ((w.alloc o).alloc p) q; simpa using this⟩
theorem box2 {w : World} {p : Nat} {a b : Value} {t : TypeId} (h : w.heap[p]? = some (.cells #[a, b] t (0, 0))) : w.cell? ⟨p, 0, none⟩ = some a ∧ w.cell? ⟨p, 1, none⟩ = some b ∧ ∀ o, w.frozen? ⟨p, o, none⟩ = false :=
 ⟨by rw [cell_of_row w p 0 _ _ _ h]; rfl, by rw [cell_of_row w p 1 _ _ _ h]; rfl, fun o => frozen_of_row w p o _ _ h⟩
/-- Block g of w is a row of n cells of type e, whose first ones are xs. -/
def RowV (w : World) (g n : Nat) (e : TypeId) (xs : List Value) : Prop :=
 ∃ cur : Array Value, w.heap[g]? = some (.cells cur e (0, 0)) ∧ cur.size = n ∧ xs.length ≤ n ∧ cur.toList.take xs.length = xs
theorem RowV.step {w : World} {g n : Nat} {e : TypeId} {xs : List Value} (h : RowV w g n e xs) (hk : xs.length < n) (u : Value) : RowV (w.setCell ⟨g, xs.length, none⟩ u) g n e (xs ++ [u]) := by
 obtain ⟨cur, hg, hs, hl, ht⟩ := h
 refine ⟨cur.setIfInBounds xs.length u, heap_setCell_same w g xs.length cur _ _ hg, by simpa using hs, by simp; omega, ?_⟩
 simp only [Array.toList_setIfInBounds, List.length_append, List.length_singleton]
 rw [List.take_succ_eq_append_getElem (by simp; omega)]
 simp only [List.take_set_of_le (Nat.le_refl _), ht, List.getElem_set_self]
theorem RowV.keep {w w' : World} {g n : Nat} {e : TypeId} {xs : List Value} (h : RowV w g n e xs) (hk : w'.heap[g]? = w.heap[g]?) : RowV w' g n e xs := by
 obtain ⟨cur, hg, r⟩ := h
 exact ⟨cur, hk.trans hg, r⟩
theorem RowV.lt {w : World} {g n : Nat} {e : TypeId} {xs : List Value} (h : RowV w g n e xs) : g < w.heap.size := by
 obtain ⟨cur, hg, _⟩ := h
 exact (Array.getElem?_eq_some_iff.1 hg).1
theorem RowV.cell {w : World} {g n : Nat} {e : TypeId} {xs : List Value} (h : RowV w g n e xs) {k : Nat} (hk : k < n) : ∃ v, w.cell? ⟨g, k, none⟩ = some v := by
 obtain ⟨cur, hg, hs, hl, ht⟩ := h
 exact ⟨cur[k], by rw [cell_of_row w g k cur _ _ hg]; simp⟩
theorem RowV.frozen {w : World} {g n : Nat} {e : TypeId} {xs : List Value} (h : RowV w g n e xs) (k : Nat) : w.frozen? ⟨g, k, none⟩ = false := by
 obtain ⟨cur, hg, _⟩ := h
 exact frozen_of_row w g k cur _ hg
theorem RowV.new (w : World) (zs : Array Value) (e : TypeId) : RowV (w.alloc (.cells zs e)) w.heap.size zs.size e [] :=
 ⟨_, heap_alloc_new w _, rfl, Nat.zero_le _, rfl⟩
theorem RowV.owns {w : World} {g n z : Nat} {e : TypeId} {xs : List Value} {cs : List Dat} (h : RowV w g (n * z) e xs) (ho : OwnsL w (fun b => g < b) xs cs) (hl : cs.length = n * z) (hn : n ≤ maxLen) : Owns w (fun b => g ≤ b) (.slice (some ⟨g, 0, none⟩) n n) (.row e z n cs) := by
 obtain ⟨cur, hg, hs, hl2, ht⟩ := h
 have hx : xs.length = n * z := ho.1.trans hl
 exact OwnsL.row (xs := xs) (Nat.le_refl _) hg (Nat.le_refl _) hn hs hl (by rw [← hx]; exact ht) (ho.mono (fun b hb => ⟨by omega, by omega⟩))
theorem OwnsL.setLit {w : World} {S : Nat → Prop} {vs : List Value} {cs : List Dat} (h : OwnsL w S vs cs) (i : Nat) (u : Value) : OwnsL w S (vs.set i u) (cs.set i (.lit u)) := by
 obtain ⟨hl, F, ho, hF, hd⟩ := h
 refine ⟨by simp [hl], F, fun j a b => ?_, hF, hd⟩
 simp only [List.length_set] at a b
 by_cases hij : i = j
 ·subst hij; simp only [List.getElem_set_self]; exact .lit _ _
 ·rw [List.getElem_set_ne hij, List.getElem_set_ne hij]; exact ho j a b
/-- Block g of w: cap elements of z cells of type e; the cells of the first n are xs. -/
def Rw (w : World) (g : Nat) (e : TypeId) (z n cap : Nat) (xs : List Value) : Prop := ∃ cur : Array Value, w.heap[g]? = some (.cells cur e (0, 0)) ∧ cur.size = cap * z ∧ cur.toList.take (n * z) = xs
theorem Rw.keep {w w' : World} {g : Nat} {e : TypeId} {z n cap : Nat} {xs : List Value} (h : Rw w g e z n cap xs) (hk : w'.heap[g]? = w.heap[g]?) : Rw w' g e z n cap xs := by
 obtain ⟨cur, hg, r⟩ := h
 exact ⟨cur, hk.trans hg, r⟩
theorem Rw.lt {w : World} {g : Nat} {e : TypeId} {z n cap : Nat} {xs : List Value} (h : Rw w g e z n cap xs) : g < w.heap.size := by
 obtain ⟨cur, hg, r⟩ := h
 exact (Array.getElem?_eq_some_iff.1 hg).1
theorem Rw.set {w : World} {g : Nat} {e : TypeId} {z n cap : Nat} {xs : List Value} (h : Rw w g e z n cap xs) (i : Nat) (u : Value) : Rw (w.setCell ⟨g, i, none⟩ u) g e z n cap (xs.set i u) := by
 obtain ⟨cur, hg, hs, hx⟩ := h
 refine ⟨cur.setIfInBounds i u, heap_setCell_same w g i cur _ _ hg, by simpa using hs, ?_⟩
 rw [Array.toList_setIfInBounds, ← hx, List.take_set]
theorem Rw.cell {w : World} {g : Nat} {e : TypeId} {z n cap : Nat} {xs : List Value} (h : Rw w g e z n cap xs) {i : Nat} (hi : i < xs.length) : w.cell? ⟨g, i, none⟩ = some xs[i] := by
 obtain ⟨cur, hg, hs, hx⟩ := h
 rw [cell_of_row w g i cur _ _ hg]
 subst hx
 simp at hi ⊢
theorem Rw.frozen {w : World} {g : Nat} {e : TypeId} {z n cap : Nat} {xs : List Value} (h : Rw w g e z n cap xs) (k : Nat) : w.frozen? ⟨g, k, none⟩ = false := by
 obtain ⟨cur, hg, _⟩ := h
 exact frozen_of_row w g k cur _ hg
theorem Rw.owns {w : World} {S : Nat → Prop} {g : Nat} {e : TypeId} {z n cap : Nat} {xs : List Value} {cs : List Dat} (h : Rw w g e z n cap xs) (hS : S g) (ho : OwnsL w (fun b => S b ∧ b ≠ g) xs cs) (hn : n ≤ cap) (hc : cap ≤ maxLen) (hl : cs.length = n * z) : Owns w S (.slice (some ⟨g, 0, none⟩) n cap) (.row e z n cs) := by
 obtain ⟨cur, hg, hs, hx⟩ := h
 exact OwnsL.row hS hg hn hc hs hl hx ho
theorem Owns.rw' {w : World} {S : Nat → Prop} {v : Value} {e z n : Nat} {cs : List Dat} (h : Owns w S v (.row e z n cs)) :
  (v = .slice none 0 0 ∧ n = 0 ∧ cs = []) ∨ ∃ (g cap : Nat) (xs : List Value), v = .slice (some ⟨g, 0, none⟩) n cap ∧ S g ∧ Rw w g e z n cap xs ∧ n ≤ cap ∧ cap ≤ maxLen ∧ cs.length = n * z ∧ xs.length = cs.length ∧ OwnsL w (fun b => S b ∧ b ≠ g) xs cs := by
 rcases h.row' with h | ⟨g, cap, cur, xs, rfl, hS, hh, hn, hc, hs, hl, hx, ho⟩
 ·exact .inl h
 ·exact .inr ⟨g, cap, xs, rfl, hS, ⟨cur, hh, hs, hx⟩, hn, hc, hl, ho.1, ho⟩
/-- The cells of a list of structs of z cells each. -/
theorem flat_len {α : Type} (f : α → List Dat) (z : Nat) (ps : List α) (hf : ∀ p, (f p).length = z) : (ps.flatMap f).length = ps.length * z := by
 induction ps with
 |nil => simp
 |cons p ps ih => simp [List.flatMap_cons, ih, hf, Nat.add_mul]; omega
theorem flat_get {α : Type} (f : α → List Dat) (z : Nat) (ps : List α) (hf : ∀ p, (f p).length = z) (i j : Nat) (hi : i < ps.length) (hj : j < z) : (ps.flatMap f)[i * z + j]? = (f ps[i])[j]? := by
 induction ps generalizing i with
 |nil => simp at hi
 |cons p ps ih =>
  rw [List.flatMap_cons]
  match i with
  |0 => rw [List.getElem?_append_left (by rw [hf]; omega)]; simp
  |i + 1 =>
   rw [List.getElem?_append_right (by rw [hf, Nat.add_mul]; omega), hf, show (i + 1) * z + j - z = i * z + j by rw [Nat.add_mul]; omega]
   simpa using ih i (by simpa using hi)
theorem flat_lt {n z i j : Nat} (hi : i < n) (hj : j < z) : i * z + j < n * z := by
 calc i * z + j < i * z + z := by omega
  _ = (i + 1) * z := by rw [Nat.add_mul]; omega
  _ ≤ n * z := Nat.mul_le_mul_right _ hi
/-- Bytes, one cell each. -/
def bytesD (l : List UInt8) : Dat := .row 5 1 l.length (l.map fun c => .lit (.int .u8 (c.toNat : Int)))
theorem Reads.bytes {w : World} {B : Nat} {v : Value} {l : List UInt8} (h : Reads w B v (bytesD l)) : ∃ A cap, v = .slice A l.length cap ∧ l.length ≤ cap ∧ cap ≤ maxLen ∧ Rd w B A l := by
 obtain ⟨A, cap, rfl, hn, hc, _, _, h⟩ := h.row'
 refine ⟨A, cap, rfl, hn, hc, ?_⟩
 rcases h with h | ⟨b, off, xs, rfl, hb, hx, hcell, hr⟩
 ·exact .inl (by simpa using h)
 ·refine .inr ⟨b, off, rfl, hb, fun i hi => ?_⟩
  have hx' : xs.length = l.length := by simpa using hx
  rw [hcell i (by omega)]
  have := hr i (by omega) (by simpa using hi)
  rw [List.getElem_map] at this
  generalize xs[i] = x at this
  cases this
  rfl
theorem Rd.bytes {w : World} {B : Nat} {A : Option Addr} {cap : Nat} {l : List UInt8} (h : Rd w B A l) (hn : l.length ≤ cap) (hc : cap ≤ maxLen) : Reads w B (.slice A l.length cap) (bytesD l) := by
 rcases h with rfl | ⟨b, off, rfl, hb, hcell⟩
 ·exact .nil A cap _ _ hc
 ·refine .row b off l.length cap _ 1 (bv l) _ hb hn hc (by simp) (by simp [bv_length]) (fun i hi => ?_) (fun i hi h' => ?_)
  ·rw [bv_length] at hi
   rw [hcell i hi]; simp [bv]
  ·simp only [bv, List.getElem_map]; exact .lit _
theorem Own.owns {w : World} {g : Nat} {v : Value} {l : List UInt8} (h : Own w g v l) {S : Nat → Prop} (hS : S g) : Owns w S v (bytesD l) := by
 obtain ⟨cap, cur, rfl, hg, h1, h2, h3, h4⟩ := h
 refine .row S g l.length cap _ 1 cur (bv l) _ (fun _ _ => False) hS hg h1 h2 (by simpa using h3) (by simp) (by simpa using h4) (fun i hi h' => ?_) (fun _ _ h => h.elim) (fun _ _ _ _ h => h.elim)
 simp only [bv, List.getElem_map]; exact .lit _ _
theorem Owns.bytes {w : World} {S : Nat → Prop} {v : Value} {l : List UInt8} (h : Owns w S v (bytesD l)) : (v = .slice none 0 0 ∧ l = []) ∨ ∃ g, S g ∧ Own w g v l := by
 rcases h.row' with ⟨rfl, h, _⟩ | ⟨g, cap, cur, xs, rfl, hS, hh, hn, hc, hs, hl, hx, ho⟩
 ·exact .inl ⟨rfl, List.length_eq_zero_iff.1 h⟩
 ·refine .inr ⟨g, hS, cap, cur, rfl, hh, hn, hc, by simpa using hs, ?_⟩
  rw [Nat.mul_one] at hx
  rw [hx]
  have hr := ho.reads
  refine List.ext_getElem (by rw [hr.1, bv_length]; simp) (fun i h1 h2 => ?_)
  have := hr.2 i h1 (by rw [← hr.1]; exact h1)
  rw [List.getElem_map] at this
  simp only [bv, List.getElem_map]
  generalize xs[i] = x at this
  cases this
  rfl
end Go.Proofs.YthopkhpiikiknaaGreat
namespace Go.Proofs.YthopkhpiikiknaaGreat
open Go.RowKit
set_option maxRecDepth 100000
set_option linter.unusedSimpArgs false
set_option linter.unusedVariables false

/-- A key as a value. -/
def keyV (a b c d e : Int) : Value := .agg #[.int .i64 a, .int .i64 b, .int .i64 c, .int .i64 d, .int .i64 e]
def tgtB (c d e : Int) : Bool := if c = 1 then decide (0 ≤ d) && decide (d ≤ 23) && decide (0 ≤ e) && decide (e ≤ 999) else if c = 0 ∨ c = 2 then decide (d = 0) && decide (e = 0) else false
def keyOkB (a b c d e : Int) : Bool := decide (0 ≤ a) && decide (a ≤ 15) && decide (1 ≤ b) && decide (b ≤ 60) && tgtB c d e
def lessB (a b a' b' : Int) : Bool := if a = a' then decide (b < b') else decide (a < a')
def spotB (a b a' b' : Int) : Bool := decide (a = a') && decide (b = b')
theorem box5 {w : World} {p : Nat} {a b c d e : Value} {t : TypeId} (h : w.heap[p]? = some (.cells #[a, b, c, d, e] t (0, 0))) : w.cell? ⟨p, 0, none⟩ = some a ∧ w.cell? ⟨p, 1, none⟩ = some b ∧ w.cell? ⟨p, 2, none⟩ = some c ∧ w.cell? ⟨p, 3, none⟩ = some d ∧ w.cell? ⟨p, 4, none⟩ = some e ∧ ∀ o, w.frozen? ⟨p, o, none⟩ = false :=
 ⟨by rw [cell_of_row w p 0 _ _ _ h]; rfl, by rw [cell_of_row w p 1 _ _ _ h]; rfl, by rw [cell_of_row w p 2 _ _ _ h]; rfl, by rw [cell_of_row w p 3 _ _ _ h]; rfl, by rw [cell_of_row w p 4 _ _ _ h]; rfl, fun o => frozen_of_row w p o _ _ h⟩
def SaysBool (w : World) (b : Bool) (r : Ending) (w' : World) : Prop := r = .returned (.bool b) ∧ Below w.heap.size w w'

theorem targetOk_any (a b c d e : Int) (w : World) : Calls Tryz.prog 71 #[keyV a b c d e] w (SaysBool w (tgtB c d e)) := by
 unfold keyV
 have HB := Lib.hid (bal1 w (.cells #[.int .i64 a, .int .i64 b, .int .i64 c, .int .i64 d, .int .i64 e] 29))
 by_cases h1 : c = 1
 ·subst h1
  by_cases k1 : 0 ≤ d <;> by_cases k2 : d < 24 <;> by_cases k3 : 0 ≤ e <;> by_cases k4 : e ≤ 999 <;> try omega
  all_goals
   go_enter Tryz.func71, Tryz.ntmps71
   go_wp2
   go_ret
   exact ⟨ret_bool (by simp only [tgtB, if_true]; symm; first | (simp; omega) | simp [*]), HB.out⟩
 ·have e1 : (c == 1) = false := by simp [h1]
  by_cases h2 : c = 0 ∨ c = 2
  ·have H1 := Lib.hid h1
   have H2 := Lib.hid h2
   clear h1
   have ht : tgtB c d e = (decide (d = 0) && decide (e = 0)) := by rw [tgtB, if_neg H1.out, if_pos H2.out]
   rw [ht]
   clear ht
   rcases h2 with rfl | rfl
   all_goals
    by_cases k1 : d = 0 <;> by_cases k2 : e = 0
    all_goals
     have d1 : (d == 0) = decide (d = 0) := by rfl
     have d2 : (e == 0) = decide (e = 0) := by rfl
     simp only [k1, k2, decide_true, decide_false] at d1 d2 ⊢
     go_enter Tryz.func71, Tryz.ntmps71
     go_wp2
     go_ret
     exact ⟨rfl, bal1 _ _⟩
  ·have ht : tgtB c d e = false := by rw [tgtB, if_neg h1, if_neg h2]
   rw [ht]
   have e2 : (c == 0) = false := by simp; omega
   have e3 : (c == 2) = false := by simp; omega
   clear h1 h2 ht
   go_enter Tryz.func71, Tryz.ntmps71
   go_wp2
   go_ret
   exact ⟨rfl, HB.out⟩
theorem implKeyOk_any (a b c d e : Int) (w : World) : Calls Tryz.prog 34 #[keyV a b c d e] w (SaysBool w (keyOkB a b c d e)) := by
 have HT := Lib.hid (targetOk_any a b c d e)
 unfold keyV at HT ⊢
 have HB := Lib.hid (bal1 w (.cells #[.int .i64 a, .int .i64 b, .int .i64 c, .int .i64 d, .int .i64 e] 29))
 unfold keyOkB
 generalize tgtB c d e = T at *
 by_cases h1 : 0 ≤ a <;> by_cases h2 : a ≤ 15 <;> by_cases h3 : 1 ≤ b <;> by_cases h4 : b ≤ 60 <;> try omega
 all_goals
  simp only [h1, h2, h3, h4, decide_true, decide_false, Bool.true_and, Bool.false_and]
  go_enter Tryz.func34, Tryz.ntmps34
  go_wp2_with (go_at_call 71; refine (HT.out _).mono ?_; rintro r w1 ⟨rfl, b1⟩; have hb := bstep HB.out b1; clear b1)
  go_ret
  first | exact ⟨rfl, hb⟩ | exact ⟨rfl, HB.out⟩
theorem keyOk_out {a b c d e : Int} (h : inB a 0 15 = false ∨ inB b 1 60 = false ∨ inB c 0 2 = false) : keyOkB a b c d e = false := by
 have h2 : ¬ (0 ≤ a ∧ a ≤ 15 ∧ 1 ≤ b ∧ b ≤ 60 ∧ 0 ≤ c ∧ c ≤ 2) := by
  intro k
  simp [inB] at h
  omega
 cases hk : keyOkB a b c d e with
 |false => rfl
 |true =>
  refine absurd ?_ h2
  have ht : tgtB c d e = true → 0 ≤ c ∧ c ≤ 2 := by
   unfold tgtB
   split
   ·omega
   ·split
    ·omega
    ·intro h; cases h
  simp only [keyOkB, Bool.and_eq_true, decide_eq_true_eq] at hk
  obtain ⟨⟨⟨⟨x1, x2⟩, x3⟩, x4⟩, x5⟩ := hk
  exact ⟨x1, x2, x3, x4, ht x5⟩
theorem keyOk_data {a b d e : Int} (h1 : inB a 0 15 = true) (h2 : inB b 1 60 = true) : keyOkB a b 1 d e = (inB d 0 23 && inB e 0 999) := by
 simp [inB] at h1 h2
 simp [keyOkB, tgtB, inB, h1, h2, Bool.and_assoc]
theorem keyOk_rest {a b c d e : Int} (h1 : inB a 0 15 = true) (h2 : inB b 1 60 = true) (h3 : inB c 0 2 = true) (h4 : c ≠ 1) : keyOkB a b c d e = (decide (d = 0) && decide (e = 0)) := by
 simp [inB] at h1 h2 h3
 rw [keyOkB, tgtB, if_neg h4, if_pos (by omega)]
 simp [h1, h2]
theorem specKeyOk_any (a b c d e : Int) (w : World) : Calls Tryz.prog 39 #[keyV a b c d e] w (SaysBool w (keyOkB a b c d e)) := by
 unfold keyV
 have HB := Lib.hid (bal1 w (.cells #[.int .i64 a, .int .i64 b, .int .i64 c, .int .i64 d, .int .i64 e] 29))
 cases h1 : inB a 0 15
 ·have H1 := Lib.hid h1
  rw [keyOk_out (.inl h1)]
  clear h1
  go_enter Tryz.func39, Tryz.ntmps39
  go_wp2_with (go_at_call 59; refine (in_any _ _ _ _).mono ?_; rintro r w1 ⟨rfl, rfl⟩; rw [H1.out])
  go_ret
  exact ⟨rfl, HB.out⟩
 ·cases h2 : inB b 1 60
  ·have H1 := Lib.hid h1
   have H2 := Lib.hid h2
   rw [keyOk_out (.inr (.inl h2))]
   clear h1 h2
   go_enter Tryz.func39, Tryz.ntmps39
   go_wp2_with (go_at_call 59; refine (in_any _ _ _ _).mono ?_; rintro r w1 ⟨rfl, rfl⟩; (first | rw [H1.out] | rw [H2.out]))
   go_ret
   exact ⟨rfl, HB.out⟩
  ·cases h3 : inB c 0 2
   ·have H1 := Lib.hid h1
    have H2 := Lib.hid h2
    have H3 := Lib.hid h3
    rw [keyOk_out (.inr (.inr h3))]
    clear h1 h2 h3
    go_enter Tryz.func39, Tryz.ntmps39
    go_wp2_with (go_at_call 59; refine (in_any _ _ _ _).mono ?_; rintro r w1 ⟨rfl, rfl⟩; (first | rw [H1.out] | rw [H2.out] | rw [H3.out]))
    go_ret
    exact ⟨rfl, HB.out⟩
   ·have H1 := Lib.hid h1
    have H2 := Lib.hid h2
    have H3 := Lib.hid h3
    by_cases hc : c = 1
    ·subst hc
     rw [keyOk_data h1 h2]
     clear h1 h2 h3
     cases h4 : inB d 0 23
     all_goals
      have H4 := Lib.hid h4
      clear h4
      go_enter Tryz.func39, Tryz.ntmps39
      go_wp2_with (go_at_call 59; refine (in_any _ _ _ _).mono ?_; rintro r w1 ⟨rfl, rfl⟩; (first | rw [H1.out] | rw [H2.out] | rw [H3.out] | rw [H4.out] | skip))
      go_ret
      exact ⟨rfl, bal1 _ _⟩
    ·rw [keyOk_rest h1 h2 h3 hc]
     clear h1 h2 h3
     have e1 : (c == 1) = false := by simp [hc]
     clear hc
     by_cases k1 : d = 0 <;> by_cases k2 : e = 0
     all_goals
      have d1 : (d == 0) = decide (d = 0) := by rfl
      have d2 : (e == 0) = decide (e = 0) := by rfl
      simp only [k1, k2, decide_true, decide_false] at d1 d2 ⊢
      go_enter Tryz.func39, Tryz.ntmps39
      go_wp2_with (go_at_call 59; refine (in_any _ _ _ _).mono ?_; rintro r w1 ⟨rfl, rfl⟩; (first | rw [H1.out] | rw [H2.out] | rw [H3.out]))
      go_ret
      exact ⟨rfl, bal1 _ _⟩
theorem implLessKey_any (a b c d e a' b' c' d' e' : Int) (w : World) : Calls Tryz.prog 14 #[keyV a b c d e, keyV a' b' c' d' e'] w (SaysBool w (lessB a b a' b')) := by
 unfold keyV
 have HB := Lib.hid (bal2 w (.cells #[.int .i64 a, .int .i64 b, .int .i64 c, .int .i64 d, .int .i64 e] 29) (.cells #[.int .i64 a', .int .i64 b', .int .i64 c', .int .i64 d', .int .i64 e'] 29))
 unfold lessB
 by_cases h : a = a'
 ·subst h
  rw [if_pos rfl]
  go_enter Tryz.func14, Tryz.ntmps14
  go_wp2
  go_ret
  exact ⟨rfl, HB.out⟩
 ·have e1 : (a != a') = true := by simp [h]
  rw [if_neg h]
  go_enter Tryz.func14, Tryz.ntmps14
  go_wp2
  go_ret
  exact ⟨rfl, HB.out⟩
theorem specLessKey_any (a b c d e a' b' c' d' e' : Int) (w : World) : Calls Tryz.prog 86 #[keyV a b c d e, keyV a' b' c' d' e'] w (SaysBool w (lessB a b a' b')) := by
 unfold keyV
 have HB := Lib.hid (bal2 w (.cells #[.int .i64 a, .int .i64 b, .int .i64 c, .int .i64 d, .int .i64 e] 29) (.cells #[.int .i64 a', .int .i64 b', .int .i64 c', .int .i64 d', .int .i64 e'] 29))
 unfold lessB
 by_cases h : a = a'
 ·subst h
  rw [if_pos rfl]
  go_enter Tryz.func86, Tryz.ntmps86
  go_wp2
  go_ret
  exact ⟨rfl, HB.out⟩
 ·have e1 : (a != a') = true := by simp [h]
  rw [if_neg h]
  go_enter Tryz.func86, Tryz.ntmps86
  go_wp2
  go_ret
  exact ⟨rfl, HB.out⟩
theorem specSameSpot_any (a b c d e a' b' c' d' e' : Int) (w : World) : Calls Tryz.prog 87 #[keyV a b c d e, keyV a' b' c' d' e'] w (SaysBool w (spotB a b a' b')) := by
 unfold keyV
 have HB := Lib.hid (bal2 w (.cells #[.int .i64 a, .int .i64 b, .int .i64 c, .int .i64 d, .int .i64 e] 29) (.cells #[.int .i64 a', .int .i64 b', .int .i64 c', .int .i64 d', .int .i64 e'] 29))
 unfold spotB
 by_cases h : a = a'
 ·subst h
  have e2 : (b == b') = decide (b = b') := rfl
  go_enter Tryz.func87, Tryz.ntmps87
  go_wp2
  go_ret
  exact ⟨ret_bool (by simp), HB.out⟩
 ·have e1 : (a == a') = false := by simp [h]
  go_enter Tryz.func87, Tryz.ntmps87
  go_wp2
  go_ret
  exact ⟨ret_bool (by simp [h]), HB.out⟩
end Go.Proofs.YthopkhpiikiknaaGreat
namespace Go.Proofs.YthopkhpiikiknaaGreat
open Go.RowKit Go.ChangeShapes Go.WideShapes Go.Deep
set_option maxRecDepth 100000
set_option linter.unusedSimpArgs false
set_option linter.unusedVariables false

theorem ReadsL.nil (w : World) (B : Nat) : ReadsL w B [] [] := ⟨rfl, fun i h => by simp at h⟩
theorem ReadsL.append {w : World} {B : Nat} {vs us : List Value} {cs ds : List Dat} (h : ReadsL w B vs cs) (k : ReadsL w B us ds) : ReadsL w B (vs ++ us) (cs ++ ds) := by
 refine ⟨by simp [h.1, k.1], fun i a b => ?_⟩
 have hl := h.1
 by_cases hi : i < vs.length
 ·rw [List.getElem_append_left hi, List.getElem_append_left (by omega)]; exact h.2 i hi (by omega)
 ·rw [List.getElem_append_right (by omega), List.getElem_append_right (by omega)]
  simp only [List.length_append] at a b
  simp only [← hl]
  exact k.2 _ (by omega) (by omega)
theorem ReadsL.one {w : World} {B : Nat} {v : Value} {c : Dat} (h : Reads w B v c) : ReadsL w B [v] [c] := by
 refine ⟨rfl, fun i a b => ?_⟩
 match i, a with
 |0, _ => exact h

/-- Whatever a reading at type t meets, its cells read as one of C's lists of data. -/
def Opens (P : Program) (t : TypeId) (C : List Dat → Prop) : Prop :=
 ∀ (H : Type) (enc : TypeId × Value → H) (w : World) (base : Nat) (spare : Nat → Bool) (held : Bool) (fuel : Nat) (cs : List Value) (x : DataW H × List MemPlace),
  DataW.trod enc P w base spare held fuel t cs = some x → ∃ ds, C ds ∧ ReadsL w w.heap.size cs ds
theorem Opens.int {P : Program} {t : TypeId} {k : IntKind} (ht : P.underlying t = some (.int k)) : Opens P t (fun ds => ∃ n, ds = [.lit (.int k n)] ∧ (Lit.int k n).wf = true) := fun H enc w base spare held fuel cs x hx => by
 obtain ⟨n, rfl, _, hw⟩ := DataW.trod_int ht hx
 exact ⟨_, ⟨n, rfl, hw⟩, .one (.lit _)⟩
theorem Opens.bool {P : Program} {t : TypeId} (ht : P.underlying t = some .bool) : Opens P t (fun ds => ∃ b : Bool, ds = [.lit (.bool b)]) := fun H enc w base spare held fuel cs x hx => by
 obtain ⟨n, rfl, _⟩ := DataW.trod_bool ht hx
 exact ⟨_, ⟨n, rfl⟩, .one (.lit _)⟩
theorem Opens.slice {P : Program} {t e : TypeId} {z : Nat} {α : Type} (f : α → List Dat) (hf : ∀ a, (f a).length = z) (hz : 0 < z) (ht : P.underlying t = some (.slice e)) (hc : P.cellsOf e = z) (he : Opens P e (fun ds => ∃ a, ds = f a)) (e' : TypeId) :
  Opens P t (fun ds => ∃ l : List α, ds = [.row e' z l.length (l.flatMap f)]) := fun H enc w base spare held fuel cs x hx => by
 rcases open_slice ht hx with ⟨rfl, _⟩ | ⟨a, len, cap, m, n, D, Pl, rfl, hb, hl, hm, hmm, _, hi⟩
 ·exact ⟨_, ⟨[], rfl⟩, .one (.nil none 0 e' z (Nat.zero_le _))⟩
 ·have hlm : len ≤ m := by rw [hmm]; split <;> omega
  rw [hc] at hi
  have key : ∀ k, k ≤ len → ∃ (l : List α) (xs : List Value), l.length = k ∧ ReadsL w w.heap.size xs (l.flatMap f) ∧ ∀ j (h : j < xs.length), w.cell? (a.add j) = some xs[j] := by
   intro k
   induction k with
   |zero => exact fun _ => ⟨[], [], rfl, .nil _ _, fun j h => by simp at h⟩
   |succ k ih =>
    intro hk
    obtain ⟨l, xs, h1, h2, h3⟩ := ih (by omega)
    obtain ⟨cs', hcs, htr⟩ := hi k (by omega)
    obtain ⟨_, hcl, hat⟩ := World.cells?_some hcs
    obtain ⟨ds, ⟨b, rfl⟩, hr⟩ := he _ _ _ _ _ _ _ _ _ htr
    have hxl : xs.length = k * z := by rw [h2.1, ← h1]; exact flat_len f z l hf
    refine ⟨l ++ [b], xs ++ cs', by simp [h1], by rw [List.flatMap_append, List.flatMap_singleton]; exact h2.append hr, fun j hj => ?_⟩
    by_cases hjx : j < xs.length
    ·rw [List.getElem_append_left hjx]; exact h3 j hjx
    ·rw [List.getElem_append_right (by omega)]
     simp only [List.length_append] at hj
     have h4 := hat (j - xs.length) (by omega)
     rw [Go.Deep.add_add, hxl, show k * z + (j - k * z) = j by omega] at h4
     rw [h4, List.getElem?_eq_getElem (by omega)]
     simp only [hxl]
  obtain ⟨l, xs, h1, h2, h3⟩ := key len (Nat.le_refl _)
  subst h1
  have hfl : (l.flatMap f).length = l.length * z := flat_len f z l hf
  refine ⟨_, ⟨l, rfl⟩, .one ?_⟩
  by_cases h0 : l = []
  ·subst h0; exact .nil _ _ _ _ hm
  ·have hpos : 0 < xs.length := by
    rw [h2.1, hfl]
    exact Nat.mul_pos (List.length_pos_iff.2 h0) hz
   obtain ⟨b, off, spot⟩ := a
   have hs : spot = none := by simpa [Addr.add] using World.cell?_spot (h3 0 hpos)
   subst hs
   exact .row b off l.length cap e' z xs _ (World.block_lt_of_cell? w _ (h3 0 hpos)) hl hm hfl h2.1 (fun i hi => by have := h3 i hi; rw [Addr.add_lit] at this; exact this) h2.2
end Go.Proofs.YthopkhpiikiknaaGreat
namespace Go.Proofs.YthopkhpiikiknaaGreat
open Go.RowKit Go.ChangeShapes Go.WideShapes Go.Deep
set_option maxRecDepth 100000
set_option linter.unusedSimpArgs false
set_option linter.unusedVariables false

structure KeyD where
 (a b c d e : Int)
/-- What the two boxes of a pair of keys hold, cell by cell. -/
theorem keys_held {w W : World} {p q : Nat} {a b c d e a' b' c' d' e' : Value} {t : TypeId} (hp : w.heap[p]? = some (.cells #[a, b, c, d, e] t (0, 0))) (hq : w.heap[q]? = some (.cells #[a', b', c', d', e'] t (0, 0))) (hb : Below w.heap.size w W) :
  W.cell? ⟨p, 0, none⟩ = some a ∧ W.cell? ⟨p, 1, none⟩ = some b ∧ W.cell? ⟨p, 2, none⟩ = some c ∧ W.cell? ⟨p, 3, none⟩ = some d ∧ W.cell? ⟨p, 4, none⟩ = some e ∧ W.cell? ⟨q, 0, none⟩ = some a' ∧ W.cell? ⟨q, 1, none⟩ = some b' ∧ W.cell? ⟨q, 2, none⟩ = some c' ∧ W.cell? ⟨q, 3, none⟩ = some d' ∧ W.cell? ⟨q, 4, none⟩ = some e' := by
 obtain ⟨x0, x1, x2, x3, x4, _⟩ := box5 (box_on hp hb)
 obtain ⟨y0, y1, y2, y3, y4, _⟩ := box5 (box_on hq hb)
 exact ⟨x0, x1, x2, x3, x4, y0, y1, y2, y3, y4⟩
theorem Below.drew1 (w : World) : Below w.heap.size w w.drew := ⟨rfl, rfl, rfl, Nat.le_refl _, fun _ _ => rfl⟩
theorem positionOf_any (a b c d e : Int) (w : World) : Calls Tryz.prog 56 #[keyV a b c d e] w fun r w' => r = .returned (.agg #[.int .i64 a, .int .i64 b]) ∧ Below w.heap.size w w' := by
 unfold keyV
 go_enter Tryz.func56, Tryz.ntmps56
 go_wp2
 exact bodyPost_ret (v := .agg #[.int .i64 a, .int .i64 b]) (by simp [results, Tryz.results56, go_sem]) rfl ⟨rfl, bal2 _ _ _⟩
set_option maxHeartbeats 1000000 in
theorem implSameSpot_any (a b c d e a' b' c' d' e' : Int) (w : World) : Calls Tryz.prog 13 #[keyV a b c d e, keyV a' b' c' d' e'] w (SaysBool w (spotB a b a' b')) := by
 have hsp : ∃ x y, (a == a') = x ∧ (b == b') = y ∧ spotB a b a' b' = (x && y) := ⟨_, _, rfl, rfl, rfl⟩
 obtain ⟨x, y, hx, hy, hxy⟩ := hsp
 rw [hxy]
 clear hxy
 have HP := Lib.hid positionOf_any
 unfold keyV at HP ⊢
 obtain ⟨q0, q1⟩ := al2 w (.cells #[.int .i64 a, .int .i64 b, .int .i64 c, .int .i64 d, .int .i64 e] 29) (.cells #[.int .i64 a', .int .i64 b', .int .i64 c', .int .i64 d', .int .i64 e'] 29)
 have Q0 := Lib.hid q0
 have Q1 := Lib.hid q1
 have HB := Lib.hid (bal2 w (.cells #[.int .i64 a, .int .i64 b, .int .i64 c, .int .i64 d, .int .i64 e] 29) (.cells #[.int .i64 a', .int .i64 b', .int .i64 c', .int .i64 d', .int .i64 e'] 29))
 clear q0 q1
 cases x <;> cases y
 all_goals
  go_enter Tryz.func13, Tryz.ntmps13
  go_upto_region 1 with (fail)
  generalize (w.alloc (.cells #[.int .i64 a, .int .i64 b, .int .i64 c, .int .i64 d, .int .i64 e] 29)).alloc (.cells #[.int .i64 a', .int .i64 b', .int .i64 c', .int .i64 d', .int .i64 e'] 29) = W at *
  obtain ⟨x0, x1, x2, x3, x4, y0, y1, y2, y3, y4⟩ := keys_held Q0.out Q1.out (Below.refl _ _)
  go_region_held3 (fun V => V.cell? ⟨w.heap.size, 0, none⟩ = some (.int .i64 a) ∧ V.cell? ⟨w.heap.size, 1, none⟩ = some (.int .i64 b) ∧ V.cell? ⟨w.heap.size, 2, none⟩ = some (.int .i64 c) ∧ V.cell? ⟨w.heap.size, 3, none⟩ = some (.int .i64 d) ∧ V.cell? ⟨w.heap.size, 4, none⟩ = some (.int .i64 e) ∧ V.cell? ⟨w.heap.size + 1, 0, none⟩ = some (.int .i64 a') ∧ V.cell? ⟨w.heap.size + 1, 1, none⟩ = some (.int .i64 b') ∧ V.cell? ⟨w.heap.size + 1, 2, none⟩ = some (.int .i64 c') ∧ V.cell? ⟨w.heap.size + 1, 3, none⟩ = some (.int .i64 d') ∧ V.cell? ⟨w.heap.size + 1, 4, none⟩ = some (.int .i64 e'))
   (first | with_reducible exact keys_held Q0.out Q1.out B8 | with_reducible exact keys_held Q0.out Q1.out B7 | with_reducible exact keys_held Q0.out Q1.out (Below.drew1 _) | exact ⟨x0, x1, x2, x3, x4, y0, y1, y2, y3, y4⟩)
   (first
    |(go_at_call 56; refine (HP.out _ _ _ _ _ _).mono ?_; rintro r w8 ⟨rfl, b8⟩; have B8 := bstep B7 b8)
    |(go_at_call 56; refine (HP.out _ _ _ _ _ _).mono ?_; rintro r w7 ⟨rfl, b7⟩; have B7 := bstep (Below.drew1 _) b7))
  all_goals
   go_wp2
   go_ret
   exact ⟨rfl, bstep HB.out B8⟩
end Go.Proofs.YthopkhpiikiknaaGreat
namespace Go.Proofs.YthopkhpiikiknaaGreat
open Go.RowKit
set_option maxRecDepth 100000
set_option linter.unusedSimpArgs false
set_option linter.unusedVariables false

/-- From the address A on lie the values xs. -/
def At (w : World) (A : Option Addr) (xs : List Value) : Prop := xs = [] ∨ ∃ b off, A = some ⟨b, off, none⟩ ∧ ∀ i (h : i < xs.length), w.cell? ⟨b, off + i, none⟩ = some xs[i]
theorem run_appV {P : Program} (w : World) (ty t e z by_ : Nat) (zero : Value) (ht : P.underlying t = some (.slice e)) (hinfo : (P.info? e).map (fun i => (i.zero, i.size, i.bytes)) = some (some zero, z, by_)) (hzc : zero.cells.size = z) (hz : 0 < z) (hby : by_ ≤ 1024)
  (base n : Nat) (v : Value) (xs : List Value) (hown : w.ownsRow base e z v n xs) (A : Option Addr) (m c : Nat) (news : List Value) (hl : news.length = m * z) (hA : At w A news) (h1 : ∀ u ∈ news, u.oneCell' = true) (hlen : n + m ≤ 1073741824) (hbase : base ≤ w.heap.size) :
  ∃ v' w', (Builtin.append_ #[t, t] ty #[v, .slice A m c]).run P w = .ok v' w' ∧ w'.ownsRow base e z v' (n + m) (xs ++ news) ∧ w.grownBy w' v.ownBlock ∧ (v' = .slice none 0 0 ↔ v = .slice none 0 0 ∧ m = 0) ∧ (v'.ownBlock = v.ownBlock ∨ v'.ownBlock = some w.heap.size) := by
 obtain ⟨i, hi, h0, hs, hb⟩ := info_parts hinfo
 rcases A with _ | ad
 ·have hn : news = [] := by
   rcases hA with h | ⟨b, off, h, _⟩
   ·exact h
   ·cases h
  subst hn
  have hm : m = 0 := by
   rcases Nat.mul_eq_zero.1 (show m * z = 0 from hl.symm) with h | h
   ·exact h
   ·omega
  subst hm
  refine ⟨v, w, ?_, by simpa using hown, World.grownBy.refl _ _, by simp, .inl rfl⟩
  rcases hown.2 with ⟨rfl, rfl⟩ | ⟨g, cap, cur, rfl, _, hg, a1, a2, a3, a4⟩
  ·simp [Builtin.append_, run_underlying ht, sizeOf, typeInfo, hi, Builtin.lenOf, Builtin.firstCells]
  ·simp [Builtin.append_, run_underlying ht, sizeOf, typeInfo, hi, Builtin.lenOf, Builtin.firstCells, a1, storeCells]
 ·have hcells : ∀ j u, news[j]? = some u → w.cell? (ad.add j) = some u := by
   intro j u hu
   have hj := (List.getElem?_eq_some_iff.1 hu).1
   rcases hA with h | ⟨b, off, he, hc⟩
   ·subst h; simp at hj
   ·injection he with he
    subst he
    rw [Addr.add_lit, hc j hj]
    rw [List.getElem?_eq_getElem hj] at hu
    exact hu
  have hmul : (n + m) * by_ ≤ 140737488355328 := Nat.le_trans (Nat.mul_le_mul hlen hby) (by decide)
  exact run_append_own_at (P := P) w base t ty e i zero z by_ ht hi h0 hs hb hzc hz v n xs hown ad m c news hl hcells h1 (by unfold maxLen; omega) hmul hbase
theorem wpList_appV {P : Program} {ops : Array Oper} {rest : List Oper} {o : Oper} {a : Act} {Q : Exit → Act → World → Prop} (w : World) (hgd : o.guard = none) (s x : Operand) (t e z by_ : Nat) (zero : Value)
  (hop : o.op = .call { callee := .builtin .append, args := #[s, x], argTypes := #[t, t] }) (ht : P.underlying t = some (.slice e)) (hinfo : (P.info? e).map (fun i => (i.zero, i.size, i.bytes)) = some (some zero, z, by_)) (hzc : zero.cells.size = z) (hz : 0 < z) (hby : by_ ≤ 1024)
  (base n : Nat) (v : Value) (xs : List Value) (hs : a.eval s = v) (hown : w.ownsRow base e z v n xs) (A : Option Addr) (m c : Nat) (news : List Value) (hx : a.eval x = .slice A m c) (hl : news.length = m * z) (hA : At w A news) (h1 : ∀ u ∈ news, u.oneCell' = true) (hlen : n + m ≤ 1073741824) (hbase : base ≤ w.heap.size)
  (h : ∀ v' w', w'.ownsRow base e z v' (n + m) (xs ++ news) → w.grownBy w' v.ownBlock → (v' = .slice none 0 0 ↔ v = .slice none 0 0 ∧ m = 0) → (v'.ownBlock = v.ownBlock ∨ v'.ownBlock = some w.heap.size) → wpList P ops Q rest (a.put o.dst v') w') : wpList P ops Q (o :: rest) a w := by
 refine wpList_plain hgd fun K hK => ?_
 obtain ⟨v', w', hrun, h2, h3, h4, h5⟩ := run_appV (P := P) w o.type t e z by_ zero ht hinfo hzc hz hby base n v xs hown A m c news hl hA h1 hlen hbase
 unfold Oper.wp execOp
 simp only [hop, resolve, invoke, builtin, Sem.run_bind, Sem.run_pure, Result.andThen_ok, List.map_toArray, List.map_cons, List.map_nil, hs, hx, hrun]
 exact hK _ _ (h v' w' h2 h3 h4 h5)
/-- The same at a step of a region that draws its order. -/
theorem step_appV {P : Program} {ops : Array Oper} {o : Oper} {a : Act} {K : Act → World → Prop} {Q : Exit → Act → World → Prop} {E : Prop} (w : World) (hgd : o.guard = none) (s x : Operand) (t e z by_ : Nat) (zero : Value)
  (hop : o.op = .call { callee := .builtin .append, args := #[s, x], argTypes := #[t, t] }) (ht : P.underlying t = some (.slice e)) (hinfo : (P.info? e).map (fun i => (i.zero, i.size, i.bytes)) = some (some zero, z, by_)) (hzc : zero.cells.size = z) (hz : 0 < z) (hby : by_ ≤ 1024)
  (base n : Nat) (v : Value) (xs : List Value) (hs : a.eval s = v) (hown : w.ownsRow base e z v n xs) (A : Option Addr) (m c : Nat) (news : List Value) (hx : a.eval x = .slice A m c) (hl : news.length = m * z) (hA : At w A news) (h1 : ∀ u ∈ news, u.oneCell' = true) (hlen : n + m ≤ 1073741824) (hbase : base ≤ w.heap.size)
  (h : ∀ v' w', w'.ownsRow base e z v' (n + m) (xs ++ news) → w.grownBy w' v.ownBlock → (v' = .slice none 0 0 ↔ v = .slice none 0 0 ∧ m = 0) → (v'.ownBlock = v.ownBlock ∨ v'.ownBlock = some w.heap.size) → K (a.put o.dst v') w') : if Region.wanted o (yielded ops a.tmps) = true then Oper.wp P o a w K Q else E := by
 have hw : Region.wanted o (yielded ops a.tmps) = true := by simp [Region.wanted, hgd]
 rw [if_pos hw]
 obtain ⟨v', w', hrun, h2, h3, h4, h5⟩ := run_appV (P := P) w o.type t e z by_ zero ht hinfo hzc hz hby base n v xs hown A m c news hl hA h1 hlen hbase
 unfold Oper.wp execOp
 simp only [hop, resolve, invoke, builtin, Sem.run_bind, Sem.run_pure, Result.andThen_ok, List.map_toArray, List.map_cons, List.map_nil, hs, hx, hrun]
 exact h v' w' h2 h3 h4 h5
theorem At.lit2 (w : World) (a b : Value) (e : TypeId) : At (w.alloc (.cells #[a, b] e)) (some ⟨w.heap.size, 0, none⟩) [a, b] := by
 refine .inr ⟨w.heap.size, 0, rfl, fun i hi => ?_⟩
 rw [cell_of_row _ _ _ _ _ _ (heap_alloc_new w _)]
 match i, hi with
 |0, _ => rfl
 |1, _ => rfl
/-- What an owned row is: nil, or a block. -/
theorem row_cases {w : World} {base e z n : Nat} {v : Value} {xs : List Value} (h : w.ownsRow base e z v n xs) : (v = .slice none 0 0 ∧ n = 0 ∧ xs = []) ∨ ∃ g cap, v = .slice (some ⟨g, 0, none⟩) n cap ∧ base ≤ g ∧ Rw w g e z n cap xs ∧ n ≤ cap ∧ cap ≤ maxLen ∧ xs.length = n * z := by
 obtain ⟨hl, h | ⟨g, cap, cur, rfl, hb, hg, h1, h2, h3, h4⟩⟩ := h
 ·obtain ⟨rfl, rfl⟩ := h
  exact .inl ⟨rfl, rfl, List.length_eq_zero_iff.1 (by simpa using hl)⟩
 ·exact .inr ⟨g, cap, rfl, hb, ⟨cur, hg, h3, h4⟩, h1, h2, hl⟩
theorem Rw.row {w : World} {base g e z n cap : Nat} {xs : List Value} (h : Rw w g e z n cap xs) (hb : base ≤ g) (hn : n ≤ cap) (hc : cap ≤ maxLen) (hl : xs.length = n * z) : w.ownsRow base e z (.slice (some ⟨g, 0, none⟩) n cap) n xs := by
 obtain ⟨cur, hg, hs, hx⟩ := h
 exact ⟨hl, .inr ⟨g, cap, cur, rfl, hb, hg, hn, hc, hs, hx⟩⟩
theorem row_nil (w : World) (base e z : Nat) : w.ownsRow base e z (.slice none 0 0) 0 [] := ⟨by simp, .inl ⟨rfl, rfl⟩⟩
theorem row_lit (w : World) (e z : Nat) : (w.alloc (.cells #[] e)).ownsRow w.heap.size e z (.slice (some ⟨w.heap.size, 0, none⟩) 0 0) 0 [] :=
 ⟨by simp, .inr ⟨w.heap.size, 0, #[], rfl, Nat.le_refl _, heap_alloc_new w _, Nat.zero_le _, Nat.zero_le _, by simp, by simp⟩⟩
/-- An owned row of owned cells. -/
theorem row_owns {w : World} {base e z n : Nat} {v : Value} {xs : List Value} {cs : List Dat} (h : w.ownsRow base e z v n xs) (ho : OwnsL w (fun b => base ≤ b ∧ v.ownBlock ≠ some b) xs cs) (hl : cs.length = n * z) : Owns w (fun b => base ≤ b) v (.row e z n cs) := by
 rcases row_cases h with ⟨rfl, rfl, rfl⟩ | ⟨g, cap, rfl, hb, hR, hn, hc, _⟩
 ·have : cs = [] := List.length_eq_zero_iff.1 (by simpa using hl)
  subst this
  exact .nil _ _ _
 ·exact hR.owns hb (ho.mono (fun b hb => ⟨hb.1, fun e => hb.2 (by rw [e]; rfl)⟩)) hn hc hl

theorem row_keep {w w' : World} {base e z n : Nat} {v : Value} {xs : List Value} (h : w.ownsRow base e z v n xs) (hk : ∀ g, v.ownBlock = some g → w'.heap[g]? = w.heap[g]?) : w'.ownsRow base e z v n xs := by
 obtain ⟨hl, h | ⟨g, cap, cur, rfl, hb, hg, r⟩⟩ := h
 ·exact ⟨hl, .inl h⟩
 ·exact ⟨hl, .inr ⟨g, cap, cur, rfl, hb, (hk g rfl).trans hg, r⟩⟩
theorem row_lt {w : World} {base e z n : Nat} {v : Value} {xs : List Value} (h : w.ownsRow base e z v n xs) : ∀ g, v.ownBlock = some g → g < w.heap.size ∧ base ≤ g := by
 intro g hg
 rcases row_cases h with ⟨rfl, _⟩ | ⟨g', cap, rfl, hb, hR, _⟩
 ·simp [Value.ownBlock] at hg
 ·simp [Value.ownBlock] at hg; subst hg; exact ⟨hR.lt, hb⟩
theorem row_on {w w' : World} {base e z n : Nat} {v : Value} {xs : List Value} (h : w.ownsRow base e z v n xs) (hb : Below w.heap.size w w') : w'.ownsRow base e z v n xs := row_keep h (fun g hg => hb.block g (row_lt h g hg).1)
theorem run_eqnil {P : Program} (w : World) (t e : TypeId) (a : Option Addr) (n c : Nat) (h : P.underlying t = some (.slice e)) : (binOp .eql t (.slice a n c) (.slice none 0 0)).run P w = .ok (.bool a.isNone) w := by
 have hh : ∀ d : Nat, (Op.equalIn (d + 1) t (.slice a n c) (.slice none 0 0)).run P w = .ok a.isNone w := fun d => by cases a <;> simp [Op.equalIn, run_underlying h]
 simp only [binOp]
 simp [Op.equal, Op.maxDepth, hh 9999]
/-- A shallow copy: the same cells in a row of the call's own. -/
def NewRow (w : World) (e z n : Nat) (xs : List Value) (en : Ending) (w' : World) : Prop := ∃ u, en = .returned u ∧ w'.ownsRow w.heap.size e z u n xs ∧ Below w.heap.size w w'
theorem At.on {w w' : World} {A : Option Addr} {xs : List Value} (h : At w A xs) (hb : Below w.heap.size w w') : At w' A xs := by
 rcases h with rfl | ⟨b, off, rfl, hc⟩
 ·exact .inl rfl
 ·exact .inr ⟨b, off, rfl, fun i hi => (World.cell?_of_block (a := ⟨b, off + i, none⟩) (hb.block b (World.block_lt_of_cell? w _ (hc i hi)))).trans (hc i hi)⟩
theorem grown_below {w w1 w2 : World} {v : Value} {base e z n : Nat} {xs : List Value} (h : Below w.heap.size w w1) (hg : w1.grownBy w2 v.ownBlock) (ho : w1.ownsRow base e z v n xs) (hb : w.heap.size ≤ base) : Below w.heap.size w w2 :=
 h.grown hg h.size (fun k hk => by
  rcases row_cases ho with ⟨rfl, _⟩ | ⟨g, cap, rfl, hb', _⟩
  ·simp [Value.ownBlock] at hk
  ·simp [Value.ownBlock] at hk; omega)
end Go.Proofs.YthopkhpiikiknaaGreat
namespace Go.Proofs.YthopkhpiikiknaaGreat
open Go.RowKit
set_option maxRecDepth 100000
set_option linter.unusedSimpArgs false
set_option linter.unusedVariables false

def KeyD.v (k : KeyD) : Value := keyV k.a k.b k.c k.d k.e
def kC (k : KeyD) : List Dat := [.lit (.int .i64 k.a), .lit (.int .i64 k.b), .lit (.int .i64 k.c), .lit (.int .i64 k.d), .lit (.int .i64 k.e)]
def kX (k : KeyD) : List Value := [.int .i64 k.a, .int .i64 k.b, .int .i64 k.c, .int .i64 k.d, .int .i64 k.e]
theorem kC_len (k : KeyD) : (kC k).length = 5 := rfl
def keysD (l : List KeyD) : Dat := .row 29 5 l.length (l.flatMap kC)
def kvl (l : List KeyD) : List Value := l.flatMap kX
theorem kvl_len (l : List KeyD) : (kvl l).length = l.length * 5 := by
 induction l with
 |nil => rfl
 |cons k l ih =>
  have : kvl (k :: l) = kX k ++ kvl l := rfl
  rw [this, List.length_append, ih]
  simp [kX, Nat.add_mul]; omega
theorem kvl_append (l m : List KeyD) : kvl (l ++ m) = kvl l ++ kvl m := by simp [kvl]
theorem kvl_one (k : KeyD) : kvl [k] = kX k := by simp [kvl]
theorem kvl_cells (l : List KeyD) : ∀ u ∈ kvl l, u.oneCell' = true := by
 intro u hu
 simp only [kvl, List.mem_flatMap, kX] at hu
 obtain ⟨k, _, hk⟩ := hu
 simp at hk
 rcases hk with rfl | rfl | rfl | rfl | rfl <;> rfl
theorem keys_len (l : List KeyD) : (l.flatMap kC).length = l.length * 5 := flat_len kC 5 l kC_len
theorem kC_map (l : List KeyD) : l.flatMap kC = (kvl l).map Dat.lit := by
 induction l with
 |nil => rfl
 |cons k l ih =>
  have : kvl (k :: l) = kX k ++ kvl l := rfl
  rw [this, List.map_append, ← ih]
  rfl
/-- The five cells from place o of block b on hold the key k. -/
abbrev Five (w : World) (b o : Nat) (k : KeyD) : Prop := w.cell? ⟨b, o, none⟩ = some (.int .i64 k.a) ∧ w.cell? ⟨b, o + 1, none⟩ = some (.int .i64 k.b) ∧ w.cell? ⟨b, o + 2, none⟩ = some (.int .i64 k.c) ∧ w.cell? ⟨b, o + 3, none⟩ = some (.int .i64 k.d) ∧ w.cell? ⟨b, o + 4, none⟩ = some (.int .i64 k.e)
theorem Five.keep {w w' : World} {b o : Nat} {k : KeyD} (h : Five w b o k) (hb : w'.heap[b]? = w.heap[b]?) : Five w' b o k := by
 obtain ⟨h0, h1, h2, h3, h4⟩ := h
 exact ⟨(World.cell?_of_block (a := ⟨b, o, none⟩) hb).trans h0, (World.cell?_of_block (a := ⟨b, o + 1, none⟩) hb).trans h1, (World.cell?_of_block (a := ⟨b, o + 2, none⟩) hb).trans h2, (World.cell?_of_block (a := ⟨b, o + 3, none⟩) hb).trans h3, (World.cell?_of_block (a := ⟨b, o + 4, none⟩) hb).trans h4⟩
theorem Reads.keys {w : World} {B : Nat} {A : Option Addr} {e n cap : Nat} {l : List KeyD} (h : Reads w B (.slice A n cap) (.row e 5 l.length (l.flatMap kC))) {i : Nat} (hi : i < l.length) :
  ∃ b off, A = some ⟨b, off, none⟩ ∧ b < B ∧ ∀ k (hk : k < l.length), Five w b (off + k * 5) l[k] := by
 obtain ⟨A', cap', hv, hn, hc, hl, _, k⟩ := h.row'
 cases hv
 rcases k with h | ⟨b, off, xs, rfl, hb, hx, hcell, hr⟩
 ·have := congrArg List.length h
  rw [keys_len] at this; simp only [List.length_nil] at this; omega
 ·refine ⟨b, off, rfl, hb, fun k hk => ?_⟩
  rw [keys_len] at hx
  have get : ∀ j, j < 5 → ∃ x c, w.cell? ⟨b, off + (k * 5 + j), none⟩ = some x ∧ (kC l[k])[j]? = some c ∧ Reads w B x c := by
   intro j hj
   have hlt := flat_lt (z := 5) hk hj
   have h1 := hr (k * 5 + j) (by omega) (by rw [keys_len]; omega)
   have h2 := hcell (k * 5 + j) (by omega)
   have h3 := flat_get kC 5 l kC_len k j hk hj
   rw [List.getElem?_eq_getElem (by rw [keys_len]; omega)] at h3
   exact ⟨_, _, h2, h3.symm, h1⟩
  obtain ⟨x0, c0, a0, b0, r0⟩ := get 0 (by omega)
  obtain ⟨x1, c1, a1, b1, r1⟩ := get 1 (by omega)
  obtain ⟨x2, c2, a2, b2, r2⟩ := get 2 (by omega)
  obtain ⟨x3, c3, a3, b3, r3⟩ := get 3 (by omega)
  obtain ⟨x4, c4, a4, b4, r4⟩ := get 4 (by omega)
  simp [kC] at b0 b1 b2 b3 b4
  subst b0 b1 b2 b3 b4
  cases r0
  cases r1
  cases r2
  cases r3
  cases r4
  exact ⟨a0, a1, a2, a3, a4⟩
theorem Reads.shapeK {w : World} {B : Nat} {v : Value} {e : TypeId} {l : List KeyD} (h : Reads w B v (.row e 5 l.length (l.flatMap kC))) : ∃ A cap, v = .slice A l.length cap ∧ l.length ≤ cap ∧ cap ≤ maxLen := by
 obtain ⟨A, cap, hv, hn, hc, _⟩ := h.row'
 exact ⟨A, cap, hv, hn, hc⟩
theorem lit_reads {w : World} {B : Nat} {xs vs : List Value} (hl : xs.length = vs.length) (h : ∀ i (h : i < xs.length) (h' : i < (vs.map Dat.lit).length), Reads w B xs[i] (vs.map Dat.lit)[i]) : xs = vs := by
 refine List.ext_getElem hl (fun i h1 h2 => ?_)
 have := h i h1 (by simpa using h2)
 rw [List.getElem_map] at this
 generalize xs[i] = x at this
 cases this
 rfl
theorem Reads.atK {w : World} {B : Nat} {A : Option Addr} {e n cap : Nat} {l : List KeyD} (h : Reads w B (.slice A n cap) (.row e 5 l.length (l.flatMap kC))) : At w A (kvl l) := by
 obtain ⟨A', cap', hv, hn, hc, hl, _, k⟩ := h.row'
 cases hv
 rcases k with h | ⟨b, off, xs, rfl, hb, hx, hcell, hr⟩
 ·left
  have := congrArg List.length h
  rw [keys_len] at this
  exact List.length_eq_zero_iff.1 (by rw [kvl_len]; simpa using this)
 ·right
  refine ⟨b, off, rfl, ?_⟩
  have : xs = kvl l := lit_reads (by rw [hx, keys_len, kvl_len]) (by rw [← kC_map]; exact hr)
  subst this
  exact hcell
/-- A row of keys of the call's own, nil or in a block from base on. -/
def RowK (w : World) (base : Nat) (v : Value) (l : List KeyD) : Prop := w.ownsRow base 29 5 v l.length (kvl l)
theorem lits_own (w : World) (S : Nat → Prop) (vs : List Value) : OwnsL w S vs (vs.map Dat.lit) :=
 ⟨by simp, fun _ _ => False, fun i h h' => by rw [List.getElem_map]; exact .lit _ _, fun _ _ h => h.elim, fun _ _ _ _ h => h.elim⟩
theorem RowK.owns {w : World} {base : Nat} {v : Value} {l : List KeyD} (h : RowK w base v l) : Owns w (fun b => base ≤ b) v (keysD l) := by
 refine row_owns (h : w.ownsRow _ _ _ _ _ _) ?_ (keys_len l)
 rw [kC_map]
 exact lits_own _ _ _
theorem Owns.rowK {w : World} {S : Nat → Prop} {v : Value} {l : List KeyD} (h : Owns w S v (keysD l)) {base : Nat} (hS : ∀ b, S b → base ≤ b) : RowK w base v l := by
 rcases h.row' with ⟨rfl, h, _⟩ | ⟨g, cap, cur, xs, rfl, hg, hh, hn, hc, hs, hl, hx, ho⟩
 ·have : l = [] := List.length_eq_zero_iff.1 h
  subst this
  exact row_nil _ _ _ _
 ·have hr := ho.reads
  rw [kC_map] at hr
  have : xs = kvl l := lit_reads (by rw [hr.1]; simp) hr.2
  subst this
  exact ⟨kvl_len l, .inr ⟨g, cap, cur, rfl, hS g hg, hh, hn, hc, hs, hx⟩⟩
theorem RowK.shape {w : World} {base : Nat} {v : Value} {l : List KeyD} (h : RowK w base v l) : ∃ A cap, v = .slice A l.length cap ∧ l.length ≤ cap ∧ cap ≤ maxLen := h.owns.reads.shapeK
theorem RowK.on {w w' : World} {base : Nat} {v : Value} {l : List KeyD} (h : RowK w base v l) (hb : Below w.heap.size w w') : RowK w' base v l := row_on (h : w.ownsRow _ _ _ _ _ _) hb
theorem RowK.keep {w w' : World} {base : Nat} {v : Value} {l : List KeyD} (h : RowK w base v l) (hk : ∀ g, v.ownBlock = some g → w'.heap[g]? = w.heap[g]?) : RowK w' base v l := row_keep (h : w.ownsRow _ _ _ _ _ _) hk
theorem RowK.lt {w : World} {base : Nat} {v : Value} {l : List KeyD} (h : RowK w base v l) : ∀ g, v.ownBlock = some g → g < w.heap.size ∧ base ≤ g := row_lt (h : w.ownsRow _ _ _ _ _ _)
theorem RowK.mono {w : World} {base base' : Nat} {v : Value} {l : List KeyD} (h : RowK w base v l) (hb : base' ≤ base) : RowK w base' v l := h.owns.rowK (fun b hb' => by omega)
/-- A store into a block ahead of the row's. -/
theorem RowK.set {w : World} {base g j : Nat} {v u : Value} {l : List KeyD} (h : RowK w base v l) (hg : g < base) : RowK (w.setCell ⟨g, j, none⟩ u) base v l := h.keep (fun k hk => Below.heap_setCell _ _ _ _ (by have := (h.lt k hk).2; simp; omega))
theorem key_info : (Tryz.prog.info? 29).map (fun i => (i.zero, i.size, i.bytes)) = some (some (.agg #[.int .i64 0, .int .i64 0, .int .i64 0, .int .i64 0, .int .i64 0]), 5, 40) := by kernel_rfl
theorem run_makeKeys (n m : Nat) (hn : n ≤ m) (hm : m ≤ 2097152) (w : World) :
  (Instr.makeSlice 36 (.int .i64 (n : Int)) (.int .i64 (m : Int))).run Tryz.prog w = .ok (.slice (some ⟨w.heap.size, 0, none⟩) n m) (w.alloc (.cells (madeCells #[.int .i64 0, .int .i64 0, .int .i64 0, .int .i64 0, .int .i64 0] (m * 5)) 29)) := by
 obtain ⟨i, hi, h0, h1, h2⟩ := info_parts key_info
 have hr := run_make (P := Tryz.prog) w 36 29 i (.agg #[.int .i64 0, .int .i64 0, .int .i64 0, .int .i64 0, .int .i64 0]) Tryz.underlying36 hi h0 .i64 .i64 n m (by omega) (by omega) (by rw [h2]; omega) (by omega)
 simp only [Int.toNat_natCast, h1] at hr
 exact hr
theorem RowK.made (w : World) (m : Nat) (hm : m ≤ 2097152) : RowK (w.alloc (.cells (madeCells #[.int .i64 0, .int .i64 0, .int .i64 0, .int .i64 0, .int .i64 0] (m * 5)) 29)) w.heap.size (.slice (some ⟨w.heap.size, 0, none⟩) 0 m) [] :=
 ⟨rfl, .inr ⟨w.heap.size, m, _, rfl, Nat.le_refl _, heap_alloc_new w _, Nat.zero_le _, by unfold maxLen; omega, by rw [size_madeCells], rfl⟩⟩
theorem RowK.lit (w : World) : RowK (w.alloc (.cells #[] 29)) w.heap.size (.slice (some ⟨w.heap.size, 0, none⟩) 0 0) [] := row_lit w 29 5
/-- append onto a row of the call's own. -/
theorem wpList_appK {ops : Array Oper} {rest : List Oper} {o : Oper} {a : Act} {Q : Exit → Act → World → Prop} (w : World) (hgd : o.guard = none) (s x : Operand)
  (hop : o.op = .call { callee := .builtin .append, args := #[s, x], argTypes := #[36, 36] })
  (base : Nat) (v : Value) (l : List KeyD) (hs : a.eval s = v) (hown : RowK w base v l) (A : Option Addr) (n c : Nat) (m : List KeyD) (hx : a.eval x = .slice A n c) (hmn : m.length = n) (hA : At w A (kvl m)) (hlen : l.length + m.length ≤ 1073741824) (hbase : base ≤ w.heap.size)
  (h : ∀ v' w', RowK w' base v' (l ++ m) → Below base w w' → wpList Tryz.prog ops Q rest (a.put o.dst v') w') : wpList Tryz.prog ops Q (o :: rest) a w := by
 subst hmn
 refine wpList_appV w hgd s x 36 29 5 40 (.agg #[.int .i64 0, .int .i64 0, .int .i64 0, .int .i64 0, .int .i64 0]) hop Tryz.underlying36 key_info rfl (by omega) (by omega) base l.length v (kvl l) hs hown A m.length c (kvl m) hx (kvl_len m) hA (kvl_cells m) hlen hbase ?_
 intro v' w' h2 h3 h4 h5
 refine h v' w' ?_ ?_
 ·rw [← kvl_append, ← List.length_append] at h2
  exact h2
 ·exact (Below.refl _ _).grown h3 hbase (fun k hk => (hown.lt k hk).2)
theorem At.key (w : World) (k : KeyD) (e : TypeId) : At (w.alloc (.cells #[.int .i64 k.a, .int .i64 k.b, .int .i64 k.c, .int .i64 k.d, .int .i64 k.e] e)) (some ⟨w.heap.size, 0, none⟩) (kvl [k]) := by
 refine .inr ⟨w.heap.size, 0, rfl, fun i hi => ?_⟩
 rw [cell_of_row _ _ _ _ _ _ (heap_alloc_new w _)]
 simp only [kvl_one, kX, List.length_cons, List.length_nil] at hi ⊢
 match i, hi with
 |0, _ => rfl
 |1, _ => rfl
 |2, _ => rfl
 |3, _ => rfl
 |4, _ => rfl
/-- A call leaves a row of keys in memory of its own. -/
def NewK (w : World) (l : List KeyD) (e : Ending) (w' : World) : Prop := ∃ v, e = .returned v ∧ RowK w' w.heap.size v l ∧ Below w.heap.size w w'
end Go.Proofs.YthopkhpiikiknaaGreat
namespace Go.Proofs.YthopkhpiikiknaaGreat
open Go.RowKit Go.ChangeShapes Go.WideShapes Go.Deep
set_option maxRecDepth 100000
set_option linter.unusedSimpArgs false
set_option linter.unusedVariables false

theorem RowV.key {w : World} {g n j : Nat} {e : TypeId} {l : List KeyD} (h : RowV w g (n * 5) e (kvl l)) (hj : l.length = j) (hk : j < n) (k : KeyD) :
  RowV (((((w.setCell ⟨g, j * 5, none⟩ (.int .i64 k.a)).setCell ⟨g, j * 5 + 1, none⟩ (.int .i64 k.b)).setCell ⟨g, j * 5 + 2, none⟩ (.int .i64 k.c)).setCell ⟨g, j * 5 + 3, none⟩ (.int .i64 k.d)).setCell ⟨g, j * 5 + 4, none⟩ (.int .i64 k.e)) g (n * 5) e (kvl (l ++ [k])) := by
 have hl := kvl_len l
 rw [hj] at hl
 have h1 := h.step (by omega) (.int .i64 k.a)
 have h2 := h1.step (by simp; omega) (.int .i64 k.b)
 have h3 := h2.step (by simp; omega) (.int .i64 k.c)
 have h4 := h3.step (by simp; omega) (.int .i64 k.d)
 have h5 := h4.step (by simp; omega) (.int .i64 k.e)
 simp only [List.length_append, List.length_singleton, hl, List.append_assoc] at h5
 rw [kvl_append, kvl_one]
 exact h5
theorem RowV.rowK {w : World} {g n : Nat} {l : List KeyD} (h : RowV w g (n * 5) 29 (kvl l)) (hl : l.length = n) (hn : n ≤ 2097152) : RowK w g (.slice (some ⟨g, 0, none⟩) n n) l := by
 obtain ⟨cur, hg, hs, hl2, ht⟩ := h
 subst hl
 refine ⟨kvl_len l, .inr ⟨g, l.length, cur, rfl, Nat.le_refl _, hg, Nat.le_refl _, by unfold maxLen; omega, hs, ?_⟩⟩
 rw [← kvl_len l]
 exact ht
theorem b5 {w w1 : World} {g i : Nat} {u1 u2 u3 u4 u5 : Value} {B : Nat} (h : Below B w w1) (hg : B ≤ g) : Below B w (((((w1.setCell ⟨g, i, none⟩ u1).setCell ⟨g, i + 1, none⟩ u2).setCell ⟨g, i + 2, none⟩ u3).setCell ⟨g, i + 3, none⟩ u4).setCell ⟨g, i + 4, none⟩ u5) :=
 ((((h.setCell (p := ⟨g, i, none⟩) hg _).setCell (p := ⟨g, i + 1, none⟩) hg _).setCell (p := ⟨g, i + 2, none⟩) hg _).setCell (p := ⟨g, i + 3, none⟩) hg _).setCell (p := ⟨g, i + 4, none⟩) hg _
theorem Five.on {w w' : World} {b o : Nat} {k : KeyD} (h : Five w b o k) (hlt : b < w.heap.size) (hb : Below w.heap.size w w') : Five w' b o k := h.keep (hb.block b hlt)
theorem Five.and {w : World} {b o : Nat} {k : KeyD} (h : Five w b o k) {P : Prop} (p : P) : w.cell? ⟨b, o, none⟩ = some (.int .i64 (k).a) ∧ w.cell? ⟨b, o + 1, none⟩ = some (.int .i64 (k).b) ∧ w.cell? ⟨b, o + 2, none⟩ = some (.int .i64 (k).c) ∧ w.cell? ⟨b, o + 3, none⟩ = some (.int .i64 (k).d) ∧ w.cell? ⟨b, o + 4, none⟩ = some (.int .i64 (k).e) ∧ P := ⟨h.1, h.2.1, h.2.2.1, h.2.2.2.1, h.2.2.2.2, p⟩
end Go.Proofs.YthopkhpiikiknaaGreat
namespace Go.Proofs.YthopkhpiikiknaaGreat
open Go.RowKit
set_option maxRecDepth 100000
set_option linter.unusedSimpArgs false
set_option linter.unusedVariables false

theorem kvl_cons (k : KeyD) (l : List KeyD) : kvl (k :: l) = kX k ++ kvl l := rfl
theorem kvl_set (l : List KeyD) (i : Nat) (k : KeyD) (h : i < l.length) : kvl (l.set i k) = (((((kvl l).set (i * 5) (.int .i64 k.a)).set (i * 5 + 1) (.int .i64 k.b)).set (i * 5 + 2) (.int .i64 k.c)).set (i * 5 + 3) (.int .i64 k.d)).set (i * 5 + 4) (.int .i64 k.e) := by
 induction l generalizing i with
 |nil => simp at h
 |cons x l ih =>
  cases i with
  |zero => simp [kvl_cons, kX]
  |succ i =>
   have h := ih i (by simpa using h)
   rw [List.set_cons_succ, kvl_cons, h, kvl_cons, show (i + 1) * 5 = i * 5 + 1 + 1 + 1 + 1 + 1 by omega]
   simp [kX]
/-- Block g of w holds the keys l in a row of room for cap. -/
def RwK (w : World) (g cap : Nat) (l : List KeyD) : Prop := Rw w g 29 5 l.length cap (kvl l)
theorem RwK.five {w : World} {g cap : Nat} {l : List KeyD} (h : RwK w g cap l) {i : Nat} (hi : i < l.length) : ∀ j, j < 5 → ∃ v, w.cell? ⟨g, i * 5 + j, none⟩ = some v := by
 intro j hj
 have hl := kvl_len l
 exact ⟨_, Rw.cell h (i := i * 5 + j) (by omega)⟩
theorem RwK.set {w : World} {g cap : Nat} {l : List KeyD} (h : RwK w g cap l) {i : Nat} (hi : i < l.length) (k : KeyD) : RwK (((((w.setCell ⟨g, i * 5, none⟩ (.int .i64 k.a)).setCell ⟨g, i * 5 + 1, none⟩ (.int .i64 k.b)).setCell ⟨g, i * 5 + 2, none⟩ (.int .i64 k.c)).setCell ⟨g, i * 5 + 3, none⟩ (.int .i64 k.d)).setCell ⟨g, i * 5 + 4, none⟩ (.int .i64 k.e)) g cap (l.set i k) := by
 have h5 := ((((Rw.set h (i * 5) (.int .i64 k.a)).set (i * 5 + 1) (.int .i64 k.b)).set (i * 5 + 2) (.int .i64 k.c)).set (i * 5 + 3) (.int .i64 k.d)).set (i * 5 + 4) (.int .i64 k.e)
 unfold RwK
 rw [List.length_set, kvl_set l i k hi]
 exact h5
theorem RwK.owns {w : World} {S : Nat → Prop} {g cap : Nat} {l : List KeyD} (h : RwK w g cap l) (hS : S g) (hn : l.length ≤ cap) (hc : cap ≤ maxLen) : Owns w S (.slice (some ⟨g, 0, none⟩) l.length cap) (keysD l) :=
 Rw.owns h hS (by rw [kC_map]; exact lits_own _ _ _) hn hc (keys_len l)
theorem Owns.rwK {w : World} {S : Nat → Prop} {v : Value} {l : List KeyD} (h : Owns w S v (keysD l)) : (v = .slice none 0 0 ∧ l = []) ∨ ∃ g cap, v = .slice (some ⟨g, 0, none⟩) l.length cap ∧ S g ∧ RwK w g cap l ∧ l.length ≤ cap ∧ cap ≤ maxLen := by
 rcases h.rw' with ⟨rfl, h, _⟩ | ⟨g, cap, xs, rfl, hS, hR, hn, hc, hl, hx, ho⟩
 ·exact .inl ⟨rfl, List.length_eq_zero_iff.1 h⟩
 ·have hr := ho.reads
  rw [kC_map] at hr
  have : xs = kvl l := lit_reads (by rw [hr.1]; simp) hr.2
  subst this
  exact .inr ⟨g, cap, rfl, hS, hR, hn, hc⟩
theorem o5 {S : Nat → Prop} {w w1 : World} {g i : Nat} {u1 u2 u3 u4 u5 : Value} (h : Only S w w1) (hg : S g) : Only S w (((((w1.setCell ⟨g, i, none⟩ u1).setCell ⟨g, i + 1, none⟩ u2).setCell ⟨g, i + 2, none⟩ u3).setCell ⟨g, i + 3, none⟩ u4).setCell ⟨g, i + 4, none⟩ u5) :=
 ((((h.setCell hg _).setCell hg _).setCell hg _).setCell hg _).setCell hg _
end Go.Proofs.YthopkhpiikiknaaGreat
namespace Go.Proofs.YthopkhpiikiknaaGreat
open Go.RowKit Go.ChangeShapes Go.WideShapes Go.Deep
set_option maxRecDepth 100000
set_option linter.unusedSimpArgs false
set_option linter.unusedVariables false

def setsD (ns : List (List KeyD)) : Dat := .row 36 1 ns.length (ns.map keysD)
/-- How many keys the sets hold. -/
def sumN (ns : List (List KeyD)) : Nat := (ns.map List.length).sum
theorem sumN_nil : sumN [] = 0 := rfl
theorem sumN_cons (l : List KeyD) (ns : List (List KeyD)) : sumN (l :: ns) = l.length + sumN ns := by simp [sumN]
theorem sumN_append (a b : List (List KeyD)) : sumN (a ++ b) = sumN a + sumN b := by simp [sumN]
theorem sumN_mem {l : List KeyD} {ns : List (List KeyD)} (h : l ∈ ns) : l.length ≤ sumN ns := by
 induction ns with
 |nil => simp at h
 |cons a ns ih =>
  rw [sumN_cons]
  rcases List.mem_cons.1 h with rfl | h
  ·omega
  ·have := ih h; omega
theorem sumN_take {ns : List (List KeyD)} {k : Nat} (h : k < ns.length) : sumN (ns.take (k + 1)) = sumN (ns.take k) + (ns[k]).length := by
 rw [List.take_succ_eq_append_getElem h, sumN_append, sumN_cons, sumN_nil]; omega
theorem sumN_take_le (ns : List (List KeyD)) (k : Nat) : sumN (ns.take k) ≤ sumN ns := by
 have h := sumN_append (ns.take k) (ns.drop k)
 rw [List.take_append_drop] at h
 omega
def SmallN (ns : List (List KeyD)) : Prop := ns.length ≤ 1100000 ∧ sumN ns ≤ 1100000
theorem SmallN.at {ns : List (List KeyD)} (h : SmallN ns) {k : Nat} (hk : k < ns.length) : (ns[k]).length ≤ 1100000 := Nat.le_trans (sumN_mem (List.getElem_mem hk)) h.2
/-- A row of sets, its elements one by one. -/
theorem Reads.set {w : World} {B : Nat} {A : Option Addr} {e e2 n cap : Nat} {ns : List (List KeyD)} (h : Reads w B (.slice A n cap) (.row e 1 ns.length (ns.map fun l => .row e2 5 l.length (l.flatMap kC)))) {i : Nat} (hi : i < ns.length) :
  ∃ b off, A = some ⟨b, off, none⟩ ∧ b < B ∧ ∀ k (hk : k < ns.length), ∃ A2 c2, w.cell? ⟨b, off + k, none⟩ = some (.slice A2 (ns[k]).length c2) ∧ (ns[k]).length ≤ c2 ∧ c2 ≤ maxLen ∧ Reads w B (.slice A2 (ns[k]).length c2) (.row e2 5 (ns[k]).length ((ns[k]).flatMap kC)) := by
 obtain ⟨A', cap', hv, hn, hc, hl, _, k⟩ := h.row'
 cases hv
 rcases k with h | ⟨b, off, xs, rfl, hb, hx, hcell, hr⟩
 ·simp at h; subst h; simp at hi
 ·refine ⟨b, off, rfl, hb, fun k hk => ?_⟩
  have hx' : xs.length = ns.length := by simpa using hx
  have h1 := hr k (by omega) (by simpa using hk)
  rw [List.getElem_map] at h1
  have h2 := hcell k (by omega)
  generalize xs[k] = x at h1 h2
  obtain ⟨A2, c2, rfl, h3, h4⟩ := h1.shapeK
  exact ⟨A2, c2, h2, h3, h4, h1⟩
theorem Reads.lenN {w : World} {B : Nat} {v : Value} {e z n : Nat} {cs : List Dat} (h : Reads w B v (.row e z n cs)) : ∃ A cap, v = .slice A n cap ∧ n ≤ cap ∧ cap ≤ maxLen := by
 obtain ⟨A, cap, hv, hn, hc, _⟩ := h.row'
 exact ⟨A, cap, hv, hn, hc⟩
theorem box1N {w : World} {p : Nat} {a : Value} {t : TypeId} (h : w.heap[p]? = some (.cells #[a] t (0, 0))) : w.cell? ⟨p, 0, none⟩ = some a ∧ ∀ o, w.frozen? ⟨p, o, none⟩ = false :=
 ⟨by rw [cell_of_row w p 0 _ _ _ h]; rfl, fun o => frozen_of_row w p o _ _ h⟩
/-- A call leaves a node in memory of its own. -/
def NewN (w : World) (ns : List (List KeyD)) (e : Ending) (w' : World) : Prop := ∃ v, e = .returned (.agg #[v]) ∧ Owns w' (fun b => w.heap.size ≤ b) v (setsD ns) ∧ Below w.heap.size w w'
end Go.Proofs.YthopkhpiikiknaaGreat
namespace Go.Proofs.YthopkhpiikiknaaGreat
open Go.RowKit
set_option maxRecDepth 100000
set_option linter.unusedSimpArgs false
set_option linter.unusedVariables false

def Dat.one : Dat → Bool
 |.lit u => u.oneCell'
 |.row _ _ _ _ => true
theorem Reads.one {w : World} {B : Nat} {v : Value} {c : Dat} (h : Reads w B v c) (hc : c.one = true) : v.oneCell' = true := by
 cases h with
 |lit u => exact hc
 |nil A cap e z h => rfl
 |row b off n cap e z xs cs hb hn hc hl hx hcell hr => rfl
theorem ReadsL.ones {w : World} {B : Nat} {vs : List Value} {cs : List Dat} (h : ReadsL w B vs cs) (hc : ∀ c ∈ cs, c.one = true) : ∀ u ∈ vs, u.oneCell' = true := by
 intro u hu
 obtain ⟨i, hi, rfl⟩ := List.getElem_of_mem hu
 exact (h.2 i hi (by rw [← h.1]; exact hi)).one (hc _ (List.getElem_mem _))
theorem Reads.cells {w : World} {B : Nat} {A : Option Addr} {n m c : Nat} {e z : Nat} {cs : List Dat} (h : Reads w B (.slice A m c) (.row e z n cs)) : ∃ xs, At w A xs ∧ ReadsL w B xs cs ∧ xs.length = n * z := by
 obtain ⟨A', cap', hv, hn, hc, hl, _, k⟩ := h.row'
 cases hv
 rcases k with rfl | ⟨b, off, xs, rfl, hb, hx, hcell, hr⟩
 ·exact ⟨[], .inl rfl, ⟨rfl, fun i h => by simp at h⟩, by simpa using hl⟩
 ·exact ⟨xs, .inr ⟨b, off, rfl, hcell⟩, ⟨hx, hr⟩, hx.trans hl⟩
/-- A cell of a row of the call's own is written. -/
theorem row_set {w : World} {base e z n g cap : Nat} {xs : List Value} (h : w.ownsRow base e z (.slice (some ⟨g, 0, none⟩) n cap) n xs) (i : Nat) (x : Value) : (w.setCell ⟨g, i, none⟩ x).ownsRow base e z (.slice (some ⟨g, 0, none⟩) n cap) n (xs.set i x) := by
 rcases row_cases h with ⟨hv, _⟩ | ⟨g', cap', hv, hb, hR, hn, hc, hl⟩
 ·cases hv
 ·cases hv
  exact (hR.set i x).row hb hn hc (by simpa using hl)
theorem own_push {wr w1 : World} {T : Nat → Prop} {base g j : Nat} {xs : List Value} {cs : List Dat} {v u : Value} {c : Dat} (h : OwnsL wr T xs cs) (hT1 : ∀ b, base ≤ b → b ≠ g → T b) (hT2 : ∀ b, T b → b ≠ g) (hb : Below wr.heap.size wr w1) (hv : Owns w1 (fun b => wr.heap.size ≤ b) v c) (hg : g < wr.heap.size) (hbase : base ≤ wr.heap.size) :
  OwnsL (w1.setCell ⟨g, j, none⟩ u) T (xs ++ [v]) (cs ++ [c]) := by
 have h1 : OwnsL w1 (fun b => T b ∧ b < wr.heap.size) xs cs := h.lt.on hb
 have h2 := h1.snoc hv (U := T) (fun b hb => hb.1) (fun b hb => hT1 b (by omega) (by omega)) (fun b hb hb' => by have := hb.2; omega)
 exact h2.keep (fun b hb _ => Below.heap_setCell _ _ _ _ (by simpa using hT2 b hb))
theorem take_set_succ {α : Type} (xs : List α) (k : Nat) (x : α) (h : k < xs.length) : (xs.set k x).take (k + 1) = xs.take k ++ [x] := by
 rw [List.take_succ_eq_append_getElem (by simpa using h)]
 simp [List.take_set_of_le]
/-- The blocks of a row's cells: made by the call, and not the row's own. -/
def Tof (base : Nat) (u : Value) : Nat → Prop := fun b => base ≤ b ∧ u.ownBlock ≠ some b
def CopyIn (w : World) (base : Nat) (p : Nat) (bx : Obj) (u : Value) (e z n k : Nat) (xs : List Value) (cs : List Dat) (wr : World) : Prop :=
 ∃ ys : List Value, wr.ownsRow base e z u n ys ∧ OwnsL wr (Tof base u) (ys.take k) (cs.take k) ∧ (∀ j, k ≤ j → ys[j]? = xs[j]?) ∧ wr.heap[p]? = some bx ∧ Below w.heap.size w wr
theorem CopyIn.step {w wr w2 : World} {base p g cap : Nat} {bx : Obj} {e n k : Nat} {xs zs : List Value} {cs : List Dat} {x : Value} {c : Dat} (ho : wr.ownsRow base e 1 (.slice (some ⟨g, 0, none⟩) n cap) n zs) (hown : OwnsL wr (Tof base (.slice (some ⟨g, 0, none⟩) n cap)) (zs.take k) (cs.take k)) (ht : ∀ j, k ≤ j → zs[j]? = xs[j]?) (hbx : wr.heap[p]? = some bx) (hb : Below w.heap.size w wr)
  (b2 : Below wr.heap.size wr w2) (ox : Owns w2 (fun b => wr.heap.size ≤ b) x c) (hg : g < wr.heap.size) (hbase : base ≤ g) (hp : p ≠ g) (hwg : w.heap.size ≤ g) (hkn : k < n) (hk : k < cs.length) (hc : cs[k] = c) :
  CopyIn w base p bx (.slice (some ⟨g, 0, none⟩) n cap) e 1 n (k + 1) xs cs (w2.setCell ⟨g, k, none⟩ x) := by
 have hzl : zs.length = n * 1 := ho.1
 refine ⟨zs.set k x, row_set (row_on ho b2) k x, ?_, ?_, box_far (box_on hbx b2) hp, (hb.trans (b2.mono hb.size)).setCell hwg x⟩
 ·rw [take_set_succ zs k x (by omega), List.take_succ_eq_append_getElem hk, hc]
  refine own_push (base := base) hown (fun b h1 h2 => ⟨h1, fun h => h2 (by simp [Value.ownBlock] at h; exact h.symm)⟩) (fun b h1 h2 => h1.2 (by rw [h2]; rfl)) b2 ox hg (by omega)
 ·intro j hj
  rw [List.getElem?_set_ne (by omega)]
  exact ht j (by omega)
theorem box_grown {w w' : World} {row : Option Nat} {p : Nat} {o : Obj} (q : w.heap[p]? = some o) (hg : w.grownBy w' row) (hne : row ≠ some p) : w'.heap[p]? = some o := (hg.block p (Array.getElem?_eq_some_iff.1 q).1 (fun e => hne e.symm)).trans q
theorem row_shape {w : World} {base e z n : Nat} {v : Value} {xs : List Value} (h : w.ownsRow base e z v n xs) (hn : 0 < n) : ∃ g cap, v = .slice (some ⟨g, 0, none⟩) n cap := by
 rcases row_cases h with ⟨_, h, _⟩ | ⟨g, cap, rfl, _⟩
 ·omega
 ·exact ⟨g, cap, rfl⟩
theorem own_grow {wr w7 w8 : World} {base e z n : Nat} {u v' : Value} {xs news : List Value} {cs ds : List Dat} (hr : wr.ownsRow base e z u n xs) (ho : OwnsL wr (Tof base u) xs cs) (b7 : Below wr.heap.size wr w7) (hn : OwnsL w7 (fun b => wr.heap.size ≤ b ∧ b < w7.heap.size) news ds)
  (hg : w7.grownBy w8 u.ownBlock) (hat : v'.ownBlock = u.ownBlock ∨ v'.ownBlock = some w7.heap.size) (hbase : base ≤ wr.heap.size) : OwnsL w8 (Tof base v') (xs ++ news) (cs ++ ds) := by
 have hO : Only (fun b => u.ownBlock = some b) w7 w8 := ⟨hg.os, hg.tape, hg.output, hg.size, fun i hi hn => hg.block i hi (fun e => hn e.symm)⟩
 have hz7 := b7.size
 have k1 : OwnsL w8 (fun b => Tof base u b ∧ b < wr.heap.size) xs cs := (ho.lt.on b7).far hO (fun b hb _ hb' => hb.1.2 hb')
 have k2 := hn.far hO (fun b hb _ hb' => by have := (row_lt hr b hb').1; have := hb.1; omega)
 refine k1.append k2 (fun b hb => ⟨hb.1.1, fun hv => ?_⟩) (fun b hb => ⟨by have := hb.1; omega, fun hv => ?_⟩) (fun b hb hb' => by have := hb.2; have := hb'.1; omega)
 ·rcases hat with h | h
  ·exact hb.1.2 (h ▸ hv)
  ·rw [h] at hv; simp at hv; have := hb.2; omega
 ·rcases hat with h | h
  ·have := (row_lt hr b (h ▸ hv)).1; have := hb.1; omega
  ·rw [h] at hv; simp at hv; have := hb.2; omega
theorem At.lit1 (w : World) (a : Value) (e : TypeId) : At (w.alloc (.cells #[a] e)) (some ⟨w.heap.size, 0, none⟩) [a] := by
 refine .inr ⟨w.heap.size, 0, rfl, fun i hi => ?_⟩
 rw [cell_of_row _ _ _ _ _ _ (heap_alloc_new w _)]
 match i, hi with
 |0, _ => rfl
theorem At.lit1n (w : World) (a : Value) (e : TypeId) {n : Nat} (h : w.heap.size = n) : At (w.alloc (.cells #[a] e)) (some ⟨n, 0, none⟩) [a] := h ▸ At.lit1 w a e
theorem row_ne {w : World} {base e z n : Nat} {v : Value} {xs : List Value} (h : w.ownsRow base e z v n xs) {p : Nat} (hp : p < base) : v.ownBlock ≠ some p := fun hv => by have := (row_lt h p hv).2; omega
theorem row_form {w : World} {base e z n : Nat} {v : Value} {xs : List Value} (h : w.ownsRow base e z v n xs) : ∃ A c, v = .slice A n c := by
 rcases row_cases h with ⟨rfl, rfl, _⟩ | ⟨g, cap, rfl, _⟩
 ·exact ⟨none, 0, rfl⟩
 ·exact ⟨_, cap, rfl⟩
end Go.Proofs.YthopkhpiikiknaaGreat
namespace Go.Proofs.YthopkhpiikiknaaGreat
open Go.RowKit Go.ChangeShapes Go.WideShapes Go.Deep
set_option maxRecDepth 100000
set_option linter.unusedSimpArgs false
set_option linter.unusedVariables false

abbrev NodeD := List (List KeyD)
def iV (n : Int) : Value := .int .i64 n
def intsD (l : List Int) : Dat := .row 3 1 l.length (l.map fun n => .lit (iV n))
def nodesD (ts : List NodeD) : Dat := .row 62 1 ts.length (ts.map setsD)
/-- How many sets and keys the nodes hold. -/
def sumT (ts : List NodeD) : Nat := (ts.map fun ns => ns.length + sumN ns).sum
theorem sumT_nil : sumT [] = 0 := rfl
theorem sumT_cons (n : NodeD) (ts : List NodeD) : sumT (n :: ts) = (n.length + sumN n) + sumT ts := by simp [sumT]
theorem sumT_append (a b : List NodeD) : sumT (a ++ b) = sumT a + sumT b := by simp [sumT]
theorem sumT_mem {n : NodeD} {ts : List NodeD} (h : n ∈ ts) : n.length + sumN n ≤ sumT ts := by
 induction ts with
 |nil => simp at h
 |cons a ns ih =>
  rw [sumT_cons]
  rcases List.mem_cons.1 h with rfl | h
  ·omega
  ·have := ih h; omega
theorem sumT_take {ts : List NodeD} {k : Nat} (h : k < ts.length) : sumT (ts.take (k + 1)) = sumT (ts.take k) + ((ts[k]).length + sumN ts[k]) := by
 rw [List.take_succ_eq_append_getElem h, sumT_append, sumT_cons, sumT_nil]; omega
theorem sumT_take_le (ts : List NodeD) (k : Nat) : sumT (ts.take k) ≤ sumT ts := by
 have h := sumT_append (ts.take k) (ts.drop k)
 rw [List.take_append_drop] at h
 omega
def SmallT (lo : List Int) (ts : List NodeD) : Prop := lo.length ≤ 1100000 ∧ ts.length ≤ 1100000 ∧ sumT ts ≤ 1100000
theorem SmallT.at {lo : List Int} {ts : List NodeD} (h : SmallT lo ts) {k : Nat} (hk : k < ts.length) : SmallN ts[k] := by
 have := sumT_mem (List.getElem_mem hk)
 have := h.2.2
 exact ⟨by omega, by omega⟩
theorem small_at {ts : List NodeD} (h : sumT ts ≤ 1100000) {k : Nat} (hk : k < ts.length) : SmallN ts[k] := by
 have := sumT_mem (List.getElem_mem hk)
 exact ⟨by omega, by omega⟩
/-- A row of ints, one by one. -/
theorem Reads.int {w : World} {B : Nat} {A : Option Addr} {n cap : Nat} {l : List Int} (h : Reads w B (.slice A n cap) (intsD l)) {i : Nat} (hi : i < l.length) :
  ∃ b off, A = some ⟨b, off, none⟩ ∧ b < B ∧ ∀ k (hk : k < l.length), w.cell? ⟨b, off + k, none⟩ = some (iV l[k]) := by
 obtain ⟨A', cap', hv, hn, hc, hl, _, k⟩ := h.row'
 cases hv
 rcases k with h | ⟨b, off, xs, rfl, hb, hx, hcell, hr⟩
 ·simp at h; subst h; simp at hi
 ·refine ⟨b, off, rfl, hb, fun k hk => ?_⟩
  have hx' : xs.length = l.length := by simpa using hx
  have h1 := hr k (by omega) (by simpa using hk)
  rw [List.getElem_map] at h1
  have h2 := hcell k (by omega)
  generalize xs[k] = x at h1 h2
  cases h1
  exact h2
theorem Reads.node' {w : World} {B : Nat} {A : Option Addr} {e e2 n cap : Nat} {ts : List NodeD} {f : NodeD → Dat} {g : NodeD → List Dat} (hf : ∀ ns, f ns = .row e2 1 ns.length (g ns)) (h : Reads w B (.slice A n cap) (.row e 1 ts.length (ts.map f))) {i : Nat} (hi : i < ts.length) :
  ∃ b off, A = some ⟨b, off, none⟩ ∧ b < B ∧ ∀ k (hk : k < ts.length), ∃ A2 c2, w.cell? ⟨b, off + k, none⟩ = some (.slice A2 (ts[k]).length c2) ∧ (ts[k]).length ≤ c2 ∧ c2 ≤ maxLen ∧ Reads w B (.slice A2 (ts[k]).length c2) (f ts[k]) := by
 obtain ⟨A', cap', hv, hn, hc, hl, _, k⟩ := h.row'
 cases hv
 rcases k with h | ⟨b, off, xs, rfl, hb, hx, hcell, hr⟩
 ·simp at h; subst h; simp at hi
 ·refine ⟨b, off, rfl, hb, fun k hk => ?_⟩
  have hx' : xs.length = ts.length := by simpa using hx
  have h1 := hr k (by omega) (by simpa using hk)
  rw [List.getElem_map] at h1
  have h2 := hcell k (by omega)
  generalize xs[k] = x at h1 h2
  rw [hf] at h1
  obtain ⟨A2, c2, rfl, h3, h4⟩ := h1.lenN
  rw [← hf] at h1
  exact ⟨A2, c2, h2, h3, h4, h1⟩
theorem Reads.node {w : World} {B : Nat} {A : Option Addr} {n cap : Nat} {ts : List NodeD} (h : Reads w B (.slice A n cap) (nodesD ts)) {i : Nat} (hi : i < ts.length) :
  ∃ b off, A = some ⟨b, off, none⟩ ∧ b < B ∧ ∀ k (hk : k < ts.length), ∃ A2 c2, w.cell? ⟨b, off + k, none⟩ = some (.slice A2 (ts[k]).length c2) ∧ (ts[k]).length ≤ c2 ∧ c2 ≤ maxLen ∧ Reads w B (.slice A2 (ts[k]).length c2) (setsD ts[k]) :=
 Reads.node' (f := setsD) (fun _ => rfl) h hi
/-- Owned like Owns, but the block may be longer than the slice's capacity says. -/
def OwnC (w : World) (S : Nat → Prop) (v : Value) : Dat → Prop
 |.lit _ => False
 |.row e z n cs => (v = .slice none 0 0 ∧ n = 0 ∧ cs = []) ∨ ∃ (g cap : Nat) (cur : Array Value) (xs : List Value), v = .slice (some ⟨g, 0, none⟩) n cap ∧ S g ∧ w.heap[g]? = some (.cells cur e (0, 0)) ∧ n ≤ cap ∧ cap ≤ maxLen ∧ n * z ≤ cur.size ∧ cs.length = n * z ∧ cur.toList.take (n * z) = xs ∧ OwnsL w (fun b => S b ∧ b ≠ g) xs cs
theorem Owns.ownC {w : World} {S : Nat → Prop} {v : Value} {e z n : Nat} {cs : List Dat} (h : Owns w S v (.row e z n cs)) : OwnC w S v (.row e z n cs) := by
 rcases h.row' with h | ⟨g, cap, cur, xs, h1, h2, h3, h4, h5, h6, h7, h8, h9⟩
 ·exact .inl h
 ·exact .inr ⟨g, cap, cur, xs, h1, h2, h3, h4, h5, by rw [h6]; exact Nat.mul_le_mul_right _ h4, h7, h8, h9⟩
theorem OwnC.mono {w : World} {S T : Nat → Prop} {v : Value} {c : Dat} (h : OwnC w S v c) (hS : ∀ b, S b → T b) : OwnC w T v c := by
 cases c with
 |lit u => exact h
 |row e z n cs =>
  rcases h with h | ⟨g, cap, cur, xs, h1, h2, h3, h4, h5, h6, h7, h8, h9⟩
  ·exact .inl h
  ·exact .inr ⟨g, cap, cur, xs, h1, hS _ h2, h3, h4, h5, h6, h7, h8, h9.mono (fun b hb => ⟨hS b hb.1, hb.2⟩)⟩
theorem OwnC.keep {w w' : World} {S : Nat → Prop} {v : Value} {c : Dat} (h : OwnC w S v c) (hk : ∀ b, S b → b < w.heap.size → w'.heap[b]? = w.heap[b]?) : OwnC w' S v c := by
 cases c with
 |lit u => exact h
 |row e z n cs =>
  rcases h with h | ⟨g, cap, cur, xs, h1, h2, h3, h4, h5, h6, h7, h8, h9⟩
  ·exact .inl h
  ·exact .inr ⟨g, cap, cur, xs, h1, h2, (hk g h2 (Array.getElem?_eq_some_iff.1 h3).1).trans h3, h4, h5, h6, h7, h8, h9.keep (fun b hb hl => hk b hb.1 hl)⟩
theorem OwnC.lt {w : World} {S : Nat → Prop} {v : Value} {c : Dat} (h : OwnC w S v c) : OwnC w (fun b => S b ∧ b < w.heap.size) v c := by
 cases c with
 |lit u => exact h
 |row e z n cs =>
  rcases h with h | ⟨g, cap, cur, xs, h1, h2, h3, h4, h5, h6, h7, h8, h9⟩
  ·exact .inl h
  ·exact .inr ⟨g, cap, cur, xs, h1, ⟨h2, (Array.getElem?_eq_some_iff.1 h3).1⟩, h3, h4, h5, h6, h7, h8, h9.lt.mono (fun b hb => ⟨⟨hb.1.1, hb.2⟩, hb.1.2⟩)⟩
theorem OwnC.reads {w : World} {S : Nat → Prop} {v : Value} {c : Dat} (h : OwnC w S v c) : Reads w w.heap.size v c := by
 cases c with
 |lit u => exact h.elim
 |row e z n cs =>
  rcases h with ⟨rfl, rfl, rfl⟩ | ⟨g, cap, cur, xs, rfl, h2, h3, h4, h5, h6, h7, h8, h9⟩
  ·exact .nil _ _ _ _ (Nat.zero_le _)
  ·have hr := h9.reads
   refine .row g 0 n cap e z xs cs (Array.getElem?_eq_some_iff.1 h3).1 h4 h5 h7 hr.1 (fun i hi => ?_) hr.2
   rw [Nat.zero_add, cell_of_row w g i cur e (0, 0) h3]
   subst h8
   simp at hi ⊢
theorem OwnC.on {w w' : World} {S : Nat → Prop} {v : Value} {c : Dat} (h : OwnC w S v c) (hb : Below w.heap.size w w') : OwnC w' S v c := h.keep (fun b _ hl => hb.block b hl)
theorem OwnC.far {w w' : World} {S T : Nat → Prop} {v : Value} {c : Dat} (h : OwnC w S v c) (hg : Only T w w') (hd : ∀ b, S b → b < w.heap.size → ¬ T b) : OwnC w' S v c := h.keep (fun b hb hl => hg.block b hl (hd b hb hl))
/-- A tree that reads so. -/
def RdT (w : World) (B : Nat) (vl vn : Value) (lo : List Int) (ts : List NodeD) : Prop := Reads w B vl (intsD lo) ∧ Reads w B vn (nodesD ts)
theorem RdT.on {w w' : World} {vl vn : Value} {lo : List Int} {ts : List NodeD} (h : RdT w w.heap.size vl vn lo ts) (hb : Below w.heap.size w w') : RdT w' w'.heap.size vl vn lo ts := ⟨h.1.on hb, h.2.on hb⟩
theorem RdT.shape {w : World} {B : Nat} {vl vn : Value} {lo : List Int} {ts : List NodeD} (h : RdT w B vl vn lo ts) : ∃ A c A' c', vl = .slice A lo.length c ∧ vn = .slice A' ts.length c' := by
 obtain ⟨A, c, rfl, _⟩ := h.1.lenN
 obtain ⟨A', c', rfl, _⟩ := h.2.lenN
 exact ⟨A, c, A', c', rfl, rfl⟩
/-- A tree whose memory is owned, each block met once; TreeS: strictly (the capacities are those of the blocks). -/
def TreeC (w : World) (S : Nat → Prop) (vl vn : Value) (lo : List Int) (ts : List NodeD) : Prop := ∃ P Q : Nat → Prop, (∀ b, P b → S b) ∧ (∀ b, Q b → S b) ∧ (∀ b, P b → ¬ Q b) ∧ OwnC w P vl (intsD lo) ∧ OwnC w Q vn (nodesD ts)
def TreeS (w : World) (S : Nat → Prop) (vl vn : Value) (lo : List Int) (ts : List NodeD) : Prop := ∃ P Q : Nat → Prop, (∀ b, P b → S b) ∧ (∀ b, Q b → S b) ∧ (∀ b, P b → ¬ Q b) ∧ Owns w P vl (intsD lo) ∧ Owns w Q vn (nodesD ts)
theorem TreeS.c {w : World} {S : Nat → Prop} {vl vn : Value} {lo : List Int} {ts : List NodeD} (h : TreeS w S vl vn lo ts) : TreeC w S vl vn lo ts := by
 obtain ⟨P, Q, h1, h2, h3, h4, h5⟩ := h
 exact ⟨P, Q, h1, h2, h3, h4.ownC, h5.ownC⟩
theorem TreeC.mono {w : World} {S T : Nat → Prop} {vl vn : Value} {lo : List Int} {ts : List NodeD} (h : TreeC w S vl vn lo ts) (hS : ∀ b, S b → T b) : TreeC w T vl vn lo ts := by
 obtain ⟨P, Q, h1, h2, h3, h4, h5⟩ := h
 exact ⟨P, Q, fun b hb => hS b (h1 b hb), fun b hb => hS b (h2 b hb), h3, h4, h5⟩
theorem TreeC.keep {w w' : World} {S : Nat → Prop} {vl vn : Value} {lo : List Int} {ts : List NodeD} (h : TreeC w S vl vn lo ts) (hk : ∀ b, S b → b < w.heap.size → w'.heap[b]? = w.heap[b]?) : TreeC w' S vl vn lo ts := by
 obtain ⟨P, Q, h1, h2, h3, h4, h5⟩ := h
 exact ⟨P, Q, h1, h2, h3, h4.keep (fun b hb => hk b (h1 b hb)), h5.keep (fun b hb => hk b (h2 b hb))⟩
theorem TreeC.on {w w' : World} {S : Nat → Prop} {vl vn : Value} {lo : List Int} {ts : List NodeD} (h : TreeC w S vl vn lo ts) (hb : Below w.heap.size w w') : TreeC w' S vl vn lo ts := h.keep (fun b _ hl => hb.block b hl)
theorem TreeC.far {w w' : World} {S T : Nat → Prop} {vl vn : Value} {lo : List Int} {ts : List NodeD} (h : TreeC w S vl vn lo ts) (hg : Only T w w') (hd : ∀ b, S b → b < w.heap.size → ¬ T b) : TreeC w' S vl vn lo ts := h.keep (fun b hb hl => hg.block b hl (hd b hb hl))
theorem TreeC.lt {w : World} {S : Nat → Prop} {vl vn : Value} {lo : List Int} {ts : List NodeD} (h : TreeC w S vl vn lo ts) : TreeC w (fun b => S b ∧ b < w.heap.size) vl vn lo ts := by
 obtain ⟨P, Q, h1, h2, h3, h4, h5⟩ := h
 exact ⟨_, _, fun b hb => ⟨h1 b hb.1, hb.2⟩, fun b hb => ⟨h2 b hb.1, hb.2⟩, fun b hb hb' => h3 b hb.1 hb'.1, h4.lt, h5.lt⟩
theorem TreeC.reads {w : World} {S : Nat → Prop} {vl vn : Value} {lo : List Int} {ts : List NodeD} (h : TreeC w S vl vn lo ts) : RdT w w.heap.size vl vn lo ts := by
 obtain ⟨P, Q, h1, h2, h3, h4, h5⟩ := h
 exact ⟨h4.reads, h5.reads⟩
theorem TreeS.mono {w : World} {S T : Nat → Prop} {vl vn : Value} {lo : List Int} {ts : List NodeD} (h : TreeS w S vl vn lo ts) (hS : ∀ b, S b → T b) : TreeS w T vl vn lo ts := by
 obtain ⟨P, Q, h1, h2, h3, h4, h5⟩ := h
 exact ⟨P, Q, fun b hb => hS b (h1 b hb), fun b hb => hS b (h2 b hb), h3, h4, h5⟩
theorem TreeS.keep {w w' : World} {S : Nat → Prop} {vl vn : Value} {lo : List Int} {ts : List NodeD} (h : TreeS w S vl vn lo ts) (hk : ∀ b, S b → b < w.heap.size → w'.heap[b]? = w.heap[b]?) : TreeS w' S vl vn lo ts := by
 obtain ⟨P, Q, h1, h2, h3, h4, h5⟩ := h
 exact ⟨P, Q, h1, h2, h3, h4.keep (fun b hb => hk b (h1 b hb)), h5.keep (fun b hb => hk b (h2 b hb))⟩
theorem TreeS.on {w w' : World} {S : Nat → Prop} {vl vn : Value} {lo : List Int} {ts : List NodeD} (h : TreeS w S vl vn lo ts) (hb : Below w.heap.size w w') : TreeS w' S vl vn lo ts := h.keep (fun b _ hl => hb.block b hl)
theorem TreeS.lt {w : World} {S : Nat → Prop} {vl vn : Value} {lo : List Int} {ts : List NodeD} (h : TreeS w S vl vn lo ts) : TreeS w (fun b => S b ∧ b < w.heap.size) vl vn lo ts := by
 obtain ⟨P, Q, h1, h2, h3, h4, h5⟩ := h
 exact ⟨_, _, fun b hb => ⟨h1 b hb.1, hb.2⟩, fun b hb => ⟨h2 b hb.1, hb.2⟩, fun b hb hb' => h3 b hb.1 hb'.1, h4.lt, h5.lt⟩
theorem TreeS.reads {w : World} {S : Nat → Prop} {vl vn : Value} {lo : List Int} {ts : List NodeD} (h : TreeS w S vl vn lo ts) : RdT w w.heap.size vl vn lo ts := h.c.reads
def NewTS (w : World) (lo : List Int) (ts : List NodeD) (e : Ending) (w' : World) : Prop := ∃ vl vn, e = .returned (.agg #[vl, vn]) ∧ TreeS w' (fun b => w.heap.size ≤ b) vl vn lo ts ∧ Below w.heap.size w w'
theorem int_info : (Tryz.prog.info? 3).map (fun i => (i.zero, i.size, i.bytes)) = some (some (.int .i64 0), 1, 8) := by kernel_rfl
theorem node_info : (Tryz.prog.info? 62).map (fun i => (i.zero, i.size, i.bytes)) = some (some (.agg #[.slice none 0 0]), 1, 24) := by kernel_rfl
end Go.Proofs.YthopkhpiikiknaaGreat
namespace Go.Proofs.YthopkhpiikiknaaGreat
open Go.RowKit Go.ChangeShapes Go.WideShapes Go.Deep
set_option maxRecDepth 100000
set_option linter.unusedSimpArgs false
set_option linter.unusedVariables false

theorem ints_litL (w : World) (S : Nat → Prop) (l : List Int) : OwnsL w S (l.map iV) (l.map fun n => .lit (iV n)) :=
 ⟨by simp, fun _ _ => False, fun i h h' => by simp only [List.getElem_map]; exact .lit _ _, fun _ _ h => h.elim, fun _ _ _ _ h => h.elim⟩
end Go.Proofs.YthopkhpiikiknaaGreat
namespace Go.Proofs.YthopkhpiikiknaaGreat
open Go.RowKit Go.ChangeShapes Go.WideShapes Go.Deep
set_option maxRecDepth 100000
set_option linter.unusedSimpArgs false
set_option linter.unusedVariables false

def RwC (w : World) (g : Nat) (e : TypeId) (n : Nat) (xs : List Value) : Prop := ∃ cur : Array Value, w.heap[g]? = some (.cells cur e (0, 0)) ∧ n ≤ cur.size ∧ cur.toList.take n = xs
theorem RwC.set {w : World} {g : Nat} {e : TypeId} {n : Nat} {xs : List Value} (h : RwC w g e n xs) (i : Nat) (u : Value) : RwC (w.setCell ⟨g, i, none⟩ u) g e n (xs.set i u) := by
 obtain ⟨cur, hg, hs, hx⟩ := h
 refine ⟨cur.setIfInBounds i u, heap_setCell_same w g i cur _ _ hg, by simpa using hs, ?_⟩
 rw [Array.toList_setIfInBounds, ← hx, List.take_set]
theorem RwC.cell {w : World} {g : Nat} {e : TypeId} {n : Nat} {xs : List Value} (h : RwC w g e n xs) {i : Nat} (hi : i < xs.length) : w.cell? ⟨g, i, none⟩ = some xs[i] := by
 obtain ⟨cur, hg, hs, hx⟩ := h
 rw [cell_of_row w g i cur _ _ hg]
 subst hx
 simp at hi ⊢
theorem RwC.frozen {w : World} {g : Nat} {e : TypeId} {n : Nat} {xs : List Value} (h : RwC w g e n xs) (k : Nat) : w.frozen? ⟨g, k, none⟩ = false := by
 obtain ⟨cur, hg, _⟩ := h
 exact frozen_of_row w g k cur _ hg
theorem lits_eq {w : World} {B : Nat} {xs : List Value} {l : List Int} (h : ReadsL w B xs (l.map fun n => .lit (iV n))) : xs = l.map iV := by
 refine List.ext_getElem (by rw [h.1]; simp) (fun i h1 h2 => ?_)
 have := h.2 i h1 (by rw [← h.1]; exact h1)
 simp only [List.getElem_map] at this ⊢
 generalize xs[i] = x at this
 cases this
 rfl
end Go.Proofs.YthopkhpiikiknaaGreat
namespace Go.Proofs.YthopkhpiikiknaaGreat
open Go.RowKit
set_option maxRecDepth 100000
set_option linter.unusedSimpArgs false
set_option linter.unusedVariables false

def lessK (x y : KeyD) : Bool := lessB x.a x.b y.a y.b
def spotK (x y : KeyD) : Bool := spotB x.a x.b y.a y.b
def okK (x : KeyD) : Bool := keyOkB x.a x.b x.c x.d x.e
theorem spot_less (x y : KeyD) : spotK x y = (!lessK x y && !lessK y x) := by
 simp only [spotK, spotB, lessK, lessB]
 rw [Bool.eq_iff_iff]
 by_cases h : x.a = y.a
 ·simp [h]; omega
 ·have h' : ¬ y.a = x.a := fun e => h e.symm
  simp [h, h']; omega
theorem spot_comm (x y : KeyD) : spotK x y = spotK y x := by rw [spot_less, spot_less, Bool.and_comm]
theorem less_spot {x y : KeyD} (h : lessK x y = true) : spotK x y = false := by rw [spot_less, h]; rfl
def riseB (l : List KeyD) : Bool := decide (∀ i (h : i < l.length - 1), lessK (l[i]'(by omega)) (l[i + 1]'(by omega)) = true)
def setOkB (l : List KeyD) : Bool := l.all okK && riseB l && decide (l.length ≤ 60)
def atK (l : List KeyD) (b a : Int) : Option KeyD := l.find? (fun x => spotB x.a x.b b a)
def putGo (k : KeyD) : List KeyD → Bool → List KeyD
 |[], done => if done then [] else [k]
 |x :: t, done => (if !done && !lessK x k then [k] else []) ++ ((if !spotK x k then [x] else []) ++ putGo k t (done || !lessK x k))
def putK (l : List KeyD) (k : KeyD) : List KeyD := putGo k l false
def mergeK (a b : List KeyD) : List KeyD := b.foldl putK a
def dropK (l : List KeyD) : List KeyD := l.filter (fun x => x.c != 0)
theorem putGo_true (k : KeyD) (l : List KeyD) : putGo k l true = l.filter (fun x => !spotK x k) := by
 induction l with
 |nil => rfl
 |cons x t ih =>
  simp only [putGo, Bool.true_or, ih]
  cases h : spotK x k <;> simp [h]
/-- The place of the first key that is not less than k. -/
def placeK (l : List KeyD) (k : KeyD) : Nat := l.findIdx (fun x => !lessK x k)
theorem put_eq (l : List KeyD) (k : KeyD) : putK l k = l.take (placeK l k) ++ (k :: (l.drop (placeK l k)).filter (fun x => !spotK x k)) := by
 unfold putK placeK
 induction l with
 |nil => rfl
 |cons x t ih =>
  rw [List.findIdx_cons]
  cases h : lessK x k
  ·simp only [putGo, h, Bool.not_false, Bool.and_true, cond_true, Bool.or_true, if_true, putGo_true, List.take_zero, List.nil_append, List.drop_zero]
   cases h2 : spotK x k <;> simp [h2]
  ·have h2 := less_spot h
   simp only [putGo, h, Bool.not_true, Bool.and_false, cond_false, Bool.or_false, Bool.false_eq_true, if_false, List.nil_append, h2, Bool.not_false, if_true, ih]
   simp
theorem putGo_len (k : KeyD) (l : List KeyD) (d : Bool) : (putGo k l d).length ≤ l.length + 1 := by
 induction l generalizing d with
 |nil => cases d <;> simp [putGo]
 |cons x t ih =>
  cases d
  ·cases h : lessK x k
   ·have := List.length_filter_le (fun x => !spotK x k) t
    simp only [putGo, h, Bool.not_false, Bool.and_true, if_true, Bool.or_true, putGo_true, List.length_append, List.length_cons, List.length_nil]
    split <;> simp <;> omega
   ·have := ih false
    simp only [putGo, h, Bool.not_true, Bool.and_false, Bool.false_eq_true, if_false, List.nil_append, Bool.or_false, List.length_append, List.length_cons]
    split <;> simp <;> omega
  ·have := ih true
   simp only [putGo, Bool.not_true, Bool.false_and, Bool.false_eq_true, if_false, Bool.true_or, List.nil_append, List.length_append, List.length_cons]
   split <;> simp <;> omega
theorem putK_len (l : List KeyD) (k : KeyD) : (putK l k).length ≤ l.length + 1 := putGo_len k l false
theorem mergeK_len (a b : List KeyD) : (mergeK a b).length ≤ a.length + b.length := by
 unfold mergeK
 induction b generalizing a with
 |nil => simp
 |cons k b ih =>
  have h1 := ih (putK a k)
  have h2 := putK_len a k
  simp only [List.foldl_cons, List.length_cons]
  omega
theorem dropK_len (l : List KeyD) : (dropK l).length ≤ l.length := List.length_filter_le _ _
theorem place_le (l : List KeyD) (k : KeyD) : placeK l k ≤ l.length := List.findIdx_le_length
theorem drop_at {l : List KeyD} {k : Nat} (h : k < l.length) : l.drop k = l[k] :: l.drop (k + 1) := List.drop_eq_getElem_cons h
end Go.Proofs.YthopkhpiikiknaaGreat
namespace Go.Proofs.YthopkhpiikiknaaGreat
open Go.RowKit
set_option maxRecDepth 100000
set_option linter.unusedSimpArgs false
set_option linter.unusedVariables false

def okL (l : List KeyD) : Bool := setOkB l && decide (0 < l.length)
def nodeOkB (ns : List (List KeyD)) : Bool := ns.all okL && decide (ns.length ≤ 3) && decide (sumN ns ≤ 8)
/-- The newest set first. -/
def atRev : List (List KeyD) → Int → Int → Option KeyD
 |[], _, _ => none
 |l :: r, b, a => match atK l b a with
  |some k => if k.c = 0 then none else some k
  |none => atRev r b a
def nodeAtK (ns : List (List KeyD)) (b a : Int) : Option KeyD := atRev ns.reverse b a
def nodeKeysK (ns : List (List KeyD)) : List KeyD := dropK (ns.foldl mergeK [])
def nodeNewK (l : List KeyD) : List (List KeyD) := if l.length = 0 then [] else [l]
def nodePackK (ns : List (List KeyD)) : List (List KeyD) := nodeNewK (nodeKeysK ns)
def takesB (l : List KeyD) (k : KeyD) : Bool := (atK l k.a k.b).isSome || decide (l.length < 4)
def layerK (ns : List (List KeyD)) (k : KeyD) : List (List KeyD) :=
 if h : 0 < ns.length then if takesB (ns[ns.length - 1]'(by omega)) k then ns.set (ns.length - 1) (putK (ns[ns.length - 1]'(by omega)) k) else ns ++ [[k]] else ns ++ [[k]]
def rebK (ns : List (List KeyD)) (k : KeyD) : List KeyD := dropK (putK (nodeKeysK ns) k)
def putNB (ns : List (List KeyD)) (k : KeyD) : Bool := nodeOkB (layerK ns k) || nodeOkB (nodeNewK (rebK ns k))
def putN (ns : List (List KeyD)) (k : KeyD) : List (List KeyD) := if nodeOkB (layerK ns k) then layerK ns k else if nodeOkB (nodeNewK (rebK ns k)) then nodeNewK (rebK ns k) else ns
theorem foldl_flat (ns : List (List KeyD)) (a : List KeyD) : ns.foldl mergeK a = mergeK a ns.flatten := by
 induction ns generalizing a with
 |nil => rfl
 |cons l ns ih =>
  rw [List.foldl_cons, ih, List.flatten_cons]
  unfold mergeK
  rw [List.foldl_append]
theorem keys_flat (ns : List (List KeyD)) : nodeKeysK ns = dropK (mergeK [] ns.flatten) := by rw [nodeKeysK, foldl_flat]
theorem flat_sum (ns : List (List KeyD)) : ns.flatten.length = sumN ns := by simp [sumN, List.length_flatten]
theorem fold_len (ns : List (List KeyD)) (a : List KeyD) : (ns.foldl mergeK a).length ≤ a.length + sumN ns := by
 rw [foldl_flat, ← flat_sum]
 exact mergeK_len _ _
theorem nodeKeys_len (ns : List (List KeyD)) : (nodeKeysK ns).length ≤ sumN ns := by
 have h := fold_len ns []
 have h2 := dropK_len (ns.foldl mergeK [])
 unfold nodeKeysK
 simp at h
 omega
theorem sum_new (l : List KeyD) : sumN (nodeNewK l) = l.length := by
 unfold nodeNewK
 split
 ·rename_i h; rw [h]; rfl
 ·rw [sumN_cons, sumN_nil]; omega
theorem len_new (l : List KeyD) : (nodeNewK l).length ≤ 1 := by
 unfold nodeNewK
 split <;> simp
theorem sum_set (ns : List (List KeyD)) (i : Nat) (l : List KeyD) (h : i < ns.length) : sumN (ns.set i l) + (ns[i]).length = sumN ns + l.length := by
 induction ns generalizing i with
 |nil => simp at h
 |cons a ns ih =>
  cases i with
  |zero => simp only [List.set_cons_zero, sumN_cons, List.getElem_cons_zero]; omega
  |succ i =>
   have := ih i (by simpa using h)
   simp only [List.set_cons_succ, sumN_cons, List.getElem_cons_succ]; omega
theorem layer_small (ns : List (List KeyD)) (k : KeyD) : (layerK ns k).length ≤ ns.length + 1 ∧ sumN (layerK ns k) ≤ sumN ns + 1 := by
 unfold layerK
 split
 ·split
  ·rename_i h _
   have h1 := sum_set ns (ns.length - 1) (putK ns[ns.length - 1] k) (by omega)
   have h2 := putK_len (ns[ns.length - 1]) k
   exact ⟨by simp, by omega⟩
  ·exact ⟨by simp, by rw [sumN_append, sumN_cons, sumN_nil]; simp⟩
 ·exact ⟨by simp, by rw [sumN_append, sumN_cons, sumN_nil]; simp⟩
theorem reb_len (ns : List (List KeyD)) (k : KeyD) : (rebK ns k).length ≤ sumN ns + 1 := by
 have h1 := nodeKeys_len ns
 have h2 := putK_len (nodeKeysK ns) k
 have h3 := dropK_len (putK (nodeKeysK ns) k)
 unfold rebK
 omega
theorem putN_small {ns : List (List KeyD)} {k : KeyD} {m : Nat} (h1 : ns.length ≤ m) (h2 : sumN ns ≤ m) : (putN ns k).length ≤ m + 1 ∧ sumN (putN ns k) ≤ m + 1 := by
 have h3 := layer_small ns k
 have h4 := reb_len ns k
 unfold putN
 split
 ·omega
 ·split
  ·have := len_new (rebK ns k)
   rw [sum_new]
   omega
  ·omega
theorem ok_new_long {l : List KeyD} (h : 8 < l.length) : nodeOkB (nodeNewK l) = false := by
 unfold nodeOkB
 rw [sum_new, decide_eq_false (show ¬ l.length ≤ 8 by omega), Bool.and_false]
theorem all_take {ns : List (List KeyD)} {k : Nat} (h : k < ns.length) (h1 : (ns.take k).all okL = true) (h2 : okL ns[k] = true) : (ns.take (k + 1)).all okL = true := by
 rw [List.take_succ_eq_append_getElem h, List.all_append, h1]
 simp [h2]
theorem all_bad {ns : List (List KeyD)} {k : Nat} (h : k < ns.length) (h2 : okL ns[k] = false) : nodeOkB ns = false := by
 have : ns.all okL = false := by
  rw [List.all_eq_false]
  exact ⟨ns[k], List.getElem_mem h, by simp [h2]⟩
 rw [nodeOkB, this]
 rfl
theorem atRev_step {ns : List (List KeyD)} {k : Nat} (h : k < ns.length) (b a : Int) : atRev (ns.take (k + 1)).reverse b a = match atK ns[k] b a with
  |some x => if x.c = 0 then none else some x
  |none => atRev (ns.take k).reverse b a := by
 rw [List.take_succ_eq_append_getElem h, List.reverse_append]
 rfl
def pickO : Option KeyD → Option KeyD
 |some x => if x.c = 0 then none else some x
 |none => none
/-- The same, key by key. -/
theorem atRev_find (r : List (List KeyD)) (b a : Int) : atRev r b a = pickO (r.flatten.find? (fun x => spotB x.a x.b b a)) := by
 induction r with
 |nil => rfl
 |cons l r ih =>
  rw [List.flatten_cons, List.find?_append]
  unfold atRev atK
  cases l.find? (fun x => spotB x.a x.b b a) with
  |none => simpa using ih
  |some x => rfl
end Go.Proofs.YthopkhpiikiknaaGreat
namespace Go.Proofs.YthopkhpiikiknaaGreat
open Go.RowKit
set_option maxRecDepth 100000
set_option linter.unusedSimpArgs false
set_option linter.unusedVariables false

/-- LessKey as a value. -/
def lessV : Value := .func (.func 14) #[] #[]
theorem store_less (a : Addr) (m : Mode) (w : World) : (store a (.func (.func 14) #[] #[]) m).run Tryz.prog w = stored Tryz.prog w a (.func (.func 14) #[] #[]) m := run_store _ w a _ m rfl
theorem keySet_any (A : Option Addr) (n c : Nat) (w : World) : Calls Tryz.prog 104 #[.slice A n c] w fun e w' => e = .returned (.agg #[.slice A n c, lessV]) ∧ Below w.heap.size w w' := by
 have hst := store_less
 go_enter Tryz.func104, Tryz.ntmps104
 go_wp2
 exact bodyPost_ret (v := .agg #[.slice A n c, lessV]) (by simp [results, Tryz.results104, go_sem, lessV]) rfl ⟨rfl, bal1 _ _⟩
theorem lessI (x y : KeyD) (w : World) : Calls Tryz.prog 14 #[x.v, y.v] w (SaysBool w (lessK x y)) := implLessKey_any _ _ _ _ _ _ _ _ _ _ w
set_option maxHeartbeats 1000000 in
theorem same_any (A : Option Addr) (n c : Nat) (x y : KeyD) (w : World) : Calls Tryz.prog 117 #[.agg #[.slice A n c, lessV], x.v, y.v] w (SaysBool w (spotK x y)) := by
 rw [spot_less]
 have HT := Lib.hid lessI
 unfold KeyD.v keyV at HT
 unfold KeyD.v keyV lessV
 obtain ⟨q0, q1, q2⟩ := al3 w (.cells #[.slice A n c, .func (.func 14) #[] #[]] 119) (.cells #[.int .i64 x.a, .int .i64 x.b, .int .i64 x.c, .int .i64 x.d, .int .i64 x.e] 29) (.cells #[.int .i64 y.a, .int .i64 y.b, .int .i64 y.c, .int .i64 y.d, .int .i64 y.e] 29)
 have HB := Lib.hid (bal3 w (.cells #[.slice A n c, .func (.func 14) #[] #[]] 119) (.cells #[.int .i64 x.a, .int .i64 x.b, .int .i64 x.c, .int .i64 x.d, .int .i64 x.e] 29) (.cells #[.int .i64 y.a, .int .i64 y.b, .int .i64 y.c, .int .i64 y.d, .int .i64 y.e] 29))
 have Q0 := Lib.hid q0
 have Q1 := Lib.hid q1
 have Q2 := Lib.hid q2
 clear q0 q1 q2
 obtain ⟨X, hX⟩ : ∃ X, lessK x y = X := ⟨_, rfl⟩
 obtain ⟨Y, hY⟩ : ∃ Y, lessK y x = Y := ⟨_, rfl⟩
 rw [hX, hY]
 have HX := Lib.hid hX
 have HY := Lib.hid hY
 clear hX hY
 cases X
 ·cases Y
  all_goals
   go_enter Tryz.func117, Tryz.ntmps117
   go_wp2_with fail
   refine (HT.out _ _ _).mono ?_
   rintro r w1 ⟨rfl, b1⟩
   rw [HX.out]
   have B1 := Lib.hid (bstep HB.out b1)
   obtain ⟨x0, x1, x2⟩ := box2 (box_on Q0.out b1)
   obtain ⟨y0, y1, y2, y3, y4, y5⟩ := box5 (box_on Q1.out b1)
   obtain ⟨z0, z1, z2, z3, z4, z5⟩ := box5 (box_on Q2.out b1)
   clear b1
   go_wp2_with fail
   refine (HT.out _ _ _).mono ?_
   rintro r w2 ⟨rfl, b2⟩
   rw [HY.out]
   have B2 := Lib.hid (bstep B1.out b2)
   clear x0 x1 x2 y0 y1 y2 y3 y4 y5 z0 z1 z2 z3 z4 z5 b2
   go_wp2
   go_ret
   exact ⟨rfl, B2.out⟩
 ·go_enter Tryz.func117, Tryz.ntmps117
  go_wp2_with fail
  refine (HT.out _ _ _).mono ?_
  rintro r w1 ⟨rfl, b1⟩
  rw [HX.out]
  have B1 := Lib.hid (bstep HB.out b1)
  clear b1
  go_wp2
  go_ret
  exact ⟨rfl, B1.out⟩
theorem rise_snoc {l : List KeyD} {j : Nat} (hlt : j + 1 < l.length) (h : ∀ i (h : i < j) (h2 : i + 1 < l.length), lessK l[i] l[i + 1] = true) (h2 : lessK l[j] l[j + 1] = true) : ∀ i (h : i < j + 1) (h2 : i + 1 < l.length), lessK l[i] l[i + 1] = true := by
 intro i hi h4
 by_cases h3 : i < j
 ·exact h i h3 h4
 ·have : i = j := by omega
  subst this
  exact h2
set_option maxHeartbeats 1000000 in
theorem ascending_any (v : Value) (l : List KeyD) (w : World) (hv : Reads w w.heap.size v (keysD l)) (hn : l.length ≤ 2097152) : Calls Tryz.prog 119 #[.agg #[v, lessV]] w (SaysBool w (riseB l)) := by
 obtain ⟨A, c, rfl, _, _⟩ := hv.shapeK
 have HT := Lib.hid lessI
 unfold KeyD.v keyV at HT
 unfold lessV
 have HV := Lib.hid (hv.on (bal1 w (.cells #[.slice A l.length c, .func (.func 14) #[] #[]] 119)))
 have Q0 := Lib.hid (al1 w (.cells #[.slice A l.length c, .func (.func 14) #[] #[]] 119))
 have HB := Lib.hid (bal1 w (.cells #[.slice A l.length c, .func (.func 14) #[] #[]] 119))
 clear hv
 go_enter Tryz.func119, Tryz.ntmps119
 go_wp2
 generalize w.alloc (.cells #[.slice A l.length c, .func (.func 14) #[] #[]] 119) = W at *
 go_loopw [3] (fun i wr => ∃ j : Nat, (j < l.length ∨ j = 0) ∧ i = .int .i64 ((j : Int) + 1) ∧ Hid (∀ i (h : i < j) (h2 : i + 1 < l.length), lessK l[i] l[i + 1] = true) ∧ Hid (Below W.heap.size W wr)) (fun i _ => l.length - (intOf i).toNat)
 case atStart => exact ⟨0, .inr rfl, rfl, Lib.hid (fun i h => by omega), Lib.hid (Below.refl _ _)⟩
 case round =>
  obtain ⟨j, hj, rfl, HI, HW⟩ := hrel
  obtain ⟨x0, x1, x2⟩ := box2 (box_on Q0.out HW.out)
  by_cases hlt : j + 1 < l.length
  ·obtain ⟨b, off, rfl, hbb, hc⟩ := (HV.out.on HW.out).keys hlt
   have F := Lib.hid (hc j (by omega))
   have F' := Lib.hid (hc (j + 1) hlt)
   have i1 : (j : Int) + 1 < (l.length : Int) := by omega
   have i2 : (0 : Int) ≤ (j : Int) + 1 := by omega
   have i3 : IntKind.i64.wrap ((j : Int) + 1 - 1) = (j : Int) := by rw [IntKind.wrap_i64]; omega
   have i7 : IntKind.i64.wrap (j : Int) = (j : Int) := by rw [IntKind.wrap_i64]; omega
   have i4 : (j : Int) < (l.length : Int) := by omega
   have i5 : (0 : Int) ≤ (j : Int) := by omega
   have i6 : ((j : Int) + 1).toNat = j + 1 := by omega
   have HP := Lib.hid (box_on Q0.out HW.out)
   clear hc
   obtain ⟨c0, c1, c2, c3, c4⟩ := F.out
   obtain ⟨d0, d1, d2, d3, d4⟩ := F'.out
   cases hless : lessK l[j] l[j + 1]
   all_goals
    have HL := Lib.hid hless
    clear hless
    go_wp2
    go_region_held3 (fun W => W.cell? ⟨w.heap.size, 0, none⟩ = some (.slice (some ⟨b, off, none⟩) l.length c) ∧ W.cell? ⟨w.heap.size, 1, none⟩ = some (.func (.func 14) #[] #[]) ∧ W.cell? ⟨b, off + j * 5, none⟩ = some (.int .i64 (l[j]).a) ∧ W.cell? ⟨b, off + j * 5 + 1, none⟩ = some (.int .i64 (l[j]).b) ∧ W.cell? ⟨b, off + j * 5 + 2, none⟩ = some (.int .i64 (l[j]).c) ∧ W.cell? ⟨b, off + j * 5 + 3, none⟩ = some (.int .i64 (l[j]).d) ∧ W.cell? ⟨b, off + j * 5 + 4, none⟩ = some (.int .i64 (l[j]).e) ∧ W.cell? ⟨b, off + (j + 1) * 5, none⟩ = some (.int .i64 (l[j + 1]).a) ∧ W.cell? ⟨b, off + (j + 1) * 5 + 1, none⟩ = some (.int .i64 (l[j + 1]).b) ∧ W.cell? ⟨b, off + (j + 1) * 5 + 2, none⟩ = some (.int .i64 (l[j + 1]).c) ∧ W.cell? ⟨b, off + (j + 1) * 5 + 3, none⟩ = some (.int .i64 (l[j + 1]).d) ∧ W.cell? ⟨b, off + (j + 1) * 5 + 4, none⟩ = some (.int .i64 (l[j + 1]).e))
     (first | with_reducible exact ⟨(box2 (box_on HP.out B8)).1, (box2 (box_on HP.out B8)).2.1, (F.out.on hbb B8).and (F'.out.on hbb B8)⟩ | with_reducible exact ⟨(box2 (box_on HP.out (Below.drew1 _))).1, (box2 (box_on HP.out (Below.drew1 _))).2.1, (F.out.on hbb (Below.drew1 _)).and (F'.out.on hbb (Below.drew1 _))⟩ | exact ⟨x0, x1, F.out.and F'.out⟩ | fail)
     (first
      |(go_at_call 14; refine (HT.out _ _ _).mono ?_; rintro r w8 ⟨rfl, b8⟩; rw [HL.out]; have B8 := bstep (Below.drew1 _) b8)
      |fail)
    all_goals
     have BC := Lib.hid (HW.out.trans (B8.mono HW.out.size))
     clear B8 b8 c0 c1 c2 c3 c4 d0 d1 d2 d3 d4 x0 x1 x2
     go_wp2
     first
      |go_ret
       refine ⟨ret_boolB ?_, bstep HB.out BC.out⟩
       symm
       refine decide_eq_false (fun h => ?_)
       have h2 := h j (by omega)
       rw [HL.out] at h2
       cases h2
      |go_roundw
       case rel => exact ⟨j + 1, .inl hlt, by go_num, Lib.hid (rise_snoc hlt HI.out HL.out), BC⟩
       case measure => simp [intOf]; omega
  ·have i2 : ¬ (j : Int) + 1 < (l.length : Int) := by omega
   go_wp2
   go_ret
   refine ⟨ret_boolB ?_, bstep HB.out HW.out⟩
   symm
   exact decide_eq_true (fun i h => HI.out i (by omega) (by omega))
end Go.Proofs.YthopkhpiikiknaaGreat
namespace Go.Proofs.YthopkhpiikiknaaGreat
open Go.RowKit
set_option maxRecDepth 100000
set_option linter.unusedSimpArgs false
set_option linter.unusedVariables false

theorem okI (x : KeyD) (w : World) : Calls Tryz.prog 34 #[x.v] w (SaysBool w (okK x)) := implKeyOk_any _ _ _ _ _ w
theorem okS (x : KeyD) (w : World) : Calls Tryz.prog 39 #[x.v] w (SaysBool w (okK x)) := specKeyOk_any _ _ _ _ _ w
theorem lessS (x y : KeyD) (w : World) : Calls Tryz.prog 86 #[x.v, y.v] w (SaysBool w (lessK x y)) := specLessKey_any _ _ _ _ _ _ _ _ _ _ w
theorem all_stepK {l : List KeyD} {k : Nat} (h : k < l.length) (hp : okK l[k] = true) (hf : (l.drop k).all okK = l.all okK) : (l.drop (k + 1)).all okK = l.all okK := by
 rw [drop_at h, List.all_cons, hp] at hf
 exact hf
theorem all_missK {l : List KeyD} {k : Nat} (h : k < l.length) (hp : okK l[k] = false) (hf : (l.drop k).all okK = l.all okK) : l.all okK = false := by
 rw [drop_at h, List.all_cons, hp] at hf
 exact hf.symm
set_option maxHeartbeats 1000000 in
theorem implSetOk_any (v : Value) (l : List KeyD) (w : World) (hv : Reads w w.heap.size v (keysD l)) (hn : l.length ≤ 2097152) : Calls Tryz.prog 108 #[v] w (SaysBool w (setOkB l)) := by
 obtain ⟨A, c, rfl, _, _⟩ := hv.shapeK
 have HT := Lib.hid okI
 unfold KeyD.v keyV at HT
 have HK := Lib.hid (keySet_any A l.length c)
 have HA := Lib.hid (fun w => ascending_any (.slice A l.length c) l w)
 unfold lessV at HK HA
 obtain ⟨R, hR⟩ : ∃ R, setOkB l = R := ⟨_, rfl⟩
 rw [hR]
 have HR := Lib.hid hR
 have HV := Lib.hid hv
 clear hv hR
 by_cases h60 : l.length ≤ 60
 ·have d0 : decide ((60 : Int) < (l.length : Int)) = false := decide_eq_false (by omega)
  go_enter Tryz.func108, Tryz.ntmps108
  go_wp2
  go_loopw [4, 10] (fun _ i wr => ∃ k : Nat, k ≤ l.length ∧ i = .int .i64 k ∧ Hid ((l.drop k).all okK = l.all okK) ∧ Hid (Below w.heap.size w wr)) (fun _ i _ => l.length - (intOf i).toNat)
  case atStart => exact ⟨0, Nat.zero_le _, rfl, Lib.hid rfl, Lib.hid (Below.refl _ _)⟩
  case round =>
   obtain ⟨k, hk, rfl, HI, HW⟩ := hrel
   have hzr := HW.out.size
   by_cases hlt : k < l.length
   ·obtain ⟨b, off, rfl, hbb, hc⟩ := (HV.out.on HW.out).keys hlt
    have i1 : (k : Int) < (l.length : Int) := by omega
    have i2 : (0 : Int) ≤ (k : Int) := by omega
    obtain ⟨c0, c1, c2, c3, c4⟩ := hc k hlt
    have BA := Lib.hid (HW.out.trans ((bal1 wr (.cells #[.int .i64 (l[k]).a, .int .i64 (l[k]).b, .int .i64 (l[k]).c, .int .i64 (l[k]).d, .int .i64 (l[k]).e] 29)).mono hzr))
    clear hc
    cases hs : okK l[k]
    all_goals
     have HS := Lib.hid hs
     clear hs
     go_wp2_with fail
     refine (HT.out l[k] _).mono ?_
     rintro r w1 ⟨rfl, b1⟩
     rw [HS.out]
     have B1 := Lib.hid (BA.out.trans (b1.mono BA.out.size))
     clear c0 c1 c2 c3 c4 b1
     go_wp2
     first
      |go_roundw
       case rel => exact ⟨k + 1, by omega, by go_num, Lib.hid (all_stepK hlt HS.out HI.out), B1⟩
       case measure => simp [intOf]; omega
      |go_ret
       refine ⟨ret_boolB ?_, B1.out⟩
       rw [← HR.out, setOkB, all_missK hlt HS.out HI.out]
       rfl
   ·have hall : l.all okK = true := by
     rw [← HI.out, List.drop_eq_nil_of_le (by omega)]
     rfl
    have HL := Lib.hid hall
    clear hall
    go_wp2_with fail
    refine (HK.out _).mono ?_
    rintro r w1 ⟨rfl, b1⟩
    have B1 := Lib.hid (HW.out.trans (b1.mono hzr))
    clear b1
    go_wp2_with fail
    refine (HA.out _ (HV.out.on B1.out) hn).mono ?_
    rintro r w2 ⟨rfl, b2⟩
    have B2 := Lib.hid (bstep B1.out b2)
    clear b2
    go_wp2
    go_ret
    refine ⟨ret_boolB ?_, B2.out⟩
    rw [← HR.out, setOkB, HL.out, decide_eq_true h60]
    simp
 ·have d0 : decide ((60 : Int) < (l.length : Int)) = true := decide_eq_true (by omega)
  go_enter Tryz.func108, Tryz.ntmps108
  go_wp2
  go_ret
  refine ⟨ret_boolB ?_, Below.refl _ _⟩
  rw [← HR.out, setOkB, decide_eq_false h60]
  simp
set_option maxHeartbeats 1000000 in
theorem l4Rises_any (v : Value) (l : List KeyD) (w : World) (hv : Reads w w.heap.size v (keysD l)) (hn : l.length ≤ 2097152) : Calls Tryz.prog 118 #[v] w (SaysBool w (riseB l)) := by
 obtain ⟨A, c, rfl, _, _⟩ := hv.shapeK
 have HT := Lib.hid lessS
 unfold KeyD.v keyV at HT
 have HV := Lib.hid hv
 clear hv
 go_enter Tryz.func118, Tryz.ntmps118
 go_wp2
 go_loopw [3] (fun i wr => ∃ j : Nat, (j < l.length ∨ j = 0) ∧ i = .int .i64 ((j : Int) + 1) ∧ Hid (∀ i (h : i < j) (h2 : i + 1 < l.length), lessK l[i] l[i + 1] = true) ∧ Hid (Below w.heap.size w wr)) (fun i _ => l.length - (intOf i).toNat)
 case atStart => exact ⟨0, .inr rfl, rfl, Lib.hid (fun i h => by omega), Lib.hid (Below.refl _ _)⟩
 case round =>
  obtain ⟨j, hj, rfl, HI, HW⟩ := hrel
  by_cases hlt : j + 1 < l.length
  ·obtain ⟨b, off, rfl, hbb, hc⟩ := (HV.out.on HW.out).keys hlt
   have F := Lib.hid (hc j (by omega))
   have F' := Lib.hid (hc (j + 1) hlt)
   have i1 : (j : Int) + 1 < (l.length : Int) := by omega
   have i2 : (0 : Int) ≤ (j : Int) + 1 := by omega
   have i3 : IntKind.i64.wrap ((j : Int) + 1 - 1) = (j : Int) := by rw [IntKind.wrap_i64]; omega
   have i7 : IntKind.i64.wrap (j : Int) = (j : Int) := by rw [IntKind.wrap_i64]; omega
   have i4 : (j : Int) < (l.length : Int) := by omega
   have i5 : (0 : Int) ≤ (j : Int) := by omega
   have i6 : ((j : Int) + 1).toNat = j + 1 := by omega
   clear hc
   obtain ⟨c0, c1, c2, c3, c4⟩ := F.out
   obtain ⟨d0, d1, d2, d3, d4⟩ := F'.out
   cases hless : lessK l[j] l[j + 1]
   all_goals
    have HL := Lib.hid hless
    clear hless
    go_wp2
    go_region_held3 (fun W => W.cell? ⟨b, off + j * 5, none⟩ = some (.int .i64 (l[j]).a) ∧ W.cell? ⟨b, off + j * 5 + 1, none⟩ = some (.int .i64 (l[j]).b) ∧ W.cell? ⟨b, off + j * 5 + 2, none⟩ = some (.int .i64 (l[j]).c) ∧ W.cell? ⟨b, off + j * 5 + 3, none⟩ = some (.int .i64 (l[j]).d) ∧ W.cell? ⟨b, off + j * 5 + 4, none⟩ = some (.int .i64 (l[j]).e) ∧ W.cell? ⟨b, off + (j + 1) * 5, none⟩ = some (.int .i64 (l[j + 1]).a) ∧ W.cell? ⟨b, off + (j + 1) * 5 + 1, none⟩ = some (.int .i64 (l[j + 1]).b) ∧ W.cell? ⟨b, off + (j + 1) * 5 + 2, none⟩ = some (.int .i64 (l[j + 1]).c) ∧ W.cell? ⟨b, off + (j + 1) * 5 + 3, none⟩ = some (.int .i64 (l[j + 1]).d) ∧ W.cell? ⟨b, off + (j + 1) * 5 + 4, none⟩ = some (.int .i64 (l[j + 1]).e))
     (first | with_reducible exact (F.out.on hbb B8).and (F'.out.on hbb B8) | with_reducible exact (F.out.on hbb (Below.drew1 _)).and (F'.out.on hbb (Below.drew1 _)) | exact F.out.and F'.out | fail)
     (first
      |(go_at_call 86; refine (HT.out _ _ _).mono ?_; rintro r w8 ⟨rfl, b8⟩; rw [HL.out]; have B8 := bstep (Below.drew1 _) b8)
      |fail)
    all_goals
     have BC := Lib.hid (HW.out.trans (B8.mono HW.out.size))
     clear B8 b8 c0 c1 c2 c3 c4 d0 d1 d2 d3 d4
     go_wp2
     first
      |go_ret
       refine ⟨ret_boolB ?_, BC.out⟩
       symm
       refine decide_eq_false (fun h => ?_)
       have h2 := h j (by omega)
       rw [HL.out] at h2
       cases h2
      |go_roundw
       case rel => exact ⟨j + 1, .inl hlt, by go_num, Lib.hid (rise_snoc hlt HI.out HL.out), BC⟩
       case measure => simp [intOf]; omega
  ·have i2 : ¬ (j : Int) + 1 < (l.length : Int) := by omega
   go_wp2
   go_ret
   refine ⟨ret_boolB ?_, HW.out⟩
   symm
   exact decide_eq_true (fun i h => HI.out i (by omega) (by omega))
set_option maxHeartbeats 1000000 in
theorem specSetOk_any (v : Value) (l : List KeyD) (w : World) (hv : Reads w w.heap.size v (keysD l)) (hn : l.length ≤ 2097152) : Calls Tryz.prog 106 #[v] w (SaysBool w (setOkB l)) := by
 obtain ⟨A, c, rfl, _, _⟩ := hv.shapeK
 have HT := Lib.hid okS
 unfold KeyD.v keyV at HT
 have HA := Lib.hid (fun w => l4Rises_any (.slice A l.length c) l w)
 obtain ⟨R, hR⟩ : ∃ R, setOkB l = R := ⟨_, rfl⟩
 rw [hR]
 have HR := Lib.hid hR
 have HV := Lib.hid hv
 clear hv hR
 go_enter Tryz.func106, Tryz.ntmps106
 go_wp2
 go_loopw [3] (fun i wr => ∃ k : Nat, k ≤ l.length ∧ i = .int .i64 k ∧ Hid ((l.drop k).all okK = l.all okK) ∧ Hid (Below w.heap.size w wr)) (fun i _ => l.length - (intOf i).toNat)
 case atStart => exact ⟨0, Nat.zero_le _, rfl, Lib.hid rfl, Lib.hid (Below.refl _ _)⟩
 case round =>
  obtain ⟨k, hk, rfl, HI, HW⟩ := hrel
  have hzr := HW.out.size
  by_cases hlt : k < l.length
  ·obtain ⟨b, off, rfl, hbb, hc⟩ := (HV.out.on HW.out).keys hlt
   have i1 : (k : Int) < (l.length : Int) := by omega
   have i2 : (0 : Int) ≤ (k : Int) := by omega
   obtain ⟨c0, c1, c2, c3, c4⟩ := hc k hlt
   clear hc
   cases hs : okK l[k]
   all_goals
    have HS := Lib.hid hs
    clear hs
    go_wp2_with fail
    refine (HT.out l[k] _).mono ?_
    rintro r w1 ⟨rfl, b1⟩
    rw [HS.out]
    have B1 := Lib.hid (HW.out.trans (b1.mono HW.out.size))
    clear c0 c1 c2 c3 c4 b1
    go_wp2
    first
     |go_roundw
      case rel => exact ⟨k + 1, by omega, by go_num, Lib.hid (all_stepK hlt HS.out HI.out), B1⟩
      case measure => simp [intOf]; omega
     |go_ret
      refine ⟨ret_boolB ?_, B1.out⟩
      rw [← HR.out, setOkB, all_missK hlt HS.out HI.out]
      rfl
  ·have hall : l.all okK = true := by
    rw [← HI.out, List.drop_eq_nil_of_le (by omega)]
    rfl
   have HL := Lib.hid hall
   clear hall
   cases hri : riseB l
   all_goals
    have HRI := Lib.hid hri
    clear hri
    go_wp2_with fail
    refine (HA.out _ (HV.out.on HW.out) hn).mono ?_
    rintro r w2 ⟨rfl, b2⟩
    rw [HRI.out]
    have B2 := Lib.hid (bstep HW.out b2)
    clear b2
    go_wp2
    go_ret
    refine ⟨ret_boolB ?_, B2.out⟩
    rw [← HR.out, setOkB, HL.out, HRI.out]
    first
     |simp; done
     |(simp only [Bool.true_and, Bool.and_self]; exact decide_eq_decide.2 (by omega))
end Go.Proofs.YthopkhpiikiknaaGreat
namespace Go.Proofs.YthopkhpiikiknaaGreat
open Go.RowKit
set_option maxRecDepth 100000
set_option linter.unusedSimpArgs false
set_option linter.unusedVariables false

set_option maxHeartbeats 2000000 in
theorem implNodeOk_any (v : Value) (ns : List (List KeyD)) (w : World) (hv : Reads w w.heap.size v (setsD ns)) (hs : SmallN ns) : Calls Tryz.prog 91 #[.agg #[v]] w (SaysBool w (nodeOkB ns)) := by
 obtain ⟨A, c, rfl, _, _⟩ := hv.lenN
 have B0 := bal1 w (.cells #[.slice A ns.length c] 62)
 have HB := Lib.hid B0
 have Q0 := Lib.hid (al1 w (.cells #[.slice A ns.length c] 62))
 have HV := Lib.hid (hv.on B0)
 have HS := Lib.hid hs
 have hn := hs.1
 obtain ⟨R, hR⟩ : ∃ R, nodeOkB ns = R := ⟨_, rfl⟩
 rw [hR]
 have HR := Lib.hid hR
 clear hv hs hR B0
 by_cases h3 : ns.length ≤ 3
 ·have d0 : decide ((3 : Int) < (ns.length : Int)) = false := decide_eq_false (by omega)
  go_enter Tryz.func91, Tryz.ntmps91
  go_wp2
  generalize w.alloc (.cells #[.slice A ns.length c] 62) = W at *
  clear d0
  go_loopw [3, 5, 13] (fun t _ i wr => ∃ k : Nat, k ≤ ns.length ∧ i = .int .i64 k ∧ t = .int .i64 (sumN (ns.take k) : Nat) ∧ Hid ((ns.take k).all okL = true) ∧ Hid (Below W.heap.size W wr)) (fun _ _ i _ => ns.length - (intOf i).toNat)
  case atStart => exact ⟨0, Nat.zero_le _, rfl, by simp [sumN], Lib.hid rfl, Lib.hid (Below.refl _ _)⟩
  case round =>
   obtain ⟨k, hk, rfl, rfl, HI, HW⟩ := hrel
   have hsum := Nat.le_trans (sumN_take_le ns k) HS.out.2
   by_cases hlt : k < ns.length
   ·obtain ⟨b, off, rfl, hbb, hc⟩ := (HV.out.on HW.out).set hlt
    obtain ⟨A1, d1, c1, _, _, r1⟩ := hc k hlt
    have hl := HS.out.at hlt
    have T1 := Lib.hid (sumN_take hlt)
    have R1 := Lib.hid r1
    have i1 : (k : Int) < (ns.length : Int) := by omega
    have i2 : (0 : Int) ≤ (k : Int) := by omega
    clear hc r1
    generalize hq : sumN (ns.take k) = q at *
    have HQ := Lib.hid hq
    clear hq
    by_cases h0 : (ns[k]).length = 0
    ·have z0 : (((ns[k]).length : Int) == 0) = true := by simp [h0]
     have HBad := Lib.hid (all_bad hlt (by simp [okL, h0]))
     clear h0
     go_wp2
     go_ret
     exact ⟨ret_boolB (by rw [← HR.out, HBad.out]), bstep HB.out HW.out⟩
    ·have z0 : (((ns[k]).length : Int) == 0) = false := by simp; simpa using h0
     have H0 := Lib.hid h0
     clear h0
     cases hs : setOkB ns[k]
     all_goals
      have HSk := Lib.hid hs
      clear hs
      go_wp2_with fail
      refine (implSetOk_any _ ns[k] _ R1.out (by omega)).mono ?_
      rintro r w1 ⟨rfl, b1⟩
      rw [HSk.out]
      have B1 := Lib.hid (HW.out.trans (b1.mono HW.out.size))
      clear b1
      go_wp2
      first
       |go_roundw
        case rel => exact ⟨k + 1, by omega, by go_num, by rw [T1.out]; go_num, Lib.hid (all_take hlt HI.out (by have := H0.out; simp [okL, HSk.out]; omega)), B1⟩
        case measure => simp [intOf]; omega
       |go_ret
        exact ⟨ret_boolB (by rw [← HR.out, all_bad hlt (by simp [okL, HSk.out])]), bstep HB.out B1.out⟩
   ·have e : k = ns.length := by omega
    subst e
    have hh : sumN (ns.take ns.length) = sumN ns := by rw [List.take_length]
    have hh2 := HI.out
    rw [List.take_length] at hh2
    rw [hh] at *
    have HH := Lib.hid hh2
    have H3 := Lib.hid h3
    clear hh hh2
    go_wp2
    go_ret
    refine ⟨ret_boolB ?_, bstep HB.out HW.out⟩
    rw [← HR.out, nodeOkB, HH.out, decide_eq_true H3.out]
    simp
    omega
 ·have d0 : decide ((3 : Int) < (ns.length : Int)) = true := decide_eq_true (by omega)
  go_enter Tryz.func91, Tryz.ntmps91
  go_wp2
  go_ret
  refine ⟨ret_boolB ?_, HB.out⟩
  rw [← HR.out, nodeOkB, decide_eq_false h3]
  simp
theorem l5Count_any (v : Value) (ns : List (List KeyD)) (w : World) (hv : Reads w w.heap.size v (setsD ns)) (hs : SmallN ns) : Calls Tryz.prog 107 #[.agg #[v]] w fun e w' => e = .returned (.int .i64 (sumN ns : Nat)) ∧ Below w.heap.size w w' := by
 obtain ⟨A, c, rfl, _, _⟩ := hv.lenN
 have B0 := bal1 w (.cells #[.slice A ns.length c] 62)
 have HB := Lib.hid B0
 have Q0 := Lib.hid (al1 w (.cells #[.slice A ns.length c] 62))
 have HV := Lib.hid (hv.on B0)
 have HS := Lib.hid hs
 have hn := hs.1
 clear hv hs B0
 go_enter Tryz.func107, Tryz.ntmps107
 go_wp2
 generalize w.alloc (.cells #[.slice A ns.length c] 62) = W at *
 obtain ⟨x0, x1⟩ := box1N Q0.out
 go_loopw [3, 4] (fun t i wr => ∃ k : Nat, k ≤ ns.length ∧ i = .int .i64 k ∧ t = .int .i64 (sumN (ns.take k) : Nat) ∧ W = wr) (fun _ i _ => ns.length - (intOf i).toNat)
 case atStart => exact ⟨0, Nat.zero_le _, rfl, by simp [sumN], rfl⟩
 case round =>
  obtain ⟨k, hk, rfl, rfl, rfl⟩ := hrel
  have hsum := Nat.le_trans (sumN_take_le ns k) HS.out.2
  by_cases hlt : k < ns.length
  ·obtain ⟨b, off, rfl, hbb, hc⟩ := HV.out.set hlt
   obtain ⟨A1, d1, c1, _, _, r1⟩ := hc k hlt
   have hl := HS.out.at hlt
   have T1 := Lib.hid (sumN_take hlt)
   have i1 : (k : Int) < (ns.length : Int) := by omega
   have i2 : (0 : Int) ≤ (k : Int) := by omega
   clear hc r1
   generalize hq : sumN (ns.take k) = q at *
   have HQ := Lib.hid hq
   clear hq
   go_wp2
   go_roundw
   case rel => exact ⟨k + 1, by omega, by go_num, by rw [T1.out]; go_num, trivial⟩
   case measure => simp [intOf]; omega
  ·have e : k = ns.length := by omega
   subst e
   have hh : sumN (ns.take ns.length) = sumN ns := by rw [List.take_length]
   rw [hh] at *
   go_wp2
   go_ret
   exact ⟨rfl, HB.out⟩
set_option maxHeartbeats 2000000 in
theorem specNodeOk_any (v : Value) (ns : List (List KeyD)) (w : World) (hv : Reads w w.heap.size v (setsD ns)) (hs : SmallN ns) : Calls Tryz.prog 85 #[.agg #[v]] w (SaysBool w (nodeOkB ns)) := by
 obtain ⟨A, c, rfl, _, _⟩ := hv.lenN
 have B0 := bal1 w (.cells #[.slice A ns.length c] 62)
 have HB := Lib.hid B0
 have Q0 := Lib.hid (al1 w (.cells #[.slice A ns.length c] 62))
 have HV := Lib.hid (hv.on B0)
 have HS := Lib.hid hs
 have hn := hs.1
 obtain ⟨R, hR⟩ : ∃ R, nodeOkB ns = R := ⟨_, rfl⟩
 rw [hR]
 have HR := Lib.hid hR
 clear hv hs hR B0
 go_enter Tryz.func85, Tryz.ntmps85
 go_wp2
 generalize w.alloc (.cells #[.slice A ns.length c] 62) = W at *
 go_loopw [3] (fun i wr => ∃ k : Nat, k ≤ ns.length ∧ i = .int .i64 k ∧ Hid ((ns.take k).all okL = true) ∧ Hid (Below W.heap.size W wr)) (fun i _ => ns.length - (intOf i).toNat)
 case atStart => exact ⟨0, Nat.zero_le _, rfl, Lib.hid rfl, Lib.hid (Below.refl _ _)⟩
 case round =>
  obtain ⟨k, hk, rfl, HI, HW⟩ := hrel
  have Q1 := Lib.hid (box_on Q0.out HW.out)
  obtain ⟨x0, x1⟩ := box1N Q1.out
  by_cases hlt : k < ns.length
  ·obtain ⟨b, off, rfl, hbb, hc⟩ := (HV.out.on HW.out).set hlt
   obtain ⟨A1, d1, c1, _, _, r1⟩ := hc k hlt
   have hl := HS.out.at hlt
   have R1 := Lib.hid r1
   have i1 : (k : Int) < (ns.length : Int) := by omega
   have i2 : (0 : Int) ≤ (k : Int) := by omega
   have HC : Hid (∀ w', Below wr.heap.size wr w' → w'.cell? ⟨b, off + k, none⟩ = some (.slice A1 (ns[k]).length d1)) := Lib.hid (fun w' h => (h.cell (p := ⟨b, off + k, none⟩) hbb).trans c1)
   clear hc r1
   cases hs : setOkB ns[k]
   ·have HSk := Lib.hid hs
    clear hs
    go_wp2_with fail
    refine (specSetOk_any _ ns[k] _ R1.out (by omega)).mono ?_
    rintro r w1 ⟨rfl, b1⟩
    rw [HSk.out]
    have B1 := Lib.hid (HW.out.trans (b1.mono HW.out.size))
    clear b1 x0 x1 c1
    go_wp2
    go_ret
    exact ⟨ret_boolB (by rw [← HR.out, all_bad hlt (by simp [okL, HSk.out])]), bstep HB.out B1.out⟩
   ·have HSk := Lib.hid hs
    clear hs
    by_cases h0 : (ns[k]).length = 0
    ·have z0 : (((ns[k]).length : Int) == 0) = true := by simp [h0]
     have HBad := Lib.hid (all_bad hlt (by simp [okL, h0]))
     clear h0
     go_wp2_with fail
     refine (specSetOk_any _ ns[k] _ R1.out (by omega)).mono ?_
     rintro r w1 ⟨rfl, b1⟩
     rw [HSk.out]
     have B1 := Lib.hid (HW.out.trans (b1.mono HW.out.size))
     have c2 := HC.out _ b1
     obtain ⟨y0, y1⟩ := box1N (box_on Q1.out b1)
     clear b1 x0 x1 c1
     go_wp2
     go_ret
     exact ⟨ret_boolB (by rw [← HR.out, HBad.out]), bstep HB.out B1.out⟩
    ·have z0 : (((ns[k]).length : Int) == 0) = false := by simp; simpa using h0
     have H0 := Lib.hid h0
     clear h0
     go_wp2_with fail
     refine (specSetOk_any _ ns[k] _ R1.out (by omega)).mono ?_
     rintro r w1 ⟨rfl, b1⟩
     rw [HSk.out]
     have B1 := Lib.hid (HW.out.trans (b1.mono HW.out.size))
     have c2 := HC.out _ b1
     obtain ⟨y0, y1⟩ := box1N (box_on Q1.out b1)
     clear b1 x0 x1 c1
     go_wp2
     go_roundw
     case rel => exact ⟨k + 1, by omega, by go_num, Lib.hid (all_take hlt HI.out (by have := H0.out; simp [okL, HSk.out]; omega)), B1⟩
     case measure => simp [intOf]; omega
  ·have e : k = ns.length := by omega
   subst e
   have hh2 := HI.out
   rw [List.take_length] at hh2
   have HH := Lib.hid hh2
   clear hh2
   by_cases h3 : ns.length ≤ 3
   ·have d0 : decide ((ns.length : Int) ≤ 3) = true := decide_eq_true (by omega)
    go_wp2_with fail
    refine (l5Count_any _ ns _ (HV.out.on HW.out) HS.out).mono ?_
    rintro r w1 ⟨rfl, b1⟩
    have B1 := Lib.hid (HW.out.trans (b1.mono HW.out.size))
    clear b1
    have H3 := Lib.hid h3
    go_wp2
    go_ret
    refine ⟨ret_boolB ?_, bstep HB.out B1.out⟩
    rw [← HR.out, nodeOkB, HH.out, decide_eq_true H3.out]
    simp
    omega
   ·have d0 : decide ((ns.length : Int) ≤ 3) = false := decide_eq_false (by omega)
    have H3 := Lib.hid h3
    go_wp2
    go_ret
    refine ⟨ret_boolB ?_, bstep HB.out HW.out⟩
    rw [← HR.out, nodeOkB, decide_eq_false H3.out]
    simp
end Go.Proofs.YthopkhpiikiknaaGreat
namespace Go.Proofs.YthopkhpiikiknaaGreat
open Go.RowKit
set_option maxRecDepth 100000
set_option linter.unusedSimpArgs false
set_option linter.unusedVariables false

def zK : KeyD := ⟨0, 0, 0, 0, 0⟩
def SaysFind (w : World) (o : Option KeyD) (e : Ending) (w' : World) : Prop := e = .returned (.tuple #[(o.getD zK).v, .bool o.isSome]) ∧ Below w.heap.size w w'
theorem find_step {l : List KeyD} {k : Nat} {p : KeyD → Bool} (h : k < l.length) (hp : p l[k] = false) (hf : (l.drop k).find? p = l.find? p) : (l.drop (k + 1)).find? p = l.find? p := by
 rw [drop_at h, List.find?_cons, hp] at hf
 exact hf
theorem find_hit {l : List KeyD} {k : Nat} {p : KeyD → Bool} (h : k < l.length) (hp : p l[k] = true) (hf : (l.drop k).find? p = l.find? p) : l.find? p = some l[k] := by
 rw [drop_at h, List.find?_cons, hp] at hf
 exact hf.symm
theorem b5' {B : Nat} {w w1 : World} {g : Nat} {u1 u2 u3 u4 u5 : Value} (h : Below B w w1) (hg : B ≤ g) : Below B w (((((w1.setCell ⟨g, 0, none⟩ u1).setCell ⟨g, 1, none⟩ u2).setCell ⟨g, 2, none⟩ u3).setCell ⟨g, 3, none⟩ u4).setCell ⟨g, 4, none⟩ u5) :=
 ((((h.setCell (p := ⟨g, 0, none⟩) hg _).setCell (p := ⟨g, 1, none⟩) hg _).setCell (p := ⟨g, 2, none⟩) hg _).setCell (p := ⟨g, 3, none⟩) hg _).setCell (p := ⟨g, 4, none⟩) hg _
set_option maxHeartbeats 2000000 in
theorem find_any (v : Value) (l : List KeyD) (x : KeyD) (w : World) (hv : Reads w w.heap.size v (keysD l)) (hn : l.length ≤ 2097152) : Calls Tryz.prog 122 #[.agg #[v, lessV], x.v] w (SaysFind w (l.find? (fun y => spotK x y))) := by
 obtain ⟨A, c, rfl, _, _⟩ := hv.shapeK
 have HT := Lib.hid (same_any A l.length c x)
 unfold KeyD.v keyV lessV at HT
 unfold KeyD.v keyV lessV
 generalize hF : l.find? (fun y => spotK x y) = F
 obtain ⟨q0, q1, q2⟩ := al3 w (.cells #[.slice A l.length c, .func (.func 14) #[] #[]] 119) (.cells #[.int .i64 x.a, .int .i64 x.b, .int .i64 x.c, .int .i64 x.d, .int .i64 x.e] 29) (.cells #[.int .i64 0, .int .i64 0, .int .i64 0, .int .i64 0, .int .i64 0] 29)
 have b0 := bal3 w (.cells #[.slice A l.length c, .func (.func 14) #[] #[]] 119) (.cells #[.int .i64 x.a, .int .i64 x.b, .int .i64 x.c, .int .i64 x.d, .int .i64 x.e] 29) (.cells #[.int .i64 0, .int .i64 0, .int .i64 0, .int .i64 0, .int .i64 0] 29)
 have Q0 := Lib.hid q0
 have Q1 := Lib.hid q1
 have Q2 := Lib.hid q2
 have HB := Lib.hid b0
 have HV := Lib.hid (hv.on b0)
 have HF := Lib.hid hF
 have hz : (((w.alloc (.cells #[.slice A l.length c, .func (.func 14) #[] #[]] 119)).alloc (.cells #[.int .i64 x.a, .int .i64 x.b, .int .i64 x.c, .int .i64 x.d, .int .i64 x.e] 29)).alloc (.cells #[.int .i64 0, .int .i64 0, .int .i64 0, .int .i64 0, .int .i64 0] 29)).heap.size = w.heap.size + 3 := by simp
 have HZ := Lib.hid hz
 clear hv b0 q0 q1 q2 hF hz
 go_enter Tryz.func122, Tryz.ntmps122
 go_wp2
 generalize ((w.alloc (.cells #[.slice A l.length c, .func (.func 14) #[] #[]] 119)).alloc (.cells #[.int .i64 x.a, .int .i64 x.b, .int .i64 x.c, .int .i64 x.d, .int .i64 x.e] 29)).alloc (.cells #[.int .i64 0, .int .i64 0, .int .i64 0, .int .i64 0, .int .i64 0] 29) = W at *
 go_loopw [7, 12] (fun _ i wr => ∃ k : Nat, k ≤ l.length ∧ i = .int .i64 k ∧ Hid ((l.drop k).find? (fun y => spotK x y) = l.find? (fun y => spotK x y)) ∧ Hid (Below W.heap.size W wr)) (fun _ i _ => l.length - (intOf i).toNat)
 case atStart => exact ⟨0, Nat.zero_le _, rfl, Lib.hid rfl, Lib.hid (Below.refl _ _)⟩
 case round =>
  obtain ⟨k, hk, rfl, HI, HW⟩ := hrel
  have hzW := HZ.out
  have hzr := HW.out.size
  by_cases hlt : k < l.length
  ·obtain ⟨b, off, rfl, hbb, hc⟩ := (HV.out.on HW.out).keys hlt
   have i1 : (k : Int) < (l.length : Int) := by omega
   have i2 : (0 : Int) ≤ (k : Int) := by omega
   obtain ⟨c0, c1, c2, c3, c4⟩ := hc k hlt
   have ba := bal1 wr (.cells #[.int .i64 (l[k]).a, .int .i64 (l[k]).b, .int .i64 (l[k]).c, .int .i64 (l[k]).d, .int .i64 (l[k]).e] 29)
   have BA := Lib.hid (HW.out.trans (ba.mono hzr))
   have P0 := Lib.hid (box_on Q0.out BA.out)
   have P1 := Lib.hid (box_on Q1.out BA.out)
   have P2 := Lib.hid (box_on Q2.out BA.out)
   have P3 := Lib.hid (al1 wr (.cells #[.int .i64 (l[k]).a, .int .i64 (l[k]).b, .int .i64 (l[k]).c, .int .i64 (l[k]).d, .int .i64 (l[k]).e] 29))
   obtain ⟨x0, x1, x2⟩ := box2 P0.out
   obtain ⟨y0, y1, y2, y3, y4, y5⟩ := box5 P1.out
   clear hc ba
   cases hs : spotK x l[k]
   all_goals
    have HS := Lib.hid hs
    clear hs
    go_wp2_with fail
    refine (HT.out l[k] _).mono ?_
    rintro r w1 ⟨rfl, b1⟩
    rw [HS.out]
    have B1 := Lib.hid (BA.out.trans (b1.mono BA.out.size))
    obtain ⟨z0, z1, z2, z3, z4, z5⟩ := box5 (box_on P2.out b1)
    obtain ⟨u0, u1, u2, u3, u4, u5⟩ := box5 (box_on P3.out b1)
    have hne : ¬ wr.heap.size = w.heap.size + 1 + 1 := by omega
    clear c0 c1 c2 c3 c4 x0 x1 x2 y0 y1 y2 y3 y4 y5 b1
    go_wp2
    first
     |go_roundw
      case rel => exact ⟨k + 1, by omega, by go_num, Lib.hid (find_step hlt HS.out HI.out), B1⟩
      case measure => simp [intOf]; omega
     |have hF : F = some l[k] := by rw [← HF.out]; exact find_hit hlt HS.out HI.out
      refine bodyPost_ret (v := .tuple #[(F.getD zK).v, .bool F.isSome]) (by simp [results, Tryz.results122, go_sem, keyV, KeyD.v, hF, *]) rfl ⟨rfl, ?_⟩
      exact b5' (bstep HB.out B1.out) (by omega)
  ·have BA := Lib.hid (HW.out.trans ((bal1 wr (.cells #[.int .i64 0, .int .i64 0, .int .i64 0, .int .i64 0, .int .i64 0] 29)).mono hzr))
   obtain ⟨z0, z1, z2, z3, z4, z5⟩ := box5 (box_on Q2.out BA.out)
   have hne : ¬ wr.heap.size = w.heap.size + 1 + 1 := by omega
   go_wp2
   have hF : F = none := by
    rw [← HF.out, ← HI.out, List.drop_eq_nil_of_le (by omega)]
    rfl
   refine bodyPost_ret (v := .tuple #[(F.getD zK).v, .bool F.isSome]) (by simp [results, Tryz.results122, go_sem, keyV, KeyD.v, hF, zK, *]) rfl ⟨rfl, ?_⟩
   exact b5' (bstep HB.out BA.out) (by omega)
theorem spot_flip (b a : Int) : (fun y : KeyD => spotK ⟨b, a, 0, 0, 0⟩ y) = (fun y => spotB y.a y.b b a) := by
 funext y
 exact spot_comm ⟨b, a, 0, 0, 0⟩ y
set_option maxHeartbeats 1000000 in
theorem implSetAt_any (v : Value) (l : List KeyD) (b a : Int) (w : World) (hv : Reads w w.heap.size v (keysD l)) (hn : l.length ≤ 2097152) : Calls Tryz.prog 121 #[v, .int .i64 b, .int .i64 a] w (SaysFind w (atK l b a)) := by
 obtain ⟨A, c, rfl, _, _⟩ := hv.shapeK
 have HF := Lib.hid (fun w => find_any (.slice A l.length c) l ⟨b, a, 0, 0, 0⟩ w)
 rw [spot_flip] at HF
 change Hid (∀ w, _ → _ → Calls Tryz.prog _ _ w (SaysFind w (atK l b a))) at HF
 have HK := Lib.hid (keySet_any A l.length c)
 unfold SaysFind KeyD.v keyV lessV at HF
 unfold lessV at HK
 unfold SaysFind KeyD.v keyV
 generalize atK l b a = F at *
 have q0 := Lib.hid (al1 w (.cells #[.int .i64 0, .int .i64 0, .int .i64 0, .int .i64 0, .int .i64 0] 29))
 have B0 := Lib.hid (bal1 w (.cells #[.int .i64 0, .int .i64 0, .int .i64 0, .int .i64 0, .int .i64 0] 29))
 have HV := Lib.hid hv
 clear hv
 go_enter Tryz.func121, Tryz.ntmps121
 go_wp2_with fail
 refine (HK.out _).mono ?_
 rintro r w1 ⟨rfl, b1⟩
 have Q1 := Lib.hid (box_on q0.out b1)
 have B1 := Lib.hid (bstep B0.out b1)
 clear b1 q0 B0
 go_wp2_with fail
 refine (HF.out _ (HV.out.on B1.out) hn).mono ?_
 rintro r w2 ⟨rfl, b2⟩
 have B2 := Lib.hid (bstep B1.out b2)
 obtain ⟨z0, z1, z2, z3, z4, z5⟩ := box5 (box_on Q1.out b2)
 clear b2 B1 Q1
 go_wp2
 refine bodyPost_ret (v := .tuple #[(F.getD zK).v, .bool F.isSome]) (by simp [results, Tryz.results121, go_sem, keyV, KeyD.v, *]) rfl ⟨rfl, ?_⟩
 exact b5' B2.out (Nat.le_refl _)
end Go.Proofs.YthopkhpiikiknaaGreat
namespace Go.Proofs.YthopkhpiikiknaaGreat
open Go.RowKit
set_option maxRecDepth 100000
set_option linter.unusedSimpArgs false
set_option linter.unusedVariables false

set_option maxHeartbeats 1000000 in
theorem specSetAt_any (v : Value) (l : List KeyD) (b a : Int) (w : World) (hv : Reads w w.heap.size v (keysD l)) (hn : l.length ≤ 2097152) : Calls Tryz.prog 84 #[v, .int .i64 b, .int .i64 a] w (SaysFind w (atK l b a)) := by
 obtain ⟨A, c, rfl, _, _⟩ := hv.shapeK
 unfold SaysFind KeyD.v keyV
 obtain ⟨F, hF⟩ : ∃ F, atK l b a = F := ⟨_, rfl⟩
 rw [hF]
 unfold atK at hF
 have Q0 := Lib.hid (al1 w (.cells #[.int .i64 0, .int .i64 0, .int .i64 0, .int .i64 0, .int .i64 0] 29))
 have b0 := bal1 w (.cells #[.int .i64 0, .int .i64 0, .int .i64 0, .int .i64 0, .int .i64 0] 29)
 have HV := Lib.hid (hv.on b0)
 have HB := Lib.hid b0
 have HF := Lib.hid hF
 clear hv b0 hF
 go_enter Tryz.func84, Tryz.ntmps84
 go_wp2
 generalize w.alloc (.cells #[.int .i64 0, .int .i64 0, .int .i64 0, .int .i64 0, .int .i64 0] 29) = W at *
 go_loopw [8] (fun i wr => ∃ k : Nat, k ≤ l.length ∧ i = .int .i64 k ∧ Hid ((l.drop k).find? (fun x => spotB x.a x.b b a) = l.find? (fun x => spotB x.a x.b b a)) ∧ W = wr) (fun i _ => l.length - (intOf i).toNat)
 case atStart => exact ⟨0, Nat.zero_le _, rfl, Lib.hid rfl, rfl⟩
 case round =>
  obtain ⟨k, hk, rfl, HI, rfl⟩ := hrel
  obtain ⟨z0, z1, z2, z3, z4, z5⟩ := box5 Q0.out
  by_cases hlt : k < l.length
  ·obtain ⟨bb, off, rfl, hbb, hc⟩ := HV.out.keys hlt
   have i1 : (k : Int) < (l.length : Int) := by omega
   have i2 : (0 : Int) ≤ (k : Int) := by omega
   obtain ⟨c0, c1, c2, c3, c4⟩ := hc k hlt
   clear hc
   have hsp : ∃ x y, ((l[k]).a == b) = x ∧ ((l[k]).b == a) = y ∧ spotB (l[k]).a (l[k]).b b a = (x && y) := ⟨_, _, rfl, rfl, rfl⟩
   obtain ⟨x, y, hx, hy, hxy⟩ := hsp
   have HX := Lib.hid hxy
   clear hxy
   cases hz : (x && y)
   ·rw [hz] at HX
    cases x <;> cases y <;> first | cases hz | skip
    all_goals
     go_wp2
     go_roundw
     case rel => exact ⟨k + 1, by omega, by go_num, Lib.hid (find_step (p := fun x => spotB x.a x.b b a) hlt HX.out HI.out), by first | trivial | rfl⟩
     case measure => simp [intOf]; omega
   ·cases x <;> cases y <;> first | cases hz | skip
    all_goals
      go_wp2
      have hF : F = some l[k] := by rw [← HF.out]; exact find_hit (p := fun x => spotB x.a x.b b a) hlt HX.out HI.out
      refine bodyPost_ret (v := .tuple #[(F.getD zK).v, .bool F.isSome]) (by simp [results, Tryz.results84, go_sem, keyV, KeyD.v, hF, *]) rfl ⟨rfl, ?_⟩
      exact b5' HB.out (Nat.le_refl _)
  ·go_wp2
   have hF : F = none := by
    rw [← HF.out, ← HI.out, List.drop_eq_nil_of_le (by omega)]
    rfl
   refine bodyPost_ret (v := .tuple #[(F.getD zK).v, .bool F.isSome]) (by simp [results, Tryz.results84, go_sem, keyV, KeyD.v, hF, zK, *]) rfl ⟨rfl, ?_⟩
   exact b5' HB.out (Nat.le_refl _)
theorem filt_yes {l m : List KeyD} {k : Nat} {p : KeyD → Bool} (h : k < l.length) (hp : p l[k] = true) {R : List KeyD} (hf : m ++ (l.drop k).filter p = R) : (m ++ [l[k]]) ++ (l.drop (k + 1)).filter p = R := by
 rw [drop_at h, List.filter_cons, hp] at hf
 simpa using hf
theorem filt_no {l m : List KeyD} {k : Nat} {p : KeyD → Bool} (h : k < l.length) (hp : p l[k] = false) {R : List KeyD} (hf : m ++ (l.drop k).filter p = R) : m ++ (l.drop (k + 1)).filter p = R := by
 rw [drop_at h, List.filter_cons, hp] at hf
 simpa using hf
/-- What a loop that appends keys to a row of its own holds on to. -/
def Grow (w wr : World) (o : Value) (m : List KeyD) : Prop := RowK wr w.heap.size o m ∧ Below w.heap.size w wr
set_option maxHeartbeats 1000000 in
theorem specDrop_any (v : Value) (l : List KeyD) (w : World) (hv : Reads w w.heap.size v (keysD l)) (hn : l.length ≤ 2097152) : Calls Tryz.prog 42 #[v] w (NewK w (dropK l)) := by
 obtain ⟨A, c, rfl, _, _⟩ := hv.shapeK
 obtain ⟨R, hR⟩ : ∃ R, dropK l = R := ⟨_, rfl⟩
 rw [hR]
 unfold dropK at hR
 have HR := Lib.hid hR
 have HV := Lib.hid hv
 clear hv hR
 go_enter Tryz.func42, Tryz.ntmps42
 go_wp2
 go_loopw [3, 4] (fun o i wr => ∃ (k : Nat) (m : List KeyD), k ≤ l.length ∧ i = .int .i64 k ∧ Hid (m.length ≤ k) ∧ Hid (m ++ (l.drop k).filter (fun x => x.c != 0) = R) ∧ Hid (Grow w wr o m)) (fun _ i _ => l.length - (intOf i).toNat)
 case atStart => exact ⟨0, [], Nat.zero_le _, rfl, Lib.hid (Nat.zero_le _), Lib.hid HR.out, Lib.hid ⟨RowK.lit w, bal1 _ _⟩⟩
 case round =>
  obtain ⟨k, m, hk, rfl, HM, HI, HG⟩ := hrel
  obtain ⟨hrow, hb⟩ := HG.out
  by_cases hlt : k < l.length
  ·obtain ⟨b, off, rfl, hbb, hc⟩ := (HV.out.on hb).keys hlt
   have i1 : (k : Int) < (l.length : Int) := by omega
   have i2 : (0 : Int) ≤ (k : Int) := by omega
   obtain ⟨c0, c1, c2, c3, c4⟩ := hc k hlt
   clear hc
   cases hs : ((l[k]).c != 0)
   ·have HS := Lib.hid hs
    clear hrow hb
    go_wp2
    go_roundw
    case rel => exact ⟨k + 1, m, by omega, by go_num, Lib.hid (Nat.le_succ_of_le HM.out), Lib.hid (filt_no (p := fun x => x.c != 0) hlt HS.out HI.out), HG⟩
    case measure => simp [intOf]; omega
   ·have HS := Lib.hid hs
    have ba := bal1 wr (.cells #[.int .i64 (l[k]).a, .int .i64 (l[k]).b, .int .i64 (l[k]).c, .int .i64 (l[k]).d, .int .i64 (l[k]).e] 29)
    have HRow := Lib.hid (hrow.on ba)
    have HAt := Lib.hid (At.key wr l[k] 29)
    have HB := Lib.hid (hb.trans (ba.mono hb.size))
    obtain ⟨Ao, co, rfl, _, _⟩ := hrow.shape
    have hzz : (wr.alloc (.cells #[.int .i64 (l[k]).a, .int .i64 (l[k]).b, .int .i64 (l[k]).c, .int .i64 (l[k]).d, .int .i64 (l[k]).e] 29)).heap.size = wr.heap.size + 1 := by simp
    have HZ := Lib.hid (show w.heap.size ≤ (wr.alloc (.cells #[.int .i64 (l[k]).a, .int .i64 (l[k]).b, .int .i64 (l[k]).c, .int .i64 (l[k]).d, .int .i64 (l[k]).e] 29)).heap.size by have := hb.size; omega)
    clear hrow hb ba hzz HG
    go_wp2_with (at_builtin; refine wpList_appK _ rfl (.tmp 18) (.tmp 23) rfl w.heap.size _ m rfl HRow.out (some ⟨wr.heap.size, 0, none⟩) 1 1 [l[k]] rfl rfl HAt.out (by have := HM.out; simp; omega) HZ.out ?_; intro v1 w1 o1 b1; clear HRow HAt)
    have HG := Lib.hid (show Grow w w1 v1 (m ++ [l[k]]) from ⟨o1, HB.out.trans b1⟩)
    clear o1 b1
    go_roundw
    case rel => exact ⟨k + 1, m ++ [l[k]], by omega, by go_num, Lib.hid (by have := HM.out; simp; omega), Lib.hid (filt_yes (p := fun x => x.c != 0) hlt HS.out HI.out), HG⟩
    case measure => simp [intOf]; omega
  ·have e : m = R := by
    have := HI.out
    rw [List.drop_eq_nil_of_le (by omega)] at this
    simpa using this
   subst e
   obtain ⟨Ao, co, rfl, _, _⟩ := hrow.shape
   go_wp2
   go_ret
   exact ⟨_, rfl, HG.out.1, HG.out.2⟩
theorem run_makeKeys0 (m : Nat) (hm : m ≤ 2097152) (w : World) :
  (Instr.makeSlice 36 (.int .i64 0) (.int .i64 (m : Int))).run Tryz.prog w = .ok (.slice (some ⟨w.heap.size, 0, none⟩) 0 m) (w.alloc (.cells (madeCells #[.int .i64 0, .int .i64 0, .int .i64 0, .int .i64 0, .int .i64 0] (m * 5)) 29)) := run_makeKeys 0 m (Nat.zero_le _) hm w
set_option maxHeartbeats 1000000 in
theorem implDrop_any (v : Value) (l : List KeyD) (w : World) (hv : Reads w w.heap.size v (keysD l)) (hn : l.length ≤ 2097152) : Calls Tryz.prog 81 #[v] w (NewK w (dropK l)) := by
 obtain ⟨A, c, rfl, _, _⟩ := hv.shapeK
 obtain ⟨R, hR⟩ : ∃ R, dropK l = R := ⟨_, rfl⟩
 rw [hR]
 unfold dropK at hR
 have HR := Lib.hid hR
 have HV := Lib.hid hv
 have hmk := run_makeKeys0 l.length hn
 clear hv hR
 go_enter Tryz.func81, Tryz.ntmps81
 go_wp2
 clear hmk
 go_loopw [3, 5, 11] (fun o _ i wr => ∃ (k : Nat) (m : List KeyD), k ≤ l.length ∧ i = .int .i64 k ∧ Hid (m.length ≤ k) ∧ Hid (m ++ (l.drop k).filter (fun x => x.c != 0) = R) ∧ Hid (Grow w wr o m)) (fun _ _ i _ => l.length - (intOf i).toNat)
 case atStart => exact ⟨0, [], Nat.zero_le _, rfl, Lib.hid (Nat.zero_le _), Lib.hid HR.out, Lib.hid ⟨RowK.made w l.length hn, bal1 _ _⟩⟩
 case round =>
  obtain ⟨k, m, hk, rfl, HM, HI, HG⟩ := hrel
  obtain ⟨hrow, hb⟩ := HG.out
  by_cases hlt : k < l.length
  ·obtain ⟨b, off, rfl, hbb, hc⟩ := (HV.out.on hb).keys hlt
   have i1 : (k : Int) < (l.length : Int) := by omega
   have i2 : (0 : Int) ≤ (k : Int) := by omega
   obtain ⟨c0, c1, c2, c3, c4⟩ := hc k hlt
   clear hc
   have ba := bal1 wr (.cells #[.int .i64 (l[k]).a, .int .i64 (l[k]).b, .int .i64 (l[k]).c, .int .i64 (l[k]).d, .int .i64 (l[k]).e] 29)
   obtain ⟨Ao, co, rfl, _, _⟩ := hrow.shape
   have HG1 := Lib.hid (show Grow w (wr.alloc (.cells #[.int .i64 (l[k]).a, .int .i64 (l[k]).b, .int .i64 (l[k]).c, .int .i64 (l[k]).d, .int .i64 (l[k]).e] 29)) (.slice Ao m.length co) m from ⟨hrow.on ba, hb.trans (ba.mono hb.size)⟩)
   cases hs : ((l[k]).c != 0)
   ·have HS := Lib.hid hs
    clear hrow hb ba
    go_wp2
    go_roundw
    case rel => exact ⟨k + 1, m, by omega, by go_num, Lib.hid (Nat.le_succ_of_le HM.out), Lib.hid (filt_no (p := fun x => x.c != 0) hlt HS.out HI.out), HG1⟩
    case measure => simp [intOf]; omega
   ·have HS := Lib.hid hs
    have hat := At.key (wr.alloc (.cells #[.int .i64 (l[k]).a, .int .i64 (l[k]).b, .int .i64 (l[k]).c, .int .i64 (l[k]).d, .int .i64 (l[k]).e] 29)) l[k] 29
    simp only [World.size_alloc] at hat
    have HAt := Lib.hid hat
    have bb := bal1 (wr.alloc (.cells #[.int .i64 (l[k]).a, .int .i64 (l[k]).b, .int .i64 (l[k]).c, .int .i64 (l[k]).d, .int .i64 (l[k]).e] 29)) (.cells #[.int .i64 (l[k]).a, .int .i64 (l[k]).b, .int .i64 (l[k]).c, .int .i64 (l[k]).d, .int .i64 (l[k]).e] 29)
    have HRow := Lib.hid (HG1.out.1.on bb)
    have HB := Lib.hid (HG1.out.2.trans (bb.mono HG1.out.2.size))
    have HZ := Lib.hid HB.out.size
    clear hrow hb ba bb hat HG HG1
    go_wp2_with (at_builtin; refine wpList_appK _ rfl (.tmp 18) (.tmp 20) rfl w.heap.size _ m rfl HRow.out (some ⟨wr.heap.size + 1, 0, none⟩) 1 1 [l[k]] rfl rfl HAt.out (by have := HM.out; simp; omega) HZ.out ?_; intro v1 w1 o1 b1; clear HRow HAt)
    have HG := Lib.hid (show Grow w w1 v1 (m ++ [l[k]]) from ⟨o1, HB.out.trans b1⟩)
    clear o1 b1
    go_roundw
    case rel => exact ⟨k + 1, m ++ [l[k]], by omega, by go_num, Lib.hid (by have := HM.out; simp; omega), Lib.hid (filt_yes (p := fun x => x.c != 0) hlt HS.out HI.out), HG⟩
    case measure => simp [intOf]; omega
  ·have e : m = R := by
    have := HI.out
    rw [List.drop_eq_nil_of_le (by omega)] at this
    simpa using this
   subst e
   obtain ⟨Ao, co, rfl, _, _⟩ := hrow.shape
   go_wp2
   go_ret
   exact ⟨_, rfl, HG.out.1, HG.out.2⟩
end Go.Proofs.YthopkhpiikiknaaGreat
namespace Go.Proofs.YthopkhpiikiknaaGreat
open Go.RowKit
set_option maxRecDepth 100000
set_option linter.unusedSimpArgs false
set_option linter.unusedVariables false

theorem spotS (x y : KeyD) (w : World) : Calls Tryz.prog 87 #[x.v, y.v] w (SaysBool w (spotK x y)) := specSameSpot_any _ _ _ _ _ _ _ _ _ _ w
theorem five_box {w : World} {p : Nat} {x : KeyD} {t : TypeId} (h : w.heap[p]? = some (.cells #[.int .i64 x.a, .int .i64 x.b, .int .i64 x.c, .int .i64 x.d, .int .i64 x.e] t (0, 0))) : w.cell? ⟨p, 0, none⟩ = some (.int .i64 x.a) ∧ w.cell? ⟨p, 0 + 1, none⟩ = some (.int .i64 x.b) ∧ w.cell? ⟨p, 0 + 2, none⟩ = some (.int .i64 x.c) ∧ w.cell? ⟨p, 0 + 3, none⟩ = some (.int .i64 x.d) ∧ w.cell? ⟨p, 0 + 4, none⟩ = some (.int .i64 x.e) := by
 obtain ⟨h0, h1, h2, h3, h4, _⟩ := box5 h
 exact ⟨h0, h1, h2, h3, h4⟩
theorem Grow.on {W a b : World} {o : Value} {m : List KeyD} (h : Grow W a o m) (hb : Below a.heap.size a b) : Grow W b o m := ⟨h.1.on hb, h.2.trans (hb.mono h.2.size)⟩
theorem Grow.drewN {W a : World} {o : Value} {m : List KeyD} (h : Grow W a o m) (n : Nat) : Grow W (a.drewN n) o m := h.on (bdrew (Below.refl _ _) n)
theorem go_cons {l : List KeyD} {k : Nat} {x : KeyD} {d : Bool} (h : k < l.length) : putGo x (l.drop k) d = (if !d && !lessK l[k] x then [x] else []) ++ ((if !spotK l[k] x then [l[k]] else []) ++ putGo x (l.drop (k + 1)) (d || !lessK l[k] x)) := by
 rw [drop_at h]; rfl
set_option maxHeartbeats 2000000 in
theorem specSetPut_any (v : Value) (l : List KeyD) (x : KeyD) (w : World) (hv : Reads w w.heap.size v (keysD l)) (hn : l.length ≤ 2097152) : Calls Tryz.prog 43 #[v, x.v] w (NewK w (putK l x)) := by
 obtain ⟨A, c, rfl, _, _⟩ := hv.shapeK
 obtain ⟨R, hR⟩ : ∃ R, putK l x = R := ⟨_, rfl⟩
 rw [hR]
 unfold putK at hR
 have HLs := Lib.hid lessS
 have HSp := Lib.hid spotS
 unfold KeyD.v keyV at HLs HSp
 unfold KeyD.v keyV
 have b0 := bal1 w (.cells #[.int .i64 x.a, .int .i64 x.b, .int .i64 x.c, .int .i64 x.d, .int .i64 x.e] 29)
 have Q0 := Lib.hid (al1 w (.cells #[.int .i64 x.a, .int .i64 x.b, .int .i64 x.c, .int .i64 x.d, .int .i64 x.e] 29))
 have HB0 := Lib.hid b0
 have HV := Lib.hid (hv.on b0)
 have HR := Lib.hid hR
 clear hv hR b0
 go_enter Tryz.func43, Tryz.ntmps43
 go_upto_region 1 with (fail)
 have HZ0 : Hid ((w.alloc (.cells #[.int .i64 x.a, .int .i64 x.b, .int .i64 x.c, .int .i64 x.d, .int .i64 x.e] 29)).heap.size = w.heap.size + 1) := Lib.hid (by simp)
 generalize w.alloc (.cells #[.int .i64 x.a, .int .i64 x.b, .int .i64 x.c, .int .i64 x.d, .int .i64 x.e] 29) = W at *
 have START := Lib.hid (show Grow W (W.alloc (.cells #[] 29)) (.slice (some ⟨W.heap.size, 0, none⟩) 0 0) [] from ⟨RowK.lit W, bal1 _ _⟩)
 go_wp2
 go_loopw [5, 6, 7] (fun o d i wr => ∃ (k : Nat) (m : List KeyD) (db : Bool), k ≤ l.length ∧ i = .int .i64 k ∧ d = .bool db ∧ Hid (m.length ≤ k + db.toNat) ∧ Hid (m ++ putGo x (l.drop k) db = R) ∧ Hid (Grow W wr o m)) (fun _ _ i _ => l.length - (intOf i).toNat)
 case atStart => exact ⟨0, [], false, Nat.zero_le _, rfl, rfl, Lib.hid (Nat.zero_le _), Lib.hid HR.out, START⟩
 case round =>
  clear START
  obtain ⟨k, m, db, hk, rfl, rfl, HM, HI, HG⟩ := hrel
  obtain ⟨Ao, co, rfl, _, _⟩ := HG.out.1.shape
  by_cases hlt : k < l.length
  ·have i1 : (k : Int) < (l.length : Int) := by omega
   have i2 : (0 : Int) ≤ (k : Int) := by omega
   have HI2 := Lib.hid (show m ++ ((if !db && !lessK l[k] x then [x] else []) ++ ((if !spotK l[k] x then [l[k]] else []) ++ putGo x (l.drop (k + 1)) (db || !lessK l[k] x))) = R by rw [← go_cons hlt]; exact HI.out)
   clear HI
   obtain ⟨b, off, rfl, hbW, hc⟩ := HV.out.keys hlt
   have FK : Hid (∀ wt, Below W.heap.size W wt → Five wt b (off + k * 5) l[k]) := Lib.hid (fun wt h => (hc k hlt).on hbW h)
   clear hc
   cases db
   ·cases hl : lessK l[k] x
    all_goals
     have HL := Lib.hid hl
     clear hl
     rw [HL.out] at HI2
    ·have F := Lib.hid (FK.out _ HG.out.2)
     have hbb := Nat.lt_of_lt_of_le hbW HG.out.2.size
     have P := Lib.hid (box_on Q0.out HG.out.2)
     obtain ⟨c0, c1, c2, c3, c4⟩ := F.out
     obtain ⟨y0, y1, y2, y3, y4, y5⟩ := box5 P.out
     go_wp2
     go_region_held3 (fun W => W.cell? ⟨b, off + k * 5, none⟩ = some (.int .i64 (l[k]).a) ∧ W.cell? ⟨b, off + k * 5 + 1, none⟩ = some (.int .i64 (l[k]).b) ∧ W.cell? ⟨b, off + k * 5 + 2, none⟩ = some (.int .i64 (l[k]).c) ∧ W.cell? ⟨b, off + k * 5 + 3, none⟩ = some (.int .i64 (l[k]).d) ∧ W.cell? ⟨b, off + k * 5 + 4, none⟩ = some (.int .i64 (l[k]).e) ∧ W.cell? ⟨w.heap.size, 0, none⟩ = some (.int .i64 (x).a) ∧ W.cell? ⟨w.heap.size, 0 + 1, none⟩ = some (.int .i64 (x).b) ∧ W.cell? ⟨w.heap.size, 0 + 2, none⟩ = some (.int .i64 (x).c) ∧ W.cell? ⟨w.heap.size, 0 + 3, none⟩ = some (.int .i64 (x).d) ∧ W.cell? ⟨w.heap.size, 0 + 4, none⟩ = some (.int .i64 (x).e))
      (first | with_reducible exact (F.out.on hbb B8).and (five_box (box_on P.out B8)) | with_reducible exact (F.out.on hbb (Below.drew1 _)).and (five_box (box_on P.out (Below.drew1 _))) | exact F.out.and (five_box P.out) | fail)
      (first
       |(go_at_call 86; refine (HLs.out _ _ _).mono ?_; rintro r w8 ⟨rfl, b8⟩; rw [HL.out]; have B8 := bstep (Below.drew1 _) b8)
       |fail)
     have HG1 := Lib.hid (HG.out.on B8)
     have P1 := box_on P.out B8
     clear B8 b8 c0 c1 c2 c3 c4 y0 y1 y2 y3 y4 y5 F P HG hbb
     obtain ⟨y0, y1, y2, y3, y4, y5⟩ := box5 P1
     clear P1
     have ba := bal1 w8 (.cells #[.int .i64 x.a, .int .i64 x.b, .int .i64 x.c, .int .i64 x.d, .int .i64 x.e] 29)
     have HRow := Lib.hid (HG1.out.on ba).1
     have HB := Lib.hid (HG1.out.on ba).2
     have HAt := Lib.hid (At.key w8 x 29)
     have HZ := Lib.hid HB.out.size
     clear ba HG1
     go_wp2_with (at_builtin; refine wpList_appK _ rfl (.tmp 26) (.tmp 28) rfl W.heap.size _ m rfl HRow.out (some ⟨w8.heap.size, 0, none⟩) 1 1 [x] rfl rfl HAt.out (by have := HM.out; simp at this ⊢; omega) HZ.out ?_; intro v1 wc o1 b1; clear HRow HAt y0 y1 y2 y3 y4 y5)
     have HG := Lib.hid (show Grow W wc v1 (m ++ [x]) from ⟨o1, HB.out.trans b1⟩)
     have HM2 := Lib.hid (show (m ++ [x]).length ≤ k + 1 by have := HM.out; simp at this ⊢; omega)
     clear o1 b1 HB HZ
     replace HI2 := Lib.hid (show (m ++ [x]) ++ ((if !spotK l[k] x then [l[k]] else []) ++ putGo x (l.drop (k + 1)) true) = R by have h := HI2.out; simpa using h)
     clear HM
     generalize m ++ [x] = m2 at *
     have HG2 := HG
     obtain ⟨Av, cv, rfl, _, _⟩ := HG.out.1.shape
     have F := Lib.hid (FK.out _ HG2.out.2)
     have hbb := Nat.lt_of_lt_of_le hbW HG2.out.2.size
     have P := Lib.hid (box_on Q0.out HG2.out.2)
     obtain ⟨c0, c1, c2, c3, c4⟩ := F.out
     obtain ⟨y0, y1, y2, y3, y4, y5⟩ := box5 P.out
     cases hs : spotK l[k] x
     all_goals
      have HS := Lib.hid hs
      clear hs
      rw [HS.out] at HI2
      go_region_held3 (fun W => W.cell? ⟨b, off + k * 5, none⟩ = some (.int .i64 (l[k]).a) ∧ W.cell? ⟨b, off + k * 5 + 1, none⟩ = some (.int .i64 (l[k]).b) ∧ W.cell? ⟨b, off + k * 5 + 2, none⟩ = some (.int .i64 (l[k]).c) ∧ W.cell? ⟨b, off + k * 5 + 3, none⟩ = some (.int .i64 (l[k]).d) ∧ W.cell? ⟨b, off + k * 5 + 4, none⟩ = some (.int .i64 (l[k]).e) ∧ W.cell? ⟨w.heap.size, 0, none⟩ = some (.int .i64 (x).a) ∧ W.cell? ⟨w.heap.size, 0 + 1, none⟩ = some (.int .i64 (x).b) ∧ W.cell? ⟨w.heap.size, 0 + 2, none⟩ = some (.int .i64 (x).c) ∧ W.cell? ⟨w.heap.size, 0 + 3, none⟩ = some (.int .i64 (x).d) ∧ W.cell? ⟨w.heap.size, 0 + 4, none⟩ = some (.int .i64 (x).e))
       (first | with_reducible exact (F.out.on hbb B8).and (five_box (box_on P.out B8)) | with_reducible exact (F.out.on hbb (Below.drew1 _)).and (five_box (box_on P.out (Below.drew1 _))) | exact F.out.and (five_box P.out) | fail)
       (first
        |(go_at_call 87; refine (HSp.out _ _ _).mono ?_; rintro r w8 ⟨rfl, b8⟩; rw [HS.out]; have B8 := bstep (Below.drew1 _) b8)
        |fail)
     ·have HG3 := Lib.hid (HG2.out.on B8)
      have F3 := F.out.on hbb B8
      clear B8 b8 c0 c1 c2 c3 c4 y0 y1 y2 y3 y4 y5 F P
      obtain ⟨c0, c1, c2, c3, c4⟩ := F3
      have ba := bal1 w8 (.cells #[.int .i64 (l[k]).a, .int .i64 (l[k]).b, .int .i64 (l[k]).c, .int .i64 (l[k]).d, .int .i64 (l[k]).e] 29)
      have HRow := Lib.hid (HG3.out.on ba).1
      have HB := Lib.hid (HG3.out.on ba).2
      have HAt := Lib.hid (At.key w8 l[k] 29)
      have HZ := Lib.hid HB.out.size
      clear ba HG HG2 HG3
      go_wp2_with (at_builtin; refine wpList_appK _ rfl (.tmp 37) (.tmp 42) rfl W.heap.size _ m2 rfl HRow.out (some ⟨w8.heap.size, 0, none⟩) 1 1 [l[k]] rfl rfl HAt.out (by have := HM2.out; simp; omega) HZ.out ?_; intro v1 w9 o1 b1; clear HRow HAt)
      have HG4 := Lib.hid (show Grow W w9 v1 (m2 ++ [l[k]]) from ⟨o1, HB.out.trans b1⟩)
      clear o1 b1
      go_roundw
      case rel => exact ⟨k + 1, m2 ++ [l[k]], true, by omega, by go_num, rfl, Lib.hid (by have := HM2.out; simp at this ⊢; omega), Lib.hid (by have h := HI2.out; simpa using h), HG4⟩
      case measure => simp [intOf]; omega
     ·have HG3 := Lib.hid (HG2.out.on B8)
      clear B8 b8 c0 c1 c2 c3 c4 y0 y1 y2 y3 y4 y5 F P HG HG2
      go_wp2
      go_roundw
      case rel => exact ⟨k + 1, m2, true, by omega, by go_num, rfl, Lib.hid (by have := HM2.out; simp at this ⊢; omega), Lib.hid (by have h := HI2.out; simpa using h), HG3⟩
      case measure => simp [intOf]; omega
    ·have F := Lib.hid (FK.out _ HG.out.2)
     have hbb := Nat.lt_of_lt_of_le hbW HG.out.2.size
     have P := Lib.hid (box_on Q0.out HG.out.2)
     obtain ⟨c0, c1, c2, c3, c4⟩ := F.out
     obtain ⟨y0, y1, y2, y3, y4, y5⟩ := box5 P.out
     go_wp2
     go_region_held3 (fun W => W.cell? ⟨b, off + k * 5, none⟩ = some (.int .i64 (l[k]).a) ∧ W.cell? ⟨b, off + k * 5 + 1, none⟩ = some (.int .i64 (l[k]).b) ∧ W.cell? ⟨b, off + k * 5 + 2, none⟩ = some (.int .i64 (l[k]).c) ∧ W.cell? ⟨b, off + k * 5 + 3, none⟩ = some (.int .i64 (l[k]).d) ∧ W.cell? ⟨b, off + k * 5 + 4, none⟩ = some (.int .i64 (l[k]).e) ∧ W.cell? ⟨w.heap.size, 0, none⟩ = some (.int .i64 (x).a) ∧ W.cell? ⟨w.heap.size, 0 + 1, none⟩ = some (.int .i64 (x).b) ∧ W.cell? ⟨w.heap.size, 0 + 2, none⟩ = some (.int .i64 (x).c) ∧ W.cell? ⟨w.heap.size, 0 + 3, none⟩ = some (.int .i64 (x).d) ∧ W.cell? ⟨w.heap.size, 0 + 4, none⟩ = some (.int .i64 (x).e))
      (first | with_reducible exact (F.out.on hbb B8).and (five_box (box_on P.out B8)) | with_reducible exact (F.out.on hbb (Below.drew1 _)).and (five_box (box_on P.out (Below.drew1 _))) | exact F.out.and (five_box P.out) | fail)
      (first
       |(go_at_call 86; refine (HLs.out _ _ _).mono ?_; rintro r wc ⟨rfl, b8⟩; rw [HL.out]; have B8 := bstep (Below.drew1 _) b8)
       |fail)
     have HG2 := Lib.hid (HG.out.on B8)
     have HM2 := Lib.hid (show m.length ≤ k + 1 by have := HM.out; simp at this; omega)
     clear B8 b8 c0 c1 c2 c3 c4 y0 y1 y2 y3 y4 y5 F P hbb
     replace HI2 := Lib.hid (show m ++ ((if !spotK l[k] x then [l[k]] else []) ++ putGo x (l.drop (k + 1)) false) = R by have h := HI2.out; simpa using h)
     go_wp2
     have F := Lib.hid (FK.out _ HG2.out.2)
     have hbb := Nat.lt_of_lt_of_le hbW HG2.out.2.size
     have P := Lib.hid (box_on Q0.out HG2.out.2)
     obtain ⟨c0, c1, c2, c3, c4⟩ := F.out
     obtain ⟨y0, y1, y2, y3, y4, y5⟩ := box5 P.out
     cases hs : spotK l[k] x
     all_goals
      have HS := Lib.hid hs
      clear hs
      rw [HS.out] at HI2
      go_region_held3 (fun W => W.cell? ⟨b, off + k * 5, none⟩ = some (.int .i64 (l[k]).a) ∧ W.cell? ⟨b, off + k * 5 + 1, none⟩ = some (.int .i64 (l[k]).b) ∧ W.cell? ⟨b, off + k * 5 + 2, none⟩ = some (.int .i64 (l[k]).c) ∧ W.cell? ⟨b, off + k * 5 + 3, none⟩ = some (.int .i64 (l[k]).d) ∧ W.cell? ⟨b, off + k * 5 + 4, none⟩ = some (.int .i64 (l[k]).e) ∧ W.cell? ⟨w.heap.size, 0, none⟩ = some (.int .i64 (x).a) ∧ W.cell? ⟨w.heap.size, 0 + 1, none⟩ = some (.int .i64 (x).b) ∧ W.cell? ⟨w.heap.size, 0 + 2, none⟩ = some (.int .i64 (x).c) ∧ W.cell? ⟨w.heap.size, 0 + 3, none⟩ = some (.int .i64 (x).d) ∧ W.cell? ⟨w.heap.size, 0 + 4, none⟩ = some (.int .i64 (x).e))
       (first | with_reducible exact (F.out.on hbb B8).and (five_box (box_on P.out B8)) | with_reducible exact (F.out.on hbb (Below.drew1 _)).and (five_box (box_on P.out (Below.drew1 _))) | exact F.out.and (five_box P.out) | fail)
       (first
        |(go_at_call 87; refine (HSp.out _ _ _).mono ?_; rintro r w8 ⟨rfl, b8⟩; rw [HS.out]; have B8 := bstep (Below.drew1 _) b8)
        |fail)
     ·have HG3 := Lib.hid (HG2.out.on B8)
      have F3 := F.out.on hbb B8
      clear B8 b8 c0 c1 c2 c3 c4 y0 y1 y2 y3 y4 y5 F P
      obtain ⟨c0, c1, c2, c3, c4⟩ := F3
      have ba := bal1 w8 (.cells #[.int .i64 (l[k]).a, .int .i64 (l[k]).b, .int .i64 (l[k]).c, .int .i64 (l[k]).d, .int .i64 (l[k]).e] 29)
      have HRow := Lib.hid (HG3.out.on ba).1
      have HB := Lib.hid (HG3.out.on ba).2
      have HAt := Lib.hid (At.key w8 l[k] 29)
      have HZ := Lib.hid HB.out.size
      clear ba HG HG2 HG3
      go_wp2_with (at_builtin; refine wpList_appK _ rfl (.tmp 37) (.tmp 42) rfl W.heap.size _ m rfl HRow.out (some ⟨w8.heap.size, 0, none⟩) 1 1 [l[k]] rfl rfl HAt.out (by have := HM2.out; simp; omega) HZ.out ?_; intro v1 w9 o1 b1; clear HRow HAt)
      have HG4 := Lib.hid (show Grow W w9 v1 (m ++ [l[k]]) from ⟨o1, HB.out.trans b1⟩)
      clear o1 b1
      go_roundw
      case rel => exact ⟨k + 1, m ++ [l[k]], false, by omega, by go_num, rfl, Lib.hid (by have := HM.out; simp at this ⊢; omega), Lib.hid (by have h := HI2.out; simpa using h), HG4⟩
      case measure => simp [intOf]; omega
     ·have HG3 := Lib.hid (HG2.out.on B8)
      clear B8 b8 c0 c1 c2 c3 c4 y0 y1 y2 y3 y4 y5 F P HG HG2
      go_wp2
      go_roundw
      case rel => exact ⟨k + 1, m, false, by omega, by go_num, rfl, Lib.hid (by have := HM.out; simp at this ⊢; omega), Lib.hid (by have h := HI2.out; simpa using h), HG3⟩
      case measure => simp [intOf]; omega
   ·have HGq : Hid (∀ n, Grow W (wr.drewN n) (.slice Ao m.length co) m) := Lib.hid (fun n => HG.out.drewN n)
    go_wp2
    go_quiet (fail)
    go_wp2
    generalize hwc : wr.drewN _ = wc
    have HG2 := Lib.hid (show Grow W wc (.slice Ao m.length co) m by rw [← hwc]; exact HGq.out _)
    have HM2 := Lib.hid (show m.length ≤ k + 1 by have := HM.out; simp at this; omega)
    clear hwc HGq
    replace HI2 := Lib.hid (show m ++ ((if !spotK l[k] x then [l[k]] else []) ++ putGo x (l.drop (k + 1)) true) = R by have h := HI2.out; simpa using h)
    have F := Lib.hid (FK.out _ HG2.out.2)
    have hbb := Nat.lt_of_lt_of_le hbW HG2.out.2.size
    have P := Lib.hid (box_on Q0.out HG2.out.2)
    obtain ⟨c0, c1, c2, c3, c4⟩ := F.out
    obtain ⟨y0, y1, y2, y3, y4, y5⟩ := box5 P.out
    cases hs : spotK l[k] x
    all_goals
     have HS := Lib.hid hs
     clear hs
     rw [HS.out] at HI2
     go_region_held3 (fun W => W.cell? ⟨b, off + k * 5, none⟩ = some (.int .i64 (l[k]).a) ∧ W.cell? ⟨b, off + k * 5 + 1, none⟩ = some (.int .i64 (l[k]).b) ∧ W.cell? ⟨b, off + k * 5 + 2, none⟩ = some (.int .i64 (l[k]).c) ∧ W.cell? ⟨b, off + k * 5 + 3, none⟩ = some (.int .i64 (l[k]).d) ∧ W.cell? ⟨b, off + k * 5 + 4, none⟩ = some (.int .i64 (l[k]).e) ∧ W.cell? ⟨w.heap.size, 0, none⟩ = some (.int .i64 (x).a) ∧ W.cell? ⟨w.heap.size, 0 + 1, none⟩ = some (.int .i64 (x).b) ∧ W.cell? ⟨w.heap.size, 0 + 2, none⟩ = some (.int .i64 (x).c) ∧ W.cell? ⟨w.heap.size, 0 + 3, none⟩ = some (.int .i64 (x).d) ∧ W.cell? ⟨w.heap.size, 0 + 4, none⟩ = some (.int .i64 (x).e))
      (first | with_reducible exact (F.out.on hbb B8).and (five_box (box_on P.out B8)) | with_reducible exact (F.out.on hbb (Below.drew1 _)).and (five_box (box_on P.out (Below.drew1 _))) | exact F.out.and (five_box P.out) | fail)
      (first
       |(go_at_call 87; refine (HSp.out _ _ _).mono ?_; rintro r w8 ⟨rfl, b8⟩; rw [HS.out]; have B8 := bstep (Below.drew1 _) b8)
       |fail)
    ·have HG3 := Lib.hid (HG2.out.on B8)
     have F3 := F.out.on hbb B8
     clear B8 b8 c0 c1 c2 c3 c4 y0 y1 y2 y3 y4 y5 F P
     obtain ⟨c0, c1, c2, c3, c4⟩ := F3
     have ba := bal1 w8 (.cells #[.int .i64 (l[k]).a, .int .i64 (l[k]).b, .int .i64 (l[k]).c, .int .i64 (l[k]).d, .int .i64 (l[k]).e] 29)
     have HRow := Lib.hid (HG3.out.on ba).1
     have HB := Lib.hid (HG3.out.on ba).2
     have HAt := Lib.hid (At.key w8 l[k] 29)
     have HZ := Lib.hid HB.out.size
     clear ba HG HG2 HG3
     go_wp2_with (at_builtin; refine wpList_appK _ rfl (.tmp 37) (.tmp 42) rfl W.heap.size _ m rfl HRow.out (some ⟨w8.heap.size, 0, none⟩) 1 1 [l[k]] rfl rfl HAt.out (by have := HM2.out; simp; omega) HZ.out ?_; intro v1 w9 o1 b1; clear HRow HAt)
     have HG4 := Lib.hid (show Grow W w9 v1 (m ++ [l[k]]) from ⟨o1, HB.out.trans b1⟩)
     clear o1 b1
     go_roundw
     case rel => exact ⟨k + 1, m ++ [l[k]], true, by omega, by go_num, rfl, Lib.hid (by have := HM2.out; simp at this ⊢; omega), Lib.hid (by have h := HI2.out; simpa using h), HG4⟩
     case measure => simp [intOf]; omega
    ·have HG3 := Lib.hid (HG2.out.on B8)
     clear B8 b8 c0 c1 c2 c3 c4 y0 y1 y2 y3 y4 y5 F P HG HG2
     go_wp2
     go_roundw
     case rel => exact ⟨k + 1, m, true, by omega, by go_num, rfl, Lib.hid (by have := HM2.out; simp at this ⊢; omega), Lib.hid (by have h := HI2.out; simpa using h), HG3⟩
     case measure => simp [intOf]; omega
  ·have hI := HI.out
   rw [List.drop_eq_nil_of_le (by omega)] at hI
   cases db
   ·have hI2 : m ++ [x] = R := hI
    subst hI2
    obtain ⟨y0, y1, y2, y3, y4, y5⟩ := box5 (box_on Q0.out HG.out.2)
    have ba := bal1 wr (.cells #[.int .i64 x.a, .int .i64 x.b, .int .i64 x.c, .int .i64 x.d, .int .i64 x.e] 29)
    have HRow := Lib.hid (HG.out.on ba).1
    have HB := Lib.hid (HG.out.on ba).2
    have HAt := Lib.hid (At.key wr x 29)
    have HZ := Lib.hid HB.out.size
    clear ba hI HI HG
    go_wp2_with (at_builtin; refine wpList_appK _ rfl (.tmp 46) (.tmp 48) rfl W.heap.size _ m rfl HRow.out (some ⟨wr.heap.size, 0, none⟩) 1 1 [x] rfl rfl HAt.out (by have := HM.out; simp at this ⊢; omega) HZ.out ?_; intro v1 wc o1 b1; clear HRow HAt y0 y1 y2 y3 y4 y5)
    go_ret
    exact ⟨_, rfl, o1.mono (by have := HZ0.out; omega), bstep HB0.out (HB.out.trans b1)⟩
   ·have hI2 : m = R := by simpa [putGo] using hI
    subst hI2
    go_wp2
    go_ret
    exact ⟨_, rfl, HG.out.1.mono (by have := HZ0.out; omega), bstep HB0.out HG.out.2⟩
end Go.Proofs.YthopkhpiikiknaaGreat
namespace Go.Proofs.YthopkhpiikiknaaGreat
open Go.RowKit
set_option maxRecDepth 100000
set_option linter.unusedSimpArgs false
set_option linter.unusedVariables false

theorem merge_step {a b : List KeyD} {k : Nat} (h : k < b.length) {R : List KeyD} (hf : mergeK a (b.drop k) = R) : mergeK (putK a b[k]) (b.drop (k + 1)) = R := by
 rw [drop_at h] at hf
 exact hf
theorem Grow.reads {W wr : World} {o : Value} {m : List KeyD} (h : Grow W wr o m) : Reads wr wr.heap.size o (keysD m) := h.1.owns.reads
theorem NewK.grow {w wr w' : World} {o : Value} {m : List KeyD} (hr : RowK w' wr.heap.size o m) (hb : Below wr.heap.size wr w') (h : Below w.heap.size w wr) : Grow w w' o m := ⟨hr.mono h.size, bstep h hb⟩
set_option maxHeartbeats 1000000 in
theorem specMergeSets_any (v u : Value) (a b : List KeyD) (w : World) (hv : Reads w w.heap.size v (keysD a)) (hu : Reads w w.heap.size u (keysD b)) (hn : a.length ≤ 1048576) (hm : b.length ≤ 1048576) : Calls Tryz.prog 88 #[v, u] w (NewK w (mergeK a b)) := by
 obtain ⟨A, c, rfl, _, _⟩ := hv.shapeK
 obtain ⟨A', c', rfl, _, _⟩ := hu.shapeK
 obtain ⟨R, hR⟩ : ∃ R, mergeK a b = R := ⟨_, rfl⟩
 rw [hR]
 have HT := Lib.hid specSetPut_any
 unfold KeyD.v keyV at HT
 have HR := Lib.hid hR
 have HU := Lib.hid hu
 have b0 := bal1 w (.cells #[] 29)
 have HAt := Lib.hid ((hv.on b0).atK)
 have HRow := Lib.hid (RowK.lit w)
 have HB := Lib.hid b0
 have HZ := Lib.hid b0.size
 clear hv hu hR b0
 go_enter Tryz.func88, Tryz.ntmps88
 go_wp2_with (at_builtin; refine wpList_appK _ rfl (.tmp 7) (.tmp 8) rfl w.heap.size _ [] rfl HRow.out A a.length c a rfl rfl HAt.out (by simp; omega) HZ.out ?_; intro v1 w1 o1 b1; clear HRow HAt)
 have START := Lib.hid (show Grow w w1 v1 a from ⟨o1, HB.out.trans b1⟩)
 clear o1 b1 HB HZ
 go_loopw [5, 6] (fun o i wr => ∃ (k : Nat) (m : List KeyD), k ≤ b.length ∧ i = .int .i64 k ∧ Hid (m.length ≤ a.length + k) ∧ Hid (mergeK m (b.drop k) = R) ∧ Hid (Grow w wr o m)) (fun _ i _ => b.length - (intOf i).toNat)
 case atStart => exact ⟨0, a, Nat.zero_le _, rfl, Lib.hid (Nat.le_refl _), HR, START⟩
 case round =>
  clear START
  obtain ⟨k, m, hk, rfl, HM, HI, HG⟩ := hrel
  obtain ⟨Ao, co, rfl, _, _⟩ := HG.out.1.shape
  by_cases hlt : k < b.length
  ·obtain ⟨bb, off, rfl, hbb, hc⟩ := (HU.out.on HG.out.2).keys hlt
   have i1 : (k : Int) < (b.length : Int) := by omega
   have i2 : (0 : Int) ≤ (k : Int) := by omega
   obtain ⟨c0, c1, c2, c3, c4⟩ := hc k hlt
   clear hc
   go_wp2_with fail
   refine (HT.out _ m b[k] _ HG.out.reads (by have := HM.out; omega)).mono ?_
   rintro r w2 ⟨v2, rfl, o2, b2⟩
   have HG2 := Lib.hid (NewK.grow o2 b2 HG.out.2)
   have HM2 := Lib.hid (show (putK m b[k]).length ≤ a.length + (k + 1) by have := putK_len m b[k]; have := HM.out; omega)
   obtain ⟨Ap, cp, rfl, _, _⟩ := o2.shape
   clear o2 b2 c0 c1 c2 c3 c4 HG
   go_wp2
   go_roundw
   case rel => exact ⟨k + 1, putK m b[k], by omega, by go_num, HM2, Lib.hid (merge_step hlt HI.out), HG2⟩
   case measure => simp [intOf]; omega
  ·have e : m = R := by
    have := HI.out
    rw [List.drop_eq_nil_of_le (by omega)] at this
    exact this
   subst e
   go_wp2
   go_ret
   exact ⟨_, rfl, HG.out.1, HG.out.2⟩
end Go.Proofs.YthopkhpiikiknaaGreat
namespace Go.Proofs.YthopkhpiikiknaaGreat
open Go.RowKit
set_option maxRecDepth 100000
set_option linter.unusedSimpArgs false
set_option linter.unusedVariables false

set_option maxHeartbeats 2000000 in
theorem specNodeAt_any (v : Value) (ns : List (List KeyD)) (p q : Int) (w : World) (hv : Reads w w.heap.size v (setsD ns)) (hs : SmallN ns) : Calls Tryz.prog 60 #[.agg #[v], .int .i64 p, .int .i64 q] w (SaysFind w (nodeAtK ns p q)) := by
 obtain ⟨A, c, rfl, _, _⟩ := hv.lenN
 have B0 := bal2 w (.cells #[.slice A ns.length c] 62) (.cells #[.int .i64 0, .int .i64 0, .int .i64 0, .int .i64 0, .int .i64 0] 29)
 obtain ⟨q0, q1⟩ := al2 w (.cells #[.slice A ns.length c] 62) (.cells #[.int .i64 0, .int .i64 0, .int .i64 0, .int .i64 0, .int .i64 0] 29)
 have HB := Lib.hid B0
 have Q0 := Lib.hid q0
 have Q1 := Lib.hid q1
 have HV := Lib.hid (hv.on B0)
 have HS := Lib.hid hs
 have HZ : Hid (((w.alloc (.cells #[.slice A ns.length c] 62)).alloc (.cells #[.int .i64 0, .int .i64 0, .int .i64 0, .int .i64 0, .int .i64 0] 29)).heap.size = w.heap.size + 2) := Lib.hid (by simp)
 have hn := hs.1
 have HC := Lib.hid specSetAt_any
 unfold SaysFind KeyD.v keyV at HC
 unfold SaysFind KeyD.v keyV
 obtain ⟨F, hF⟩ : ∃ F, nodeAtK ns p q = F := ⟨_, rfl⟩
 rw [hF]
 have HF := Lib.hid (show atRev (ns.take ns.length).reverse p q = F by rw [List.take_length]; exact hF)
 clear hv hs B0 q0 q1 hF
 go_enter Tryz.func60, Tryz.ntmps60
 go_wp2
 generalize (w.alloc (.cells #[.slice A ns.length c] 62)).alloc (.cells #[.int .i64 0, .int .i64 0, .int .i64 0, .int .i64 0, .int .i64 0] 29) = W at *
 go_loopw [8] (fun i wr => ∃ r : Nat, r ≤ ns.length ∧ i = .int .i64 ((r : Int) - 1) ∧ Hid (atRev (ns.take r).reverse p q = F) ∧ Hid (Below W.heap.size W wr)) (fun i _ => (intOf i + 1).toNat)
 case atStart => exact ⟨ns.length, Nat.le_refl _, rfl, HF, Lib.hid (Below.refl _ _)⟩
 case round =>
  clear HF
  obtain ⟨r, hr, rfl, HI, HW⟩ := hrel
  have hzW := HZ.out
  have hzr := HW.out.size
  rcases Nat.eq_zero_or_pos r with rfl | hpos
  ·have t0 : decide ((0 : Int) ≤ ((0 : Nat) : Int) - 1) = false := by decide
   obtain ⟨z0, z1, z2, z3, z4, z5⟩ := box5 (box_on Q1.out HW.out)
   have hF : F = none := by rw [← HI.out]; rfl
   clear HI
   go_wp2
   refine bodyPost_ret (v := .tuple #[(F.getD zK).v, .bool F.isSome]) (by simp [results, Tryz.results60, go_sem, keyV, KeyD.v, hF, zK, *]) rfl ⟨rfl, ?_⟩
   exact b5' (bstep HB.out HW.out) (by omega)
  ·obtain ⟨k, rfl⟩ : ∃ k, r = k + 1 := ⟨r - 1, by omega⟩
   have hlt : k < ns.length := by omega
   have e1 : ((k + 1 : Nat) : Int) - 1 = (k : Int) := by omega
   rw [e1]
   have HI2 := HI.out
   rw [atRev_step hlt] at HI2
   obtain ⟨b, off, rfl, hbb, hc⟩ := (HV.out.on HW.out).set hlt
   obtain ⟨A1, d1, c1, _, _, r1⟩ := hc k hlt
   have hl := HS.out.at hlt
   have R1 := Lib.hid r1
   obtain ⟨x0, x1⟩ := box1N (box_on Q0.out HW.out)
   have i1 : (k : Int) < (ns.length : Int) := by omega
   have i2 : (0 : Int) ≤ (k : Int) := by omega
   obtain ⟨x, hx⟩ : ∃ x, (atK ns[k] p q).getD zK = x := ⟨_, rfl⟩
   obtain ⟨y, hy⟩ : ∃ y, (atK ns[k] p q).isSome = y := ⟨_, rfl⟩
   have HX := Lib.hid hx
   have HY := Lib.hid hy
   have HI3 : Hid (y = false → atRev (ns.take k).reverse p q = F) := Lib.hid (by
    intro h
    rw [h] at hy
    rw [Option.isSome_eq_false_iff, Option.isNone_iff_eq_none] at hy
    rw [hy] at HI2
    exact HI2)
   have HI4 : Hid (y = true → F = if x.c = 0 then none else some x) := Lib.hid (by
    intro h
    rw [h] at hy
    obtain ⟨x', hx'⟩ := Option.isSome_iff_exists.1 hy
    rw [hx'] at HI2 hx
    simp only [Option.getD_some] at hx
    subst hx
    exact HI2.symm)
   clear hc r1 HI2 HI hx hy e1 hpos
   go_wp2_with fail
   refine (HC.out _ ns[k] p q _ R1.out (by omega)).mono ?_
   rintro r w1 ⟨rfl, b1⟩
   rw [HX.out, HY.out]
   have B1 := Lib.hid (HW.out.trans (b1.mono hzr))
   have BA := Lib.hid (B1.out.trans ((bal1 w1 (.cells #[.int .i64 x.a, .int .i64 x.b, .int .i64 x.c, .int .i64 x.d, .int .i64 x.e] 29)).mono B1.out.size))
   have P3 := Lib.hid (al1 w1 (.cells #[.int .i64 x.a, .int .i64 x.b, .int .i64 x.c, .int .i64 x.d, .int .i64 x.e] 29))
   have hz1 := B1.out.size
   clear b1 x0 x1 c1
   cases y
   ·have HI5 := Lib.hid (HI3.out rfl)
    clear HI3 HI4
    go_wp2
    go_roundw
    case rel => exact ⟨k, by omega, by go_num, HI5, BA⟩
    case measure => simp [intOf]
   ·have hF := HI4.out rfl
    clear HI3 HI4
    by_cases hx0 : x.c = 0
    ·have z : (x.c == 0) = true := by simp [hx0]
     rw [if_pos hx0] at hF
     obtain ⟨z0, z1, z2, z3, z4, z5⟩ := box5 (box_on Q1.out BA.out)
     have hne : ¬ w1.heap.size = w.heap.size + 1 := by omega
     clear hx0
     go_wp2
     refine bodyPost_ret (v := .tuple #[(F.getD zK).v, .bool F.isSome]) (by simp [results, Tryz.results60, go_sem, keyV, KeyD.v, hF, zK, *]) rfl ⟨rfl, ?_⟩
     exact b5' (bstep HB.out BA.out) (by omega)
    ·have z : (x.c == 0) = false := by simp [hx0]
     rw [if_neg hx0] at hF
     obtain ⟨z0, z1, z2, z3, z4, z5⟩ := box5 (box_on Q1.out BA.out)
     have hne : ¬ w1.heap.size = w.heap.size + 1 := by omega
     clear hx0
     go_wp2
     refine bodyPost_ret (v := .tuple #[(F.getD zK).v, .bool F.isSome]) (by simp [results, Tryz.results60, go_sem, keyV, KeyD.v, hF, *]) rfl ⟨rfl, ?_⟩
     exact b5' (bstep HB.out BA.out) (by omega)
theorem fold_take {ns : List (List KeyD)} {k : Nat} (h : k < ns.length) : (ns.take (k + 1)).foldl mergeK [] = mergeK ((ns.take k).foldl mergeK []) ns[k] := by
 rw [List.take_succ_eq_append_getElem h, List.foldl_append]
 rfl
theorem fold_take_len (ns : List (List KeyD)) (k : Nat) : ((ns.take k).foldl mergeK []).length ≤ sumN ns := by
 have h1 := fold_len (ns.take k) []
 have h2 := sumN_take_le ns k
 simp only [List.length_nil] at h1
 omega
set_option maxHeartbeats 1000000 in
theorem specNodeKeys_any (v : Value) (ns : List (List KeyD)) (w : World) (hv : Reads w w.heap.size v (setsD ns)) (h1 : ns.length ≤ 1048576) (h2 : sumN ns ≤ 1048576) : Calls Tryz.prog 44 #[.agg #[v]] w (NewK w (nodeKeysK ns)) := by
 obtain ⟨A, c, rfl, _, _⟩ := hv.lenN
 have B0 := bal1 w (.cells #[.slice A ns.length c] 62)
 have HB := Lib.hid B0
 have Q0 := Lib.hid (al1 w (.cells #[.slice A ns.length c] 62))
 have HV := Lib.hid (hv.on B0)
 have hnk : nodeKeysK ns = dropK ((ns.take ns.length).foldl mergeK []) := by rw [List.take_length]; rfl
 rw [hnk]
 clear hv B0 hnk
 go_enter Tryz.func44, Tryz.ntmps44
 go_upto_region 1 with (fail)
 generalize w.alloc (.cells #[.slice A ns.length c] 62) = W at *
 have START := Lib.hid (show Grow W (W.alloc (.cells #[] 29)) (.slice (some ⟨W.heap.size, 0, none⟩) 0 0) [] from ⟨RowK.lit W, bal1 _ _⟩)
 go_wp2
 go_loopw [3, 4] (fun o i wr => ∃ (k : Nat) (m : List KeyD), k ≤ ns.length ∧ i = .int .i64 k ∧ Hid (m = (ns.take k).foldl mergeK []) ∧ Hid (Grow W wr o m)) (fun _ i _ => ns.length - (intOf i).toNat)
 case atStart => exact ⟨0, [], Nat.zero_le _, rfl, Lib.hid rfl, START⟩
 case round =>
  clear START
  obtain ⟨k, m, hk, rfl, HM, HG⟩ := hrel
  obtain ⟨Ao, co, rfl, _, _⟩ := HG.out.1.shape
  obtain ⟨x0, x1⟩ := box1N (box_on Q0.out HG.out.2)
  have hm : m.length ≤ 1048576 := by rw [HM.out]; exact Nat.le_trans (fold_take_len ns k) h2
  by_cases hlt : k < ns.length
  ·obtain ⟨b, off, rfl, hbb, hc⟩ := (HV.out.on HG.out.2).set hlt
   obtain ⟨A1, d1, c1, _, _, r1⟩ := hc k hlt
   have hl := Nat.le_trans (sumN_mem (List.getElem_mem hlt)) h2
   have R1 := Lib.hid r1
   have i1 : (k : Int) < (ns.length : Int) := by omega
   have i2 : (0 : Int) ≤ (k : Int) := by omega
   clear hc r1
   go_wp2_with fail
   refine (specMergeSets_any _ _ m ns[k] _ HG.out.reads R1.out hm hl).mono ?_
   rintro r w1 ⟨v1, rfl, o1, b1⟩
   have HG1 := Lib.hid (NewK.grow o1 b1 HG.out.2)
   have HM1 := Lib.hid (show mergeK m ns[k] = (ns.take (k + 1)).foldl mergeK [] by rw [fold_take hlt, HM.out])
   clear o1 b1 x0 x1 c1
   go_wp2
   go_roundw
   case rel => exact ⟨k + 1, _, by omega, by go_num, HM1, HG1⟩
   case measure => simp [intOf]; omega
  ·have e : k = ns.length := by omega
   subst e
   go_wp2_with fail
   refine (specDrop_any _ m _ HG.out.reads (by omega)).mono ?_
   rintro r w1 ⟨v1, rfl, o1, b1⟩
   rw [HM.out] at o1
   have O1 := Lib.hid (o1.mono (Nat.le_trans HB.out.size HG.out.2.size))
   have B1 := Lib.hid (bstep (bstep HB.out HG.out.2) b1)
   clear o1 b1 x0 x1
   go_wp2
   go_ret
   exact ⟨_, rfl, O1.out, B1.out⟩
theorem Owns.wrap {w : World} {base : Nat} {v : Value} {l : List KeyD} (h : Owns w (fun b => base ≤ b) v (keysD l)) (hb : base ≤ w.heap.size) : Owns (w.alloc (.cells #[v] 36)) (fun b => base ≤ b) (.slice (some ⟨w.heap.size, 0, none⟩) 1 1) (setsD [l]) := by
 have h2 : Owns (w.alloc (.cells #[v] 36)) (fun b => base ≤ b ∧ b ≠ w.heap.size) v (keysD l) := (h.lt.keep (fun b _ hl => (bal1 w (.cells #[v] 36)).block b hl)).mono (fun b hb => ⟨hb.1, by omega⟩)
 exact OwnsL.row (S := fun b => base ≤ b) (cs := [keysD l]) (xs := [v]) hb (heap_alloc_new w _) (Nat.le_refl _) (by unfold maxLen; omega) rfl rfl rfl (.one h2)
theorem Owns.setFar {w : World} {S : Nat → Prop} {v u : Value} {c : Dat} {g j : Nat} (h : Owns w S v c) (hg : ¬ S g) : Owns (w.setCell ⟨g, j, none⟩ u) S v c := h.keep (fun b hb _ => Below.heap_setCell _ _ _ _ (fun e => hg (by have e' : b = g := e; rw [← e']; exact hb)))
theorem len0K (l : List KeyD) (h : l.length = 0) : nodeNewK l = [] := by simp [nodeNewK, h]
theorem lenpK (l : List KeyD) (h : ¬ l.length = 0) : nodeNewK l = [l] := by simp only [nodeNewK, h, if_false]
set_option maxHeartbeats 1000000 in
theorem specNodeNew_any (v : Value) (l : List KeyD) (w : World) (hv : Reads w w.heap.size v (keysD l)) (hn : l.length ≤ 1100000) : Calls Tryz.prog 46 #[v] w (NewN w (nodeNewK l)) := by
 obtain ⟨A, c, rfl, _, _⟩ := hv.shapeK
 have B0 := bal1 w (.cells #[.slice none 0 0] 62)
 have HB := Lib.hid B0
 have Q0 := Lib.hid (al1 w (.cells #[.slice none 0 0] 62))
 have HV := Lib.hid (hv.on B0)
 have HZ : Hid ((w.alloc (.cells #[.slice none 0 0] 62)).heap.size = w.heap.size + 1) := Lib.hid (by simp)
 clear hv B0
 by_cases h0 : l.length = 0
 ·rw [len0K l h0]
  have z0 : ((l.length : Int) == 0) = true := by simp [h0]
  clear h0
  go_enter Tryz.func46, Tryz.ntmps46
  go_upto_region 1 with (fail)
  generalize w.alloc (.cells #[.slice none 0 0] 62) = W at *
  obtain ⟨x0, x1⟩ := box1N Q0.out
  go_wp2
  refine bodyPost_ret (v := .agg #[.slice none 0 0]) (by simp [results, Tryz.results46, go_sem, *]) rfl ⟨_, rfl, .nil _ _ _, ?_⟩
  exact HB.out.setCell (p := ⟨w.heap.size, 0, none⟩) (Nat.le_refl _) _
 ·rw [lenpK l h0]
  have z0 : ((l.length : Int) == 0) = false := by simp; simpa using h0
  clear h0
  go_enter Tryz.func46, Tryz.ntmps46
  go_upto_region 1 with (fail)
  generalize w.alloc (.cells #[.slice none 0 0] 62) = W at *
  have HAt := Lib.hid (HV.out.on (bal1 W (.cells #[] 29))).atK
  have HRow := Lib.hid (RowK.lit W)
  have HB1 := Lib.hid (bal1 W (.cells #[] 29))
  go_wp2_with (at_builtin; refine wpList_appK _ rfl (.tmp 7) (.tmp 8) rfl W.heap.size _ [] rfl HRow.out A l.length c l rfl rfl HAt.out (by simp; omega) (by simp) ?_; intro v1 w1 o1 b1; rw [List.nil_append] at o1; obtain ⟨Av, cv, rfl, _, _⟩ := o1.shape; have hzs := Nat.le_trans HB1.out.size b1.size; have O1 := Lib.hid (Owns.wrap o1.owns (Nat.le_trans HB1.out.size b1.size)); have B1 := Lib.hid (bstep (bstep HB.out (HB1.out.trans b1)) (bal1 w1 (.cells #[.slice Av l.length cv] 36))); have Q1 := Lib.hid (box_on Q0.out (bstep (HB1.out.trans b1) (bal1 w1 (.cells #[.slice Av l.length cv] 36)))); clear o1 b1 HAt HRow; obtain ⟨x0, x1⟩ := box1N Q1.out)
  have hz := HZ.out
  refine bodyPost_ret (v := .agg #[.slice (some ⟨w1.heap.size, 0, none⟩) 1 1]) (by simp [results, Tryz.results46, go_sem, x0, x1]) rfl ⟨_, rfl, ?_, ?_⟩
  ·exact (O1.out.setFar (by omega)).mono (fun b hb => by omega)
  ·exact B1.out.setCell (p := ⟨w.heap.size, 0, none⟩) (Nat.le_refl _) _
set_option maxHeartbeats 1000000 in
theorem specNodePack_any (v : Value) (ns : List (List KeyD)) (w : World) (hv : Reads w w.heap.size v (setsD ns)) (h1 : ns.length ≤ 1048576) (h2 : sumN ns ≤ 1048576) : Calls Tryz.prog 68 #[.agg #[v]] w (NewN w (nodePackK ns)) := by
 obtain ⟨A, c, rfl, _, _⟩ := hv.lenN
 have B0 := bal2 w (.cells #[.slice A ns.length c] 62) (.cells #[.slice none 0 0] 62)
 obtain ⟨q0, q1⟩ := al2 w (.cells #[.slice A ns.length c] 62) (.cells #[.slice none 0 0] 62)
 have HB := Lib.hid B0
 have Q1 := Lib.hid q1
 have HV := Lib.hid (hv.on B0)
 have HZ : Hid (((w.alloc (.cells #[.slice A ns.length c] 62)).alloc (.cells #[.slice none 0 0] 62)).heap.size = w.heap.size + 2) := Lib.hid (by simp)
 have hkl := nodeKeys_len ns
 unfold nodePackK
 generalize hK : nodeKeysK ns = K at *
 have HK := Lib.hid hK
 clear hv B0 q0 q1 hK
 go_enter Tryz.func68, Tryz.ntmps68
 go_wp2_with fail
 refine (specNodeKeys_any _ ns _ HV.out h1 h2).mono ?_
 rintro r w1 ⟨v1, rfl, o1, b1⟩
 rw [HK.out] at o1
 generalize (w.alloc (.cells #[.slice A ns.length c] 62)).alloc (.cells #[.slice none 0 0] 62) = W at *
 obtain ⟨A1, c1, rfl, _, _⟩ := o1.shape
 go_wp2_with fail
 refine (specNodeNew_any _ K _ o1.owns.reads (by omega)).mono ?_
 rintro r w2 ⟨v2, rfl, o2, b2⟩
 obtain ⟨A2, c2, rfl, _, _⟩ := o2.reads.lenN
 have hz := HZ.out
 have hz1 := b1.size
 have O2 := Lib.hid (o2.mono (T := fun b => w.heap.size + 2 ≤ b) (fun b hb => by omega))
 have B2 := Lib.hid (bstep (bstep HB.out b1) b2)
 obtain ⟨x0, x1⟩ := box1N (box_on Q1.out (bstep b1 b2))
 clear o1 b1 o2 b2
 go_wp2
 generalize hN : (nodeNewK K).length = N at *
 refine bodyPost_ret (v := .agg #[.slice A2 N c2]) (by simp [results, Tryz.results68, go_sem, *]) rfl ⟨_, rfl, ?_, ?_⟩
 ·exact (O2.out.setFar (by omega)).mono (fun b hb => by omega)
 ·exact B2.out.setCell (p := ⟨w.heap.size + 1, 0, none⟩) (show w.heap.size ≤ w.heap.size + 1 by omega) _
end Go.Proofs.YthopkhpiikiknaaGreat
namespace Go.Proofs.YthopkhpiikiknaaGreat
open Go.RowKit
set_option maxRecDepth 100000
set_option linter.unusedSimpArgs false
set_option linter.unusedVariables false

theorem place_step {l : List KeyD} {k : Nat} {x : KeyD} (h : k < l.length) (hp : lessK l[k] x = true) (hf : placeK l x = k + placeK (l.drop k) x) : placeK l x = (k + 1) + placeK (l.drop (k + 1)) x := by
 rw [drop_at h] at hf
 unfold placeK at hf ⊢
 rw [List.findIdx_cons, hp] at hf
 simp only [Bool.not_true, cond_false] at hf
 omega
theorem place_hit {l : List KeyD} {k : Nat} {x : KeyD} (h : k < l.length) (hp : lessK l[k] x = false) (hf : placeK l x = k + placeK (l.drop k) x) : placeK l x = k := by
 rw [drop_at h] at hf
 unfold placeK at hf ⊢
 rw [List.findIdx_cons, hp] at hf
 simpa using hf
set_option maxHeartbeats 2000000 in
theorem placeOf_any (v : Value) (l : List KeyD) (x : KeyD) (w : World) (hv : Reads w w.heap.size v (keysD l)) (hn : l.length ≤ 2097152) : Calls Tryz.prog 116 #[.agg #[v, lessV], x.v] w fun e w' => e = .returned (.int .i64 (placeK l x : Nat)) ∧ Below w.heap.size w w' := by
 obtain ⟨A, c, rfl, _, _⟩ := hv.shapeK
 have HT := Lib.hid lessI
 unfold KeyD.v keyV at HT
 unfold KeyD.v keyV lessV
 obtain ⟨N, hN⟩ : ∃ N, placeK l x = N := ⟨_, rfl⟩
 rw [hN]
 obtain ⟨q0, q1⟩ := al2 w (.cells #[.slice A l.length c, .func (.func 14) #[] #[]] 119) (.cells #[.int .i64 x.a, .int .i64 x.b, .int .i64 x.c, .int .i64 x.d, .int .i64 x.e] 29)
 have b0 := bal2 w (.cells #[.slice A l.length c, .func (.func 14) #[] #[]] 119) (.cells #[.int .i64 x.a, .int .i64 x.b, .int .i64 x.c, .int .i64 x.d, .int .i64 x.e] 29)
 have Q0 := Lib.hid q0
 have Q1 := Lib.hid q1
 have HB := Lib.hid b0
 have HV := Lib.hid (hv.on b0)
 have HN := Lib.hid hN
 clear hv b0 q0 q1 hN
 go_enter Tryz.func116, Tryz.ntmps116
 go_wp2
 generalize (w.alloc (.cells #[.slice A l.length c, .func (.func 14) #[] #[]] 119)).alloc (.cells #[.int .i64 x.a, .int .i64 x.b, .int .i64 x.c, .int .i64 x.d, .int .i64 x.e] 29) = W at *
 go_loopw [5, 6, 10] (fun _ _ i wr => ∃ k : Nat, k ≤ l.length ∧ i = .int .i64 k ∧ Hid (placeK l x = k + placeK (l.drop k) x) ∧ Hid (Below W.heap.size W wr)) (fun _ _ i _ => l.length - (intOf i).toNat)
 case atStart => exact ⟨0, Nat.zero_le _, rfl, Lib.hid (by simp), Lib.hid (Below.refl _ _)⟩
 case round =>
  obtain ⟨k, hk, rfl, HI, HW⟩ := hrel
  have hzr := HW.out.size
  by_cases hlt : k < l.length
  ·obtain ⟨b, off, rfl, hbb, hc⟩ := (HV.out.on HW.out).keys hlt
   have i1 : (k : Int) < (l.length : Int) := by omega
   have i2 : (0 : Int) ≤ (k : Int) := by omega
   obtain ⟨c0, c1, c2, c3, c4⟩ := hc k hlt
   have ba := bal1 wr (.cells #[.int .i64 (l[k]).a, .int .i64 (l[k]).b, .int .i64 (l[k]).c, .int .i64 (l[k]).d, .int .i64 (l[k]).e] 29)
   have BA := Lib.hid (HW.out.trans (ba.mono hzr))
   obtain ⟨x0, x1, x2⟩ := box2 (box_on Q0.out BA.out)
   obtain ⟨y0, y1, y2, y3, y4, y5⟩ := box5 (box_on Q1.out BA.out)
   clear hc ba
   cases hs : lessK l[k] x
   ·have HS := Lib.hid hs
    clear hs
    go_wp2_with fail
    refine (HT.out l[k] x _).mono ?_
    rintro r w1 ⟨rfl, b1⟩
    rw [HS.out]
    have B1 := Lib.hid (BA.out.trans (b1.mono BA.out.size))
    clear c0 c1 c2 c3 c4 x0 x1 x2 y0 y1 y2 y3 y4 y5 b1
    go_wp2
    go_ret
    exact ⟨ret_intB (by rw [← HN.out, place_hit hlt HS.out HI.out]), bstep HB.out B1.out⟩
   ·have HS := Lib.hid hs
    clear hs
    go_wp2_with fail
    refine (HT.out l[k] x _).mono ?_
    rintro r w1 ⟨rfl, b1⟩
    rw [HS.out]
    have B1 := Lib.hid (BA.out.trans (b1.mono BA.out.size))
    clear c0 c1 c2 c3 c4 x0 x1 x2 y0 y1 y2 y3 y4 y5 b1
    go_wp2
    go_roundw
    case rel => exact ⟨k + 1, by omega, by go_num, Lib.hid (place_step hlt HS.out HI.out), B1⟩
    case measure => simp [intOf]; omega
  ·obtain ⟨x0, x1, x2⟩ := box2 (box_on Q0.out HW.out)
   have e : N = l.length := by
    rw [← HN.out, HI.out, List.drop_eq_nil_of_le (by omega)]
    simp [placeK]
    omega
   subst e
   go_wp2
   go_ret
   exact ⟨rfl, bstep HB.out HW.out⟩
theorem run_makeKeys1 (m : Nat) (hm : m ≤ 2000000) (w : World) :
  (Instr.makeSlice 36 (.int .i64 0) (.int .i64 ((m : Int) + 1))).run Tryz.prog w = .ok (.slice (some ⟨w.heap.size, 0, none⟩) 0 (m + 1)) (w.alloc (.cells (madeCells #[.int .i64 0, .int .i64 0, .int .i64 0, .int .i64 0, .int .i64 0] ((m + 1) * 5)) 29)) := run_makeKeys 0 (m + 1) (Nat.zero_le _) (by omega) w
theorem At.take {w : World} {A : Option Addr} {l : List KeyD} (h : At w A (kvl l)) (N : Nat) : At w A (kvl (l.take N)) := by
 rcases h with h | ⟨b, off, rfl, hc⟩
 ·left
  have : l = [] := by
   have := congrArg List.length h
   rw [kvl_len] at this
   exact List.length_eq_zero_iff.1 (by simp at this; omega)
  subst this
  simp [kvl]
 ·right
  have he : kvl l = kvl (l.take N) ++ kvl (l.drop N) := by rw [← kvl_append, List.take_append_drop]
  refine ⟨b, off, rfl, fun i hi => ?_⟩
  have hlt : i < (kvl l).length := by rw [he, List.length_append]; omega
  rw [hc i hlt]
  simp only [he, List.getElem_append_left hi]
theorem Reads.tailK {w : World} {B b off n c : Nat} {e : TypeId} {l : List KeyD} (h : Reads w B (.slice (some ⟨b, off, none⟩) n c) (.row e 5 l.length (l.flatMap kC))) (N : Nat) (hN : N < l.length) : b < B ∧ ∀ k (hk : k < (l.drop N).length), Five w b (off + N * 5 + k * 5) (l.drop N)[k] := by
 obtain ⟨b', off', he, hb, hc⟩ := h.keys hN
 cases he
 refine ⟨hb, fun k hk => ?_⟩
 have h1 := hc (N + k) (by simp at hk; omega)
 rw [List.getElem_drop, Nat.add_assoc, ← Nat.add_mul]
 exact h1
theorem flip_filter (t : List KeyD) (x : KeyD) : t.filter (fun y => !spotK y x) = t.filter (fun y => !spotK x y) := by
 congr 1
 funext y
 rw [spot_comm]
set_option maxHeartbeats 4000000 in
theorem put_any (v : Value) (l : List KeyD) (x : KeyD) (w : World) (hv : Reads w w.heap.size v (keysD l)) (hn : l.length ≤ 2000000) : Calls Tryz.prog 105 #[.agg #[v, lessV], x.v] w fun e w' => ∃ v', e = .returned (.agg #[v', lessV]) ∧ RowK w' w.heap.size v' (putK l x) ∧ Below w.heap.size w w' := by
 obtain ⟨A, c, rfl, hcap, hmax⟩ := hv.shapeK
 have hmk := run_makeKeys1 l.length hn
 have hst := store_less
 have HP := Lib.hid (fun w => placeOf_any (.slice A l.length c) l x w)
 have HT := Lib.hid (same_any A l.length c x)
 unfold KeyD.v keyV lessV at HT HP
 unfold KeyD.v keyV lessV
 obtain ⟨R, hR⟩ : ∃ R, putK l x = R := ⟨_, rfl⟩
 rw [hR]
 rw [put_eq] at hR
 have hple := place_le l x
 obtain ⟨N, hN⟩ : ∃ N, placeK l x = N := ⟨_, rfl⟩
 rw [hN] at hR hple HP
 obtain ⟨q0, q1, q2⟩ := al3 w (.cells #[.slice A l.length c, .func (.func 14) #[] #[]] 119) (.cells #[.int .i64 x.a, .int .i64 x.b, .int .i64 x.c, .int .i64 x.d, .int .i64 x.e] 29) (.cells #[.slice none 0 0, .nilFunc] 119)
 have b0 := bal3 w (.cells #[.slice A l.length c, .func (.func 14) #[] #[]] 119) (.cells #[.int .i64 x.a, .int .i64 x.b, .int .i64 x.c, .int .i64 x.d, .int .i64 x.e] 29) (.cells #[.slice none 0 0, .nilFunc] 119)
 have Q0 := Lib.hid q0
 have Q1 := Lib.hid q1
 have Q2 := Lib.hid q2
 have HB := Lib.hid b0
 have HV := Lib.hid (hv.on b0)
 have HR := Lib.hid hR
 have HZ : Hid ((((w.alloc (.cells #[.slice A l.length c, .func (.func 14) #[] #[]] 119)).alloc (.cells #[.int .i64 x.a, .int .i64 x.b, .int .i64 x.c, .int .i64 x.d, .int .i64 x.e] 29)).alloc (.cells #[.slice none 0 0, .nilFunc] 119)).heap.size = w.heap.size + 3) := Lib.hid (by simp)
 clear hv b0 q0 q1 q2 hR hN
 go_enter Tryz.func105, Tryz.ntmps105
 go_wp2_with fail
 refine (HP.out _ HV.out (by omega)).mono ?_
 rintro r w1 ⟨rfl, b1⟩
 have P0 := Lib.hid (box_on Q0.out b1)
 have P1 := Lib.hid (box_on Q1.out b1)
 have P2 := Lib.hid (box_on Q2.out b1)
 have B1 := Lib.hid (bstep HB.out b1)
 have V1 := Lib.hid (HV.out.on b1)
 have hz1 := b1.size
 rw [HZ.out] at hz1
 clear b1 Q0 Q1 Q2 HB HV HZ HP
 obtain ⟨x0, x1, x2⟩ := box2 P0.out
 have i1 : (N : Int) ≤ (l.length : Int) := by omega
 have i2 : (0 : Int) ≤ (N : Int) := by omega
 have i3 : (N : Int) ≤ (c : Int) := by omega
 have i4 : IntKind.i64.wrap ((l.length : Int) + 1) = (l.length : Int) + 1 := by rw [IntKind.wrap_i64]; omega
 go_upto_region 3 with (fail)
 have hbm := bal1 w1 (.cells (madeCells #[.int .i64 0, .int .i64 0, .int .i64 0, .int .i64 0, .int .i64 0] ((l.length + 1) * 5)) 29)
 have P0' := Lib.hid (box_on P0.out hbm)
 have START := Lib.hid (show Grow w1 _ _ _ from ⟨RowK.made w1 (l.length + 1) (by omega), hbm⟩)
 clear hmk x0 x1 x2 hbm
 generalize w1.alloc (.cells (madeCells #[.int .i64 0, .int .i64 0, .int .i64 0, .int .i64 0, .int .i64 0] ((l.length + 1) * 5)) 29) = w2 at *
 obtain ⟨x0, x1, x2⟩ := box2 P0'.out
 have HAt := Lib.hid ((V1.out.on START.out.2).atK.take N)
 have HZ := Lib.hid START.out.2.size
 clear P0'
 go_upto_region 4 with (at_builtin; refine wpList_appK _ rfl (.tmp 17) (.tmp 21) rfl w1.heap.size _ [] rfl START.out.1 A N c (l.take N) rfl (by simp; omega) HAt.out (by simp; omega) HZ.out ?_; intro v3 w3 o3 b3)
 have HG3 := Lib.hid (show Grow w1 w3 v3 (l.take N) from ⟨o3, START.out.2.trans b3⟩)
 obtain ⟨A3, c3, rfl, _, _⟩ := o3.shape
 clear o3 b3 START HAt HZ x0 x1 x2
 have hl3 : (l.take N).length = N := by simp; omega
 obtain ⟨y0, y1, y2, y3, y4, y5⟩ := box5 (box_on P1.out HG3.out.2)
 have ba := bal1 w3 (.cells #[.int .i64 x.a, .int .i64 x.b, .int .i64 x.c, .int .i64 x.d, .int .i64 x.e] 29)
 have HRow := Lib.hid (HG3.out.on ba).1
 have HB := Lib.hid (HG3.out.on ba).2
 have HAt := Lib.hid (At.key w3 x 29)
 have HZ := Lib.hid HB.out.size
 clear ba HG3
 go_upto_region 5 with (at_builtin; refine wpList_appK _ rfl (.tmp 23) (.tmp 25) rfl w1.heap.size _ (l.take N) rfl HRow.out (some ⟨w3.heap.size, 0, none⟩) 1 1 [x] rfl rfl HAt.out (by simp; omega) HZ.out ?_; intro v4 w4 o4 b4; clear HRow HAt y0 y1 y2 y3 y4 y5)
 have HG4 := Lib.hid (show Grow w1 w4 v4 (l.take N ++ [x]) from ⟨o4, HB.out.trans b4⟩)
 obtain ⟨A4, c4, rfl, _, _⟩ := o4.shape
 clear o4 b4 HB HZ
 have hl4 : (l.take N ++ [x]).length = N + 1 := by simp; omega
 have HR4 : Hid ((l.take N ++ [x]) ++ (l.drop N).filter (fun y => !spotK x y) = R) := Lib.hid (by rw [← flip_filter, ← HR.out]; simp)
 have HL4 := Lib.hid hl4
 have hlt4 : (l.drop N).length = l.length - N := by simp
 clear HR hl4 hl3
 generalize l.take N ++ [x] = m4 at *
 obtain ⟨x0, x1, x2⟩ := box2 (box_on P0.out HG4.out.2)
 by_cases hN : N < l.length
 ·have hA : ∃ b off, A = some ⟨b, off, none⟩ := by
   obtain ⟨b, off, h, _⟩ := V1.out.keys hN
   exact ⟨b, off, h⟩
  obtain ⟨b, off, rfl⟩ := hA
  obtain ⟨hbb, hc⟩ := V1.out.tailK N hN
  have FK : Hid (∀ wt, Below w1.heap.size w1 wt → ∀ k (hk : k < (l.drop N).length), Five wt b (off + N * 5 + k * 5) (l.drop N)[k]) := Lib.hid (fun wt h k hk => (hc k hk).on hbb h)
  have hcN : ¬ c = N := by omega
  clear hc V1
  have HLT := Lib.hid hlt4
  clear hlt4
  generalize l.drop N = t at *
  go_wp2
  clear x0 x1 x2
  go_loopw [6, 8, 32] (fun o _ i wr => ∃ (k : Nat) (m : List KeyD), k ≤ l.length - N ∧ i = .int .i64 k ∧ Hid (m.length ≤ N + 1 + k) ∧ Hid (m ++ (t.drop k).filter (fun y => !spotK x y) = R) ∧ Hid (Grow w1 wr o m)) (fun _ _ i _ => l.length - N - (intOf i).toNat)
  case atStart => exact ⟨0, m4, Nat.zero_le _, rfl, Lib.hid (Nat.le_of_eq HL4.out), HR4, HG4⟩
  case round =>
   clear HG4 HR4 HL4
   obtain ⟨k, m, hk, rfl, HM, HI, HG⟩ := hrel
   obtain ⟨Ao, co, rfl, _, _⟩ := HG.out.1.shape
   by_cases hlt : k < l.length - N
   ·have hkt : k < t.length := by rw [HLT.out]; exact hlt
    have i5 : (k : Int) < ((l.length - N : Nat) : Int) := by omega
    have i6 : (0 : Int) ≤ (k : Int) := by omega
    obtain ⟨c0, c1, c2, c5, c6⟩ := FK.out _ HG.out.2 k hkt
    have ba := bal1 wr (.cells #[.int .i64 (t[k]).a, .int .i64 (t[k]).b, .int .i64 (t[k]).c, .int .i64 (t[k]).d, .int .i64 (t[k]).e] 29)
    have HGa := Lib.hid (HG.out.on ba)
    have PK := Lib.hid (al1 wr (.cells #[.int .i64 (t[k]).a, .int .i64 (t[k]).b, .int .i64 (t[k]).c, .int .i64 (t[k]).d, .int .i64 (t[k]).e] 29))
    obtain ⟨x0, x1, x2⟩ := box2 (box_on P0.out HGa.out.2)
    obtain ⟨y0, y1, y2, y3, y4, y5⟩ := box5 (box_on P1.out HGa.out.2)
    clear ba
    cases hs : spotK x t[k]
    ·have HS := Lib.hid hs
     clear hs
     go_upto_region 9 with (go_at_call 117; refine (HT.out t[k] _).mono ?_; rintro r w5 ⟨rfl, b5⟩; rw [HS.out])
     have HG5 := Lib.hid (HGa.out.on b5)
     have PK5 := box_on PK.out b5
     clear c0 c1 c2 c5 c6 x0 x1 x2 y0 y1 y2 y3 y4 y5 b5 HGa HG PK
     obtain ⟨y0, y1, y2, y3, y4, y5⟩ := box5 PK5
     clear PK5
     have ba := bal1 w5 (.cells #[.int .i64 (t[k]).a, .int .i64 (t[k]).b, .int .i64 (t[k]).c, .int .i64 (t[k]).d, .int .i64 (t[k]).e] 29)
     have HRow := Lib.hid (HG5.out.on ba).1
     have HB := Lib.hid (HG5.out.on ba).2
     have HAt := Lib.hid (At.key w5 t[k] 29)
     have HZ := Lib.hid HB.out.size
     clear ba HG5
     go_wp2_with (at_builtin; refine wpList_appK _ rfl (.tmp 41) (.tmp 43) rfl w1.heap.size _ m rfl HRow.out (some ⟨w5.heap.size, 0, none⟩) 1 1 [t[k]] rfl rfl HAt.out (by have := HM.out; simp; omega) HZ.out ?_; intro v6 w6 o6 b6; clear HRow HAt y0 y1 y2 y3 y4 y5)
     have HG6 := Lib.hid (show Grow w1 w6 v6 (m ++ [t[k]]) from ⟨o6, HB.out.trans b6⟩)
     clear o6 b6 HB HZ
     go_roundw
     case rel => exact ⟨k + 1, m ++ [t[k]], by omega, by go_num, Lib.hid (by have := HM.out; simp; omega), Lib.hid (filt_yes (p := fun y => !spotK x y) hkt (by rw [HS.out]; rfl) HI.out), HG6⟩
     case measure => simp [intOf]; omega
    ·have HS := Lib.hid hs
     clear hs
     go_wp2_with fail
     refine (HT.out t[k] _).mono ?_
     rintro r w5 ⟨rfl, b5⟩
     rw [HS.out]
     have HG5 := Lib.hid (HGa.out.on b5)
     clear c0 c1 c2 c5 c6 x0 x1 x2 y0 y1 y2 y3 y4 y5 b5 HGa HG PK
     go_wp2
     go_roundw
     case rel => exact ⟨k + 1, m, by omega, by go_num, Lib.hid (by have := HM.out; omega), Lib.hid (filt_no (p := fun y => !spotK x y) hkt (by rw [HS.out]; rfl) HI.out), HG5⟩
     case measure => simp [intOf]; omega
   ·have e : m = R := by
     have h := HI.out
     rw [List.drop_eq_nil_of_le (by rw [HLT.out]; omega)] at h
     simpa using h
    subst e
    obtain ⟨x0, x1, x2⟩ := box2 (box_on P0.out HG.out.2)
    obtain ⟨z0, z1, z2⟩ := box2 (box_on P2.out HG.out.2)
    go_wp2
    refine bodyPost_ret (v := .agg #[.slice Ao m.length co, lessV]) (by simp [results, Tryz.results105, go_sem, lessV, *]) rfl ⟨_, rfl, ?_, ?_⟩
    ·exact ((HG.out.1.set (by omega)).set (by omega)).mono (by omega)
    ·exact ((bstep B1.out HG.out.2).setCell (p := ⟨w.heap.size + 1 + 1, 0, none⟩) (by simp; omega) _).setCell (p := ⟨w.heap.size + 1 + 1, 1, none⟩) (by simp; omega) _
 ·have hNl : N = l.length := by omega
  subst hNl
  have hR5 : m4 = R := by
   have h := HR4.out
   rw [List.drop_length] at h
   simpa using h
  subst hR5
  by_cases hc0 : c = l.length
  all_goals
   go_wp2
   clear x0 x1 x2
   go_loopw [6, 8, 32] (fun o _ i wr => i = .int .i64 0 ∧ o = .slice A4 m4.length c4 ∧ w4 = wr) (fun _ _ _ _ => 0)
   case atStart => exact ⟨rfl, rfl, rfl⟩
   case round =>
    obtain ⟨rfl, rfl, rfl⟩ := hrel
    obtain ⟨x0, x1, x2⟩ := box2 (box_on P0.out HG4.out.2)
    obtain ⟨z0, z1, z2⟩ := box2 (box_on P2.out HG4.out.2)
    go_wp2
    refine bodyPost_ret (v := .agg #[.slice A4 m4.length c4, lessV]) (by simp [results, Tryz.results105, go_sem, lessV, *]) rfl ⟨_, rfl, ?_, ?_⟩
    ·exact ((HG4.out.1.set (by omega)).set (by omega)).mono (by omega)
    ·exact ((bstep B1.out HG4.out.2).setCell (p := ⟨w.heap.size + 1 + 1, 0, none⟩) (by simp; omega) _).setCell (p := ⟨w.heap.size + 1 + 1, 1, none⟩) (by simp; omega) _
end Go.Proofs.YthopkhpiikiknaaGreat
namespace Go.Proofs.YthopkhpiikiknaaGreat
open Go.RowKit
set_option maxRecDepth 100000
set_option linter.unusedSimpArgs false
set_option linter.unusedVariables false

theorem run_items (v f : Value) (w : World) : (Instr.field 119 (.agg #[v, f]) 0).run Tryz.prog w = .ok v w := by
 simp [Instr.field, run_underlying Tryz.underlying119, part, asAgg, go_sem, isAgg, run_underlying Tryz.underlying36]
set_option maxHeartbeats 1000000 in
theorem implSetPut_any (v : Value) (l : List KeyD) (x : KeyD) (w : World) (hv : Reads w w.heap.size v (keysD l)) (hn : l.length ≤ 2000000) : Calls Tryz.prog 82 #[v, x.v] w (NewK w (putK l x)) := by
 obtain ⟨A, c, rfl, _, _⟩ := hv.shapeK
 have HK := Lib.hid (keySet_any A l.length c)
 have HP := Lib.hid (fun w => put_any (.slice A l.length c) l x w)
 unfold lessV at HK HP
 unfold KeyD.v keyV at HP
 unfold KeyD.v keyV
 generalize putK l x = R at *
 have hfi := fun v w => run_items v (.func (.func 14) #[] #[]) w
 have b0 := bal1 w (.cells #[.int .i64 x.a, .int .i64 x.b, .int .i64 x.c, .int .i64 x.d, .int .i64 x.e] 29)
 have Q0 := Lib.hid (al1 w (.cells #[.int .i64 x.a, .int .i64 x.b, .int .i64 x.c, .int .i64 x.d, .int .i64 x.e] 29))
 have HV := Lib.hid (hv.on b0)
 have HB := Lib.hid b0
 clear hv b0
 go_enter Tryz.func82, Tryz.ntmps82
 go_upto_region 1 with (fail)
 generalize w.alloc (.cells #[.int .i64 x.a, .int .i64 x.b, .int .i64 x.c, .int .i64 x.d, .int .i64 x.e] 29) = W at *
 obtain ⟨y0, y1, y2, y3, y4, y5⟩ := box5 Q0.out
 go_region_held3 (fun V => V.cell? ⟨w.heap.size, 0, none⟩ = some (.int .i64 (x).a) ∧ V.cell? ⟨w.heap.size, 0 + 1, none⟩ = some (.int .i64 (x).b) ∧ V.cell? ⟨w.heap.size, 0 + 2, none⟩ = some (.int .i64 (x).c) ∧ V.cell? ⟨w.heap.size, 0 + 3, none⟩ = some (.int .i64 (x).d) ∧ V.cell? ⟨w.heap.size, 0 + 4, none⟩ = some (.int .i64 (x).e))
  (first | with_reducible exact five_box (box_on Q0.out B9) | with_reducible exact five_box (box_on Q0.out B8) | with_reducible exact five_box (box_on Q0.out (Below.drew1 _)) | exact five_box Q0.out | fail)
  (first
   |(go_at_call 105; refine (HP.out _ (HV.out.on B8) hn).mono ?_; rintro r w9 ⟨v9, rfl, o9, b9⟩; have O9 := Lib.hid (o9.mono (base' := W.heap.size) B8.size); have B9 := bstep B8 b9; obtain ⟨A9, c9, rfl, _, _⟩ := o9.shape; clear o9)
   |(go_at_call 104; refine (HK.out _).mono ?_; rintro r w8 ⟨rfl, b8⟩; have B8 := bstep (Below.drew1 _) b8)
   |fail)
 all_goals
  clear y0 y1 y2 y3 y4 y5
  go_wp2
  go_ret
  exact ⟨_, rfl, O9.out.mono HB.out.size, bstep HB.out B9⟩
theorem cloneK_any (v : Value) (l : List KeyD) (w : World) (hv : Reads w w.heap.size v (keysD l)) (hn : l.length ≤ 2097152) : Calls Tryz.prog 101 #[v] w (NewK w l) := by
 obtain ⟨A, c, rfl, _, _⟩ := hv.shapeK
 rcases A with _ | ad
 ·have h0 : l = [] := by
   rcases hv.atK with h | ⟨b, off, h, _⟩
   ·have := congrArg List.length h
    rw [kvl_len] at this
    exact List.length_eq_zero_iff.1 (by simp at this; omega)
   ·cases h
  subst h0
  have hq := run_eqnil (P := Tryz.prog) w 36 29 none 0 c Tryz.underlying36
  go_enter Tryz.func101, Tryz.ntmps101
  go_wp2
  go_ret
  exact ⟨_, rfl, row_nil _ _ _ _, Below.refl _ _⟩
 ·have b0 := bal1 w (.cells #[] 29)
  have HAt := Lib.hid ((hv.on b0).atK)
  have HRow := Lib.hid (RowK.lit w)
  have HB := Lib.hid b0
  have HZ := Lib.hid b0.size
  have hq := run_eqnil (P := Tryz.prog) w 36 29 (some ad) l.length c Tryz.underlying36
  clear hv b0
  go_enter Tryz.func101, Tryz.ntmps101
  go_wp2_with (at_builtin; refine wpList_appK _ rfl (.tmp 5) (.tmp 6) rfl w.heap.size _ [] rfl HRow.out (some ad) l.length c l rfl rfl HAt.out (by simp; omega) HZ.out ?_; intro v1 w1 o1 b1; clear HRow HAt)
  go_ret
  exact ⟨v1, rfl, o1, HB.out.trans b1⟩
set_option maxHeartbeats 2000000 in
theorem implMergeSets_any (v u : Value) (a b : List KeyD) (w : World) (hv : Reads w w.heap.size v (keysD a)) (hu : Reads w w.heap.size u (keysD b)) (hn : a.length + b.length ≤ 1500000) : Calls Tryz.prog 95 #[v, u] w (NewK w (mergeK a b)) := by
 obtain ⟨A, c, rfl, _, _⟩ := hv.shapeK
 obtain ⟨A', c', rfl, _, _⟩ := hu.shapeK
 obtain ⟨R, hR⟩ : ∃ R, mergeK a b = R := ⟨_, rfl⟩
 rw [hR]
 have HC := Lib.hid cloneK_any
 have HK := Lib.hid keySet_any
 have HP := Lib.hid put_any
 unfold lessV at HK HP
 unfold KeyD.v keyV at HP
 have hst := store_less
 have HR := Lib.hid hR
 have HU := Lib.hid hu
 have HV := Lib.hid hv
 clear hv hu hR
 go_enter Tryz.func95, Tryz.ntmps95
 go_wp2_with fail
 refine (HC.out _ a _ HV.out (by omega)).mono ?_
 rintro r w1 ⟨v1, rfl, o1, b1⟩
 have HG1 := Lib.hid (show Grow w w1 v1 a from ⟨o1, b1⟩)
 obtain ⟨A1, c1, rfl, _, _⟩ := o1.shape
 clear o1 b1 HV
 go_wp2_with fail
 refine (HK.out _ _ _ _).mono ?_
 rintro r w2 ⟨rfl, b2⟩
 have HG2 := Lib.hid (HG1.out.on b2)
 have ba := bal1 w2 (.cells #[.slice A1 a.length c1, .func (.func 14) #[] #[]] 119)
 have START := Lib.hid (HG2.out.on ba)
 have BOX := Lib.hid (al1 w2 (.cells #[.slice A1 a.length c1, .func (.func 14) #[] #[]] 119))
 have hz2 := HG2.out.2.size
 have NEQ : Hid (∀ g, (Value.slice A1 a.length c1).ownBlock = some g → g ≠ w2.heap.size) := Lib.hid (fun g hg => by have := (HG2.out.1.lt g hg).1; omega)
 clear HG1 HG2 b2 ba
 go_wp2
 go_loopw [7, 13] (fun _ i wr => ∃ (k : Nat) (m : List KeyD) (o : Value), k ≤ b.length ∧ i = .int .i64 k ∧ Hid (m.length ≤ a.length + k) ∧ Hid (mergeK m (b.drop k) = R) ∧ Hid (Grow w wr o m) ∧ Hid (wr.heap[w2.heap.size]? = some (.cells #[o, .func (.func 14) #[] #[]] 119)) ∧ Hid (∀ g, o.ownBlock = some g → g ≠ w2.heap.size)) (fun _ i _ => b.length - (intOf i).toNat)
 case atStart => exact ⟨0, a, _, Nat.zero_le _, rfl, Lib.hid (Nat.le_refl _), HR, START, BOX, NEQ⟩
 case round =>
  clear START BOX NEQ
  obtain ⟨k, m, o, hk, rfl, HM, HI, HG, BOX, NEQ⟩ := hrel
  obtain ⟨Ao, co, rfl, _, _⟩ := HG.out.1.shape
  have hzw : w2.heap.size < wr.heap.size := (Array.getElem?_eq_some_iff.1 BOX.out).1
  by_cases hlt : k < b.length
  ·obtain ⟨bb, off, rfl, hbb, hc⟩ := (HU.out.on HG.out.2).keys hlt
   have i1 : (k : Int) < (b.length : Int) := by omega
   have i2 : (0 : Int) ≤ (k : Int) := by omega
   obtain ⟨c0, c1, c2, c3, c4⟩ := hc k hlt
   have ba := bal1 wr (.cells #[.int .i64 (b[k]).a, .int .i64 (b[k]).b, .int .i64 (b[k]).c, .int .i64 (b[k]).d, .int .i64 (b[k]).e] 29)
   have HGa := Lib.hid (HG.out.on ba)
   have BOXa := Lib.hid (box_on BOX.out ba)
   have hza : (wr.alloc (.cells #[.int .i64 (b[k]).a, .int .i64 (b[k]).b, .int .i64 (b[k]).c, .int .i64 (b[k]).d, .int .i64 (b[k]).e] 29)).heap.size = wr.heap.size + 1 := by simp
   obtain ⟨x0, x1, x2⟩ := box2 BOXa.out
   have HZa := Lib.hid hza
   clear hc ba hza
   go_wp2_with fail
   refine (HP.out _ m b[k] _ HGa.out.reads (by have := HM.out; omega)).mono ?_
   rintro r w5 ⟨v5, rfl, o5, b5⟩
   have bx := box_on BOXa.out b5
   rw [HZa.out] at o5
   have hb5 := bstep HGa.out.2 b5
   have HM2 := Lib.hid (show (putK m b[k]).length ≤ a.length + (k + 1) by have := putK_len m b[k]; have := HM.out; omega)
   obtain ⟨A5, c5, rfl, _, _⟩ := o5.shape
   have NEQ5 : Hid (∀ g, (Value.slice A5 (putK m b[k]).length c5).ownBlock = some g → g ≠ w2.heap.size) := Lib.hid (fun g hg => by have := (o5.lt g hg).2; omega)
   have HG5 := Lib.hid (show Grow w ((w5.setCell ⟨w2.heap.size, 0, none⟩ (.slice A5 (putK m b[k]).length c5)).setCell ⟨w2.heap.size, 1, none⟩ (.func (.func 14) #[] #[])) (.slice A5 (putK m b[k]).length c5) (putK m b[k]) from ⟨((o5.set (by omega)).set (by omega)).mono (by have := HG.out.2.size; omega), (hb5.setCell (p := ⟨w2.heap.size, 0, none⟩) hz2 _).setCell (p := ⟨w2.heap.size, 1, none⟩) hz2 _⟩)
   have BOX5 := Lib.hid (box_set (i := 1) (u := .func (.func 14) #[] #[]) (box_set (i := 0) (u := .slice A5 (putK m b[k]).length c5) bx))
   clear x0 x1 x2 c0 c1 c2 c3 c4
   obtain ⟨x0, x1, x2⟩ := box2 bx
   clear o5 b5 bx hb5 HGa HG BOXa BOX NEQ
   go_wp2
   go_roundw
   case rel => exact ⟨k + 1, putK m b[k], _, by omega, by go_num, HM2, Lib.hid (merge_step hlt HI.out), HG5, BOX5, NEQ5⟩
   case measure => simp [intOf]; omega
  ·have e : m = R := by
    have := HI.out
    rw [List.drop_eq_nil_of_le (by omega)] at this
    exact this
   subst e
   obtain ⟨x0, x1, x2⟩ := box2 BOX.out
   go_wp2
   go_ret
   exact ⟨_, rfl, HG.out.1, HG.out.2⟩
end Go.Proofs.YthopkhpiikiknaaGreat
