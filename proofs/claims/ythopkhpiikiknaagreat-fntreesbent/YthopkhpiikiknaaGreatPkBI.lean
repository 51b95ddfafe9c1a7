/- Several texts in one: TreeNew, DrawA, DrawB, DrawKey, DrawKey2, DrawSet, DrawSet2, Last4, DrawNode, DrawTree, DrawTree2, DrawNode2, DrawNode3, DrawTree3, DrawTree4. -/
import Derived.Laws.BitsAllLaws
import Derived.Laws.BitsLemmas
import Derived.Deep.DeepCutAuto
import Derived.Test.YthopkhpiikiknaaGreatPkBH
namespace Go.Proofs.YthopkhpiikiknaaGreat
open Go.RowKit
set_option maxRecDepth 100000
set_option linter.unusedSimpArgs false
set_option linter.unusedVariables false

theorem one_int {w : World} {S : Nat → Prop} {g : Nat} {n : Int} (h : w.heap[g]? = some (.cells #[.int .i64 n] 3 (0, 0))) (hS : S g) : Owns w S (.slice (some ⟨g, 0, none⟩) 1 1) (intsD [n]) :=
 OwnsL.row (xs := [iV n]) hS h (Nat.le_refl _) (by unfold maxLen; omega) rfl rfl rfl (.one (.lit _ _))
theorem one_node {w : World} {S T : Nat → Prop} {g : Nat} {v : Value} {ns : NodeD} (h : w.heap[g]? = some (.cells #[v] 62 (0, 0))) (hS : S g) (ho : Owns w T v (setsD ns)) (hT : ∀ b, T b → S b ∧ b ≠ g) : Owns w S (.slice (some ⟨g, 0, none⟩) 1 1) (nodesD [ns]) :=
 OwnsL.row (xs := [v]) hS h (Nat.le_refl _) (by unfold maxLen; omega) rfl rfl rfl (.one (ho.mono hT))
theorem specTreeNew_any (w : World) : Calls Tryz.prog 69 #[] w (NewTS w [0] [[]]) := by
 go_enter Tryz.func69, Tryz.ntmps69
 go_wp2
 obtain ⟨q0, q1, q2⟩ := al3 w (.cells #[.slice (some ⟨w.heap.size + 1, 0, none⟩) 1 1, .slice (some ⟨w.heap.size + 1 + 1, 0, none⟩) 1 1] 27) (.cells #[.int .i64 0] 3) (.cells #[.slice none 0 0] 62)
 obtain ⟨x0, x1, x2⟩ := box2 q0
 refine bodyPost_ret (v := .agg #[.slice (some ⟨w.heap.size + 1, 0, none⟩) 1 1, .slice (some ⟨w.heap.size + 1 + 1, 0, none⟩) 1 1]) (by simp [results, Tryz.results69, go_sem, x0, x1]) rfl ⟨_, _, rfl, ⟨fun b => b = w.heap.size + 1, fun b => b = w.heap.size + 1 + 1, fun b hb => by omega, fun b hb => by omega, fun b hb hb' => by omega, one_int q1 rfl, one_node (T := fun _ => False) q2 rfl (.nil _ _ _) (fun _ h => h.elim)⟩, bal3 _ _ _ _⟩
end Go.Proofs.YthopkhpiikiknaaGreat
namespace Go.Proofs.YthopkhpiikiknaaGreat
open Go.RowKit
set_option maxRecDepth 100000
set_option linter.unusedSimpArgs false
set_option linter.unusedVariables false

/-- Block p holds a cursor over bytes that lie below it. -/
def Cur (w : World) (p : Nat) : Prop :=
 ∃ (A : Option Addr) (cap : Nat) (l : List UInt8) (i : Nat) (h : Int), w.heap[p]? = some (.cells #[.slice A l.length cap, .int .i64 i, .int .i64 h] 91 (0, 0)) ∧ Rd w p A l ∧ i ≤ l.length ∧ l.length ≤ 1048576
theorem Cur.lt {w : World} {p : Nat} (h : Cur w p) : p < w.heap.size := by
 obtain ⟨A, cap, l, i, h, hg, _⟩ := h
 exact (Array.getElem?_eq_some_iff.1 hg).1
theorem Cur.keep {w w' : World} {p : Nat} (h : Cur w p) (hk : ∀ k, k ≤ p → w'.heap[k]? = w.heap[k]?) : Cur w' p := by
 obtain ⟨A, cap, l, i, h, hg, hr, r⟩ := h
 exact ⟨A, cap, l, i, h, (hk p (Nat.le_refl _)).trans hg, hr.keep (fun k hk' => hk k (by omega)), r⟩
theorem Cur.on {w w' : World} {p : Nat} (h : Cur w p) (hb : Below w.heap.size w w') : Cur w' p := h.keep (fun k hk => hb.block k (by have := h.lt; omega))

theorem and255 (y : Int) : 0 ≤ bits .and .i64 y 255 ∧ bits .and .i64 y 255 ≤ 255 := by
 have e : bits .and .i64 y 255 = IntKind.i64.wrap ((BitVec.ofInt 64 y &&& BitVec.ofInt 64 ((255 : Nat) : Int)).toNat : Int) := rfl
 have h : (BitVec.ofInt 64 y &&& BitVec.ofInt 64 ((255 : Nat) : Int)).toNat ≤ 255 := by
  rw [BitVec.toNat_and, BitVec.ofInt_natCast, BitVec.toNat_ofNat]
  exact Nat.and_le_right
 rw [e, IntKind.wrap_i64]
 omega
set_option maxRecDepth 100000 in
theorem l1New_any (A : Option Addr) (cap : Nat) (l : List UInt8) (w : World) (hr : Rd w w.heap.size A l) (hn : l.length ≤ 1048576) :
  Calls Tryz.prog 30 #[.slice A l.length cap] w fun e w' => ∃ p, e = .returned (.pointer (some ⟨p, 0, none⟩)) ∧ Cur w' p ∧ w.heap.size ≤ p ∧ Below w.heap.size w w' := by
 go_enter Tryz.func30, Tryz.ntmps30
 go_wp2
 go_loop [3, 4] (fun h i => ∃ (k : Nat) (x : Int), k ≤ l.length ∧ i = .int .i64 k ∧ h = .int .i64 x) (fun _ i => l.length - (intOf i).toNat)
 case atStart => exact ⟨0, _, by omega, rfl, rfl⟩
 case round =>
  obtain ⟨k, x, hk, rfl, rfl⟩ := hrel
  by_cases hlt : k < l.length
  ·by_cases h4 : k < 4000
   ·obtain ⟨b, off, rfl, hbb, hc⟩ := hr.at_ hlt
    have c1 := hc k hlt
    clear hc hr
    go_wp2
    go_round
    case rel => exact ⟨k + 1, _, by omega, by go_num, rfl⟩
    case measure => simp [intOf]; omega
   ·go_wp2
    go_ret
    exact ⟨w.heap.size, rfl, ⟨A, cap, l, 0, x, heap_alloc_new w _, (hr.below ((Below.refl _ _).alloc (Nat.le_refl _) _)), by omega, hn⟩, Nat.le_refl _, (Below.refl _ _).alloc (Nat.le_refl _) _⟩
  ·go_wp2
   go_ret
   exact ⟨w.heap.size, rfl, ⟨A, cap, l, 0, x, heap_alloc_new w _, (hr.below ((Below.refl _ _).alloc (Nat.le_refl _) _)), by omega, hn⟩, Nat.le_refl _, (Below.refl _ _).alloc (Nat.le_refl _) _⟩

theorem blk_set {w : World} {p i : Nat} {cs : Array Value} {t : TypeId} (h : w.heap[p]? = some (.cells cs t (0, 0))) (u : Value) : (w.setCell ⟨p, i, none⟩ u).heap[p]? = some (.cells (cs.setIfInBounds i u) t (0, 0)) := heap_setCell_same w p i cs t u h
theorem only_draw {a w : World} {row : Option Nat} (h : a.grownBy w row) (n : Nat) : a.grownBy (w.drewN n) row := ⟨h.os, h.tape, h.output, h.size, h.block⟩
theorem only_draw1 {a w : World} {row : Option Nat} (h : a.grownBy w row) : a.grownBy w.drew row := ⟨h.os, h.tape, h.output, h.size, h.block⟩
theorem cur2 {w : World} {A : Option Addr} {p cap i n : Nat} {l : List UInt8} {h h2 : Int} (hg : w.heap[p]? = some (.cells #[.slice A l.length cap, .int .i64 i, .int .i64 h] 91 (0, 0))) (hr : Rd w p A l) (hi : i + 1 ≤ l.length) (hn : l.length ≤ 1048576) :
  Cur (((w.setCell ⟨p, 2, none⟩ (.int .i64 h2)).drewN n).setCell ⟨p, 1, none⟩ (.int .i64 ((i : Int) + 1))) p ∧ w.grownBy (((w.setCell ⟨p, 2, none⟩ (.int .i64 h2)).drewN n).setCell ⟨p, 1, none⟩ (.int .i64 ((i : Int) + 1))) (some p) := by
 have g2 := blk_set (i := 2) hg (.int .i64 h2)
 have g3 : ((w.setCell ⟨p, 2, none⟩ (.int .i64 h2)).drewN n).heap[p]? = _ := g2
 have g4 := blk_set (i := 1) g3 (.int .i64 ((i : Int) + 1))
 have gr := only_set (j := 1) (only_draw (only_set (j := 2) (World.grownBy.refl w (some p)) (.int .i64 h2)) n) (.int .i64 ((i : Int) + 1))
 exact ⟨⟨A, cap, l, i + 1, h2, g4, hr.keep (fun k hk => gr.block k (by have := (Array.getElem?_eq_some_iff.1 hg).1; omega) (fun e => by injection e with e; omega)), hi, hn⟩, gr⟩
theorem cur1 {w : World} {A : Option Addr} {p cap i n m : Nat} {l : List UInt8} {h h2 : Int} (hg : w.heap[p]? = some (.cells #[.slice A l.length cap, .int .i64 i, .int .i64 h] 91 (0, 0))) (hr : Rd w p A l) (hi : i ≤ l.length) (hn : l.length ≤ 1048576) :
  Cur (((w.setCell ⟨p, 2, none⟩ (.int .i64 h2)).drewN n).drewN m) p ∧ w.grownBy (((w.setCell ⟨p, 2, none⟩ (.int .i64 h2)).drewN n).drewN m) (some p) := by
 have g2 := blk_set (i := 2) hg (.int .i64 h2)
 have gr := only_draw (only_draw (only_set (j := 2) (World.grownBy.refl w (some p)) (.int .i64 h2)) n) m
 exact ⟨⟨A, cap, l, i, h2, g2, hr.keep (fun k hk => gr.block k (by have := (Array.getElem?_eq_some_iff.1 hg).1; omega) (fun e => by injection e with e; omega)), hi, hn⟩, gr⟩
def AByte (w : World) (p : Nat) (e : Ending) (w' : World) : Prop := ∃ x : Int, 0 ≤ x ∧ x ≤ 255 ∧ e = .returned (.int .i64 x) ∧ Cur w' p ∧ w.grownBy w' (some p)
set_option maxRecDepth 100000 in
theorem l1Byte_any (p : Nat) (w : World) (hc : Cur w p) : Calls Tryz.prog 98 #[.pointer (some ⟨p, 0, none⟩)] w (AByte w p) := by
 obtain ⟨A, cap, l, i, h, hg, hr, hi, hn⟩ := hc
 have c0 : w.cell? ⟨p, 0, none⟩ = some (.slice A l.length cap) := by rw [cell_of_row w p 0 _ _ _ hg]; rfl
 have c1 : w.cell? ⟨p, 1, none⟩ = some (.int .i64 i) := by rw [cell_of_row w p 1 _ _ _ hg]; rfl
 have c2 : w.cell? ⟨p, 2, none⟩ = some (.int .i64 h) := by rw [cell_of_row w p 2 _ _ _ hg]; rfl
 have f1 : w.frozen? ⟨p, 1, none⟩ = false := frozen_of_row w p 1 _ _ hg
 have f2 : w.frozen? ⟨p, 2, none⟩ = false := frozen_of_row w p 2 _ _ hg
 have HG := Lib.hid hg
 clear hg
 by_cases hlt : i < l.length
 ·obtain ⟨b, off, rfl, hbb, hcc⟩ := hr.at_ hlt
  have c3 := hcc i hlt
  have hne : ¬ b = p := by omega
  have HR := Lib.hid hr
  clear hcc hr
  obtain ⟨x0, x1⟩ := u8_le l[i]
  generalize l[i] = x at c3 x0 x1
  go_enter Tryz.func98, Tryz.ntmps98
  go_wp2
  generalize wrap64 (wrap64 (h * 6364136223846793005) + 1442695040888963407) = h2
  go_quiet (fail)
  go_wp2
  have ha := and255 (bits .xor .i64 (h2 / 8589934592) (h2 / 140737488355328))
  generalize bits .and .i64 (bits .xor .i64 (h2 / 8589934592) (h2 / 140737488355328)) 255 = y at ha ⊢
  obtain ⟨y0, y1⟩ := ha
  have hid : (i : Int) < (l.length : Int) := by omega
  go_quiet (fail)
  go_wp2
  go_quiet (fail)
  go_wp2
  have ha := and255 (y + (x.toNat : Int))
  generalize bits .and .i64 (y + (x.toNat : Int)) 255 = z at ha ⊢
  obtain ⟨z0, z1⟩ := ha
  go_ret
  exact ⟨z, z0, z1, rfl, cur2 HG.out HR.out (by omega) hn⟩
 ·have HR := Lib.hid hr
  clear hr
  have hid : decide ((i : Int) < (l.length : Int)) = false := decide_eq_false (by omega)
  go_enter Tryz.func98, Tryz.ntmps98
  go_wp2
  generalize wrap64 (wrap64 (h * 6364136223846793005) + 1442695040888963407) = h2
  go_quiet (fail)
  go_wp2
  have ha := and255 (bits .xor .i64 (h2 / 8589934592) (h2 / 140737488355328))
  generalize bits .and .i64 (bits .xor .i64 (h2 / 8589934592) (h2 / 140737488355328)) 255 = y at ha ⊢
  obtain ⟨y0, y1⟩ := ha
  go_quiet (fail)
  go_wp2
  go_ret
  exact ⟨y, y0, y1, rfl, cur1 HG.out HR.out hi hn⟩

theorem only_trans {a b c : World} {row : Option Nat} (h : a.grownBy b row) (k : b.grownBy c row) : a.grownBy c row :=
 ⟨k.os.trans h.os, k.tape.trans h.tape, k.output.trans h.output, Nat.le_trans h.size k.size, fun i hi hne => (k.block i (Nat.lt_of_lt_of_le hi h.size) hne).trans (h.block i hi hne)⟩
def ABelow (w : World) (p : Nat) (m : Int) (e : Ending) (w' : World) : Prop := ∃ j : Nat, (j : Int) < m ∧ e = .returned (.int .i64 (j : Int)) ∧ Cur w' p ∧ w.grownBy w' (some p)
theorem toNat_mod {x m : Int} (_h0 : 0 ≤ x) (hm : 0 < m) : ((x % m).toNat : Int) < m ∧ ((x % m).toNat : Int) = x % m := by
 have h1 := Int.emod_nonneg x (show m ≠ 0 by omega)
 have h2 := Int.emod_lt_of_pos x hm
 omega
set_option maxRecDepth 100000 in
theorem l1Below_any (p : Nat) (m : Int) (w : World) (hc : Cur w p) (hm : 0 < m) (hm2 : m ≤ 1099511627776) : Calls Tryz.prog 64 #[.pointer (some ⟨p, 0, none⟩), .int .i64 m] w (ABelow w p m) := by
 have d0 : decide (m ≤ 0) = false := decide_eq_false (by omega)
 by_cases h256 : m ≤ 256
 ·go_enter Tryz.func64, Tryz.ntmps64
  go_wp2_with fail
  refine (l1Byte_any p _ hc).mono ?_
  rintro e w1 ⟨x, x0, x1, rfl, hc1, hg1⟩
  have HX := Lib.hid (toNat_mod x0 hm)
  go_wp2
  go_ret
  exact ⟨(x % m).toNat, HX.out.1, ret_intB HX.out.2.symm, hc1, hg1⟩
 ·go_enter Tryz.func64, Tryz.ntmps64
  go_wp2_with fail
  refine (l1Byte_any p _ hc).mono ?_
  rintro e w1 ⟨x, x0, x1, rfl, hc1, hg1⟩
  go_wp2_with fail
  refine (l1Byte_any p _ hc1).mono ?_
  rintro e w2 ⟨y, y0, y1, rfl, hc2, hg2⟩
  go_wp2_with fail
  refine (l1Byte_any p _ hc2).mono ?_
  rintro e w3 ⟨z, z0, z1, rfl, hc3, hg3⟩
  have HX := Lib.hid (toNat_mod (x := x * 65536 + y * 256 + z) (by omega) hm)
  go_wp2
  go_ret
  exact ⟨((x * 65536 + y * 256 + z) % m).toNat, HX.out.1, ret_intB HX.out.2.symm, hc3, only_trans (only_trans hg1 hg2) hg3⟩
def AnOnce (w : World) (p : Nat) (e : Ending) (w' : World) : Prop := ∃ b : Bool, e = .returned (.bool b) ∧ Cur w' p ∧ w.grownBy w' (some p)
theorem l1Once_any (p : Nat) (m : Int) (w : World) (hc : Cur w p) (hm : 0 < m) (hm2 : m ≤ 1099511627776) : Calls Tryz.prog 61 #[.pointer (some ⟨p, 0, none⟩), .int .i64 m] w (AnOnce w p) := by
 go_enter Tryz.func61, Tryz.ntmps61
 go_wp2_with fail
 refine (l1Below_any p m _ hc hm hm2).mono ?_
 rintro e w1 ⟨j, hj, rfl, hc1, hg1⟩
 go_wp2
 go_ret
 exact ⟨_, rfl, hc1, hg1⟩
/-- In w, from the head of block b on, lie the values xs. -/
def Lies (w : World) (b : Nat) (xs : List Value) : Prop := ∀ i (h : i < xs.length), w.cell? ⟨b, i, none⟩ = some xs[i]
theorem Lies.far {w w' : World} {b p : Nat} {xs : List Value} (h : Lies w b xs) (hg : w.grownBy w' (some p)) (hb : b < w.heap.size) (hne : b ≠ p) : Lies w' b xs :=
 fun i hi => (World.cell?_of_block (a := ⟨b, i, none⟩) (hg.block b hb (fun e => hne (by injection e)))).trans (h i hi)
theorem Lies.new (w : World) (xs : List Value) (t : TypeId) : Lies (w.alloc (.cells xs.toArray t)) w.heap.size xs := by
 intro i hi
 rw [cell_of_row _ _ _ _ _ _ (heap_alloc_new w _)]
 simp [hi]
def AnInt (w : World) (p : Nat) (ws : List Int) (e : Ending) (w' : World) : Prop := ∃ x, x ∈ ws ∧ e = .returned (.int .i64 x) ∧ Cur w' p ∧ w.grownBy w' (some p)
theorem l1Int_any (p b cap : Nat) (ws : List Int) (w : World) (hc : Cur w p) (hl : Lies w b (ws.map (.int .i64 ·))) (hb : b < w.heap.size) (hne : b ≠ p) (h0 : 0 < ws.length) (hn : ws.length ≤ 1048576) :
  Calls Tryz.prog 63 #[.pointer (some ⟨p, 0, none⟩), .slice (some ⟨b, 0, none⟩) ws.length cap] w (AnInt w p ws) := by
 go_enter Tryz.func63, Tryz.ntmps63
 go_wp2_with fail
 refine (l1Below_any p ws.length _ hc (by omega) (by omega)).mono ?_
 rintro e w1 ⟨j, hj, rfl, hc1, hg1⟩
 have hj2 : j < ws.length := by omega
 have c1 := (hl.far hg1 hb hne) j (by simpa using hj2)
 simp only [List.getElem_map] at c1
 go_wp2
 go_ret
 exact ⟨ws[j], List.getElem_mem _, rfl, hc1, hg1⟩
theorem Cur.alloc {w : World} {p : Nat} (h : Cur w p) (o : Obj) : Cur (w.alloc o) p := h.on ((Below.refl _ _).alloc (Nat.le_refl _) _)
theorem only_alloc {a w : World} {row : Option Nat} (h : a.grownBy w row) (o : Obj) : a.grownBy (w.alloc o) row :=
 ⟨h.os, h.tape, h.output, Nat.le_trans h.size (by simp), fun i hi hne => (Below.heap_alloc w o i (Nat.lt_of_lt_of_le hi h.size)).trans (h.block i hi hne)⟩
theorem only_start (w : World) (o : Obj) (row : Option Nat) : w.grownBy (w.alloc o) row := only_alloc (World.grownBy.refl w row) o
theorem Cur.far {w w' : World} {p g : Nat} (h : Cur w p) (hg : w.grownBy w' (some g)) (hlt : p < g) : Cur w' p :=
 h.keep (fun k hk => hg.block k (by have := h.lt; omega) (fun e => by injection e with e; omega))
end Go.Proofs.YthopkhpiikiknaaGreat
namespace Go.Proofs.YthopkhpiikiknaaGreat
open Go.RowKit
set_option maxRecDepth 100000
set_option linter.unusedSimpArgs false
set_option linter.unusedVariables false

theorem below_of_only {w w1 w2 : World} {p : Nat} (hb : Below w.heap.size w w1) (hg : w1.grownBy w2 (some p)) (hp : w.heap.size ≤ p) : Below w.heap.size w w2 :=
 hb.grown hg hb.size (fun k hk => by injection hk with hk; omega)
theorem big_any (A : Option Addr) (cap n : Nat) (w : World) : Calls Tryz.prog 5 #[.slice A n cap] w fun e w' => e = .returned (.bool (decide ((1048576 : Int) < (n : Int)))) ∧ w = w' := by
 go_enter Tryz.func5, Tryz.ntmps5
 go_wp2
 go_ret
 exact ⟨rfl, rfl⟩
end Go.Proofs.YthopkhpiikiknaaGreat
namespace Go.Proofs.YthopkhpiikiknaaGreat
open Go.RowKit
set_option maxRecDepth 100000
set_option linter.unusedSimpArgs false
set_option linter.unusedVariables false

def SmallK (a b c d e : Int) : Prop := (0 ≤ a ∧ a ≤ 3) ∧ (1 ≤ b ∧ b ≤ 5) ∧ keyOkB a b c d e = true
def AKey (w : World) (p : Nat) (r : Ending) (w' : World) : Prop := ∃ a b c d e, r = .returned (keyV a b c d e) ∧ SmallK a b c d e ∧ Cur w' p ∧ w.grownBy w' (some p)
def AnyKey (w : World) (p : Nat) (r : Ending) (w' : World) : Prop := ∃ a b c d e, r = .returned (keyV a b c d e) ∧ Cur w' p ∧ w.grownBy w' (some p)
theorem only_setNew {a w : World} {p g j : Nat} (h : a.grownBy w (some p)) (hg : a.heap.size ≤ g) (u : Value) : a.grownBy (w.setCell ⟨g, j, none⟩ u) (some p) :=
 ⟨h.os, h.tape, h.output, by simpa [World.setCell] using h.size, fun i hi hne => (Below.heap_setCell w ⟨g, j, none⟩ u i (by simp; omega)).trans (h.block i hi hne)⟩
theorem Cur.setNew {w : World} {p g j : Nat} (h : Cur w p) (hg : p < g) (u : Value) : Cur (w.setCell ⟨g, j, none⟩ u) p := h.keep (fun k hk => Below.heap_setCell w ⟨g, j, none⟩ u k (by simp; omega))
theorem box_grows {w w' : World} {b p : Nat} {o : Obj} (q : w.heap[b]? = some o) (hg : w.grownBy w' (some p)) (hne : b ≠ p) : w'.heap[b]? = some o := (hg.block b (Array.getElem?_eq_some_iff.1 q).1 (fun e => hne (by injection e))).trans q
def kindList : List Int := [0, 1, 1, 1, 2]
def genList : List Int := [0, 1, 256, 999]
theorem kindList_ok : ∀ x ∈ kindList, x = 0 ∨ x = 1 ∨ x = 2 := by decide
theorem genList_ok : ∀ x ∈ genList, 0 ≤ x ∧ x ≤ 999 := by decide
set_option maxHeartbeats 2000000 in
theorem l3Draw_any (p : Nat) (w : World) (hc : Cur w p) : Calls Tryz.prog 70 #[.pointer (some ⟨p, 0, none⟩)] w (AKey w p) := by
 have hlt := hc.lt
 have q0 := Lib.hid (al1 w (.cells #[.int .i64 0, .int .i64 0, .int .i64 0, .int .i64 0, .int .i64 0] 29))
 have G0 := Lib.hid (only_start w (.cells #[.int .i64 0, .int .i64 0, .int .i64 0, .int .i64 0, .int .i64 0] 29) (some p))
 have C0 := Lib.hid (hc.alloc (.cells #[.int .i64 0, .int .i64 0, .int .i64 0, .int .i64 0, .int .i64 0] 29))
 clear hc
 go_enter Tryz.func70, Tryz.ntmps70
 go_wp2_with fail
 refine (l1Below_any p 4 _ C0.out (by omega) (by omega)).mono ?_
 rintro r w1 ⟨a, ha, rfl, c1, g1⟩
 replace q0 := Lib.hid (box_grows q0.out g1 (by omega))
 replace G0 := Lib.hid (only_trans G0.out g1)
 replace C0 := Lib.hid c1
 clear c1 g1
 go_wp2_with fail
 refine (l1Below_any p 5 _ C0.out (by omega) (by omega)).mono ?_
 rintro r w2 ⟨b, hb, rfl, c1, g1⟩
 replace q0 := Lib.hid (box_grows q0.out g1 (by omega))
 replace G0 := Lib.hid (only_trans G0.out g1)
 replace C0 := Lib.hid c1
 have hz2 : w.heap.size < w2.heap.size := (Array.getElem?_eq_some_iff.1 q0.out).1
 clear c1 g1
 have H := Lib.hid (l1Int_any p w2.heap.size 5 kindList (w2.alloc (.cells (kindList.map (.int .i64 ·)).toArray 3)) (C0.out.alloc _) (Lies.new w2 _ _) (by simp) (by omega) (by decide) (by decide))
 have G3 := Lib.hid (only_alloc G0.out (.cells (kindList.map (.int .i64 ·)).toArray 3))
 have Q3 := Lib.hid (box_on q0.out (bal1 w2 (.cells (kindList.map (.int .i64 ·)).toArray 3)))
 clear q0 G0 C0
 go_wp2_with fail
 refine H.out.mono ?_
 rintro r w3 ⟨c, hcm, rfl, c3, g3⟩
 have hcc := kindList_ok c hcm
 have HCC := Lib.hid hcc
 have q3 := box_grows Q3.out g3 (by omega)
 have G4 := Lib.hid (only_trans G3.out g3)
 have hz3 : w.heap.size < w3.heap.size := (Array.getElem?_eq_some_iff.1 q3).1
 have hp3 := c3.lt
 have G5 := Lib.hid (only_alloc G4.out (.cells #[.int .i64 a, .int .i64 (1 + (b : Int)), .int .i64 c, .int .i64 0, .int .i64 0] 29))
 have C5 := Lib.hid (c3.alloc (.cells #[.int .i64 a, .int .i64 (1 + (b : Int)), .int .i64 c, .int .i64 0, .int .i64 0] 29))
 have Q5 := Lib.hid (box_on q3 (bal1 w3 (.cells #[.int .i64 a, .int .i64 (1 + (b : Int)), .int .i64 c, .int .i64 0, .int .i64 0] 29)))
 have K5 := Lib.hid (al1 w3 (.cells #[.int .i64 a, .int .i64 (1 + (b : Int)), .int .i64 c, .int .i64 0, .int .i64 0] 29))
 clear H G3 Q3 q3 G4 c3 g3 hcm hcc
 by_cases hc1 : c = 1
 ·subst hc1
  go_wp2_with fail
  refine (l1Below_any p 24 _ C5.out (by omega) (by omega)).mono ?_
  rintro r w6 ⟨d, hd, rfl, c6, g6⟩
  have q6 := box_grows Q5.out g6 (by omega)
  have k6 := box_grows K5.out g6 (by omega)
  have G6 := Lib.hid (only_trans G5.out g6)
  have C6 := Lib.hid c6
  have hz6 := g6.size
  rw [World.size_alloc] at hz6
  obtain ⟨y0, y1, y2, y3, y4, y5⟩ := box5 k6
  have hp6 := c6.lt
  have k7 := box_set (i := 3) (u := .int .i64 (d : Int)) k6
  have q7 := box_far (j := 3) (u := .int .i64 (d : Int)) q6 (show w.heap.size ≠ w3.heap.size by omega)
  have G7 := Lib.hid (only_setNew (j := 3) G6.out (show w.heap.size ≤ w3.heap.size by omega) (.int .i64 (d : Int)))
  have C7 := Lib.hid (c6.setNew (j := 3) (show p < w3.heap.size by omega) (.int .i64 (d : Int)))
  have K7 := Lib.hid k7
  have Q7 := Lib.hid q7
  clear k6 q6 k7 q7 G5 C5 Q5 K5 c6 g6 G6 C6
  go_upto_region 4 with (fail)
  generalize w6.setCell ⟨w3.heap.size, 3, none⟩ (.int .i64 (d : Int)) = w7 at *
  have hz7 : w3.heap.size < w7.heap.size := (Array.getElem?_eq_some_iff.1 K7.out).1
  clear y0 y1 y2 y3 y4 y5
  have H := Lib.hid (l1Int_any p w7.heap.size 4 genList (w7.alloc (.cells (genList.map (.int .i64 ·)).toArray 3)) (C7.out.alloc _) (Lies.new w7 _ _) (by simp) (by omega) (by decide) (by decide))
  have G8 := Lib.hid (only_alloc G7.out (.cells (genList.map (.int .i64 ·)).toArray 3))
  have Q8 := Lib.hid (box_on Q7.out (bal1 w7 (.cells (genList.map (.int .i64 ·)).toArray 3)))
  have K8 := Lib.hid (box_on K7.out (bal1 w7 (.cells (genList.map (.int .i64 ·)).toArray 3)))
  clear G7 C7 K7 Q7
  go_wp2_with fail
  refine H.out.mono ?_
  rintro r w8 ⟨e, hem, rfl, c8, g8⟩
  have hee := genList_ok e hem
  have HEE := Lib.hid hee
  have q8 := box_grows Q8.out g8 (by omega)
  have k8 := box_grows K8.out g8 (by omega)
  have G9 := Lib.hid (only_trans G8.out g8)
  have C9 := Lib.hid c8
  obtain ⟨y0, y1, y2, y3, y4, y5⟩ := box5 k8
  obtain ⟨x0, x1, x2, x3, x4, x5⟩ := box5 q8
  have hne : ¬ w.heap.size = w3.heap.size := by omega
  have hp8 := c8.lt
  have FIN : Hid (∀ u, w.grownBy (((((((w8.setCell ⟨w3.heap.size, 4, none⟩ u).setCell ⟨w.heap.size, 0, none⟩ (.int .i64 a)).setCell ⟨w.heap.size, 1, none⟩ (.int .i64 (1 + (b : Int)))).setCell ⟨w.heap.size, 2, none⟩ (.int .i64 1)).setCell ⟨w.heap.size, 3, none⟩ (.int .i64 (d : Int))).setCell ⟨w.heap.size, 4, none⟩ u)) (some p) ∧ Cur (((((((w8.setCell ⟨w3.heap.size, 4, none⟩ u).setCell ⟨w.heap.size, 0, none⟩ (.int .i64 a)).setCell ⟨w.heap.size, 1, none⟩ (.int .i64 (1 + (b : Int)))).setCell ⟨w.heap.size, 2, none⟩ (.int .i64 1)).setCell ⟨w.heap.size, 3, none⟩ (.int .i64 (d : Int))).setCell ⟨w.heap.size, 4, none⟩ u)) p) := Lib.hid (fun u => ⟨only_setNew (only_setNew (only_setNew (only_setNew (only_setNew (only_setNew G9.out (by omega) _) (Nat.le_refl _) _) (Nat.le_refl _) _) (Nat.le_refl _) _) (Nat.le_refl _) _) (Nat.le_refl _) _, (((((c8.setNew (by omega) _).setNew hlt _).setNew hlt _).setNew hlt _).setNew hlt _).setNew hlt _⟩)
  have OKK : Hid (SmallK a (1 + (b : Int)) 1 (d : Int) e) := Lib.hid ⟨by omega, by omega, by simp [keyOkB, tgtB]; omega⟩
  clear k8 q8 g8 c8 hem hee H
  go_wp2
  refine bodyPost_ret (v := keyV a (1 + (b : Int)) 1 d e) (by simp [results, Tryz.results70, go_sem, keyV, *]) rfl ⟨_, _, _, _, _, rfl, OKK.out, (FIN.out _).2, (FIN.out _).1⟩
 ·have e1 : (c == 1) = false := by simp [hc1]
  have OKK : Hid (SmallK a (1 + (b : Int)) c 0 0) := Lib.hid ⟨by omega, by omega, by
   have h2 : c = 0 ∨ c = 2 := by have := HCC.out; omega
   simp [keyOkB, tgtB, hc1, h2]; omega⟩
  obtain ⟨y0, y1, y2, y3, y4, y5⟩ := box5 K5.out
  obtain ⟨x0, x1, x2, x3, x4, x5⟩ := box5 Q5.out
  have hne : ¬ w.heap.size = w3.heap.size := by omega
  clear hc1
  go_upto_region 5 with (fail)
  generalize w3.alloc (.cells #[.int .i64 a, .int .i64 (1 + (b : Int)), .int .i64 c, .int .i64 0, .int .i64 0] 29) = w5 at *
  have FIN : Hid (w.grownBy (((((w5.setCell ⟨w.heap.size, 0, none⟩ (.int .i64 a)).setCell ⟨w.heap.size, 1, none⟩ (.int .i64 (1 + (b : Int)))).setCell ⟨w.heap.size, 2, none⟩ (.int .i64 c)).setCell ⟨w.heap.size, 3, none⟩ (.int .i64 0)).setCell ⟨w.heap.size, 4, none⟩ (.int .i64 0)) (some p) ∧ Cur (((((w5.setCell ⟨w.heap.size, 0, none⟩ (.int .i64 a)).setCell ⟨w.heap.size, 1, none⟩ (.int .i64 (1 + (b : Int)))).setCell ⟨w.heap.size, 2, none⟩ (.int .i64 c)).setCell ⟨w.heap.size, 3, none⟩ (.int .i64 0)).setCell ⟨w.heap.size, 4, none⟩ (.int .i64 0)) p) := Lib.hid ⟨only_setNew (only_setNew (only_setNew (only_setNew (only_setNew G5.out (Nat.le_refl _) _) (Nat.le_refl _) _) (Nat.le_refl _) _) (Nat.le_refl _) _) (Nat.le_refl _) _, ((((C5.out.setNew hlt _).setNew hlt _).setNew hlt _).setNew hlt _).setNew hlt _⟩
  go_wp2
  exact bodyPost_ret (v := keyV a (1 + (b : Int)) c 0 0) (by simp [results, Tryz.results70, go_sem, keyV, *]) rfl ⟨_, _, _, _, _, rfl, OKK.out, FIN.out.2, FIN.out.1⟩
end Go.Proofs.YthopkhpiikiknaaGreat
namespace Go.Proofs.YthopkhpiikiknaaGreat
open Go.RowKit
set_option maxRecDepth 100000
set_option linter.unusedSimpArgs false
set_option linter.unusedVariables false

set_option maxHeartbeats 4000000 in
theorem l3Any_any (p : Nat) (w : World) (hc : Cur w p) : Calls Tryz.prog 62 #[.pointer (some ⟨p, 0, none⟩)] w (AnyKey w p) := by
 have hlt := hc.lt
 have q0 := Lib.hid (al1 w (.cells #[.int .i64 0, .int .i64 0, .int .i64 0, .int .i64 0, .int .i64 0] 29))
 have G0 := Lib.hid (only_start w (.cells #[.int .i64 0, .int .i64 0, .int .i64 0, .int .i64 0, .int .i64 0] 29) (some p))
 have C0 := Lib.hid (hc.alloc (.cells #[.int .i64 0, .int .i64 0, .int .i64 0, .int .i64 0, .int .i64 0] 29))
 clear hc
 go_enter Tryz.func62, Tryz.ntmps62
 go_wp2_with fail
 refine (l3Draw_any p _ C0.out).mono ?_
 rintro r w1 ⟨a, b, c, d, e, rfl, _, c1, g1⟩
 unfold keyV
 have q1 := box_grows q0.out g1 (by omega)
 have hz1 : w.heap.size < w1.heap.size := (Array.getElem?_eq_some_iff.1 q1).1
 have hp1 := c1.lt
 have Q2 := Lib.hid (box_on q1 (bal1 w1 (.cells #[.int .i64 a, .int .i64 b, .int .i64 c, .int .i64 d, .int .i64 e] 29)))
 have K2 := Lib.hid (al1 w1 (.cells #[.int .i64 a, .int .i64 b, .int .i64 c, .int .i64 d, .int .i64 e] 29))
 have G2 := Lib.hid (only_alloc (only_trans G0.out g1) (.cells #[.int .i64 a, .int .i64 b, .int .i64 c, .int .i64 d, .int .i64 e] 29))
 have C2 := Lib.hid (c1.alloc (.cells #[.int .i64 a, .int .i64 b, .int .i64 c, .int .i64 d, .int .i64 e] 29))
 clear q0 G0 C0 q1 c1 g1
 go_wp2_with fail
 refine (l1Below_any p 12 _ C2.out (by omega) (by omega)).mono ?_
 rintro r w3 ⟨j, hj, rfl, c3, g3⟩
 have Q3 := Lib.hid (box_grows Q2.out g3 (by omega))
 have K3 := Lib.hid (box_grows K2.out g3 (by omega))
 have G3 := Lib.hid (only_trans G2.out g3)
 have C3 := Lib.hid c3
 have hz3 : w1.heap.size < w3.heap.size := (Array.getElem?_eq_some_iff.1 K3.out).1
 have hp3 := c3.lt
 have hne : ¬ w.heap.size = w1.heap.size := by omega
 clear Q2 K2 G2 C2 c3 g3
 by_cases h5 : j < 5
 ·have h5' : j = 0 ∨ j = 1 ∨ j = 2 ∨ j = 3 ∨ j = 4 := by omega
  clear h5 hj
  rcases h5' with rfl | rfl | rfl | rfl | rfl
  ·-- field 0
   have H := Lib.hid (l1Int_any p w3.heap.size 3 ([-1, 15, 16] : List Int) (w3.alloc (.cells (([-1, 15, 16] : List Int).map (.int .i64 ·)).toArray 3)) (C3.out.alloc _) (Lies.new w3 _ _) (by simp) (by omega) (by decide) (by decide))
   have G4 := Lib.hid (only_alloc G3.out (.cells (([-1, 15, 16] : List Int).map (.int .i64 ·)).toArray 3))
   have Q4 := Lib.hid (box_on Q3.out (bal1 w3 (.cells (([-1, 15, 16] : List Int).map (.int .i64 ·)).toArray 3)))
   have K4 := Lib.hid (box_on K3.out (bal1 w3 (.cells (([-1, 15, 16] : List Int).map (.int .i64 ·)).toArray 3)))
   go_wp2_with fail
   refine H.out.mono ?_
   rintro r w5 ⟨u, _, rfl, c5, g5⟩
   have q5 := box_grows Q4.out g5 (by omega)
   have k5 := box_grows K4.out g5 (by omega)
   have G5 := Lib.hid (only_trans G4.out g5)
   obtain ⟨y0, y1, y2, y3, y4, y5⟩ := box5 k5
   obtain ⟨x0, x1, x2, x3, x4, x5⟩ := box5 q5
   have FIN : Hid (w.grownBy ((((((w5.setCell ⟨w1.heap.size, 0, none⟩ (.int .i64 u)).setCell ⟨w.heap.size, 0, none⟩ (.int .i64 u)).setCell ⟨w.heap.size, 1, none⟩ (.int .i64 b)).setCell ⟨w.heap.size, 2, none⟩ (.int .i64 c)).setCell ⟨w.heap.size, 3, none⟩ (.int .i64 d)).setCell ⟨w.heap.size, 4, none⟩ (.int .i64 e)) (some p) ∧ Cur ((((((w5.setCell ⟨w1.heap.size, 0, none⟩ (.int .i64 u)).setCell ⟨w.heap.size, 0, none⟩ (.int .i64 u)).setCell ⟨w.heap.size, 1, none⟩ (.int .i64 b)).setCell ⟨w.heap.size, 2, none⟩ (.int .i64 c)).setCell ⟨w.heap.size, 3, none⟩ (.int .i64 d)).setCell ⟨w.heap.size, 4, none⟩ (.int .i64 e)) p) := Lib.hid ⟨only_setNew (only_setNew (only_setNew (only_setNew (only_setNew (only_setNew G5.out (show w.heap.size ≤ w1.heap.size by omega) _) (Nat.le_refl _) _) (Nat.le_refl _) _) (Nat.le_refl _) _) (Nat.le_refl _) _) (Nat.le_refl _) _, ((((((((((c5.setNew (show p < w1.heap.size by omega) _).setNew hlt _)).setNew hlt _)).setNew hlt _)).setNew hlt _)).setNew hlt _)⟩
   clear H G4 Q4 K4 q5 k5 G5 c5 g5
   go_wp2
   exact bodyPost_ret (v := keyV u b c d e) (by simp [results, Tryz.results62, go_sem, keyV, *]) rfl ⟨_, _, _, _, _, rfl, FIN.out.2, FIN.out.1⟩
  ·-- field 1
   have H := Lib.hid (l1Int_any p w3.heap.size 3 ([0, 60, 61] : List Int) (w3.alloc (.cells (([0, 60, 61] : List Int).map (.int .i64 ·)).toArray 3)) (C3.out.alloc _) (Lies.new w3 _ _) (by simp) (by omega) (by decide) (by decide))
   have G4 := Lib.hid (only_alloc G3.out (.cells (([0, 60, 61] : List Int).map (.int .i64 ·)).toArray 3))
   have Q4 := Lib.hid (box_on Q3.out (bal1 w3 (.cells (([0, 60, 61] : List Int).map (.int .i64 ·)).toArray 3)))
   have K4 := Lib.hid (box_on K3.out (bal1 w3 (.cells (([0, 60, 61] : List Int).map (.int .i64 ·)).toArray 3)))
   go_wp2_with fail
   refine H.out.mono ?_
   rintro r w5 ⟨u, _, rfl, c5, g5⟩
   have q5 := box_grows Q4.out g5 (by omega)
   have k5 := box_grows K4.out g5 (by omega)
   have G5 := Lib.hid (only_trans G4.out g5)
   obtain ⟨y0, y1, y2, y3, y4, y5⟩ := box5 k5
   obtain ⟨x0, x1, x2, x3, x4, x5⟩ := box5 q5
   have FIN : Hid (w.grownBy ((((((w5.setCell ⟨w1.heap.size, 1, none⟩ (.int .i64 u)).setCell ⟨w.heap.size, 0, none⟩ (.int .i64 a)).setCell ⟨w.heap.size, 1, none⟩ (.int .i64 u)).setCell ⟨w.heap.size, 2, none⟩ (.int .i64 c)).setCell ⟨w.heap.size, 3, none⟩ (.int .i64 d)).setCell ⟨w.heap.size, 4, none⟩ (.int .i64 e)) (some p) ∧ Cur ((((((w5.setCell ⟨w1.heap.size, 1, none⟩ (.int .i64 u)).setCell ⟨w.heap.size, 0, none⟩ (.int .i64 a)).setCell ⟨w.heap.size, 1, none⟩ (.int .i64 u)).setCell ⟨w.heap.size, 2, none⟩ (.int .i64 c)).setCell ⟨w.heap.size, 3, none⟩ (.int .i64 d)).setCell ⟨w.heap.size, 4, none⟩ (.int .i64 e)) p) := Lib.hid ⟨only_setNew (only_setNew (only_setNew (only_setNew (only_setNew (only_setNew G5.out (show w.heap.size ≤ w1.heap.size by omega) _) (Nat.le_refl _) _) (Nat.le_refl _) _) (Nat.le_refl _) _) (Nat.le_refl _) _) (Nat.le_refl _) _, ((((((((((c5.setNew (show p < w1.heap.size by omega) _).setNew hlt _)).setNew hlt _)).setNew hlt _)).setNew hlt _)).setNew hlt _)⟩
   clear H G4 Q4 K4 q5 k5 G5 c5 g5
   go_wp2
   exact bodyPost_ret (v := keyV a u c d e) (by simp [results, Tryz.results62, go_sem, keyV, *]) rfl ⟨_, _, _, _, _, rfl, FIN.out.2, FIN.out.1⟩
  ·-- field 2
   have H := Lib.hid (l1Int_any p w3.heap.size 2 ([-1, 3] : List Int) (w3.alloc (.cells (([-1, 3] : List Int).map (.int .i64 ·)).toArray 3)) (C3.out.alloc _) (Lies.new w3 _ _) (by simp) (by omega) (by decide) (by decide))
   have G4 := Lib.hid (only_alloc G3.out (.cells (([-1, 3] : List Int).map (.int .i64 ·)).toArray 3))
   have Q4 := Lib.hid (box_on Q3.out (bal1 w3 (.cells (([-1, 3] : List Int).map (.int .i64 ·)).toArray 3)))
   have K4 := Lib.hid (box_on K3.out (bal1 w3 (.cells (([-1, 3] : List Int).map (.int .i64 ·)).toArray 3)))
   go_wp2_with fail
   refine H.out.mono ?_
   rintro r w5 ⟨u, _, rfl, c5, g5⟩
   have q5 := box_grows Q4.out g5 (by omega)
   have k5 := box_grows K4.out g5 (by omega)
   have G5 := Lib.hid (only_trans G4.out g5)
   obtain ⟨y0, y1, y2, y3, y4, y5⟩ := box5 k5
   obtain ⟨x0, x1, x2, x3, x4, x5⟩ := box5 q5
   have FIN : Hid (w.grownBy ((((((w5.setCell ⟨w1.heap.size, 2, none⟩ (.int .i64 u)).setCell ⟨w.heap.size, 0, none⟩ (.int .i64 a)).setCell ⟨w.heap.size, 1, none⟩ (.int .i64 b)).setCell ⟨w.heap.size, 2, none⟩ (.int .i64 u)).setCell ⟨w.heap.size, 3, none⟩ (.int .i64 d)).setCell ⟨w.heap.size, 4, none⟩ (.int .i64 e)) (some p) ∧ Cur ((((((w5.setCell ⟨w1.heap.size, 2, none⟩ (.int .i64 u)).setCell ⟨w.heap.size, 0, none⟩ (.int .i64 a)).setCell ⟨w.heap.size, 1, none⟩ (.int .i64 b)).setCell ⟨w.heap.size, 2, none⟩ (.int .i64 u)).setCell ⟨w.heap.size, 3, none⟩ (.int .i64 d)).setCell ⟨w.heap.size, 4, none⟩ (.int .i64 e)) p) := Lib.hid ⟨only_setNew (only_setNew (only_setNew (only_setNew (only_setNew (only_setNew G5.out (show w.heap.size ≤ w1.heap.size by omega) _) (Nat.le_refl _) _) (Nat.le_refl _) _) (Nat.le_refl _) _) (Nat.le_refl _) _) (Nat.le_refl _) _, ((((((((((c5.setNew (show p < w1.heap.size by omega) _).setNew hlt _)).setNew hlt _)).setNew hlt _)).setNew hlt _)).setNew hlt _)⟩
   clear H G4 Q4 K4 q5 k5 G5 c5 g5
   go_wp2
   exact bodyPost_ret (v := keyV a b u d e) (by simp [results, Tryz.results62, go_sem, keyV, *]) rfl ⟨_, _, _, _, _, rfl, FIN.out.2, FIN.out.1⟩
  ·-- field 3
   have H := Lib.hid (l1Int_any p w3.heap.size 4 ([-1, 1, 23, 24] : List Int) (w3.alloc (.cells (([-1, 1, 23, 24] : List Int).map (.int .i64 ·)).toArray 3)) (C3.out.alloc _) (Lies.new w3 _ _) (by simp) (by omega) (by decide) (by decide))
   have G4 := Lib.hid (only_alloc G3.out (.cells (([-1, 1, 23, 24] : List Int).map (.int .i64 ·)).toArray 3))
   have Q4 := Lib.hid (box_on Q3.out (bal1 w3 (.cells (([-1, 1, 23, 24] : List Int).map (.int .i64 ·)).toArray 3)))
   have K4 := Lib.hid (box_on K3.out (bal1 w3 (.cells (([-1, 1, 23, 24] : List Int).map (.int .i64 ·)).toArray 3)))
   go_wp2_with fail
   refine H.out.mono ?_
   rintro r w5 ⟨u, _, rfl, c5, g5⟩
   have q5 := box_grows Q4.out g5 (by omega)
   have k5 := box_grows K4.out g5 (by omega)
   have G5 := Lib.hid (only_trans G4.out g5)
   obtain ⟨y0, y1, y2, y3, y4, y5⟩ := box5 k5
   obtain ⟨x0, x1, x2, x3, x4, x5⟩ := box5 q5
   have FIN : Hid (w.grownBy ((((((w5.setCell ⟨w1.heap.size, 3, none⟩ (.int .i64 u)).setCell ⟨w.heap.size, 0, none⟩ (.int .i64 a)).setCell ⟨w.heap.size, 1, none⟩ (.int .i64 b)).setCell ⟨w.heap.size, 2, none⟩ (.int .i64 c)).setCell ⟨w.heap.size, 3, none⟩ (.int .i64 u)).setCell ⟨w.heap.size, 4, none⟩ (.int .i64 e)) (some p) ∧ Cur ((((((w5.setCell ⟨w1.heap.size, 3, none⟩ (.int .i64 u)).setCell ⟨w.heap.size, 0, none⟩ (.int .i64 a)).setCell ⟨w.heap.size, 1, none⟩ (.int .i64 b)).setCell ⟨w.heap.size, 2, none⟩ (.int .i64 c)).setCell ⟨w.heap.size, 3, none⟩ (.int .i64 u)).setCell ⟨w.heap.size, 4, none⟩ (.int .i64 e)) p) := Lib.hid ⟨only_setNew (only_setNew (only_setNew (only_setNew (only_setNew (only_setNew G5.out (show w.heap.size ≤ w1.heap.size by omega) _) (Nat.le_refl _) _) (Nat.le_refl _) _) (Nat.le_refl _) _) (Nat.le_refl _) _) (Nat.le_refl _) _, ((((((((((c5.setNew (show p < w1.heap.size by omega) _).setNew hlt _)).setNew hlt _)).setNew hlt _)).setNew hlt _)).setNew hlt _)⟩
   clear H G4 Q4 K4 q5 k5 G5 c5 g5
   go_wp2
   exact bodyPost_ret (v := keyV a b c u e) (by simp [results, Tryz.results62, go_sem, keyV, *]) rfl ⟨_, _, _, _, _, rfl, FIN.out.2, FIN.out.1⟩
  ·-- field 4
   have H := Lib.hid (l1Int_any p w3.heap.size 4 ([-1, 1, 999, 1000] : List Int) (w3.alloc (.cells (([-1, 1, 999, 1000] : List Int).map (.int .i64 ·)).toArray 3)) (C3.out.alloc _) (Lies.new w3 _ _) (by simp) (by omega) (by decide) (by decide))
   have G4 := Lib.hid (only_alloc G3.out (.cells (([-1, 1, 999, 1000] : List Int).map (.int .i64 ·)).toArray 3))
   have Q4 := Lib.hid (box_on Q3.out (bal1 w3 (.cells (([-1, 1, 999, 1000] : List Int).map (.int .i64 ·)).toArray 3)))
   have K4 := Lib.hid (box_on K3.out (bal1 w3 (.cells (([-1, 1, 999, 1000] : List Int).map (.int .i64 ·)).toArray 3)))
   go_wp2_with fail
   refine H.out.mono ?_
   rintro r w5 ⟨u, _, rfl, c5, g5⟩
   have q5 := box_grows Q4.out g5 (by omega)
   have k5 := box_grows K4.out g5 (by omega)
   have G5 := Lib.hid (only_trans G4.out g5)
   obtain ⟨y0, y1, y2, y3, y4, y5⟩ := box5 k5
   obtain ⟨x0, x1, x2, x3, x4, x5⟩ := box5 q5
   have FIN : Hid (w.grownBy ((((((w5.setCell ⟨w1.heap.size, 4, none⟩ (.int .i64 u)).setCell ⟨w.heap.size, 0, none⟩ (.int .i64 a)).setCell ⟨w.heap.size, 1, none⟩ (.int .i64 b)).setCell ⟨w.heap.size, 2, none⟩ (.int .i64 c)).setCell ⟨w.heap.size, 3, none⟩ (.int .i64 d)).setCell ⟨w.heap.size, 4, none⟩ (.int .i64 u)) (some p) ∧ Cur ((((((w5.setCell ⟨w1.heap.size, 4, none⟩ (.int .i64 u)).setCell ⟨w.heap.size, 0, none⟩ (.int .i64 a)).setCell ⟨w.heap.size, 1, none⟩ (.int .i64 b)).setCell ⟨w.heap.size, 2, none⟩ (.int .i64 c)).setCell ⟨w.heap.size, 3, none⟩ (.int .i64 d)).setCell ⟨w.heap.size, 4, none⟩ (.int .i64 u)) p) := Lib.hid ⟨only_setNew (only_setNew (only_setNew (only_setNew (only_setNew (only_setNew G5.out (show w.heap.size ≤ w1.heap.size by omega) _) (Nat.le_refl _) _) (Nat.le_refl _) _) (Nat.le_refl _) _) (Nat.le_refl _) _) (Nat.le_refl _) _, ((((((((((c5.setNew (show p < w1.heap.size by omega) _).setNew hlt _)).setNew hlt _)).setNew hlt _)).setNew hlt _)).setNew hlt _)⟩
   clear H G4 Q4 K4 q5 k5 G5 c5 g5
   go_wp2
   exact bodyPost_ret (v := keyV a b c d u) (by simp [results, Tryz.results62, go_sem, keyV, *]) rfl ⟨_, _, _, _, _, rfl, FIN.out.2, FIN.out.1⟩
 ·have e0 : ((j : Int) == 0) = false := by simp; omega
  have e1 : ((j : Int) == 1) = false := by simp; omega
  have e2 : ((j : Int) == 2) = false := by simp; omega
  have e3 : ((j : Int) == 3) = false := by simp; omega
  have e4 : ((j : Int) == 4) = false := by simp; omega
  obtain ⟨y0, y1, y2, y3, y4, y5⟩ := box5 K3.out
  obtain ⟨x0, x1, x2, x3, x4, x5⟩ := box5 Q3.out
  have FIN : Hid (w.grownBy (((((w3.setCell ⟨w.heap.size, 0, none⟩ (.int .i64 a)).setCell ⟨w.heap.size, 1, none⟩ (.int .i64 b)).setCell ⟨w.heap.size, 2, none⟩ (.int .i64 c)).setCell ⟨w.heap.size, 3, none⟩ (.int .i64 d)).setCell ⟨w.heap.size, 4, none⟩ (.int .i64 e)) (some p) ∧ Cur (((((w3.setCell ⟨w.heap.size, 0, none⟩ (.int .i64 a)).setCell ⟨w.heap.size, 1, none⟩ (.int .i64 b)).setCell ⟨w.heap.size, 2, none⟩ (.int .i64 c)).setCell ⟨w.heap.size, 3, none⟩ (.int .i64 d)).setCell ⟨w.heap.size, 4, none⟩ (.int .i64 e)) p) := Lib.hid ⟨only_setNew (only_setNew (only_setNew (only_setNew (only_setNew (G3.out) (Nat.le_refl _) _) (Nat.le_refl _) _) (Nat.le_refl _) _) (Nat.le_refl _) _) (Nat.le_refl _) _, ((((((((((C3.out).setNew hlt _)).setNew hlt _)).setNew hlt _)).setNew hlt _)).setNew hlt _)⟩
  clear h5 hj Q3 K3
  go_wp2
  exact bodyPost_ret (v := keyV a b c d e) (by simp [results, Tryz.results62, go_sem, keyV, *]) rfl ⟨_, _, _, _, _, rfl, FIN.out.2, FIN.out.1⟩
end Go.Proofs.YthopkhpiikiknaaGreat
namespace Go.Proofs.YthopkhpiikiknaaGreat
open Go.RowKit
set_option maxRecDepth 100000
set_option linter.unusedSimpArgs false
set_option linter.unusedVariables false

def GoodS (l : List KeyD) : Prop := Asc l ∧ l.all okK = true
def ASet (w : World) (p n : Nat) (e : Ending) (w' : World) : Prop := ∃ v l, e = .returned v ∧ RowK w' w.heap.size v l ∧ GoodS l ∧ l.length ≤ n ∧ Cur w' p ∧ w.grownBy w' (some p)
theorem RowK.farP {w w' : World} {p base : Nat} {v : Value} {l : List KeyD} (h : RowK w base v l) (hg : w.grownBy w' (some p)) (hp : p < base) : RowK w' base v l :=
 h.keep (fun g hg' => hg.block g (h.lt g hg').1 (fun e => by injection e with e; have := (h.lt g hg').2; omega))
theorem grown_on {w a b : World} {row : Option Nat} (h : w.grownBy a row) (hb : Below w.heap.size a b) : w.grownBy b row :=
 ⟨hb.os.trans h.os, hb.tape.trans h.tape, hb.output.trans h.output, Nat.le_trans h.size hb.size, fun i hi hne => (hb.block i hi).trans (h.block i hi hne)⟩
theorem Cur.under {a b : World} {p B : Nat} (h : Cur a p) (hb : Below B a b) (hp : p < B) : Cur b p := h.keep (fun k hk => hb.block k (by omega))
set_option maxHeartbeats 1000000 in
theorem l4Draw_any (p n : Nat) (w : World) (hc : Cur w p) (hn : n ≤ 100) : Calls Tryz.prog 120 #[.pointer (some ⟨p, 0, none⟩), .int .i64 (n : Int)] w (ASet w p n) := by
 have hlt := hc.lt
 have HD := Lib.hid l3Draw_any
 have HS := Lib.hid specSetPut_any
 unfold AKey keyV at HD
 unfold KeyD.v keyV at HS
 have C0 := Lib.hid (hc.alloc (.cells #[] 29))
 have G0 := Lib.hid (only_start w (.cells #[] 29) (some p))
 have R0 := Lib.hid (RowK.lit w)
 have i0 : IntKind.i64.wrap ((n : Int) + 1) = (n : Int) + 1 := by rw [IntKind.wrap_i64]; omega
 clear hc
 go_enter Tryz.func120, Tryz.ntmps120
 go_wp2_with fail
 refine (l1Below_any p ((n : Int) + 1) _ C0.out (by omega) (by omega)).mono ?_
 rintro r w1 ⟨j, hj, rfl, c1, g1⟩
 have R1 := Lib.hid (R0.out.farP g1 hlt)
 have C1 := Lib.hid c1
 have G1 := Lib.hid (only_trans G0.out g1)
 clear c1 g1 R0 C0 G0
 go_wp2
 go_loopw [5, 6] (fun o i wr => ∃ (k : Nat) (l : List KeyD), i = .int .i64 k ∧ Hid (l.length + k ≤ n) ∧ Hid (GoodS l) ∧ Hid (RowK wr w.heap.size o l) ∧ Hid (Cur wr p) ∧ Hid (w.grownBy wr (some p))) (fun _ i _ => (intOf i).toNat)
 case atStart => exact ⟨j, [], rfl, Lib.hid (by simp; omega), Lib.hid ⟨.nil, rfl⟩, R1, C1, G1⟩
 case round =>
  clear R1 C1 G1 hj
  obtain ⟨k, l, rfl, HL, HG, HR, HC, HW⟩ := hrel
  obtain ⟨Ao, co, rfl, _, _⟩ := HR.out.shape
  rcases k with _ | k
  ·go_wp2
   go_ret
   exact ⟨_, l, rfl, HR.out, HG.out, by have := HL.out; omega, HC.out, HW.out⟩
  ·have i1 : (0 : Int) < (k : Int) + 1 := by omega
   have i2 : IntKind.i64.wrap ((k : Int) + 1 - 1) = (k : Int) := by rw [IntKind.wrap_i64]; have := HL.out; omega
   have i3 : IntKind.i64.wrap (k : Int) = (k : Int) := by rw [IntKind.wrap_i64]; have := HL.out; omega
   go_wp2_with fail
   refine (HD.out p _ HC.out).mono ?_
   rintro r w2 ⟨a, b, c, d, e, rfl, sm, c2, g2⟩
   have R2 := Lib.hid (HR.out.farP g2 hlt)
   have C2 := Lib.hid c2
   have G2 := Lib.hid (only_trans HW.out g2)
   have OK := Lib.hid (show okK ⟨a, b, c, d, e⟩ = true from sm.2.2)
   clear c2 g2 sm HR HC HW
   go_wp2_with fail
   refine (HS.out _ l ⟨a, b, c, d, e⟩ _ R2.out.owns.reads (by have := HL.out; omega)).mono ?_
   rintro r w3 ⟨v3, rfl, o3, b3⟩
   have R3 := Lib.hid (o3.mono (base' := w.heap.size) G2.out.size)
   have C3 := Lib.hid (C2.out.on b3)
   have G3 := Lib.hid (grown_on G2.out (b3.mono G2.out.size))
   have L3 := Lib.hid (show (putK l ⟨a, b, c, d, e⟩).length + k ≤ n by have := putK_len l ⟨a, b, c, d, e⟩; have := HL.out; omega)
   have GG := Lib.hid (show GoodS (putK l ⟨a, b, c, d, e⟩) from ⟨HG.out.1.put _, ok_put HG.out.2 OK.out⟩)
   clear o3 b3 R2 C2 G2
   go_wp2
   go_roundw
   case rel => exact ⟨k, putK l ⟨a, b, c, d, e⟩, by go_num, L3, GG, R3, C3, G3⟩
   case measure => simp [intOf]
def AList (w : World) (p n : Nat) (e : Ending) (w' : World) : Prop := ∃ v l, e = .returned v ∧ RowK w' w.heap.size v l ∧ l.length ≤ n ∧ Cur w' p ∧ w.grownBy w' (some p)
theorem five0 {w : World} {g cap : Nat} {l : List KeyD} (h : RwK w g cap l) (h1 : 0 < l.length) : Five w g 0 l[0] := by
 have hl := kvl_len l
 have hc : ∀ j (hj : j < 5), w.cell? ⟨g, j, none⟩ = (kX l[0])[j]? := fun j hj => by
  rw [Rw.cell h (i := j) (by omega)]
  obtain ⟨x, t, rfl⟩ := List.exists_cons_of_length_pos h1
  rw [List.getElem?_eq_getElem (by simp [kX]; omega)]
  have : kvl (x :: t) = kX x ++ kvl t := rfl
  simp only [this]
  rw [List.getElem_append_left (by simp [kX]; omega)]
  rfl
 exact ⟨hc 0 (by omega), hc 1 (by omega), hc 2 (by omega), hc 3 (by omega), hc 4 (by omega)⟩
theorem five1 {w : World} {g cap : Nat} {l : List KeyD} (h : RwK w g cap l) (h1 : 1 < l.length) : Five w g 5 l[1] := by
 have hl := kvl_len l
 have hc : ∀ j (hj : j < 5), w.cell? ⟨g, 5 + j, none⟩ = (kX l[1])[j]? := fun j hj => by
  rw [Rw.cell h (i := 5 + j) (by omega)]
  match l, h1 with
  |x :: y :: t, _ =>
   rw [List.getElem?_eq_getElem (by simp [kX]; omega)]
   have : kvl (x :: y :: t) = kX x ++ (kX y ++ kvl t) := rfl
   simp only [this]
   rw [List.getElem_append_right (by simp [kX]), List.getElem_append_left (by simp [kX]; omega)]
   simp [kX]
 exact ⟨hc 0 (by omega), hc 1 (by omega), hc 2 (by omega), hc 3 (by omega), hc 4 (by omega)⟩
end Go.Proofs.YthopkhpiikiknaaGreat
namespace Go.Proofs.YthopkhpiikiknaaGreat
open Go.RowKit
set_option maxRecDepth 100000
set_option linter.unusedSimpArgs false
set_option linter.unusedVariables false

theorem RowK.rwK {w : World} {base : Nat} {v : Value} {l : List KeyD} (h : RowK w base v l) : (v = .slice none 0 0 ∧ l = []) ∨ ∃ g cap, v = .slice (some ⟨g, 0, none⟩) l.length cap ∧ base ≤ g ∧ RwK w g cap l ∧ l.length ≤ cap ∧ cap ≤ maxLen := h.owns.rwK
set_option maxHeartbeats 1000000 in
theorem l4Any_any (p n : Nat) (w : World) (hc : Cur w p) (hn : n ≤ 100) : Calls Tryz.prog 114 #[.pointer (some ⟨p, 0, none⟩), .int .i64 (n : Int)] w (AList w p (n + 1)) := by
 have hlt := hc.lt
 have HA := Lib.hid l3Any_any
 unfold AnyKey keyV at HA
 go_enter Tryz.func114, Tryz.ntmps114
 go_wp2_with fail
 refine (l4Draw_any p n _ hc hn).mono ?_
 rintro r w1 ⟨v, l, rfl, o1, _, hl, c1, g1⟩
 obtain ⟨A1, d1, rfl, hd1, hd2⟩ := o1.shape
 go_wp2_with fail
 refine (l1Below_any p 8 _ c1 (by omega) (by omega)).mono ?_
 rintro r w2 ⟨j, hj, rfl, c2, g2⟩
 have R2 := Lib.hid (o1.farP g2 hlt)
 have C2 := Lib.hid c2
 have G2 := Lib.hid (only_trans g1 g2)
 clear o1 c1 g1 c2 g2 hc
 rcases j with _ | _ | j
 ·go_upto_region 4 with (fail)
  go_wp2_with fail
  refine (HA.out p _ C2.out).mono ?_
  rintro r w3 ⟨a, b, c, d, e, rfl, c3, g3⟩
  have ba := bal1 w3 (.cells #[.int .i64 a, .int .i64 b, .int .i64 c, .int .i64 d, .int .i64 e] 29)
  have G3 := only_trans G2.out g3
  have HRow := Lib.hid ((R2.out.farP g3 hlt).on ba)
  have HAt := Lib.hid (At.key w3 ⟨a, b, c, d, e⟩ 29)
  have G4 := Lib.hid (grown_on G3 (ba.mono G3.size))
  have C4 := Lib.hid (c3.on ba)
  have HZ := Lib.hid G4.out.size
  clear ba G3 c3 g3 R2 C2 G2
  go_wp2_with (at_builtin; refine wpList_appK _ rfl (.tmp 14) (.tmp 17) rfl w.heap.size _ l rfl HRow.out (some ⟨w3.heap.size, 0, none⟩) 1 1 [⟨a, b, c, d, e⟩] rfl rfl HAt.out (by simp; omega) HZ.out ?_; intro v5 w5 o5 b5; clear HRow HAt)
  go_ret
  exact ⟨_, _, rfl, o5, by simp; omega, C4.out.under b5 hlt, grown_on G4.out b5⟩
 ·by_cases h1 : 1 < l.length
  ·rcases R2.out.rwK with ⟨_, h0⟩ | ⟨g, cap, hv, hg, hR, hcap, hmax⟩
   ·rw [h0] at h1; simp at h1
   ·cases hv
    have i1 : (1 : Int) < (l.length : Int) := by omega
    have i2 : (0 : Int) < (l.length : Int) := by omega
    have F0 := five0 hR (by omega)
    have F1 := five1 hR h1
    obtain ⟨c0, c1, c2, c3, c4⟩ := F0
    obtain ⟨e0, e1, e2, e3, e4⟩ := F1
    have gl := Rw.lt hR
    have hne : ¬ g = w2.heap.size := by omega
    have hfz := Rw.frozen hR
    have f0 := hfz 0
    have f1 := hfz 1
    have f2 := hfz 2
    have f3 := hfz 3
    have f4 := hfz 4
    have f5 := hfz 5
    have f6 := hfz 6
    have f7 := hfz 7
    have f8 := hfz 8
    have f9 := hfz 9
    clear hfz
    have HR := Lib.hid hR
    have HL := Lib.hid hl
    clear hR R2 hl
    have S2 := (HR.out.set (i := 0) (by omega) l[1]).set (i := 1) (by simp; omega) l[0]
    have B2 := b5 (i := 5) (u1 := .int .i64 (l[0]).a) (u2 := .int .i64 (l[0]).b) (u3 := .int .i64 (l[0]).c) (u4 := .int .i64 (l[0]).d) (u5 := .int .i64 (l[0]).e) (b5 (i := 0) (u1 := .int .i64 (l[1]).a) (u2 := .int .i64 (l[1]).b) (u3 := .int .i64 (l[1]).c) (u4 := .int .i64 (l[1]).d) (u5 := .int .i64 (l[1]).e) (Below.refl w.heap.size w2) hg) hg
    have hlen : ((l.set 0 l[1]).set 1 l[0]).length = l.length := by simp
    have O2 := (S2.owns (S := fun b => w.heap.size ≤ b) hg (by rw [hlen]; exact hcap) hmax)
    rw [hlen] at O2
    have R3 := Lib.hid (O2.rowK (base := w.heap.size) (fun b h => h))
    have HB2 := Lib.hid B2
    have HLEN := Lib.hid hlen
    clear S2 O2 B2 hlen
    go_wp2
    go_ret
    refine ⟨_, (l.set 0 l[1]).set 1 l[0], rfl, R3.out.on (bal1 _ _), by rw [HLEN.out]; have := HL.out; omega, (C2.out.under HB2.out hlt).on (bal1 _ _), grown_on (grown_on G2.out HB2.out) ((bal1 _ _).mono (Nat.le_trans G2.out.size HB2.out.size))⟩
  ·have i1 : ¬ (1 : Int) < (l.length : Int) := by omega
   go_wp2
   go_ret
   exact ⟨_, l, rfl, R2.out, by omega, C2.out, G2.out⟩
 ·have e0 : (((j : Int) + 1 + 1) == 0) = false := by simp; omega
  have e1 : (((j : Int) + 1 + 1) == 1) = false := by simp; omega
  go_wp2
  go_ret
  exact ⟨_, l, rfl, R2.out, by omega, C2.out, G2.out⟩
end Go.Proofs.YthopkhpiikiknaaGreat
namespace Go.Proofs.YthopkhpiikiknaaGreat
open Go.RowKit
set_option maxRecDepth 100000
set_option linter.unusedSimpArgs false
set_option linter.unusedVariables false

section
variable {P : Program} {md : Region.Mode} {ops : Array Oper} {Q : Exit → Act → World → Prop} {S : World → Prop} {F : Nat → Bool}
/-- Whatever order is picked from here on; S holds behind each operation but those of F. -/
def anyF (P : Program) (md : Region.Mode) (ops : Array Oper) (Q : Exit → Act → World → Prop) (S : World → Prop) (F : Nat → Bool) : Nat → Array Bool → Act → World → Prop
 |0, listed, a, w => Region.ready md ops listed = [] ∧ Q .normal a w
 |n + 1, listed, a, w => (Region.ready md ops listed = [] → Q .normal a w) ∧ ∀ i ∈ Region.ready md ops listed, wpOp P ops Q i (fun a' w' => (F i = false → S w') ∧ anyF P md ops Q S F n (listed.setIfInBounds i true) a' w') a w
theorem anyF_any : ∀ (n : Nat) (listed : Array Bool) (a : Act) (w : World), anyF P md ops Q S F n listed a w → wpAny P md ops Q n listed a w
 |0, _, _, _, h => h
 |n + 1, _, _, _, h => ⟨h.1, fun i hi => wpOp_mono (fun a' w' h' => anyF_any n _ a' w' h'.2) (h.2 i hi)⟩
def waitsF (md : Region.Mode) (ops : Array Oper) (F : Nat → Bool) (i : Nat) : Bool := (List.range ops.size).all (fun f => !F f || waits md ops i ops.size f)
theorem anyF_take {i : Nat} {oi : Oper} {v : Value} (hi : ops[i]? = some oi) (hs : Region.noSelect ops = true) (hwt : waitsF md ops F i = true) (hQ : ∀ c a w, Q (.panic c) (a.put oi.dst v) w → Q (.panic c) a w) :
  ∀ (n : Nat) (listed : Array Bool) (a : Act) (w : World), Closed md ops listed → (∀ j oj, ops[j]? = some oj → j ≠ i → listed.getD j true = false → (∀ e ∈ oj.after, Region.binds md e = true → e.on ≠ i) → oi.apart ops oj = true) →
   i ∈ Region.ready md ops listed → YieldsIf P ops S oi v a → S w → anyF P md ops Q S F n (listed.setIfInBounds i true) (a.put oi.dst v) w → anyF P md ops Q S F (n + 1) listed a w := by
 have hsel := Region.noSelect_spec hs
 intro n
 induction n with
 |zero =>
  intro listed a w _ _ hr hy hS H
  refine ⟨fun h => (by rw [h] at hr; cases hr), fun j hj => ?_⟩
  by_cases hji : j = i
  ·subst hji; exact hy.wpOp hi hS ⟨fun _ => hS, H⟩
  ·have h := ready_mono hj hji
   rw [H.1] at h
   cases h
 |succ n ih =>
  intro listed a w hcl hfree hr hy hS H
  refine ⟨fun h => (by rw [h] at hr; cases hr), fun j hj => ?_⟩
  by_cases hji : j = i
  ·subst hji; exact hy.wpOp hi hS ⟨fun _ => hS, H⟩
  ·obtain ⟨hjun, oj, hoj, hall⟩ := mem_ready.1 hj
   have hjf : F j = false := by
    cases hF : F j with
    |false => rfl
    |true =>
     have hlt : j < ops.size := (Array.getElem?_eq_some_iff.1 hoj).1
     have h1 := List.all_eq_true.1 hwt j (List.mem_range.2 hlt)
     rw [hF] at h1
     exact absurd hj (waits_out hcl (mem_ready.1 hr).1 ops.size j (by simpa using h1)).1
   have h2 := wpOp_putIf hoj (hfree j oj hoj hji hjun (fun e he hb => on_ne (mem_ready.1 hr).1 (hall e he hb))) (fun cs b => hsel i oi cs b hi) (fun cs b => hsel j oj cs b hoj) hQ hy (H.2 j (ready_mono hj hji))
   refine wpOp_mono (fun a' w' h3 => ⟨fun _ => h3.2.1 hjf, ih (listed.setIfInBounds j true) a' w' (hcl.set hj) (fun k ok hk hki hun hno => hfree k ok hk hki ?_ hno) (ready_mono hr (Ne.symm hji)) h3.1 (h3.2.1 hjf) ?_⟩) h2
   ·by_cases hjk : j = k
    ·subst hjk; exact hjun
    ·rw [getD_set_ne true hjk] at hun; exact hun
   ·rw [Array.setIfInBounds_comm _ _ hji]
    exact h3.2.2
theorem f_take {i : Nat} {oi : Oper} {v : Value} {n : Nat} {listed : Array Bool} {a : Act} {w : World} (hi : ops[i]? = some oi) (hs : Region.noSelect ops = true) (hwt : waitsF md ops F i = true) (hcl : closedB md ops listed = true) (hf : Region.free md ops listed i = true) (hr : (Region.ready md ops listed).contains i = true)
  (hQ : ∀ c a w, Q (.panic c) (a.put oi.dst v) w → Q (.panic c) a w) (hy : YieldsIf P ops S oi v a) (hS : S w) (h : anyF P md ops Q S F n (listed.setIfInBounds i true) (a.put oi.dst v) w) : anyF P md ops Q S F (n + 1) listed a w :=
 anyF_take hi hs hwt hQ n listed a w (closedB_spec hcl) (Region.free_spec hi hf) (by simpa using hr) hy hS h
theorem f_one {i : Nat} {o : Oper} {n : Nat} {listed : Array Bool} {a : Act} {w : World} (ho : ops[i]? = some o) (hw : Region.wanted o (yielded ops a.tmps) = true)
  (h : ∀ K : Act → World → Prop, Hid (∀ a' w', (F i = false → S w') → anyF P md ops Q S F n (listed.setIfInBounds i true) a' w' → K a' w') → Oper.wp P o a w K Q) : wpOp P ops Q i (fun a' w' => (F i = false → S w') ∧ anyF P md ops Q S F n (listed.setIfInBounds i true) a' w') a w := by
 have h1 := h (fun a' w' => (F i = false → S w') ∧ anyF P md ops Q S F n (listed.setIfInBounds i true) a' w') (Lib.hid (fun a' w' h2 h3 => ⟨h2, h3⟩))
 unfold wpOp
 simp only [ho]
 rw [if_pos hw]
 exact .inl h1
theorem f_run {i : Nat} {o : Oper} {n : Nat} {listed : Array Bool} {a : Act} {w : World} (hr : Region.ready md ops listed = [i]) (ho : ops[i]? = some o) (hw : Region.wanted o (yielded ops a.tmps) = true)
  (h : ∀ K : Act → World → Prop, Hid (∀ a' w', (F i = false → S w') → anyF P md ops Q S F n (listed.setIfInBounds i true) a' w' → K a' w') → Oper.wp P o a w K Q) : anyF P md ops Q S F (n + 1) listed a w := by
 refine ⟨fun h0 => (by rw [h0] at hr; cases hr), fun j hj => ?_⟩
 rw [hr, List.mem_singleton] at hj
 subst hj
 exact f_one ho hw h
theorem f_two {i j : Nat} {oi oj : Oper} {n : Nat} {listed : Array Bool} {a : Act} {w : World} (hr : Region.ready md ops listed = [i, j]) (hoi : ops[i]? = some oi) (hoj : ops[j]? = some oj) (hwi : Region.wanted oi (yielded ops a.tmps) = true) (hwj : Region.wanted oj (yielded ops a.tmps) = true)
  (h : ∀ K : Act → World → Prop, Hid (∀ a' w', (F i = false → S w') → anyF P md ops Q S F n (listed.setIfInBounds i true) a' w' → K a' w') → Oper.wp P oi a w K Q)
  (k : ∀ K : Act → World → Prop, Hid (∀ a' w', (F j = false → S w') → anyF P md ops Q S F n (listed.setIfInBounds j true) a' w' → K a' w') → Oper.wp P oj a w K Q) : anyF P md ops Q S F (n + 1) listed a w := by
 refine ⟨fun h0 => (by rw [h0] at hr; cases hr), fun l hl => ?_⟩
 rw [hr] at hl
 rcases List.mem_cons.1 hl with rfl | hl
 ·exact f_one hoi hwi h
 ·rw [List.mem_singleton] at hl
  subst hl
  exact f_one hoj hwj k
theorem f_done {n : Nat} {listed : Array Bool} {a : Act} {w : World} (hr : Region.ready md ops listed = []) (h : Q .normal a w) : anyF P md ops Q S F n listed a w := by
 cases n with
 |zero => exact ⟨hr, h⟩
 |succ n => exact ⟨fun _ => h, by rw [hr]; simp⟩
theorem f_begin {id : Nat} {a : Act} {w : World} (hm : P.follows .mixedOrders = true) (h : anyF P .any ops Q S F ops.size (Array.replicate ops.size false) a w.drew) : (Code.region id ops true).wp P Q a w := wp_region_any hm (anyF_any _ _ _ _ h)
end
end Go.Proofs.YthopkhpiikiknaaGreat
namespace Go.Proofs.YthopkhpiikiknaaGreat
open Go.RowKit
set_option maxRecDepth 100000
set_option linter.unusedSimpArgs false
set_option linter.unusedVariables false

theorem only_ofN {w w' : World} {p : Nat} (h : w.grownBy w' (some p)) : Only (fun x => x = p) w w' := Only.of_grown h rfl
theorem ok_putN {ns : List (List KeyD)} {x : KeyD} (h : nodeOkB ns = true) : nodeOkB (putN ns x) = true := by
 unfold putN
 split
 ·assumption
 ·split
  ·assumption
  ·exact h
theorem okN_small {ns : List (List KeyD)} (h : nodeOkB ns = true) : ns.length ≤ 3 ∧ sumN ns ≤ 8 := by
 simp [nodeOkB] at h
 omega
theorem Owns.farP {w w' : World} {p base : Nat} {v : Value} {c : Dat} (h : Owns w (fun b => base ≤ b) v c) (hg : w.grownBy w' (some p)) (hp : p < base) : Owns w' (fun b => base ≤ b) v c := h.far (only_ofN hg) (fun b hb _ e => by omega)
theorem NOwn.farP {w w' : World} {p base bo : Nat} {u : Value} {ns : List (List KeyD)} (h : NOwn w base bo u ns) (hg : w.grownBy w' (some p)) (hp : p < base) : NOwn w' base bo u ns := by
 obtain ⟨xs, h1, h2, h3⟩ := h
 exact ⟨xs, row_keep h1 (fun g hg' => hg.block g (row_lt h1 g hg').1 (fun e => by injection e with e; have := (row_lt h1 g hg').2; omega)), h2.far (only_ofN hg) (fun b hb _ e => by have := hb.1.1; omega), h3⟩
/-- A drawn node: valid, in memory of the call's own. -/
def ANode (w : World) (p : Nat) (e : Ending) (w' : World) : Prop := ∃ v ns, e = .returned (.agg #[v]) ∧ Owns w' (fun b => w.heap.size ≤ b) v (setsD ns) ∧ nodeOkB ns = true ∧ Cur w' p ∧ w.grownBy w' (some p)
def NIn (w : World) (p : Nat) (wr : World) : Prop :=
 ∃ ns u, wr.heap[w.heap.size + 1]? = some (.cells #[u] 62) ∧ wr.heap[w.heap.size]? = some (.cells #[.slice none 0 0] 62) ∧ Owns wr (fun b => w.heap.size + 2 ≤ b) u (setsD ns) ∧ nodeOkB ns = true ∧ Cur wr p ∧ w.grownBy wr (some p)
set_option maxHeartbeats 1000000 in
theorem l5Draw_any (p : Nat) (w : World) (hc : Cur w p) : Calls Tryz.prog 113 #[.pointer (some ⟨p, 0, none⟩)] w (ANode w p) := by
 have hlt := hc.lt
 have HD := Lib.hid l3Draw_any
 have HP := Lib.hid specNodePut_any
 unfold AKey keyV at HD
 unfold KeyD.v keyV at HP
 have C0 := Lib.hid ((hc.alloc (.cells #[.slice none 0 0] 62)).alloc (.cells #[.slice none 0 0] 62))
 have G0 := Lib.hid (only_alloc (only_start w (.cells #[.slice none 0 0] 62) (some p)) (.cells #[.slice none 0 0] 62))
 obtain ⟨q0, q1⟩ := al2 w (.cells #[.slice none 0 0] 62) (.cells #[.slice none 0 0] 62)
 have Q0 := Lib.hid q0
 have Q1 := Lib.hid q1
 clear hc q0 q1
 go_enter Tryz.func113, Tryz.ntmps113
 go_wp2_with fail
 refine (l1Below_any p 12 _ C0.out (by omega) (by omega)).mono ?_
 rintro r w1 ⟨j, hj, rfl, c1, g1⟩
 have START : Hid (NIn w p w1) := Lib.hid ⟨[], .slice none 0 0, box_grows Q1.out g1 (by omega), box_grows Q0.out g1 (by omega), .nil _ _ _, rfl, c1, only_trans G0.out g1⟩
 clear c1 g1 Q0 Q1 C0 G0
 go_wp2
 go_loopw [4] (fun i wr => ∃ k : Nat, k ≤ 12 ∧ i = .int .i64 k ∧ Hid (NIn w p wr)) (fun i _ => (intOf i).toNat)
 case atStart => exact ⟨j, by omega, rfl, START⟩
 case round =>
  clear START hj
  obtain ⟨k, hk, rfl, HN⟩ := hrel
  obtain ⟨ns, u, q1, q0, ou, hok, hcu, hgr⟩ := HN.out
  obtain ⟨Au, cu, rfl, _, _⟩ := ou.reads.lenN
  have QO := Lib.hid q1
  have QR := Lib.hid q0
  have OU := Lib.hid ou
  have HOK := Lib.hid hok
  have HC := Lib.hid hcu
  have HG := Lib.hid hgr
  have hsm := okN_small hok
  have hsz : w.heap.size + 1 < wr.heap.size := (Array.getElem?_eq_some_iff.1 q1).1
  clear q0 q1 ou hok hcu hgr HN
  rcases k with _ | k
  ·obtain ⟨z0, z1⟩ := box1N QO.out
   obtain ⟨y0, y1⟩ := box1N QR.out
   go_wp2
   refine bodyPost_ret (v := .agg #[.slice Au ns.length cu]) (by simp [results, Tryz.results113, go_sem, y0, y1]) rfl ⟨_, ns, rfl, (OU.out.setFar (by omega)).mono (fun b hb => by omega), HOK.out, HC.out.setNew hlt _, only_setNew HG.out (Nat.le_refl _) _⟩
  ·have i1 : (0 : Int) < (k : Int) + 1 := by omega
   have i2 : IntKind.i64.wrap ((k : Int) + 1 - 1) = (k : Int) := by rw [IntKind.wrap_i64]; omega
   have i3 : IntKind.i64.wrap (k : Int) = (k : Int) := by rw [IntKind.wrap_i64]; omega
   have CD := Lib.hid (HC.out.keep (w' := wr.drew) (fun _ _ => rfl))
   have OD := Lib.hid (OU.out.on (Below.drew1 wr))
   go_upto_region 5 with (fail)
   refine f_begin (F := fun i => i == 6 || i == 7) (S := fun V => V.heap[w.heap.size + 1]? = some (.cells #[.slice Au ns.length cu] 62)) (by kernel_rfl) ?_
   have hS0 : (fun V => V.heap[w.heap.size + 1]? = some (.cells #[.slice Au ns.length cu] 62)) wr.drew := show wr.drew.heap[w.heap.size + 1]? = some _ from QO.out
   refine f_take (i := 0) (v := ?vd0) rfl (by kernel_rfl) (by kernel_rfl) (by kernel_rfl) (by kernel_rfl) (by kernel_rfl) (fun _ _ _ h => h) (Or.inl ⟨by rfl, ?hyd0⟩) hS0 ?restd0
   case hyd0 =>
    intro W hW
    obtain ⟨z0, z1⟩ := box1N hW
    go_simp
    exact rfl
   simp only [List.getElem_toArray, List.getElem_cons_succ, List.getElem_cons_zero, Act.put, List.setIfInBounds_toArray, List.set_cons_zero, List.set_cons_succ]
   refine f_take (i := 1) (v := ?vd1) rfl (by kernel_rfl) (by kernel_rfl) (by kernel_rfl) (by kernel_rfl) (by kernel_rfl) (fun _ _ _ h => h) (Or.inl ⟨by rfl, ?hyd1⟩) hS0 ?restd1
   case hyd1 =>
    intro W hW
    go_simp
    exact rfl
   simp only [List.getElem_toArray, List.getElem_cons_succ, List.getElem_cons_zero, Act.put, List.setIfInBounds_toArray, List.set_cons_zero, List.set_cons_succ]
   refine f_run (i := 2) (by kernel_rfl) rfl (by rfl) ?_
   simp only [List.getElem_toArray, List.getElem_cons_succ, List.getElem_cons_zero]
   intro K HK
   go_wp2_with fail
   refine (HD.out p _ CD.out).mono ?_
   rintro r Vd1 ⟨xa, xb, xc, xd, xe, rfl, sm, c2, g2⟩
   go_wp2_with fail
   have hSd1 : (fun V => V.heap[w.heap.size + 1]? = some (.cells #[.slice Au ns.length cu] 62)) Vd1 := box_grows hS0 g2 (by omega)
   refine HK.out _ _ (fun _ => hSd1) ?_
   clear HK
   have O2 := Lib.hid (OD.out.farP g2 (by omega))
   have C2 := Lib.hid c2
   have G2 := Lib.hid (only_trans (only_draw1 HG.out) g2)
   have R2 := Lib.hid (box_grows (show wr.drew.heap[w.heap.size]? = some _ from QR.out) g2 (by omega))
   have hz2 := g2.size
   have hzd : wr.heap.size ≤ wr.drew.heap.size := Nat.le_refl _
   clear c2 g2 sm
   try simp only [List.getElem_toArray, List.getElem_cons_succ, List.getElem_cons_zero, Act.put, List.setIfInBounds_toArray, List.set_cons_zero, List.set_cons_succ]
   refine f_run (i := 3) (by kernel_rfl) rfl (by rfl) ?_
   simp only [List.getElem_toArray, List.getElem_cons_succ, List.getElem_cons_zero]
   intro K HK
   go_wp2_with fail
   refine (HP.out _ ns ⟨xa, xb, xc, xd, xe⟩ _ O2.out.reads (by omega) (by omega)).mono ?_
   rintro r Vd2 ⟨v3, rfl, o3, b3⟩
   obtain ⟨A3, c3, rfl, _, _⟩ := o3.reads.lenN
   go_wp2_with fail
   have hSd2 : (fun V => V.heap[w.heap.size + 1]? = some (.cells #[.slice Au ns.length cu] 62)) Vd2 := box_on hSd1 b3
   refine HK.out _ _ (fun _ => hSd2) ?_
   clear HK
   have hz3 := b3.size
   try simp only [List.getElem_toArray, List.getElem_cons_succ, List.getElem_cons_zero, Act.put, List.setIfInBounds_toArray, List.set_cons_zero, List.set_cons_succ]
   refine f_take (i := 4) (v := ?vd4) rfl (by kernel_rfl) (by kernel_rfl) (by kernel_rfl) (by kernel_rfl) (by kernel_rfl) (fun _ _ _ h => h) (Or.inl ⟨by rfl, ?hyd4⟩) hSd2 ?restd4
   case hyd4 =>
    intro W hW
    go_simp
    exact rfl
   simp only [List.getElem_toArray, List.getElem_cons_succ, List.getElem_cons_zero, Act.put, List.setIfInBounds_toArray, List.set_cons_zero, List.set_cons_succ]
   obtain ⟨z0, z1⟩ := box1N hSd2
   refine f_two (i := 5) (j := 6) (by kernel_rfl) rfl rfl (by rfl) (by rfl) ?_ ?_
   ·simp only [List.getElem_toArray, List.getElem_cons_succ, List.getElem_cons_zero]
    intro K HK
    go_wp2_with fail
    refine HK.out _ _ (fun _ => hSd2) ?_
    clear HK
    try simp only [List.getElem_toArray, List.getElem_cons_succ, List.getElem_cons_zero, Act.put, List.setIfInBounds_toArray, List.set_cons_zero, List.set_cons_succ]
    refine f_two (i := 6) (j := 7) (by kernel_rfl) rfl rfl (by rfl) (by rfl) ?_ ?_
    ·simp only [List.getElem_toArray, List.getElem_cons_succ, List.getElem_cons_zero]
     intro K HK
     go_wp2_with fail
     refine HK.out _ _ (fun h => absurd h (by decide)) ?_
     clear HK
     try simp only [List.getElem_toArray, List.getElem_cons_succ, List.getElem_cons_zero, Act.put, List.setIfInBounds_toArray, List.set_cons_zero, List.set_cons_succ]
     refine f_run (i := 7) (by kernel_rfl) rfl (by rfl) ?_
     simp only [List.getElem_toArray, List.getElem_cons_succ, List.getElem_cons_zero]
     intro K HK
     go_wp2_with fail
     refine HK.out _ _ (fun h => absurd h (by decide)) ?_
     clear HK
     skip
     have NEW : Hid (NIn w p (Vd2.setCell ⟨w.heap.size + 1, 0, none⟩ (.slice A3 (putN ns ⟨xa, xb, xc, xd, xe⟩).length c3))) := Lib.hid ⟨_, _, box_set hSd2, box_far (box_on R2.out b3) (by omega), ((o3.mono (T := fun b => w.heap.size + 2 ≤ b) (fun b hb => by omega)).setFar (by omega)), ok_putN HOK.out, (C2.out.on b3).setNew (by omega) _, only_setNew (grown_on G2.out (b3.mono G2.out.size)) (by omega) _⟩
     clear o3 b3 O2 C2 G2 R2 hSd1 hSd2 z0 z1 CD OD QO QR OU HOK HC HG hsm
     refine f_done (by kernel_rfl) ?_
     go_wp2
     go_roundw
     case rel => exact ⟨k, by omega, by go_num, NEW⟩
     case measure => simp [intOf]
    ·simp only [List.getElem_toArray, List.getElem_cons_succ, List.getElem_cons_zero]
     intro K HK
     go_wp2_with fail
     refine HK.out _ _ (fun h => absurd h (by decide)) ?_
     clear HK
     skip
     refine f_run (i := 6) (by kernel_rfl) rfl (by rfl) ?_
     simp only [List.getElem_toArray, List.getElem_cons_succ, List.getElem_cons_zero]
     intro K HK
     go_wp2_with fail
     refine HK.out _ _ (fun h => absurd h (by decide)) ?_
     clear HK
     try simp only [List.getElem_toArray, List.getElem_cons_succ, List.getElem_cons_zero, Act.put, List.setIfInBounds_toArray, List.set_cons_zero, List.set_cons_succ]
     have NEW : Hid (NIn w p (Vd2.setCell ⟨w.heap.size + 1, 0, none⟩ (.slice A3 (putN ns ⟨xa, xb, xc, xd, xe⟩).length c3))) := Lib.hid ⟨_, _, box_set hSd2, box_far (box_on R2.out b3) (by omega), ((o3.mono (T := fun b => w.heap.size + 2 ≤ b) (fun b hb => by omega)).setFar (by omega)), ok_putN HOK.out, (C2.out.on b3).setNew (by omega) _, only_setNew (grown_on G2.out (b3.mono G2.out.size)) (by omega) _⟩
     clear o3 b3 O2 C2 G2 R2 hSd1 hSd2 z0 z1 CD OD QO QR OU HOK HC HG hsm
     refine f_done (by kernel_rfl) ?_
     go_wp2
     go_roundw
     case rel => exact ⟨k, by omega, by go_num, NEW⟩
     case measure => simp [intOf]
   ·simp only [List.getElem_toArray, List.getElem_cons_succ, List.getElem_cons_zero]
    intro K HK
    go_wp2_with fail
    refine HK.out _ _ (fun h => absurd h (by decide)) ?_
    clear HK
    try simp only [List.getElem_toArray, List.getElem_cons_succ, List.getElem_cons_zero, Act.put, List.setIfInBounds_toArray, List.set_cons_zero, List.set_cons_succ]
    refine f_run (i := 5) (by kernel_rfl) rfl (by rfl) ?_
    simp only [List.getElem_toArray, List.getElem_cons_succ, List.getElem_cons_zero]
    intro K HK
    go_wp2_with fail
    refine HK.out _ _ (fun _ => hSd2) ?_
    clear HK
    try simp only [List.getElem_toArray, List.getElem_cons_succ, List.getElem_cons_zero, Act.put, List.setIfInBounds_toArray, List.set_cons_zero, List.set_cons_succ]
    refine f_run (i := 7) (by kernel_rfl) rfl (by rfl) ?_
    simp only [List.getElem_toArray, List.getElem_cons_succ, List.getElem_cons_zero]
    intro K HK
    go_wp2_with fail
    refine HK.out _ _ (fun h => absurd h (by decide)) ?_
    clear HK
    skip
    have NEW : Hid (NIn w p (Vd2.setCell ⟨w.heap.size + 1, 0, none⟩ (.slice A3 (putN ns ⟨xa, xb, xc, xd, xe⟩).length c3))) := Lib.hid ⟨_, _, box_set hSd2, box_far (box_on R2.out b3) (by omega), ((o3.mono (T := fun b => w.heap.size + 2 ≤ b) (fun b hb => by omega)).setFar (by omega)), ok_putN HOK.out, (C2.out.on b3).setNew (by omega) _, only_setNew (grown_on G2.out (b3.mono G2.out.size)) (by omega) _⟩
    clear o3 b3 O2 C2 G2 R2 hSd1 hSd2 z0 z1 CD OD QO QR OU HOK HC HG hsm
    refine f_done (by kernel_rfl) ?_
    go_wp2
    go_roundw
    case rel => exact ⟨k, by omega, by go_num, NEW⟩
    case measure => simp [intOf]
end Go.Proofs.YthopkhpiikiknaaGreat
namespace Go.Proofs.YthopkhpiikiknaaGreat
open Go.RowKit
set_option maxRecDepth 100000
set_option linter.unusedSimpArgs false
set_option linter.unusedVariables false
def OKey (w : World) (p : Nat) (e : Ending) (w' : World) : Prop := ∃ x : KeyD, e = .returned x.v ∧ okK x = true ∧ Cur w' p ∧ w.grownBy w' (some p)
theorem key_blk {a b c d e : Int} (h : SmallK a b c d e) {j : Nat} (hj : (j : Int) < 12) : okK ⟨(j : Int), b, c, d, e⟩ = true := by
 have h1 := h.2.2
 unfold okK
 unfold keyOkB at h1 ⊢
 simp only [Bool.and_eq_true, decide_eq_true_iff] at h1 ⊢
 exact ⟨⟨⟨⟨by omega, by omega⟩, h1.1.1.2⟩, h1.1.2⟩, h1.2⟩
set_option maxHeartbeats 2000000 in
theorem l6Key_any (p : Nat) (w : World) (hc : Cur w p) : Calls Tryz.prog 33 #[.pointer (some ⟨p, 0, none⟩)] w (OKey w p) := by
 have hlt := hc.lt
 have HD := Lib.hid l3Draw_any
 unfold AKey keyV at HD
 have C0 := Lib.hid (hc.alloc (.cells #[.int .i64 0, .int .i64 0, .int .i64 0, .int .i64 0, .int .i64 0] 29))
 have G0 := Lib.hid (only_start w (.cells #[.int .i64 0, .int .i64 0, .int .i64 0, .int .i64 0, .int .i64 0] 29) (some p))
 have Q0 := Lib.hid (al1 w (.cells #[.int .i64 0, .int .i64 0, .int .i64 0, .int .i64 0, .int .i64 0] 29))
 have hz0 : (w.alloc (.cells #[.int .i64 0, .int .i64 0, .int .i64 0, .int .i64 0, .int .i64 0] 29)).heap.size = w.heap.size + 1 := by simp
 have HZ0 := Lib.hid hz0
 clear hc hz0
 go_enter Tryz.func33, Tryz.ntmps33
 go_wp2_with fail
 refine (HD.out p _ C0.out).mono ?_
 rintro r w1 ⟨xa, xb, xc, xd, xe, rfl, sm, c1, g1⟩
 have hz1 := g1.size
 rw [HZ0.out] at hz1
 have c2 := c1.alloc (.cells #[.int .i64 xa, .int .i64 xb, .int .i64 xc, .int .i64 xd, .int .i64 xe] 29)
 have q2 := al1 w1 (.cells #[.int .i64 xa, .int .i64 xb, .int .i64 xc, .int .i64 xd, .int .i64 xe] 29)
 have G2 := Lib.hid (only_alloc (only_trans G0.out g1) (.cells #[.int .i64 xa, .int .i64 xb, .int .i64 xc, .int .i64 xd, .int .i64 xe] 29))
 have Q1 := Lib.hid (box_on (box_grows Q0.out g1 (by omega)) (bal1 w1 (.cells #[.int .i64 xa, .int .i64 xb, .int .i64 xc, .int .i64 xd, .int .i64 xe] 29)))
 have SM := Lib.hid sm
 have C2 := Lib.hid c2
 have Q2 := Lib.hid q2
 clear sm c1 g1 c2 q2 C0 G0 Q0
 go_upto_region 2 with (fail)
 generalize w1.alloc (.cells #[.int .i64 xa, .int .i64 xb, .int .i64 xc, .int .i64 xd, .int .i64 xe] 29) = W2 at *
 go_wp2_with fail
 refine (l1Below_any p 12 _ C2.out (by omega) (by omega)).mono ?_
 rintro r w3 ⟨j, hj, rfl, c3, g3⟩
 have q2 := box_grows Q2.out g3 (by omega)
 have q1 := box_grows Q1.out g3 (by omega)
 obtain ⟨y0, y1, y2, y3, y4, y5⟩ := box5 q2
 obtain ⟨z0, z1, z2, z3, z4, z5⟩ := box5 q1
 have HOK := Lib.hid (key_blk SM.out hj)
 have C3 := Lib.hid c3
 have G3 := Lib.hid (only_trans G2.out g3)
 have n1 : ¬ w1.heap.size = w.heap.size := by omega
 have n2 : ¬ w.heap.size = w1.heap.size := by omega
 clear q2 q1 c3 g3 hj
 go_wp2
 refine bodyPost_ret (v := keyV (j : Int) xb xc xd xe) (by simp [results, Tryz.results33, go_sem, keyV, z0, z1, z2, z3, z4, z5]) rfl ⟨⟨(j : Int), xb, xc, xd, xe⟩, rfl, HOK.out, ?_, ?_⟩
 ·exact (((((C3.out.setNew (by omega) _).setNew hlt _).setNew hlt _).setNew hlt _).setNew hlt _).setNew hlt _
 ·exact only_setNew (only_setNew (only_setNew (only_setNew (only_setNew (only_setNew G3.out (by omega) _) (Nat.le_refl _) _) (Nat.le_refl _) _) (Nat.le_refl _) _) (Nat.le_refl _) _) (Nat.le_refl _) _
/-- A drawn tree: valid, in memory of its own. -/
def ATree (w : World) (p : Nat) (e : Ending) (w' : World) : Prop := ∃ vl vn lo ts, e = .returned (.agg #[vl, vn]) ∧ TreeS w' (fun b => w.heap.size ≤ b) vl vn lo ts ∧ treeOkB lo ts = true ∧ Cur w' p ∧ w.grownBy w' (some p)
def TIn (w : World) (p p5 : Nat) (wr : World) : Prop :=
 ∃ lo ts A c B d, wr.heap[p5]? = some (.cells #[.slice A lo.length c, .slice B ts.length d] 27) ∧ wr.heap[w.heap.size]? = some (.cells #[.slice none 0 0, .slice none 0 0] 27) ∧ TreeS wr (fun b => w.heap.size < b ∧ b ≠ p5) (.slice A lo.length c) (.slice B ts.length d) lo ts ∧ treeOkB lo ts = true ∧ Cur wr p ∧ w.grownBy wr (some p)
theorem TreeS.farP {w w' : World} {p base p5 : Nat} {vl vn : Value} {lo : List Int} {ts : List NodeD} (h : TreeS w (fun b => base < b ∧ b ≠ p5) vl vn lo ts) (hg : w.grownBy w' (some p)) (hp : p < base) : TreeS w' (fun b => base < b ∧ b ≠ p5) vl vn lo ts := h.keep (fun b hb hl => hg.block b hl (fun e => by injection e with e; omega))
theorem treeP_small {lo : List Int} {ts : List NodeD} (h : treeOkB lo ts = true) : lo.length ≤ 20 ∧ ts.length ≤ 20 ∧ sumT ts ≤ 220 := treeP_small' (of_decide_eq_true h)
theorem ok_putT {lo : List Int} {ts : List NodeD} {x : KeyD} (h : treeOkB lo ts = true) : treeOkB (treePutK lo ts x).1 (treePutK lo ts x).2 = true := by
 unfold treePutK
 split
 ·rename_i hb
  unfold treePutB at hb
  simp only [Bool.and_eq_true] at hb
  exact hb.2
 ·exact h
theorem ok_newT : treeOkB [0] [[]] = true := by decide +kernel
theorem only_trans2 {a b c : World} {p : Nat} (h : a.grownBy b (some p)) (k : Below b.heap.size b c) : a.grownBy c (some p) :=
 ⟨k.os.trans h.os, k.tape.trans h.tape, k.output.trans h.output, Nat.le_trans h.size k.size, fun i hi hn => (k.block i (Nat.lt_of_lt_of_le hi h.size)).trans (h.block i hi hn)⟩
set_option maxHeartbeats 8000000 in
theorem l6Draw_any (p m : Nat) (w : World) (hc : Cur w p) (hm : m ≤ 1000) : Calls Tryz.prog 31 #[.pointer (some ⟨p, 0, none⟩), .int .i64 (m : Int)] w (ATree w p) := by
 have hlt := hc.lt
 have HD := Lib.hid l6Key_any
 unfold OKey at HD
 have HC0 := Lib.hid (hc.alloc (.cells #[.slice none 0 0, .slice none 0 0] 27))
 have Q0 := Lib.hid (al1 w (.cells #[.slice none 0 0, .slice none 0 0] 27))
 have HB0 := Lib.hid (bal1 w (.cells #[.slice none 0 0, .slice none 0 0] 27))
 have hz0 : (w.alloc (.cells #[.slice none 0 0, .slice none 0 0] 27)).heap.size = w.heap.size + 1 := by simp
 have HZ0 := Lib.hid hz0
 have i0 : IntKind.i64.wrap ((m : Int) + 1) = (m : Int) + 1 := by rw [IntKind.wrap_i64]; omega
 clear hc hz0
 go_enter Tryz.func31, Tryz.ntmps31
 go_upto_region 1 with (fail)
 generalize w.alloc (.cells #[.slice none 0 0, .slice none 0 0] 27) = W at *
 have hz1 := Nat.le_of_eq HZ0.out
 have hz2 := Nat.le_of_eq HZ0.out.symm
 go_wp2_with fail
 refine (specTreeNew_any _).mono ?_
 rintro r w1 ⟨vl1, vn1, rfl, o1, b1⟩
 obtain ⟨lo, hlo⟩ : ∃ l, l = [(0 : Int)] := ⟨_, rfl⟩
 obtain ⟨ts, hts⟩ : ∃ l, l = [([] : NodeD)] := ⟨_, rfl⟩
 have HOK0 : Hid (treeOkB lo ts = true) := Lib.hid (by rw [hlo, hts]; exact ok_newT)
 rw [← hlo, ← hts] at o1
 clear hlo hts
 obtain ⟨A, c, B, d, rfl, rfl⟩ := o1.reads.shape
 have hzb := b1.size
 have ba := bal1 w1 (.cells #[.slice A lo.length c, .slice B ts.length d] 27)
 have Q5 := Lib.hid (al1 w1 (.cells #[.slice A lo.length c, .slice B ts.length d] 27))
 have O5 := Lib.hid (o1.lt.on ba)
 have C5 := Lib.hid ((HC0.out.on b1).on ba)
 have Q05 := Lib.hid (box_on (box_on Q0.out b1) ba)
 have G5 := Lib.hid (only_trans2 (only_trans2 (only_trans2 (World.grownBy.refl w (some p)) HB0.out) b1) ba)
 have hzA : (w1.alloc (.cells #[.slice A lo.length c, .slice B ts.length d] 27)).heap.size = w1.heap.size + 1 := by simp
 have HZA := Lib.hid hzA
 clear o1 b1 ba hzA
 go_upto_region 2 with (fail)
 generalize w1.alloc (.cells #[.slice A lo.length c, .slice B ts.length d] 27) = W2 at *
 have hy1 := Nat.le_of_eq HZA.out
 have hy2 := Nat.le_of_eq HZA.out.symm
 go_wp2_with fail
 refine (l1Below_any p ((m : Int) + 1) _ C5.out (by omega) (by omega)).mono ?_
 rintro r w3 ⟨j, hj, rfl, c3, g3⟩
 have START : Hid (TIn w p w1.heap.size w3) := Lib.hid ⟨lo, ts, A, c, B, d, box_grows Q5.out g3 (by omega), box_grows Q05.out g3 (by omega), TreeS.farP (O5.out.mono (fun b hb => ⟨by omega, by omega⟩)) g3 hlt, HOK0.out, c3, only_trans G5.out g3⟩
 have hp5a : w.heap.size < w1.heap.size := by omega
 clear c3 g3 Q5 Q05 O5 C5 G5 HOK0 HC0 Q0 HB0
 go_wp2
 go_loopw [6] (fun i wr => ∃ k : Nat, k ≤ 1001 ∧ i = .int .i64 k ∧ Hid (TIn w p w1.heap.size wr)) (fun i _ => (intOf i).toNat)
 case atStart => exact ⟨j, by omega, rfl, START⟩
 case round =>
  clear START hj hy1 hy2 HZA hzb hz1 hz2 HZ0
  obtain ⟨p5, hp5⟩ : ∃ p5, p5 = w1.heap.size := ⟨_, rfl⟩
  rw [← hp5] at hp5a
  obtain ⟨k, hk, rfl, HN⟩ := hrel
  obtain ⟨lo, ts, A, c, B, d, q1, q0, ou, hok, hcu, hgr⟩ := HN.out
  rw [← hp5] at q1 ou
  have QO := Lib.hid q1
  have QR := Lib.hid q0
  have OU := Lib.hid ou
  have HOK := Lib.hid hok
  have HC := Lib.hid hcu
  have HG := Lib.hid hgr
  have hsm := treeP_small hok
  have hsz : p5 < wr.heap.size := (Array.getElem?_eq_some_iff.1 q1).1
  clear q0 q1 ou hok hcu hgr HN
  rw [← hp5]
  clear hp5
  rcases k with _ | k
  ·obtain ⟨z0, z1, z2⟩ := box2 QO.out
   obtain ⟨y0, y1, y2⟩ := box2 QR.out
   have n1 : ¬ p5 = w.heap.size := by omega
   go_wp2
   have HO := only_two wr w.heap.size 0 1 (.slice A lo.length c) (.slice B ts.length d)
   refine bodyPost_ret (v := .agg #[.slice A lo.length c, .slice B ts.length d]) (by simp [results, Tryz.results31, go_sem, y0, y1, y2]) rfl ⟨_, _, lo, ts, rfl, (OU.out.keep (fun b hb hl => HO.block b hl (fun e => by omega))).mono (fun b hb => by omega), HOK.out, (HC.out.setNew hlt _).setNew hlt _, only_setNew (only_setNew HG.out (Nat.le_refl _) _) (Nat.le_refl _) _⟩
  ·have i1 : (0 : Int) < (k : Int) + 1 := by omega
   have i2 : IntKind.i64.wrap ((k : Int) + 1 - 1) = (k : Int) := by rw [IntKind.wrap_i64]; omega
   have i3 : IntKind.i64.wrap (k : Int) = (k : Int) := by rw [IntKind.wrap_i64]; omega
   have CD := Lib.hid (HC.out.keep (w' := wr.drew) (fun _ _ => rfl))
   have OD := Lib.hid (OU.out.on (Below.drew1 wr))
   go_upto_region 5 with (fail)
   refine f_begin (F := fun i => i == 6 || i == 7) (S := fun V => V.heap[p5]? = some (.cells #[.slice A lo.length c, .slice B ts.length d] 27)) (by kernel_rfl) ?_
   have hS0 : (fun V => V.heap[p5]? = some (.cells #[.slice A lo.length c, .slice B ts.length d] 27)) wr.drew := show wr.drew.heap[p5]? = some _ from QO.out
   refine f_take (i := 0) (v := ?vd0) rfl (by kernel_rfl) (by kernel_rfl) (by kernel_rfl) (by kernel_rfl) (by kernel_rfl) (fun _ _ _ h => h) (Or.inl ⟨by rfl, ?hyd0⟩) hS0 ?restd0
   case hyd0 =>
    intro W hW
    obtain ⟨z0, z1, z2⟩ := box2 hW
    go_simp
    exact rfl
   simp only [List.getElem_toArray, List.getElem_cons_succ, List.getElem_cons_zero, Act.put, List.setIfInBounds_toArray, List.set_cons_zero, List.set_cons_succ]
   refine f_take (i := 1) (v := ?vd1) rfl (by kernel_rfl) (by kernel_rfl) (by kernel_rfl) (by kernel_rfl) (by kernel_rfl) (fun _ _ _ h => h) (Or.inl ⟨by rfl, ?hyd1⟩) hS0 ?restd1
   case hyd1 =>
    intro W hW
    go_simp
    exact rfl
   simp only [List.getElem_toArray, List.getElem_cons_succ, List.getElem_cons_zero, Act.put, List.setIfInBounds_toArray, List.set_cons_zero, List.set_cons_succ]
   refine f_run (i := 2) (by kernel_rfl) rfl (by rfl) ?_
   simp only [List.getElem_toArray, List.getElem_cons_succ, List.getElem_cons_zero]
   intro K HK
   go_wp2_with fail
   refine (HD.out p _ CD.out).mono ?_
   rintro r Vd1 ⟨xk, rfl, okx, c2, g2⟩
   go_wp2_with fail
   have hSd1 : (fun V => V.heap[p5]? = some (.cells #[.slice A lo.length c, .slice B ts.length d] 27)) Vd1 := box_grows hS0 g2 (by omega)
   refine HK.out _ _ (fun _ => hSd1) ?_
   clear HK
   have O2 := Lib.hid (OD.out.farP g2 (by omega))
   have C2 := Lib.hid c2
   have G2 := Lib.hid (only_trans (only_draw1 HG.out) g2)
   have R2 := Lib.hid (box_grows (show wr.drew.heap[w.heap.size]? = some _ from QR.out) g2 (by omega))
   have hz2 := g2.size
   have hzd : wr.heap.size ≤ wr.drew.heap.size := Nat.le_refl _
   clear c2 g2 okx
   obtain ⟨R, hR⟩ : ∃ R, treePutK lo ts xk = R := ⟨_, rfl⟩
   have HRO : Hid (treeOkB R.1 R.2 = true) := Lib.hid (by rw [← hR]; exact ok_putT HOK.out)
   have HRR := Lib.hid hR
   clear hR
   try simp only [List.getElem_toArray, List.getElem_cons_succ, List.getElem_cons_zero, Act.put, List.setIfInBounds_toArray, List.set_cons_zero, List.set_cons_succ]
   refine f_run (i := 3) (by kernel_rfl) rfl (by rfl) ?_
   simp only [List.getElem_toArray, List.getElem_cons_succ, List.getElem_cons_zero]
   intro K HK
   go_wp2_with fail
   refine (specTreePut_any _ _ lo ts xk _ O2.out.reads (by omega) (by omega) (by omega)).mono ?_
   rintro r Vd2 ⟨vl3, vn3, rfl, o3, b3⟩
   rw [HRR.out] at o3
   obtain ⟨A3, c3, B3, d3, rfl, rfl⟩ := o3.reads.shape
   have O3 := Lib.hid o3
   clear o3
   go_wp2_with fail
   have hSd2 : (fun V => V.heap[p5]? = some (.cells #[.slice A lo.length c, .slice B ts.length d] 27)) Vd2 := box_on hSd1 b3
   refine HK.out _ _ (fun _ => hSd2) ?_
   clear HK
   have hz3 := b3.size
   try simp only [List.getElem_toArray, List.getElem_cons_succ, List.getElem_cons_zero, Act.put, List.setIfInBounds_toArray, List.set_cons_zero, List.set_cons_succ]
   refine f_take (i := 4) (v := ?vd4) rfl (by kernel_rfl) (by kernel_rfl) (by kernel_rfl) (by kernel_rfl) (by kernel_rfl) (fun _ _ _ h => h) (Or.inl ⟨by rfl, ?hyd4⟩) hSd2 ?restd4
   case hyd4 =>
    intro W hW
    go_simp
    exact rfl
   simp only [List.getElem_toArray, List.getElem_cons_succ, List.getElem_cons_zero, Act.put, List.setIfInBounds_toArray, List.set_cons_zero, List.set_cons_succ]
   obtain ⟨z0, z1, z2⟩ := box2 hSd2
   refine f_two (i := 5) (j := 6) (by kernel_rfl) rfl rfl (by rfl) (by rfl) ?_ ?_
   ·simp only [List.getElem_toArray, List.getElem_cons_succ, List.getElem_cons_zero]
    intro K HK
    go_wp2_with fail
    refine HK.out _ _ (fun _ => hSd2) ?_
    clear HK
    try simp only [List.getElem_toArray, List.getElem_cons_succ, List.getElem_cons_zero, Act.put, List.setIfInBounds_toArray, List.set_cons_zero, List.set_cons_succ]
    refine f_two (i := 6) (j := 7) (by kernel_rfl) rfl rfl (by rfl) (by rfl) ?_ ?_
    ·simp only [List.getElem_toArray, List.getElem_cons_succ, List.getElem_cons_zero]
     intro K HK
     go_wp2_with fail
     refine HK.out _ _ (fun h => absurd h (by decide)) ?_
     clear HK
     try simp only [List.getElem_toArray, List.getElem_cons_succ, List.getElem_cons_zero, Act.put, List.setIfInBounds_toArray, List.set_cons_zero, List.set_cons_succ]
     refine f_run (i := 7) (by kernel_rfl) rfl (by rfl) ?_
     simp only [List.getElem_toArray, List.getElem_cons_succ, List.getElem_cons_zero]
     intro K HK
     go_wp2_with fail
     refine HK.out _ _ (fun h => absurd h (by decide)) ?_
     clear HK
     try simp only [List.getElem_toArray, List.getElem_cons_succ, List.getElem_cons_zero, Act.put, List.setIfInBounds_toArray, List.set_cons_zero, List.set_cons_succ]
     have HO := only_two Vd2 p5 0 1 (.slice A3 R.1.length c3) (.slice B3 R.2.length d3)
     have NEW : Hid (TIn w p p5 ((Vd2.setCell ⟨p5, 0, none⟩ (.slice A3 R.1.length c3)).setCell ⟨p5, 1, none⟩ (.slice B3 R.2.length d3))) := Lib.hid ⟨R.1, R.2, _, _, _, _, box_set (i := 1) (box_set (i := 0) hSd2), box_only (box_on R2.out b3) HO (fun e => by omega), (O3.out.keep (fun b hb hl => HO.block b hl (fun e => by omega))).mono (fun b hb => ⟨by omega, by omega⟩), HRO.out, (C2.out.on b3).keep (fun k hk => (HO.block k (by have := (C2.out.on b3).lt; omega) (fun e => by omega))), only_setNew (only_setNew (only_trans2 G2.out b3) (by omega) _) (by omega) _⟩
     clear O3 b3 O2 C2 G2 R2 hSd1 hSd2 z0 z1 z2 CD OD QO QR OU HOK HC HG
     refine f_done (by kernel_rfl) ?_
     go_wp2
     go_roundw
     case rel => exact ⟨k, by omega, by go_num, NEW⟩
     case measure => simp [intOf]
    ·simp only [List.getElem_toArray, List.getElem_cons_succ, List.getElem_cons_zero]
     intro K HK
     go_wp2_with fail
     refine HK.out _ _ (fun h => absurd h (by decide)) ?_
     clear HK
     try simp only [List.getElem_toArray, List.getElem_cons_succ, List.getElem_cons_zero, Act.put, List.setIfInBounds_toArray, List.set_cons_zero, List.set_cons_succ]
     refine f_run (i := 6) (by kernel_rfl) rfl (by rfl) ?_
     simp only [List.getElem_toArray, List.getElem_cons_succ, List.getElem_cons_zero]
     intro K HK
     go_wp2_with fail
     refine HK.out _ _ (fun h => absurd h (by decide)) ?_
     clear HK
     try simp only [List.getElem_toArray, List.getElem_cons_succ, List.getElem_cons_zero, Act.put, List.setIfInBounds_toArray, List.set_cons_zero, List.set_cons_succ]
     have HO := only_two Vd2 p5 0 1 (.slice A3 R.1.length c3) (.slice B3 R.2.length d3)
     have NEW : Hid (TIn w p p5 ((Vd2.setCell ⟨p5, 0, none⟩ (.slice A3 R.1.length c3)).setCell ⟨p5, 1, none⟩ (.slice B3 R.2.length d3))) := Lib.hid ⟨R.1, R.2, _, _, _, _, box_set (i := 1) (box_set (i := 0) hSd2), box_only (box_on R2.out b3) HO (fun e => by omega), (O3.out.keep (fun b hb hl => HO.block b hl (fun e => by omega))).mono (fun b hb => ⟨by omega, by omega⟩), HRO.out, (C2.out.on b3).keep (fun k hk => (HO.block k (by have := (C2.out.on b3).lt; omega) (fun e => by omega))), only_setNew (only_setNew (only_trans2 G2.out b3) (by omega) _) (by omega) _⟩
     clear O3 b3 O2 C2 G2 R2 hSd1 hSd2 z0 z1 z2 CD OD QO QR OU HOK HC HG
     refine f_done (by kernel_rfl) ?_
     go_wp2
     go_roundw
     case rel => exact ⟨k, by omega, by go_num, NEW⟩
     case measure => simp [intOf]
   ·simp only [List.getElem_toArray, List.getElem_cons_succ, List.getElem_cons_zero]
    intro K HK
    go_wp2_with fail
    refine HK.out _ _ (fun h => absurd h (by decide)) ?_
    clear HK
    try simp only [List.getElem_toArray, List.getElem_cons_succ, List.getElem_cons_zero, Act.put, List.setIfInBounds_toArray, List.set_cons_zero, List.set_cons_succ]
    refine f_run (i := 5) (by kernel_rfl) rfl (by rfl) ?_
    simp only [List.getElem_toArray, List.getElem_cons_succ, List.getElem_cons_zero]
    intro K HK
    go_wp2_with fail
    refine HK.out _ _ (fun _ => hSd2) ?_
    clear HK
    try simp only [List.getElem_toArray, List.getElem_cons_succ, List.getElem_cons_zero, Act.put, List.setIfInBounds_toArray, List.set_cons_zero, List.set_cons_succ]
    refine f_run (i := 7) (by kernel_rfl) rfl (by rfl) ?_
    simp only [List.getElem_toArray, List.getElem_cons_succ, List.getElem_cons_zero]
    intro K HK
    go_wp2_with fail
    refine HK.out _ _ (fun h => absurd h (by decide)) ?_
    clear HK
    try simp only [List.getElem_toArray, List.getElem_cons_succ, List.getElem_cons_zero, Act.put, List.setIfInBounds_toArray, List.set_cons_zero, List.set_cons_succ]
    have HO := only_two Vd2 p5 0 1 (.slice A3 R.1.length c3) (.slice B3 R.2.length d3)
    have NEW : Hid (TIn w p p5 ((Vd2.setCell ⟨p5, 0, none⟩ (.slice A3 R.1.length c3)).setCell ⟨p5, 1, none⟩ (.slice B3 R.2.length d3))) := Lib.hid ⟨R.1, R.2, _, _, _, _, box_set (i := 1) (box_set (i := 0) hSd2), box_only (box_on R2.out b3) HO (fun e => by omega), (O3.out.keep (fun b hb hl => HO.block b hl (fun e => by omega))).mono (fun b hb => ⟨by omega, by omega⟩), HRO.out, (C2.out.on b3).keep (fun k hk => (HO.block k (by have := (C2.out.on b3).lt; omega) (fun e => by omega))), only_setNew (only_setNew (only_trans2 G2.out b3) (by omega) _) (by omega) _⟩
    clear O3 b3 O2 C2 G2 R2 hSd1 hSd2 z0 z1 z2 CD OD QO QR OU HOK HC HG
    refine f_done (by kernel_rfl) ?_
    go_wp2
    go_roundw
    case rel => exact ⟨k, by omega, by go_num, NEW⟩
    case measure => simp [intOf]
end Go.Proofs.YthopkhpiikiknaaGreat
namespace Go.Proofs.YthopkhpiikiknaaGreat
open Go.RowKit
set_option maxRecDepth 100000
set_option linter.unusedSimpArgs false
set_option linter.unusedVariables false

theorem l1Size_any (A : Option Addr) (n cap : Nat) (m : Nat) (w : World) (hn : n ≤ 1048576) (hm : m ≤ 1000) : Calls Tryz.prog 32 #[.slice A n cap, .int .i64 (m : Int)] w fun e w' => (∃ k : Nat, k ≤ m ∧ e = .returned (.int .i64 (k : Int))) ∧ w = w' := by
 have h12 : ((n : Int).tdiv 12) = ((n / 12 : Nat) : Int) := by rw [Int.ofNat_tdiv]; rfl
 have h13 : (n : Int) / 12 = ((n / 12 : Nat) : Int) := by omega
 have hw : IntKind.i64.wrap (3 + ((n / 12 : Nat) : Int)) = 3 + ((n / 12 : Nat) : Int) := by rw [IntKind.wrap_i64]; omega
 by_cases h : 3 + n / 12 ≤ m
 ·have i1 : ¬ (m : Int) < 3 + ((n / 12 : Nat) : Int) := by omega
  have i2 : 3 + ((n / 12 : Nat) : Int) ≤ (m : Int) := by omega
  generalize hq : n / 12 = q at *
  go_enter Tryz.func32, Tryz.ntmps32
  go_wp2
  go_ret
  exact ⟨⟨3 + q, h, by simp [*]⟩, rfl⟩
 ·have i2 : (m : Int) < 3 + ((n / 12 : Nat) : Int) := by omega
  generalize hq : n / 12 = q at *
  go_enter Tryz.func32, Tryz.ntmps32
  go_wp2
  go_ret
  exact ⟨⟨m, Nat.le_refl _, rfl⟩, rfl⟩
end Go.Proofs.YthopkhpiikiknaaGreat
namespace Go.Proofs.YthopkhpiikiknaaGreat
open Go.RowKit
set_option maxRecDepth 100000
set_option linter.unusedSimpArgs false
set_option linter.unusedVariables false

set_option maxHeartbeats 1000000 in
theorem sameKeysN (v u : Value) (l : List KeyD) (w : World) (hv : Reads w w.heap.size v (keysD l)) (hu : Reads w w.heap.size u (keysD l)) (hn : l.length ≤ 2097152) :
  Calls Tryz.prog 28 #[v, u] w (SaysBool w true) := by
 obtain ⟨A, c, rfl, _, _⟩ := hv.shapeK
 obtain ⟨A', c', rfl, _, _⟩ := hu.shapeK
 have HV := Lib.hid hv
 have HU := Lib.hid hu
 clear hv hu
 have hne : (((l.length : Nat) : Int) != ((l.length : Nat) : Int)) = false := by simp
 go_enter Tryz.func28, Tryz.ntmps28
 go_wp2
 go_loopw [5] (fun i wr => ∃ k : Nat, k ≤ l.length ∧ i = .int .i64 k ∧ Hid (Below w.heap.size w wr)) (fun i _ => l.length - (intOf i).toNat)
 case atStart => exact ⟨0, Nat.zero_le _, rfl, Lib.hid (Below.refl _ _)⟩
 case round =>
  obtain ⟨k, hk, rfl, HB⟩ := hrel
  by_cases hlt : k < l.length
  ·obtain ⟨b, off, rfl, hbb, hc⟩ := (HV.out.on HB.out).keys hlt
   obtain ⟨b', off', rfl, hbb', hc'⟩ := (HU.out.on HB.out).keys hlt
   have i1 : (k : Int) < (l.length : Int) := by omega
   have i2 : (0 : Int) ≤ (k : Int) := by omega
   obtain ⟨c0, c1, c2, c3, c4⟩ := hc k hlt
   obtain ⟨d0, d1, d2, d3, d4⟩ := hc' k hlt
   clear hc hc'
   have HBq : Hid (∀ n, Below w.heap.size w (wr.drewN n)) := Lib.hid (fun n => bdrew HB.out n)
   go_wp2
   go_quiet (fail)
   go_wp2
   go_roundw
   case rel => exact ⟨k + 1, by omega, by go_num, Lib.hid (HBq.out _)⟩
   case measure => simp [intOf]; omega
  ·go_wp2
   go_ret
   exact ⟨rfl, HB.out⟩
set_option maxHeartbeats 1000000 in
theorem sameNode_same (v u : Value) (ns : List (List KeyD)) (w : World) (hv : Reads w w.heap.size v (setsD ns)) (hu : Reads w w.heap.size u (setsD ns)) (hs : SmallN ns) : Calls Tryz.prog 49 #[.agg #[v], .agg #[u]] w (SaysBool w true) := by
 obtain ⟨A, c, rfl, _, _⟩ := hv.lenN
 obtain ⟨A', c', rfl, _, _⟩ := hu.lenN
 have B0 := bal2 w (.cells #[.slice A ns.length c] 62) (.cells #[.slice A' ns.length c'] 62)
 obtain ⟨q0, q1⟩ := al2 w (.cells #[.slice A ns.length c] 62) (.cells #[.slice A' ns.length c'] 62)
 have HB := Lib.hid B0
 have Q0 := Lib.hid q0
 have Q1 := Lib.hid q1
 have HV := Lib.hid (hv.on B0)
 have HU := Lib.hid (hu.on B0)
 have HS := Lib.hid hs
 have hn := hs.1
 have hne : ((ns.length : Int) != (ns.length : Int)) = false := by simp
 clear hv hu hs B0 q0 q1
 go_enter Tryz.func49, Tryz.ntmps49
 go_upto_region 1 with (fail)
 generalize (w.alloc (.cells #[.slice A ns.length c] 62)).alloc (.cells #[.slice A' ns.length c'] 62) = W at *
 obtain ⟨x0, x1⟩ := box1N Q0.out
 obtain ⟨y0, y1⟩ := box1N Q1.out
 go_wp2
 clear x0 x1 y0 y1
 go_loopw [5] (fun i wr => ∃ k : Nat, k ≤ ns.length ∧ i = .int .i64 k ∧ Hid (Below W.heap.size W wr)) (fun i _ => ns.length - (intOf i).toNat)
 case atStart => exact ⟨0, Nat.zero_le _, rfl, Lib.hid (Below.refl _ _)⟩
 case round =>
  obtain ⟨k, hk, rfl, HW⟩ := hrel
  have R0 := Lib.hid (box_on Q0.out HW.out)
  have R1 := Lib.hid (box_on Q1.out HW.out)
  obtain ⟨x0, x1⟩ := box1N R0.out
  by_cases hlt : k < ns.length
  ·obtain ⟨b, off, rfl, hbb, hc⟩ := (HV.out.on HW.out).set hlt
   obtain ⟨b2, off2, rfl, hbb2, hc2⟩ := (HU.out.on HW.out).set hlt
   obtain ⟨A1, d1, c1, _, _, r1⟩ := hc k hlt
   obtain ⟨A2, d2, c2, _, _, r2⟩ := hc2 k hlt
   have hl := HS.out.at hlt
   have RA := Lib.hid r1
   have RB := Lib.hid r2
   have C1 := Lib.hid c1
   have C2 := Lib.hid c2
   have i1 : (k : Int) < (ns.length : Int) := by omega
   have i2 : (0 : Int) ≤ (k : Int) := by omega
   clear hc hc2 r1 r2 c1 c2
   go_upto_region 6 with (fail)
   clear x0 x1
   refine but_begin (f := 11) (S := fun V => Below wr.heap.size wr V) (by kernel_rfl) ?_
   refine but_take (f := 11) (i := 0) (v := ?vs0) rfl (by kernel_rfl) (by kernel_rfl) (by kernel_rfl) (by kernel_rfl) (by kernel_rfl) (fun _ _ _ h => h) (Or.inl ⟨(by rfl), ?hys0⟩) (Below.drew1 _) ?rests0
   case hys0 =>
    intro W hW
    go_simp
    exact rfl
   simp only [List.getElem_toArray, List.getElem_cons_succ, List.getElem_cons_zero, Act.put, List.setIfInBounds_toArray, List.set_cons_zero, List.set_cons_succ]
   refine but_take (f := 11) (i := 1) (v := ?vs1) rfl (by kernel_rfl) (by kernel_rfl) (by kernel_rfl) (by kernel_rfl) (by kernel_rfl) (fun _ _ _ h => h) (Or.inl ⟨(by rfl), ?hys1⟩) (Below.drew1 _) ?rests1
   case hys1 =>
    intro W hW
    obtain ⟨x0, x1⟩ := box1N (box_on R0.out hW)
    obtain ⟨y0, y1⟩ := box1N (box_on R1.out hW)
    go_simp
    exact rfl
   simp only [List.getElem_toArray, List.getElem_cons_succ, List.getElem_cons_zero, Act.put, List.setIfInBounds_toArray, List.set_cons_zero, List.set_cons_succ]
   refine but_take (f := 11) (i := 2) (v := ?vs2) rfl (by kernel_rfl) (by kernel_rfl) (by kernel_rfl) (by kernel_rfl) (by kernel_rfl) (fun _ _ _ h => h) (Or.inl ⟨(by rfl), ?hys2⟩) (Below.drew1 _) ?rests2
   case hys2 =>
    intro W hW
    go_simp
    exact rfl
   simp only [List.getElem_toArray, List.getElem_cons_succ, List.getElem_cons_zero, Act.put, List.setIfInBounds_toArray, List.set_cons_zero, List.set_cons_succ]
   refine but_take (f := 11) (i := 3) (v := ?vs3) rfl (by kernel_rfl) (by kernel_rfl) (by kernel_rfl) (by kernel_rfl) (by kernel_rfl) (fun _ _ _ h => h) (Or.inl ⟨(by rfl), ?hys3⟩) (Below.drew1 _) ?rests3
   case hys3 =>
    intro W hW
    go_simp
    exact rfl
   simp only [List.getElem_toArray, List.getElem_cons_succ, List.getElem_cons_zero, Act.put, List.setIfInBounds_toArray, List.set_cons_zero, List.set_cons_succ]
   refine but_take (f := 11) (i := 4) (v := ?vs4) rfl (by kernel_rfl) (by kernel_rfl) (by kernel_rfl) (by kernel_rfl) (by kernel_rfl) (fun _ _ _ h => h) (Or.inl ⟨(by rfl), ?hys4⟩) (Below.drew1 _) ?rests4
   case hys4 =>
    intro W hW
    have hcc := (hW.cell (p := ⟨b, off + k, none⟩) hbb).trans C1.out
    have hcd := (hW.cell (p := ⟨b2, off2 + k, none⟩) hbb2).trans C2.out
    go_simp
    exact rfl
   simp only [List.getElem_toArray, List.getElem_cons_succ, List.getElem_cons_zero, Act.put, List.setIfInBounds_toArray, List.set_cons_zero, List.set_cons_succ]
   refine but_take (f := 11) (i := 5) (v := ?vs5) rfl (by kernel_rfl) (by kernel_rfl) (by kernel_rfl) (by kernel_rfl) (by kernel_rfl) (fun _ _ _ h => h) (Or.inl ⟨(by rfl), ?hys5⟩) (Below.drew1 _) ?rests5
   case hys5 =>
    intro W hW
    go_simp
    exact rfl
   simp only [List.getElem_toArray, List.getElem_cons_succ, List.getElem_cons_zero, Act.put, List.setIfInBounds_toArray, List.set_cons_zero, List.set_cons_succ]
   refine but_take (f := 11) (i := 6) (v := ?vs6) rfl (by kernel_rfl) (by kernel_rfl) (by kernel_rfl) (by kernel_rfl) (by kernel_rfl) (fun _ _ _ h => h) (Or.inl ⟨(by rfl), ?hys6⟩) (Below.drew1 _) ?rests6
   case hys6 =>
    intro W hW
    obtain ⟨x0, x1⟩ := box1N (box_on R0.out hW)
    obtain ⟨y0, y1⟩ := box1N (box_on R1.out hW)
    go_simp
    exact rfl
   simp only [List.getElem_toArray, List.getElem_cons_succ, List.getElem_cons_zero, Act.put, List.setIfInBounds_toArray, List.set_cons_zero, List.set_cons_succ]
   refine but_take (f := 11) (i := 7) (v := ?vs7) rfl (by kernel_rfl) (by kernel_rfl) (by kernel_rfl) (by kernel_rfl) (by kernel_rfl) (fun _ _ _ h => h) (Or.inl ⟨(by rfl), ?hys7⟩) (Below.drew1 _) ?rests7
   case hys7 =>
    intro W hW
    go_simp
    exact rfl
   simp only [List.getElem_toArray, List.getElem_cons_succ, List.getElem_cons_zero, Act.put, List.setIfInBounds_toArray, List.set_cons_zero, List.set_cons_succ]
   refine but_take (f := 11) (i := 8) (v := ?vs8) rfl (by kernel_rfl) (by kernel_rfl) (by kernel_rfl) (by kernel_rfl) (by kernel_rfl) (fun _ _ _ h => h) (Or.inl ⟨(by rfl), ?hys8⟩) (Below.drew1 _) ?rests8
   case hys8 =>
    intro W hW
    go_simp
    exact rfl
   simp only [List.getElem_toArray, List.getElem_cons_succ, List.getElem_cons_zero, Act.put, List.setIfInBounds_toArray, List.set_cons_zero, List.set_cons_succ]
   refine but_take (f := 11) (i := 9) (v := ?vs9) rfl (by kernel_rfl) (by kernel_rfl) (by kernel_rfl) (by kernel_rfl) (by kernel_rfl) (fun _ _ _ h => h) (Or.inl ⟨(by rfl), ?hys9⟩) (Below.drew1 _) ?rests9
   case hys9 =>
    intro W hW
    have hcc := (hW.cell (p := ⟨b, off + k, none⟩) hbb).trans C1.out
    have hcd := (hW.cell (p := ⟨b2, off2 + k, none⟩) hbb2).trans C2.out
    go_simp
    exact rfl
   simp only [List.getElem_toArray, List.getElem_cons_succ, List.getElem_cons_zero, Act.put, List.setIfInBounds_toArray, List.set_cons_zero, List.set_cons_succ]
   refine but_run (i := 10) (by kernel_rfl) rfl (by rfl) ?_
   simp only [List.getElem_toArray, List.getElem_cons_succ, List.getElem_cons_zero]
   intro K HK
   go_wp2_with fail
   refine (sameKeysN _ _ ns[k] _ (RA.out.on (Below.drew1 _)) (RB.out.on (Below.drew1 _)) (by omega)).mono ?_
   rintro r Vs1 ⟨rfl, hbs1⟩
   go_wp2_with fail
   have hSs1 : (fun V => Below wr.heap.size wr V) Vs1 := bstep (Below.drew1 _) hbs1
   refine HK.out _ _ (fun _ => hSs1) ?_
   clear HK
   refine but_run (i := 11) (by kernel_rfl) rfl (by rfl) ?_
   simp only [List.getElem_toArray, List.getElem_cons_succ, List.getElem_cons_zero]
   intro K HK
   go_wp2_with fail
   refine HK.out _ _ (fun h => absurd rfl h) ?_
   clear HK
   refine but_done (by kernel_rfl) ?_
   have HW2 := Lib.hid (HW.out.trans (hSs1.mono HW.out.size))
   clear hSs1 hbs1
   go_wp2
   go_roundw
   case rel => exact ⟨k + 1, by omega, by go_num, HW2⟩
   case measure => simp [intOf]; omega
  ·go_wp2
   go_ret
   exact ⟨rfl, bstep HB.out HW.out⟩
end Go.Proofs.YthopkhpiikiknaaGreat
namespace Go.Proofs.YthopkhpiikiknaaGreat
open Go.RowKit
set_option maxRecDepth 100000
set_option linter.unusedSimpArgs false
set_option linter.unusedVariables false

/-- u is a row of sets in blocks from base to n1, none of them bo. -/
def NOwnB (w : World) (base bo n1 : Nat) (u : Value) (ns : List (List KeyD)) : Prop :=
 ∃ xs, w.ownsRow base 36 1 u ns.length xs ∧ OwnsL w (fun b => ((base ≤ b ∧ b ≠ bo) ∧ u.ownBlock ≠ some b) ∧ b < n1) xs (ns.map keysD) ∧ u.ownBlock ≠ some bo ∧ ∀ g, u.ownBlock = some g → g < n1
theorem NOwn.upto {w : World} {base bo : Nat} {u : Value} {ns : List (List KeyD)} (h : NOwn w base bo u ns) : NOwnB w base bo w.heap.size u ns := by
 obtain ⟨xs, h1, h2, h3⟩ := h
 exact ⟨xs, h1, h2.lt, h3, fun g hg => (row_lt h1 g hg).1⟩
theorem NOwnB.on {w w' : World} {base bo n1 : Nat} {u : Value} {ns : List (List KeyD)} (h : NOwnB w base bo n1 u ns) (hb : Below w.heap.size w w') : NOwnB w' base bo n1 u ns := by
 obtain ⟨xs, h1, h2, h3, h4⟩ := h
 exact ⟨xs, row_on h1 hb, h2.on hb, h3, h4⟩
theorem NOwnB.farP {w w' : World} {p base bo n1 : Nat} {u : Value} {ns : List (List KeyD)} (h : NOwnB w base bo n1 u ns) (hg : w.grownBy w' (some p)) (hp : p < base) : NOwnB w' base bo n1 u ns := by
 obtain ⟨xs, h1, h2, h3, h4⟩ := h
 exact ⟨xs, row_keep h1 (fun g hg' => hg.block g (row_lt h1 g hg').1 (fun e => by injection e with e; have := (row_lt h1 g hg').2; omega)), h2.far (only_ofN hg) (fun b hb _ e => by have := hb.1.1.1; omega), h3, h4⟩
/-- More sets laid behind the row, and its new value stored into the box. -/
theorem NOwnB.apps {w w7 w8 : World} {base bo n1 : Nat} {u v8 : Value} {ns ms : List (List KeyD)} {xs ys : List Value} (h1 : w.ownsRow base 36 1 u ns.length xs) (h2 : OwnsL w (fun b => ((base ≤ b ∧ b ≠ bo) ∧ u.ownBlock ≠ some b) ∧ b < n1) xs (ns.map keysD)) (h3 : u.ownBlock ≠ some bo) (h4 : ∀ g, u.ownBlock = some g → g < n1)
  (hbo : bo < n1) (hbase : base ≤ n1) (hn1 : n1 ≤ w.heap.size) (b7 : Below w.heap.size w w7) (hys : OwnsL w7 (fun b => n1 ≤ b ∧ b < w7.heap.size) ys (ms.map keysD)) (o8 : w8.ownsRow base 36 1 v8 (ns.length + ms.length) (xs ++ ys)) (g8 : w7.grownBy w8 u.ownBlock) (hat : v8.ownBlock = u.ownBlock ∨ v8.ownBlock = some w7.heap.size) :
  NOwn (w8.setCell ⟨bo, 0, none⟩ v8) base bo v8 (ns ++ ms) := by
 have hz7 := b7.size
 have hn8 : v8.ownBlock ≠ some bo := by
  rcases hat with h | h
  ·rw [h]; exact h3
  ·rw [h]; simp; omega
 have hO : Only (fun b => u.ownBlock = some b) w7 w8 := ⟨g8.os, g8.tape, g8.output, g8.size, fun i hi hn => g8.block i hi (fun e => hn e.symm)⟩
 have k1 := (h2.on b7).far hO (fun b hb _ hb' => hb.1.2 hb')
 have k2 := hys.far hO (fun b hb _ hb' => by have := h4 b hb'; have := hb.1; omega)
 have k3 : OwnsL w8 (fun b => (base ≤ b ∧ b ≠ bo) ∧ v8.ownBlock ≠ some b) (xs ++ ys) (ns.map keysD ++ ms.map keysD) := by
  refine k1.append k2 (fun b hb => ⟨hb.1.1, fun hv => ?_⟩) (fun b hb => ⟨⟨by have := hb.1; omega, by have := hb.1; omega⟩, fun hv => ?_⟩) (fun b hb hb' => by have := hb.2; have := hb'.1; omega)
  ·rcases hat with h | h
   ·exact hb.1.2 (h ▸ hv)
   ·rw [h] at hv; simp at hv; have := hb.2; omega
  ·rcases hat with h | h
   ·have := h4 b (h ▸ hv); have := hb.1; omega
   ·rw [h] at hv; simp at hv; have := hb.2; omega
 refine ⟨xs ++ ys, ?_, ?_, hn8⟩
 ·rw [List.length_append]
  exact row_keep o8 (fun g hg => Below.heap_setCell _ _ _ _ (fun e => hn8 (by have e' : g = bo := e; rw [← e']; exact hg)))
 ·rw [List.map_append]
  exact k3.keep (fun b hb _ => Below.heap_setCell _ _ _ _ hb.1.2)
theorem At.lit2n (w : World) (a b : Value) (e : TypeId) {n : Nat} (h : w.heap.size = n) : At (w.alloc (.cells #[a, b] e)) (some ⟨n, 0, none⟩) [a, b] := h ▸ At.lit2 w a b e
/-- One key in a block of its own. -/
theorem own_key1 {w : World} {b : Nat} {k : KeyD} (h : w.heap[b]? = some (.cells #[.int .i64 k.a, .int .i64 k.b, .int .i64 k.c, .int .i64 k.d, .int .i64 k.e] 29 (0, 0))) : Owns w (fun x => x = b) (.slice (some ⟨b, 0, none⟩) 1 1) (keysD [k]) :=
 RwK.owns (l := [k]) (cap := 1) (S := fun x => x = b) ⟨_, h, rfl, rfl⟩ rfl (Nat.le_refl _) (by unfold maxLen; omega)
/-- Any drawn node. -/
def AnyN (w : World) (p : Nat) (e : Ending) (w' : World) : Prop := ∃ v ns, e = .returned (.agg #[v]) ∧ Owns w' (fun b => w.heap.size ≤ b) v (setsD ns) ∧ ns.length ≤ 5 ∧ sumN ns ≤ 20 ∧ Cur w' p ∧ w.grownBy w' (some p)
set_option maxHeartbeats 2000000 in
theorem l5Any_any (p : Nat) (w : World) (hc : Cur w p) : Calls Tryz.prog 97 #[.pointer (some ⟨p, 0, none⟩)] w (AnyN w p) := by
 have hlt := hc.lt
 have HD := Lib.hid l3Draw_any
 unfold AKey keyV at HD
 have C0 := Lib.hid (hc.alloc (.cells #[.slice none 0 0] 62))
 have G0 := Lib.hid (only_start w (.cells #[.slice none 0 0] 62) (some p))
 have Q0 := Lib.hid (al1 w (.cells #[.slice none 0 0] 62))
 have HZ : Hid ((w.alloc (.cells #[.slice none 0 0] 62)).heap.size = w.heap.size + 1) := Lib.hid (by simp)
 clear hc
 go_enter Tryz.func97, Tryz.ntmps97
 go_upto_region 1 with (fail)
 generalize w.alloc (.cells #[.slice none 0 0] 62) = W at *
 have hz1 := Nat.le_of_eq HZ.out
 have hz2 := Nat.le_of_eq HZ.out.symm
 clear HZ
 go_wp2_with fail
 refine (l5Draw_any p W C0.out).mono ?_
 rintro r w1 ⟨u, ns, rfl, o1, hok, c1, g1⟩
 obtain ⟨Au, cu, rfl, _, _⟩ := o1.reads.lenN
 have hsm := okN_small hok
 have NO := Lib.hid (NOwn.of o1 (.cells #[.slice Au ns.length cu] 62))
 have QO := Lib.hid (al1 w1 (.cells #[.slice Au ns.length cu] 62))
 have QR := Lib.hid (box_on (box_grows Q0.out g1 (by omega)) (bal1 w1 (.cells #[.slice Au ns.length cu] 62)))
 have CC := Lib.hid (c1.alloc (.cells #[.slice Au ns.length cu] 62))
 have GG := Lib.hid (only_alloc (only_trans G0.out g1) (.cells #[.slice Au ns.length cu] 62))
 have hb1 := g1.size
 have HZ : Hid ((w1.alloc (.cells #[.slice Au ns.length cu] 62)).heap.size = w1.heap.size + 1) := Lib.hid (by simp)
 clear o1 c1 g1 hok Q0 C0 G0
 go_upto_region 2 with (fail)
 generalize w1.alloc (.cells #[.slice Au ns.length cu] 62) = W2 at *
 have hz3 := Nat.le_of_eq HZ.out
 have hz4 := Nat.le_of_eq HZ.out.symm
 clear HZ
 go_wp2_with fail
 refine (l1Below_any p 8 _ CC.out (by omega) (by omega)).mono ?_
 rintro r w2 ⟨j, hj, rfl, c2, g2⟩
 replace NO := Lib.hid (NO.out.farP g2 (by omega))
 replace QO := Lib.hid (box_grows QO.out g2 (by omega))
 replace QR := Lib.hid (box_grows QR.out g2 (by omega))
 replace CC := Lib.hid c2
 replace GG := Lib.hid (only_trans GG.out g2)
 have hb2 := g2.size
 have NB := Lib.hid (NO.out.upto.on (Below.drew1 w2))
 have CD := Lib.hid (CC.out.keep (w' := w2.drew) (fun _ _ => rfl))
 have GD := Lib.hid (only_draw1 GG.out)
 have QD := Lib.hid (show w2.drew.heap[w.heap.size]? = some (.cells #[.slice none 0 0] 62) from QR.out)
 have hzd : w2.heap.size ≤ w2.drew.heap.size := Nat.le_refl _
 clear c2 g2
 rcases j with _ | _ | j
 ·go_upto_region 4 with (fail)
  refine but_begin (f := 7) (S := fun V => V.heap[w1.heap.size]? = some (.cells #[.slice Au ns.length cu] 62)) (by kernel_rfl) ?_
  refine but_take (f := 7) (i := 0) (v := ?va0) rfl (by kernel_rfl) (by kernel_rfl) (by kernel_rfl) (by kernel_rfl) (by kernel_rfl) (fun _ _ _ h => h) (Or.inl ⟨(by rfl), ?hya0⟩) (show w2.drew.heap[w1.heap.size]? = some _ from QO.out) ?resta0
  case hya0 =>
   intro W hW
   go_simp
   exact rfl
  simp only [List.getElem_toArray, List.getElem_cons_succ, List.getElem_cons_zero, Act.put, List.setIfInBounds_toArray, List.set_cons_zero, List.set_cons_succ]
  refine but_take (f := 7) (i := 1) (v := ?va1) rfl (by kernel_rfl) (by kernel_rfl) (by kernel_rfl) (by kernel_rfl) (by kernel_rfl) (fun _ _ _ h => h) (Or.inl ⟨(by rfl), ?hya1⟩) (show w2.drew.heap[w1.heap.size]? = some _ from QO.out) ?resta1
  case hya1 =>
   intro W hW
   obtain ⟨z0, z1⟩ := box1N hW
   go_simp
   exact rfl
  simp only [List.getElem_toArray, List.getElem_cons_succ, List.getElem_cons_zero, Act.put, List.setIfInBounds_toArray, List.set_cons_zero, List.set_cons_succ]
  refine but_take (f := 7) (i := 2) (v := ?va2) rfl (by kernel_rfl) (by kernel_rfl) (by kernel_rfl) (by kernel_rfl) (by kernel_rfl) (fun _ _ _ h => h) (Or.inl ⟨(by rfl), ?hya2⟩) (show w2.drew.heap[w1.heap.size]? = some _ from QO.out) ?resta2
  case hya2 =>
   intro W hW
   go_simp
   exact rfl
  simp only [List.getElem_toArray, List.getElem_cons_succ, List.getElem_cons_zero, Act.put, List.setIfInBounds_toArray, List.set_cons_zero, List.set_cons_succ]
  refine but_run (i := 3) (by kernel_rfl) rfl (by rfl) ?_
  simp only [List.getElem_toArray, List.getElem_cons_succ, List.getElem_cons_zero]
  intro K HK
  go_wp2_with fail
  refine (l4Any_any p 6 _ CD.out (by omega)).mono ?_
  rintro r Va1 ⟨v3, l3, rfl, o3, hl3, c3, g3⟩
  obtain ⟨A3, c3v, rfl, _, _⟩ := o3.shape
  go_wp2_with fail
  have hSa1 : (fun V => V.heap[w1.heap.size]? = some (.cells #[.slice Au ns.length cu] 62)) Va1 := box_grows (show w2.drew.heap[w1.heap.size]? = some _ from QO.out) g3 (by omega)
  refine HK.out _ _ (fun _ => hSa1) ?_
  clear HK
  have CC3 := Lib.hid c3
  have GG3 := Lib.hid (only_trans GD.out g3)
  have QR3 := Lib.hid (box_grows QD.out g3 (by omega))
  replace NB := Lib.hid (NB.out.farP g3 (by omega))
  have hza1 := g3.size
  have OY := Lib.hid o3
  clear c3 g3 o3
  refine but_run (i := 4) (by kernel_rfl) rfl (by rfl) ?_
  simp only [List.getElem_toArray, List.getElem_cons_succ, List.getElem_cons_zero]
  intro K HK
  go_wp2_with fail
  have hSa2 : (fun V => V.heap[w1.heap.size]? = some (.cells #[.slice Au ns.length cu] 62)) (Va1.alloc (.cells #[.slice A3 l3.length c3v] 36)) := box_on hSa1 (bal1 _ _)
  refine HK.out _ _ (fun _ => hSa2) ?_
  clear HK
  replace NB := Lib.hid (NB.out.on (bal1 Va1 (.cells #[.slice A3 l3.length c3v] 36)))
  replace CC3 := Lib.hid (CC3.out.alloc (.cells #[.slice A3 l3.length c3v] 36))
  replace GG3 := Lib.hid (only_alloc GG3.out (.cells #[.slice A3 l3.length c3v] 36))
  replace QR3 := Lib.hid (box_on QR3.out (bal1 Va1 (.cells #[.slice A3 l3.length c3v] 36)))
  have HYS := Lib.hid (OwnsL.one ((OY.out.owns.on (bal1 Va1 (.cells #[.slice A3 l3.length c3v] 36))).lt))
  have hza2 : (Va1.alloc (.cells #[.slice A3 l3.length c3v] 36)).heap.size ≤ Va1.heap.size + 1 := by simp
  have hya2 : Va1.heap.size + 1 ≤ (Va1.alloc (.cells #[.slice A3 l3.length c3v] 36)).heap.size := by simp
  refine but_run (i := 5) (by kernel_rfl) rfl (by rfl) ?_
  simp only [List.getElem_toArray, List.getElem_cons_succ, List.getElem_cons_zero]
  intro K HK
  obtain ⟨xs, hr, ho, hne, hug⟩ := NB.out
  have HR0 := Lib.hid hr
  have HO0 := Lib.hid ho
  have HNE := Lib.hid hne
  have HUG := Lib.hid hug
  clear hr ho hne hug
  have B7 := Lib.hid (Below.refl (Va1.alloc (.cells #[.slice A3 l3.length c3v] 36)).heap.size (Va1.alloc (.cells #[.slice A3 l3.length c3v] 36)))
  refine operAppN _ (by rfl) (.tmp 11) (.tmp 14) 60 36 1 24 (.slice none 0 0) (by rfl) Tryz.underlying60 (by kernel_rfl) rfl (by omega) (by omega) W.heap.size ns.length _ xs (by rfl) HR0.out _ 1 1 [.slice A3 l3.length c3v] (by rfl) rfl (At.lit1 _ _ _) (by simp [Value.oneCell']) (by omega) (by omega) ?_
  intro v8 Va3 o8 g8 _ at8
  have P8 := Lib.hid (box_grown hSa2 g8 HNE.out)
  have P9 := Lib.hid (box_grown QR3.out g8 (row_ne HR0.out (by omega)))
  have hO8 : Only (fun b => W.heap.size ≤ b) (Va1.alloc (.cells #[.slice A3 l3.length c3v] 36)) Va3 := ⟨g8.os, g8.tape, g8.output, g8.size, fun i hi hn => g8.block i hi (fun e => hn (row_lt HR0.out i e.symm).2)⟩
  have C8 := Lib.hid (CC3.out.keep (w' := Va3) (fun k hk => hO8.block k (by have := CC3.out.lt; omega) (fun h => by omega)))
  have G8' := Lib.hid (grown_on GG3.out (hO8.below (by omega) (fun b hb => by omega)))
  have G8 := Lib.hid g8
  have O8 := Lib.hid o8
  have AT8 := Lib.hid at8
  obtain ⟨gv, cv, rfl⟩ := row_shape o8 (by omega)
  clear o8 at8 hO8
  have hSa3 : (fun V => V.heap[w1.heap.size]? = some (.cells #[.slice Au ns.length cu] 62)) Va3 := P8.out
  refine HK.out _ _ (fun _ => hSa3) ?_
  clear HK
  clear g8
  obtain ⟨z0, z1⟩ := box1N P8.out
  simp only [List.getElem_toArray, List.getElem_cons_succ, List.getElem_cons_zero, Act.put, List.setIfInBounds_toArray, List.set_cons_zero, List.set_cons_succ]
  refine but_take (f := 7) (i := 6) (v := ?va6) rfl (by kernel_rfl) (by kernel_rfl) (by kernel_rfl) (by kernel_rfl) (by kernel_rfl) (fun _ _ _ h => h) (Or.inl ⟨(by rfl), ?hya6⟩) hSa3 ?resta6
  case hya6 =>
   intro W hW
   go_simp
   exact rfl
  simp only [List.getElem_toArray, List.getElem_cons_succ, List.getElem_cons_zero, Act.put, List.setIfInBounds_toArray, List.set_cons_zero, List.set_cons_succ]
  refine but_run (i := 7) (by kernel_rfl) rfl (by rfl) ?_
  simp only [List.getElem_toArray, List.getElem_cons_succ, List.getElem_cons_zero]
  intro K HK
  go_wp2_with fail
  refine HK.out _ _ (fun h => absurd rfl h) ?_
  clear HK
  refine but_done (by kernel_rfl) ?_
  have hN := Lib.hid (NOwnB.apps (ms := [l3]) HR0.out HO0.out HNE.out HUG.out (by omega) (by omega) (by omega) (Below.refl _ _) HYS.out O8.out G8.out AT8.out)
  have PX := Lib.hid (box_set (i := 0) (u := .slice (some ⟨gv, 0, none⟩) (ns.length + 1) cv) P8.out)
  have PY := Lib.hid (box_far (j := 0) (u := .slice (some ⟨gv, 0, none⟩) (ns.length + 1) cv) P9.out (show w.heap.size ≠ w1.heap.size by omega))
  have CX := Lib.hid (C8.out.setNew (j := 0) (show p < w1.heap.size by omega) (.slice (some ⟨gv, 0, none⟩) (ns.length + 1) cv))
  have GX := Lib.hid (only_setNew (j := 0) G8'.out (show w.heap.size ≤ w1.heap.size by omega) (.slice (some ⟨gv, 0, none⟩) (ns.length + 1) cv))
  clear P8 P9 C8 G8' z0 z1
  go_upto_region 7 with (fail)
  generalize Va3.setCell ⟨w1.heap.size, 0, none⟩ (.slice (some ⟨gv, 0, none⟩) (ns.length + 1) cv) = W9 at *
  obtain ⟨z0, z1⟩ := box1N PX.out
  obtain ⟨y0, y1⟩ := box1N PY.out
  go_wp2
  refine bodyPost_ret (v := .agg #[.slice (some ⟨gv, 0, none⟩) (ns.length + 1) cv]) (by simp [results, Tryz.results97, go_sem, y0, y1]) rfl ⟨_, ns ++ [l3], rfl, (hN.out.owns.setFar (by omega)).mono (fun b hb => by have := hb.1; omega), by simp; omega, by rw [sumN_append]; simp [sumN] at hsm ⊢; omega, CX.out.setNew hlt _, only_setNew GX.out (Nat.le_refl _) _⟩
 ·go_upto_region 6 with (fail)
  refine but_begin (f := 11) (S := fun V => V.heap[w1.heap.size]? = some (.cells #[.slice Au ns.length cu] 62)) (by kernel_rfl) ?_
  refine but_take (f := 11) (i := 0) (v := ?vb0) rfl (by kernel_rfl) (by kernel_rfl) (by kernel_rfl) (by kernel_rfl) (by kernel_rfl) (fun _ _ _ h => h) (Or.inl ⟨(by rfl), ?hyb0⟩) (show w2.drew.heap[w1.heap.size]? = some _ from QO.out) ?restb0
  case hyb0 =>
   intro W hW
   go_simp
   exact rfl
  simp only [List.getElem_toArray, List.getElem_cons_succ, List.getElem_cons_zero, Act.put, List.setIfInBounds_toArray, List.set_cons_zero, List.set_cons_succ]
  refine but_take (f := 11) (i := 1) (v := ?vb1) rfl (by kernel_rfl) (by kernel_rfl) (by kernel_rfl) (by kernel_rfl) (by kernel_rfl) (fun _ _ _ h => h) (Or.inl ⟨(by rfl), ?hyb1⟩) (show w2.drew.heap[w1.heap.size]? = some _ from QO.out) ?restb1
  case hyb1 =>
   intro W hW
   obtain ⟨z0, z1⟩ := box1N hW
   go_simp
   exact rfl
  simp only [List.getElem_toArray, List.getElem_cons_succ, List.getElem_cons_zero, Act.put, List.setIfInBounds_toArray, List.set_cons_zero, List.set_cons_succ]
  refine but_take (f := 11) (i := 2) (v := ?vb2) rfl (by kernel_rfl) (by kernel_rfl) (by kernel_rfl) (by kernel_rfl) (by kernel_rfl) (fun _ _ _ h => h) (Or.inl ⟨(by rfl), ?hyb2⟩) (show w2.drew.heap[w1.heap.size]? = some _ from QO.out) ?restb2
  case hyb2 =>
   intro W hW
   go_simp
   exact rfl
  simp only [List.getElem_toArray, List.getElem_cons_succ, List.getElem_cons_zero, Act.put, List.setIfInBounds_toArray, List.set_cons_zero, List.set_cons_succ]
  refine but_take (f := 11) (i := 5) (v := ?vb5) rfl (by kernel_rfl) (by kernel_rfl) (by kernel_rfl) (by kernel_rfl) (by kernel_rfl) (fun _ _ _ h => h) (Or.inl ⟨(by rfl), ?hyb5⟩) (show w2.drew.heap[w1.heap.size]? = some _ from QO.out) ?restb5
  case hyb5 =>
   intro W hW
   go_simp
   exact rfl
  simp only [List.getElem_toArray, List.getElem_cons_succ, List.getElem_cons_zero, Act.put, List.setIfInBounds_toArray, List.set_cons_zero, List.set_cons_succ]
  refine but_run (i := 3) (by kernel_rfl) rfl (by rfl) ?_
  simp only [List.getElem_toArray, List.getElem_cons_succ, List.getElem_cons_zero]
  intro K HK
  go_wp2_with fail
  refine (HD.out p _ CD.out).mono ?_
  rintro r Vb1 ⟨ya, yb, yc, yd, ye, rfl, sm1, c3, g3⟩
  go_wp2_with fail
  have hSb1 : (fun V => V.heap[w1.heap.size]? = some (.cells #[.slice Au ns.length cu] 62)) Vb1 := box_grows (show w2.drew.heap[w1.heap.size]? = some _ from QO.out) g3 (by omega)
  refine HK.out _ _ (fun _ => hSb1) ?_
  clear HK
  have CC3 := Lib.hid c3
  have GG3 := Lib.hid (only_trans GD.out g3)
  have QR3 := Lib.hid (box_grows QD.out g3 (by omega))
  replace NB := Lib.hid (NB.out.farP g3 (by omega))
  have hzb1 := g3.size
  clear c3 g3 sm1
  refine but_two (i := 4) (j := 6) (by kernel_rfl) rfl rfl (by rfl) (by rfl) ?_ ?_
  ·simp only [List.getElem_toArray, List.getElem_cons_succ, List.getElem_cons_zero]
   intro K HK
   go_wp2_with fail
   have hSbp2 : (fun V => V.heap[w1.heap.size]? = some (.cells #[.slice Au ns.length cu] 62)) (Vb1.alloc (.cells #[.int .i64 ya, .int .i64 yb, .int .i64 yc, .int .i64 yd, .int .i64 ye] 29)) := box_on hSb1 (bal1 _ _)
   refine HK.out _ _ (fun _ => hSbp2) ?_
   clear HK
   have QS1 : Hid ((Vb1.alloc (.cells #[.int .i64 ya, .int .i64 yb, .int .i64 yc, .int .i64 yd, .int .i64 ye] 29)).heap[Vb1.heap.size]? = some (.cells #[.int .i64 ya, .int .i64 yb, .int .i64 yc, .int .i64 yd, .int .i64 ye] 29)) := Lib.hid (by have h := al1 Vb1 (.cells #[.int .i64 ya, .int .i64 yb, .int .i64 yc, .int .i64 yd, .int .i64 ye] 29); simpa only [World.size_alloc] using h)
   replace NB := Lib.hid (NB.out.on (bal1 Vb1 (.cells #[.int .i64 ya, .int .i64 yb, .int .i64 yc, .int .i64 yd, .int .i64 ye] 29)))
   replace CC3 := Lib.hid (CC3.out.alloc (.cells #[.int .i64 ya, .int .i64 yb, .int .i64 yc, .int .i64 yd, .int .i64 ye] 29))
   replace GG3 := Lib.hid (only_alloc GG3.out (.cells #[.int .i64 ya, .int .i64 yb, .int .i64 yc, .int .i64 yd, .int .i64 ye] 29))
   replace QR3 := Lib.hid (box_on QR3.out (bal1 Vb1 (.cells #[.int .i64 ya, .int .i64 yb, .int .i64 yc, .int .i64 yd, .int .i64 ye] 29)))
   try replace QS2 := Lib.hid (box_on QS2.out (bal1 Vb1 (.cells #[.int .i64 ya, .int .i64 yb, .int .i64 yc, .int .i64 yd, .int .i64 ye] 29)))
   have hzbp2 : (Vb1.alloc (.cells #[.int .i64 ya, .int .i64 yb, .int .i64 yc, .int .i64 yd, .int .i64 ye] 29)).heap.size ≤ Vb1.heap.size + 1 := by simp
   have hybp2 : Vb1.heap.size + 1 ≤ (Vb1.alloc (.cells #[.int .i64 ya, .int .i64 yb, .int .i64 yc, .int .i64 yd, .int .i64 ye] 29)).heap.size := by simp
   refine but_run (i := 6) (by kernel_rfl) rfl (by rfl) ?_
   simp only [List.getElem_toArray, List.getElem_cons_succ, List.getElem_cons_zero]
   intro K HK
   go_wp2_with fail
   refine (HD.out p _ CC3.out).mono ?_
   rintro r Vbp3 ⟨ua, ub, uc, ud, ue, rfl, sm2, c6, g6⟩
   go_wp2_with fail
   have hSbp3 : (fun V => V.heap[w1.heap.size]? = some (.cells #[.slice Au ns.length cu] 62)) Vbp3 := box_grows hSbp2 g6 (by omega)
   refine HK.out _ _ (fun _ => hSbp3) ?_
   clear HK
   replace CC3 := Lib.hid c6
   replace GG3 := Lib.hid (only_trans GG3.out g6)
   replace QR3 := Lib.hid (box_grows QR3.out g6 (by omega))
   replace NB := Lib.hid (NB.out.farP g6 (by omega))
   try replace QS1 := Lib.hid (box_grows QS1.out g6 (by omega))
   have hzbp3 := g6.size
   clear c6 g6 sm2
   refine but_run (i := 7) (by kernel_rfl) rfl (by rfl) ?_
   simp only [List.getElem_toArray, List.getElem_cons_succ, List.getElem_cons_zero]
   intro K HK
   go_wp2_with fail
   have hSbp4 : (fun V => V.heap[w1.heap.size]? = some (.cells #[.slice Au ns.length cu] 62)) (Vbp3.alloc (.cells #[.int .i64 ua, .int .i64 ub, .int .i64 uc, .int .i64 ud, .int .i64 ue] 29)) := box_on hSbp3 (bal1 _ _)
   refine HK.out _ _ (fun _ => hSbp4) ?_
   clear HK
   have QS2 : Hid ((Vbp3.alloc (.cells #[.int .i64 ua, .int .i64 ub, .int .i64 uc, .int .i64 ud, .int .i64 ue] 29)).heap[Vbp3.heap.size]? = some (.cells #[.int .i64 ua, .int .i64 ub, .int .i64 uc, .int .i64 ud, .int .i64 ue] 29)) := Lib.hid (by have h := al1 Vbp3 (.cells #[.int .i64 ua, .int .i64 ub, .int .i64 uc, .int .i64 ud, .int .i64 ue] 29); simpa only [World.size_alloc] using h)
   replace NB := Lib.hid (NB.out.on (bal1 Vbp3 (.cells #[.int .i64 ua, .int .i64 ub, .int .i64 uc, .int .i64 ud, .int .i64 ue] 29)))
   replace CC3 := Lib.hid (CC3.out.alloc (.cells #[.int .i64 ua, .int .i64 ub, .int .i64 uc, .int .i64 ud, .int .i64 ue] 29))
   replace GG3 := Lib.hid (only_alloc GG3.out (.cells #[.int .i64 ua, .int .i64 ub, .int .i64 uc, .int .i64 ud, .int .i64 ue] 29))
   replace QR3 := Lib.hid (box_on QR3.out (bal1 Vbp3 (.cells #[.int .i64 ua, .int .i64 ub, .int .i64 uc, .int .i64 ud, .int .i64 ue] 29)))
   try replace QS1 := Lib.hid (box_on QS1.out (bal1 Vbp3 (.cells #[.int .i64 ua, .int .i64 ub, .int .i64 uc, .int .i64 ud, .int .i64 ue] 29)))
   have hzbp4 : (Vbp3.alloc (.cells #[.int .i64 ua, .int .i64 ub, .int .i64 uc, .int .i64 ud, .int .i64 ue] 29)).heap.size ≤ Vbp3.heap.size + 1 := by simp
   have hybp4 : Vbp3.heap.size + 1 ≤ (Vbp3.alloc (.cells #[.int .i64 ua, .int .i64 ub, .int .i64 uc, .int .i64 ud, .int .i64 ue] 29)).heap.size := by simp
   refine but_run (i := 8) (by kernel_rfl) rfl (by rfl) ?_
   simp only [List.getElem_toArray, List.getElem_cons_succ, List.getElem_cons_zero]
   intro K HK
   go_wp2_with fail
   have hSbp5 : (fun V => V.heap[w1.heap.size]? = some (.cells #[.slice Au ns.length cu] 62)) ((Vbp3.alloc (.cells #[.int .i64 ua, .int .i64 ub, .int .i64 uc, .int .i64 ud, .int .i64 ue] 29)).alloc (.cells #[.slice (some ⟨Vb1.heap.size, 0, none⟩) 1 1, .slice (some ⟨Vbp3.heap.size, 0, none⟩) 1 1] 36)) := box_on hSbp4 (bal1 _ _)
   refine HK.out _ _ (fun _ => hSbp5) ?_
   clear HK
   replace NB := Lib.hid (NB.out.on (bal1 (Vbp3.alloc (.cells #[.int .i64 ua, .int .i64 ub, .int .i64 uc, .int .i64 ud, .int .i64 ue] 29)) (.cells #[.slice (some ⟨Vb1.heap.size, 0, none⟩) 1 1, .slice (some ⟨Vbp3.heap.size, 0, none⟩) 1 1] 36)))
   replace CC3 := Lib.hid (CC3.out.alloc (.cells #[.slice (some ⟨Vb1.heap.size, 0, none⟩) 1 1, .slice (some ⟨Vbp3.heap.size, 0, none⟩) 1 1] 36))
   replace GG3 := Lib.hid (only_alloc GG3.out (.cells #[.slice (some ⟨Vb1.heap.size, 0, none⟩) 1 1, .slice (some ⟨Vbp3.heap.size, 0, none⟩) 1 1] 36))
   replace QR3 := Lib.hid (box_on QR3.out (bal1 (Vbp3.alloc (.cells #[.int .i64 ua, .int .i64 ub, .int .i64 uc, .int .i64 ud, .int .i64 ue] 29)) (.cells #[.slice (some ⟨Vb1.heap.size, 0, none⟩) 1 1, .slice (some ⟨Vbp3.heap.size, 0, none⟩) 1 1] 36)))
   replace QS1 := Lib.hid (box_on QS1.out (bal1 (Vbp3.alloc (.cells #[.int .i64 ua, .int .i64 ub, .int .i64 uc, .int .i64 ud, .int .i64 ue] 29)) (.cells #[.slice (some ⟨Vb1.heap.size, 0, none⟩) 1 1, .slice (some ⟨Vbp3.heap.size, 0, none⟩) 1 1] 36)))
   replace QS2 := Lib.hid (box_on QS2.out (bal1 (Vbp3.alloc (.cells #[.int .i64 ua, .int .i64 ub, .int .i64 uc, .int .i64 ud, .int .i64 ue] 29)) (.cells #[.slice (some ⟨Vb1.heap.size, 0, none⟩) 1 1, .slice (some ⟨Vbp3.heap.size, 0, none⟩) 1 1] 36)))
   have hzbp5 : ((Vbp3.alloc (.cells #[.int .i64 ua, .int .i64 ub, .int .i64 uc, .int .i64 ud, .int .i64 ue] 29)).alloc (.cells #[.slice (some ⟨Vb1.heap.size, 0, none⟩) 1 1, .slice (some ⟨Vbp3.heap.size, 0, none⟩) 1 1] 36)).heap.size ≤ (Vbp3.alloc (.cells #[.int .i64 ua, .int .i64 ub, .int .i64 uc, .int .i64 ud, .int .i64 ue] 29)).heap.size + 1 := by simp
   have hybp5 : (Vbp3.alloc (.cells #[.int .i64 ua, .int .i64 ub, .int .i64 uc, .int .i64 ud, .int .i64 ue] 29)).heap.size + 1 ≤ ((Vbp3.alloc (.cells #[.int .i64 ua, .int .i64 ub, .int .i64 uc, .int .i64 ud, .int .i64 ue] 29)).alloc (.cells #[.slice (some ⟨Vb1.heap.size, 0, none⟩) 1 1, .slice (some ⟨Vbp3.heap.size, 0, none⟩) 1 1] 36)).heap.size := by simp
   refine but_run (i := 9) (by kernel_rfl) rfl (by rfl) ?_
   simp only [List.getElem_toArray, List.getElem_cons_succ, List.getElem_cons_zero]
   intro K HK
   have l1 := (Array.getElem?_eq_some_iff.1 QS1.out).1
   have l2 := (Array.getElem?_eq_some_iff.1 QS2.out).1
   have HYS : Hid (OwnsL ((Vbp3.alloc (.cells #[.int .i64 ua, .int .i64 ub, .int .i64 uc, .int .i64 ud, .int .i64 ue] 29)).alloc (.cells #[.slice (some ⟨Vb1.heap.size, 0, none⟩) 1 1, .slice (some ⟨Vbp3.heap.size, 0, none⟩) 1 1] 36)) (fun b => w2.heap.size ≤ b ∧ b < ((Vbp3.alloc (.cells #[.int .i64 ua, .int .i64 ub, .int .i64 uc, .int .i64 ud, .int .i64 ue] 29)).alloc (.cells #[.slice (some ⟨Vb1.heap.size, 0, none⟩) 1 1, .slice (some ⟨Vbp3.heap.size, 0, none⟩) 1 1] 36)).heap.size) [.slice (some ⟨Vb1.heap.size, 0, none⟩) 1 1, .slice (some ⟨Vbp3.heap.size, 0, none⟩) 1 1] ([[⟨ya, yb, yc, yd, ye⟩], [⟨ua, ub, uc, ud, ue⟩]].map keysD)) := Lib.hid (OwnsL.two (own_key1 (k := ⟨ya, yb, yc, yd, ye⟩) QS1.out) (own_key1 (k := ⟨ua, ub, uc, ud, ue⟩) QS2.out) (fun b hb => ⟨by omega, by omega⟩) (fun b hb => ⟨by omega, by omega⟩) (fun b hb hb' => by omega))
   obtain ⟨xs, hr, ho, hne, hug⟩ := NB.out
   have HR0 := Lib.hid hr
   have HO0 := Lib.hid ho
   have HNE := Lib.hid hne
   have HUG := Lib.hid hug
   clear hr ho hne hug
   have B7 := Lib.hid (Below.refl ((Vbp3.alloc (.cells #[.int .i64 ua, .int .i64 ub, .int .i64 uc, .int .i64 ud, .int .i64 ue] 29)).alloc (.cells #[.slice (some ⟨Vb1.heap.size, 0, none⟩) 1 1, .slice (some ⟨Vbp3.heap.size, 0, none⟩) 1 1] 36)).heap.size ((Vbp3.alloc (.cells #[.int .i64 ua, .int .i64 ub, .int .i64 uc, .int .i64 ud, .int .i64 ue] 29)).alloc (.cells #[.slice (some ⟨Vb1.heap.size, 0, none⟩) 1 1, .slice (some ⟨Vbp3.heap.size, 0, none⟩) 1 1] 36)))
   refine operAppN _ (by rfl) (.tmp 20) (.tmp 27) 60 36 1 24 (.slice none 0 0) (by rfl) Tryz.underlying60 (by kernel_rfl) rfl (by omega) (by omega) W.heap.size ns.length _ xs (by rfl) HR0.out _ 2 2 [.slice (some ⟨Vb1.heap.size, 0, none⟩) 1 1, .slice (some ⟨Vbp3.heap.size, 0, none⟩) 1 1] (by rfl) rfl (At.lit2n _ _ _ _ (by simp)) (by simp [Value.oneCell']) (by omega) (by omega) ?_
   intro v8 Vbp6 o8 g8 _ at8
   have P8 := Lib.hid (box_grown hSbp5 g8 HNE.out)
   have P9 := Lib.hid (box_grown QR3.out g8 (row_ne HR0.out (by omega)))
   have hO8 : Only (fun b => W.heap.size ≤ b) ((Vbp3.alloc (.cells #[.int .i64 ua, .int .i64 ub, .int .i64 uc, .int .i64 ud, .int .i64 ue] 29)).alloc (.cells #[.slice (some ⟨Vb1.heap.size, 0, none⟩) 1 1, .slice (some ⟨Vbp3.heap.size, 0, none⟩) 1 1] 36)) Vbp6 := ⟨g8.os, g8.tape, g8.output, g8.size, fun i hi hn => g8.block i hi (fun e => hn (row_lt HR0.out i e.symm).2)⟩
   have C8 := Lib.hid (CC3.out.keep (w' := Vbp6) (fun k hk => hO8.block k (by have := CC3.out.lt; omega) (fun h => by omega)))
   have G8' := Lib.hid (grown_on GG3.out (hO8.below (by omega) (fun b hb => by omega)))
   have G8 := Lib.hid g8
   have O8 := Lib.hid o8
   have AT8 := Lib.hid at8
   obtain ⟨gv, cv, rfl⟩ := row_shape o8 (by omega)
   clear o8 at8 hO8
   have hSbp6 : (fun V => V.heap[w1.heap.size]? = some (.cells #[.slice Au ns.length cu] 62)) Vbp6 := P8.out
   refine HK.out _ _ (fun _ => hSbp6) ?_
   clear HK
   clear g8
   obtain ⟨z0, z1⟩ := box1N P8.out
   simp only [List.getElem_toArray, List.getElem_cons_succ, List.getElem_cons_zero, Act.put, List.setIfInBounds_toArray, List.set_cons_zero, List.set_cons_succ]
   refine but_take (f := 11) (i := 10) (v := ?vbp10) rfl (by kernel_rfl) (by kernel_rfl) (by kernel_rfl) (by kernel_rfl) (by kernel_rfl) (fun _ _ _ h => h) (Or.inl ⟨(by rfl), ?hybp10⟩) hSbp6 ?restbp10
   case hybp10 =>
    intro W hW
    go_simp
    exact rfl
   simp only [List.getElem_toArray, List.getElem_cons_succ, List.getElem_cons_zero, Act.put, List.setIfInBounds_toArray, List.set_cons_zero, List.set_cons_succ]
   refine but_run (i := 11) (by kernel_rfl) rfl (by rfl) ?_
   simp only [List.getElem_toArray, List.getElem_cons_succ, List.getElem_cons_zero]
   intro K HK
   go_wp2_with fail
   refine HK.out _ _ (fun h => absurd rfl h) ?_
   clear HK
   refine but_done (by kernel_rfl) ?_
   have hN := Lib.hid (NOwnB.apps (ms := [[⟨ya, yb, yc, yd, ye⟩], [⟨ua, ub, uc, ud, ue⟩]]) HR0.out HO0.out HNE.out HUG.out (by omega) (by omega) (by omega) (Below.refl _ _) HYS.out O8.out G8.out AT8.out)
   have PX := Lib.hid (box_set (i := 0) (u := .slice (some ⟨gv, 0, none⟩) (ns.length + 2) cv) P8.out)
   have PY := Lib.hid (box_far (j := 0) (u := .slice (some ⟨gv, 0, none⟩) (ns.length + 2) cv) P9.out (show w.heap.size ≠ w1.heap.size by omega))
   have CX := Lib.hid (C8.out.setNew (j := 0) (show p < w1.heap.size by omega) (.slice (some ⟨gv, 0, none⟩) (ns.length + 2) cv))
   have GX := Lib.hid (only_setNew (j := 0) G8'.out (show w.heap.size ≤ w1.heap.size by omega) (.slice (some ⟨gv, 0, none⟩) (ns.length + 2) cv))
   clear P8 P9 C8 G8' z0 z1
   go_upto_region 7 with (fail)
   generalize Vbp6.setCell ⟨w1.heap.size, 0, none⟩ (.slice (some ⟨gv, 0, none⟩) (ns.length + 2) cv) = W9 at *
   obtain ⟨z0, z1⟩ := box1N PX.out
   obtain ⟨y0, y1⟩ := box1N PY.out
   go_wp2
   refine bodyPost_ret (v := .agg #[.slice (some ⟨gv, 0, none⟩) (ns.length + 2) cv]) (by simp [results, Tryz.results97, go_sem, y0, y1]) rfl ⟨_, ns ++ [[⟨ya, yb, yc, yd, ye⟩], [⟨ua, ub, uc, ud, ue⟩]], rfl, (hN.out.owns.setFar (by omega)).mono (fun b hb => by have := hb.1; omega), by simp; omega, by rw [sumN_append]; simp [sumN] at hsm ⊢; omega, CX.out.setNew hlt _, only_setNew GX.out (Nat.le_refl _) _⟩
  ·simp only [List.getElem_toArray, List.getElem_cons_succ, List.getElem_cons_zero]
   intro K HK
   go_wp2_with fail
   refine (HD.out p _ CC3.out).mono ?_
   rintro r Vbq2 ⟨ua, ub, uc, ud, ue, rfl, sm2, c6, g6⟩
   go_wp2_with fail
   have hSbq2 : (fun V => V.heap[w1.heap.size]? = some (.cells #[.slice Au ns.length cu] 62)) Vbq2 := box_grows hSb1 g6 (by omega)
   refine HK.out _ _ (fun _ => hSbq2) ?_
   clear HK
   replace CC3 := Lib.hid c6
   replace GG3 := Lib.hid (only_trans GG3.out g6)
   replace QR3 := Lib.hid (box_grows QR3.out g6 (by omega))
   replace NB := Lib.hid (NB.out.farP g6 (by omega))
   try replace QS1 := Lib.hid (box_grows QS1.out g6 (by omega))
   have hzbq2 := g6.size
   clear c6 g6 sm2
   refine but_two (i := 4) (j := 7) (by kernel_rfl) rfl rfl (by rfl) (by rfl) ?_ ?_
   ·simp only [List.getElem_toArray, List.getElem_cons_succ, List.getElem_cons_zero]
    intro K HK
    go_wp2_with fail
    have hSbqp3 : (fun V => V.heap[w1.heap.size]? = some (.cells #[.slice Au ns.length cu] 62)) (Vbq2.alloc (.cells #[.int .i64 ya, .int .i64 yb, .int .i64 yc, .int .i64 yd, .int .i64 ye] 29)) := box_on hSbq2 (bal1 _ _)
    refine HK.out _ _ (fun _ => hSbqp3) ?_
    clear HK
    have QS1 : Hid ((Vbq2.alloc (.cells #[.int .i64 ya, .int .i64 yb, .int .i64 yc, .int .i64 yd, .int .i64 ye] 29)).heap[Vbq2.heap.size]? = some (.cells #[.int .i64 ya, .int .i64 yb, .int .i64 yc, .int .i64 yd, .int .i64 ye] 29)) := Lib.hid (by have h := al1 Vbq2 (.cells #[.int .i64 ya, .int .i64 yb, .int .i64 yc, .int .i64 yd, .int .i64 ye] 29); simpa only [World.size_alloc] using h)
    replace NB := Lib.hid (NB.out.on (bal1 Vbq2 (.cells #[.int .i64 ya, .int .i64 yb, .int .i64 yc, .int .i64 yd, .int .i64 ye] 29)))
    replace CC3 := Lib.hid (CC3.out.alloc (.cells #[.int .i64 ya, .int .i64 yb, .int .i64 yc, .int .i64 yd, .int .i64 ye] 29))
    replace GG3 := Lib.hid (only_alloc GG3.out (.cells #[.int .i64 ya, .int .i64 yb, .int .i64 yc, .int .i64 yd, .int .i64 ye] 29))
    replace QR3 := Lib.hid (box_on QR3.out (bal1 Vbq2 (.cells #[.int .i64 ya, .int .i64 yb, .int .i64 yc, .int .i64 yd, .int .i64 ye] 29)))
    try replace QS2 := Lib.hid (box_on QS2.out (bal1 Vbq2 (.cells #[.int .i64 ya, .int .i64 yb, .int .i64 yc, .int .i64 yd, .int .i64 ye] 29)))
    have hzbqp3 : (Vbq2.alloc (.cells #[.int .i64 ya, .int .i64 yb, .int .i64 yc, .int .i64 yd, .int .i64 ye] 29)).heap.size ≤ Vbq2.heap.size + 1 := by simp
    have hybqp3 : Vbq2.heap.size + 1 ≤ (Vbq2.alloc (.cells #[.int .i64 ya, .int .i64 yb, .int .i64 yc, .int .i64 yd, .int .i64 ye] 29)).heap.size := by simp
    refine but_run (i := 7) (by kernel_rfl) rfl (by rfl) ?_
    simp only [List.getElem_toArray, List.getElem_cons_succ, List.getElem_cons_zero]
    intro K HK
    go_wp2_with fail
    have hSbqp4 : (fun V => V.heap[w1.heap.size]? = some (.cells #[.slice Au ns.length cu] 62)) ((Vbq2.alloc (.cells #[.int .i64 ya, .int .i64 yb, .int .i64 yc, .int .i64 yd, .int .i64 ye] 29)).alloc (.cells #[.int .i64 ua, .int .i64 ub, .int .i64 uc, .int .i64 ud, .int .i64 ue] 29)) := box_on hSbqp3 (bal1 _ _)
    refine HK.out _ _ (fun _ => hSbqp4) ?_
    clear HK
    have QS2 : Hid (((Vbq2.alloc (.cells #[.int .i64 ya, .int .i64 yb, .int .i64 yc, .int .i64 yd, .int .i64 ye] 29)).alloc (.cells #[.int .i64 ua, .int .i64 ub, .int .i64 uc, .int .i64 ud, .int .i64 ue] 29)).heap[Vbq2.heap.size + 1]? = some (.cells #[.int .i64 ua, .int .i64 ub, .int .i64 uc, .int .i64 ud, .int .i64 ue] 29)) := Lib.hid (by have h := al1 (Vbq2.alloc (.cells #[.int .i64 ya, .int .i64 yb, .int .i64 yc, .int .i64 yd, .int .i64 ye] 29)) (.cells #[.int .i64 ua, .int .i64 ub, .int .i64 uc, .int .i64 ud, .int .i64 ue] 29); simpa only [World.size_alloc] using h)
    replace NB := Lib.hid (NB.out.on (bal1 (Vbq2.alloc (.cells #[.int .i64 ya, .int .i64 yb, .int .i64 yc, .int .i64 yd, .int .i64 ye] 29)) (.cells #[.int .i64 ua, .int .i64 ub, .int .i64 uc, .int .i64 ud, .int .i64 ue] 29)))
    replace CC3 := Lib.hid (CC3.out.alloc (.cells #[.int .i64 ua, .int .i64 ub, .int .i64 uc, .int .i64 ud, .int .i64 ue] 29))
    replace GG3 := Lib.hid (only_alloc GG3.out (.cells #[.int .i64 ua, .int .i64 ub, .int .i64 uc, .int .i64 ud, .int .i64 ue] 29))
    replace QR3 := Lib.hid (box_on QR3.out (bal1 (Vbq2.alloc (.cells #[.int .i64 ya, .int .i64 yb, .int .i64 yc, .int .i64 yd, .int .i64 ye] 29)) (.cells #[.int .i64 ua, .int .i64 ub, .int .i64 uc, .int .i64 ud, .int .i64 ue] 29)))
    try replace QS1 := Lib.hid (box_on QS1.out (bal1 (Vbq2.alloc (.cells #[.int .i64 ya, .int .i64 yb, .int .i64 yc, .int .i64 yd, .int .i64 ye] 29)) (.cells #[.int .i64 ua, .int .i64 ub, .int .i64 uc, .int .i64 ud, .int .i64 ue] 29)))
    have hzbqp4 : ((Vbq2.alloc (.cells #[.int .i64 ya, .int .i64 yb, .int .i64 yc, .int .i64 yd, .int .i64 ye] 29)).alloc (.cells #[.int .i64 ua, .int .i64 ub, .int .i64 uc, .int .i64 ud, .int .i64 ue] 29)).heap.size ≤ (Vbq2.alloc (.cells #[.int .i64 ya, .int .i64 yb, .int .i64 yc, .int .i64 yd, .int .i64 ye] 29)).heap.size + 1 := by simp
    have hybqp4 : (Vbq2.alloc (.cells #[.int .i64 ya, .int .i64 yb, .int .i64 yc, .int .i64 yd, .int .i64 ye] 29)).heap.size + 1 ≤ ((Vbq2.alloc (.cells #[.int .i64 ya, .int .i64 yb, .int .i64 yc, .int .i64 yd, .int .i64 ye] 29)).alloc (.cells #[.int .i64 ua, .int .i64 ub, .int .i64 uc, .int .i64 ud, .int .i64 ue] 29)).heap.size := by simp
    refine but_run (i := 8) (by kernel_rfl) rfl (by rfl) ?_
    simp only [List.getElem_toArray, List.getElem_cons_succ, List.getElem_cons_zero]
    intro K HK
    go_wp2_with fail
    have hSbqp5 : (fun V => V.heap[w1.heap.size]? = some (.cells #[.slice Au ns.length cu] 62)) (((Vbq2.alloc (.cells #[.int .i64 ya, .int .i64 yb, .int .i64 yc, .int .i64 yd, .int .i64 ye] 29)).alloc (.cells #[.int .i64 ua, .int .i64 ub, .int .i64 uc, .int .i64 ud, .int .i64 ue] 29)).alloc (.cells #[.slice (some ⟨Vbq2.heap.size, 0, none⟩) 1 1, .slice (some ⟨Vbq2.heap.size + 1, 0, none⟩) 1 1] 36)) := box_on hSbqp4 (bal1 _ _)
    refine HK.out _ _ (fun _ => hSbqp5) ?_
    clear HK
    replace NB := Lib.hid (NB.out.on (bal1 ((Vbq2.alloc (.cells #[.int .i64 ya, .int .i64 yb, .int .i64 yc, .int .i64 yd, .int .i64 ye] 29)).alloc (.cells #[.int .i64 ua, .int .i64 ub, .int .i64 uc, .int .i64 ud, .int .i64 ue] 29)) (.cells #[.slice (some ⟨Vbq2.heap.size, 0, none⟩) 1 1, .slice (some ⟨Vbq2.heap.size + 1, 0, none⟩) 1 1] 36)))
    replace CC3 := Lib.hid (CC3.out.alloc (.cells #[.slice (some ⟨Vbq2.heap.size, 0, none⟩) 1 1, .slice (some ⟨Vbq2.heap.size + 1, 0, none⟩) 1 1] 36))
    replace GG3 := Lib.hid (only_alloc GG3.out (.cells #[.slice (some ⟨Vbq2.heap.size, 0, none⟩) 1 1, .slice (some ⟨Vbq2.heap.size + 1, 0, none⟩) 1 1] 36))
    replace QR3 := Lib.hid (box_on QR3.out (bal1 ((Vbq2.alloc (.cells #[.int .i64 ya, .int .i64 yb, .int .i64 yc, .int .i64 yd, .int .i64 ye] 29)).alloc (.cells #[.int .i64 ua, .int .i64 ub, .int .i64 uc, .int .i64 ud, .int .i64 ue] 29)) (.cells #[.slice (some ⟨Vbq2.heap.size, 0, none⟩) 1 1, .slice (some ⟨Vbq2.heap.size + 1, 0, none⟩) 1 1] 36)))
    replace QS1 := Lib.hid (box_on QS1.out (bal1 ((Vbq2.alloc (.cells #[.int .i64 ya, .int .i64 yb, .int .i64 yc, .int .i64 yd, .int .i64 ye] 29)).alloc (.cells #[.int .i64 ua, .int .i64 ub, .int .i64 uc, .int .i64 ud, .int .i64 ue] 29)) (.cells #[.slice (some ⟨Vbq2.heap.size, 0, none⟩) 1 1, .slice (some ⟨Vbq2.heap.size + 1, 0, none⟩) 1 1] 36)))
    replace QS2 := Lib.hid (box_on QS2.out (bal1 ((Vbq2.alloc (.cells #[.int .i64 ya, .int .i64 yb, .int .i64 yc, .int .i64 yd, .int .i64 ye] 29)).alloc (.cells #[.int .i64 ua, .int .i64 ub, .int .i64 uc, .int .i64 ud, .int .i64 ue] 29)) (.cells #[.slice (some ⟨Vbq2.heap.size, 0, none⟩) 1 1, .slice (some ⟨Vbq2.heap.size + 1, 0, none⟩) 1 1] 36)))
    have hzbqp5 : (((Vbq2.alloc (.cells #[.int .i64 ya, .int .i64 yb, .int .i64 yc, .int .i64 yd, .int .i64 ye] 29)).alloc (.cells #[.int .i64 ua, .int .i64 ub, .int .i64 uc, .int .i64 ud, .int .i64 ue] 29)).alloc (.cells #[.slice (some ⟨Vbq2.heap.size, 0, none⟩) 1 1, .slice (some ⟨Vbq2.heap.size + 1, 0, none⟩) 1 1] 36)).heap.size ≤ ((Vbq2.alloc (.cells #[.int .i64 ya, .int .i64 yb, .int .i64 yc, .int .i64 yd, .int .i64 ye] 29)).alloc (.cells #[.int .i64 ua, .int .i64 ub, .int .i64 uc, .int .i64 ud, .int .i64 ue] 29)).heap.size + 1 := by simp
    have hybqp5 : ((Vbq2.alloc (.cells #[.int .i64 ya, .int .i64 yb, .int .i64 yc, .int .i64 yd, .int .i64 ye] 29)).alloc (.cells #[.int .i64 ua, .int .i64 ub, .int .i64 uc, .int .i64 ud, .int .i64 ue] 29)).heap.size + 1 ≤ (((Vbq2.alloc (.cells #[.int .i64 ya, .int .i64 yb, .int .i64 yc, .int .i64 yd, .int .i64 ye] 29)).alloc (.cells #[.int .i64 ua, .int .i64 ub, .int .i64 uc, .int .i64 ud, .int .i64 ue] 29)).alloc (.cells #[.slice (some ⟨Vbq2.heap.size, 0, none⟩) 1 1, .slice (some ⟨Vbq2.heap.size + 1, 0, none⟩) 1 1] 36)).heap.size := by simp
    refine but_run (i := 9) (by kernel_rfl) rfl (by rfl) ?_
    simp only [List.getElem_toArray, List.getElem_cons_succ, List.getElem_cons_zero]
    intro K HK
    have l1 := (Array.getElem?_eq_some_iff.1 QS1.out).1
    have l2 := (Array.getElem?_eq_some_iff.1 QS2.out).1
    have HYS : Hid (OwnsL (((Vbq2.alloc (.cells #[.int .i64 ya, .int .i64 yb, .int .i64 yc, .int .i64 yd, .int .i64 ye] 29)).alloc (.cells #[.int .i64 ua, .int .i64 ub, .int .i64 uc, .int .i64 ud, .int .i64 ue] 29)).alloc (.cells #[.slice (some ⟨Vbq2.heap.size, 0, none⟩) 1 1, .slice (some ⟨Vbq2.heap.size + 1, 0, none⟩) 1 1] 36)) (fun b => w2.heap.size ≤ b ∧ b < (((Vbq2.alloc (.cells #[.int .i64 ya, .int .i64 yb, .int .i64 yc, .int .i64 yd, .int .i64 ye] 29)).alloc (.cells #[.int .i64 ua, .int .i64 ub, .int .i64 uc, .int .i64 ud, .int .i64 ue] 29)).alloc (.cells #[.slice (some ⟨Vbq2.heap.size, 0, none⟩) 1 1, .slice (some ⟨Vbq2.heap.size + 1, 0, none⟩) 1 1] 36)).heap.size) [.slice (some ⟨Vbq2.heap.size, 0, none⟩) 1 1, .slice (some ⟨Vbq2.heap.size + 1, 0, none⟩) 1 1] ([[⟨ya, yb, yc, yd, ye⟩], [⟨ua, ub, uc, ud, ue⟩]].map keysD)) := Lib.hid (OwnsL.two (own_key1 (k := ⟨ya, yb, yc, yd, ye⟩) QS1.out) (own_key1 (k := ⟨ua, ub, uc, ud, ue⟩) QS2.out) (fun b hb => ⟨by omega, by omega⟩) (fun b hb => ⟨by omega, by omega⟩) (fun b hb hb' => by omega))
    obtain ⟨xs, hr, ho, hne, hug⟩ := NB.out
    have HR0 := Lib.hid hr
    have HO0 := Lib.hid ho
    have HNE := Lib.hid hne
    have HUG := Lib.hid hug
    clear hr ho hne hug
    have B7 := Lib.hid (Below.refl (((Vbq2.alloc (.cells #[.int .i64 ya, .int .i64 yb, .int .i64 yc, .int .i64 yd, .int .i64 ye] 29)).alloc (.cells #[.int .i64 ua, .int .i64 ub, .int .i64 uc, .int .i64 ud, .int .i64 ue] 29)).alloc (.cells #[.slice (some ⟨Vbq2.heap.size, 0, none⟩) 1 1, .slice (some ⟨Vbq2.heap.size + 1, 0, none⟩) 1 1] 36)).heap.size (((Vbq2.alloc (.cells #[.int .i64 ya, .int .i64 yb, .int .i64 yc, .int .i64 yd, .int .i64 ye] 29)).alloc (.cells #[.int .i64 ua, .int .i64 ub, .int .i64 uc, .int .i64 ud, .int .i64 ue] 29)).alloc (.cells #[.slice (some ⟨Vbq2.heap.size, 0, none⟩) 1 1, .slice (some ⟨Vbq2.heap.size + 1, 0, none⟩) 1 1] 36)))
    refine operAppN _ (by rfl) (.tmp 20) (.tmp 27) 60 36 1 24 (.slice none 0 0) (by rfl) Tryz.underlying60 (by kernel_rfl) rfl (by omega) (by omega) W.heap.size ns.length _ xs (by rfl) HR0.out _ 2 2 [.slice (some ⟨Vbq2.heap.size, 0, none⟩) 1 1, .slice (some ⟨Vbq2.heap.size + 1, 0, none⟩) 1 1] (by rfl) rfl (At.lit2n _ _ _ _ (by simp)) (by simp [Value.oneCell']) (by omega) (by omega) ?_
    intro v8 Vbqp6 o8 g8 _ at8
    have P8 := Lib.hid (box_grown hSbqp5 g8 HNE.out)
    have P9 := Lib.hid (box_grown QR3.out g8 (row_ne HR0.out (by omega)))
    have hO8 : Only (fun b => W.heap.size ≤ b) (((Vbq2.alloc (.cells #[.int .i64 ya, .int .i64 yb, .int .i64 yc, .int .i64 yd, .int .i64 ye] 29)).alloc (.cells #[.int .i64 ua, .int .i64 ub, .int .i64 uc, .int .i64 ud, .int .i64 ue] 29)).alloc (.cells #[.slice (some ⟨Vbq2.heap.size, 0, none⟩) 1 1, .slice (some ⟨Vbq2.heap.size + 1, 0, none⟩) 1 1] 36)) Vbqp6 := ⟨g8.os, g8.tape, g8.output, g8.size, fun i hi hn => g8.block i hi (fun e => hn (row_lt HR0.out i e.symm).2)⟩
    have C8 := Lib.hid (CC3.out.keep (w' := Vbqp6) (fun k hk => hO8.block k (by have := CC3.out.lt; omega) (fun h => by omega)))
    have G8' := Lib.hid (grown_on GG3.out (hO8.below (by omega) (fun b hb => by omega)))
    have G8 := Lib.hid g8
    have O8 := Lib.hid o8
    have AT8 := Lib.hid at8
    obtain ⟨gv, cv, rfl⟩ := row_shape o8 (by omega)
    clear o8 at8 hO8
    have hSbqp6 : (fun V => V.heap[w1.heap.size]? = some (.cells #[.slice Au ns.length cu] 62)) Vbqp6 := P8.out
    refine HK.out _ _ (fun _ => hSbqp6) ?_
    clear HK
    clear g8
    obtain ⟨z0, z1⟩ := box1N P8.out
    simp only [List.getElem_toArray, List.getElem_cons_succ, List.getElem_cons_zero, Act.put, List.setIfInBounds_toArray, List.set_cons_zero, List.set_cons_succ]
    refine but_take (f := 11) (i := 10) (v := ?vbqp10) rfl (by kernel_rfl) (by kernel_rfl) (by kernel_rfl) (by kernel_rfl) (by kernel_rfl) (fun _ _ _ h => h) (Or.inl ⟨(by rfl), ?hybqp10⟩) hSbqp6 ?restbqp10
    case hybqp10 =>
     intro W hW
     go_simp
     exact rfl
    simp only [List.getElem_toArray, List.getElem_cons_succ, List.getElem_cons_zero, Act.put, List.setIfInBounds_toArray, List.set_cons_zero, List.set_cons_succ]
    refine but_run (i := 11) (by kernel_rfl) rfl (by rfl) ?_
    simp only [List.getElem_toArray, List.getElem_cons_succ, List.getElem_cons_zero]
    intro K HK
    go_wp2_with fail
    refine HK.out _ _ (fun h => absurd rfl h) ?_
    clear HK
    refine but_done (by kernel_rfl) ?_
    have hN := Lib.hid (NOwnB.apps (ms := [[⟨ya, yb, yc, yd, ye⟩], [⟨ua, ub, uc, ud, ue⟩]]) HR0.out HO0.out HNE.out HUG.out (by omega) (by omega) (by omega) (Below.refl _ _) HYS.out O8.out G8.out AT8.out)
    have PX := Lib.hid (box_set (i := 0) (u := .slice (some ⟨gv, 0, none⟩) (ns.length + 2) cv) P8.out)
    have PY := Lib.hid (box_far (j := 0) (u := .slice (some ⟨gv, 0, none⟩) (ns.length + 2) cv) P9.out (show w.heap.size ≠ w1.heap.size by omega))
    have CX := Lib.hid (C8.out.setNew (j := 0) (show p < w1.heap.size by omega) (.slice (some ⟨gv, 0, none⟩) (ns.length + 2) cv))
    have GX := Lib.hid (only_setNew (j := 0) G8'.out (show w.heap.size ≤ w1.heap.size by omega) (.slice (some ⟨gv, 0, none⟩) (ns.length + 2) cv))
    clear P8 P9 C8 G8' z0 z1
    go_upto_region 7 with (fail)
    generalize Vbqp6.setCell ⟨w1.heap.size, 0, none⟩ (.slice (some ⟨gv, 0, none⟩) (ns.length + 2) cv) = W9 at *
    obtain ⟨z0, z1⟩ := box1N PX.out
    obtain ⟨y0, y1⟩ := box1N PY.out
    go_wp2
    refine bodyPost_ret (v := .agg #[.slice (some ⟨gv, 0, none⟩) (ns.length + 2) cv]) (by simp [results, Tryz.results97, go_sem, y0, y1]) rfl ⟨_, ns ++ [[⟨ya, yb, yc, yd, ye⟩], [⟨ua, ub, uc, ud, ue⟩]], rfl, (hN.out.owns.setFar (by omega)).mono (fun b hb => by have := hb.1; omega), by simp; omega, by rw [sumN_append]; simp [sumN] at hsm ⊢; omega, CX.out.setNew hlt _, only_setNew GX.out (Nat.le_refl _) _⟩
   ·simp only [List.getElem_toArray, List.getElem_cons_succ, List.getElem_cons_zero]
    intro K HK
    go_wp2_with fail
    have hSbqq3 : (fun V => V.heap[w1.heap.size]? = some (.cells #[.slice Au ns.length cu] 62)) (Vbq2.alloc (.cells #[.int .i64 ua, .int .i64 ub, .int .i64 uc, .int .i64 ud, .int .i64 ue] 29)) := box_on hSbq2 (bal1 _ _)
    refine HK.out _ _ (fun _ => hSbqq3) ?_
    clear HK
    have QS2 : Hid ((Vbq2.alloc (.cells #[.int .i64 ua, .int .i64 ub, .int .i64 uc, .int .i64 ud, .int .i64 ue] 29)).heap[Vbq2.heap.size]? = some (.cells #[.int .i64 ua, .int .i64 ub, .int .i64 uc, .int .i64 ud, .int .i64 ue] 29)) := Lib.hid (by have h := al1 Vbq2 (.cells #[.int .i64 ua, .int .i64 ub, .int .i64 uc, .int .i64 ud, .int .i64 ue] 29); simpa only [World.size_alloc] using h)
    replace NB := Lib.hid (NB.out.on (bal1 Vbq2 (.cells #[.int .i64 ua, .int .i64 ub, .int .i64 uc, .int .i64 ud, .int .i64 ue] 29)))
    replace CC3 := Lib.hid (CC3.out.alloc (.cells #[.int .i64 ua, .int .i64 ub, .int .i64 uc, .int .i64 ud, .int .i64 ue] 29))
    replace GG3 := Lib.hid (only_alloc GG3.out (.cells #[.int .i64 ua, .int .i64 ub, .int .i64 uc, .int .i64 ud, .int .i64 ue] 29))
    replace QR3 := Lib.hid (box_on QR3.out (bal1 Vbq2 (.cells #[.int .i64 ua, .int .i64 ub, .int .i64 uc, .int .i64 ud, .int .i64 ue] 29)))
    try replace QS1 := Lib.hid (box_on QS1.out (bal1 Vbq2 (.cells #[.int .i64 ua, .int .i64 ub, .int .i64 uc, .int .i64 ud, .int .i64 ue] 29)))
    have hzbqq3 : (Vbq2.alloc (.cells #[.int .i64 ua, .int .i64 ub, .int .i64 uc, .int .i64 ud, .int .i64 ue] 29)).heap.size ≤ Vbq2.heap.size + 1 := by simp
    have hybqq3 : Vbq2.heap.size + 1 ≤ (Vbq2.alloc (.cells #[.int .i64 ua, .int .i64 ub, .int .i64 uc, .int .i64 ud, .int .i64 ue] 29)).heap.size := by simp
    refine but_run (i := 4) (by kernel_rfl) rfl (by rfl) ?_
    simp only [List.getElem_toArray, List.getElem_cons_succ, List.getElem_cons_zero]
    intro K HK
    go_wp2_with fail
    have hSbqq4 : (fun V => V.heap[w1.heap.size]? = some (.cells #[.slice Au ns.length cu] 62)) ((Vbq2.alloc (.cells #[.int .i64 ua, .int .i64 ub, .int .i64 uc, .int .i64 ud, .int .i64 ue] 29)).alloc (.cells #[.int .i64 ya, .int .i64 yb, .int .i64 yc, .int .i64 yd, .int .i64 ye] 29)) := box_on hSbqq3 (bal1 _ _)
    refine HK.out _ _ (fun _ => hSbqq4) ?_
    clear HK
    have QS1 : Hid (((Vbq2.alloc (.cells #[.int .i64 ua, .int .i64 ub, .int .i64 uc, .int .i64 ud, .int .i64 ue] 29)).alloc (.cells #[.int .i64 ya, .int .i64 yb, .int .i64 yc, .int .i64 yd, .int .i64 ye] 29)).heap[Vbq2.heap.size + 1]? = some (.cells #[.int .i64 ya, .int .i64 yb, .int .i64 yc, .int .i64 yd, .int .i64 ye] 29)) := Lib.hid (by have h := al1 (Vbq2.alloc (.cells #[.int .i64 ua, .int .i64 ub, .int .i64 uc, .int .i64 ud, .int .i64 ue] 29)) (.cells #[.int .i64 ya, .int .i64 yb, .int .i64 yc, .int .i64 yd, .int .i64 ye] 29); simpa only [World.size_alloc] using h)
    replace NB := Lib.hid (NB.out.on (bal1 (Vbq2.alloc (.cells #[.int .i64 ua, .int .i64 ub, .int .i64 uc, .int .i64 ud, .int .i64 ue] 29)) (.cells #[.int .i64 ya, .int .i64 yb, .int .i64 yc, .int .i64 yd, .int .i64 ye] 29)))
    replace CC3 := Lib.hid (CC3.out.alloc (.cells #[.int .i64 ya, .int .i64 yb, .int .i64 yc, .int .i64 yd, .int .i64 ye] 29))
    replace GG3 := Lib.hid (only_alloc GG3.out (.cells #[.int .i64 ya, .int .i64 yb, .int .i64 yc, .int .i64 yd, .int .i64 ye] 29))
    replace QR3 := Lib.hid (box_on QR3.out (bal1 (Vbq2.alloc (.cells #[.int .i64 ua, .int .i64 ub, .int .i64 uc, .int .i64 ud, .int .i64 ue] 29)) (.cells #[.int .i64 ya, .int .i64 yb, .int .i64 yc, .int .i64 yd, .int .i64 ye] 29)))
    try replace QS2 := Lib.hid (box_on QS2.out (bal1 (Vbq2.alloc (.cells #[.int .i64 ua, .int .i64 ub, .int .i64 uc, .int .i64 ud, .int .i64 ue] 29)) (.cells #[.int .i64 ya, .int .i64 yb, .int .i64 yc, .int .i64 yd, .int .i64 ye] 29)))
    have hzbqq4 : ((Vbq2.alloc (.cells #[.int .i64 ua, .int .i64 ub, .int .i64 uc, .int .i64 ud, .int .i64 ue] 29)).alloc (.cells #[.int .i64 ya, .int .i64 yb, .int .i64 yc, .int .i64 yd, .int .i64 ye] 29)).heap.size ≤ (Vbq2.alloc (.cells #[.int .i64 ua, .int .i64 ub, .int .i64 uc, .int .i64 ud, .int .i64 ue] 29)).heap.size + 1 := by simp
    have hybqq4 : (Vbq2.alloc (.cells #[.int .i64 ua, .int .i64 ub, .int .i64 uc, .int .i64 ud, .int .i64 ue] 29)).heap.size + 1 ≤ ((Vbq2.alloc (.cells #[.int .i64 ua, .int .i64 ub, .int .i64 uc, .int .i64 ud, .int .i64 ue] 29)).alloc (.cells #[.int .i64 ya, .int .i64 yb, .int .i64 yc, .int .i64 yd, .int .i64 ye] 29)).heap.size := by simp
    refine but_run (i := 8) (by kernel_rfl) rfl (by rfl) ?_
    simp only [List.getElem_toArray, List.getElem_cons_succ, List.getElem_cons_zero]
    intro K HK
    go_wp2_with fail
    have hSbqq5 : (fun V => V.heap[w1.heap.size]? = some (.cells #[.slice Au ns.length cu] 62)) (((Vbq2.alloc (.cells #[.int .i64 ua, .int .i64 ub, .int .i64 uc, .int .i64 ud, .int .i64 ue] 29)).alloc (.cells #[.int .i64 ya, .int .i64 yb, .int .i64 yc, .int .i64 yd, .int .i64 ye] 29)).alloc (.cells #[.slice (some ⟨Vbq2.heap.size + 1, 0, none⟩) 1 1, .slice (some ⟨Vbq2.heap.size, 0, none⟩) 1 1] 36)) := box_on hSbqq4 (bal1 _ _)
    refine HK.out _ _ (fun _ => hSbqq5) ?_
    clear HK
    replace NB := Lib.hid (NB.out.on (bal1 ((Vbq2.alloc (.cells #[.int .i64 ua, .int .i64 ub, .int .i64 uc, .int .i64 ud, .int .i64 ue] 29)).alloc (.cells #[.int .i64 ya, .int .i64 yb, .int .i64 yc, .int .i64 yd, .int .i64 ye] 29)) (.cells #[.slice (some ⟨Vbq2.heap.size + 1, 0, none⟩) 1 1, .slice (some ⟨Vbq2.heap.size, 0, none⟩) 1 1] 36)))
    replace CC3 := Lib.hid (CC3.out.alloc (.cells #[.slice (some ⟨Vbq2.heap.size + 1, 0, none⟩) 1 1, .slice (some ⟨Vbq2.heap.size, 0, none⟩) 1 1] 36))
    replace GG3 := Lib.hid (only_alloc GG3.out (.cells #[.slice (some ⟨Vbq2.heap.size + 1, 0, none⟩) 1 1, .slice (some ⟨Vbq2.heap.size, 0, none⟩) 1 1] 36))
    replace QR3 := Lib.hid (box_on QR3.out (bal1 ((Vbq2.alloc (.cells #[.int .i64 ua, .int .i64 ub, .int .i64 uc, .int .i64 ud, .int .i64 ue] 29)).alloc (.cells #[.int .i64 ya, .int .i64 yb, .int .i64 yc, .int .i64 yd, .int .i64 ye] 29)) (.cells #[.slice (some ⟨Vbq2.heap.size + 1, 0, none⟩) 1 1, .slice (some ⟨Vbq2.heap.size, 0, none⟩) 1 1] 36)))
    replace QS1 := Lib.hid (box_on QS1.out (bal1 ((Vbq2.alloc (.cells #[.int .i64 ua, .int .i64 ub, .int .i64 uc, .int .i64 ud, .int .i64 ue] 29)).alloc (.cells #[.int .i64 ya, .int .i64 yb, .int .i64 yc, .int .i64 yd, .int .i64 ye] 29)) (.cells #[.slice (some ⟨Vbq2.heap.size + 1, 0, none⟩) 1 1, .slice (some ⟨Vbq2.heap.size, 0, none⟩) 1 1] 36)))
    replace QS2 := Lib.hid (box_on QS2.out (bal1 ((Vbq2.alloc (.cells #[.int .i64 ua, .int .i64 ub, .int .i64 uc, .int .i64 ud, .int .i64 ue] 29)).alloc (.cells #[.int .i64 ya, .int .i64 yb, .int .i64 yc, .int .i64 yd, .int .i64 ye] 29)) (.cells #[.slice (some ⟨Vbq2.heap.size + 1, 0, none⟩) 1 1, .slice (some ⟨Vbq2.heap.size, 0, none⟩) 1 1] 36)))
    have hzbqq5 : (((Vbq2.alloc (.cells #[.int .i64 ua, .int .i64 ub, .int .i64 uc, .int .i64 ud, .int .i64 ue] 29)).alloc (.cells #[.int .i64 ya, .int .i64 yb, .int .i64 yc, .int .i64 yd, .int .i64 ye] 29)).alloc (.cells #[.slice (some ⟨Vbq2.heap.size + 1, 0, none⟩) 1 1, .slice (some ⟨Vbq2.heap.size, 0, none⟩) 1 1] 36)).heap.size ≤ ((Vbq2.alloc (.cells #[.int .i64 ua, .int .i64 ub, .int .i64 uc, .int .i64 ud, .int .i64 ue] 29)).alloc (.cells #[.int .i64 ya, .int .i64 yb, .int .i64 yc, .int .i64 yd, .int .i64 ye] 29)).heap.size + 1 := by simp
    have hybqq5 : ((Vbq2.alloc (.cells #[.int .i64 ua, .int .i64 ub, .int .i64 uc, .int .i64 ud, .int .i64 ue] 29)).alloc (.cells #[.int .i64 ya, .int .i64 yb, .int .i64 yc, .int .i64 yd, .int .i64 ye] 29)).heap.size + 1 ≤ (((Vbq2.alloc (.cells #[.int .i64 ua, .int .i64 ub, .int .i64 uc, .int .i64 ud, .int .i64 ue] 29)).alloc (.cells #[.int .i64 ya, .int .i64 yb, .int .i64 yc, .int .i64 yd, .int .i64 ye] 29)).alloc (.cells #[.slice (some ⟨Vbq2.heap.size + 1, 0, none⟩) 1 1, .slice (some ⟨Vbq2.heap.size, 0, none⟩) 1 1] 36)).heap.size := by simp
    refine but_run (i := 9) (by kernel_rfl) rfl (by rfl) ?_
    simp only [List.getElem_toArray, List.getElem_cons_succ, List.getElem_cons_zero]
    intro K HK
    have l1 := (Array.getElem?_eq_some_iff.1 QS1.out).1
    have l2 := (Array.getElem?_eq_some_iff.1 QS2.out).1
    have HYS : Hid (OwnsL (((Vbq2.alloc (.cells #[.int .i64 ua, .int .i64 ub, .int .i64 uc, .int .i64 ud, .int .i64 ue] 29)).alloc (.cells #[.int .i64 ya, .int .i64 yb, .int .i64 yc, .int .i64 yd, .int .i64 ye] 29)).alloc (.cells #[.slice (some ⟨Vbq2.heap.size + 1, 0, none⟩) 1 1, .slice (some ⟨Vbq2.heap.size, 0, none⟩) 1 1] 36)) (fun b => w2.heap.size ≤ b ∧ b < (((Vbq2.alloc (.cells #[.int .i64 ua, .int .i64 ub, .int .i64 uc, .int .i64 ud, .int .i64 ue] 29)).alloc (.cells #[.int .i64 ya, .int .i64 yb, .int .i64 yc, .int .i64 yd, .int .i64 ye] 29)).alloc (.cells #[.slice (some ⟨Vbq2.heap.size + 1, 0, none⟩) 1 1, .slice (some ⟨Vbq2.heap.size, 0, none⟩) 1 1] 36)).heap.size) [.slice (some ⟨Vbq2.heap.size + 1, 0, none⟩) 1 1, .slice (some ⟨Vbq2.heap.size, 0, none⟩) 1 1] ([[⟨ya, yb, yc, yd, ye⟩], [⟨ua, ub, uc, ud, ue⟩]].map keysD)) := Lib.hid (OwnsL.two (own_key1 (k := ⟨ya, yb, yc, yd, ye⟩) QS1.out) (own_key1 (k := ⟨ua, ub, uc, ud, ue⟩) QS2.out) (fun b hb => ⟨by omega, by omega⟩) (fun b hb => ⟨by omega, by omega⟩) (fun b hb hb' => by omega))
    obtain ⟨xs, hr, ho, hne, hug⟩ := NB.out
    have HR0 := Lib.hid hr
    have HO0 := Lib.hid ho
    have HNE := Lib.hid hne
    have HUG := Lib.hid hug
    clear hr ho hne hug
    have B7 := Lib.hid (Below.refl (((Vbq2.alloc (.cells #[.int .i64 ua, .int .i64 ub, .int .i64 uc, .int .i64 ud, .int .i64 ue] 29)).alloc (.cells #[.int .i64 ya, .int .i64 yb, .int .i64 yc, .int .i64 yd, .int .i64 ye] 29)).alloc (.cells #[.slice (some ⟨Vbq2.heap.size + 1, 0, none⟩) 1 1, .slice (some ⟨Vbq2.heap.size, 0, none⟩) 1 1] 36)).heap.size (((Vbq2.alloc (.cells #[.int .i64 ua, .int .i64 ub, .int .i64 uc, .int .i64 ud, .int .i64 ue] 29)).alloc (.cells #[.int .i64 ya, .int .i64 yb, .int .i64 yc, .int .i64 yd, .int .i64 ye] 29)).alloc (.cells #[.slice (some ⟨Vbq2.heap.size + 1, 0, none⟩) 1 1, .slice (some ⟨Vbq2.heap.size, 0, none⟩) 1 1] 36)))
    refine operAppN _ (by rfl) (.tmp 20) (.tmp 27) 60 36 1 24 (.slice none 0 0) (by rfl) Tryz.underlying60 (by kernel_rfl) rfl (by omega) (by omega) W.heap.size ns.length _ xs (by rfl) HR0.out _ 2 2 [.slice (some ⟨Vbq2.heap.size + 1, 0, none⟩) 1 1, .slice (some ⟨Vbq2.heap.size, 0, none⟩) 1 1] (by rfl) rfl (At.lit2n _ _ _ _ (by simp)) (by simp [Value.oneCell']) (by omega) (by omega) ?_
    intro v8 Vbqq6 o8 g8 _ at8
    have P8 := Lib.hid (box_grown hSbqq5 g8 HNE.out)
    have P9 := Lib.hid (box_grown QR3.out g8 (row_ne HR0.out (by omega)))
    have hO8 : Only (fun b => W.heap.size ≤ b) (((Vbq2.alloc (.cells #[.int .i64 ua, .int .i64 ub, .int .i64 uc, .int .i64 ud, .int .i64 ue] 29)).alloc (.cells #[.int .i64 ya, .int .i64 yb, .int .i64 yc, .int .i64 yd, .int .i64 ye] 29)).alloc (.cells #[.slice (some ⟨Vbq2.heap.size + 1, 0, none⟩) 1 1, .slice (some ⟨Vbq2.heap.size, 0, none⟩) 1 1] 36)) Vbqq6 := ⟨g8.os, g8.tape, g8.output, g8.size, fun i hi hn => g8.block i hi (fun e => hn (row_lt HR0.out i e.symm).2)⟩
    have C8 := Lib.hid (CC3.out.keep (w' := Vbqq6) (fun k hk => hO8.block k (by have := CC3.out.lt; omega) (fun h => by omega)))
    have G8' := Lib.hid (grown_on GG3.out (hO8.below (by omega) (fun b hb => by omega)))
    have G8 := Lib.hid g8
    have O8 := Lib.hid o8
    have AT8 := Lib.hid at8
    obtain ⟨gv, cv, rfl⟩ := row_shape o8 (by omega)
    clear o8 at8 hO8
    have hSbqq6 : (fun V => V.heap[w1.heap.size]? = some (.cells #[.slice Au ns.length cu] 62)) Vbqq6 := P8.out
    refine HK.out _ _ (fun _ => hSbqq6) ?_
    clear HK
    clear g8
    obtain ⟨z0, z1⟩ := box1N P8.out
    simp only [List.getElem_toArray, List.getElem_cons_succ, List.getElem_cons_zero, Act.put, List.setIfInBounds_toArray, List.set_cons_zero, List.set_cons_succ]
    refine but_take (f := 11) (i := 10) (v := ?vbqq10) rfl (by kernel_rfl) (by kernel_rfl) (by kernel_rfl) (by kernel_rfl) (by kernel_rfl) (fun _ _ _ h => h) (Or.inl ⟨(by rfl), ?hybqq10⟩) hSbqq6 ?restbqq10
    case hybqq10 =>
     intro W hW
     go_simp
     exact rfl
    simp only [List.getElem_toArray, List.getElem_cons_succ, List.getElem_cons_zero, Act.put, List.setIfInBounds_toArray, List.set_cons_zero, List.set_cons_succ]
    refine but_run (i := 11) (by kernel_rfl) rfl (by rfl) ?_
    simp only [List.getElem_toArray, List.getElem_cons_succ, List.getElem_cons_zero]
    intro K HK
    go_wp2_with fail
    refine HK.out _ _ (fun h => absurd rfl h) ?_
    clear HK
    refine but_done (by kernel_rfl) ?_
    have hN := Lib.hid (NOwnB.apps (ms := [[⟨ya, yb, yc, yd, ye⟩], [⟨ua, ub, uc, ud, ue⟩]]) HR0.out HO0.out HNE.out HUG.out (by omega) (by omega) (by omega) (Below.refl _ _) HYS.out O8.out G8.out AT8.out)
    have PX := Lib.hid (box_set (i := 0) (u := .slice (some ⟨gv, 0, none⟩) (ns.length + 2) cv) P8.out)
    have PY := Lib.hid (box_far (j := 0) (u := .slice (some ⟨gv, 0, none⟩) (ns.length + 2) cv) P9.out (show w.heap.size ≠ w1.heap.size by omega))
    have CX := Lib.hid (C8.out.setNew (j := 0) (show p < w1.heap.size by omega) (.slice (some ⟨gv, 0, none⟩) (ns.length + 2) cv))
    have GX := Lib.hid (only_setNew (j := 0) G8'.out (show w.heap.size ≤ w1.heap.size by omega) (.slice (some ⟨gv, 0, none⟩) (ns.length + 2) cv))
    clear P8 P9 C8 G8' z0 z1
    go_upto_region 7 with (fail)
    generalize Vbqq6.setCell ⟨w1.heap.size, 0, none⟩ (.slice (some ⟨gv, 0, none⟩) (ns.length + 2) cv) = W9 at *
    obtain ⟨z0, z1⟩ := box1N PX.out
    obtain ⟨y0, y1⟩ := box1N PY.out
    go_wp2
    refine bodyPost_ret (v := .agg #[.slice (some ⟨gv, 0, none⟩) (ns.length + 2) cv]) (by simp [results, Tryz.results97, go_sem, y0, y1]) rfl ⟨_, ns ++ [[⟨ya, yb, yc, yd, ye⟩], [⟨ua, ub, uc, ud, ue⟩]], rfl, (hN.out.owns.setFar (by omega)).mono (fun b hb => by have := hb.1; omega), by simp; omega, by rw [sumN_append]; simp [sumN] at hsm ⊢; omega, CX.out.setNew hlt _, only_setNew GX.out (Nat.le_refl _) _⟩
 ·have e0 : (((j : Int) + 1 + 1) == 0) = false := by simp; omega
  have e1 : (((j : Int) + 1 + 1) == 1) = false := by simp; omega
  clear NB CD GD QD
  obtain ⟨z0, z1⟩ := box1N QO.out
  obtain ⟨y0, y1⟩ := box1N QR.out
  go_wp2
  refine bodyPost_ret (v := .agg #[.slice Au ns.length cu]) (by simp [results, Tryz.results97, go_sem, y0, y1]) rfl ⟨_, ns, rfl, (NO.out.owns.setFar (by omega)).mono (fun b hb => by have := hb.1; omega), by omega, by omega, CC.out.setNew hlt _, only_setNew GG.out (Nat.le_refl _) _⟩
end Go.Proofs.YthopkhpiikiknaaGreat
namespace Go.Proofs.YthopkhpiikiknaaGreat
open Go.RowKit
set_option maxRecDepth 100000
set_option linter.unusedSimpArgs false
set_option linter.unusedVariables false

theorem Owns.setInt {w : World} {P : Nat → Prop} {g cap j : Nat} {lo : List Int} (h : Owns w P (.slice (some ⟨g, 0, none⟩) lo.length cap) (intsD lo)) (x : Int) : Owns (w.setCell ⟨g, j, none⟩ (.int .i64 x)) P (.slice (some ⟨g, 0, none⟩) lo.length cap) (intsD (lo.set j x)) ∧ P g := by
 rcases h.rw' with ⟨hv, _⟩ | ⟨g', cap', xs, hv, hS, hR, hn, hc, hl, hx', ho⟩
 ·cases hv
 ·cases hv
  refine ⟨?_, hS⟩
  have hR2 := hR.set j (.int .i64 x)
  have k1 := ho.setLit j (.int .i64 x)
  have k2 : OwnsL (w.setCell ⟨g, j, none⟩ (.int .i64 x)) (fun b => P b ∧ b ≠ g) (xs.set j (.int .i64 x)) ((lo.set j x).map fun n => .lit (iV n)) := by
   rw [List.map_set]
   exact k1.keep (fun b hb _ => Below.heap_setCell _ _ _ _ hb.2)
  have h5 := hR2.owns hS k2 hn hc (by simp)
  unfold intsD
  rw [List.length_set]
  exact h5
theorem TreeS.setLow {w : World} {S : Nat → Prop} {g cap j : Nat} {vn : Value} {lo : List Int} {ts : List NodeD} (h : TreeS w S (.slice (some ⟨g, 0, none⟩) lo.length cap) vn lo ts) (x : Int) : TreeS (w.setCell ⟨g, j, none⟩ (.int .i64 x)) S (.slice (some ⟨g, 0, none⟩) lo.length cap) vn (lo.set j x) ts := by
 obtain ⟨P, Q, hP, hQ, hd, hl, hn⟩ := h
 obtain ⟨h1, h2⟩ := hl.setInt (j := j) x
 exact ⟨P, Q, hP, hQ, hd, h1, hn.keep (fun b hb _ => Below.heap_setCell _ _ _ _ (fun e => hd g h2 (by have e' : b = g := e; rw [← e']; exact hb)))⟩
theorem Owns.setNodeB {w : World} {Q : Nat → Prop} {g cap i n1 n2 : Nat} {ts : List NodeD} {x : Value} {ns : NodeD} (h : Owns w Q (.slice (some ⟨g, 0, none⟩) ts.length cap) (nodesD ts)) (hQ : ∀ b, Q b → b < n1) (h12 : n1 ≤ n2) (hx : Owns w (fun b => n2 ≤ b) x (setsD ns)) :
  Owns (w.setCell ⟨g, i, none⟩ x) (fun b => Q b ∨ n2 ≤ b) (.slice (some ⟨g, 0, none⟩) ts.length cap) (nodesD (ts.set i ns)) ∧ Q g := by
 rcases h.rw' with ⟨hv, _⟩ | ⟨g', cap', xs, hv, hS, hR, hn, hc, hl, hx', ho⟩
 ·cases hv
 ·cases hv
  refine ⟨?_, hS⟩
  have hg := hQ g hS
  have hR2 := hR.set i x
  have k1 := ho.setN (i := i) hx (fun b hb hb' => by have := hQ b hb.1; omega)
  have k2 : OwnsL (w.setCell ⟨g, i, none⟩ x) (fun b => (Q b ∨ n2 ≤ b) ∧ b ≠ g) (xs.set i x) ((ts.set i ns).map setsD) := by
   rw [List.map_set]
   refine OwnsL.mono (k1.keep (w' := w.setCell ⟨g, i, none⟩ x) (fun b hb _ => Below.heap_setCell _ _ _ _ ?_)) ?_
   ·rcases hb with hb | hb
    ·exact hb.2
    ·simp; omega
   ·rintro b (hb | hb)
    ·exact ⟨.inl hb.1, hb.2⟩
    ·exact ⟨.inr hb, by omega⟩
  have h5 := hR2.owns (S := fun b => Q b ∨ n2 ≤ b) (.inl hS) k2 hn hc (by simp)
  unfold nodesD
  rw [List.length_set]
  exact h5
theorem TreeS.setNode {w : World} {base n1 n2 g cap i : Nat} {vl x : Value} {lo : List Int} {ts : List NodeD} {ns : NodeD} (h : TreeS w (fun b => base ≤ b ∧ b < n1) vl (.slice (some ⟨g, 0, none⟩) ts.length cap) lo ts) (hb : base ≤ n2) (h12 : n1 ≤ n2) (hx : Owns w (fun b => n2 ≤ b) x (setsD ns)) :
  TreeS (w.setCell ⟨g, i, none⟩ x) (fun b => base ≤ b ∧ (b < n1 ∨ n2 ≤ b)) vl (.slice (some ⟨g, 0, none⟩) ts.length cap) lo (ts.set i ns) := by
 obtain ⟨P, Q, hP, hQ, hd, hl, hn⟩ := h
 obtain ⟨h1, h2⟩ := hn.setNodeB (i := i) (fun b hb => (hQ b hb).2) h12 hx
 refine ⟨P, fun b => Q b ∨ n2 ≤ b, fun b hb => ⟨(hP b hb).1, .inl (hP b hb).2⟩, ?_, ?_, hl.keep (fun b hb _ => Below.heap_setCell _ _ _ _ (fun e => hd b hb (by have e' : b = g := e; rw [e']; exact h2))), h1⟩
 ·rintro b (hb' | hb')
  ·exact ⟨(hQ b hb').1, .inl (hQ b hb').2⟩
  ·exact ⟨by omega, .inr hb'⟩
 ·rintro b hb' (hq | hq)
  ·exact hd b hb' hq
  ·have := (hP b hb').2; omega
/-- The parts of a tree whose nodes are about to be appended to. -/
theorem TreeS.rowsN {w : World} {base n1 : Nat} {vl vn : Value} {lo : List Int} {ts : List NodeD} (h : TreeS w (fun b => base ≤ b ∧ b < n1) vl vn lo ts) : ∃ (P Q : Nat → Prop) (xs : List Value), (∀ b, P b → base ≤ b ∧ b < n1) ∧ (∀ b, Q b → base ≤ b ∧ b < n1) ∧ (∀ b, P b → ¬ Q b) ∧ Owns w P vl (intsD lo) ∧
  w.ownsRow base 62 1 vn ts.length xs ∧ OwnsL w (fun b => Q b ∧ vn.ownBlock ≠ some b) xs (ts.map setsD) ∧ ∀ g, vn.ownBlock = some g → Q g := by
 obtain ⟨P, Q, hP, hQ, hd, hl, hn⟩ := h
 rcases hn.rw' with ⟨rfl, h0, hc⟩ | ⟨g, cap, xs, rfl, hS, hR, hn', hc, hll, hx, ho⟩
 ·have : ts = [] := List.length_eq_zero_iff.1 h0
  subst this
  exact ⟨P, Q, [], hP, hQ, hd, hl, row_nil _ _ _ _, OwnsL.nil _ _, fun g hg => by simp [Value.ownBlock] at hg⟩
 ·refine ⟨P, Q, xs, hP, hQ, hd, hl, hR.row (hQ g hS).1 hn' hc (by simpa using hx), ho.mono (fun b hb => ⟨hb.1, fun e => hb.2 (by simp [Value.ownBlock] at e; exact e.symm)⟩), fun k hk => by simp [Value.ownBlock] at hk; subst hk; exact hS⟩
theorem TreeS.app {w7 w8 : World} {base n1 n2 : Nat} {P Q : Nat → Prop} {vl vn v8 x : Value} {xs : List Value} {lo : List Int} {ts : List NodeD} {ns : NodeD} (hP : ∀ b, P b → base ≤ b ∧ b < n1) (hQ : ∀ b, Q b → base ≤ b ∧ b < n1) (hd : ∀ b, P b → ¬ Q b) (hl : Owns w7 P vl (intsD lo))
  (ho : OwnsL w7 (fun b => Q b ∧ vn.ownBlock ≠ some b) xs (ts.map setsD)) (hg : ∀ g, vn.ownBlock = some g → Q g) (hb : base ≤ n2) (h12 : n1 ≤ n2) (h27 : n2 ≤ w7.heap.size) (hx : Owns w7 (fun b => n2 ≤ b ∧ b < w7.heap.size) x (setsD ns))
  (o8 : w8.ownsRow base 62 1 v8 (ts.length + 1) (xs ++ [x])) (g8 : w7.grownBy w8 vn.ownBlock) (hat : v8.ownBlock = vn.ownBlock ∨ v8.ownBlock = some w7.heap.size) : TreeS w8 (fun b => base ≤ b ∧ (b < n1 ∨ n2 ≤ b)) vl v8 lo (ts ++ [ns]) := by
 have hO : Only (fun b => vn.ownBlock = some b) w7 w8 := ⟨g8.os, g8.tape, g8.output, g8.size, fun i hi hn => g8.block i hi (fun e => hn e.symm)⟩
 have k1 := ho.far hO (fun b hb _ hb' => hb.2 hb')
 have k2 := (OwnsL.one hx).far hO (fun b hb _ hb' => by have := (hQ b (hg b hb')).2; have := hb.1; omega)
 have k3 : OwnsL w8 (fun b => (Q b ∨ n2 ≤ b) ∧ v8.ownBlock ≠ some b) (xs ++ [x]) (ts.map setsD ++ [setsD ns]) := by
  refine k1.append k2 (fun b hb => ⟨.inl hb.1, fun hv => ?_⟩) (fun b hb => ⟨.inr hb.1, fun hv => ?_⟩) (fun b hb hb' => by have := (hQ b hb.1).2; have := hb'.1; omega)
  ·rcases hat with h | h
   ·exact hb.2 (h ▸ hv)
   ·rw [h] at hv; simp at hv; have := (hQ b hb.1).2; omega
  ·rcases hat with h | h
   ·have := (hQ b (hg b (h ▸ hv))).2; have := hb.1; omega
   ·rw [h] at hv; simp at hv; have := hb.2; omega
 have k4 : ts.map setsD ++ [setsD ns] = (ts ++ [ns]).map setsD := by simp
 rw [k4] at k3
 refine ⟨P, fun b => Q b ∨ n2 ≤ b, fun b hb => ⟨(hP b hb).1, .inl (hP b hb).2⟩, ?_, ?_, hl.far hO (fun b hb _ hb' => hd b hb (hg b hb')), ?_⟩
 ·rintro b (hb' | hb')
  ·exact ⟨(hQ b hb').1, .inl (hQ b hb').2⟩
  ·exact ⟨by omega, .inr hb'⟩
 ·rintro b hb' (hq | hq)
  ·exact hd b hb' hq
  ·have := (hP b hb').2; omega
 ·have h5 := rowP_owns (P := fun b => Q b ∨ n2 ≤ b) o8 k3 (fun g hgv => by
   rcases hat with h | h
   ·exact .inl (hg g (h ▸ hgv))
   ·rw [h] at hgv; simp at hgv; exact .inr (by omega)) (by simp)
  unfold nodesD
  rw [List.length_append]
  exact h5
/-- A row that is not empty lies in a block. -/
theorem Owns.block {w : World} {S : Nat → Prop} {v : Value} {e z n : Nat} {cs : List Dat} (h : Owns w S v (.row e z n cs)) (hn : 0 < n) : ∃ g cap, v = .slice (some ⟨g, 0, none⟩) n cap ∧ n ≤ cap ∧ S g ∧ (∀ o, w.frozen? ⟨g, o, none⟩ = false) ∧ ∀ i, i < n * z → ∃ u, w.cell? ⟨g, i, none⟩ = some u := by
 rcases h.rw' with ⟨_, h0, _⟩ | ⟨g, cap, xs, rfl, hS, hR, hn', hc, hl, hx, ho⟩
 ·omega
 ·exact ⟨g, cap, rfl, hn', hS, fun o => hR.frozen o, fun i hi => ⟨_, hR.cell (by omega)⟩⟩
theorem TreeS.blocks {w : World} {S : Nat → Prop} {vl vn : Value} {lo : List Int} {ts : List NodeD} (h : TreeS w S vl vn lo ts) (h1 : 0 < lo.length) (h2 : 0 < ts.length) : ∃ gl cl gn cn, vl = .slice (some ⟨gl, 0, none⟩) lo.length cl ∧ vn = .slice (some ⟨gn, 0, none⟩) ts.length cn ∧ S gl ∧ S gn ∧ (∀ o, w.frozen? ⟨gl, o, none⟩ = false) ∧ (∀ o, w.frozen? ⟨gn, o, none⟩ = false) ∧ (∀ i, i < lo.length → ∃ u, w.cell? ⟨gl, i, none⟩ = some u) ∧ ∀ i, i < ts.length → ∃ u, w.cell? ⟨gn, i, none⟩ = some u := by
 obtain ⟨P, Q, hP, hQ, hd, hl, hn⟩ := h
 obtain ⟨gl, cl, e1, _, s1, f1, c1⟩ := hl.block h1
 obtain ⟨gn, cn, e2, _, s2, f2, c2⟩ := hn.block h2
 exact ⟨gl, cl, gn, cn, e1, e2, hP gl s1, hQ gn s2, f1, f2, fun i hi => c1 i (by omega), fun i hi => c2 i (by omega)⟩
theorem sumT_app1 (ts : List NodeD) (ns : NodeD) : sumT (ts ++ [ns]) = sumT ts + (ns.length + sumN ns) := by
 rw [sumT_append, sumT_cons, sumT_nil]
 omega
/-- Any drawn tree. -/
def AnyT (w : World) (p : Nat) (e : Ending) (w' : World) : Prop := ∃ vl vn lo ts, e = .returned (.agg #[vl, vn]) ∧ TreeS w' (fun b => w.heap.size ≤ b) vl vn lo ts ∧ lo.length ≤ 20 ∧ ts.length ≤ 21 ∧ sumT ts ≤ 250 ∧ Cur w' p ∧ w.grownBy w' (some p)
def bentLows : List Int := [0, -1, 1, 300]
set_option maxHeartbeats 4000000 in
theorem l6Any_any (p m : Nat) (w : World) (hc : Cur w p) (hm : m ≤ 1000) : Calls Tryz.prog 57 #[.pointer (some ⟨p, 0, none⟩), .int .i64 (m : Int)] w (AnyT w p) := by
 have hlt := hc.lt
 have C0 := Lib.hid (hc.alloc (.cells #[.slice none 0 0, .slice none 0 0] 27))
 have G0 := Lib.hid (only_start w (.cells #[.slice none 0 0, .slice none 0 0] 27) (some p))
 have Q0 := Lib.hid (al1 w (.cells #[.slice none 0 0, .slice none 0 0] 27))
 have HZ : Hid ((w.alloc (.cells #[.slice none 0 0, .slice none 0 0] 27)).heap.size = w.heap.size + 1) := Lib.hid (by simp)
 clear hc
 go_enter Tryz.func57, Tryz.ntmps57
 go_upto_region 1 with (fail)
 generalize w.alloc (.cells #[.slice none 0 0, .slice none 0 0] 27) = W at *
 have hz1 := Nat.le_of_eq HZ.out
 have hz2 := Nat.le_of_eq HZ.out.symm
 clear HZ
 go_wp2_with fail
 refine (l6Draw_any p m W C0.out hm).mono ?_
 rintro r w1 ⟨vl, vn, lo, ts, rfl, o1, hok, c1, g1⟩
 have hP : TreeP lo ts := of_decide_eq_true hok
 obtain ⟨hs1, hs2, hs3⟩ := treeP_small hok
 obtain ⟨gl, cl, gn, cn, rfl, rfl, _, _, _, _, _, _⟩ := o1.blocks (by have := hP.1; have := hP.2.2.1; omega) hP.1
 have hp1 : 1 ≤ ts.length := hP.1
 have hp2 : 1 ≤ lo.length := by have := hP.2.2.1; omega
 have OT := Lib.hid (o1.lt.on (bal1 w1 (.cells #[.slice (some ⟨gl, 0, none⟩) lo.length cl, .slice (some ⟨gn, 0, none⟩) ts.length cn] 27)))
 have QO := Lib.hid (al1 w1 (.cells #[.slice (some ⟨gl, 0, none⟩) lo.length cl, .slice (some ⟨gn, 0, none⟩) ts.length cn] 27))
 have QR := Lib.hid (box_on (box_grows Q0.out g1 (by omega)) (bal1 w1 (.cells #[.slice (some ⟨gl, 0, none⟩) lo.length cl, .slice (some ⟨gn, 0, none⟩) ts.length cn] 27)))
 have CC := Lib.hid (c1.alloc (.cells #[.slice (some ⟨gl, 0, none⟩) lo.length cl, .slice (some ⟨gn, 0, none⟩) ts.length cn] 27))
 have GG := Lib.hid (only_alloc (only_trans G0.out g1) (.cells #[.slice (some ⟨gl, 0, none⟩) lo.length cl, .slice (some ⟨gn, 0, none⟩) ts.length cn] 27))
 have hb1 := g1.size
 have HZ : Hid ((w1.alloc (.cells #[.slice (some ⟨gl, 0, none⟩) lo.length cl, .slice (some ⟨gn, 0, none⟩) ts.length cn] 27)).heap.size = w1.heap.size + 1) := Lib.hid (by simp)
 clear o1 c1 g1 hok Q0 C0 G0 hP
 go_upto_region 2 with (fail)
 generalize w1.alloc (.cells #[.slice (some ⟨gl, 0, none⟩) lo.length cl, .slice (some ⟨gn, 0, none⟩) ts.length cn] 27) = W2 at *
 have hz3 := Nat.le_of_eq HZ.out
 have hz4 := Nat.le_of_eq HZ.out.symm
 clear HZ
 go_wp2_with fail
 refine (l1Below_any p 12 _ CC.out (by omega) (by omega)).mono ?_
 rintro r w2 ⟨j, hj, rfl, c2, g2⟩
 replace OT := Lib.hid (OT.out.keep (w' := w2) (fun b hb hl => g2.block b hl (fun e => by injection e with e; have := hb.1; omega)))
 replace QO := Lib.hid (box_grows QO.out g2 (by omega))
 replace QR := Lib.hid (box_grows QR.out g2 (by omega))
 replace CC := Lib.hid c2
 replace GG := Lib.hid (only_trans GG.out g2)
 have hb2 := g2.size
 clear c2 g2
 rcases j with _ | _ | _ | _ | j
 ·go_upto_region 4 with (fail)
  have OTd := Lib.hid (OT.out.keep (w' := w2.drew) (fun _ _ _ => rfl))
  have CCd := Lib.hid (CC.out.keep (w' := w2.drew) (fun _ _ => rfl))
  have GGd := Lib.hid (only_draw1 GG.out)
  have QRd := Lib.hid (show w2.drew.heap[w.heap.size]? = some (.cells #[.slice none 0 0, .slice none 0 0] 27 (0, 0)) from QR.out)
  have hzd : w2.heap.size ≤ w2.drew.heap.size := Nat.le_refl _
  replace OT := OTd
  replace CC := CCd
  replace GG := GGd
  replace QR := QRd
  clear OTd CCd GGd QRd
  refine but_begin (f := 11) (S := fun V => V.heap[w1.heap.size]? = some (.cells #[.slice (some ⟨gl, 0, none⟩) lo.length cl, .slice (some ⟨gn, 0, none⟩) ts.length cn] 27 (0, 0))) (by kernel_rfl) ?_
  refine but_take (f := 11) (i := 0) (v := ?va0) rfl (by kernel_rfl) (by kernel_rfl) (by kernel_rfl) (by kernel_rfl) (by kernel_rfl) (fun _ _ _ h => h) (Or.inl ⟨(by rfl), ?hya0⟩) (show w2.drew.heap[w1.heap.size]? = some _ from QO.out) ?resta0
  case hya0 =>
   intro W hW
   go_simp
   exact rfl
  simp only [List.getElem_toArray, List.getElem_cons_succ, List.getElem_cons_zero, Act.put, List.setIfInBounds_toArray, List.set_cons_zero, List.set_cons_succ]
  refine but_take (f := 11) (i := 1) (v := ?va1) rfl (by kernel_rfl) (by kernel_rfl) (by kernel_rfl) (by kernel_rfl) (by kernel_rfl) (fun _ _ _ h => h) (Or.inl ⟨(by rfl), ?hya1⟩) (show w2.drew.heap[w1.heap.size]? = some _ from QO.out) ?resta1
  case hya1 =>
   intro W hW
   obtain ⟨z0, z1, z2⟩ := box2 hW
   go_simp
   exact rfl
  simp only [List.getElem_toArray, List.getElem_cons_succ, List.getElem_cons_zero, Act.put, List.setIfInBounds_toArray, List.set_cons_zero, List.set_cons_succ]
  refine but_take (f := 11) (i := 2) (v := ?va2) rfl (by kernel_rfl) (by kernel_rfl) (by kernel_rfl) (by kernel_rfl) (by kernel_rfl) (fun _ _ _ h => h) (Or.inl ⟨(by rfl), ?hya2⟩) (show w2.drew.heap[w1.heap.size]? = some _ from QO.out) ?resta2
  case hya2 =>
   intro W hW
   go_simp
   exact rfl
  simp only [List.getElem_toArray, List.getElem_cons_succ, List.getElem_cons_zero, Act.put, List.setIfInBounds_toArray, List.set_cons_zero, List.set_cons_succ]
  refine but_take (f := 11) (i := 3) (v := ?va3) rfl (by kernel_rfl) (by kernel_rfl) (by kernel_rfl) (by kernel_rfl) (by kernel_rfl) (fun _ _ _ h => h) (Or.inl ⟨(by rfl), ?hya3⟩) (show w2.drew.heap[w1.heap.size]? = some _ from QO.out) ?resta3
  case hya3 =>
   intro W hW
   go_simp
   exact rfl
  simp only [List.getElem_toArray, List.getElem_cons_succ, List.getElem_cons_zero, Act.put, List.setIfInBounds_toArray, List.set_cons_zero, List.set_cons_succ]
  refine but_take (f := 11) (i := 4) (v := ?va4) rfl (by kernel_rfl) (by kernel_rfl) (by kernel_rfl) (by kernel_rfl) (by kernel_rfl) (fun _ _ _ h => h) (Or.inl ⟨(by rfl), ?hya4⟩) (show w2.drew.heap[w1.heap.size]? = some _ from QO.out) ?resta4
  case hya4 =>
   intro W hW
   obtain ⟨z0, z1, z2⟩ := box2 hW
   go_simp
   exact rfl
  simp only [List.getElem_toArray, List.getElem_cons_succ, List.getElem_cons_zero, Act.put, List.setIfInBounds_toArray, List.set_cons_zero, List.set_cons_succ]
  refine but_take (f := 11) (i := 5) (v := ?va5) rfl (by kernel_rfl) (by kernel_rfl) (by kernel_rfl) (by kernel_rfl) (by kernel_rfl) (fun _ _ _ h => h) (Or.inl ⟨(by rfl), ?hya5⟩) (show w2.drew.heap[w1.heap.size]? = some _ from QO.out) ?resta5
  case hya5 =>
   intro W hW
   go_simp
   exact rfl
  simp only [List.getElem_toArray, List.getElem_cons_succ, List.getElem_cons_zero, Act.put, List.setIfInBounds_toArray, List.set_cons_zero, List.set_cons_succ]
  refine but_take (f := 11) (i := 7) (v := ?va7) rfl (by kernel_rfl) (by kernel_rfl) (by kernel_rfl) (by kernel_rfl) (by kernel_rfl) (fun _ _ _ h => h) (Or.inl ⟨(by rfl), ?hya7⟩) (show w2.drew.heap[w1.heap.size]? = some _ from QO.out) ?resta7
  case hya7 =>
   intro W hW
   go_simp
   exact rfl
  simp only [List.getElem_toArray, List.getElem_cons_succ, List.getElem_cons_zero, Act.put, List.setIfInBounds_toArray, List.set_cons_zero, List.set_cons_succ]
  refine but_two (i := 6) (j := 8) (by kernel_rfl) rfl rfl (by rfl) (by rfl) ?_ ?_
  ·simp only [List.getElem_toArray, List.getElem_cons_succ, List.getElem_cons_zero]
   intro K HK
   go_wp2_with fail
   refine (l1Below_any p (lo.length : Int) _ CC.out (by omega) (by omega)).mono ?_
   rintro r Vap1 ⟨j1, hj1, rfl, c6, g6⟩
   go_wp2_with fail
   have hSap1 : (fun V => V.heap[w1.heap.size]? = some (.cells #[.slice (some ⟨gl, 0, none⟩) lo.length cl, .slice (some ⟨gn, 0, none⟩) ts.length cn] 27 (0, 0))) Vap1 := box_grows (show w2.drew.heap[w1.heap.size]? = some _ from QO.out) g6 (by omega)
   refine HK.out _ _ (fun _ => hSap1) ?_
   clear HK
   replace OT := Lib.hid (OT.out.keep (w' := Vap1) (fun b hb hl => g6.block b hl (fun e => by injection e with e; have := hb.1; omega)))
   replace CC := Lib.hid c6
   replace GG := Lib.hid (only_trans GG.out g6)
   replace QR := Lib.hid (box_grows QR.out g6 (by omega))
   try replace OY := Lib.hid (OY.out.keep (w' := Vap1) (fun b hb hl => g6.block b hl (fun e => by injection e with e; have := hb.1; omega)))
   have hzzap1 := g6.size
   try replace LL := Lib.hid (LL.out.far g6 (by omega) (by omega))
   clear c6 g6
   refine but_run (i := 8) (by kernel_rfl) rfl (by rfl) ?_
   simp only [List.getElem_toArray, List.getElem_cons_succ, List.getElem_cons_zero]
   intro K HK
   go_wp2_with fail
   have hSap2 : (fun V => V.heap[w1.heap.size]? = some (.cells #[.slice (some ⟨gl, 0, none⟩) lo.length cl, .slice (some ⟨gn, 0, none⟩) ts.length cn] 27 (0, 0))) (Vap1.alloc (.cells #[.int .i64 0, .int .i64 (-1), .int .i64 1, .int .i64 300] 3)) := box_on hSap1 (bal1 _ _)
   refine HK.out _ _ (fun _ => hSap2) ?_
   clear HK
   replace OT := Lib.hid (OT.out.on (bal1 Vap1 (.cells #[.int .i64 0, .int .i64 (-1), .int .i64 1, .int .i64 300] 3)))
   replace CC := Lib.hid (CC.out.alloc (.cells #[.int .i64 0, .int .i64 (-1), .int .i64 1, .int .i64 300] 3))
   replace GG := Lib.hid (only_alloc GG.out (.cells #[.int .i64 0, .int .i64 (-1), .int .i64 1, .int .i64 300] 3))
   replace QR := Lib.hid (box_on QR.out (bal1 Vap1 (.cells #[.int .i64 0, .int .i64 (-1), .int .i64 1, .int .i64 300] 3)))
   have hzaap2 : (Vap1.alloc (.cells #[.int .i64 0, .int .i64 (-1), .int .i64 1, .int .i64 300] 3)).heap.size ≤ Vap1.heap.size + 1 := by simp
   have hybap2 : Vap1.heap.size + 1 ≤ (Vap1.alloc (.cells #[.int .i64 0, .int .i64 (-1), .int .i64 1, .int .i64 300] 3)).heap.size := by simp
   have LL : Hid (Lies (Vap1.alloc (.cells #[.int .i64 0, .int .i64 (-1), .int .i64 1, .int .i64 300] 3)) (Vap1.heap.size) (bentLows.map (.int .i64 ·))) := Lib.hid (by have h := Lies.new Vap1 (bentLows.map (.int .i64 ·)) 3; exact h)
   have hlpap2 : Vap1.heap.size < (Vap1.alloc (.cells #[.int .i64 0, .int .i64 (-1), .int .i64 1, .int .i64 300] 3)).heap.size := by simp
   have hlqap2 : p < Vap1.heap.size := by have := CC.out.lt; omega
   refine but_run (i := 9) (by kernel_rfl) rfl (by rfl) ?_
   simp only [List.getElem_toArray, List.getElem_cons_succ, List.getElem_cons_zero]
   intro K HK
   go_wp2_with fail
   refine (l1Int_any p (Vap1.heap.size) 4 bentLows _ CC.out LL.out (by omega) (by omega) (by decide) (by decide)).mono ?_
   rintro r Vap3 ⟨xx, hxx, rfl, c9, g9⟩
   go_wp2_with fail
   have hSap3 : (fun V => V.heap[w1.heap.size]? = some (.cells #[.slice (some ⟨gl, 0, none⟩) lo.length cl, .slice (some ⟨gn, 0, none⟩) ts.length cn] 27 (0, 0))) Vap3 := box_grows hSap2 g9 (by omega)
   refine HK.out _ _ (fun _ => hSap3) ?_
   clear HK
   replace OT := Lib.hid (OT.out.keep (w' := Vap3) (fun b hb hl => g9.block b hl (fun e => by injection e with e; have := hb.1; omega)))
   replace CC := Lib.hid c9
   replace GG := Lib.hid (only_trans GG.out g9)
   replace QR := Lib.hid (box_grows QR.out g9 (by omega))
   try replace OY := Lib.hid (OY.out.keep (w' := Vap3) (fun b hb hl => g9.block b hl (fun e => by injection e with e; have := hb.1; omega)))
   have hzzap3 := g9.size
   clear c9 g9 LL hxx
   refine but_take (f := 11) (i := 10) (v := ?vap10) rfl (by kernel_rfl) (by kernel_rfl) (by kernel_rfl) (by kernel_rfl) (by kernel_rfl) (fun _ _ _ h => h) (Or.inl ⟨(by rfl), ?hyap10⟩) hSap3 ?restap10
   case hyap10 =>
    intro W hW
    go_simp
    exact rfl
   simp only [List.getElem_toArray, List.getElem_cons_succ, List.getElem_cons_zero, Act.put, List.setIfInBounds_toArray, List.set_cons_zero, List.set_cons_succ]
   refine but_run (i := 11) (by kernel_rfl) rfl (by rfl) ?_
   simp only [List.getElem_toArray, List.getElem_cons_succ, List.getElem_cons_zero]
   obtain ⟨gl', cl', gn', cn', e1, e2, hgl, hgn, fr1, fr2, ce1, ce2⟩ := OT.out.blocks hp2 hp1
   cases e1
   cases e2
   obtain ⟨u0, cu0⟩ := ce1 j1 (by omega)
   have fu0 := fr1 j1
   have i1 : (j1 : Int) < (lo.length : Int) := by omega
   have i2 : (0 : Int) ≤ (j1 : Int) := by omega
   clear fr1 fr2 ce1 ce2 hgn
   intro K HK
   go_wp2_with fail
   refine HK.out _ _ (fun h => absurd rfl h) ?_
   clear HK
   refine but_done (by kernel_rfl) ?_
   have OX := Lib.hid (OT.out.setLow (j := j1) xx)
   have PX := Lib.hid (box_far (g := gl) (j := j1) (u := .int .i64 xx) hSap3 (by omega))
   have PY := Lib.hid (box_far (g := gl) (j := j1) (u := .int .i64 xx) QR.out (by omega))
   have CX := Lib.hid (CC.out.setNew (g := gl) (j := j1) (by omega) (.int .i64 xx))
   have GX := Lib.hid (only_setNew (g := gl) (j := j1) GG.out (by omega) (.int .i64 xx))
   clear OT QR CC GG cu0 fu0
   go_upto_region 11 with (fail)
   generalize (Vap3.setCell ⟨gl, j1, none⟩ (.int .i64 xx)) = W9 at *
   obtain ⟨z0, z1, z2⟩ := box2 PX.out
   obtain ⟨y0, y1, y2⟩ := box2 PY.out
   have PZ := box_set (i := 1) (u := .slice (some ⟨gn, 0, none⟩) ts.length cn) (box_set (i := 0) (u := .slice (some ⟨gl, 0, none⟩) lo.length cl) PY.out)
   obtain ⟨q0, q1, q2⟩ := box2 PZ
   clear PZ
   go_wp2
   refine bodyPost_ret (v := .agg #[.slice (some ⟨gl, 0, none⟩) lo.length cl, .slice (some ⟨gn, 0, none⟩) ts.length cn]) (by simp [results, Tryz.results57, go_sem, q0, q1, y0, y1, y2]) rfl ⟨_, _, _, _, rfl, (OX.out.keep (fun b hb _ => by have hne : b ≠ w.heap.size := (by have := hb.1; omega); rw [Below.heap_setCell _ _ _ _ (by simpa using hne), Below.heap_setCell _ _ _ _ (by simpa using hne)])).mono (fun b hb => by have := hb.1; omega), by simp; omega, by omega, by omega, (CX.out.setNew hlt _).setNew hlt _, only_setNew (only_setNew GX.out (Nat.le_refl _) _) (Nat.le_refl _) _⟩
  ·simp only [List.getElem_toArray, List.getElem_cons_succ, List.getElem_cons_zero]
   intro K HK
   go_wp2_with fail
   have hSaq1 : (fun V => V.heap[w1.heap.size]? = some (.cells #[.slice (some ⟨gl, 0, none⟩) lo.length cl, .slice (some ⟨gn, 0, none⟩) ts.length cn] 27 (0, 0))) (w2.drew.alloc (.cells #[.int .i64 0, .int .i64 (-1), .int .i64 1, .int .i64 300] 3)) := box_on (show w2.drew.heap[w1.heap.size]? = some _ from QO.out) (bal1 _ _)
   refine HK.out _ _ (fun _ => hSaq1) ?_
   clear HK
   replace OT := Lib.hid (OT.out.on (bal1 w2.drew (.cells #[.int .i64 0, .int .i64 (-1), .int .i64 1, .int .i64 300] 3)))
   replace CC := Lib.hid (CC.out.alloc (.cells #[.int .i64 0, .int .i64 (-1), .int .i64 1, .int .i64 300] 3))
   replace GG := Lib.hid (only_alloc GG.out (.cells #[.int .i64 0, .int .i64 (-1), .int .i64 1, .int .i64 300] 3))
   replace QR := Lib.hid (box_on QR.out (bal1 w2.drew (.cells #[.int .i64 0, .int .i64 (-1), .int .i64 1, .int .i64 300] 3)))
   have hzaaq1 : (w2.drew.alloc (.cells #[.int .i64 0, .int .i64 (-1), .int .i64 1, .int .i64 300] 3)).heap.size ≤ w2.drew.heap.size + 1 := by simp
   have hybaq1 : w2.drew.heap.size + 1 ≤ (w2.drew.alloc (.cells #[.int .i64 0, .int .i64 (-1), .int .i64 1, .int .i64 300] 3)).heap.size := by simp
   have LL : Hid (Lies (w2.drew.alloc (.cells #[.int .i64 0, .int .i64 (-1), .int .i64 1, .int .i64 300] 3)) (w2.drew.heap.size) (bentLows.map (.int .i64 ·))) := Lib.hid (by have h := Lies.new w2.drew (bentLows.map (.int .i64 ·)) 3; exact h)
   have hlpaq1 : w2.drew.heap.size < (w2.drew.alloc (.cells #[.int .i64 0, .int .i64 (-1), .int .i64 1, .int .i64 300] 3)).heap.size := by simp
   have hlqaq1 : p < w2.drew.heap.size := by have := CC.out.lt; omega
   refine but_run (i := 6) (by kernel_rfl) rfl (by rfl) ?_
   simp only [List.getElem_toArray, List.getElem_cons_succ, List.getElem_cons_zero]
   intro K HK
   go_wp2_with fail
   refine (l1Below_any p (lo.length : Int) _ CC.out (by omega) (by omega)).mono ?_
   rintro r Vaq2 ⟨j1, hj1, rfl, c6, g6⟩
   go_wp2_with fail
   have hSaq2 : (fun V => V.heap[w1.heap.size]? = some (.cells #[.slice (some ⟨gl, 0, none⟩) lo.length cl, .slice (some ⟨gn, 0, none⟩) ts.length cn] 27 (0, 0))) Vaq2 := box_grows hSaq1 g6 (by omega)
   refine HK.out _ _ (fun _ => hSaq2) ?_
   clear HK
   replace OT := Lib.hid (OT.out.keep (w' := Vaq2) (fun b hb hl => g6.block b hl (fun e => by injection e with e; have := hb.1; omega)))
   replace CC := Lib.hid c6
   replace GG := Lib.hid (only_trans GG.out g6)
   replace QR := Lib.hid (box_grows QR.out g6 (by omega))
   try replace OY := Lib.hid (OY.out.keep (w' := Vaq2) (fun b hb hl => g6.block b hl (fun e => by injection e with e; have := hb.1; omega)))
   have hzzaq2 := g6.size
   try replace LL := Lib.hid (LL.out.far g6 (by omega) (by omega))
   clear c6 g6
   refine but_run (i := 9) (by kernel_rfl) rfl (by rfl) ?_
   simp only [List.getElem_toArray, List.getElem_cons_succ, List.getElem_cons_zero]
   intro K HK
   go_wp2_with fail
   refine (l1Int_any p (w2.drew.heap.size) 4 bentLows _ CC.out LL.out (by omega) (by omega) (by decide) (by decide)).mono ?_
   rintro r Vaq3 ⟨xx, hxx, rfl, c9, g9⟩
   go_wp2_with fail
   have hSaq3 : (fun V => V.heap[w1.heap.size]? = some (.cells #[.slice (some ⟨gl, 0, none⟩) lo.length cl, .slice (some ⟨gn, 0, none⟩) ts.length cn] 27 (0, 0))) Vaq3 := box_grows hSaq2 g9 (by omega)
   refine HK.out _ _ (fun _ => hSaq3) ?_
   clear HK
   replace OT := Lib.hid (OT.out.keep (w' := Vaq3) (fun b hb hl => g9.block b hl (fun e => by injection e with e; have := hb.1; omega)))
   replace CC := Lib.hid c9
   replace GG := Lib.hid (only_trans GG.out g9)
   replace QR := Lib.hid (box_grows QR.out g9 (by omega))
   try replace OY := Lib.hid (OY.out.keep (w' := Vaq3) (fun b hb hl => g9.block b hl (fun e => by injection e with e; have := hb.1; omega)))
   have hzzaq3 := g9.size
   clear c9 g9 LL hxx
   refine but_take (f := 11) (i := 10) (v := ?vaq10) rfl (by kernel_rfl) (by kernel_rfl) (by kernel_rfl) (by kernel_rfl) (by kernel_rfl) (fun _ _ _ h => h) (Or.inl ⟨(by rfl), ?hyaq10⟩) hSaq3 ?restaq10
   case hyaq10 =>
    intro W hW
    go_simp
    exact rfl
   simp only [List.getElem_toArray, List.getElem_cons_succ, List.getElem_cons_zero, Act.put, List.setIfInBounds_toArray, List.set_cons_zero, List.set_cons_succ]
   refine but_run (i := 11) (by kernel_rfl) rfl (by rfl) ?_
   simp only [List.getElem_toArray, List.getElem_cons_succ, List.getElem_cons_zero]
   obtain ⟨gl', cl', gn', cn', e1, e2, hgl, hgn, fr1, fr2, ce1, ce2⟩ := OT.out.blocks hp2 hp1
   cases e1
   cases e2
   obtain ⟨u0, cu0⟩ := ce1 j1 (by omega)
   have fu0 := fr1 j1
   have i1 : (j1 : Int) < (lo.length : Int) := by omega
   have i2 : (0 : Int) ≤ (j1 : Int) := by omega
   clear fr1 fr2 ce1 ce2 hgn
   intro K HK
   go_wp2_with fail
   refine HK.out _ _ (fun h => absurd rfl h) ?_
   clear HK
   refine but_done (by kernel_rfl) ?_
   have OX := Lib.hid (OT.out.setLow (j := j1) xx)
   have PX := Lib.hid (box_far (g := gl) (j := j1) (u := .int .i64 xx) hSaq3 (by omega))
   have PY := Lib.hid (box_far (g := gl) (j := j1) (u := .int .i64 xx) QR.out (by omega))
   have CX := Lib.hid (CC.out.setNew (g := gl) (j := j1) (by omega) (.int .i64 xx))
   have GX := Lib.hid (only_setNew (g := gl) (j := j1) GG.out (by omega) (.int .i64 xx))
   clear OT QR CC GG cu0 fu0
   go_upto_region 11 with (fail)
   generalize (Vaq3.setCell ⟨gl, j1, none⟩ (.int .i64 xx)) = W9 at *
   obtain ⟨z0, z1, z2⟩ := box2 PX.out
   obtain ⟨y0, y1, y2⟩ := box2 PY.out
   have PZ := box_set (i := 1) (u := .slice (some ⟨gn, 0, none⟩) ts.length cn) (box_set (i := 0) (u := .slice (some ⟨gl, 0, none⟩) lo.length cl) PY.out)
   obtain ⟨q0, q1, q2⟩ := box2 PZ
   clear PZ
   go_wp2
   refine bodyPost_ret (v := .agg #[.slice (some ⟨gl, 0, none⟩) lo.length cl, .slice (some ⟨gn, 0, none⟩) ts.length cn]) (by simp [results, Tryz.results57, go_sem, q0, q1, y0, y1, y2]) rfl ⟨_, _, _, _, rfl, (OX.out.keep (fun b hb _ => by have hne : b ≠ w.heap.size := (by have := hb.1; omega); rw [Below.heap_setCell _ _ _ _ (by simpa using hne), Below.heap_setCell _ _ _ _ (by simpa using hne)])).mono (fun b hb => by have := hb.1; omega), by simp; omega, by omega, by omega, (CX.out.setNew hlt _).setNew hlt _, only_setNew (only_setNew GX.out (Nat.le_refl _) _) (Nat.le_refl _) _⟩
 ·go_upto_region 6 with (fail)
  have OTd := Lib.hid (OT.out.keep (w' := w2.drew) (fun _ _ _ => rfl))
  have CCd := Lib.hid (CC.out.keep (w' := w2.drew) (fun _ _ => rfl))
  have GGd := Lib.hid (only_draw1 GG.out)
  have QRd := Lib.hid (show w2.drew.heap[w.heap.size]? = some (.cells #[.slice none 0 0, .slice none 0 0] 27 (0, 0)) from QR.out)
  have hzd : w2.heap.size ≤ w2.drew.heap.size := Nat.le_refl _
  replace OT := OTd
  replace CC := CCd
  replace GG := GGd
  replace QR := QRd
  clear OTd CCd GGd QRd
  refine but_begin (f := 7) (S := fun V => V.heap[w1.heap.size]? = some (.cells #[.slice (some ⟨gl, 0, none⟩) lo.length cl, .slice (some ⟨gn, 0, none⟩) ts.length cn] 27 (0, 0))) (by kernel_rfl) ?_
  refine but_take (f := 7) (i := 0) (v := ?vb0) rfl (by kernel_rfl) (by kernel_rfl) (by kernel_rfl) (by kernel_rfl) (by kernel_rfl) (fun _ _ _ h => h) (Or.inl ⟨(by rfl), ?hyb0⟩) (show w2.drew.heap[w1.heap.size]? = some _ from QO.out) ?restb0
  case hyb0 =>
   intro W hW
   go_simp
   exact rfl
  simp only [List.getElem_toArray, List.getElem_cons_succ, List.getElem_cons_zero, Act.put, List.setIfInBounds_toArray, List.set_cons_zero, List.set_cons_succ]
  refine but_take (f := 7) (i := 1) (v := ?vb1) rfl (by kernel_rfl) (by kernel_rfl) (by kernel_rfl) (by kernel_rfl) (by kernel_rfl) (fun _ _ _ h => h) (Or.inl ⟨(by rfl), ?hyb1⟩) (show w2.drew.heap[w1.heap.size]? = some _ from QO.out) ?restb1
  case hyb1 =>
   intro W hW
   obtain ⟨z0, z1, z2⟩ := box2 hW
   go_simp
   exact rfl
  simp only [List.getElem_toArray, List.getElem_cons_succ, List.getElem_cons_zero, Act.put, List.setIfInBounds_toArray, List.set_cons_zero, List.set_cons_succ]
  refine but_take (f := 7) (i := 2) (v := ?vb2) rfl (by kernel_rfl) (by kernel_rfl) (by kernel_rfl) (by kernel_rfl) (by kernel_rfl) (fun _ _ _ h => h) (Or.inl ⟨(by rfl), ?hyb2⟩) (show w2.drew.heap[w1.heap.size]? = some _ from QO.out) ?restb2
  case hyb2 =>
   intro W hW
   go_simp
   exact rfl
  simp only [List.getElem_toArray, List.getElem_cons_succ, List.getElem_cons_zero, Act.put, List.setIfInBounds_toArray, List.set_cons_zero, List.set_cons_succ]
  refine but_run (i := 3) (by kernel_rfl) rfl (by rfl) ?_
  simp only [List.getElem_toArray, List.getElem_cons_succ, List.getElem_cons_zero]
  intro K HK
  go_wp2_with fail
  refine (l5Any_any p _ CC.out).mono ?_
  rintro r Vb1 ⟨v3, ns, rfl, o3, hn3, hs3, c3, g3⟩
  obtain ⟨A3, c3v, rfl, _, _⟩ := o3.reads.lenN
  go_wp2_with fail
  have hSb1 : (fun V => V.heap[w1.heap.size]? = some (.cells #[.slice (some ⟨gl, 0, none⟩) lo.length cl, .slice (some ⟨gn, 0, none⟩) ts.length cn] 27 (0, 0))) Vb1 := box_grows (show w2.drew.heap[w1.heap.size]? = some _ from QO.out) g3 (by omega)
  refine HK.out _ _ (fun _ => hSb1) ?_
  clear HK
  replace OT := Lib.hid (OT.out.keep (w' := Vb1) (fun b hb hl => g3.block b hl (fun e => by injection e with e; have := hb.1; omega)))
  replace CC := Lib.hid c3
  replace GG := Lib.hid (only_trans GG.out g3)
  replace QR := Lib.hid (box_grows QR.out g3 (by omega))
  try replace OY := Lib.hid (OY.out.keep (w' := Vb1) (fun b hb hl => g3.block b hl (fun e => by injection e with e; have := hb.1; omega)))
  have hzzb1 := g3.size
  have OY := Lib.hid (o3.mono (T := fun b => w2.heap.size ≤ b) (fun b hb => by omega))
  clear c3 g3 o3
  refine but_run (i := 4) (by kernel_rfl) rfl (by rfl) ?_
  simp only [List.getElem_toArray, List.getElem_cons_succ, List.getElem_cons_zero]
  intro K HK
  go_wp2_with fail
  have hSb2 : (fun V => V.heap[w1.heap.size]? = some (.cells #[.slice (some ⟨gl, 0, none⟩) lo.length cl, .slice (some ⟨gn, 0, none⟩) ts.length cn] 27 (0, 0))) (Vb1.alloc (.cells #[.slice A3 ns.length c3v] 62)) := box_on hSb1 (bal1 _ _)
  refine HK.out _ _ (fun _ => hSb2) ?_
  clear HK
  replace OT := Lib.hid (OT.out.on (bal1 Vb1 (.cells #[.slice A3 ns.length c3v] 62)))
  replace CC := Lib.hid (CC.out.alloc (.cells #[.slice A3 ns.length c3v] 62))
  replace GG := Lib.hid (only_alloc GG.out (.cells #[.slice A3 ns.length c3v] 62))
  replace QR := Lib.hid (box_on QR.out (bal1 Vb1 (.cells #[.slice A3 ns.length c3v] 62)))
  have hzab2 : (Vb1.alloc (.cells #[.slice A3 ns.length c3v] 62)).heap.size ≤ Vb1.heap.size + 1 := by simp
  have hybb2 : Vb1.heap.size + 1 ≤ (Vb1.alloc (.cells #[.slice A3 ns.length c3v] 62)).heap.size := by simp
  replace OY := Lib.hid (OY.out.on (bal1 Vb1 (.cells #[.slice A3 ns.length c3v] 62)))
  refine but_run (i := 5) (by kernel_rfl) rfl (by rfl) ?_
  simp only [List.getElem_toArray, List.getElem_cons_succ, List.getElem_cons_zero]
  intro K HK
  obtain ⟨P, Q, xs, hP, hQ, hd, hl, hr, ho, hg⟩ := OT.out.rowsN
  refine operAppN _ (by rfl) (.tmp 27) (.tmp 30) 25 62 1 24 (.agg #[.slice none 0 0]) (by rfl) Tryz.underlying25 (by kernel_rfl) rfl (by omega) (by omega) W.heap.size ts.length _ xs (by rfl) hr _ 1 1 [.slice A3 ns.length c3v] (by rfl) rfl (At.lit1 _ _ _) (by simp [Value.oneCell']) (by omega) (by omega) ?_
  intro v8 Vb3 o8 g8 _ at8
  have OX := Lib.hid (TreeS.app (n2 := w2.heap.size) hP hQ hd hl ho hg (by omega) (by omega) (by omega) OY.out.lt o8 g8 at8)
  have hne1 : Value.ownBlock (.slice (some ⟨gn, 0, none⟩) ts.length cn) ≠ some w1.heap.size := fun e => by have := (hQ _ (hg _ e)).2; omega
  have hO8 : Only (fun b => W.heap.size ≤ b) (Vb1.alloc (.cells #[.slice A3 ns.length c3v] 62)) Vb3 := ⟨g8.os, g8.tape, g8.output, g8.size, fun i hi hn => g8.block i hi (fun e => hn (row_lt hr i e.symm).2)⟩
  have P8 := Lib.hid (box_grown hSb2 g8 hne1)
  have P9 := Lib.hid (box_only QR.out hO8 (fun e => by omega))
  have C8 := Lib.hid (CC.out.keep (w' := Vb3) (fun k hk => hO8.block k (by have := CC.out.lt; omega) (fun h => by omega)))
  have G8 := Lib.hid (grown_on GG.out (hO8.below (by omega) (fun b hb => by omega)))
  obtain ⟨gv, cv, rfl⟩ := row_shape o8 (by omega)
  clear o8 at8 hO8 g8 hr ho hl hP hQ hd hg hne1 OT QR CC GG OY
  have hSb3 : (fun V => V.heap[w1.heap.size]? = some (.cells #[.slice (some ⟨gl, 0, none⟩) lo.length cl, .slice (some ⟨gn, 0, none⟩) ts.length cn] 27 (0, 0))) Vb3 := P8.out
  refine HK.out _ _ (fun _ => hSb3) ?_
  clear HK
  obtain ⟨z0, z1, z2⟩ := box2 P8.out
  simp only [List.getElem_toArray, List.getElem_cons_succ, List.getElem_cons_zero, Act.put, List.setIfInBounds_toArray, List.set_cons_zero, List.set_cons_succ]
  refine but_take (f := 7) (i := 6) (v := ?vb6) rfl (by kernel_rfl) (by kernel_rfl) (by kernel_rfl) (by kernel_rfl) (by kernel_rfl) (fun _ _ _ h => h) (Or.inl ⟨(by rfl), ?hyb6⟩) hSb3 ?restb6
  case hyb6 =>
   intro W hW
   go_simp
   exact rfl
  simp only [List.getElem_toArray, List.getElem_cons_succ, List.getElem_cons_zero, Act.put, List.setIfInBounds_toArray, List.set_cons_zero, List.set_cons_succ]
  refine but_run (i := 7) (by kernel_rfl) rfl (by rfl) ?_
  simp only [List.getElem_toArray, List.getElem_cons_succ, List.getElem_cons_zero]
  intro K HK
  go_wp2_with fail
  refine HK.out _ _ (fun h => absurd rfl h) ?_
  clear HK
  refine but_done (by kernel_rfl) ?_
  have OX2 := Lib.hid (OX.out.keep (w' := (Vb3.setCell ⟨w1.heap.size, 1, none⟩ (.slice (some ⟨gv, 0, none⟩) (ts.length + 1) cv))) (fun b hb _ => Below.heap_setCell _ _ _ _ (by simp; have := hb; omega)))
  have PX := Lib.hid (box_set (i := 1) (u := (.slice (some ⟨gv, 0, none⟩) (ts.length + 1) cv)) P8.out)
  have PY := Lib.hid (box_far (g := w1.heap.size) (j := 1) (u := (.slice (some ⟨gv, 0, none⟩) (ts.length + 1) cv)) P9.out (by omega))
  have CX := Lib.hid (C8.out.setNew (g := w1.heap.size) (j := 1) (by omega) (.slice (some ⟨gv, 0, none⟩) (ts.length + 1) cv))
  have GX := Lib.hid (only_setNew (g := w1.heap.size) (j := 1) G8.out (by omega) (.slice (some ⟨gv, 0, none⟩) (ts.length + 1) cv))
  clear OX P8 P9 C8 G8 z0 z1 z2
  go_upto_region 11 with (fail)
  generalize (Vb3.setCell ⟨w1.heap.size, 1, none⟩ (.slice (some ⟨gv, 0, none⟩) (ts.length + 1) cv)) = W9 at *
  obtain ⟨z0, z1, z2⟩ := box2 PX.out
  obtain ⟨y0, y1, y2⟩ := box2 PY.out
  have PZ := box_set (i := 1) (u := .slice (some ⟨gv, 0, none⟩) (ts.length + 1) cv) (box_set (i := 0) (u := .slice (some ⟨gl, 0, none⟩) lo.length cl) PY.out)
  obtain ⟨q0, q1, q2⟩ := box2 PZ
  clear PZ
  go_wp2
  refine bodyPost_ret (v := .agg #[.slice (some ⟨gl, 0, none⟩) lo.length cl, .slice (some ⟨gv, 0, none⟩) (ts.length + 1) cv]) (by simp [results, Tryz.results57, go_sem, q0, q1, y0, y1, y2]) rfl ⟨_, _, _, _, rfl, (OX2.out.keep (fun b hb _ => by have hne : b ≠ w.heap.size := (by have := hb.1; omega); rw [Below.heap_setCell _ _ _ _ (by simpa using hne), Below.heap_setCell _ _ _ _ (by simpa using hne)])).mono (fun b hb => by have := hb.1; omega), by omega, by simp; omega, by rw [sumT_app1]; omega, (CX.out.setNew hlt _).setNew hlt _, only_setNew (only_setNew GX.out (Nat.le_refl _) _) (Nat.le_refl _) _⟩
 ·go_upto_region 8 with (fail)
  have OTd := Lib.hid (OT.out.keep (w' := w2.drew) (fun _ _ _ => rfl))
  have CCd := Lib.hid (CC.out.keep (w' := w2.drew) (fun _ _ => rfl))
  have GGd := Lib.hid (only_draw1 GG.out)
  have QRd := Lib.hid (show w2.drew.heap[w.heap.size]? = some (.cells #[.slice none 0 0, .slice none 0 0] 27 (0, 0)) from QR.out)
  have hzd : w2.heap.size ≤ w2.drew.heap.size := Nat.le_refl _
  replace OT := OTd
  replace CC := CCd
  replace GG := GGd
  replace QR := QRd
  clear OTd CCd GGd QRd
  refine but_begin (f := 10) (S := fun V => V.heap[w1.heap.size]? = some (.cells #[.slice (some ⟨gl, 0, none⟩) lo.length cl, .slice (some ⟨gn, 0, none⟩) ts.length cn] 27 (0, 0))) (by kernel_rfl) ?_
  refine but_take (f := 10) (i := 0) (v := ?vc0) rfl (by kernel_rfl) (by kernel_rfl) (by kernel_rfl) (by kernel_rfl) (by kernel_rfl) (fun _ _ _ h => h) (Or.inl ⟨(by rfl), ?hyc0⟩) (show w2.drew.heap[w1.heap.size]? = some _ from QO.out) ?restc0
  case hyc0 =>
   intro W hW
   go_simp
   exact rfl
  simp only [List.getElem_toArray, List.getElem_cons_succ, List.getElem_cons_zero, Act.put, List.setIfInBounds_toArray, List.set_cons_zero, List.set_cons_succ]
  refine but_take (f := 10) (i := 1) (v := ?vc1) rfl (by kernel_rfl) (by kernel_rfl) (by kernel_rfl) (by kernel_rfl) (by kernel_rfl) (fun _ _ _ h => h) (Or.inl ⟨(by rfl), ?hyc1⟩) (show w2.drew.heap[w1.heap.size]? = some _ from QO.out) ?restc1
  case hyc1 =>
   intro W hW
   obtain ⟨z0, z1, z2⟩ := box2 hW
   go_simp
   exact rfl
  simp only [List.getElem_toArray, List.getElem_cons_succ, List.getElem_cons_zero, Act.put, List.setIfInBounds_toArray, List.set_cons_zero, List.set_cons_succ]
  refine but_take (f := 10) (i := 2) (v := ?vc2) rfl (by kernel_rfl) (by kernel_rfl) (by kernel_rfl) (by kernel_rfl) (by kernel_rfl) (fun _ _ _ h => h) (Or.inl ⟨(by rfl), ?hyc2⟩) (show w2.drew.heap[w1.heap.size]? = some _ from QO.out) ?restc2
  case hyc2 =>
   intro W hW
   go_simp
   exact rfl
  simp only [List.getElem_toArray, List.getElem_cons_succ, List.getElem_cons_zero, Act.put, List.setIfInBounds_toArray, List.set_cons_zero, List.set_cons_succ]
  refine but_take (f := 10) (i := 3) (v := ?vc3) rfl (by kernel_rfl) (by kernel_rfl) (by kernel_rfl) (by kernel_rfl) (by kernel_rfl) (fun _ _ _ h => h) (Or.inl ⟨(by rfl), ?hyc3⟩) (show w2.drew.heap[w1.heap.size]? = some _ from QO.out) ?restc3
  case hyc3 =>
   intro W hW
   go_simp
   exact rfl
  simp only [List.getElem_toArray, List.getElem_cons_succ, List.getElem_cons_zero, Act.put, List.setIfInBounds_toArray, List.set_cons_zero, List.set_cons_succ]
  refine but_take (f := 10) (i := 4) (v := ?vc4) rfl (by kernel_rfl) (by kernel_rfl) (by kernel_rfl) (by kernel_rfl) (by kernel_rfl) (fun _ _ _ h => h) (Or.inl ⟨(by rfl), ?hyc4⟩) (show w2.drew.heap[w1.heap.size]? = some _ from QO.out) ?restc4
  case hyc4 =>
   intro W hW
   obtain ⟨z0, z1, z2⟩ := box2 hW
   go_simp
   exact rfl
  simp only [List.getElem_toArray, List.getElem_cons_succ, List.getElem_cons_zero, Act.put, List.setIfInBounds_toArray, List.set_cons_zero, List.set_cons_succ]
  refine but_take (f := 10) (i := 5) (v := ?vc5) rfl (by kernel_rfl) (by kernel_rfl) (by kernel_rfl) (by kernel_rfl) (by kernel_rfl) (fun _ _ _ h => h) (Or.inl ⟨(by rfl), ?hyc5⟩) (show w2.drew.heap[w1.heap.size]? = some _ from QO.out) ?restc5
  case hyc5 =>
   intro W hW
   go_simp
   exact rfl
  simp only [List.getElem_toArray, List.getElem_cons_succ, List.getElem_cons_zero, Act.put, List.setIfInBounds_toArray, List.set_cons_zero, List.set_cons_succ]
  refine but_take (f := 10) (i := 7) (v := ?vc7) rfl (by kernel_rfl) (by kernel_rfl) (by kernel_rfl) (by kernel_rfl) (by kernel_rfl) (fun _ _ _ h => h) (Or.inl ⟨(by rfl), ?hyc7⟩) (show w2.drew.heap[w1.heap.size]? = some _ from QO.out) ?restc7
  case hyc7 =>
   intro W hW
   go_simp
   exact rfl
  simp only [List.getElem_toArray, List.getElem_cons_succ, List.getElem_cons_zero, Act.put, List.setIfInBounds_toArray, List.set_cons_zero, List.set_cons_succ]
  refine but_run (i := 6) (by kernel_rfl) rfl (by rfl) ?_
  simp only [List.getElem_toArray, List.getElem_cons_succ, List.getElem_cons_zero]
  intro K HK
  go_wp2_with fail
  refine (l1Below_any p (ts.length : Int) _ CC.out (by omega) (by omega)).mono ?_
  rintro r Vc1 ⟨j1, hj1, rfl, c6, g6⟩
  go_wp2_with fail
  have hSc1 : (fun V => V.heap[w1.heap.size]? = some (.cells #[.slice (some ⟨gl, 0, none⟩) lo.length cl, .slice (some ⟨gn, 0, none⟩) ts.length cn] 27 (0, 0))) Vc1 := box_grows (show w2.drew.heap[w1.heap.size]? = some _ from QO.out) g6 (by omega)
  refine HK.out _ _ (fun _ => hSc1) ?_
  clear HK
  replace OT := Lib.hid (OT.out.keep (w' := Vc1) (fun b hb hl => g6.block b hl (fun e => by injection e with e; have := hb.1; omega)))
  replace CC := Lib.hid c6
  replace GG := Lib.hid (only_trans GG.out g6)
  replace QR := Lib.hid (box_grows QR.out g6 (by omega))
  try replace OY := Lib.hid (OY.out.keep (w' := Vc1) (fun b hb hl => g6.block b hl (fun e => by injection e with e; have := hb.1; omega)))
  have hzzc1 := g6.size
  clear c6 g6
  refine but_run (i := 8) (by kernel_rfl) rfl (by rfl) ?_
  simp only [List.getElem_toArray, List.getElem_cons_succ, List.getElem_cons_zero]
  intro K HK
  go_wp2_with fail
  refine (l5Any_any p _ CC.out).mono ?_
  rintro r Vc2 ⟨v3, ns, rfl, o3, hn3, hs3, c3, g3⟩
  obtain ⟨A3, c3v, rfl, _, _⟩ := o3.reads.lenN
  go_wp2_with fail
  have hSc2 : (fun V => V.heap[w1.heap.size]? = some (.cells #[.slice (some ⟨gl, 0, none⟩) lo.length cl, .slice (some ⟨gn, 0, none⟩) ts.length cn] 27 (0, 0))) Vc2 := box_grows hSc1 g3 (by omega)
  refine HK.out _ _ (fun _ => hSc2) ?_
  clear HK
  replace OT := Lib.hid (OT.out.keep (w' := Vc2) (fun b hb hl => g3.block b hl (fun e => by injection e with e; have := hb.1; omega)))
  replace CC := Lib.hid c3
  replace GG := Lib.hid (only_trans GG.out g3)
  replace QR := Lib.hid (box_grows QR.out g3 (by omega))
  try replace OY := Lib.hid (OY.out.keep (w' := Vc2) (fun b hb hl => g3.block b hl (fun e => by injection e with e; have := hb.1; omega)))
  have hzzc2 := g3.size
  have OY := Lib.hid (o3.mono (T := fun b => w2.heap.size ≤ b) (fun b hb => by omega))
  clear c3 g3 o3
  refine but_take (f := 10) (i := 9) (v := ?vc9) rfl (by kernel_rfl) (by kernel_rfl) (by kernel_rfl) (by kernel_rfl) (by kernel_rfl) (fun _ _ _ h => h) (Or.inl ⟨(by rfl), ?hyc9⟩) hSc2 ?restc9
  case hyc9 =>
   intro W hW
   go_simp
   exact rfl
  simp only [List.getElem_toArray, List.getElem_cons_succ, List.getElem_cons_zero, Act.put, List.setIfInBounds_toArray, List.set_cons_zero, List.set_cons_succ]
  refine but_run (i := 10) (by kernel_rfl) rfl (by rfl) ?_
  simp only [List.getElem_toArray, List.getElem_cons_succ, List.getElem_cons_zero]
  obtain ⟨gl', cl', gn', cn', e1, e2, hgl, hgn, fr1, fr2, ce1, ce2⟩ := OT.out.blocks hp2 hp1
  cases e1
  cases e2
  obtain ⟨u0, cu0⟩ := ce2 j1 (by omega)
  have fu0 := fr2 j1
  have i1 : (j1 : Int) < (ts.length : Int) := by omega
  have i2 : (0 : Int) ≤ (j1 : Int) := by omega
  clear fr1 fr2 ce1 ce2 hgl
  intro K HK
  go_wp2_with fail
  refine HK.out _ _ (fun h => absurd rfl h) ?_
  clear HK
  refine but_done (by kernel_rfl) ?_
  have OX := Lib.hid (OT.out.setNode (i := j1) (n2 := w2.heap.size) (by omega) (by omega) OY.out)
  have PX := Lib.hid (box_far (g := gn) (j := j1) (u := (.slice A3 ns.length c3v)) hSc2 (by omega))
  have PY := Lib.hid (box_far (g := gn) (j := j1) (u := (.slice A3 ns.length c3v)) QR.out (by omega))
  have CX := Lib.hid (CC.out.setNew (g := gn) (j := j1) (by omega) (.slice A3 ns.length c3v))
  have GX := Lib.hid (only_setNew (g := gn) (j := j1) GG.out (by omega) (.slice A3 ns.length c3v))
  have HSS := sumT_set ts j1 ns (by omega)
  clear OT QR CC GG OY cu0 fu0
  go_upto_region 11 with (fail)
  generalize (Vc2.setCell ⟨gn, j1, none⟩ (.slice A3 ns.length c3v)) = W9 at *
  obtain ⟨z0, z1, z2⟩ := box2 PX.out
  obtain ⟨y0, y1, y2⟩ := box2 PY.out
  have PZ := box_set (i := 1) (u := .slice (some ⟨gn, 0, none⟩) ts.length cn) (box_set (i := 0) (u := .slice (some ⟨gl, 0, none⟩) lo.length cl) PY.out)
  obtain ⟨q0, q1, q2⟩ := box2 PZ
  clear PZ
  go_wp2
  refine bodyPost_ret (v := .agg #[.slice (some ⟨gl, 0, none⟩) lo.length cl, .slice (some ⟨gn, 0, none⟩) ts.length cn]) (by simp [results, Tryz.results57, go_sem, q0, q1, y0, y1, y2]) rfl ⟨_, _, _, _, rfl, (OX.out.keep (fun b hb _ => by have hne : b ≠ w.heap.size := (by have := hb.1; omega); rw [Below.heap_setCell _ _ _ _ (by simpa using hne), Below.heap_setCell _ _ _ _ (by simpa using hne)])).mono (fun b hb => by have := hb.1; omega), by omega, by simp; omega, by omega, (CX.out.setNew hlt _).setNew hlt _, only_setNew (only_setNew GX.out (Nat.le_refl _) _) (Nat.le_refl _) _⟩
 ·obtain ⟨y0, y1, y2⟩ := box2 QR.out
  have PZ := box_set (i := 1) (u := .slice none 0 0) (box_set (i := 0) (u := .slice none 0 0) QR.out)
  obtain ⟨q0, q1, q2⟩ := box2 PZ
  clear PZ
  go_wp2
  refine bodyPost_ret (v := .agg #[.slice none 0 0, .slice none 0 0]) (by simp [results, Tryz.results57, go_sem, q0, q1, y0, y1, y2]) rfl ⟨_, _, [], [], rfl, ⟨fun _ => False, fun _ => False, fun _ h => h.elim, fun _ h => h.elim, fun _ h => h.elim, .nil _ _ _, .nil _ _ _⟩, by simp, by simp, by simp [sumT], (CC.out.setNew hlt _).setNew hlt _, only_setNew (only_setNew GG.out (Nat.le_refl _) _) (Nat.le_refl _) _⟩
 ·have e0 : (((j : Int) + 1 + 1 + 1 + 1) == 0) = false := by simp; omega
  have e1 : (((j : Int) + 1 + 1 + 1 + 1) == 1) = false := by simp; omega
  have e2 : (((j : Int) + 1 + 1 + 1 + 1) == 2) = false := by simp; omega
  have e3 : (((j : Int) + 1 + 1 + 1 + 1) == 3) = false := by simp; omega
  obtain ⟨PX, PY, CX, GX, OX⟩ : Hid _ ∧ Hid _ ∧ Hid _ ∧ Hid _ ∧ Hid _ := ⟨QO, QR, CC, GG, OT⟩
  clear QO QR CC GG OT
  obtain ⟨z0, z1, z2⟩ := box2 PX.out
  obtain ⟨y0, y1, y2⟩ := box2 PY.out
  have PZ := box_set (i := 1) (u := .slice (some ⟨gn, 0, none⟩) ts.length cn) (box_set (i := 0) (u := .slice (some ⟨gl, 0, none⟩) lo.length cl) PY.out)
  obtain ⟨q0, q1, q2⟩ := box2 PZ
  clear PZ
  go_wp2
  refine bodyPost_ret (v := .agg #[.slice (some ⟨gl, 0, none⟩) lo.length cl, .slice (some ⟨gn, 0, none⟩) ts.length cn]) (by simp [results, Tryz.results57, go_sem, q0, q1, y0, y1, y2]) rfl ⟨_, _, _, _, rfl, (OX.out.keep (fun b hb _ => by have hne : b ≠ w.heap.size := (by have := hb.1; omega); rw [Below.heap_setCell _ _ _ _ (by simpa using hne), Below.heap_setCell _ _ _ _ (by simpa using hne)])).mono (fun b hb => by have := hb.1; omega), by omega, by omega, by omega, (CX.out.setNew hlt _).setNew hlt _, only_setNew (only_setNew GX.out (Nat.le_refl _) _) (Nat.le_refl _) _⟩
end Go.Proofs.YthopkhpiikiknaaGreat
namespace Go.Proofs.YthopkhpiikiknaaGreat
open Go.RowKit
set_option maxRecDepth 100000
set_option linter.unusedSimpArgs false
set_option linter.unusedVariables false

def DTreeA (w : World) (e : Ending) (w' : World) : Prop := ∃ vl vn lo ts, e = .returned (.agg #[vl, vn]) ∧ TreeS w' (fun b => w.heap.size ≤ b) vl vn lo ts ∧ lo.length ≤ 20 ∧ ts.length ≤ 21 ∧ sumT ts ≤ 250 ∧ Below w.heap.size w w'
def DTreeAt (w : World) (e : Ending) (w' : World) : Prop := ∃ vl vn lo ts, ∃ x y : Int, e = .returned (.tuple #[.agg #[vl, vn], .int .i64 x, .int .i64 y]) ∧ TreeS w' (fun b => w.heap.size ≤ b) vl vn lo ts ∧ lo.length ≤ 20 ∧ ts.length ≤ 21 ∧ sumT ts ≤ 250 ∧ Below w.heap.size w w'
def DTreePut (w : World) (e : Ending) (w' : World) : Prop := ∃ vl vn lo ts x, e = .returned (.tuple #[.agg #[vl, vn], KeyD.v x]) ∧ TreeS w' (fun b => w.heap.size ≤ b) vl vn lo ts ∧ lo.length ≤ 20 ∧ ts.length ≤ 21 ∧ sumT ts ≤ 250 ∧ Below w.heap.size w w'
def DTreePack (w : World) (e : Ending) (w' : World) : Prop := ∃ vl vn lo ts, ∃ x : Int, e = .returned (.tuple #[.agg #[vl, vn], .int .i64 x]) ∧ TreeS w' (fun b => w.heap.size ≤ b) vl vn lo ts ∧ lo.length ≤ 20 ∧ ts.length ≤ 21 ∧ sumT ts ≤ 250 ∧ Below w.heap.size w w'
theorem TreeS.farT {w w' : World} {p base : Nat} {vl vn : Value} {lo : List Int} {ts : List NodeD} (h : TreeS w (fun b => base ≤ b) vl vn lo ts) (hg : w.grownBy w' (some p)) (hp : p < base) : TreeS w' (fun b => base ≤ b) vl vn lo ts := h.keep (fun b hb hl => hg.block b hl (fun e => by injection e with e; omega))
theorem TreeS.set2 {w : World} {n base : Nat} {vl vn u1 u2 : Value} {lo : List Int} {ts : List NodeD} (h : TreeS w (fun b => base ≤ b) vl vn lo ts) (hn : n < base) : TreeS ((w.setCell ⟨n, 0, none⟩ u1).setCell ⟨n, 1, none⟩ u2) (fun b => base ≤ b) vl vn lo ts :=
 h.keep (fun b hb _ => by
  have hne : b ≠ n := by omega
  rw [Below.heap_setCell _ _ _ _ (by simpa using hne), Below.heap_setCell _ _ _ _ (by simpa using hne)])
theorem TreeS.set5 {w : World} {n base : Nat} {vl vn u1 u2 u3 u4 u5 : Value} {lo : List Int} {ts : List NodeD} (h : TreeS w (fun b => base ≤ b) vl vn lo ts) (hn : n < base) : TreeS (((((w.setCell ⟨n, 0, none⟩ u1).setCell ⟨n, 1, none⟩ u2).setCell ⟨n, 2, none⟩ u3).setCell ⟨n, 3, none⟩ u4).setCell ⟨n, 4, none⟩ u5) (fun b => base ≤ b) vl vn lo ts :=
 h.keep (fun b hb _ => by
  have hne : b ≠ n := by omega
  rw [Below.heap_setCell _ _ _ _ (by simpa using hne), Below.heap_setCell _ _ _ _ (by simpa using hne), Below.heap_setCell _ _ _ _ (by simpa using hne), Below.heap_setCell _ _ _ _ (by simpa using hne), Below.heap_setCell _ _ _ _ (by simpa using hne)])
theorem below2s {B n : Nat} {a w : World} {u1 u2 : Value} (h : Below B a w) (hn : B ≤ n) : Below B a ((w.setCell ⟨n, 0, none⟩ u1).setCell ⟨n, 1, none⟩ u2) := (h.setCell (p := ⟨n, 0, none⟩) hn u1).setCell (p := ⟨n, 1, none⟩) hn u2
set_option maxHeartbeats 2000000 in
theorem drawTreeOk_any (A : Option Addr) (cap : Nat) (l : List UInt8) (w : World) (hr : Rd w w.heap.size A l) (hn : l.length ≤ 1048576) : Calls Tryz.prog 15 #[.slice A l.length cap] w (DTreeA w) := by
 have B0 := bal1 w (.cells #[.slice none 0 0, .slice none 0 0] 27)
 have q0 := al1 w (.cells #[.slice none 0 0, .slice none 0 0] 27)
 have HB := Lib.hid B0
 have Q0 := Lib.hid q0
 have HR := Lib.hid (hr.on B0)
 have HZ : Hid ((w.alloc (.cells #[.slice none 0 0, .slice none 0 0] 27)).heap.size = w.heap.size + 1) := Lib.hid (by simp)
 clear hr B0 q0
 go_enter Tryz.func15, Tryz.ntmps15
 go_upto_region 1 with (fail)
 generalize w.alloc (.cells #[.slice none 0 0, .slice none 0 0] 27) = W at *
 have hz1 := Nat.le_of_eq HZ.out
 have hz2 := Nat.le_of_eq HZ.out.symm
 clear HZ
 go_wp2_with fail
 refine (l1New_any _ _ l _ HR.out hn).mono ?_
 rintro r w1 ⟨p, rfl, c1, hp, b1⟩
 replace Q0 := Lib.hid (box_on Q0.out b1)
 replace HB := Lib.hid (bstep HB.out b1)
 have hz3 := b1.size
 have hlt := c1.lt
 clear b1 HR
 go_wp2_with fail
 refine (l1Size_any _ _ _ 30 _ hn (by omega)).mono ?_
 rintro r _ ⟨⟨k, hk, rfl⟩, rfl⟩
 go_wp2_with fail
 refine (l6Any_any p k _ c1 (by omega)).mono ?_
 rintro r w2 ⟨vl, vn, lo, ts, rfl, o2, h1, h2, h3, c2, g2⟩
 obtain ⟨A1, e1, B1, d1, rfl, rfl⟩ := o2.reads.shape
 replace Q0 := Lib.hid (box_grows Q0.out g2 (by omega))
 replace HB := Lib.hid (below_of_only HB.out g2 (by omega))
 have OT := Lib.hid o2
 have hz4 := g2.size
 clear o2 g2 c1
 obtain ⟨x0, x1, x2⟩ := box2 Q0.out
 have PZ := box_set (i := 1) (u := .slice B1 ts.length d1) (box_set (i := 0) (u := .slice A1 lo.length e1) Q0.out)
 obtain ⟨q0, q1, q2⟩ := box2 PZ
 clear PZ
 go_wp2
 exact bodyPost_ret (v := .agg #[.slice A1 lo.length e1, .slice B1 ts.length d1]) (by simp [results, Tryz.results15, go_sem, x0, x1, q0, q1]) rfl ⟨_, _, lo, ts, rfl, (OT.out.set2 (by omega)).mono (fun b hb => by omega), h1, h2, h3, below2s HB.out (Nat.le_refl _)⟩
set_option maxHeartbeats 2000000 in
theorem l6At_any (A : Option Addr) (cap : Nat) (l : List UInt8) (w : World) (hr : Rd w w.heap.size A l) (hn : l.length ≤ 1048576) : Calls Tryz.prog 58 #[.slice A l.length cap] w (DTreeAt w) := by
 have B0 := bal1 w (.cells #[.slice none 0 0, .slice none 0 0] 27)
 have q0 := al1 w (.cells #[.slice none 0 0, .slice none 0 0] 27)
 have HB := Lib.hid B0
 have Q0 := Lib.hid q0
 have HR := Lib.hid (hr.on B0)
 have HZ : Hid ((w.alloc (.cells #[.slice none 0 0, .slice none 0 0] 27)).heap.size = w.heap.size + 1) := Lib.hid (by simp)
 clear hr B0 q0
 go_enter Tryz.func58, Tryz.ntmps58
 go_upto_region 1 with (fail)
 generalize w.alloc (.cells #[.slice none 0 0, .slice none 0 0] 27) = W at *
 have hz1 := Nat.le_of_eq HZ.out
 have hz2 := Nat.le_of_eq HZ.out.symm
 clear HZ
 go_wp2_with fail
 refine (l1New_any _ _ l _ HR.out hn).mono ?_
 rintro r w1 ⟨p, rfl, c1, hp, b1⟩
 replace Q0 := Lib.hid (box_on Q0.out b1)
 replace HB := Lib.hid (bstep HB.out b1)
 have hz3 := b1.size
 have hlt := c1.lt
 clear b1 HR
 go_wp2_with fail
 refine (l1Size_any _ _ _ 30 _ hn (by omega)).mono ?_
 rintro r _ ⟨⟨k, hk, rfl⟩, rfl⟩
 go_wp2_with fail
 refine (l6Any_any p k _ c1 (by omega)).mono ?_
 rintro r w2 ⟨vl, vn, lo, ts, rfl, o2, h1, h2, h3, c2, g2⟩
 obtain ⟨A1, e1, B1, d1, rfl, rfl⟩ := o2.reads.shape
 replace Q0 := Lib.hid (box_grows Q0.out g2 (by omega))
 replace HB := Lib.hid (below_of_only HB.out g2 (by omega))
 have OT := Lib.hid o2
 have hz4 := g2.size
 clear o2 g2 c1
 go_wp2_with fail
 refine (l1Below_any p 13 _ c2 (by omega) (by omega)).mono ?_
 rintro r w3 ⟨ja, hja, rfl, c3, ga⟩
 replace Q0 := Lib.hid (box_grows Q0.out ga (by omega))
 replace HB := Lib.hid (below_of_only HB.out ga (by omega))
 replace OT := Lib.hid (OT.out.farT ga (by omega))
 have hzga := ga.size
 clear ga c2
 go_wp2_with fail
 refine (l1Below_any p 6 _ c3 (by omega) (by omega)).mono ?_
 rintro r w4 ⟨jb, hjb, rfl, c4, gb⟩
 replace Q0 := Lib.hid (box_grows Q0.out gb (by omega))
 replace HB := Lib.hid (below_of_only HB.out gb (by omega))
 replace OT := Lib.hid (OT.out.farT gb (by omega))
 have hzgb := gb.size
 clear gb c3 c4
 obtain ⟨x0, x1, x2⟩ := box2 Q0.out
 have PZ := box_set (i := 1) (u := .slice B1 ts.length d1) (box_set (i := 0) (u := .slice A1 lo.length e1) Q0.out)
 obtain ⟨q0, q1, q2⟩ := box2 PZ
 clear PZ
 have iw : IntKind.i64.wrap (1 + (jb : Int)) = 1 + (jb : Int) := by rw [IntKind.wrap_i64]; omega
 go_wp2
 exact bodyPost_ret (v := .tuple #[.agg #[.slice A1 lo.length e1, .slice B1 ts.length d1], .int .i64 (ja : Int), .int .i64 (1 + (jb : Int))]) (by simp [results, Tryz.results58, go_sem, x0, x1, q0, q1, iw]) rfl ⟨_, _, lo, ts, _, _, rfl, (OT.out.set2 (by omega)).mono (fun b hb => by omega), h1, h2, h3, below2s HB.out (Nat.le_refl _)⟩
set_option maxHeartbeats 2000000 in
theorem drawTreeAt_any (A : Option Addr) (cap : Nat) (l : List UInt8) (w : World) (hr : Rd w w.heap.size A l) (hn : l.length ≤ 1048576) : Calls Tryz.prog 16 #[.slice A l.length cap] w (DTreeAt w) := by
 have B0 := bal1 w (.cells #[.slice none 0 0, .slice none 0 0] 27)
 have HB := Lib.hid B0
 have Q0 := Lib.hid (al1 w (.cells #[.slice none 0 0, .slice none 0 0] 27))
 have HR := Lib.hid (hr.on B0)
 have HZ : Hid ((w.alloc (.cells #[.slice none 0 0, .slice none 0 0] 27)).heap.size = w.heap.size + 1) := Lib.hid (by simp)
 clear hr B0
 go_enter Tryz.func16, Tryz.ntmps16
 go_upto_region 1 with (fail)
 generalize w.alloc (.cells #[.slice none 0 0, .slice none 0 0] 27) = W at *
 have hz1 := Nat.le_of_eq HZ.out
 have hz2 := Nat.le_of_eq HZ.out.symm
 clear HZ
 go_wp2_with fail
 refine (l6At_any _ _ l _ HR.out hn).mono ?_
 rintro r w1 ⟨vl, vn, lo, ts, x, y, rfl, o2, h1, h2, h3, b1⟩
 obtain ⟨A1, e1, B1, d1, rfl, rfl⟩ := o2.reads.shape
 replace Q0 := Lib.hid (box_on Q0.out b1)
 replace HB := Lib.hid (bstep HB.out b1)
 have OT := Lib.hid o2
 clear o2 b1 HR
 obtain ⟨x0, x1, x2⟩ := box2 Q0.out
 have PZ := box_set (i := 1) (u := .slice B1 ts.length d1) (box_set (i := 0) (u := .slice A1 lo.length e1) Q0.out)
 obtain ⟨q0, q1, q2⟩ := box2 PZ
 clear PZ
 go_wp2
 exact bodyPost_ret (v := .tuple #[.agg #[.slice A1 lo.length e1, .slice B1 ts.length d1], .int .i64 x, .int .i64 y]) (by simp [results, Tryz.results16, go_sem, x0, x1, q0, q1]) rfl ⟨_, _, lo, ts, _, _, rfl, (OT.out.set2 (by omega)).mono (fun b hb => by omega), h1, h2, h3, below2s HB.out (Nat.le_refl _)⟩
def packList : List Int := [0, 1, 2, -1, 20]
set_option maxHeartbeats 2000000 in
theorem drawTreePack_any (A : Option Addr) (cap : Nat) (l : List UInt8) (w : World) (hr : Rd w w.heap.size A l) (hn : l.length ≤ 1048576) : Calls Tryz.prog 19 #[.slice A l.length cap] w (DTreePack w) := by
 have B0 := bal1 w (.cells #[.slice none 0 0, .slice none 0 0] 27)
 have q0 := al1 w (.cells #[.slice none 0 0, .slice none 0 0] 27)
 have HB := Lib.hid B0
 have Q0 := Lib.hid q0
 have HR := Lib.hid (hr.on B0)
 have HZ : Hid ((w.alloc (.cells #[.slice none 0 0, .slice none 0 0] 27)).heap.size = w.heap.size + 1) := Lib.hid (by simp)
 clear hr B0 q0
 go_enter Tryz.func19, Tryz.ntmps19
 go_upto_region 1 with (fail)
 generalize w.alloc (.cells #[.slice none 0 0, .slice none 0 0] 27) = W at *
 have hz1 := Nat.le_of_eq HZ.out
 have hz2 := Nat.le_of_eq HZ.out.symm
 clear HZ
 go_wp2_with fail
 refine (l1New_any _ _ l _ HR.out hn).mono ?_
 rintro r w1 ⟨p, rfl, c1, hp, b1⟩
 replace Q0 := Lib.hid (box_on Q0.out b1)
 replace HB := Lib.hid (bstep HB.out b1)
 have hz3 := b1.size
 have hlt := c1.lt
 clear b1 HR
 go_wp2_with fail
 refine (l1Size_any _ _ _ 30 _ hn (by omega)).mono ?_
 rintro r _ ⟨⟨k, hk, rfl⟩, rfl⟩
 go_wp2_with fail
 refine (l6Any_any p k _ c1 (by omega)).mono ?_
 rintro r w2 ⟨vl, vn, lo, ts, rfl, o2, h1, h2, h3, c2, g2⟩
 obtain ⟨A1, e1, B1, d1, rfl, rfl⟩ := o2.reads.shape
 replace Q0 := Lib.hid (box_grows Q0.out g2 (by omega))
 replace HB := Lib.hid (below_of_only HB.out g2 (by omega))
 have OT := Lib.hid o2
 have hz4 := g2.size
 clear o2 g2 c1
 have LL := Lib.hid (show Lies (w2.alloc (.cells #[.int .i64 0, .int .i64 1, .int .i64 2, .int .i64 (-1), .int .i64 20] 3)) w2.heap.size (packList.map (.int .i64 ·)) from by have h := Lies.new w2 (packList.map (.int .i64 ·)) 3; exact h)
 have ba := bal1 w2 (.cells #[.int .i64 0, .int .i64 1, .int .i64 2, .int .i64 (-1), .int .i64 20] 3)
 have LI := Lib.hid (l1Int_any p w2.heap.size 5 packList (w2.alloc (.cells #[.int .i64 0, .int .i64 1, .int .i64 2, .int .i64 (-1), .int .i64 20] 3)) (c2.alloc _) LL.out (by simp) (by omega) (by decide) (by decide))
 replace Q0 := Lib.hid (box_on Q0.out ba)
 replace HB := Lib.hid (bstep HB.out ba)
 replace OT := Lib.hid (OT.out.on ba)
 clear ba LL c2
 go_wp2_with fail
 refine LI.out.mono ?_
 rintro r w3 ⟨xx, hxx, rfl, c3, ga⟩
 replace Q0 := Lib.hid (box_grows Q0.out ga (by omega))
 replace HB := Lib.hid (below_of_only HB.out ga (by omega))
 replace OT := Lib.hid (OT.out.farT ga (by omega))
 have hzga := ga.size
 clear ga c3 LI hxx
 obtain ⟨x0, x1, x2⟩ := box2 Q0.out
 have PZ := box_set (i := 1) (u := .slice B1 ts.length d1) (box_set (i := 0) (u := .slice A1 lo.length e1) Q0.out)
 obtain ⟨q0, q1, q2⟩ := box2 PZ
 clear PZ
 go_wp2
 exact bodyPost_ret (v := .tuple #[.agg #[.slice A1 lo.length e1, .slice B1 ts.length d1], .int .i64 xx]) (by simp [results, Tryz.results19, go_sem, x0, x1, q0, q1]) rfl ⟨_, _, lo, ts, _, rfl, (OT.out.set2 (by omega)).mono (fun b hb => by omega), h1, h2, h3, below2s HB.out (Nat.le_refl _)⟩
set_option maxHeartbeats 2000000 in
theorem drawTreePut_any (A : Option Addr) (cap : Nat) (l : List UInt8) (w : World) (hr : Rd w w.heap.size A l) (hn : l.length ≤ 1048576) : Calls Tryz.prog 18 #[.slice A l.length cap] w (DTreePut w) := by
 have B0 := bal2 w (.cells #[.slice none 0 0, .slice none 0 0] 27) (.cells #[.int .i64 0, .int .i64 0, .int .i64 0, .int .i64 0, .int .i64 0] 29)
 obtain ⟨q0, q1⟩ := al2 w (.cells #[.slice none 0 0, .slice none 0 0] 27) (.cells #[.int .i64 0, .int .i64 0, .int .i64 0, .int .i64 0, .int .i64 0] 29)
 have HB := Lib.hid B0
 have Q0 := Lib.hid q0
 have Q1 := Lib.hid q1
 have HR := Lib.hid (hr.on B0)
 have HZ : Hid (((w.alloc (.cells #[.slice none 0 0, .slice none 0 0] 27)).alloc (.cells #[.int .i64 0, .int .i64 0, .int .i64 0, .int .i64 0, .int .i64 0] 29)).heap.size = w.heap.size + 2) := Lib.hid (by simp)
 clear hr B0 q0 q1
 go_enter Tryz.func18, Tryz.ntmps18
 go_upto_region 1 with (fail)
 generalize (w.alloc (.cells #[.slice none 0 0, .slice none 0 0] 27)).alloc (.cells #[.int .i64 0, .int .i64 0, .int .i64 0, .int .i64 0, .int .i64 0] 29) = W at *
 have hz1 := Nat.le_of_eq HZ.out
 have hz2 := Nat.le_of_eq HZ.out.symm
 clear HZ
 go_wp2_with fail
 refine (l1New_any _ _ l _ HR.out hn).mono ?_
 rintro r w1 ⟨p, rfl, c1, hp, b1⟩
 replace Q0 := Lib.hid (box_on Q0.out b1)
 replace Q1 := Lib.hid (box_on Q1.out b1)
 replace HB := Lib.hid (bstep HB.out b1)
 have hz3 := b1.size
 have hlt := c1.lt
 clear b1 HR
 go_wp2_with fail
 refine (l1Size_any _ _ _ 40 _ hn (by omega)).mono ?_
 rintro r _ ⟨⟨k, hk, rfl⟩, rfl⟩
 go_wp2_with fail
 refine (l6Any_any p k _ c1 (by omega)).mono ?_
 rintro r w2 ⟨vl, vn, lo, ts, rfl, o2, h1, h2, h3, c2, g2⟩
 obtain ⟨A1, e1, B1, d1, rfl, rfl⟩ := o2.reads.shape
 replace Q0 := Lib.hid (box_grows Q0.out g2 (by omega))
 replace Q1 := Lib.hid (box_grows Q1.out g2 (by omega))
 replace HB := Lib.hid (below_of_only HB.out g2 (by omega))
 have OT := Lib.hid o2
 have hz4 := g2.size
 clear o2 g2 c1
 have QO := Lib.hid (al1 w2 (.cells #[.slice A1 lo.length e1, .slice B1 ts.length d1] 27))
 have ba := bal1 w2 (.cells #[.slice A1 lo.length e1, .slice B1 ts.length d1] 27)
 replace Q0 := Lib.hid (box_on Q0.out ba)
 replace Q1 := Lib.hid (box_on Q1.out ba)
 replace HB := Lib.hid (bstep HB.out ba)
 replace OT := Lib.hid (OT.out.on ba)
 have CC := Lib.hid (c2.alloc (.cells #[.slice A1 lo.length e1, .slice B1 ts.length d1] 27))
 have hz5 := ba.size
 clear ba c2
 go_upto_region 3 with (fail)
 generalize w2.alloc (.cells #[.slice A1 lo.length e1, .slice B1 ts.length d1] 27) = W2 at *
 have HA := Lib.hid l3Any_any
 unfold AnyKey keyV at HA
 have HD := Lib.hid l6Key_any
 unfold OKey KeyD.v keyV at HD
 go_wp2_with fail
 refine (l1Once_any p 10 _ CC.out (by omega) (by omega)).mono ?_
 rintro r w3 ⟨bb, rfl, c3, ga⟩
 replace Q0 := Lib.hid (box_grows Q0.out ga (by omega))
 replace Q1 := Lib.hid (box_grows Q1.out ga (by omega))
 replace QO := Lib.hid (box_grows QO.out ga (by omega))
 replace HB := Lib.hid (below_of_only HB.out ga (by omega))
 replace OT := Lib.hid (OT.out.farT ga (by omega))
 replace CC := Lib.hid (c3.keep (w' := w3.drew) (fun _ _ => rfl))
 have hz6 := ga.size
 clear ga c3
 replace Q0 := Lib.hid (show w3.drew.heap[w.heap.size]? = some (.cells #[.slice none 0 0, .slice none 0 0] 27 (0, 0)) from Q0.out)
 replace Q1 := Lib.hid (show w3.drew.heap[w.heap.size + 1]? = some (.cells #[.int .i64 0, .int .i64 0, .int .i64 0, .int .i64 0, .int .i64 0] 29 (0, 0)) from Q1.out)
 replace HB := Lib.hid (bstep HB.out (Below.drew1 w3))
 replace OT := Lib.hid (OT.out.on (Below.drew1 w3))
 cases bb
 ·go_upto_region 5 with (fail)
  refine but_begin (f := 4) (S := fun V => V.heap[w2.heap.size]? = some (.cells #[.slice A1 lo.length e1, .slice B1 ts.length d1] 27 (0, 0))) (by kernel_rfl) ?_
  refine but_take (f := 4) (i := 0) (v := ?vq50) rfl (by kernel_rfl) (by kernel_rfl) (by kernel_rfl) (by kernel_rfl) (by kernel_rfl) (fun _ _ _ h => h) (Or.inl ⟨(by rfl), ?hyq50⟩) (show w3.drew.heap[w2.heap.size]? = some _ from QO.out) ?restq50
  case hyq50 =>
   intro W hW
   obtain ⟨z0, z1, z2⟩ := box2 hW
   go_simp
   exact rfl
  simp only [List.getElem_toArray, List.getElem_cons_succ, List.getElem_cons_zero, Act.put, List.setIfInBounds_toArray, List.set_cons_zero, List.set_cons_succ]
  refine but_take (f := 4) (i := 1) (v := ?vq51) rfl (by kernel_rfl) (by kernel_rfl) (by kernel_rfl) (by kernel_rfl) (by kernel_rfl) (fun _ _ _ h => h) (Or.inl ⟨(by rfl), ?hyq51⟩) (show w3.drew.heap[w2.heap.size]? = some _ from QO.out) ?restq51
  case hyq51 =>
   intro W hW
   go_simp
   exact rfl
  simp only [List.getElem_toArray, List.getElem_cons_succ, List.getElem_cons_zero, Act.put, List.setIfInBounds_toArray, List.set_cons_zero, List.set_cons_succ]
  refine but_run (i := 2) (by kernel_rfl) rfl (by rfl) ?_
  simp only [List.getElem_toArray, List.getElem_cons_succ, List.getElem_cons_zero]
  intro K HK
  go_wp2_with fail
  refine (HD.out p _ CC.out).mono ?_
  rintro r Vq51 ⟨⟨xa, xb, xc, xd, xe⟩, rfl, sm, c5, g5⟩
  go_wp2_with fail
  have hSq51 : (fun V => V.heap[w2.heap.size]? = some (.cells #[.slice A1 lo.length e1, .slice B1 ts.length d1] 27 (0, 0))) Vq51 := box_grows (show w3.drew.heap[w2.heap.size]? = some _ from QO.out) g5 (by omega)
  refine HK.out _ _ (fun _ => hSq51) ?_
  clear HK
  replace Q0 := Lib.hid (box_grows Q0.out g5 (by omega))
  replace Q1 := Lib.hid (box_grows Q1.out g5 (by omega))
  replace HB := Lib.hid (below_of_only HB.out g5 (by omega))
  replace OT := Lib.hid (OT.out.farT g5 (by omega))
  have hz7 := g5.size
  clear g5 c5
  refine but_run (i := 3) (by kernel_rfl) rfl (by rfl) ?_
  simp only [List.getElem_toArray, List.getElem_cons_succ, List.getElem_cons_zero]
  intro K HK
  obtain ⟨y0, y1, y2⟩ := box2 Q0.out
  go_wp2_with fail
  have hSq52 : (fun V => V.heap[w2.heap.size]? = some (.cells #[.slice A1 lo.length e1, .slice B1 ts.length d1] 27 (0, 0))) (((Vq51.setCell ⟨w.heap.size, 0, none⟩ (.slice A1 lo.length e1)).setCell ⟨w.heap.size, 1, none⟩ (.slice B1 ts.length d1))) := box_far (box_far hSq51 (by omega)) (by omega)
  refine HK.out _ _ (fun _ => hSq52) ?_
  clear HK
  have PQ := Lib.hid (box_set (i := 1) (u := .slice B1 ts.length d1) (box_set (i := 0) (u := .slice A1 lo.length e1) Q0.out))
  replace Q1 := Lib.hid (box_far (g := w.heap.size) (j := 1) (u := .slice B1 ts.length d1) (box_far (g := w.heap.size) (j := 0) (u := .slice A1 lo.length e1) Q1.out (by omega)) (by omega))
  replace HB := Lib.hid (below2s (u1 := .slice A1 lo.length e1) (u2 := .slice B1 ts.length d1) HB.out (Nat.le_refl w.heap.size))
  replace OT := Lib.hid (OT.out.set2 (n := w.heap.size) (u1 := .slice A1 lo.length e1) (u2 := .slice B1 ts.length d1) (by omega))
  clear y0 y1 y2 Q0
  refine but_run (i := 4) (by kernel_rfl) rfl (by rfl) ?_
  simp only [List.getElem_toArray, List.getElem_cons_succ, List.getElem_cons_zero]
  obtain ⟨y0, y1, y2, y3, y4, y5⟩ := box5 Q1.out
  obtain ⟨x0, x1, x2⟩ := box2 PQ.out
  generalize (((Vq51.setCell ⟨w.heap.size, 0, none⟩ (.slice A1 lo.length e1)).setCell ⟨w.heap.size, 1, none⟩ (.slice B1 ts.length d1))) = V9 at *
  intro K HK
  go_wp2_with fail
  refine HK.out _ _ (fun h => absurd rfl h) ?_
  clear HK
  refine but_done (by kernel_rfl) ?_
  have n1 : ¬ w.heap.size = w.heap.size + 1 := by omega
  have n2 : ¬ w.heap.size + 1 = w.heap.size := by omega
  go_wp2
  exact bodyPost_ret (v := .tuple #[.agg #[.slice A1 lo.length e1, .slice B1 ts.length d1], KeyD.v ⟨xa, xb, xc, xd, xe⟩]) (by simp [results, Tryz.results18, go_sem, KeyD.v, keyV, x0, x1, x2, y0, y1, y2, y3, y4, y5]) rfl ⟨_, _, lo, ts, _, rfl, (OT.out.set5 (by omega)).mono (fun b hb => by omega), h1, h2, h3, b5' HB.out (show w.heap.size ≤ w.heap.size + 1 by omega)⟩
 ·go_upto_region 4 with (fail)
  refine but_begin (f := 4) (S := fun V => V.heap[w2.heap.size]? = some (.cells #[.slice A1 lo.length e1, .slice B1 ts.length d1] 27 (0, 0))) (by kernel_rfl) ?_
  refine but_take (f := 4) (i := 0) (v := ?vq40) rfl (by kernel_rfl) (by kernel_rfl) (by kernel_rfl) (by kernel_rfl) (by kernel_rfl) (fun _ _ _ h => h) (Or.inl ⟨(by rfl), ?hyq40⟩) (show w3.drew.heap[w2.heap.size]? = some _ from QO.out) ?restq40
  case hyq40 =>
   intro W hW
   obtain ⟨z0, z1, z2⟩ := box2 hW
   go_simp
   exact rfl
  simp only [List.getElem_toArray, List.getElem_cons_succ, List.getElem_cons_zero, Act.put, List.setIfInBounds_toArray, List.set_cons_zero, List.set_cons_succ]
  refine but_take (f := 4) (i := 1) (v := ?vq41) rfl (by kernel_rfl) (by kernel_rfl) (by kernel_rfl) (by kernel_rfl) (by kernel_rfl) (fun _ _ _ h => h) (Or.inl ⟨(by rfl), ?hyq41⟩) (show w3.drew.heap[w2.heap.size]? = some _ from QO.out) ?restq41
  case hyq41 =>
   intro W hW
   go_simp
   exact rfl
  simp only [List.getElem_toArray, List.getElem_cons_succ, List.getElem_cons_zero, Act.put, List.setIfInBounds_toArray, List.set_cons_zero, List.set_cons_succ]
  refine but_run (i := 2) (by kernel_rfl) rfl (by rfl) ?_
  simp only [List.getElem_toArray, List.getElem_cons_succ, List.getElem_cons_zero]
  intro K HK
  go_wp2_with fail
  refine (HA.out p _ CC.out).mono ?_
  rintro r Vq41 ⟨xa, xb, xc, xd, xe, rfl, c5, g5⟩
  go_wp2_with fail
  have hSq41 : (fun V => V.heap[w2.heap.size]? = some (.cells #[.slice A1 lo.length e1, .slice B1 ts.length d1] 27 (0, 0))) Vq41 := box_grows (show w3.drew.heap[w2.heap.size]? = some _ from QO.out) g5 (by omega)
  refine HK.out _ _ (fun _ => hSq41) ?_
  clear HK
  replace Q0 := Lib.hid (box_grows Q0.out g5 (by omega))
  replace Q1 := Lib.hid (box_grows Q1.out g5 (by omega))
  replace HB := Lib.hid (below_of_only HB.out g5 (by omega))
  replace OT := Lib.hid (OT.out.farT g5 (by omega))
  have hz7 := g5.size
  clear g5 c5
  refine but_run (i := 3) (by kernel_rfl) rfl (by rfl) ?_
  simp only [List.getElem_toArray, List.getElem_cons_succ, List.getElem_cons_zero]
  intro K HK
  obtain ⟨y0, y1, y2⟩ := box2 Q0.out
  go_wp2_with fail
  have hSq42 : (fun V => V.heap[w2.heap.size]? = some (.cells #[.slice A1 lo.length e1, .slice B1 ts.length d1] 27 (0, 0))) (((Vq41.setCell ⟨w.heap.size, 0, none⟩ (.slice A1 lo.length e1)).setCell ⟨w.heap.size, 1, none⟩ (.slice B1 ts.length d1))) := box_far (box_far hSq41 (by omega)) (by omega)
  refine HK.out _ _ (fun _ => hSq42) ?_
  clear HK
  have PQ := Lib.hid (box_set (i := 1) (u := .slice B1 ts.length d1) (box_set (i := 0) (u := .slice A1 lo.length e1) Q0.out))
  replace Q1 := Lib.hid (box_far (g := w.heap.size) (j := 1) (u := .slice B1 ts.length d1) (box_far (g := w.heap.size) (j := 0) (u := .slice A1 lo.length e1) Q1.out (by omega)) (by omega))
  replace HB := Lib.hid (below2s (u1 := .slice A1 lo.length e1) (u2 := .slice B1 ts.length d1) HB.out (Nat.le_refl w.heap.size))
  replace OT := Lib.hid (OT.out.set2 (n := w.heap.size) (u1 := .slice A1 lo.length e1) (u2 := .slice B1 ts.length d1) (by omega))
  clear y0 y1 y2 Q0
  refine but_run (i := 4) (by kernel_rfl) rfl (by rfl) ?_
  simp only [List.getElem_toArray, List.getElem_cons_succ, List.getElem_cons_zero]
  obtain ⟨y0, y1, y2, y3, y4, y5⟩ := box5 Q1.out
  obtain ⟨x0, x1, x2⟩ := box2 PQ.out
  generalize (((Vq41.setCell ⟨w.heap.size, 0, none⟩ (.slice A1 lo.length e1)).setCell ⟨w.heap.size, 1, none⟩ (.slice B1 ts.length d1))) = V9 at *
  intro K HK
  go_wp2_with fail
  refine HK.out _ _ (fun h => absurd rfl h) ?_
  clear HK
  refine but_done (by kernel_rfl) ?_
  have n1 : ¬ w.heap.size = w.heap.size + 1 := by omega
  have n2 : ¬ w.heap.size + 1 = w.heap.size := by omega
  go_wp2
  exact bodyPost_ret (v := .tuple #[.agg #[.slice A1 lo.length e1, .slice B1 ts.length d1], KeyD.v ⟨xa, xb, xc, xd, xe⟩]) (by simp [results, Tryz.results18, go_sem, KeyD.v, keyV, x0, x1, x2, y0, y1, y2, y3, y4, y5]) rfl ⟨_, _, lo, ts, _, rfl, (OT.out.set5 (by omega)).mono (fun b hb => by omega), h1, h2, h3, b5' HB.out (show w.heap.size ≤ w.heap.size + 1 by omega)⟩
end Go.Proofs.YthopkhpiikiknaaGreat
