/- Several texts in one: TreeNew, DrawA, DrawB, DrawKey, DrawSet, DrawSet2, Last4, DrawNode, DrawTree, DrawTree2, Age, AgePure, AgeFind, AgeOkA, AgePut. -/
import Derived.Laws.BitsAllLaws
import Derived.Laws.BitsLemmas
import Derived.Deep.DeepCutAuto
import Derived.Deep.RegionHeld3
import Derived.Test.YthopkhpiikiknaaPkSD
namespace Go.Proofs.Ythopkhpiikiknaa
open Go.RowKit
set_option maxRecDepth 100000
set_option linter.unusedSimpArgs false
set_option linter.unusedVariables false

theorem one_int {w : World} {S : Nat → Prop} {g : Nat} {n : Int} (h : w.heap[g]? = some (.cells #[.int .i64 n] 3 (0, 0))) (hS : S g) : Owns w S (.slice (some ⟨g, 0, none⟩) 1 1) (intsD [n]) :=
  OwnsL.row (xs := [iV n]) hS h (Nat.le_refl _) (by unfold maxLen; omega) rfl rfl rfl (.one (.lit _ _))
theorem one_node {w : World} {S T : Nat → Prop} {g : Nat} {v : Value} {ns : NodeD} (h : w.heap[g]? = some (.cells #[v] 77 (0, 0))) (hS : S g) (ho : Owns w T v (setsD ns)) (hT : ∀ b, T b → S b ∧ b ≠ g) : Owns w S (.slice (some ⟨g, 0, none⟩) 1 1) (nodesD [ns]) :=
  OwnsL.row (xs := [v]) hS h (Nat.le_refl _) (by unfold maxLen; omega) rfl rfl rfl (.one (ho.mono hT))
theorem specTreeNew_any (w : World) : Calls Try.prog 66 #[] w (NewTS w [0] [[]]) := by
  go_enter Try.func66, Try.ntmps66
  go_wp2
  obtain ⟨q0, q1, q2⟩ := al3 w (.cells #[.slice (some ⟨w.heap.size + 1, 0, none⟩) 1 1, .slice (some ⟨w.heap.size + 1 + 1, 0, none⟩) 1 1] 27) (.cells #[.int .i64 0] 3) (.cells #[.slice none 0 0] 77)
  obtain ⟨x0, x1, x2⟩ := box2 q0
  refine bodyPost_ret (v := .agg #[.slice (some ⟨w.heap.size + 1, 0, none⟩) 1 1, .slice (some ⟨w.heap.size + 1 + 1, 0, none⟩) 1 1]) (by simp [results, Try.results66, go_sem, x0, x1]) rfl ⟨_, _, rfl, ⟨fun b => b = w.heap.size + 1, fun b => b = w.heap.size + 1 + 1, fun b hb => by omega, fun b hb => by omega, fun b hb hb' => by omega, one_int q1 rfl, one_node (T := fun _ => False) q2 rfl (.nil _ _ _) (fun _ h => h.elim)⟩, bal3 _ _ _ _⟩
end Go.Proofs.Ythopkhpiikiknaa
namespace Go.Proofs.Ythopkhpiikiknaa
open Go.RowKit
set_option maxRecDepth 100000
set_option linter.unusedSimpArgs false
set_option linter.unusedVariables false

/-- Block p holds a cursor over bytes that lie below it. -/
def Cur (w : World) (p : Nat) : Prop :=
  ∃ (A : Option Addr) (cap : Nat) (l : List UInt8) (i : Nat) (h : Int), w.heap[p]? = some (.cells #[.slice A l.length cap, .int .i64 i, .int .i64 h] 97 (0, 0)) ∧ Rd w p A l ∧ i ≤ l.length ∧ l.length ≤ 1048576
theorem Cur.lt {w : World} {p : Nat} (h : Cur w p) : p < w.heap.size := by
  obtain ⟨A, cap, l, i, h, hg, _⟩ := h
  exact (Array.getElem?_eq_some_iff.1 hg).1
theorem Cur.keep {w w' : World} {p : Nat} (h : Cur w p) (hk : ∀ k, k ≤ p → w'.heap[k]? = w.heap[k]?) : Cur w' p := by
  obtain ⟨A, cap, l, i, h, hg, hr, r⟩ := h
  exact ⟨A, cap, l, i, h, (hk p (Nat.le_refl _)).trans hg, hr.keep (fun k hk' => hk k (by omega)), r⟩
theorem Cur.on {w w' : World} {p : Nat} (h : Cur w p) (hb : Below w.heap.size w w') : Cur w' p := h.keep (fun k hk => hb.block k (by have := h.lt; omega))

theorem and255 (y : Int) : 0 ≤ bits .and .i64 y 255 ∧ bits .and .i64 y 255 ≤ 255 := by
  have e : bits .and .i64 y 255 = IntKind.i64.wrap ((BitVec.ofInt 64 y &&& BitVec.ofInt 64 ((255 : Nat) : Int)).toNat : Int) := rfl
  have h : (BitVec.ofInt 64 y &&& BitVec.ofInt 64 ((255 : Nat) : Int)).toNat ≤ 255 := by
    rw [BitVec.toNat_and, BitVec.ofInt_natCast, BitVec.toNat_ofNat]
    exact Nat.and_le_right
  rw [e, IntKind.wrap_i64]
  omega
set_option maxRecDepth 100000 in
theorem l1New_any (A : Option Addr) (cap : Nat) (l : List UInt8) (w : World) (hr : Rd w w.heap.size A l) (hn : l.length ≤ 1048576) :
    Calls Try.prog 37 #[.slice A l.length cap] w fun e w' => ∃ p, e = .returned (.pointer (some ⟨p, 0, none⟩)) ∧ Cur w' p ∧ w.heap.size ≤ p ∧ Below w.heap.size w w' := by
  go_enter Try.func37, Try.ntmps37
  go_wp2
  go_loop [3, 4] (fun h i => ∃ (k : Nat) (x : Int), k ≤ l.length ∧ i = .int .i64 k ∧ h = .int .i64 x) (fun _ i => l.length - (intOf i).toNat)
  case atStart => exact ⟨0, _, by omega, rfl, rfl⟩
  case round =>
    obtain ⟨k, x, hk, rfl, rfl⟩ := hrel
    by_cases hlt : k < l.length
    · by_cases h4 : k < 4000
      · obtain ⟨b, off, rfl, hbb, hc⟩ := hr.at_ hlt
        have c1 := hc k hlt
        clear hc hr
        go_wp2
        go_round
        case rel => exact ⟨k + 1, _, by omega, by go_num, rfl⟩
        case measure => simp [intOf]; omega
      · go_wp2
        go_ret
        exact ⟨w.heap.size, rfl, ⟨A, cap, l, 0, x, heap_alloc_new w _, (hr.below ((Below.refl _ _).alloc (Nat.le_refl _) _)), by omega, hn⟩, Nat.le_refl _, (Below.refl _ _).alloc (Nat.le_refl _) _⟩
    · go_wp2
      go_ret
      exact ⟨w.heap.size, rfl, ⟨A, cap, l, 0, x, heap_alloc_new w _, (hr.below ((Below.refl _ _).alloc (Nat.le_refl _) _)), by omega, hn⟩, Nat.le_refl _, (Below.refl _ _).alloc (Nat.le_refl _) _⟩

theorem blk_set {w : World} {p i : Nat} {cs : Array Value} {t : TypeId} (h : w.heap[p]? = some (.cells cs t (0, 0))) (u : Value) : (w.setCell ⟨p, i, none⟩ u).heap[p]? = some (.cells (cs.setIfInBounds i u) t (0, 0)) := heap_setCell_same w p i cs t u h
theorem only_draw {a w : World} {row : Option Nat} (h : a.grownBy w row) (n : Nat) : a.grownBy (w.drewN n) row := ⟨h.os, h.tape, h.output, h.size, h.block⟩
theorem only_draw1 {a w : World} {row : Option Nat} (h : a.grownBy w row) : a.grownBy w.drew row := ⟨h.os, h.tape, h.output, h.size, h.block⟩
theorem cur2 {w : World} {A : Option Addr} {p cap i n : Nat} {l : List UInt8} {h h2 : Int} (hg : w.heap[p]? = some (.cells #[.slice A l.length cap, .int .i64 i, .int .i64 h] 97 (0, 0))) (hr : Rd w p A l) (hi : i + 1 ≤ l.length) (hn : l.length ≤ 1048576) :
    Cur (((w.setCell ⟨p, 2, none⟩ (.int .i64 h2)).drewN n).setCell ⟨p, 1, none⟩ (.int .i64 ((i : Int) + 1))) p ∧ w.grownBy (((w.setCell ⟨p, 2, none⟩ (.int .i64 h2)).drewN n).setCell ⟨p, 1, none⟩ (.int .i64 ((i : Int) + 1))) (some p) := by
  have g2 := blk_set (i := 2) hg (.int .i64 h2)
  have g3 : ((w.setCell ⟨p, 2, none⟩ (.int .i64 h2)).drewN n).heap[p]? = _ := g2
  have g4 := blk_set (i := 1) g3 (.int .i64 ((i : Int) + 1))
  have gr := only_set (j := 1) (only_draw (only_set (j := 2) (World.grownBy.refl w (some p)) (.int .i64 h2)) n) (.int .i64 ((i : Int) + 1))
  exact ⟨⟨A, cap, l, i + 1, h2, g4, hr.keep (fun k hk => gr.block k (by have := (Array.getElem?_eq_some_iff.1 hg).1; omega) (fun e => by injection e with e; omega)), hi, hn⟩, gr⟩
theorem cur1 {w : World} {A : Option Addr} {p cap i n m : Nat} {l : List UInt8} {h h2 : Int} (hg : w.heap[p]? = some (.cells #[.slice A l.length cap, .int .i64 i, .int .i64 h] 97 (0, 0))) (hr : Rd w p A l) (hi : i ≤ l.length) (hn : l.length ≤ 1048576) :
    Cur (((w.setCell ⟨p, 2, none⟩ (.int .i64 h2)).drewN n).drewN m) p ∧ w.grownBy (((w.setCell ⟨p, 2, none⟩ (.int .i64 h2)).drewN n).drewN m) (some p) := by
  have g2 := blk_set (i := 2) hg (.int .i64 h2)
  have gr := only_draw (only_draw (only_set (j := 2) (World.grownBy.refl w (some p)) (.int .i64 h2)) n) m
  exact ⟨⟨A, cap, l, i, h2, g2, hr.keep (fun k hk => gr.block k (by have := (Array.getElem?_eq_some_iff.1 hg).1; omega) (fun e => by injection e with e; omega)), hi, hn⟩, gr⟩
def AByte (w : World) (p : Nat) (e : Ending) (w' : World) : Prop := ∃ x : Int, 0 ≤ x ∧ x ≤ 255 ∧ e = .returned (.int .i64 x) ∧ Cur w' p ∧ w.grownBy w' (some p)
set_option maxRecDepth 100000 in
theorem l1Byte_any (p : Nat) (w : World) (hc : Cur w p) : Calls Try.prog 70 #[.pointer (some ⟨p, 0, none⟩)] w (AByte w p) := by
  obtain ⟨A, cap, l, i, h, hg, hr, hi, hn⟩ := hc
  have c0 : w.cell? ⟨p, 0, none⟩ = some (.slice A l.length cap) := by rw [cell_of_row w p 0 _ _ _ hg]; rfl
  have c1 : w.cell? ⟨p, 1, none⟩ = some (.int .i64 i) := by rw [cell_of_row w p 1 _ _ _ hg]; rfl
  have c2 : w.cell? ⟨p, 2, none⟩ = some (.int .i64 h) := by rw [cell_of_row w p 2 _ _ _ hg]; rfl
  have f1 : w.frozen? ⟨p, 1, none⟩ = false := frozen_of_row w p 1 _ _ hg
  have f2 : w.frozen? ⟨p, 2, none⟩ = false := frozen_of_row w p 2 _ _ hg
  have HG := Lib.hid hg
  clear hg
  by_cases hlt : i < l.length
  · obtain ⟨b, off, rfl, hbb, hcc⟩ := hr.at_ hlt
    have c3 := hcc i hlt
    have hne : ¬ b = p := by omega
    have HR := Lib.hid hr
    clear hcc hr
    obtain ⟨x0, x1⟩ := u8_le l[i]
    generalize l[i] = x at c3 x0 x1
    go_enter Try.func70, Try.ntmps70
    go_wp2
    generalize wrap64 (wrap64 (h * 6364136223846793005) + 1442695040888963407) = h2
    go_quiet (fail)
    go_wp2
    have ha := and255 (bits .xor .i64 (h2 / 8589934592) (h2 / 140737488355328))
    generalize bits .and .i64 (bits .xor .i64 (h2 / 8589934592) (h2 / 140737488355328)) 255 = y at ha ⊢
    obtain ⟨y0, y1⟩ := ha
    have hid : (i : Int) < (l.length : Int) := by omega
    go_quiet (fail)
    go_wp2
    go_quiet (fail)
    go_wp2
    have ha := and255 (y + (x.toNat : Int))
    generalize bits .and .i64 (y + (x.toNat : Int)) 255 = z at ha ⊢
    obtain ⟨z0, z1⟩ := ha
    go_ret
    exact ⟨z, z0, z1, rfl, cur2 HG.out HR.out (by omega) hn⟩
  · have HR := Lib.hid hr
    clear hr
    have hid : decide ((i : Int) < (l.length : Int)) = false := decide_eq_false (by omega)
    go_enter Try.func70, Try.ntmps70
    go_wp2
    generalize wrap64 (wrap64 (h * 6364136223846793005) + 1442695040888963407) = h2
    go_quiet (fail)
    go_wp2
    have ha := and255 (bits .xor .i64 (h2 / 8589934592) (h2 / 140737488355328))
    generalize bits .and .i64 (bits .xor .i64 (h2 / 8589934592) (h2 / 140737488355328)) 255 = y at ha ⊢
    obtain ⟨y0, y1⟩ := ha
    go_quiet (fail)
    go_wp2
    go_ret
    exact ⟨y, y0, y1, rfl, cur1 HG.out HR.out hi hn⟩

theorem only_trans {a b c : World} {row : Option Nat} (h : a.grownBy b row) (k : b.grownBy c row) : a.grownBy c row :=
  ⟨k.os.trans h.os, k.tape.trans h.tape, k.output.trans h.output, Nat.le_trans h.size k.size, fun i hi hne => (k.block i (Nat.lt_of_lt_of_le hi h.size) hne).trans (h.block i hi hne)⟩
def ABelow (w : World) (p : Nat) (m : Int) (e : Ending) (w' : World) : Prop := ∃ j : Nat, (j : Int) < m ∧ e = .returned (.int .i64 (j : Int)) ∧ Cur w' p ∧ w.grownBy w' (some p)
theorem toNat_mod {x m : Int} (_h0 : 0 ≤ x) (hm : 0 < m) : ((x % m).toNat : Int) < m ∧ ((x % m).toNat : Int) = x % m := by
  have h1 := Int.emod_nonneg x (show m ≠ 0 by omega)
  have h2 := Int.emod_lt_of_pos x hm
  omega
set_option maxRecDepth 100000 in
theorem l1Below_any (p : Nat) (m : Int) (w : World) (hc : Cur w p) (hm : 0 < m) (hm2 : m ≤ 1099511627776) : Calls Try.prog 41 #[.pointer (some ⟨p, 0, none⟩), .int .i64 m] w (ABelow w p m) := by
  have d0 : decide (m ≤ 0) = false := decide_eq_false (by omega)
  by_cases h256 : m ≤ 256
  · go_enter Try.func41, Try.ntmps41
    go_wp2_with fail
    refine (l1Byte_any p _ hc).mono ?_
    rintro e w1 ⟨x, x0, x1, rfl, hc1, hg1⟩
    have HX := Lib.hid (toNat_mod x0 hm)
    go_wp2
    go_ret
    exact ⟨(x % m).toNat, HX.out.1, ret_intB HX.out.2.symm, hc1, hg1⟩
  · go_enter Try.func41, Try.ntmps41
    go_wp2_with fail
    refine (l1Byte_any p _ hc).mono ?_
    rintro e w1 ⟨x, x0, x1, rfl, hc1, hg1⟩
    go_wp2_with fail
    refine (l1Byte_any p _ hc1).mono ?_
    rintro e w2 ⟨y, y0, y1, rfl, hc2, hg2⟩
    go_wp2_with fail
    refine (l1Byte_any p _ hc2).mono ?_
    rintro e w3 ⟨z, z0, z1, rfl, hc3, hg3⟩
    have HX := Lib.hid (toNat_mod (x := x * 65536 + y * 256 + z) (by omega) hm)
    go_wp2
    go_ret
    exact ⟨((x * 65536 + y * 256 + z) % m).toNat, HX.out.1, ret_intB HX.out.2.symm, hc3, only_trans (only_trans hg1 hg2) hg3⟩
def AnOnce (w : World) (p : Nat) (e : Ending) (w' : World) : Prop := ∃ b : Bool, e = .returned (.bool b) ∧ Cur w' p ∧ w.grownBy w' (some p)
theorem l1Once_any (p : Nat) (m : Int) (w : World) (hc : Cur w p) (hm : 0 < m) (hm2 : m ≤ 1099511627776) : Calls Try.prog 68 #[.pointer (some ⟨p, 0, none⟩), .int .i64 m] w (AnOnce w p) := by
  go_enter Try.func68, Try.ntmps68
  go_wp2_with fail
  refine (l1Below_any p m _ hc hm hm2).mono ?_
  rintro e w1 ⟨j, hj, rfl, hc1, hg1⟩
  go_wp2
  go_ret
  exact ⟨_, rfl, hc1, hg1⟩
/-- In w, from the head of block b on, lie the values xs. -/
def Lies (w : World) (b : Nat) (xs : List Value) : Prop := ∀ i (h : i < xs.length), w.cell? ⟨b, i, none⟩ = some xs[i]
theorem Lies.far {w w' : World} {b p : Nat} {xs : List Value} (h : Lies w b xs) (hg : w.grownBy w' (some p)) (hb : b < w.heap.size) (hne : b ≠ p) : Lies w' b xs :=
  fun i hi => (World.cell?_of_block (a := ⟨b, i, none⟩) (hg.block b hb (fun e => hne (by injection e)))).trans (h i hi)
theorem Lies.new (w : World) (xs : List Value) (t : TypeId) : Lies (w.alloc (.cells xs.toArray t)) w.heap.size xs := by
  intro i hi
  rw [cell_of_row _ _ _ _ _ _ (heap_alloc_new w _)]
  simp [hi]
def AnInt (w : World) (p : Nat) (ws : List Int) (e : Ending) (w' : World) : Prop := ∃ x, x ∈ ws ∧ e = .returned (.int .i64 x) ∧ Cur w' p ∧ w.grownBy w' (some p)
theorem l1Int_any (p b cap : Nat) (ws : List Int) (w : World) (hc : Cur w p) (hl : Lies w b (ws.map (.int .i64 ·))) (hb : b < w.heap.size) (hne : b ≠ p) (h0 : 0 < ws.length) (hn : ws.length ≤ 1048576) :
    Calls Try.prog 111 #[.pointer (some ⟨p, 0, none⟩), .slice (some ⟨b, 0, none⟩) ws.length cap] w (AnInt w p ws) := by
  go_enter Try.func111, Try.ntmps111
  go_wp2_with fail
  refine (l1Below_any p ws.length _ hc (by omega) (by omega)).mono ?_
  rintro e w1 ⟨j, hj, rfl, hc1, hg1⟩
  have hj2 : j < ws.length := by omega
  have c1 := (hl.far hg1 hb hne) j (by simpa using hj2)
  simp only [List.getElem_map] at c1
  go_wp2
  go_ret
  exact ⟨ws[j], List.getElem_mem _, rfl, hc1, hg1⟩
theorem Cur.alloc {w : World} {p : Nat} (h : Cur w p) (o : Obj) : Cur (w.alloc o) p := h.on ((Below.refl _ _).alloc (Nat.le_refl _) _)
theorem only_alloc {a w : World} {row : Option Nat} (h : a.grownBy w row) (o : Obj) : a.grownBy (w.alloc o) row :=
  ⟨h.os, h.tape, h.output, Nat.le_trans h.size (by simp), fun i hi hne => (Below.heap_alloc w o i (Nat.lt_of_lt_of_le hi h.size)).trans (h.block i hi hne)⟩
theorem only_start (w : World) (o : Obj) (row : Option Nat) : w.grownBy (w.alloc o) row := only_alloc (World.grownBy.refl w row) o
theorem Cur.far {w w' : World} {p g : Nat} (h : Cur w p) (hg : w.grownBy w' (some g)) (hlt : p < g) : Cur w' p :=
  h.keep (fun k hk => hg.block k (by have := h.lt; omega) (fun e => by injection e with e; omega))
end Go.Proofs.Ythopkhpiikiknaa
namespace Go.Proofs.Ythopkhpiikiknaa
open Go.RowKit
set_option maxRecDepth 100000
set_option linter.unusedSimpArgs false
set_option linter.unusedVariables false

theorem below_of_only {w w1 w2 : World} {p : Nat} (hb : Below w.heap.size w w1) (hg : w1.grownBy w2 (some p)) (hp : w.heap.size ≤ p) : Below w.heap.size w w2 :=
  hb.grown hg hb.size (fun k hk => by injection hk with hk; omega)
theorem big_any (A : Option Addr) (cap n : Nat) (w : World) : Calls Try.prog 8 #[.slice A n cap] w fun e w' => e = .returned (.bool (decide ((1048576 : Int) < (n : Int)))) ∧ w = w' := by
  go_enter Try.func8, Try.ntmps8
  go_wp2
  go_ret
  exact ⟨rfl, rfl⟩
end Go.Proofs.Ythopkhpiikiknaa
namespace Go.Proofs.Ythopkhpiikiknaa
open Go.RowKit
set_option maxRecDepth 100000
set_option linter.unusedSimpArgs false
set_option linter.unusedVariables false

def SmallK (a b c d e : Int) : Prop := (0 ≤ a ∧ a ≤ 3) ∧ (1 ≤ b ∧ b ≤ 5) ∧ keyOkB a b c d e = true
def AKey (w : World) (p : Nat) (r : Ending) (w' : World) : Prop := ∃ a b c d e, r = .returned (keyV a b c d e) ∧ SmallK a b c d e ∧ Cur w' p ∧ w.grownBy w' (some p)
theorem only_setNew {a w : World} {p g j : Nat} (h : a.grownBy w (some p)) (hg : a.heap.size ≤ g) (u : Value) : a.grownBy (w.setCell ⟨g, j, none⟩ u) (some p) :=
  ⟨h.os, h.tape, h.output, by simpa [World.setCell] using h.size, fun i hi hne => (Below.heap_setCell w ⟨g, j, none⟩ u i (by simp; omega)).trans (h.block i hi hne)⟩
theorem Cur.setNew {w : World} {p g j : Nat} (h : Cur w p) (hg : p < g) (u : Value) : Cur (w.setCell ⟨g, j, none⟩ u) p := h.keep (fun k hk => Below.heap_setCell w ⟨g, j, none⟩ u k (by simp; omega))
theorem box_grows {w w' : World} {b p : Nat} {o : Obj} (q : w.heap[b]? = some o) (hg : w.grownBy w' (some p)) (hne : b ≠ p) : w'.heap[b]? = some o := (hg.block b (Array.getElem?_eq_some_iff.1 q).1 (fun e => hne (by injection e))).trans q
def kindList : List Int := [0, 1, 1, 1, 2]
def genList : List Int := [0, 1, 256, 999]
theorem kindList_ok : ∀ x ∈ kindList, x = 0 ∨ x = 1 ∨ x = 2 := by decide
theorem genList_ok : ∀ x ∈ genList, 0 ≤ x ∧ x ≤ 999 := by decide
set_option maxHeartbeats 2000000 in
theorem l3Draw_any (p : Nat) (w : World) (hc : Cur w p) : Calls Try.prog 85 #[.pointer (some ⟨p, 0, none⟩)] w (AKey w p) := by
  have hlt := hc.lt
  have q0 := Lib.hid (al1 w (.cells #[.int .i64 0, .int .i64 0, .int .i64 0, .int .i64 0, .int .i64 0] 32))
  have G0 := Lib.hid (only_start w (.cells #[.int .i64 0, .int .i64 0, .int .i64 0, .int .i64 0, .int .i64 0] 32) (some p))
  have C0 := Lib.hid (hc.alloc (.cells #[.int .i64 0, .int .i64 0, .int .i64 0, .int .i64 0, .int .i64 0] 32))
  clear hc
  go_enter Try.func85, Try.ntmps85
  go_wp2_with fail
  refine (l1Below_any p 4 _ C0.out (by omega) (by omega)).mono ?_
  rintro r w1 ⟨a, ha, rfl, c1, g1⟩
  replace q0 := Lib.hid (box_grows q0.out g1 (by omega))
  replace G0 := Lib.hid (only_trans G0.out g1)
  replace C0 := Lib.hid c1
  clear c1 g1
  go_wp2_with fail
  refine (l1Below_any p 5 _ C0.out (by omega) (by omega)).mono ?_
  rintro r w2 ⟨b, hb, rfl, c1, g1⟩
  replace q0 := Lib.hid (box_grows q0.out g1 (by omega))
  replace G0 := Lib.hid (only_trans G0.out g1)
  replace C0 := Lib.hid c1
  have hz2 : w.heap.size < w2.heap.size := (Array.getElem?_eq_some_iff.1 q0.out).1
  clear c1 g1
  have H := Lib.hid (l1Int_any p w2.heap.size 5 kindList (w2.alloc (.cells (kindList.map (.int .i64 ·)).toArray 3)) (C0.out.alloc _) (Lies.new w2 _ _) (by simp) (by omega) (by decide) (by decide))
  have G3 := Lib.hid (only_alloc G0.out (.cells (kindList.map (.int .i64 ·)).toArray 3))
  have Q3 := Lib.hid (box_on q0.out (bal1 w2 (.cells (kindList.map (.int .i64 ·)).toArray 3)))
  clear q0 G0 C0
  go_wp2_with fail
  refine H.out.mono ?_
  rintro r w3 ⟨c, hcm, rfl, c3, g3⟩
  have hcc := kindList_ok c hcm
  have HCC := Lib.hid hcc
  have q3 := box_grows Q3.out g3 (by omega)
  have G4 := Lib.hid (only_trans G3.out g3)
  have hz3 : w.heap.size < w3.heap.size := (Array.getElem?_eq_some_iff.1 q3).1
  have hp3 := c3.lt
  have G5 := Lib.hid (only_alloc G4.out (.cells #[.int .i64 a, .int .i64 (1 + (b : Int)), .int .i64 c, .int .i64 0, .int .i64 0] 32))
  have C5 := Lib.hid (c3.alloc (.cells #[.int .i64 a, .int .i64 (1 + (b : Int)), .int .i64 c, .int .i64 0, .int .i64 0] 32))
  have Q5 := Lib.hid (box_on q3 (bal1 w3 (.cells #[.int .i64 a, .int .i64 (1 + (b : Int)), .int .i64 c, .int .i64 0, .int .i64 0] 32)))
  have K5 := Lib.hid (al1 w3 (.cells #[.int .i64 a, .int .i64 (1 + (b : Int)), .int .i64 c, .int .i64 0, .int .i64 0] 32))
  clear H G3 Q3 q3 G4 c3 g3 hcm hcc
  by_cases hc1 : c = 1
  · subst hc1
    go_wp2_with fail
    refine (l1Below_any p 24 _ C5.out (by omega) (by omega)).mono ?_
    rintro r w6 ⟨d, hd, rfl, c6, g6⟩
    have q6 := box_grows Q5.out g6 (by omega)
    have k6 := box_grows K5.out g6 (by omega)
    have G6 := Lib.hid (only_trans G5.out g6)
    have C6 := Lib.hid c6
    have hz6 := g6.size
    rw [World.size_alloc] at hz6
    obtain ⟨y0, y1, y2, y3, y4, y5⟩ := box5 k6
    have hp6 := c6.lt
    have k7 := box_set (i := 3) (u := .int .i64 (d : Int)) k6
    have q7 := box_far (j := 3) (u := .int .i64 (d : Int)) q6 (show w.heap.size ≠ w3.heap.size by omega)
    have G7 := Lib.hid (only_setNew (j := 3) G6.out (show w.heap.size ≤ w3.heap.size by omega) (.int .i64 (d : Int)))
    have C7 := Lib.hid (c6.setNew (j := 3) (show p < w3.heap.size by omega) (.int .i64 (d : Int)))
    have K7 := Lib.hid k7
    have Q7 := Lib.hid q7
    clear k6 q6 k7 q7 G5 C5 Q5 K5 c6 g6 G6 C6
    go_upto_region 4 with (fail)
    generalize w6.setCell ⟨w3.heap.size, 3, none⟩ (.int .i64 (d : Int)) = w7 at *
    have hz7 : w3.heap.size < w7.heap.size := (Array.getElem?_eq_some_iff.1 K7.out).1
    clear y0 y1 y2 y3 y4 y5
    have H := Lib.hid (l1Int_any p w7.heap.size 4 genList (w7.alloc (.cells (genList.map (.int .i64 ·)).toArray 3)) (C7.out.alloc _) (Lies.new w7 _ _) (by simp) (by omega) (by decide) (by decide))
    have G8 := Lib.hid (only_alloc G7.out (.cells (genList.map (.int .i64 ·)).toArray 3))
    have Q8 := Lib.hid (box_on Q7.out (bal1 w7 (.cells (genList.map (.int .i64 ·)).toArray 3)))
    have K8 := Lib.hid (box_on K7.out (bal1 w7 (.cells (genList.map (.int .i64 ·)).toArray 3)))
    clear G7 C7 K7 Q7
    go_wp2_with fail
    refine H.out.mono ?_
    rintro r w8 ⟨e, hem, rfl, c8, g8⟩
    have hee := genList_ok e hem
    have HEE := Lib.hid hee
    have q8 := box_grows Q8.out g8 (by omega)
    have k8 := box_grows K8.out g8 (by omega)
    have G9 := Lib.hid (only_trans G8.out g8)
    have C9 := Lib.hid c8
    obtain ⟨y0, y1, y2, y3, y4, y5⟩ := box5 k8
    obtain ⟨x0, x1, x2, x3, x4, x5⟩ := box5 q8
    have hne : ¬ w.heap.size = w3.heap.size := by omega
    have hp8 := c8.lt
    have FIN : Hid (∀ u, w.grownBy (((((((w8.setCell ⟨w3.heap.size, 4, none⟩ u).setCell ⟨w.heap.size, 0, none⟩ (.int .i64 a)).setCell ⟨w.heap.size, 1, none⟩ (.int .i64 (1 + (b : Int)))).setCell ⟨w.heap.size, 2, none⟩ (.int .i64 1)).setCell ⟨w.heap.size, 3, none⟩ (.int .i64 (d : Int))).setCell ⟨w.heap.size, 4, none⟩ u)) (some p) ∧ Cur (((((((w8.setCell ⟨w3.heap.size, 4, none⟩ u).setCell ⟨w.heap.size, 0, none⟩ (.int .i64 a)).setCell ⟨w.heap.size, 1, none⟩ (.int .i64 (1 + (b : Int)))).setCell ⟨w.heap.size, 2, none⟩ (.int .i64 1)).setCell ⟨w.heap.size, 3, none⟩ (.int .i64 (d : Int))).setCell ⟨w.heap.size, 4, none⟩ u)) p) := Lib.hid (fun u => ⟨only_setNew (only_setNew (only_setNew (only_setNew (only_setNew (only_setNew G9.out (by omega) _) (Nat.le_refl _) _) (Nat.le_refl _) _) (Nat.le_refl _) _) (Nat.le_refl _) _) (Nat.le_refl _) _, (((((c8.setNew (by omega) _).setNew hlt _).setNew hlt _).setNew hlt _).setNew hlt _).setNew hlt _⟩)
    have OKK : Hid (SmallK a (1 + (b : Int)) 1 (d : Int) e) := Lib.hid ⟨by omega, by omega, by simp [keyOkB, tgtB]; omega⟩
    clear k8 q8 g8 c8 hem hee H
    go_wp2
    refine bodyPost_ret (v := keyV a (1 + (b : Int)) 1 d e) (by simp [results, Try.results85, go_sem, keyV, *]) rfl ⟨_, _, _, _, _, rfl, OKK.out, (FIN.out _).2, (FIN.out _).1⟩
  · have e1 : (c == 1) = false := by simp [hc1]
    have OKK : Hid (SmallK a (1 + (b : Int)) c 0 0) := Lib.hid ⟨by omega, by omega, by
      have h2 : c = 0 ∨ c = 2 := by have := HCC.out; omega
      simp [keyOkB, tgtB, hc1, h2]; omega⟩
    obtain ⟨y0, y1, y2, y3, y4, y5⟩ := box5 K5.out
    obtain ⟨x0, x1, x2, x3, x4, x5⟩ := box5 Q5.out
    have hne : ¬ w.heap.size = w3.heap.size := by omega
    clear hc1
    go_upto_region 5 with (fail)
    generalize w3.alloc (.cells #[.int .i64 a, .int .i64 (1 + (b : Int)), .int .i64 c, .int .i64 0, .int .i64 0] 32) = w5 at *
    have FIN : Hid (w.grownBy (((((w5.setCell ⟨w.heap.size, 0, none⟩ (.int .i64 a)).setCell ⟨w.heap.size, 1, none⟩ (.int .i64 (1 + (b : Int)))).setCell ⟨w.heap.size, 2, none⟩ (.int .i64 c)).setCell ⟨w.heap.size, 3, none⟩ (.int .i64 0)).setCell ⟨w.heap.size, 4, none⟩ (.int .i64 0)) (some p) ∧ Cur (((((w5.setCell ⟨w.heap.size, 0, none⟩ (.int .i64 a)).setCell ⟨w.heap.size, 1, none⟩ (.int .i64 (1 + (b : Int)))).setCell ⟨w.heap.size, 2, none⟩ (.int .i64 c)).setCell ⟨w.heap.size, 3, none⟩ (.int .i64 0)).setCell ⟨w.heap.size, 4, none⟩ (.int .i64 0)) p) := Lib.hid ⟨only_setNew (only_setNew (only_setNew (only_setNew (only_setNew G5.out (Nat.le_refl _) _) (Nat.le_refl _) _) (Nat.le_refl _) _) (Nat.le_refl _) _) (Nat.le_refl _) _, ((((C5.out.setNew hlt _).setNew hlt _).setNew hlt _).setNew hlt _).setNew hlt _⟩
    go_wp2
    exact bodyPost_ret (v := keyV a (1 + (b : Int)) c 0 0) (by simp [results, Try.results85, go_sem, keyV, *]) rfl ⟨_, _, _, _, _, rfl, OKK.out, FIN.out.2, FIN.out.1⟩
end Go.Proofs.Ythopkhpiikiknaa
namespace Go.Proofs.Ythopkhpiikiknaa
open Go.RowKit
set_option maxRecDepth 100000
set_option linter.unusedSimpArgs false
set_option linter.unusedVariables false

theorem RowK.farP {w w' : World} {p base : Nat} {v : Value} {l : List KeyD} (h : RowK w base v l) (hg : w.grownBy w' (some p)) (hp : p < base) : RowK w' base v l :=
  h.keep (fun g hg' => hg.block g (h.lt g hg').1 (fun e => by injection e with e; have := (h.lt g hg').2; omega))
end Go.Proofs.Ythopkhpiikiknaa
namespace Go.Proofs.Ythopkhpiikiknaa
open Go.RowKit
set_option maxRecDepth 100000
set_option linter.unusedSimpArgs false
set_option linter.unusedVariables false

theorem RowK.rwK {w : World} {base : Nat} {v : Value} {l : List KeyD} (h : RowK w base v l) : (v = .slice none 0 0 ∧ l = []) ∨ ∃ g cap, v = .slice (some ⟨g, 0, none⟩) l.length cap ∧ base ≤ g ∧ RwK w g cap l ∧ l.length ≤ cap ∧ cap ≤ maxLen := h.owns.rwK
end Go.Proofs.Ythopkhpiikiknaa
namespace Go.Proofs.Ythopkhpiikiknaa
open Go.RowKit
set_option maxRecDepth 100000
set_option linter.unusedSimpArgs false
set_option linter.unusedVariables false

section
variable {P : Program} {md : Region.Mode} {ops : Array Oper} {Q : Exit → Act → World → Prop} {S : World → Prop} {F : Nat → Bool}
/-- Whatever order is picked from here on; S holds behind each operation but those of F. -/
def anyF (P : Program) (md : Region.Mode) (ops : Array Oper) (Q : Exit → Act → World → Prop) (S : World → Prop) (F : Nat → Bool) : Nat → Array Bool → Act → World → Prop
  | 0, listed, a, w => Region.ready md ops listed = [] ∧ Q .normal a w
  | n + 1, listed, a, w => (Region.ready md ops listed = [] → Q .normal a w) ∧ ∀ i ∈ Region.ready md ops listed, wpOp P ops Q i (fun a' w' => (F i = false → S w') ∧ anyF P md ops Q S F n (listed.setIfInBounds i true) a' w') a w
theorem anyF_any : ∀ (n : Nat) (listed : Array Bool) (a : Act) (w : World), anyF P md ops Q S F n listed a w → wpAny P md ops Q n listed a w
  | 0, _, _, _, h => h
  | n + 1, _, _, _, h => ⟨h.1, fun i hi => wpOp_mono (fun a' w' h' => anyF_any n _ a' w' h'.2) (h.2 i hi)⟩
def waitsF (md : Region.Mode) (ops : Array Oper) (F : Nat → Bool) (i : Nat) : Bool := (List.range ops.size).all (fun f => !F f || waits md ops i ops.size f)
theorem anyF_take {i : Nat} {oi : Oper} {v : Value} (hi : ops[i]? = some oi) (hs : Region.noSelect ops = true) (hwt : waitsF md ops F i = true) (hQ : ∀ c a w, Q (.panic c) (a.put oi.dst v) w → Q (.panic c) a w) :
    ∀ (n : Nat) (listed : Array Bool) (a : Act) (w : World), Closed md ops listed → (∀ j oj, ops[j]? = some oj → j ≠ i → listed.getD j true = false → (∀ e ∈ oj.after, Region.binds md e = true → e.on ≠ i) → oi.apart ops oj = true) →
      i ∈ Region.ready md ops listed → YieldsIf P ops S oi v a → S w → anyF P md ops Q S F n (listed.setIfInBounds i true) (a.put oi.dst v) w → anyF P md ops Q S F (n + 1) listed a w := by
  have hsel := Region.noSelect_spec hs
  intro n
  induction n with
  | zero =>
    intro listed a w _ _ hr hy hS H
    refine ⟨fun h => (by rw [h] at hr; cases hr), fun j hj => ?_⟩
    by_cases hji : j = i
    · subst hji; exact hy.wpOp hi hS ⟨fun _ => hS, H⟩
    · have h := ready_mono hj hji
      rw [H.1] at h
      cases h
  | succ n ih =>
    intro listed a w hcl hfree hr hy hS H
    refine ⟨fun h => (by rw [h] at hr; cases hr), fun j hj => ?_⟩
    by_cases hji : j = i
    · subst hji; exact hy.wpOp hi hS ⟨fun _ => hS, H⟩
    · obtain ⟨hjun, oj, hoj, hall⟩ := mem_ready.1 hj
      have hjf : F j = false := by
        cases hF : F j with
        | false => rfl
        | true =>
          have hlt : j < ops.size := (Array.getElem?_eq_some_iff.1 hoj).1
          have h1 := List.all_eq_true.1 hwt j (List.mem_range.2 hlt)
          rw [hF] at h1
          exact absurd hj (waits_out hcl (mem_ready.1 hr).1 ops.size j (by simpa using h1)).1
      have h2 := wpOp_putIf hoj (hfree j oj hoj hji hjun (fun e he hb => on_ne (mem_ready.1 hr).1 (hall e he hb))) (fun cs b => hsel i oi cs b hi) (fun cs b => hsel j oj cs b hoj) hQ hy (H.2 j (ready_mono hj hji))
      refine wpOp_mono (fun a' w' h3 => ⟨fun _ => h3.2.1 hjf, ih (listed.setIfInBounds j true) a' w' (hcl.set hj) (fun k ok hk hki hun hno => hfree k ok hk hki ?_ hno) (ready_mono hr (Ne.symm hji)) h3.1 (h3.2.1 hjf) ?_⟩) h2
      · by_cases hjk : j = k
        · subst hjk; exact hjun
        · rw [getD_set_ne true hjk] at hun; exact hun
      · rw [Array.setIfInBounds_comm _ _ hji]
        exact h3.2.2
theorem f_take {i : Nat} {oi : Oper} {v : Value} {n : Nat} {listed : Array Bool} {a : Act} {w : World} (hi : ops[i]? = some oi) (hs : Region.noSelect ops = true) (hwt : waitsF md ops F i = true) (hcl : closedB md ops listed = true) (hf : Region.free md ops listed i = true) (hr : (Region.ready md ops listed).contains i = true)
    (hQ : ∀ c a w, Q (.panic c) (a.put oi.dst v) w → Q (.panic c) a w) (hy : YieldsIf P ops S oi v a) (hS : S w) (h : anyF P md ops Q S F n (listed.setIfInBounds i true) (a.put oi.dst v) w) : anyF P md ops Q S F (n + 1) listed a w :=
  anyF_take hi hs hwt hQ n listed a w (closedB_spec hcl) (Region.free_spec hi hf) (by simpa using hr) hy hS h
theorem f_one {i : Nat} {o : Oper} {n : Nat} {listed : Array Bool} {a : Act} {w : World} (ho : ops[i]? = some o) (hw : Region.wanted o (yielded ops a.tmps) = true)
    (h : ∀ K : Act → World → Prop, Hid (∀ a' w', (F i = false → S w') → anyF P md ops Q S F n (listed.setIfInBounds i true) a' w' → K a' w') → Oper.wp P o a w K Q) : wpOp P ops Q i (fun a' w' => (F i = false → S w') ∧ anyF P md ops Q S F n (listed.setIfInBounds i true) a' w') a w := by
  have h1 := h (fun a' w' => (F i = false → S w') ∧ anyF P md ops Q S F n (listed.setIfInBounds i true) a' w') (Lib.hid (fun a' w' h2 h3 => ⟨h2, h3⟩))
  unfold wpOp
  simp only [ho]
  rw [if_pos hw]
  exact .inl h1
theorem f_run {i : Nat} {o : Oper} {n : Nat} {listed : Array Bool} {a : Act} {w : World} (hr : Region.ready md ops listed = [i]) (ho : ops[i]? = some o) (hw : Region.wanted o (yielded ops a.tmps) = true)
    (h : ∀ K : Act → World → Prop, Hid (∀ a' w', (F i = false → S w') → anyF P md ops Q S F n (listed.setIfInBounds i true) a' w' → K a' w') → Oper.wp P o a w K Q) : anyF P md ops Q S F (n + 1) listed a w := by
  refine ⟨fun h0 => (by rw [h0] at hr; cases hr), fun j hj => ?_⟩
  rw [hr, List.mem_singleton] at hj
  subst hj
  exact f_one ho hw h
theorem f_two {i j : Nat} {oi oj : Oper} {n : Nat} {listed : Array Bool} {a : Act} {w : World} (hr : Region.ready md ops listed = [i, j]) (hoi : ops[i]? = some oi) (hoj : ops[j]? = some oj) (hwi : Region.wanted oi (yielded ops a.tmps) = true) (hwj : Region.wanted oj (yielded ops a.tmps) = true)
    (h : ∀ K : Act → World → Prop, Hid (∀ a' w', (F i = false → S w') → anyF P md ops Q S F n (listed.setIfInBounds i true) a' w' → K a' w') → Oper.wp P oi a w K Q)
    (k : ∀ K : Act → World → Prop, Hid (∀ a' w', (F j = false → S w') → anyF P md ops Q S F n (listed.setIfInBounds j true) a' w' → K a' w') → Oper.wp P oj a w K Q) : anyF P md ops Q S F (n + 1) listed a w := by
  refine ⟨fun h0 => (by rw [h0] at hr; cases hr), fun l hl => ?_⟩
  rw [hr] at hl
  rcases List.mem_cons.1 hl with rfl | hl
  · exact f_one hoi hwi h
  · rw [List.mem_singleton] at hl
    subst hl
    exact f_one hoj hwj k
theorem f_done {n : Nat} {listed : Array Bool} {a : Act} {w : World} (hr : Region.ready md ops listed = []) (h : Q .normal a w) : anyF P md ops Q S F n listed a w := by
  cases n with
  | zero => exact ⟨hr, h⟩
  | succ n => exact ⟨fun _ => h, by rw [hr]; simp⟩
theorem f_begin {id : Nat} {a : Act} {w : World} (hm : P.follows .mixedOrders = true) (h : anyF P .any ops Q S F ops.size (Array.replicate ops.size false) a w.drew) : (Code.region id ops true).wp P Q a w := wp_region_any hm (anyF_any _ _ _ _ h)
end
end Go.Proofs.Ythopkhpiikiknaa
namespace Go.Proofs.Ythopkhpiikiknaa
open Go.RowKit
set_option maxRecDepth 100000
set_option linter.unusedSimpArgs false
set_option linter.unusedVariables false

theorem only_ofN {w w' : World} {p : Nat} (h : w.grownBy w' (some p)) : Only (fun x => x = p) w w' := Only.of_grown h rfl
theorem Owns.farP {w w' : World} {p base : Nat} {v : Value} {c : Dat} (h : Owns w (fun b => base ≤ b) v c) (hg : w.grownBy w' (some p)) (hp : p < base) : Owns w' (fun b => base ≤ b) v c := h.far (only_ofN hg) (fun b hb _ e => by omega)
theorem NOwn.farP {w w' : World} {p base bo : Nat} {u : Value} {ns : List (List KeyD)} (h : NOwn w base bo u ns) (hg : w.grownBy w' (some p)) (hp : p < base) : NOwn w' base bo u ns := by
  obtain ⟨xs, h1, h2, h3⟩ := h
  exact ⟨xs, row_keep h1 (fun g hg' => hg.block g (row_lt h1 g hg').1 (fun e => by injection e with e; have := (row_lt h1 g hg').2; omega)), h2.far (only_ofN hg) (fun b hb _ e => by have := hb.1.1; omega), h3⟩
end Go.Proofs.Ythopkhpiikiknaa
namespace Go.Proofs.Ythopkhpiikiknaa
open Go.RowKit
set_option maxRecDepth 100000
set_option linter.unusedSimpArgs false
set_option linter.unusedVariables false
def OKey (w : World) (p : Nat) (e : Ending) (w' : World) : Prop := ∃ x : KeyD, e = .returned x.v ∧ okK x = true ∧ Cur w' p ∧ w.grownBy w' (some p)
theorem key_blk {a b c d e : Int} (h : SmallK a b c d e) {j : Nat} (hj : (j : Int) < 12) : okK ⟨(j : Int), b, c, d, e⟩ = true := by
  have h1 := h.2.2
  unfold okK
  unfold keyOkB at h1 ⊢
  simp only [Bool.and_eq_true, decide_eq_true_iff] at h1 ⊢
  exact ⟨⟨⟨⟨by omega, by omega⟩, h1.1.1.2⟩, h1.1.2⟩, h1.2⟩
set_option maxHeartbeats 2000000 in
theorem l6Key_any (p : Nat) (w : World) (hc : Cur w p) : Calls Try.prog 55 #[.pointer (some ⟨p, 0, none⟩)] w (OKey w p) := by
  have hlt := hc.lt
  have HD := Lib.hid l3Draw_any
  unfold AKey keyV at HD
  have C0 := Lib.hid (hc.alloc (.cells #[.int .i64 0, .int .i64 0, .int .i64 0, .int .i64 0, .int .i64 0] 32))
  have G0 := Lib.hid (only_start w (.cells #[.int .i64 0, .int .i64 0, .int .i64 0, .int .i64 0, .int .i64 0] 32) (some p))
  have Q0 := Lib.hid (al1 w (.cells #[.int .i64 0, .int .i64 0, .int .i64 0, .int .i64 0, .int .i64 0] 32))
  have hz0 : (w.alloc (.cells #[.int .i64 0, .int .i64 0, .int .i64 0, .int .i64 0, .int .i64 0] 32)).heap.size = w.heap.size + 1 := by simp
  have HZ0 := Lib.hid hz0
  clear hc hz0
  go_enter Try.func55, Try.ntmps55
  go_wp2_with fail
  refine (HD.out p _ C0.out).mono ?_
  rintro r w1 ⟨xa, xb, xc, xd, xe, rfl, sm, c1, g1⟩
  have hz1 := g1.size
  rw [HZ0.out] at hz1
  have c2 := c1.alloc (.cells #[.int .i64 xa, .int .i64 xb, .int .i64 xc, .int .i64 xd, .int .i64 xe] 32)
  have q2 := al1 w1 (.cells #[.int .i64 xa, .int .i64 xb, .int .i64 xc, .int .i64 xd, .int .i64 xe] 32)
  have G2 := Lib.hid (only_alloc (only_trans G0.out g1) (.cells #[.int .i64 xa, .int .i64 xb, .int .i64 xc, .int .i64 xd, .int .i64 xe] 32))
  have Q1 := Lib.hid (box_on (box_grows Q0.out g1 (by omega)) (bal1 w1 (.cells #[.int .i64 xa, .int .i64 xb, .int .i64 xc, .int .i64 xd, .int .i64 xe] 32)))
  have SM := Lib.hid sm
  have C2 := Lib.hid c2
  have Q2 := Lib.hid q2
  clear sm c1 g1 c2 q2 C0 G0 Q0
  go_upto_region 2 with (fail)
  generalize w1.alloc (.cells #[.int .i64 xa, .int .i64 xb, .int .i64 xc, .int .i64 xd, .int .i64 xe] 32) = W2 at *
  go_wp2_with fail
  refine (l1Below_any p 12 _ C2.out (by omega) (by omega)).mono ?_
  rintro r w3 ⟨j, hj, rfl, c3, g3⟩
  have q2 := box_grows Q2.out g3 (by omega)
  have q1 := box_grows Q1.out g3 (by omega)
  obtain ⟨y0, y1, y2, y3, y4, y5⟩ := box5 q2
  obtain ⟨z0, z1, z2, z3, z4, z5⟩ := box5 q1
  have HOK := Lib.hid (key_blk SM.out hj)
  have C3 := Lib.hid c3
  have G3 := Lib.hid (only_trans G2.out g3)
  have n1 : ¬ w1.heap.size = w.heap.size := by omega
  have n2 : ¬ w.heap.size = w1.heap.size := by omega
  clear q2 q1 c3 g3 hj
  go_wp2
  refine bodyPost_ret (v := keyV (j : Int) xb xc xd xe) (by simp [results, Try.results55, go_sem, keyV, z0, z1, z2, z3, z4, z5]) rfl ⟨⟨(j : Int), xb, xc, xd, xe⟩, rfl, HOK.out, ?_, ?_⟩
  · exact (((((C3.out.setNew (by omega) _).setNew hlt _).setNew hlt _).setNew hlt _).setNew hlt _).setNew hlt _
  · exact only_setNew (only_setNew (only_setNew (only_setNew (only_setNew (only_setNew G3.out (by omega) _) (Nat.le_refl _) _) (Nat.le_refl _) _) (Nat.le_refl _) _) (Nat.le_refl _) _) (Nat.le_refl _) _
/-- A drawn tree: valid, in memory of its own. -/
def ATree (w : World) (p : Nat) (e : Ending) (w' : World) : Prop := ∃ vl vn lo ts, e = .returned (.agg #[vl, vn]) ∧ TreeS w' (fun b => w.heap.size ≤ b) vl vn lo ts ∧ treeOkB lo ts = true ∧ Cur w' p ∧ w.grownBy w' (some p)
def TIn (w : World) (p p5 : Nat) (wr : World) : Prop :=
  ∃ lo ts A c B d, wr.heap[p5]? = some (.cells #[.slice A lo.length c, .slice B ts.length d] 27) ∧ wr.heap[w.heap.size]? = some (.cells #[.slice none 0 0, .slice none 0 0] 27) ∧ TreeS wr (fun b => w.heap.size < b ∧ b ≠ p5) (.slice A lo.length c) (.slice B ts.length d) lo ts ∧ treeOkB lo ts = true ∧ Cur wr p ∧ w.grownBy wr (some p)
theorem TreeS.farP {w w' : World} {p base p5 : Nat} {vl vn : Value} {lo : List Int} {ts : List NodeD} (h : TreeS w (fun b => base < b ∧ b ≠ p5) vl vn lo ts) (hg : w.grownBy w' (some p)) (hp : p < base) : TreeS w' (fun b => base < b ∧ b ≠ p5) vl vn lo ts := h.keep (fun b hb hl => hg.block b hl (fun e => by injection e with e; omega))
theorem treeP_small {lo : List Int} {ts : List NodeD} (h : treeOkB lo ts = true) : lo.length ≤ 20 ∧ ts.length ≤ 20 ∧ sumT ts ≤ 220 := treeP_small' (of_decide_eq_true h)
theorem ok_putT {lo : List Int} {ts : List NodeD} {x : KeyD} (h : treeOkB lo ts = true) : treeOkB (treePutK lo ts x).1 (treePutK lo ts x).2 = true := by
  unfold treePutK
  split
  · rename_i hb
    unfold treePutB at hb
    simp only [Bool.and_eq_true] at hb
    exact hb.2
  · exact h
theorem ok_newT : treeOkB [0] [[]] = true := by decide +kernel
theorem only_trans2 {a b c : World} {p : Nat} (h : a.grownBy b (some p)) (k : Below b.heap.size b c) : a.grownBy c (some p) :=
  ⟨k.os.trans h.os, k.tape.trans h.tape, k.output.trans h.output, Nat.le_trans h.size k.size, fun i hi hn => (k.block i (Nat.lt_of_lt_of_le hi h.size)).trans (h.block i hi hn)⟩
set_option maxHeartbeats 8000000 in
theorem l6Draw_any (p m : Nat) (w : World) (hc : Cur w p) (hm : m ≤ 1000) : Calls Try.prog 38 #[.pointer (some ⟨p, 0, none⟩), .int .i64 (m : Int)] w (ATree w p) := by
  have hlt := hc.lt
  have HD := Lib.hid l6Key_any
  unfold OKey at HD
  have HC0 := Lib.hid (hc.alloc (.cells #[.slice none 0 0, .slice none 0 0] 27))
  have Q0 := Lib.hid (al1 w (.cells #[.slice none 0 0, .slice none 0 0] 27))
  have HB0 := Lib.hid (bal1 w (.cells #[.slice none 0 0, .slice none 0 0] 27))
  have hz0 : (w.alloc (.cells #[.slice none 0 0, .slice none 0 0] 27)).heap.size = w.heap.size + 1 := by simp
  have HZ0 := Lib.hid hz0
  have i0 : IntKind.i64.wrap ((m : Int) + 1) = (m : Int) + 1 := by rw [IntKind.wrap_i64]; omega
  clear hc hz0
  go_enter Try.func38, Try.ntmps38
  go_upto_region 1 with (fail)
  generalize w.alloc (.cells #[.slice none 0 0, .slice none 0 0] 27) = W at *
  have hz1 := Nat.le_of_eq HZ0.out
  have hz2 := Nat.le_of_eq HZ0.out.symm
  go_wp2_with fail
  refine (specTreeNew_any _).mono ?_
  rintro r w1 ⟨vl1, vn1, rfl, o1, b1⟩
  obtain ⟨lo, hlo⟩ : ∃ l, l = [(0 : Int)] := ⟨_, rfl⟩
  obtain ⟨ts, hts⟩ : ∃ l, l = [([] : NodeD)] := ⟨_, rfl⟩
  have HOK0 : Hid (treeOkB lo ts = true) := Lib.hid (by rw [hlo, hts]; exact ok_newT)
  rw [← hlo, ← hts] at o1
  clear hlo hts
  obtain ⟨A, c, B, d, rfl, rfl⟩ := o1.reads.shape
  have hzb := b1.size
  have ba := bal1 w1 (.cells #[.slice A lo.length c, .slice B ts.length d] 27)
  have Q5 := Lib.hid (al1 w1 (.cells #[.slice A lo.length c, .slice B ts.length d] 27))
  have O5 := Lib.hid (o1.lt.on ba)
  have C5 := Lib.hid ((HC0.out.on b1).on ba)
  have Q05 := Lib.hid (box_on (box_on Q0.out b1) ba)
  have G5 := Lib.hid (only_trans2 (only_trans2 (only_trans2 (World.grownBy.refl w (some p)) HB0.out) b1) ba)
  have hzA : (w1.alloc (.cells #[.slice A lo.length c, .slice B ts.length d] 27)).heap.size = w1.heap.size + 1 := by simp
  have HZA := Lib.hid hzA
  clear o1 b1 ba hzA
  go_upto_region 2 with (fail)
  generalize w1.alloc (.cells #[.slice A lo.length c, .slice B ts.length d] 27) = W2 at *
  have hy1 := Nat.le_of_eq HZA.out
  have hy2 := Nat.le_of_eq HZA.out.symm
  go_wp2_with fail
  refine (l1Below_any p ((m : Int) + 1) _ C5.out (by omega) (by omega)).mono ?_
  rintro r w3 ⟨j, hj, rfl, c3, g3⟩
  have START : Hid (TIn w p w1.heap.size w3) := Lib.hid ⟨lo, ts, A, c, B, d, box_grows Q5.out g3 (by omega), box_grows Q05.out g3 (by omega), TreeS.farP (O5.out.mono (fun b hb => ⟨by omega, by omega⟩)) g3 hlt, HOK0.out, c3, only_trans G5.out g3⟩
  have hp5a : w.heap.size < w1.heap.size := by omega
  clear c3 g3 Q5 Q05 O5 C5 G5 HOK0 HC0 Q0 HB0
  go_wp2
  go_loopw [6] (fun i wr => ∃ k : Nat, k ≤ 1001 ∧ i = .int .i64 k ∧ Hid (TIn w p w1.heap.size wr)) (fun i _ => (intOf i).toNat)
  case atStart => exact ⟨j, by omega, rfl, START⟩
  case round =>
    clear START hj hy1 hy2 HZA hzb hz1 hz2 HZ0
    obtain ⟨p5, hp5⟩ : ∃ p5, p5 = w1.heap.size := ⟨_, rfl⟩
    rw [← hp5] at hp5a
    obtain ⟨k, hk, rfl, HN⟩ := hrel
    obtain ⟨lo, ts, A, c, B, d, q1, q0, ou, hok, hcu, hgr⟩ := HN.out
    rw [← hp5] at q1 ou
    have QO := Lib.hid q1
    have QR := Lib.hid q0
    have OU := Lib.hid ou
    have HOK := Lib.hid hok
    have HC := Lib.hid hcu
    have HG := Lib.hid hgr
    have hsm := treeP_small hok
    have hsz : p5 < wr.heap.size := (Array.getElem?_eq_some_iff.1 q1).1
    clear q0 q1 ou hok hcu hgr HN
    rw [← hp5]
    clear hp5
    rcases k with _ | k
    · obtain ⟨z0, z1, z2⟩ := box2 QO.out
      obtain ⟨y0, y1, y2⟩ := box2 QR.out
      have n1 : ¬ p5 = w.heap.size := by omega
      go_wp2
      have HO := only_two wr w.heap.size 0 1 (.slice A lo.length c) (.slice B ts.length d)
      refine bodyPost_ret (v := .agg #[.slice A lo.length c, .slice B ts.length d]) (by simp [results, Try.results38, go_sem, y0, y1, y2]) rfl ⟨_, _, lo, ts, rfl, (OU.out.keep (fun b hb hl => HO.block b hl (fun e => by omega))).mono (fun b hb => by omega), HOK.out, (HC.out.setNew hlt _).setNew hlt _, only_setNew (only_setNew HG.out (Nat.le_refl _) _) (Nat.le_refl _) _⟩
    · have i1 : (0 : Int) < (k : Int) + 1 := by omega
      have i2 : IntKind.i64.wrap ((k : Int) + 1 - 1) = (k : Int) := by rw [IntKind.wrap_i64]; omega
      have i3 : IntKind.i64.wrap (k : Int) = (k : Int) := by rw [IntKind.wrap_i64]; omega
      have CD := Lib.hid (HC.out.keep (w' := wr.drew) (fun _ _ => rfl))
      have OD := Lib.hid (OU.out.on (Below.drew1 wr))
      go_upto_region 5 with (fail)
      refine f_begin (F := fun i => i == 6 || i == 7) (S := fun V => V.heap[p5]? = some (.cells #[.slice A lo.length c, .slice B ts.length d] 27)) (by kernel_rfl) ?_
      have hS0 : (fun V => V.heap[p5]? = some (.cells #[.slice A lo.length c, .slice B ts.length d] 27)) wr.drew := show wr.drew.heap[p5]? = some _ from QO.out
      refine f_take (i := 0) (v := ?vd0) rfl (by kernel_rfl) (by kernel_rfl) (by kernel_rfl) (by kernel_rfl) (by kernel_rfl) (fun _ _ _ h => h) (Or.inl ⟨by rfl, ?hyd0⟩) hS0 ?restd0
      case hyd0 =>
        intro W hW
        obtain ⟨z0, z1, z2⟩ := box2 hW
        go_simp
        exact rfl
      simp only [List.getElem_toArray, List.getElem_cons_succ, List.getElem_cons_zero, Act.put, List.setIfInBounds_toArray, List.set_cons_zero, List.set_cons_succ]
      refine f_take (i := 1) (v := ?vd1) rfl (by kernel_rfl) (by kernel_rfl) (by kernel_rfl) (by kernel_rfl) (by kernel_rfl) (fun _ _ _ h => h) (Or.inl ⟨by rfl, ?hyd1⟩) hS0 ?restd1
      case hyd1 =>
        intro W hW
        go_simp
        exact rfl
      simp only [List.getElem_toArray, List.getElem_cons_succ, List.getElem_cons_zero, Act.put, List.setIfInBounds_toArray, List.set_cons_zero, List.set_cons_succ]
      refine f_run (i := 2) (by kernel_rfl) rfl (by rfl) ?_
      simp only [List.getElem_toArray, List.getElem_cons_succ, List.getElem_cons_zero]
      intro K HK
      go_wp2_with fail
      refine (HD.out p _ CD.out).mono ?_
      rintro r Vd1 ⟨xk, rfl, okx, c2, g2⟩
      go_wp2_with fail
      have hSd1 : (fun V => V.heap[p5]? = some (.cells #[.slice A lo.length c, .slice B ts.length d] 27)) Vd1 := box_grows hS0 g2 (by omega)
      refine HK.out _ _ (fun _ => hSd1) ?_
      clear HK
      have O2 := Lib.hid (OD.out.farP g2 (by omega))
      have C2 := Lib.hid c2
      have G2 := Lib.hid (only_trans (only_draw1 HG.out) g2)
      have R2 := Lib.hid (box_grows (show wr.drew.heap[w.heap.size]? = some _ from QR.out) g2 (by omega))
      have hz2 := g2.size
      have hzd : wr.heap.size ≤ wr.drew.heap.size := Nat.le_refl _
      clear c2 g2 okx
      obtain ⟨R, hR⟩ : ∃ R, treePutK lo ts xk = R := ⟨_, rfl⟩
      have HRO : Hid (treeOkB R.1 R.2 = true) := Lib.hid (by rw [← hR]; exact ok_putT HOK.out)
      have HRR := Lib.hid hR
      clear hR
      try simp only [List.getElem_toArray, List.getElem_cons_succ, List.getElem_cons_zero, Act.put, List.setIfInBounds_toArray, List.set_cons_zero, List.set_cons_succ]
      refine f_run (i := 3) (by kernel_rfl) rfl (by rfl) ?_
      simp only [List.getElem_toArray, List.getElem_cons_succ, List.getElem_cons_zero]
      intro K HK
      go_wp2_with fail
      refine (specTreePut_any _ _ lo ts xk _ O2.out.reads (by omega) (by omega) (by omega)).mono ?_
      rintro r Vd2 ⟨vl3, vn3, rfl, o3, b3⟩
      rw [HRR.out] at o3
      obtain ⟨A3, c3, B3, d3, rfl, rfl⟩ := o3.reads.shape
      have O3 := Lib.hid o3
      clear o3
      go_wp2_with fail
      have hSd2 : (fun V => V.heap[p5]? = some (.cells #[.slice A lo.length c, .slice B ts.length d] 27)) Vd2 := box_on hSd1 b3
      refine HK.out _ _ (fun _ => hSd2) ?_
      clear HK
      have hz3 := b3.size
      try simp only [List.getElem_toArray, List.getElem_cons_succ, List.getElem_cons_zero, Act.put, List.setIfInBounds_toArray, List.set_cons_zero, List.set_cons_succ]
      refine f_take (i := 4) (v := ?vd4) rfl (by kernel_rfl) (by kernel_rfl) (by kernel_rfl) (by kernel_rfl) (by kernel_rfl) (fun _ _ _ h => h) (Or.inl ⟨by rfl, ?hyd4⟩) hSd2 ?restd4
      case hyd4 =>
        intro W hW
        go_simp
        exact rfl
      simp only [List.getElem_toArray, List.getElem_cons_succ, List.getElem_cons_zero, Act.put, List.setIfInBounds_toArray, List.set_cons_zero, List.set_cons_succ]
      obtain ⟨z0, z1, z2⟩ := box2 hSd2
      refine f_two (i := 5) (j := 6) (by kernel_rfl) rfl rfl (by rfl) (by rfl) ?_ ?_
      · simp only [List.getElem_toArray, List.getElem_cons_succ, List.getElem_cons_zero]
        intro K HK
        go_wp2_with fail
        refine HK.out _ _ (fun _ => hSd2) ?_
        clear HK
        try simp only [List.getElem_toArray, List.getElem_cons_succ, List.getElem_cons_zero, Act.put, List.setIfInBounds_toArray, List.set_cons_zero, List.set_cons_succ]
        refine f_two (i := 6) (j := 7) (by kernel_rfl) rfl rfl (by rfl) (by rfl) ?_ ?_
        · simp only [List.getElem_toArray, List.getElem_cons_succ, List.getElem_cons_zero]
          intro K HK
          go_wp2_with fail
          refine HK.out _ _ (fun h => absurd h (by decide)) ?_
          clear HK
          try simp only [List.getElem_toArray, List.getElem_cons_succ, List.getElem_cons_zero, Act.put, List.setIfInBounds_toArray, List.set_cons_zero, List.set_cons_succ]
          refine f_run (i := 7) (by kernel_rfl) rfl (by rfl) ?_
          simp only [List.getElem_toArray, List.getElem_cons_succ, List.getElem_cons_zero]
          intro K HK
          go_wp2_with fail
          refine HK.out _ _ (fun h => absurd h (by decide)) ?_
          clear HK
          try simp only [List.getElem_toArray, List.getElem_cons_succ, List.getElem_cons_zero, Act.put, List.setIfInBounds_toArray, List.set_cons_zero, List.set_cons_succ]
          have HO := only_two Vd2 p5 0 1 (.slice A3 R.1.length c3) (.slice B3 R.2.length d3)
          have NEW : Hid (TIn w p p5 ((Vd2.setCell ⟨p5, 0, none⟩ (.slice A3 R.1.length c3)).setCell ⟨p5, 1, none⟩ (.slice B3 R.2.length d3))) := Lib.hid ⟨R.1, R.2, _, _, _, _, box_set (i := 1) (box_set (i := 0) hSd2), box_only (box_on R2.out b3) HO (fun e => by omega), (O3.out.keep (fun b hb hl => HO.block b hl (fun e => by omega))).mono (fun b hb => ⟨by omega, by omega⟩), HRO.out, (C2.out.on b3).keep (fun k hk => (HO.block k (by have := (C2.out.on b3).lt; omega) (fun e => by omega))), only_setNew (only_setNew (only_trans2 G2.out b3) (by omega) _) (by omega) _⟩
          clear O3 b3 O2 C2 G2 R2 hSd1 hSd2 z0 z1 z2 CD OD QO QR OU HOK HC HG
          refine f_done (by kernel_rfl) ?_
          go_wp2
          go_roundw
          case rel => exact ⟨k, by omega, by go_num, NEW⟩
          case measure => simp [intOf]
        · simp only [List.getElem_toArray, List.getElem_cons_succ, List.getElem_cons_zero]
          intro K HK
          go_wp2_with fail
          refine HK.out _ _ (fun h => absurd h (by decide)) ?_
          clear HK
          try simp only [List.getElem_toArray, List.getElem_cons_succ, List.getElem_cons_zero, Act.put, List.setIfInBounds_toArray, List.set_cons_zero, List.set_cons_succ]
          refine f_run (i := 6) (by kernel_rfl) rfl (by rfl) ?_
          simp only [List.getElem_toArray, List.getElem_cons_succ, List.getElem_cons_zero]
          intro K HK
          go_wp2_with fail
          refine HK.out _ _ (fun h => absurd h (by decide)) ?_
          clear HK
          try simp only [List.getElem_toArray, List.getElem_cons_succ, List.getElem_cons_zero, Act.put, List.setIfInBounds_toArray, List.set_cons_zero, List.set_cons_succ]
          have HO := only_two Vd2 p5 0 1 (.slice A3 R.1.length c3) (.slice B3 R.2.length d3)
          have NEW : Hid (TIn w p p5 ((Vd2.setCell ⟨p5, 0, none⟩ (.slice A3 R.1.length c3)).setCell ⟨p5, 1, none⟩ (.slice B3 R.2.length d3))) := Lib.hid ⟨R.1, R.2, _, _, _, _, box_set (i := 1) (box_set (i := 0) hSd2), box_only (box_on R2.out b3) HO (fun e => by omega), (O3.out.keep (fun b hb hl => HO.block b hl (fun e => by omega))).mono (fun b hb => ⟨by omega, by omega⟩), HRO.out, (C2.out.on b3).keep (fun k hk => (HO.block k (by have := (C2.out.on b3).lt; omega) (fun e => by omega))), only_setNew (only_setNew (only_trans2 G2.out b3) (by omega) _) (by omega) _⟩
          clear O3 b3 O2 C2 G2 R2 hSd1 hSd2 z0 z1 z2 CD OD QO QR OU HOK HC HG
          refine f_done (by kernel_rfl) ?_
          go_wp2
          go_roundw
          case rel => exact ⟨k, by omega, by go_num, NEW⟩
          case measure => simp [intOf]
      · simp only [List.getElem_toArray, List.getElem_cons_succ, List.getElem_cons_zero]
        intro K HK
        go_wp2_with fail
        refine HK.out _ _ (fun h => absurd h (by decide)) ?_
        clear HK
        try simp only [List.getElem_toArray, List.getElem_cons_succ, List.getElem_cons_zero, Act.put, List.setIfInBounds_toArray, List.set_cons_zero, List.set_cons_succ]
        refine f_run (i := 5) (by kernel_rfl) rfl (by rfl) ?_
        simp only [List.getElem_toArray, List.getElem_cons_succ, List.getElem_cons_zero]
        intro K HK
        go_wp2_with fail
        refine HK.out _ _ (fun _ => hSd2) ?_
        clear HK
        try simp only [List.getElem_toArray, List.getElem_cons_succ, List.getElem_cons_zero, Act.put, List.setIfInBounds_toArray, List.set_cons_zero, List.set_cons_succ]
        refine f_run (i := 7) (by kernel_rfl) rfl (by rfl) ?_
        simp only [List.getElem_toArray, List.getElem_cons_succ, List.getElem_cons_zero]
        intro K HK
        go_wp2_with fail
        refine HK.out _ _ (fun h => absurd h (by decide)) ?_
        clear HK
        try simp only [List.getElem_toArray, List.getElem_cons_succ, List.getElem_cons_zero, Act.put, List.setIfInBounds_toArray, List.set_cons_zero, List.set_cons_succ]
        have HO := only_two Vd2 p5 0 1 (.slice A3 R.1.length c3) (.slice B3 R.2.length d3)
        have NEW : Hid (TIn w p p5 ((Vd2.setCell ⟨p5, 0, none⟩ (.slice A3 R.1.length c3)).setCell ⟨p5, 1, none⟩ (.slice B3 R.2.length d3))) := Lib.hid ⟨R.1, R.2, _, _, _, _, box_set (i := 1) (box_set (i := 0) hSd2), box_only (box_on R2.out b3) HO (fun e => by omega), (O3.out.keep (fun b hb hl => HO.block b hl (fun e => by omega))).mono (fun b hb => ⟨by omega, by omega⟩), HRO.out, (C2.out.on b3).keep (fun k hk => (HO.block k (by have := (C2.out.on b3).lt; omega) (fun e => by omega))), only_setNew (only_setNew (only_trans2 G2.out b3) (by omega) _) (by omega) _⟩
        clear O3 b3 O2 C2 G2 R2 hSd1 hSd2 z0 z1 z2 CD OD QO QR OU HOK HC HG
        refine f_done (by kernel_rfl) ?_
        go_wp2
        go_roundw
        case rel => exact ⟨k, by omega, by go_num, NEW⟩
        case measure => simp [intOf]
end Go.Proofs.Ythopkhpiikiknaa
namespace Go.Proofs.Ythopkhpiikiknaa
open Go.RowKit
set_option maxRecDepth 100000
set_option linter.unusedSimpArgs false
set_option linter.unusedVariables false

theorem l1Size_any (A : Option Addr) (n cap : Nat) (m : Nat) (w : World) (hn : n ≤ 1048576) (hm : m ≤ 1000) : Calls Try.prog 39 #[.slice A n cap, .int .i64 (m : Int)] w fun e w' => (∃ k : Nat, k ≤ m ∧ e = .returned (.int .i64 (k : Int))) ∧ w = w' := by
  have h12 : ((n : Int).tdiv 12) = ((n / 12 : Nat) : Int) := by rw [Int.ofNat_tdiv]; rfl
  have h13 : (n : Int) / 12 = ((n / 12 : Nat) : Int) := by omega
  have hw : IntKind.i64.wrap (3 + ((n / 12 : Nat) : Int)) = 3 + ((n / 12 : Nat) : Int) := by rw [IntKind.wrap_i64]; omega
  by_cases h : 3 + n / 12 ≤ m
  · have i1 : ¬ (m : Int) < 3 + ((n / 12 : Nat) : Int) := by omega
    have i2 : 3 + ((n / 12 : Nat) : Int) ≤ (m : Int) := by omega
    generalize hq : n / 12 = q at *
    go_enter Try.func39, Try.ntmps39
    go_wp2
    go_ret
    exact ⟨⟨3 + q, h, by simp [*]⟩, rfl⟩
  · have i2 : (m : Int) < 3 + ((n / 12 : Nat) : Int) := by omega
    generalize hq : n / 12 = q at *
    go_enter Try.func39, Try.ntmps39
    go_wp2
    go_ret
    exact ⟨⟨m, Nat.le_refl _, rfl⟩, rfl⟩
end Go.Proofs.Ythopkhpiikiknaa
namespace Go.Proofs.Ythopkhpiikiknaa
open Go.RowKit Go.ChangeShapes Go.WideShapes Go.Deep
set_option maxRecDepth 100000
set_option linter.unusedSimpArgs false
set_option linter.unusedVariables false

structure AgeD where
  (a b : Int)
  deriving DecidableEq
def AgeD.v (k : AgeD) : Value := .agg #[.int .i64 k.a, .int .i64 k.b]
def gC (k : AgeD) : List Dat := [.lit (.int .i64 k.a), .lit (.int .i64 k.b)]
def gX (k : AgeD) : List Value := [.int .i64 k.a, .int .i64 k.b]
theorem gC_len (k : AgeD) : (gC k).length = 2 := rfl
def agesD (l : List AgeD) : Dat := .row 84 2 l.length (l.flatMap gC)
def gvl (l : List AgeD) : List Value := l.flatMap gX
theorem gvl_cons (k : AgeD) (l : List AgeD) : gvl (k :: l) = gX k ++ gvl l := rfl
theorem gvl_len (l : List AgeD) : (gvl l).length = l.length * 2 := by
  induction l with
  | nil => rfl
  | cons k l ih =>
    rw [gvl_cons, List.length_append, ih]
    simp [gX, Nat.add_mul]; omega
theorem gvl_append (l m : List AgeD) : gvl (l ++ m) = gvl l ++ gvl m := by simp [gvl]
theorem gvl_one (k : AgeD) : gvl [k] = gX k := by simp [gvl]
theorem gvl_cells (l : List AgeD) : ∀ u ∈ gvl l, u.oneCell' = true := by
  intro u hu
  simp only [gvl, List.mem_flatMap, gX] at hu
  obtain ⟨k, _, hk⟩ := hu
  simp at hk
  rcases hk with rfl | rfl <;> rfl
theorem ages_len (l : List AgeD) : (l.flatMap gC).length = l.length * 2 := flat_len gC 2 l gC_len
theorem gC_map (l : List AgeD) : l.flatMap gC = (gvl l).map Dat.lit := by
  induction l with
  | nil => rfl
  | cons k l ih =>
    rw [gvl_cons, List.map_append, ← ih]
    rfl
theorem gdrop_at {l : List AgeD} {k : Nat} (h : k < l.length) : l.drop k = l[k] :: l.drop (k + 1) := List.drop_eq_getElem_cons h
/-- The two cells from place o of block b on hold the version k. -/
abbrev Two (w : World) (b o : Nat) (k : AgeD) : Prop := w.cell? ⟨b, o, none⟩ = some (.int .i64 k.a) ∧ w.cell? ⟨b, o + 1, none⟩ = some (.int .i64 k.b)
theorem Two.keep {w w' : World} {b o : Nat} {k : AgeD} (h : Two w b o k) (hb : w'.heap[b]? = w.heap[b]?) : Two w' b o k :=
  ⟨(World.cell?_of_block (a := ⟨b, o, none⟩) hb).trans h.1, (World.cell?_of_block (a := ⟨b, o + 1, none⟩) hb).trans h.2⟩
theorem Two.on {w w' : World} {b o : Nat} {k : AgeD} (h : Two w b o k) (hlt : b < w.heap.size) (hb : Below w.heap.size w w') : Two w' b o k := h.keep (hb.block b hlt)
theorem Reads.ages {w : World} {B : Nat} {A : Option Addr} {e n cap : Nat} {l : List AgeD} (h : Reads w B (.slice A n cap) (.row e 2 l.length (l.flatMap gC))) {i : Nat} (hi : i < l.length) :
    ∃ b off, A = some ⟨b, off, none⟩ ∧ b < B ∧ ∀ k (hk : k < l.length), Two w b (off + k * 2) l[k] := by
  obtain ⟨A', cap', hv, hn, hc, hl, _, k⟩ := h.row'
  cases hv
  rcases k with h | ⟨b, off, xs, rfl, hb, hx, hcell, hr⟩
  · have := congrArg List.length h
    rw [ages_len] at this; simp only [List.length_nil] at this; omega
  · refine ⟨b, off, rfl, hb, fun k hk => ?_⟩
    rw [ages_len] at hx
    have get : ∀ j, j < 2 → ∃ x c, w.cell? ⟨b, off + (k * 2 + j), none⟩ = some x ∧ (gC l[k])[j]? = some c ∧ Reads w B x c := by
      intro j hj
      have hlt := flat_lt (z := 2) hk hj
      have h1 := hr (k * 2 + j) (by omega) (by rw [ages_len]; omega)
      have h2 := hcell (k * 2 + j) (by omega)
      have h3 := flat_get gC 2 l gC_len k j hk hj
      rw [List.getElem?_eq_getElem (by rw [ages_len]; omega)] at h3
      exact ⟨_, _, h2, h3.symm, h1⟩
    obtain ⟨x0, c0, a0, b0, r0⟩ := get 0 (by omega)
    obtain ⟨x1, c1, a1, b1, r1⟩ := get 1 (by omega)
    simp [gC] at b0 b1
    subst b0 b1
    cases r0
    cases r1
    exact ⟨a0, a1⟩
theorem Reads.shapeG {w : World} {B : Nat} {v : Value} {e : TypeId} {l : List AgeD} (h : Reads w B v (.row e 2 l.length (l.flatMap gC))) : ∃ A cap, v = .slice A l.length cap ∧ l.length ≤ cap ∧ cap ≤ maxLen := by
  obtain ⟨A, cap, hv, hn, hc, _⟩ := h.row'
  exact ⟨A, cap, hv, hn, hc⟩
theorem Reads.atG {w : World} {B : Nat} {A : Option Addr} {e n cap : Nat} {l : List AgeD} (h : Reads w B (.slice A n cap) (.row e 2 l.length (l.flatMap gC))) : At w A (gvl l) := by
  obtain ⟨A', cap', hv, hn, hc, hl, _, k⟩ := h.row'
  cases hv
  rcases k with h | ⟨b, off, xs, rfl, hb, hx, hcell, hr⟩
  · left
    have := congrArg List.length h
    rw [ages_len] at this
    exact List.length_eq_zero_iff.1 (by rw [gvl_len]; simpa using this)
  · right
    refine ⟨b, off, rfl, ?_⟩
    have : xs = gvl l := lit_reads (by rw [hx, ages_len, gvl_len]) (by rw [← gC_map]; exact hr)
    subst this
    exact hcell
/-- The first N elements of a row read as the first N of the list. -/
theorem Reads.takeG {w : World} {B : Nat} {A : Option Addr} {e c : Nat} {l : List AgeD} (h : Reads w B (.slice A l.length c) (.row e 2 l.length (l.flatMap gC))) (N : Nat) (hN : N ≤ l.length) : Reads w B (.slice A N c) (.row e 2 (l.take N).length ((l.take N).flatMap gC)) := by
  have hl : (l.take N).length = N := by simp; omega
  rw [hl]
  obtain ⟨A', cap', hv, hn, hc, hll, _, k⟩ := h.row'
  cases hv
  refine Reads.ofBytes (xs := gvl (l.take N)) (by omega) hc (by rw [ages_len, hl]) (by omega) ?_
  by_cases h0 : N = 0
  · left; subst h0; simp
  · right
    obtain ⟨b, off, rfl, hb, ht⟩ := h.ages (i := 0) (by omega)
    refine ⟨b, off, rfl, hb, by rw [gvl_len, ages_len], fun i hi => ?_, fun i hi h' => ?_⟩
    · have hat := h.atG
      rcases hat with h1 | ⟨b', off', he, hcell⟩
      · have := congrArg List.length h1
        rw [gvl_len] at this; simp at this; omega
      · cases he
        have he2 : gvl l = gvl (l.take N) ++ gvl (l.drop N) := by rw [← gvl_append, List.take_append_drop]
        have hlt : i < (gvl l).length := by rw [he2, List.length_append]; omega
        rw [hcell i hlt]
        simp only [he2, List.getElem_append_left hi]
    · simp only [gC_map, List.getElem_map]
      exact .lit _
/-- A row of versions of the call's own, nil or in a block from base on. -/
def RowG (w : World) (base : Nat) (v : Value) (l : List AgeD) : Prop := w.ownsRow base 84 2 v l.length (gvl l)
theorem RowG.owns {w : World} {base : Nat} {v : Value} {l : List AgeD} (h : RowG w base v l) : Owns w (fun b => base ≤ b) v (agesD l) := by
  refine row_owns (h : w.ownsRow _ _ _ _ _ _) ?_ (ages_len l)
  rw [gC_map]
  exact lits_own _ _ _
theorem Owns.rowG {w : World} {S : Nat → Prop} {v : Value} {l : List AgeD} (h : Owns w S v (agesD l)) {base : Nat} (hS : ∀ b, S b → base ≤ b) : RowG w base v l := by
  rcases h.row' with ⟨rfl, h, _⟩ | ⟨g, cap, cur, xs, rfl, hg, hh, hn, hc, hs, hl, hx, ho⟩
  · have : l = [] := List.length_eq_zero_iff.1 h
    subst this
    exact row_nil _ _ _ _
  · have hr := ho.reads
    rw [gC_map] at hr
    have : xs = gvl l := lit_reads (by rw [hr.1]; simp) hr.2
    subst this
    exact ⟨gvl_len l, .inr ⟨g, cap, cur, rfl, hS g hg, hh, hn, hc, hs, hx⟩⟩
theorem RowG.shape {w : World} {base : Nat} {v : Value} {l : List AgeD} (h : RowG w base v l) : ∃ A cap, v = .slice A l.length cap ∧ l.length ≤ cap ∧ cap ≤ maxLen := h.owns.reads.shapeG
theorem RowG.on {w w' : World} {base : Nat} {v : Value} {l : List AgeD} (h : RowG w base v l) (hb : Below w.heap.size w w') : RowG w' base v l := row_on (h : w.ownsRow _ _ _ _ _ _) hb
theorem RowG.keep {w w' : World} {base : Nat} {v : Value} {l : List AgeD} (h : RowG w base v l) (hk : ∀ g, v.ownBlock = some g → w'.heap[g]? = w.heap[g]?) : RowG w' base v l := row_keep (h : w.ownsRow _ _ _ _ _ _) hk
theorem RowG.lt {w : World} {base : Nat} {v : Value} {l : List AgeD} (h : RowG w base v l) : ∀ g, v.ownBlock = some g → g < w.heap.size ∧ base ≤ g := row_lt (h : w.ownsRow _ _ _ _ _ _)
theorem RowG.mono {w : World} {base base' : Nat} {v : Value} {l : List AgeD} (h : RowG w base v l) (hb : base' ≤ base) : RowG w base' v l := h.owns.rowG (fun b hb' => by omega)
/-- A store into a block ahead of the row's. -/
theorem RowG.set {w : World} {base g j : Nat} {v u : Value} {l : List AgeD} (h : RowG w base v l) (hg : g < base) : RowG (w.setCell ⟨g, j, none⟩ u) base v l := h.keep (fun k hk => Below.heap_setCell _ _ _ _ (by have := (h.lt k hk).2; simp; omega))
theorem age_info : (Try.prog.info? 84).map (fun i => (i.zero, i.size, i.bytes)) = some (some (.agg #[.int .i64 0, .int .i64 0]), 2, 16) := by kernel_rfl
theorem RowG.made (w : World) (m : Nat) (hm : m ≤ 2097152) : RowG (w.alloc (.cells (madeCells #[.int .i64 0, .int .i64 0] (m * 2)) 84)) w.heap.size (.slice (some ⟨w.heap.size, 0, none⟩) 0 m) [] :=
  ⟨rfl, .inr ⟨w.heap.size, m, _, rfl, Nat.le_refl _, heap_alloc_new w _, Nat.zero_le _, by unfold maxLen; omega, by rw [size_madeCells], rfl⟩⟩
theorem RowG.lit (w : World) : RowG (w.alloc (.cells #[] 84)) w.heap.size (.slice (some ⟨w.heap.size, 0, none⟩) 0 0) [] := row_lit w 84 2
/-- append onto a row of the call's own. -/
theorem wpList_appG {ops : Array Oper} {rest : List Oper} {o : Oper} {a : Act} {Q : Exit → Act → World → Prop} (w : World) (hgd : o.guard = none) (s x : Operand)
    (hop : o.op = .call { callee := .builtin .append, args := #[s, x], argTypes := #[28, 28] })
    (base : Nat) (v : Value) (l : List AgeD) (hs : a.eval s = v) (hown : RowG w base v l) (A : Option Addr) (n c : Nat) (m : List AgeD) (hx : a.eval x = .slice A n c) (hmn : m.length = n) (hA : At w A (gvl m)) (hlen : l.length + m.length ≤ 1073741824) (hbase : base ≤ w.heap.size)
    (h : ∀ v' w', RowG w' base v' (l ++ m) → Below base w w' → wpList Try.prog ops Q rest (a.put o.dst v') w') : wpList Try.prog ops Q (o :: rest) a w := by
  subst hmn
  refine wpList_appV w hgd s x 28 84 2 16 (.agg #[.int .i64 0, .int .i64 0]) hop Try.underlying28 age_info rfl (by omega) (by omega) base l.length v (gvl l) hs hown A m.length c (gvl m) hx (gvl_len m) hA (gvl_cells m) hlen hbase ?_
  intro v' w' h2 h3 h4 h5
  refine h v' w' ?_ ?_
  · rw [← gvl_append, ← List.length_append] at h2
    exact h2
  · exact (Below.refl _ _).grown h3 hbase (fun k hk => (hown.lt k hk).2)
theorem At.age (w : World) (k : AgeD) (e : TypeId) : At (w.alloc (.cells #[.int .i64 k.a, .int .i64 k.b] e)) (some ⟨w.heap.size, 0, none⟩) (gvl [k]) := by
  refine .inr ⟨w.heap.size, 0, rfl, fun i hi => ?_⟩
  rw [cell_of_row _ _ _ _ _ _ (heap_alloc_new w _)]
  simp only [gvl_one, gX, List.length_cons, List.length_nil] at hi ⊢
  match i, hi with
  | 0, _ => rfl
  | 1, _ => rfl
theorem At.takeG {w : World} {A : Option Addr} {l : List AgeD} (h : At w A (gvl l)) (N : Nat) : At w A (gvl (l.take N)) := by
  rcases h with h | ⟨b, off, rfl, hc⟩
  · left
    have : l = [] := by
      have := congrArg List.length h
      rw [gvl_len] at this
      exact List.length_eq_zero_iff.1 (by simp at this; omega)
    subst this
    simp [gvl]
  · right
    have he : gvl l = gvl (l.take N) ++ gvl (l.drop N) := by rw [← gvl_append, List.take_append_drop]
    refine ⟨b, off, rfl, fun i hi => ?_⟩
    have hlt : i < (gvl l).length := by rw [he, List.length_append]; omega
    rw [hc i hlt]
    simp only [he, List.getElem_append_left hi]
/-- A row of ints of the call's own. -/
def RowI (w : World) (base : Nat) (v : Value) (l : List Int) : Prop := w.ownsRow base 3 1 v l.length (l.map iV)
theorem RowI.owns {w : World} {base : Nat} {v : Value} {l : List Int} (h : RowI w base v l) : Owns w (fun b => base ≤ b) v (intsD l) := by
  refine row_owns (h : w.ownsRow _ _ _ _ _ _) ?_ (by simp)
  have := lits_own w (fun b => base ≤ b ∧ v.ownBlock ≠ some b) (l.map iV)
  rwa [List.map_map] at this
theorem RowI.on {w w' : World} {base : Nat} {v : Value} {l : List Int} (h : RowI w base v l) (hb : Below w.heap.size w w') : RowI w' base v l := row_on (h : w.ownsRow _ _ _ _ _ _) hb
theorem RowI.lt {w : World} {base : Nat} {v : Value} {l : List Int} (h : RowI w base v l) : ∀ g, v.ownBlock = some g → g < w.heap.size ∧ base ≤ g := row_lt (h : w.ownsRow _ _ _ _ _ _)
theorem RowI.shape {w : World} {base : Nat} {v : Value} {l : List Int} (h : RowI w base v l) : ∃ A cap, v = .slice A l.length cap ∧ l.length ≤ cap ∧ cap ≤ maxLen := by
  obtain ⟨A, cap, hv, hn, hc, _⟩ := h.owns.reads.row'
  exact ⟨A, cap, hv, hn, hc⟩
theorem RowI.lit (w : World) : RowI (w.alloc (.cells #[] 3)) w.heap.size (.slice (some ⟨w.heap.size, 0, none⟩) 0 0) [] := row_lit w 3 1
theorem int_info7 : (Try.prog.info? 3).map (fun i => (i.zero, i.size, i.bytes)) = some (some (.int .i64 0), 1, 8) := by kernel_rfl
theorem wpList_appI {ops : Array Oper} {rest : List Oper} {o : Oper} {a : Act} {Q : Exit → Act → World → Prop} (w : World) (hgd : o.guard = none) (s x : Operand)
    (hop : o.op = .call { callee := .builtin .append, args := #[s, x], argTypes := #[24, 24] })
    (base : Nat) (v : Value) (l : List Int) (hs : a.eval s = v) (hown : RowI w base v l) (A : Option Addr) (n c : Nat) (m : List Int) (hx : a.eval x = .slice A n c) (hmn : m.length = n) (hA : At w A (m.map iV)) (hlen : l.length + m.length ≤ 1073741824) (hbase : base ≤ w.heap.size)
    (h : ∀ v' w', RowI w' base v' (l ++ m) → Below base w w' → wpList Try.prog ops Q rest (a.put o.dst v') w') : wpList Try.prog ops Q (o :: rest) a w := by
  subst hmn
  refine wpList_appV w hgd s x 24 3 1 8 (.int .i64 0) hop Try.underlying24 int_info7 rfl (by omega) (by omega) base l.length v (l.map iV) hs hown A m.length c (m.map iV) hx (by simp) hA (by intro u hu; simp only [List.mem_map] at hu; obtain ⟨n, _, rfl⟩ := hu; rfl) hlen hbase ?_
  intro v' w' h2 h3 h4 h5
  refine h v' w' ?_ ?_
  · rw [← List.map_append, ← List.length_append] at h2
    exact h2
  · exact (Below.refl _ _).grown h3 hbase (fun k hk => (hown.lt k hk).2)
theorem At.intOne (w : World) (n : Int) (e : TypeId) : At (w.alloc (.cells #[.int .i64 n] e)) (some ⟨w.heap.size, 0, none⟩) ([n].map iV) := by
  refine .inr ⟨w.heap.size, 0, rfl, fun i hi => ?_⟩
  rw [cell_of_row _ _ _ _ _ _ (heap_alloc_new w _)]
  simp only [List.map_cons, List.map_nil, List.length_cons, List.length_nil] at hi ⊢
  match i, hi with
  | 0, _ => rfl
def NewI (w : World) (l : List Int) (e : Ending) (w' : World) : Prop := ∃ v, e = .returned v ∧ RowI w' w.heap.size v l ∧ Below w.heap.size w w'
end Go.Proofs.Ythopkhpiikiknaa
namespace Go.Proofs.Ythopkhpiikiknaa
open Go.RowKit
set_option maxRecDepth 100000
set_option linter.unusedSimpArgs false
set_option linter.unusedVariables false

/-- The place of the first version id, or the length. -/
def ageI (l : List AgeD) (id : Int) : Nat := l.findIdx (fun x => x.a == id)
def ageAtK (l : List AgeD) (id : Int) : Int := if ageI l id < l.length then (ageI l id : Int) else -1
def hasG (l : List AgeD) (id : Int) : Bool := decide (ageI l id < l.length)
theorem ageAt_neg (l : List AgeD) (id : Int) : (decide (ageAtK l id < 0)) = !hasG l id := by
  unfold ageAtK hasG
  by_cases h : ageI l id < l.length
  · rw [if_pos h]; simp [h]
  · rw [if_neg h]; simp [h]
theorem ageAt_geq (l : List AgeD) (id : Int) : (decide (ageAtK l id ≥ 0)) = hasG l id := by
  unfold ageAtK hasG
  by_cases h : ageI l id < l.length
  · rw [if_pos h]; simp [h]
  · rw [if_neg h]; simp [h]
theorem ageI_le (l : List AgeD) (id : Int) : ageI l id ≤ l.length := List.findIdx_le_length
theorem ageI_step {l : List AgeD} {k : Nat} {id : Int} (h : k < l.length) (hp : ((l[k]).a == id) = false) (hf : ageI l id = k + ageI (l.drop k) id) : ageI l id = (k + 1) + ageI (l.drop (k + 1)) id := by
  rw [gdrop_at h] at hf
  unfold ageI at hf ⊢
  rw [List.findIdx_cons, hp] at hf
  simp only [cond_false] at hf
  omega
theorem ageI_hit {l : List AgeD} {k : Nat} {id : Int} (h : k < l.length) (hp : ((l[k]).a == id) = true) (hf : ageI l id = k + ageI (l.drop k) id) : ageI l id = k := by
  rw [gdrop_at h] at hf
  unfold ageI at hf ⊢
  rw [List.findIdx_cons, hp] at hf
  simpa using hf
theorem ageI_get {l : List AgeD} {id : Int} (h : ageI l id < l.length) : (l[ageI l id]).a = id := by
  have h1 := List.findIdx_getElem (p := fun x : AgeD => x.a == id) (xs := l) (w := h)
  have h2 : (l[l.findIdx (fun x => x.a == id)]'h).a = id := by simpa using h1
  exact h2
def parGB (l : List AgeD) (i : Nat) (f : Int) : Bool := f == 0 || hasG (l.take i) f
def idG (n : Int) : Bool := decide (1 ≤ n) && decide (n ≤ 60)
def riseG (l : List AgeD) : Bool := decide (∀ i (h : i < l.length - 1), (l[i]'(by omega)).a < (l[i + 1]'(by omega)).a)
/-- The version at place i has an Id in range and a parent ahead. -/
def fitG (l : List AgeD) (i : Nat) : Bool := match l[i]? with | none => true | some x => idG x.a && parGB l i x.b
def agesOkB (l : List AgeD) : Bool := decide (∀ i, i < l.length → fitG l i = true) && riseG l && decide (l.length ≤ 16)
/-- The place of the first version whose Id is not less. -/
def plG (l : List AgeD) (id : Int) : Nat := l.findIdx (fun x => !decide (x.a < id))
def insG (l : List AgeD) (x : AgeD) : List AgeD := l.take (plG l x.a) ++ x :: l.drop (plG l x.a)
def newOk (l : List AgeD) (id f : Int) : Bool := !hasG l id && agesOkB (insG l ⟨id, f⟩)
def newK (l : List AgeD) (id f : Int) : List AgeD := if newOk l id f then insG l ⟨id, f⟩ else l
def parG (l : List AgeD) (id : Int) : Int := match l[ageI l id]? with | none => 0 | some x => x.b
theorem plG_le (l : List AgeD) (id : Int) : plG l id ≤ l.length := List.findIdx_le_length
theorem insG_len (l : List AgeD) (x : AgeD) : (insG l x).length = l.length + 1 := by
  have := plG_le l x.a
  unfold insG
  simp
  omega
theorem newK_len (l : List AgeD) (id f : Int) : (newK l id f).length ≤ l.length + 1 := by
  unfold newK
  split
  · rw [insG_len]
    omega
  · omega
/-- Who is not there is of no version's Id. -/
theorem no_has {l : List AgeD} {id : Int} (h : hasG l id = false) : ∀ x ∈ l, (x.a == id) = false := by
  unfold hasG at h
  have h2 : ageI l id = l.length := by
    have := ageI_le l id
    have := of_decide_eq_false h
    omega
  intro x hx
  unfold ageI at h2
  rw [List.findIdx_eq_length] at h2
  exact h2 x hx
end Go.Proofs.Ythopkhpiikiknaa
namespace Go.Proofs.Ythopkhpiikiknaa
open Go.RowKit
set_option maxRecDepth 100000
set_option linter.unusedSimpArgs false
set_option linter.unusedVariables false

theorem l1InG_any (a lo hi : Int) (w : World) : Calls Try.prog 117 #[.int .i64 a, .int .i64 lo, .int .i64 hi] w fun e w' => e = .returned (.bool (decide (lo ≤ a) && decide (a ≤ hi))) ∧ w = w' := by
  by_cases h1 : lo ≤ a
  · by_cases h2 : a ≤ hi
    · rw [decide_eq_true h1, decide_eq_true h2]
      go_enter Try.func117, Try.ntmps117
      go_wp2
      go_ret
      exact ⟨rfl, rfl⟩
    · have h3 : hi < a := by omega
      rw [decide_eq_true h1, decide_eq_false h2]
      go_enter Try.func117, Try.ntmps117
      go_wp2
      go_ret
      exact ⟨rfl, rfl⟩
  · have h3 : a < lo := by omega
    rw [decide_eq_false h1, Bool.false_and]
    go_enter Try.func117, Try.ntmps117
    go_wp2
    go_ret
    exact ⟨rfl, rfl⟩
def SaysG (w : World) (n : Int) (e : Ending) (w' : World) : Prop := e = .returned (.int .i64 n) ∧ Below w.heap.size w w'
set_option maxHeartbeats 1000000 in
theorem implAgeAt_any (v : Value) (l : List AgeD) (d : Int) (w : World) (hv : Reads w w.heap.size v (agesD l)) (hn : l.length ≤ 2097152) : Calls Try.prog 18 #[v, .int .i64 d] w (SaysG w (ageAtK l d)) := by
  obtain ⟨A, c, rfl, _, _⟩ := hv.shapeG
  obtain ⟨N, hN⟩ : ∃ N, ageAtK l d = N := ⟨_, rfl⟩
  rw [hN]
  have HN := Lib.hid hN
  have HV := Lib.hid hv
  clear hv hN
  go_enter Try.func18, Try.ntmps18
  go_wp2
  go_loopw [5, 6, 9] (fun _ _ i wr => ∃ k : Nat, k ≤ l.length ∧ i = .int .i64 k ∧ Hid (ageI l d = k + ageI (l.drop k) d) ∧ Hid (Below w.heap.size w wr)) (fun _ _ i _ => l.length - (intOf i).toNat)
  case atStart => exact ⟨0, Nat.zero_le _, rfl, Lib.hid (by simp), Lib.hid (Below.refl _ _)⟩
  case round =>
    obtain ⟨k, hk, rfl, HI, HW⟩ := hrel
    have hzr := HW.out.size
    by_cases hlt : k < l.length
    · obtain ⟨b, off, rfl, hbb, hc⟩ := (HV.out.on HW.out).ages hlt
      have i1 : (k : Int) < (l.length : Int) := by omega
      have i2 : (0 : Int) ≤ (k : Int) := by omega
      obtain ⟨c0, c1⟩ := hc k hlt
      have BA := Lib.hid (HW.out.trans ((bal1 wr (.cells #[.int .i64 (l[k]).a, .int .i64 (l[k]).b] 84)).mono hzr))
      clear hc
      cases hs : ((l[k]).a == d)
      · have HS := Lib.hid hs
        go_wp2
        go_roundw
        case rel => exact ⟨k + 1, by omega, by go_num, Lib.hid (ageI_step hlt HS.out HI.out), BA⟩
        case measure => simp [intOf]; omega
      · have HS := Lib.hid hs
        go_wp2
        go_ret
        exact ⟨ret_intB (by rw [← HN.out]; unfold ageAtK; rw [ageI_hit hlt HS.out HI.out, if_pos hlt]), BA.out⟩
    · go_wp2
      go_ret
      refine ⟨ret_intB ?_, HW.out⟩
      rw [← HN.out]
      unfold ageAtK
      rw [if_neg (by rw [HI.out]; omega)]
set_option maxHeartbeats 1000000 in
theorem specAgeAt_any (v : Value) (l : List AgeD) (d : Int) (w : World) (hv : Reads w w.heap.size v (agesD l)) (hn : l.length ≤ 2097152) : Calls Try.prog 80 #[v, .int .i64 d] w fun e w' => e = .returned (.int .i64 (ageAtK l d)) ∧ w = w' := by
  obtain ⟨A, c, rfl, _, _⟩ := hv.shapeG
  obtain ⟨N, hN⟩ : ∃ N, ageAtK l d = N := ⟨_, rfl⟩
  rw [hN]
  have HN := Lib.hid hN
  have HV := Lib.hid hv
  clear hv hN
  go_enter Try.func80, Try.ntmps80
  go_wp2
  go_loop [5] (fun i => ∃ k : Nat, k ≤ l.length ∧ i = .int .i64 k ∧ Hid (ageI l d = k + ageI (l.drop k) d)) (fun i => l.length - (intOf i).toNat)
  case atStart => exact ⟨0, Nat.zero_le _, rfl, Lib.hid (by simp)⟩
  case round =>
    obtain ⟨k, hk, rfl, HI⟩ := hrel
    by_cases hlt : k < l.length
    · obtain ⟨b, off, rfl, hbb, hc⟩ := HV.out.ages hlt
      have i1 : (k : Int) < (l.length : Int) := by omega
      have i2 : (0 : Int) ≤ (k : Int) := by omega
      obtain ⟨c0, c1⟩ := hc k hlt
      clear hc
      cases hs : ((l[k]).a == d)
      · have HS := Lib.hid hs
        go_wp2
        go_round
        case rel => exact ⟨k + 1, by omega, by go_num, Lib.hid (ageI_step hlt HS.out HI.out)⟩
        case measure => simp [intOf]; omega
      · have HS := Lib.hid hs
        go_wp2
        go_ret
        exact ⟨ret_intB (by rw [← HN.out]; unfold ageAtK; rw [ageI_hit hlt HS.out HI.out, if_pos hlt]), rfl⟩
    · go_wp2
      go_ret
      refine ⟨ret_intB ?_, rfl⟩
      rw [← HN.out]
      unfold ageAtK
      rw [if_neg (by rw [HI.out]; omega)]
/-- What a loop that appends ints to a row of its own holds on to. -/
def GrowI (w wr : World) (o : Value) (m : List Int) : Prop := RowI wr w.heap.size o m ∧ Below w.heap.size w wr
end Go.Proofs.Ythopkhpiikiknaa
namespace Go.Proofs.Ythopkhpiikiknaa
open Go.RowKit
set_option maxRecDepth 100000
set_option linter.unusedSimpArgs false
set_option linter.unusedVariables false

theorem gfit_at {l : List AgeD} {k : Nat} (h : k < l.length) : fitG l k = (idG (l[k]).a && parGB l k (l[k]).b) := by
  unfold fitG
  rw [List.getElem?_eq_getElem h]
theorem fit_miss {l : List AgeD} {k : Nat} (h : k < l.length) (hf : fitG l k = false) : agesOkB l = false := by
  unfold agesOkB
  rw [decide_eq_false (fun hh => by rw [hh k h] at hf; cases hf)]
  rfl
theorem rise_miss {l : List AgeD} {j : Nat} (h : j + 1 < l.length) (hf : ¬ (l[j]).a < (l[j + 1]).a) : agesOkB l = false := by
  unfold agesOkB riseG
  rw [decide_eq_false (p := ∀ i (h : i < l.length - 1), (l[i]'(by omega)).a < (l[i + 1]'(by omega)).a) (fun hh => hf (hh j (by omega)))]
  simp
theorem fit_step {l : List AgeD} {k : Nat} (h : ∀ j, j < k → fitG l j = true) (hf : fitG l k = true) : ∀ j, j < k + 1 → fitG l j = true := by
  intro j hj
  by_cases h2 : j < k
  · exact h j h2
  · have : j = k := by omega
    subst this
    exact hf
/-- l1In at the range of an Id. -/
theorem inG_any (a : Int) (w : World) : Calls Try.prog 117 #[.int .i64 a, .int .i64 1, .int .i64 60] w (SaysBool w (idG a)) :=
  (l1InG_any a 1 60 w).mono (fun _ _ h => ⟨h.1, h.2 ▸ Below.refl _ _⟩)
theorem specAgeAtB (v : Value) (l : List AgeD) (d : Int) (w : World) (hv : Reads w w.heap.size v (agesD l)) (hn : l.length ≤ 2097152) : Calls Try.prog 80 #[v, .int .i64 d] w (SaysG w (ageAtK l d)) :=
  (specAgeAt_any v l d w hv hn).mono (fun _ _ h => ⟨h.1, h.2 ▸ Below.refl _ _⟩)
end Go.Proofs.Ythopkhpiikiknaa
namespace Go.Proofs.Ythopkhpiikiknaa
open Go.RowKit
set_option maxRecDepth 100000
set_option linter.unusedSimpArgs false
set_option linter.unusedVariables false

/-- What a loop that appends versions to a row of its own holds on to. -/
def GrowG (w wr : World) (o : Value) (m : List AgeD) : Prop := RowG wr w.heap.size o m ∧ Below w.heap.size w wr
theorem GrowG.on {w wr w' : World} {o : Value} {m : List AgeD} (h : GrowG w wr o m) (hb : Below wr.heap.size wr w') : GrowG w w' o m := ⟨h.1.on hb, bstep h.2 hb⟩
end Go.Proofs.Ythopkhpiikiknaa
