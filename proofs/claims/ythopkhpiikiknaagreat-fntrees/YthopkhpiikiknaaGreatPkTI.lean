/- Several texts in one: TreeNew, DrawA, DrawB, DrawKey, DrawSet, Last4, DrawNode, DrawTree, DrawTree2, TreesMath, TreesMath2, TreesMath3, DrawNode2, SameTree, Trees. -/
import Derived.Laws.BitsAllLaws
import Derived.Laws.BitsLemmas
import Derived.Deep.DeepCutAuto
import Derived.Test.YthopkhpiikiknaaGreatPkTH
namespace Go.Proofs.YthopkhpiikiknaaGreat
open Go.RowKit
set_option maxRecDepth 100000
set_option linter.unusedSimpArgs false
set_option linter.unusedVariables false

theorem one_int {w : World} {S : Nat → Prop} {g : Nat} {n : Int} (h : w.heap[g]? = some (.cells #[.int .i64 n] 3 (0, 0))) (hS : S g) : Owns w S (.slice (some ⟨g, 0, none⟩) 1 1) (intsD [n]) :=
  OwnsL.row (xs := [iV n]) hS h (Nat.le_refl _) (by unfold maxLen; omega) rfl rfl rfl (.one (.lit _ _))
theorem one_node {w : World} {S T : Nat → Prop} {g : Nat} {v : Value} {ns : NodeD} (h : w.heap[g]? = some (.cells #[v] 62 (0, 0))) (hS : S g) (ho : Owns w T v (setsD ns)) (hT : ∀ b, T b → S b ∧ b ≠ g) : Owns w S (.slice (some ⟨g, 0, none⟩) 1 1) (nodesD [ns]) :=
  OwnsL.row (xs := [v]) hS h (Nat.le_refl _) (by unfold maxLen; omega) rfl rfl rfl (.one (ho.mono hT))
theorem specTreeNew_any (w : World) : Calls Tryz.prog 69 #[] w (NewTS w [0] [[]]) := by
  go_enter Tryz.func69, Tryz.ntmps69
  go_wp2
  obtain ⟨q0, q1, q2⟩ := al3 w (.cells #[.slice (some ⟨w.heap.size + 1, 0, none⟩) 1 1, .slice (some ⟨w.heap.size + 1 + 1, 0, none⟩) 1 1] 27) (.cells #[.int .i64 0] 3) (.cells #[.slice none 0 0] 62)
  obtain ⟨x0, x1, x2⟩ := box2 q0
  refine bodyPost_ret (v := .agg #[.slice (some ⟨w.heap.size + 1, 0, none⟩) 1 1, .slice (some ⟨w.heap.size + 1 + 1, 0, none⟩) 1 1]) (by simp [results, Tryz.results69, go_sem, x0, x1]) rfl ⟨_, _, rfl, ⟨fun b => b = w.heap.size + 1, fun b => b = w.heap.size + 1 + 1, fun b hb => by omega, fun b hb => by omega, fun b hb hb' => by omega, one_int q1 rfl, one_node (T := fun _ => False) q2 rfl (.nil _ _ _) (fun _ h => h.elim)⟩, bal3 _ _ _ _⟩
end Go.Proofs.YthopkhpiikiknaaGreat
namespace Go.Proofs.YthopkhpiikiknaaGreat
open Go.RowKit
set_option maxRecDepth 100000
set_option linter.unusedSimpArgs false
set_option linter.unusedVariables false

/-- Block p holds a cursor over bytes that lie below it. -/
def Cur (w : World) (p : Nat) : Prop :=
  ∃ (A : Option Addr) (cap : Nat) (l : List UInt8) (i : Nat) (h : Int), w.heap[p]? = some (.cells #[.slice A l.length cap, .int .i64 i, .int .i64 h] 91 (0, 0)) ∧ Rd w p A l ∧ i ≤ l.length ∧ l.length ≤ 1048576
theorem Cur.lt {w : World} {p : Nat} (h : Cur w p) : p < w.heap.size := by
  obtain ⟨A, cap, l, i, h, hg, _⟩ := h
  exact (Array.getElem?_eq_some_iff.1 hg).1
theorem Cur.keep {w w' : World} {p : Nat} (h : Cur w p) (hk : ∀ k, k ≤ p → w'.heap[k]? = w.heap[k]?) : Cur w' p := by
  obtain ⟨A, cap, l, i, h, hg, hr, r⟩ := h
  exact ⟨A, cap, l, i, h, (hk p (Nat.le_refl _)).trans hg, hr.keep (fun k hk' => hk k (by omega)), r⟩
theorem Cur.on {w w' : World} {p : Nat} (h : Cur w p) (hb : Below w.heap.size w w') : Cur w' p := h.keep (fun k hk => hb.block k (by have := h.lt; omega))

theorem and255 (y : Int) : 0 ≤ bits .and .i64 y 255 ∧ bits .and .i64 y 255 ≤ 255 := by
  have e : bits .and .i64 y 255 = IntKind.i64.wrap ((BitVec.ofInt 64 y &&& BitVec.ofInt 64 ((255 : Nat) : Int)).toNat : Int) := rfl
  have h : (BitVec.ofInt 64 y &&& BitVec.ofInt 64 ((255 : Nat) : Int)).toNat ≤ 255 := by
    rw [BitVec.toNat_and, BitVec.ofInt_natCast, BitVec.toNat_ofNat]
    exact Nat.and_le_right
  rw [e, IntKind.wrap_i64]
  omega
set_option maxRecDepth 100000 in
theorem l1New_any (A : Option Addr) (cap : Nat) (l : List UInt8) (w : World) (hr : Rd w w.heap.size A l) (hn : l.length ≤ 1048576) :
    Calls Tryz.prog 30 #[.slice A l.length cap] w fun e w' => ∃ p, e = .returned (.pointer (some ⟨p, 0, none⟩)) ∧ Cur w' p ∧ w.heap.size ≤ p ∧ Below w.heap.size w w' := by
  go_enter Tryz.func30, Tryz.ntmps30
  go_wp2
  go_loop [3, 4] (fun h i => ∃ (k : Nat) (x : Int), k ≤ l.length ∧ i = .int .i64 k ∧ h = .int .i64 x) (fun _ i => l.length - (intOf i).toNat)
  case atStart => exact ⟨0, _, by omega, rfl, rfl⟩
  case round =>
    obtain ⟨k, x, hk, rfl, rfl⟩ := hrel
    by_cases hlt : k < l.length
    · by_cases h4 : k < 4000
      · obtain ⟨b, off, rfl, hbb, hc⟩ := hr.at_ hlt
        have c1 := hc k hlt
        clear hc hr
        go_wp2
        go_round
        case rel => exact ⟨k + 1, _, by omega, by go_num, rfl⟩
        case measure => simp [intOf]; omega
      · go_wp2
        go_ret
        exact ⟨w.heap.size, rfl, ⟨A, cap, l, 0, x, heap_alloc_new w _, (hr.below ((Below.refl _ _).alloc (Nat.le_refl _) _)), by omega, hn⟩, Nat.le_refl _, (Below.refl _ _).alloc (Nat.le_refl _) _⟩
    · go_wp2
      go_ret
      exact ⟨w.heap.size, rfl, ⟨A, cap, l, 0, x, heap_alloc_new w _, (hr.below ((Below.refl _ _).alloc (Nat.le_refl _) _)), by omega, hn⟩, Nat.le_refl _, (Below.refl _ _).alloc (Nat.le_refl _) _⟩

theorem blk_set {w : World} {p i : Nat} {cs : Array Value} {t : TypeId} (h : w.heap[p]? = some (.cells cs t (0, 0))) (u : Value) : (w.setCell ⟨p, i, none⟩ u).heap[p]? = some (.cells (cs.setIfInBounds i u) t (0, 0)) := heap_setCell_same w p i cs t u h
theorem only_draw {a w : World} {row : Option Nat} (h : a.grownBy w row) (n : Nat) : a.grownBy (w.drewN n) row := ⟨h.os, h.tape, h.output, h.size, h.block⟩
theorem only_draw1 {a w : World} {row : Option Nat} (h : a.grownBy w row) : a.grownBy w.drew row := ⟨h.os, h.tape, h.output, h.size, h.block⟩
theorem cur2 {w : World} {A : Option Addr} {p cap i n : Nat} {l : List UInt8} {h h2 : Int} (hg : w.heap[p]? = some (.cells #[.slice A l.length cap, .int .i64 i, .int .i64 h] 91 (0, 0))) (hr : Rd w p A l) (hi : i + 1 ≤ l.length) (hn : l.length ≤ 1048576) :
    Cur (((w.setCell ⟨p, 2, none⟩ (.int .i64 h2)).drewN n).setCell ⟨p, 1, none⟩ (.int .i64 ((i : Int) + 1))) p ∧ w.grownBy (((w.setCell ⟨p, 2, none⟩ (.int .i64 h2)).drewN n).setCell ⟨p, 1, none⟩ (.int .i64 ((i : Int) + 1))) (some p) := by
  have g2 := blk_set (i := 2) hg (.int .i64 h2)
  have g3 : ((w.setCell ⟨p, 2, none⟩ (.int .i64 h2)).drewN n).heap[p]? = _ := g2
  have g4 := blk_set (i := 1) g3 (.int .i64 ((i : Int) + 1))
  have gr := only_set (j := 1) (only_draw (only_set (j := 2) (World.grownBy.refl w (some p)) (.int .i64 h2)) n) (.int .i64 ((i : Int) + 1))
  exact ⟨⟨A, cap, l, i + 1, h2, g4, hr.keep (fun k hk => gr.block k (by have := (Array.getElem?_eq_some_iff.1 hg).1; omega) (fun e => by injection e with e; omega)), hi, hn⟩, gr⟩
theorem cur1 {w : World} {A : Option Addr} {p cap i n m : Nat} {l : List UInt8} {h h2 : Int} (hg : w.heap[p]? = some (.cells #[.slice A l.length cap, .int .i64 i, .int .i64 h] 91 (0, 0))) (hr : Rd w p A l) (hi : i ≤ l.length) (hn : l.length ≤ 1048576) :
    Cur (((w.setCell ⟨p, 2, none⟩ (.int .i64 h2)).drewN n).drewN m) p ∧ w.grownBy (((w.setCell ⟨p, 2, none⟩ (.int .i64 h2)).drewN n).drewN m) (some p) := by
  have g2 := blk_set (i := 2) hg (.int .i64 h2)
  have gr := only_draw (only_draw (only_set (j := 2) (World.grownBy.refl w (some p)) (.int .i64 h2)) n) m
  exact ⟨⟨A, cap, l, i, h2, g2, hr.keep (fun k hk => gr.block k (by have := (Array.getElem?_eq_some_iff.1 hg).1; omega) (fun e => by injection e with e; omega)), hi, hn⟩, gr⟩
def AByte (w : World) (p : Nat) (e : Ending) (w' : World) : Prop := ∃ x : Int, 0 ≤ x ∧ x ≤ 255 ∧ e = .returned (.int .i64 x) ∧ Cur w' p ∧ w.grownBy w' (some p)
set_option maxRecDepth 100000 in
theorem l1Byte_any (p : Nat) (w : World) (hc : Cur w p) : Calls Tryz.prog 98 #[.pointer (some ⟨p, 0, none⟩)] w (AByte w p) := by
  obtain ⟨A, cap, l, i, h, hg, hr, hi, hn⟩ := hc
  have c0 : w.cell? ⟨p, 0, none⟩ = some (.slice A l.length cap) := by rw [cell_of_row w p 0 _ _ _ hg]; rfl
  have c1 : w.cell? ⟨p, 1, none⟩ = some (.int .i64 i) := by rw [cell_of_row w p 1 _ _ _ hg]; rfl
  have c2 : w.cell? ⟨p, 2, none⟩ = some (.int .i64 h) := by rw [cell_of_row w p 2 _ _ _ hg]; rfl
  have f1 : w.frozen? ⟨p, 1, none⟩ = false := frozen_of_row w p 1 _ _ hg
  have f2 : w.frozen? ⟨p, 2, none⟩ = false := frozen_of_row w p 2 _ _ hg
  have HG := Lib.hid hg
  clear hg
  by_cases hlt : i < l.length
  · obtain ⟨b, off, rfl, hbb, hcc⟩ := hr.at_ hlt
    have c3 := hcc i hlt
    have hne : ¬ b = p := by omega
    have HR := Lib.hid hr
    clear hcc hr
    obtain ⟨x0, x1⟩ := u8_le l[i]
    generalize l[i] = x at c3 x0 x1
    go_enter Tryz.func98, Tryz.ntmps98
    go_wp2
    generalize wrap64 (wrap64 (h * 6364136223846793005) + 1442695040888963407) = h2
    go_quiet (fail)
    go_wp2
    have ha := and255 (bits .xor .i64 (h2 / 8589934592) (h2 / 140737488355328))
    generalize bits .and .i64 (bits .xor .i64 (h2 / 8589934592) (h2 / 140737488355328)) 255 = y at ha ⊢
    obtain ⟨y0, y1⟩ := ha
    have hid : (i : Int) < (l.length : Int) := by omega
    go_quiet (fail)
    go_wp2
    go_quiet (fail)
    go_wp2
    have ha := and255 (y + (x.toNat : Int))
    generalize bits .and .i64 (y + (x.toNat : Int)) 255 = z at ha ⊢
    obtain ⟨z0, z1⟩ := ha
    go_ret
    exact ⟨z, z0, z1, rfl, cur2 HG.out HR.out (by omega) hn⟩
  · have HR := Lib.hid hr
    clear hr
    have hid : decide ((i : Int) < (l.length : Int)) = false := decide_eq_false (by omega)
    go_enter Tryz.func98, Tryz.ntmps98
    go_wp2
    generalize wrap64 (wrap64 (h * 6364136223846793005) + 1442695040888963407) = h2
    go_quiet (fail)
    go_wp2
    have ha := and255 (bits .xor .i64 (h2 / 8589934592) (h2 / 140737488355328))
    generalize bits .and .i64 (bits .xor .i64 (h2 / 8589934592) (h2 / 140737488355328)) 255 = y at ha ⊢
    obtain ⟨y0, y1⟩ := ha
    go_quiet (fail)
    go_wp2
    go_ret
    exact ⟨y, y0, y1, rfl, cur1 HG.out HR.out hi hn⟩

theorem only_trans {a b c : World} {row : Option Nat} (h : a.grownBy b row) (k : b.grownBy c row) : a.grownBy c row :=
  ⟨k.os.trans h.os, k.tape.trans h.tape, k.output.trans h.output, Nat.le_trans h.size k.size, fun i hi hne => (k.block i (Nat.lt_of_lt_of_le hi h.size) hne).trans (h.block i hi hne)⟩
def ABelow (w : World) (p : Nat) (m : Int) (e : Ending) (w' : World) : Prop := ∃ j : Nat, (j : Int) < m ∧ e = .returned (.int .i64 (j : Int)) ∧ Cur w' p ∧ w.grownBy w' (some p)
theorem toNat_mod {x m : Int} (_h0 : 0 ≤ x) (hm : 0 < m) : ((x % m).toNat : Int) < m ∧ ((x % m).toNat : Int) = x % m := by
  have h1 := Int.emod_nonneg x (show m ≠ 0 by omega)
  have h2 := Int.emod_lt_of_pos x hm
  omega
set_option maxRecDepth 100000 in
theorem l1Below_any (p : Nat) (m : Int) (w : World) (hc : Cur w p) (hm : 0 < m) (hm2 : m ≤ 1099511627776) : Calls Tryz.prog 64 #[.pointer (some ⟨p, 0, none⟩), .int .i64 m] w (ABelow w p m) := by
  have d0 : decide (m ≤ 0) = false := decide_eq_false (by omega)
  by_cases h256 : m ≤ 256
  · go_enter Tryz.func64, Tryz.ntmps64
    go_wp2_with fail
    refine (l1Byte_any p _ hc).mono ?_
    rintro e w1 ⟨x, x0, x1, rfl, hc1, hg1⟩
    have HX := Lib.hid (toNat_mod x0 hm)
    go_wp2
    go_ret
    exact ⟨(x % m).toNat, HX.out.1, ret_intB HX.out.2.symm, hc1, hg1⟩
  · go_enter Tryz.func64, Tryz.ntmps64
    go_wp2_with fail
    refine (l1Byte_any p _ hc).mono ?_
    rintro e w1 ⟨x, x0, x1, rfl, hc1, hg1⟩
    go_wp2_with fail
    refine (l1Byte_any p _ hc1).mono ?_
    rintro e w2 ⟨y, y0, y1, rfl, hc2, hg2⟩
    go_wp2_with fail
    refine (l1Byte_any p _ hc2).mono ?_
    rintro e w3 ⟨z, z0, z1, rfl, hc3, hg3⟩
    have HX := Lib.hid (toNat_mod (x := x * 65536 + y * 256 + z) (by omega) hm)
    go_wp2
    go_ret
    exact ⟨((x * 65536 + y * 256 + z) % m).toNat, HX.out.1, ret_intB HX.out.2.symm, hc3, only_trans (only_trans hg1 hg2) hg3⟩
/-- In w, from the head of block b on, lie the values xs. -/
def Lies (w : World) (b : Nat) (xs : List Value) : Prop := ∀ i (h : i < xs.length), w.cell? ⟨b, i, none⟩ = some xs[i]
theorem Lies.far {w w' : World} {b p : Nat} {xs : List Value} (h : Lies w b xs) (hg : w.grownBy w' (some p)) (hb : b < w.heap.size) (hne : b ≠ p) : Lies w' b xs :=
  fun i hi => (World.cell?_of_block (a := ⟨b, i, none⟩) (hg.block b hb (fun e => hne (by injection e)))).trans (h i hi)
theorem Lies.new (w : World) (xs : List Value) (t : TypeId) : Lies (w.alloc (.cells xs.toArray t)) w.heap.size xs := by
  intro i hi
  rw [cell_of_row _ _ _ _ _ _ (heap_alloc_new w _)]
  simp [hi]
def AnInt (w : World) (p : Nat) (ws : List Int) (e : Ending) (w' : World) : Prop := ∃ x, x ∈ ws ∧ e = .returned (.int .i64 x) ∧ Cur w' p ∧ w.grownBy w' (some p)
theorem l1Int_any (p b cap : Nat) (ws : List Int) (w : World) (hc : Cur w p) (hl : Lies w b (ws.map (.int .i64 ·))) (hb : b < w.heap.size) (hne : b ≠ p) (h0 : 0 < ws.length) (hn : ws.length ≤ 1048576) :
    Calls Tryz.prog 63 #[.pointer (some ⟨p, 0, none⟩), .slice (some ⟨b, 0, none⟩) ws.length cap] w (AnInt w p ws) := by
  go_enter Tryz.func63, Tryz.ntmps63
  go_wp2_with fail
  refine (l1Below_any p ws.length _ hc (by omega) (by omega)).mono ?_
  rintro e w1 ⟨j, hj, rfl, hc1, hg1⟩
  have hj2 : j < ws.length := by omega
  have c1 := (hl.far hg1 hb hne) j (by simpa using hj2)
  simp only [List.getElem_map] at c1
  go_wp2
  go_ret
  exact ⟨ws[j], List.getElem_mem _, rfl, hc1, hg1⟩
theorem Cur.alloc {w : World} {p : Nat} (h : Cur w p) (o : Obj) : Cur (w.alloc o) p := h.on ((Below.refl _ _).alloc (Nat.le_refl _) _)
theorem only_alloc {a w : World} {row : Option Nat} (h : a.grownBy w row) (o : Obj) : a.grownBy (w.alloc o) row :=
  ⟨h.os, h.tape, h.output, Nat.le_trans h.size (by simp), fun i hi hne => (Below.heap_alloc w o i (Nat.lt_of_lt_of_le hi h.size)).trans (h.block i hi hne)⟩
theorem only_start (w : World) (o : Obj) (row : Option Nat) : w.grownBy (w.alloc o) row := only_alloc (World.grownBy.refl w row) o
theorem Cur.far {w w' : World} {p g : Nat} (h : Cur w p) (hg : w.grownBy w' (some g)) (hlt : p < g) : Cur w' p :=
  h.keep (fun k hk => hg.block k (by have := h.lt; omega) (fun e => by injection e with e; omega))
end Go.Proofs.YthopkhpiikiknaaGreat
namespace Go.Proofs.YthopkhpiikiknaaGreat
open Go.RowKit
set_option maxRecDepth 100000
set_option linter.unusedSimpArgs false
set_option linter.unusedVariables false

theorem below_of_only {w w1 w2 : World} {p : Nat} (hb : Below w.heap.size w w1) (hg : w1.grownBy w2 (some p)) (hp : w.heap.size ≤ p) : Below w.heap.size w w2 :=
  hb.grown hg hb.size (fun k hk => by injection hk with hk; omega)
theorem big_any (A : Option Addr) (cap n : Nat) (w : World) : Calls Tryz.prog 5 #[.slice A n cap] w fun e w' => e = .returned (.bool (decide ((1048576 : Int) < (n : Int)))) ∧ w = w' := by
  go_enter Tryz.func5, Tryz.ntmps5
  go_wp2
  go_ret
  exact ⟨rfl, rfl⟩
end Go.Proofs.YthopkhpiikiknaaGreat
namespace Go.Proofs.YthopkhpiikiknaaGreat
open Go.RowKit
set_option maxRecDepth 100000
set_option linter.unusedSimpArgs false
set_option linter.unusedVariables false

def SmallK (a b c d e : Int) : Prop := (0 ≤ a ∧ a ≤ 3) ∧ (1 ≤ b ∧ b ≤ 5) ∧ keyOkB a b c d e = true
def AKey (w : World) (p : Nat) (r : Ending) (w' : World) : Prop := ∃ a b c d e, r = .returned (keyV a b c d e) ∧ SmallK a b c d e ∧ Cur w' p ∧ w.grownBy w' (some p)
theorem only_setNew {a w : World} {p g j : Nat} (h : a.grownBy w (some p)) (hg : a.heap.size ≤ g) (u : Value) : a.grownBy (w.setCell ⟨g, j, none⟩ u) (some p) :=
  ⟨h.os, h.tape, h.output, by simpa [World.setCell] using h.size, fun i hi hne => (Below.heap_setCell w ⟨g, j, none⟩ u i (by simp; omega)).trans (h.block i hi hne)⟩
theorem Cur.setNew {w : World} {p g j : Nat} (h : Cur w p) (hg : p < g) (u : Value) : Cur (w.setCell ⟨g, j, none⟩ u) p := h.keep (fun k hk => Below.heap_setCell w ⟨g, j, none⟩ u k (by simp; omega))
theorem box_grows {w w' : World} {b p : Nat} {o : Obj} (q : w.heap[b]? = some o) (hg : w.grownBy w' (some p)) (hne : b ≠ p) : w'.heap[b]? = some o := (hg.block b (Array.getElem?_eq_some_iff.1 q).1 (fun e => hne (by injection e))).trans q
def kindList : List Int := [0, 1, 1, 1, 2]
def genList : List Int := [0, 1, 256, 999]
theorem kindList_ok : ∀ x ∈ kindList, x = 0 ∨ x = 1 ∨ x = 2 := by decide
theorem genList_ok : ∀ x ∈ genList, 0 ≤ x ∧ x ≤ 999 := by decide
set_option maxHeartbeats 2000000 in
theorem l3Draw_any (p : Nat) (w : World) (hc : Cur w p) : Calls Tryz.prog 70 #[.pointer (some ⟨p, 0, none⟩)] w (AKey w p) := by
  have hlt := hc.lt
  have q0 := Lib.hid (al1 w (.cells #[.int .i64 0, .int .i64 0, .int .i64 0, .int .i64 0, .int .i64 0] 29))
  have G0 := Lib.hid (only_start w (.cells #[.int .i64 0, .int .i64 0, .int .i64 0, .int .i64 0, .int .i64 0] 29) (some p))
  have C0 := Lib.hid (hc.alloc (.cells #[.int .i64 0, .int .i64 0, .int .i64 0, .int .i64 0, .int .i64 0] 29))
  clear hc
  go_enter Tryz.func70, Tryz.ntmps70
  go_wp2_with fail
  refine (l1Below_any p 4 _ C0.out (by omega) (by omega)).mono ?_
  rintro r w1 ⟨a, ha, rfl, c1, g1⟩
  replace q0 := Lib.hid (box_grows q0.out g1 (by omega))
  replace G0 := Lib.hid (only_trans G0.out g1)
  replace C0 := Lib.hid c1
  clear c1 g1
  go_wp2_with fail
  refine (l1Below_any p 5 _ C0.out (by omega) (by omega)).mono ?_
  rintro r w2 ⟨b, hb, rfl, c1, g1⟩
  replace q0 := Lib.hid (box_grows q0.out g1 (by omega))
  replace G0 := Lib.hid (only_trans G0.out g1)
  replace C0 := Lib.hid c1
  have hz2 : w.heap.size < w2.heap.size := (Array.getElem?_eq_some_iff.1 q0.out).1
  clear c1 g1
  have H := Lib.hid (l1Int_any p w2.heap.size 5 kindList (w2.alloc (.cells (kindList.map (.int .i64 ·)).toArray 3)) (C0.out.alloc _) (Lies.new w2 _ _) (by simp) (by omega) (by decide) (by decide))
  have G3 := Lib.hid (only_alloc G0.out (.cells (kindList.map (.int .i64 ·)).toArray 3))
  have Q3 := Lib.hid (box_on q0.out (bal1 w2 (.cells (kindList.map (.int .i64 ·)).toArray 3)))
  clear q0 G0 C0
  go_wp2_with fail
  refine H.out.mono ?_
  rintro r w3 ⟨c, hcm, rfl, c3, g3⟩
  have hcc := kindList_ok c hcm
  have HCC := Lib.hid hcc
  have q3 := box_grows Q3.out g3 (by omega)
  have G4 := Lib.hid (only_trans G3.out g3)
  have hz3 : w.heap.size < w3.heap.size := (Array.getElem?_eq_some_iff.1 q3).1
  have hp3 := c3.lt
  have G5 := Lib.hid (only_alloc G4.out (.cells #[.int .i64 a, .int .i64 (1 + (b : Int)), .int .i64 c, .int .i64 0, .int .i64 0] 29))
  have C5 := Lib.hid (c3.alloc (.cells #[.int .i64 a, .int .i64 (1 + (b : Int)), .int .i64 c, .int .i64 0, .int .i64 0] 29))
  have Q5 := Lib.hid (box_on q3 (bal1 w3 (.cells #[.int .i64 a, .int .i64 (1 + (b : Int)), .int .i64 c, .int .i64 0, .int .i64 0] 29)))
  have K5 := Lib.hid (al1 w3 (.cells #[.int .i64 a, .int .i64 (1 + (b : Int)), .int .i64 c, .int .i64 0, .int .i64 0] 29))
  clear H G3 Q3 q3 G4 c3 g3 hcm hcc
  by_cases hc1 : c = 1
  · subst hc1
    go_wp2_with fail
    refine (l1Below_any p 24 _ C5.out (by omega) (by omega)).mono ?_
    rintro r w6 ⟨d, hd, rfl, c6, g6⟩
    have q6 := box_grows Q5.out g6 (by omega)
    have k6 := box_grows K5.out g6 (by omega)
    have G6 := Lib.hid (only_trans G5.out g6)
    have C6 := Lib.hid c6
    have hz6 := g6.size
    rw [World.size_alloc] at hz6
    obtain ⟨y0, y1, y2, y3, y4, y5⟩ := box5 k6
    have hp6 := c6.lt
    have k7 := box_set (i := 3) (u := .int .i64 (d : Int)) k6
    have q7 := box_far (j := 3) (u := .int .i64 (d : Int)) q6 (show w.heap.size ≠ w3.heap.size by omega)
    have G7 := Lib.hid (only_setNew (j := 3) G6.out (show w.heap.size ≤ w3.heap.size by omega) (.int .i64 (d : Int)))
    have C7 := Lib.hid (c6.setNew (j := 3) (show p < w3.heap.size by omega) (.int .i64 (d : Int)))
    have K7 := Lib.hid k7
    have Q7 := Lib.hid q7
    clear k6 q6 k7 q7 G5 C5 Q5 K5 c6 g6 G6 C6
    go_upto_region 4 with (fail)
    generalize w6.setCell ⟨w3.heap.size, 3, none⟩ (.int .i64 (d : Int)) = w7 at *
    have hz7 : w3.heap.size < w7.heap.size := (Array.getElem?_eq_some_iff.1 K7.out).1
    clear y0 y1 y2 y3 y4 y5
    have H := Lib.hid (l1Int_any p w7.heap.size 4 genList (w7.alloc (.cells (genList.map (.int .i64 ·)).toArray 3)) (C7.out.alloc _) (Lies.new w7 _ _) (by simp) (by omega) (by decide) (by decide))
    have G8 := Lib.hid (only_alloc G7.out (.cells (genList.map (.int .i64 ·)).toArray 3))
    have Q8 := Lib.hid (box_on Q7.out (bal1 w7 (.cells (genList.map (.int .i64 ·)).toArray 3)))
    have K8 := Lib.hid (box_on K7.out (bal1 w7 (.cells (genList.map (.int .i64 ·)).toArray 3)))
    clear G7 C7 K7 Q7
    go_wp2_with fail
    refine H.out.mono ?_
    rintro r w8 ⟨e, hem, rfl, c8, g8⟩
    have hee := genList_ok e hem
    have HEE := Lib.hid hee
    have q8 := box_grows Q8.out g8 (by omega)
    have k8 := box_grows K8.out g8 (by omega)
    have G9 := Lib.hid (only_trans G8.out g8)
    have C9 := Lib.hid c8
    obtain ⟨y0, y1, y2, y3, y4, y5⟩ := box5 k8
    obtain ⟨x0, x1, x2, x3, x4, x5⟩ := box5 q8
    have hne : ¬ w.heap.size = w3.heap.size := by omega
    have hp8 := c8.lt
    have FIN : Hid (∀ u, w.grownBy (((((((w8.setCell ⟨w3.heap.size, 4, none⟩ u).setCell ⟨w.heap.size, 0, none⟩ (.int .i64 a)).setCell ⟨w.heap.size, 1, none⟩ (.int .i64 (1 + (b : Int)))).setCell ⟨w.heap.size, 2, none⟩ (.int .i64 1)).setCell ⟨w.heap.size, 3, none⟩ (.int .i64 (d : Int))).setCell ⟨w.heap.size, 4, none⟩ u)) (some p) ∧ Cur (((((((w8.setCell ⟨w3.heap.size, 4, none⟩ u).setCell ⟨w.heap.size, 0, none⟩ (.int .i64 a)).setCell ⟨w.heap.size, 1, none⟩ (.int .i64 (1 + (b : Int)))).setCell ⟨w.heap.size, 2, none⟩ (.int .i64 1)).setCell ⟨w.heap.size, 3, none⟩ (.int .i64 (d : Int))).setCell ⟨w.heap.size, 4, none⟩ u)) p) := Lib.hid (fun u => ⟨only_setNew (only_setNew (only_setNew (only_setNew (only_setNew (only_setNew G9.out (by omega) _) (Nat.le_refl _) _) (Nat.le_refl _) _) (Nat.le_refl _) _) (Nat.le_refl _) _) (Nat.le_refl _) _, (((((c8.setNew (by omega) _).setNew hlt _).setNew hlt _).setNew hlt _).setNew hlt _).setNew hlt _⟩)
    have OKK : Hid (SmallK a (1 + (b : Int)) 1 (d : Int) e) := Lib.hid ⟨by omega, by omega, by simp [keyOkB, tgtB]; omega⟩
    clear k8 q8 g8 c8 hem hee H
    go_wp2
    refine bodyPost_ret (v := keyV a (1 + (b : Int)) 1 d e) (by simp [results, Tryz.results70, go_sem, keyV, *]) rfl ⟨_, _, _, _, _, rfl, OKK.out, (FIN.out _).2, (FIN.out _).1⟩
  · have e1 : (c == 1) = false := by simp [hc1]
    have OKK : Hid (SmallK a (1 + (b : Int)) c 0 0) := Lib.hid ⟨by omega, by omega, by
      have h2 : c = 0 ∨ c = 2 := by have := HCC.out; omega
      simp [keyOkB, tgtB, hc1, h2]; omega⟩
    obtain ⟨y0, y1, y2, y3, y4, y5⟩ := box5 K5.out
    obtain ⟨x0, x1, x2, x3, x4, x5⟩ := box5 Q5.out
    have hne : ¬ w.heap.size = w3.heap.size := by omega
    clear hc1
    go_upto_region 5 with (fail)
    generalize w3.alloc (.cells #[.int .i64 a, .int .i64 (1 + (b : Int)), .int .i64 c, .int .i64 0, .int .i64 0] 29) = w5 at *
    have FIN : Hid (w.grownBy (((((w5.setCell ⟨w.heap.size, 0, none⟩ (.int .i64 a)).setCell ⟨w.heap.size, 1, none⟩ (.int .i64 (1 + (b : Int)))).setCell ⟨w.heap.size, 2, none⟩ (.int .i64 c)).setCell ⟨w.heap.size, 3, none⟩ (.int .i64 0)).setCell ⟨w.heap.size, 4, none⟩ (.int .i64 0)) (some p) ∧ Cur (((((w5.setCell ⟨w.heap.size, 0, none⟩ (.int .i64 a)).setCell ⟨w.heap.size, 1, none⟩ (.int .i64 (1 + (b : Int)))).setCell ⟨w.heap.size, 2, none⟩ (.int .i64 c)).setCell ⟨w.heap.size, 3, none⟩ (.int .i64 0)).setCell ⟨w.heap.size, 4, none⟩ (.int .i64 0)) p) := Lib.hid ⟨only_setNew (only_setNew (only_setNew (only_setNew (only_setNew G5.out (Nat.le_refl _) _) (Nat.le_refl _) _) (Nat.le_refl _) _) (Nat.le_refl _) _) (Nat.le_refl _) _, ((((C5.out.setNew hlt _).setNew hlt _).setNew hlt _).setNew hlt _).setNew hlt _⟩
    go_wp2
    exact bodyPost_ret (v := keyV a (1 + (b : Int)) c 0 0) (by simp [results, Tryz.results70, go_sem, keyV, *]) rfl ⟨_, _, _, _, _, rfl, OKK.out, FIN.out.2, FIN.out.1⟩
end Go.Proofs.YthopkhpiikiknaaGreat
namespace Go.Proofs.YthopkhpiikiknaaGreat
open Go.RowKit
set_option maxRecDepth 100000
set_option linter.unusedSimpArgs false
set_option linter.unusedVariables false

theorem RowK.farP {w w' : World} {p base : Nat} {v : Value} {l : List KeyD} (h : RowK w base v l) (hg : w.grownBy w' (some p)) (hp : p < base) : RowK w' base v l :=
  h.keep (fun g hg' => hg.block g (h.lt g hg').1 (fun e => by injection e with e; have := (h.lt g hg').2; omega))
end Go.Proofs.YthopkhpiikiknaaGreat
namespace Go.Proofs.YthopkhpiikiknaaGreat
open Go.RowKit
set_option maxRecDepth 100000
set_option linter.unusedSimpArgs false
set_option linter.unusedVariables false

section
variable {P : Program} {md : Region.Mode} {ops : Array Oper} {Q : Exit → Act → World → Prop} {S : World → Prop} {F : Nat → Bool}
/-- Whatever order is picked from here on; S holds behind each operation but those of F. -/
def anyF (P : Program) (md : Region.Mode) (ops : Array Oper) (Q : Exit → Act → World → Prop) (S : World → Prop) (F : Nat → Bool) : Nat → Array Bool → Act → World → Prop
  | 0, listed, a, w => Region.ready md ops listed = [] ∧ Q .normal a w
  | n + 1, listed, a, w => (Region.ready md ops listed = [] → Q .normal a w) ∧ ∀ i ∈ Region.ready md ops listed, wpOp P ops Q i (fun a' w' => (F i = false → S w') ∧ anyF P md ops Q S F n (listed.setIfInBounds i true) a' w') a w
theorem anyF_any : ∀ (n : Nat) (listed : Array Bool) (a : Act) (w : World), anyF P md ops Q S F n listed a w → wpAny P md ops Q n listed a w
  | 0, _, _, _, h => h
  | n + 1, _, _, _, h => ⟨h.1, fun i hi => wpOp_mono (fun a' w' h' => anyF_any n _ a' w' h'.2) (h.2 i hi)⟩
def waitsF (md : Region.Mode) (ops : Array Oper) (F : Nat → Bool) (i : Nat) : Bool := (List.range ops.size).all (fun f => !F f || waits md ops i ops.size f)
theorem anyF_take {i : Nat} {oi : Oper} {v : Value} (hi : ops[i]? = some oi) (hs : Region.noSelect ops = true) (hwt : waitsF md ops F i = true) (hQ : ∀ c a w, Q (.panic c) (a.put oi.dst v) w → Q (.panic c) a w) :
    ∀ (n : Nat) (listed : Array Bool) (a : Act) (w : World), Closed md ops listed → (∀ j oj, ops[j]? = some oj → j ≠ i → listed.getD j true = false → (∀ e ∈ oj.after, Region.binds md e = true → e.on ≠ i) → oi.apart ops oj = true) →
      i ∈ Region.ready md ops listed → YieldsIf P ops S oi v a → S w → anyF P md ops Q S F n (listed.setIfInBounds i true) (a.put oi.dst v) w → anyF P md ops Q S F (n + 1) listed a w := by
  have hsel := Region.noSelect_spec hs
  intro n
  induction n with
  | zero =>
    intro listed a w _ _ hr hy hS H
    refine ⟨fun h => (by rw [h] at hr; cases hr), fun j hj => ?_⟩
    by_cases hji : j = i
    · subst hji; exact hy.wpOp hi hS ⟨fun _ => hS, H⟩
    · have h := ready_mono hj hji
      rw [H.1] at h
      cases h
  | succ n ih =>
    intro listed a w hcl hfree hr hy hS H
    refine ⟨fun h => (by rw [h] at hr; cases hr), fun j hj => ?_⟩
    by_cases hji : j = i
    · subst hji; exact hy.wpOp hi hS ⟨fun _ => hS, H⟩
    · obtain ⟨hjun, oj, hoj, hall⟩ := mem_ready.1 hj
      have hjf : F j = false := by
        cases hF : F j with
        | false => rfl
        | true =>
          have hlt : j < ops.size := (Array.getElem?_eq_some_iff.1 hoj).1
          have h1 := List.all_eq_true.1 hwt j (List.mem_range.2 hlt)
          rw [hF] at h1
          exact absurd hj (waits_out hcl (mem_ready.1 hr).1 ops.size j (by simpa using h1)).1
      have h2 := wpOp_putIf hoj (hfree j oj hoj hji hjun (fun e he hb => on_ne (mem_ready.1 hr).1 (hall e he hb))) (fun cs b => hsel i oi cs b hi) (fun cs b => hsel j oj cs b hoj) hQ hy (H.2 j (ready_mono hj hji))
      refine wpOp_mono (fun a' w' h3 => ⟨fun _ => h3.2.1 hjf, ih (listed.setIfInBounds j true) a' w' (hcl.set hj) (fun k ok hk hki hun hno => hfree k ok hk hki ?_ hno) (ready_mono hr (Ne.symm hji)) h3.1 (h3.2.1 hjf) ?_⟩) h2
      · by_cases hjk : j = k
        · subst hjk; exact hjun
        · rw [getD_set_ne true hjk] at hun; exact hun
      · rw [Array.setIfInBounds_comm _ _ hji]
        exact h3.2.2
theorem f_take {i : Nat} {oi : Oper} {v : Value} {n : Nat} {listed : Array Bool} {a : Act} {w : World} (hi : ops[i]? = some oi) (hs : Region.noSelect ops = true) (hwt : waitsF md ops F i = true) (hcl : closedB md ops listed = true) (hf : Region.free md ops listed i = true) (hr : (Region.ready md ops listed).contains i = true)
    (hQ : ∀ c a w, Q (.panic c) (a.put oi.dst v) w → Q (.panic c) a w) (hy : YieldsIf P ops S oi v a) (hS : S w) (h : anyF P md ops Q S F n (listed.setIfInBounds i true) (a.put oi.dst v) w) : anyF P md ops Q S F (n + 1) listed a w :=
  anyF_take hi hs hwt hQ n listed a w (closedB_spec hcl) (Region.free_spec hi hf) (by simpa using hr) hy hS h
theorem f_one {i : Nat} {o : Oper} {n : Nat} {listed : Array Bool} {a : Act} {w : World} (ho : ops[i]? = some o) (hw : Region.wanted o (yielded ops a.tmps) = true)
    (h : ∀ K : Act → World → Prop, Hid (∀ a' w', (F i = false → S w') → anyF P md ops Q S F n (listed.setIfInBounds i true) a' w' → K a' w') → Oper.wp P o a w K Q) : wpOp P ops Q i (fun a' w' => (F i = false → S w') ∧ anyF P md ops Q S F n (listed.setIfInBounds i true) a' w') a w := by
  have h1 := h (fun a' w' => (F i = false → S w') ∧ anyF P md ops Q S F n (listed.setIfInBounds i true) a' w') (Lib.hid (fun a' w' h2 h3 => ⟨h2, h3⟩))
  unfold wpOp
  simp only [ho]
  rw [if_pos hw]
  exact .inl h1
theorem f_run {i : Nat} {o : Oper} {n : Nat} {listed : Array Bool} {a : Act} {w : World} (hr : Region.ready md ops listed = [i]) (ho : ops[i]? = some o) (hw : Region.wanted o (yielded ops a.tmps) = true)
    (h : ∀ K : Act → World → Prop, Hid (∀ a' w', (F i = false → S w') → anyF P md ops Q S F n (listed.setIfInBounds i true) a' w' → K a' w') → Oper.wp P o a w K Q) : anyF P md ops Q S F (n + 1) listed a w := by
  refine ⟨fun h0 => (by rw [h0] at hr; cases hr), fun j hj => ?_⟩
  rw [hr, List.mem_singleton] at hj
  subst hj
  exact f_one ho hw h
theorem f_two {i j : Nat} {oi oj : Oper} {n : Nat} {listed : Array Bool} {a : Act} {w : World} (hr : Region.ready md ops listed = [i, j]) (hoi : ops[i]? = some oi) (hoj : ops[j]? = some oj) (hwi : Region.wanted oi (yielded ops a.tmps) = true) (hwj : Region.wanted oj (yielded ops a.tmps) = true)
    (h : ∀ K : Act → World → Prop, Hid (∀ a' w', (F i = false → S w') → anyF P md ops Q S F n (listed.setIfInBounds i true) a' w' → K a' w') → Oper.wp P oi a w K Q)
    (k : ∀ K : Act → World → Prop, Hid (∀ a' w', (F j = false → S w') → anyF P md ops Q S F n (listed.setIfInBounds j true) a' w' → K a' w') → Oper.wp P oj a w K Q) : anyF P md ops Q S F (n + 1) listed a w := by
  refine ⟨fun h0 => (by rw [h0] at hr; cases hr), fun l hl => ?_⟩
  rw [hr] at hl
  rcases List.mem_cons.1 hl with rfl | hl
  · exact f_one hoi hwi h
  · rw [List.mem_singleton] at hl
    subst hl
    exact f_one hoj hwj k
theorem f_done {n : Nat} {listed : Array Bool} {a : Act} {w : World} (hr : Region.ready md ops listed = []) (h : Q .normal a w) : anyF P md ops Q S F n listed a w := by
  cases n with
  | zero => exact ⟨hr, h⟩
  | succ n => exact ⟨fun _ => h, by rw [hr]; simp⟩
theorem f_begin {id : Nat} {a : Act} {w : World} (hm : P.follows .mixedOrders = true) (h : anyF P .any ops Q S F ops.size (Array.replicate ops.size false) a w.drew) : (Code.region id ops true).wp P Q a w := wp_region_any hm (anyF_any _ _ _ _ h)
end
end Go.Proofs.YthopkhpiikiknaaGreat
namespace Go.Proofs.YthopkhpiikiknaaGreat
open Go.RowKit
set_option maxRecDepth 100000
set_option linter.unusedSimpArgs false
set_option linter.unusedVariables false

theorem only_ofN {w w' : World} {p : Nat} (h : w.grownBy w' (some p)) : Only (fun x => x = p) w w' := Only.of_grown h rfl
theorem Owns.farP {w w' : World} {p base : Nat} {v : Value} {c : Dat} (h : Owns w (fun b => base ≤ b) v c) (hg : w.grownBy w' (some p)) (hp : p < base) : Owns w' (fun b => base ≤ b) v c := h.far (only_ofN hg) (fun b hb _ e => by omega)
theorem NOwn.farP {w w' : World} {p base bo : Nat} {u : Value} {ns : List (List KeyD)} (h : NOwn w base bo u ns) (hg : w.grownBy w' (some p)) (hp : p < base) : NOwn w' base bo u ns := by
  obtain ⟨xs, h1, h2, h3⟩ := h
  exact ⟨xs, row_keep h1 (fun g hg' => hg.block g (row_lt h1 g hg').1 (fun e => by injection e with e; have := (row_lt h1 g hg').2; omega)), h2.far (only_ofN hg) (fun b hb _ e => by have := hb.1.1; omega), h3⟩
end Go.Proofs.YthopkhpiikiknaaGreat
namespace Go.Proofs.YthopkhpiikiknaaGreat
open Go.RowKit
set_option maxRecDepth 100000
set_option linter.unusedSimpArgs false
set_option linter.unusedVariables false
def OKey (w : World) (p : Nat) (e : Ending) (w' : World) : Prop := ∃ x : KeyD, e = .returned x.v ∧ okK x = true ∧ Cur w' p ∧ w.grownBy w' (some p)
theorem key_blk {a b c d e : Int} (h : SmallK a b c d e) {j : Nat} (hj : (j : Int) < 12) : okK ⟨(j : Int), b, c, d, e⟩ = true := by
  have h1 := h.2.2
  unfold okK
  unfold keyOkB at h1 ⊢
  simp only [Bool.and_eq_true, decide_eq_true_iff] at h1 ⊢
  exact ⟨⟨⟨⟨by omega, by omega⟩, h1.1.1.2⟩, h1.1.2⟩, h1.2⟩
set_option maxHeartbeats 2000000 in
theorem l6Key_any (p : Nat) (w : World) (hc : Cur w p) : Calls Tryz.prog 33 #[.pointer (some ⟨p, 0, none⟩)] w (OKey w p) := by
  have hlt := hc.lt
  have HD := Lib.hid l3Draw_any
  unfold AKey keyV at HD
  have C0 := Lib.hid (hc.alloc (.cells #[.int .i64 0, .int .i64 0, .int .i64 0, .int .i64 0, .int .i64 0] 29))
  have G0 := Lib.hid (only_start w (.cells #[.int .i64 0, .int .i64 0, .int .i64 0, .int .i64 0, .int .i64 0] 29) (some p))
  have Q0 := Lib.hid (al1 w (.cells #[.int .i64 0, .int .i64 0, .int .i64 0, .int .i64 0, .int .i64 0] 29))
  have hz0 : (w.alloc (.cells #[.int .i64 0, .int .i64 0, .int .i64 0, .int .i64 0, .int .i64 0] 29)).heap.size = w.heap.size + 1 := by simp
  have HZ0 := Lib.hid hz0
  clear hc hz0
  go_enter Tryz.func33, Tryz.ntmps33
  go_wp2_with fail
  refine (HD.out p _ C0.out).mono ?_
  rintro r w1 ⟨xa, xb, xc, xd, xe, rfl, sm, c1, g1⟩
  have hz1 := g1.size
  rw [HZ0.out] at hz1
  have c2 := c1.alloc (.cells #[.int .i64 xa, .int .i64 xb, .int .i64 xc, .int .i64 xd, .int .i64 xe] 29)
  have q2 := al1 w1 (.cells #[.int .i64 xa, .int .i64 xb, .int .i64 xc, .int .i64 xd, .int .i64 xe] 29)
  have G2 := Lib.hid (only_alloc (only_trans G0.out g1) (.cells #[.int .i64 xa, .int .i64 xb, .int .i64 xc, .int .i64 xd, .int .i64 xe] 29))
  have Q1 := Lib.hid (box_on (box_grows Q0.out g1 (by omega)) (bal1 w1 (.cells #[.int .i64 xa, .int .i64 xb, .int .i64 xc, .int .i64 xd, .int .i64 xe] 29)))
  have SM := Lib.hid sm
  have C2 := Lib.hid c2
  have Q2 := Lib.hid q2
  clear sm c1 g1 c2 q2 C0 G0 Q0
  go_upto_region 2 with (fail)
  generalize w1.alloc (.cells #[.int .i64 xa, .int .i64 xb, .int .i64 xc, .int .i64 xd, .int .i64 xe] 29) = W2 at *
  go_wp2_with fail
  refine (l1Below_any p 12 _ C2.out (by omega) (by omega)).mono ?_
  rintro r w3 ⟨j, hj, rfl, c3, g3⟩
  have q2 := box_grows Q2.out g3 (by omega)
  have q1 := box_grows Q1.out g3 (by omega)
  obtain ⟨y0, y1, y2, y3, y4, y5⟩ := box5 q2
  obtain ⟨z0, z1, z2, z3, z4, z5⟩ := box5 q1
  have HOK := Lib.hid (key_blk SM.out hj)
  have C3 := Lib.hid c3
  have G3 := Lib.hid (only_trans G2.out g3)
  have n1 : ¬ w1.heap.size = w.heap.size := by omega
  have n2 : ¬ w.heap.size = w1.heap.size := by omega
  clear q2 q1 c3 g3 hj
  go_wp2
  refine bodyPost_ret (v := keyV (j : Int) xb xc xd xe) (by simp [results, Tryz.results33, go_sem, keyV, z0, z1, z2, z3, z4, z5]) rfl ⟨⟨(j : Int), xb, xc, xd, xe⟩, rfl, HOK.out, ?_, ?_⟩
  · exact (((((C3.out.setNew (by omega) _).setNew hlt _).setNew hlt _).setNew hlt _).setNew hlt _).setNew hlt _
  · exact only_setNew (only_setNew (only_setNew (only_setNew (only_setNew (only_setNew G3.out (by omega) _) (Nat.le_refl _) _) (Nat.le_refl _) _) (Nat.le_refl _) _) (Nat.le_refl _) _) (Nat.le_refl _) _
/-- A drawn tree: valid, in memory of its own. -/
def ATree (w : World) (p : Nat) (e : Ending) (w' : World) : Prop := ∃ vl vn lo ts, e = .returned (.agg #[vl, vn]) ∧ TreeS w' (fun b => w.heap.size ≤ b) vl vn lo ts ∧ treeOkB lo ts = true ∧ Cur w' p ∧ w.grownBy w' (some p)
def TIn (w : World) (p p5 : Nat) (wr : World) : Prop :=
  ∃ lo ts A c B d, wr.heap[p5]? = some (.cells #[.slice A lo.length c, .slice B ts.length d] 27) ∧ wr.heap[w.heap.size]? = some (.cells #[.slice none 0 0, .slice none 0 0] 27) ∧ TreeS wr (fun b => w.heap.size < b ∧ b ≠ p5) (.slice A lo.length c) (.slice B ts.length d) lo ts ∧ treeOkB lo ts = true ∧ Cur wr p ∧ w.grownBy wr (some p)
theorem TreeS.farP {w w' : World} {p base p5 : Nat} {vl vn : Value} {lo : List Int} {ts : List NodeD} (h : TreeS w (fun b => base < b ∧ b ≠ p5) vl vn lo ts) (hg : w.grownBy w' (some p)) (hp : p < base) : TreeS w' (fun b => base < b ∧ b ≠ p5) vl vn lo ts := h.keep (fun b hb hl => hg.block b hl (fun e => by injection e with e; omega))
theorem treeP_small {lo : List Int} {ts : List NodeD} (h : treeOkB lo ts = true) : lo.length ≤ 20 ∧ ts.length ≤ 20 ∧ sumT ts ≤ 220 := treeP_small' (of_decide_eq_true h)
theorem ok_putT {lo : List Int} {ts : List NodeD} {x : KeyD} (h : treeOkB lo ts = true) : treeOkB (treePutK lo ts x).1 (treePutK lo ts x).2 = true := by
  unfold treePutK
  split
  · rename_i hb
    unfold treePutB at hb
    simp only [Bool.and_eq_true] at hb
    exact hb.2
  · exact h
theorem ok_newT : treeOkB [0] [[]] = true := by decide +kernel
theorem only_trans2 {a b c : World} {p : Nat} (h : a.grownBy b (some p)) (k : Below b.heap.size b c) : a.grownBy c (some p) :=
  ⟨k.os.trans h.os, k.tape.trans h.tape, k.output.trans h.output, Nat.le_trans h.size k.size, fun i hi hn => (k.block i (Nat.lt_of_lt_of_le hi h.size)).trans (h.block i hi hn)⟩
set_option maxHeartbeats 8000000 in
theorem l6Draw_any (p m : Nat) (w : World) (hc : Cur w p) (hm : m ≤ 1000) : Calls Tryz.prog 31 #[.pointer (some ⟨p, 0, none⟩), .int .i64 (m : Int)] w (ATree w p) := by
  have hlt := hc.lt
  have HD := Lib.hid l6Key_any
  unfold OKey at HD
  have HC0 := Lib.hid (hc.alloc (.cells #[.slice none 0 0, .slice none 0 0] 27))
  have Q0 := Lib.hid (al1 w (.cells #[.slice none 0 0, .slice none 0 0] 27))
  have HB0 := Lib.hid (bal1 w (.cells #[.slice none 0 0, .slice none 0 0] 27))
  have hz0 : (w.alloc (.cells #[.slice none 0 0, .slice none 0 0] 27)).heap.size = w.heap.size + 1 := by simp
  have HZ0 := Lib.hid hz0
  have i0 : IntKind.i64.wrap ((m : Int) + 1) = (m : Int) + 1 := by rw [IntKind.wrap_i64]; omega
  clear hc hz0
  go_enter Tryz.func31, Tryz.ntmps31
  go_upto_region 1 with (fail)
  generalize w.alloc (.cells #[.slice none 0 0, .slice none 0 0] 27) = W at *
  have hz1 := Nat.le_of_eq HZ0.out
  have hz2 := Nat.le_of_eq HZ0.out.symm
  go_wp2_with fail
  refine (specTreeNew_any _).mono ?_
  rintro r w1 ⟨vl1, vn1, rfl, o1, b1⟩
  obtain ⟨lo, hlo⟩ : ∃ l, l = [(0 : Int)] := ⟨_, rfl⟩
  obtain ⟨ts, hts⟩ : ∃ l, l = [([] : NodeD)] := ⟨_, rfl⟩
  have HOK0 : Hid (treeOkB lo ts = true) := Lib.hid (by rw [hlo, hts]; exact ok_newT)
  rw [← hlo, ← hts] at o1
  clear hlo hts
  obtain ⟨A, c, B, d, rfl, rfl⟩ := o1.reads.shape
  have hzb := b1.size
  have ba := bal1 w1 (.cells #[.slice A lo.length c, .slice B ts.length d] 27)
  have Q5 := Lib.hid (al1 w1 (.cells #[.slice A lo.length c, .slice B ts.length d] 27))
  have O5 := Lib.hid (o1.lt.on ba)
  have C5 := Lib.hid ((HC0.out.on b1).on ba)
  have Q05 := Lib.hid (box_on (box_on Q0.out b1) ba)
  have G5 := Lib.hid (only_trans2 (only_trans2 (only_trans2 (World.grownBy.refl w (some p)) HB0.out) b1) ba)
  have hzA : (w1.alloc (.cells #[.slice A lo.length c, .slice B ts.length d] 27)).heap.size = w1.heap.size + 1 := by simp
  have HZA := Lib.hid hzA
  clear o1 b1 ba hzA
  go_upto_region 2 with (fail)
  generalize w1.alloc (.cells #[.slice A lo.length c, .slice B ts.length d] 27) = W2 at *
  have hy1 := Nat.le_of_eq HZA.out
  have hy2 := Nat.le_of_eq HZA.out.symm
  go_wp2_with fail
  refine (l1Below_any p ((m : Int) + 1) _ C5.out (by omega) (by omega)).mono ?_
  rintro r w3 ⟨j, hj, rfl, c3, g3⟩
  have START : Hid (TIn w p w1.heap.size w3) := Lib.hid ⟨lo, ts, A, c, B, d, box_grows Q5.out g3 (by omega), box_grows Q05.out g3 (by omega), TreeS.farP (O5.out.mono (fun b hb => ⟨by omega, by omega⟩)) g3 hlt, HOK0.out, c3, only_trans G5.out g3⟩
  have hp5a : w.heap.size < w1.heap.size := by omega
  clear c3 g3 Q5 Q05 O5 C5 G5 HOK0 HC0 Q0 HB0
  go_wp2
  go_loopw [6] (fun i wr => ∃ k : Nat, k ≤ 1001 ∧ i = .int .i64 k ∧ Hid (TIn w p w1.heap.size wr)) (fun i _ => (intOf i).toNat)
  case atStart => exact ⟨j, by omega, rfl, START⟩
  case round =>
    clear START hj hy1 hy2 HZA hzb hz1 hz2 HZ0
    obtain ⟨p5, hp5⟩ : ∃ p5, p5 = w1.heap.size := ⟨_, rfl⟩
    rw [← hp5] at hp5a
    obtain ⟨k, hk, rfl, HN⟩ := hrel
    obtain ⟨lo, ts, A, c, B, d, q1, q0, ou, hok, hcu, hgr⟩ := HN.out
    rw [← hp5] at q1 ou
    have QO := Lib.hid q1
    have QR := Lib.hid q0
    have OU := Lib.hid ou
    have HOK := Lib.hid hok
    have HC := Lib.hid hcu
    have HG := Lib.hid hgr
    have hsm := treeP_small hok
    have hsz : p5 < wr.heap.size := (Array.getElem?_eq_some_iff.1 q1).1
    clear q0 q1 ou hok hcu hgr HN
    rw [← hp5]
    clear hp5
    rcases k with _ | k
    · obtain ⟨z0, z1, z2⟩ := box2 QO.out
      obtain ⟨y0, y1, y2⟩ := box2 QR.out
      have n1 : ¬ p5 = w.heap.size := by omega
      go_wp2
      have HO := only_two wr w.heap.size 0 1 (.slice A lo.length c) (.slice B ts.length d)
      refine bodyPost_ret (v := .agg #[.slice A lo.length c, .slice B ts.length d]) (by simp [results, Tryz.results31, go_sem, y0, y1, y2]) rfl ⟨_, _, lo, ts, rfl, (OU.out.keep (fun b hb hl => HO.block b hl (fun e => by omega))).mono (fun b hb => by omega), HOK.out, (HC.out.setNew hlt _).setNew hlt _, only_setNew (only_setNew HG.out (Nat.le_refl _) _) (Nat.le_refl _) _⟩
    · have i1 : (0 : Int) < (k : Int) + 1 := by omega
      have i2 : IntKind.i64.wrap ((k : Int) + 1 - 1) = (k : Int) := by rw [IntKind.wrap_i64]; omega
      have i3 : IntKind.i64.wrap (k : Int) = (k : Int) := by rw [IntKind.wrap_i64]; omega
      have CD := Lib.hid (HC.out.keep (w' := wr.drew) (fun _ _ => rfl))
      have OD := Lib.hid (OU.out.on (Below.drew1 wr))
      go_upto_region 5 with (fail)
      refine f_begin (F := fun i => i == 6 || i == 7) (S := fun V => V.heap[p5]? = some (.cells #[.slice A lo.length c, .slice B ts.length d] 27)) (by kernel_rfl) ?_
      have hS0 : (fun V => V.heap[p5]? = some (.cells #[.slice A lo.length c, .slice B ts.length d] 27)) wr.drew := show wr.drew.heap[p5]? = some _ from QO.out
      refine f_take (i := 0) (v := ?vd0) rfl (by kernel_rfl) (by kernel_rfl) (by kernel_rfl) (by kernel_rfl) (by kernel_rfl) (fun _ _ _ h => h) (Or.inl ⟨by rfl, ?hyd0⟩) hS0 ?restd0
      case hyd0 =>
        intro W hW
        obtain ⟨z0, z1, z2⟩ := box2 hW
        go_simp
        exact rfl
      simp only [List.getElem_toArray, List.getElem_cons_succ, List.getElem_cons_zero, Act.put, List.setIfInBounds_toArray, List.set_cons_zero, List.set_cons_succ]
      refine f_take (i := 1) (v := ?vd1) rfl (by kernel_rfl) (by kernel_rfl) (by kernel_rfl) (by kernel_rfl) (by kernel_rfl) (fun _ _ _ h => h) (Or.inl ⟨by rfl, ?hyd1⟩) hS0 ?restd1
      case hyd1 =>
        intro W hW
        go_simp
        exact rfl
      simp only [List.getElem_toArray, List.getElem_cons_succ, List.getElem_cons_zero, Act.put, List.setIfInBounds_toArray, List.set_cons_zero, List.set_cons_succ]
      refine f_run (i := 2) (by kernel_rfl) rfl (by rfl) ?_
      simp only [List.getElem_toArray, List.getElem_cons_succ, List.getElem_cons_zero]
      intro K HK
      go_wp2_with fail
      refine (HD.out p _ CD.out).mono ?_
      rintro r Vd1 ⟨xk, rfl, okx, c2, g2⟩
      go_wp2_with fail
      have hSd1 : (fun V => V.heap[p5]? = some (.cells #[.slice A lo.length c, .slice B ts.length d] 27)) Vd1 := box_grows hS0 g2 (by omega)
      refine HK.out _ _ (fun _ => hSd1) ?_
      clear HK
      have O2 := Lib.hid (OD.out.farP g2 (by omega))
      have C2 := Lib.hid c2
      have G2 := Lib.hid (only_trans (only_draw1 HG.out) g2)
      have R2 := Lib.hid (box_grows (show wr.drew.heap[w.heap.size]? = some _ from QR.out) g2 (by omega))
      have hz2 := g2.size
      have hzd : wr.heap.size ≤ wr.drew.heap.size := Nat.le_refl _
      clear c2 g2 okx
      obtain ⟨R, hR⟩ : ∃ R, treePutK lo ts xk = R := ⟨_, rfl⟩
      have HRO : Hid (treeOkB R.1 R.2 = true) := Lib.hid (by rw [← hR]; exact ok_putT HOK.out)
      have HRR := Lib.hid hR
      clear hR
      try simp only [List.getElem_toArray, List.getElem_cons_succ, List.getElem_cons_zero, Act.put, List.setIfInBounds_toArray, List.set_cons_zero, List.set_cons_succ]
      refine f_run (i := 3) (by kernel_rfl) rfl (by rfl) ?_
      simp only [List.getElem_toArray, List.getElem_cons_succ, List.getElem_cons_zero]
      intro K HK
      go_wp2_with fail
      refine (specTreePut_any _ _ lo ts xk _ O2.out.reads (by omega) (by omega) (by omega)).mono ?_
      rintro r Vd2 ⟨vl3, vn3, rfl, o3, b3⟩
      rw [HRR.out] at o3
      obtain ⟨A3, c3, B3, d3, rfl, rfl⟩ := o3.reads.shape
      have O3 := Lib.hid o3
      clear o3
      go_wp2_with fail
      have hSd2 : (fun V => V.heap[p5]? = some (.cells #[.slice A lo.length c, .slice B ts.length d] 27)) Vd2 := box_on hSd1 b3
      refine HK.out _ _ (fun _ => hSd2) ?_
      clear HK
      have hz3 := b3.size
      try simp only [List.getElem_toArray, List.getElem_cons_succ, List.getElem_cons_zero, Act.put, List.setIfInBounds_toArray, List.set_cons_zero, List.set_cons_succ]
      refine f_take (i := 4) (v := ?vd4) rfl (by kernel_rfl) (by kernel_rfl) (by kernel_rfl) (by kernel_rfl) (by kernel_rfl) (fun _ _ _ h => h) (Or.inl ⟨by rfl, ?hyd4⟩) hSd2 ?restd4
      case hyd4 =>
        intro W hW
        go_simp
        exact rfl
      simp only [List.getElem_toArray, List.getElem_cons_succ, List.getElem_cons_zero, Act.put, List.setIfInBounds_toArray, List.set_cons_zero, List.set_cons_succ]
      obtain ⟨z0, z1, z2⟩ := box2 hSd2
      refine f_two (i := 5) (j := 6) (by kernel_rfl) rfl rfl (by rfl) (by rfl) ?_ ?_
      · simp only [List.getElem_toArray, List.getElem_cons_succ, List.getElem_cons_zero]
        intro K HK
        go_wp2_with fail
        refine HK.out _ _ (fun _ => hSd2) ?_
        clear HK
        try simp only [List.getElem_toArray, List.getElem_cons_succ, List.getElem_cons_zero, Act.put, List.setIfInBounds_toArray, List.set_cons_zero, List.set_cons_succ]
        refine f_two (i := 6) (j := 7) (by kernel_rfl) rfl rfl (by rfl) (by rfl) ?_ ?_
        · simp only [List.getElem_toArray, List.getElem_cons_succ, List.getElem_cons_zero]
          intro K HK
          go_wp2_with fail
          refine HK.out _ _ (fun h => absurd h (by decide)) ?_
          clear HK
          try simp only [List.getElem_toArray, List.getElem_cons_succ, List.getElem_cons_zero, Act.put, List.setIfInBounds_toArray, List.set_cons_zero, List.set_cons_succ]
          refine f_run (i := 7) (by kernel_rfl) rfl (by rfl) ?_
          simp only [List.getElem_toArray, List.getElem_cons_succ, List.getElem_cons_zero]
          intro K HK
          go_wp2_with fail
          refine HK.out _ _ (fun h => absurd h (by decide)) ?_
          clear HK
          try simp only [List.getElem_toArray, List.getElem_cons_succ, List.getElem_cons_zero, Act.put, List.setIfInBounds_toArray, List.set_cons_zero, List.set_cons_succ]
          have HO := only_two Vd2 p5 0 1 (.slice A3 R.1.length c3) (.slice B3 R.2.length d3)
          have NEW : Hid (TIn w p p5 ((Vd2.setCell ⟨p5, 0, none⟩ (.slice A3 R.1.length c3)).setCell ⟨p5, 1, none⟩ (.slice B3 R.2.length d3))) := Lib.hid ⟨R.1, R.2, _, _, _, _, box_set (i := 1) (box_set (i := 0) hSd2), box_only (box_on R2.out b3) HO (fun e => by omega), (O3.out.keep (fun b hb hl => HO.block b hl (fun e => by omega))).mono (fun b hb => ⟨by omega, by omega⟩), HRO.out, (C2.out.on b3).keep (fun k hk => (HO.block k (by have := (C2.out.on b3).lt; omega) (fun e => by omega))), only_setNew (only_setNew (only_trans2 G2.out b3) (by omega) _) (by omega) _⟩
          clear O3 b3 O2 C2 G2 R2 hSd1 hSd2 z0 z1 z2 CD OD QO QR OU HOK HC HG
          refine f_done (by kernel_rfl) ?_
          go_wp2
          go_roundw
          case rel => exact ⟨k, by omega, by go_num, NEW⟩
          case measure => simp [intOf]
        · simp only [List.getElem_toArray, List.getElem_cons_succ, List.getElem_cons_zero]
          intro K HK
          go_wp2_with fail
          refine HK.out _ _ (fun h => absurd h (by decide)) ?_
          clear HK
          try simp only [List.getElem_toArray, List.getElem_cons_succ, List.getElem_cons_zero, Act.put, List.setIfInBounds_toArray, List.set_cons_zero, List.set_cons_succ]
          refine f_run (i := 6) (by kernel_rfl) rfl (by rfl) ?_
          simp only [List.getElem_toArray, List.getElem_cons_succ, List.getElem_cons_zero]
          intro K HK
          go_wp2_with fail
          refine HK.out _ _ (fun h => absurd h (by decide)) ?_
          clear HK
          try simp only [List.getElem_toArray, List.getElem_cons_succ, List.getElem_cons_zero, Act.put, List.setIfInBounds_toArray, List.set_cons_zero, List.set_cons_succ]
          have HO := only_two Vd2 p5 0 1 (.slice A3 R.1.length c3) (.slice B3 R.2.length d3)
          have NEW : Hid (TIn w p p5 ((Vd2.setCell ⟨p5, 0, none⟩ (.slice A3 R.1.length c3)).setCell ⟨p5, 1, none⟩ (.slice B3 R.2.length d3))) := Lib.hid ⟨R.1, R.2, _, _, _, _, box_set (i := 1) (box_set (i := 0) hSd2), box_only (box_on R2.out b3) HO (fun e => by omega), (O3.out.keep (fun b hb hl => HO.block b hl (fun e => by omega))).mono (fun b hb => ⟨by omega, by omega⟩), HRO.out, (C2.out.on b3).keep (fun k hk => (HO.block k (by have := (C2.out.on b3).lt; omega) (fun e => by omega))), only_setNew (only_setNew (only_trans2 G2.out b3) (by omega) _) (by omega) _⟩
          clear O3 b3 O2 C2 G2 R2 hSd1 hSd2 z0 z1 z2 CD OD QO QR OU HOK HC HG
          refine f_done (by kernel_rfl) ?_
          go_wp2
          go_roundw
          case rel => exact ⟨k, by omega, by go_num, NEW⟩
          case measure => simp [intOf]
      · simp only [List.getElem_toArray, List.getElem_cons_succ, List.getElem_cons_zero]
        intro K HK
        go_wp2_with fail
        refine HK.out _ _ (fun h => absurd h (by decide)) ?_
        clear HK
        try simp only [List.getElem_toArray, List.getElem_cons_succ, List.getElem_cons_zero, Act.put, List.setIfInBounds_toArray, List.set_cons_zero, List.set_cons_succ]
        refine f_run (i := 5) (by kernel_rfl) rfl (by rfl) ?_
        simp only [List.getElem_toArray, List.getElem_cons_succ, List.getElem_cons_zero]
        intro K HK
        go_wp2_with fail
        refine HK.out _ _ (fun _ => hSd2) ?_
        clear HK
        try simp only [List.getElem_toArray, List.getElem_cons_succ, List.getElem_cons_zero, Act.put, List.setIfInBounds_toArray, List.set_cons_zero, List.set_cons_succ]
        refine f_run (i := 7) (by kernel_rfl) rfl (by rfl) ?_
        simp only [List.getElem_toArray, List.getElem_cons_succ, List.getElem_cons_zero]
        intro K HK
        go_wp2_with fail
        refine HK.out _ _ (fun h => absurd h (by decide)) ?_
        clear HK
        try simp only [List.getElem_toArray, List.getElem_cons_succ, List.getElem_cons_zero, Act.put, List.setIfInBounds_toArray, List.set_cons_zero, List.set_cons_succ]
        have HO := only_two Vd2 p5 0 1 (.slice A3 R.1.length c3) (.slice B3 R.2.length d3)
        have NEW : Hid (TIn w p p5 ((Vd2.setCell ⟨p5, 0, none⟩ (.slice A3 R.1.length c3)).setCell ⟨p5, 1, none⟩ (.slice B3 R.2.length d3))) := Lib.hid ⟨R.1, R.2, _, _, _, _, box_set (i := 1) (box_set (i := 0) hSd2), box_only (box_on R2.out b3) HO (fun e => by omega), (O3.out.keep (fun b hb hl => HO.block b hl (fun e => by omega))).mono (fun b hb => ⟨by omega, by omega⟩), HRO.out, (C2.out.on b3).keep (fun k hk => (HO.block k (by have := (C2.out.on b3).lt; omega) (fun e => by omega))), only_setNew (only_setNew (only_trans2 G2.out b3) (by omega) _) (by omega) _⟩
        clear O3 b3 O2 C2 G2 R2 hSd1 hSd2 z0 z1 z2 CD OD QO QR OU HOK HC HG
        refine f_done (by kernel_rfl) ?_
        go_wp2
        go_roundw
        case rel => exact ⟨k, by omega, by go_num, NEW⟩
        case measure => simp [intOf]
end Go.Proofs.YthopkhpiikiknaaGreat
namespace Go.Proofs.YthopkhpiikiknaaGreat
open Go.RowKit
set_option maxRecDepth 100000
set_option linter.unusedSimpArgs false
set_option linter.unusedVariables false

theorem l1Size_any (A : Option Addr) (n cap : Nat) (m : Nat) (w : World) (hn : n ≤ 1048576) (hm : m ≤ 1000) : Calls Tryz.prog 32 #[.slice A n cap, .int .i64 (m : Int)] w fun e w' => (∃ k : Nat, k ≤ m ∧ e = .returned (.int .i64 (k : Int))) ∧ w = w' := by
  have h12 : ((n : Int).tdiv 12) = ((n / 12 : Nat) : Int) := by rw [Int.ofNat_tdiv]; rfl
  have h13 : (n : Int) / 12 = ((n / 12 : Nat) : Int) := by omega
  have hw : IntKind.i64.wrap (3 + ((n / 12 : Nat) : Int)) = 3 + ((n / 12 : Nat) : Int) := by rw [IntKind.wrap_i64]; omega
  by_cases h : 3 + n / 12 ≤ m
  · have i1 : ¬ (m : Int) < 3 + ((n / 12 : Nat) : Int) := by omega
    have i2 : 3 + ((n / 12 : Nat) : Int) ≤ (m : Int) := by omega
    generalize hq : n / 12 = q at *
    go_enter Tryz.func32, Tryz.ntmps32
    go_wp2
    go_ret
    exact ⟨⟨3 + q, h, by simp [*]⟩, rfl⟩
  · have i2 : (m : Int) < 3 + ((n / 12 : Nat) : Int) := by omega
    generalize hq : n / 12 = q at *
    go_enter Tryz.func32, Tryz.ntmps32
    go_wp2
    go_ret
    exact ⟨⟨m, Nat.le_refl _, rfl⟩, rfl⟩
/-- A drawn tree that is valid, and a valid key. -/
def DTree (w : World) (e : Ending) (w' : World) : Prop := ∃ vl vn lo ts x, e = .returned (.tuple #[.agg #[vl, vn], KeyD.v x]) ∧ TreeS w' (fun b => w.heap.size ≤ b) vl vn lo ts ∧ treeOkB lo ts = true ∧ okK x = true ∧ Below w.heap.size w w'
set_option maxHeartbeats 2000000 in
theorem drawTree_any (A : Option Addr) (cap : Nat) (l : List UInt8) (w : World) (hr : Rd w w.heap.size A l) (hn : l.length ≤ 1048576) : Calls Tryz.prog 6 #[.slice A l.length cap] w (DTree w) := by
  have B0 := bal2 w (.cells #[.slice none 0 0, .slice none 0 0] 27) (.cells #[.int .i64 0, .int .i64 0, .int .i64 0, .int .i64 0, .int .i64 0] 29)
  obtain ⟨q0, q1⟩ := al2 w (.cells #[.slice none 0 0, .slice none 0 0] 27) (.cells #[.int .i64 0, .int .i64 0, .int .i64 0, .int .i64 0, .int .i64 0] 29)
  have HB := Lib.hid B0
  have Q0 := Lib.hid q0
  have Q1 := Lib.hid q1
  have HR := Lib.hid (hr.on B0)
  have HD := Lib.hid l6Key_any
  unfold OKey KeyD.v keyV at HD
  have HZ : Hid (((w.alloc (.cells #[.slice none 0 0, .slice none 0 0] 27)).alloc (.cells #[.int .i64 0, .int .i64 0, .int .i64 0, .int .i64 0, .int .i64 0] 29)).heap.size = w.heap.size + 2) := Lib.hid (by simp)
  clear hr B0 q0 q1
  go_enter Tryz.func6, Tryz.ntmps6
  go_upto_region 1 with (fail)
  generalize (w.alloc (.cells #[.slice none 0 0, .slice none 0 0] 27)).alloc (.cells #[.int .i64 0, .int .i64 0, .int .i64 0, .int .i64 0, .int .i64 0] 29) = W at *
  have hz1 := Nat.le_of_eq HZ.out
  have hz2 := Nat.le_of_eq HZ.out.symm
  clear HZ
  go_wp2_with fail
  refine (l1New_any _ _ l _ HR.out hn).mono ?_
  rintro r w1 ⟨p, rfl, c1, hp, b1⟩
  have Q2 := Lib.hid (box_on Q0.out b1)
  have Q3 := Lib.hid (box_on Q1.out b1)
  have B1 := Lib.hid (bstep HB.out b1)
  have hz3 := b1.size
  have hlt := c1.lt
  clear b1 Q0 Q1 HR
  go_wp2_with fail
  refine (l1Size_any _ _ _ 50 _ hn (by omega)).mono ?_
  rintro r _ ⟨⟨k, hk, rfl⟩, rfl⟩
  have i1 : IntKind.i64.wrap (10 + (k : Int)) = 10 + (k : Int) := by rw [IntKind.wrap_i64]; omega
  have i2 : (10 : Int) + (k : Int) = ((10 + k : Nat) : Int) := by omega
  have HDR : Hid (Calls Tryz.prog 31 #[.pointer (some ⟨p, 0, none⟩), .int .i64 (10 + (k : Int))] w1 (ATree w1 p)) := Lib.hid (by rw [i2]; exact l6Draw_any p (10 + k) w1 c1 (by omega))
  clear i2
  go_wp2_with fail
  refine HDR.out.mono ?_
  rintro r w2 ⟨vl, vn, lo, ts, rfl, o2, hok, c2, g2⟩
  obtain ⟨A1, c1', B1', d1, rfl, rfl⟩ := o2.reads.shape
  have QO := Lib.hid (al1 w2 (.cells #[.slice A1 lo.length c1', .slice B1' ts.length d1] 27))
  have OU := Lib.hid (o2.lt.on (bal1 w2 (.cells #[.slice A1 lo.length c1', .slice B1' ts.length d1] 27)))
  have CC := Lib.hid (c2.alloc (.cells #[.slice A1 lo.length c1', .slice B1' ts.length d1] 27))
  have Q4 := Lib.hid (box_on (box_grows Q2.out g2 (by omega)) (bal1 w2 (.cells #[.slice A1 lo.length c1', .slice B1' ts.length d1] 27)))
  have Q5 := Lib.hid (box_on (box_grows Q3.out g2 (by omega)) (bal1 w2 (.cells #[.slice A1 lo.length c1', .slice B1' ts.length d1] 27)))
  have B2 := Lib.hid (bstep (below_of_only B1.out g2 (by omega)) (bal1 w2 (.cells #[.slice A1 lo.length c1', .slice B1' ts.length d1] 27)))
  have hz4 := g2.size
  have hz5 : w2.heap.size + 1 ≤ (w2.alloc (.cells #[.slice A1 lo.length c1', .slice B1' ts.length d1] 27)).heap.size := by simp
  have HOK := Lib.hid hok
  clear o2 c2 g2 hok c1 Q2 Q3 B1 HDR
  go_upto_region 3 with (fail)
  generalize w2.alloc (.cells #[.slice A1 lo.length c1', .slice B1' ts.length d1] 27) = W2 at *
  have CD := Lib.hid (CC.out.keep (w' := W2.drew) (fun _ _ => rfl))
  have hS0 : (fun V : World => V.heap[w2.heap.size]? = some (.cells #[.slice A1 lo.length c1', .slice B1' ts.length d1] 27)) W2.drew := show W2.drew.heap[w2.heap.size]? = some _ from QO.out
  refine but_begin (f := 4) (S := fun V => V.heap[w2.heap.size]? = some (.cells #[.slice A1 lo.length c1', .slice B1' ts.length d1] 27)) (by kernel_rfl) ?_
  refine but_take (f := 4) (i := 0) (v := ?vd0) rfl (by kernel_rfl) (by kernel_rfl) (by kernel_rfl) (by kernel_rfl) (by kernel_rfl) (fun _ _ _ h => h) (Or.inl ⟨(by rfl), ?hyd0⟩) hS0 ?restd0
  case hyd0 =>
    intro W hW
    obtain ⟨z0, z1, z2⟩ := box2 hW
    go_simp
    exact rfl
  simp only [List.getElem_toArray, List.getElem_cons_succ, List.getElem_cons_zero, Act.put, List.setIfInBounds_toArray, List.set_cons_zero, List.set_cons_succ]
  refine but_take (f := 4) (i := 1) (v := ?vd1) rfl (by kernel_rfl) (by kernel_rfl) (by kernel_rfl) (by kernel_rfl) (by kernel_rfl) (fun _ _ _ h => h) (Or.inl ⟨(by rfl), ?hyd1⟩) hS0 ?restd1
  case hyd1 =>
    intro W hW
    go_simp
    exact rfl
  simp only [List.getElem_toArray, List.getElem_cons_succ, List.getElem_cons_zero, Act.put, List.setIfInBounds_toArray, List.set_cons_zero, List.set_cons_succ]
  refine but_run (i := 2) (by kernel_rfl) rfl (by rfl) ?_
  simp only [List.getElem_toArray, List.getElem_cons_succ, List.getElem_cons_zero]
  intro K HK
  go_wp2_with fail
  refine (HD.out p _ CD.out).mono ?_
  rintro r Vd1 ⟨⟨xa, xb, xc, xd, xe⟩, rfl, sm, c3, g3⟩
  go_wp2_with fail
  have hSd1 : (fun V : World => V.heap[w2.heap.size]? = some (.cells #[.slice A1 lo.length c1', .slice B1' ts.length d1] 27)) Vd1 := box_grows hS0 g3 (by omega)
  refine HK.out _ _ (fun _ => hSd1) ?_
  clear HK
  have O3 := Lib.hid ((OU.out.on (Below.drew1 W2)).keep (w' := Vd1) (fun b hb hl => g3.block b hl (fun e => by injection e with e; have := hb.1; omega)))
  have Q6 := Lib.hid (box_grows (show W2.drew.heap[w.heap.size]? = some _ from Q4.out) g3 (by omega))
  have Q7 := Lib.hid (box_grows (show W2.drew.heap[w.heap.size + 1]? = some _ from Q5.out) g3 (by omega))
  have B3 := Lib.hid (below_of_only (bstep B2.out (Below.drew1 W2)) g3 (by omega))
  have OKX := Lib.hid sm
  clear c3 g3 sm
  refine but_run (i := 3) (by kernel_rfl) rfl (by rfl) ?_
  simp only [List.getElem_toArray, List.getElem_cons_succ, List.getElem_cons_zero]
  intro K HK
  obtain ⟨y0, y1, y2⟩ := box2 Q6.out
  have HO := only_two Vd1 w.heap.size 0 1 (.slice A1 lo.length c1') (.slice B1' ts.length d1)
  go_wp2_with fail
  have hSd2 : (fun V : World => V.heap[w2.heap.size]? = some (.cells #[.slice A1 lo.length c1', .slice B1' ts.length d1] 27)) ((Vd1.setCell ⟨w.heap.size, 0, none⟩ (.slice A1 lo.length c1')).setCell ⟨w.heap.size, 1, none⟩ (.slice B1' ts.length d1)) := box_only hSd1 HO (fun e => by omega)
  refine HK.out _ _ (fun _ => hSd2) ?_
  clear HK
  have Q8 : Hid (((Vd1.setCell ⟨w.heap.size, 0, none⟩ (.slice A1 lo.length c1')).setCell ⟨w.heap.size, 1, none⟩ (.slice B1' ts.length d1)).heap[w.heap.size]? = some (.cells #[.slice A1 lo.length c1', .slice B1' ts.length d1] 27)) := Lib.hid (box_set (i := 1) (box_set (i := 0) Q6.out))
  have Q9 := Lib.hid (box_only Q7.out HO (fun e => by omega))
  have O4 := Lib.hid (O3.out.keep (w' := (Vd1.setCell ⟨w.heap.size, 0, none⟩ (.slice A1 lo.length c1')).setCell ⟨w.heap.size, 1, none⟩ (.slice B1' ts.length d1)) (fun b hb hl => HO.block b hl (fun e => by have := hb.1; omega)))
  have B4 := Lib.hid (B3.out.trans (HO.below B3.out.size (fun b hb => by omega)))
  clear y0 y1 y2 HO
  refine but_run (i := 4) (by kernel_rfl) rfl (by rfl) ?_
  simp only [List.getElem_toArray, List.getElem_cons_succ, List.getElem_cons_zero]
  obtain ⟨y0, y1, y2, y3, y4, y5⟩ := box5 Q9.out
  obtain ⟨x0, x1, x2⟩ := box2 Q8.out
  generalize (Vd1.setCell ⟨w.heap.size, 0, none⟩ (.slice A1 lo.length c1')).setCell ⟨w.heap.size, 1, none⟩ (.slice B1' ts.length d1) = V9 at *
  intro K HK
  go_wp2_with fail
  refine HK.out _ _ (fun h => absurd rfl h) ?_
  clear HK
  refine but_done (by kernel_rfl) ?_
  have n1 : ¬ w.heap.size = w.heap.size + 1 := by omega
  have n2 : ¬ w.heap.size + 1 = w.heap.size := by omega
  go_wp2
  refine bodyPost_ret (v := .tuple #[.agg #[.slice A1 lo.length c1', .slice B1' ts.length d1], KeyD.v ⟨xa, xb, xc, xd, xe⟩]) (by simp [results, Tryz.results6, go_sem, KeyD.v, keyV, x0, x1, x2, y0, y1, y2, y3, y4, y5]) rfl ⟨_, _, lo, ts, _, rfl, ?_, HOK.out, OKX.out, ?_⟩
  · refine (O4.out.keep (fun b hb hl => ?_)).mono (fun b hb => by have := hb.1; omega)
    have hne : b ≠ w.heap.size + 1 := by have := hb.1; omega
    rw [Below.heap_setCell _ _ _ _ (by simpa using hne), Below.heap_setCell _ _ _ _ (by simpa using hne), Below.heap_setCell _ _ _ _ (by simpa using hne), Below.heap_setCell _ _ _ _ (by simpa using hne), Below.heap_setCell _ _ _ _ (by simpa using hne)]
  · exact b5' B4.out (show w.heap.size ≤ w.heap.size + 1 by omega)
end Go.Proofs.YthopkhpiikiknaaGreat
namespace Go.Proofs.YthopkhpiikiknaaGreat
open Go.RowKit
set_option maxRecDepth 100000
set_option linter.unusedSimpArgs false
set_option linter.unusedVariables false

theorem asc_ext : ∀ {l m : List KeyD}, Asc l → Asc m → (∀ y, y ∈ l ↔ y ∈ m) → l = m := by
  intro l
  induction l with
  | nil =>
    intro m _ _ h
    cases m with
    | nil => rfl
    | cons b m => exact absurd ((h b).2 (by simp)) (by simp)
  | cons a l ih =>
    intro m hl hm h
    cases m with
    | nil => exact absurd ((h a).1 (by simp)) (by simp)
    | cons b m =>
      rw [Asc, List.pairwise_cons] at hl hm
      have hab : a = b := by
        have h1 := (h a).1 (by simp)
        have h2 := (h b).2 (by simp)
        rw [List.mem_cons] at h1 h2
        rcases h1 with h1 | h1
        · exact h1
        · rcases h2 with h2 | h2
          · exact h2.symm
          · have := less_trans (hl.1 b h2) (hm.1 a h1)
            rw [less_irr] at this
            cases this
      subst hab
      refine congrArg _ (ih hl.2 hm.2 (fun y => ⟨fun hy => ?_, fun hy => ?_⟩))
      · have := (h y).1 (by simp [hy])
        rw [List.mem_cons] at this
        rcases this with e | e
        · subst e
          have := hl.1 y hy
          rw [less_irr] at this
          cases this
        · exact e
      · have := (h y).2 (by simp [hy])
        rw [List.mem_cons] at this
        rcases this with e | e
        · subst e
          have := hm.1 y hy
          rw [less_irr] at this
          cases this
        · exact e
theorem mem_put {l : List KeyD} (h : Asc l) (k y : KeyD) : y ∈ putK l k ↔ y = k ∨ (y ∈ l ∧ spotK y k = false) := by
  rw [put_eq]
  have hs := List.take_append_drop (placeK l k) l
  constructor
  · intro hy
    rw [List.mem_append, List.mem_cons, List.mem_filter] at hy
    rcases hy with hy | hy | hy
    · exact .inr ⟨List.mem_of_mem_take hy, less_spot (place_take hy)⟩
    · exact .inl hy
    · exact .inr ⟨List.mem_of_mem_drop hy.1, by simpa using hy.2⟩
  · rintro (hy | ⟨hy, hn⟩)
    · simp [hy]
    · rw [← hs, List.mem_append] at hy
      rw [List.mem_append, List.mem_cons, List.mem_filter]
      rcases hy with hy | hy
      · exact .inl hy
      · exact .inr (.inr ⟨hy, by simp [hn]⟩)
theorem mem_drop {l : List KeyD} {y : KeyD} : y ∈ dropK l ↔ y ∈ l ∧ y.c ≠ 0 := by simp [dropK]
theorem newest_in {r : List (List KeyD)} {p q : Int} {x : KeyD} (h : newest r p q = some x) : ∃ l ∈ r, x ∈ l := by
  induction r with
  | nil => cases h
  | cons l r ih =>
    unfold newest at h
    cases ha : atK l p q with
    | some y =>
      rw [ha] at h
      simp at h
      subst h
      exact ⟨l, by simp, (at_mem ha).1⟩
    | none =>
      rw [ha] at h
      simp at h
      obtain ⟨l', h1, h2⟩ := ih h
      exact ⟨l', by simp [h1], h2⟩
theorem keys_in {ns : NodeD} (h : FineN ns) {x : KeyD} (hx : x ∈ nodeKeysK ns) : ∃ l ∈ ns, x ∈ l := by
  have h1 := key_there h hx
  rw [nodeAt_new] at h1
  have h2 : newest ns.reverse x.a x.b = some x := by
    cases hn : newest ns.reverse x.a x.b with
    | none => rw [hn] at h1; cases h1
    | some y =>
      rw [hn] at h1
      unfold pickO at h1
      simp only at h1
      split at h1
      · cases h1
      · exact h1
  obtain ⟨l, h3, h4⟩ := newest_in h2
  exact ⟨l, List.mem_reverse.1 h3, h4⟩
theorem keys_okm {ns : NodeD} (h : FineN ns) {x : KeyD} (hx : x ∈ nodeKeysK ns) : okK x = true := List.all_eq_true.1 (keys_ok h) x hx
theorem mem_reb {ns : NodeD} {x y : KeyD} : y ∈ rebK ns x ↔ (y = x ∨ (y ∈ nodeKeysK ns ∧ spotK y x = false)) ∧ y.c ≠ 0 := by
  rw [rebK, mem_drop, mem_put (keys_asc ns)]
theorem mem_atK {l : List KeyD} (h : Asc l) (y : KeyD) : y ∈ l ↔ atK l y.a y.b = some y := ⟨fun hy => at_uniq h hy, fun hy => (at_mem hy).1⟩
theorem pick_none_kind {x : KeyD} : pickO (some x) = if x.c = 0 then none else some x := by
  unfold pickO
  by_cases hc : x.c = 0 <;> simp [hc]
theorem put_keys {ns : NodeD} {x : KeyD} (h : FineN ns) (hx : okK x = true) (hok : putNB ns x = true) : nodeKeysK (putN ns x) = rebK ns x := by
  refine asc_ext (keys_asc _) (drop_asc ((keys_asc ns).put x)) (fun y => ?_)
  rw [mem_atK (keys_asc _), at_keys (fine_of (putN_ok hok)), at_putN h hx hok, mem_reb]
  constructor
  · intro hy
    split at hy
    · rename_i he
      rw [pick_none_kind] at hy
      split at hy
      · cases hy
      · rename_i hc
        injection hy with hy
        subst hy
        exact ⟨.inl rfl, hc⟩
    · rename_i he
      rw [← at_keys h] at hy
      have hm := (at_mem hy).1
      refine ⟨.inr ⟨hm, ?_⟩, drop_kind hm⟩
      cases hs : spotK y x with
      | false => rfl
      | true =>
        have := (spot_iff y x).1 hs
        exact absurd ⟨this.1.symm, this.2.symm⟩ he
  · rintro ⟨rfl | ⟨hm, hs⟩, hc⟩
    · rw [if_pos ⟨rfl, rfl⟩, pick_none_kind, if_neg hc]
    · rw [if_neg (fun e => by
        have := (spot_iff y x).2 ⟨e.1.symm, e.2.symm⟩
        rw [this] at hs
        cases hs), ← at_keys h]
      exact at_uniq (keys_asc ns) hm
theorem mem_putN {ns : NodeD} {x : KeyD} (h : FineN ns) {s : List KeyD} (hs : s ∈ putN ns x) {y : KeyD} (hy : y ∈ s) : y = x ∨ ∃ s' ∈ ns, y ∈ s' := by
  unfold putN at hs
  split at hs
  · unfold layerK at hs
    split at hs
    · rename_i hn
      split at hs
      · rcases List.mem_or_eq_of_mem_set hs with hs | hs
        · exact .inr ⟨s, hs, hy⟩
        · subst hs
          have hl : ns[ns.length - 1] ∈ ns := List.getElem_mem _
          rcases (mem_put (h _ hl).1 x y).1 hy with e | e
          · exact .inl e
          · exact .inr ⟨_, hl, e.1⟩
      · rw [List.mem_append] at hs
        rcases hs with hs | hs
        · exact .inr ⟨s, hs, hy⟩
        · simp at hs
          subst hs
          exact .inl (by simpa using hy)
    · rw [List.mem_append] at hs
      rcases hs with hs | hs
      · exact .inr ⟨s, hs, hy⟩
      · simp at hs
        subst hs
        exact .inl (by simpa using hy)
  · split at hs
    · unfold nodeNewK at hs
      split at hs
      · cases hs
      · simp at hs
        subst hs
        rcases (mem_reb.1 hy).1 with e | e
        · exact .inl e
        · exact .inr (keys_in h e.1)
    · exact .inr ⟨s, hs, hy⟩
/-- A node with its lower bound, below v. -/
def NodeQ (l : Int) (n : NodeD) (v : Int) : Prop := l < v ∧ nodeOkB n = true ∧ (l = 0 ∨ 0 < (nodeKeysK n).length) ∧ ∀ s ∈ n, ∀ y ∈ s, l ≤ spotI y.a y.b ∧ spotI y.a y.b < v
def topC : List (Int × NodeD) → Int → Int
  | [], u => u
  | p :: _, _ => p.1
def Chain : List (Int × NodeD) → Int → Prop
  | [], _ => True
  | p :: r, u => NodeQ p.1 p.2 (topC r u) ∧ Chain r u
theorem top_app (r s : List (Int × NodeD)) (u : Int) : topC (r ++ s) u = topC r (topC s u) := by cases r <;> rfl
theorem chain_app (r s : List (Int × NodeD)) (u : Int) : Chain (r ++ s) u ↔ Chain r (topC s u) ∧ Chain s u := by
  induction r with
  | nil => simp [Chain]
  | cons p r ih =>
    show NodeQ p.1 p.2 (topC (r ++ s) u) ∧ Chain (r ++ s) u ↔ (NodeQ p.1 p.2 (topC r (topC s u)) ∧ Chain r (topC s u)) ∧ Chain s u
    rw [ih, top_app, and_assoc]
theorem NodeQ.up {l : Int} {n : NodeD} {u v : Int} (h : NodeQ l n u) (hv : u ≤ v) : NodeQ l n v := ⟨by have := h.1; omega, h.2.1, h.2.2.1, fun s hs y hy => ⟨(h.2.2.2 s hs y hy).1, by have := (h.2.2.2 s hs y hy).2; omega⟩⟩
theorem chain_up {r : List (Int × NodeD)} {u v : Int} (h : Chain r u) (hv : u ≤ v) : Chain r v := by
  induction r with
  | nil => trivial
  | cons p r ih =>
    refine ⟨h.1.up ?_, ih h.2⟩
    cases r with
    | nil => exact hv
    | cons q r => exact Int.le_refl _
def keysC (r : List (Int × NodeD)) : List KeyD := treeKeysK (r.map (·.2))
theorem keysC_app (r s : List (Int × NodeD)) : keysC (r ++ s) = keysC r ++ keysC s := by simp [keysC, treeKeys_append]
theorem keysC_cons (p : Int × NodeD) (r : List (Int × NodeD)) : keysC (p :: r) = nodeKeysK p.2 ++ keysC r := rfl
theorem NodeQ.key {l : Int} {n : NodeD} {v : Int} (h : NodeQ l n v) {y : KeyD} (hy : y ∈ nodeKeysK n) : l ≤ spotI y.a y.b ∧ spotI y.a y.b < v ∧ okK y = true ∧ y.c ≠ 0 := by
  obtain ⟨s, hs, hys⟩ := keys_in (fine_of h.2.1) hy
  have := h.2.2.2 s hs y hys
  exact ⟨this.1, this.2, keys_okm (fine_of h.2.1) hy, drop_kind hy⟩
theorem chain_top {r : List (Int × NodeD)} {u : Int} (h : Chain r u) : topC r u ≤ u := by
  induction r with
  | nil => exact Int.le_refl _
  | cons p r ih =>
    have h1 := h.1.1
    have h2 := ih h.2
    show p.1 ≤ u
    omega
theorem chain_key {r : List (Int × NodeD)} {u : Int} (h : Chain r u) {y : KeyD} (hy : y ∈ keysC r) : topC r u ≤ spotI y.a y.b ∧ spotI y.a y.b < u ∧ okK y = true ∧ y.c ≠ 0 := by
  induction r with
  | nil => cases hy
  | cons p r ih =>
    rw [keysC_cons, List.mem_append] at hy
    have h1 := h.1.1
    have h2 := chain_top h.2
    rcases hy with hy | hy
    · have := h.1.key hy
      exact ⟨this.1, by omega, this.2.2⟩
    · have := ih h.2 hy
      exact ⟨by show p.1 ≤ _; omega, this.2⟩
theorem less_of_spot {x y : KeyD} (hx : okK x = true) (hy : okK y = true) (h : spotI x.a x.b < spotI y.a y.b) : lessK x y = true := by
  have h1 := spot_ok hx
  have h2 := spot_ok hy
  rw [less_iff]
  omega
theorem spot_of_less {x y : KeyD} (hx : okK x = true) (hy : okK y = true) (h : lessK x y = true) : spotI x.a x.b < spotI y.a y.b := by
  have h1 := spot_ok hx
  have h2 := spot_ok hy
  rw [less_iff] at h
  omega
theorem asc_app {a b : List KeyD} (ha : Asc a) (hb : Asc b) (h : ∀ x ∈ a, ∀ y ∈ b, lessK x y = true) : Asc (a ++ b) := List.pairwise_append.2 ⟨ha, hb, h⟩
theorem chain_asc {r : List (Int × NodeD)} {u : Int} (h : Chain r u) : Asc (keysC r) := by
  induction r with
  | nil => exact List.Pairwise.nil
  | cons p r ih =>
    rw [keysC_cons]
    refine asc_app (keys_asc _) (ih h.2) (fun x hx y hy => ?_)
    have h1 := h.1.key hx
    have h2 := chain_key h.2 hy
    exact less_of_spot h1.2.2.1 h2.2.2.1 (by omega)
/-- A key put between what is less and what is greater. -/
theorem put_mid {a k b : List KeyD} {x : KeyD} (h : Asc (a ++ (k ++ b))) (ha : ∀ y ∈ a, lessK y x = true ∧ y.c ≠ 0) (hb : ∀ y ∈ b, lessK x y = true ∧ y.c ≠ 0) (hr : Asc (a ++ (dropK (putK k x) ++ b))) : dropK (putK (a ++ (k ++ b)) x) = a ++ (dropK (putK k x) ++ b) := by
  have hk : Asc k := (List.pairwise_append.1 (List.pairwise_append.1 h).2.1).1
  refine asc_ext (drop_asc (h.put x)) hr (fun y => ?_)
  rw [mem_drop, mem_put h, List.mem_append, List.mem_append, List.mem_append, List.mem_append, mem_drop, mem_put hk]
  constructor
  · rintro ⟨rfl | ⟨h1 | h1 | h1, h2⟩, hc⟩
    · exact .inr (.inl ⟨.inl rfl, hc⟩)
    · exact .inl h1
    · exact .inr (.inl ⟨.inr ⟨h1, h2⟩, hc⟩)
    · exact .inr (.inr h1)
  · rintro (h1 | ⟨rfl | ⟨h1, h2⟩, hc⟩ | h1)
    · exact ⟨.inr ⟨.inl h1, less_spot (ha y h1).1⟩, (ha y h1).2⟩
    · exact ⟨.inl rfl, hc⟩
    · exact ⟨.inr ⟨.inr (.inl h1), h2⟩, hc⟩
    · exact ⟨.inr ⟨.inr (.inr h1), by rw [spot_comm]; exact less_spot (hb y h1).1⟩, (hb y h1).2⟩
/-- A node of a chain exchanged for others: still a chain, and its keys are the old ones with x put. -/
theorem chain_put {a m b : List (Int × NodeD)} {l : Int} {n : NodeD} {u : Int} {x : KeyD} (h : Chain (a ++ ((l, n) :: b)) u) (hx : okK x = true) (h1 : l ≤ spotI x.a x.b) (h2 : spotI x.a x.b < topC b u) (hm : Chain m (topC b u)) (ht : topC m (topC b u) = l ∨ m = []) (hk : keysC m = rebK n x) :
    Chain (a ++ (m ++ b)) u ∧ keysC (a ++ (m ++ b)) = dropK (putK (keysC (a ++ ((l, n) :: b))) x) := by
  rw [chain_app] at h
  obtain ⟨ca, cn, cb⟩ := h
  have hlv : l < topC b u := cn.1
  have hc : Chain (a ++ (m ++ b)) u := by
    rw [chain_app, chain_app, top_app]
    refine ⟨chain_up ca ?_, hm, cb⟩
    rcases ht with ht | ht
    · rw [ht]; exact Int.le_refl _
    · subst ht
      exact Int.le_of_lt hlv
  refine ⟨hc, ?_⟩
  have ho : Asc (keysC (a ++ ((l, n) :: b))) := chain_asc (u := u) ((chain_app _ _ _).2 ⟨ca, cn, cb⟩)
  have hn := chain_asc hc
  rw [keysC_app, keysC_app, hk, rebK] at hn
  rw [keysC_app, keysC_cons] at ho
  rw [keysC_app, keysC_app, keysC_app, keysC_cons, hk, rebK]
  refine (put_mid ho (fun y hy => ?_) (fun y hy => ?_) hn).symm
  · have := chain_key ca hy
    have hl : spotI y.a y.b < l := this.2.1
    exact ⟨less_of_spot this.2.2.1 hx (by omega), this.2.2.2⟩
  · have := chain_key cb hy
    exact ⟨less_of_spot hx this.2.2.1 (by omega), this.2.2.2⟩
end Go.Proofs.YthopkhpiikiknaaGreat
namespace Go.Proofs.YthopkhpiikiknaaGreat
open Go.RowKit
set_option maxRecDepth 100000
set_option linter.unusedSimpArgs false
set_option linter.unusedVariables false

theorem chain_ix (r : List (Int × NodeD)) (u : Int) : Chain r u ↔ ∀ i (h : i < r.length), NodeQ (r[i]).1 (r[i]).2 (topC (r.drop (i + 1)) u) := by
  induction r with
  | nil => exact ⟨fun _ i h => absurd h (by simp), fun _ => trivial⟩
  | cons p r ih =>
    constructor
    · rintro ⟨h1, h2⟩ i hi
      cases i with
      | zero => exact h1
      | succ i => exact ih.1 h2 i (by simpa using hi)
    · intro h
      exact ⟨h 0 (by simp), ih.2 (fun i hi => h (i + 1) (by simpa using hi))⟩
theorem zip_len {lo : List Int} {ts : List NodeD} (hl : lo.length = ts.length) : (lo.zip ts).length = ts.length := by simp [hl]
theorem top_zip {lo : List Int} {ts : List NodeD} (hl : lo.length = ts.length) (i : Nat) (u : Int) : topC ((lo.zip ts).drop i) u = if i < lo.length then lo.getD i 0 else u := by
  by_cases h : i < lo.length
  · have hz : i < (lo.zip ts).length := by rw [zip_len hl]; omega
    rw [if_pos h, List.drop_eq_getElem_cons hz, getD_at h]
    show ((lo.zip ts)[i]).1 = _
    rw [List.getElem_zip]
  · rw [if_neg h, List.drop_of_length_le (by rw [zip_len hl]; omega)]
    rfl
theorem zip_key {lo : List Int} {ts : List NodeD} (hl : lo.length = ts.length) : keysC (lo.zip ts) = treeKeysK ts := by
  unfold keysC
  rw [show (lo.zip ts).map (·.2) = ts from List.map_snd_zip (by omega)]
theorem zip_cut {lo : List Int} {ts : List NodeD} (hl : lo.length = ts.length) {i : Nat} (hi : i < ts.length) (hi' : i < lo.length) : lo.zip ts = (lo.zip ts).take i ++ ((lo[i], ts[i]) :: (lo.zip ts).drop (i + 1)) := by
  have hz : i < (lo.zip ts).length := by rw [zip_len hl]; omega
  have := List.take_append_drop i (lo.zip ts)
  rw [List.drop_eq_getElem_cons hz, List.getElem_zip] at this
  exact this.symm
theorem zip_setL {lo m : List Int} {ts n : List NodeD} (hl : lo.length = ts.length) (hm : m.length = n.length) (i j : Nat) : (setL lo i m j).zip (setL ts i n j) = (lo.zip ts).take i ++ (m.zip n ++ (lo.zip ts).drop j) := by
  unfold setL
  rw [List.zip_append (by simp [hl, hm]), List.zip_append (by simp [hl]), List.append_assoc]
  simp only [List.zip, List.take_zipWith, List.drop_zipWith]
theorem spot_lim {y : KeyD} (h : okK y = true) : 1 ≤ spotI y.a y.b ∧ spotI y.a y.b < 2000 := by
  have := spot_ok h
  omega
theorem chain_of {lo : List Int} {ts : List NodeD} (h : TreeP lo ts) : Chain (lo.zip ts) 2000 := by
  obtain ⟨h1, h2, h3, h4, h5, h6, h7⟩ := h
  rw [chain_ix]
  intro i hi
  rw [zip_len h3] at hi
  have hi' : i < lo.length := by omega
  simp only [List.getElem_zip]
  have hf := fit_at ⟨h1, h2, h3, h4, h5, h6, h7⟩ hi
  have hfn := fine_of hf.1
  rw [top_zip h3]
  have hok : ∀ s ∈ ts[i], ∀ y ∈ s, okK y = true := fun s hs y hy => List.all_eq_true.1 (hfn s hs).2 y hy
  have hlo : i = 0 → lo[i] = 0 := by
    intro e
    subst e
    rw [← getD_at hi']
    exact h4
  refine ⟨?_, hf.1, ?_, fun s hs y hy => ?_⟩
  · by_cases hj : i + 1 < lo.length
    · rw [if_pos hj, ← getD_at hi']
      exact h5 i (by omega)
    · rw [if_neg hj]
      rcases hf.2.1 with e | e
      · rw [hlo e]; decide
      · obtain ⟨y, hy⟩ := List.exists_mem_of_length_pos e
        obtain ⟨s, hs, hys⟩ := keys_in hfn hy
        have a1 := (hf.2.2 s hs y hys).1
        have a2 := spot_lim (hok s hs y hys)
        rw [getD_at hi'] at a1
        omega
  · rcases hf.2.1 with e | e
    · exact .inl (hlo e)
    · exact .inr e
  · have a1 := hf.2.2 s hs y hy
    have a2 := spot_lim (hok s hs y hy)
    refine ⟨by rw [← getD_at hi']; exact a1.1, ?_⟩
    by_cases hj : i + 1 < lo.length
    · rw [if_pos hj]; exact a1.2 hj
    · rw [if_neg hj]; exact a2.2
/-- A tree without its limits. -/
def ChT (t : TreeD) : Prop := t.1.length = t.2.length ∧ 1 ≤ t.2.length ∧ t.1.getD 0 0 = 0 ∧ Chain (t.1.zip t.2) 2000
theorem ChT.treeP {lo : List Int} {ts : List NodeD} (h : ChT (lo, ts)) (h20 : ts.length ≤ 20) (hk : (treeKeysK ts).length ≤ 60) : TreeP lo ts := by
  obtain ⟨hl, h1, h0, hc⟩ := h
  simp only at hl h1 h0 hc
  rw [chain_ix] at hc
  have hq : ∀ i (hi : i < ts.length), NodeQ (lo.getD i 0) ts[i] (if i + 1 < lo.length then lo.getD (i + 1) 0 else 2000) := by
    intro i hi
    have := hc i (by rw [zip_len hl]; exact hi)
    simp only [List.getElem_zip] at this
    rw [top_zip hl, ← getD_at (by omega)] at this
    exact this
  have hr : RiseP lo := by
    intro i hi
    have := (hq i (by omega)).1
    rw [if_pos (by omega)] at this
    exact this
  refine ⟨h1, h20, hl, h0, hr, fun i hi => decide_eq_true ?_, hk⟩
  rw [getD_node hi]
  have hn := hq i hi
  refine ⟨hn.2.1, ?_, fun s hs y hy => ?_⟩
  · rcases hn.2.2.1 with e | e
    · by_cases hz : i = 0
      · exact .inl hz
      · exfalso
        have a1 := rise_le hr (i - 1) 1 (by omega)
        have a2 := hr 0 (by omega)
        rw [show 1 + (i - 1) = i by omega] at a1
        rw [Nat.zero_add] at a2
        omega
    · exact .inr e
  · have := hn.2.2.2 s hs y hy
    refine ⟨this.1, fun hj => ?_⟩
    rw [if_pos hj] at this
    exact this.2
theorem new_Q {L : List KeyD} {l v : Int} (h : Asc L) (hk : ∀ y ∈ L, okK y = true ∧ y.c ≠ 0 ∧ l ≤ spotI y.a y.b ∧ spotI y.a y.b < v) (h8 : L.length ≤ 8) (hlv : l < v) (h0 : l = 0 ∨ 0 < L.length) : NodeQ l (nodeNewK L) v := by
  refine ⟨hlv, new_ok h (List.all_eq_true.2 (fun y hy => (hk y hy).1)) h8, ?_, fun s hs y hy => ?_⟩
  · rw [keys_new h (fun y hy => (hk y hy).2.1)]
    exact h0
  · unfold nodeNewK at hs
    split at hs
    · cases hs
    · simp at hs
      subst hs
      exact (hk y hy).2.2
theorem set_head {lo m : List Int} {i j : Nat} (hi : i < lo.length) : (setL lo i (lo[i] :: m) j).getD 0 0 = lo.getD 0 0 := by
  cases lo with
  | nil => simp at hi
  | cons c lo =>
    cases i with
    | zero => simp [setL]
    | succ i => simp [setL]
theorem set_head2 {lo m : List Int} {i j : Nat} (hi : i < lo.length) (h : 0 < i) : (setL lo i m j).getD 0 0 = lo.getD 0 0 := by
  cases lo with
  | nil => simp at hi
  | cons c lo =>
    cases i with
    | zero => omega
    | succ i => simp [setL]
theorem where_at {lo : List Int} {ts : List NodeD} {x : KeyD} (h : TreeP lo ts) (hx : okK x = true) : ∃ i : Nat, whereK lo (spotI x.a x.b) = (i : Int) ∧ i < ts.length ∧ i < lo.length ∧ lo.getD i 0 ≤ spotI x.a x.b ∧ spotI x.a x.b < topC ((lo.zip ts).drop (i + 1)) 2000 := by
  obtain ⟨h1, h2, h3, h4, h5, h6, h7⟩ := h
  have hs := spot_lim hx
  have hge := where_ge (lo := lo) (s := spotI x.a x.b) (by omega) (by omega)
  have hlt := (whereK_le lo (spotI x.a x.b)).2
  obtain ⟨i, hi⟩ : ∃ i : Nat, whereK lo (spotI x.a x.b) = (i : Int) := ⟨(whereK lo (spotI x.a x.b)).toNat, by omega⟩
  have hil : i < lo.length := by omega
  have hin := (where_iff h5 hil (spotI x.a x.b)).1 hi
  refine ⟨i, hi, by omega, hil, hin.1, ?_⟩
  rw [top_zip h3]
  by_cases hj : i + 1 < lo.length
  · rw [if_pos hj]; exact hin.2 hj
  · rw [if_neg hj]; exact hs.2
theorem mid_chain {lo : List Int} {ts : List NodeD} {x : KeyD} (h : TreeP lo ts) (hx : okK x = true) : ChT (midK lo ts x) ∧ treeKeysK (midK lo ts x).2 = dropK (putK (treeKeysK ts) x) := by
  obtain ⟨i, hw, hi, hil, hs1, hs2⟩ := where_at h hx
  have hch := chain_of h
  have h0 := h.2.2.2.1
  have hl := h.2.2.1
  have hf := fit_at h hi
  have hfn := fine_of hf.1
  have hcut := zip_cut hl hi hil
  rw [mid_eq hw hi hil]
  rw [getD_at hil] at hs1
  have hch' := hch
  rw [hcut] at hch'
  have hq : NodeQ lo[i] ts[i] (topC ((lo.zip ts).drop (i + 1)) 2000) := ((chain_app _ _ _).1 hch').2.1
  obtain ⟨v, hv⟩ : ∃ v, v = topC ((lo.zip ts).drop (i + 1)) 2000 := ⟨_, rfl⟩
  have go : ∀ (m1 : List Int) (m2 : List NodeD), m1.length = m2.length → Chain (m1.zip m2) v → (topC (m1.zip m2) v = lo[i] ∨ m1.zip m2 = []) → keysC (m1.zip m2) = rebK ts[i] x → 1 ≤ (setL ts i m2 (i + 1)).length → (setL lo i m1 (i + 1)).getD 0 0 = 0 →
      ChT (setL lo i m1 (i + 1), setL ts i m2 (i + 1)) ∧ treeKeysK (setL ts i m2 (i + 1)) = dropK (putK (treeKeysK ts) x) := by
    intro m1 m2 hm c1 c2 c3 c4 c5
    have hlen : (setL lo i m1 (i + 1)).length = (setL ts i m2 (i + 1)).length := by
      rw [setL_len _ _ _ _ (by omega) (by omega), setL_len _ _ _ _ (by omega) (by omega)]
      omega
    rw [hv] at c1 c2
    have hp := chain_put hch' hx hs1 hs2 c1 c2 c3
    rw [← zip_setL hl hm, ← hcut, zip_key hlen, zip_key hl] at hp
    exact ⟨⟨hlen, c4, c5, hp.1⟩, hp.2⟩
  rw [← hv] at hq hs2
  have hL : Asc (rebK ts[i] x) := drop_asc ((keys_asc ts[i]).put x)
  have hLm : ∀ y ∈ rebK ts[i] x, okK y = true ∧ y.c ≠ 0 ∧ lo[i] ≤ spotI y.a y.b ∧ spotI y.a y.b < v := by
    intro y hy
    obtain ⟨e | e, hc⟩ := mem_reb.1 hy
    · subst e
      exact ⟨hx, hc, hs1, hs2⟩
    · have := hq.key e.1
      exact ⟨this.2.2.1, hc, this.1, this.2.1⟩
  split
  · rename_i hB
    obtain ⟨L, hLL⟩ : ∃ L, rebK ts[i] x = L := ⟨_, rfl⟩
    have h9 : L.length = 9 := by
      have a1 := reb_long hfn hx hB
      have a2 := reb_len ts[i] x
      have a3 := ok_small hf.1
      rw [hLL] at a1 a2
      omega
    rw [hLL] at hL hLm go ⊢
    have hh : halfK L = 5 := by unfold halfK; rw [h9]
    have h5 : 5 < L.length := by omega
    rw [hh, show L.getD 5 zK = L[5] by simp [List.getD_eq_getElem?_getD, h5]]
    have hsp := List.take_append_drop 5 L
    have hpw := hL
    rw [← hsp, Asc, List.pairwise_append] at hpw
    have hd5 := drop_at h5
    have hlt : ∀ y ∈ L.take 5, spotI y.a y.b < spotI (L[5]).a (L[5]).b := fun y hy =>
      spot_of_less (hLm y (List.mem_of_mem_take hy)).1 (hLm _ (List.getElem_mem h5)).1 (hpw.2.2 y hy _ (by rw [hd5]; exact List.mem_cons_self))
    have hge : ∀ y ∈ L.drop 5, spotI (L[5]).a (L[5]).b ≤ spotI y.a y.b := by
      intro y hy
      have hp2 := hpw.2.1
      rw [hd5] at hy hp2
      rw [List.pairwise_cons] at hp2
      rw [List.mem_cons] at hy
      rcases hy with e | e
      · subst e; exact Int.le_refl _
      · exact Int.le_of_lt (spot_of_less (hLm _ (List.getElem_mem h5)).1 (hLm y (List.mem_of_mem_drop e)).1 (hp2.1 y e))
    have ht0 : L[0] ∈ L.take 5 := List.mem_take_iff_getElem.2 ⟨0, by omega, rfl⟩
    have q1 : NodeQ lo[i] (nodeNewK (L.take 5)) (spotI (L[5]).a (L[5]).b) := new_Q hpw.1 (fun y hy => by
      have := hLm y (List.mem_of_mem_take hy)
      exact ⟨this.1, this.2.1, this.2.2.1, hlt y hy⟩) (by simp; omega) (by
        have a1 := hlt _ ht0
        have a2 := (hLm _ (List.mem_of_mem_take ht0)).2.2.1
        omega) (.inr (by simp; omega))
    have q2 : NodeQ (spotI (L[5]).a (L[5]).b) (nodeNewK (L.drop 5)) v := new_Q hpw.2.1 (fun y hy => by
      have := hLm y (List.mem_of_mem_drop hy)
      exact ⟨this.1, this.2.1, hge y hy, this.2.2.2⟩) (by simp; omega) (hLm _ (List.getElem_mem h5)).2.2.2 (.inr (by simp; omega))
    refine go [lo[i], spotI (L[5]).a (L[5]).b] [nodeNewK (L.take 5), nodeNewK (L.drop 5)] rfl ⟨q1, q2, trivial⟩ (.inl rfl) ?_ ?_ ?_
    · show nodeKeysK (nodeNewK (L.take 5)) ++ (nodeKeysK (nodeNewK (L.drop 5)) ++ []) = L
      rw [keys_new hpw.1 (fun y hy => (hLm y (List.mem_of_mem_take hy)).2.1), keys_new hpw.2.1 (fun y hy => (hLm y (List.mem_of_mem_drop hy)).2.1), List.append_nil, hsp]
    · rw [setL_len _ _ _ _ (by omega) (by omega)]; simp
    · rw [set_head hil]; exact h0
  · rename_i hB
    have hB' : putNB ts[i] x = true := by simpa using hB
    have hpk := put_keys hfn hx hB'
    split
    · rename_i hz
      refine go [] [] rfl trivial (.inr rfl) ?_ ?_ ?_
      · rw [← hpk]
        exact (List.length_eq_zero_iff.1 hz.2).symm
      · rw [setL_len _ _ _ _ (by omega) (by omega)]; simp; omega
      · rw [set_head2 hil hz.1]; exact h0
    · rename_i hz
      refine go [lo[i]] [putN ts[i] x] rfl ⟨⟨hq.1, putN_ok hB', ?_, fun s hs y hy => ?_⟩, trivial⟩ (.inl rfl) ?_ ?_ ?_
      · by_cases hi0 : i = 0
        · subst hi0
          exact .inl (by rw [← getD_at hil]; exact h0)
        · exact .inr (Nat.pos_of_ne_zero (fun e => hz ⟨by omega, e⟩))
      · rcases mem_putN hfn hs hy with e | ⟨s', hs', hy'⟩
        · subst e; exact ⟨hs1, hs2⟩
        · exact hq.2.2.2 s' hs' y hy'
      · show nodeKeysK (putN ts[i] x) ++ [] = _
        rw [List.append_nil, hpk]
      · rw [setL_len _ _ _ _ (by omega) (by omega)]; simp; omega
      · rw [set_head hil]; exact h0
end Go.Proofs.YthopkhpiikiknaaGreat
namespace Go.Proofs.YthopkhpiikiknaaGreat
open Go.RowKit
set_option maxRecDepth 100000
set_option linter.unusedSimpArgs false
set_option linter.unusedVariables false

theorem joinAt_set {t : TreeD} {i : Nat} (hi : i < t.1.length) : joinAt t i = (setL t.1 i [t.1[i]] (i + 2), setL t.2 i [nodeNewK (nodeKeysK (t.2.getD i []) ++ nodeKeysK (t.2.getD (i + 1) []))] (i + 2)) := by
  unfold joinAt
  rw [List.take_succ_eq_append_getElem hi]
  rfl
theorem joinAt_chain {t : TreeD} {i : Nat} (h : ChT t) (hi : i + 1 < t.2.length) (hf : fewB (t.2[i]'(by omega)) t.2[i + 1] = true) : ChT (joinAt t i) ∧ treeKeysK (joinAt t i).2 = treeKeysK t.2 := by
  obtain ⟨lo, ts⟩ := t
  obtain ⟨hl, h1, h0, hc⟩ := h
  simp only at hl h1 h0 hc hi hf
  have hi0 : i < ts.length := by omega
  have hil : i < lo.length := by omega
  have hil1 : i + 1 < lo.length := by omega
  rw [joinAt_set (t := (lo, ts)) hil]
  simp only
  rw [getD_node hi0, getD_node hi]
  have hcut := zip_cut hl hi0 hil
  have hz : i + 1 < (lo.zip ts).length := by rw [zip_len hl]; exact hi
  have hd : (lo.zip ts).drop (i + 1) = (lo[i + 1], ts[i + 1]) :: (lo.zip ts).drop (i + 2) := by
    rw [List.drop_eq_getElem_cons hz, List.getElem_zip]
  have hc' := hc
  rw [hcut, hd, chain_app] at hc'
  obtain ⟨ca, c1, c2, c3⟩ := hc'
  obtain ⟨k1, hk1⟩ : ∃ k, nodeKeysK ts[i] = k := ⟨_, rfl⟩
  obtain ⟨k2, hk2⟩ : ∃ k, nodeKeysK ts[i + 1] = k := ⟨_, rfl⟩
  have hfew : k1.length + k2.length ≤ 6 := by
    have := of_decide_eq_true hf
    rw [hk1, hk2] at this
    exact this
  obtain ⟨v, hv⟩ : ∃ v, v = topC ((lo.zip ts).drop (i + 2)) 2000 := ⟨_, rfl⟩
  have q1 : NodeQ lo[i] ts[i] lo[i + 1] := c1
  have q2 : NodeQ lo[i + 1] ts[i + 1] v := by rw [hv]; exact c2
  have a1 := q1.1
  have a2 := q2.1
  have hm : ∀ y ∈ k1 ++ k2, okK y = true ∧ y.c ≠ 0 ∧ lo[i] ≤ spotI y.a y.b ∧ spotI y.a y.b < v := by
    intro y hy
    rw [List.mem_append] at hy
    rcases hy with hy | hy
    · have := q1.key (hk1 ▸ hy)
      exact ⟨this.2.2.1, this.2.2.2, this.1, by omega⟩
    · have := q2.key (hk2 ▸ hy)
      exact ⟨this.2.2.1, this.2.2.2, by omega, this.2.1⟩
  have hasc : Asc (k1 ++ k2) := by
    refine asc_app (hk1 ▸ keys_asc _) (hk2 ▸ keys_asc _) (fun x hx y hy => ?_)
    have b1 := q1.key (hk1 ▸ hx)
    have b2 := q2.key (hk2 ▸ hy)
    exact less_of_spot b1.2.2.1 b2.2.2.1 (by omega)
  have hq : NodeQ lo[i] (nodeNewK (k1 ++ k2)) v := new_Q hasc hm (by simp; omega) (by omega) (by
    rcases q1.2.2.1 with e | e
    · exact .inl e
    · refine .inr ?_
      rw [hk1] at e
      simp
      omega)
  have hkk : nodeKeysK (nodeNewK (k1 ++ k2)) = k1 ++ k2 := keys_new hasc (fun y hy => (hm y hy).2.1)
  have hlen : (setL lo i [lo[i]] (i + 2)).length = (setL ts i [nodeNewK (k1 ++ k2)] (i + 2)).length := by
    rw [setL_len _ _ _ _ (by omega) (by omega), setL_len _ _ _ _ (by omega) (by omega)]
    simp
    omega
  rw [hk1, hk2]
  refine ⟨⟨hlen, ?_, ?_, ?_⟩, ?_⟩
  · show 1 ≤ (setL ts i [nodeNewK (k1 ++ k2)] (i + 2)).length
    rw [setL_len _ _ _ _ (by omega) (by omega)]
    simp
    omega
  · show (setL lo i [lo[i]] (i + 2)).getD 0 0 = 0
    rw [set_head hil]
    exact h0
  · show Chain ((setL lo i [lo[i]] (i + 2)).zip (setL ts i [nodeNewK (k1 ++ k2)] (i + 2))) 2000
    rw [zip_setL hl rfl, chain_app]
    exact ⟨ca, hv ▸ hq, c3⟩
  · show treeKeysK (setL ts i [nodeNewK (k1 ++ k2)] (i + 2)) = treeKeysK ts
    rw [← zip_key hl, ← zip_key hlen, zip_setL hl rfl]
    conv => rhs; rw [hcut, hd]
    rw [keysC_app, keysC_app, keysC_app, keysC_cons, keysC_cons]
    congr 1
    show (nodeKeysK (nodeNewK (k1 ++ k2)) ++ []) ++ _ = nodeKeysK ts[i] ++ (nodeKeysK ts[i + 1] ++ _)
    rw [hkk, hk1, hk2, List.append_nil, List.append_assoc]
theorem joinGo_chain : ∀ (n : Nat) (t : TreeD), ChT t → ChT (joinGo n t) ∧ treeKeysK (joinGo n t).2 = treeKeysK t.2 := by
  intro n
  induction n with
  | zero => intro t h; exact ⟨h, rfl⟩
  | succ n ih =>
    intro t h
    simp only [joinGo]
    split
    · rename_i hp
      rcases pair_spec t.2 with ⟨h1, _⟩ | ⟨i, h1, h2, h3, _⟩
      · omega
      · rw [h1, show ((i : Int)).toNat = i from rfl]
        have hj := joinAt_chain h h2 h3
        have hk := ih _ hj.1
        exact ⟨hk.1, hk.2.trans hj.2⟩
    · exact ⟨h, rfl⟩
theorem joinGo_end : ∀ (n : Nat) (t : TreeD), t.2.length ≤ n → pairK (joinGo n t).2 = -1 := by
  intro n
  induction n with
  | zero =>
    intro t h
    have h0 : t.2 = [] := List.length_eq_zero_iff.1 (by omega)
    show pairK t.2 = -1
    rw [h0]
    rfl
  | succ n ih =>
    intro t h
    simp only [joinGo]
    split
    · rename_i hp
      have := joinAt_len t _ (pair_lt hp)
      exact ih _ (by omega)
    · rename_i hp
      rcases pair_spec t.2 with ⟨h1, _⟩ | ⟨i, h1, _⟩
      · exact h1
      · omega
theorem many_keys : ∀ (n : Nat) (ts : List NodeD), ts.length ≤ n → (∀ j (h : j + 1 < ts.length), fewB ts[j] ts[j + 1] = false) → 7 * (ts.length / 2) ≤ (treeKeysK ts).length := by
  intro n
  induction n with
  | zero =>
    intro ts h _
    have : ts = [] := List.length_eq_zero_iff.1 (by omega)
    subst this
    simp
  | succ n ih =>
    intro ts h hp
    match ts with
    | [] => simp
    | [a] => simp
    | a :: b :: r =>
      have h1 := hp 0 (by simp)
      have h2 : 6 < (nodeKeysK a).length + (nodeKeysK b).length := by
        have := of_decide_eq_false h1
        simp at this
        omega
      have h3 := ih r (by simp at h; omega) (fun j hj => hp (j + 2) (by simp; omega))
      rw [treeKeys_cons, treeKeys_cons]
      simp only [List.length_cons, List.length_append]
      omega
/-- What TreePut makes of a valid tree and a valid key. -/
theorem end_chain {lo : List Int} {ts : List NodeD} {x : KeyD} (h : TreeP lo ts) (hx : okK x = true) : ChT (endK lo ts x) ∧ treeKeysK (endK lo ts x).2 = dropK (putK (treeKeysK ts) x) ∧ (endK lo ts x).2.length ≤ 20 := by
  have hm := mid_chain h hx
  have hj := joinGo_chain (midK lo ts x).2.length _ hm.1
  have he := joinGo_end (midK lo ts x).2.length (midK lo ts x) (Nat.le_refl _)
  have hk : treeKeysK (endK lo ts x).2 = dropK (putK (treeKeysK ts) x) := hj.2.trans hm.2
  refine ⟨hj.1, hk, ?_⟩
  have hmany := many_keys (endK lo ts x).2.length (endK lo ts x).2 (Nat.le_refl _) (fun j hj => by
    rcases pair_spec (endK lo ts x).2 with ⟨_, h1⟩ | ⟨i, h1, _⟩
    · exact h1 j hj
    · have : pairK (endK lo ts x).2 = -1 := he
      omega)
  rw [hk] at hmany
  have a1 := dropK_len (putK (treeKeysK ts) x)
  have a2 := putK_len (treeKeysK ts) x
  have a3 := h.2.2.2.2.2.2
  omega
theorem putB_iff {lo : List Int} {ts : List NodeD} {x : KeyD} (h : treeOkB lo ts = true) (hx : okK x = true) : treePutB lo ts x = decide ((dropK (putK (treeKeysK ts) x)).length ≤ 60) := by
  obtain ⟨h1, h2, h3⟩ := end_chain (of_decide_eq_true h) hx
  unfold treePutB
  rw [h, hx, Bool.true_and, Bool.true_and]
  by_cases hk : (dropK (putK (treeKeysK ts) x)).length ≤ 60
  · rw [decide_eq_true hk]
    exact decide_eq_true (ChT.treeP (lo := (endK lo ts x).1) (ts := (endK lo ts x).2) h1 h3 (by rw [h2]; exact hk))
  · rw [decide_eq_false hk]
    exact decide_eq_false (fun hp => hk (by rw [← h2]; exact hp.2.2.2.2.2.2))
/-- A key is refused only by a tree that has all that it may have. -/
theorem put_full {lo : List Int} {ts : List NodeD} {x : KeyD} (h : treeOkB lo ts = true) (hx : okK x = true) (hb : treePutB lo ts x = false) : (treeKeysK ts).length = 60 := by
  rw [putB_iff h hx] at hb
  have a0 := of_decide_eq_false hb
  have a1 := dropK_len (putK (treeKeysK ts) x)
  have a2 := putK_len (treeKeysK ts) x
  have a3 := (of_decide_eq_true h : TreeP lo ts).2.2.2.2.2.2
  omega
theorem put_done {lo : List Int} {ts : List NodeD} {x : KeyD} (h : treeOkB lo ts = true) (hx : okK x = true) (hb : treePutB lo ts x = true) : treeOkB (treePutK lo ts x).1 (treePutK lo ts x).2 = true ∧ treeKeysK (treePutK lo ts x).2 = dropK (putK (treeKeysK ts) x) := by
  have hk := (end_chain (of_decide_eq_true h) hx).2.1
  unfold treePutK
  rw [if_pos hb]
  unfold treePutB at hb
  simp only [Bool.and_eq_true] at hb
  exact ⟨hb.2, hk⟩
theorem tree_asc {lo : List Int} {ts : List NodeD} (h : treeOkB lo ts = true) : Asc (treeKeysK ts) ∧ ∀ y ∈ treeKeysK ts, okK y = true ∧ y.c ≠ 0 := by
  have hp : TreeP lo ts := of_decide_eq_true h
  have hc := chain_of hp
  rw [← zip_key hp.2.2.1]
  exact ⟨chain_asc hc, fun y hy => (chain_key hc hy).2.2⟩
theorem at_app (a b : List KeyD) (p q : Int) : atK (a ++ b) p q = (atK a p q).or (atK b p q) := by unfold atK; exact List.find?_append
theorem at_not {l : List KeyD} {p q : Int} (h : ∀ y ∈ l, ¬ (y.a = p ∧ y.b = q)) : atK l p q = none := by
  unfold atK
  rw [List.find?_eq_none]
  intro y hy
  rw [spotB_iff]
  exact h y hy
theorem tree_at {lo : List Int} {ts : List NodeD} {x : KeyD} (h : treeOkB lo ts = true) (hx : okK x = true) : treeAtK lo ts x.a x.b = atK (treeKeysK ts) x.a x.b := by
  have hp : TreeP lo ts := of_decide_eq_true h
  obtain ⟨i, hw, hi, hil, hs1, hs2⟩ := where_at hp hx
  have hl := hp.2.2.1
  have hcut := zip_cut hl hi hil
  have hc := chain_of hp
  rw [hcut, chain_app] at hc
  obtain ⟨ca, c1, c2⟩ := hc
  rw [getD_at hil] at hs1
  have hx2 := spot_ok hx
  have ne : ∀ y : KeyD, spotI y.a y.b ≠ spotI x.a x.b → ¬ (y.a = x.a ∧ y.b = x.b) := fun y hn e => hn (by rw [e.1, e.2])
  have e1 : atK (treeKeysK ts) x.a x.b = atK (nodeKeysK ts[i]) x.a x.b := by
    rw [← zip_key hl, hcut, keysC_app, keysC_cons, at_app, at_app]
    rw [at_not (l := keysC ((lo.zip ts).take i)) (fun y hy => ne y (by
      have := (chain_key ca hy).2.1
      have h2 : spotI y.a y.b < lo[i] := this
      omega))]
    rw [at_not (l := keysC ((lo.zip ts).drop (i + 1))) (fun y hy => ne y (by
      have := (chain_key c2 hy).1
      omega))]
    simp
  rw [e1, at_keys (fine_of (fit_at hp hi).1)]
  unfold treeAtK
  have hh : 0 ≤ whereK lo (spotI x.a x.b) ∧ (whereK lo (spotI x.a x.b)).toNat < ts.length := by rw [hw]; exact ⟨by omega, hi⟩
  rw [dif_pos hh]
  have hn : (whereK lo (spotI x.a x.b)).toNat = i := by rw [hw]; rfl
  simp only [hn]
theorem less_len {l : List KeyD} (h : Asc l) (x : KeyD) : (l.filter (fun y => !spotK y x)).length + (if (atK l x.a x.b).isSome then 1 else 0) = l.length := by
  induction l with
  | nil => rfl
  | cons a l ih =>
    rw [Asc, List.pairwise_cons] at h
    have ha : atK (a :: l) x.a x.b = if spotK a x then some a else atK l x.a x.b := by
      unfold atK
      rw [List.find?_cons]
      show (match spotK a x with | true => some a | false => _) = _
      cases spotK a x <;> rfl
    rw [ha]
    cases hs : spotK a x with
    | true =>
      have hf : l.filter (fun y => !spotK y x) = l := List.filter_eq_self.2 (fun y hy => by
        have h1 := h.1 y hy
        have h2 := (spot_iff a x).1 hs
        cases hy2 : spotK y x with
        | false => rfl
        | true =>
          have h3 := (spot_iff y x).1 hy2
          have h4 := (less_iff a y).1 h1
          omega)
      simp [hs, hf]
    | false =>
      have := ih h.2
      simp [hs]
      omega
theorem put_count {l : List KeyD} (h : Asc l) (hk : ∀ y ∈ l, y.c ≠ 0) (x : KeyD) : (dropK (putK l x)).length + (if (atK l x.a x.b).isSome then 1 else 0) = l.length + (if (x.c != 0) = true then 1 else 0) := by
  have hl := less_len h x
  have hsp := List.take_append_drop (placeK l x) l
  have ht : (l.take (placeK l x)).filter (fun y => !spotK y x) = l.take (placeK l x) := List.filter_eq_self.2 (fun y hy => by rw [less_spot (place_take hy)]; rfl)
  have hf : (l.filter (fun y => !spotK y x)).length = (l.take (placeK l x)).length + ((l.drop (placeK l x)).filter (fun y => !spotK y x)).length := by
    conv => lhs; rw [← hsp]
    rw [List.filter_append, ht, List.length_append]
  have hd : ∀ m : List KeyD, (∀ y ∈ m, y.c ≠ 0) → dropK m = m := fun m hm => List.filter_eq_self.2 (fun y hy => by simpa using hm y hy)
  have hp : (dropK (putK l x)).length = (l.take (placeK l x)).length + (if (x.c != 0) = true then 1 else 0) + ((l.drop (placeK l x)).filter (fun y => !spotK y x)).length := by
    rw [put_eq]
    have e1 := hd _ (fun y hy => hk y (List.mem_of_mem_take (i := placeK l x) hy))
    have e2 := hd ((l.drop (placeK l x)).filter (fun y => !spotK y x)) (fun y hy => hk y (List.mem_of_mem_drop (List.mem_filter.1 hy).1))
    have e3 : dropK (l.take (placeK l x) ++ (x :: (l.drop (placeK l x)).filter (fun y => !spotK y x))) = dropK (l.take (placeK l x)) ++ ((if (x.c != 0) = true then [x] else []) ++ dropK ((l.drop (placeK l x)).filter (fun y => !spotK y x))) := by
      unfold dropK
      rw [List.filter_append, List.filter_cons]
      split <;> simp
    rw [e3, e1, e2]
    simp only [List.length_append]
    split <;> simp <;> omega
  omega
theorem at_put_tree {l : List KeyD} (h : Asc l) (x : KeyD) (p q : Int) : atK (dropK (putK l x)) p q = if x.a = p ∧ x.b = q then pickO (some x) else pickO (atK l p q) := by
  rw [at_drop (h.put x), at_put]
  split <;> rfl
end Go.Proofs.YthopkhpiikiknaaGreat
namespace Go.Proofs.YthopkhpiikiknaaGreat
open Go.RowKit
set_option maxRecDepth 100000
set_option linter.unusedSimpArgs false
set_option linter.unusedVariables false

set_option maxHeartbeats 1000000 in
theorem sameKeysN (v u : Value) (l : List KeyD) (w : World) (hv : Reads w w.heap.size v (keysD l)) (hu : Reads w w.heap.size u (keysD l)) (hn : l.length ≤ 2097152) :
    Calls Tryz.prog 28 #[v, u] w (SaysBool w true) := by
  obtain ⟨A, c, rfl, _, _⟩ := hv.shapeK
  obtain ⟨A', c', rfl, _, _⟩ := hu.shapeK
  have HV := Lib.hid hv
  have HU := Lib.hid hu
  clear hv hu
  have hne : (((l.length : Nat) : Int) != ((l.length : Nat) : Int)) = false := by simp
  go_enter Tryz.func28, Tryz.ntmps28
  go_wp2
  go_loopw [5] (fun i wr => ∃ k : Nat, k ≤ l.length ∧ i = .int .i64 k ∧ Hid (Below w.heap.size w wr)) (fun i _ => l.length - (intOf i).toNat)
  case atStart => exact ⟨0, Nat.zero_le _, rfl, Lib.hid (Below.refl _ _)⟩
  case round =>
    obtain ⟨k, hk, rfl, HB⟩ := hrel
    by_cases hlt : k < l.length
    · obtain ⟨b, off, rfl, hbb, hc⟩ := (HV.out.on HB.out).keys hlt
      obtain ⟨b', off', rfl, hbb', hc'⟩ := (HU.out.on HB.out).keys hlt
      have i1 : (k : Int) < (l.length : Int) := by omega
      have i2 : (0 : Int) ≤ (k : Int) := by omega
      obtain ⟨c0, c1, c2, c3, c4⟩ := hc k hlt
      obtain ⟨d0, d1, d2, d3, d4⟩ := hc' k hlt
      clear hc hc'
      have HBq : Hid (∀ n, Below w.heap.size w (wr.drewN n)) := Lib.hid (fun n => bdrew HB.out n)
      go_wp2
      go_quiet (fail)
      go_wp2
      go_roundw
      case rel => exact ⟨k + 1, by omega, by go_num, Lib.hid (HBq.out _)⟩
      case measure => simp [intOf]; omega
    · go_wp2
      go_ret
      exact ⟨rfl, HB.out⟩
set_option maxHeartbeats 1000000 in
theorem sameNode_same (v u : Value) (ns : List (List KeyD)) (w : World) (hv : Reads w w.heap.size v (setsD ns)) (hu : Reads w w.heap.size u (setsD ns)) (hs : SmallN ns) : Calls Tryz.prog 49 #[.agg #[v], .agg #[u]] w (SaysBool w true) := by
  obtain ⟨A, c, rfl, _, _⟩ := hv.lenN
  obtain ⟨A', c', rfl, _, _⟩ := hu.lenN
  have B0 := bal2 w (.cells #[.slice A ns.length c] 62) (.cells #[.slice A' ns.length c'] 62)
  obtain ⟨q0, q1⟩ := al2 w (.cells #[.slice A ns.length c] 62) (.cells #[.slice A' ns.length c'] 62)
  have HB := Lib.hid B0
  have Q0 := Lib.hid q0
  have Q1 := Lib.hid q1
  have HV := Lib.hid (hv.on B0)
  have HU := Lib.hid (hu.on B0)
  have HS := Lib.hid hs
  have hn := hs.1
  have hne : ((ns.length : Int) != (ns.length : Int)) = false := by simp
  clear hv hu hs B0 q0 q1
  go_enter Tryz.func49, Tryz.ntmps49
  go_upto_region 1 with (fail)
  generalize (w.alloc (.cells #[.slice A ns.length c] 62)).alloc (.cells #[.slice A' ns.length c'] 62) = W at *
  obtain ⟨x0, x1⟩ := box1N Q0.out
  obtain ⟨y0, y1⟩ := box1N Q1.out
  go_wp2
  clear x0 x1 y0 y1
  go_loopw [5] (fun i wr => ∃ k : Nat, k ≤ ns.length ∧ i = .int .i64 k ∧ Hid (Below W.heap.size W wr)) (fun i _ => ns.length - (intOf i).toNat)
  case atStart => exact ⟨0, Nat.zero_le _, rfl, Lib.hid (Below.refl _ _)⟩
  case round =>
    obtain ⟨k, hk, rfl, HW⟩ := hrel
    have R0 := Lib.hid (box_on Q0.out HW.out)
    have R1 := Lib.hid (box_on Q1.out HW.out)
    obtain ⟨x0, x1⟩ := box1N R0.out
    by_cases hlt : k < ns.length
    · obtain ⟨b, off, rfl, hbb, hc⟩ := (HV.out.on HW.out).set hlt
      obtain ⟨b2, off2, rfl, hbb2, hc2⟩ := (HU.out.on HW.out).set hlt
      obtain ⟨A1, d1, c1, _, _, r1⟩ := hc k hlt
      obtain ⟨A2, d2, c2, _, _, r2⟩ := hc2 k hlt
      have hl := HS.out.at hlt
      have RA := Lib.hid r1
      have RB := Lib.hid r2
      have C1 := Lib.hid c1
      have C2 := Lib.hid c2
      have i1 : (k : Int) < (ns.length : Int) := by omega
      have i2 : (0 : Int) ≤ (k : Int) := by omega
      clear hc hc2 r1 r2 c1 c2
      go_upto_region 6 with (fail)
      clear x0 x1
      refine but_begin (f := 11) (S := fun V => Below wr.heap.size wr V) (by kernel_rfl) ?_
      refine but_take (f := 11) (i := 0) (v := ?vs0) rfl (by kernel_rfl) (by kernel_rfl) (by kernel_rfl) (by kernel_rfl) (by kernel_rfl) (fun _ _ _ h => h) (Or.inl ⟨(by rfl), ?hys0⟩) (Below.drew1 _) ?rests0
      case hys0 =>
        intro W hW
        go_simp
        exact rfl
      simp only [List.getElem_toArray, List.getElem_cons_succ, List.getElem_cons_zero, Act.put, List.setIfInBounds_toArray, List.set_cons_zero, List.set_cons_succ]
      refine but_take (f := 11) (i := 1) (v := ?vs1) rfl (by kernel_rfl) (by kernel_rfl) (by kernel_rfl) (by kernel_rfl) (by kernel_rfl) (fun _ _ _ h => h) (Or.inl ⟨(by rfl), ?hys1⟩) (Below.drew1 _) ?rests1
      case hys1 =>
        intro W hW
        obtain ⟨x0, x1⟩ := box1N (box_on R0.out hW)
        obtain ⟨y0, y1⟩ := box1N (box_on R1.out hW)
        go_simp
        exact rfl
      simp only [List.getElem_toArray, List.getElem_cons_succ, List.getElem_cons_zero, Act.put, List.setIfInBounds_toArray, List.set_cons_zero, List.set_cons_succ]
      refine but_take (f := 11) (i := 2) (v := ?vs2) rfl (by kernel_rfl) (by kernel_rfl) (by kernel_rfl) (by kernel_rfl) (by kernel_rfl) (fun _ _ _ h => h) (Or.inl ⟨(by rfl), ?hys2⟩) (Below.drew1 _) ?rests2
      case hys2 =>
        intro W hW
        go_simp
        exact rfl
      simp only [List.getElem_toArray, List.getElem_cons_succ, List.getElem_cons_zero, Act.put, List.setIfInBounds_toArray, List.set_cons_zero, List.set_cons_succ]
      refine but_take (f := 11) (i := 3) (v := ?vs3) rfl (by kernel_rfl) (by kernel_rfl) (by kernel_rfl) (by kernel_rfl) (by kernel_rfl) (fun _ _ _ h => h) (Or.inl ⟨(by rfl), ?hys3⟩) (Below.drew1 _) ?rests3
      case hys3 =>
        intro W hW
        go_simp
        exact rfl
      simp only [List.getElem_toArray, List.getElem_cons_succ, List.getElem_cons_zero, Act.put, List.setIfInBounds_toArray, List.set_cons_zero, List.set_cons_succ]
      refine but_take (f := 11) (i := 4) (v := ?vs4) rfl (by kernel_rfl) (by kernel_rfl) (by kernel_rfl) (by kernel_rfl) (by kernel_rfl) (fun _ _ _ h => h) (Or.inl ⟨(by rfl), ?hys4⟩) (Below.drew1 _) ?rests4
      case hys4 =>
        intro W hW
        have hcc := (hW.cell (p := ⟨b, off + k, none⟩) hbb).trans C1.out
        have hcd := (hW.cell (p := ⟨b2, off2 + k, none⟩) hbb2).trans C2.out
        go_simp
        exact rfl
      simp only [List.getElem_toArray, List.getElem_cons_succ, List.getElem_cons_zero, Act.put, List.setIfInBounds_toArray, List.set_cons_zero, List.set_cons_succ]
      refine but_take (f := 11) (i := 5) (v := ?vs5) rfl (by kernel_rfl) (by kernel_rfl) (by kernel_rfl) (by kernel_rfl) (by kernel_rfl) (fun _ _ _ h => h) (Or.inl ⟨(by rfl), ?hys5⟩) (Below.drew1 _) ?rests5
      case hys5 =>
        intro W hW
        go_simp
        exact rfl
      simp only [List.getElem_toArray, List.getElem_cons_succ, List.getElem_cons_zero, Act.put, List.setIfInBounds_toArray, List.set_cons_zero, List.set_cons_succ]
      refine but_take (f := 11) (i := 6) (v := ?vs6) rfl (by kernel_rfl) (by kernel_rfl) (by kernel_rfl) (by kernel_rfl) (by kernel_rfl) (fun _ _ _ h => h) (Or.inl ⟨(by rfl), ?hys6⟩) (Below.drew1 _) ?rests6
      case hys6 =>
        intro W hW
        obtain ⟨x0, x1⟩ := box1N (box_on R0.out hW)
        obtain ⟨y0, y1⟩ := box1N (box_on R1.out hW)
        go_simp
        exact rfl
      simp only [List.getElem_toArray, List.getElem_cons_succ, List.getElem_cons_zero, Act.put, List.setIfInBounds_toArray, List.set_cons_zero, List.set_cons_succ]
      refine but_take (f := 11) (i := 7) (v := ?vs7) rfl (by kernel_rfl) (by kernel_rfl) (by kernel_rfl) (by kernel_rfl) (by kernel_rfl) (fun _ _ _ h => h) (Or.inl ⟨(by rfl), ?hys7⟩) (Below.drew1 _) ?rests7
      case hys7 =>
        intro W hW
        go_simp
        exact rfl
      simp only [List.getElem_toArray, List.getElem_cons_succ, List.getElem_cons_zero, Act.put, List.setIfInBounds_toArray, List.set_cons_zero, List.set_cons_succ]
      refine but_take (f := 11) (i := 8) (v := ?vs8) rfl (by kernel_rfl) (by kernel_rfl) (by kernel_rfl) (by kernel_rfl) (by kernel_rfl) (fun _ _ _ h => h) (Or.inl ⟨(by rfl), ?hys8⟩) (Below.drew1 _) ?rests8
      case hys8 =>
        intro W hW
        go_simp
        exact rfl
      simp only [List.getElem_toArray, List.getElem_cons_succ, List.getElem_cons_zero, Act.put, List.setIfInBounds_toArray, List.set_cons_zero, List.set_cons_succ]
      refine but_take (f := 11) (i := 9) (v := ?vs9) rfl (by kernel_rfl) (by kernel_rfl) (by kernel_rfl) (by kernel_rfl) (by kernel_rfl) (fun _ _ _ h => h) (Or.inl ⟨(by rfl), ?hys9⟩) (Below.drew1 _) ?rests9
      case hys9 =>
        intro W hW
        have hcc := (hW.cell (p := ⟨b, off + k, none⟩) hbb).trans C1.out
        have hcd := (hW.cell (p := ⟨b2, off2 + k, none⟩) hbb2).trans C2.out
        go_simp
        exact rfl
      simp only [List.getElem_toArray, List.getElem_cons_succ, List.getElem_cons_zero, Act.put, List.setIfInBounds_toArray, List.set_cons_zero, List.set_cons_succ]
      refine but_run (i := 10) (by kernel_rfl) rfl (by rfl) ?_
      simp only [List.getElem_toArray, List.getElem_cons_succ, List.getElem_cons_zero]
      intro K HK
      go_wp2_with fail
      refine (sameKeysN _ _ ns[k] _ (RA.out.on (Below.drew1 _)) (RB.out.on (Below.drew1 _)) (by omega)).mono ?_
      rintro r Vs1 ⟨rfl, hbs1⟩
      go_wp2_with fail
      have hSs1 : (fun V => Below wr.heap.size wr V) Vs1 := bstep (Below.drew1 _) hbs1
      refine HK.out _ _ (fun _ => hSs1) ?_
      clear HK
      refine but_run (i := 11) (by kernel_rfl) rfl (by rfl) ?_
      simp only [List.getElem_toArray, List.getElem_cons_succ, List.getElem_cons_zero]
      intro K HK
      go_wp2_with fail
      refine HK.out _ _ (fun h => absurd rfl h) ?_
      clear HK
      refine but_done (by kernel_rfl) ?_
      have HW2 := Lib.hid (HW.out.trans (hSs1.mono HW.out.size))
      clear hSs1 hbs1
      go_wp2
      go_roundw
      case rel => exact ⟨k + 1, by omega, by go_num, HW2⟩
      case measure => simp [intOf]; omega
    · go_wp2
      go_ret
      exact ⟨rfl, bstep HB.out HW.out⟩
end Go.Proofs.YthopkhpiikiknaaGreat
namespace Go.Proofs.YthopkhpiikiknaaGreat
open Go.RowKit
set_option maxRecDepth 100000
set_option linter.unusedSimpArgs false
set_option linter.unusedVariables false
set_option maxHeartbeats 1000000 in
theorem sameIntsT (v u : Value) (l : List Int) (w : World) (hv : Reads w w.heap.size v (intsD l)) (hu : Reads w w.heap.size u (intsD l)) (hn : l.length ≤ 1100000) :
    Calls Tryz.prog 48 #[v, u] w (SaysBool w true) := by
  obtain ⟨A, c, rfl, _, _⟩ := hv.lenN
  obtain ⟨A', c', rfl, _, _⟩ := hu.lenN
  have hne : ((l.length : Int) != (l.length : Int)) = false := by simp
  have HV := Lib.hid hv
  have HU := Lib.hid hu
  clear hv hu
  go_enter Tryz.func48, Tryz.ntmps48
  go_wp2
  go_loopw [5] (fun i wr => ∃ k : Nat, k ≤ l.length ∧ i = .int .i64 k ∧ Hid (Below w.heap.size w wr)) (fun i _ => l.length - (intOf i).toNat)
  case atStart => exact ⟨0, Nat.zero_le _, rfl, Lib.hid (Below.refl _ _)⟩
  case round =>
    obtain ⟨k, hk, rfl, HB⟩ := hrel
    by_cases hlt : k < l.length
    · obtain ⟨b, off, rfl, hbb, hc⟩ := (HV.out.on HB.out).int hlt
      obtain ⟨b2, off2, rfl, hbb2, hc2⟩ := (HU.out.on HB.out).int hlt
      have c1 := hc k hlt
      have c2 := hc2 k hlt
      unfold iV at c1 c2
      clear hc hc2
      have i1 : (k : Int) < (l.length : Int) := by omega
      have i2 : (0 : Int) ≤ (k : Int) := by omega
      have hne2 : (l[k] != l[k]) = false := by simp
      go_wp2
      go_still_tail 8, (by kernel_rfl)
      change wpList _ _ _ _ _ wr.drew
      have HB1 := Lib.hid (bstep HB.out (Below.drew1 _))
      generalize wr.drew = wd at *
      go_wp2
      go_roundw
      case rel => exact ⟨k + 1, by omega, by go_num, HB1⟩
      case measure => simp [intOf]; omega
    · go_wp2
      go_ret
      exact ⟨rfl, HB.out⟩
set_option maxHeartbeats 4000000 in
theorem sameTree_same (vl vn ul un : Value) (lo : List Int) (ts : List NodeD) (w : World) (hv : RdT w w.heap.size vl vn lo ts) (hu : RdT w w.heap.size ul un lo ts) (h1 : lo.length ≤ 1048576) (h2 : ts.length ≤ 1048576) (h3 : sumT ts ≤ 1048576) :
    Calls Tryz.prog 9 #[.agg #[vl, vn], .agg #[ul, un]] w (SaysBool w true) := by
  obtain ⟨A, c, B, d, rfl, rfl⟩ := hv.shape
  obtain ⟨A', c', B', d', rfl, rfl⟩ := hu.shape
  have hne : ((ts.length : Int) != (ts.length : Int)) = false := by simp
  have b0 := bal2 w (.cells #[.slice A lo.length c, .slice B ts.length d] 27) (.cells #[.slice A' lo.length c', .slice B' ts.length d'] 27)
  obtain ⟨q0, q1⟩ := al2 w (.cells #[.slice A lo.length c, .slice B ts.length d] 27) (.cells #[.slice A' lo.length c', .slice B' ts.length d'] 27)
  have HV := Lib.hid (hv.on b0)
  have HU := Lib.hid (hu.on b0)
  have Q0 := Lib.hid q0
  have Q1 := Lib.hid q1
  have HB := Lib.hid b0
  clear hv hu q0 q1 b0
  go_enter Tryz.func9, Tryz.ntmps9
  go_upto_region 1 with (fail)
  generalize (w.alloc (.cells #[.slice A lo.length c, .slice B ts.length d] 27)).alloc (.cells #[.slice A' lo.length c', .slice B' ts.length d'] 27) = W at *
  obtain ⟨x0, x1, x2⟩ := box2 Q0.out
  obtain ⟨y0, y1, y2⟩ := box2 Q1.out
  go_wp2_with fail
  refine (sameIntsT _ _ lo _ HV.out.1 HU.out.1 (by omega)).mono ?_
  rintro r w1 ⟨rfl, b1⟩
  have Q2 := Lib.hid (box_on Q0.out b1)
  have Q3 := Lib.hid (box_on Q1.out b1)
  have BW := Lib.hid b1
  clear x0 x1 x2 y0 y1 y2 b1
  obtain ⟨x0, x1, x2⟩ := box2 Q2.out
  obtain ⟨y0, y1, y2⟩ := box2 Q3.out
  go_wp2
  clear x0 x1 x2 y0 y1 y2 Q2 Q3
  go_loopw [5] (fun i wr => ∃ k : Nat, k ≤ ts.length ∧ i = .int .i64 k ∧ Hid (Below W.heap.size W wr)) (fun i _ => ts.length - (intOf i).toNat)
  case atStart => exact ⟨0, Nat.zero_le _, rfl, BW⟩
  case round =>
    clear BW
    obtain ⟨k, hk, rfl, HX⟩ := hrel
    have QW := Lib.hid (box_on Q0.out HX.out)
    have QV := Lib.hid (box_on Q1.out HX.out)
    obtain ⟨x0, x1, x2⟩ := box2 QW.out
    by_cases hlt : k < ts.length
    · obtain ⟨b, off, hBe, hbb, hc⟩ := (HV.out.2.on HX.out).node hlt
      subst hBe
      obtain ⟨b', off', hBe', hbb', hc'⟩ := (HU.out.2.on HX.out).node hlt
      subst hBe'
      obtain ⟨A1, d1, e1, _, _, r1⟩ := hc k hlt
      obtain ⟨A2, d2, e2, _, _, r2⟩ := hc' k hlt
      have hl := sumT_mem (List.getElem_mem hlt)
      have R1 := Lib.hid r1
      have R2 := Lib.hid r2
      have E1 := Lib.hid e1
      have E2 := Lib.hid e2
      have i1 : (k : Int) < (ts.length : Int) := by omega
      have i2 : (0 : Int) ≤ (k : Int) := by omega
      clear hc hc' r1 r2 e1 e2
      go_wp2
      clear x0 x1 x2
      refine but_begin (f := 11) (S := fun V => Below wr.drew.heap.size wr.drew V) (by kernel_rfl) ?_
      refine but_take (f := 11) (i := 0) (v := ?vsa0) rfl (by kernel_rfl) (by kernel_rfl) (by kernel_rfl) (by kernel_rfl) (by kernel_rfl) (fun _ _ _ h => h) (Or.inl ⟨(by rfl), ?hysa0⟩) (Below.refl _ _) ?restsa0
      case hysa0 =>
        intro W hW
        go_simp
        exact rfl
      simp only [List.getElem_toArray, List.getElem_cons_succ, List.getElem_cons_zero, Act.put, List.setIfInBounds_toArray, List.set_cons_zero, List.set_cons_succ]
      refine but_take (f := 11) (i := 1) (v := ?vsa1) rfl (by kernel_rfl) (by kernel_rfl) (by kernel_rfl) (by kernel_rfl) (by kernel_rfl) (fun _ _ _ h => h) (Or.inl ⟨(by rfl), ?hysa1⟩) (Below.refl _ _) ?restsa1
      case hysa1 =>
        intro W hW
        have hb0 : Below wr.heap.size wr W := bstep (Below.drew1 _) hW
        obtain ⟨x0, x1, x2⟩ := box2 (box_on QW.out hb0)
        obtain ⟨y0, y1, y2⟩ := box2 (box_on QV.out hb0)
        go_simp
        exact rfl
      simp only [List.getElem_toArray, List.getElem_cons_succ, List.getElem_cons_zero, Act.put, List.setIfInBounds_toArray, List.set_cons_zero, List.set_cons_succ]
      refine but_take (f := 11) (i := 2) (v := ?vsa2) rfl (by kernel_rfl) (by kernel_rfl) (by kernel_rfl) (by kernel_rfl) (by kernel_rfl) (fun _ _ _ h => h) (Or.inl ⟨(by rfl), ?hysa2⟩) (Below.refl _ _) ?restsa2
      case hysa2 =>
        intro W hW
        go_simp
        exact rfl
      simp only [List.getElem_toArray, List.getElem_cons_succ, List.getElem_cons_zero, Act.put, List.setIfInBounds_toArray, List.set_cons_zero, List.set_cons_succ]
      refine but_take (f := 11) (i := 3) (v := ?vsa3) rfl (by kernel_rfl) (by kernel_rfl) (by kernel_rfl) (by kernel_rfl) (by kernel_rfl) (fun _ _ _ h => h) (Or.inl ⟨(by rfl), ?hysa3⟩) (Below.refl _ _) ?restsa3
      case hysa3 =>
        intro W hW
        go_simp
        exact rfl
      simp only [List.getElem_toArray, List.getElem_cons_succ, List.getElem_cons_zero, Act.put, List.setIfInBounds_toArray, List.set_cons_zero, List.set_cons_succ]
      refine but_take (f := 11) (i := 4) (v := ?vsa4) rfl (by kernel_rfl) (by kernel_rfl) (by kernel_rfl) (by kernel_rfl) (by kernel_rfl) (fun _ _ _ h => h) (Or.inl ⟨(by rfl), ?hysa4⟩) (Below.refl _ _) ?restsa4
      case hysa4 =>
        intro W hW
        have hb0 : Below wr.heap.size wr W := bstep (Below.drew1 _) hW
        have e1 := (hb0.cell (p := ⟨b, off + k, none⟩) hbb).trans E1.out
        have e2 := (hb0.cell (p := ⟨b', off' + k, none⟩) hbb').trans E2.out
        go_simp
        exact rfl
      simp only [List.getElem_toArray, List.getElem_cons_succ, List.getElem_cons_zero, Act.put, List.setIfInBounds_toArray, List.set_cons_zero, List.set_cons_succ]
      refine but_take (f := 11) (i := 5) (v := ?vsa5) rfl (by kernel_rfl) (by kernel_rfl) (by kernel_rfl) (by kernel_rfl) (by kernel_rfl) (fun _ _ _ h => h) (Or.inl ⟨(by rfl), ?hysa5⟩) (Below.refl _ _) ?restsa5
      case hysa5 =>
        intro W hW
        go_simp
        exact rfl
      simp only [List.getElem_toArray, List.getElem_cons_succ, List.getElem_cons_zero, Act.put, List.setIfInBounds_toArray, List.set_cons_zero, List.set_cons_succ]
      refine but_take (f := 11) (i := 6) (v := ?vsa6) rfl (by kernel_rfl) (by kernel_rfl) (by kernel_rfl) (by kernel_rfl) (by kernel_rfl) (fun _ _ _ h => h) (Or.inl ⟨(by rfl), ?hysa6⟩) (Below.refl _ _) ?restsa6
      case hysa6 =>
        intro W hW
        have hb0 : Below wr.heap.size wr W := bstep (Below.drew1 _) hW
        obtain ⟨x0, x1, x2⟩ := box2 (box_on QW.out hb0)
        obtain ⟨y0, y1, y2⟩ := box2 (box_on QV.out hb0)
        go_simp
        exact rfl
      simp only [List.getElem_toArray, List.getElem_cons_succ, List.getElem_cons_zero, Act.put, List.setIfInBounds_toArray, List.set_cons_zero, List.set_cons_succ]
      refine but_take (f := 11) (i := 7) (v := ?vsa7) rfl (by kernel_rfl) (by kernel_rfl) (by kernel_rfl) (by kernel_rfl) (by kernel_rfl) (fun _ _ _ h => h) (Or.inl ⟨(by rfl), ?hysa7⟩) (Below.refl _ _) ?restsa7
      case hysa7 =>
        intro W hW
        go_simp
        exact rfl
      simp only [List.getElem_toArray, List.getElem_cons_succ, List.getElem_cons_zero, Act.put, List.setIfInBounds_toArray, List.set_cons_zero, List.set_cons_succ]
      refine but_take (f := 11) (i := 8) (v := ?vsa8) rfl (by kernel_rfl) (by kernel_rfl) (by kernel_rfl) (by kernel_rfl) (by kernel_rfl) (fun _ _ _ h => h) (Or.inl ⟨(by rfl), ?hysa8⟩) (Below.refl _ _) ?restsa8
      case hysa8 =>
        intro W hW
        go_simp
        exact rfl
      simp only [List.getElem_toArray, List.getElem_cons_succ, List.getElem_cons_zero, Act.put, List.setIfInBounds_toArray, List.set_cons_zero, List.set_cons_succ]
      refine but_take (f := 11) (i := 9) (v := ?vsa9) rfl (by kernel_rfl) (by kernel_rfl) (by kernel_rfl) (by kernel_rfl) (by kernel_rfl) (fun _ _ _ h => h) (Or.inl ⟨(by rfl), ?hysa9⟩) (Below.refl _ _) ?restsa9
      case hysa9 =>
        intro W hW
        have hb0 : Below wr.heap.size wr W := bstep (Below.drew1 _) hW
        have e1 := (hb0.cell (p := ⟨b, off + k, none⟩) hbb).trans E1.out
        have e2 := (hb0.cell (p := ⟨b', off' + k, none⟩) hbb').trans E2.out
        go_simp
        exact rfl
      simp only [List.getElem_toArray, List.getElem_cons_succ, List.getElem_cons_zero, Act.put, List.setIfInBounds_toArray, List.set_cons_zero, List.set_cons_succ]
      refine but_run (i := 10) (by kernel_rfl) rfl (by rfl) ?_
      simp only [List.getElem_toArray, List.getElem_cons_succ, List.getElem_cons_zero]
      intro K HK
      go_wp2_with fail
      refine (sameNode_same _ _ ts[k] _ (R1.out.on (bstep (Below.drew1 _) (Below.refl _ _))) (R2.out.on (bstep (Below.drew1 _) (Below.refl _ _))) ⟨by omega, by omega⟩).mono ?_
      rintro r Vsa1 ⟨rfl, hBsa1⟩
      have hSsa1 := bstep (Below.refl _ _) hBsa1
      go_wp2_with fail
      refine HK.out _ Vsa1 (fun _ => hSsa1) ?_
      clear HK
      refine but_run (i := 11) (by kernel_rfl) rfl (by rfl) ?_
      simp only [List.getElem_toArray, List.getElem_cons_succ, List.getElem_cons_zero]
      intro K HK
      go_wp2_with fail
      refine HK.out _ Vsa1 (fun h => absurd rfl h) ?_
      clear HK
      refine but_done (by kernel_rfl) ?_
      go_wp2_with fail
      go_roundw
      case rel => exact ⟨k + 1, by omega, by go_num, Lib.hid (bstep HX.out (bstep (Below.drew1 _) hSsa1))⟩
      case measure => simp [intOf]; omega
    · have i1 : ¬ (k : Int) < (ts.length : Int) := by omega
      go_wp2
      go_ret
      exact ⟨rfl, bstep HB.out HX.out⟩
end Go.Proofs.YthopkhpiikiknaaGreat
namespace Go.Proofs.YthopkhpiikiknaaGreat
open Go.RowKit
set_option maxRecDepth 100000
set_option linter.unusedSimpArgs false
set_option linter.unusedVariables false

theorem box_setsT {w : World} {p : Nat} {t : TypeId} {z1 z2 z3 z4 z5 u1 u2 u3 u4 u5 : Value} (h : w.heap[p]? = some (.cells #[z1, z2, z3, z4, z5] t (0, 0))) : (((((w.setCell ⟨p, 0, none⟩ u1).setCell ⟨p, 1, none⟩ u2).setCell ⟨p, 2, none⟩ u3).setCell ⟨p, 3, none⟩ u4).setCell ⟨p, 4, none⟩ u5).heap[p]? = some (.cells #[u1, u2, u3, u4, u5] t (0, 0)) :=
  heap_setCell_same _ _ _ _ _ _ (heap_setCell_same _ _ _ _ _ _ (heap_setCell_same _ _ _ _ _ _ (heap_setCell_same _ _ _ _ _ _ (heap_setCell_same _ _ _ _ _ _ h))))
theorem asc_at {l : List KeyD} (h : Asc l) {j : Nat} (hj : j + 1 < l.length) : lessK l[j] l[j + 1] = true := List.pairwise_iff_getElem.1 h j (j + 1) (by omega) hj (by omega)
/-- What FnTrees asks of a put that goes through, of the answers alone. -/
theorem trees_all {lo : List Int} {ts : List NodeD} {x : KeyD} (hok : treeOkB lo ts = true) (hx : okK x = true) {lo2 : List Int} {ts2 : List NodeD} (hX : treePutK lo ts x = (lo2, ts2)) {KK KM : List KeyD} (hKK : treeKeysK ts = KK) (hKM : treeKeysK ts2 = KM) :
    (treePutB lo ts x = false → lo2 = lo ∧ ts2 = ts ∧ KK.length = 60) ∧
    (treePutB lo ts x = true → treeOkB lo2 ts2 = true ∧ ((treeAtK lo2 ts2 x.a x.b).isSome = (x.c != 0) ∧ ((x.c != 0) = true → (treeAtK lo2 ts2 x.a x.b).getD zK = x)) ∧
      (∀ y ∈ KK, spotB y.a y.b x.a x.b = false → (treeAtK lo2 ts2 y.a y.b).isSome = true ∧ (treeAtK lo2 ts2 y.a y.b).getD zK = y) ∧
      (∀ j (h : j + 1 < KM.length), lessK KM[j] KM[j + 1] = true) ∧
      KM.length + (if (treeAtK lo ts x.a x.b).isSome then 1 else 0) = KK.length + (if (x.c != 0) = true then 1 else 0)) := by
  subst hKK hKM
  refine ⟨fun h => ?_, fun h => ?_⟩
  · have e : treePutK lo ts x = (lo, ts) := by unfold treePutK; rw [h]; rfl
    rw [e] at hX
    injection hX with h1 h2
    exact ⟨h1.symm, h2.symm, put_full hok hx h⟩
  · obtain ⟨h1, h2⟩ := put_done hok hx h
    rw [hX] at h1 h2
    dsimp only at h1 h2
    obtain ⟨ha, hk⟩ := tree_asc hok
    obtain ⟨ha2, hk2⟩ := tree_asc h1
    have hat : ∀ y : KeyD, okK y = true → treeAtK lo2 ts2 y.a y.b = if x.a = y.a ∧ x.b = y.b then pickO (some x) else pickO (atK (treeKeysK ts) y.a y.b) := fun y hy => by
      rw [tree_at h1 hy, h2, at_put_tree ha]
    refine ⟨h1, ?_, fun y hy hs => ?_, fun j hj => asc_at ha2 hj, ?_⟩
    · rw [hat x hx, if_pos ⟨rfl, rfl⟩]
      show (if x.c = 0 then none else some x : Option KeyD).isSome = _ ∧ (_ → (if x.c = 0 then none else some x : Option KeyD).getD zK = x)
      by_cases h0 : x.c = 0
      · simp [h0]
      · simp [h0]
    · have hn : ¬ (x.a = y.a ∧ x.b = y.b) := fun e => by
        have : spotB y.a y.b x.a x.b = true := (spotB_iff _ _ _ _).2 ⟨e.1.symm, e.2.symm⟩
        rw [this] at hs; cases hs
      obtain ⟨k1, k2⟩ := hk y hy
      rw [hat y k1, if_neg hn, at_uniq ha hy]
      show (if y.c = 0 then none else some y : Option KeyD).isSome = _ ∧ (if y.c = 0 then none else some y : Option KeyD).getD zK = y
      rw [if_neg k2]
      exact ⟨rfl, rfl⟩
    · rw [h2, tree_at hok hx]
      exact put_count ha (fun y hy => (hk y hy).2) x
set_option maxHeartbeats 20000000 in
theorem trees_walk (a0 : Option Addr) (len0 cap0 : Nat) (z0 : List Int) (w : World) (w0 : CameIn .u8 w a0 len0 cap0 z0) :
    Calls Tryz.prog 3 #[.slice a0 len0 cap0] w fun e w' => e = .returned (.bool true) ∧ Below w.heap.size w w' := by
  obtain ⟨l, rfl, hr⟩ := w0.rd
  clear w0
  by_cases hbig : l.length ≤ 1048576
  · have d0 : decide ((1048576 : Int) < (l.length : Int)) = false := decide_eq_false (by omega)
    have HDT := Lib.hid (drawTree_any a0 cap0 l w hr hbig)
    have HPI := Lib.hid implTreePut_any
    have HPS := Lib.hid specTreePut_any
    have HAT := Lib.hid implTreeAt_any
    have HSP := Lib.hid implSameSpot_any
    have HLE := Lib.hid lessI
    unfold DTree KeyD.v keyV at HDT
    unfold PutsC KeyD.v keyV at HPI
    unfold PutsT KeyD.v keyV at HPS
    unfold SaysFind KeyD.v keyV at HAT
    unfold keyV at HSP
    unfold KeyD.v keyV at HLE
    clear hr
    go_enter Tryz.func3, Tryz.ntmps3
    go_wp2_with fail
    refine (big_any _ _ _ _).mono ?_
    rintro r w1 ⟨rfl, rfl⟩
    rw [d0]
    clear d0
    go_wp2_with fail
    refine HDT.out.mono ?_
    rintro r w1 ⟨vl, vn, lo, ts, x, rfl, oT, hok, hxk, bd⟩
    obtain ⟨A, c, B, d, rfl, rfl⟩ := oT.reads.shape
    obtain ⟨hs1, hs2, hs3⟩ := treeP_small hok
    obtain ⟨X, hX⟩ : ∃ X, treePutK lo ts x = X := ⟨_, rfl⟩
    obtain ⟨lo2, ts2⟩ := X
    obtain ⟨OK, hOK⟩ : ∃ OK, treePutB lo ts x = OK := ⟨_, rfl⟩
    have hkl := treeKeys_len ts
    have hkl2 := treeKeys_len ts2
    obtain ⟨KK, hKK⟩ : ∃ KK, treeKeysK ts = KK := ⟨_, rfl⟩
    obtain ⟨KM, hKM⟩ : ∃ KM, treeKeysK ts2 = KM := ⟨_, rfl⟩
    have hall := trees_all hok hxk hX hKK hKM
    have hsx : lo2.length ≤ 20 ∧ ts2.length ≤ 20 ∧ sumT ts2 ≤ 220 := by
      cases OK
      · obtain ⟨h1, h2, _⟩ := hall.1 hOK
        rw [h1, h2]
        exact ⟨hs1, hs2, hs3⟩
      · exact treeP_small (hall.2 hOK).1
    obtain ⟨hx1, hx2, hx3⟩ := hsx
    have HSM : Hid (SmallT lo ts) := Lib.hid ⟨by omega, by omega, by omega⟩
    have HSX : Hid (SmallT lo2 ts2) := Lib.hid ⟨by omega, by omega, by omega⟩
    rw [hOK] at hall
    rw [hKK] at hkl
    rw [hKM] at hkl2
    have HALL := Lib.hid hall
    have HX := Lib.hid hX
    have HOKB := Lib.hid hOK
    have HKK := Lib.hid hKK
    have HKM := Lib.hid hKM
    have HOK := Lib.hid hok
    have ba := bal2 w1 (.cells #[.slice A lo.length c, .slice B ts.length d] 27) (.cells #[.int .i64 x.a, .int .i64 x.b, .int .i64 x.c, .int .i64 x.d, .int .i64 x.e] 29)
    obtain ⟨q0, q1⟩ := al2 w1 (.cells #[.slice A lo.length c, .slice B ts.length d] 27) (.cells #[.int .i64 x.a, .int .i64 x.b, .int .i64 x.c, .int .i64 x.d, .int .i64 x.e] 29)
    have QT := Lib.hid q0
    have QK := Lib.hid q1
    have RT := Lib.hid (oT.reads.on ba)
    have BB := Lib.hid (bstep bd ba)
    clear oT bd ba q0 q1 HDT hall hX hOK hKK hKM hok hxk
    go_upto_region 4 with (fail)
    generalize (w1.alloc (.cells #[.slice A lo.length c, .slice B ts.length d] 27)).alloc (.cells #[.int .i64 x.a, .int .i64 x.b, .int .i64 x.c, .int .i64 x.d, .int .i64 x.e] 29) = W at *
    obtain ⟨t0, t1, t2⟩ := box2 QT.out
    obtain ⟨k0, k1, k2, k3, k4, k5⟩ := box5 QK.out
    go_wp2_with fail
    refine (HPI.out _ _ lo ts x _ RT.out (by omega) (by omega) (by omega)).mono ?_
    rintro r w2 ⟨vlx, vnx, rfl, oX, bd⟩
    rw [HX.out] at oX
    dsimp only at oX
    rw [HOKB.out]
    obtain ⟨Ax, cx, Bx, dx, rfl, rfl⟩ := oX.reads.shape
    have ba := bstep bd (bal1 w2 (.cells #[.slice Ax lo2.length cx, .slice Bx ts2.length dx] 27))
    have RX := Lib.hid (oX.reads.on (bal1 w2 (.cells #[.slice Ax lo2.length cx, .slice Bx ts2.length dx] 27)))
    have QX := Lib.hid (al1 w2 (.cells #[.slice Ax lo2.length cx, .slice Bx ts2.length dx] 27))
    replace QT := Lib.hid (box_on QT.out ba)
    replace QK := Lib.hid (box_on QK.out ba)
    replace RT := Lib.hid (RT.out.on ba)
    replace BB := Lib.hid (bstep BB.out ba)
    clear oX bd ba t0 t1 t2 k0 k1 k2 k3 k4 k5
    go_upto_region 5 with (fail)
    generalize w2.alloc (.cells #[.slice Ax lo2.length cx, .slice Bx ts2.length dx] 27) = W2 at *
    obtain ⟨t0, t1, t2⟩ := box2 QT.out
    obtain ⟨k0, k1, k2, k3, k4, k5⟩ := box5 QK.out
    go_wp2_with fail
    refine (HPS.out _ _ lo ts x _ RT.out (by omega) (by omega) (by omega)).mono ?_
    rintro r w3 ⟨vly, vny, rfl, oY, bd⟩
    rw [HX.out] at oY
    dsimp only at oY
    rw [HOKB.out]
    obtain ⟨Ay, cy, By, dy, rfl, rfl⟩ := oY.reads.shape
    have ba := bstep bd (bal1 w3 (.cells #[.slice Ay lo2.length cy, .slice By ts2.length dy] 27))
    have RY := Lib.hid (oY.reads.on (bal1 w3 (.cells #[.slice Ay lo2.length cy, .slice By ts2.length dy] 27)))
    have QY := Lib.hid (al1 w3 (.cells #[.slice Ay lo2.length cy, .slice By ts2.length dy] 27))
    replace QT := Lib.hid (box_on QT.out ba)
    replace QK := Lib.hid (box_on QK.out ba)
    replace QX := Lib.hid (box_on QX.out ba)
    replace RT := Lib.hid (RT.out.on ba)
    replace RX := Lib.hid (RX.out.on ba)
    replace BB := Lib.hid (bstep BB.out ba)
    clear oY bd ba t0 t1 t2 k0 k1 k2 k3 k4 k5 HX HOKB HPI HPS
    go_upto_region 6 with (fail)
    generalize w3.alloc (.cells #[.slice Ay lo2.length cy, .slice By ts2.length dy] 27) = W3 at *
    have hne1 : (OK != OK) = false := by simp
    have heq1 : (OK == OK) = true := by simp
    obtain ⟨x0, x1, x2⟩ := box2 QX.out
    obtain ⟨y0, y1, y2⟩ := box2 QY.out
    go_wp2_with fail
    refine (sameTree_same _ _ _ _ lo2 ts2 _ RX.out RY.out (by omega) (by omega) (by omega)).mono ?_
    rintro r w4 ⟨rfl, bd⟩
    replace QT := Lib.hid (box_on QT.out bd)
    replace QK := Lib.hid (box_on QK.out bd)
    replace QX := Lib.hid (box_on QX.out bd)
    replace RT := Lib.hid (RT.out.on bd)
    replace RX := Lib.hid (RX.out.on bd)
    replace BB := Lib.hid (bstep BB.out bd)
    clear bd x0 x1 x2 y0 y1 y2 QY RY
    obtain ⟨t0, t1, t2⟩ := box2 QT.out
    go_wp2_with fail
    refine (implTreeOk_any _ _ lo ts _ RT.out (by omega) (by omega) (by omega)).mono ?_
    rintro r w5 ⟨rfl, bd⟩
    rw [HOK.out]
    replace QT := Lib.hid (box_on QT.out bd)
    replace QK := Lib.hid (box_on QK.out bd)
    replace QX := Lib.hid (box_on QX.out bd)
    replace RT := Lib.hid (RT.out.on bd)
    replace RX := Lib.hid (RX.out.on bd)
    replace BB := Lib.hid (bstep BB.out bd)
    clear bd t0 t1 t2
    cases OK
    · obtain ⟨h1, h2, h60⟩ := HALL.out.1 rfl
      subst h1 h2
      have d60 : ((KK.length : Int) == 60) = true := by rw [h60]; rfl
      clear h60 HALL HAT HSP HLE
      obtain ⟨t0, t1, t2⟩ := box2 QT.out
      obtain ⟨x0, x1, x2⟩ := box2 QX.out
      go_wp2_with fail
      refine (sameTree_same _ _ _ _ lo2 ts2 _ RX.out RT.out (by omega) (by omega) (by omega)).mono ?_
      rintro r w6 ⟨rfl, bd⟩
      replace QT := Lib.hid (box_on QT.out bd)
      replace RT := Lib.hid (RT.out.on bd)
      replace BB := Lib.hid (bstep BB.out bd)
      clear bd t0 t1 t2 x0 x1 x2
      obtain ⟨t0, t1, t2⟩ := box2 QT.out
      go_wp2_with fail
      refine (implTreeKeys_any _ _ lo2 ts2 _ RT.out (by omega) (by omega)).mono ?_
      rintro r w7 ⟨vK, rfl, oK, bd⟩
      rw [HKK.out] at oK
      obtain ⟨Ak, ck, rfl, _, _⟩ := oK.shape
      replace BB := Lib.hid (bstep BB.out bd)
      clear t0 t1 t2 bd oK
      go_wp2
      go_ret
      exact ⟨rfl, BB.out⟩
    · obtain ⟨hxok, hself, hother, hasc, hcount⟩ := HALL.out.2 rfl
      have HXOK := Lib.hid hxok
      have OTHER := Lib.hid hother
      have ASC := Lib.hid hasc
      obtain ⟨YB, hYB⟩ : ∃ YB, (treeAtK lo2 ts2 x.a x.b).isSome = YB := ⟨_, rfl⟩
      obtain ⟨YK, hYK⟩ : ∃ YK, (treeAtK lo2 ts2 x.a x.b).getD zK = YK := ⟨_, rfl⟩
      obtain ⟨WB, hWB⟩ : ∃ WB, (treeAtK lo ts x.a x.b).isSome = WB := ⟨_, rfl⟩
      obtain ⟨WK, hWK⟩ : ∃ WK, (treeAtK lo ts x.a x.b).getD zK = WK := ⟨_, rfl⟩
      rw [hYB, hYK] at hself
      rw [hWB, ← hself.1] at hcount
      have HYB := Lib.hid hYB
      have HYK := Lib.hid hYK
      have HWB := Lib.hid hWB
      have HWK := Lib.hid hWK
      have HSELF := Lib.hid hself
      have HCNT := Lib.hid hcount
      clear hxok hself hother hasc hcount HALL hYB hYK hWB hWK hne1 heq1
      obtain ⟨x0, x1, x2⟩ := box2 QX.out
      obtain ⟨k0, k1, k2, k3, k4, k5⟩ := box5 QK.out
      go_wp2_with fail
      refine (HAT.out _ _ lo2 ts2 x.a x.b _ RX.out HSX.out).mono ?_
      rintro r w6 ⟨rfl, bd⟩
      rw [HYB.out, HYK.out]
      have ba := bstep bd (bal1 w6 (.cells #[.int .i64 YK.a, .int .i64 YK.b, .int .i64 YK.c, .int .i64 YK.d, .int .i64 YK.e] 29))
      have QY := Lib.hid (al1 w6 (.cells #[.int .i64 YK.a, .int .i64 YK.b, .int .i64 YK.c, .int .i64 YK.d, .int .i64 YK.e] 29))
      replace QT := Lib.hid (box_on QT.out ba)
      replace QK := Lib.hid (box_on QK.out ba)
      replace QX := Lib.hid (box_on QX.out ba)
      replace RT := Lib.hid (RT.out.on ba)
      replace RX := Lib.hid (RX.out.on ba)
      replace BB := Lib.hid (bstep BB.out ba)
      clear ba bd x0 x1 x2 k0 k1 k2 k3 k4 k5 HYB HYK
      go_upto_region 9 with (fail)
      generalize w6.alloc (.cells #[.int .i64 YK.a, .int .i64 YK.b, .int .i64 YK.c, .int .i64 YK.d, .int .i64 YK.e] 29) = W6 at *
      obtain ⟨t0, t1, t2⟩ := box2 QT.out
      go_wp2_with fail
      refine (implTreeKeys_any _ _ lo ts _ RT.out (by omega) (by omega)).mono ?_
      rintro r w7 ⟨vK, rfl, oK, bd⟩
      rw [HKK.out] at oK
      obtain ⟨Ak, ck, rfl, _, _⟩ := oK.shape
      have OKK := Lib.hid oK.owns
      replace QT := Lib.hid (box_on QT.out bd)
      replace QY := Lib.hid (box_on QY.out bd)
      replace QK := Lib.hid (box_on QK.out bd)
      replace QX := Lib.hid (box_on QX.out bd)
      replace RT := Lib.hid (RT.out.on bd)
      replace RX := Lib.hid (RX.out.on bd)
      replace BB := Lib.hid (bstep BB.out bd)
      clear t0 t1 t2 oK bd HKK
      obtain ⟨x0, x1, x2⟩ := box2 QX.out
      go_wp2_with fail
      refine (implTreeKeys_any _ _ lo2 ts2 _ RX.out (by omega) (by omega)).mono ?_
      rintro r W0 ⟨vM, rfl, oM, bd⟩
      rw [HKM.out] at oM
      obtain ⟨Am, cm, rfl, _, _⟩ := oM.shape
      have OKM := Lib.hid oM.owns
      replace OKK := Lib.hid (OKK.out.on bd)
      replace QT := Lib.hid (box_on QT.out bd)
      replace QY := Lib.hid (box_on QY.out bd)
      replace QK := Lib.hid (box_on QK.out bd)
      replace QX := Lib.hid (box_on QX.out bd)
      replace RT := Lib.hid (RT.out.on bd)
      replace RX := Lib.hid (RX.out.on bd)
      replace BB := Lib.hid (bstep BB.out bd)
      clear x0 x1 x2 oM bd HKM
      go_wp2
      go_loopw [13] (fun i wr => ∃ k : Nat, k ≤ KK.length ∧ i = .int .i64 k ∧ Hid (Below W0.heap.size W0 wr)) (fun i _ => KK.length - (intOf i).toNat)
      case atStart => exact ⟨0, Nat.zero_le _, rfl, Lib.hid (Below.refl _ _)⟩
      case round =>
        obtain ⟨k, hk, rfl, HBr⟩ := hrel
        by_cases hlt : k < KK.length
        · obtain ⟨bm, om, rfl, hbb, hc⟩ := OKK.out.reads.keys hlt
          have HF := hc k hlt
          have hmem : KK[k] ∈ KK := List.getElem_mem hlt
          have FM := Lib.hid (fun V (h : Below wr.heap.size wr V) => HF.keep ((HBr.out.trans (h.mono HBr.out.size)).block bm hbb))
          have HOT := OTHER.out KK[k] hmem
          generalize KK[k] = y at HOT FM
          obtain ⟨zk, hzk⟩ : ∃ z, (treeAtK lo2 ts2 y.a y.b).getD zK = z := ⟨_, rfl⟩
          obtain ⟨zb, hzb⟩ : ∃ z, (treeAtK lo2 ts2 y.a y.b).isSome = z := ⟨_, rfl⟩
          rw [hzk, hzb] at HOT
          have HZK := Lib.hid hzk
          have HZB := Lib.hid hzb
          have HOTH := Lib.hid HOT
          have QXr := Lib.hid (box_on QX.out HBr.out)
          have QKr := Lib.hid (box_on QK.out HBr.out)
          have RXr := Lib.hid (RX.out.on HBr.out)
          have i1 : (k : Int) < (KK.length : Int) := by omega
          have i2 : (0 : Int) ≤ (k : Int) := by omega
          clear hzk hzb HOT hmem HF hc
          go_upto_region 14 with (fail)
          go_cut [14, 15] (fun s8 s9 W1 => ∃ pb, s8 = .pointer (some ⟨pb, 0, none⟩) ∧ s9 = .bool zb ∧ Hid (W1.heap[pb]? = some (.cells #[.int .i64 zk.a, .int .i64 zk.b, .int .i64 zk.c, .int .i64 zk.d, .int .i64 zk.e] 29)) ∧ Hid (Below wr.heap.size wr W1))
          case first =>
            refine but_begin (f := 17) (S := fun V => Below wr.drew.heap.size wr.drew V) (by kernel_rfl) ?_
            refine but_take (f := 17) (i := 0) (v := ?vc0) rfl (by kernel_rfl) (by kernel_rfl) (by kernel_rfl) (by kernel_rfl) (by kernel_rfl) (fun _ _ _ h => h) (Or.inl ⟨(by rfl), ?hyc0⟩) (Below.refl _ _) ?restc0
            case hyc0 =>
              intro W hW
              have hb0 : Below wr.heap.size wr W := bstep (Below.drew1 _) hW
              obtain ⟨x0, x1, x2⟩ := box2 (box_on QXr.out hb0)
              go_simp
              exact rfl
            simp only [List.getElem_toArray, List.getElem_cons_succ, List.getElem_cons_zero, Act.put, List.setIfInBounds_toArray, List.set_cons_zero, List.set_cons_succ]
            refine but_take (f := 17) (i := 1) (v := ?vc1) rfl (by kernel_rfl) (by kernel_rfl) (by kernel_rfl) (by kernel_rfl) (by kernel_rfl) (fun _ _ _ h => h) (Or.inl ⟨(by rfl), ?hyc1⟩) (Below.refl _ _) ?restc1
            case hyc1 =>
              intro W hW
              go_simp
              exact rfl
            simp only [List.getElem_toArray, List.getElem_cons_succ, List.getElem_cons_zero, Act.put, List.setIfInBounds_toArray, List.set_cons_zero, List.set_cons_succ]
            refine but_take (f := 17) (i := 2) (v := ?vc2) rfl (by kernel_rfl) (by kernel_rfl) (by kernel_rfl) (by kernel_rfl) (by kernel_rfl) (fun _ _ _ h => h) (Or.inl ⟨(by rfl), ?hyc2⟩) (Below.refl _ _) ?restc2
            case hyc2 =>
              intro W hW
              go_simp
              exact rfl
            simp only [List.getElem_toArray, List.getElem_cons_succ, List.getElem_cons_zero, Act.put, List.setIfInBounds_toArray, List.set_cons_zero, List.set_cons_succ]
            refine but_take (f := 17) (i := 3) (v := ?vc3) rfl (by kernel_rfl) (by kernel_rfl) (by kernel_rfl) (by kernel_rfl) (by kernel_rfl) (fun _ _ _ h => h) (Or.inl ⟨(by rfl), ?hyc3⟩) (Below.refl _ _) ?restc3
            case hyc3 =>
              intro W hW
              go_simp
              exact rfl
            simp only [List.getElem_toArray, List.getElem_cons_succ, List.getElem_cons_zero, Act.put, List.setIfInBounds_toArray, List.set_cons_zero, List.set_cons_succ]
            refine but_take (f := 17) (i := 4) (v := ?vc4) rfl (by kernel_rfl) (by kernel_rfl) (by kernel_rfl) (by kernel_rfl) (by kernel_rfl) (fun _ _ _ h => h) (Or.inl ⟨(by rfl), ?hyc4⟩) (Below.refl _ _) ?restc4
            case hyc4 =>
              intro W hW
              go_simp
              exact rfl
            simp only [List.getElem_toArray, List.getElem_cons_succ, List.getElem_cons_zero, Act.put, List.setIfInBounds_toArray, List.set_cons_zero, List.set_cons_succ]
            refine but_take (f := 17) (i := 5) (v := ?vc5) rfl (by kernel_rfl) (by kernel_rfl) (by kernel_rfl) (by kernel_rfl) (by kernel_rfl) (fun _ _ _ h => h) (Or.inl ⟨(by rfl), ?hyc5⟩) (Below.refl _ _) ?restc5
            case hyc5 =>
              intro W hW
              have hb0 : Below wr.heap.size wr W := bstep (Below.drew1 _) hW
              obtain ⟨m0, m1, m2, m3, m4⟩ := FM.out _ hb0
              go_simp
              exact rfl
            simp only [List.getElem_toArray, List.getElem_cons_succ, List.getElem_cons_zero, Act.put, List.setIfInBounds_toArray, List.set_cons_zero, List.set_cons_succ]
            refine but_take (f := 17) (i := 6) (v := ?vc6) rfl (by kernel_rfl) (by kernel_rfl) (by kernel_rfl) (by kernel_rfl) (by kernel_rfl) (fun _ _ _ h => h) (Or.inl ⟨(by rfl), ?hyc6⟩) (Below.refl _ _) ?restc6
            case hyc6 =>
              intro W hW
              go_simp
              exact rfl
            simp only [List.getElem_toArray, List.getElem_cons_succ, List.getElem_cons_zero, Act.put, List.setIfInBounds_toArray, List.set_cons_zero, List.set_cons_succ]
            refine but_take (f := 17) (i := 7) (v := ?vc7) rfl (by kernel_rfl) (by kernel_rfl) (by kernel_rfl) (by kernel_rfl) (by kernel_rfl) (fun _ _ _ h => h) (Or.inl ⟨(by rfl), ?hyc7⟩) (Below.refl _ _) ?restc7
            case hyc7 =>
              intro W hW
              go_simp
              exact rfl
            simp only [List.getElem_toArray, List.getElem_cons_succ, List.getElem_cons_zero, Act.put, List.setIfInBounds_toArray, List.set_cons_zero, List.set_cons_succ]
            refine but_take (f := 17) (i := 8) (v := ?vc8) rfl (by kernel_rfl) (by kernel_rfl) (by kernel_rfl) (by kernel_rfl) (by kernel_rfl) (fun _ _ _ h => h) (Or.inl ⟨(by rfl), ?hyc8⟩) (Below.refl _ _) ?restc8
            case hyc8 =>
              intro W hW
              go_simp
              exact rfl
            simp only [List.getElem_toArray, List.getElem_cons_succ, List.getElem_cons_zero, Act.put, List.setIfInBounds_toArray, List.set_cons_zero, List.set_cons_succ]
            refine but_take (f := 17) (i := 9) (v := ?vc9) rfl (by kernel_rfl) (by kernel_rfl) (by kernel_rfl) (by kernel_rfl) (by kernel_rfl) (fun _ _ _ h => h) (Or.inl ⟨(by rfl), ?hyc9⟩) (Below.refl _ _) ?restc9
            case hyc9 =>
              intro W hW
              go_simp
              exact rfl
            simp only [List.getElem_toArray, List.getElem_cons_succ, List.getElem_cons_zero, Act.put, List.setIfInBounds_toArray, List.set_cons_zero, List.set_cons_succ]
            refine but_take (f := 17) (i := 10) (v := ?vc10) rfl (by kernel_rfl) (by kernel_rfl) (by kernel_rfl) (by kernel_rfl) (by kernel_rfl) (fun _ _ _ h => h) (Or.inl ⟨(by rfl), ?hyc10⟩) (Below.refl _ _) ?restc10
            case hyc10 =>
              intro W hW
              have hb0 : Below wr.heap.size wr W := bstep (Below.drew1 _) hW
              obtain ⟨m0, m1, m2, m3, m4⟩ := FM.out _ hb0
              go_simp
              exact rfl
            simp only [List.getElem_toArray, List.getElem_cons_succ, List.getElem_cons_zero, Act.put, List.setIfInBounds_toArray, List.set_cons_zero, List.set_cons_succ]
            refine but_two (i := 11) (j := 15) (by kernel_rfl) rfl rfl (by rfl) (by rfl) ?_ ?_
            · simp only [List.getElem_toArray, List.getElem_cons_succ, List.getElem_cons_zero]
              intro K HK
              go_wp2_with fail
              refine (HAT.out _ _ lo2 ts2 y.a y.b _ (RXr.out.on (Below.drew1 _)) HSX.out).mono ?_
              rintro r Vcp1 ⟨rfl, hBcp1⟩
              rw [HZB.out, HZK.out]
              have hScp1 := bstep (Below.refl _ _) hBcp1
              go_wp2_with fail
              refine HK.out _ Vcp1 (fun _ => hScp1) ?_
              clear HK
              refine but_take (f := 17) (i := 12) (v := ?vcp12) rfl (by kernel_rfl) (by kernel_rfl) (by kernel_rfl) (by kernel_rfl) (by kernel_rfl) (fun _ _ _ h => h) (Or.inl ⟨(by rfl), ?hycp12⟩) hScp1 ?restcp12
              case hycp12 =>
                intro W hW
                go_simp
                exact rfl
              simp only [List.getElem_toArray, List.getElem_cons_succ, List.getElem_cons_zero, Act.put, List.setIfInBounds_toArray, List.set_cons_zero, List.set_cons_succ]
              refine but_take (f := 17) (i := 13) (v := ?vcp13) rfl (by kernel_rfl) (by kernel_rfl) (by kernel_rfl) (by kernel_rfl) (by kernel_rfl) (fun _ _ _ h => h) (Or.inl ⟨(by rfl), ?hycp13⟩) hScp1 ?restcp13
              case hycp13 =>
                intro W hW
                go_simp
                exact rfl
              simp only [List.getElem_toArray, List.getElem_cons_succ, List.getElem_cons_zero, Act.put, List.setIfInBounds_toArray, List.set_cons_zero, List.set_cons_succ]
              refine but_take (f := 17) (i := 14) (v := ?vcp14) rfl (by kernel_rfl) (by kernel_rfl) (by kernel_rfl) (by kernel_rfl) (by kernel_rfl) (fun _ _ _ h => h) (Or.inl ⟨(by rfl), ?hycp14⟩) hScp1 ?restcp14
              case hycp14 =>
                intro W hW
                go_simp
                exact rfl
              simp only [List.getElem_toArray, List.getElem_cons_succ, List.getElem_cons_zero, Act.put, List.setIfInBounds_toArray, List.set_cons_zero, List.set_cons_succ]
              refine but_run (i := 15) (by kernel_rfl) rfl (by rfl) ?_
              simp only [List.getElem_toArray, List.getElem_cons_succ, List.getElem_cons_zero]
              intro K HK
              have hScp2 : Below wr.drew.heap.size wr.drew (Vcp1.alloc (.cells #[.int .i64 0, .int .i64 0, .int .i64 0, .int .i64 0, .int .i64 0] 29)) := bstep hScp1 (bal1 _ _)
              go_wp2_with fail
              refine HK.out _ (Vcp1.alloc (.cells #[.int .i64 0, .int .i64 0, .int .i64 0, .int .i64 0, .int .i64 0] 29)) (fun _ => hScp2) ?_
              clear HK
              refine but_run (i := 16) (by kernel_rfl) rfl (by rfl) ?_
              simp only [List.getElem_toArray, List.getElem_cons_succ, List.getElem_cons_zero]
              intro K HK
              have hScp3 : Below wr.drew.heap.size wr.drew (Vcp1.alloc (.cells #[.int .i64 zk.a, .int .i64 zk.b, .int .i64 zk.c, .int .i64 zk.d, .int .i64 zk.e] 29)) := bstep hScp1 (bal1 _ _)
              go_wp2_with fail
              refine HK.out _ (Vcp1.alloc (.cells #[.int .i64 zk.a, .int .i64 zk.b, .int .i64 zk.c, .int .i64 zk.d, .int .i64 zk.e] 29)) (fun _ => hScp3) ?_
              clear HK
              refine but_run (i := 17) (by kernel_rfl) rfl (by rfl) ?_
              simp only [List.getElem_toArray, List.getElem_cons_succ, List.getElem_cons_zero]
              intro K HK
              go_wp2_with fail
              refine HK.out _ (Vcp1.alloc (.cells #[.int .i64 zk.a, .int .i64 zk.b, .int .i64 zk.c, .int .i64 zk.d, .int .i64 zk.e] 29)) (fun h => absurd rfl h) ?_
              clear HK
              refine but_done (by kernel_rfl) ?_
              go_wp2_with fail
              go_meet
              exact ⟨_, rfl, rfl, Lib.hid (al1 Vcp1 (.cells #[.int .i64 zk.a, .int .i64 zk.b, .int .i64 zk.c, .int .i64 zk.d, .int .i64 zk.e] 29)), Lib.hid (bstep (Below.drew1 _) hScp3)⟩
            · simp only [List.getElem_toArray, List.getElem_cons_succ, List.getElem_cons_zero]
              intro K HK
              have hScq1 : Below wr.drew.heap.size wr.drew (wr.drew.alloc (.cells #[.int .i64 0, .int .i64 0, .int .i64 0, .int .i64 0, .int .i64 0] 29)) := bal1 _ _
              go_wp2_with fail
              refine HK.out _ (wr.drew.alloc (.cells #[.int .i64 0, .int .i64 0, .int .i64 0, .int .i64 0, .int .i64 0] 29)) (fun _ => hScq1) ?_
              clear HK
              refine but_run (i := 11) (by kernel_rfl) rfl (by rfl) ?_
              simp only [List.getElem_toArray, List.getElem_cons_succ, List.getElem_cons_zero]
              intro K HK
              go_wp2_with fail
              refine (HAT.out _ _ lo2 ts2 y.a y.b _ (RXr.out.on (bstep (Below.drew1 _) hScq1)) HSX.out).mono ?_
              rintro r Vcq2 ⟨rfl, hBcq2⟩
              rw [HZB.out, HZK.out]
              have hScq2 := bstep hScq1 hBcq2
              go_wp2_with fail
              refine HK.out _ Vcq2 (fun _ => hScq2) ?_
              clear HK
              refine but_take (f := 17) (i := 12) (v := ?vcq12) rfl (by kernel_rfl) (by kernel_rfl) (by kernel_rfl) (by kernel_rfl) (by kernel_rfl) (fun _ _ _ h => h) (Or.inl ⟨(by rfl), ?hycq12⟩) hScq2 ?restcq12
              case hycq12 =>
                intro W hW
                go_simp
                exact rfl
              simp only [List.getElem_toArray, List.getElem_cons_succ, List.getElem_cons_zero, Act.put, List.setIfInBounds_toArray, List.set_cons_zero, List.set_cons_succ]
              refine but_take (f := 17) (i := 13) (v := ?vcq13) rfl (by kernel_rfl) (by kernel_rfl) (by kernel_rfl) (by kernel_rfl) (by kernel_rfl) (fun _ _ _ h => h) (Or.inl ⟨(by rfl), ?hycq13⟩) hScq2 ?restcq13
              case hycq13 =>
                intro W hW
                go_simp
                exact rfl
              simp only [List.getElem_toArray, List.getElem_cons_succ, List.getElem_cons_zero, Act.put, List.setIfInBounds_toArray, List.set_cons_zero, List.set_cons_succ]
              refine but_take (f := 17) (i := 14) (v := ?vcq14) rfl (by kernel_rfl) (by kernel_rfl) (by kernel_rfl) (by kernel_rfl) (by kernel_rfl) (fun _ _ _ h => h) (Or.inl ⟨(by rfl), ?hycq14⟩) hScq2 ?restcq14
              case hycq14 =>
                intro W hW
                go_simp
                exact rfl
              simp only [List.getElem_toArray, List.getElem_cons_succ, List.getElem_cons_zero, Act.put, List.setIfInBounds_toArray, List.set_cons_zero, List.set_cons_succ]
              have qz : Vcq2.heap[wr.heap.size]? = some (.cells #[.int .i64 0, .int .i64 0, .int .i64 0, .int .i64 0, .int .i64 0] 29) := box_on (al1 wr.drew (.cells #[.int .i64 0, .int .i64 0, .int .i64 0, .int .i64 0, .int .i64 0] 29)) hBcq2
              refine but_run (i := 16) (by kernel_rfl) rfl (by rfl) ?_
              simp only [List.getElem_toArray, List.getElem_cons_succ, List.getElem_cons_zero]
              intro K HK
              obtain ⟨z0, z1, z2, z3, z4, z5⟩ := box5 qz
              have hScq3 : Below wr.drew.heap.size wr.drew (((((Vcq2.setCell ⟨wr.heap.size, 0, none⟩ (.int .i64 zk.a)).setCell ⟨wr.heap.size, 1, none⟩ (.int .i64 zk.b)).setCell ⟨wr.heap.size, 2, none⟩ (.int .i64 zk.c)).setCell ⟨wr.heap.size, 3, none⟩ (.int .i64 zk.d)).setCell ⟨wr.heap.size, 4, none⟩ (.int .i64 zk.e)) := b5' hScq2 (Nat.le_refl _)
              go_wp2_with fail
              refine HK.out _ (((((Vcq2.setCell ⟨wr.heap.size, 0, none⟩ (.int .i64 zk.a)).setCell ⟨wr.heap.size, 1, none⟩ (.int .i64 zk.b)).setCell ⟨wr.heap.size, 2, none⟩ (.int .i64 zk.c)).setCell ⟨wr.heap.size, 3, none⟩ (.int .i64 zk.d)).setCell ⟨wr.heap.size, 4, none⟩ (.int .i64 zk.e)) (fun _ => hScq3) ?_
              clear HK
              refine but_run (i := 17) (by kernel_rfl) rfl (by rfl) ?_
              simp only [List.getElem_toArray, List.getElem_cons_succ, List.getElem_cons_zero]
              intro K HK
              go_wp2_with fail
              refine HK.out _ (((((Vcq2.setCell ⟨wr.heap.size, 0, none⟩ (.int .i64 zk.a)).setCell ⟨wr.heap.size, 1, none⟩ (.int .i64 zk.b)).setCell ⟨wr.heap.size, 2, none⟩ (.int .i64 zk.c)).setCell ⟨wr.heap.size, 3, none⟩ (.int .i64 zk.d)).setCell ⟨wr.heap.size, 4, none⟩ (.int .i64 zk.e)) (fun h => absurd rfl h) ?_
              clear HK
              refine but_done (by kernel_rfl) ?_
              go_wp2_with fail
              go_meet
              exact ⟨_, rfl, rfl, Lib.hid (box_setsT qz), Lib.hid (bstep (Below.drew1 _) hScq3)⟩
          case rest =>
            obtain ⟨pb, rfl, rfl, QZ, HX1⟩ := hcut
            obtain ⟨W1, rfl⟩ : ∃ W, W = wc := ⟨_, rfl⟩
            replace FM := Lib.hid (fun V (h : Below W1.heap.size W1 V) => FM.out V (bstep HX1.out h))
            replace QKr := Lib.hid (box_on QKr.out HX1.out)
            have HB1 := Lib.hid (HBr.out.trans (HX1.out.mono HBr.out.size))
            clear HX1 QXr RXr HBr HZK HZB
            obtain ⟨SP, hSP⟩ : ∃ SP, spotB y.a y.b x.a x.b = SP := ⟨_, rfl⟩
            rw [hSP] at HOTH
            have HSPe := Lib.hid hSP
            clear hSP
            cases SP
            · obtain ⟨hz1, hz2⟩ := HOTH.out rfl
              subst hz1 hz2
              clear HOTH
              go_upto_region 15 with (fail)
              refine but_begin (f := 18) (S := fun V => Below W1.heap.size W1 V) (by kernel_rfl) ?_
              refine but_take (f := 18) (i := 0) (v := ?ve0) rfl (by kernel_rfl) (by kernel_rfl) (by kernel_rfl) (by kernel_rfl) (by kernel_rfl) (fun _ _ _ h => h) (Or.inl ⟨(by rfl), ?hye0⟩) (Below.drew1 _) ?reste0
              case hye0 =>
                intro W hW
                go_simp
                exact rfl
              simp only [List.getElem_toArray, List.getElem_cons_succ, List.getElem_cons_zero, Act.put, List.setIfInBounds_toArray, List.set_cons_zero, List.set_cons_succ]
              refine but_take (f := 18) (i := 1) (v := ?ve1) rfl (by kernel_rfl) (by kernel_rfl) (by kernel_rfl) (by kernel_rfl) (by kernel_rfl) (fun _ _ _ h => h) (Or.inl ⟨(by rfl), ?hye1⟩) (Below.drew1 _) ?reste1
              case hye1 =>
                intro W hW
                go_simp
                exact rfl
              simp only [List.getElem_toArray, List.getElem_cons_succ, List.getElem_cons_zero, Act.put, List.setIfInBounds_toArray, List.set_cons_zero, List.set_cons_succ]
              refine but_take (f := 18) (i := 2) (v := ?ve2) rfl (by kernel_rfl) (by kernel_rfl) (by kernel_rfl) (by kernel_rfl) (by kernel_rfl) (fun _ _ _ h => h) (Or.inl ⟨(by rfl), ?hye2⟩) (Below.drew1 _) ?reste2
              case hye2 =>
                intro W hW
                go_simp
                exact rfl
              simp only [List.getElem_toArray, List.getElem_cons_succ, List.getElem_cons_zero, Act.put, List.setIfInBounds_toArray, List.set_cons_zero, List.set_cons_succ]
              refine but_take (f := 18) (i := 3) (v := ?ve3) rfl (by kernel_rfl) (by kernel_rfl) (by kernel_rfl) (by kernel_rfl) (by kernel_rfl) (fun _ _ _ h => h) (Or.inl ⟨(by rfl), ?hye3⟩) (Below.drew1 _) ?reste3
              case hye3 =>
                intro W hW
                obtain ⟨m0, m1, m2, m3, m4⟩ := FM.out _ hW
                go_simp
                exact rfl
              simp only [List.getElem_toArray, List.getElem_cons_succ, List.getElem_cons_zero, Act.put, List.setIfInBounds_toArray, List.set_cons_zero, List.set_cons_succ]
              refine but_take (f := 18) (i := 4) (v := ?ve4) rfl (by kernel_rfl) (by kernel_rfl) (by kernel_rfl) (by kernel_rfl) (by kernel_rfl) (fun _ _ _ h => h) (Or.inl ⟨(by rfl), ?hye4⟩) (Below.drew1 _) ?reste4
              case hye4 =>
                intro W hW
                obtain ⟨k0, k1, k2, k3, k4, k5⟩ := box5 (box_on QKr.out hW)
                go_simp
                exact rfl
              simp only [List.getElem_toArray, List.getElem_cons_succ, List.getElem_cons_zero, Act.put, List.setIfInBounds_toArray, List.set_cons_zero, List.set_cons_succ]
              refine but_run (i := 5) (by kernel_rfl) rfl (by rfl) ?_
              simp only [List.getElem_toArray, List.getElem_cons_succ, List.getElem_cons_zero]
              intro K HK
              go_wp2_with fail
              refine (HSP.out _ _ _ _ _ _ _ _ _ _ _).mono ?_
              rintro r Ve1 ⟨rfl, hbe1⟩
              rw [HSPe.out]
              go_wp2_with fail
              have hSe1 : (fun V => Below W1.heap.size W1 V) Ve1 := bstep (Below.drew1 _) hbe1
              refine HK.out _ _ (fun _ => hSe1) ?_
              clear HK
              refine but_take (f := 18) (i := 6) (v := ?ve6) rfl (by kernel_rfl) (by kernel_rfl) (by kernel_rfl) (by kernel_rfl) (by kernel_rfl) (fun _ _ _ h => h) (Or.inl ⟨(by rfl), ?hye6⟩) hSe1 ?reste6
              case hye6 =>
                intro W hW
                go_simp
                exact rfl
              simp only [List.getElem_toArray, List.getElem_cons_succ, List.getElem_cons_zero, Act.put, List.setIfInBounds_toArray, List.set_cons_zero, List.set_cons_succ]
              refine but_take (f := 18) (i := 7) (v := ?ve7) rfl (by kernel_rfl) (by kernel_rfl) (by kernel_rfl) (by kernel_rfl) (by kernel_rfl) (fun _ _ _ h => h) (Or.inl ⟨(by rfl), ?hye7⟩) hSe1 ?reste7
              case hye7 =>
                intro W hW
                go_simp
                exact rfl
              simp only [List.getElem_toArray, List.getElem_cons_succ, List.getElem_cons_zero, Act.put, List.setIfInBounds_toArray, List.set_cons_zero, List.set_cons_succ]
              refine but_take (f := 18) (i := 8) (v := ?ve8) rfl (by kernel_rfl) (by kernel_rfl) (by kernel_rfl) (by kernel_rfl) (by kernel_rfl) (fun _ _ _ h => h) (Or.inl ⟨((wanted_at rfl rfl rfl rfl).trans rfl), ?hye8⟩) hSe1 ?reste8
              case hye8 =>
                intro W hW
                go_simp
                exact rfl
              simp only [List.getElem_toArray, List.getElem_cons_succ, List.getElem_cons_zero, Act.put, List.setIfInBounds_toArray, List.set_cons_zero, List.set_cons_succ]
              refine but_take (f := 18) (i := 9) (v := ?ve9) rfl (by kernel_rfl) (by kernel_rfl) (by kernel_rfl) (by kernel_rfl) (by kernel_rfl) (fun _ _ _ h => h) (Or.inl ⟨((wanted_at rfl rfl rfl rfl).trans rfl), ?hye9⟩) hSe1 ?reste9
              case hye9 =>
                intro W hW
                go_simp
                exact rfl
              simp only [List.getElem_toArray, List.getElem_cons_succ, List.getElem_cons_zero, Act.put, List.setIfInBounds_toArray, List.set_cons_zero, List.set_cons_succ]
              refine but_take (f := 18) (i := 10) (v := ?ve10) rfl (by kernel_rfl) (by kernel_rfl) (by kernel_rfl) (by kernel_rfl) (by kernel_rfl) (fun _ _ _ h => h) (Or.inl ⟨((wanted_at rfl rfl rfl rfl).trans rfl), ?hye10⟩) hSe1 ?reste10
              case hye10 =>
                intro W hW
                go_simp
                exact rfl
              simp only [List.getElem_toArray, List.getElem_cons_succ, List.getElem_cons_zero, Act.put, List.setIfInBounds_toArray, List.set_cons_zero, List.set_cons_succ]
              refine but_take (f := 18) (i := 11) (v := ?ve11) rfl (by kernel_rfl) (by kernel_rfl) (by kernel_rfl) (by kernel_rfl) (by kernel_rfl) (fun _ _ _ h => h) (Or.inl ⟨((wanted_at rfl rfl rfl rfl).trans rfl), ?hye11⟩) hSe1 ?reste11
              case hye11 =>
                intro W hW
                obtain ⟨z0, z1, z2, z3, z4, z5⟩ := box5 (box_on QZ.out hW)
                go_simp
                exact rfl
              simp only [List.getElem_toArray, List.getElem_cons_succ, List.getElem_cons_zero, Act.put, List.setIfInBounds_toArray, List.set_cons_zero, List.set_cons_succ]
              refine but_take (f := 18) (i := 12) (v := ?ve12) rfl (by kernel_rfl) (by kernel_rfl) (by kernel_rfl) (by kernel_rfl) (by kernel_rfl) (fun _ _ _ h => h) (Or.inl ⟨((wanted_at rfl rfl rfl rfl).trans rfl), ?hye12⟩) hSe1 ?reste12
              case hye12 =>
                intro W hW
                go_simp
                exact rfl
              simp only [List.getElem_toArray, List.getElem_cons_succ, List.getElem_cons_zero, Act.put, List.setIfInBounds_toArray, List.set_cons_zero, List.set_cons_succ]
              refine but_take (f := 18) (i := 13) (v := ?ve13) rfl (by kernel_rfl) (by kernel_rfl) (by kernel_rfl) (by kernel_rfl) (by kernel_rfl) (fun _ _ _ h => h) (Or.inl ⟨((wanted_at rfl rfl rfl rfl).trans rfl), ?hye13⟩) hSe1 ?reste13
              case hye13 =>
                intro W hW
                go_simp
                exact rfl
              simp only [List.getElem_toArray, List.getElem_cons_succ, List.getElem_cons_zero, Act.put, List.setIfInBounds_toArray, List.set_cons_zero, List.set_cons_succ]
              refine but_take (f := 18) (i := 14) (v := ?ve14) rfl (by kernel_rfl) (by kernel_rfl) (by kernel_rfl) (by kernel_rfl) (by kernel_rfl) (fun _ _ _ h => h) (Or.inl ⟨((wanted_at rfl rfl rfl rfl).trans rfl), ?hye14⟩) hSe1 ?reste14
              case hye14 =>
                intro W hW
                go_simp
                exact rfl
              simp only [List.getElem_toArray, List.getElem_cons_succ, List.getElem_cons_zero, Act.put, List.setIfInBounds_toArray, List.set_cons_zero, List.set_cons_succ]
              refine but_take (f := 18) (i := 15) (v := ?ve15) rfl (by kernel_rfl) (by kernel_rfl) (by kernel_rfl) (by kernel_rfl) (by kernel_rfl) (fun _ _ _ h => h) (Or.inl ⟨((wanted_at rfl rfl rfl rfl).trans rfl), ?hye15⟩) hSe1 ?reste15
              case hye15 =>
                intro W hW
                obtain ⟨m0, m1, m2, m3, m4⟩ := FM.out _ hW
                go_simp
                exact rfl
              simp only [List.getElem_toArray, List.getElem_cons_succ, List.getElem_cons_zero, Act.put, List.setIfInBounds_toArray, List.set_cons_zero, List.set_cons_succ]
              refine but_take (f := 18) (i := 16) (v := ?ve16) rfl (by kernel_rfl) (by kernel_rfl) (by kernel_rfl) (by kernel_rfl) (by kernel_rfl) (fun _ _ _ h => h) (Or.inl ⟨((wanted_at rfl rfl rfl rfl).trans rfl), ?hye16⟩) hSe1 ?reste16
              case hye16 =>
                intro W hW
                go_simp
                exact rfl
              simp only [List.getElem_toArray, List.getElem_cons_succ, List.getElem_cons_zero, Act.put, List.setIfInBounds_toArray, List.set_cons_zero, List.set_cons_succ]
              refine but_take (f := 18) (i := 17) (v := ?ve17) rfl (by kernel_rfl) (by kernel_rfl) (by kernel_rfl) (by kernel_rfl) (by kernel_rfl) (fun _ _ _ h => h) (Or.inl ⟨((wanted_at rfl rfl rfl rfl).trans rfl), ?hye17⟩) hSe1 ?reste17
              case hye17 =>
                intro W hW
                go_simp
                exact rfl
              simp only [List.getElem_toArray, List.getElem_cons_succ, List.getElem_cons_zero, Act.put, List.setIfInBounds_toArray, List.set_cons_zero, List.set_cons_succ]
              refine but_run (i := 18) (by kernel_rfl) rfl (by rfl) ?_
              simp only [List.getElem_toArray, List.getElem_cons_succ, List.getElem_cons_zero]
              intro K HK
              go_wp2_with fail
              refine HK.out _ _ (fun h => absurd rfl h) ?_
              clear HK
              refine but_done (by kernel_rfl) ?_
              have HB2 := Lib.hid (HB1.out.trans (hSe1.mono HB1.out.size))
              go_wp2
              go_roundw
              case rel => exact ⟨k + 1, by omega, by go_num, HB2⟩
              case measure => simp [intOf]; omega
            · clear HOTH
              go_upto_region 15 with (fail)
              refine but_begin (f := 18) (S := fun V => Below W1.heap.size W1 V) (by kernel_rfl) ?_
              refine but_take (f := 18) (i := 0) (v := ?vf0) rfl (by kernel_rfl) (by kernel_rfl) (by kernel_rfl) (by kernel_rfl) (by kernel_rfl) (fun _ _ _ h => h) (Or.inl ⟨(by rfl), ?hyf0⟩) (Below.drew1 _) ?restf0
              case hyf0 =>
                intro W hW
                go_simp
                exact rfl
              simp only [List.getElem_toArray, List.getElem_cons_succ, List.getElem_cons_zero, Act.put, List.setIfInBounds_toArray, List.set_cons_zero, List.set_cons_succ]
              refine but_take (f := 18) (i := 1) (v := ?vf1) rfl (by kernel_rfl) (by kernel_rfl) (by kernel_rfl) (by kernel_rfl) (by kernel_rfl) (fun _ _ _ h => h) (Or.inl ⟨(by rfl), ?hyf1⟩) (Below.drew1 _) ?restf1
              case hyf1 =>
                intro W hW
                go_simp
                exact rfl
              simp only [List.getElem_toArray, List.getElem_cons_succ, List.getElem_cons_zero, Act.put, List.setIfInBounds_toArray, List.set_cons_zero, List.set_cons_succ]
              refine but_take (f := 18) (i := 2) (v := ?vf2) rfl (by kernel_rfl) (by kernel_rfl) (by kernel_rfl) (by kernel_rfl) (by kernel_rfl) (fun _ _ _ h => h) (Or.inl ⟨(by rfl), ?hyf2⟩) (Below.drew1 _) ?restf2
              case hyf2 =>
                intro W hW
                go_simp
                exact rfl
              simp only [List.getElem_toArray, List.getElem_cons_succ, List.getElem_cons_zero, Act.put, List.setIfInBounds_toArray, List.set_cons_zero, List.set_cons_succ]
              refine but_take (f := 18) (i := 3) (v := ?vf3) rfl (by kernel_rfl) (by kernel_rfl) (by kernel_rfl) (by kernel_rfl) (by kernel_rfl) (fun _ _ _ h => h) (Or.inl ⟨(by rfl), ?hyf3⟩) (Below.drew1 _) ?restf3
              case hyf3 =>
                intro W hW
                obtain ⟨m0, m1, m2, m3, m4⟩ := FM.out _ hW
                go_simp
                exact rfl
              simp only [List.getElem_toArray, List.getElem_cons_succ, List.getElem_cons_zero, Act.put, List.setIfInBounds_toArray, List.set_cons_zero, List.set_cons_succ]
              refine but_take (f := 18) (i := 4) (v := ?vf4) rfl (by kernel_rfl) (by kernel_rfl) (by kernel_rfl) (by kernel_rfl) (by kernel_rfl) (fun _ _ _ h => h) (Or.inl ⟨(by rfl), ?hyf4⟩) (Below.drew1 _) ?restf4
              case hyf4 =>
                intro W hW
                obtain ⟨k0, k1, k2, k3, k4, k5⟩ := box5 (box_on QKr.out hW)
                go_simp
                exact rfl
              simp only [List.getElem_toArray, List.getElem_cons_succ, List.getElem_cons_zero, Act.put, List.setIfInBounds_toArray, List.set_cons_zero, List.set_cons_succ]
              refine but_run (i := 5) (by kernel_rfl) rfl (by rfl) ?_
              simp only [List.getElem_toArray, List.getElem_cons_succ, List.getElem_cons_zero]
              intro K HK
              go_wp2_with fail
              refine (HSP.out _ _ _ _ _ _ _ _ _ _ _).mono ?_
              rintro r Vf1 ⟨rfl, hbf1⟩
              rw [HSPe.out]
              go_wp2_with fail
              have hSf1 : (fun V => Below W1.heap.size W1 V) Vf1 := bstep (Below.drew1 _) hbf1
              refine HK.out _ _ (fun _ => hSf1) ?_
              clear HK
              refine but_take (f := 18) (i := 6) (v := ?vf6) rfl (by kernel_rfl) (by kernel_rfl) (by kernel_rfl) (by kernel_rfl) (by kernel_rfl) (fun _ _ _ h => h) (Or.inl ⟨(by rfl), ?hyf6⟩) hSf1 ?restf6
              case hyf6 =>
                intro W hW
                go_simp
                exact rfl
              simp only [List.getElem_toArray, List.getElem_cons_succ, List.getElem_cons_zero, Act.put, List.setIfInBounds_toArray, List.set_cons_zero, List.set_cons_succ]
              refine but_take (f := 18) (i := 7) (v := ?vf7) rfl (by kernel_rfl) (by kernel_rfl) (by kernel_rfl) (by kernel_rfl) (by kernel_rfl) (fun _ _ _ h => h) (Or.inl ⟨(by rfl), ?hyf7⟩) hSf1 ?restf7
              case hyf7 =>
                intro W hW
                go_simp
                exact rfl
              simp only [List.getElem_toArray, List.getElem_cons_succ, List.getElem_cons_zero, Act.put, List.setIfInBounds_toArray, List.set_cons_zero, List.set_cons_succ]
              refine but_take (f := 18) (i := 8) (v := undef) rfl (by kernel_rfl) (by kernel_rfl) (by kernel_rfl) (by kernel_rfl) (by kernel_rfl) (fun _ _ _ h => h) (Or.inr ⟨((wanted_at rfl rfl rfl rfl).trans rfl), rfl⟩) hSf1 ?_
              simp only [List.getElem_toArray, List.getElem_cons_succ, List.getElem_cons_zero, Act.put, List.setIfInBounds_toArray, List.set_cons_zero, List.set_cons_succ]
              refine but_take (f := 18) (i := 9) (v := undef) rfl (by kernel_rfl) (by kernel_rfl) (by kernel_rfl) (by kernel_rfl) (by kernel_rfl) (fun _ _ _ h => h) (Or.inr ⟨((wanted_at rfl rfl rfl rfl).trans rfl), rfl⟩) hSf1 ?_
              simp only [List.getElem_toArray, List.getElem_cons_succ, List.getElem_cons_zero, Act.put, List.setIfInBounds_toArray, List.set_cons_zero, List.set_cons_succ]
              refine but_take (f := 18) (i := 10) (v := undef) rfl (by kernel_rfl) (by kernel_rfl) (by kernel_rfl) (by kernel_rfl) (by kernel_rfl) (fun _ _ _ h => h) (Or.inr ⟨((wanted_at rfl rfl rfl rfl).trans rfl), rfl⟩) hSf1 ?_
              simp only [List.getElem_toArray, List.getElem_cons_succ, List.getElem_cons_zero, Act.put, List.setIfInBounds_toArray, List.set_cons_zero, List.set_cons_succ]
              refine but_take (f := 18) (i := 11) (v := undef) rfl (by kernel_rfl) (by kernel_rfl) (by kernel_rfl) (by kernel_rfl) (by kernel_rfl) (fun _ _ _ h => h) (Or.inr ⟨(wanted_un rfl rfl rfl rfl), rfl⟩) hSf1 ?_
              simp only [List.getElem_toArray, List.getElem_cons_succ, List.getElem_cons_zero, Act.put, List.setIfInBounds_toArray, List.set_cons_zero, List.set_cons_succ]
              refine but_take (f := 18) (i := 12) (v := undef) rfl (by kernel_rfl) (by kernel_rfl) (by kernel_rfl) (by kernel_rfl) (by kernel_rfl) (fun _ _ _ h => h) (Or.inr ⟨(wanted_un rfl rfl rfl rfl), rfl⟩) hSf1 ?_
              simp only [List.getElem_toArray, List.getElem_cons_succ, List.getElem_cons_zero, Act.put, List.setIfInBounds_toArray, List.set_cons_zero, List.set_cons_succ]
              refine but_take (f := 18) (i := 13) (v := undef) rfl (by kernel_rfl) (by kernel_rfl) (by kernel_rfl) (by kernel_rfl) (by kernel_rfl) (fun _ _ _ h => h) (Or.inr ⟨(wanted_un rfl rfl rfl rfl), rfl⟩) hSf1 ?_
              simp only [List.getElem_toArray, List.getElem_cons_succ, List.getElem_cons_zero, Act.put, List.setIfInBounds_toArray, List.set_cons_zero, List.set_cons_succ]
              refine but_take (f := 18) (i := 14) (v := undef) rfl (by kernel_rfl) (by kernel_rfl) (by kernel_rfl) (by kernel_rfl) (by kernel_rfl) (fun _ _ _ h => h) (Or.inr ⟨(wanted_un rfl rfl rfl rfl), rfl⟩) hSf1 ?_
              simp only [List.getElem_toArray, List.getElem_cons_succ, List.getElem_cons_zero, Act.put, List.setIfInBounds_toArray, List.set_cons_zero, List.set_cons_succ]
              refine but_take (f := 18) (i := 15) (v := undef) rfl (by kernel_rfl) (by kernel_rfl) (by kernel_rfl) (by kernel_rfl) (by kernel_rfl) (fun _ _ _ h => h) (Or.inr ⟨(wanted_un rfl rfl rfl rfl), rfl⟩) hSf1 ?_
              simp only [List.getElem_toArray, List.getElem_cons_succ, List.getElem_cons_zero, Act.put, List.setIfInBounds_toArray, List.set_cons_zero, List.set_cons_succ]
              refine but_take (f := 18) (i := 16) (v := undef) rfl (by kernel_rfl) (by kernel_rfl) (by kernel_rfl) (by kernel_rfl) (by kernel_rfl) (fun _ _ _ h => h) (Or.inr ⟨(wanted_un rfl rfl rfl rfl), rfl⟩) hSf1 ?_
              simp only [List.getElem_toArray, List.getElem_cons_succ, List.getElem_cons_zero, Act.put, List.setIfInBounds_toArray, List.set_cons_zero, List.set_cons_succ]
              refine but_take (f := 18) (i := 17) (v := undef) rfl (by kernel_rfl) (by kernel_rfl) (by kernel_rfl) (by kernel_rfl) (by kernel_rfl) (fun _ _ _ h => h) (Or.inr ⟨((wanted_at rfl rfl rfl rfl).trans rfl), rfl⟩) hSf1 ?_
              simp only [List.getElem_toArray, List.getElem_cons_succ, List.getElem_cons_zero, Act.put, List.setIfInBounds_toArray, List.set_cons_zero, List.set_cons_succ]
              refine but_run (i := 18) (by kernel_rfl) rfl (by rfl) ?_
              simp only [List.getElem_toArray, List.getElem_cons_succ, List.getElem_cons_zero]
              intro K HK
              go_wp2_with fail
              refine HK.out _ _ (fun h => absurd rfl h) ?_
              clear HK
              refine but_done (by kernel_rfl) ?_
              have HB2 := Lib.hid (HB1.out.trans (hSf1.mono HB1.out.size))
              go_wp2
              go_roundw
              case rel => exact ⟨k + 1, by omega, by go_num, HB2⟩
              case measure => simp [intOf]; omega
        · have i1 : ¬ (k : Int) < (KK.length : Int) := by omega
          replace OKM := Lib.hid (OKM.out.on HBr.out)
          replace QT := Lib.hid (box_on QT.out HBr.out)
          replace QY := Lib.hid (box_on QY.out HBr.out)
          replace QK := Lib.hid (box_on QK.out HBr.out)
          replace QX := Lib.hid (box_on QX.out HBr.out)
          replace RT := Lib.hid (RT.out.on HBr.out)
          replace RX := Lib.hid (RX.out.on HBr.out)
          replace BB := Lib.hid (bstep BB.out HBr.out)
          clear HBr OTHER OKK HSP hk hlt
          go_wp2
          clear i1
          obtain ⟨WL, rfl⟩ : ∃ W, W = wr := ⟨_, rfl⟩
          go_loopw [16] (fun i wv => ∃ j : Nat, (j < KM.length ∨ j = 0) ∧ i = .int .i64 ((j : Int) + 1) ∧ Hid (Below WL.heap.size WL wv)) (fun i _ => KM.length + 1 - (intOf i).toNat)
          case atStart => exact ⟨0, .inr rfl, rfl, Lib.hid (Below.refl _ _)⟩
          case round =>
            obtain ⟨j, hj, rfl, HBv⟩ := hrel
            by_cases hlt : j + 1 < KM.length
            · obtain ⟨bm, om, rfl, hbb, hc⟩ := OKM.out.reads.keys hlt
              have HF := hc j (by omega)
              have HF1 := hc (j + 1) hlt
              have FJ := Lib.hid (fun V (h : Below wr.heap.size wr V) => HF.keep ((HBv.out.trans (h.mono HBv.out.size)).block bm hbb))
              have FJ1 := Lib.hid (fun V (h : Below wr.heap.size wr V) => HF1.keep ((HBv.out.trans (h.mono HBv.out.size)).block bm hbb))
              have HLS := Lib.hid (ASC.out j hlt)
              have i1 : (j : Int) + 1 < (KM.length : Int) := by omega
              have i2 : (0 : Int) ≤ (j : Int) + 1 := by omega
              have i3 : IntKind.i64.wrap ((j : Int) + 1 - 1) = (j : Int) := by rw [IntKind.wrap_i64]; omega
              have i4 : (j : Int) < (KM.length : Int) := by omega
              have i5 : (0 : Int) ≤ (j : Int) := by omega
              have i6 : ((j : Int) + 1).toNat = j + 1 := by omega
              have i7 : IntKind.i64.wrap (j : Int) = (j : Int) := by rw [IntKind.wrap_i64]; omega
              clear HF HF1 hc
              go_upto_region 20 with (fail)
              refine but_begin (f := 10) (S := fun V => Below wr.heap.size wr V) (by kernel_rfl) ?_
              refine but_take (f := 10) (i := 0) (v := ?vn0) rfl (by kernel_rfl) (by kernel_rfl) (by kernel_rfl) (by kernel_rfl) (by kernel_rfl) (fun _ _ _ h => h) (Or.inl ⟨(by rfl), ?hyn0⟩) (Below.drew1 _) ?restn0
              case hyn0 =>
                intro W hW
                go_simp
                exact rfl
              simp only [List.getElem_toArray, List.getElem_cons_succ, List.getElem_cons_zero, Act.put, List.setIfInBounds_toArray, List.set_cons_zero, List.set_cons_succ]
              refine but_take (f := 10) (i := 1) (v := ?vn1) rfl (by kernel_rfl) (by kernel_rfl) (by kernel_rfl) (by kernel_rfl) (by kernel_rfl) (fun _ _ _ h => h) (Or.inl ⟨(by rfl), ?hyn1⟩) (Below.drew1 _) ?restn1
              case hyn1 =>
                intro W hW
                go_simp
                exact rfl
              simp only [List.getElem_toArray, List.getElem_cons_succ, List.getElem_cons_zero, Act.put, List.setIfInBounds_toArray, List.set_cons_zero, List.set_cons_succ]
              refine but_take (f := 10) (i := 2) (v := ?vn2) rfl (by kernel_rfl) (by kernel_rfl) (by kernel_rfl) (by kernel_rfl) (by kernel_rfl) (fun _ _ _ h => h) (Or.inl ⟨(by rfl), ?hyn2⟩) (Below.drew1 _) ?restn2
              case hyn2 =>
                intro W hW
                go_simp
                exact rfl
              simp only [List.getElem_toArray, List.getElem_cons_succ, List.getElem_cons_zero, Act.put, List.setIfInBounds_toArray, List.set_cons_zero, List.set_cons_succ]
              refine but_take (f := 10) (i := 3) (v := ?vn3) rfl (by kernel_rfl) (by kernel_rfl) (by kernel_rfl) (by kernel_rfl) (by kernel_rfl) (fun _ _ _ h => h) (Or.inl ⟨(by rfl), ?hyn3⟩) (Below.drew1 _) ?restn3
              case hyn3 =>
                intro W hW
                go_simp
                exact rfl
              simp only [List.getElem_toArray, List.getElem_cons_succ, List.getElem_cons_zero, Act.put, List.setIfInBounds_toArray, List.set_cons_zero, List.set_cons_succ]
              refine but_take (f := 10) (i := 4) (v := ?vn4) rfl (by kernel_rfl) (by kernel_rfl) (by kernel_rfl) (by kernel_rfl) (by kernel_rfl) (fun _ _ _ h => h) (Or.inl ⟨(by rfl), ?hyn4⟩) (Below.drew1 _) ?restn4
              case hyn4 =>
                intro W hW
                obtain ⟨m0, m1, m2, m3, m4⟩ := FJ.out _ hW
                go_simp
                exact rfl
              simp only [List.getElem_toArray, List.getElem_cons_succ, List.getElem_cons_zero, Act.put, List.setIfInBounds_toArray, List.set_cons_zero, List.set_cons_succ]
              refine but_take (f := 10) (i := 5) (v := ?vn5) rfl (by kernel_rfl) (by kernel_rfl) (by kernel_rfl) (by kernel_rfl) (by kernel_rfl) (fun _ _ _ h => h) (Or.inl ⟨(by rfl), ?hyn5⟩) (Below.drew1 _) ?restn5
              case hyn5 =>
                intro W hW
                go_simp
                exact rfl
              simp only [List.getElem_toArray, List.getElem_cons_succ, List.getElem_cons_zero, Act.put, List.setIfInBounds_toArray, List.set_cons_zero, List.set_cons_succ]
              refine but_take (f := 10) (i := 6) (v := ?vn6) rfl (by kernel_rfl) (by kernel_rfl) (by kernel_rfl) (by kernel_rfl) (by kernel_rfl) (fun _ _ _ h => h) (Or.inl ⟨(by rfl), ?hyn6⟩) (Below.drew1 _) ?restn6
              case hyn6 =>
                intro W hW
                go_simp
                exact rfl
              simp only [List.getElem_toArray, List.getElem_cons_succ, List.getElem_cons_zero, Act.put, List.setIfInBounds_toArray, List.set_cons_zero, List.set_cons_succ]
              refine but_take (f := 10) (i := 7) (v := ?vn7) rfl (by kernel_rfl) (by kernel_rfl) (by kernel_rfl) (by kernel_rfl) (by kernel_rfl) (fun _ _ _ h => h) (Or.inl ⟨(by rfl), ?hyn7⟩) (Below.drew1 _) ?restn7
              case hyn7 =>
                intro W hW
                go_simp
                exact rfl
              simp only [List.getElem_toArray, List.getElem_cons_succ, List.getElem_cons_zero, Act.put, List.setIfInBounds_toArray, List.set_cons_zero, List.set_cons_succ]
              refine but_take (f := 10) (i := 8) (v := ?vn8) rfl (by kernel_rfl) (by kernel_rfl) (by kernel_rfl) (by kernel_rfl) (by kernel_rfl) (fun _ _ _ h => h) (Or.inl ⟨(by rfl), ?hyn8⟩) (Below.drew1 _) ?restn8
              case hyn8 =>
                intro W hW
                obtain ⟨m0, m1, m2, m3, m4⟩ := FJ1.out _ hW
                go_simp
                exact rfl
              simp only [List.getElem_toArray, List.getElem_cons_succ, List.getElem_cons_zero, Act.put, List.setIfInBounds_toArray, List.set_cons_zero, List.set_cons_succ]
              refine but_run (i := 9) (by kernel_rfl) rfl (by rfl) ?_
              simp only [List.getElem_toArray, List.getElem_cons_succ, List.getElem_cons_zero]
              intro K HK
              go_wp2_with fail
              refine (HLE.out KM[j] KM[j + 1] _).mono ?_
              rintro r Vn1 ⟨rfl, hbn1⟩
              rw [HLS.out]
              go_wp2_with fail
              have hSn1 : (fun V => Below wr.heap.size wr V) Vn1 := bstep (Below.drew1 _) hbn1
              refine HK.out _ _ (fun _ => hSn1) ?_
              clear HK
              refine but_run (i := 10) (by kernel_rfl) rfl (by rfl) ?_
              simp only [List.getElem_toArray, List.getElem_cons_succ, List.getElem_cons_zero]
              intro K HK
              go_wp2_with fail
              refine HK.out _ _ (fun h => absurd rfl h) ?_
              clear HK
              refine but_done (by kernel_rfl) ?_
              have HB2 := Lib.hid (HBv.out.trans (hSn1.mono HBv.out.size))
              go_wp2
              go_roundw
              case rel => exact ⟨j + 1, .inl hlt, by go_num, HB2⟩
              case measure => simp [intOf]; omega
            · have i1 : ¬ (j : Int) + 1 < (KM.length : Int) := by omega
              replace QT := Lib.hid (box_on QT.out HBv.out)
              replace QY := Lib.hid (box_on QY.out HBv.out)
              replace QK := Lib.hid (box_on QK.out HBv.out)
              replace QX := Lib.hid (box_on QX.out HBv.out)
              replace RT := Lib.hid (RT.out.on HBv.out)
              replace RX := Lib.hid (RX.out.on HBv.out)
              replace BB := Lib.hid (bstep BB.out HBv.out)
              clear HBv OKM ASC HLE hj hlt
              obtain ⟨t0, t1, t2⟩ := box2 QT.out
              obtain ⟨k0, k1, k2, k3, k4, k5⟩ := box5 QK.out
              go_wp2_with fail
              refine (HAT.out _ _ lo ts x.a x.b _ RT.out HSM.out).mono ?_
              rintro r w8 ⟨rfl, bd⟩
              rw [HWB.out, HWK.out]
              have ba := bstep bd (bal1 w8 (.cells #[.int .i64 WK.a, .int .i64 WK.b, .int .i64 WK.c, .int .i64 WK.d, .int .i64 WK.e] 29))
              replace QY := Lib.hid (box_on QY.out ba)
              replace QK := Lib.hid (box_on QK.out ba)
              replace QX := Lib.hid (box_on QX.out ba)
              replace RX := Lib.hid (RX.out.on ba)
              replace BB := Lib.hid (bstep BB.out ba)
              clear ba bd t0 t1 t2 k0 k1 k2 k3 k4 k5 HWB HWK QT RT
              go_upto_region 23 with (fail)
              generalize w8.alloc (.cells #[.int .i64 WK.a, .int .i64 WK.b, .int .i64 WK.c, .int .i64 WK.d, .int .i64 WK.e] 29) = W8 at *
              obtain ⟨hs1, hs2⟩ := HSELF.out
              have hcnt := HCNT.out
              have HXO := Lib.hid (implTreeOk_any (.slice Ax lo2.length cx) (.slice Bx ts2.length dx) lo2 ts2 _ RX.out (by omega) (by omega) (by omega))
              rw [HXOK.out] at HXO
              clear HSELF HCNT HXOK HAT RX
              cases YB
              · have zc : (x.c != 0) = false := hs1.symm
                clear hs1 hs2
                cases WB
                · have hlen : ((KM.length : Int) == (KK.length : Int)) = true := by
                    simp at hcnt ⊢
                    omega
                  clear hcnt
                  have iw0 : IntKind.i64.wrap ((KK.length : Int) - 1) = (KK.length : Int) - 1 := by rw [IntKind.wrap_i64]; omega
                  have iw1 : IntKind.i64.wrap ((KK.length : Int) + 1) = (KK.length : Int) + 1 := by rw [IntKind.wrap_i64]; omega
                  have iw2 : IntKind.i64.wrap ((KK.length : Int) - 1 + 1) = (KK.length : Int) := by rw [IntKind.wrap_i64]; omega
                  obtain ⟨x0, x1, x2⟩ := box2 QX.out
                  go_wp2_with fail
                  refine HXO.out.mono ?_
                  rintro r w9 ⟨rfl, bd⟩
                  replace BB := Lib.hid (bstep BB.out bd)
                  obtain ⟨k0, k1, k2, k3, k4, k5⟩ := box5 (box_on QK.out bd)
                  obtain ⟨y0, y1, y2, y3, y4, y5⟩ := box5 (box_on QY.out bd)
                  clear bd x0 x1 x2
                  go_wp2
                  go_ret
                  exact ⟨rfl, BB.out⟩
                · have hlen : ((KM.length : Int) == (KK.length : Int) - 1) = true := by
                    simp at hcnt ⊢
                    omega
                  clear hcnt
                  have iw0 : IntKind.i64.wrap ((KK.length : Int) - 1) = (KK.length : Int) - 1 := by rw [IntKind.wrap_i64]; omega
                  have iw1 : IntKind.i64.wrap ((KK.length : Int) + 1) = (KK.length : Int) + 1 := by rw [IntKind.wrap_i64]; omega
                  have iw2 : IntKind.i64.wrap ((KK.length : Int) - 1 + 1) = (KK.length : Int) := by rw [IntKind.wrap_i64]; omega
                  obtain ⟨x0, x1, x2⟩ := box2 QX.out
                  go_wp2_with fail
                  refine HXO.out.mono ?_
                  rintro r w9 ⟨rfl, bd⟩
                  replace BB := Lib.hid (bstep BB.out bd)
                  obtain ⟨k0, k1, k2, k3, k4, k5⟩ := box5 (box_on QK.out bd)
                  obtain ⟨y0, y1, y2, y3, y4, y5⟩ := box5 (box_on QY.out bd)
                  clear bd x0 x1 x2
                  go_wp2
                  go_ret
                  exact ⟨rfl, BB.out⟩
              · have zc : (x.c != 0) = true := hs1.symm
                have hyk := hs2 hs1.symm
                subst hyk
                clear hs1 hs2
                cases WB
                · have hlen : ((KM.length : Int) == (KK.length : Int) + 1) = true := by
                    simp at hcnt ⊢
                    omega
                  clear hcnt
                  have iw0 : IntKind.i64.wrap ((KK.length : Int) - 1) = (KK.length : Int) - 1 := by rw [IntKind.wrap_i64]; omega
                  have iw1 : IntKind.i64.wrap ((KK.length : Int) + 1) = (KK.length : Int) + 1 := by rw [IntKind.wrap_i64]; omega
                  have iw2 : IntKind.i64.wrap ((KK.length : Int) - 1 + 1) = (KK.length : Int) := by rw [IntKind.wrap_i64]; omega
                  obtain ⟨x0, x1, x2⟩ := box2 QX.out
                  go_wp2_with fail
                  refine HXO.out.mono ?_
                  rintro r w9 ⟨rfl, bd⟩
                  replace BB := Lib.hid (bstep BB.out bd)
                  obtain ⟨k0, k1, k2, k3, k4, k5⟩ := box5 (box_on QK.out bd)
                  obtain ⟨y0, y1, y2, y3, y4, y5⟩ := box5 (box_on QY.out bd)
                  clear bd x0 x1 x2
                  go_wp2
                  go_ret
                  exact ⟨rfl, BB.out⟩
                · have hlen : ((KM.length : Int) == (KK.length : Int)) = true := by
                    simp at hcnt ⊢
                    omega
                  clear hcnt
                  have iw0 : IntKind.i64.wrap ((KK.length : Int) - 1) = (KK.length : Int) - 1 := by rw [IntKind.wrap_i64]; omega
                  have iw1 : IntKind.i64.wrap ((KK.length : Int) + 1) = (KK.length : Int) + 1 := by rw [IntKind.wrap_i64]; omega
                  have iw2 : IntKind.i64.wrap ((KK.length : Int) - 1 + 1) = (KK.length : Int) := by rw [IntKind.wrap_i64]; omega
                  obtain ⟨x0, x1, x2⟩ := box2 QX.out
                  go_wp2_with fail
                  refine HXO.out.mono ?_
                  rintro r w9 ⟨rfl, bd⟩
                  replace BB := Lib.hid (bstep BB.out bd)
                  obtain ⟨k0, k1, k2, k3, k4, k5⟩ := box5 (box_on QK.out bd)
                  obtain ⟨y0, y1, y2, y3, y4, y5⟩ := box5 (box_on QY.out bd)
                  clear bd x0 x1 x2
                  go_wp2
                  go_ret
                  exact ⟨rfl, BB.out⟩
  · have d0 : decide ((1048576 : Int) < (l.length : Int)) = true := decide_eq_true (by omega)
    go_enter Tryz.func3, Tryz.ntmps3
    go_wp2_with fail
    refine (big_any _ _ _ _).mono ?_
    rintro r w1 ⟨rfl, rfl⟩
    rw [d0]
    go_wp2
    go_ret
    exact ⟨rfl, Below.refl _ _⟩
end Go.Proofs.YthopkhpiikiknaaGreat
