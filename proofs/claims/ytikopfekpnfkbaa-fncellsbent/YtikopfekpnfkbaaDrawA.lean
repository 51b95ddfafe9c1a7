/- Contracts for the cursor that draws inputs: each of spec.l1New, l1Byte, l1Below, l1Once, l1Int, l1Bytes returns a value in its range and turns nothing but the cursor's own cell block and new memory. Conditions: the code drawn from has at most 2^20 bytes. -/
import Derived.Test.YtikopfekpnfkbaaAppend
import Derived.Laws.BitsAllLaws
import Derived.Laws.BitsLemmas
namespace Go.Proofs.Ytikopfekpnfkbaa
open Go.RowKit
set_option maxRecDepth 100000
set_option linter.unusedSimpArgs false
set_option linter.unusedVariables false

/-- Block p holds a cursor over bytes that lie below it. -/
def Cur (w : World) (p : Nat) : Prop :=
  ∃ (A : Option Addr) (cap : Nat) (l : List UInt8) (i : Nat) (h : Int), w.heap[p]? = some (.cells #[.slice A l.length cap, .int .i64 i, .int .i64 h] 69 (0, 0)) ∧ Rd w p A l ∧ i ≤ l.length ∧ l.length ≤ 1048576
theorem Cur.lt {w : World} {p : Nat} (h : Cur w p) : p < w.heap.size := by
  obtain ⟨A, cap, l, i, h, hg, _⟩ := h
  exact (Array.getElem?_eq_some_iff.1 hg).1
theorem Cur.keep {w w' : World} {p : Nat} (h : Cur w p) (hk : ∀ k, k ≤ p → w'.heap[k]? = w.heap[k]?) : Cur w' p := by
  obtain ⟨A, cap, l, i, h, hg, hr, r⟩ := h
  exact ⟨A, cap, l, i, h, (hk p (Nat.le_refl _)).trans hg, hr.keep (fun k hk' => hk k (by omega)), r⟩
theorem Cur.on {w w' : World} {p : Nat} (h : Cur w p) (hb : Below w.heap.size w w') : Cur w' p := h.keep (fun k hk => hb.block k (by have := h.lt; omega))

theorem and255 (y : Int) : 0 ≤ bits .and .i64 y 255 ∧ bits .and .i64 y 255 ≤ 255 := by
  have e : bits .and .i64 y 255 = IntKind.i64.wrap ((BitVec.ofInt 64 y &&& BitVec.ofInt 64 ((255 : Nat) : Int)).toNat : Int) := rfl
  have h : (BitVec.ofInt 64 y &&& BitVec.ofInt 64 ((255 : Nat) : Int)).toNat ≤ 255 := by
    rw [BitVec.toNat_and, BitVec.ofInt_natCast, BitVec.toNat_ofNat]
    exact Nat.and_le_right
  rw [e, IntKind.wrap_i64]
  omega
set_option maxRecDepth 100000 in
theorem l1New_any (A : Option Addr) (cap : Nat) (l : List UInt8) (w : World) (hr : Rd w w.heap.size A l) (hn : l.length ≤ 1048576) :
    Calls Try.prog 35 #[.slice A l.length cap] w fun e w' => ∃ p, e = .returned (.pointer (some ⟨p, 0, none⟩)) ∧ Cur w' p ∧ w.heap.size ≤ p ∧ Below w.heap.size w w' := by
  go_enter Try.func35, Try.ntmps35
  go_wp2
  go_loop [3, 4] (fun h i => ∃ (k : Nat) (x : Int), k ≤ l.length ∧ i = .int .i64 k ∧ h = .int .i64 x) (fun _ i => l.length - (intOf i).toNat)
  case atStart => exact ⟨0, _, by omega, rfl, rfl⟩
  case round =>
    obtain ⟨k, x, hk, rfl, rfl⟩ := hrel
    by_cases hlt : k < l.length
    · by_cases h4 : k < 4000
      · obtain ⟨b, off, rfl, hbb, hc⟩ := hr.at_ hlt
        have c1 := hc k hlt
        clear hc hr
        go_wp2
        go_round
        case rel => exact ⟨k + 1, _, by omega, by go_num, rfl⟩
        case measure => simp [intOf]; omega
      · go_wp2
        go_ret
        exact ⟨w.heap.size, rfl, ⟨A, cap, l, 0, x, heap_alloc_new w _, (hr.below ((Below.refl _ _).alloc (Nat.le_refl _) _)), by omega, hn⟩, Nat.le_refl _, (Below.refl _ _).alloc (Nat.le_refl _) _⟩
    · go_wp2
      go_ret
      exact ⟨w.heap.size, rfl, ⟨A, cap, l, 0, x, heap_alloc_new w _, (hr.below ((Below.refl _ _).alloc (Nat.le_refl _) _)), by omega, hn⟩, Nat.le_refl _, (Below.refl _ _).alloc (Nat.le_refl _) _⟩

theorem blk_set {w : World} {p i : Nat} {cs : Array Value} {t : TypeId} (h : w.heap[p]? = some (.cells cs t (0, 0))) (u : Value) : (w.setCell ⟨p, i, none⟩ u).heap[p]? = some (.cells (cs.setIfInBounds i u) t (0, 0)) := heap_setCell_same w p i cs t u h
theorem only_draw {a w : World} {row : Option Nat} (h : a.grownBy w row) (n : Nat) : a.grownBy (w.drewN n) row := ⟨h.os, h.tape, h.output, h.size, h.block⟩
theorem only_draw1 {a w : World} {row : Option Nat} (h : a.grownBy w row) : a.grownBy w.drew row := ⟨h.os, h.tape, h.output, h.size, h.block⟩
theorem cur2 {w : World} {A : Option Addr} {p cap i n : Nat} {l : List UInt8} {h h2 : Int} (hg : w.heap[p]? = some (.cells #[.slice A l.length cap, .int .i64 i, .int .i64 h] 69 (0, 0))) (hr : Rd w p A l) (hi : i + 1 ≤ l.length) (hn : l.length ≤ 1048576) :
    Cur (((w.setCell ⟨p, 2, none⟩ (.int .i64 h2)).drewN n).setCell ⟨p, 1, none⟩ (.int .i64 ((i : Int) + 1))) p ∧ w.grownBy (((w.setCell ⟨p, 2, none⟩ (.int .i64 h2)).drewN n).setCell ⟨p, 1, none⟩ (.int .i64 ((i : Int) + 1))) (some p) := by
  have g2 := blk_set (i := 2) hg (.int .i64 h2)
  have g3 : ((w.setCell ⟨p, 2, none⟩ (.int .i64 h2)).drewN n).heap[p]? = _ := g2
  have g4 := blk_set (i := 1) g3 (.int .i64 ((i : Int) + 1))
  have gr := only_set (j := 1) (only_draw (only_set (j := 2) (World.grownBy.refl w (some p)) (.int .i64 h2)) n) (.int .i64 ((i : Int) + 1))
  exact ⟨⟨A, cap, l, i + 1, h2, g4, hr.keep (fun k hk => gr.block k (by have := (Array.getElem?_eq_some_iff.1 hg).1; omega) (fun e => by injection e with e; omega)), hi, hn⟩, gr⟩
theorem cur1 {w : World} {A : Option Addr} {p cap i n m : Nat} {l : List UInt8} {h h2 : Int} (hg : w.heap[p]? = some (.cells #[.slice A l.length cap, .int .i64 i, .int .i64 h] 69 (0, 0))) (hr : Rd w p A l) (hi : i ≤ l.length) (hn : l.length ≤ 1048576) :
    Cur (((w.setCell ⟨p, 2, none⟩ (.int .i64 h2)).drewN n).drewN m) p ∧ w.grownBy (((w.setCell ⟨p, 2, none⟩ (.int .i64 h2)).drewN n).drewN m) (some p) := by
  have g2 := blk_set (i := 2) hg (.int .i64 h2)
  have gr := only_draw (only_draw (only_set (j := 2) (World.grownBy.refl w (some p)) (.int .i64 h2)) n) m
  exact ⟨⟨A, cap, l, i, h2, g2, hr.keep (fun k hk => gr.block k (by have := (Array.getElem?_eq_some_iff.1 hg).1; omega) (fun e => by injection e with e; omega)), hi, hn⟩, gr⟩
def AByte (w : World) (p : Nat) (e : Ending) (w' : World) : Prop := ∃ x : Int, 0 ≤ x ∧ x ≤ 255 ∧ e = .returned (.int .i64 x) ∧ Cur w' p ∧ w.grownBy w' (some p)
set_option maxRecDepth 100000 in
theorem l1Byte_any (p : Nat) (w : World) (hc : Cur w p) : Calls Try.prog 55 #[.pointer (some ⟨p, 0, none⟩)] w (AByte w p) := by
  obtain ⟨A, cap, l, i, h, hg, hr, hi, hn⟩ := hc
  have c0 : w.cell? ⟨p, 0, none⟩ = some (.slice A l.length cap) := by rw [cell_of_row w p 0 _ _ _ hg]; rfl
  have c1 : w.cell? ⟨p, 1, none⟩ = some (.int .i64 i) := by rw [cell_of_row w p 1 _ _ _ hg]; rfl
  have c2 : w.cell? ⟨p, 2, none⟩ = some (.int .i64 h) := by rw [cell_of_row w p 2 _ _ _ hg]; rfl
  have f1 : w.frozen? ⟨p, 1, none⟩ = false := frozen_of_row w p 1 _ _ hg
  have f2 : w.frozen? ⟨p, 2, none⟩ = false := frozen_of_row w p 2 _ _ hg
  have HG := Lib.hid hg
  clear hg
  by_cases hlt : i < l.length
  · obtain ⟨b, off, rfl, hbb, hcc⟩ := hr.at_ hlt
    have c3 := hcc i hlt
    have hne : ¬ b = p := by omega
    have HR := Lib.hid hr
    clear hcc hr
    obtain ⟨x0, x1⟩ := u8_le l[i]
    generalize l[i] = x at c3 x0 x1
    go_enter Try.func55, Try.ntmps55
    go_wp2
    generalize wrap64 (wrap64 (h * 6364136223846793005) + 1442695040888963407) = h2
    go_quiet (fail)
    go_wp2
    have ha := and255 (bits .xor .i64 (h2 / 8589934592) (h2 / 140737488355328))
    generalize bits .and .i64 (bits .xor .i64 (h2 / 8589934592) (h2 / 140737488355328)) 255 = y at ha ⊢
    obtain ⟨y0, y1⟩ := ha
    have hid : (i : Int) < (l.length : Int) := by omega
    go_quiet (fail)
    go_wp2
    go_quiet (fail)
    go_wp2
    have ha := and255 (y + (x.toNat : Int))
    generalize bits .and .i64 (y + (x.toNat : Int)) 255 = z at ha ⊢
    obtain ⟨z0, z1⟩ := ha
    go_ret
    exact ⟨z, z0, z1, rfl, cur2 HG.out HR.out (by omega) hn⟩
  · have HR := Lib.hid hr
    clear hr
    have hid : decide ((i : Int) < (l.length : Int)) = false := decide_eq_false (by omega)
    go_enter Try.func55, Try.ntmps55
    go_wp2
    generalize wrap64 (wrap64 (h * 6364136223846793005) + 1442695040888963407) = h2
    go_quiet (fail)
    go_wp2
    have ha := and255 (bits .xor .i64 (h2 / 8589934592) (h2 / 140737488355328))
    generalize bits .and .i64 (bits .xor .i64 (h2 / 8589934592) (h2 / 140737488355328)) 255 = y at ha ⊢
    obtain ⟨y0, y1⟩ := ha
    go_quiet (fail)
    go_wp2
    go_ret
    exact ⟨y, y0, y1, rfl, cur1 HG.out HR.out hi hn⟩

theorem only_trans {a b c : World} {row : Option Nat} (h : a.grownBy b row) (k : b.grownBy c row) : a.grownBy c row :=
  ⟨k.os.trans h.os, k.tape.trans h.tape, k.output.trans h.output, Nat.le_trans h.size k.size, fun i hi hne => (k.block i (Nat.lt_of_lt_of_le hi h.size) hne).trans (h.block i hi hne)⟩
def ABelow (w : World) (p : Nat) (m : Int) (e : Ending) (w' : World) : Prop := ∃ j : Nat, (j : Int) < m ∧ e = .returned (.int .i64 (j : Int)) ∧ Cur w' p ∧ w.grownBy w' (some p)
theorem toNat_mod {x m : Int} (_h0 : 0 ≤ x) (hm : 0 < m) : ((x % m).toNat : Int) < m ∧ ((x % m).toNat : Int) = x % m := by
  have h1 := Int.emod_nonneg x (show m ≠ 0 by omega)
  have h2 := Int.emod_lt_of_pos x hm
  omega
set_option maxRecDepth 100000 in
theorem l1Below_any (p : Nat) (m : Int) (w : World) (hc : Cur w p) (hm : 0 < m) (hm2 : m ≤ 1099511627776) : Calls Try.prog 49 #[.pointer (some ⟨p, 0, none⟩), .int .i64 m] w (ABelow w p m) := by
  have d0 : decide (m ≤ 0) = false := decide_eq_false (by omega)
  by_cases h256 : m ≤ 256
  · go_enter Try.func49, Try.ntmps49
    go_wp2_with fail
    refine (l1Byte_any p _ hc).mono ?_
    rintro e w1 ⟨x, x0, x1, rfl, hc1, hg1⟩
    have HX := Lib.hid (toNat_mod x0 hm)
    go_wp2
    go_ret
    exact ⟨(x % m).toNat, HX.out.1, ret_intB HX.out.2.symm, hc1, hg1⟩
  · go_enter Try.func49, Try.ntmps49
    go_wp2_with fail
    refine (l1Byte_any p _ hc).mono ?_
    rintro e w1 ⟨x, x0, x1, rfl, hc1, hg1⟩
    go_wp2_with fail
    refine (l1Byte_any p _ hc1).mono ?_
    rintro e w2 ⟨y, y0, y1, rfl, hc2, hg2⟩
    go_wp2_with fail
    refine (l1Byte_any p _ hc2).mono ?_
    rintro e w3 ⟨z, z0, z1, rfl, hc3, hg3⟩
    have HX := Lib.hid (toNat_mod (x := x * 65536 + y * 256 + z) (by omega) hm)
    go_wp2
    go_ret
    exact ⟨((x * 65536 + y * 256 + z) % m).toNat, HX.out.1, ret_intB HX.out.2.symm, hc3, only_trans (only_trans hg1 hg2) hg3⟩
def AnOnce (w : World) (p : Nat) (e : Ending) (w' : World) : Prop := ∃ b : Bool, e = .returned (.bool b) ∧ Cur w' p ∧ w.grownBy w' (some p)
theorem l1Once_any (p : Nat) (m : Int) (w : World) (hc : Cur w p) (hm : 0 < m) (hm2 : m ≤ 1099511627776) : Calls Try.prog 37 #[.pointer (some ⟨p, 0, none⟩), .int .i64 m] w (AnOnce w p) := by
  go_enter Try.func37, Try.ntmps37
  go_wp2_with fail
  refine (l1Below_any p m _ hc hm hm2).mono ?_
  rintro e w1 ⟨j, hj, rfl, hc1, hg1⟩
  go_wp2
  go_ret
  exact ⟨_, rfl, hc1, hg1⟩
/-- In w, from the head of block b on, lie the values xs. -/
def Lies (w : World) (b : Nat) (xs : List Value) : Prop := ∀ i (h : i < xs.length), w.cell? ⟨b, i, none⟩ = some xs[i]
theorem Lies.far {w w' : World} {b p : Nat} {xs : List Value} (h : Lies w b xs) (hg : w.grownBy w' (some p)) (hb : b < w.heap.size) (hne : b ≠ p) : Lies w' b xs :=
  fun i hi => (World.cell?_of_block (a := ⟨b, i, none⟩) (hg.block b hb (fun e => hne (by injection e)))).trans (h i hi)
theorem Lies.new (w : World) (xs : List Value) (t : TypeId) : Lies (w.alloc (.cells xs.toArray t)) w.heap.size xs := by
  intro i hi
  rw [cell_of_row _ _ _ _ _ _ (heap_alloc_new w _)]
  simp [hi]
def AnInt (w : World) (p : Nat) (ws : List Int) (e : Ending) (w' : World) : Prop := ∃ x, x ∈ ws ∧ e = .returned (.int .i64 x) ∧ Cur w' p ∧ w.grownBy w' (some p)
theorem l1Int_any (p b cap : Nat) (ws : List Int) (w : World) (hc : Cur w p) (hl : Lies w b (ws.map (.int .i64 ·))) (hb : b < w.heap.size) (hne : b ≠ p) (h0 : 0 < ws.length) (hn : ws.length ≤ 1048576) :
    Calls Try.prog 38 #[.pointer (some ⟨p, 0, none⟩), .slice (some ⟨b, 0, none⟩) ws.length cap] w (AnInt w p ws) := by
  go_enter Try.func38, Try.ntmps38
  go_wp2_with fail
  refine (l1Below_any p ws.length _ hc (by omega) (by omega)).mono ?_
  rintro e w1 ⟨j, hj, rfl, hc1, hg1⟩
  have hj2 : j < ws.length := by omega
  have c1 := (hl.far hg1 hb hne) j (by simpa using hj2)
  simp only [List.getElem_map] at c1
  go_wp2
  go_ret
  exact ⟨ws[j], List.getElem_mem _, rfl, hc1, hg1⟩
theorem Cur.alloc {w : World} {p : Nat} (h : Cur w p) (o : Obj) : Cur (w.alloc o) p := h.on ((Below.refl _ _).alloc (Nat.le_refl _) _)
theorem only_alloc {a w : World} {row : Option Nat} (h : a.grownBy w row) (o : Obj) : a.grownBy (w.alloc o) row :=
  ⟨h.os, h.tape, h.output, Nat.le_trans h.size (by simp), fun i hi hne => (Below.heap_alloc w o i (Nat.lt_of_lt_of_le hi h.size)).trans (h.block i hi hne)⟩
theorem only_start (w : World) (o : Obj) (row : Option Nat) : w.grownBy (w.alloc o) row := only_alloc (World.grownBy.refl w row) o
theorem rd_one (w : World) (n : Int) : Rd (w.alloc (.cells #[.int .u8 (n % 256)] 5)) (w.heap.size + 1) (some ⟨w.heap.size, 0, none⟩) [ub n] := by
  refine .inr ⟨_, 0, rfl, by omega, fun i hi => ?_⟩
  rw [cell_of_row _ _ _ _ _ _ (heap_alloc_new w _)]
  match i, hi with
  | 0, _ => simp [ub_toNat]
def ABytes (w : World) (p n : Nat) (e : Ending) (w' : World) : Prop := ∃ g v l, e = .returned v ∧ Own w' g v l ∧ l.length = n ∧ w.heap.size ≤ g ∧ Cur w' p ∧ w.grownBy w' (some p)

theorem only_new {a b c : World} {p g : Nat} (h : a.grownBy b (some p)) (k : b.grownBy c (some g)) (hg : a.heap.size ≤ g) : a.grownBy c (some p) :=
  ⟨k.os.trans h.os, k.tape.trans h.tape, k.output.trans h.output, Nat.le_trans h.size k.size, fun i hi hne => (k.block i (Nat.lt_of_lt_of_le hi h.size) (fun e => by injection e with e; omega)).trans (h.block i hi hne)⟩
theorem Cur.far {w w' : World} {p g : Nat} (h : Cur w p) (hg : w.grownBy w' (some g)) (hlt : p < g) : Cur w' p :=
  h.keep (fun k hk => hg.block k (by have := h.lt; omega) (fun e => by injection e with e; omega))
theorem Own.farB {w w' : World} {g g' : Nat} {v : Value} {l : List UInt8} (h : Own w g v l) (hg : w.grownBy w' (some g')) (hne : g ≠ g') : Own w' g v l :=
  h.keep (hg.block g h.lt (fun e => hne (by injection e)))
theorem Own.allocB {w : World} {g : Nat} {v : Value} {l : List UInt8} (h : Own w g v l) (o : Obj) : Own (w.alloc o) g v l := h.on ((Below.refl _ _).alloc (Nat.le_refl _) _)
theorem Own.litB (w : World) : Own (w.alloc (.cells #[] 5)) w.heap.size (.slice (some ⟨w.heap.size, 0, none⟩) 0 0) [] :=
  ⟨0, _, rfl, heap_alloc_new w _, Nat.zero_le _, by unfold maxLen; omega, rfl, rfl⟩
end Go.Proofs.Ytikopfekpnfkbaa
