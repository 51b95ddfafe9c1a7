/- Contracts for drawn cells: spec.l9Draw, l9Any, DrawCellsOk, DrawTakeCell, DrawFreeCell, DrawCellAt and DrawUsedCells, in memory of their own. Conditions: the code has at most 2^20 bytes. -/
import Derived.Test.YtikopfekpnfkbaaCelSTake
import Derived.Test.YtikopfekpnfkbaaDrawB
namespace Go.Proofs.Ytikopfekpnfkbaa
open Go.RowKit
set_option maxRecDepth 100000
set_option linter.unusedSimpArgs false
set_option linter.unusedVariables false

theorem set_same {xs : List Value} {i : Nat} {u : Value} (h : xs[i]? = some u) : xs.set i u = xs := by
  obtain ⟨h1, h2⟩ := List.getElem?_eq_some_iff.1 h
  rw [← h2, List.set_getElem_self]
theorem celvl_get {l : List CelD} {i : Nat} (h : i < l.length) {j : Nat} (hj : j < 3) : (celvl l)[i * 3 + j]? = (celX l[i])[j]? := by
  have he : l = l.take i ++ l[i] :: l.drop (i + 1) := by rw [← List.drop_eq_getElem_cons h, List.take_append_drop]
  have hl : (celvl (l.take i)).length = i * 3 := by rw [celvl_len, List.length_take]; omega
  have h5 : celvl l = celvl (l.take i) ++ (celX l[i] ++ celvl (l.drop (i + 1))) := by rw [← celvl_cons, ← celvl_append, ← he]
  rw [h5, List.getElem?_append_right (by omega), hl, Nat.add_sub_cancel_left, List.getElem?_append_left (by simp [celX]; omega)]
theorem celvl_setA {l : List CelD} {i : Nat} (h : i < l.length) (x : Int) : celvl (l.set i ⟨x, (l[i]).b, (l[i]).c⟩) = (celvl l).set (i * 3) (.int .i64 x) := by
  have h1 := celvl_get h (j := 1) (by omega)
  have h2 := celvl_get h (j := 2) (by omega)
  rw [celvl_set l i _ h]
  dsimp only
  rw [set_same (xs := (celvl l).set (i * 3) _) (by rw [List.getElem?_set_ne (by omega), h1]; rfl), set_same (xs := (celvl l).set (i * 3) _) (by rw [List.getElem?_set_ne (by omega), h2]; rfl)]
theorem celvl_setB {l : List CelD} {i : Nat} (h : i < l.length) (x : Bool) : celvl (l.set i ⟨(l[i]).a, x, (l[i]).c⟩) = (celvl l).set (i * 3 + 1) (.bool x) := by
  have h0 := celvl_get h (j := 0) (by omega)
  have h2 := celvl_get h (j := 2) (by omega)
  rw [Nat.add_zero] at h0
  rw [celvl_set l i _ h]
  dsimp only
  rw [set_same (xs := celvl l) (by rw [h0]; rfl), set_same (xs := (celvl l).set (i * 3 + 1) _) (by rw [List.getElem?_set_ne (by omega), h2]; rfl)]
theorem celvl_setC {l : List CelD} {i : Nat} (h : i < l.length) (x : Int) : celvl (l.set i ⟨(l[i]).a, (l[i]).b, x⟩) = (celvl l).set (i * 3 + 2) (.int .i64 x) := by
  have h0 := celvl_get h (j := 0) (by omega)
  have h1 := celvl_get h (j := 1) (by omega)
  rw [Nat.add_zero] at h0
  rw [celvl_set l i _ h]
  dsimp only
  rw [set_same (xs := celvl l) (by rw [h0]; rfl), set_same (xs := celvl l) (by rw [h1]; rfl)]
theorem RwCel.setA {t : TypeId} {w : World} {g cap : Nat} {l : List CelD} (h : RwCel t w g cap l) {i : Nat} (hi : i < l.length) (x : Int) : RwCel t (w.setCell ⟨g, i * 3, none⟩ (.int .i64 x)) g cap (l.set i ⟨x, (l[i]).b, (l[i]).c⟩) := by
  have h5 := Rw.set h (i * 3) (.int .i64 x)
  unfold RwCel
  rw [List.length_set, celvl_setA hi]
  exact h5
theorem RwCel.setB {t : TypeId} {w : World} {g cap : Nat} {l : List CelD} (h : RwCel t w g cap l) {i : Nat} (hi : i < l.length) (x : Bool) : RwCel t (w.setCell ⟨g, i * 3 + 1, none⟩ (.bool x)) g cap (l.set i ⟨(l[i]).a, x, (l[i]).c⟩) := by
  have h5 := Rw.set h (i * 3 + 1) (.bool x)
  unfold RwCel
  rw [List.length_set, celvl_setB hi]
  exact h5
theorem RwCel.setC {t : TypeId} {w : World} {g cap : Nat} {l : List CelD} (h : RwCel t w g cap l) {i : Nat} (hi : i < l.length) (x : Int) : RwCel t (w.setCell ⟨g, i * 3 + 2, none⟩ (.int .i64 x)) g cap (l.set i ⟨(l[i]).a, (l[i]).b, x⟩) := by
  have h5 := Rw.set h (i * 3 + 2) (.int .i64 x)
  unfold RwCel
  rw [List.length_set, celvl_setC hi]
  exact h5
/-- Block g, from base on, holds 24 cells. -/
def RoC (w : World) (base : Nat) (v : Value) (l : List CelD) : Prop := ∃ g cap t, v = .slice (some ⟨g, 0, none⟩) l.length cap ∧ base ≤ g ∧ RwCel t w g cap l ∧ l.length = 24 ∧ 24 ≤ cap ∧ cap ≤ maxLen
theorem OwnQ.roC {w : World} {p q : Nat} {v : Value} {t : TypeId} {l : List CelD} (h : OwnQ w p q v (celsT t l)) (hl : l.length = 24) : RoC w p v l := by
  rcases Owns.rwCel h with ⟨_, h⟩ | ⟨g, cap, hv, hS, hR, hc, hm⟩
  · rw [h] at hl; cases hl
  · exact ⟨g, cap, t, hv, hS.1, hR, hl, by omega, hm⟩
theorem RoC.far {w w' : World} {p base : Nat} {v : Value} {l : List CelD} (h : RoC w base v l) (hg : w.grownBy w' (some p)) (hp : p < base) : RoC w' base v l := by
  obtain ⟨g, cap, t, hv, hb, hR, r⟩ := h
  exact ⟨g, cap, t, hv, hb, Rw.keep hR (hg.block g (Rw.lt hR) (fun e => by injection e with e; omega)), r⟩
theorem RoC.on {w w' : World} {base : Nat} {v : Value} {l : List CelD} (h : RoC w base v l) (hb : Below w.heap.size w w') : RoC w' base v l := by
  obtain ⟨g, cap, t, hv, hg, hR, r⟩ := h
  exact ⟨g, cap, t, hv, hg, Rw.keep hR (hb.block g (Rw.lt hR)), r⟩
theorem RoC.mono {w : World} {base base' : Nat} {v : Value} {l : List CelD} (h : RoC w base v l) (hb : base' ≤ base) : RoC w base' v l := by
  obtain ⟨g, cap, t, hv, hg, r⟩ := h
  exact ⟨g, cap, t, hv, by omega, r⟩
theorem RoC.rd {w : World} {base : Nat} {v : Value} {l : List CelD} (h : RoC w base v l) : Reads w w.heap.size v (celsD l) := by
  obtain ⟨g, cap, t, rfl, hg, hR, hl, hc, hm⟩ := h
  exact ((hR.ownN (p := 0) (Nat.zero_le _) (by omega) hm).reads).retype _
theorem noCells_len : noCells.length = 24 := rfl
theorem only_two9 {a w : World} {p : Nat} (h : a.grownBy w (some p)) {b : World} (k : Below w.heap.size w b) : a.grownBy b (some p) :=
  ⟨k.os.trans h.os, k.tape.trans h.tape, k.output.trans h.output, Nat.le_trans h.size k.size, fun i hi hn => (k.block i (Nat.lt_of_lt_of_le hi h.size)).trans (h.block i hi hn)⟩
theorem only_new9 {a w : World} {p g j : Nat} (h : a.grownBy w (some p)) (hg : a.heap.size ≤ g) (u : Value) : a.grownBy (w.setCell ⟨g, j, none⟩ u) (some p) :=
  ⟨h.os, h.tape, h.output, by simpa using h.size, fun i hi hne => (Below.heap_setCell w ⟨g, j, none⟩ u i (by simp; omega)).trans (h.block i hi hne)⟩
theorem Cur.set9 {w : World} {p g j : Nat} (h : Cur w p) (hg : p < g) (u : Value) : Cur (w.setCell ⟨g, j, none⟩ u) p := h.keep (fun k hk => Below.heap_setCell w ⟨g, j, none⟩ u k (by simp; omega))
def ACels (w : World) (p : Nat) (e : Ending) (w' : World) : Prop := ∃ v l, e = .returned v ∧ RoC w' w.heap.size v l ∧ Cur w' p ∧ w.grownBy w' (some p)
set_option maxHeartbeats 2000000 in
theorem l9Draw_any (p : Nat) (w : World) (hc : Cur w p) : Calls Try.prog 52 #[.pointer (some ⟨p, 0, none⟩)] w (ACels w p) := by
  have hlt := hc.lt
  have HC := Lib.hid hc
  clear hc
  go_enter Try.func52, Try.ntmps52
  go_wp2_with fail
  refine (specCellsNew_any _).mono ?_
  rintro r w1 ⟨v1, t1, rfl, o1, b1⟩
  have R1 := Lib.hid (o1.roC noCells_len)
  have C1 := Lib.hid (HC.out.on b1)
  have G1 := Lib.hid (only_two9 (World.grownBy.refl w (some p)) b1)
  clear o1 b1 HC
  go_wp2_with fail
  refine (l1Below_any p 30 _ C1.out (by omega) (by omega)).mono ?_
  rintro r w2 ⟨j, hj, rfl, c2, g2⟩
  replace R1 := Lib.hid (R1.out.far g2 hlt)
  replace C1 := Lib.hid c2
  replace G1 := Lib.hid (only_trans G1.out g2)
  clear c2 g2
  go_wp2
  go_loopw [3, 4] (fun o i wr => ∃ (k : Nat) (l : List CelD), i = .int .i64 k ∧ k < 30 ∧ Hid (RoC wr w.heap.size o l) ∧ Hid (Cur wr p) ∧ Hid (w.grownBy wr (some p))) (fun _ i _ => (intOf i).toNat)
  case atStart => exact ⟨j, noCells, rfl, by omega, R1, C1, G1⟩
  case round =>
    clear R1 C1 G1 hj
    obtain ⟨k, l, rfl, hk30, RX, CX, GX⟩ := hrel
    have HLN : Hid (l.length = 24) := Lib.hid (by obtain ⟨g, cap, t, _, _, _, h, _⟩ := RX.out; exact h)
    obtain ⟨Ao, co, rfl, _, _⟩ := RX.out.rd.shapeCel
    rcases k with _ | k
    · go_wp2
      go_ret
      exact ⟨_, l, rfl, RX.out, CX.out, GX.out⟩
    · have i1 : (0 : Int) < (k : Int) + 1 := by omega
      have i2 : IntKind.i64.wrap ((k : Int) + 1 - 1) = (k : Int) := by rw [IntKind.wrap_i64]; omega
      have i3 : IntKind.i64.wrap (k : Int) = (k : Int) := by rw [IntKind.wrap_i64]; omega
      go_wp2_with fail
      refine (l1Once_any p 3 _ CX.out (by omega) (by omega)).mono ?_
      rintro r wu ⟨y, rfl, c2, g2⟩
      replace RX := Lib.hid (RX.out.far g2 hlt)
      replace CX := Lib.hid c2
      replace GX := Lib.hid (only_trans GX.out g2)
      clear c2 g2
      cases y
      · have hz := GX.out.size
        have LLa := Lib.hid (show Lies (wu.alloc (.cells #[.int .i64 0, .int .i64 5, .int .i64 65535] 3)) wu.heap.size (([0, 5, 65535] : List Int).map (.int .i64 ·)) from by have h := Lies.new wu (([0, 5, 65535] : List Int).map (.int .i64 ·)) 3; exact h)
        have ba := bal1 wu (.cells #[.int .i64 0, .int .i64 5, .int .i64 65535] 3)
        have LIa := Lib.hid (l1Int_any p wu.heap.size 3 ([0, 5, 65535] : List Int) (wu.alloc (.cells #[.int .i64 0, .int .i64 5, .int .i64 65535] 3)) (CX.out.alloc _) LLa.out (by simp) (by have := CX.out.lt; omega) (by decide) (by decide))
        replace RX := Lib.hid (RX.out.on ba)
        replace GX := Lib.hid (only_two9 GX.out ba)
        clear ba LLa CX
        go_wp2_with fail
        refine LIa.out.mono ?_
        rintro r wx ⟨nn, hnn, rfl, c2, g2⟩
        replace RX := Lib.hid (RX.out.far g2 hlt)
        replace GX := Lib.hid (only_trans GX.out g2)
        have CX := Lib.hid c2
        clear c2 g2 LIa hnn
        go_wp2_with fail
        refine (specTakeCell_any _ l nn _ RX.out.rd (by have := HLN.out; omega)).mono ?_
        rintro r wz ⟨v3, t3, rfl, o3, b3⟩
        have R3 := Lib.hid ((o3.roC (by rw [takeK_len]; exact HLN.out)).mono GX.out.size)
        have C3 := Lib.hid (CX.out.on b3)
        have G3 := Lib.hid (only_two9 GX.out b3)
        clear o3 b3 RX CX GX hz
        obtain ⟨ti, hti⟩ : ∃ ti, takeI l nn = ti := ⟨_, rfl⟩
        obtain ⟨tb, htb⟩ : ∃ tb, takeB l nn = tb := ⟨_, rfl⟩
        rw [hti, htb]
        clear hti htb
        go_wp2
        go_roundw
        case rel => exact ⟨k, takeK l nn, by go_num, by omega, R3, C3, G3⟩
        case measure => simp [intOf]
      · go_wp2_with fail
        refine (l1Below_any p 6 _ CX.out (by omega) (by omega)).mono ?_
        rintro r wx ⟨jj, hjj, rfl, c2, g2⟩
        replace RX := Lib.hid (RX.out.far g2 hlt)
        replace CX := Lib.hid c2
        replace GX := Lib.hid (only_trans GX.out g2)
        clear c2 g2
        go_wp2_with fail
        refine (specFreeCell_any _ l (jj : Int) _ RX.out.rd (by have := HLN.out; omega)).mono ?_
        rintro r wz ⟨v3, t3, rfl, o3, b3⟩
        have R3 := Lib.hid ((o3.roC (by rw [freeK_len]; exact HLN.out)).mono GX.out.size)
        have C3 := Lib.hid (CX.out.on b3)
        have G3 := Lib.hid (only_two9 GX.out b3)
        clear o3 b3 RX CX GX
        go_wp2
        go_roundw
        case rel => exact ⟨k, freeK l (jj : Int), by go_num, by omega, R3, C3, G3⟩
        case measure => simp [intOf]
/-- Block g holds 24 cells; l are those from the o-th on (o is 0 or 1), off their place. -/
def CutR (w : World) (g off c : Nat) (l : List CelD) : Prop := ∃ cap o t L, off = o * 3 ∧ c = cap - o ∧ RwCel t w g cap L ∧ L.length = 24 ∧ 24 ≤ cap ∧ cap ≤ maxLen ∧ o ≤ 1 ∧ l = L.drop o
def CutC (w : World) (p : Nat) (v : Value) (l : List CelD) : Prop := ∃ g off c, v = .slice (some ⟨g, off, none⟩) l.length c ∧ p ≤ g ∧ CutR w g off c l
theorem CutR.keep {w w' : World} {g off c : Nat} {l : List CelD} (h : CutR w g off c l) (hk : w'.heap[g]? = w.heap[g]?) : CutR w' g off c l := by
  obtain ⟨cap, o, t, L, h1, h2, hR, r⟩ := h
  exact ⟨cap, o, t, L, h1, h2, Rw.keep hR hk, r⟩
theorem CutR.lt {w : World} {g off c : Nat} {l : List CelD} (h : CutR w g off c l) : g < w.heap.size := by
  obtain ⟨cap, o, t, L, h1, h2, hR, r⟩ := h
  exact Rw.lt hR
theorem CutR.len {w : World} {g off c : Nat} {l : List CelD} (h : CutR w g off c l) : l.length ≤ 24 ∧ 23 ≤ l.length := by
  obtain ⟨cap, o, t, L, h1, h2, hR, h3, h4, h5, h6, rfl⟩ := h
  rw [List.length_drop]
  omega
theorem CutR.rd {w : World} {g off c : Nat} {l : List CelD} (h : CutR w g off c l) : Reads w w.heap.size (.slice (some ⟨g, off, none⟩) l.length c) (celsD l) := by
  obtain ⟨cap, o, t, L, rfl, rfl, hR, h3, h4, h5, h6, rfl⟩ := h
  have hd : celvl (L.drop o) = (celvl L).drop (o * 3) := by
    have he : celvl L = celvl (L.take o) ++ celvl (L.drop o) := by rw [← celvl_append, List.take_append_drop]
    have hl : (celvl (L.take o)).length = o * 3 := by rw [celvl_len, List.length_take]; omega
    rw [he, ← hl, List.drop_left']
    rfl
  refine .row g (o * 3) _ _ _ 3 (celvl (L.drop o)) _ (Rw.lt hR) (by rw [List.length_drop]; omega) (by omega) (cels_len _) (by rw [celvl_len, cels_len]) (fun i hi => ?_) (fun i hi hi' => ?_)
  · have hi2 : o * 3 + i < (celvl L).length := by rw [hd, List.length_drop] at hi; omega
    rw [Rw.cell hR hi2]
    simp only [hd, List.getElem_drop]
  · have h0 := hi
    simp only [celC_map, List.getElem_map]
    exact .lit _
theorem CutC.rd {w : World} {p : Nat} {v : Value} {l : List CelD} (h : CutC w p v l) : Reads w w.heap.size v (celsD l) := by
  obtain ⟨g, off, c, rfl, _, h⟩ := h
  exact h.rd
theorem CutC.far {w w' : World} {p base : Nat} {v : Value} {l : List CelD} (h : CutC w base v l) (hg : w.grownBy w' (some p)) (hp : p < base) : CutC w' base v l := by
  obtain ⟨g, off, c, hv, hb, hR⟩ := h
  exact ⟨g, off, c, hv, hb, hR.keep (hg.block g hR.lt (fun e => by injection e with e; omega))⟩
theorem CutC.on {w w' : World} {base : Nat} {v : Value} {l : List CelD} (h : CutC w base v l) (hb : Below w.heap.size w w') : CutC w' base v l := by
  obtain ⟨g, off, c, hv, hg, hR⟩ := h
  exact ⟨g, off, c, hv, hg, hR.keep (hb.block g hR.lt)⟩
theorem CutC.mono {w : World} {base base' : Nat} {v : Value} {l : List CelD} (h : CutC w base v l) (hb : base' ≤ base) : CutC w base' v l := by
  obtain ⟨g, off, c, hv, hg, r⟩ := h
  exact ⟨g, off, c, hv, by omega, r⟩
theorem CutC.len {w : World} {p : Nat} {v : Value} {l : List CelD} (h : CutC w p v l) : l.length ≤ 24 ∧ 23 ≤ l.length := by
  obtain ⟨g, off, c, hv, hg, r⟩ := h
  exact r.len
theorem RwCel.cut0 {t : TypeId} {w : World} {g cap p : Nat} {l : List CelD} (h : RwCel t w g cap l) (hp : p ≤ g) (hl : l.length = 24) (hc : 24 ≤ cap) (hm : cap ≤ maxLen) : CutC w p (.slice (some ⟨g, 0, none⟩) l.length cap) l :=
  ⟨g, 0, cap, rfl, hp, cap, 0, t, l, by simp, by simp, h, hl, hc, hm, Nat.zero_le _, by simp⟩
theorem CutR.setUsed {w : World} {g off c : Nat} {l : List CelD} (h : CutR w g off c l) {i : Nat} (hi : i < l.length) : CutR (w.setCell ⟨g, off + i * 3 + 1, none⟩ (.bool true)) g off c (l.set i ⟨(l[i]).a, true, (l[i]).c⟩) := by
  obtain ⟨cap, o, t, L, rfl, rfl, hR, h3, h4, h5, h6, rfl⟩ := h
  rw [List.length_drop] at hi
  have h7 := RwCel.setB hR (i := o + i) (by omega) true
  refine ⟨cap, o, t, L.set (o + i) ⟨(L[o + i]).a, true, (L[o + i]).c⟩, rfl, rfl, ?_, by rw [List.length_set]; exact h3, h4, h5, h6, ?_⟩
  · rw [show o * 3 + i * 3 + 1 = (o + i) * 3 + 1 by omega]
    exact h7
  · rw [List.getElem_drop, List.drop_set, if_neg (by omega), Nat.add_sub_cancel_left]
theorem CutR.cell {w : World} {g off c : Nat} {l : List CelD} (h : CutR w g off c l) {i : Nat} (hi : i < l.length) : (∃ y, w.cell? ⟨g, off + i * 3 + 1, none⟩ = some y) ∧ w.frozen? ⟨g, off + i * 3 + 1, none⟩ = false := by
  obtain ⟨cap, o, t, L, rfl, rfl, hR, h3, h4, h5, h6, rfl⟩ := h
  rw [List.length_drop] at hi
  obtain ⟨y, hy⟩ := RwCel.cs hR (i := o + i) (by omega) 1 (by omega)
  rw [show o * 3 + i * 3 + 1 = (o + i) * 3 + 1 by omega]
  exact ⟨⟨y, hy⟩, Rw.frozen hR _⟩
def AnyCel (w : World) (p : Nat) (e : Ending) (w' : World) : Prop := ∃ v l, e = .returned v ∧ CutC w' w.heap.size v l ∧ Cur w' p ∧ w.grownBy w' (some p)
set_option maxHeartbeats 4000000 in
theorem l9Any_any (p : Nat) (w : World) (hc : Cur w p) : Calls Try.prog 36 #[.pointer (some ⟨p, 0, none⟩)] w (AnyCel w p) := by
  have hlt := hc.lt
  have HC := Lib.hid (l9Draw_any p w hc)
  clear hc
  go_enter Try.func36, Try.ntmps36
  go_wp2_with fail
  refine HC.out.mono ?_
  rintro r w1 ⟨v1, l, rfl, o1, c1, g1⟩
  clear HC
  go_wp2_with fail
  refine (l1Below_any p 10 _ c1 (by omega) (by omega)).mono ?_
  rintro r w2 ⟨j, hj, rfl, c2, g2⟩
  obtain ⟨g, cap, t, rfl, hgb, hR, hl, hcp, hm⟩ := o1.far g2 hlt
  have HR := Lib.hid hR
  have HLN := Lib.hid hl
  have HCP := Lib.hid (And.intro hcp hm)
  have CX := Lib.hid c2
  have GX := Lib.hid (only_trans g1 g2)
  clear o1 c1 c2 g1 g2 hR hl hcp hm
  obtain h | h | h | h | h : j = 0 ∨ j = 1 ∨ j = 2 ∨ j = 3 ∨ 4 ≤ j := by omega
  · have k0 : ((j : Int) == 0) = true := by rw [h]; rfl
    have i1 : 1 ≤ l.length := by have := HLN.out; omega
    have i2 : l.length ≤ cap := by have := HLN.out; have := HCP.out; omega
    have i3 : (1 : Int) ≤ (l.length : Int) := by omega
    have i4 : (l.length : Int) ≤ (cap : Int) := by omega
    have i5 : (1 : Int) ≤ (cap : Int) := by omega
    have i6 : 1 ≤ cap := by omega
    have i7 : ¬ cap = 1 := by have := HLN.out; have := HCP.out; omega
    have FIN : Hid (CutC w2 w.heap.size (.slice (some ⟨g, 3, none⟩) (l.length - 1) (cap - 1)) (l.drop 1)) := Lib.hid ⟨g, 3, cap - 1, by rw [List.length_drop], hgb, cap, 1, t, l, rfl, rfl, HR.out, HLN.out, HCP.out.1, HCP.out.2, Nat.le_refl _, rfl⟩
    clear h hj
    go_wp2
    go_ret
    exact ⟨_, _, rfl, FIN.out, CX.out, GX.out⟩
  · have k0 : ((j : Int) == 0) = false := by rw [h]; rfl
    have k1 : ((j : Int) == 1) = true := by rw [h]; rfl
    clear h hj
    have hz := GX.out.size
    go_wp2_with fail
    refine (l1Below_any p (l.length : Int) _ CX.out (by have := HLN.out; omega) (by have := HLN.out; omega)).mono ?_
    rintro r w3 ⟨ji, hji, rfl, c3, g3⟩
    replace HR := Lib.hid (Rw.keep HR.out (g3.block g (Rw.lt HR.out) (fun e => by injection e with e; omega)))
    replace CX := Lib.hid c3
    replace GX := Lib.hid (only_trans GX.out g3)
    clear c3 g3
    have LLa := Lib.hid (show Lies (w3.alloc (.cells #[.int .i64 (-1), .int .i64 999, .int .i64 1000] 3)) w3.heap.size (([-1, 999, 1000] : List Int).map (.int .i64 ·)) from by have h := Lies.new w3 (([-1, 999, 1000] : List Int).map (.int .i64 ·)) 3; exact h)
    have ba := bal1 w3 (.cells #[.int .i64 (-1), .int .i64 999, .int .i64 1000] 3)
    have LIa := Lib.hid (l1Int_any p w3.heap.size 3 ([-1, 999, 1000] : List Int) (w3.alloc (.cells #[.int .i64 (-1), .int .i64 999, .int .i64 1000] 3)) (CX.out.alloc _) LLa.out (by simp) (by have := CX.out.lt; omega) (by decide) (by decide))
    replace HR := Lib.hid (Rw.keep HR.out (ba.block g (Rw.lt HR.out)))
    replace GX := Lib.hid (only_two9 GX.out ba)
    clear ba LLa CX
    go_wp2_with fail
    refine LIa.out.mono ?_
    rintro r w4 ⟨x, hx, rfl, c4, g4⟩
    replace HR := Lib.hid (Rw.keep HR.out (g4.block g (Rw.lt HR.out) (fun e => by injection e with e; omega)))
    have CX := Lib.hid c4
    replace GX := Lib.hid (only_trans GX.out g4)
    clear c4 g4 LIa hx
    have hjl : ji < l.length := by omega
    have i1 : (ji : Int) < (l.length : Int) := by omega
    have i2 : (0 : Int) ≤ (ji : Int) := by omega
    obtain ⟨y0, d0⟩ := RwCel.cs HR.out hjl 0 (by omega)
    rw [Nat.add_zero] at d0
    have f0 := Rw.frozen HR.out (ji * 3)
    have R5 := Lib.hid (RwCel.setA HR.out hjl x)
    have C5 := Lib.hid (CX.out.set9 (g := g) (j := ji * 3) (by omega) (.int .i64 x))
    have G5 := Lib.hid (only_new9 (g := g) (j := ji * 3) GX.out hgb (.int .i64 x))
    go_wp2
    go_ret
    have h := R5.out.cut0 hgb (by rw [List.length_set]; exact HLN.out) HCP.out.1 HCP.out.2
    rw [List.length_set] at h
    exact ⟨_, _, rfl, h, C5.out, G5.out⟩
  · have k0 : ((j : Int) == 0) = false := by rw [h]; rfl
    have k1 : ((j : Int) == 1) = false := by rw [h]; rfl
    have k2 : ((j : Int) == 2) = true := by rw [h]; rfl
    clear h hj
    have hz := GX.out.size
    go_wp2_with fail
    refine (l1Below_any p (l.length : Int) _ CX.out (by have := HLN.out; omega) (by have := HLN.out; omega)).mono ?_
    rintro r w3 ⟨ji, hji, rfl, c3, g3⟩
    replace HR := Lib.hid (Rw.keep HR.out (g3.block g (Rw.lt HR.out) (fun e => by injection e with e; omega)))
    replace CX := Lib.hid c3
    replace GX := Lib.hid (only_trans GX.out g3)
    clear c3 g3
    have LLa := Lib.hid (show Lies (w3.alloc (.cells #[.int .i64 (-1), .int .i64 5, .int .i64 65536] 3)) w3.heap.size (([-1, 5, 65536] : List Int).map (.int .i64 ·)) from by have h := Lies.new w3 (([-1, 5, 65536] : List Int).map (.int .i64 ·)) 3; exact h)
    have ba := bal1 w3 (.cells #[.int .i64 (-1), .int .i64 5, .int .i64 65536] 3)
    have LIa := Lib.hid (l1Int_any p w3.heap.size 3 ([-1, 5, 65536] : List Int) (w3.alloc (.cells #[.int .i64 (-1), .int .i64 5, .int .i64 65536] 3)) (CX.out.alloc _) LLa.out (by simp) (by have := CX.out.lt; omega) (by decide) (by decide))
    replace HR := Lib.hid (Rw.keep HR.out (ba.block g (Rw.lt HR.out)))
    replace GX := Lib.hid (only_two9 GX.out ba)
    clear ba LLa CX
    go_wp2_with fail
    refine LIa.out.mono ?_
    rintro r w4 ⟨x, hx, rfl, c4, g4⟩
    replace HR := Lib.hid (Rw.keep HR.out (g4.block g (Rw.lt HR.out) (fun e => by injection e with e; omega)))
    have CX := Lib.hid c4
    replace GX := Lib.hid (only_trans GX.out g4)
    clear c4 g4 LIa hx
    have hjl : ji < l.length := by omega
    have i1 : (ji : Int) < (l.length : Int) := by omega
    have i2 : (0 : Int) ≤ (ji : Int) := by omega
    obtain ⟨y0, d0⟩ := RwCel.cs HR.out hjl 2 (by omega)
    have f0 := Rw.frozen HR.out (ji * 3 + 2)
    have R5 := Lib.hid (RwCel.setC HR.out hjl x)
    have C5 := Lib.hid (CX.out.set9 (g := g) (j := ji * 3 + 2) (by omega) (.int .i64 x))
    have G5 := Lib.hid (only_new9 (g := g) (j := ji * 3 + 2) GX.out hgb (.int .i64 x))
    go_wp2
    go_ret
    have h := R5.out.cut0 hgb (by rw [List.length_set]; exact HLN.out) HCP.out.1 HCP.out.2
    rw [List.length_set] at h
    exact ⟨_, _, rfl, h, C5.out, G5.out⟩
  · have k0 : ((j : Int) == 0) = false := by rw [h]; rfl
    have k1 : ((j : Int) == 1) = false := by rw [h]; rfl
    have k2 : ((j : Int) == 2) = false := by rw [h]; rfl
    have k3 : ((j : Int) == 3) = true := by rw [h]; rfl
    clear h hj
    have hz := GX.out.size
    have hjl : 0 < l.length := by have := HLN.out; omega
    have i1 : (0 : Int) < (l.length : Int) := by omega
    obtain ⟨y0, d0⟩ := RwCel.cs HR.out hjl 0 (by omega)
    have f0 := Rw.frozen HR.out (0 * 3)
    have r5 := RwCel.setA HR.out hjl 999
    rw [Nat.zero_mul] at d0 f0 r5
    rw [Nat.zero_add] at d0
    have R5 := Lib.hid r5
    have C5 := Lib.hid (CX.out.set9 (g := g) (j := 0) (by omega) (.int .i64 999))
    have G5 := Lib.hid (only_new9 (g := g) (j := 0) GX.out hgb (.int .i64 999))
    clear r5
    go_wp2
    go_ret
    have h := R5.out.cut0 hgb (by rw [List.length_set]; exact HLN.out) HCP.out.1 HCP.out.2
    rw [List.length_set] at h
    exact ⟨_, _, rfl, h, C5.out, G5.out⟩
  · have k0 : ((j : Int) == 0) = false := by simpa using (show ¬ (j : Int) = 0 by omega)
    have k1 : ((j : Int) == 1) = false := by simpa using (show ¬ (j : Int) = 1 by omega)
    have k2 : ((j : Int) == 2) = false := by simpa using (show ¬ (j : Int) = 2 by omega)
    have k3 : ((j : Int) == 3) = false := by simpa using (show ¬ (j : Int) = 3 by omega)
    clear h hj
    go_wp2
    go_ret
    exact ⟨_, l, rfl, HR.out.cut0 hgb HLN.out HCP.out.1 HCP.out.2, CX.out, GX.out⟩
def DCels (w : World) (e : Ending) (w' : World) : Prop := ∃ v l, e = .returned v ∧ CutC w' w.heap.size v l ∧ Below w.heap.size w w'
def DCelsI (w : World) (e : Ending) (w' : World) : Prop := ∃ v l, ∃ a : Int, e = .returned (.tuple #[v, .int .i64 a]) ∧ CutC w' w.heap.size v l ∧ Below w.heap.size w w'
def DCelsII (w : World) (e : Ending) (w' : World) : Prop := ∃ v l, ∃ a b : Int, e = .returned (.tuple #[v, .int .i64 a, .int .i64 b]) ∧ CutC w' w.heap.size v l ∧ Below w.heap.size w w'
theorem drawCellsOk_any (A : Option Addr) (cap : Nat) (l : List UInt8) (w : World) (hr : Rd w w.heap.size A l) (hn : l.length ≤ 1048576) : Calls Try.prog 20 #[.slice A l.length cap] w (DCels w) := by
  go_enter Try.func20, Try.ntmps20
  go_wp2_with fail
  refine (l1New_any _ _ l _ hr hn).mono ?_
  rintro r w1 ⟨p, rfl, c1, hp, b1⟩
  clear hr
  go_wp2_with fail
  refine (l9Any_any p _ c1).mono ?_
  rintro r w2 ⟨v, ll, rfl, o2, c2, g2⟩
  have hlt := c1.lt
  obtain ⟨g, off, cc, rfl, hgb, hR⟩ := o2
  have hle1 := hR.len.1
  have hle2 := hR.len.2
  have HR := Lib.hid hR
  have CX := Lib.hid c2
  have BX := Lib.hid (below_of_only b1 g2 hp)
  have hz := b1.size
  clear hR c1 c2 g2 b1
  go_wp2
  go_ret
  exact ⟨_, ll, rfl, ⟨g, off, cc, rfl, by omega, HR.out⟩, BX.out⟩
theorem drawUsedCells_any (A : Option Addr) (cap : Nat) (l : List UInt8) (w : World) (hr : Rd w w.heap.size A l) (hn : l.length ≤ 1048576) : Calls Try.prog 24 #[.slice A l.length cap] w (DCels w) := by
  go_enter Try.func24, Try.ntmps24
  go_wp2_with fail
  refine (l1New_any _ _ l _ hr hn).mono ?_
  rintro r w1 ⟨p, rfl, c1, hp, b1⟩
  clear hr
  go_wp2_with fail
  refine (l9Any_any p _ c1).mono ?_
  rintro r w2 ⟨v, ll, rfl, o2, c2, g2⟩
  have hlt := c1.lt
  obtain ⟨g, off, cc, rfl, hgb, hR⟩ := o2
  have hle1 := hR.len.1
  have hle2 := hR.len.2
  have HR := Lib.hid hR
  have CX := Lib.hid c2
  have BX := Lib.hid (below_of_only b1 g2 hp)
  have hz := b1.size
  clear hR c1 c2 g2 b1
  go_wp2
  go_ret
  exact ⟨_, ll, rfl, ⟨g, off, cc, rfl, by omega, HR.out⟩, BX.out⟩
set_option maxHeartbeats 2000000 in
theorem drawFreeCell_any (A : Option Addr) (cap : Nat) (l : List UInt8) (w : World) (hr : Rd w w.heap.size A l) (hn : l.length ≤ 1048576) : Calls Try.prog 21 #[.slice A l.length cap] w (DCelsI w) := by
  go_enter Try.func21, Try.ntmps21
  go_wp2_with fail
  refine (l1New_any _ _ l _ hr hn).mono ?_
  rintro r w1 ⟨p, rfl, c1, hp, b1⟩
  clear hr
  go_wp2_with fail
  refine (l9Any_any p _ c1).mono ?_
  rintro r w2 ⟨v, ll, rfl, o2, c2, g2⟩
  have hlt := c1.lt
  obtain ⟨g, off, cc, rfl, hgb, hR⟩ := o2
  have hle1 := hR.len.1
  have hle2 := hR.len.2
  have HR := Lib.hid hR
  have CX := Lib.hid c2
  have BX := Lib.hid (below_of_only b1 g2 hp)
  have hz := b1.size
  clear hR c1 c2 g2 b1
  have LLb := Lib.hid (show Lies (w2.alloc (.cells #[.int .i64 0, .int .i64 1, .int .i64 2, .int .i64 5, .int .i64 (-1), .int .i64 24] 3)) w2.heap.size (([0, 1, 2, 5, -1, 24] : List Int).map (.int .i64 ·)) from by have h := Lies.new w2 (([0, 1, 2, 5, -1, 24] : List Int).map (.int .i64 ·)) 3; exact h)
  have ba := bal1 w2 (.cells #[.int .i64 0, .int .i64 1, .int .i64 2, .int .i64 5, .int .i64 (-1), .int .i64 24] 3)
  have LIb := Lib.hid (l1Int_any p w2.heap.size 6 ([0, 1, 2, 5, -1, 24] : List Int) (w2.alloc (.cells #[.int .i64 0, .int .i64 1, .int .i64 2, .int .i64 5, .int .i64 (-1), .int .i64 24] 3)) (CX.out.alloc _) LLb.out (by simp) (by have := CX.out.lt; omega) (by decide) (by decide))
  replace HR := Lib.hid (HR.out.keep (ba.block g HR.out.lt))
  replace BX := Lib.hid (bstep BX.out ba)
  clear ba LLb CX
  go_wp2_with fail
  refine LIb.out.mono ?_
  rintro r w9 ⟨x, hx, rfl, c9, g9⟩
  replace HR := Lib.hid (HR.out.keep (g9.block g HR.out.lt (fun e => by injection e with e; omega)))
  have CX := Lib.hid c9
  replace BX := Lib.hid (below_of_only BX.out g9 hp)
  clear c9 g9 LIb hx
  go_wp2
  refine bodyPost_ret (v := .tuple #[.slice (some ⟨g, off, none⟩) ll.length cc, .int .i64 x]) (by simp [results, Try.results21, go_sem]) rfl ?_
  exact ⟨_, ll, x, rfl, ⟨g, off, cc, by simp, by omega, HR.out⟩, BX.out⟩
set_option maxHeartbeats 2000000 in
theorem drawTakeCell_any (A : Option Addr) (cap : Nat) (l : List UInt8) (w : World) (hr : Rd w w.heap.size A l) (hn : l.length ≤ 1048576) : Calls Try.prog 12 #[.slice A l.length cap] w (DCelsI w) := by
  go_enter Try.func12, Try.ntmps12
  go_wp2_with fail
  refine (l1New_any _ _ l _ hr hn).mono ?_
  rintro r w1 ⟨p, rfl, c1, hp, b1⟩
  clear hr
  go_wp2_with fail
  refine (l9Any_any p _ c1).mono ?_
  rintro r w2 ⟨v, ll, rfl, o2, c2, g2⟩
  have hlt := c1.lt
  obtain ⟨g, off, cc, rfl, hgb, hR⟩ := o2
  have hle1 := hR.len.1
  have hle2 := hR.len.2
  have HR := Lib.hid hR
  have CX := Lib.hid c2
  have BX := Lib.hid (below_of_only b1 g2 hp)
  have hz := b1.size
  clear hR c1 c2 g2 b1
  have HLE := Lib.hid HR.out.len
  have hgp : p < g := by have := hgb; omega
  go_wp2_with fail
  refine (l1Once_any p 6 _ CX.out (by omega) (by omega)).mono ?_
  rintro r w3 ⟨y, rfl, c3, g3⟩
  replace HR := Lib.hid (HR.out.keep (g3.block g HR.out.lt (fun e => by injection e with e; omega)))
  replace CX := Lib.hid c3
  replace BX := Lib.hid (below_of_only BX.out g3 hp)
  clear c3 g3
  cases y
  · have LLb := Lib.hid (show Lies (w3.alloc (.cells #[.int .i64 0, .int .i64 7, .int .i64 65535, .int .i64 65536, .int .i64 (-1)] 3)) w3.heap.size (([0, 7, 65535, 65536, -1] : List Int).map (.int .i64 ·)) from by have h := Lies.new w3 (([0, 7, 65535, 65536, -1] : List Int).map (.int .i64 ·)) 3; exact h)
    have ba := bal1 w3 (.cells #[.int .i64 0, .int .i64 7, .int .i64 65535, .int .i64 65536, .int .i64 (-1)] 3)
    have LIb := Lib.hid (l1Int_any p w3.heap.size 5 ([0, 7, 65535, 65536, -1] : List Int) (w3.alloc (.cells #[.int .i64 0, .int .i64 7, .int .i64 65535, .int .i64 65536, .int .i64 (-1)] 3)) (CX.out.alloc _) LLb.out (by simp) (by have := CX.out.lt; omega) (by decide) (by decide))
    replace HR := Lib.hid (HR.out.keep (ba.block g HR.out.lt))
    replace BX := Lib.hid (bstep BX.out ba)
    clear ba LLb CX
    go_wp2_with fail
    refine LIb.out.mono ?_
    rintro r w9 ⟨x, hx, rfl, c9, g9⟩
    replace HR := Lib.hid (HR.out.keep (g9.block g HR.out.lt (fun e => by injection e with e; omega)))
    have CX := Lib.hid c9
    replace BX := Lib.hid (below_of_only BX.out g9 hp)
    clear c9 g9 LIb hx
    go_wp2
    refine bodyPost_ret (v := .tuple #[.slice (some ⟨g, off, none⟩) ll.length cc, .int .i64 x]) (by simp [results, Try.results12, go_sem]) rfl ?_
    exact ⟨_, ll, x, rfl, ⟨g, off, cc, by simp, by omega, HR.out⟩, BX.out⟩
  · go_wp2
    go_loopw [6] (fun i wr => ∃ (k : Nat) (m : List CelD), i = .int .i64 k ∧ k ≤ ll.length ∧ Hid (m.length = ll.length) ∧ Hid (CutR wr g off cc m) ∧ Hid (Cur wr p) ∧ Hid (Below w.heap.size w wr)) (fun i _ => ll.length - (intOf i).toNat)
    case atStart => exact ⟨0, ll, rfl, Nat.zero_le _, Lib.hid rfl, HR, CX, BX⟩
    case round =>
      clear HR CX BX
      obtain ⟨k, m, rfl, hk, HM, HR, CX, BX⟩ := hrel
      by_cases hkl : k < ll.length
      · have hkm : k < m.length := by rw [HM.out]; exact hkl
        obtain ⟨⟨y0, d0⟩, f0⟩ := HR.out.cell hkm
        have i1 : (k : Int) < (ll.length : Int) := by omega
        have i2 : (0 : Int) ≤ (k : Int) := by omega
        have R5 := Lib.hid (HR.out.setUsed hkm)
        have C5 := Lib.hid (CX.out.set9 (g := g) (j := off + k * 3 + 1) hgp (.bool true))
        have B5 := Lib.hid (BX.out.setCell (p := ⟨g, off + k * 3 + 1, none⟩) (by show w.heap.size ≤ g; omega) (.bool true))
        have hlm : Hid ((m.set k ⟨(m[k]).a, true, (m[k]).c⟩).length = ll.length) := Lib.hid (by rw [List.length_set]; exact HM.out)
        clear HR CX BX
        go_wp2
        go_roundw
        case rel => exact ⟨k + 1, _, by go_num, by omega, hlm, R5, C5, B5⟩
        case measure => simp [intOf]; omega
      · have LLb := Lib.hid (show Lies (wr.alloc (.cells #[.int .i64 0, .int .i64 7, .int .i64 65535, .int .i64 65536, .int .i64 (-1)] 3)) wr.heap.size (([0, 7, 65535, 65536, -1] : List Int).map (.int .i64 ·)) from by have h := Lies.new wr (([0, 7, 65535, 65536, -1] : List Int).map (.int .i64 ·)) 3; exact h)
        have ba := bal1 wr (.cells #[.int .i64 0, .int .i64 7, .int .i64 65535, .int .i64 65536, .int .i64 (-1)] 3)
        have LIb := Lib.hid (l1Int_any p wr.heap.size 5 ([0, 7, 65535, 65536, -1] : List Int) (wr.alloc (.cells #[.int .i64 0, .int .i64 7, .int .i64 65535, .int .i64 65536, .int .i64 (-1)] 3)) (CX.out.alloc _) LLb.out (by simp) (by have := CX.out.lt; omega) (by decide) (by decide))
        replace HR := Lib.hid (HR.out.keep (ba.block g HR.out.lt))
        replace BX := Lib.hid (bstep BX.out ba)
        clear ba LLb CX
        go_wp2_with fail
        refine LIb.out.mono ?_
        rintro r w9 ⟨x, hx, rfl, c9, g9⟩
        replace HR := Lib.hid (HR.out.keep (g9.block g HR.out.lt (fun e => by injection e with e; omega)))
        have CX := Lib.hid c9
        replace BX := Lib.hid (below_of_only BX.out g9 hp)
        clear c9 g9 LIb hx
        go_wp2
        refine bodyPost_ret (v := .tuple #[.slice (some ⟨g, off, none⟩) ll.length cc, .int .i64 x]) (by simp [results, Try.results12, go_sem]) rfl ?_
        exact ⟨_, m, x, rfl, ⟨g, off, cc, by rw [HM.out], by omega, HR.out⟩, BX.out⟩
set_option maxHeartbeats 2000000 in
theorem drawCellAt_any (A : Option Addr) (cap : Nat) (l : List UInt8) (w : World) (hr : Rd w w.heap.size A l) (hn : l.length ≤ 1048576) : Calls Try.prog 22 #[.slice A l.length cap] w (DCelsII w) := by
  go_enter Try.func22, Try.ntmps22
  go_wp2_with fail
  refine (l1New_any _ _ l _ hr hn).mono ?_
  rintro r w1 ⟨p, rfl, c1, hp, b1⟩
  clear hr
  go_wp2_with fail
  refine (l9Any_any p _ c1).mono ?_
  rintro r w2 ⟨v, ll, rfl, o2, c2, g2⟩
  have hlt := c1.lt
  obtain ⟨g, off, cc, rfl, hgb, hR⟩ := o2
  have hle1 := hR.len.1
  have hle2 := hR.len.2
  have HR := Lib.hid hR
  have CX := Lib.hid c2
  have BX := Lib.hid (below_of_only b1 g2 hp)
  have hz := b1.size
  clear hR c1 c2 g2 b1
  have LLb := Lib.hid (show Lies (w2.alloc (.cells #[.int .i64 0, .int .i64 1, .int .i64 2, .int .i64 (-1), .int .i64 24] 3)) w2.heap.size (([0, 1, 2, -1, 24] : List Int).map (.int .i64 ·)) from by have h := Lies.new w2 (([0, 1, 2, -1, 24] : List Int).map (.int .i64 ·)) 3; exact h)
  have ba := bal1 w2 (.cells #[.int .i64 0, .int .i64 1, .int .i64 2, .int .i64 (-1), .int .i64 24] 3)
  have LIb := Lib.hid (l1Int_any p w2.heap.size 5 ([0, 1, 2, -1, 24] : List Int) (w2.alloc (.cells #[.int .i64 0, .int .i64 1, .int .i64 2, .int .i64 (-1), .int .i64 24] 3)) (CX.out.alloc _) LLb.out (by simp) (by have := CX.out.lt; omega) (by decide) (by decide))
  replace HR := Lib.hid (HR.out.keep (ba.block g HR.out.lt))
  replace BX := Lib.hid (bstep BX.out ba)
  clear ba LLb CX
  go_wp2_with fail
  refine LIb.out.mono ?_
  rintro r w9 ⟨x, hx, rfl, c9, g9⟩
  replace HR := Lib.hid (HR.out.keep (g9.block g HR.out.lt (fun e => by injection e with e; omega)))
  have CX := Lib.hid c9
  replace BX := Lib.hid (below_of_only BX.out g9 hp)
  clear c9 g9 LIb hx
  have HIN : Hid (∀ (i : Int) (w : World), Calls Try.prog 48 #[.int .i64 i, .int .i64 0, .int .i64 ((ll.length : Int) - 1)] w (SaysB w (hasC ll i))) := Lib.hid (fun i w => l1InC_any i 0 ((ll.length : Int) - 1) w)
  cases hh : hasC ll x
  · have HH := Lib.hid hh
    clear hh
    go_wp2_with fail
    refine (HIN.out x _).mono ?_
    rintro e wq ⟨rfl, rfl⟩
    rw [HH.out]
    go_wp2_with fail
    refine (l1Below_any p 3 _ CX.out (by omega) (by omega)).mono ?_
    rintro r w8 ⟨j8, hj8, rfl, c8, g8⟩
    replace HR := Lib.hid (HR.out.keep (g8.block g HR.out.lt (fun e => by injection e with e; omega)))
    replace BX := Lib.hid (below_of_only BX.out g8 hp)
    clear c8 g8
    go_wp2
    refine bodyPost_ret (v := .tuple #[.slice (some ⟨g, off, none⟩) ll.length cc, .int .i64 x, .int .i64 (j8 : Int)]) (by simp [results, Try.results22, go_sem]) rfl ?_
    exact ⟨_, ll, _, _, rfl, ⟨g, off, cc, rfl, by omega, HR.out⟩, BX.out⟩
  · have HH := Lib.hid hh
    obtain ⟨k, rfl, hk⟩ := hasC_yes hh
    have i1 : (k : Int) < (ll.length : Int) := by omega
    have i2 : (0 : Int) ≤ (k : Int) := by omega
    clear hh
    go_wp2_with fail
    refine (HIN.out _ _).mono ?_
    rintro e wq ⟨rfl, rfl⟩
    rw [HH.out]
    go_wp2_with fail
    refine (l1Once_any p 2 _ CX.out (by omega) (by omega)).mono ?_
    rintro r w3 ⟨y, rfl, c3, g3⟩
    replace HR := Lib.hid (HR.out.keep (g3.block g HR.out.lt (fun e => by injection e with e; omega)))
    replace CX := Lib.hid c3
    replace BX := Lib.hid (below_of_only BX.out g3 hp)
    clear c3 g3
    cases y
    · have i3 : True := trivial
      clear i3
      go_wp2_with fail
      refine (l1Below_any p 3 _ CX.out (by omega) (by omega)).mono ?_
      rintro r w8 ⟨j8, hj8, rfl, c8, g8⟩
      replace HR := Lib.hid (HR.out.keep (g8.block g HR.out.lt (fun e => by injection e with e; omega)))
      replace BX := Lib.hid (below_of_only BX.out g8 hp)
      clear c8 g8
      go_wp2
      refine bodyPost_ret (v := .tuple #[.slice (some ⟨g, off, none⟩) ll.length cc, .int .i64 (k : Int), .int .i64 (j8 : Int)]) (by simp [results, Try.results22, go_sem]) rfl ?_
      exact ⟨_, ll, _, _, rfl, ⟨g, off, cc, rfl, by omega, HR.out⟩, BX.out⟩
    · obtain ⟨b, o, hA, hbb, hc⟩ := HR.out.rd.cels hk
      injection hA with hA
      injection hA with h2 h3
      subst h2
      subst h3
      obtain ⟨c0, c1, c2⟩ := hc k hk
      have HRd := Lib.hid (fun n => HR.out.keep (w' := w3.drewN n) rfl)
      have HBd := Lib.hid (fun n => (show Below w.heap.size w (w3.drewN n) from ⟨BX.out.os, BX.out.tape, BX.out.output, BX.out.size, BX.out.block⟩))
      clear hc
      go_wp2
      go_quiet (fail)
      go_wp2
      refine bodyPost_ret (v := .tuple #[.slice (some ⟨g, off, none⟩) ll.length cc, .int .i64 (k : Int), .int .i64 (ll[k]).a]) (by simp [results, Try.results22, go_sem]) rfl ?_
      exact ⟨_, ll, _, _, rfl, ⟨g, off, cc, rfl, by omega, HRd.out _⟩, HBd.out _⟩
end Go.Proofs.Ytikopfekpnfkbaa
