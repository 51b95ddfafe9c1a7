/- Contracts for drawn versions: spec.l7Draw (a valid list) and spec.DrawAges, in memory of their own. Conditions: the code has at most 2^20 bytes. -/
import Derived.Test.YtjnecehogebjkaaAgeNew
import Derived.Test.YtjnecehogebjkaaDrawB
namespace Go.Proofs.Ytjnecehogebjkaa
open Go.RowKit
set_option maxRecDepth 100000
set_option linter.unusedSimpArgs false
set_option linter.unusedVariables false

/-- A valid list of versions with small Ids. -/
def GoodG (l : List AgeD) : Prop := agesOkB l = true ∧ ∀ x ∈ l, x.a ≤ 8
theorem GoodG.nil : GoodG [] := ⟨by rfl, fun x hx => by simp at hx⟩
theorem insG_mem {l : List AgeD} {x y : AgeD} : y ∈ insG l x ↔ y = x ∨ y ∈ l := by
  unfold insG
  rw [List.mem_append, List.mem_cons]
  constructor
  · rintro (h | h | h)
    · exact .inr (List.mem_of_mem_take h)
    · exact .inl h
    · exact .inr (List.mem_of_mem_drop h)
  · rintro (h | h)
    · exact .inr (.inl h)
    · have h2 : y ∈ l.take (plG l x.a) ++ l.drop (plG l x.a) := by rw [List.take_append_drop]; exact h
      rcases List.mem_append.1 h2 with h3 | h3
      · exact .inl h3
      · exact .inr (.inr h3)
theorem GoodG.new {l : List AgeD} {d f : Int} (h : GoodG l) (hd : d ≤ 8) : GoodG (newK l d f) := by
  unfold newK
  split
  · next ho =>
    refine ⟨?_, fun x hx => ?_⟩
    · simp only [newOk, Bool.and_eq_true] at ho
      exact ho.2
    · rcases insG_mem.1 hx with rfl | hx
      · exact hd
      · exact h.2 x hx
  · exact h
theorem RowG.farP {w w' : World} {p base : Nat} {v : Value} {l : List AgeD} (h : RowG w base v l) (hg : w.grownBy w' (some p)) (hp : p < base) : RowG w' base v l :=
  h.keep (fun g hg' => hg.block g (h.lt g hg').1 (fun e => by injection e with e; have := (h.lt g hg').2; omega))
theorem grown_onG {w a b : World} {row : Option Nat} (h : w.grownBy a row) (hb : Below w.heap.size a b) : w.grownBy b row :=
  ⟨hb.os.trans h.os, hb.tape.trans h.tape, hb.output.trans h.output, Nat.le_trans h.size hb.size, fun i hi hne => (hb.block i hi).trans (h.block i hi hne)⟩
def AAges (w : World) (p : Nat) (e : Ending) (w' : World) : Prop := ∃ v l, e = .returned v ∧ RowG w' w.heap.size v l ∧ GoodG l ∧ l.length ≤ 7 ∧ Cur w' p ∧ w.grownBy w' (some p)
set_option maxHeartbeats 2000000 in
theorem l7Draw_any (p : Nat) (w : World) (hc : Cur w p) : Calls Try.prog 38 #[.pointer (some ⟨p, 0, none⟩)] w (AAges w p) := by
  have hlt := hc.lt
  have C0 := Lib.hid (hc.on (bal1 w (.cells #[] 39)))
  have G0 := Lib.hid (only_start w (.cells #[] 39) (some p))
  have R0 := Lib.hid (RowG.lit w)
  clear hc
  go_enter Try.func38, Try.ntmps38
  go_wp2_with fail
  refine (l1Below_any p 8 _ C0.out (by omega) (by omega)).mono ?_
  rintro r w1 ⟨j, hj, rfl, c1, g1⟩
  have R1 := Lib.hid (R0.out.farP g1 hlt)
  have C1 := Lib.hid c1
  have G1 := Lib.hid (only_trans G0.out g1)
  clear c1 g1 R0 C0 G0
  go_wp2
  go_loopw [3, 4, 5] (fun o i _ wr => ∃ (k : Nat) (l : List AgeD), i = .int .i64 k ∧ Hid (l.length + k ≤ 7) ∧ Hid (GoodG l) ∧ Hid (RowG wr w.heap.size o l) ∧ Hid (Cur wr p) ∧ Hid (w.grownBy wr (some p))) (fun _ i _ _ => (intOf i).toNat)
  case atStart => exact ⟨j, [], rfl, Lib.hid (by simp; omega), Lib.hid GoodG.nil, R1, C1, G1⟩
  case round =>
    clear R1 C1 G1 hj
    obtain ⟨k, l, rfl, HL, HG, RX, CX, GX⟩ := hrel
    obtain ⟨Ao, co, rfl, _, _⟩ := RX.out.shape
    rcases k with _ | k
    · go_wp2
      go_ret
      exact ⟨_, l, rfl, RX.out, HG.out, by have := HL.out; omega, CX.out, GX.out⟩
    · have i1 : (0 : Int) < (k : Int) + 1 := by omega
      have i2 : IntKind.i64.wrap ((k : Int) + 1 - 1) = (k : Int) := by rw [IntKind.wrap_i64]; have := HL.out; omega
      have i3 : IntKind.i64.wrap (k : Int) = (k : Int) := by rw [IntKind.wrap_i64]; have := HL.out; omega
      by_cases hl0 : 0 < l.length
      · have hl1 : (0 : Int) < (l.length : Int) := by omega
        go_wp2_with fail
        refine (l1Once_any p 4 _ CX.out (by omega) (by omega)).mono ?_
        rintro r wu ⟨y, rfl, c2, g2⟩
        replace RX := Lib.hid (RX.out.farP g2 hlt)
        replace CX := Lib.hid c2
        replace GX := Lib.hid (only_trans GX.out g2)
        clear c2 g2
        cases y
        · go_wp2_with fail
          refine (l1Below_any p (l.length : Int) _ CX.out (by omega) (by have := HL.out; omega)).mono ?_
          rintro r wv ⟨j3, hj3, rfl, c2, g2⟩
          replace RX := Lib.hid (RX.out.farP g2 hlt)
          replace CX := Lib.hid c2
          replace GX := Lib.hid (only_trans GX.out g2)
          clear c2 g2
          have hj4 : j3 < l.length := by omega
          obtain ⟨b, off, hA, hbb, hcc⟩ := RX.out.owns.reads.ages hj4
          subst hA
          obtain ⟨c3, c4⟩ := hcc j3 hj4
          have j5 : (0 : Int) ≤ (j3 : Int) := by omega
          clear hcc
          go_upto_region 8 with (fail)
          clear c3 c4
          go_wp2_with fail
          refine (l1Below_any p 8 _ CX.out (by omega) (by omega)).mono ?_
          rintro r wy ⟨j2, hj2, rfl, c2, g2⟩
          have R2 := Lib.hid (RX.out.farP g2 hlt)
          have C2 := Lib.hid c2
          have G2 := Lib.hid (only_trans GX.out g2)
          clear c2 g2 RX CX GX
          go_wp2_with fail
          refine (specNewAge_any _ l (1 + (j2 : Int)) (l[j3]).a _ R2.out.owns.reads (by have := HL.out; omega)).mono ?_
          rintro r wz ⟨v3, rfl, o3, b3⟩
          have R3 := Lib.hid (o3.mono (base' := w.heap.size) G2.out.size)
          have C3 := Lib.hid (C2.out.on b3)
          have G3 := Lib.hid (grown_onG G2.out (b3.mono G2.out.size))
          have L3 := Lib.hid (show (newK l (1 + (j2 : Int)) (l[j3]).a).length + k ≤ 7 by have := newK_len l (1 + (j2 : Int)) (l[j3]).a; have := HL.out; omega)
          have GG := Lib.hid (HG.out.new (d := 1 + (j2 : Int)) (f := (l[j3]).a) (by omega))
          clear o3 b3 R2 C2 G2
          go_wp2
          go_roundw
          case rel => exact ⟨k, newK l (1 + (j2 : Int)) (l[j3]).a, by go_num, L3, GG, R3, C3, G3⟩
          case measure => simp [intOf]
        · have hf0 : Hid True := Lib.hid trivial
          clear hf0
          go_wp2_with fail
          refine (l1Below_any p 8 _ CX.out (by omega) (by omega)).mono ?_
          rintro r wy ⟨j2, hj2, rfl, c2, g2⟩
          have R2 := Lib.hid (RX.out.farP g2 hlt)
          have C2 := Lib.hid c2
          have G2 := Lib.hid (only_trans GX.out g2)
          clear c2 g2 RX CX GX
          go_wp2_with fail
          refine (specNewAge_any _ l (1 + (j2 : Int)) 0 _ R2.out.owns.reads (by have := HL.out; omega)).mono ?_
          rintro r wz ⟨v3, rfl, o3, b3⟩
          have R3 := Lib.hid (o3.mono (base' := w.heap.size) G2.out.size)
          have C3 := Lib.hid (C2.out.on b3)
          have G3 := Lib.hid (grown_onG G2.out (b3.mono G2.out.size))
          have L3 := Lib.hid (show (newK l (1 + (j2 : Int)) 0).length + k ≤ 7 by have := newK_len l (1 + (j2 : Int)) 0; have := HL.out; omega)
          have GG := Lib.hid (HG.out.new (d := 1 + (j2 : Int)) (f := 0) (by omega))
          clear o3 b3 R2 C2 G2
          go_wp2
          go_roundw
          case rel => exact ⟨k, newK l (1 + (j2 : Int)) 0, by go_num, L3, GG, R3, C3, G3⟩
          case measure => simp [intOf]
      · have hl1 : decide (0 < l.length) = false := decide_eq_false hl0
        go_wp2_with fail
        refine (l1Below_any p 8 _ CX.out (by omega) (by omega)).mono ?_
        rintro r wy ⟨j2, hj2, rfl, c2, g2⟩
        have R2 := Lib.hid (RX.out.farP g2 hlt)
        have C2 := Lib.hid c2
        have G2 := Lib.hid (only_trans GX.out g2)
        clear c2 g2 RX CX GX
        go_wp2_with fail
        refine (specNewAge_any _ l (1 + (j2 : Int)) 0 _ R2.out.owns.reads (by have := HL.out; omega)).mono ?_
        rintro r wz ⟨v3, rfl, o3, b3⟩
        have R3 := Lib.hid (o3.mono (base' := w.heap.size) G2.out.size)
        have C3 := Lib.hid (C2.out.on b3)
        have G3 := Lib.hid (grown_onG G2.out (b3.mono G2.out.size))
        have L3 := Lib.hid (show (newK l (1 + (j2 : Int)) 0).length + k ≤ 7 by have := newK_len l (1 + (j2 : Int)) 0; have := HL.out; omega)
        have GG := Lib.hid (HG.out.new (d := 1 + (j2 : Int)) (f := 0) (by omega))
        clear o3 b3 R2 C2 G2
        go_wp2
        go_roundw
        case rel => exact ⟨k, newK l (1 + (j2 : Int)) 0, by go_num, L3, GG, R3, C3, G3⟩
        case measure => simp [intOf]
def DAges (w : World) (e : Ending) (w' : World) : Prop := ∃ v l, ∃ a b : Int, e = .returned (.tuple #[v, .int .i64 a, .int .i64 b]) ∧ RowG w' w.heap.size v l ∧ GoodG l ∧ l.length ≤ 7 ∧ (1 ≤ a ∧ a ≤ 8) ∧ (1 ≤ b ∧ b ≤ 8) ∧ Below w.heap.size w w'
theorem below_onlyG {a w w' : World} {p : Nat} (h : Below a.heap.size a w) (hg : w.grownBy w' (some p)) (hp : a.heap.size ≤ p) : Below a.heap.size a w' :=
  ⟨hg.os.trans h.os, hg.tape.trans h.tape, hg.output.trans h.output, Nat.le_trans h.size hg.size, fun i hi => (hg.block i (Nat.lt_of_lt_of_le hi h.size) (fun e => by injection e with e; omega)).trans (h.block i hi)⟩
theorem drawAges_any (A : Option Addr) (cap : Nat) (l : List UInt8) (w : World) (hr : Rd w w.heap.size A l) (hn : l.length ≤ 1048576) : Calls Try.prog 12 #[.slice A l.length cap] w (DAges w) := by
  go_enter Try.func12, Try.ntmps12
  go_wp2_with fail
  refine (l1New_any _ _ l _ hr hn).mono ?_
  rintro r w1 ⟨p, rfl, c1, hp, b1⟩
  clear hr
  go_wp2_with fail
  refine (l7Draw_any p _ c1).mono ?_
  rintro r w2 ⟨v, ll, rfl, o2, hG, hl7, c2, g2⟩
  have hlt := c1.lt
  obtain ⟨A2, d2, rfl, _, _⟩ := o2.shape
  have HG := Lib.hid hG
  clear hG
  go_wp2_with fail
  refine (l1Below_any p 8 _ c2 (by omega) (by omega)).mono ?_
  rintro r w3 ⟨j3, hj3, rfl, c3, g3⟩
  go_wp2_with fail
  refine (l1Below_any p 8 _ c3 (by omega) (by omega)).mono ?_
  rintro r w4 ⟨j4, hj4, rfl, c4, g4⟩
  have R2 := Lib.hid (((o2.farP g3 hlt).farP g4 hlt).mono (base' := w.heap.size) b1.size)
  have B2 := Lib.hid (below_onlyG (below_onlyG (below_onlyG b1 g2 hp) g3 hp) g4 hp)
  clear o2 c1 c2 g2 b1 c3 g3 c4 g4
  go_wp2
  refine bodyPost_ret (v := .tuple #[.slice A2 ll.length d2, .int .i64 (1 + (j3 : Int)), .int .i64 (1 + (j4 : Int))]) (by simp [results, Try.results12, go_sem]) rfl ?_
  exact ⟨_, ll, _, _, rfl, R2.out, HG.out, hl7, ⟨by omega, by omega⟩, ⟨by omega, by omega⟩, B2.out⟩
end Go.Proofs.Ytjnecehogebjkaa
