/- Contracts for drawn sets: spec.l4Draw (ascending and valid), spec.l4Any (any list), spec.DrawMergeSets, DrawSetOk, DrawSetAt, DrawSetPut and DrawDrop, each in memory of its own. Conditions: the code has at most 2^20 bytes. -/
import Derived.Test.YtncjedbdkanleaaDrawKey2
import Derived.Test.YtncjedbdkanleaaKSetPut
import Derived.Test.YtncjedbdkanleaaKSetMark
import Derived.Test.YtncjedbdkanleaaKSetMath
namespace Go.Proofs.Ytncjedbdkanleaa
open Go.RowKit
set_option maxRecDepth 100000
set_option linter.unusedSimpArgs false
set_option linter.unusedVariables false

def GoodS (l : List KeyD) : Prop := Asc l ∧ l.all okK = true
def ASet (w : World) (p n : Nat) (e : Ending) (w' : World) : Prop := ∃ v l, e = .returned v ∧ RowK w' w.heap.size v l ∧ GoodS l ∧ l.length ≤ n ∧ Cur w' p ∧ w.grownBy w' (some p)
theorem RowK.farP {w w' : World} {p base : Nat} {v : Value} {l : List KeyD} (h : RowK w base v l) (hg : w.grownBy w' (some p)) (hp : p < base) : RowK w' base v l :=
  h.keep (fun g hg' => hg.block g (h.lt g hg').1 (fun e => by injection e with e; have := (h.lt g hg').2; omega))
theorem grown_on {w a b : World} {row : Option Nat} (h : w.grownBy a row) (hb : Below w.heap.size a b) : w.grownBy b row :=
  ⟨hb.os.trans h.os, hb.tape.trans h.tape, hb.output.trans h.output, Nat.le_trans h.size hb.size, fun i hi hne => (hb.block i hi).trans (h.block i hi hne)⟩
theorem Cur.under {a b : World} {p B : Nat} (h : Cur a p) (hb : Below B a b) (hp : p < B) : Cur b p := h.keep (fun k hk => hb.block k (by omega))
set_option maxHeartbeats 1000000 in
theorem l4Draw_any (p n : Nat) (w : World) (hc : Cur w p) (hn : n ≤ 100) : Calls Try.prog 91 #[.pointer (some ⟨p, 0, none⟩), .int .i64 (n : Int)] w (ASet w p n) := by
  have hlt := hc.lt
  have HD := Lib.hid l3Draw_any
  have HS := Lib.hid specSetPut_any
  unfold AKey keyV at HD
  unfold KeyD.v keyV at HS
  have C0 := Lib.hid (hc.alloc (.cells #[] 28))
  have G0 := Lib.hid (only_start w (.cells #[] 28) (some p))
  have R0 := Lib.hid (RowK.lit w)
  have i0 : IntKind.i64.wrap ((n : Int) + 1) = (n : Int) + 1 := by rw [IntKind.wrap_i64]; omega
  clear hc
  go_enter Try.func91, Try.ntmps91
  go_wp2_with fail
  refine (l1Below_any p ((n : Int) + 1) _ C0.out (by omega) (by omega)).mono ?_
  rintro r w1 ⟨j, hj, rfl, c1, g1⟩
  have R1 := Lib.hid (R0.out.farP g1 hlt)
  have C1 := Lib.hid c1
  have G1 := Lib.hid (only_trans G0.out g1)
  clear c1 g1 R0 C0 G0
  go_wp2
  go_loopw [5, 6] (fun o i wr => ∃ (k : Nat) (l : List KeyD), i = .int .i64 k ∧ Hid (l.length + k ≤ n) ∧ Hid (GoodS l) ∧ Hid (RowK wr w.heap.size o l) ∧ Hid (Cur wr p) ∧ Hid (w.grownBy wr (some p))) (fun _ i _ => (intOf i).toNat)
  case atStart => exact ⟨j, [], rfl, Lib.hid (by simp; omega), Lib.hid ⟨.nil, rfl⟩, R1, C1, G1⟩
  case round =>
    clear R1 C1 G1 hj
    obtain ⟨k, l, rfl, HL, HG, HR, HC, HW⟩ := hrel
    obtain ⟨Ao, co, rfl, _, _⟩ := HR.out.shape
    rcases k with _ | k
    · go_wp2
      go_ret
      exact ⟨_, l, rfl, HR.out, HG.out, by have := HL.out; omega, HC.out, HW.out⟩
    · have i1 : (0 : Int) < (k : Int) + 1 := by omega
      have i2 : IntKind.i64.wrap ((k : Int) + 1 - 1) = (k : Int) := by rw [IntKind.wrap_i64]; have := HL.out; omega
      have i3 : IntKind.i64.wrap (k : Int) = (k : Int) := by rw [IntKind.wrap_i64]; have := HL.out; omega
      go_wp2_with fail
      refine (HD.out p _ HC.out).mono ?_
      rintro r w2 ⟨a, b, c, d, e, rfl, sm, c2, g2⟩
      have R2 := Lib.hid (HR.out.farP g2 hlt)
      have C2 := Lib.hid c2
      have G2 := Lib.hid (only_trans HW.out g2)
      have OK := Lib.hid (show okK ⟨a, b, c, d, e⟩ = true from sm.2.2)
      clear c2 g2 sm HR HC HW
      go_wp2_with fail
      refine (HS.out _ l ⟨a, b, c, d, e⟩ _ R2.out.owns.reads (by have := HL.out; omega)).mono ?_
      rintro r w3 ⟨v3, rfl, o3, b3⟩
      have R3 := Lib.hid (o3.mono (base' := w.heap.size) G2.out.size)
      have C3 := Lib.hid (C2.out.on b3)
      have G3 := Lib.hid (grown_on G2.out (b3.mono G2.out.size))
      have L3 := Lib.hid (show (putK l ⟨a, b, c, d, e⟩).length + k ≤ n by have := putK_len l ⟨a, b, c, d, e⟩; have := HL.out; omega)
      have GG := Lib.hid (show GoodS (putK l ⟨a, b, c, d, e⟩) from ⟨HG.out.1.put _, ok_put HG.out.2 OK.out⟩)
      clear o3 b3 R2 C2 G2
      go_wp2
      go_roundw
      case rel => exact ⟨k, putK l ⟨a, b, c, d, e⟩, by go_num, L3, GG, R3, C3, G3⟩
      case measure => simp [intOf]
def AList (w : World) (p n : Nat) (e : Ending) (w' : World) : Prop := ∃ v l, e = .returned v ∧ RowK w' w.heap.size v l ∧ l.length ≤ n ∧ Cur w' p ∧ w.grownBy w' (some p)
theorem five0 {w : World} {g cap : Nat} {l : List KeyD} (h : RwK w g cap l) (h1 : 0 < l.length) : Five w g 0 l[0] := by
  have hl := kvl_len l
  have hc : ∀ j (hj : j < 5), w.cell? ⟨g, j, none⟩ = (kX l[0])[j]? := fun j hj => by
    rw [Rw.cell h (i := j) (by omega)]
    obtain ⟨x, t, rfl⟩ := List.exists_cons_of_length_pos h1
    rw [List.getElem?_eq_getElem (by simp [kX]; omega)]
    have : kvl (x :: t) = kX x ++ kvl t := rfl
    simp only [this]
    rw [List.getElem_append_left (by simp [kX]; omega)]
    rfl
  exact ⟨hc 0 (by omega), hc 1 (by omega), hc 2 (by omega), hc 3 (by omega), hc 4 (by omega)⟩
theorem five1 {w : World} {g cap : Nat} {l : List KeyD} (h : RwK w g cap l) (h1 : 1 < l.length) : Five w g 5 l[1] := by
  have hl := kvl_len l
  have hc : ∀ j (hj : j < 5), w.cell? ⟨g, 5 + j, none⟩ = (kX l[1])[j]? := fun j hj => by
    rw [Rw.cell h (i := 5 + j) (by omega)]
    match l, h1 with
    | x :: y :: t, _ =>
      rw [List.getElem?_eq_getElem (by simp [kX]; omega)]
      have : kvl (x :: y :: t) = kX x ++ (kX y ++ kvl t) := rfl
      simp only [this]
      rw [List.getElem_append_right (by simp [kX]), List.getElem_append_left (by simp [kX]; omega)]
      simp [kX]
  exact ⟨hc 0 (by omega), hc 1 (by omega), hc 2 (by omega), hc 3 (by omega), hc 4 (by omega)⟩
end Go.Proofs.Ytncjedbdkanleaa
