/- Contracts for the drawn inputs of chapter 1 (spec.DrawPutW, DrawPutText, DrawNameOk, DrawCrc) and for laws.big and laws.at. Conditions: the code has at most 2^20 bytes. -/
import Derived.Test.YtepoofamlpbchaaDraw
import Derived.Test.YtepoofamlpbchaaGetText
namespace Go.Proofs.Ytepoofamlpbchaa
open Go.RowKit

theorem below_of_only {w w1 w2 : World} {p : Nat} (hb : Below w.heap.size w w1) (hg : w1.grownBy w2 (some p)) (hp : w.heap.size ≤ p) : Below w.heap.size w w2 :=
  hb.grown hg hb.size (fun k hk => by injection hk with hk; omega)
def DPutW (w : World) (e : Ending) (w' : World) : Prop := ∃ g v l x, e = .returned (.tuple #[v, .int .i64 x]) ∧ Own w' g v l ∧ l.length ≤ 3 ∧ w.heap.size ≤ g ∧ Below w.heap.size w w'
theorem drawPutW_any (A : Option Addr) (cap : Nat) (l : List UInt8) (w : World) (hr : Rd w w.heap.size A l) (hn : l.length ≤ 1048576) : Calls Try.prog 12 #[.slice A l.length cap] w (DPutW w) := by
  go_enter Try.func12, Try.ntmps12
  go_wp2_with fail
  refine (l1New_any _ _ l _ hr hn).mono ?_
  rintro e w1 ⟨p, rfl, c1, hp, b1⟩
  go_wp2_with fail
  refine (l1Below_any p 4 _ c1 (by omega) (by omega)).mono ?_
  rintro e w2 ⟨j, hj, rfl, c2, g2⟩
  have b2 := below_of_only b1 g2 hp
  have hp2 := c2.lt
  go_wp2_with fail
  refine (l1Bytes_any p j _ c2 (by omega)).mono ?_
  rintro e w3 ⟨g, v, m, rfl, o3, hm, hg3, c3, g3⟩
  have b3 := below_of_only b2 g3 hp
  have hm3 : m.length ≤ 3 := by omega
  have hgp : p < g := by omega
  have hgw : w.heap.size ≤ g := by omega
  clear hm
  go_wp2_with fail
  refine (l1Num_any p _ c3).mono ?_
  rintro e w4 ⟨x, rfl, c4, g4⟩
  have b4 := below_of_only b3 g4 hp
  have o4 := o3.farB g4 (by omega)
  go_wp2
  go_ret2
  exact ⟨g, v, m, x, rfl, o4, hm3, hgw, b4⟩
def DStr (w : World) (e : Ending) (w' : World) : Prop := ∃ s : ByteArray, e = .returned (.string s) ∧ s.size ≤ 7 ∧ Below w.heap.size w w'
theorem drawNameOk_any (A : Option Addr) (cap : Nat) (l : List UInt8) (w : World) (hr : Rd w w.heap.size A l) (hn : l.length ≤ 1048576) : Calls Try.prog 17 #[.slice A l.length cap] w (DStr w) := by
  go_enter Try.func17, Try.ntmps17
  go_wp2_with fail
  refine (l1New_any _ _ l _ hr hn).mono ?_
  rintro e w1 ⟨p, rfl, c1, hp, b1⟩
  go_wp2_with fail
  refine (l1Text_any p _ c1).mono ?_
  rintro e w2 ⟨s, hs, rfl, c2, g2⟩
  have b2 := below_of_only b1 g2 hp
  go_wp2
  go_ret
  exact ⟨s, rfl, hs, b2⟩
def DBytes (w : World) (n : Nat) (e : Ending) (w' : World) : Prop := ∃ g v l, e = .returned v ∧ Own w' g v l ∧ l.length ≤ n ∧ w.heap.size ≤ g ∧ Below w.heap.size w w'
theorem drawCrc_any (A : Option Addr) (cap : Nat) (l : List UInt8) (w : World) (hr : Rd w w.heap.size A l) (hn : l.length ≤ 1048576) : Calls Try.prog 21 #[.slice A l.length cap] w (DBytes w 19) := by
  go_enter Try.func21, Try.ntmps21
  go_wp2_with fail
  refine (l1New_any _ _ l _ hr hn).mono ?_
  rintro e w1 ⟨p, rfl, c1, hp, b1⟩
  go_wp2_with fail
  refine (l1Below_any p 20 _ c1 (by omega) (by omega)).mono ?_
  rintro e w2 ⟨j, hj, rfl, c2, g2⟩
  have b2 := below_of_only b1 g2 hp
  have hp2 := c2.lt
  go_wp2_with fail
  refine (l1Bytes_any p j _ c2 (by omega)).mono ?_
  rintro e w3 ⟨g, v, m, rfl, o3, hm, hg3, c3, g3⟩
  have b3 := below_of_only b2 g3 hp
  have hm3 : m.length ≤ 19 := by omega
  have hgw : w.heap.size ≤ g := by omega
  clear hm
  go_wp2
  go_ret
  exact ⟨g, v, m, rfl, o3, hm3, hgw, b3⟩
def DPutText (w : World) (e : Ending) (w' : World) : Prop := ∃ g v l, ∃ s : ByteArray, e = .returned (.tuple #[v, .string s]) ∧ Own w' g v l ∧ l.length ≤ 3 ∧ s.size ≤ 61 ∧ w.heap.size ≤ g ∧ Below w.heap.size w w'
theorem zero_conv (w : World) (n : Nat) : (convert 22 9 (.slice (some ⟨w.heap.size, 0, none⟩) n n)).run Try.prog (w.alloc (.cells (madeCells #[.int .u8 0] n) 5)) = .ok (.string ⟨(List.replicate n (0 : UInt8)).toArray⟩) (w.alloc (.cells (madeCells #[.int .u8 0] n) 5)) := by
  refine conv_at _ _ 0 n n (List.replicate n 0) (by simp) (fun j hj => ?_)
  simp at hj
  rw [cell_of_row _ _ _ _ _ _ (heap_alloc_new w _), ← Array.getElem?_toList, toList_madeCells_one]
  simp [hj]
theorem drawPutText_any (A : Option Addr) (cap : Nat) (l : List UInt8) (w : World) (hr : Rd w w.heap.size A l) (hn : l.length ≤ 1048576) : Calls Try.prog 15 #[.slice A l.length cap] w (DPutText w) := by
  go_enter Try.func15, Try.ntmps15
  go_wp2_with fail
  refine (l1New_any _ _ l _ hr hn).mono ?_
  rintro e w1 ⟨p, rfl, c1, hp, b1⟩
  go_wp2_with fail
  refine (l1Text_any p _ c1).mono ?_
  rintro e w2 ⟨s, hs, rfl, c2, g2⟩
  have b2 := below_of_only b1 g2 hp
  clear c1 b1 g2
  go_wp2_with fail
  refine (l1Once_any p 10 _ c2 (by omega) (by omega)).mono ?_
  rintro e w3 ⟨b, rfl, c3, g3⟩
  have b3 := below_of_only b2 g3 hp
  clear c2 b2 g3
  cases b
  · go_wp2_with fail
    refine (l1Below_any p 4 _ c3 (by omega) (by omega)).mono ?_
    rintro e w4 ⟨j, hj, rfl, c4, g4⟩
    have b4 := below_of_only b3 g4 hp
    have hp2 := c4.lt
    go_wp2_with fail
    refine (l1Bytes_any p j _ c4 (by omega)).mono ?_
    rintro e w5 ⟨g, v, m, rfl, o5, hm, hg5, c5, g5⟩
    have b5 := below_of_only b4 g5 hp
    have hm3 : m.length ≤ 3 := by omega
    have hgw : w.heap.size ≤ g := by omega
    clear hm
    go_wp2
    go_ret2
    exact ⟨g, v, m, s, rfl, o5, hm3, by omega, hgw, b5⟩
  · go_wp2_with fail
    refine (l1Below_any p 2 _ c3 (by omega) (by omega)).mono ?_
    rintro e w4 ⟨j, hj, rfl, c4, g4⟩
    have b4 := below_of_only b3 g4 hp
    clear c3 b3 g4
    have hmk := run_makeBytes (60 + j) (by omega) w4
    rw [show ((60 + j : Nat) : Int) = 60 + (j : Int) by omega] at hmk
    have hcv := zero_conv w4 (60 + j)
    have hsz : (⟨(List.replicate (60 + j) (0 : UInt8)).toArray⟩ : ByteArray).size ≤ 61 := by
      show (List.replicate (60 + j) (0 : UInt8)).toArray.size ≤ 61
      simp; omega
    generalize (⟨(List.replicate (60 + j) (0 : UInt8)).toArray⟩ : ByteArray) = s2 at hcv hsz
    have c5 := c4.alloc (.cells (madeCells #[.int .u8 0] (60 + j)) 5)
    have b5 := b4.alloc b4.size (.cells (madeCells #[.int .u8 0] (60 + j)) 5)
    clear c4
    go_wp2_with fail
    refine (l1Below_any p 4 _ c5 (by omega) (by omega)).mono ?_
    rintro e w6 ⟨i, hi, rfl, c6, g6⟩
    have b6 := below_of_only b5 g6 hp
    clear hmk hcv c5 b5 g6
    have hp2 := c6.lt
    go_wp2_with fail
    refine (l1Bytes_any p i _ c6 (by omega)).mono ?_
    rintro e w7 ⟨g, v, m, rfl, o7, hm, hg7, c7, g7⟩
    have b7 := below_of_only b6 g7 hp
    have hm3 : m.length ≤ 3 := by omega
    have hgw : w.heap.size ≤ g := by omega
    clear hm
    go_wp2
    go_ret2
    exact ⟨g, v, m, s2, rfl, o7, hm3, hsz, hgw, b7⟩
theorem big_any (A : Option Addr) (cap n : Nat) (w : World) : Calls Try.prog 11 #[.slice A n cap] w fun e w' => e = .returned (.bool (decide ((1048576 : Int) < (n : Int)))) ∧ w = w' := by
  go_enter Try.func11, Try.ntmps11
  go_wp2
  go_ret
  exact ⟨rfl, rfl⟩
def AnAt (w : World) (e : Ending) (w' : World) : Prop := ∃ x : Nat, x ≤ 255 ∧ e = .returned (.int .i64 (x : Int)) ∧ w = w'
theorem at_any (A : Option Addr) (cap : Nat) (l : List UInt8) (i : Nat) (w : World) (hr : Rd w w.heap.size A l) (hn : l.length ≤ 1048576) (hi : i ≤ 1048576) : Calls Try.prog 24 #[.slice A l.length cap, .int .i64 (i : Int)] w (AnAt w) := by
  by_cases hlt : i < l.length
  · obtain ⟨b, off, rfl, hbb, hc⟩ := hr.at_ hlt
    have c1 := hc i hlt
    obtain ⟨x0, x1⟩ := u8_le l[i]
    clear hc hr
    go_enter Try.func24, Try.ntmps24
    go_wp2
    go_ret
    exact ⟨l[i].toNat, by omega, rfl, rfl⟩
  · have HX := Lib.hid (toNat_mod (x := (i : Int) * 31 + (l.length : Int) * 7) (m := 256) (by omega) (by omega))
    go_enter Try.func24, Try.ntmps24
    go_wp2
    go_ret
    exact ⟨_, by have := HX.out.1; omega, ret_intB HX.out.2.symm, rfl⟩
end Go.Proofs.Ytepoofamlpbchaa
