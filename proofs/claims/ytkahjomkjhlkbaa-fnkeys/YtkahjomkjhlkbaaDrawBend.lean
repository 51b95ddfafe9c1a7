/- Contracts for spec.l1At (some int) and spec.l1Bend (bytes of its own, no more than were given). Conditions: the bytes are at most 2^20. -/
import Derived.Test.YtkahjomkjhlkbaaDrawKey2
import Derived.Test.YtkahjomkjhlkbaaPutW
import Derived.Deep.RegionLaw
import Derived.IntWalk
namespace Go.Proofs.Ytkahjomkjhlkbaa
open Go.RowKit
set_option maxRecDepth 100000

def SomeInt (w : World) (p : Nat) (r : Ending) (w' : World) : Prop := ∃ x : Int, r = .returned (.int .i64 x) ∧ Cur w' p ∧ w.grownBy w' (some p)
theorem l1At_any (p : Nat) (A : Option Addr) (n cap : Nat) (w : World) (hc : Cur w p) (hn : n ≤ 1048576) : Calls Try.prog 85 #[.pointer (some ⟨p, 0, none⟩), .slice A n cap] w (SomeInt w p) := by
  have hlt := hc.lt
  obtain ⟨L, hL⟩ : ∃ L : List Int, L = [0, 0, 0, 1, 2, (n : Int), (n : Int) - 1, -1, 9223372036854775807] := ⟨_, rfl⟩
  have H := Lib.hid (l1Int_any p w.heap.size 9 L (w.alloc (.cells (L.map (.int .i64 ·)).toArray 3)) (hc.alloc _) (Lies.new w _ _) (by simp) (by omega) (by rw [hL]; simp) (by rw [hL]; simp))
  have HG := Lib.hid (only_start w (.cells (L.map (.int .i64 ·)).toArray 3) (some p))
  subst hL
  go_enter Try.func85, Try.ntmps85
  go_wp2_with fail
  refine H.out.mono ?_
  rintro r w1 ⟨x, _, rfl, hc1, hg1⟩
  have hg2 := only_trans HG.out hg1
  go_wp2
  go_ret
  exact ⟨x, rfl, hc1, hg2⟩
theorem Own.set {w : World} {g j : Nat} {v : Value} {l : List UInt8} (h : Own w g v l) (hj : j < l.length) (c : UInt8) : Own (w.setCell ⟨g, j, none⟩ (.int .u8 (c.toNat : Int))) g v (l.set j c) := by
  obtain ⟨cap, cur, hv, hg, h1, h2, h3, h4⟩ := h
  refine ⟨cap, cur.setIfInBounds j (.int .u8 (c.toNat : Int)), by rw [List.length_set]; exact hv, heap_setCell_same w g j cur _ _ hg, by rw [List.length_set]; exact h1, h2, by simpa using h3, ?_⟩
  rw [List.length_set, Array.toList_setIfInBounds, List.take_set, h4]
  simp [bv, List.map_set]
theorem Own.cut {w : World} {g n cap k : Nat} {l : List UInt8} (h : Own w g (.slice (some ⟨g, 0, none⟩) n cap) l) (hk : k ≤ l.length) : Own w g (.slice (some ⟨g, 0, none⟩) k cap) (l.take k) := by
  obtain ⟨cap', cur, hv, hg, h1, h2, h3, h4⟩ := h
  simp at hv
  obtain ⟨rfl, rfl⟩ := hv
  refine ⟨cap, cur, by rw [List.length_take, Nat.min_eq_left hk], hg, by rw [List.length_take]; omega, h2, h3, ?_⟩
  rw [List.length_take, Nat.min_eq_left hk]
  have h5 : (cur.toList.take l.length).take k = (bv l).take k := by rw [h4]
  rw [List.take_take, Nat.min_eq_left hk] at h5
  rw [h5]
  simp [bv, List.map_take]
theorem Own.cellAt {w : World} {g n cap j : Nat} {l : List UInt8} (h : Own w g (.slice (some ⟨g, 0, none⟩) n cap) l) (hj : j < l.length) : w.cell? ⟨g, j, none⟩ = some (.int .u8 (l[j].toNat : Int)) ∧ w.frozen? ⟨g, j, none⟩ = false := by
  obtain ⟨cap', hv, hc, hr⟩ := h.rd
  obtain ⟨b, off, e, _, hcc⟩ := hr.at_ hj
  simp at e
  obtain ⟨rfl, rfl⟩ := e
  have := hcc j hj
  rw [Nat.zero_add] at this
  obtain ⟨_, cur, _, hg, _⟩ := h
  exact ⟨this, frozen_of_row w g j cur _ hg⟩
theorem xor_u8 (a b : Int) : 0 ≤ bits .xor .u8 a b ∧ bits .xor .u8 a b ≤ 255 := by
  have h : ∀ x : Int, 0 ≤ IntKind.u8.wrap x ∧ IntKind.u8.wrap x ≤ 255 := fun x => by rw [IntKind.wrap_u8]; omega
  exact h _
theorem Own.setI {w : World} {g j : Nat} {v : Value} {l : List UInt8} (h : Own w g v l) (hj : j < l.length) {x : Int} (h0 : 0 ≤ x ∧ x ≤ 255) : Own (w.setCell ⟨g, j, none⟩ (.int .u8 x)) g v (l.set j (ub x)) := by
  have h2 := h.set hj (ub x)
  rw [ub_toNat, show x % 256 = x by omega] at h2
  exact h2
/-- Between the operations of the bend: the cursor, the bytes, and nothing else turned. -/
def BendIn (w : World) (p g n c : Nat) (l : List UInt8) (V : World) : Prop := Cur V p ∧ Own V g (.slice (some ⟨g, 0, none⟩) n c) l ∧ w.grownBy V (some p)
theorem bendBelow (w : World) (p g n c : Nat) (l : List UInt8) (m : Int) (hgp : g ≠ p) (hm : 0 < m) (hm2 : m ≤ 1048576) (V : World) (hV : Hid (BendIn w p g n c l V)) : Calls Try.prog 74 #[.pointer (some ⟨p, 0, none⟩), .int .i64 m] V fun r V' => ∃ j : Nat, (j : Int) < m ∧ r = .returned (.int .i64 (j : Int)) ∧ Hid (BendIn w p g n c l V') := by
  obtain ⟨h1, h2, h3⟩ := hV.out
  refine (l1Below_any p m V h1 hm (by omega)).mono ?_
  rintro r V' ⟨j, hj, rfl, c1, g1⟩
  exact ⟨j, hj, rfl, Lib.hid ⟨c1, h2.farB g1 hgp, only_trans h3 g1⟩⟩
def BentBytes (w : World) (p n : Nat) (r : Ending) (w' : World) : Prop := ∃ g v l, r = .returned v ∧ Own w' g v l ∧ l.length ≤ n ∧ w.heap.size ≤ g ∧ Cur w' p ∧ w.grownBy w' (some p)
set_option maxHeartbeats 4000000 in
theorem l1Bend_any (p : Nat) (A : Option Addr) (cap : Nat) (l : List UInt8) (w : World) (hc : Cur w p) (hr : Rd w w.heap.size A l) (hn : l.length ≤ 1048576) : Calls Try.prog 83 #[.pointer (some ⟨p, 0, none⟩), .slice A l.length cap] w (BentBytes w p l.length) := by
  have hlt := hc.lt
  have hnil : A = none → l = [] := hr.nil_of
  have r0 := hr.on (bal1 w (.cells #[] 5))
  have o0 := Own.litB w
  have C0 := Lib.hid (hc.alloc (.cells #[] 5))
  have G0 := Lib.hid (only_start w (.cells #[] 5) (some p))
  clear hc hr
  go_enter Try.func83, Try.ntmps83
  go_wp2_with (first | (at_builtin; refine wpList_appB _ rfl (.tmp 6) (.tmp 7) rfl w.heap.size w.heap.size _ [] rfl o0 (Nat.le_refl _) _ A l l.length cap rfl rfl r0 hnil (by simp; omega) ?_; intro v1 w1 g o1 hg b1 _ gr1; clear o0 r0 hnil) | fail)
  rw [List.nil_append] at o1
  have C1 := Lib.hid (C0.out.far gr1 hlt)
  have G1 := Lib.hid (only_new G0.out gr1 (Nat.le_refl _))
  obtain ⟨c1, rfl, hcap, _⟩ := o1.rd
  have O1 := Lib.hid o1
  clear o1 b1 gr1 C0 G0
  refine (l1Below_any p 5 _ C1.out (by omega) (by omega)).mono ?_
  rintro r w2 ⟨j, hj, rfl, c2, g2⟩
  have O2 := Lib.hid (O1.out.farB g2 (by omega))
  have G2 := Lib.hid (only_trans G1.out g2)
  have C2 := Lib.hid c2
  clear c2 g2 O1 G1 C1
  have hj' : j = 0 ∨ j = 1 ∨ 2 ≤ j := by omega
  rcases hj' with rfl | rfl | h2
  · have i1 : (l.length : Int) + 1 ≤ 1048577 := by omega
    clear hj
    go_wp2_with fail
    refine (l1Below_any p _ _ C2.out (by omega) (by omega)).mono ?_
    rintro r w3 ⟨k, hk, rfl, c3, g3⟩
    have O3 := Lib.hid (O2.out.farB g3 (by omega))
    have G3 := Lib.hid (only_trans G2.out g3)
    have hkl : k ≤ l.length := by omega
    have k1 : (k : Int) ≤ (c1 : Int) := by omega
    have C3 := Lib.hid c3
    clear hk c3 g3
    go_wp2
    go_ret
    exact ⟨g, _, _, rfl, O3.out.cut hkl, by rw [List.length_take]; omega, hg, C3.out, G3.out⟩
  · clear hj
    by_cases h0 : 0 < l.length
    · have t0 : decide ((0 : Int) < (l.length : Int)) = true := decide_eq_true (by omega)
      have hgp : g ≠ p := by omega
      have HBL := Lib.hid (bendBelow w p g l.length c1 l (l.length : Int) hgp (by omega) (by omega))
      have HB255 := Lib.hid (bendBelow w p g l.length c1 l 255 hgp (by omega) (by omega))
      have IVd : Hid (BendIn w p g l.length c1 l w2.drew) := Lib.hid ⟨C2.out.keep (fun _ _ => rfl), O2.out.drewN 1, only_draw1 G2.out⟩
      clear O2 C2 G2
      go_wp2
      go_region_law
        (first
          | (go_simp; go_at_call 74; (with_reducible refine (HBL.out _ (by assumption)).mono ?_); rintro r V1 ⟨j, hj, rfl, IV1⟩; have hjl : j < l.length := (by omega); obtain ⟨cj0, cj1⟩ := IV1.out.2.1.cellAt hjl; have j0 : (0 : Int) ≤ (j : Int) := (by omega))
          | (go_simp; go_at_call 74; (with_reducible refine (HB255.out _ (by assumption)).mono ?_); rintro r V2 ⟨y, hy, rfl, IV2⟩; (try (obtain ⟨ck0, ck1⟩ := IV2.out.2.1.cellAt hjl)))
          | fail)
      all_goals
        have HX := Lib.hid (xor_u8 (l[j].toNat : Int) (IntKind.u8.wrap (IntKind.i64.wrap (1 + (y : Int)))))
        generalize bits .xor .u8 (l[j].toNat : Int) (IntKind.u8.wrap (IntKind.i64.wrap (1 + (y : Int)))) = X at *
        have FIN : Hid (BentBytes w p l.length (.returned (.slice (some ⟨g, 0, none⟩) l.length c1)) (V2.setCell ⟨g, j, none⟩ (.int .u8 X))) := Lib.hid ⟨g, _, _, rfl, IV2.out.2.1.setI hjl HX.out, by rw [List.length_set]; exact Nat.le_refl _, hg, IV2.out.1.setNew (by omega) _, only_setNew IV2.out.2.2 hg _⟩
        clear HX
        go_wp2
        go_ret
        exact FIN.out
    · have t0 : decide ((0 : Int) < (l.length : Int)) = false := decide_eq_false (by omega)
      go_wp2
      go_ret
      exact ⟨g, _, l, rfl, O2.out, Nat.le_refl _, hg, C2.out, G2.out⟩
  · have e0 : ((j : Int) == 0) = false := by simp; omega
    have e1 : ((j : Int) == 1) = false := by simp; omega
    clear h2 hj
    go_wp2
    go_ret
    exact ⟨g, _, l, rfl, O2.out, Nat.le_refl _, hg, C2.out, G2.out⟩
end Go.Proofs.Ytkahjomkjhlkbaa

