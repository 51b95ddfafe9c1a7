/- Contracts for drawn lists of keys: spec.l4Any, DrawMergeSets, DrawSetOk, DrawSetAt, DrawSetPut and DrawDrop, each in memory of its own. Conditions: the code has at most 2^20 bytes. -/
import Derived.Test.YtncjedbdkanleaaDrawSet
namespace Go.Proofs.Ytncjedbdkanleaa
open Go.RowKit
set_option maxRecDepth 100000
set_option linter.unusedSimpArgs false
set_option linter.unusedVariables false

theorem RowK.rwK {w : World} {base : Nat} {v : Value} {l : List KeyD} (h : RowK w base v l) : (v = .slice none 0 0 ∧ l = []) ∨ ∃ g cap, v = .slice (some ⟨g, 0, none⟩) l.length cap ∧ base ≤ g ∧ RwK w g cap l ∧ l.length ≤ cap ∧ cap ≤ maxLen := h.owns.rwK
set_option maxHeartbeats 1000000 in
theorem l4Any_any (p n : Nat) (w : World) (hc : Cur w p) (hn : n ≤ 100) : Calls Try.prog 67 #[.pointer (some ⟨p, 0, none⟩), .int .i64 (n : Int)] w (AList w p (n + 1)) := by
  have hlt := hc.lt
  have HA := Lib.hid l3Any_any
  unfold AnyKey keyV at HA
  go_enter Try.func67, Try.ntmps67
  go_wp2_with fail
  refine (l4Draw_any p n _ hc hn).mono ?_
  rintro r w1 ⟨v, l, rfl, o1, _, hl, c1, g1⟩
  obtain ⟨A1, d1, rfl, hd1, hd2⟩ := o1.shape
  go_wp2_with fail
  refine (l1Below_any p 8 _ c1 (by omega) (by omega)).mono ?_
  rintro r w2 ⟨j, hj, rfl, c2, g2⟩
  have R2 := Lib.hid (o1.farP g2 hlt)
  have C2 := Lib.hid c2
  have G2 := Lib.hid (only_trans g1 g2)
  clear o1 c1 g1 c2 g2 hc
  rcases j with _ | _ | j
  · go_upto_region 4 with (fail)
    go_wp2_with fail
    refine (HA.out p _ C2.out).mono ?_
    rintro r w3 ⟨a, b, c, d, e, rfl, c3, g3⟩
    have ba := bal1 w3 (.cells #[.int .i64 a, .int .i64 b, .int .i64 c, .int .i64 d, .int .i64 e] 28)
    have G3 := only_trans G2.out g3
    have HRow := Lib.hid ((R2.out.farP g3 hlt).on ba)
    have HAt := Lib.hid (At.key w3 ⟨a, b, c, d, e⟩ 28)
    have G4 := Lib.hid (grown_on G3 (ba.mono G3.size))
    have C4 := Lib.hid (c3.on ba)
    have HZ := Lib.hid G4.out.size
    clear ba G3 c3 g3 R2 C2 G2
    go_wp2_with (at_builtin; refine wpList_appK _ rfl (.tmp 14) (.tmp 17) rfl w.heap.size _ l rfl HRow.out (some ⟨w3.heap.size, 0, none⟩) 1 1 [⟨a, b, c, d, e⟩] rfl rfl HAt.out (by simp; omega) HZ.out ?_; intro v5 w5 o5 b5; clear HRow HAt)
    go_ret
    exact ⟨_, _, rfl, o5, by simp; omega, C4.out.under b5 hlt, grown_on G4.out b5⟩
  · by_cases h1 : 1 < l.length
    · rcases R2.out.rwK with ⟨_, h0⟩ | ⟨g, cap, hv, hg, hR, hcap, hmax⟩
      · rw [h0] at h1; simp at h1
      · cases hv
        have i1 : (1 : Int) < (l.length : Int) := by omega
        have i2 : (0 : Int) < (l.length : Int) := by omega
        have F0 := five0 hR (by omega)
        have F1 := five1 hR h1
        obtain ⟨c0, c1, c2, c3, c4⟩ := F0
        obtain ⟨e0, e1, e2, e3, e4⟩ := F1
        have gl := Rw.lt hR
        have hne : ¬ g = w2.heap.size := by omega
        have hfz := Rw.frozen hR
        have f0 := hfz 0
        have f1 := hfz 1
        have f2 := hfz 2
        have f3 := hfz 3
        have f4 := hfz 4
        have f5 := hfz 5
        have f6 := hfz 6
        have f7 := hfz 7
        have f8 := hfz 8
        have f9 := hfz 9
        clear hfz
        have HR := Lib.hid hR
        have HL := Lib.hid hl
        clear hR R2 hl
        have S2 := (HR.out.set (i := 0) (by omega) l[1]).set (i := 1) (by simp; omega) l[0]
        have B2 := b5 (i := 5) (u1 := .int .i64 (l[0]).a) (u2 := .int .i64 (l[0]).b) (u3 := .int .i64 (l[0]).c) (u4 := .int .i64 (l[0]).d) (u5 := .int .i64 (l[0]).e) (b5 (i := 0) (u1 := .int .i64 (l[1]).a) (u2 := .int .i64 (l[1]).b) (u3 := .int .i64 (l[1]).c) (u4 := .int .i64 (l[1]).d) (u5 := .int .i64 (l[1]).e) (Below.refl w.heap.size w2) hg) hg
        have hlen : ((l.set 0 l[1]).set 1 l[0]).length = l.length := by simp
        have O2 := (S2.owns (S := fun b => w.heap.size ≤ b) hg (by rw [hlen]; exact hcap) hmax)
        rw [hlen] at O2
        have R3 := Lib.hid (O2.rowK (base := w.heap.size) (fun b h => h))
        have HB2 := Lib.hid B2
        have HLEN := Lib.hid hlen
        clear S2 O2 B2 hlen
        go_wp2
        go_ret
        refine ⟨_, (l.set 0 l[1]).set 1 l[0], rfl, R3.out.on (bal1 _ _), by rw [HLEN.out]; have := HL.out; omega, (C2.out.under HB2.out hlt).on (bal1 _ _), grown_on (grown_on G2.out HB2.out) ((bal1 _ _).mono (Nat.le_trans G2.out.size HB2.out.size))⟩
    · have i1 : ¬ (1 : Int) < (l.length : Int) := by omega
      go_wp2
      go_ret
      exact ⟨_, l, rfl, R2.out, by omega, C2.out, G2.out⟩
  · have e0 : (((j : Int) + 1 + 1) == 0) = false := by simp; omega
    have e1 : (((j : Int) + 1 + 1) == 1) = false := by simp; omega
    go_wp2
    go_ret
    exact ⟨_, l, rfl, R2.out, by omega, C2.out, G2.out⟩
def DMerge (w : World) (e : Ending) (w' : World) : Prop := ∃ v u a b, e = .returned (.tuple #[v, u]) ∧ RowK w' w.heap.size v a ∧ RowK w' w.heap.size u b ∧ GoodS a ∧ GoodS b ∧ a.length ≤ 6 ∧ b.length ≤ 6 ∧ Below w.heap.size w w'
def DKeys (w : World) (n : Nat) (e : Ending) (w' : World) : Prop := ∃ v l, e = .returned v ∧ RowK w' w.heap.size v l ∧ l.length ≤ n ∧ Below w.heap.size w w'
theorem zeros_kvl : (madeCells #[.int .i64 0, .int .i64 0, .int .i64 0, .int .i64 0, .int .i64 0] (61 * 5)).toList.take (61 * 5) = kvl (List.replicate 61 ⟨0, 0, 0, 0, 0⟩) := by kernel_rfl
theorem RowK.zeros (w : World) : RowK (w.alloc (.cells (madeCells #[.int .i64 0, .int .i64 0, .int .i64 0, .int .i64 0, .int .i64 0] (61 * 5)) 28)) w.heap.size (.slice (some ⟨w.heap.size, 0, none⟩) 61 61) (List.replicate 61 ⟨0, 0, 0, 0, 0⟩) :=
  ⟨by rw [kvl_len], .inr ⟨w.heap.size, 61, _, rfl, Nat.le_refl _, heap_alloc_new w _, Nat.le_refl _, by unfold maxLen; omega, by rw [size_madeCells], zeros_kvl⟩⟩
def DAt (w : World) (e : Ending) (w' : World) : Prop := ∃ v l x y, e = .returned (.tuple #[v, .int .i64 x, .int .i64 y]) ∧ RowK w' w.heap.size v l ∧ l.length ≤ 9 ∧ Below w.heap.size w w'
def DPut (w : World) (e : Ending) (w' : World) : Prop := ∃ v l x, e = .returned (.tuple #[v, KeyD.v x]) ∧ RowK w' w.heap.size v l ∧ l.length ≤ 9 ∧ Below w.heap.size w w'
end Go.Proofs.Ytncjedbdkanleaa
