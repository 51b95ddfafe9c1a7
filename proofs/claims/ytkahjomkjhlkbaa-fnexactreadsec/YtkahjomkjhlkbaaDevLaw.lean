/- Contracts for laws.markDev, heldDev, szByteS, szByteSS, szWr, szWrS, szDev. Conditions: no slice holds more than 2^20 elements (mark, held). -/
import Derived.Test.YtkahjomkjhlkbaaDevMark
import Derived.Test.YtkahjomkjhlkbaaDevEq
namespace Go.Proofs.Ytkahjomkjhlkbaa
open Go.RowKit
set_option maxRecDepth 100000

def totD (d : DevD) : Nat := totL sB d.secs d.secs.length + totL sW d.cache d.cache.length
def markD (k : Int) (d : DevD) : DevD := { d with secs := mkL mB sB k d.secs d.secs.length, cache := mkL mW sW (k + totL sB d.secs d.secs.length) d.cache d.cache.length }
def MarkedDev (w : World) (S : Nat → Prop) (v : Value) (d : DevD) (e : Ending) (w' : World) : Prop := e = .returned (.int .i64 (1 + totD d)) ∧ OwnDev w' S v (markD 1 d) ∧ Only S w w'
theorem totS_le (d : DevD) (hs : SmallD d) : totL sB d.secs d.secs.length ≤ 1099511627776 := Nat.le_trans (totL_le sB d.secs _ 1048576 hs.2.2.1) (by have := hs.1; omega)
theorem totC_le (d : DevD) (hs : SmallD d) : totL sW d.cache d.cache.length ≤ 1099512676352 := Nat.le_trans (totL_le sW d.cache _ 1048577 (sW_le _ hs.2.2.2)) (by have := hs.2.1; omega)
theorem markDev_any (v : Value) (S : Nat → Prop) (d : DevD) (w : World) (hv : OwnDev w S v d) (hs : SmallD d) :
    Calls Try.prog 51 #[v, .int .i64 1] w (MarkedDev w S v d) := by
  obtain ⟨v0, v1, rfl, ho⟩ := hv.lt
  obtain ⟨S0, S1, o0, o1, h0, h1, hd⟩ := ho.pair
  have t0 := totS_le d hs
  have t1 := totC_le d hs
  obtain ⟨s1, s2, s3, s4⟩ := hs
  obtain ⟨A0, d0, e0, _, _⟩ := o0.reads.len
  obtain ⟨A1, d1, e1, _, _⟩ := o1.reads.len
  subst e0 e1
  have q0 := al1 w (.cells #[.slice A0 d.secs.length d0, .slice A1 d.cache.length d1, .int .i64 d.fuse, .bool d.down] 27)
  have S4 := Lib.hid s4
  have H1 := Lib.hid h1
  have H0 := Lib.hid h0
  have HD := Lib.hid hd
  have HV := Lib.hid hv
  have hn1 : ¬ S0 w.heap.size := fun h => by have := (h0 _ h).2; omega
  clear s4 h1 h0 ho hd hv
  have p0 := o0.on (bal1 w (.cells #[.slice A0 d.secs.length d0, .slice A1 d.cache.length d1, .int .i64 d.fuse, .bool d.down] 27))
  have p1 := o1.on (bal1 w (.cells #[.slice A0 d.secs.length d0, .slice A1 d.cache.length d1, .int .i64 d.fuse, .bool d.down] 27))
  clear o0 o1
  go_enter Try.func51, Try.ntmps51
  go_wp2_with fail
  refine (markByteSS_any _ S0 d.secs 1 _ p0 s1 s3 (by omega) (by omega)).mono ?_
  rintro e w1 ⟨rfl, x0, g1⟩
  have y1 := p1.far g1 (fun b hb _ hb' => HD.out b hb' hb)
  have q1 := box_only q0 g1 hn1
  obtain ⟨c0, c1, c2, c3, c4⟩ := box4 q1
  have G1 := Lib.hid ((Only.of_below (bal1 w _) S).trans (g1.mono (fun b hb => (H0.out b hb).1)))
  clear q0 p0 p1 g1 q1
  generalize hq : (totL sB d.secs d.secs.length : Int) = q at *
  have HQ := Lib.hid hq
  have q0 : 0 ≤ q := by omega
  have q1 : q ≤ 1099511627776 := by omega
  clear hq
  go_wp2_with fail
  refine (markWrS_any _ S1 d.cache (1 + q) _ y1 s2 S4.out (by omega) (by omega)).mono ?_
  rintro e w2 ⟨rfl, x1, g2⟩
  have x2 := x0.far g2 (fun b hb _ hb' => HD.out b hb hb')
  have G2 := Lib.hid (G1.out.trans (g2.mono (fun b hb => (H1.out b hb).1)))
  clear x0 y1 g2
  go_wp2
  go_ret
  refine ⟨ret_intB ?_, ?_, G2.out⟩
  · unfold totD; rw [← HQ.out]; go_num
  · refine ⟨_, _, ?_, OwnsL.two (U := S) x2 (by rw [← HQ.out] at x1; exact x1) (fun b hb => (H0.out b hb).1) (fun b hb => (H1.out b hb).1) HD.out⟩
    simp [markD]
theorem heldDev_any (v : Value) (d : DevD) (w : World) (hv : RdDev w w.heap.size v (markD 1 d)) (hs : SmallD d) :
    Calls Try.prog 55 #[v, .int .i64 1] w fun e w' => e = .returned (.int .i64 (1 + totD d)) ∧ Below w.heap.size w w' := by
  obtain ⟨v0, v1, rfl, h0, h1⟩ := hv
  have t0 := totS_le d hs
  have t1 := totC_le d hs
  obtain ⟨s1, s2, s3, s4⟩ := hs
  have S4 := Lib.hid s4
  obtain ⟨A0, d0, e0, _, _⟩ := h0.len
  obtain ⟨A1, d1, e1, _, _⟩ := h1.len
  subst e0 e1
  have V1 := Lib.hid h1
  clear s4 h1
  simp only [markD, mkL_length] at h0 V1 ⊢
  have H0 := Lib.hid (heldByteSS_any _ d.secs 1 _ (h0.on (bal1 w (.cells #[.slice A0 d.secs.length d0, .slice A1 d.cache.length d1, .int .i64 d.fuse, .bool d.down] 27))) s1 s3 (by omega) (by omega))
  have H1 := Lib.hid (heldWrS_any _ d.cache (1 + totL sB d.secs d.secs.length) _ (V1.out.on (bal1 w (.cells #[.slice A0 d.secs.length d0, .slice A1 d.cache.length d1, .int .i64 d.fuse, .bool d.down] 27))) s2 S4.out (by omega) (by omega))
  clear h0
  generalize hq : (totL sB d.secs d.secs.length : Int) = q at H0 H1
  generalize hr : (totL sW d.cache d.cache.length : Int) = r at H1
  have HQ := Lib.hid hq
  have HR := Lib.hid hr
  have q0 : 0 ≤ q := by omega
  have r0 : 0 ≤ r := by omega
  have q1 : q ≤ 1099511627776 := by omega
  have r1 : r ≤ 1099512676352 := by omega
  have k0 : decide (1 + q < 0) = false := decide_eq_false (by omega)
  have k1 : decide (1 + q + r < 0) = false := decide_eq_false (by omega)
  clear hq hr t0 t1
  have HB := Lib.hid (bal1 w (.cells #[.slice A0 d.secs.length d0, .slice A1 d.cache.length d1, .int .i64 d.fuse, .bool d.down] 27))
  go_enter Try.func55, Try.ntmps55
  go_wp2_with fail
  refine H0.out.mono ?_
  rintro e w1 ⟨rfl, rfl⟩
  go_wp2_with fail
  refine H1.out.mono ?_
  rintro e w1 ⟨rfl, rfl⟩
  go_wp2
  go_ret
  exact ⟨ret_intB (by unfold totD; rw [← HQ.out, ← HR.out]; go_num), HB.out⟩

/-- What a count leaves: a number; if it is not negative, p. -/
def Counted (w : World) (p : Prop) (e : Ending) (w' : World) : Prop := ∃ x : Int, e = .returned (.int .i64 x) ∧ x ≤ 1048576 ∧ (0 ≤ x → p) ∧ Below w.heap.size w w'
theorem szByteS_any (A : Option Addr) (n c : Nat) (m : Int) (w : World) (hn : n ≤ maxLen) (h1 : 0 ≤ m) (h2 : m ≤ 1048576) :
    Calls Try.prog 106 #[.slice A n c, .int .i64 m] w (Counted w (n ≤ 1048576)) := by
  unfold maxLen at hn
  by_cases h : m - (n : Int) < 0
  · go_enter Try.func106, Try.ntmps106
    go_wp2
    go_ret
    exact ⟨-1, rfl, by omega, by omega, Below.refl _ _⟩
  · go_enter Try.func106, Try.ntmps106
    go_wp2
    go_ret
    exact ⟨m - n, rfl, by omega, by omega, Below.refl _ _⟩
theorem all_snoc {ls : List (List UInt8)} {k : Nat} (hk : k < ls.length) (h : ∀ l ∈ ls.take k, l.length ≤ 1048576) (h2 : (ls[k]).length ≤ 1048576) : ∀ l ∈ ls.take (k + 1), l.length ≤ 1048576 := by
  intro l hl
  rw [List.take_succ_eq_append_getElem hk, List.mem_append] at hl
  rcases hl with hl | hl
  · exact h l hl
  · simp at hl; subst hl; exact h2
theorem szByteSS_any (v : Value) (ls : List (List UInt8)) (m : Int) (w : World) (hv : Reads w w.heap.size v (secsD ls)) (h1 : 0 ≤ m) (h2 : m ≤ 1048576) :
    Calls Try.prog 90 #[v, .int .i64 m] w (Counted w (ls.length ≤ 1048576 ∧ ∀ l ∈ ls, l.length ≤ 1048576)) := by
  obtain ⟨A, c, rfl, hc1, hc2⟩ := hv.len
  unfold maxLen at hc2
  have HV := Lib.hid hv
  clear hv
  by_cases h : m - (ls.length : Int) < 0
  · go_enter Try.func90, Try.ntmps90
    go_wp2
    go_ret
    exact ⟨-1, rfl, by omega, fun h => absurd h (by omega), Below.refl _ _⟩
  · have hn : ls.length ≤ 1048576 := by omega
    go_enter Try.func90, Try.ntmps90
    go_wp2
    go_loopw [1, 5] (fun q i wr => ∃ (j : Nat) (x : Int), j ≤ ls.length ∧ i = .int .i64 j ∧ q = .int .i64 x ∧ 0 ≤ x ∧ x ≤ 1048576 ∧ Hid (∀ l ∈ ls.take j, l.length ≤ 1048576) ∧ Below w.heap.size w wr) (fun _ i _ => ls.length - (intOf i).toNat)
    case atStart => exact ⟨0, _, Nat.zero_le _, rfl, rfl, by omega, by omega, Lib.hid (by simp), Below.refl _ _⟩
    case round =>
      obtain ⟨j, x, hj, rfl, rfl, x0, x1, HA, hb⟩ := hrel
      by_cases hlt : j < ls.length
      · obtain ⟨b, off, rfl, hbb, hc⟩ := (HV.out.on hb).sec hlt
        obtain ⟨A1, d1, c1, l1, l2, r1⟩ := hc j hlt
        have i1 : (j : Int) < (ls.length : Int) := by omega
        have i2 : (0 : Int) ≤ (j : Int) := by omega
        clear hc
        go_wp2_with fail
        refine (szByteS_any A1 _ d1 x _ (by omega) x0 x1).mono ?_
        rintro e w1 ⟨y, rfl, y1, y2, b1⟩
        have hb1 := hb.trans (b1.mono hb.size)
        have Y2 := Lib.hid y2
        clear y2 b1
        by_cases hy : y < 0
        · go_wp2
          go_ret
          exact ⟨-1, rfl, by omega, fun h => absurd h (by omega), hb1⟩
        · go_wp2
          go_roundw
          case rel => exact ⟨j + 1, y, by omega, by go_num, rfl, by omega, by omega, Lib.hid (all_snoc hlt HA.out (Y2.out (by omega))), hb1⟩
          case measure => simp [intOf]; omega
      · go_wp2
        go_ret
        refine ⟨x, rfl, x1, fun _ => ⟨hn, ?_⟩, hb⟩
        have h := HA.out
        rw [List.take_of_length_le (by omega)] at h
        exact h
theorem szWr_any (n : Int) (A : Option Addr) (l c : Nat) (m : Int) (w : World) (hn : l ≤ maxLen) (h1 : 0 ≤ m) (h2 : m ≤ 1048576) :
    Calls Try.prog 107 #[.agg #[.int .i64 n, .slice A l c], .int .i64 m] w (Counted w (l ≤ 1048576)) := by
  have HB := Lib.hid (bal1 w (.cells #[.int .i64 n, .slice A l c] 119))
  have H := Lib.hid (szByteS_any A l c m (w.alloc (.cells #[.int .i64 n, .slice A l c] 119)) hn h1 h2)
  go_enter Try.func107, Try.ntmps107
  go_wp2_with fail
  refine H.out.mono ?_
  rintro e w1 ⟨y, rfl, y1, y2, b1⟩
  have hb1 := bstep HB.out b1
  have Y2 := Lib.hid y2
  clear y2 b1
  by_cases hy : y < 0
  · go_wp2
    go_ret
    exact ⟨-1, rfl, by omega, fun h => absurd h (by omega), hb1⟩
  · go_wp2
    go_ret
    exact ⟨y, rfl, y1, Y2.out, hb1⟩
theorem all_snocW {ps : List (Int × List UInt8)} {k : Nat} (hk : k < ps.length) (h : ∀ l ∈ ps.take k, l.2.length ≤ 1048576) (h2 : (ps[k]).2.length ≤ 1048576) : ∀ l ∈ ps.take (k + 1), l.2.length ≤ 1048576 := by
  intro l hl
  rw [List.take_succ_eq_append_getElem hk, List.mem_append] at hl
  rcases hl with hl | hl
  · exact h l hl
  · simp at hl; subst hl; exact h2
theorem szWrS_any (v : Value) (ps : List (Int × List UInt8)) (m : Int) (w : World) (hv : Reads w w.heap.size v (cacheA ps)) (h1 : 0 ≤ m) (h2 : m ≤ 1048576) :
    Calls Try.prog 91 #[v, .int .i64 m] w (Counted w (ps.length ≤ 1048576 ∧ ∀ l ∈ ps, l.2.length ≤ 1048576)) := by
  obtain ⟨A, c, rfl, hc1, hc2⟩ := hv.len
  unfold maxLen at hc2
  have HV := Lib.hid hv
  clear hv
  by_cases h : m - (ps.length : Int) < 0
  · go_enter Try.func91, Try.ntmps91
    go_wp2
    go_ret
    exact ⟨-1, rfl, by omega, fun h => absurd h (by omega), Below.refl _ _⟩
  · have hn : ps.length ≤ 1048576 := by omega
    go_enter Try.func91, Try.ntmps91
    go_wp2
    go_loopw [1, 5] (fun q i wr => ∃ (j : Nat) (x : Int), j ≤ ps.length ∧ i = .int .i64 j ∧ q = .int .i64 x ∧ 0 ≤ x ∧ x ≤ 1048576 ∧ Hid (∀ l ∈ ps.take j, l.2.length ≤ 1048576) ∧ Below w.heap.size w wr) (fun _ i _ => ps.length - (intOf i).toNat)
    case atStart => exact ⟨0, _, Nat.zero_le _, rfl, rfl, by omega, by omega, Lib.hid (by simp), Below.refl _ _⟩
    case round =>
      obtain ⟨j, x, hj, rfl, rfl, x0, x1, HA, hb⟩ := hrel
      by_cases hlt : j < ps.length
      · obtain ⟨b, off, rfl, hbb, hc⟩ := (HV.out.on hb).wr hlt
        obtain ⟨c0, A1, d1, c1, l1, l2, r1⟩ := hc j hlt
        have i1 : (j : Int) < (ps.length : Int) := by omega
        have i2 : (0 : Int) ≤ (j : Int) := by omega
        clear hc
        go_wp2_with fail
        refine (szWr_any _ A1 _ d1 x _ (by omega) x0 x1).mono ?_
        rintro e w1 ⟨y, rfl, y1, y2, b1⟩
        have hb1 := hb.trans (b1.mono hb.size)
        have Y2 := Lib.hid y2
        clear y2 b1
        by_cases hy : y < 0
        · go_wp2
          go_ret
          exact ⟨-1, rfl, by omega, fun h => absurd h (by omega), hb1⟩
        · go_wp2
          go_roundw
          case rel => exact ⟨j + 1, y, by omega, by go_num, rfl, by omega, by omega, Lib.hid (all_snocW hlt HA.out (Y2.out (by omega))), hb1⟩
          case measure => simp [intOf]; omega
      · go_wp2
        go_ret
        refine ⟨x, rfl, x1, fun _ => ⟨hn, ?_⟩, hb⟩
        have h := HA.out
        rw [List.take_of_length_le (by omega)] at h
        exact h
theorem szDev_any (v : Value) (d : DevD) (m : Int) (w : World) (hv : RdArg w w.heap.size v d) (h1 : 0 ≤ m) (h2 : m ≤ 1048576) :
    Calls Try.prog 47 #[v, .int .i64 m] w (Counted w (SmallD d)) := by
  obtain ⟨v0, v1, rfl, hv0, hv1⟩ := hv
  obtain ⟨A0, d0, e0, _, _⟩ := hv0.len
  obtain ⟨A1, d1, e1, _, _⟩ := hv1.len
  subst e0 e1
  have V1 := Lib.hid hv1
  clear hv1
  have q0 := al1 w (.cells #[.slice A0 d.secs.length d0, .slice A1 d.cache.length d1, .int .i64 d.fuse, .bool d.down] 59)
  go_enter Try.func47, Try.ntmps47
  go_wp2_with fail
  refine (szByteSS_any _ d.secs m _ (hv0.on (bal1 _ _)) h1 h2).mono ?_
  rintro e w1 ⟨y, rfl, y1, y2, b1⟩
  have hb1 := bstep (bal1 _ _) b1
  have q1 := box_on q0 b1
  obtain ⟨c0, c1, c2, c3, c4⟩ := box4 q1
  have Y2 := Lib.hid y2
  clear y2 b1 q0 q1 hv0
  by_cases hy : y < 0
  · go_wp2
    go_ret
    exact ⟨-1, rfl, by omega, fun h => absurd h (by omega), hb1⟩
  · go_wp2_with fail
    refine (szWrS_any _ d.cache y _ (V1.out.on hb1) (by omega) y1).mono ?_
    rintro e w2 ⟨z, rfl, z1, z2, b2⟩
    have hb2 := bstep hb1 b2
    have Z2 := Lib.hid z2
    clear z2 b2
    by_cases hz : z < 0
    · go_wp2
      go_ret
      exact ⟨-1, rfl, by omega, fun h => absurd h (by omega), hb2⟩
    · go_wp2
      go_ret
      exact ⟨z, rfl, z1, fun h => ⟨(Y2.out (by omega)).1, (Z2.out h).1, (Y2.out (by omega)).2, (Z2.out h).2⟩, hb2⟩
end Go.Proofs.Ytkahjomkjhlkbaa
