/- Contracts for copying a device out of the arguments: laws.toByteSS, toWr, toWrS, toDev return a value of new memory that reads alike. Conditions: no slice holds more than 2^20 elements. -/
import Derived.Test.YtkahjomkjhlkbaaDevD
import Derived.StillTailTactics
namespace Go.Proofs.Ytkahjomkjhlkbaa
open Go.RowKit
set_option maxRecDepth 100000

theorem bs_info : (Try.prog.info? 22).map (fun i => (i.zero, i.size, i.bytes)) = some (some (.slice none 0 0), 1, 24) := by kernel_rfl
theorem wr_info : (Try.prog.info? 36).map (fun i => (i.zero, i.size, i.bytes)) = some (some (.agg #[.int .i64 0, .slice none 0 0]), 2, 32) := by kernel_rfl
theorem run_makeSecs (n : Nat) (hn : n ≤ 1048576) (w : World) :
    (Instr.makeSlice 24 (.int .i64 (n : Int)) (.int .i64 (n : Int))).run Try.prog w = .ok (.slice (some ⟨w.heap.size, 0, none⟩) n n) (w.alloc (.cells (madeCells #[.slice none 0 0] n) 22)) := by
  obtain ⟨i, hi, h0, h1, h2⟩ := info_parts bs_info
  have hr := run_make (P := Try.prog) w 24 22 i (.slice none 0 0) Try.underlying24 hi h0 .i64 .i64 n n (by omega) (by omega) (by rw [h2]; omega) (by omega)
  simp only [Int.toNat_natCast, h1, Nat.mul_one] at hr
  exact hr
theorem run_makeWrs (n : Nat) (hn : n ≤ 1048576) (w : World) :
    (Instr.makeSlice 25 (.int .i64 (n : Int)) (.int .i64 (n : Int))).run Try.prog w = .ok (.slice (some ⟨w.heap.size, 0, none⟩) n n) (w.alloc (.cells (madeCells #[.int .i64 0, .slice none 0 0] (n * 2)) 36)) := by
  obtain ⟨i, hi, h0, h1, h2⟩ := info_parts wr_info
  have hr := run_make (P := Try.prog) w 25 36 i (.agg #[.int .i64 0, .slice none 0 0]) Try.underlying25 hi h0 .i64 .i64 n n (by omega) (by omega) (by rw [h2]; omega) (by omega)
  simp only [Int.toNat_natCast, h1] at hr
  exact hr
theorem size_made1 (z : Value) (n : Nat) : (madeCells #[z] n).size = n * 1 := by simp [size_madeCells]
def NewV (w : World) (c : Dat) (e : Ending) (w' : World) : Prop := ∃ v, e = .returned v ∧ Owns w' (fun b => w.heap.size ≤ b) v c ∧ Below w.heap.size w w'
theorem toByteSS_any (v : Value) (ls : List (List UInt8)) (w : World) (hv : Reads w w.heap.size v (secsD ls)) (hn : ls.length ≤ 1048576) (hs : ∀ l ∈ ls, l.length ≤ 1048576) :
    Calls Try.prog 92 #[v] w (NewV w (secsD ls)) := by
  obtain ⟨A, c, rfl, _, _⟩ := hv.len
  have hmk := run_makeSecs ls.length hn
  go_enter Try.func92, Try.ntmps92
  go_wp2
  go_loopw [4] (fun i wr => ∃ (k : Nat) (xs : List Value), k ≤ ls.length ∧ i = .int .i64 k ∧ RowV wr w.heap.size (ls.length * 1) 22 xs ∧ OwnsL wr (fun b => w.heap.size < b) xs ((ls.take k).map bytesD) ∧ Below w.heap.size w wr) (fun i _ => ls.length - (intOf i).toNat)
  case atStart => exact ⟨0, [], Nat.zero_le _, rfl, by rw [← size_made1 (.slice none 0 0)]; exact RowV.new w _ _, OwnsL.nil _ _, (Below.refl _ _).alloc (Nat.le_refl _) _⟩
  case round =>
    obtain ⟨k, xs, hk, rfl, hrow, hown, hb⟩ := hrel
    by_cases hlt : k < ls.length
    · obtain ⟨b, off, rfl, hbb, hc⟩ := (hv.on hb).sec hlt
      obtain ⟨A1, d1, c1, _, _, r1⟩ := hc k hlt
      have hl := hs ls[k] (List.getElem_mem _)
      have HS := Lib.hid hs
      have HV := Lib.hid hv
      have HX : Hid (xs.length = k) := Lib.hid (by rw [hown.1]; simp; omega)
      have hg := hrow.lt
      clear hc hv hs
      have i1 : (k : Int) < (ls.length : Int) := by omega
      have i2 : (0 : Int) ≤ (k : Int) := by omega
      go_wp2_with fail
      refine (toByteS_any A1 d1 ls[k] _ r1 (by omega)).mono ?_
      rintro e w1 ⟨rfl, o1, b1⟩
      have o2 := o1.owns (S := fun b => wr.heap.size ≤ b) (Nat.le_refl _)
      have hrow1 := hrow.keep (b1.block _ hg)
      have hb1 := hb.trans (b1.mono hb.size)
      obtain ⟨y, c2⟩ := hrow1.cell (k := k) (by omega)
      have f2 := hrow1.frozen k
      generalize hvv : Value.slice (some ⟨wr.heap.size, 0, none⟩) (ls[k]).length (ls[k]).length = vv at o1 o2
      have HR := Lib.hid (hrow1.step (by rw [HX.out]; omega) vv)
      have HO := Lib.hid (OwnsL.push (j := k) (u := vv) hown b1 o2 hg)
      have HB := Lib.hid (hb1.setCell (p := ⟨w.heap.size, k, none⟩) (Nat.le_refl _) vv)
      subst hvv
      clear hrow hrow1 hown hb1 hb o1 o2 b1 r1
      go_wp2
      go_roundw
      case rel =>
        refine ⟨k + 1, xs ++ [.slice (some ⟨wr.heap.size, 0, none⟩) (ls[k]).length (ls[k]).length], by omega, by go_num, ?_, ?_, HB.out⟩
        · have h := HR.out
          rw [HX.out] at h
          exact h
        · have h := HO.out
          rw [List.take_succ_eq_append_getElem hlt, List.map_append]
          exact h
      case measure => simp [intOf]; omega
    · go_wp2
      go_ret
      have e : k = ls.length := by omega
      subst e
      rw [List.take_length] at hown
      exact ⟨_, rfl, hrow.owns hown (by simp) (by unfold maxLen; omega), hb⟩

def NewWr (w : World) (n : Int) (l : List UInt8) (e : Ending) (w' : World) : Prop := ∃ v, e = .returned (.agg #[.int .i64 n, v]) ∧ Owns w' (fun b => w.heap.size ≤ b) v (bytesD l) ∧ Below w.heap.size w w'
theorem toWr_any (n : Int) (A : Option Addr) (c : Nat) (l : List UInt8) (w : World) (h : Rd w w.heap.size A l) (hl : l.length ≤ 1048576) :
    Calls Try.prog 108 #[.agg #[.int .i64 n, .slice A l.length c]] w (NewWr w n l) := by
  go_enter Try.func108, Try.ntmps108
  go_wp2_with fail
  refine (toByteS_any A c l _ (h.on (bal3 _ _ _ _)) (by omega)).mono ?_
  rintro e w1 ⟨rfl, o1, b1⟩
  have hb1 := bstep (bal3 _ _ _ _) b1
  obtain ⟨k1, k2⟩ := bcell b1
  have hz := b1.size
  simp at hz
  have o2 := o1.owns (S := fun b => w.heap.size + 3 ≤ b) (by simp)
  simp only [World.size_alloc] at o2
  go_wp2
  have HO : ∀ u1 u2 u3, Only (Mid w.heap.size (w.heap.size + 3)) w1 (((w1.setCell ⟨w.heap.size + 1 + 1, 1, none⟩ u1).setCell ⟨w.heap.size + 1, 0, none⟩ u2).setCell ⟨w.heap.size + 1, 1, none⟩ u3) := fun u1 u2 u3 => (((Only.refl _ _).setCell (.mk (by omega) (by omega)) _).setCell (.mk (by omega) (by omega)) _).setCell (.mk (by omega) (by omega)) _
  exact bodyPost_ret (v := .agg #[.int .i64 n, .slice (some ⟨w.heap.size + 1 + 1 + 1, 0, none⟩) l.length l.length]) (by simp [results, Try.results108, go_sem, k1]) rfl ⟨_, rfl, o2.past (HO _ _ _) (by omega), bpast hb1 (HO _ _ _)⟩

/-- Cached writes as they come in: the same cells, of the law's own type. -/
def cacheA (ps : List (Int × List UInt8)) : Dat := .row 119 2 ps.length (ps.flatMap wrC)
theorem toWrS_any (v : Value) (ps : List (Int × List UInt8)) (w : World) (hv : Reads w w.heap.size v (cacheA ps)) (hn : ps.length ≤ 1048576) (hs : ∀ p ∈ ps, p.2.length ≤ 1048576) :
    Calls Try.prog 93 #[v] w (NewV w (cacheD ps)) := by
  obtain ⟨A, c, rfl, _, _⟩ := hv.len
  have hmk := run_makeWrs ps.length hn
  go_enter Try.func93, Try.ntmps93
  go_wp2
  go_loopw [4] (fun i wr => ∃ (k : Nat) (xs : List Value), k ≤ ps.length ∧ i = .int .i64 k ∧ RowV wr w.heap.size (ps.length * 2) 36 xs ∧ OwnsL wr (fun b => w.heap.size < b) xs ((ps.take k).flatMap wrC) ∧ Below w.heap.size w wr) (fun i _ => ps.length - (intOf i).toNat)
  case atStart => exact ⟨0, [], Nat.zero_le _, rfl, by have h := RowV.new w (madeCells #[.int .i64 0, .slice none 0 0] (ps.length * 2)) 36; rw [size_madeCells] at h; exact h, OwnsL.nil _ _, (Below.refl _ _).alloc (Nat.le_refl _) _⟩
  case round =>
    obtain ⟨k, xs, hk, rfl, hrow, hown, hb⟩ := hrel
    by_cases hlt : k < ps.length
    · obtain ⟨b, off, rfl, hbb, hc⟩ := (hv.on hb).wr hlt
      obtain ⟨c0, A1, d1, c1, _, _, r1⟩ := hc k hlt
      have hl := hs ps[k] (List.getElem_mem _)
      have HS := Lib.hid hs
      have HV := Lib.hid hv
      have HX : Hid (xs.length = k * 2) := Lib.hid (by rw [hown.1, cache_len]; simp; omega)
      have hg := hrow.lt
      clear hc hv hs
      have i1 : (k : Int) < (ps.length : Int) := by omega
      have i2 : (0 : Int) ≤ (k : Int) := by omega
      go_wp2_with fail
      refine (toWr_any (ps[k]).1 A1 d1 (ps[k]).2 _ r1 hl).mono ?_
      rintro e w1 ⟨vv, rfl, o1, b1⟩
      have hrow1 := hrow.keep (b1.block _ hg)
      have hb1 := hb.trans (b1.mono hb.size)
      obtain ⟨y0, c2⟩ := hrow1.cell (k := k * 2) (by omega)
      obtain ⟨y1, c3⟩ := hrow1.cell (k := k * 2 + 1) (by omega)
      have f2 := hrow1.frozen (k * 2)
      have f3 := hrow1.frozen (k * 2 + 1)
      have HR1 := hrow1.step (by rw [HX.out]; omega) (.int .i64 (ps[k]).1)
      have HR := Lib.hid (HR1.step (by simp [HX.out]; omega) vv)
      have HO := Lib.hid (OwnsL.push2 (j := k * 2) (u := .int .i64 (ps[k]).1) (j' := k * 2 + 1) (u' := vv) (.int .i64 (ps[k]).1) hown b1 o1 hg)
      have HB := Lib.hid ((hb1.setCell (p := ⟨w.heap.size, k * 2, none⟩) (Nat.le_refl _) (.int .i64 (ps[k]).1)).setCell (p := ⟨w.heap.size, k * 2 + 1, none⟩) (Nat.le_refl _) vv)
      obtain ⟨A2, d2, rfl, _, _⟩ := o1.reads.len
      clear hrow hrow1 hown hb1 hb o1 b1 r1 HR1
      go_wp2
      go_roundw
      case rel =>
        refine ⟨k + 1, xs ++ [.int .i64 (ps[k]).1, .slice A2 (ps[k]).2.length d2], by omega, by go_num, ?_, ?_, HB.out⟩
        rotate_left
        · have h := HO.out
          rw [List.take_succ_eq_append_getElem hlt, List.flatMap_append, List.flatMap_singleton]
          exact h
        · have h := HR.out
          simp only [List.length_append, List.length_singleton, HX.out, List.append_assoc] at h
          exact h
      case measure => simp [intOf]; omega
    · go_wp2
      go_ret
      have e : k = ps.length := by omega
      subst e
      rw [List.take_length] at hown
      exact ⟨_, rfl, hrow.owns hown (cache_len _) (by unfold maxLen; omega), hb⟩
/-- A device that came in. -/
def RdArg (w : World) (B : Nat) (v : Value) (d : DevD) : Prop :=
  ∃ v0 v1, v = .agg #[v0, v1, .int .i64 d.fuse, .bool d.down] ∧ Reads w B v0 (secsD d.secs) ∧ Reads w B v1 (cacheA d.cache)
theorem RdArg.on {w w' : World} {v : Value} {d : DevD} (h : RdArg w w.heap.size v d) (hb : Below w.heap.size w w') : RdArg w' w'.heap.size v d := by
  obtain ⟨v0, v1, rfl, h0, h1⟩ := h
  exact ⟨v0, v1, rfl, h0.on hb, h1.on hb⟩
def NewDev (w : World) (d : DevD) (e : Ending) (w' : World) : Prop := ∃ v, e = .returned v ∧ OwnDev w' (fun b => w.heap.size ≤ b) v d ∧ Below w.heap.size w w'
theorem toDev_any (v : Value) (d : DevD) (w : World) (hv : RdArg w w.heap.size v d) (hs : SmallD d) : Calls Try.prog 48 #[v] w (NewDev w d) := by
  obtain ⟨v0, v1, rfl, hv0, hv1⟩ := hv
  obtain ⟨s1, s2, s3, s4⟩ := hs
  have S4 := Lib.hid s4
  have V1 := Lib.hid hv1
  clear s4
  obtain ⟨A0, d0, e0, _, _⟩ := hv0.len
  obtain ⟨A1, d1, e1, _, _⟩ := hv1.len
  subst e0 e1
  go_enter Try.func48, Try.ntmps48
  go_wp2_with fail
  refine (toByteSS_any _ d.secs _ (hv0.on (bal3 _ _ _ _)) s1 s3).mono ?_
  rintro e w1 ⟨x0, rfl, o0, b1⟩
  have hb1 := bstep (bal3 _ _ _ _) b1
  obtain ⟨q0, q1, q2⟩ := al3 w (.cells #[.slice A0 d.secs.length d0, .slice A1 d.cache.length d1, .int .i64 d.fuse, .bool d.down] 59) (.cells #[.slice none 0 0, .slice none 0 0, .int .i64 0, .bool false] 27) (.cells #[.slice none 0 0, .slice none 0 0, .int .i64 0, .bool false] 27)
  replace q0 := box_on q0 b1
  replace q1 := box_on q1 b1
  replace q2 := box_on q2 b1
  have hz := b1.size
  simp only [World.size_alloc] at hz o0
  obtain ⟨A2, d2, rfl, _, _⟩ := o0.reads.len
  clear hv0 hv1 s1 s3 b1
  have hs1 : Only (Mid w.heap.size (w.heap.size + 3)) w1 (w1.setCell ⟨w.heap.size + 1 + 1, 0, none⟩ (.slice A2 d.secs.length d2)) := (Only.refl _ _).setCell (.mk (by omega) (by omega)) _
  obtain ⟨x0, x1, x2, x3, x4⟩ := box4 q0
  obtain ⟨y0, y1, y2, y3, y4⟩ := box4 q2
  have Q0 := Lib.hid (box_far (j := 0) (u := .slice A2 d.secs.length d2) q0 (show w.heap.size ≠ w.heap.size + 1 + 1 by omega))
  have Q1 := Lib.hid (box_far (j := 0) (u := .slice A2 d.secs.length d2) q1 (show w.heap.size + 1 ≠ w.heap.size + 1 + 1 by omega))
  have Q2 := Lib.hid (box_set (i := 0) (u := .slice A2 d.secs.length d2) q2)
  clear q0 q1 q2
  go_wp2_with fail
  refine (toWrS_any _ d.cache _ (V1.out.on (bpast hb1 hs1)) s2 S4.out).mono ?_
  rintro e w2 ⟨z1, rfl, o1, b2⟩
  have hb2 := bstep (bpast hb1 hs1) b2
  have q0 := box_on Q0.out b2
  have q1 := box_on Q1.out b2
  have q2 := box_on Q2.out b2
  have hz2 := b2.size
  have oo := (o0.far hs1 (fun k hk _ hk' => by have := hk'.2; omega)).lt.on b2
  simp only [World.size_setCell] at hz2 o1 oo
  obtain ⟨A3, d3, rfl, _, _⟩ := o1.reads.len
  have ol := OwnsL.two (U := fun b => w.heap.size + 3 ≤ b) oo o1 (fun b hb => by omega) (fun b hb => by omega) (fun b hb hb' => by omega)
  clear hs1 oo o1 o0 x0 x1 x2 x3 x4 y0 y1 y2 y3 y4 Q0 Q1 Q2 hb1 b2 V1
  obtain ⟨x0, x1, x2, x3, x4⟩ := box4 q0
  obtain ⟨y0, y1, y2, y3, y4⟩ := box4 q1
  obtain ⟨z0, z1, z2, z3, z4⟩ := box4 q2
  clear q0 q1 q2
  have m1 : Mid w.heap.size (w.heap.size + 3) (w.heap.size + 1) := .mk (by omega) (by omega)
  have m2 : Mid w.heap.size (w.heap.size + 3) (w.heap.size + 1 + 1) := .mk (by omega) (by omega)
  go_wp2
  refine bodyPost_ret (v := .agg #[.slice A2 d.secs.length d2, .slice A3 d.cache.length d3, .int .i64 d.fuse, .bool d.down]) (by simp [results, Try.results48, go_sem, *]) rfl ⟨_, rfl, ⟨_, _, rfl, ol.past (a := w.heap.size) (b := w.heap.size + 3) ?_ (by omega)⟩, bpast (b := w.heap.size + 3) hb2 ?_⟩
  all_goals exact (((((((Only.refl _ _).setCell m2 _).setCell m2 _).setCell m2 _).setCell m1 _).setCell m1 _).setCell m1 _).setCell m1 _
end Go.Proofs.Ytkahjomkjhlkbaa
