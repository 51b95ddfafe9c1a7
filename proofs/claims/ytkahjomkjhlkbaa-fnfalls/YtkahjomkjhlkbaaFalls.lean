/- The walk of FnFalls: at every code the call returns true and writes nothing that was there. No condition. -/
import Derived.Test.YtkahjomkjhlkbaaDrawDev
import Derived.Test.YtkahjomkjhlkbaaDevFall
import Derived.Test.YtkahjomkjhlkbaaConv
import Derived.StillTailTactics
import Derived.Deep.RegionHeld3
import Derived.Deep.DeepCutAuto
import Derived.IntWalk
namespace Go.Proofs.Ytkahjomkjhlkbaa
open Go.RowKit
set_option maxRecDepth 100000

theorem appK_from (keep : Nat → Bool) (ls : List (List UInt8)) (ps : List (Int × List UInt8)) (n i : Nat) (hi : i < ls.length) (hps : ∀ p ∈ ps, 0 ≤ p.1) :
    (appK keep ls ps n)[i]'(by rw [appK_length]; exact hi) = ls[i] ∨ ∃ (j : Nat) (hj : j < ps.length), (ps[j]).1 = (i : Int) ∧ (ps[j]).2 = (appK keep ls ps n)[i]'(by rw [appK_length]; exact hi) := by
  induction n with
  | zero => exact .inl rfl
  | succ n ih =>
    by_cases hn : n < ps.length
    · by_cases hk : keep n = true
      · simp only [appK_yes hn hk]
        by_cases he : (ps[n]).1.toNat = i
        · right
          refine ⟨n, hn, ?_, ?_⟩
          · have := hps ps[n] (List.getElem_mem _); omega
          · simp [he]
        · rw [List.getElem_set_ne he]; exact ih
      · simp only [appK_no hn (by simpa using hk)]; exact ih
    · have : appK keep ls ps (n + 1) = appK keep ls ps n := by simp [appK, List.getElem?_eq_none (by omega : ps.length ≤ n)]
      simp only [this]; exact ih
theorem appK_none (keep : Nat → Bool) (ls : List (List UInt8)) (ps : List (Int × List UInt8)) (n : Nat) (h : ∀ i, keep i = false) : appK keep ls ps n = ls := by
  induction n with
  | zero => rfl
  | succ n ih =>
    simp only [appK, h, Bool.false_eq_true, if_false, ih]
    split <;> rfl
theorem bits0 : bits .and .i64 0 1 = 0 := by decide
theorem surv_zero (i : Nat) : surv 0 i = false := by
  unfold surv bitB
  have h : (0 : Int) / 2 ^ i = 0 := Int.zero_ediv _
  rw [h, bits0]; rfl
theorem okD_fall {d : DevD} {k : Int} (h : okD d = true) : okD (fallD d k) = true := by
  rw [fallD_yes h]
  have q := (okD_iff d).1 h
  have hl := appK_length (surv k) d.secs d.cache d.cache.length
  exact (okD_iff _).2 ⟨by rw [hl]; exact q.1, by rw [hl]; exact q.2.1, by simp, appK_all (surv k) _ _ q.2.2.2.1 (fun p hp => (q.2.2.2.2.1 p hp).2.2) _, by simp, by simp, by simp⟩
/-- A device in a box. -/
def Boxed (w : World) (g : Nat) (X : DevD) : Prop := ∃ A c A' c', w.heap[g]? = some (.cells #[.slice A X.secs.length c, .slice A' X.cache.length c', .int .i64 X.fuse, .bool X.down] 27) ∧ RdDev w w.heap.size (.agg #[.slice A X.secs.length c, .slice A' X.cache.length c', .int .i64 X.fuse, .bool X.down]) X
theorem Boxed.on {w w' : World} {g : Nat} {X : DevD} (h : Boxed w g X) (hb : Below w.heap.size w w') : Boxed w' g X := by
  obtain ⟨A, c, A', c', h1, h2⟩ := h
  exact ⟨A, c, A', c', box_on h1 hb, h2.on hb⟩
theorem RdDev.parts {w : World} {B : Nat} {v0 v1 : Value} {d : DevD} {f : Int} {b : Bool} (h : RdDev w B (.agg #[v0, v1, .int .i64 f, .bool b]) d) : Reads w B v0 (secsD d.secs) ∧ Reads w B v1 (cacheD d.cache) := by
  obtain ⟨u0, u1, he, h0, h1⟩ := h
  simp at he
  obtain ⟨rfl, rfl, _, _⟩ := he
  exact ⟨h0, h1⟩
/-- Sector i of a device in a box: where it lies, and what it is as a string. -/
def SecAt (w : World) (A : Option Addr) (i : Nat) (l : List UInt8) : Prop := ∃ b off A2 c2, A = some ⟨b, off, none⟩ ∧ w.cell? ⟨b, off + i, none⟩ = some (.slice A2 l.length c2) ∧ (convert 22 9 (.slice A2 l.length c2)).run Try.prog w.drew = .ok (.string ⟨l.toArray⟩) w.drew
def SecQ (w : World) (A : Option Addr) (i : Nat) (l : List UInt8) : Prop := ∃ b off A2 c2, A = some ⟨b, off, none⟩ ∧ w.cell? ⟨b, off + i, none⟩ = some (.slice A2 l.length c2) ∧ ∀ n, (convert 22 9 (.slice A2 l.length c2)).run Try.prog (w.drewN n) = .ok (.string ⟨l.toArray⟩) (w.drewN n)
theorem Reads.secQ {w : World} {A : Option Addr} {n c : Nat} {ls : List (List UInt8)} (h : Reads w w.heap.size (.slice A n c) (secsD ls)) {i : Nat} (hi : i < ls.length) : SecQ w A i ls[i] := by
  obtain ⟨b, off, rfl, _, hc⟩ := h.sec hi
  obtain ⟨A2, c2, h1, h2, _, h4⟩ := hc i hi
  exact ⟨b, off, A2, c2, rfl, h1, fun n => conv_rd (w := w.drewN n) (show Rd (w.drewN n) w.heap.size A2 ls[i] from h4) h2⟩
theorem Reads.secAt {w : World} {A : Option Addr} {n c : Nat} {ls : List (List UInt8)} (h : Reads w w.heap.size (.slice A n c) (secsD ls)) {i : Nat} (hi : i < ls.length) : SecAt w A i ls[i] := by
  obtain ⟨b, off, rfl, _, hc⟩ := h.sec hi
  obtain ⟨A2, c2, h1, h2, _, h4⟩ := hc i hi
  have h5 : Rd w.drew w.heap.size A2 ls[i] := h4
  exact ⟨b, off, A2, c2, rfl, h1, conv_rd h5 h2⟩
def WrAt (w : World) (A : Option Addr) (i : Nat) (p : Int × List UInt8) : Prop := ∃ b off A2 c2, A = some ⟨b, off, none⟩ ∧ w.cell? ⟨b, off + i * 2, none⟩ = some (.int .i64 p.1) ∧ w.cell? ⟨b, off + i * 2 + 1, none⟩ = some (.slice A2 p.2.length c2) ∧ (convert 22 9 (.slice A2 p.2.length c2)).run Try.prog w.drew = .ok (.string ⟨p.2.toArray⟩) w.drew
def WrQ (w : World) (A : Option Addr) (i : Nat) (p : Int × List UInt8) : Prop := ∃ b off A2 c2, A = some ⟨b, off, none⟩ ∧ w.cell? ⟨b, off + i * 2, none⟩ = some (.int .i64 p.1) ∧ w.cell? ⟨b, off + i * 2 + 1, none⟩ = some (.slice A2 p.2.length c2) ∧ ∀ n, (convert 22 9 (.slice A2 p.2.length c2)).run Try.prog (w.drewN n) = .ok (.string ⟨p.2.toArray⟩) (w.drewN n)
theorem Reads.wrQ {w : World} {A : Option Addr} {n c : Nat} {ps : List (Int × List UInt8)} (h : Reads w w.heap.size (.slice A n c) (cacheD ps)) {i : Nat} (hi : i < ps.length) : WrQ w A i ps[i] := by
  obtain ⟨b, off, rfl, _, hc⟩ := h.wr hi
  obtain ⟨h0, A2, c2, h1, h2, _, h4⟩ := hc i hi
  exact ⟨b, off, A2, c2, rfl, h0, h1, fun n => conv_rd (w := w.drewN n) (show Rd (w.drewN n) w.heap.size A2 (ps[i]).2 from h4) h2⟩
theorem Reads.wrAt {w : World} {A : Option Addr} {n c : Nat} {ps : List (Int × List UInt8)} (h : Reads w w.heap.size (.slice A n c) (cacheD ps)) {i : Nat} (hi : i < ps.length) : WrAt w A i ps[i] := by
  obtain ⟨b, off, rfl, _, hc⟩ := h.wr hi
  obtain ⟨h0, A2, c2, h1, h2, _, h4⟩ := hc i hi
  have h5 : Rd w.drew w.heap.size A2 (ps[i]).2 := h4
  exact ⟨b, off, A2, c2, rfl, h0, h1, conv_rd h5 h2⟩
def FallCut (w2 : World) (X : DevD) (s4 : Value) (wx : World) : Prop := ∃ g, s4 = .pointer (some ⟨g, 0, none⟩) ∧ Boxed wx g X ∧ Below w2.heap.size w2 wx
theorem cut_after {w2 w3 : World} {X : DevD} {A A' : Option Addr} {c c' : Nat} (b3 : Below w2.heap.size w2 w3) (h : RdDev w3 w3.heap.size (.agg #[.slice A X.secs.length c, .slice A' X.cache.length c', .int .i64 X.fuse, .bool X.down]) X) :
    FallCut w2 X (.pointer (some ⟨w3.heap.size, 0, none⟩)) (w3.alloc (.cells #[.slice A X.secs.length c, .slice A' X.cache.length c', .int .i64 X.fuse, .bool X.down] 27)) :=
  ⟨_, rfl, ⟨A, c, A', c', al1 _ _, h.on (bal1 _ _)⟩, bstep b3 (bal1 _ _)⟩
theorem past_alloc {w : World} {o : Obj} {x : Nat} (h : (w.alloc o).drew.heap.size ≤ x) : w.heap.size < x := by
  have h2 : (w.alloc o).heap.size ≤ x := h
  rw [World.size_alloc] at h2
  exact h2
theorem cut_before {w2 w3 : World} {X : DevD} {A A' : Option Addr} {c c' g : Nat} {a0 a1 a2 a3 : Value} (hg : w2.heap.size ≤ g) (hq : w3.heap[g]? = some (.cells #[a0, a1, a2, a3] 27)) (b3 : Below w2.heap.size w2 w3) (h : OwnDev w3 (fun x => g < x) (.agg #[.slice A X.secs.length c, .slice A' X.cache.length c', .int .i64 X.fuse, .bool X.down]) X) :
    FallCut w2 X (.pointer (some ⟨g, 0, none⟩)) ((((w3.setCell ⟨g, 0, none⟩ (.slice A X.secs.length c)).setCell ⟨g, 1, none⟩ (.slice A' X.cache.length c')).setCell ⟨g, 2, none⟩ (.int .i64 X.fuse)).setCell ⟨g, 3, none⟩ (.bool X.down)) := by
  have hO : Only (fun x => x = g) w3 ((((w3.setCell ⟨g, 0, none⟩ (.slice A X.secs.length c)).setCell ⟨g, 1, none⟩ (.slice A' X.cache.length c')).setCell ⟨g, 2, none⟩ (.int .i64 X.fuse)).setCell ⟨g, 3, none⟩ (.bool X.down)) := ((((Only.refl (fun x => x = g) w3).setCell rfl _).setCell rfl _).setCell rfl _).setCell rfl _
  exact ⟨g, rfl, ⟨A, c, A', c', box_set (box_set (box_set (box_set hq))), (h.far hO (fun b hb _ hb' => by omega)).rd⟩, b3.trans (hO.below b3.size (fun x hx => by omega))⟩
set_option maxHeartbeats 20000000 in
set_option maxRecDepth 100000 in
theorem falls_walk (a0 : Option Addr) (len0 cap0 : Nat) (z0 : List Int) (w : World) (w0 : CameIn .u8 w a0 len0 cap0 z0) :
    Calls Try.prog 4 #[.slice a0 len0 cap0] w fun e w' => e = .returned (.bool true) ∧ Below w.heap.size w w' := by
  obtain ⟨l, rfl, hr⟩ := w0.rd
  clear w0
  by_cases hbig : l.length ≤ 1048576
  · have d0 : decide ((1048576 : Int) < (l.length : Int)) = false := decide_eq_false (by omega)
    go_enter Try.func4, Try.ntmps4
    go_wp2_with fail
    refine (big_any _ _ _ _).mono ?_
    rintro e w1 ⟨rfl, rfl⟩
    rw [d0]
    go_wp2_with fail
    refine (drawDev_any _ _ l _ hr hbig).mono ?_
    rintro e w1 ⟨v, D, rfl, o1, hD, b1⟩
    obtain ⟨A0, c0, A1, c1, rfl⟩ := o1.rd.shape
    have hb1 := bstep b1 (bal1 w1 (.cells #[.slice A0 D.secs.length c0, .slice A1 D.cache.length c1, .int .i64 D.fuse, .bool D.down] 27))
    have q1 := al1 w1 (.cells #[.slice A0 D.secs.length c0, .slice A1 D.cache.length c1, .int .i64 D.fuse, .bool D.down] 27)
    have R1 := Lib.hid (o1.rd.on (bal1 w1 (.cells #[.slice A0 D.secs.length c0, .slice A1 D.cache.length c1, .int .i64 D.fuse, .bool D.down] 27)))
    have hsm := Lib.hid (drawn_small (m := 7) hD.1)
    have HD := Lib.hid hD
    have OK := Lib.hid hD.1
    have sl : D.secs.length ≤ 7 := hD.2.2.2.2.1
    have cl : D.cache.length ≤ 7 := hD.2.2.2.2.2
    clear b1 o1 hD
    go_upto_region 4 with fail
    generalize w1.alloc (.cells #[.slice A0 D.secs.length c0, .slice A1 D.cache.length c1, .int .i64 D.fuse, .bool D.down] 27) = w2 at *
    generalize w1.heap.size = q at *
    obtain ⟨x0, x1, x2, x3, x4⟩ := box4 q1
    have p2 := atOf_le l 2
    have p3 := atOf_le l 3
    have hqz : q < w2.heap.size := (Array.getElem?_eq_some_iff.1 q1).1
    have Q1 := Lib.hid q1
    have HR := Lib.hid hr
    have HB1 := Lib.hid hb1
    clear q1 hr hb1
    generalize hk2 : atOf l 2 = a2 at p2
    generalize hk3 : atOf l 3 = a3 at p3
    have e1 : IntKind.i64.wrap ((a2 : Int) * 256) = (a2 : Int) * 256 := IntWalk.i64_in _ (by omega)
    have e2 : IntKind.i64.wrap ((a2 : Int) * 256 + (a3 : Int)) = (a2 : Int) * 256 + (a3 : Int) := IntWalk.i64_in _ (by omega)
    have HA2 : Hid (∀ w', Below w.heap.size w w' → Calls Try.prog 17 #[.slice a0 l.length cap0, .int .i64 2] w' fun e w'' => e = .returned (.int .i64 (a2 : Nat)) ∧ w'' = w') := Lib.hid (fun w' hb => hk2 ▸ at_val a0 cap0 l 2 w' (HR.out.on hb) hbig (by omega))
    have HA3 : Hid (∀ w', Below w.heap.size w w' → Calls Try.prog 17 #[.slice a0 l.length cap0, .int .i64 3] w' fun e w'' => e = .returned (.int .i64 (a3 : Nat)) ∧ w'' = w') := Lib.hid (fun w' hb => hk3 ▸ at_val a0 cap0 l 3 w' (HR.out.on hb) hbig (by omega))
    clear hk2 hk3
    have BA : Hid (Below w2.heap.size w2 (w2.alloc (.cells #[.slice none 0 0, .slice none 0 0, .int .i64 0, .bool false] 27)).drew) := Lib.hid ((bal1 w2 (.cells #[.slice none 0 0, .slice none 0 0, .int .i64 0, .bool false] 27)).drew)
    have HBA : Hid (Below w.heap.size w (w2.alloc (.cells #[.slice none 0 0, .slice none 0 0, .int .i64 0, .bool false] 27)).drew) := Lib.hid (bstep HB1.out BA.out)
    have QA : Hid ((w2.alloc (.cells #[.slice none 0 0, .slice none 0 0, .int .i64 0, .bool false] 27)).drew.heap[w2.heap.size]? = some (.cells #[.slice none 0 0, .slice none 0 0, .int .i64 0, .bool false] 27)) := Lib.hid (al1 w2 (.cells #[.slice none 0 0, .slice none 0 0, .int .i64 0, .bool false] 27))
    go_cut [4] (fun s4 wx => FallCut w2 (fallD D ((a2 : Int) * 256 + (a3 : Int))) s4 wx)
    case first =>
      go_region_held3 (fun W => W.cell? ⟨q, 0, none⟩ = some (.slice A0 D.secs.length c0) ∧ W.cell? ⟨q, 1, none⟩ = some (.slice A1 D.cache.length c1) ∧ W.cell? ⟨q, 2, none⟩ = some (.int .i64 D.fuse) ∧ W.cell? ⟨q, 3, none⟩ = some (.bool D.down)) (first | with_reducible exact ⟨g0, g1, g2, g3⟩ | with_reducible exact ⟨far4 hqg g0, far4 hqg g1, far4 hqg g2, far4 hqg g3⟩ | go_keep)
        (first
          | (go_at_call_of 17 (Value.slice a0 l.length cap0); (first | ((with_reducible refine (HA2.out _ (HB1.out.drew)).mono ?_); rintro e _ ⟨rfl, rfl⟩) | ((with_reducible refine (HA3.out _ (HB1.out.drew)).mono ?_); rintro e _ ⟨rfl, rfl⟩) | ((with_reducible refine (HA2.out _ HBA.out).mono ?_); rintro e _ ⟨rfl, rfl⟩) | ((with_reducible refine (HA3.out _ HBA.out).mono ?_); rintro e _ ⟨rfl, rfl⟩) | fail))
          | (go_at_call 22; (first
            | ((with_reducible refine (implFallDev_any _ ((a2 : Int) * 256 + (a3 : Int)) D w2.drew (R1.out.on ((Below.refl _ _).drew)) hsm.out).mono ?_); rintro e w3 ⟨v3, rfl, o3, b3'⟩; have b3 : Below w2.heap.size w2 w3 := (Below.refl _ _).drew.trans b3'; obtain ⟨A3, c3, A4, c4, rfl⟩ := o3.rd.shape; obtain ⟨g0, g1, g2, g3, g4⟩ := box4 (box_on Q1.out b3); have hz3 := b3.size; have hqz3 : q < w3.heap.size := Nat.lt_of_lt_of_le hqz hz3; have FIN := Lib.hid (cut_after b3 o3.rd); clear b3' o3)
            | ((with_reducible refine (implFallDev_any _ ((a2 : Int) * 256 + (a3 : Int)) D (w2.alloc (.cells #[.slice none 0 0, .slice none 0 0, .int .i64 0, .bool false] 27)).drew (R1.out.on BA.out) hsm.out).mono ?_); rintro e w3 ⟨v3, rfl, o3, b3'⟩; have b3 : Below w2.heap.size w2 w3 := bstep BA.out b3'; obtain ⟨A3, c3, A4, c4, rfl⟩ := o3.rd.shape; obtain ⟨g0, g1, g2, g3, g4⟩ := box4 (box_on Q1.out b3); have hqg : q ≠ w2.heap.size := Nat.ne_of_lt hqz; have hbx := box_on QA.out b3'; obtain ⟨k0, k1, k2, k3, k4⟩ := box4 hbx; have FIN := Lib.hid (cut_before (g := w2.heap.size) (Nat.le_refl _) hbx b3 (o3.mono (fun x hx => past_alloc hx))); clear b3' o3 hbx)
            | fail))
          | fail)
      all_goals (go_wp2_with fail; go_meet; exact FIN.out)
    case rest =>
      obtain ⟨g, rfl, BXX, b3⟩ := hcut
      obtain ⟨xs, hX, hxl, hxf⟩ : ∃ xs, fallD D ((a2 : Int) * 256 + (a3 : Int)) = ⟨xs, [], -1, false⟩ ∧ xs.length = D.secs.length ∧ ∀ (i : Nat) (hi : i < D.secs.length) (hi' : i < xs.length), xs[i] = D.secs[i] ∨ ∃ (j : Nat) (hj : j < D.cache.length), (D.cache[j]).1 = (i : Int) ∧ (D.cache[j]).2 = xs[i] :=
        ⟨_, fallD_yes OK.out, appK_length _ _ _ _, fun i hi _ => appK_from _ _ _ _ i hi (fun p hp => (((okD_iff D).1 OK.out).2.2.2.2.1 p hp).1)⟩
      have OKX := Lib.hid (okD_fall (k := (a2 : Int) * 256 + (a3 : Int)) OK.out)
      rw [hX] at BXX OKX
      have HXL := Lib.hid hxl
      have HXF := Lib.hid hxf
      have HZ0 : Hid (fallD D 0 = ⟨D.secs, [], -1, false⟩) := Lib.hid (by rw [fallD_yes OK.out, appK_none _ _ _ _ surv_zero])
      have BX := Lib.hid BXX
      have BB3 := Lib.hid b3
      have hz3 := b3.size
      obtain ⟨y0, y1, y2, y3, y4⟩ := box4 (box_on Q1.out b3)
      have hqc : q < wc.heap.size := by omega
      have hgc : g < wc.heap.size := by obtain ⟨_, _, _, _, h, _⟩ := BXX; exact (Array.getElem?_eq_some_iff.1 h).1
      clear hX hxl hxf BXX b3 e1 e2 HA2 HA3 x0 x1 x2 x3 x4
      go_wp2_with fail
      refine (implFallDev_any _ 0 D _ (R1.out.on BB3.out) hsm.out).mono ?_
      rintro e w4 ⟨v4, rfl, o4, b4⟩
      rw [HZ0.out] at o4
      obtain ⟨A5, c5, A6, c6, rfl⟩ := o4.rd.shape
      have hz4 := b4.size
      have bb := bstep b4 (bal1 w4 (.cells #[.slice A5 D.secs.length c5, .slice A6 0 c6, .int .i64 (-1), .bool false] 27))
      have BZ : Hid (Boxed (w4.alloc (.cells #[.slice A5 D.secs.length c5, .slice A6 0 c6, .int .i64 (-1), .bool false] 27)) w4.heap.size ⟨D.secs, [], -1, false⟩) := Lib.hid ⟨A5, c5, A6, c6, al1 _ _, o4.rd.on (bal1 _ _)⟩
      have BX5 := Lib.hid (BX.out.on bb)
      have BD5 : Hid (Boxed (w4.alloc (.cells #[.slice A5 D.secs.length c5, .slice A6 0 c6, .int .i64 (-1), .bool false] 27)) q D) := Lib.hid ⟨A0, c0, A1, c1, box_on (box_on Q1.out BB3.out) bb, (R1.out.on BB3.out).on bb⟩
      have HB5 := Lib.hid (bstep (bstep HB1.out BB3.out) bb)
      clear y0 y1 y2 y3 y4 o4 b4 bb BX BB3 Q1 R1 HB1
      go_wp2
      generalize w4.alloc (.cells #[.slice A5 D.secs.length c5, .slice A6 0 c6, .int .i64 (-1), .bool false] 27) = w5 at *
      generalize w4.heap.size = h at *
      go_loopw [6, 7, 8] (fun s6 _ _ wr => ∃ i : Nat, i ≤ D.secs.length ∧ s6 = .int .i64 i ∧ Hid (Below w5.heap.size w5 wr)) (fun s6 _ _ _ => D.secs.length - (intOf s6).toNat)
      case atStart => exact ⟨0, Nat.zero_le _, rfl, Lib.hid (Below.refl _ _)⟩
      case round =>
        obtain ⟨i, hi, rfl, HBr⟩ := hrel
        obtain ⟨E0, f0, E1, f1, hqd, rdD⟩ := BD5.out.on HBr.out
        obtain ⟨F0, k0, F1, k1, hqx, rdX⟩ := BX5.out.on HBr.out
        dsimp only at hqx rdX
        obtain ⟨x0, x1, x2, x3, x4⟩ := box4 hqd
        obtain ⟨y0, y1, y2, y3, y4⟩ := box4 hqx
        by_cases hlt : i < D.secs.length
        · have hix : i < xs.length := by rw [HXL.out]; exact hlt
          obtain ⟨b1, o1, A2, c2, rfl, cd, vd⟩ := rdD.parts.1.secAt hlt
          obtain ⟨b2, o2, A3, c3, rfl, cx, vx⟩ := rdX.parts.1.secAt hix
          dsimp only at cx vx
          have i1 : (i : Int) < (D.secs.length : Int) := by omega
          have i2 : (0 : Int) ≤ (i : Int) := by omega
          have i3 : (i : Int) < (xs.length : Int) := by omega
          have HXI := Lib.hid (HXF.out i hlt hix)
          obtain ⟨be, hs⟩ : ∃ be, (xs[i] == D.secs[i]) = be := ⟨_, rfl⟩
          have HBE : Hid (be = false → xs[i] ≠ D.secs[i]) := Lib.hid (fun h => beq_eq_false_iff_ne.1 (hs.trans h))
          have HBd : Hid (Below w5.heap.size w5 wr.drew) := Lib.hid HBr.out.drew
          have HQG : Hid (q < w5.heap.size) := Lib.hid (by obtain ⟨_, _, _, _, h, _⟩ := BD5.out; exact (Array.getElem?_eq_some_iff.1 h).1)
          clear hqd rdD hqx rdX
          go_wp2
          go_still_tail 13, (by kernel_rfl)
          change wpList _ _ _ _ _ wr.drew
          generalize wr.drew = wd at HBd ⊢
          clear x0 x1 x2 x3 x4 y0 y1 y2 y3 y4 cd vd cx vx hs HBr
          go_wp2
          go_loopw [7, 8] (fun s7 s8 wt => ∃ (k : Nat) (m : Bool), k ≤ D.cache.length ∧ s8 = .int .i64 k ∧ s7 = .bool m ∧ Hid (m = false → xs[i] ≠ D.secs[i] ∧ ∀ (j : Nat) (hj : j < D.cache.length), j < k → ¬ ((D.cache[j]).1 = (i : Int) ∧ (D.cache[j]).2 = xs[i])) ∧ Hid (Below w5.heap.size w5 wt)) (fun _ s8 _ => D.cache.length - (intOf s8).toNat)
          case atStart => exact ⟨0, be, Nat.zero_le _, rfl, rfl, Lib.hid (fun h => ⟨HBE.out h, fun j hj h0 => absurd h0 (by omega)⟩), HBd⟩
          case round =>
            obtain ⟨k, m, hk, rfl, rfl, HM, HBr⟩ := hrel
            obtain ⟨E0, f0, E1, f1, hqd, rdD⟩ := BD5.out.on HBr.out
            obtain ⟨F0, k0, F1, k1, hqx, rdX⟩ := BX5.out.on HBr.out
            obtain ⟨G0, n0, G1, n1, hqz, rdZ⟩ := BZ.out.on HBr.out
            dsimp only at hqx rdX hqz rdZ
            obtain ⟨x0, x1, x2, x3, x4⟩ := box4 hqd
            obtain ⟨y0, y1, y2, y3, y4⟩ := box4 hqx
            obtain ⟨t0, t1, t2, t3, t4⟩ := box4 hqz
            have HBd2 : Hid (Below w5.heap.size w5 wr.drew) := Lib.hid HBr.out.drew
            have HBq : Hid (∀ n, Below w5.heap.size w5 (wr.drewN n)) := Lib.hid (fun n => bdrew HBr.out n)
            by_cases hkl : k < D.cache.length
            · obtain ⟨b3, o3, A4, c4, rfl, cn, cb, vb⟩ := rdD.parts.2.wrQ hkl
              obtain ⟨b2, o2, A3, c3, rfl, cx, vx⟩ := rdX.parts.1.secQ hix
              dsimp only at cx vx
              have j1 : (k : Int) < (D.cache.length : Int) := by omega
              have j2 : (0 : Int) ≤ (k : Int) := by omega
              clear hqd rdD hqx rdX hqz rdZ t0 t1 t2 t3 t4
              cases m
              · by_cases hN : (D.cache[k]).1 = (i : Int)
                · have hNb : ((D.cache[k]).1 == (i : Int)) = true := by simpa using hN
                  obtain ⟨be2, hs⟩ : ∃ be2, ((D.cache[k]).2 == xs[i]) = be2 := ⟨_, rfl⟩
                  have NEW : Hid (be2 = false → xs[i] ≠ D.secs[i] ∧ ∀ (j : Nat) (hj : j < D.cache.length), j < k + 1 → ¬ ((D.cache[j]).1 = (i : Int) ∧ (D.cache[j]).2 = xs[i])) := Lib.hid (fun h => ⟨(HM.out rfl).1, fun j hj hjk => by
                    by_cases hjk2 : j = k
                    · subst hjk2; exact fun hh => (beq_eq_false_iff_ne.1 (hs.trans h)) hh.2
                    · exact (HM.out rfl).2 j hj (by omega)⟩)
                  clear hN
                  go_wp2
                  go_quiet (fail)
                  go_wp2
                  go_roundw
                  case rel => exact ⟨k + 1, be2, by omega, by go_num, rfl, NEW, Lib.hid (HBq.out _)⟩
                  case measure => simp [intOf]; omega
                · have hNb : ((D.cache[k]).1 == (i : Int)) = false := by simpa using hN
                  have NEW : Hid (false = false → xs[i] ≠ D.secs[i] ∧ ∀ (j : Nat) (hj : j < D.cache.length), j < k + 1 → ¬ ((D.cache[j]).1 = (i : Int) ∧ (D.cache[j]).2 = xs[i])) := Lib.hid (fun h => ⟨(HM.out rfl).1, fun j hj hjk => by
                    by_cases hjk2 : j = k
                    · subst hjk2; exact fun hh => hN hh.1
                    · exact (HM.out rfl).2 j hj (by omega)⟩)
                  clear hN
                  go_wp2
                  go_quiet (fail)
                  go_wp2
                  go_roundw
                  case rel => exact ⟨k + 1, false, by omega, by go_num, rfl, Lib.hid (fun _ => NEW.out (by trivial)), Lib.hid (HBq.out _)⟩
                  case measure => simp [intOf]; omega
              · go_wp2
                go_quiet (fail)
                go_wp2
                go_roundw
                case rel => exact ⟨k + 1, true, by omega, by go_num, rfl, Lib.hid (fun h => by cases h), Lib.hid (HBq.out _)⟩
                case measure => simp [intOf]; omega
            · obtain ⟨b1, o1, A2, c2, rfl, cd, vd⟩ := rdD.parts.1.secAt hlt
              obtain ⟨b4, o4, A7, c7, rfl, cz, vz⟩ := rdZ.parts.1.secAt (i := i) hlt
              dsimp only at cz vz
              have hmt : m = true := by
                cases m
                · exfalso
                  obtain ⟨h1, h2⟩ := HM.out rfl
                  rcases HXI.out with h | ⟨j, hj, h3, h4⟩
                  · exact h1 h
                  · exact h2 j hj (by omega) ⟨h3, h4⟩
                · rfl
              subst hmt
              have hs2 : (D.secs[i] != D.secs[i]) = false := by simp
              clear hqd rdD hqx rdX hqz rdZ
              go_wp2
              go_still_tail 16, (by kernel_rfl)
              change wpList _ _ _ _ _ wr.drew
              generalize wr.drew = wd2 at HBd2 ⊢
              clear x0 x1 x2 x3 x4 y0 y1 y2 y3 y4 t0 t1 t2 t3 t4 cd vd cz vz
              go_wp2
              go_roundw
              case rel => exact ⟨i + 1, by omega, by go_num, HBd2⟩
              case measure => simp [intOf]; omega
        · have OKX2 := OKX.out
          have RX := Lib.hid rdX
          have HBB := Lib.hid (bstep HB5.out HBr.out)
          have HQX := Lib.hid hqx
          clear hqd rdD hqx rdX OKX2
          have sx : Hid (SmallD ⟨xs, [], -1, false⟩) := Lib.hid (drawn_small (m := 7) OKX.out)
          go_wp2_with fail
          refine (implDevOk_any _ _ _ RX.out sx.out).mono ?_
          rintro e w6 ⟨rfl, b6⟩
          rw [OKX.out]
          have hb6 := bstep HBB.out b6
          clear x0 x1 x2 x3 x4 y0 y1 y2 y3 y4
          obtain ⟨y0, y1, y2, y3, y4⟩ := box4 (box_on HQX.out b6)
          simp only [List.length_nil] at y1
          go_wp2
          go_ret
          exact ⟨rfl, hb6⟩
  · have d0 : decide ((1048576 : Int) < (l.length : Int)) = true := decide_eq_true (by omega)
    go_enter Try.func4, Try.ntmps4
    go_wp2_with fail
    refine (big_any _ _ _ _).mono ?_
    rintro e w1 ⟨rfl, rfl⟩
    rw [d0]
    go_wp2
    go_ret
    exact ⟨rfl, Below.refl _ _⟩
end Go.Proofs.Ytkahjomkjhlkbaa
