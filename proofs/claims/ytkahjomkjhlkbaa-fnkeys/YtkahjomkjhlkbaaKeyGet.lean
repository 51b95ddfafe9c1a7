/- Contracts for impl.GetKey and spec.GetKey: both decode the key at an offset as getK below says, for every argument. Conditions: slices of at most 2^40 bytes. -/
import Derived.Test.YtkahjomkjhlkbaaKeyLaw
import Derived.Test.YtkahjomkjhlkbaaGetW
import Derived.Deep.RegionHeld3
import Derived.IntWalk
namespace Go.Proofs.Ytkahjomkjhlkbaa
open Go.RowKit
set_option maxRecDepth 100000

/-- The key that lies at an offset, if a valid one does. -/
def getK (l : List UInt8) (k : Int) : Option KeyD :=
  if h : 0 ≤ k ∧ k + 6 ≤ (l.length : Int) then
    if keyOkB (l[k.toNat]'(by omega)).toNat (l[k.toNat + 1]'(by omega)).toNat (l[k.toNat + 2]'(by omega)).toNat (l[k.toNat + 3]'(by omega)).toNat (word (l[k.toNat + 4]'(by omega)) (l[k.toNat + 5]'(by omega))) = true
    then some ⟨(l[k.toNat]'(by omega)).toNat, (l[k.toNat + 1]'(by omega)).toNat, (l[k.toNat + 2]'(by omega)).toNat, (l[k.toNat + 3]'(by omega)).toNat, word (l[k.toNat + 4]'(by omega)) (l[k.toNat + 5]'(by omega))⟩ else none
  else none
theorem getK_in {l : List UInt8} {k : Nat} (h : k + 6 ≤ l.length) : getK l k = if keyOkB (l[k]'(by omega)).toNat (l[k + 1]'(by omega)).toNat (l[k + 2]'(by omega)).toNat (l[k + 3]'(by omega)).toNat (word (l[k + 4]'(by omega)) (l[k + 5]'(by omega))) = true
    then some ⟨(l[k]'(by omega)).toNat, (l[k + 1]'(by omega)).toNat, (l[k + 2]'(by omega)).toNat, (l[k + 3]'(by omega)).toNat, word (l[k + 4]'(by omega)) (l[k + 5]'(by omega))⟩ else none := by
  unfold getK
  rw [dif_pos (by omega)]
  rfl
theorem getK_out {l : List UInt8} {k : Int} (h : k < 0 ∨ (l.length : Int) < k + 6) : getK l k = none := by
  unfold getK
  rw [dif_neg (by omega)]
def keyRes (o : Option KeyD) (k : Int) : Value := match o with
  | some q => .tuple #[keyV q.a q.b q.c q.d q.e, .int .i64 (k + 6), .bool true]
  | none => .tuple #[keyV 0 0 0 0 0, .int .i64 0, .bool false]
def SaysGet (w : World) (o : Option KeyD) (k : Int) (r : Ending) (w' : World) : Prop := r = .returned (keyRes o k) ∧ Below w.heap.size w w'
theorem implGetKey_no (A : Option Addr) (cap : Nat) (l : List UInt8) (k : Int) (w : World) (hn : l.length ≤ 1099511627776) (hk : k < 0 ∨ (l.length : Int) < k + 6) :
    Calls Try.prog 40 #[.slice A l.length cap, .int .i64 k] w (SaysGet w (getK l k) k) := by
  rw [getK_out hk]
  by_cases h0 : k < 0
  · have d1 : decide (k < 0) = true := decide_eq_true h0
    clear hk h0
    go_enter Try.func40, Try.ntmps40
    go_wp2
    exact bodyPost_ret (v := keyRes none k) (by simp [results, Try.results40, go_sem, keyRes, keyV]) rfl ⟨rfl, bal1 _ _⟩
  · have d1 : decide (k < 0) = false := decide_eq_false h0
    have d2 : decide ((l.length : Int) - 6 < k) = true := decide_eq_true (by omega)
    clear hk h0
    go_enter Try.func40, Try.ntmps40
    go_wp2
    exact bodyPost_ret (v := keyRes none k) (by simp [results, Try.results40, go_sem, keyRes, keyV]) rfl ⟨rfl, bal1 _ _⟩
theorem specGetKey_no (A : Option Addr) (cap : Nat) (l : List UInt8) (k : Int) (w : World) (hn : l.length ≤ 1099511627776) (hk : k < 0 ∨ (l.length : Int) < k + 6) :
    Calls Try.prog 41 #[.slice A l.length cap, .int .i64 k] w (SaysGet w (getK l k) k) := by
  rw [getK_out hk]
  have hi : inB k 0 ((l.length : Int) - 6) = false := by
    rcases hk with h | h
    · exact inB_f1 h
    · exact inB_f2 (by omega)
  have HI := Lib.hid hi
  clear hi hk
  go_enter Try.func41, Try.ntmps41
  go_wp2_with (go_at_call 76; refine (in_any _ _ _ _).mono ?_; rintro e w' ⟨rfl, rfl⟩; rw [HI.out])
  exact bodyPost_ret (v := keyRes none k) (by simp [results, Try.results41, go_sem, keyRes, keyV]) rfl ⟨rfl, bal1 _ _⟩
set_option maxHeartbeats 2000000 in
theorem implGetKey_yes (A : Option Addr) (cap : Nat) (l : List UInt8) (k : Nat) (w : World) (hr : Rd w w.heap.size A l) (hn : l.length ≤ 1099511627776) (hk : k + 6 ≤ l.length) :
    Calls Try.prog 40 #[.slice A l.length cap, .int .i64 k] w (SaysGet w (getK l k) k) := by
  have HO := Lib.hid (getK_in hk)
  generalize getK l k = o at *
  have HG : Hid (∀ w, Rd w w.heap.size A l → Calls Try.prog 86 #[.slice A l.length cap, .int .i64 ((k : Int) + 4)] w fun e w' => e = .returned (.tuple #[.int .i64 (word (l[k + 4]'(by omega)) (l[k + 5]'(by omega))), .int .i64 ((k : Int) + 6), .bool true]) ∧ ∃ n, w' = w.drewN n) := Lib.hid (by
    intro w hr
    have h := implGetW_yes A cap l (k + 4) w hr hn (by omega)
    rw [show (((k + 4 : Nat) : Int)) + 2 = (k : Int) + 6 by omega, show ((k + 4 : Nat) : Int) = (k : Int) + 4 by omega] at h
    exact h)
  have HR := Lib.hid (hr.on (bal1 w (.cells #[.int .i64 0, .int .i64 0, .int .i64 0, .int .i64 0, .int .i64 0] 45)))
  obtain ⟨b, off, rfl, hb, hc⟩ := hr.at_ (k := k) (by omega)
  have c0 := hc k (by omega)
  have c1 := hc (k + 1) (by omega)
  have c2 := hc (k + 2) (by omega)
  have c3 := hc (k + 3) (by omega)
  clear hc hr
  have i0 : (k : Int) < (l.length : Int) := by omega
  have i1 : (k : Int) + 1 < (l.length : Int) := by omega
  have i2 : (k : Int) + 2 < (l.length : Int) := by omega
  have i3 : (k : Int) + 3 < (l.length : Int) := by omega
  have d1 : decide ((k : Int) < 0) = false := decide_eq_false (by omega)
  have d2 : decide ((l.length : Int) - 6 < (k : Int)) = false := decide_eq_false (by omega)
  obtain ⟨w0, w6⟩ := word_le (l[k + 4]'(by omega)) (l[k + 5]'(by omega))
  generalize word (l[k + 4]'(by omega)) (l[k + 5]'(by omega)) = g at *
  generalize l[k]'(by omega) = x0 at *
  generalize l[k + 1]'(by omega) = x1 at *
  generalize l[k + 2]'(by omega) = x2 at *
  generalize l[k + 3]'(by omega) = x3 at *
  obtain ⟨u0, v0⟩ := u8_le x0
  obtain ⟨u1, v1⟩ := u8_le x1
  obtain ⟨u2, v2⟩ := u8_le x2
  obtain ⟨u3, v3⟩ := u8_le x3
  have HK := Lib.hid (implKeyOk_any x0.toNat x1.toNat x2.toNat x3.toNat g)
  unfold keyV at HK
  have q0 := al1 w (.cells #[.int .i64 0, .int .i64 0, .int .i64 0, .int .i64 0, .int .i64 0] 45)
  have HB := Lib.hid (bal1 w (.cells #[.int .i64 0, .int .i64 0, .int .i64 0, .int .i64 0, .int .i64 0] 45))
  go_enter Try.func40, Try.ntmps40
  go_wp2_with fail
  refine (HG.out _ HR.out).mono ?_
  rintro r w2 ⟨rfl, n, hw2⟩
  have Q2 := Lib.hid (show w2.heap[w.heap.size]? = some (.cells #[.int .i64 0, .int .i64 0, .int .i64 0, .int .i64 0, .int .i64 0] 45) by rw [hw2]; exact q0)
  have B2 := Lib.hid (show Below w.heap.size w w2 by rw [hw2]; exact bdrew HB.out n)
  have hz : w2.heap.size = w.heap.size + 1 := by rw [hw2]; simp [World.drewN]
  have e0 : w2.cell? ⟨b, off + k, none⟩ = some (.int .u8 (x0.toNat : Int)) := (B2.out.cell (p := ⟨b, off + k, none⟩) hb).trans c0
  have e1 : w2.cell? ⟨b, off + (k + 1), none⟩ = some (.int .u8 (x1.toNat : Int)) := (B2.out.cell (p := ⟨b, off + (k + 1), none⟩) hb).trans c1
  have e2 : w2.cell? ⟨b, off + (k + 2), none⟩ = some (.int .u8 (x2.toNat : Int)) := (B2.out.cell (p := ⟨b, off + (k + 2), none⟩) hb).trans c2
  have e3 : w2.cell? ⟨b, off + (k + 3), none⟩ = some (.int .u8 (x3.toNat : Int)) := (B2.out.cell (p := ⟨b, off + (k + 3), none⟩) hb).trans c3
  have hbz : b ≠ w2.heap.size := by omega
  have hbz2 : b < w2.heap.size := by omega
  clear hw2 q0 HR HG HB c0 c1 c2 c3 hb
  have HZ := Lib.hid hz
  clear hz
  go_wp2
  have p0 : IntKind.i64.wrap (x0.toNat : Int) = (x0.toNat : Int) := IntWalk.i64_in _ (by omega)
  have p1 : IntKind.i64.wrap (x1.toNat : Int) = (x1.toNat : Int) := IntWalk.i64_in _ (by omega)
  have p2 : IntKind.i64.wrap (x2.toNat : Int) = (x2.toNat : Int) := IntWalk.i64_in _ (by omega)
  have p3 : IntKind.i64.wrap (x3.toNat : Int) = (x3.toNat : Int) := IntWalk.i64_in _ (by omega)
  have s1 : IntKind.i64.wrap ((k : Int) + 1) = (k : Int) + 1 := IntWalk.i64_in _ (by omega)
  have t1 : (0 : Int) ≤ (k : Int) + 1 := by omega
  have r1 : ((k : Int) + 1).toNat = k + 1 := by omega
  have s2 : IntKind.i64.wrap ((k : Int) + 2) = (k : Int) + 2 := IntWalk.i64_in _ (by omega)
  have t2 : (0 : Int) ≤ (k : Int) + 2 := by omega
  have r2 : ((k : Int) + 2).toNat = k + 2 := by omega
  have s3 : IntKind.i64.wrap ((k : Int) + 3) = (k : Int) + 3 := IntWalk.i64_in _ (by omega)
  have t3 : (0 : Int) ≤ (k : Int) + 3 := by omega
  have r3 : ((k : Int) + 3).toNat = k + 3 := by omega
  go_region_held3 (fun V => V.cell? ⟨b, off + k, none⟩ = some (.int .u8 (x0.toNat : Int)) ∧ V.cell? ⟨b, off + (k + 1), none⟩ = some (.int .u8 (x1.toNat : Int)) ∧ V.cell? ⟨b, off + (k + 2), none⟩ = some (.int .u8 (x2.toNat : Int)) ∧ V.cell? ⟨b, off + (k + 3), none⟩ = some (.int .u8 (x3.toNat : Int))) (simp [go_sem, World.cell?_alloc_past, *]) (fail)
  have BA := Lib.hid ((bal1 w2 (.cells #[.int .i64 (x0.toNat : Int), .int .i64 (x1.toNat : Int), .int .i64 (x2.toNat : Int), .int .i64 (x3.toNat : Int), .int .i64 g] 45)).drew)
  have QA := Lib.hid (al1 w2 (.cells #[.int .i64 (x0.toNat : Int), .int .i64 (x1.toNat : Int), .int .i64 (x2.toNat : Int), .int .i64 (x3.toNat : Int), .int .i64 g] 45))
  have HBZ := Lib.hid hbz2
  clear e0 e1 e2 e3 hbz hbz2 s1 t1 r1 s2 t2 r2 s3 t3 r3 p0 p1 p2 p3
  go_wp2_with fail
  refine (HK.out _).mono ?_
  rintro r w3 ⟨rfl, b3⟩
  have B3 := Lib.hid (bstep B2.out (bstep BA.out b3))
  have q3 := box_on (show (w2.alloc (.cells #[.int .i64 (x0.toNat : Int), .int .i64 (x1.toNat : Int), .int .i64 (x2.toNat : Int), .int .i64 (x3.toNat : Int), .int .i64 g] 45)).drew.heap[w2.heap.size]? = _ from QA.out) b3
  have p3 := box_on (box_on Q2.out BA.out) b3
  obtain ⟨y0, y1, y2, y3, y4, y5⟩ := box5 q3
  obtain ⟨z0, z1, z2, z3, z4, z5⟩ := box5 p3
  have hne : w.heap.size ≠ w2.heap.size := by have := HZ.out; omega
  have HM : Hid (∀ v, Below w.heap.size w v → ∀ c0 c1 c2 c3 c4, Below w.heap.size w (((((v.setCell ⟨w.heap.size, 0, none⟩ c0).setCell ⟨w.heap.size, 1, none⟩ c1).setCell ⟨w.heap.size, 2, none⟩ c2).setCell ⟨w.heap.size, 3, none⟩ c3).setCell ⟨w.heap.size, 4, none⟩ c4)) := Lib.hid (fun v hv c0 c1 c2 c3 c4 => ((((hv.setCell (p := ⟨w.heap.size, 0, none⟩) (Nat.le_refl _) c0).setCell (p := ⟨w.heap.size, 1, none⟩) (Nat.le_refl _) c1).setCell (p := ⟨w.heap.size, 2, none⟩) (Nat.le_refl _) c2).setCell (p := ⟨w.heap.size, 3, none⟩) (Nat.le_refl _) c3).setCell (p := ⟨w.heap.size, 4, none⟩) (Nat.le_refl _) c4)
  clear q3 p3 b3 BA QA B2 Q2 HZ HBZ
  cases hok : keyOkB x0.toNat x1.toNat x2.toNat x3.toNat g
  · have ho : o = none := by rw [HO.out]; simp [hok]
    subst ho
    clear hok HO
    go_wp2
    exact bodyPost_ret (v := keyRes none k) (by simp [results, Try.results40, go_sem, keyRes, keyV, *]) rfl ⟨rfl, HM.out _ B3.out _ _ _ _ _⟩
  · have ho : o = some ⟨x0.toNat, x1.toNat, x2.toNat, x3.toNat, g⟩ := by rw [HO.out]; simp [hok]
    subst ho
    clear hok HO
    go_wp2
    exact bodyPost_ret (v := keyRes (some (KeyD.mk x0.toNat x1.toNat x2.toNat x3.toNat g)) k) (by simp [results, Try.results40, go_sem, keyRes, keyV, *]) rfl ⟨rfl, HM.out _ B3.out _ _ _ _ _⟩
set_option maxHeartbeats 2000000 in
theorem specGetKey_yes (A : Option Addr) (cap : Nat) (l : List UInt8) (k : Nat) (w : World) (hr : Rd w w.heap.size A l) (hn : l.length ≤ 1099511627776) (hk : k + 6 ≤ l.length) :
    Calls Try.prog 41 #[.slice A l.length cap, .int .i64 k] w (SaysGet w (getK l k) k) := by
  have HO := Lib.hid (getK_in hk)
  generalize getK l k = o at *
  have HG : Hid (∀ w, Rd w w.heap.size A l → Calls Try.prog 87 #[.slice A l.length cap, .int .i64 ((k : Int) + 4)] w fun e w' => e = .returned (.tuple #[.int .i64 (word (l[k + 4]'(by omega)) (l[k + 5]'(by omega))), .int .i64 ((k : Int) + 6), .bool true]) ∧ ∃ n, w' = w.drewN n) := Lib.hid (by
    intro w hr
    have h := specGetW_yes A cap l (k + 4) w hr hn (by omega)
    rw [show (((k + 4 : Nat) : Int)) + 2 = (k : Int) + 6 by omega, show ((k + 4 : Nat) : Int) = (k : Int) + 4 by omega] at h
    exact h)
  have HR := Lib.hid (hr.on (bal1 w (.cells #[.int .i64 0, .int .i64 0, .int .i64 0, .int .i64 0, .int .i64 0] 45)))
  obtain ⟨b, off, rfl, hb, hc⟩ := hr.at_ (k := k) (by omega)
  have c0 := hc k (by omega)
  have c1 := hc (k + 1) (by omega)
  have c2 := hc (k + 2) (by omega)
  have c3 := hc (k + 3) (by omega)
  clear hc hr
  have i0 : (k : Int) < (l.length : Int) := by omega
  have i1 : (k : Int) + 1 < (l.length : Int) := by omega
  have i2 : (k : Int) + 2 < (l.length : Int) := by omega
  have i3 : (k : Int) + 3 < (l.length : Int) := by omega
  have HI := Lib.hid (inB_t (x := k) (lo := 0) (hi := (l.length : Int) - 6) (by omega) (by omega))
  obtain ⟨w0, w6⟩ := word_le (l[k + 4]'(by omega)) (l[k + 5]'(by omega))
  generalize word (l[k + 4]'(by omega)) (l[k + 5]'(by omega)) = g at *
  generalize l[k]'(by omega) = x0 at *
  generalize l[k + 1]'(by omega) = x1 at *
  generalize l[k + 2]'(by omega) = x2 at *
  generalize l[k + 3]'(by omega) = x3 at *
  obtain ⟨u0, v0⟩ := u8_le x0
  obtain ⟨u1, v1⟩ := u8_le x1
  obtain ⟨u2, v2⟩ := u8_le x2
  obtain ⟨u3, v3⟩ := u8_le x3
  have HK := Lib.hid (specKeyOk_any x0.toNat x1.toNat x2.toNat x3.toNat g)
  unfold keyV at HK
  have q0 := al1 w (.cells #[.int .i64 0, .int .i64 0, .int .i64 0, .int .i64 0, .int .i64 0] 45)
  have HB := Lib.hid (bal1 w (.cells #[.int .i64 0, .int .i64 0, .int .i64 0, .int .i64 0, .int .i64 0] 45))
  go_enter Try.func41, Try.ntmps41
  go_wp2_with fail
  refine (in_any _ _ _ _).mono ?_
  rintro r w1 ⟨rfl, rfl⟩
  rw [HI.out]
  go_wp2_with fail
  refine (HG.out _ HR.out).mono ?_
  rintro r w2 ⟨rfl, n, hw2⟩
  have Q2 := Lib.hid (show w2.heap[w.heap.size]? = some (.cells #[.int .i64 0, .int .i64 0, .int .i64 0, .int .i64 0, .int .i64 0] 45) by rw [hw2]; exact q0)
  have B2 := Lib.hid (show Below w.heap.size w w2 by rw [hw2]; exact bdrew HB.out n)
  have hz : w2.heap.size = w.heap.size + 1 := by rw [hw2]; simp [World.drewN]
  have e0 : w2.cell? ⟨b, off + k, none⟩ = some (.int .u8 (x0.toNat : Int)) := (B2.out.cell (p := ⟨b, off + k, none⟩) hb).trans c0
  have e1 : w2.cell? ⟨b, off + (k + 1), none⟩ = some (.int .u8 (x1.toNat : Int)) := (B2.out.cell (p := ⟨b, off + (k + 1), none⟩) hb).trans c1
  have e2 : w2.cell? ⟨b, off + (k + 2), none⟩ = some (.int .u8 (x2.toNat : Int)) := (B2.out.cell (p := ⟨b, off + (k + 2), none⟩) hb).trans c2
  have e3 : w2.cell? ⟨b, off + (k + 3), none⟩ = some (.int .u8 (x3.toNat : Int)) := (B2.out.cell (p := ⟨b, off + (k + 3), none⟩) hb).trans c3
  have hbz : b ≠ w2.heap.size := by omega
  have hbz2 : b < w2.heap.size := by omega
  clear hw2 q0 HR HG HB c0 c1 c2 c3 hb
  have HZ := Lib.hid hz
  clear hz
  go_wp2
  have p0 : IntKind.i64.wrap (x0.toNat : Int) = (x0.toNat : Int) := IntWalk.i64_in _ (by omega)
  have p1 : IntKind.i64.wrap (x1.toNat : Int) = (x1.toNat : Int) := IntWalk.i64_in _ (by omega)
  have p2 : IntKind.i64.wrap (x2.toNat : Int) = (x2.toNat : Int) := IntWalk.i64_in _ (by omega)
  have p3 : IntKind.i64.wrap (x3.toNat : Int) = (x3.toNat : Int) := IntWalk.i64_in _ (by omega)
  have s1 : IntKind.i64.wrap ((k : Int) + 1) = (k : Int) + 1 := IntWalk.i64_in _ (by omega)
  have t1 : (0 : Int) ≤ (k : Int) + 1 := by omega
  have r1 : ((k : Int) + 1).toNat = k + 1 := by omega
  have s2 : IntKind.i64.wrap ((k : Int) + 2) = (k : Int) + 2 := IntWalk.i64_in _ (by omega)
  have t2 : (0 : Int) ≤ (k : Int) + 2 := by omega
  have r2 : ((k : Int) + 2).toNat = k + 2 := by omega
  have s3 : IntKind.i64.wrap ((k : Int) + 3) = (k : Int) + 3 := IntWalk.i64_in _ (by omega)
  have t3 : (0 : Int) ≤ (k : Int) + 3 := by omega
  have r3 : ((k : Int) + 3).toNat = k + 3 := by omega
  go_region_held3 (fun V => V.cell? ⟨b, off + k, none⟩ = some (.int .u8 (x0.toNat : Int)) ∧ V.cell? ⟨b, off + (k + 1), none⟩ = some (.int .u8 (x1.toNat : Int)) ∧ V.cell? ⟨b, off + (k + 2), none⟩ = some (.int .u8 (x2.toNat : Int)) ∧ V.cell? ⟨b, off + (k + 3), none⟩ = some (.int .u8 (x3.toNat : Int))) (simp [go_sem, World.cell?_alloc_past, *]) (fail)
  have BA := Lib.hid ((bal1 w2 (.cells #[.int .i64 (x0.toNat : Int), .int .i64 (x1.toNat : Int), .int .i64 (x2.toNat : Int), .int .i64 (x3.toNat : Int), .int .i64 g] 45)).drew)
  have QA := Lib.hid (al1 w2 (.cells #[.int .i64 (x0.toNat : Int), .int .i64 (x1.toNat : Int), .int .i64 (x2.toNat : Int), .int .i64 (x3.toNat : Int), .int .i64 g] 45))
  have HBZ := Lib.hid hbz2
  clear e0 e1 e2 e3 hbz hbz2 s1 t1 r1 s2 t2 r2 s3 t3 r3 p0 p1 p2 p3
  go_wp2_with fail
  refine (HK.out _).mono ?_
  rintro r w3 ⟨rfl, b3⟩
  have B3 := Lib.hid (bstep B2.out (bstep BA.out b3))
  have q3 := box_on (show (w2.alloc (.cells #[.int .i64 (x0.toNat : Int), .int .i64 (x1.toNat : Int), .int .i64 (x2.toNat : Int), .int .i64 (x3.toNat : Int), .int .i64 g] 45)).drew.heap[w2.heap.size]? = _ from QA.out) b3
  have p3 := box_on (box_on Q2.out BA.out) b3
  obtain ⟨y0, y1, y2, y3, y4, y5⟩ := box5 q3
  obtain ⟨z0, z1, z2, z3, z4, z5⟩ := box5 p3
  have hne : w.heap.size ≠ w2.heap.size := by have := HZ.out; omega
  have HM : Hid (∀ v, Below w.heap.size w v → ∀ c0 c1 c2 c3 c4, Below w.heap.size w (((((v.setCell ⟨w.heap.size, 0, none⟩ c0).setCell ⟨w.heap.size, 1, none⟩ c1).setCell ⟨w.heap.size, 2, none⟩ c2).setCell ⟨w.heap.size, 3, none⟩ c3).setCell ⟨w.heap.size, 4, none⟩ c4)) := Lib.hid (fun v hv c0 c1 c2 c3 c4 => ((((hv.setCell (p := ⟨w.heap.size, 0, none⟩) (Nat.le_refl _) c0).setCell (p := ⟨w.heap.size, 1, none⟩) (Nat.le_refl _) c1).setCell (p := ⟨w.heap.size, 2, none⟩) (Nat.le_refl _) c2).setCell (p := ⟨w.heap.size, 3, none⟩) (Nat.le_refl _) c3).setCell (p := ⟨w.heap.size, 4, none⟩) (Nat.le_refl _) c4)
  clear q3 p3 b3 BA QA B2 Q2 HZ HBZ
  cases hok : keyOkB x0.toNat x1.toNat x2.toNat x3.toNat g
  · have ho : o = none := by rw [HO.out]; simp [hok]
    subst ho
    clear hok HO
    go_wp2
    exact bodyPost_ret (v := keyRes none k) (by simp [results, Try.results41, go_sem, keyRes, keyV, *]) rfl ⟨rfl, HM.out _ B3.out _ _ _ _ _⟩
  · have ho : o = some ⟨x0.toNat, x1.toNat, x2.toNat, x3.toNat, g⟩ := by rw [HO.out]; simp [hok]
    subst ho
    clear hok HO
    go_wp2
    exact bodyPost_ret (v := keyRes (some (KeyD.mk x0.toNat x1.toNat x2.toNat x3.toNat g)) k) (by simp [results, Try.results41, go_sem, keyRes, keyV, *]) rfl ⟨rfl, HM.out _ B3.out _ _ _ _ _⟩
theorem implGetKey_any (A : Option Addr) (cap : Nat) (l : List UInt8) (k : Int) (w : World) (hr : Rd w w.heap.size A l) (hn : l.length ≤ 1099511627776) :
    Calls Try.prog 40 #[.slice A l.length cap, .int .i64 k] w (SaysGet w (getK l k) k) := by
  by_cases hk : 0 ≤ k ∧ k + 6 ≤ (l.length : Int)
  · obtain ⟨j, rfl⟩ := Int.eq_ofNat_of_zero_le hk.1
    exact implGetKey_yes A cap l j w hr hn (by have := hk.2; omega)
  · exact implGetKey_no A cap l k w hn (by omega)
theorem specGetKey_any (A : Option Addr) (cap : Nat) (l : List UInt8) (k : Int) (w : World) (hr : Rd w w.heap.size A l) (hn : l.length ≤ 1099511627776) :
    Calls Try.prog 41 #[.slice A l.length cap, .int .i64 k] w (SaysGet w (getK l k) k) := by
  by_cases hk : 0 ≤ k ∧ k + 6 ≤ (l.length : Int)
  · obtain ⟨j, rfl⟩ := Int.eq_ofNat_of_zero_le hk.1
    exact specGetKey_yes A cap l j w hr hn (by have := hk.2; omega)
  · exact specGetKey_no A cap l k w hn (by omega)
end Go.Proofs.Ytkahjomkjhlkbaa
