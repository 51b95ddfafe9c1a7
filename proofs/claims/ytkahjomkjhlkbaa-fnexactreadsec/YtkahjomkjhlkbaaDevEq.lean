/- Contracts for comparing devices: laws.eqByteSS, eqWr, eqWrS, eqDev return true for two values that read alike. Conditions: no slice holds more than 2^20 elements. -/
import Derived.Test.YtkahjomkjhlkbaaDevD
import Derived.StillTailTactics
namespace Go.Proofs.Ytkahjomkjhlkbaa
open Go.RowKit
set_option maxRecDepth 100000

theorem eqByteSS_same (v u : Value) (ls : List (List UInt8)) (w : World) (hv : Reads w w.heap.size v (secsD ls)) (hu : Reads w w.heap.size u (secsD ls)) (hn : ls.length ≤ 1048576) (hs : ∀ l ∈ ls, l.length ≤ 1048576) :
    Calls Try.prog 94 #[v, u] w fun e w' => e = .returned (.bool true) ∧ Below w.heap.size w w' := by
  obtain ⟨A, c, rfl, _, _⟩ := hv.len
  obtain ⟨A', c', rfl, _, _⟩ := hu.len
  have hne : ((ls.length : Int) != (ls.length : Int)) = false := by simp
  go_enter Try.func94, Try.ntmps94
  go_wp2
  go_loopw [5] (fun i wr => ∃ k : Nat, k ≤ ls.length ∧ i = .int .i64 k ∧ Below w.heap.size w wr) (fun i _ => ls.length - (intOf i).toNat)
  case atStart => exact ⟨0, Nat.zero_le _, rfl, Below.refl _ _⟩
  case round =>
    obtain ⟨k, hk, rfl, hb⟩ := hrel
    by_cases hlt : k < ls.length
    · obtain ⟨b, off, rfl, hbb, hc⟩ := (hv.on hb).sec hlt
      obtain ⟨b2, off2, rfl, hbb2, hc2⟩ := (hu.on hb).sec hlt
      obtain ⟨A1, d1, c1, _, _, r1⟩ := hc k hlt
      obtain ⟨A2, d2, c2, _, _, r2⟩ := hc2 k hlt
      have hl := hs ls[k] (List.getElem_mem _)
      have H := Lib.hid (eqByteS_any A1 A2 d1 d2 ls[k] ls[k])
      clear hc hc2 hv hu hs
      have i1 : (k : Int) < (ls.length : Int) := by omega
      have i2 : (0 : Int) ≤ (k : Int) := by omega
      go_wp2
      go_still_tail 8, (by kernel_rfl)
      change wpList _ _ _ _ _ wr.drew
      have hb1 := hb.drew
      have q1 : Rd wr.drew wr.drew.heap.size A1 ls[k] := r1
      have q2 : Rd wr.drew wr.drew.heap.size A2 ls[k] := r2
      clear r1 r2
      generalize wr.drew = wd at hb1 q1 q2 ⊢
      go_wp2_with fail
      refine (H.out _ q1 q2 (by omega) (by omega)).mono ?_
      rintro e _ ⟨rfl, n1, rfl⟩
      rw [beq_self_eq_true]
      have hb2 := bdrew hb1 n1
      go_wp2
      go_roundw
      case rel => exact ⟨k + 1, by omega, by go_num, hb2⟩
      case measure => simp [intOf]; omega
    · go_wp2
      go_ret
      exact ⟨rfl, hb⟩

theorem eqWr_same (n : Int) (A1 A2 : Option Addr) (c1 c2 : Nat) (l : List UInt8) (w : World) (h1 : Rd w w.heap.size A1 l) (h2 : Rd w w.heap.size A2 l) (hl : l.length ≤ 1048576) :
    Calls Try.prog 109 #[.agg #[.int .i64 n, .slice A1 l.length c1], .agg #[.int .i64 n, .slice A2 l.length c2]] w fun e w' => e = .returned (.bool true) ∧ Below w.heap.size w w' := by
  have hne : (n != n) = false := by simp
  have HB := Lib.hid (((Below.refl w.heap.size w).alloc (Nat.le_refl _) (.cells #[.int .i64 n, .slice A1 l.length c1] 36)).alloc (by simp) (.cells #[.int .i64 n, .slice A2 l.length c2] 36))
  have H := Lib.hid (eqByteS_any A1 A2 c1 c2 l l _ (h1.on HB.out) (h2.on HB.out) (by omega) (by omega))
  clear h1 h2
  go_enter Try.func109, Try.ntmps109
  go_wp2_with fail
  refine H.out.mono ?_
  rintro e _ ⟨rfl, n1, rfl⟩
  rw [beq_self_eq_true]
  have hb2 := bdrew HB.out n1
  go_wp2
  go_ret
  exact ⟨rfl, hb2⟩
theorem eqWrS_same (v u : Value) (ps : List (Int × List UInt8)) (w : World) (hv : Reads w w.heap.size v (cacheD ps)) (hu : Reads w w.heap.size u (cacheD ps)) (hn : ps.length ≤ 1048576) (hs : ∀ p ∈ ps, p.2.length ≤ 1048576) :
    Calls Try.prog 95 #[v, u] w fun e w' => e = .returned (.bool true) ∧ Below w.heap.size w w' := by
  obtain ⟨A, c, rfl, _, _⟩ := hv.len
  obtain ⟨A', c', rfl, _, _⟩ := hu.len
  have hne : ((ps.length : Int) != (ps.length : Int)) = false := by simp
  go_enter Try.func95, Try.ntmps95
  go_wp2
  go_loopw [5] (fun i wr => ∃ k : Nat, k ≤ ps.length ∧ i = .int .i64 k ∧ Below w.heap.size w wr) (fun i _ => ps.length - (intOf i).toNat)
  case atStart => exact ⟨0, Nat.zero_le _, rfl, Below.refl _ _⟩
  case round =>
    obtain ⟨k, hk, rfl, hb⟩ := hrel
    by_cases hlt : k < ps.length
    · obtain ⟨b, off, rfl, hbb, hc⟩ := (hv.on hb).wr hlt
      obtain ⟨b2, off2, rfl, hbb2, hc2⟩ := (hu.on hb).wr hlt
      obtain ⟨c0, A1, d1, c1, _, _, r1⟩ := hc k hlt
      obtain ⟨c3, A2, d2, c2, _, _, r2⟩ := hc2 k hlt
      have hl := hs ps[k] (List.getElem_mem _)
      have H := Lib.hid (eqWr_same (ps[k]).1 A1 A2 d1 d2 (ps[k]).2)
      clear hc hc2 hv hu hs
      have i1 : (k : Int) < (ps.length : Int) := by omega
      have i2 : (0 : Int) ≤ (k : Int) := by omega
      go_wp2
      go_still_tail 8, (by kernel_rfl)
      change wpList _ _ _ _ _ wr.drew
      have hb1 := hb.drew
      have q1 : Rd wr.drew wr.drew.heap.size A1 (ps[k]).2 := r1
      have q2 : Rd wr.drew wr.drew.heap.size A2 (ps[k]).2 := r2
      clear r1 r2
      generalize wr.drew = wd at hb1 q1 q2 ⊢
      go_wp2_with fail
      refine (H.out _ q1 q2 hl).mono ?_
      rintro e w2 ⟨rfl, b2⟩
      have hb2 := hb1.trans (b2.mono hb1.size)
      go_wp2
      go_roundw
      case rel => exact ⟨k + 1, by omega, by go_num, hb2⟩
      case measure => simp [intOf]; omega
    · go_wp2
      go_ret
      exact ⟨rfl, hb⟩
theorem eqDev_same (v u : Value) (d : DevD) (w : World) (hv : RdDev w w.heap.size v d) (hu : RdDev w w.heap.size u d) (hs : SmallD d) :
    Calls Try.prog 50 #[v, u] w fun e w' => e = .returned (.bool true) ∧ Below w.heap.size w w' := by
  obtain ⟨v0, v1, rfl, hv0, hv1⟩ := hv
  obtain ⟨u0, u1, rfl, hu0, hu1⟩ := hu
  obtain ⟨s1, s2, s3, s4⟩ := hs
  have HB := Lib.hid (((Below.refl w.heap.size w).alloc (Nat.le_refl _) (.cells #[v0, v1, .int .i64 d.fuse, .bool d.down] 27)).alloc (by simp) (.cells #[u0, u1, .int .i64 d.fuse, .bool d.down] 27))
  have H0 := Lib.hid (eqByteSS_same v0 u0 d.secs _ (hv0.on HB.out) (hu0.on HB.out) s1 s3)
  have hf : (d.fuse != d.fuse) = false := by simp
  have hd : (d.down != d.down) = false := by simp
  have HV := Lib.hid (hv1.on HB.out)
  have HU := Lib.hid (hu1.on HB.out)
  have HE := Lib.hid (eqWrS_same v1 u1 d.cache)
  obtain ⟨_, _, rfl, _, _⟩ := hv0.len
  obtain ⟨_, _, rfl, _, _⟩ := hv1.len
  obtain ⟨_, _, rfl, _, _⟩ := hu0.len
  obtain ⟨_, _, rfl, _, _⟩ := hu1.len
  have S4 := Lib.hid s4
  clear hv0 hv1 hu0 hu1 s1 s3 s4
  go_enter Try.func50, Try.ntmps50
  go_wp2_with fail
  refine H0.out.mono ?_
  rintro e w1 ⟨rfl, b1⟩
  have hb1 := bstep HB.out b1
  have K1 := HV.out.on b1
  have K2 := HU.out.on b1
  obtain ⟨k1, k2⟩ := bcell b1
  go_wp2_with fail
  refine (HE.out _ K1 K2 s2 S4.out).mono ?_
  rintro e w2 ⟨rfl, b2⟩
  have hb2 := bstep hb1 b2
  obtain ⟨k3, k4⟩ := bcell (b1.trans (b2.mono b1.size))
  clear k1 k2
  go_wp2
  go_ret
  exact ⟨rfl, hb2⟩
end Go.Proofs.Ytkahjomkjhlkbaa
