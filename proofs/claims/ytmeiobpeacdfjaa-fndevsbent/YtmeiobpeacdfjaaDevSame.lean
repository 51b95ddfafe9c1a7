/- The contract of laws.sameDev at two devices that read the same: it returns true. Conditions: no slice holds more than 2^20 elements. -/
import Derived.Test.YtmeiobpeacdfjaaFalls
namespace Go.Proofs.Ytmeiobpeacdfjaa
open Go.RowKit
set_option maxRecDepth 100000
set_option linter.unusedSimpArgs false
set_option linter.unusedVariables false

set_option maxHeartbeats 4000000 in
theorem sameDev_same (v u : Value) (d : DevD) (w : World) (hv : RdDev w w.heap.size v d) (hu : RdDev w w.heap.size u d) (hs : SmallD d) : Calls Try.prog 22 #[v, u] w (SaysB w true) := by
  obtain ⟨A0, c0, A1, c1, rfl⟩ := hv.shape
  obtain ⟨A2, c2, A3, c3, rfl⟩ := hu.shape
  obtain ⟨q0, q1⟩ := al2 w (.cells #[.slice A0 d.secs.length c0, .slice A1 d.cache.length c1, .int .i64 d.fuse, .bool d.down] 27) (.cells #[.slice A2 d.secs.length c2, .slice A3 d.cache.length c3, .int .i64 d.fuse, .bool d.down] 27)
  have b0 := bal2 w (.cells #[.slice A0 d.secs.length c0, .slice A1 d.cache.length c1, .int .i64 d.fuse, .bool d.down] 27) (.cells #[.slice A2 d.secs.length c2, .slice A3 d.cache.length c3, .int .i64 d.fuse, .bool d.down] 27)
  have RV := Lib.hid (hv.on b0)
  have RU := Lib.hid (hu.on b0)
  have B0 := Lib.hid b0
  have Q0 := Lib.hid q0
  have Q1 := Lib.hid q1
  have sl : d.secs.length ≤ 1048576 := hs.1
  have cl : d.cache.length ≤ 1048576 := hs.2.1
  clear hv hu hs b0 q0 q1
  go_enter Try.func22, Try.ntmps22
  go_upto_region 1 with (fail)
  generalize (w.alloc (.cells #[.slice A0 d.secs.length c0, .slice A1 d.cache.length c1, .int .i64 d.fuse, .bool d.down] 27)).alloc (.cells #[.slice A2 d.secs.length c2, .slice A3 d.cache.length c3, .int .i64 d.fuse, .bool d.down] 27) = W0 at *
  obtain ⟨x0, x1, x2, x3, x4⟩ := box4 Q0.out
  obtain ⟨y0, y1, y2, y3, y4⟩ := box4 Q1.out
  go_wp2
  clear x0 x1 x2 x3 x4 y0 y1 y2 y3 y4
  go_loopw [5] (fun i wr => ∃ k : Nat, k ≤ d.secs.length ∧ i = .int .i64 k ∧ Hid (Below W0.heap.size W0 wr)) (fun i _ => d.secs.length - (intOf i).toNat)
  case atStart => exact ⟨0, Nat.zero_le _, rfl, Lib.hid (Below.refl _ _)⟩
  case round =>
    obtain ⟨k, hk, rfl, HBr⟩ := hrel
    obtain ⟨x0, x1, x2, x3, x4⟩ := box4 (box_on Q0.out HBr.out)
    obtain ⟨y0, y1, y2, y3, y4⟩ := box4 (box_on Q1.out HBr.out)
    have HBq : Hid (∀ n, Below W0.heap.size W0 (wr.drewN n)) := Lib.hid (fun n => bdrew HBr.out n)
    by_cases hlt : k < d.secs.length
    · obtain ⟨b1, o1, A4, c4, rfl, cd, vd⟩ := (RV.out.on HBr.out).parts.1.secQ hlt
      obtain ⟨b2, o2, A5, c5, rfl, cx, vx⟩ := (RU.out.on HBr.out).parts.1.secQ hlt
      have i1 : (k : Int) < (d.secs.length : Int) := by omega
      have i2 : (0 : Int) ≤ (k : Int) := by omega
      go_wp2
      go_quiet (fail)
      go_wp2
      go_roundw
      case rel => exact ⟨k + 1, by omega, by go_num, Lib.hid (HBq.out _)⟩
      case measure => simp [intOf]; omega
    · go_wp2
      clear x0 x1 x2 x3 x4 y0 y1 y2 y3 y4 HBq
      go_loopw [6] (fun i ws => ∃ k : Nat, k ≤ d.cache.length ∧ i = .int .i64 k ∧ Hid (Below W0.heap.size W0 ws)) (fun i _ => d.cache.length - (intOf i).toNat)
      case atStart => exact ⟨0, Nat.zero_le _, rfl, HBr⟩
      case round =>
        clear HBr
        obtain ⟨j, hj, rfl, HBr⟩ := hrel
        obtain ⟨x0, x1, x2, x3, x4⟩ := box4 (box_on Q0.out HBr.out)
        obtain ⟨y0, y1, y2, y3, y4⟩ := box4 (box_on Q1.out HBr.out)
        rename_i ws _
        by_cases hjl : j < d.cache.length
        · obtain ⟨b1, o1, A4, c4, rfl, cn, cb, vb⟩ := (RV.out.on HBr.out).parts.2.wrQ hjl
          obtain ⟨b2, o2, A5, c5, rfl, cn2, cb2, vb2⟩ := (RU.out.on HBr.out).parts.2.wrQ hjl
          have i1 : (j : Int) < (d.cache.length : Int) := by omega
          have i2 : (0 : Int) ≤ (j : Int) := by omega
          go_wp2
          go_quiet (fail)
          go_wp2
          go_roundw
          case rel => exact ⟨j + 1, by omega, by go_num, Lib.hid (bdrew HBr.out _)⟩
          case measure => simp [intOf]; omega
        · go_wp2
          go_ret
          exact ⟨rfl, bstep B0.out HBr.out⟩
end Go.Proofs.Ytmeiobpeacdfjaa
