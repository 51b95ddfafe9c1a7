/- Contract for laws.markText: it answers the text markT of its number. Condition: the number lies from 0 to 2^51. -/
import Derived.Test.YtcimpcocgmlmoaaCellLaw
import Derived.Test.YtcimpcocgmlmoaaConv
namespace Go.Proofs.Ytcimpcocgmlmoaa
open Go.RowKit
set_option maxRecDepth 100000
set_option linter.unusedSimpArgs false
set_option linter.unusedVariables false

def digitT (k : Int) : UInt8 := UInt8.ofNat (48 + k % 10).toNat
def markGo : Nat → Int → ByteArray → ByteArray
  | 0, _, o => o
  | n + 1, k, o => if 0 < k then markGo n (k / 10) (⟨[digitT k].toArray⟩ ++ o) else o
def markT (k : Int) : ByteArray := if k ≤ 0 then ⟨#[109, 48]⟩ else ⟨#[109]⟩ ++ markGo 20 k ⟨#[]⟩
theorem digit_nat (k : Int) (h : 0 ≤ k) : ((digitT k).toNat : Int) = 48 + k % 10 := by
  have h1 := Int.emod_nonneg k (show (10 : Int) ≠ 0 by omega)
  have h2 := Int.emod_lt_of_pos k (show (0 : Int) < 10 by omega)
  unfold digitT
  simp
  omega
theorem conv_digit (W : World) (k : Int) (h : 0 ≤ k) : (convert 73 9 (.slice (some ⟨W.heap.size, 0, none⟩) 1 1)).run Try.prog (W.alloc (.cells #[.int .u8 (48 + k % 10)] 5)) = .ok (.string ⟨[digitT k].toArray⟩) (W.alloc (.cells #[.int .u8 (48 + k % 10)] 5)) := by
  refine conv_at _ _ 0 1 1 [digitT k] rfl (fun j hj => ?_)
  simp at hj
  subst hj
  rw [cell_of_row _ _ _ _ _ _ (heap_alloc_new W _)]
  simp [digit_nat k h]
theorem markText_any (k : Int) (w : World) (h0 : 0 ≤ k) (h1 : k ≤ 2251799813685248) : Calls Try.prog 55 #[.int .i64 k] w fun e w' => e = .returned (.string (markT k)) ∧ Below w.heap.size w w' := by
  by_cases hz : k ≤ 0
  · have e : markT k = ⟨#[109, 48]⟩ := by unfold markT; simp [hz]
    rw [e]
    go_enter Try.func55, Try.ntmps55
    go_wp2
    go_ret
    exact ⟨rfl, Below.refl _ _⟩
  · obtain ⟨R, hR⟩ : ∃ R, R = markGo 20 k ⟨#[]⟩ := ⟨_, rfl⟩
    have e : markT k = ⟨#[109]⟩ ++ R := by unfold markT; rw [hR]; simp [hz]
    rw [e]
    have HR := Lib.hid hR
    clear hR e
    have hbig : k < (10 : Int) ^ 20 := Int.lt_of_le_of_lt h1 (by decide)
    go_enter Try.func55, Try.ntmps55
    go_wp2
    go_loopw [0, 3] (fun q o wr => ∃ (n : Nat) (m : Int) (s : ByteArray), q = .int .i64 m ∧ o = .string s ∧ 0 ≤ m ∧ m ≤ 2251799813685248 ∧ s.size + n = 20 ∧ m < 10 ^ n ∧ Hid (R = markGo n m s) ∧ Hid (Below w.heap.size w wr)) (fun q _ _ => (intOf q).toNat)
    case atStart => exact ⟨20, k, ⟨#[]⟩, rfl, rfl, h0, h1, rfl, hbig, HR, Lib.hid (Below.refl _ _)⟩
    case round =>
      obtain ⟨n, m, s, rfl, rfl, m0, m1, hs, hm, HM, HB⟩ := hrel
      by_cases hp : 0 < m
      · obtain ⟨n, rfl⟩ : ∃ n', n = n' + 1 := by
          cases n with
          | zero => simp at hm; omega
          | succ n => exact ⟨n, rfl⟩
        have d1 := Int.emod_nonneg m (show (10 : Int) ≠ 0 by omega)
        have d2 := Int.emod_lt_of_pos m (show (0 : Int) < 10 by omega)
        have hcv := conv_digit wr m m0
        go_wp2
        go_roundw
        case rel =>
          refine ⟨n, m / 10, _, rfl, rfl, by omega, by omega, ?_, ?_, Lib.hid ?_, Lib.hid (HB.out.alloc HB.out.size _)⟩
          · rw [ByteArray.size_append]
            have : (⟨[digitT m].toArray⟩ : ByteArray).size = 1 := rfl
            omega
          · rw [Int.pow_succ] at hm
            omega
          · rw [HM.out, markGo, if_pos hp]
        case measure => simp [intOf]; omega
      · have e : R = s := by
          rw [HM.out]
          cases n with
          | zero => rfl
          | succ n => rw [markGo, if_neg hp]
        subst e
        go_wp2
        go_ret
        exact ⟨rfl, HB.out⟩
end Go.Proofs.Ytcimpcocgmlmoaa
