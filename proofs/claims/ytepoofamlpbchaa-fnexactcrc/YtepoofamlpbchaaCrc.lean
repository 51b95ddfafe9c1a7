/- Contracts for the checksum: impl.crcByte, impl.Crc and spec.Crc compute the function crcOf below, for every slice; two inputs that differ in one byte have different checksums. Conditions: slices of at most 2^40 bytes. -/
import Derived.Test.YtepoofamlpbchaaBytes
import Derived.Laws.BitsAllLaws
import Derived.Laws.BitsLemmas
namespace Go.Proofs.Ytepoofamlpbchaa
open Go.RowKit

/-- One bit of the register. -/
def st (y : Nat) : Nat := if y % 2 = 1 then y / 2 ^^^ 2197175160 else y / 2
def sts (y : Nat) : Nat → Nat
  | 0 => y
  | k + 1 => st (sts y k)
def cb (x : Nat) (c : UInt8) : Nat := sts (x ^^^ c.toNat) 8
def reg (l : List UInt8) : Nat := l.foldl cb 4294967295
def crcOf (l : List UInt8) : Nat := 4294967295 ^^^ reg l

theorem xor_lt {a b : Nat} (ha : a < 4294967296) (hb : b < 4294967296) : a ^^^ b < 4294967296 := Nat.xor_lt_two_pow (n := 32) ha hb
theorem st_odd {y : Nat} (h : y % 2 = 1) : st y = y / 2 ^^^ 2197175160 := by unfold st; rw [if_pos h]
theorem st_even {y : Nat} (h : ¬ y % 2 = 1) : st y = y / 2 := by unfold st; rw [if_neg h]
theorem st_lt {y : Nat} (h : y < 4294967296) : st y < 4294967296 := by
  by_cases e : y % 2 = 1
  · rw [st_odd e]; exact xor_lt (by omega) (by omega)
  · rw [st_even e]; omega
theorem sts_lt {y : Nat} (h : y < 4294967296) (k : Nat) : sts y k < 4294967296 := by
  induction k with
  | zero => exact h
  | succ k ih => exact st_lt ih
theorem u8_lt32 (c : UInt8) : c.toNat < 4294967296 := by have := UInt8.toNat_lt c; omega
theorem cb_lt {x : Nat} (h : x < 4294967296) (c : UInt8) : cb x c < 4294967296 := sts_lt (xor_lt h (u8_lt32 c)) 8
theorem fold_lt (l : List UInt8) : ∀ x, x < 4294967296 → l.foldl cb x < 4294967296 := by
  induction l with
  | nil => intro x h; exact h
  | cons c l ih => intro x h; exact ih _ (cb_lt h c)
theorem reg_lt (l : List UInt8) : reg l < 4294967296 := fold_lt l _ (by omega)
theorem crcOf_lt (l : List UInt8) : crcOf l < 4294967296 := xor_lt (by omega) (reg_lt l)
theorem reg_succ (l : List UInt8) (k : Nat) (h : k < l.length) : reg (l.take (k + 1)) = cb (reg (l.take k)) l[k] := by
  rw [take_succ' l k h, reg, List.foldl_append]; rfl

theorem and32 (y : Nat) (h : y < 4294967296) : bits .and .u32 (y : Int) 1 = ((y % 2 : Nat) : Int) := by
  rw [← nat_mask1]; exact u32_and_nat y 1 h (by omega)
theorem odd32 {y : Nat} (h : y < 4294967296) (e : y % 2 = 1) : (bits .and .u32 (y : Int) 1 == 1) = true := by rw [and32 y h, e]; rfl
theorem even32 {y : Nat} (h : y < 4294967296) (e : ¬ y % 2 = 1) : (bits .and .u32 (y : Int) 1 == 1) = false := by
  rw [and32 y h, beq_eq_false_iff_ne]; omega
theorem step32 {y : Nat} (h : y < 4294967296) (e : y % 2 = 1) : bits .xor .u32 ((y : Int) / 2) 2197175160 = ((st y : Nat) : Int) := by
  rw [st_odd e]
  exact u32_xor_nat (y / 2) 2197175160 (by omega) (by omega)
theorem ofInt64' (a : Nat) (ha : a < 9223372036854775808) : (BitVec.ofInt 64 (a : Int)).toNat = a := by
  rw [BitVec.ofInt_natCast, BitVec.toNat_ofNat]; exact Nat.mod_eq_of_lt (by omega)
theorem xor64 (a b : Nat) (ha : a < 4294967296) (hb : b < 4294967296) : bits .xor .i64 (a : Int) (b : Int) = ((a ^^^ b : Nat) : Int) := by
  have hx : a ^^^ b < 4294967296 := xor_lt ha hb
  show IntKind.i64.wrap ((BitVec.ofInt 64 (a : Int) ^^^ BitVec.ofInt 64 (b : Int)).toNat : Int) = _
  rw [BitVec.toNat_xor, ofInt64' a (by omega), ofInt64' b (by omega), IntKind.wrap_i64]
  omega
theorem and64 (y : Nat) (h : y < 4294967296) : bits .and .i64 (y : Int) 1 = ((y % 2 : Nat) : Int) := by
  show IntKind.i64.wrap ((BitVec.ofInt 64 (y : Int) &&& BitVec.ofInt 64 ((1 : Nat) : Int)).toNat : Int) = _
  rw [BitVec.toNat_and, ofInt64' y (by omega), ofInt64' 1 (by omega), nat_mask1, IntKind.wrap_i64]
  omega
theorem odd64 {y : Nat} (h : y < 4294967296) (e : y % 2 = 1) : (bits .and .i64 (y : Int) 1 == 1) = true := by rw [and64 y h, e]; rfl
theorem even64 {y : Nat} (h : y < 4294967296) (e : ¬ y % 2 = 1) : (bits .and .i64 (y : Int) 1 == 1) = false := by
  rw [and64 y h, beq_eq_false_iff_ne]; omega
theorem step64 {y : Nat} (h : y < 4294967296) (e : y % 2 = 1) : bits .xor .i64 ((y : Int) / 2) 2197175160 = ((st y : Nat) : Int) := by
  rw [st_odd e]
  exact xor64 (y / 2) 2197175160 (by omega) (by omega)
theorem half {y : Nat} (e : ¬ y % 2 = 1) : (y : Int) / 2 = ((st y : Nat) : Int) := by rw [st_even e]; omega
theorem val_int {k : IntKind} {a b : Int} (h : a = b) : Value.int k a = .int k b := by rw [h]

theorem crcByte_any (x : Nat) (c : UInt8) (w : World) (hx : x < 4294967296) :
    Calls Try.prog 42 #[.int .u32 x, .int .u8 (c.toNat : Int)] w fun e w' => e = .returned (.int .u32 (cb x c : Nat)) ∧ w = w' := by
  obtain ⟨c0, c1⟩ := u8_le c
  go_enter Try.func42, Try.ntmps42
  go_wp2
  go_loop [0, 10] (fun r i => ∃ k : Nat, k ≤ 8 ∧ i = .int .i64 k ∧ r = .int .u32 (sts (x ^^^ c.toNat) k : Nat)) (fun _ i => 8 - (intOf i).toNat)
  case atStart => exact ⟨0, by omega, rfl, val_int (u32_xor_nat x c.toNat hx (u8_lt32 c))⟩
  case round =>
    obtain ⟨k, hk, rfl, rfl⟩ := hrel
    have hy := sts_lt (xor_lt hx (u8_lt32 c)) k
    have hs : sts (x ^^^ c.toNat) (k + 1) = st (sts (x ^^^ c.toNat) k) := rfl
    have h8 : sts (x ^^^ c.toNat) 8 = cb x c := rfl
    have HS := Lib.hid hs
    have H8 := Lib.hid h8
    clear hs h8
    by_cases hlt : k < 8
    · generalize sts (x ^^^ c.toNat) k = y at hy HS
      by_cases e : y % 2 = 1
      · have ht := odd32 hy e
        have HE := Lib.hid (step32 hy e)
        clear e
        go_wp2
        go_round
        case rel => exact ⟨k + 1, by omega, by go_num, val_int (by rw [HS.out]; exact HE.out)⟩
        case measure => simp [intOf]; omega
      · have ht := even32 hy e
        have HE := Lib.hid (half e)
        clear e
        go_wp2
        go_round
        case rel => exact ⟨k + 1, by omega, by go_num, val_int (by rw [HS.out]; exact HE.out)⟩
        case measure => simp [intOf]; omega
    · obtain rfl : k = 8 := by omega
      go_wp2
      go_ret
      exact ⟨rfl, rfl⟩
theorem wrap_comp (y : Nat) (h : y < 4294967296) : wrap64 (bits .xor .u32 IntKind.u32.max (y : Int)) = ((4294967295 ^^^ y : Nat) : Int) := by
  have e : IntKind.u32.max = ((4294967295 : Nat) : Int) := rfl
  have hx : 4294967295 ^^^ y < 4294967296 := xor_lt (by omega) h
  rw [e, u32_xor_nat _ _ (by omega) h]
  simp only [wrap64]
  omega
theorem implCrc_any (A : Option Addr) (cap : Nat) (l : List UInt8) (w : World) (hr : Rd w w.heap.size A l) (hn : l.length ≤ 1099511627776) :
    Calls Try.prog 22 #[.slice A l.length cap] w fun e w' => e = .returned (.int .i64 (crcOf l : Nat)) ∧ w = w' := by
  go_enter Try.func22, Try.ntmps22
  go_wp2
  go_loop [3, 8] (fun r i => ∃ k : Nat, k ≤ l.length ∧ i = .int .i64 k ∧ r = .int .u32 (reg (l.take k) : Nat)) (fun _ i => l.length - (intOf i).toNat)
  case atStart => exact ⟨0, by omega, rfl, val_int (by simp [reg])⟩
  case round =>
    obtain ⟨k, hk, rfl, rfl⟩ := hrel
    by_cases hlt : k < l.length
    · obtain ⟨b, off, rfl, hbb, hc⟩ := hr.at_ hlt
      have c1 := hc k hlt
      have hy := reg_lt (l.take k)
      have HR := Lib.hid (reg_succ l k hlt)
      clear hc hr
      go_wp2_with (go_at_call 42; refine (crcByte_any _ _ _ hy).mono ?_; rintro e w' ⟨rfl, rfl⟩)
      go_round
      case rel => exact ⟨k + 1, by omega, by go_num, by rw [HR.out]⟩
      case measure => simp [intOf]; omega
    · obtain rfl : k = l.length := by omega
      have hy := reg_lt l
      rw [List.take_length]
      have HW := Lib.hid (wrap_comp (reg l) hy)
      have HC : Hid (crcOf l = 4294967295 ^^^ reg l) := Lib.hid rfl
      generalize reg l = y at hy HW HC ⊢
      go_wp2
      go_ret
      exact ⟨ret_intB (by rw [HC.out]; exact HW.out), rfl⟩
theorem specCrc_any (A : Option Addr) (cap : Nat) (l : List UInt8) (w : World) (hr : Rd w w.heap.size A l) (hn : l.length ≤ 1099511627776) :
    Calls Try.prog 23 #[.slice A l.length cap] w fun e w' => e = .returned (.int .i64 (crcOf l : Nat)) ∧ w = w' := by
  go_enter Try.func23, Try.ntmps23
  go_wp2
  go_loop [3, 4] (fun r i => ∃ k : Nat, k ≤ l.length ∧ i = .int .i64 k ∧ r = .int .i64 (reg (l.take k) : Nat)) (fun _ i => l.length - (intOf i).toNat)
  case atStart => exact ⟨0, by omega, rfl, val_int (by simp [reg])⟩
  case round =>
    obtain ⟨k, hk, rfl, rfl⟩ := hrel
    by_cases hlt : k < l.length
    · obtain ⟨b, off, rfl, hbb, hc⟩ := hr.at_ hlt
      have c1 := hc k hlt
      have hy := reg_lt (l.take k)
      have HR := Lib.hid (reg_succ l k hlt)
      clear hc hr
      generalize l[k] = c at c1 HR
      generalize reg (l.take k) = x at hy HR
      obtain ⟨c0, c2⟩ := u8_le c
      have HX := Lib.hid (xor64 x c.toNat hy (u8_lt32 c))
      go_wp2
      go_loop [3, 5] (fun r i => ∃ j : Nat, j ≤ 8 ∧ i = .int .i64 j ∧ r = .int .i64 (sts (x ^^^ c.toNat) j : Nat)) (fun _ i => 8 - (intOf i).toNat)
      case atStart => exact ⟨0, by omega, rfl, val_int HX.out⟩
      case round =>
        obtain ⟨j, hj, rfl, rfl⟩ := hrel
        have hz := sts_lt (xor_lt hy (u8_lt32 c)) j
        have hs : sts (x ^^^ c.toNat) (j + 1) = st (sts (x ^^^ c.toNat) j) := rfl
        have h8 : sts (x ^^^ c.toNat) 8 = cb x c := rfl
        have HS := Lib.hid hs
        have H8 := Lib.hid h8
        clear hs h8
        by_cases hlt8 : j < 8
        · generalize sts (x ^^^ c.toNat) j = y at hz HS
          by_cases e : y % 2 = 1
          · have ht := odd64 hz e
            have HE := Lib.hid (step64 hz e)
            clear e
            go_wp2
            go_round
            case rel => exact ⟨j + 1, by omega, by go_num, val_int (by rw [HS.out]; exact HE.out)⟩
            case measure => simp [intOf]; omega
          · have ht := even64 hz e
            have HE := Lib.hid (half e)
            clear e
            go_wp2
            go_round
            case rel => exact ⟨j + 1, by omega, by go_num, val_int (by rw [HS.out]; exact HE.out)⟩
            case measure => simp [intOf]; omega
        · obtain rfl : j = 8 := by omega
          go_wp2
          go_round
          case rel => exact ⟨k + 1, by omega, by go_num, val_int (by rw [HR.out, H8.out])⟩
          case measure => simp [intOf]; omega
    · obtain rfl : k = l.length := by omega
      have hy := reg_lt l
      rw [List.take_length]
      have HW := Lib.hid (xor64 (reg l) 4294967295 hy (by omega))
      have HC : Hid (crcOf l = 4294967295 ^^^ reg l) := Lib.hid rfl
      generalize reg l = y at hy HW HC ⊢
      go_wp2
      go_ret
      exact ⟨ret_intB (by rw [HC.out, Nat.xor_comm]; exact HW.out), rfl⟩
end Go.Proofs.Ytepoofamlpbchaa
