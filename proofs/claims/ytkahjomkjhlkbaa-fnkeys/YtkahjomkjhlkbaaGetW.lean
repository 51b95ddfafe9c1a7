/- Contracts for words: impl.GetW and spec.GetW decode the word at an offset, or answer 0, 0 and false where there is none. Conditions: slices of at most 2^40 bytes. -/
import Derived.Test.YtkahjomkjhlkbaaNames
import Derived.Test.YtkahjomkjhlkbaaBytes
import Derived.Laws.BitsAllLaws
import Derived.Laws.BitsLemmas
namespace Go.Proofs.Ytkahjomkjhlkbaa
open Go.RowKit

theorem ofInt64 (a : Nat) (ha : a < 9223372036854775808) : (BitVec.ofInt 64 (a : Int)).toNat = a := by
  rw [BitVec.ofInt_natCast, BitVec.toNat_ofNat]; exact Nat.mod_eq_of_lt (by omega)
theorem or_i64 (a b : Nat) (ha : a < 9223372036854775808) (hb : b < 9223372036854775808) : bits .or .i64 (a : Int) (b : Int) = ((a ||| b : Nat) : Int) := by
  have hx : a ||| b < 2 ^ 63 := Nat.or_lt_two_pow (by omega) (by omega)
  show IntKind.i64.wrap ((BitVec.ofInt 64 (a : Int) ||| BitVec.ofInt 64 (b : Int)).toNat : Int) = _
  rw [BitVec.toNat_or, ofInt64 a ha, ofInt64 b hb, IntKind.wrap_i64]
  omega
def word (a b : UInt8) : Int := 256 * (a.toNat : Int) + (b.toNat : Int)
theorem word_le (a b : UInt8) : 0 ≤ word a b ∧ word a b ≤ 65535 := by
  have := u8_le a; have := u8_le b; unfold word; omega
theorem word_or (x y : UInt8) : bits .or .i64 ((x.toNat : Int) * 256) (y.toNat : Int) = word x y := by
  have hx := UInt8.toNat_lt x
  have hy := UInt8.toNat_lt y
  have e : (x.toNat : Int) * 256 = ((x.toNat * 256 : Nat) : Int) := by omega
  rw [e, or_i64 _ _ (by omega) (by omega)]
  have h := Nat.two_pow_add_eq_or_of_lt (i := 8) (b := y.toNat) (by omega) x.toNat
  rw [Nat.mul_comm] at h
  rw [show x.toNat * 256 = x.toNat * 2 ^ 8 from rfl, ← h]
  unfold word
  omega
theorem ret3 {a b : Int} {u v : Value} (h : a = b) : Ending.returned (.tuple #[.int .i64 a, u, v]) = .returned (.tuple #[.int .i64 b, u, v]) := by rw [h]

theorem implGetW_yes (A : Option Addr) (cap : Nat) (l : List UInt8) (k : Nat) (w : World) (hr : Rd w w.heap.size A l) (hn : l.length ≤ 1099511627776) (hk : k + 2 ≤ l.length) :
    Calls Try.prog 86 #[.slice A l.length cap, .int .i64 k] w fun e w' => e = .returned (.tuple #[.int .i64 (word (l[k]'(by omega)) (l[k + 1]'(by omega))), .int .i64 (k + 2), .bool true]) ∧ ∃ n, w' = w.drewN n := by
  obtain ⟨b, off, rfl, _, hc⟩ := hr.at_ (k := k) (by omega)
  have c1 := hc k (by omega)
  have c2 := hc (k + 1) (by omega)
  clear hc hr
  have i1 : (k : Int) < (l.length : Int) := by omega
  have i2 : (k : Int) + 1 < (l.length : Int) := by omega
  have d1 : decide ((k : Int) < 0) = false := decide_eq_false (by omega)
  have d2 : decide ((l.length : Int) - 2 < (k : Int)) = false := decide_eq_false (by omega)
  generalize l[k]'(by omega) = x at c1 ⊢
  generalize l[k + 1]'(by omega) = y at c2 ⊢
  obtain ⟨x0, x1⟩ := u8_le x
  obtain ⟨y0, y1⟩ := u8_le y
  go_enter Try.func86, Try.ntmps86
  go_wp2
  go_quiet (fail)
  go_wp2
  go_ret3
  exact ⟨ret3 (word_or x y), _, rfl⟩
theorem implGetW_no (A : Option Addr) (cap : Nat) (l : List UInt8) (k : Int) (w : World) (hn : l.length ≤ 1099511627776) (hk : k < 0 ∨ (l.length : Int) < k + 2) :
    Calls Try.prog 86 #[.slice A l.length cap, .int .i64 k] w fun e w' => e = .returned (.tuple #[.int .i64 0, .int .i64 0, .bool false]) ∧ w = w' := by
  by_cases h0 : k < 0
  · have d1 : decide (k < 0) = true := decide_eq_true h0
    clear hk h0
    go_enter Try.func86, Try.ntmps86
    go_wp2
    go_ret3
    exact ⟨rfl, rfl⟩
  · have d1 : decide (k < 0) = false := decide_eq_false h0
    have d2 : decide ((l.length : Int) - 2 < k) = true := decide_eq_true (by omega)
    clear hk h0
    go_enter Try.func86, Try.ntmps86
    go_wp2
    go_ret3
    exact ⟨rfl, rfl⟩
theorem specGetW_yes (A : Option Addr) (cap : Nat) (l : List UInt8) (k : Nat) (w : World) (hr : Rd w w.heap.size A l) (hn : l.length ≤ 1099511627776) (hk : k + 2 ≤ l.length) :
    Calls Try.prog 87 #[.slice A l.length cap, .int .i64 k] w fun e w' => e = .returned (.tuple #[.int .i64 (word (l[k]'(by omega)) (l[k + 1]'(by omega))), .int .i64 (k + 2), .bool true]) ∧ ∃ n, w' = w.drewN n := by
  obtain ⟨b, off, rfl, _, hc⟩ := hr.at_ (k := k) (by omega)
  have c1 := hc k (by omega)
  have c2 := hc (k + 1) (by omega)
  clear hc hr
  have i1 : (k : Int) < (l.length : Int) := by omega
  have i2 : (k : Int) + 1 < (l.length : Int) := by omega
  have HI := Lib.hid (inB_t (x := k) (lo := 0) (hi := (l.length : Int) - 2) (by omega) (by omega))
  generalize l[k]'(by omega) = x at c1 ⊢
  generalize l[k + 1]'(by omega) = y at c2 ⊢
  obtain ⟨x0, x1⟩ := u8_le x
  obtain ⟨y0, y1⟩ := u8_le y
  go_enter Try.func87, Try.ntmps87
  go_wp2_with (go_at_call 76; refine (in_any _ _ _ _).mono ?_; rintro e w' ⟨rfl, rfl⟩; rw [HI.out])
  go_quiet (fail)
  go_wp2
  go_ret3
  exact ⟨ret3 (word_or x y), _, rfl⟩
theorem specGetW_no (A : Option Addr) (cap : Nat) (l : List UInt8) (k : Int) (w : World) (hn : l.length ≤ 1099511627776) (hk : k < 0 ∨ (l.length : Int) < k + 2) :
    Calls Try.prog 87 #[.slice A l.length cap, .int .i64 k] w fun e w' => e = .returned (.tuple #[.int .i64 0, .int .i64 0, .bool false]) ∧ w = w' := by
  have hi : inB k 0 ((l.length : Int) - 2) = false := by
    rcases hk with h | h
    · exact inB_f1 h
    · exact inB_f2 (by omega)
  have HI := Lib.hid hi
  clear hi hk
  go_enter Try.func87, Try.ntmps87
  go_wp2_with (go_at_call 76; refine (in_any _ _ _ _).mono ?_; rintro e w' ⟨rfl, rfl⟩; rw [HI.out])
  go_ret3
  exact ⟨rfl, rfl⟩
end Go.Proofs.Ytkahjomkjhlkbaa
