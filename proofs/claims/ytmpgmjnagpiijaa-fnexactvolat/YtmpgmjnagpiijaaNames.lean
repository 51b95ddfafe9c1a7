/- Contracts for names: spec.l1In, impl.nameByte, impl.NameOk and spec.NameOk return what the plain functions below say, for every argument, and leave the world as it was. Conditions: a string is at most maxLen bytes long. -/
import Derived.Test.YtmpgmjnagpiijaaRows
import Derived.WalkKit
import Derived.Below
import Derived.Deep.QuietTactic
import Derived.BigQuiet
import Derived.Lib.Hide
namespace Go.Proofs.Ytmpgmjnagpiijaa
open Go.RowKit
set_option maxRecDepth 100000
set_option linter.unusedSimpArgs false
set_option linter.unusedVariables false

def inB (x lo hi : Int) : Bool := decide (lo ≤ x ∧ x ≤ hi)
theorem inB_t {x lo hi : Int} (h : lo ≤ x) (h2 : x ≤ hi) : inB x lo hi = true := by simp [inB, h, h2]
theorem inB_f1 {x lo hi : Int} (h : x < lo) : inB x lo hi = false := by simp [inB]; omega
theorem inB_f2 {x lo hi : Int} (h : hi < x) : inB x lo hi = false := by simp [inB]; omega
theorem ret_bool {a b : Bool} (h : a = b) : Ending.returned (.bool a) = .returned (.bool b) := by rw [h]
def nb (c : Int) : Bool := inB c 97 122 || inB c 48 57
def allNb (l : List UInt8) : Bool := l.all fun c => nb (c.toNat : Int)
def nameOkB (s : ByteArray) : Bool := inB s.size 1 6 && allNb s.data.toList
theorem take_snoc (s : ByteArray) (k : Nat) (h : k < s.size) : s.data.toList.take (k + 1) = s.data.toList.take k ++ [s[k]] := by
  rw [List.take_succ_eq_append_getElem (by simpa using h)]; rfl
theorem allNb_snoc (s : ByteArray) (k : Nat) (h : k < s.size) : allNb (s.data.toList.take (k + 1)) = (allNb (s.data.toList.take k) && nb (s[k].toNat : Int)) := by
  rw [take_snoc s k h]; simp [allNb]
theorem allNb_bad (s : ByteArray) (k : Nat) (h : k < s.size) (hb : nb (s[k].toNat : Int) = false) : allNb s.data.toList = false := by
  cases e : allNb s.data.toList with
  | false => rfl
  | true =>
    unfold allNb at e
    rw [List.all_eq_true] at e
    have := e s[k] (List.getElem_mem (l := s.data.toList) (by simpa using h))
    rw [hb] at this; exact absurd this (by simp)

theorem in_any (x lo hi : Int) (w : World) :
    Calls Try.prog 47 #[.int .i64 x, .int .i64 lo, .int .i64 hi] w fun e w' => e = .returned (.bool (inB x lo hi)) ∧ w = w' := by
  by_cases h1 : lo ≤ x
  · by_cases h2 : x ≤ hi
    · go_enter Try.func47, Try.ntmps47
      go_wp2
      go_ret
      exact ⟨ret_bool (inB_t (by omega) (by omega)).symm, rfl⟩
    · go_enter Try.func47, Try.ntmps47
      go_wp2
      go_ret
      exact ⟨ret_bool (inB_f2 (by omega)).symm, rfl⟩
  · go_enter Try.func47, Try.ntmps47
    go_wp2
    go_ret
    exact ⟨ret_bool (inB_f1 (by omega)).symm, rfl⟩

theorem nb_eq (c : Int) : nb c = (decide (97 ≤ c) && decide (c ≤ 122) || decide (48 ≤ c) && decide (c ≤ 57)) := by simp [nb, inB]
theorem byte_le (c : UInt8) : (0 : Int) ≤ (c.toNat : Int) ∧ (c.toNat : Int) ≤ 255 := by
  have := UInt8.toNat_lt c; omega
end Go.Proofs.Ytmpgmjnagpiijaa
