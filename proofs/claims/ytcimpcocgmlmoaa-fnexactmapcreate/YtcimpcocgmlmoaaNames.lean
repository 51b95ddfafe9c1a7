/- Contracts for names: spec.l1In, impl.nameByte, impl.NameOk and spec.NameOk return what the plain functions below say, for every argument, and leave the world as it was. Conditions: a string is at most maxLen bytes long. -/
import Derived.Test.YtcimpcocgmlmoaaRows
import Derived.WalkKit
import Derived.Below
import Derived.Deep.QuietTactic
import Derived.BigQuiet
import Derived.Lib.Hide
namespace Go.Proofs.Ytcimpcocgmlmoaa
open Go.RowKit
set_option maxRecDepth 100000
set_option linter.unusedSimpArgs false
set_option linter.unusedVariables false

def inB (x lo hi : Int) : Bool := decide (lo ≤ x ∧ x ≤ hi)
theorem inB_t {x lo hi : Int} (h : lo ≤ x) (h2 : x ≤ hi) : inB x lo hi = true := by simp [inB, h, h2]
theorem inB_f1 {x lo hi : Int} (h : x < lo) : inB x lo hi = false := by simp [inB]; omega
theorem inB_f2 {x lo hi : Int} (h : hi < x) : inB x lo hi = false := by simp [inB]; omega
theorem ret_bool {a b : Bool} (h : a = b) : Ending.returned (.bool a) = .returned (.bool b) := by rw [h]
def nb (c : Int) : Bool := inB c 97 122 || inB c 48 57
def allNb (l : List UInt8) : Bool := l.all fun c => nb (c.toNat : Int)
def nameOkB (s : ByteArray) : Bool := inB s.size 1 6 && allNb s.data.toList
theorem take_snoc (s : ByteArray) (k : Nat) (h : k < s.size) : s.data.toList.take (k + 1) = s.data.toList.take k ++ [s[k]] := by
  rw [List.take_succ_eq_append_getElem (by simpa using h)]; rfl
theorem allNb_snoc (s : ByteArray) (k : Nat) (h : k < s.size) : allNb (s.data.toList.take (k + 1)) = (allNb (s.data.toList.take k) && nb (s[k].toNat : Int)) := by
  rw [take_snoc s k h]; simp [allNb]
theorem allNb_bad (s : ByteArray) (k : Nat) (h : k < s.size) (hb : nb (s[k].toNat : Int) = false) : allNb s.data.toList = false := by
  cases e : allNb s.data.toList with
  | false => rfl
  | true =>
    unfold allNb at e
    rw [List.all_eq_true] at e
    have := e s[k] (List.getElem_mem (l := s.data.toList) (by simpa using h))
    rw [hb] at this; exact absurd this (by simp)

theorem in_any (x lo hi : Int) (w : World) :
    Calls Try.prog 35 #[.int .i64 x, .int .i64 lo, .int .i64 hi] w fun e w' => e = .returned (.bool (inB x lo hi)) ∧ w = w' := by
  by_cases h1 : lo ≤ x
  · by_cases h2 : x ≤ hi
    · go_enter Try.func35, Try.ntmps35
      go_wp2
      go_ret
      exact ⟨ret_bool (inB_t (by omega) (by omega)).symm, rfl⟩
    · go_enter Try.func35, Try.ntmps35
      go_wp2
      go_ret
      exact ⟨ret_bool (inB_f2 (by omega)).symm, rfl⟩
  · go_enter Try.func35, Try.ntmps35
    go_wp2
    go_ret
    exact ⟨ret_bool (inB_f1 (by omega)).symm, rfl⟩

theorem nb_eq (c : Int) : nb c = (decide (97 ≤ c) && decide (c ≤ 122) || decide (48 ≤ c) && decide (c ≤ 57)) := by simp [nb, inB]
theorem nameByte_any (c : Int) (w : World) :
    Calls Try.prog 68 #[.int .u8 c] w fun e w' => e = .returned (.bool (nb c)) ∧ w = w' := by
  rw [nb_eq]
  by_cases h1 : 97 ≤ c <;> by_cases h2 : c ≤ 122 <;> by_cases h3 : 48 ≤ c <;> by_cases h4 : c ≤ 57 <;> try omega
  all_goals
    go_enter Try.func68, Try.ntmps68
    go_wp2
    go_ret
    exact ⟨ret_bool (by simp [*]), rfl⟩

theorem implNameOk_any (s : ByteArray) (w : World) (hs : s.size ≤ maxLen) :
    Calls Try.prog 51 #[.string s] w fun e w' => e = .returned (.bool (nameOkB s)) ∧ w = w' := by
  unfold maxLen at hs
  by_cases h1 : 1 ≤ s.size
  · by_cases h2 : s.size ≤ 6
    · have hin : inB s.size 1 6 = true := inB_t (by omega) (by omega)
      have d1 : decide (s.size < 1) = false := decide_eq_false (by omega)
      have d2 : decide (6 < s.size) = false := decide_eq_false (by omega)
      have HI := Lib.hid hin
      clear hin
      go_enter Try.func51, Try.ntmps51
      go_wp2
      go_loop [14] (fun i => ∃ k : Nat, k ≤ s.size ∧ i = .int .i64 k ∧ Hid (allNb (s.data.toList.take k) = true)) (fun i => s.size - (intOf i).toNat)
      case atStart => exact ⟨0, Nat.zero_le _, rfl, Lib.hid (by simp [allNb])⟩
      case round =>
        obtain ⟨k, hk, rfl, HA⟩ := hrel
        by_cases hlt : k < s.size
        · cases hb : nb (s[k].toNat : Int)
          · have HB := Lib.hid hb
            clear hb
            go_wp2_with (go_at_call 68; refine (nameByte_any _ _).mono ?_; rintro e w' ⟨rfl, rfl⟩; rw [HB.out])
            go_ret
            exact ⟨ret_bool (by rw [nameOkB, allNb_bad s k hlt HB.out, Bool.and_false]), rfl⟩
          · have HB := Lib.hid hb
            clear hb
            go_wp2_with (go_at_call 68; refine (nameByte_any _ _).mono ?_; rintro e w' ⟨rfl, rfl⟩; rw [HB.out])
            go_round
            case rel => exact ⟨k + 1, by omega, by go_num, Lib.hid (by rw [allNb_snoc s k hlt, HA.out, HB.out]; rfl)⟩
            case measure => simp [intOf]; omega
        · go_wp2
          go_ret
          have e : k = s.size := by omega
          have HA2 := HA.out
          rw [e, List.take_of_length_le (by simp)] at HA2
          exact ⟨ret_bool (by rw [nameOkB, HI.out, HA2]; rfl), rfl⟩
    · have d1 : decide (s.size < 1) = false := decide_eq_false (by omega)
      have d2 : decide (6 < s.size) = true := decide_eq_true (by omega)
      go_enter Try.func51, Try.ntmps51
      go_wp2
      go_ret
      exact ⟨ret_bool (by rw [nameOkB, inB_f2 (by omega)]; rfl), rfl⟩
  · have d1 : decide (s.size < 1) = true := decide_eq_true (by omega)
    go_enter Try.func51, Try.ntmps51
    go_wp2
    go_ret
    exact ⟨ret_bool (by rw [nameOkB, inB_f1 (by omega)]; rfl), rfl⟩

theorem byte_le (c : UInt8) : (0 : Int) ≤ (c.toNat : Int) ∧ (c.toNat : Int) ≤ 255 := by
  have := UInt8.toNat_lt c; omega
theorem specNameOk_any (s : ByteArray) (w : World) (hs : s.size ≤ maxLen) :
    Calls Try.prog 34 #[.string s] w fun e w' => e = .returned (.bool (nameOkB s)) ∧ w = w' := by
  unfold maxLen at hs
  go_enter Try.func34, Try.ntmps34
  go_wp2
  go_loop [3] (fun i => ∃ k : Nat, k ≤ s.size ∧ i = .int .i64 k ∧ Hid (allNb (s.data.toList.take k) = true)) (fun i => s.size - (intOf i).toNat)
  case atStart => exact ⟨0, Nat.zero_le _, rfl, Lib.hid (by simp [allNb])⟩
  case round =>
    obtain ⟨k, hk, rfl, HA⟩ := hrel
    by_cases hlt : k < s.size
    · obtain ⟨b0, b1⟩ := byte_le s[k]
      cases hb : inB (s[k].toNat : Int) 97 122
      · have HB := Lib.hid hb
        clear hb
        cases hb2 : inB (s[k].toNat : Int) 48 57
        · have HC := Lib.hid hb2
          clear hb2
          go_wp2_with (go_at_call 35; refine (in_any _ _ _ _).mono ?_; rintro e w' ⟨rfl, rfl⟩; (first | rw [HB.out] | rw [HC.out]))
          go_ret
          exact ⟨ret_bool (by rw [nameOkB, allNb_bad s k hlt (by rw [nb, HB.out, HC.out]; rfl), Bool.and_false]), rfl⟩
        · have HC := Lib.hid hb2
          clear hb2
          go_wp2_with (go_at_call 35; refine (in_any _ _ _ _).mono ?_; rintro e w' ⟨rfl, rfl⟩; (first | rw [HB.out] | rw [HC.out]))
          go_round
          case rel => exact ⟨k + 1, by omega, by go_num, Lib.hid (by rw [allNb_snoc s k hlt, HA.out, nb, HB.out, HC.out]; rfl)⟩
          case measure => simp [intOf]; omega
      · have HB := Lib.hid hb
        clear hb
        go_wp2_with (go_at_call 35; refine (in_any _ _ _ _).mono ?_; rintro e w' ⟨rfl, rfl⟩; rw [HB.out])
        go_round
        case rel => exact ⟨k + 1, by omega, by go_num, Lib.hid (by rw [allNb_snoc s k hlt, HA.out, nb, HB.out]; rfl)⟩
        case measure => simp [intOf]; omega
    · go_wp2_with (go_at_call 35; refine (in_any _ _ _ _).mono ?_; rintro e w' ⟨rfl, rfl⟩)
      go_ret
      have e : k = s.size := by omega
      have HA2 := HA.out
      rw [e, List.take_of_length_le (by simp)] at HA2
      exact ⟨ret_bool (by rw [nameOkB, HA2, Bool.and_true]), rfl⟩

end Go.Proofs.Ytcimpcocgmlmoaa
