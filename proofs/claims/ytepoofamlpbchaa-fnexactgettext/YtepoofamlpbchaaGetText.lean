/- Contracts for strings: impl.GetText and spec.GetText decode the string at an offset, or answer the empty string, 0 and false where there is none. Conditions: slices of at most 2^40 bytes. -/
import Derived.Test.YtepoofamlpbchaaGetW
import Derived.Laws.IdiomStrings
namespace Go.Proofs.Ytepoofamlpbchaa
open Go.RowKit

theorem conv_at (W : World) (b off n cap : Nat) (l : List UInt8) (hn : l.length = n) (hc : ∀ j (hj : j < l.length), W.cell? ⟨b, off + j, none⟩ = some (.int .u8 (l[j].toNat : Int))) :
    (convert 22 9 (.slice (some ⟨b, off, none⟩) n cap)).run Try.prog W = .ok (.string ⟨l.toArray⟩) W := by
  subst hn
  exact run_convert_bytes_back W 22 9 5 ⟨b, off, none⟩ cap l Try.underlying22 Try.underlying5 Try.underlying9 (fun j hj => by rw [Addr.add_lit]; exact hc j hj)

theorem implGetText_yes (A : Option Addr) (cap : Nat) (l : List UInt8) (k n : Nat) (w : World) (hr : Rd w w.heap.size A l) (hn : l.length ≤ 1099511627776) (hcap : l.length ≤ cap) (hk : k + 2 ≤ l.length)
    (hw : word (l[k]'(by omega)) (l[k + 1]'(by omega)) = n) (h60 : n ≤ 60) (hl : k + 2 + n ≤ l.length) :
    Calls Try.prog 20 #[.slice A l.length cap, .int .i64 k] w fun e w' => e = .returned (.tuple #[.string ⟨((l.drop (k + 2)).take n).toArray⟩, .int .i64 (k + 2 + n), .bool true]) ∧ ∃ n, w' = w.drewN n := by
  have H := Lib.hid (implGetW_yes A cap l k w hr hn hk)
  rw [hw] at H
  obtain ⟨b, off, rfl, _, hc⟩ := hr.at_ (k := k) (by omega)
  clear hw hr
  have d1 : decide ((60 : Int) < (n : Int)) = false := decide_eq_false (by omega)
  have d2 : decide ((l.length : Int) - ((k : Int) + 2) < (n : Int)) = false := decide_eq_false (by omega)
  by_cases hcc : cap = k + 2
  · subst hcc
    obtain rfl : n = 0 := by omega
    have hcv : ∀ m, (convert 22 9 (.slice (some ⟨b, off, none⟩) 0 0)).run Try.prog (w.drewN m) = .ok (.string ⟨#[]⟩) (w.drewN m) := fun m => conv_at _ b off 0 0 [] rfl (fun j hj => by simp at hj)
    clear hc
    rw [List.take_zero]
    go_enter Try.func20, Try.ntmps20
    go_wp2_with fail
    refine H.out.mono ?_
    rintro e _ ⟨rfl, m, rfl⟩
    go_wp2
    go_ret3
    exact ⟨rfl, _, rfl⟩
  · have hcv : ∀ m, (convert 22 9 (.slice (some ⟨b, off + (k + 2), none⟩) n (cap - (k + 2)))).run Try.prog (w.drewN m) = .ok (.string ⟨((l.drop (k + 2)).take n).toArray⟩) (w.drewN m) :=
      fun m => conv_at _ b (off + (k + 2)) n (cap - (k + 2)) _ (by simp; omega) (fun j hj => by
        simp at hj
        have h := hc (k + 2 + j) (by omega)
        rw [← Nat.add_assoc] at h
        show w.cell? _ = _
        rw [Nat.add_assoc off, ← Nat.add_assoc] at *
        rw [h]
        simp [List.getElem_take, List.getElem_drop])
    clear hc
    generalize ((l.drop (k + 2)).take n).toArray = s at hcv ⊢
    go_enter Try.func20, Try.ntmps20
    go_wp2_with fail
    refine H.out.mono ?_
    rintro e _ ⟨rfl, m, rfl⟩
    go_wp2
    go_ret3
    exact ⟨rfl, _, rfl⟩
theorem implGetText_none (A : Option Addr) (cap : Nat) (l : List UInt8) (k : Int) (w : World) (hn : l.length ≤ 1099511627776) (hk : k < 0 ∨ (l.length : Int) < k + 2) :
    Calls Try.prog 20 #[.slice A l.length cap, .int .i64 k] w fun e w' => e = .returned (.tuple #[.string ⟨#[]⟩, .int .i64 0, .bool false]) ∧ ∃ n, w' = w.drewN n := by
  have H := Lib.hid (implGetW_no A cap l k w hn hk)
  clear hk
  go_enter Try.func20, Try.ntmps20
  go_wp2_with fail
  refine H.out.mono ?_
  rintro e w1 ⟨rfl, rfl⟩
  go_wp2
  go_ret3
  exact ⟨rfl, 0, rfl⟩
theorem implGetText_bad (A : Option Addr) (cap : Nat) (l : List UInt8) (k n : Nat) (w : World) (hr : Rd w w.heap.size A l) (hn : l.length ≤ 1099511627776) (hk : k + 2 ≤ l.length)
    (hw : word (l[k]'(by omega)) (l[k + 1]'(by omega)) = n) (hb : 60 < n ∨ l.length < k + 2 + n) :
    Calls Try.prog 20 #[.slice A l.length cap, .int .i64 k] w fun e w' => e = .returned (.tuple #[.string ⟨#[]⟩, .int .i64 0, .bool false]) ∧ ∃ n, w' = w.drewN n := by
  have H := Lib.hid (implGetW_yes A cap l k w hr hn hk)
  rw [hw] at H
  clear hw hr
  by_cases h60 : 60 < n
  · have d1 : decide ((60 : Int) < (n : Int)) = true := decide_eq_true (by omega)
    clear hb
    go_enter Try.func20, Try.ntmps20
    go_wp2_with fail
    refine H.out.mono ?_
    rintro e _ ⟨rfl, m, rfl⟩
    go_wp2
    go_ret3
    exact ⟨rfl, _, rfl⟩
  · have d1 : decide ((60 : Int) < (n : Int)) = false := decide_eq_false (by omega)
    have d2 : decide ((l.length : Int) - ((k : Int) + 2) < (n : Int)) = true := decide_eq_true (by omega)
    have i1 : (n : Int) ≤ 60 := by omega
    clear hb h60
    go_enter Try.func20, Try.ntmps20
    go_wp2_with fail
    refine H.out.mono ?_
    rintro e _ ⟨rfl, m, rfl⟩
    go_wp2
    go_ret3
    exact ⟨rfl, _, rfl⟩

theorem specGetText_yes (A : Option Addr) (cap : Nat) (l : List UInt8) (k n : Nat) (w : World) (hr : Rd w w.heap.size A l) (hn : l.length ≤ 1099511627776) (hcap : l.length ≤ cap) (hk : k + 2 ≤ l.length)
    (hw : word (l[k]'(by omega)) (l[k + 1]'(by omega)) = n) (h60 : n ≤ 60) (hl : k + 2 + n ≤ l.length) :
    Calls Try.prog 32 #[.slice A l.length cap, .int .i64 k] w fun e w' => e = .returned (.tuple #[.string ⟨((l.drop (k + 2)).take n).toArray⟩, .int .i64 (k + 2 + n), .bool true]) ∧ ∃ n, w' = w.drewN n := by
  have H := Lib.hid (specGetW_yes A cap l k w hr hn hk)
  rw [hw] at H
  obtain ⟨b, off, rfl, _, hc⟩ := hr.at_ (k := k) (by omega)
  clear hw hr
  have d1 : decide ((60 : Int) < (n : Int)) = false := decide_eq_false (by omega)
  have d2 : decide ((l.length : Int) - ((k : Int) + 2) < (n : Int)) = false := decide_eq_false (by omega)
  by_cases hcc : cap = k + 2
  · subst hcc
    obtain rfl : n = 0 := by omega
    have hcv : ∀ m, (convert 22 9 (.slice (some ⟨b, off, none⟩) 0 0)).run Try.prog (w.drewN m) = .ok (.string ⟨#[]⟩) (w.drewN m) := fun m => conv_at _ b off 0 0 [] rfl (fun j hj => by simp at hj)
    clear hc
    rw [List.take_zero]
    go_enter Try.func32, Try.ntmps32
    go_wp2_with fail
    refine H.out.mono ?_
    rintro e _ ⟨rfl, m, rfl⟩
    go_wp2
    go_ret3
    exact ⟨rfl, _, rfl⟩
  · have hcv : ∀ m, (convert 22 9 (.slice (some ⟨b, off + (k + 2), none⟩) n (cap - (k + 2)))).run Try.prog (w.drewN m) = .ok (.string ⟨((l.drop (k + 2)).take n).toArray⟩) (w.drewN m) :=
      fun m => conv_at _ b (off + (k + 2)) n (cap - (k + 2)) _ (by simp; omega) (fun j hj => by
        simp at hj
        have h := hc (k + 2 + j) (by omega)
        rw [← Nat.add_assoc] at h
        show w.cell? _ = _
        rw [Nat.add_assoc off, ← Nat.add_assoc] at *
        rw [h]
        simp [List.getElem_take, List.getElem_drop])
    clear hc
    generalize ((l.drop (k + 2)).take n).toArray = s at hcv ⊢
    go_enter Try.func32, Try.ntmps32
    go_wp2_with fail
    refine H.out.mono ?_
    rintro e _ ⟨rfl, m, rfl⟩
    go_wp2
    go_ret3
    exact ⟨rfl, _, rfl⟩
theorem specGetText_none (A : Option Addr) (cap : Nat) (l : List UInt8) (k : Int) (w : World) (hn : l.length ≤ 1099511627776) (hk : k < 0 ∨ (l.length : Int) < k + 2) :
    Calls Try.prog 32 #[.slice A l.length cap, .int .i64 k] w fun e w' => e = .returned (.tuple #[.string ⟨#[]⟩, .int .i64 0, .bool false]) ∧ ∃ n, w' = w.drewN n := by
  have H := Lib.hid (specGetW_no A cap l k w hn hk)
  clear hk
  go_enter Try.func32, Try.ntmps32
  go_wp2_with fail
  refine H.out.mono ?_
  rintro e w1 ⟨rfl, rfl⟩
  go_wp2
  go_ret3
  exact ⟨rfl, 0, rfl⟩
theorem specGetText_bad (A : Option Addr) (cap : Nat) (l : List UInt8) (k n : Nat) (w : World) (hr : Rd w w.heap.size A l) (hn : l.length ≤ 1099511627776) (hk : k + 2 ≤ l.length)
    (hw : word (l[k]'(by omega)) (l[k + 1]'(by omega)) = n) (hb : 60 < n ∨ l.length < k + 2 + n) :
    Calls Try.prog 32 #[.slice A l.length cap, .int .i64 k] w fun e w' => e = .returned (.tuple #[.string ⟨#[]⟩, .int .i64 0, .bool false]) ∧ ∃ n, w' = w.drewN n := by
  have H := Lib.hid (specGetW_yes A cap l k w hr hn hk)
  rw [hw] at H
  clear hw hr
  by_cases h60 : 60 < n
  · have d1 : decide ((60 : Int) < (n : Int)) = true := decide_eq_true (by omega)
    clear hb
    go_enter Try.func32, Try.ntmps32
    go_wp2_with fail
    refine H.out.mono ?_
    rintro e _ ⟨rfl, m, rfl⟩
    go_wp2
    go_ret3
    exact ⟨rfl, _, rfl⟩
  · have d1 : decide ((60 : Int) < (n : Int)) = false := decide_eq_false (by omega)
    have d2 : decide ((l.length : Int) - ((k : Int) + 2) < (n : Int)) = true := decide_eq_true (by omega)
    have i1 : (n : Int) ≤ 60 := by omega
    clear hb h60
    go_enter Try.func32, Try.ntmps32
    go_wp2_with fail
    refine H.out.mono ?_
    rintro e _ ⟨rfl, m, rfl⟩
    go_wp2
    go_ret3
    exact ⟨rfl, _, rfl⟩

/-- What GetText answers at the offset k of the bytes l. -/
def textOf (l : List UInt8) (k : Int) : Value :=
  if h : 0 ≤ k ∧ k + 2 ≤ (l.length : Int) then
    if (word (l[k.toNat]'(by omega)) (l[k.toNat + 1]'(by omega))).toNat ≤ 60 ∧ k.toNat + 2 + (word (l[k.toNat]'(by omega)) (l[k.toNat + 1]'(by omega))).toNat ≤ l.length then
      .tuple #[.string ⟨((l.drop (k.toNat + 2)).take (word (l[k.toNat]'(by omega)) (l[k.toNat + 1]'(by omega))).toNat).toArray⟩, .int .i64 (k + 2 + word (l[k.toNat]'(by omega)) (l[k.toNat + 1]'(by omega))), .bool true]
    else .tuple #[.string ⟨#[]⟩, .int .i64 0, .bool false]
  else .tuple #[.string ⟨#[]⟩, .int .i64 0, .bool false]

theorem implGetText_any (A : Option Addr) (cap : Nat) (l : List UInt8) (k : Int) (w : World) (hr : Rd w w.heap.size A l) (hn : l.length ≤ 1099511627776) (hcap : l.length ≤ cap) :
    Calls Try.prog 20 #[.slice A l.length cap, .int .i64 k] w fun e w' => e = .returned (textOf l k) ∧ ∃ n, w' = w.drewN n := by
  unfold textOf
  split
  · rename_i h
    obtain ⟨j, rfl⟩ := Int.eq_ofNat_of_zero_le h.1
    have hj : j + 2 ≤ l.length := by have := h.2; omega
    simp only [Int.toNat_natCast]
    have hw := word_le (l[j]'(by omega)) (l[j + 1]'(by omega))
    obtain ⟨n, hn2⟩ := Int.eq_ofNat_of_zero_le hw.1
    simp only [hn2, Int.toNat_natCast]
    split
    · rename_i h2
      exact implGetText_yes A cap l j n w hr hn hcap hj hn2 h2.1 h2.2
    · rename_i h2
      exact implGetText_bad A cap l j n w hr hn hj hn2 (by omega)
  · rename_i h
    exact implGetText_none A cap l k w hn (by omega)

theorem specGetText_any (A : Option Addr) (cap : Nat) (l : List UInt8) (k : Int) (w : World) (hr : Rd w w.heap.size A l) (hn : l.length ≤ 1099511627776) (hcap : l.length ≤ cap) :
    Calls Try.prog 32 #[.slice A l.length cap, .int .i64 k] w fun e w' => e = .returned (textOf l k) ∧ ∃ n, w' = w.drewN n := by
  unfold textOf
  split
  · rename_i h
    obtain ⟨j, rfl⟩ := Int.eq_ofNat_of_zero_le h.1
    have hj : j + 2 ≤ l.length := by have := h.2; omega
    simp only [Int.toNat_natCast]
    have hw := word_le (l[j]'(by omega)) (l[j + 1]'(by omega))
    obtain ⟨n, hn2⟩ := Int.eq_ofNat_of_zero_le hw.1
    simp only [hn2, Int.toNat_natCast]
    split
    · rename_i h2
      exact specGetText_yes A cap l j n w hr hn hcap hj hn2 h2.1 h2.2
    · rename_i h2
      exact specGetText_bad A cap l j n w hr hn hj hn2 (by omega)
  · rename_i h
    exact specGetText_none A cap l k w hn (by omega)
end Go.Proofs.Ytepoofamlpbchaa
