/- Contracts of laws.big and laws.at. Conditions: the code has at most 2^20 bytes. -/
import Derived.Test.YtkahjomkjhlkbaaDrawA
namespace Go.Proofs.Ytkahjomkjhlkbaa
open Go.RowKit

theorem below_of_only {w w1 w2 : World} {p : Nat} (hb : Below w.heap.size w w1) (hg : w1.grownBy w2 (some p)) (hp : w.heap.size ≤ p) : Below w.heap.size w w2 :=
  hb.grown hg hb.size (fun k hk => by injection hk with hk; omega)
theorem big_any (A : Option Addr) (cap n : Nat) (w : World) : Calls Try.prog 15 #[.slice A n cap] w fun e w' => e = .returned (.bool (decide ((1048576 : Int) < (n : Int)))) ∧ w = w' := by
  go_enter Try.func15, Try.ntmps15
  go_wp2
  go_ret
  exact ⟨rfl, rfl⟩
def AnAt (w : World) (e : Ending) (w' : World) : Prop := ∃ x : Nat, x ≤ 255 ∧ e = .returned (.int .i64 (x : Int)) ∧ w = w'
theorem at_any (A : Option Addr) (cap : Nat) (l : List UInt8) (i : Nat) (w : World) (hr : Rd w w.heap.size A l) (hn : l.length ≤ 1048576) (hi : i ≤ 1048576) : Calls Try.prog 17 #[.slice A l.length cap, .int .i64 (i : Int)] w (AnAt w) := by
  by_cases hlt : i < l.length
  · obtain ⟨b, off, rfl, hbb, hc⟩ := hr.at_ hlt
    have c1 := hc i hlt
    obtain ⟨x0, x1⟩ := u8_le l[i]
    clear hc hr
    go_enter Try.func17, Try.ntmps17
    go_wp2
    go_ret
    exact ⟨l[i].toNat, by omega, rfl, rfl⟩
  · have HX := Lib.hid (toNat_mod (x := (i : Int) * 31 + (l.length : Int) * 7) (m := 256) (by omega) (by omega))
    go_enter Try.func17, Try.ntmps17
    go_wp2
    go_ret
    exact ⟨_, by have := HX.out.1; omega, ret_intB HX.out.2.symm, rfl⟩
def atOf (l : List UInt8) (i : Nat) : Nat := if h : i < l.length then l[i].toNat else (i * 31 + l.length * 7) % 256
theorem atOf_le (l : List UInt8) (i : Nat) : atOf l i ≤ 255 := by
  unfold atOf; split
  · have := UInt8.toNat_lt (l[i]'(by assumption)); omega
  · omega
theorem at_val (A : Option Addr) (cap : Nat) (l : List UInt8) (i : Nat) (w : World) (hr : Rd w w.heap.size A l) (hn : l.length ≤ 1048576) (hi : i ≤ 1048576) :
    Calls Try.prog 17 #[.slice A l.length cap, .int .i64 (i : Int)] w fun e w' => e = .returned (.int .i64 (atOf l i : Nat)) ∧ w' = w := by
  by_cases hlt : i < l.length
  · have HA : Hid (atOf l i = l[i].toNat) := Lib.hid (by unfold atOf; rw [dif_pos hlt])
    obtain ⟨b, off, rfl, hbb, hc⟩ := hr.at_ hlt
    have c1 := hc i hlt
    obtain ⟨x0, x1⟩ := u8_le l[i]
    clear hc hr
    go_enter Try.func17, Try.ntmps17
    go_wp2
    go_ret
    exact ⟨ret_intB (by rw [HA.out]), rfl⟩
  · have HA : Hid (((atOf l i : Nat) : Int) = ((i : Int) * 31 + (l.length : Int) * 7) % 256) := Lib.hid (by unfold atOf; rw [dif_neg hlt]; omega)
    go_enter Try.func17, Try.ntmps17
    go_wp2
    go_ret
    exact ⟨ret_intB HA.out.symm, rfl⟩

end Go.Proofs.Ytkahjomkjhlkbaa
