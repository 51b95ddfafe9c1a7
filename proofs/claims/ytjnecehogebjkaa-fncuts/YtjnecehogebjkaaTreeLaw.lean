/- Contracts for trees in the laws: laws.toTree copies one, eqTree finds two that read alike equal, markTree writes marks, heldTree finds them; a tree that comes in as an argument is opened. Conditions: at most 1100000 bounds, nodes, sets and keys. -/
import Derived.Test.YtjnecehogebjkaaTree
namespace Go.Proofs.Ytjnecehogebjkaa
open Go.RowKit Go.ChangeShapes Go.WideShapes Go.Deep
set_option maxRecDepth 100000
set_option linter.unusedSimpArgs false
set_option linter.unusedVariables false

theorem ints_opens : Opens Try.prog 28 (fun ds => ∃ l, ds = [intsD l]) := by
  have hi : Opens Try.prog 3 (fun ds => ∃ n : Int, ds = [.lit (iV n)]) := (Opens.int Try.underlying3).weaken (fun ds ⟨n, h, _⟩ => ⟨n, h⟩)
  have h := Opens.slice (z := 1) (fun n : Int => [.lit (iV n)]) (fun _ => rfl) (by omega) Try.underlying28 (by kernel_rfl) hi 3
  refine h.weaken (fun ds ⟨l, hl⟩ => ⟨l, ?_⟩)
  rw [hl, intsD, flat_one]
theorem ints_litL (w : World) (S : Nat → Prop) (l : List Int) : OwnsL w S (l.map iV) (l.map fun n => .lit (iV n)) :=
  ⟨by simp, fun _ _ => False, fun i h h' => by simp only [List.getElem_map]; exact .lit _ _, fun _ _ h => h.elim, fun _ _ _ _ h => h.elim⟩
theorem made1I (n : Nat) : (madeCells #[.int .i64 0] n).size = n * 1 := by simp [size_madeCells]
set_option maxHeartbeats 1000000 in
theorem eqIntS_same (v u : Value) (l : List Int) (w : World) (hv : Reads w w.heap.size v (intsD l)) (hu : Reads w w.heap.size u (intsD l)) (hn : l.length ≤ 1100000) :
    Calls Try.prog 30 #[v, u] w (SaysBool w true) := by
  obtain ⟨A, c, rfl, _, _⟩ := hv.lenN
  obtain ⟨A', c', rfl, _, _⟩ := hu.lenN
  have hne : ((l.length : Int) != (l.length : Int)) = false := by simp
  have HV := Lib.hid hv
  have HU := Lib.hid hu
  clear hv hu
  go_enter Try.func30, Try.ntmps30
  go_wp2
  go_loopw [5] (fun i wr => ∃ k : Nat, k ≤ l.length ∧ i = .int .i64 k ∧ Hid (Below w.heap.size w wr)) (fun i _ => l.length - (intOf i).toNat)
  case atStart => exact ⟨0, Nat.zero_le _, rfl, Lib.hid (Below.refl _ _)⟩
  case round =>
    obtain ⟨k, hk, rfl, HB⟩ := hrel
    by_cases hlt : k < l.length
    · obtain ⟨b, off, rfl, hbb, hc⟩ := (HV.out.on HB.out).int hlt
      obtain ⟨b2, off2, rfl, hbb2, hc2⟩ := (HU.out.on HB.out).int hlt
      have c1 := hc k hlt
      have c2 := hc2 k hlt
      unfold iV at c1 c2
      clear hc hc2
      have i1 : (k : Int) < (l.length : Int) := by omega
      have i2 : (0 : Int) ≤ (k : Int) := by omega
      have hne2 : (l[k] != l[k]) = false := by simp
      go_wp2
      go_still_tail 8, (by kernel_rfl)
      change wpList _ _ _ _ _ wr.drew
      have HB1 := Lib.hid (bstep HB.out (Below.drew1 _))
      generalize wr.drew = wd at *
      go_wp2
      go_roundw
      case rel => exact ⟨k + 1, by omega, by go_num, HB1⟩
      case measure => simp [intOf]; omega
    · go_wp2
      go_ret
      exact ⟨rfl, HB.out⟩
end Go.Proofs.Ytjnecehogebjkaa
