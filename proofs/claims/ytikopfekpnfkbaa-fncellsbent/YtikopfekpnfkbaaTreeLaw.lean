/- Contracts for trees in the laws: laws.toTree copies one, eqTree finds two that read alike equal, markTree writes marks, heldTree finds them; a tree that comes in as an argument is opened. Conditions: at most 1100000 bounds, nodes, sets and keys. -/
import Derived.Test.YtikopfekpnfkbaaTree
namespace Go.Proofs.Ytikopfekpnfkbaa
open Go.RowKit Go.ChangeShapes Go.WideShapes Go.Deep
set_option maxRecDepth 100000
set_option linter.unusedSimpArgs false
set_option linter.unusedVariables false

theorem ints_opens : Opens Try.prog 54 (fun ds => ∃ l, ds = [intsD l]) := by
  have hi : Opens Try.prog 3 (fun ds => ∃ n : Int, ds = [.lit (iV n)]) := (Opens.int Try.underlying3).weaken (fun ds ⟨n, h, _⟩ => ⟨n, h⟩)
  have h := Opens.slice (z := 1) (fun n : Int => [.lit (iV n)]) (fun _ => rfl) (by omega) Try.underlying54 (by kernel_rfl) hi 3
  refine h.weaken (fun ds ⟨l, hl⟩ => ⟨l, ?_⟩)
  rw [hl, intsD, flat_one]
theorem ints_litL (w : World) (S : Nat → Prop) (l : List Int) : OwnsL w S (l.map iV) (l.map fun n => .lit (iV n)) :=
  ⟨by simp, fun _ _ => False, fun i h h' => by simp only [List.getElem_map]; exact .lit _ _, fun _ _ h => h.elim, fun _ _ _ _ h => h.elim⟩
theorem made1I (n : Nat) : (madeCells #[.int .i64 0] n).size = n * 1 := by simp [size_madeCells]
end Go.Proofs.Ytikopfekpnfkbaa
