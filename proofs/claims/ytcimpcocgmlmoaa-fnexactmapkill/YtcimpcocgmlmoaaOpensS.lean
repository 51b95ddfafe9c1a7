/- Arguments opened to data: strings. No condition: a plain lemma. -/
import Derived.Test.YtcimpcocgmlmoaaOpens
namespace Go.Proofs.Ytcimpcocgmlmoaa
open Go.RowKit Go.ChangeShapes Go.WideShapes Go.Deep
set_option maxRecDepth 100000
set_option linter.unusedSimpArgs false
set_option linter.unusedVariables false

theorem Opens.str {P : Program} {t : TypeId} (ht : P.underlying t = some .string) : Opens P t (fun ds => ∃ s : ByteArray, ds = [.lit (.string s)] ∧ s.size ≤ maxLen) := fun H enc w base spare held fuel cs x hx => by
  obtain ⟨s, rfl, _, hs⟩ := DataW.trod_string ht hx
  exact ⟨_, ⟨s, rfl, hs⟩, .one (.lit _)⟩
end Go.Proofs.Ytcimpcocgmlmoaa
