/- Bytes converted to a string. No condition: plain laws. -/
import Derived.Test.YtcimpcocgmlmoaaBytes
import Derived.Laws.IdiomStrings
namespace Go.Proofs.Ytcimpcocgmlmoaa
open Go.RowKit
set_option maxRecDepth 100000
set_option linter.unusedSimpArgs false
set_option linter.unusedVariables false

theorem conv_at (W : World) (b off n cap : Nat) (l : List UInt8) (hn : l.length = n) (hc : ∀ j (hj : j < l.length), W.cell? ⟨b, off + j, none⟩ = some (.int .u8 (l[j].toNat : Int))) :
    (convert 73 9 (.slice (some ⟨b, off, none⟩) n cap)).run Try.prog W = .ok (.string ⟨l.toArray⟩) W := by
  subst hn
  exact run_convert_bytes_back W 73 9 5 ⟨b, off, none⟩ cap l Try.underlying73 Try.underlying5 Try.underlying9 (fun j hj => by rw [Addr.add_lit]; exact hc j hj)

theorem conv_rd {w : World} {B : Nat} {A : Option Addr} {cap : Nat} {l : List UInt8} (h : Rd w B A l) (hc : l.length ≤ cap) : (convert 73 9 (.slice A l.length cap)).run Try.prog w = .ok (.string ⟨l.toArray⟩) w := by
  rcases h with rfl | ⟨b, off, rfl, _, hcc⟩
  · rcases A with _ | ⟨b, off, sp⟩
    · simp [convert, run_underlying Try.underlying73, run_underlying Try.underlying9, run_underlying Try.underlying5]
      simp [Conv.bytesToString]
      rfl
    · exact run_convert_bytes_back w 73 9 5 ⟨b, off, sp⟩ cap [] Try.underlying73 Try.underlying5 Try.underlying9 (fun j hj => by simp at hj)
  · exact conv_at w b off l.length cap l rfl hcc
end Go.Proofs.Ytcimpcocgmlmoaa
