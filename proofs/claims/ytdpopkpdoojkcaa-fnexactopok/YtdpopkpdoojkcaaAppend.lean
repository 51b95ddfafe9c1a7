/- Laws of append onto a byte slice of the call's own: from a slice (nil and empty ones among them) and from a string. Conditions: the lengths together are at most 2^41. -/
import Derived.Test.YtdpopkpdoojkcaaBytes
import Derived.Maps.AppendAt
import Derived.Lib.AppendStr
namespace Go.Proofs.Ytdpopkpdoojkcaa
open Go.RowKit
set_option maxRecDepth 100000
set_option linter.unusedSimpArgs false
set_option linter.unusedVariables false

theorem own_of_row {w : World} {base n : Nat} {v : Value} {l : List UInt8} (h : w.ownsRow base 5 1 v n (bv l)) (hb : v.ownBlock ≠ none) : ∃ g, v.ownBlock = some g ∧ base ≤ g ∧ Own w g v l := by
  rcases h.2 with ⟨rfl, _⟩ | ⟨g, cap, cur, rfl, _⟩
  · exact absurd rfl hb
  · obtain ⟨ho, hg⟩ := Own.of_row h
    exact ⟨g, rfl, hg, ho⟩
theorem Own.blk {w : World} {g : Nat} {v : Value} {l : List UInt8} (h : Own w g v l) : v.ownBlock = some g := by
  obtain ⟨cap, cur, rfl, _⟩ := h; rfl
theorem Own.rowB {w : World} {g base : Nat} {v : Value} {l : List UInt8} (h : Own w g v l) (hb : base ≤ g) : w.ownsRow base 5 1 v l.length (bv l) := by
  obtain ⟨cap, cur, rfl, hg, h1, h2, h3, h4⟩ := h
  exact ⟨by simp [bv_length], .inr ⟨g, cap, cur, rfl, hb, hg, h1, h2, by simpa using h3, by simpa using h4⟩⟩
theorem ownBlock_ne {w : World} {base e size n : Nat} {v : Value} {xs : List Value} (h : w.ownsRow base e size v n xs) (hv : v ≠ .slice none 0 0) : v.ownBlock ≠ none := by
  rcases h.2 with ⟨rfl, _⟩ | ⟨g, cap, cur, rfl, _⟩
  · exact absurd rfl hv
  · simp [Value.ownBlock]
theorem Own.not_nil {w : World} {g : Nat} {v : Value} {l : List UInt8} (h : Own w g v l) : v ≠ .slice none 0 0 := by
  obtain ⟨cap, cur, rfl, _⟩ := h; simp

theorem strCells_bv (s : ByteArray) : Lib.strCells s = bv s.data.toList := by simp [Lib.strCells, bv]
end Go.Proofs.Ytdpopkpdoojkcaa
