/- What the device functions answer at a device none of whose slices is long is such a device. No condition: plain lemmas. -/
import Derived.Test.YtmeiobpeacdfjaaDevFall
import Derived.Test.YtmeiobpeacdfjaaDrawDev
import Derived.Test.YtmeiobpeacdfjaaConv
namespace Go.Proofs.Ytmeiobpeacdfjaa
open Go.RowKit
set_option maxRecDepth 100000
set_option linter.unusedSimpArgs false
set_option linter.unusedVariables false

theorem fallD_sm {d : DevD} {k : Int} (hs : SmallD d) : SmallD (fallD d k) := by
  obtain ⟨h1, h2, h3, h4⟩ := hs
  by_cases h : okD d = true
  · rw [fallD_yes h]
    exact ⟨by simp only [appK_length]; exact h1, by simp, appK_all (P := fun l => l.length ≤ 1048576) _ _ _ h3 h4 _, by simp⟩
  · rw [fallD_no h]; exact ⟨h1, h2, h3, h4⟩
theorem flushD_sm {d : DevD} (hs : SmallD d) : SmallD (flushD d) := by
  obtain ⟨h1, h2, h3, h4⟩ := hs
  by_cases h : okD d = true ∧ d.down = false
  · by_cases h0 : d.fuse = 0
    · rw [flushD_down h h0]; exact ⟨h1, h2, h3, h4⟩
    · rw [flushD_yes h h0]
      exact ⟨by simp only [appK_length]; exact h1, by simp, appK_all (P := fun l => l.length ≤ 1048576) _ _ _ h3 h4 _, by simp⟩
  · rw [flushD_no h]; exact ⟨h1, h2, h3, h4⟩
theorem writeD_sm {d : DevD} {n : Int} {l : List UInt8} (hs : SmallD d) (hl : l.length ≤ 1048576) : SmallD (writeD d n l) := by
  obtain ⟨h1, h2, h3, h4⟩ := hs
  unfold writeD
  split
  · rename_i hc
    split
    · exact ⟨h1, h2, h3, h4⟩
    · refine ⟨h1, ?_, h3, ?_⟩
      · have := hc.2.2.2.2
        simp; omega
      · intro p hp
        rcases List.mem_append.1 hp with h | h
        · exact h4 p h
        · simp at h; subst h; exact hl
  · exact ⟨h1, h2, h3, h4⟩
theorem newD_sm (n : Int) : SmallD (newD n) := by
  unfold newD
  split
  · refine ⟨by simp; omega, by simp, fun l hl => ?_, by simp⟩
    have := List.eq_of_mem_replicate hl; subst this; simp
  · exact ⟨by simp, by simp, by simp, by simp⟩
theorem conv_own {w : World} {A : Option Addr} {c : Nat} {l : List UInt8} (h : Reads w w.heap.size (.slice A l.length c) (bytesD l)) : (convert 22 9 (.slice A l.length c)).run Try.prog w = .ok (.string ⟨l.toArray⟩) w := by
  obtain ⟨A', c', hv, h1, h2, h3⟩ := h.bytes
  cases hv
  exact conv_rd h3 h1
end Go.Proofs.Ytmeiobpeacdfjaa
