/- Contracts for the draws of FnDevsBent, as far as they stand: spec.DrawDevNew (some int). Conditions: the code has at most 2^20 bytes. -/
import Derived.Test.YtmeiobpeacdfjaaDrawDev
namespace Go.Proofs.Ytmeiobpeacdfjaa
open Go.RowKit
set_option maxRecDepth 100000
set_option linter.unusedSimpArgs false
set_option linter.unusedVariables false

def newList : List Int := [1, 9, 60, 0, 61, -1]
def DInt (w : World) (r : Ending) (w' : World) : Prop := ∃ x : Int, x ∈ newList ∧ r = .returned (.int .i64 x) ∧ Below w.heap.size w w'
theorem drawDevNew_any (A : Option Addr) (cap : Nat) (l : List UInt8) (w : World) (hr : Rd w w.heap.size A l) (hn : l.length ≤ 1048576) : Calls Try.prog 17 #[.slice A l.length cap] w (DInt w) := by
  go_enter Try.func17, Try.ntmps17
  go_wp2_with fail
  refine (l1New_any _ _ l _ hr hn).mono ?_
  rintro r w1 ⟨p, rfl, c1, hp, b1⟩
  have hlt := c1.lt
  have H := Lib.hid (l1Int_any p w1.heap.size 6 newList (w1.alloc (.cells (newList.map (.int .i64 ·)).toArray 3)) (c1.alloc _) (Lies.new w1 _ _) (by simp) (by omega) (by decide) (by decide))
  have B1 := Lib.hid (bstep b1 (bal1 w1 (.cells (newList.map (.int .i64 ·)).toArray 3)))
  clear b1 c1
  go_wp2_with fail
  refine H.out.mono ?_
  rintro r w2 ⟨x, hx, rfl, _, g2⟩
  have B2 := below_of_only B1.out g2 hp
  have HX := Lib.hid hx
  clear hx g2
  go_wp2
  go_ret
  exact ⟨x, HX.out, rfl, B2⟩
end Go.Proofs.Ytmeiobpeacdfjaa
