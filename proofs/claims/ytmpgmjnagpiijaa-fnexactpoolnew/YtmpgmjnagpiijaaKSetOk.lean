/- Contracts for impl.SetOk, spec.SetOk (spec.l4Rises). Conditions: at most 2^21 keys. -/
import Derived.Test.YtmpgmjnagpiijaaKSetImpl
namespace Go.Proofs.Ytmpgmjnagpiijaa
open Go.RowKit
set_option maxRecDepth 100000
set_option linter.unusedSimpArgs false
set_option linter.unusedVariables false

theorem lessS (x y : KeyD) (w : World) : Calls Try.prog 123 #[x.v, y.v] w (SaysBool w (lessK x y)) := specLessKey_any _ _ _ _ _ _ _ _ _ _ w
theorem all_stepK {l : List KeyD} {k : Nat} (h : k < l.length) (hp : okK l[k] = true) (hf : (l.drop k).all okK = l.all okK) : (l.drop (k + 1)).all okK = l.all okK := by
  rw [drop_at h, List.all_cons, hp] at hf
  exact hf
theorem all_missK {l : List KeyD} {k : Nat} (h : k < l.length) (hp : okK l[k] = false) (hf : (l.drop k).all okK = l.all okK) : l.all okK = false := by
  rw [drop_at h, List.all_cons, hp] at hf
  exact hf.symm
end Go.Proofs.Ytmpgmjnagpiijaa
