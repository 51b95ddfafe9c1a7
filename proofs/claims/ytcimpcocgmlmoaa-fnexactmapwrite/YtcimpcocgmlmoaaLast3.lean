/- A region that draws its order: the condition may be made stronger on the way; whether a guarded operation is wanted. No condition: plain laws. -/
import Derived.Test.YtcimpcocgmlmoaaLast
namespace Go.Proofs.Ytcimpcocgmlmoaa
open Go.RowKit
set_option maxRecDepth 100000
set_option linter.unusedSimpArgs false
set_option linter.unusedVariables false

theorem but_more {P : Program} {md : Region.Mode} {ops : Array Oper} {Q : Exit → Act → World → Prop} {S S' : World → Prop} {f : Nat} (h : ∀ w, S' w → S w) : ∀ {n : Nat} {listed : Array Bool} {a : Act} {w : World}, anyBut P md ops Q S' f n listed a w → anyBut P md ops Q S f n listed a w
  | 0, _, _, _, k => k
  | _ + 1, _, _, _, k => ⟨k.1, fun i hi => wpOp_mono (fun _ w' k' => ⟨fun hf => h w' (k'.1 hf), but_more h k'.2⟩) (k.2 i hi)⟩
theorem wanted_at {o og : Oper} {ops : Array Oper} {tmps : Array Value} {g s : Nat} {b v : Bool} (hg : o.guard = some (g, b)) (ho : ops[g]? = some og) (hd : og.dst = some s) (hv : tmps[s]? = some (.bool v)) : Region.wanted o (yielded ops tmps) = (v == b) := by
  simp [Region.wanted, yielded, hg, ho, hd, hv]
theorem wanted_un {o og : Oper} {ops : Array Oper} {tmps : Array Value} {g s : Nat} {b : Bool} (hg : o.guard = some (g, b)) (ho : ops[g]? = some og) (hd : og.dst = some s) (hv : tmps[s]? = some undef) : Region.wanted o (yielded ops tmps) = false := by
  simp [Region.wanted, yielded, hg, ho, hd, hv, undef]
end Go.Proofs.Ytcimpcocgmlmoaa
