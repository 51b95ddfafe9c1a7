/- A key that comes in as an argument is opened to five ints; impl.SameSpot; the walks of FnExactKeyOk, FnExactLessKey and FnExactSameSpot: at every argument the call returns true and writes nothing that was there. No condition. -/
import Derived.Test.YtmpgmjnagpiijaaKeys
import Derived.Test.YtmpgmjnagpiijaaOpens
import Derived.Deep.RegionHeld3
import Derived.Deep.DeepCutAuto
namespace Go.Proofs.Ytmpgmjnagpiijaa
open Go.RowKit Go.ChangeShapes Go.WideShapes Go.Deep
set_option maxRecDepth 100000
set_option linter.unusedSimpArgs false
set_option linter.unusedVariables false

structure KeyD where
  (a b c d e : Int)
def KeyIs (v : Value) (k : KeyD) : Prop := v = keyV k.a k.b k.c k.d k.e
theorem key_opens : Opens Try.prog 144 (fun ds => ∃ a b c d e, ds = [.lit (.int .i64 a), .lit (.int .i64 b), .lit (.int .i64 c), .lit (.int .i64 d), .lit (.int .i64 e)]) := by
  have h := Opens.struct (P := Try.prog) Try.underlying144 (by kernel_rfl) (List.replicate 5 (fun ds => ∃ n, ds = [Dat.lit (.int .i64 n)] ∧ (Lit.int .i64 n).wf = true)) rfl (fun i hi => by
    match i, hi with
    | 0, _ => exact Opens.int Try.underlying3
    | 1, _ => exact Opens.int Try.underlying3
    | 2, _ => exact Opens.int Try.underlying3
    | 3, _ => exact Opens.int Try.underlying3
    | 4, _ => exact Opens.int Try.underlying3)
  refine h.weaken (fun ds ⟨dss, hd, hC, hds⟩ => ?_)
  match dss, hd with
  | [a, b, c, d, e], _ =>
    obtain ⟨n0, h0, _⟩ := hC 0 (by simp)
    obtain ⟨n1, h1, _⟩ := hC 1 (by simp)
    obtain ⟨n2, h2, _⟩ := hC 2 (by simp)
    obtain ⟨n3, h3, _⟩ := hC 3 (by simp)
    obtain ⟨n4, h4, _⟩ := hC 4 (by simp)
    simp at h0 h1 h2 h3 h4
    subst h0 h1 h2 h3 h4
    exact ⟨n0, n1, n2, n3, n4, by rw [hds]; rfl⟩
theorem open_keyArg {H : Type} {enc : TypeId × Value → H} {w : World} {r : Reach} {b0 base : Nat} {spare : Nat → Bool} {held : Bool} {v : Value} {x : DataW H} {p : List MemPlace}
    (hv : Value.okWide Try.prog w r b0 144 v) (h : DataW.Trod enc Try.prog w base spare held 144 v x p) : ∃ k, KeyIs v k := by
  obtain ⟨cs, rfl, hsz⟩ := okWide_struct Try.underlying144 hv
  obtain ⟨fuel, hf⟩ := h
  obtain ⟨ds, ⟨a, b, c, d, e, rfl⟩, hr⟩ := key_opens _ _ _ _ _ _ _ _ _ hf
  obtain ⟨l⟩ := cs
  have hl := hr.1
  simp [Value.cells] at hl
  match l, hl with
  | [x0, x1, x2, x3, x4], _ =>
    have r0 := hr.2 0 (by simp [Value.cells]) (by simp)
    have r1 := hr.2 1 (by simp [Value.cells]) (by simp)
    have r2 := hr.2 2 (by simp [Value.cells]) (by simp)
    have r3 := hr.2 3 (by simp [Value.cells]) (by simp)
    have r4 := hr.2 4 (by simp [Value.cells]) (by simp)
    simp [Value.cells] at r0 r1 r2 r3 r4
    cases r0
    cases r1
    cases r2
    cases r3
    cases r4
    exact ⟨⟨a, b, c, d, e⟩, rfl⟩

/-- What the two boxes of a pair of keys hold, cell by cell. -/
theorem keys_held {w W : World} {p q : Nat} {a b c d e a' b' c' d' e' : Value} {t : TypeId} (hp : w.heap[p]? = some (.cells #[a, b, c, d, e] t (0, 0))) (hq : w.heap[q]? = some (.cells #[a', b', c', d', e'] t (0, 0))) (hb : Below w.heap.size w W) :
    W.cell? ⟨p, 0, none⟩ = some a ∧ W.cell? ⟨p, 1, none⟩ = some b ∧ W.cell? ⟨p, 2, none⟩ = some c ∧ W.cell? ⟨p, 3, none⟩ = some d ∧ W.cell? ⟨p, 4, none⟩ = some e ∧ W.cell? ⟨q, 0, none⟩ = some a' ∧ W.cell? ⟨q, 1, none⟩ = some b' ∧ W.cell? ⟨q, 2, none⟩ = some c' ∧ W.cell? ⟨q, 3, none⟩ = some d' ∧ W.cell? ⟨q, 4, none⟩ = some e' := by
  obtain ⟨x0, x1, x2, x3, x4, _⟩ := box5 (box_on hp hb)
  obtain ⟨y0, y1, y2, y3, y4, _⟩ := box5 (box_on hq hb)
  exact ⟨x0, x1, x2, x3, x4, y0, y1, y2, y3, y4⟩
theorem Below.drew1 (w : World) : Below w.heap.size w w.drew := ⟨rfl, rfl, rfl, Nat.le_refl _, fun _ _ => rfl⟩
end Go.Proofs.Ytmpgmjnagpiijaa
