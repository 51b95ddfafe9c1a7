/- A key that comes in as an argument is opened to five ints; impl.SameSpot; the walks of FnExactKeyOk, FnExactLessKey and FnExactSameSpot: at every argument the call returns true and writes nothing that was there. No condition. -/
import Derived.Test.YthopkhpiikiknaaKeys
import Derived.Test.YthopkhpiikiknaaOpens
import Derived.Deep.RegionHeld3
import Derived.Deep.DeepCutAuto
namespace Go.Proofs.Ythopkhpiikiknaa
open Go.RowKit Go.ChangeShapes Go.WideShapes Go.Deep
set_option maxRecDepth 100000
set_option linter.unusedSimpArgs false
set_option linter.unusedVariables false

structure KeyD where
  (a b c d e : Int)
def KeyIs (v : Value) (k : KeyD) : Prop := v = keyV k.a k.b k.c k.d k.e
theorem key_opens : Opens Try.prog 61 (fun ds => ∃ a b c d e, ds = [.lit (.int .i64 a), .lit (.int .i64 b), .lit (.int .i64 c), .lit (.int .i64 d), .lit (.int .i64 e)]) := by
  have h := Opens.struct (P := Try.prog) Try.underlying61 (by kernel_rfl) (List.replicate 5 (fun ds => ∃ n, ds = [Dat.lit (.int .i64 n)] ∧ (Lit.int .i64 n).wf = true)) rfl (fun i hi => by
    match i, hi with
    | 0, _ => exact Opens.int Try.underlying3
    | 1, _ => exact Opens.int Try.underlying3
    | 2, _ => exact Opens.int Try.underlying3
    | 3, _ => exact Opens.int Try.underlying3
    | 4, _ => exact Opens.int Try.underlying3)
  refine h.weaken (fun ds ⟨dss, hd, hC, hds⟩ => ?_)
  match dss, hd with
  | [a, b, c, d, e], _ =>
    obtain ⟨n0, h0, _⟩ := hC 0 (by simp)
    obtain ⟨n1, h1, _⟩ := hC 1 (by simp)
    obtain ⟨n2, h2, _⟩ := hC 2 (by simp)
    obtain ⟨n3, h3, _⟩ := hC 3 (by simp)
    obtain ⟨n4, h4, _⟩ := hC 4 (by simp)
    simp at h0 h1 h2 h3 h4
    subst h0 h1 h2 h3 h4
    exact ⟨n0, n1, n2, n3, n4, by rw [hds]; rfl⟩
theorem open_keyArg {H : Type} {enc : TypeId × Value → H} {w : World} {r : Reach} {b0 base : Nat} {spare : Nat → Bool} {held : Bool} {v : Value} {x : DataW H} {p : List MemPlace}
    (hv : Value.okWide Try.prog w r b0 61 v) (h : DataW.Trod enc Try.prog w base spare held 61 v x p) : ∃ k, KeyIs v k := by
  obtain ⟨cs, rfl, hsz⟩ := okWide_struct Try.underlying61 hv
  obtain ⟨fuel, hf⟩ := h
  obtain ⟨ds, ⟨a, b, c, d, e, rfl⟩, hr⟩ := key_opens _ _ _ _ _ _ _ _ _ hf
  obtain ⟨l⟩ := cs
  have hl := hr.1
  simp [Value.cells] at hl
  match l, hl with
  | [x0, x1, x2, x3, x4], _ =>
    have r0 := hr.2 0 (by simp [Value.cells]) (by simp)
    have r1 := hr.2 1 (by simp [Value.cells]) (by simp)
    have r2 := hr.2 2 (by simp [Value.cells]) (by simp)
    have r3 := hr.2 3 (by simp [Value.cells]) (by simp)
    have r4 := hr.2 4 (by simp [Value.cells]) (by simp)
    simp [Value.cells] at r0 r1 r2 r3 r4
    cases r0
    cases r1
    cases r2
    cases r3
    cases r4
    exact ⟨⟨a, b, c, d, e⟩, rfl⟩

/-- What the two boxes of a pair of keys hold, cell by cell. -/
theorem keys_held {w W : World} {p q : Nat} {a b c d e a' b' c' d' e' : Value} {t : TypeId} (hp : w.heap[p]? = some (.cells #[a, b, c, d, e] t (0, 0))) (hq : w.heap[q]? = some (.cells #[a', b', c', d', e'] t (0, 0))) (hb : Below w.heap.size w W) :
    W.cell? ⟨p, 0, none⟩ = some a ∧ W.cell? ⟨p, 1, none⟩ = some b ∧ W.cell? ⟨p, 2, none⟩ = some c ∧ W.cell? ⟨p, 3, none⟩ = some d ∧ W.cell? ⟨p, 4, none⟩ = some e ∧ W.cell? ⟨q, 0, none⟩ = some a' ∧ W.cell? ⟨q, 1, none⟩ = some b' ∧ W.cell? ⟨q, 2, none⟩ = some c' ∧ W.cell? ⟨q, 3, none⟩ = some d' ∧ W.cell? ⟨q, 4, none⟩ = some e' := by
  obtain ⟨x0, x1, x2, x3, x4, _⟩ := box5 (box_on hp hb)
  obtain ⟨y0, y1, y2, y3, y4, _⟩ := box5 (box_on hq hb)
  exact ⟨x0, x1, x2, x3, x4, y0, y1, y2, y3, y4⟩
theorem Below.drew1 (w : World) : Below w.heap.size w w.drew := ⟨rfl, rfl, rfl, Nat.le_refl _, fun _ _ => rfl⟩
theorem positionOf_any (a b c d e : Int) (w : World) : Calls Try.prog 105 #[keyV a b c d e] w fun r w' => r = .returned (.agg #[.int .i64 a, .int .i64 b]) ∧ Below w.heap.size w w' := by
  unfold keyV
  go_enter Try.func105, Try.ntmps105
  go_wp2
  exact bodyPost_ret (v := .agg #[.int .i64 a, .int .i64 b]) (by simp [results, Try.results105, go_sem]) rfl ⟨rfl, bal2 _ _ _⟩
set_option maxHeartbeats 1000000 in
theorem implSameSpot_any (a b c d e a' b' c' d' e' : Int) (w : World) : Calls Try.prog 76 #[keyV a b c d e, keyV a' b' c' d' e'] w (SaysBool w (spotB a b a' b')) := by
  have hsp : ∃ x y, (a == a') = x ∧ (b == b') = y ∧ spotB a b a' b' = (x && y) := ⟨_, _, rfl, rfl, rfl⟩
  obtain ⟨x, y, hx, hy, hxy⟩ := hsp
  rw [hxy]
  clear hxy
  have HP := Lib.hid positionOf_any
  unfold keyV at HP ⊢
  obtain ⟨q0, q1⟩ := al2 w (.cells #[.int .i64 a, .int .i64 b, .int .i64 c, .int .i64 d, .int .i64 e] 32) (.cells #[.int .i64 a', .int .i64 b', .int .i64 c', .int .i64 d', .int .i64 e'] 32)
  have Q0 := Lib.hid q0
  have Q1 := Lib.hid q1
  have HB := Lib.hid (bal2 w (.cells #[.int .i64 a, .int .i64 b, .int .i64 c, .int .i64 d, .int .i64 e] 32) (.cells #[.int .i64 a', .int .i64 b', .int .i64 c', .int .i64 d', .int .i64 e'] 32))
  clear q0 q1
  cases x <;> cases y
  all_goals
    go_enter Try.func76, Try.ntmps76
    go_upto_region 1 with (fail)
    generalize (w.alloc (.cells #[.int .i64 a, .int .i64 b, .int .i64 c, .int .i64 d, .int .i64 e] 32)).alloc (.cells #[.int .i64 a', .int .i64 b', .int .i64 c', .int .i64 d', .int .i64 e'] 32) = W at *
    obtain ⟨x0, x1, x2, x3, x4, y0, y1, y2, y3, y4⟩ := keys_held Q0.out Q1.out (Below.refl _ _)
    go_region_held3 (fun V => V.cell? ⟨w.heap.size, 0, none⟩ = some (.int .i64 a) ∧ V.cell? ⟨w.heap.size, 1, none⟩ = some (.int .i64 b) ∧ V.cell? ⟨w.heap.size, 2, none⟩ = some (.int .i64 c) ∧ V.cell? ⟨w.heap.size, 3, none⟩ = some (.int .i64 d) ∧ V.cell? ⟨w.heap.size, 4, none⟩ = some (.int .i64 e) ∧ V.cell? ⟨w.heap.size + 1, 0, none⟩ = some (.int .i64 a') ∧ V.cell? ⟨w.heap.size + 1, 1, none⟩ = some (.int .i64 b') ∧ V.cell? ⟨w.heap.size + 1, 2, none⟩ = some (.int .i64 c') ∧ V.cell? ⟨w.heap.size + 1, 3, none⟩ = some (.int .i64 d') ∧ V.cell? ⟨w.heap.size + 1, 4, none⟩ = some (.int .i64 e'))
      (first | with_reducible exact keys_held Q0.out Q1.out B8 | with_reducible exact keys_held Q0.out Q1.out B7 | with_reducible exact keys_held Q0.out Q1.out (Below.drew1 _) | exact ⟨x0, x1, x2, x3, x4, y0, y1, y2, y3, y4⟩)
      (first
        | (go_at_call 105; refine (HP.out _ _ _ _ _ _).mono ?_; rintro r w8 ⟨rfl, b8⟩; have B8 := bstep B7 b8)
        | (go_at_call 105; refine (HP.out _ _ _ _ _ _).mono ?_; rintro r w7 ⟨rfl, b7⟩; have B7 := bstep (Below.drew1 _) b7))
    all_goals
      go_wp2
      go_ret
      exact ⟨rfl, bstep HB.out B8⟩
end Go.Proofs.Ythopkhpiikiknaa
