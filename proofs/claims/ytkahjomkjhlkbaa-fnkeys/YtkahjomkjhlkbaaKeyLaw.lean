/- A key that comes in as an argument is opened to five ints; impl.SameSpot; the walks of FnExactKeyOk, FnExactLessKey and FnExactSameSpot: at every argument the call returns true and writes nothing that was there. No condition. -/
import Derived.Test.YtkahjomkjhlkbaaKeys
import Derived.Test.YtkahjomkjhlkbaaOpens
import Derived.Deep.RegionHeld3
import Derived.Deep.DeepCutAuto
namespace Go.Proofs.Ytkahjomkjhlkbaa
open Go.RowKit Go.ChangeShapes Go.WideShapes Go.Deep
set_option maxRecDepth 100000

structure KeyD where
  (a b c d e : Int)
def KeyIs (v : Value) (k : KeyD) : Prop := v = keyV k.a k.b k.c k.d k.e
theorem key_opens : Opens Try.prog 67 (fun ds => ∃ a b c d e, ds = [.lit (.int .i64 a), .lit (.int .i64 b), .lit (.int .i64 c), .lit (.int .i64 d), .lit (.int .i64 e)]) := by
  have h := Opens.struct (P := Try.prog) Try.underlying67 (by kernel_rfl) (List.replicate 5 (fun ds => ∃ n, ds = [Dat.lit (.int .i64 n)] ∧ (Lit.int .i64 n).wf = true)) rfl (fun i hi => by
    match i, hi with
    | 0, _ => exact Opens.int Try.underlying3
    | 1, _ => exact Opens.int Try.underlying3
    | 2, _ => exact Opens.int Try.underlying3
    | 3, _ => exact Opens.int Try.underlying3
    | 4, _ => exact Opens.int Try.underlying3)
  refine h.weaken (fun ds ⟨dss, hd, hC, hds⟩ => ?_)
  match dss, hd with
  | [a, b, c, d, e], _ =>
    obtain ⟨n0, h0, _⟩ := hC 0 (by simp)
    obtain ⟨n1, h1, _⟩ := hC 1 (by simp)
    obtain ⟨n2, h2, _⟩ := hC 2 (by simp)
    obtain ⟨n3, h3, _⟩ := hC 3 (by simp)
    obtain ⟨n4, h4, _⟩ := hC 4 (by simp)
    simp at h0 h1 h2 h3 h4
    subst h0 h1 h2 h3 h4
    exact ⟨n0, n1, n2, n3, n4, by rw [hds]; rfl⟩
theorem open_keyArg {H : Type} {enc : TypeId × Value → H} {w : World} {r : Reach} {b0 base : Nat} {spare : Nat → Bool} {held : Bool} {v : Value} {x : DataW H} {p : List MemPlace}
    (hv : Value.okWide Try.prog w r b0 67 v) (h : DataW.Trod enc Try.prog w base spare held 67 v x p) : ∃ k, KeyIs v k := by
  obtain ⟨cs, rfl, hsz⟩ := okWide_struct Try.underlying67 hv
  obtain ⟨fuel, hf⟩ := h
  obtain ⟨ds, ⟨a, b, c, d, e, rfl⟩, hr⟩ := key_opens _ _ _ _ _ _ _ _ _ hf
  obtain ⟨l⟩ := cs
  have hl := hr.1
  simp [Value.cells] at hl
  match l, hl with
  | [x0, x1, x2, x3, x4], _ =>
    have r0 := hr.2 0 (by simp [Value.cells]) (by simp)
    have r1 := hr.2 1 (by simp [Value.cells]) (by simp)
    have r2 := hr.2 2 (by simp [Value.cells]) (by simp)
    have r3 := hr.2 3 (by simp [Value.cells]) (by simp)
    have r4 := hr.2 4 (by simp [Value.cells]) (by simp)
    simp [Value.cells] at r0 r1 r2 r3 r4
    cases r0
    cases r1
    cases r2
    cases r3
    cases r4
    exact ⟨⟨a, b, c, d, e⟩, rfl⟩

theorem exactKeyOk_walk (v : Value) (k : KeyD) (w : World) (hv : KeyIs v k) : Calls Try.prog 10 #[v] w fun e w' => e = .returned (.bool true) ∧ Below w.heap.size w w' := by
  obtain ⟨a, b, c, d, e⟩ := k
  unfold KeyIs at hv
  subst hv
  have HT := Lib.hid (toKey_any a b c d e)
  have HI := Lib.hid (implKeyOk_any a b c d e)
  have HS := Lib.hid (specKeyOk_any a b c d e)
  unfold keyV at HT HI HS ⊢
  unfold SaysK keyV at HT
  have hne : (keyOkB a b c d e != keyOkB a b c d e) = false := by simp
  generalize keyOkB a b c d e = K at *
  have q0 := Lib.hid (al1 w (.cells #[.int .i64 a, .int .i64 b, .int .i64 c, .int .i64 d, .int .i64 e] 67))
  have HB := Lib.hid (bal1 w (.cells #[.int .i64 a, .int .i64 b, .int .i64 c, .int .i64 d, .int .i64 e] 67))
  go_enter Try.func10, Try.ntmps10
  go_wp2_with fail
  refine (HT.out _).mono ?_
  rintro r w1 ⟨rfl, b1⟩
  have B1 := Lib.hid (bstep HB.out b1)
  have q1 := Lib.hid (box_on q0.out b1)
  clear b1
  go_wp2_with fail
  refine (HS.out _).mono ?_
  rintro r w2 ⟨rfl, b2⟩
  have B2 := Lib.hid (bstep B1.out b2)
  have q2 := box_on q1.out b2
  obtain ⟨x0, x1, x2, x3, x4, x5⟩ := box5 q2
  have Q2 := Lib.hid q2
  clear b2 q2
  go_wp2_with fail
  refine (HT.out _).mono ?_
  rintro r w3 ⟨rfl, b3⟩
  have B3 := Lib.hid (bstep B2.out b3)
  clear b3 x0 x1 x2 x3 x4 x5
  go_wp2_with fail
  refine (HI.out _).mono ?_
  rintro r w4 ⟨rfl, b4⟩
  have B4 := bstep B3.out b4
  clear b4
  go_wp2
  go_ret
  exact ⟨rfl, B4⟩
/-- What the two boxes of a pair of keys hold, cell by cell. -/
theorem keys_held {w W : World} {p q : Nat} {a b c d e a' b' c' d' e' : Value} {t : TypeId} (hp : w.heap[p]? = some (.cells #[a, b, c, d, e] t (0, 0))) (hq : w.heap[q]? = some (.cells #[a', b', c', d', e'] t (0, 0))) (hb : Below w.heap.size w W) :
    W.cell? ⟨p, 0, none⟩ = some a ∧ W.cell? ⟨p, 1, none⟩ = some b ∧ W.cell? ⟨p, 2, none⟩ = some c ∧ W.cell? ⟨p, 3, none⟩ = some d ∧ W.cell? ⟨p, 4, none⟩ = some e ∧ W.cell? ⟨q, 0, none⟩ = some a' ∧ W.cell? ⟨q, 1, none⟩ = some b' ∧ W.cell? ⟨q, 2, none⟩ = some c' ∧ W.cell? ⟨q, 3, none⟩ = some d' ∧ W.cell? ⟨q, 4, none⟩ = some e' := by
  obtain ⟨x0, x1, x2, x3, x4, _⟩ := box5 (box_on hp hb)
  obtain ⟨y0, y1, y2, y3, y4, _⟩ := box5 (box_on hq hb)
  exact ⟨x0, x1, x2, x3, x4, y0, y1, y2, y3, y4⟩
theorem Below.drew1 (w : World) : Below w.heap.size w w.drew := ⟨rfl, rfl, rfl, Nat.le_refl _, fun _ _ => rfl⟩
theorem positionOf_any (a b c d e : Int) (w : World) : Calls Try.prog 88 #[keyV a b c d e] w fun r w' => r = .returned (.agg #[.int .i64 a, .int .i64 b]) ∧ Below w.heap.size w w' := by
  unfold keyV
  go_enter Try.func88, Try.ntmps88
  go_wp2
  exact bodyPost_ret (v := .agg #[.int .i64 a, .int .i64 b]) (by simp [results, Try.results88, go_sem]) rfl ⟨rfl, bal2 _ _ _⟩
set_option maxHeartbeats 1000000 in
theorem implSameSpot_any (a b c d e a' b' c' d' e' : Int) (w : World) : Calls Try.prog 44 #[keyV a b c d e, keyV a' b' c' d' e'] w (SaysBool w (spotB a b a' b')) := by
  have hsp : ∃ x y, (a == a') = x ∧ (b == b') = y ∧ spotB a b a' b' = (x && y) := ⟨_, _, rfl, rfl, rfl⟩
  obtain ⟨x, y, hx, hy, hxy⟩ := hsp
  rw [hxy]
  clear hxy
  have HP := Lib.hid positionOf_any
  unfold keyV at HP ⊢
  obtain ⟨q0, q1⟩ := al2 w (.cells #[.int .i64 a, .int .i64 b, .int .i64 c, .int .i64 d, .int .i64 e] 45) (.cells #[.int .i64 a', .int .i64 b', .int .i64 c', .int .i64 d', .int .i64 e'] 45)
  have Q0 := Lib.hid q0
  have Q1 := Lib.hid q1
  have HB := Lib.hid (bal2 w (.cells #[.int .i64 a, .int .i64 b, .int .i64 c, .int .i64 d, .int .i64 e] 45) (.cells #[.int .i64 a', .int .i64 b', .int .i64 c', .int .i64 d', .int .i64 e'] 45))
  clear q0 q1
  cases x <;> cases y
  all_goals
    go_enter Try.func44, Try.ntmps44
    go_upto_region 1 with (fail)
    generalize (w.alloc (.cells #[.int .i64 a, .int .i64 b, .int .i64 c, .int .i64 d, .int .i64 e] 45)).alloc (.cells #[.int .i64 a', .int .i64 b', .int .i64 c', .int .i64 d', .int .i64 e'] 45) = W at *
    obtain ⟨x0, x1, x2, x3, x4, y0, y1, y2, y3, y4⟩ := keys_held Q0.out Q1.out (Below.refl _ _)
    go_region_held3 (fun V => V.cell? ⟨w.heap.size, 0, none⟩ = some (.int .i64 a) ∧ V.cell? ⟨w.heap.size, 1, none⟩ = some (.int .i64 b) ∧ V.cell? ⟨w.heap.size, 2, none⟩ = some (.int .i64 c) ∧ V.cell? ⟨w.heap.size, 3, none⟩ = some (.int .i64 d) ∧ V.cell? ⟨w.heap.size, 4, none⟩ = some (.int .i64 e) ∧ V.cell? ⟨w.heap.size + 1, 0, none⟩ = some (.int .i64 a') ∧ V.cell? ⟨w.heap.size + 1, 1, none⟩ = some (.int .i64 b') ∧ V.cell? ⟨w.heap.size + 1, 2, none⟩ = some (.int .i64 c') ∧ V.cell? ⟨w.heap.size + 1, 3, none⟩ = some (.int .i64 d') ∧ V.cell? ⟨w.heap.size + 1, 4, none⟩ = some (.int .i64 e'))
      (first | with_reducible exact keys_held Q0.out Q1.out B8 | with_reducible exact keys_held Q0.out Q1.out B7 | with_reducible exact keys_held Q0.out Q1.out (Below.drew1 _) | exact ⟨x0, x1, x2, x3, x4, y0, y1, y2, y3, y4⟩)
      (first
        | (go_at_call 88; refine (HP.out _ _ _ _ _ _).mono ?_; rintro r w8 ⟨rfl, b8⟩; have B8 := bstep B7 b8)
        | (go_at_call 88; refine (HP.out _ _ _ _ _ _).mono ?_; rintro r w7 ⟨rfl, b7⟩; have B7 := bstep (Below.drew1 _) b7))
    all_goals
      go_wp2
      go_ret
      exact ⟨rfl, bstep HB.out B8⟩
set_option maxHeartbeats 2000000 in
theorem exactLessKey_walk (v : Value) (k : KeyD) (u : Value) (l : KeyD) (w : World) (hv : KeyIs v k) (hu : KeyIs u l) : Calls Try.prog 11 #[v, u] w fun e w' => e = .returned (.bool true) ∧ Below w.heap.size w w' := by
  obtain ⟨a, b, c, d, e⟩ := k
  obtain ⟨a', b', c', d', e'⟩ := l
  unfold KeyIs at hv hu
  subst hv hu
  have HT := Lib.hid toKey_any
  have HI := Lib.hid (implLessKey_any a b c d e a' b' c' d' e')
  have HS := Lib.hid (specLessKey_any a b c d e a' b' c' d' e')
  unfold keyV at HT HI HS ⊢
  unfold SaysK keyV at HT
  have hne : (lessB a b a' b' != lessB a b a' b') = false := by simp
  generalize lessB a b a' b' = K at *
  obtain ⟨q0, q1⟩ := al2 w (.cells #[.int .i64 a, .int .i64 b, .int .i64 c, .int .i64 d, .int .i64 e] 67) (.cells #[.int .i64 a', .int .i64 b', .int .i64 c', .int .i64 d', .int .i64 e'] 67)
  have Q0 := Lib.hid q0
  have Q1 := Lib.hid q1
  have HB := Lib.hid (bal2 w (.cells #[.int .i64 a, .int .i64 b, .int .i64 c, .int .i64 d, .int .i64 e] 67) (.cells #[.int .i64 a', .int .i64 b', .int .i64 c', .int .i64 d', .int .i64 e'] 67))
  clear q0 q1
  go_enter Try.func11, Try.ntmps11
  go_upto_region 1 with (fail)
  generalize (w.alloc (.cells #[.int .i64 a, .int .i64 b, .int .i64 c, .int .i64 d, .int .i64 e] 67)).alloc (.cells #[.int .i64 a', .int .i64 b', .int .i64 c', .int .i64 d', .int .i64 e'] 67) = W at *
  obtain ⟨x0, x1, x2, x3, x4, y0, y1, y2, y3, y4⟩ := keys_held Q0.out Q1.out (Below.refl _ _)
  go_region_held3 (fun V => V.cell? ⟨w.heap.size, 0, none⟩ = some (.int .i64 a) ∧ V.cell? ⟨w.heap.size, 1, none⟩ = some (.int .i64 b) ∧ V.cell? ⟨w.heap.size, 2, none⟩ = some (.int .i64 c) ∧ V.cell? ⟨w.heap.size, 3, none⟩ = some (.int .i64 d) ∧ V.cell? ⟨w.heap.size, 4, none⟩ = some (.int .i64 e) ∧ V.cell? ⟨w.heap.size + 1, 0, none⟩ = some (.int .i64 a') ∧ V.cell? ⟨w.heap.size + 1, 1, none⟩ = some (.int .i64 b') ∧ V.cell? ⟨w.heap.size + 1, 2, none⟩ = some (.int .i64 c') ∧ V.cell? ⟨w.heap.size + 1, 3, none⟩ = some (.int .i64 d') ∧ V.cell? ⟨w.heap.size + 1, 4, none⟩ = some (.int .i64 e'))
    (first | with_reducible exact keys_held Q0.out Q1.out B9 | with_reducible exact keys_held Q0.out Q1.out B8 | with_reducible exact keys_held Q0.out Q1.out B7 | with_reducible exact keys_held Q0.out Q1.out (Below.drew1 _) | exact ⟨x0, x1, x2, x3, x4, y0, y1, y2, y3, y4⟩)
    (first
      | (go_at_call 57; refine (HS.out _).mono ?_; rintro r w9 ⟨rfl, b9⟩; have B9 := bstep B8 b9)
      | (go_at_call 56; refine (HT.out _ _ _ _ _ _).mono ?_; rintro r w8 ⟨rfl, b8⟩; have B8 := bstep B7 b8)
      | (go_at_call 56; refine (HT.out _ _ _ _ _ _).mono ?_; rintro r w7 ⟨rfl, b7⟩; have B7 := bstep (Below.drew1 _) b7))
  all_goals
    have P0 := Lib.hid (box_on Q0.out B9)
    have P1 := Lib.hid (box_on Q1.out B9)
    have BC := Lib.hid (bstep HB.out B9)
    clear x0 x1 x2 x3 x4 y0 y1 y2 y3 y4 B7 B8 B9 b7 b8 b9 Q0 Q1 HB
    obtain ⟨x0, x1, x2, x3, x4, y0, y1, y2, y3, y4⟩ := keys_held P0.out P1.out (Below.refl _ _)
    go_wp2
    go_region_held3 (fun V => V.cell? ⟨w.heap.size, 0, none⟩ = some (.int .i64 a) ∧ V.cell? ⟨w.heap.size, 1, none⟩ = some (.int .i64 b) ∧ V.cell? ⟨w.heap.size, 2, none⟩ = some (.int .i64 c) ∧ V.cell? ⟨w.heap.size, 3, none⟩ = some (.int .i64 d) ∧ V.cell? ⟨w.heap.size, 4, none⟩ = some (.int .i64 e) ∧ V.cell? ⟨w.heap.size + 1, 0, none⟩ = some (.int .i64 a') ∧ V.cell? ⟨w.heap.size + 1, 1, none⟩ = some (.int .i64 b') ∧ V.cell? ⟨w.heap.size + 1, 2, none⟩ = some (.int .i64 c') ∧ V.cell? ⟨w.heap.size + 1, 3, none⟩ = some (.int .i64 d') ∧ V.cell? ⟨w.heap.size + 1, 4, none⟩ = some (.int .i64 e'))
      (first | with_reducible exact keys_held P0.out P1.out B9 | with_reducible exact keys_held P0.out P1.out B8 | with_reducible exact keys_held P0.out P1.out B7 | with_reducible exact keys_held P0.out P1.out (Below.drew1 _) | exact ⟨x0, x1, x2, x3, x4, y0, y1, y2, y3, y4⟩)
      (first
        | (go_at_call 43; refine (HI.out _).mono ?_; rintro r wc ⟨rfl, b9⟩; have B9 := bstep B8 b9)
        | (go_at_call 56; refine (HT.out _ _ _ _ _ _).mono ?_; rintro r wb ⟨rfl, b8⟩; have B8 := bstep B7 b8)
        | (go_at_call 56; refine (HT.out _ _ _ _ _ _).mono ?_; rintro r wa ⟨rfl, b7⟩; have B7 := bstep (Below.drew1 _) b7))
    all_goals
      have BD := bstep BC.out B9
      clear x0 x1 x2 x3 x4 y0 y1 y2 y3 y4 B7 B8 B9 b7 b8 b9
      go_wp2
      go_ret
      exact ⟨rfl, BD⟩
set_option maxHeartbeats 2000000 in
theorem exactSameSpot_walk (v : Value) (k : KeyD) (u : Value) (l : KeyD) (w : World) (hv : KeyIs v k) (hu : KeyIs u l) : Calls Try.prog 12 #[v, u] w fun e w' => e = .returned (.bool true) ∧ Below w.heap.size w w' := by
  obtain ⟨a, b, c, d, e⟩ := k
  obtain ⟨a', b', c', d', e'⟩ := l
  unfold KeyIs at hv hu
  subst hv hu
  have HT := Lib.hid toKey_any
  have HI := Lib.hid (implSameSpot_any a b c d e a' b' c' d' e')
  have HS := Lib.hid (specSameSpot_any a b c d e a' b' c' d' e')
  unfold keyV at HT HI HS ⊢
  unfold SaysK keyV at HT
  have hne : (spotB a b a' b' != spotB a b a' b') = false := by simp
  generalize spotB a b a' b' = K at *
  obtain ⟨q0, q1⟩ := al2 w (.cells #[.int .i64 a, .int .i64 b, .int .i64 c, .int .i64 d, .int .i64 e] 67) (.cells #[.int .i64 a', .int .i64 b', .int .i64 c', .int .i64 d', .int .i64 e'] 67)
  have Q0 := Lib.hid q0
  have Q1 := Lib.hid q1
  have HB := Lib.hid (bal2 w (.cells #[.int .i64 a, .int .i64 b, .int .i64 c, .int .i64 d, .int .i64 e] 67) (.cells #[.int .i64 a', .int .i64 b', .int .i64 c', .int .i64 d', .int .i64 e'] 67))
  clear q0 q1
  go_enter Try.func12, Try.ntmps12
  go_upto_region 1 with (fail)
  generalize (w.alloc (.cells #[.int .i64 a, .int .i64 b, .int .i64 c, .int .i64 d, .int .i64 e] 67)).alloc (.cells #[.int .i64 a', .int .i64 b', .int .i64 c', .int .i64 d', .int .i64 e'] 67) = W at *
  obtain ⟨x0, x1, x2, x3, x4, y0, y1, y2, y3, y4⟩ := keys_held Q0.out Q1.out (Below.refl _ _)
  go_region_held3 (fun V => V.cell? ⟨w.heap.size, 0, none⟩ = some (.int .i64 a) ∧ V.cell? ⟨w.heap.size, 1, none⟩ = some (.int .i64 b) ∧ V.cell? ⟨w.heap.size, 2, none⟩ = some (.int .i64 c) ∧ V.cell? ⟨w.heap.size, 3, none⟩ = some (.int .i64 d) ∧ V.cell? ⟨w.heap.size, 4, none⟩ = some (.int .i64 e) ∧ V.cell? ⟨w.heap.size + 1, 0, none⟩ = some (.int .i64 a') ∧ V.cell? ⟨w.heap.size + 1, 1, none⟩ = some (.int .i64 b') ∧ V.cell? ⟨w.heap.size + 1, 2, none⟩ = some (.int .i64 c') ∧ V.cell? ⟨w.heap.size + 1, 3, none⟩ = some (.int .i64 d') ∧ V.cell? ⟨w.heap.size + 1, 4, none⟩ = some (.int .i64 e'))
    (first | with_reducible exact keys_held Q0.out Q1.out B9 | with_reducible exact keys_held Q0.out Q1.out B8 | with_reducible exact keys_held Q0.out Q1.out B7 | with_reducible exact keys_held Q0.out Q1.out (Below.drew1 _) | exact ⟨x0, x1, x2, x3, x4, y0, y1, y2, y3, y4⟩)
    (first
      | (go_at_call 58; refine (HS.out _).mono ?_; rintro r w9 ⟨rfl, b9⟩; have B9 := bstep B8 b9)
      | (go_at_call 56; refine (HT.out _ _ _ _ _ _).mono ?_; rintro r w8 ⟨rfl, b8⟩; have B8 := bstep B7 b8)
      | (go_at_call 56; refine (HT.out _ _ _ _ _ _).mono ?_; rintro r w7 ⟨rfl, b7⟩; have B7 := bstep (Below.drew1 _) b7))
  all_goals
    have P0 := Lib.hid (box_on Q0.out B9)
    have P1 := Lib.hid (box_on Q1.out B9)
    have BC := Lib.hid (bstep HB.out B9)
    clear x0 x1 x2 x3 x4 y0 y1 y2 y3 y4 B7 B8 B9 b7 b8 b9 Q0 Q1 HB
    obtain ⟨x0, x1, x2, x3, x4, y0, y1, y2, y3, y4⟩ := keys_held P0.out P1.out (Below.refl _ _)
    go_wp2
    go_region_held3 (fun V => V.cell? ⟨w.heap.size, 0, none⟩ = some (.int .i64 a) ∧ V.cell? ⟨w.heap.size, 1, none⟩ = some (.int .i64 b) ∧ V.cell? ⟨w.heap.size, 2, none⟩ = some (.int .i64 c) ∧ V.cell? ⟨w.heap.size, 3, none⟩ = some (.int .i64 d) ∧ V.cell? ⟨w.heap.size, 4, none⟩ = some (.int .i64 e) ∧ V.cell? ⟨w.heap.size + 1, 0, none⟩ = some (.int .i64 a') ∧ V.cell? ⟨w.heap.size + 1, 1, none⟩ = some (.int .i64 b') ∧ V.cell? ⟨w.heap.size + 1, 2, none⟩ = some (.int .i64 c') ∧ V.cell? ⟨w.heap.size + 1, 3, none⟩ = some (.int .i64 d') ∧ V.cell? ⟨w.heap.size + 1, 4, none⟩ = some (.int .i64 e'))
      (first | with_reducible exact keys_held P0.out P1.out B9 | with_reducible exact keys_held P0.out P1.out B8 | with_reducible exact keys_held P0.out P1.out B7 | with_reducible exact keys_held P0.out P1.out (Below.drew1 _) | exact ⟨x0, x1, x2, x3, x4, y0, y1, y2, y3, y4⟩)
      (first
        | (go_at_call 44; refine (HI.out _).mono ?_; rintro r wc ⟨rfl, b9⟩; have B9 := bstep B8 b9)
        | (go_at_call 56; refine (HT.out _ _ _ _ _ _).mono ?_; rintro r wb ⟨rfl, b8⟩; have B8 := bstep B7 b8)
        | (go_at_call 56; refine (HT.out _ _ _ _ _ _).mono ?_; rintro r wa ⟨rfl, b7⟩; have B7 := bstep (Below.drew1 _) b7))
    all_goals
      have BD := bstep BC.out B9
      clear x0 x1 x2 x3 x4 y0 y1 y2 y3 y4 B7 B8 B9 b7 b8 b9
      go_wp2
      go_ret
      exact ⟨rfl, BD⟩
end Go.Proofs.Ytkahjomkjhlkbaa
