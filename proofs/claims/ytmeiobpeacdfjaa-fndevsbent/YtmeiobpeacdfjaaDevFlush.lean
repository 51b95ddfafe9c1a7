/- Contracts of impl.FlushDev, impl.survives and impl.FallDev. Conditions: no slice holds more than 2^20 elements. -/
import Derived.Test.YtmeiobpeacdfjaaDevSettle
import Derived.Deep.RegionHeld3
namespace Go.Proofs.Ytmeiobpeacdfjaa
open Go.RowKit
set_option maxRecDepth 100000
set_option linter.unusedSimpArgs false
set_option linter.unusedVariables false

theorem row_at {w : World} {base e z n c : Nat} {A : Option Addr} {xs : List Value} (h : w.ownsRow base e z (.slice A n c) n xs) : At w A xs := by
  rcases row_cases h with ⟨_, _, rfl⟩ | ⟨g, cap, hv, _, hR, _, _, hl⟩
  · exact .inl rfl
  · cases hv
    exact .inr ⟨g, 0, rfl, fun i hi => by rw [Nat.zero_add]; exact hR.cell hi⟩
theorem dev_split {w : World} {S : Nat → Prop} {v0 v1 : Value} {d : DevD} {f : Int} {dn : Bool} (h : OwnDev w S (.agg #[v0, v1, .int .i64 f, .bool dn]) d) (base : Nat) (hb : ∀ b, S b → base ≤ b) :
    ∃ xs zs T, w.ownsRow base 22 1 v0 d.secs.length xs ∧ w.ownsRow base 78 2 v1 d.cache.length zs ∧ OwnsL w T (xs ++ zs) (d.secs.map bytesD ++ d.cache.flatMap wrC) ∧ (∀ x, T x → S x ∧ v0.ownBlock ≠ some x) ∧ (∀ g, v0.ownBlock = some g → S g) ∧ d.fuse = f ∧ d.down = dn := by
  obtain ⟨u0, u1, he, ol⟩ := h
  simp at he
  obtain ⟨rfl, rfl, hf, hd⟩ := he
  obtain ⟨S0, S1, s0, s1, h0, h1, hdj⟩ := ol.pair
  obtain ⟨xs, r0, o0, g0⟩ := s0.rowL base (fun b hb' => hb b (h0 b hb'))
  obtain ⟨zs, r1, o1, g1⟩ := s1.rowL base (fun b hb' => hb b (h1 b hb'))
  refine ⟨xs, zs, fun x => (S0 x ∧ v0.ownBlock ≠ some x) ∨ (S1 x ∧ v1.ownBlock ≠ some x), r0, r1, o0.append o1 (fun b hb => .inl hb) (fun b hb => .inr hb) (fun b hb hb' => hdj b hb.1 hb'.1), ?_, fun g hg => h0 g (g0 g hg), hf.symm, hd.symm⟩
  rintro x (⟨hx, hne⟩ | ⟨hx, hne⟩)
  · exact ⟨h0 x hx, hne⟩
  · exact ⟨h1 x hx, fun h => hdj x (g0 x h) hx⟩
theorem dev_join {w : World} {S T : Nat → Prop} {base : Nat} {v0 : Value} {ls : List (List UInt8)} {ys : List Value} {f : Int} {dn : Bool} (hr : w.ownsRow base 22 1 v0 ls.length ys) (ho : OwnsL w T ys (ls.map bytesD)) (hT : ∀ x, T x → S x ∧ v0.ownBlock ≠ some x) (hS : ∀ g, v0.ownBlock = some g → S g) :
    OwnDev w S (.agg #[v0, .slice none 0 0, .int .i64 f, .bool dn]) ⟨ls, [], f, dn⟩ :=
  ⟨_, _, rfl, OwnsL.two (S := S) (T := fun _ => False) (row_ownsS hr S hS (ho.mono hT) (by simp)) (.nil _ _ _) (fun _ h => h) (fun _ h => h.elim) (fun _ _ h => h)⟩
theorem far4 {w : World} {p o g : Nat} {v a b c d : Value} (hne : p ≠ g) (h : w.cell? ⟨p, o, none⟩ = some v) : ((((w.setCell ⟨g, 0, none⟩ a).setCell ⟨g, 1, none⟩ b).setCell ⟨g, 2, none⟩ c).setCell ⟨g, 3, none⟩ d).cell? ⟨p, o, none⟩ = some v := by
  have one : ∀ (w : World) (j : Nat) (u : Value), (w.setCell ⟨g, j, none⟩ u).cell? ⟨p, o, none⟩ = w.cell? ⟨p, o, none⟩ := fun w j u => World.cell?_of_block (a := ⟨p, o, none⟩) (Below.heap_setCell _ _ _ _ hne)
  rw [one, one, one, one]; exact h
def all_ (_ : Nat) : Bool := true
def flushD (d : DevD) : DevD := if okD d = true ∧ d.down = false then (if d.fuse = 0 then spend d else ⟨appK all_ d.secs d.cache d.cache.length, [], spendF d.fuse, false⟩) else d
theorem flushD_no {d : DevD} (h : ¬ (okD d = true ∧ d.down = false)) : flushD d = d := if_neg h
theorem flushD_yes {d : DevD} (h : okD d = true ∧ d.down = false) (h0 : d.fuse ≠ 0) : flushD d = ⟨appK all_ d.secs d.cache d.cache.length, [], spendF d.fuse, false⟩ := by
  unfold flushD; rw [if_pos h, if_neg h0]
theorem flushD_down {d : DevD} (h : okD d = true ∧ d.down = false) (h0 : d.fuse = 0) : flushD d = spend d := by
  unfold flushD; rw [if_pos h, if_pos h0]
/-- The two calls that apply pending writes: pendingWrites of the copy, then settle. -/
theorem settle_ready {w5 w6 : World} {base b lim : Nat} {L : List Nat} {A0 : Option Addr} {c0 : Nat} {d : DevD} {xs zs : List Value} {T : Nat → Prop} (hok : okD d = true) (hr : w5.ownsRow base 22 1 (.slice A0 d.secs.length c0) d.secs.length xs) (ho : OwnsL w5 T (xs ++ zs) (d.secs.map bytesD ++ d.cache.flatMap wrC)) (hT : ∀ x, T x → x < lim ∧ (Value.slice A0 d.secs.length c0).ownBlock ≠ some x) (hlim : lim ≤ w5.heap.size)
    (hb : w5.heap.size ≤ b) (b6 : Below w5.heap.size w5 w6) (hm : MapIs w6 b L (valOf zs)) (keep : Nat → Bool) (hL : ∀ i, i ∈ L ↔ keep i = true ∧ i < d.cache.length) (A1 : Option Addr) (c1 : Nat) (f : Int) (dn : Bool) :
    Calls Try.prog 69 #[.agg #[.slice A0 d.secs.length c0, .slice A1 d.cache.length c1, .int .i64 f, .bool dn], .map (some b)] w6 (Settled w6 base b (.slice A0 d.secs.length c0) T f dn (appK keep d.secs d.cache d.cache.length)) := by
  have hk := (okD_iff d).1 hok
  exact settle_any A0 A1 c0 c1 f dn d.secs d.cache xs zs keep L T base b w6 (by omega) (by omega) (fun p hp => ⟨(hk.2.2.2.2.1 p hp).1, (hk.2.2.2.2.1 p hp).2.1⟩) (row_on hr b6) (ho.on b6) (by rw [hr.1]; omega)
    (fun x hx => ⟨(hT x hx).2, by have := (hT x hx).1; omega⟩) (fun x hx => by have := (hT x hx).1; have := b6.size; omega) (fun h => by have := (row_lt hr b h).1; omega) hm hL
set_option maxHeartbeats 4000000 in
theorem implFlushDev_any (v : Value) (d : DevD) (w : World) (hv : RdDev w w.heap.size v d) (hs : SmallD d) : Calls Try.prog 25 #[v] w (NewDev w (flushD d)) := by
  have HV := Lib.hid hv
  have HS := Lib.hid hs
  obtain ⟨A0, c0, A1, c1, rfl⟩ := hv.shape
  obtain ⟨q0, q1⟩ := al2 w (.cells #[.slice A0 d.secs.length c0, .slice A1 d.cache.length c1, .int .i64 d.fuse, .bool d.down] 27) (.cells #[.slice none 0 0, .slice none 0 0, .int .i64 0, .bool false] 27)
  clear hv hs
  go_enter Try.func25, Try.ntmps25
  go_wp2_with fail
  refine (copyDev_any _ d _ (HV.out.on (bal2 _ _ _)) HS.out).mono ?_
  rintro e w1 ⟨x, rfl, o1, b1⟩
  have hb1 := bstep (bal2 _ _ _) b1
  have hz1 := b1.size
  simp only [World.size_alloc] at hz1 o1
  obtain ⟨A2, c2, A3, c3, rfl⟩ := o1.rd.shape
  have bx : Boxes (w1.alloc (.cells #[.slice A2 d.secs.length c2, .slice A3 d.cache.length c3, .int .i64 d.fuse, .bool d.down] 27)) w.heap.size (w.heap.size + 1) w1.heap.size #[.slice A0 d.secs.length c0, .slice A1 d.cache.length c1, .int .i64 d.fuse, .bool d.down] #[.slice none 0 0, .slice none 0 0, .int .i64 0, .bool false] #[.slice A2 d.secs.length c2, .slice A3 d.cache.length c3, .int .i64 d.fuse, .bool d.down] :=
    ⟨box_on (box_on q0 b1) (bal1 _ _), box_on (box_on q1 b1) (bal1 _ _), al1 _ _⟩
  have BX := Lib.hid bx
  have O1 := Lib.hid (o1.lt.on (bal1 w1 (.cells #[.slice A2 d.secs.length c2, .slice A3 d.cache.length c3, .int .i64 d.fuse, .bool d.down] 27)))
  have HB1 := Lib.hid (bstep hb1 (bal1 w1 (.cells #[.slice A2 d.secs.length c2, .slice A3 d.cache.length c3, .int .i64 d.fuse, .bool d.down] 27)))
  have RD := Lib.hid (HV.out.on HB1.out)
  obtain ⟨x0, x1, x2, x3, x4⟩ := box4 (box_on q0 b1)
  have hzz : w.heap.size + 1 < w1.heap.size := by omega
  have hza : w.heap.size < w1.heap.size := by omega
  clear q0 q1 b1 hb1 o1 bx
  go_wp2_with fail
  refine (implDevOk_any _ d _ RD.out HS.out).mono ?_
  rintro e w2 ⟨rfl, b2⟩
  have hb2 := bstep HB1.out b2
  have bx2 := BX.out.on b2
  have o2 := O1.out.on b2
  have hz2 := b2.size
  simp only [World.size_alloc] at hz2
  clear x0 x1 x2 x3 x4 BX O1 b2 RD HB1
  have BX := Lib.hid bx2
  have O2 := Lib.hid o2
  have HB2 := Lib.hid hb2
  obtain ⟨x0, x1, x2, x3, x4⟩ := box4 bx2.1
  obtain ⟨y0, y1, y2, y3, y4⟩ := box4 bx2.2.1
  obtain ⟨z0, z1, z2, z3, z4⟩ := box4 bx2.2.2
  have m1 : Mid w.heap.size (w.heap.size + 2) (w.heap.size + 1) := .mk (by omega) (by omega)
  clear bx2 o2 hb2
  obtain ⟨ss, cs, f, dn⟩ := d
  dsimp only at *
  by_cases hok : okD ⟨ss, cs, f, dn⟩ = true
  · rw [hok]
    have OK := Lib.hid hok
    have FB := (okD_iff _).1 hok
    have f1 : f ≤ 1000 := FB.2.2.2.2.2.2
    have f0 : -1 ≤ f := FB.2.2.2.2.2.1
    have sl : ss.length ≤ 60 := FB.2.1
    have cl : cs.length ≤ 60 := FB.2.2.1
    clear hok FB
    cases dn
    · go_wp2_with fail
      refine (spendFuse_any _ _ _ _ _ _ f false _ (by omega)).mono ?_
      rintro e w4 ⟨rfl, b4⟩
      have bx4 := BX.out.on b4
      have O4 := Lib.hid (O2.out.on b4)
      have HB4 := Lib.hid (bstep HB2.out b4)
      have hz4 := b4.size
      clear x0 x1 x2 x3 x4 y0 y1 y2 y3 y4 z0 z1 z2 z3 z4 b4 BX O2 HB2
      obtain ⟨y0, y1, y2, y3, y4⟩ := box4 bx4.2.1
      obtain ⟨z0, z1, z2, z3, z4⟩ := box4 bx4.2.2
      have BX := Lib.hid bx4
      clear bx4
      by_cases hf : f = 0
      · subst hf
        have u1 := Two.l (w.heap.size + 1) w1.heap.size
        have u2 := Two.r (w.heap.size + 1) w1.heap.size
        have e1 : spendF 0 = -1 := rfl
        have e2 : downF 0 false = true := rfl
        rw [e1, e2]
        go_wp2
        refine bodyPost_ret (v := .agg #[.slice A2 ss.length c2, .slice A3 cs.length c3, .int .i64 (-1), .bool true]) (by simp [results, Try.results25, go_sem, *]) rfl ⟨_, rfl, ?_, ?_⟩
        · rw [flushD_down ⟨OK.out, rfl⟩ rfl]
          exact ((O4.out.turn.far ((((((((((Only.refl (Two (w.heap.size + 1) w1.heap.size) _).setCell u2 _).setCell u2 _).setCell u2 _).setCell u2 _).setCell u1 _).setCell u1 _).setCell u1 _).setCell u1 _)) (fun b hb _ hb' => by have := hb.1; have := hb.2; rcases hb' with rfl | rfl <;> omega))).mono (fun b hb => by have := hb.1; omega)
        · exact HB4.out.trans (((((((((((Only.refl (Two (w.heap.size + 1) w1.heap.size) _).setCell u2 _).setCell u2 _).setCell u2 _).setCell u2 _).setCell u1 _).setCell u1 _).setCell u1 _).setCell u1 _)).below HB4.out.size (fun b hb => by rcases hb with rfl | rfl <;> omega))
      · have e2 : downF f false = false := if_neg hf
        rw [e2]
        have HF := Lib.hid hf
        have OS := Lib.hid (O4.out.turn (f' := spendF f) (b' := false))
        have E2 := Lib.hid e2
        generalize hf2 : spendF f = f2 at *
        have HF2 := Lib.hid hf2
        clear hf2
        have q5 : ∀ a b c d, ((((w4.setCell ⟨w1.heap.size, 0, none⟩ a).setCell ⟨w1.heap.size, 1, none⟩ b).setCell ⟨w1.heap.size, 2, none⟩ c).setCell ⟨w1.heap.size, 3, none⟩ d).heap[w1.heap.size]? = some (.cells #[a, b, c, d] 27) := fun a b c d => box_set (box_set (box_set (box_set BX.out.2.2)))
        have r5 : ∀ a b c d, ((((w4.setCell ⟨w1.heap.size, 0, none⟩ a).setCell ⟨w1.heap.size, 1, none⟩ b).setCell ⟨w1.heap.size, 2, none⟩ c).setCell ⟨w1.heap.size, 3, none⟩ d).heap[w.heap.size + 1]? = some (.cells #[.slice none 0 0, .slice none 0 0, .int .i64 0, .bool false] 27) := fun a b c d => box_far (box_far (box_far (box_far BX.out.2.1 (by omega)) (by omega)) (by omega)) (by omega)
        have u2 := Two.r (w.heap.size + 1) w1.heap.size
        have o5 : ∀ a b c d, Only (Two (w.heap.size + 1) w1.heap.size) w4 ((((w4.setCell ⟨w1.heap.size, 0, none⟩ a).setCell ⟨w1.heap.size, 1, none⟩ b).setCell ⟨w1.heap.size, 2, none⟩ c).setCell ⟨w1.heap.size, 3, none⟩ d) := fun a b c d => ((((Only.refl _ _).setCell u2 _).setCell u2 _).setCell u2 _).setCell u2 _
        have Q5 := Lib.hid q5
        have R5 := Lib.hid r5
        have P5 := Lib.hid o5
        clear q5 r5 o5 e2 hf
        go_wp2
        obtain ⟨w5, hw5⟩ : ∃ w5, w5 = ((((w4.setCell ⟨w1.heap.size, 0, none⟩ (.slice A2 ss.length c2)).setCell ⟨w1.heap.size, 1, none⟩ (.slice A3 cs.length c3)).setCell ⟨w1.heap.size, 2, none⟩ (.int .i64 f2)).setCell ⟨w1.heap.size, 3, none⟩ (.bool false)) := ⟨_, rfl⟩
        rw [← hw5]
        have q5 := hw5 ▸ Q5.out (.slice A2 ss.length c2) (.slice A3 cs.length c3) (.int .i64 f2) (.bool false)
        have r5 := hw5 ▸ R5.out (.slice A2 ss.length c2) (.slice A3 cs.length c3) (.int .i64 f2) (.bool false)
        have o5 := hw5 ▸ P5.out (.slice A2 ss.length c2) (.slice A3 cs.length c3) (.int .i64 f2) (.bool false)
        clear hw5 Q5 R5 P5 y0 y1 y2 y3 y4 z0 z1 z2 z3 z4 BX
        have HB5 := Lib.hid (HB4.out.trans (o5.below HB4.out.size (fun b hb => by rcases hb with rfl | rfl <;> omega)))
        have O5 := OS.out.far o5 (fun b hb _ hb' => by have := hb.1; have := hb.2; rcases hb' with rfl | rfl <;> omega)
        have hz5 := o5.size
        obtain ⟨xs, zs, T, r0, r1, ol, hT, hS, _, _⟩ := dev_split O5 (w.heap.size + 2) (fun b hb => hb.1)
        have R0 := Lib.hid r0
        have R1 := Lib.hid r1
        have OL := Lib.hid ol
        have HT := Lib.hid hT
        have HSS := Lib.hid hS
        have Q5 := Lib.hid q5
        have R5 := Lib.hid r5
        have hzl : xs.length = ss.length := by have h := r0.1; simpa using h
        have RZ : Hid (ReadsL w5 w5.heap.size zs (cs.flatMap wrC)) := by
          have h := ol.reads
          refine Lib.hid ⟨by have := h.1; simp only [List.length_append, List.length_map] at this; omega, fun i a c => ?_⟩
          have := h.2 (xs.length + i) (by simp; omega) (by simp only [List.length_append, List.length_map]; omega)
          rw [List.getElem_append_right (by omega), List.getElem_append_right (by simp; omega)] at this
          simpa [hzl] using this
        have hnq : w1.heap.size ≠ w.heap.size + 1 := by omega
        obtain ⟨z0, z1, z2, z3, z4⟩ := box4 q5
        obtain ⟨y0, y1, y2, y3, y4⟩ := box4 r5
        clear q5 r5 r0 r1 ol hT hS O5 OS O4 HB4 o5 hzl
        go_region_held3 (fun W => W.cell? ⟨w1.heap.size, 0, none⟩ = some (.slice A2 ss.length c2) ∧ W.cell? ⟨w1.heap.size, 1, none⟩ = some (.slice A3 cs.length c3) ∧ W.cell? ⟨w1.heap.size, 2, none⟩ = some (.int .i64 f2) ∧ W.cell? ⟨w1.heap.size, 3, none⟩ = some (.bool false)) (first | exact ⟨z0, z1, z2, z3⟩ | exact ⟨a0, a1, a2, a3⟩ | exact ⟨g0, g1, g2, g3⟩ | exact ⟨far4 hnq g0, far4 hnq g1, far4 hnq g2, far4 hnq g3⟩ | go_keep)
          (first
            | (go_at_call 70; refine (pendingWrites_any A2 A3 ss.length c2 c3 f2 false cs zs _ ((row_at R1.out).on ((Below.refl _ _).drew)) (RZ.out.on ((Below.refl _ _).drew)) (by omega)).mono ?_; rintro e w6 ⟨b, rfl, hb6, hm6, b6'⟩; have b6 : Below w5.heap.size w5 w6 := (Below.refl _ _).drew.trans b6'; have B6 := Lib.hid b6; have M6 := Lib.hid hm6; have hbb : w5.heap.size ≤ b := hb6; obtain ⟨a0, a1, a2, a3, a4⟩ := box4 (box_on Q5.out b6); clear b6 b6' hm6 hb6)
            | (go_at_call 69; refine (settle_ready (d := ⟨ss, cs, f, false⟩) (lim := w1.heap.size) OK.out R0.out OL.out (fun x hx => ⟨(HT.out x hx).1.2, (HT.out x hx).2⟩) (by omega) hbb B6.out M6.out all_ (fun i => by simp [all_]) A3 c3 f2 false).mono ?_; rintro e w7 ⟨ys, rfl, r7, o7, g7⟩; have N7 : ∀ p, p < w5.heap.size → (w.heap.size + 2 ≤ p → w1.heap.size ≤ p) → w7.heap[p]? = w6.heap[p]? := (fun p hp hq => g7.block p (by have := B6.out.size; omega) (fun h => by rcases h with h | h; (· omega); (· have := HSS.out p h; omega))); obtain ⟨g0, g1, g2, g3, g4⟩ := box4 ((N7 w1.heap.size (by omega) (by omega)).trans (box_on Q5.out B6.out)); obtain ⟨k0, k1, k2, k3, k4⟩ := box4 ((N7 (w.heap.size + 1) (by omega) (by omega)).trans (box_on R5.out B6.out)); have hz7 := g7.size; have O7 := Lib.hid o7; have R7 := Lib.hid r7; have G7 := Lib.hid g7; clear N7 o7 r7 g7))
        have OD := Lib.hid (dev_join (f := f2) (dn := false) R7.out O7.out HT.out HSS.out)
        have HB7 : Hid (Below w.heap.size w w7) := Lib.hid ((bstep HB5.out B6.out).trans (G7.out.below (by have := (bstep HB5.out B6.out).size; omega) (fun p hp => by
          rcases hp with hp | hp
          · have := HB5.out.size; omega
          · have := HSS.out p hp; omega)))
        clear z0 z1 z2 z3 z4 y0 y1 y2 y3 y4 a0 a1 a2 a3 a4 g0 g1 g2 g3 g4 R0 R1 OL HT HSS Q5 R5 RZ B6 M6 O7 R7 G7 HB5
        go_wp2
        refine bodyPost_ret (v := .agg #[.slice A2 ss.length c2, .slice none 0 0, .int .i64 f2, .bool false]) (by simp [results, Try.results25, go_sem, *]) rfl ⟨_, rfl, ?_, ?_⟩
        · rw [flushD_yes ⟨OK.out, rfl⟩ HF.out]
          dsimp only
          rw [HF2.out]
          exact (OD.out.mono (fun b hb => hb.1)).past (a := w.heap.size) (b := w.heap.size + 2) (((((Only.refl _ _).setCell m1 _).setCell m1 _).setCell m1 _).setCell m1 _) (by omega)
        · exact bpast (b := w.heap.size + 2) HB7.out (((((Only.refl _ _).setCell m1 _).setCell m1 _).setCell m1 _).setCell m1 _)
    · go_wp2
      refine bodyPost_ret (v := .agg #[.slice A2 ss.length c2, .slice A3 cs.length c3, .int .i64 f, .bool true]) (by simp [results, Try.results25, go_sem, *]) rfl ⟨_, rfl, ?_, ?_⟩
      · rw [flushD_no (fun h => by cases h.2)]; exact (O2.out.mono (fun b hb => hb.1)).past (a := w.heap.size) (b := w.heap.size + 2) (((((Only.refl _ _).setCell m1 _).setCell m1 _).setCell m1 _).setCell m1 _) (by omega)
      · exact bpast (b := w.heap.size + 2) HB2.out (((((Only.refl _ _).setCell m1 _).setCell m1 _).setCell m1 _).setCell m1 _)
  · have hok2 : okD ⟨ss, cs, f, dn⟩ = false := by simpa using hok
    rw [hok2]
    have OK := Lib.hid hok
    clear hok hok2
    go_wp2
    refine bodyPost_ret (v := .agg #[.slice A2 ss.length c2, .slice A3 cs.length c3, .int .i64 f, .bool dn]) (by simp [results, Try.results25, go_sem, *]) rfl ⟨_, rfl, ?_, ?_⟩
    · rw [flushD_no (fun h => OK.out h.1)]; exact (O2.out.mono (fun b hb => hb.1)).past (a := w.heap.size) (b := w.heap.size + 2) (((((Only.refl _ _).setCell m1 _).setCell m1 _).setCell m1 _).setCell m1 _) (by omega)
    · exact bpast (b := w.heap.size + 2) HB2.out (((((Only.refl _ _).setCell m1 _).setCell m1 _).setCell m1 _).setCell m1 _)
end Go.Proofs.Ytmeiobpeacdfjaa
