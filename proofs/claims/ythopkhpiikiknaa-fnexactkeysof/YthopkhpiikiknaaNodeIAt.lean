/- The contract of impl.NodeAt. Conditions: at most 1100000 sets and keys. -/
import Derived.Test.YthopkhpiikiknaaNodeLay
import Derived.Test.YthopkhpiikiknaaKSetFind
namespace Go.Proofs.Ythopkhpiikiknaa
open Go.RowKit Go.Shelf
set_option maxRecDepth 100000
set_option linter.unusedSimpArgs false
set_option linter.unusedVariables false
attribute [local go_sem] Oper.semAt_some

theorem list_of {α : Type} {P : Nat → α → Prop} : ∀ n, (∀ k, k < n → ∃ z, P k z) → ∃ zs : List α, zs.length = n ∧ ∀ k (h : k < zs.length), P k zs[k] := by
  intro n
  induction n with
  | zero => intro _; exact ⟨[], rfl, fun k h => by simp at h⟩
  | succ n ih =>
    intro h
    obtain ⟨zs, h1, h2⟩ := ih (fun k hk => h k (by omega))
    obtain ⟨z, hz⟩ := h n (by omega)
    refine ⟨zs ++ [z], by simp [h1], fun k hk => ?_⟩
    by_cases hlt : k < zs.length
    · rw [List.getElem_append_left hlt]; exact h2 k hlt
    · simp only [List.length_append, List.length_singleton] at hk
      have e : k = zs.length := by omega
      subst e
      rw [List.getElem_append_right (Nat.le_refl _)]
      simp only [Nat.sub_self, List.getElem_singleton]
      rw [h1]
      exact hz
theorem sets_sv {w : World} {A : Option Addr} {c : Nat} {ns : List (List KeyD)} (h : Reads w w.heap.size (.slice A ns.length c) (setsD ns)) :
    ∃ zs : List SV, zs.length = ns.length ∧ zs.map SV.ks = ns ∧ SetsAt w w.heap.size A zs ∧ ∀ z ∈ zs, Reads w w.heap.size (.slice z.A z.ks.length z.c) (keysD z.ks) := by
  by_cases h0 : 0 < ns.length
  · obtain ⟨b, off, rfl, hb, hc⟩ := h.set h0
    obtain ⟨zs, hl, hz⟩ := list_of (α := SV) (P := fun k z => ∃ hk : k < ns.length, z.i = k ∧ z.ks = ns[k] ∧ w.cell? ⟨b, off + k, none⟩ = some (.slice z.A z.ks.length z.c) ∧ Reads w w.heap.size (.slice z.A z.ks.length z.c) (keysD z.ks)) ns.length (fun k hk => by
      obtain ⟨A2, c2, h1, _, _, h2⟩ := hc k hk
      exact ⟨⟨k, A2, c2, ns[k]⟩, hk, rfl, rfl, h1, h2⟩)
    refine ⟨zs, hl, ?_, ⟨fun k hk => (hz k hk).2.1, .inr ⟨b, off, rfl, hb, fun k hk => (hz k hk).2.2.2.1⟩⟩, fun z hm => ?_⟩
    · refine List.ext_getElem (by simp [hl]) (fun k h1 h2 => ?_)
      rw [List.getElem_map]
      exact (hz k (by simpa using h1)).2.2.1
    · obtain ⟨k, hk, rfl⟩ := List.getElem_of_mem hm
      exact (hz k hk).2.2.2.2
  · have : ns = [] := List.length_eq_zero_iff.1 (by omega)
    subst this
    exact ⟨[], rfl, rfl, ⟨fun k hk => by simp at hk, .inl rfl⟩, fun z hz => by simp at hz⟩
theorem keysOfS_map (zs : List SV) : keysOfS zs = (zs.map SV.ks).flatten := by simp [keysOfS, List.flatMap_def]
theorem cellsN {W W' : World} {row : Option Nat} (hg : W.grownBy W' row) (hr : ∀ r, row = some r → ∃ o : Obj, W.heap[r]? = some o ∧ o.isCells = false) {b : Nat} {cur : Array Value} {e : TypeId} (h : W.heap[b]? = some (.cells cur e (0, 0))) : W'.heap[b]? = some (.cells cur e (0, 0)) := by
  refine (hg.block b (Array.getElem?_eq_some_iff.1 h).1 (fun he => ?_)).trans h
  obtain ⟨o, h1, h2⟩ := hr b he.symm
  rw [h] at h1
  cases h1
  cases h2
theorem find_pre {K pre : List KeyD} {x : KeyD} {p : KeyD → Bool} (h : pre ++ [x] <+: K) (h1 : ∀ y ∈ pre, p y = false) (h2 : p x = true) : K.find? p = some x := by
  obtain ⟨t, rfl⟩ := h
  rw [List.append_assoc, List.find?_append, List.find?_eq_none.2 (fun y hy => by simp [h1 y hy])]
  simp [List.find?_cons, h2]
theorem find_no {K : List KeyD} {p : KeyD → Bool} (h1 : ∀ y ∈ K, p y = false) : K.find? p = none := List.find?_eq_none.2 (fun y hy => by simp [h1 y hy])
theorem sumN_sv {zs : List SV} {ns : List (List KeyD)} (h : zs.map SV.ks = ns) {z : SV} (hz : z ∈ zs) : z.ks.length ≤ sumN ns := sumN_mem (by rw [← h]; exact List.mem_map_of_mem hz)
/-- The world behind a key's store into block g and a bool's into block h. -/
abbrev st6 (w : World) (g h : Nat) (u1 u2 u3 u4 u5 u6 : Value) : World := (((((w.setCell ⟨g, 0, none⟩ u1).setCell ⟨g, 1, none⟩ u2).setCell ⟨g, 2, none⟩ u3).setCell ⟨g, 3, none⟩ u4).setCell ⟨g, 4, none⟩ u5).setCell ⟨h, 0, none⟩ u6
theorem only6 {S : Nat → Prop} {w w1 : World} {g h : Nat} {u1 u2 u3 u4 u5 u6 : Value} (hO : Only S w w1) (hg : S g) (hh : S h) : Only S w (st6 w1 g h u1 u2 u3 u4 u5 u6) :=
  (((((hO.setCell hg _).setCell hg _).setCell hg _).setCell hg _).setCell hg _).setCell hh _
theorem box6 {w : World} {g h : Nat} {a b c d e f : Value} {t t2 : TypeId} (h1 : w.heap[g]? = some (.cells #[a, b, c, d, e] t (0, 0))) (h2 : w.heap[h]? = some (.cells #[f] t2 (0, 0))) (hne : g ≠ h) (u1 u2 u3 u4 u5 u6 : Value) :
    (st6 w g h u1 u2 u3 u4 u5 u6).heap[g]? = some (.cells #[u1, u2, u3, u4, u5] t (0, 0)) ∧ (st6 w g h u1 u2 u3 u4 u5 u6).heap[h]? = some (.cells #[u6] t2 (0, 0)) := by
  have far : ∀ (W : World) (j : Nat) (u : Value), (W.setCell ⟨g, j, none⟩ u).heap[h]? = W.heap[h]? := fun W j u => Below.heap_setCell _ _ _ _ (by simp; omega)
  refine ⟨(Below.heap_setCell _ _ _ _ (by simp; omega)).trans (box_set (box_set (box_set (box_set (box_set h1))))), box_set (cs := #[f]) ?_⟩
  rw [far, far, far, far, far]
  exact h2
theorem below6 {w w1 : World} {g h : Nat} {u1 u2 u3 u4 u5 u6 : Value} (hO : Below w.heap.size w w1) (hg : w.heap.size ≤ g) (hh : w.heap.size ≤ h) : Below w.heap.size w (st6 w1 g h u1 u2 u3 u4 u5 u6) := (b5' hO hg).setCell (p := ⟨h, 0, none⟩) hh _
theorem SetsAt.mono {W : World} {n₀ n₁ : Nat} {A : Option Addr} {zs : List SV} (h : SetsAt W n₀ A zs) (hn : n₀ ≤ n₁) : SetsAt W n₁ A zs := by
  obtain ⟨h1, h | ⟨b, off, h2, h3, h4⟩⟩ := h
  · exact ⟨h1, .inl h⟩
  · exact ⟨h1, .inr ⟨b, off, h2, by omega, h4⟩⟩
set_option maxHeartbeats 4000000 in
theorem implNodeAt_any (v : Value) (ns : List (List KeyD)) (p q : Int) (w : World) (hv : Reads w w.heap.size v (setsD ns)) (hs : SmallN ns) : Calls Try.prog 46 #[.agg #[v], .int .i64 p, .int .i64 q] w (SaysFind w (nodeAtK ns p q)) := by
  obtain ⟨A, c, rfl, _, _⟩ := hv.lenN
  obtain ⟨zs, hzl, hzm, hzs, hzr⟩ := sets_sv hv
  have hF : nodeAtK ns p q = pickO ((keysOfS zs.reverse).find? (fun x => spotB x.a x.b p q)) := by
    rw [nodeAtK, atRev_find, keysOfS_map, List.map_reverse, hzm]
  obtain ⟨F, hFF⟩ : ∃ F, nodeAtK ns p q = F := ⟨_, rfl⟩
  rw [hFF] at hF ⊢
  have HF1 : Hid (∀ x, (keysOfS zs.reverse).find? (fun x => spotB x.a x.b p q) = some x → F = if x.c = 0 then none else some x) := Lib.hid (fun x hx => by rw [hx] at hF; exact hF)
  have HF0 : Hid ((keysOfS zs.reverse).find? (fun x => spotB x.a x.b p q) = none → F = none) := Lib.hid (fun hx => by rw [hx] at hF; exact hF)
  have HL : Hid (∀ z ∈ zs.reverse, z.ks.length ≤ 1100000) := Lib.hid (fun z hz => Nat.le_trans (sumN_sv hzm (List.mem_reverse.1 hz)) hs.2)
  have hn : zs.length ≤ 1100000 := by rw [hzl]; exact hs.1
  have HSp := Lib.hid implSameSpot_any
  unfold keyV at HSp
  unfold SaysFind KeyD.v keyV
  rw [← hzl] at *
  have B0 := bal3 w (.cells #[.slice A zs.length c] 77) (.cells #[.int .i64 0, .int .i64 0, .int .i64 0, .int .i64 0, .int .i64 0] 32) (.cells #[.bool false] 4)
  obtain ⟨q0, q1, q2⟩ := al3 w (.cells #[.slice A zs.length c] 77) (.cells #[.int .i64 0, .int .i64 0, .int .i64 0, .int .i64 0, .int .i64 0] 32) (.cells #[.bool false] 4)
  have HZ : Hid ((((w.alloc (.cells #[.slice A zs.length c] 77)).alloc (.cells #[.int .i64 0, .int .i64 0, .int .i64 0, .int .i64 0, .int .i64 0] 32)).alloc (.cells #[.bool false] 4)).heap.size = w.heap.size + 3) := Lib.hid (by simp)
  have HB := Lib.hid B0
  have Q0 := Lib.hid q0
  have Q1 := Lib.hid q1
  have Q2 := Lib.hid q2
  have HZS := Lib.hid hzs
  have HZR := Lib.hid hzr
  clear hF hFF hzs hzr hv hs B0 q0 q1 q2 hzm
  refine (callsIn_wide (n := 3)).1 ?_
  refine callsIn_of_wp_marks Try.func46 rfl trivial ?_ rfl
  simp only [Try.ntmps46, List.size_toArray, List.length_cons, List.length_nil, Nat.reduceAdd, Nat.reduceSub, Array.replicate_succ, Array.replicate_zero, List.push_toArray, List.append_toArray, List.nil_append, List.cons_append]
  gi_wp2_with fail
  refine ⟨trivial, (callsIn_wide.2 (backF_any _ _ _ _)).mono ?_⟩
  rintro r w1 ⟨rfl, rfl⟩
  gi_wp2_with fail
  refine ⟨trivial, (callsIn_wide.2 (layered_any _ _ _)).mono ?_⟩
  rintro r w2 ⟨rfl, rfl⟩
  gi_wp2_with fail
  obtain ⟨r0, r1, r2⟩ := al3 (((w.alloc (.cells #[.slice A zs.length c] 77)).alloc (.cells #[.int .i64 0, .int .i64 0, .int .i64 0, .int .i64 0, .int .i64 0] 32)).alloc (.cells #[.bool false] 4)) (.cells #[.int .i64 p, .int .i64 q, .int .i64 0, .int .i64 0, .int .i64 0] 32) (.cells #[.slice A zs.length c] 75) (.cells #[.func (.func 104) #[] #[.pointer (some ⟨w.heap.size + 1 + 1 + 1 + 1, 0, none⟩)]] 113)
  have hb3 := bal3 (((w.alloc (.cells #[.slice A zs.length c] 77)).alloc (.cells #[.int .i64 0, .int .i64 0, .int .i64 0, .int .i64 0, .int .i64 0] 32)).alloc (.cells #[.bool false] 4)) (.cells #[.int .i64 p, .int .i64 q, .int .i64 0, .int .i64 0, .int .i64 0] 32) (.cells #[.slice A zs.length c] 75) (.cells #[.func (.func 104) #[] #[.pointer (some ⟨w.heap.size + 1 + 1 + 1 + 1, 0, none⟩)]] 113)
  have hz6 : ((((((w.alloc (.cells #[.slice A zs.length c] 77)).alloc (.cells #[.int .i64 0, .int .i64 0, .int .i64 0, .int .i64 0, .int .i64 0] 32)).alloc (.cells #[.bool false] 4)).alloc (.cells #[.int .i64 p, .int .i64 q, .int .i64 0, .int .i64 0, .int .i64 0] 32)).alloc (.cells #[.slice A zs.length c] 75)).alloc (.cells #[.func (.func 104) #[] #[.pointer (some ⟨w.heap.size + 1 + 1 + 1 + 1, 0, none⟩)]] 113)).heap.size = w.heap.size + 6 := by simp
  simp only [World.size_alloc] at r0 r1 r2
  have HB6 := Lib.hid (bstep HB.out hb3)
  have P1 := Lib.hid (box_on Q1.out hb3)
  have P2 := Lib.hid (box_on Q2.out hb3)
  clear hb3 HB Q0 Q1 Q2 HZ
  generalize (((((w.alloc (.cells #[.slice A zs.length c] 77)).alloc (.cells #[.int .i64 0, .int .i64 0, .int .i64 0, .int .i64 0, .int .i64 0] 32)).alloc (.cells #[.bool false] 4)).alloc (.cells #[.int .i64 p, .int .i64 q, .int .i64 0, .int .i64 0, .int .i64 0] 32)).alloc (.cells #[.slice A zs.length c] 75)).alloc (.cells #[.func (.func 104) #[] #[.pointer (some ⟨w.heap.size + 1 + 1 + 1 + 1, 0, none⟩)]] 113) = W0 at *
  have R0 := Lib.hid r0
  have hww := HB6.out.size
  refine rangeL (E := 32) (gf := 103) (lb := #[.pointer (some ⟨w.heap.size + 1 + 1 + 1 + 1 + 1, 0, none⟩)]) rfl (enters_of Try.func103 (by kernel_rfl) rfl)
    (layered_seq 32 (fun _ _ h => by cases h) (w.heap.size + 1 + 1 + 1 + 1 + 1) W0.heap.size 104 #[.pointer (some ⟨w.heap.size + 1 + 1 + 1 + 1, 0, none⟩)] zs.reverse W0 (Nat.le_refl _) (by omega) (box1N r2).1 (enters_of Try.func104 (by kernel_rfl) rfl)
      (back_seq 32 (w.heap.size + 1 + 1 + 1 + 1) W0.heap.size A c zs hn (by omega) W0 (Nat.le_refl _) (box1N r1).1 ((HZS.out.below HB6.out).mono hww))
      (fun z hz => (HZR.out z (List.mem_reverse.1 hz)).on HB6.out) HL.out)
    (Below.refl _ _) (Nat.le_refl _) (fun _ => rfl)
    (fun pre V => Below W0.heap.size W0 V ∧ ∀ y ∈ pre, spotB y.a y.b p q = false)
    (fun cd _ V => cd = .ret ∧ V.heap[w.heap.size + 1]? = some (.cells #[.int .i64 (F.getD zK).a, .int .i64 (F.getD zK).b, .int .i64 (F.getD zK).c, .int .i64 (F.getD zK).d, .int .i64 (F.getD zK).e] 32 (0, 0)) ∧ V.heap[w.heap.size + 1 + 1]? = some (.cells #[.bool F.isSome] 4 (0, 0)) ∧ Below w.heap.size w V)
    (OwnFrom.and (ownFrom_below (Nat.le_refl _) (Nat.le_refl _)) (ownFrom_pure _ _))
    (fun cd s X Y row hs hg hr => by
      obtain ⟨h1, h2, h3, h4⟩ := hs
      have hr' : ∀ r, row = some r → ∃ o : Obj, X.heap[r]? = some o ∧ o.isCells = false := fun r e => (hr r e).2
      exact ⟨h1, cellsN hg hr' h2, cellsN hg hr' h3, ownFrom_below (β := Unit) (Nat.le_refl _) hww () X Y row h4 hg hr⟩)
    ⟨Below.refl _ _, fun y hy => by cases hy⟩
    (fun x a' V => ∃ Bx, W0.heap.size ≤ Bx ∧ V.heap[Bx]? = some (.cells #[.int .i64 x.a, .int .i64 x.b, .int .i64 x.c, .int .i64 x.d, .int .i64 x.e] 32 (0, 0)) ∧ a' = { tmps := #[.agg #[.slice A zs.length c], .int .i64 p, .int .i64 q, .pointer (some ⟨w.heap.size, 0, none⟩), undef, undef, .pointer (some ⟨w.heap.size + 1, 0, none⟩), .pointer (some ⟨w.heap.size + 1 + 1, 0, none⟩), .pointer (some ⟨w.heap.size + 1 + 1 + 1, 0, none⟩), .pointer (some ⟨Bx, 0, none⟩), .int .i64 p, .int .i64 q, .agg #[.int .i64 p, .int .i64 q, .int .i64 0, .int .i64 0, .int .i64 0], .pointer (some ⟨w.heap.size, 0, none⟩), .slice A zs.length c, .func (.func 104) #[] #[.pointer (some ⟨w.heap.size + 1 + 1 + 1 + 1, 0, none⟩)], .func (.func 103) #[] #[.pointer (some ⟨w.heap.size + 1 + 1 + 1 + 1 + 1, 0, none⟩)], .agg #[.int .i64 x.a, .int .i64 x.b, .int .i64 x.c, .int .i64 x.d, .int .i64 x.e], undef, undef, undef, undef, undef, undef, undef, undef, undef, undef], defers := [] })
    (fun x a' _ X Y row hs hg hr => by obtain ⟨Bx, h1, h2, h3⟩ := hs; exact ⟨Bx, h1, cellsN hg (fun r e => (hr r e).2) h2, h3⟩)
    ?assign ?body ?done ?stop
  case assign =>
    rintro l pre x V K hpx ⟨hB, hpre⟩ hK
    unfold KeyD.v keyV
    gi_wp2
    exact hK _ _ (only_alloc0 _ _ _) ⟨hB.alloc hB.size _, hpre⟩ ⟨V.heap.size, hB.size, al1 _ _, rfl⟩
  case body =>
    rintro l pre x a' V hpx ⟨hB, hpre⟩ ⟨Bx, hBx, qx, rfl⟩
    have HBV := Lib.hid hB
    have HPR := Lib.hid hpre
    have HPX := Lib.hid hpx
    have hzV := hB.size
    have QX := Lib.hid qx
    obtain ⟨a0, a1, a2, a3, a4, a5⟩ := box5 qx
    obtain ⟨b0, b1, b2, b3, b4, b5⟩ := box5 (box_on R0.out hB)
    clear hB hpre hpx qx
    cases hsp : spotB x.a x.b p q
    · have HSx := Lib.hid hsp
      clear hsp
      gi_wp2_with fail
      refine ⟨trivial, (CallsIn.inRound l (callsIn_wide.2 (HSp.out _ _ _ _ _ _ _ _ _ _ _))).mono ?_⟩
      rintro r w4 ⟨rfl, e4⟩
      rw [HSx.out]
      have E4 := Lib.hid e4
      clear e4 a0 a1 a2 a3 a4 a5 b0 b1 b2 b3 b4 b5
      gi_wp2
      exact ⟨Kept.of_below E4.out _ _ _, HBV.out.trans (E4.out.mono hzV), fun y hy => (List.mem_append.1 hy).elim (HPR.out y) (fun e => by simp at e; subst e; exact HSx.out)⟩
    · have HSx := Lib.hid hsp
      have hFx := HF1.out x (find_pre HPX.out HPR.out hsp)
      clear hsp
      by_cases hx0 : x.c = 0
      · have z : (x.c == 0) = true := by simp [hx0]
        rw [if_pos hx0] at hFx
        have HFx := Lib.hid hFx
        clear hFx hx0
        gi_wp2_with fail
        refine ⟨trivial, (CallsIn.inRound l (callsIn_wide.2 (HSp.out _ _ _ _ _ _ _ _ _ _ _))).mono ?_⟩
        rintro r w4 ⟨rfl, e4⟩
        rw [HSx.out]
        have E4 := Lib.hid e4
        have hz4 := e4.size
        have p1 := box_on (box_on P1.out HBV.out) e4
        have p2 := box_on (box_on P2.out HBV.out) e4
        clear a0 a1 a2 a3 a4 a5 b0 b1 b2 b3 b4 b5
        obtain ⟨a0, a1, a2, a3, a4, a5⟩ := box5 (box_on QX.out e4)
        obtain ⟨b0, b1, b2, b3, b4, b5⟩ := box5 p1
        obtain ⟨c0, c1⟩ := box1N p2
        have P1' := Lib.hid p1
        have P2' := Lib.hid p2
        clear e4 p1 p2
        gi_wp2
        obtain ⟨s1, s2⟩ := box6 P1'.out P2'.out (by omega) (.int .i64 0) (.int .i64 0) (.int .i64 0) (.int .i64 0) (.int .i64 0) (.bool false)
        refine ⟨(only6 (S := fun b => b < W0.heap.size) (Only.of_below E4.out _) (show w.heap.size + 1 < W0.heap.size by omega) (show w.heap.size + 1 + 1 < W0.heap.size by omega)).kept _ (fun b hb => ⟨Nat.zero_le _, fun h => by omega⟩), rfl, ?_, ?_, below6 (bstep (bstep HB6.out HBV.out) E4.out) (by omega) (by omega)⟩
        · rw [HFx.out]; exact s1
        · rw [HFx.out]; exact s2
      · have z : (x.c == 0) = false := by simp [hx0]
        rw [if_neg hx0] at hFx
        have HFx := Lib.hid hFx
        clear hFx hx0
        gi_wp2_with fail
        refine ⟨trivial, (CallsIn.inRound l (callsIn_wide.2 (HSp.out _ _ _ _ _ _ _ _ _ _ _))).mono ?_⟩
        rintro r w4 ⟨rfl, e4⟩
        rw [HSx.out]
        have E4 := Lib.hid e4
        have hz4 := e4.size
        have p1 := box_on (box_on P1.out HBV.out) e4
        have p2 := box_on (box_on P2.out HBV.out) e4
        clear a0 a1 a2 a3 a4 a5 b0 b1 b2 b3 b4 b5
        obtain ⟨a0, a1, a2, a3, a4, a5⟩ := box5 (box_on QX.out e4)
        obtain ⟨b0, b1, b2, b3, b4, b5⟩ := box5 p1
        obtain ⟨c0, c1⟩ := box1N p2
        have P1' := Lib.hid p1
        have P2' := Lib.hid p2
        clear e4 p1 p2
        gi_wp2
        obtain ⟨s1, s2⟩ := box6 P1'.out P2'.out (by omega) (.int .i64 x.a) (.int .i64 x.b) (.int .i64 x.c) (.int .i64 x.d) (.int .i64 x.e) (.bool true)
        refine ⟨(only6 (S := fun b => b < W0.heap.size) (Only.of_below E4.out _) (show w.heap.size + 1 < W0.heap.size by omega) (show w.heap.size + 1 + 1 < W0.heap.size by omega)).kept _ (fun b hb => ⟨Nat.zero_le _, fun h => by omega⟩), rfl, ?_, ?_, below6 (bstep (bstep HB6.out HBV.out) E4.out) (by omega) (by omega)⟩
        · rw [HFx.out]; exact s1
        · rw [HFx.out]; exact s2
  case done =>
    rintro D V hD ⟨hB, hall⟩ hK
    have HFx := Lib.hid (HF0.out (find_no hall))
    have HBV := Lib.hid hB
    have HKD := Lib.hid hK
    have hDV : D < V.heap.size := (Array.getElem?_eq_some_iff.1 hK).1
    have p1 := box_on P1.out hB
    have p2 := box_on P2.out hB
    obtain ⟨b0, b1, b2, b3, b4, b5⟩ := box5 p1
    obtain ⟨c0, c1⟩ := box1N p2
    have P1' := Lib.hid p1
    have P2' := Lib.hid p2
    clear hB hall hK p1 p2
    gi_wp2
    obtain ⟨s1, s2⟩ := box6 P1'.out P2'.out (by omega) (.int .i64 0) (.int .i64 0) (.int .i64 0) (.int .i64 0) (.int .i64 0) (.bool false)
    have hK5 : (st6 V (w.heap.size + 1) (w.heap.size + 1 + 1) (.int .i64 0) (.int .i64 0) (.int .i64 0) (.int .i64 0) (.int .i64 0) (.bool false)).heap[D]? = some (.deferred (some [])) := box_only HKD.out (only6 (S := fun b => b < W0.heap.size) (Only.refl _ _) (show w.heap.size + 1 < W0.heap.size by omega) (show w.heap.size + 1 + 1 < W0.heap.size by omega)) (by omega)
    have hb6 := below6 (u1 := .int .i64 0) (u2 := .int .i64 0) (u3 := .int .i64 0) (u4 := .int .i64 0) (u5 := .int .i64 0) (u6 := .bool false) (bstep HB6.out HBV.out) (show w.heap.size ≤ w.heap.size + 1 by omega) (show w.heap.size ≤ w.heap.size + 1 + 1 by omega)
    refine ⟨by simp, .inl ⟨_, _, rfl, run_takeDeferred hK5, ?_⟩⟩
    have hput := fun {b cur e} => cellsN (b := b) (cur := cur) (e := e) (grownBy_putObj' _ D (.deferred none)) (fun r e => by cases e; exact ⟨_, hK5, rfl⟩)
    obtain ⟨a0, a1, a2, a3, a4, a5⟩ := box5 (hput s1)
    obtain ⟨c0, c1⟩ := box1N (hput s2)
    have hFn := HFx.out
    refine ⟨.tuple #[(F.getD zK).v, .bool F.isSome], by simp [results, Try.results46, go_sem, keyV, KeyD.v, hFn, zK, a0, a1, a2, a3, a4, c0], rfl, hb6.trans (belowK_b (w := w) (Nat.le_refl _) _ D _ _ (by omega) hK5 rfl rfl)⟩
  case stop =>
    rintro D cd pre V hD _ ⟨rfl, h1, h2, h3⟩ hK
    gi_wp2
    refine ⟨by simp, .inl ⟨_, _, rfl, run_takeDeferred hK, ?_⟩⟩
    have hput := fun {b cur e} => cellsN (b := b) (cur := cur) (e := e) (grownBy_putObj' V D (.deferred none)) (fun r e => by cases e; exact ⟨_, hK, rfl⟩)
    obtain ⟨a0, a1, a2, a3, a4, a5⟩ := box5 (hput h1)
    obtain ⟨c0, c1⟩ := box1N (hput h2)
    refine ⟨.tuple #[(F.getD zK).v, .bool F.isSome], by simp [results, Try.results46, go_sem, keyV, KeyD.v, a0, a1, a2, a3, a4, c0], rfl, h3.trans (belowK_b (w := w) (Nat.le_refl _) _ D _ _ (by omega) hK rfl rfl)⟩
end Go.Proofs.Ythopkhpiikiknaa
