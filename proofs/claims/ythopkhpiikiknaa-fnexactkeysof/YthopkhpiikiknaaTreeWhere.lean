/- Contracts of spec.WhereIn and impl.WhereIn: the index of the last lower bound that is not above the position. Conditions: at most 1100000 bounds. -/
import Derived.Test.YthopkhpiikiknaaTreePure
import Derived.Test.YthopkhpiikiknaaNodeIAt
namespace Go.Proofs.Ythopkhpiikiknaa
open Go.RowKit Go.Shelf
set_option maxRecDepth 100000
set_option linter.unusedSimpArgs false
set_option linter.unusedVariables false
attribute [local go_sem] Oper.semAt_some

def idxL (lo : List Int) : List (Nat × Int) := lo.mapIdx (fun i a => (i, a))
theorem idxL_len (lo : List Int) : (idxL lo).length = lo.length := by simp [idxL]
theorem idxL_get (lo : List Int) (k : Nat) (h : k < (idxL lo).length) : (idxL lo)[k] = (k, lo[k]'(by rw [idxL_len] at h; exact h)) := by simp [idxL]
theorem idxL_snoc (l : List Int) (a : Int) : idxL (l ++ [a]) = idxL l ++ [(l.length, a)] := by simp [idxL, List.mapIdx_append]
def foundI : Option (Nat × Int) → Int
  | some y => (y.1 : Int)
  | none => -1
def whereK (lo : List Int) (s : Int) : Int := foundI ((idxL lo).reverse.find? (fun y => decide (y.2 ≤ s)))
theorem whereK_nil (s : Int) : whereK [] s = -1 := rfl
theorem whereK_snoc (l : List Int) (a s : Int) : whereK (l ++ [a]) s = if a ≤ s then (l.length : Int) else whereK l s := by
  unfold whereK
  rw [idxL_snoc, List.reverse_append]
  simp only [List.reverse_cons, List.reverse_nil, List.nil_append, List.singleton_append, List.find?_cons]
  by_cases h : a ≤ s <;> simp [h, foundI]
theorem whereK_take {lo : List Int} {k : Nat} (h : k < lo.length) (s : Int) : whereK (lo.take (k + 1)) s = if lo[k] ≤ s then (k : Int) else whereK (lo.take k) s := by
  rw [List.take_succ_eq_append_getElem h, whereK_snoc]
  simp only [List.length_take, Nat.min_eq_left (Nat.le_of_lt h)]
theorem whereK_le (lo : List Int) (s : Int) : -1 ≤ whereK lo s ∧ whereK lo s < (lo.length : Int) := by
  unfold whereK
  cases h : (idxL lo).reverse.find? (fun y => decide (y.2 ≤ s)) with
  | none => simp [foundI]; omega
  | some y =>
    have h1 := List.mem_of_find?_eq_some h
    rw [List.mem_reverse] at h1
    obtain ⟨k, hk, rfl⟩ := List.getElem_of_mem h1
    rw [idxL_get]
    rw [idxL_len] at hk
    simp only [foundI]
    omega
theorem find_preG {α : Type} {K pre : List α} {x : α} {p : α → Bool} (h : pre ++ [x] <+: K) (h1 : ∀ y ∈ pre, p y = false) (h2 : p x = true) : K.find? p = some x := by
  obtain ⟨t, rfl⟩ := h
  rw [List.append_assoc, List.find?_append, List.find?_eq_none.2 (fun y hy => by simp [h1 y hy])]
  simp [List.find?_cons, h2]
/-- A number as the answer, nothing old written. -/
def SaysInt (w : World) (x : Int) (e : Ending) (w' : World) : Prop := e = .returned (.int .i64 x) ∧ Below w.heap.size w w'
set_option maxHeartbeats 2000000 in
theorem specWhereIn_any (vl vn : Value) (lo : List Int) (ts : List NodeD) (p q : Int) (w : World) (hv : RdT w w.heap.size vl vn lo ts) (hn : lo.length ≤ 1100000) :
    Calls Try.prog 93 #[.agg #[vl, vn], .int .i64 p, .int .i64 q] w (SaysInt w (whereK lo (spotI p q))) := by
  obtain ⟨A, c, A', c', rfl, rfl⟩ := hv.shape
  have HV := Lib.hid hv.1
  have HP := Lib.hid (specSpotOf_any p q)
  generalize spotI p q = s at *
  have HB := Lib.hid (bal1 w (.cells #[.slice A lo.length c, .slice A' ts.length c'] 27))
  have Q0 := Lib.hid (al1 w (.cells #[.slice A lo.length c, .slice A' ts.length c'] 27))
  clear hv
  go_enter Try.func93, Try.ntmps93
  go_upto_region 2 with (fail)
  generalize w.alloc (.cells #[.slice A lo.length c, .slice A' ts.length c'] 27) = W at *
  go_wp2
  go_loopw [7, 8] (fun x i wr => ∃ k : Nat, k ≤ lo.length ∧ i = .int .i64 k ∧ x = .int .i64 (whereK (lo.take k) s) ∧ Hid (Below W.heap.size W wr)) (fun _ i _ => lo.length - (intOf i).toNat)
  case atStart => exact ⟨0, Nat.zero_le _, rfl, rfl, Lib.hid (Below.refl _ _)⟩
  case round =>
    obtain ⟨k, hk, rfl, rfl, HX⟩ := hrel
    obtain ⟨x0, x1, x2⟩ := box2 (box_on Q0.out HX.out)
    by_cases hlt : k < lo.length
    · obtain ⟨b, off, rfl, hbb, hc⟩ := (HV.out.on (bstep HB.out HX.out)).int hlt
      have c1 := hc k hlt
      unfold iV at c1
      have HT := Lib.hid (whereK_take hlt s)
      have i1 : (k : Int) < (lo.length : Int) := by omega
      have i2 : (0 : Int) ≤ (k : Int) := by omega
      have HX1 := Lib.hid (bstep HX.out (Below.drew1 _))
      clear hc
      generalize whereK (lo.take k) s = y at *
      go_wp2
      go_region_held3 (fun V => V.cell? ⟨w.heap.size, 0, none⟩ = some (.slice (some ⟨b, off, none⟩) lo.length c) ∧ V.cell? ⟨b, off + k, none⟩ = some (.int .i64 lo[k]))
        (first | exact ⟨x0, c1⟩ | fail)
        (first | (go_at_call 119; refine (HP.out _).mono ?_; rintro r u ⟨rfl, rfl⟩) | fail)
      clear x0 x1 x2 c1
      change Hid (Below W.heap.size W wr.drew) at HX1
      generalize wr.drew = wd at *
      by_cases hle : lo[k] ≤ s
      · have hT := HT.out
        rw [if_pos hle] at hT
        have HT2 := Lib.hid hT
        clear hT HT
        go_wp2
        go_roundw
        case rel => exact ⟨k + 1, by omega, by go_num, by rw [HT2.out], HX1⟩
        case measure => simp [intOf]; omega
      · have hT := HT.out
        rw [if_neg hle] at hT
        have HT2 := Lib.hid hT
        have hgt : s < lo[k] := by omega
        clear hT HT hle
        go_wp2
        go_roundw
        case rel => exact ⟨k + 1, by omega, by go_num, by rw [HT2.out], HX1⟩
        case measure => simp [intOf]; omega
    · go_wp2
      go_ret
      have e : k = lo.length := by omega
      subst e
      exact ⟨by rw [List.take_length]; rfl, bstep HB.out HX.out⟩
def encI (x : Nat × Int) : Array Value := #[.int .i64 (x.1 : Int), .int .i64 x.2]
/-- The cells of the ints lie below n₀. -/
def IntsAt (W : World) (n₀ : Nat) (A : Option Addr) (lo : List Int) : Prop := lo = [] ∨ ∃ b off, A = some ⟨b, off, none⟩ ∧ b < n₀ ∧ ∀ k (h : k < lo.length), W.cell? ⟨b, off + k, none⟩ = some (.int .i64 lo[k])
theorem IntsAt.below {W W' : World} {n₀ : Nat} {A : Option Addr} {lo : List Int} (h : IntsAt W n₀ A lo) (hb : Below n₀ W W') : IntsAt W' n₀ A lo := by
  rcases h with h | ⟨b, off, h2, h3, h4⟩
  · exact .inl h
  · exact .inr ⟨b, off, h2, h3, fun k hk => (hb.cell (p := ⟨b, off + k, none⟩) h3).trans (h4 k hk)⟩
theorem IntsAt.mono {W : World} {n₀ n₁ : Nat} {A : Option Addr} {lo : List Int} (h : IntsAt W n₀ A lo) (hn : n₀ ≤ n₁) : IntsAt W n₁ A lo := by
  rcases h with h | ⟨b, off, h2, h3, h4⟩
  · exact .inl h
  · exact .inr ⟨b, off, h2, by omega, h4⟩
theorem Reads.intsAt {w : World} {A : Option Addr} {c : Nat} {lo : List Int} (h : Reads w w.heap.size (.slice A lo.length c) (intsD lo)) : IntsAt w w.heap.size A lo := by
  by_cases h0 : 0 < lo.length
  · obtain ⟨b, off, h1, h2, h3⟩ := h.int h0
    exact .inr ⟨b, off, h1, h2, h3⟩
  · exact .inl (List.length_eq_zero_iff.1 (by omega))
set_option maxHeartbeats 2000000 in
theorem backI_seq (E : TypeId) (Bs n₀ : Nat) (A : Option Addr) (c : Nat) (lo : List Int) (hm : lo.length ≤ 1100000) (hBs : Bs < n₀) (w : World) (hn₀ : n₀ ≤ w.heap.size) (hc : w.cell? ⟨Bs, 0, none⟩ = some (.slice A lo.length c)) (hz : IntsAt w n₀ A lo) :
    SeqL E Try.prog 102 #[.pointer (some ⟨Bs, 0, none⟩)] encI n₀ (idxL lo).reverse w := by
  intro l J Jx W hW hJ hJx hY h0
  have hc' : W.cell? ⟨Bs, 0, none⟩ = some (.slice A lo.length c) := (hW.cell (p := ⟨Bs, 0, none⟩) (show Bs < w.heap.size by omega)).trans hc
  have HZ := Lib.hid (hz.below (hW.mono hn₀))
  have hnW : n₀ ≤ W.heap.size := Nat.le_trans hn₀ hW.size
  clear hc hz hW hJ hJx
  refine (callsIn_wide (n := 1)).1 ?_
  refine callsIn_of_wp Try.func102 rfl trivial ?_ rfl
  simp only [Try.ntmps102, List.size_toArray, List.length_cons, List.length_nil, Nat.reduceAdd, Nat.reduceSub, Array.replicate_succ, Array.replicate_zero, List.push_toArray, List.append_toArray, List.nil_append, List.cons_append]
  gi_wp2
  gi_loopw [3] (fun i wr => ∃ r : Nat, r ≤ lo.length ∧ i = .int .i64 ((r : Int) - 1) ∧ Hid (J ((idxL lo).reverse.take ((idxL lo).length - r)) wr) ∧ Hid (Below n₀ W wr)) (fun i _ => (intOf i + 1).toNat)
  case atStart => exact ⟨lo.length, Nat.le_refl _, rfl, Lib.hid (by rw [idxL_len, Nat.sub_self]; exact h0), Lib.hid (Below.refl _ _)⟩
  case round =>
    obtain ⟨r, hr, rfl, HJ, HX⟩ := hrel
    have hB2 : wr.cell? ⟨Bs, 0, none⟩ = some (.slice A lo.length c) := (HX.out.cell (p := ⟨Bs, 0, none⟩) hBs).trans hc'
    rcases Nat.eq_zero_or_pos r with rfl | hpos
    · have t0 : decide ((0 : Int) ≤ ((0 : Nat) : Int) - 1) = false := by decide
      have HJ2 := HJ.out
      rw [Nat.sub_zero, List.take_of_length_le (by simp)] at HJ2
      gi_wp2
      go_end0
      exact ⟨⟨_, rfl⟩, .inl HJ2⟩
    · obtain ⟨k, rfl⟩ : ∃ k, r = k + 1 := ⟨r - 1, by omega⟩
      have hlt : k < lo.length := by omega
      have hlz : k < (idxL lo).length := by rw [idxL_len]; exact hlt
      have e1 : ((k + 1 : Nat) : Int) - 1 = (k : Int) := by omega
      rw [e1]
      obtain ⟨b, off, rfl, hb, hcc⟩ : ∃ b off, A = some ⟨b, off, none⟩ ∧ b < n₀ ∧ ∀ k (h : k < lo.length), W.cell? ⟨b, off + k, none⟩ = some (.int .i64 lo[k]) := by
        rcases HZ.out with h | h
        · rw [h] at hlt; simp at hlt
        · exact h
      have y0 := (HX.out.cell (p := ⟨b, off + k, none⟩) hb).trans (hcc k hlt)
      obtain ⟨fn, tmps, assign, body, hy, hR⟩ := hY _ (idxL lo)[k] wr (rev_pre hlz) HJ.out
      rw [idxL_get] at hy
      unfold encI at hy
      have HR := Lib.hid hR
      have hsz := HX.out.size
      have HT := Lib.hid (rev_take hlz)
      have HPX := Lib.hid (rev_pre hlz)
      have i2 : (k : Int) < (lo.length : Int) := by omega
      have i3 : (0 : Int) ≤ (k : Int) := by omega
      clear hcc hR e1 hpos
      gi_wp2
      refine (HR.out _).mono ?_
      rintro e W3 (⟨rfl, hJ3, ho3⟩ | ⟨rfl, hJx3, ho3⟩)
      · gi_wp2
        go_roundw
        case rel => exact ⟨k, by omega, by go_num, Lib.hid (by rw [HT.out]; exact hJ3), Lib.hid (HX.out.trans (only_below ho3 (Nat.le_trans hnW hsz)))⟩
        case measure => simp [intOf]
      · gi_wp2
        refine bodyPost_ret (results_none rfl _ _ _) rfl ?_
        exact ⟨⟨_, rfl⟩, .inr ⟨_, HPX.out, hJx3⟩⟩
theorem backIF_any (a : Option Addr) (len cap : Nat) (w : World) :
    Calls Try.prog 73 #[.slice a len cap] w fun e w' => e = .returned (.func (.func 102) #[] #[.pointer (some ⟨w.heap.size, 0, none⟩)]) ∧ w' = w.alloc (.cells #[.slice a len cap] 24) := by
  go_enter Try.func73, Try.ntmps73
  go_wp2
  go_ret
  exact ⟨rfl, rfl⟩
set_option maxHeartbeats 4000000 in
theorem implWhereIn_any (vl vn : Value) (lo : List Int) (ts : List NodeD) (p q : Int) (w : World) (hv : RdT w w.heap.size vl vn lo ts) (hn : lo.length ≤ 1100000) :
    Calls Try.prog 44 #[.agg #[vl, vn], .int .i64 p, .int .i64 q] w (SaysInt w (whereK lo (spotI p q))) := by
  obtain ⟨A, c, A', c', rfl, rfl⟩ := hv.shape
  have HV := Lib.hid hv.1.intsAt
  have HP := Lib.hid implSpotOf_any
  have HF1 : Hid (∀ s x pre, pre ++ [x] <+: (idxL lo).reverse → (∀ y ∈ pre, decide (y.2 ≤ s) = false) → decide (x.2 ≤ s) = true → whereK lo s = (x.1 : Int)) := Lib.hid (fun s x pre h1 h2 h3 => by unfold whereK; rw [find_preG h1 h2 h3]; rfl)
  have HF0 : Hid (∀ s, (∀ y ∈ (idxL lo).reverse, decide (y.2 ≤ s) = false) → whereK lo s = -1) := Lib.hid (fun s h => by unfold whereK; rw [List.find?_eq_none.2 (fun y hy => by simp [h y hy])]; rfl)
  clear hv
  refine (callsIn_wide (n := 3)).1 ?_
  refine callsIn_of_wp_marks Try.func44 rfl trivial ?_ rfl
  simp only [Try.ntmps44, List.size_toArray, List.length_cons, List.length_nil, Nat.reduceAdd, Nat.reduceSub, Array.replicate_succ, Array.replicate_zero, List.push_toArray, List.append_toArray, List.nil_append, List.cons_append]
  gi_wp2_with fail
  refine ⟨trivial, (callsIn_wide.2 (HP.out _ _ _)).mono ?_⟩
  rintro r w1 ⟨rfl, rfl⟩
  generalize spotI p q = s at *
  gi_wp2_with fail
  refine ⟨trivial, (callsIn_wide.2 (backIF_any _ _ _ _)).mono ?_⟩
  rintro r w1 ⟨rfl, rfl⟩
  gi_wp2_with fail
  obtain ⟨q0, q1⟩ := al2 w (.cells #[.slice A lo.length c, .slice A' ts.length c'] 27) (.cells #[.int .i64 0] 3)
  have hb2 := bal2 w (.cells #[.slice A lo.length c, .slice A' ts.length c'] 27) (.cells #[.int .i64 0] 3)
  obtain ⟨r0, r1⟩ := al2 ((w.alloc (.cells #[.slice A lo.length c, .slice A' ts.length c'] 27)).alloc (.cells #[.int .i64 0] 3)) (.cells #[.int .i64 s] 3) (.cells #[.slice A lo.length c] 24)
  have hb3 := bal2 ((w.alloc (.cells #[.slice A lo.length c, .slice A' ts.length c'] 27)).alloc (.cells #[.int .i64 0] 3)) (.cells #[.int .i64 s] 3) (.cells #[.slice A lo.length c] 24)
  have hz6 : ((((w.alloc (.cells #[.slice A lo.length c, .slice A' ts.length c'] 27)).alloc (.cells #[.int .i64 0] 3)).alloc (.cells #[.int .i64 s] 3)).alloc (.cells #[.slice A lo.length c] 24)).heap.size = w.heap.size + 4 := by simp
  simp only [World.size_alloc] at r0 r1
  have HB6 := Lib.hid (bstep hb2 hb3)
  have P1 := Lib.hid (box_on q1 hb3)
  clear hb2 hb3 q0 q1
  generalize (((w.alloc (.cells #[.slice A lo.length c, .slice A' ts.length c'] 27)).alloc (.cells #[.int .i64 0] 3)).alloc (.cells #[.int .i64 s] 3)).alloc (.cells #[.slice A lo.length c] 24) = W0 at *
  have R0 := Lib.hid r0
  have hww := HB6.out.size
  refine rangeL (E := 32) (gf := 102) (lb := #[.pointer (some ⟨w.heap.size + 1 + 1 + 1, 0, none⟩)]) rfl (enters_of Try.func102 (by kernel_rfl) rfl)
    (backI_seq 32 (w.heap.size + 1 + 1 + 1) W0.heap.size A c lo hn (by omega) W0 (Nat.le_refl _) (box1N r1).1 ((HV.out.below HB6.out).mono hww))
    (Below.refl _ _) (Nat.le_refl _) (fun _ => rfl)
    (fun pre V => Below W0.heap.size W0 V ∧ ∀ y ∈ pre, decide (y.2 ≤ s) = false)
    (fun cd _ V => cd = .ret ∧ V.heap[w.heap.size + 1]? = some (.cells #[.int .i64 (whereK lo s)] 3 (0, 0)) ∧ Below w.heap.size w V)
    (OwnFrom.and (ownFrom_below (Nat.le_refl _) (Nat.le_refl _)) (ownFrom_pure _ _))
    (fun cd _ X Y row hs hg hr => by
      obtain ⟨h1, h2, h4⟩ := hs
      have hr' : ∀ r, row = some r → ∃ o : Obj, X.heap[r]? = some o ∧ o.isCells = false := fun r e => (hr r e).2
      exact ⟨h1, cellsN hg hr' h2, ownFrom_below (β := Unit) (Nat.le_refl _) hww () X Y row h4 hg hr⟩)
    ⟨Below.refl _ _, fun y hy => by cases hy⟩
    (fun x a' _ => a' = { tmps := #[.agg #[.slice A lo.length c, .slice A' ts.length c'], .int .i64 p, .int .i64 q, .pointer (some ⟨w.heap.size, 0, none⟩), undef, undef, .pointer (some ⟨w.heap.size + 1, 0, none⟩), .pointer (some ⟨w.heap.size + 1 + 1, 0, none⟩), .int .i64 (x.1 : Int), .int .i64 x.2, .int .i64 p, .int .i64 q, .int .i64 s, .pointer (some ⟨w.heap.size, 0, none⟩), .slice A lo.length c, .func (.func 102) #[] #[.pointer (some ⟨w.heap.size + 1 + 1 + 1, 0, none⟩)], .int .i64 (x.1 : Int), .int .i64 x.2, undef, undef, undef, undef], defers := [] })
    (fun x a' => fun _ _ _ _ hs _ _ => hs)
    ?assign ?body ?done ?stop
  case assign =>
    rintro l pre x V K hpx hi hK
    simp only [encI]
    gi_wp2
    exact hK _ _ (Only.refl _ _) hi rfl
  case body =>
    rintro l pre x a' V hpx ⟨hB, hpre⟩ rfl
    have HBV := Lib.hid hB
    have HPR := Lib.hid hpre
    have HPX := Lib.hid hpx
    have hzV := hB.size
    obtain ⟨a0, a1⟩ := box1N (box_on R0.out hB)
    have p1 := box_on P1.out hB
    obtain ⟨c0, c1⟩ := box1N p1
    have P1' := Lib.hid p1
    clear hB hpre hpx p1
    cases hsp : decide (x.2 ≤ s)
    · have HSx := Lib.hid hsp
      gi_wp2
      exact ⟨Kept.refl _ _ _ _, HBV.out, fun y hy => (List.mem_append.1 hy).elim (HPR.out y) (fun e => by simp at e; subst e; exact HSx.out)⟩
    · have HFx := Lib.hid (HF1.out s x pre HPX.out HPR.out hsp)
      gi_wp2
      refine ⟨((Only.refl (fun b => b < W0.heap.size) V).setCell (g := w.heap.size + 1) (j := 0) (by omega) _).kept _ (fun b hb => ⟨Nat.zero_le _, fun h => by omega⟩), rfl, ?_, (bstep HB6.out HBV.out).setCell (p := ⟨w.heap.size + 1, 0, none⟩) (show w.heap.size ≤ w.heap.size + 1 by omega) _⟩
      rw [HFx.out]
      exact box_set P1'.out
  case done =>
    rintro D V hD ⟨hB, hall⟩ hK
    have HFx := Lib.hid (HF0.out s hall)
    have HBV := Lib.hid hB
    have HKD := Lib.hid hK
    have hDV : D < V.heap.size := (Array.getElem?_eq_some_iff.1 hK).1
    have p1 := box_on P1.out hB
    obtain ⟨c0, c1⟩ := box1N p1
    have P1' := Lib.hid p1
    clear hB hall hK p1
    gi_wp2
    have hK5 : (V.setCell ⟨w.heap.size + 1, 0, none⟩ (.int .i64 (-1))).heap[D]? = some (.deferred (some [])) := box_far HKD.out (by omega)
    refine ⟨by simp, .inl ⟨_, _, rfl, run_takeDeferred hK5, ?_⟩⟩
    have hput := fun {b cur e} => cellsN (b := b) (cur := cur) (e := e) (grownBy_putObj' _ D (.deferred none)) (fun r e => by cases e; exact ⟨_, hK5, rfl⟩)
    obtain ⟨d0, d1⟩ := box1N (hput (box_set (i := 0) (u := .int .i64 (-1)) P1'.out))
    have hFn := HFx.out
    refine ⟨.int .i64 (-1), by simp [results, Try.results44, go_sem, d0], by rw [hFn], ((bstep HB6.out HBV.out).setCell (p := ⟨w.heap.size + 1, 0, none⟩) (show w.heap.size ≤ w.heap.size + 1 by omega) _).trans (belowK_b (w := w) (Nat.le_refl _) _ D _ _ (by omega) hK5 rfl rfl)⟩
  case stop =>
    rintro D cd pre V hD _ ⟨rfl, h1, h3⟩ hK
    gi_wp2
    refine ⟨by simp, .inl ⟨_, _, rfl, run_takeDeferred hK, ?_⟩⟩
    have hput := fun {b cur e} => cellsN (b := b) (cur := cur) (e := e) (grownBy_putObj' V D (.deferred none)) (fun r e => by cases e; exact ⟨_, hK, rfl⟩)
    obtain ⟨a0, a1⟩ := box1N (hput h1)
    refine ⟨.int .i64 (whereK lo s), by simp [results, Try.results44, go_sem, a0], rfl, h3.trans (belowK_b (w := w) (Nat.le_refl _) _ D _ _ (by omega) hK rfl rfl)⟩
end Go.Proofs.Ythopkhpiikiknaa
