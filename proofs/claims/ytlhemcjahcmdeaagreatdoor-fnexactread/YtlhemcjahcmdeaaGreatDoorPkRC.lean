/- Several texts in one: Terse, Last2, Last3, AgeOkA, TreeWhere, TreeKeys, TreeOk, PoolPure, PoolSet, PoolVols, SeeKeysP, Lay, SeeDelP, SeeDel, PoolRefs, PoolAges, IntMap, PoolMap. -/
import Derived.Deep.RegionHeld3
import Derived.Deep.DeepCutAuto
import Derived.Lib.SliceRun
import Derived.Test.YtlhemcjahcmdeaaGreatDoorPkRB
namespace Go.Proofs.YtlhemcjahcmdeaaGreatDoor
open Go.RowKit
theorem zA {α : Type _} {xs : List α} {i : Nat} (h : i < xs.toArray.size) : xs.toArray[i] = xs[i]'(by simpa using h) := rfl
theorem zB {α : Type _} (a : α) (l : List α) (i : Nat) (h : i + 1 < (a :: l).length) : (a :: l)[i + 1] = l[i]'(Nat.lt_of_succ_lt_succ h) := rfl
theorem zC {α : Type _} (a : α) (l : List α) (h : 0 < (a :: l).length) : (a :: l)[0] = a := rfl
theorem zD {α : Type _} (l : List α) (i : Nat) (a : α) : l.toArray.setIfInBounds i a = (l.set i a).toArray := by simp
theorem zE {α : Type _} (x y : α) (l : List α) : (x :: l).set 0 y = y :: l := rfl
theorem zF {α : Type _} (x y : α) (l : List α) (n : Nat) : (x :: l).set (n + 1) y = x :: l.set n y := rfl
set_option maxRecDepth 100000
set_option linter.unusedSimpArgs false
set_option linter.unusedVariables false

/-- The same, its closed conditions asked of the kernel. -/
theorem bt {P : Program} {md : Region.Mode} {ops : Array Oper} {Q : Exit → Act → World → Prop} {S : World → Prop} {f : Nat} {i : Nat} {oi : Oper} {v : Value} {n : Nat} {listed : Array Bool} {a : Act} {w : World} (hi : ops[i]? = some oi) (hy : YieldsIf P ops S oi v a) (hS : S w) (h : anyBut P md ops Q S f n (listed.setIfInBounds i true) (a.put oi.dst v) w)
    (hs : Region.noSelect ops = true := by kernel_rfl) (hwt : waits md ops i ops.size f = true := by kernel_rfl) (hcl : closedB md ops listed = true := by kernel_rfl) (hf : Region.free md ops listed i = true := by kernel_rfl) (hr : (Region.ready md ops listed).contains i = true := by kernel_rfl)
    (hQ : ∀ c a w, Q (.panic c) (a.put oi.dst v) w → Q (.panic c) a w := by exact fun _ _ _ h => h) : anyBut P md ops Q S f (n + 1) listed a w := but_take hi hs hwt hcl hf hr hQ hy hS h
end Go.Proofs.YtlhemcjahcmdeaaGreatDoor
namespace Go.Proofs.YtlhemcjahcmdeaaGreatDoor
open Go.RowKit
set_option maxRecDepth 100000
set_option linter.unusedSimpArgs false
set_option linter.unusedVariables false

section
variable {P : Program} {md : Region.Mode} {ops : Array Oper} {Q : Exit → Act → World → Prop} {S : World → Prop} {f : Nat}
/-- Two may come up: each is carried out. -/
theorem but_two {i j : Nat} {oi oj : Oper} {n : Nat} {listed : Array Bool} {a : Act} {w : World} (hr : Region.ready md ops listed = [i, j]) (hoi : ops[i]? = some oi) (hoj : ops[j]? = some oj) (hwi : Region.wanted oi (yielded ops a.tmps) = true) (hwj : Region.wanted oj (yielded ops a.tmps) = true)
    (h : ∀ K : Act → World → Prop, Hid (∀ a' w', (i ≠ f → S w') → anyBut P md ops Q S f n (listed.setIfInBounds i true) a' w' → K a' w') → Oper.wp P oi a w K Q)
    (h' : ∀ K : Act → World → Prop, Hid (∀ a' w', (j ≠ f → S w') → anyBut P md ops Q S f n (listed.setIfInBounds j true) a' w' → K a' w') → Oper.wp P oj a w K Q) : anyBut P md ops Q S f (n + 1) listed a w := by
  refine ⟨fun h0 => (by rw [h0] at hr; cases hr), fun m hm => ?_⟩
  rw [hr] at hm
  simp only [List.mem_cons, List.not_mem_nil, or_false] at hm
  rcases hm with rfl | rfl
  · have h1 := h (fun a' w' => (m ≠ f → S w') ∧ anyBut P md ops Q S f n (listed.setIfInBounds m true) a' w') (Lib.hid (fun a' w' h2 h3 => ⟨h2, h3⟩))
    unfold wpOp
    simp only [hoi, hwi, if_true]
    exact .inl h1
  · have h1 := h' (fun a' w' => (m ≠ f → S w') ∧ anyBut P md ops Q S f n (listed.setIfInBounds m true) a' w') (Lib.hid (fun a' w' h2 h3 => ⟨h2, h3⟩))
    unfold wpOp
    simp only [hoj, hwj, if_true]
    exact .inl h1
end
end Go.Proofs.YtlhemcjahcmdeaaGreatDoor
namespace Go.Proofs.YtlhemcjahcmdeaaGreatDoor
open Go.RowKit
set_option maxRecDepth 100000
set_option linter.unusedSimpArgs false
set_option linter.unusedVariables false

theorem wanted_at {o og : Oper} {ops : Array Oper} {tmps : Array Value} {g s : Nat} {b v : Bool} (hg : o.guard = some (g, b)) (ho : ops[g]? = some og) (hd : og.dst = some s) (hv : tmps[s]? = some (.bool v)) : Region.wanted o (yielded ops tmps) = (v == b) := by
  simp [Region.wanted, yielded, hg, ho, hd, hv]
theorem wanted_un {o og : Oper} {ops : Array Oper} {tmps : Array Value} {g s : Nat} {b : Bool} (hg : o.guard = some (g, b)) (ho : ops[g]? = some og) (hd : og.dst = some s) (hv : tmps[s]? = some undef) : Region.wanted o (yielded ops tmps) = false := by
  simp [Region.wanted, yielded, hg, ho, hd, hv, undef]
end Go.Proofs.YtlhemcjahcmdeaaGreatDoor
namespace Go.Proofs.YtlhemcjahcmdeaaGreatDoor
open Go.RowKit
set_option maxRecDepth 100000
set_option linter.unusedSimpArgs false
set_option linter.unusedVariables false

def lessVG : Value := .func (.func 314) #[] #[]
theorem store_lessG (a : Addr) (m : Mode) (w : World) : (store a (.func (.func 314) #[] #[]) m).run Tryz.prog w = stored Tryz.prog w a (.func (.func 314) #[] #[]) m := run_store _ w a _ m rfl
theorem ageSet_any (A : Option Addr) (n c : Nat) (w : World) : Calls Tryz.prog 250 #[.slice A n c] w fun e w' => e = .returned (.agg #[.slice A n c, lessVG]) ∧ Below w.heap.size w w' := by
  have hst := store_lessG
  go_enter Tryz.func250, Tryz.ntmps250
  go_wp2
  exact bodyPost_ret (v := .agg #[.slice A n c, lessVG]) (by simp [results, Tryz.results250, go_sem, lessVG]) rfl ⟨rfl, bal1 _ _⟩
theorem lessAge_any (x y : AgeD) (w : World) : Calls Tryz.prog 314 #[.agg #[.int .i64 x.a, .int .i64 x.b], .agg #[.int .i64 y.a, .int .i64 y.b]] w (SaysBool w (decide (x.a < y.a))) := by
  obtain ⟨R, hR⟩ : ∃ R, decide (x.a < y.a) = R := ⟨_, rfl⟩
  rw [hR]
  go_enter Tryz.func314, Tryz.ntmps314
  go_wp2
  all_goals
    go_ret
    first
      | exact ⟨ret_boolB (by simp_all), bal2 _ _ _⟩
      | exact ⟨rfl, bal2 _ _ _⟩
theorem riseG_snoc {l : List AgeD} {j : Nat} (hlt : j + 1 < l.length) (h : ∀ i (h : i < j) (h2 : i + 1 < l.length), (l[i]).a < (l[i + 1]).a) (h2 : decide ((l[j]).a < (l[j + 1]).a) = true) : ∀ i (h : i < j + 1) (h2 : i + 1 < l.length), (l[i]).a < (l[i + 1]).a := by
  intro i hi h4
  by_cases h3 : i < j
  · exact h i h3 h4
  · have : i = j := by omega
    subst this
    exact of_decide_eq_true h2
set_option maxHeartbeats 1000000 in
theorem ascendingG_any (v : Value) (l : List AgeD) (w : World) (hv : Reads w w.heap.size v (agesD l)) (hn : l.length ≤ 2097152) : Calls Tryz.prog 281 #[.agg #[v, lessVG]] w (SaysBool w (riseG l)) := by
  obtain ⟨A, c, rfl, _, _⟩ := hv.shapeG
  have HT := Lib.hid lessAge_any
  unfold lessVG
  have HV := Lib.hid (hv.on (bal1 w (.cells #[.slice A l.length c, .func (.func 314) #[] #[]] 276)))
  have Q0 := Lib.hid (al1 w (.cells #[.slice A l.length c, .func (.func 314) #[] #[]] 276))
  have HB := Lib.hid (bal1 w (.cells #[.slice A l.length c, .func (.func 314) #[] #[]] 276))
  clear hv
  go_enter Tryz.func281, Tryz.ntmps281
  go_wp2
  generalize w.alloc (.cells #[.slice A l.length c, .func (.func 314) #[] #[]] 276) = W at *
  go_loopw [3] (fun i wr => ∃ j : Nat, (j < l.length ∨ j = 0) ∧ i = .int .i64 ((j : Int) + 1) ∧ Hid (∀ i (h : i < j) (h2 : i + 1 < l.length), (l[i]).a < (l[i + 1]).a) ∧ Hid (Below W.heap.size W wr)) (fun i _ => l.length - (intOf i).toNat)
  case atStart => exact ⟨0, .inr rfl, rfl, Lib.hid (fun i h => by omega), Lib.hid (Below.refl _ _)⟩
  case round =>
    obtain ⟨j, hj, rfl, HI, HW⟩ := hrel
    obtain ⟨x0, x1, x2⟩ := box2 (box_on Q0.out HW.out)
    by_cases hlt : j + 1 < l.length
    · obtain ⟨b, off, rfl, hbb, hc⟩ := (HV.out.on HW.out).ages hlt
      have F := Lib.hid (hc j (by omega))
      have F' := Lib.hid (hc (j + 1) hlt)
      have i1 : (j : Int) + 1 < (l.length : Int) := by omega
      have i2 : (0 : Int) ≤ (j : Int) + 1 := by omega
      have i3 : IntKind.i64.wrap ((j : Int) + 1 - 1) = (j : Int) := by rw [IntKind.wrap_i64]; omega
      have i7 : IntKind.i64.wrap (j : Int) = (j : Int) := by rw [IntKind.wrap_i64]; omega
      have i4 : (j : Int) < (l.length : Int) := by omega
      have i5 : (0 : Int) ≤ (j : Int) := by omega
      have i6 : ((j : Int) + 1).toNat = j + 1 := by omega
      have HP := Lib.hid (box_on Q0.out HW.out)
      clear hc
      obtain ⟨c0, c1⟩ := F.out
      obtain ⟨d0, d1⟩ := F'.out
      cases hless : decide ((l[j]).a < (l[j + 1]).a)
      all_goals
        have HL := Lib.hid hless
        clear hless
        go_wp2
        go_region_held3 (fun W => W.cell? ⟨w.heap.size, 0, none⟩ = some (.slice (some ⟨b, off, none⟩) l.length c) ∧ W.cell? ⟨w.heap.size, 1, none⟩ = some (.func (.func 314) #[] #[]) ∧ W.cell? ⟨b, off + j * 2, none⟩ = some (.int .i64 (l[j]).a) ∧ W.cell? ⟨b, off + j * 2 + 1, none⟩ = some (.int .i64 (l[j]).b) ∧ W.cell? ⟨b, off + (j + 1) * 2, none⟩ = some (.int .i64 (l[j + 1]).a) ∧ W.cell? ⟨b, off + (j + 1) * 2 + 1, none⟩ = some (.int .i64 (l[j + 1]).b))
          (first | with_reducible exact ⟨(box2 (box_on HP.out B8)).1, (box2 (box_on HP.out B8)).2.1, ⟨(F.out.on hbb B8).1, (F.out.on hbb B8).2, (F'.out.on hbb B8).1, (F'.out.on hbb B8).2⟩⟩ | with_reducible exact ⟨(box2 (box_on HP.out (Below.drew1 _))).1, (box2 (box_on HP.out (Below.drew1 _))).2.1, ⟨(F.out.on hbb (Below.drew1 _)).1, (F.out.on hbb (Below.drew1 _)).2, (F'.out.on hbb (Below.drew1 _)).1, (F'.out.on hbb (Below.drew1 _)).2⟩⟩ | exact ⟨x0, x1, F.out.1, F.out.2, F'.out.1, F'.out.2⟩ | fail)
          (first
            | (go_at_call 314; refine (HT.out l[j] l[j + 1] _).mono ?_; rintro r w8 ⟨rfl, b8⟩; rw [HL.out]; have B8 := bstep (Below.drew1 _) b8)
            | fail)
        all_goals
          have BC := Lib.hid (HW.out.trans (B8.mono HW.out.size))
          clear B8 b8 c0 c1 d0 d1 x0 x1 x2
          go_wp2
          first
            | go_ret
              refine ⟨ret_boolB ?_, bstep HB.out BC.out⟩
              symm
              refine decide_eq_false (fun h => ?_)
              have h2 := h j (by omega)
              have h3 := of_decide_eq_false HL.out
              exact h3 h2
            | go_roundw
              case rel => exact ⟨j + 1, .inl hlt, by go_num, Lib.hid (riseG_snoc hlt HI.out HL.out), BC⟩
              case measure => simp [intOf]; omega
    · have i2 : ¬ (j : Int) + 1 < (l.length : Int) := by omega
      go_wp2
      go_ret
      refine ⟨ret_boolB ?_, bstep HB.out HW.out⟩
      symm
      exact decide_eq_true (fun i h => HI.out i (by omega) (by omega))
theorem gfit_at {l : List AgeD} {k : Nat} (h : k < l.length) : fitG l k = (idG (l[k]).a && parGB l k (l[k]).b) := by
  unfold fitG
  rw [List.getElem?_eq_getElem h]
theorem fit_miss {l : List AgeD} {k : Nat} (h : k < l.length) (hf : fitG l k = false) : agesOkB l = false := by
  unfold agesOkB
  rw [decide_eq_false (fun hh => by rw [hh k h] at hf; cases hf)]
  rfl
theorem rise_miss {l : List AgeD} {j : Nat} (h : j + 1 < l.length) (hf : ¬ (l[j]).a < (l[j + 1]).a) : agesOkB l = false := by
  unfold agesOkB riseG
  rw [decide_eq_false (p := ∀ i (h : i < l.length - 1), (l[i]'(by omega)).a < (l[i + 1]'(by omega)).a) (fun hh => hf (hh j (by omega)))]
  simp
theorem fit_step {l : List AgeD} {k : Nat} (h : ∀ j, j < k → fitG l j = true) (hf : fitG l k = true) : ∀ j, j < k + 1 → fitG l j = true := by
  intro j hj
  by_cases h2 : j < k
  · exact h j h2
  · have : j = k := by omega
    subst this
    exact hf
/-- l1In at the range of an Id. -/
theorem inG_any (a : Int) (w : World) : Calls Tryz.prog 63 #[.int .i64 a, .int .i64 1, .int .i64 60] w (SaysBool w (idG a)) :=
  (l1InG_any a 1 60 w).mono (fun _ _ h => ⟨h.1, h.2 ▸ Below.refl _ _⟩)
theorem specAgeAtB (v : Value) (l : List AgeD) (d : Int) (w : World) (hv : Reads w w.heap.size v (agesD l)) (hn : l.length ≤ 2097152) : Calls Tryz.prog 133 #[v, .int .i64 d] w (SaysG w (ageAtK l d)) :=
  (specAgeAt_any v l d w hv hn).mono (fun _ _ h => ⟨h.1, h.2 ▸ Below.refl _ _⟩)
end Go.Proofs.YtlhemcjahcmdeaaGreatDoor
namespace Go.Proofs.YtlhemcjahcmdeaaGreatDoor
open Go.RowKit Go.Shelf
set_option maxRecDepth 100000
set_option linter.unusedSimpArgs false
set_option linter.unusedVariables false
attribute [local go_sem] Oper.semAt_some

def idxL (lo : List Int) : List (Nat × Int) := lo.mapIdx (fun i a => (i, a))
theorem idxL_len (lo : List Int) : (idxL lo).length = lo.length := by simp [idxL]
theorem idxL_get (lo : List Int) (k : Nat) (h : k < (idxL lo).length) : (idxL lo)[k] = (k, lo[k]'(by rw [idxL_len] at h; exact h)) := by simp [idxL]
theorem idxL_snoc (l : List Int) (a : Int) : idxL (l ++ [a]) = idxL l ++ [(l.length, a)] := by simp [idxL, List.mapIdx_append]
def foundI : Option (Nat × Int) → Int
  | some y => (y.1 : Int)
  | none => -1
def whereK (lo : List Int) (s : Int) : Int := foundI ((idxL lo).reverse.find? (fun y => decide (y.2 ≤ s)))
theorem whereK_nil (s : Int) : whereK [] s = -1 := rfl
theorem whereK_snoc (l : List Int) (a s : Int) : whereK (l ++ [a]) s = if a ≤ s then (l.length : Int) else whereK l s := by
  unfold whereK
  rw [idxL_snoc, List.reverse_append]
  simp only [List.reverse_cons, List.reverse_nil, List.nil_append, List.singleton_append, List.find?_cons]
  by_cases h : a ≤ s <;> simp [h, foundI]
theorem whereK_take {lo : List Int} {k : Nat} (h : k < lo.length) (s : Int) : whereK (lo.take (k + 1)) s = if lo[k] ≤ s then (k : Int) else whereK (lo.take k) s := by
  rw [List.take_succ_eq_append_getElem h, whereK_snoc]
  simp only [List.length_take, Nat.min_eq_left (Nat.le_of_lt h)]
theorem find_preG {α : Type} {K pre : List α} {x : α} {p : α → Bool} (h : pre ++ [x] <+: K) (h1 : ∀ y ∈ pre, p y = false) (h2 : p x = true) : K.find? p = some x := by
  obtain ⟨t, rfl⟩ := h
  rw [List.append_assoc, List.find?_append, List.find?_eq_none.2 (fun y hy => by simp [h1 y hy])]
  simp [List.find?_cons, h2]
/-- A number as the answer, nothing old written. -/
def SaysInt (w : World) (x : Int) (e : Ending) (w' : World) : Prop := e = .returned (.int .i64 x) ∧ Below w.heap.size w w'
def encI (x : Nat × Int) : Array Value := #[.int .i64 (x.1 : Int), .int .i64 x.2]
/-- The cells of the ints lie below n₀. -/
def IntsAt (W : World) (n₀ : Nat) (A : Option Addr) (lo : List Int) : Prop := lo = [] ∨ ∃ b off, A = some ⟨b, off, none⟩ ∧ b < n₀ ∧ ∀ k (h : k < lo.length), W.cell? ⟨b, off + k, none⟩ = some (.int .i64 lo[k])
theorem IntsAt.below {W W' : World} {n₀ : Nat} {A : Option Addr} {lo : List Int} (h : IntsAt W n₀ A lo) (hb : Below n₀ W W') : IntsAt W' n₀ A lo := by
  rcases h with h | ⟨b, off, h2, h3, h4⟩
  · exact .inl h
  · exact .inr ⟨b, off, h2, h3, fun k hk => (hb.cell (p := ⟨b, off + k, none⟩) h3).trans (h4 k hk)⟩
theorem IntsAt.mono {W : World} {n₀ n₁ : Nat} {A : Option Addr} {lo : List Int} (h : IntsAt W n₀ A lo) (hn : n₀ ≤ n₁) : IntsAt W n₁ A lo := by
  rcases h with h | ⟨b, off, h2, h3, h4⟩
  · exact .inl h
  · exact .inr ⟨b, off, h2, by omega, h4⟩
theorem Reads.intsAt {w : World} {A : Option Addr} {c : Nat} {lo : List Int} (h : Reads w w.heap.size (.slice A lo.length c) (intsD lo)) : IntsAt w w.heap.size A lo := by
  by_cases h0 : 0 < lo.length
  · obtain ⟨b, off, h1, h2, h3⟩ := h.int h0
    exact .inr ⟨b, off, h1, h2, h3⟩
  · exact .inl (List.length_eq_zero_iff.1 (by omega))
set_option maxHeartbeats 2000000 in
theorem backI_seq (E : TypeId) (Bs n₀ : Nat) (A : Option Addr) (c : Nat) (lo : List Int) (hm : lo.length ≤ 1100000) (hBs : Bs < n₀) (w : World) (hn₀ : n₀ ≤ w.heap.size) (hc : w.cell? ⟨Bs, 0, none⟩ = some (.slice A lo.length c)) (hz : IntsAt w n₀ A lo) :
    SeqL E Tryz.prog 345 #[.pointer (some ⟨Bs, 0, none⟩)] encI n₀ (idxL lo).reverse w := by
  intro l J Jx W hW hJ hJx hY h0
  have hc' : W.cell? ⟨Bs, 0, none⟩ = some (.slice A lo.length c) := (hW.cell (p := ⟨Bs, 0, none⟩) (show Bs < w.heap.size by omega)).trans hc
  have HZ := Lib.hid (hz.below (hW.mono hn₀))
  have hnW : n₀ ≤ W.heap.size := Nat.le_trans hn₀ hW.size
  clear hc hz hW hJ hJx
  refine (callsIn_wide (n := 1)).1 ?_
  refine callsIn_of_wp Tryz.func345 rfl trivial ?_ rfl
  simp only [Tryz.ntmps345, List.size_toArray, List.length_cons, List.length_nil, Nat.reduceAdd, Nat.reduceSub, Array.replicate_succ, Array.replicate_zero, List.push_toArray, List.append_toArray, List.nil_append, List.cons_append]
  gi_wp2
  gi_loopw [3] (fun i wr => ∃ r : Nat, r ≤ lo.length ∧ i = .int .i64 ((r : Int) - 1) ∧ Hid (J ((idxL lo).reverse.take ((idxL lo).length - r)) wr) ∧ Hid (Below n₀ W wr)) (fun i _ => (intOf i + 1).toNat)
  case atStart => exact ⟨lo.length, Nat.le_refl _, rfl, Lib.hid (by rw [idxL_len, Nat.sub_self]; exact h0), Lib.hid (Below.refl _ _)⟩
  case round =>
    obtain ⟨r, hr, rfl, HJ, HX⟩ := hrel
    have hB2 : wr.cell? ⟨Bs, 0, none⟩ = some (.slice A lo.length c) := (HX.out.cell (p := ⟨Bs, 0, none⟩) hBs).trans hc'
    rcases Nat.eq_zero_or_pos r with rfl | hpos
    · have t0 : decide ((0 : Int) ≤ ((0 : Nat) : Int) - 1) = false := by decide
      have HJ2 := HJ.out
      rw [Nat.sub_zero, List.take_of_length_le (by simp)] at HJ2
      gi_wp2
      go_end0
      exact ⟨⟨_, rfl⟩, .inl HJ2⟩
    · obtain ⟨k, rfl⟩ : ∃ k, r = k + 1 := ⟨r - 1, by omega⟩
      have hlt : k < lo.length := by omega
      have hlz : k < (idxL lo).length := by rw [idxL_len]; exact hlt
      have e1 : ((k + 1 : Nat) : Int) - 1 = (k : Int) := by omega
      rw [e1]
      obtain ⟨b, off, rfl, hb, hcc⟩ : ∃ b off, A = some ⟨b, off, none⟩ ∧ b < n₀ ∧ ∀ k (h : k < lo.length), W.cell? ⟨b, off + k, none⟩ = some (.int .i64 lo[k]) := by
        rcases HZ.out with h | h
        · rw [h] at hlt; simp at hlt
        · exact h
      have y0 := (HX.out.cell (p := ⟨b, off + k, none⟩) hb).trans (hcc k hlt)
      obtain ⟨fn, tmps, assign, body, hy, hR⟩ := hY _ (idxL lo)[k] wr (rev_pre hlz) HJ.out
      rw [idxL_get] at hy
      unfold encI at hy
      have HR := Lib.hid hR
      have hsz := HX.out.size
      have HT := Lib.hid (rev_take hlz)
      have HPX := Lib.hid (rev_pre hlz)
      have i2 : (k : Int) < (lo.length : Int) := by omega
      have i3 : (0 : Int) ≤ (k : Int) := by omega
      clear hcc hR e1 hpos
      gi_wp2
      refine (HR.out _).mono ?_
      rintro e W3 (⟨rfl, hJ3, ho3⟩ | ⟨rfl, hJx3, ho3⟩)
      · gi_wp2
        go_roundw
        case rel => exact ⟨k, by omega, by go_num, Lib.hid (by rw [HT.out]; exact hJ3), Lib.hid (HX.out.trans (only_below ho3 (Nat.le_trans hnW hsz)))⟩
        case measure => simp [intOf]
      · gi_wp2
        refine bodyPost_ret (results_none rfl _ _ _) rfl ?_
        exact ⟨⟨_, rfl⟩, .inr ⟨_, HPX.out, hJx3⟩⟩
theorem backIF_any (a : Option Addr) (len cap : Nat) (w : World) :
    Calls Tryz.prog 306 #[.slice a len cap] w fun e w' => e = .returned (.func (.func 345) #[] #[.pointer (some ⟨w.heap.size, 0, none⟩)]) ∧ w' = w.alloc (.cells #[.slice a len cap] 24) := by
  go_enter Tryz.func306, Tryz.ntmps306
  go_wp2
  go_ret
  exact ⟨rfl, rfl⟩
set_option maxHeartbeats 4000000 in
theorem implWhereIn_any (vl vn : Value) (lo : List Int) (ts : List NodeD) (p q : Int) (w : World) (hv : RdT w w.heap.size vl vn lo ts) (hn : lo.length ≤ 1100000) :
    Calls Tryz.prog 242 #[.agg #[vl, vn], .int .i64 p, .int .i64 q] w (SaysInt w (whereK lo (spotI p q))) := by
  obtain ⟨A, c, A', c', rfl, rfl⟩ := hv.shape
  have HV := Lib.hid hv.1.intsAt
  have HP := Lib.hid implSpotOf_any
  have HF1 : Hid (∀ s x pre, pre ++ [x] <+: (idxL lo).reverse → (∀ y ∈ pre, decide (y.2 ≤ s) = false) → decide (x.2 ≤ s) = true → whereK lo s = (x.1 : Int)) := Lib.hid (fun s x pre h1 h2 h3 => by unfold whereK; rw [find_preG h1 h2 h3]; rfl)
  have HF0 : Hid (∀ s, (∀ y ∈ (idxL lo).reverse, decide (y.2 ≤ s) = false) → whereK lo s = -1) := Lib.hid (fun s h => by unfold whereK; rw [List.find?_eq_none.2 (fun y hy => by simp [h y hy])]; rfl)
  clear hv
  refine (callsIn_wide (n := 3)).1 ?_
  refine callsIn_of_wp_marks Tryz.func242 rfl trivial ?_ rfl
  simp only [Tryz.ntmps242, List.size_toArray, List.length_cons, List.length_nil, Nat.reduceAdd, Nat.reduceSub, Array.replicate_succ, Array.replicate_zero, List.push_toArray, List.append_toArray, List.nil_append, List.cons_append]
  gi_wp2_with fail
  refine ⟨trivial, (callsIn_wide.2 (HP.out _ _ _)).mono ?_⟩
  rintro r w1 ⟨rfl, rfl⟩
  generalize spotI p q = s at *
  gi_wp2_with fail
  refine ⟨trivial, (callsIn_wide.2 (backIF_any _ _ _ _)).mono ?_⟩
  rintro r w1 ⟨rfl, rfl⟩
  gi_wp2_with fail
  obtain ⟨q0, q1⟩ := al2 w (.cells #[.slice A lo.length c, .slice A' ts.length c'] 27) (.cells #[.int .i64 0] 3)
  have hb2 := bal2 w (.cells #[.slice A lo.length c, .slice A' ts.length c'] 27) (.cells #[.int .i64 0] 3)
  obtain ⟨r0, r1⟩ := al2 ((w.alloc (.cells #[.slice A lo.length c, .slice A' ts.length c'] 27)).alloc (.cells #[.int .i64 0] 3)) (.cells #[.int .i64 s] 3) (.cells #[.slice A lo.length c] 24)
  have hb3 := bal2 ((w.alloc (.cells #[.slice A lo.length c, .slice A' ts.length c'] 27)).alloc (.cells #[.int .i64 0] 3)) (.cells #[.int .i64 s] 3) (.cells #[.slice A lo.length c] 24)
  have hz6 : ((((w.alloc (.cells #[.slice A lo.length c, .slice A' ts.length c'] 27)).alloc (.cells #[.int .i64 0] 3)).alloc (.cells #[.int .i64 s] 3)).alloc (.cells #[.slice A lo.length c] 24)).heap.size = w.heap.size + 4 := by simp
  simp only [World.size_alloc] at r0 r1
  have HB6 := Lib.hid (bstep hb2 hb3)
  have P1 := Lib.hid (box_on q1 hb3)
  clear hb2 hb3 q0 q1
  generalize (((w.alloc (.cells #[.slice A lo.length c, .slice A' ts.length c'] 27)).alloc (.cells #[.int .i64 0] 3)).alloc (.cells #[.int .i64 s] 3)).alloc (.cells #[.slice A lo.length c] 24) = W0 at *
  have R0 := Lib.hid r0
  have hww := HB6.out.size
  refine rangeL (E := 112) (gf := 345) (lb := #[.pointer (some ⟨w.heap.size + 1 + 1 + 1, 0, none⟩)]) rfl (enters_of Tryz.func345 (by kernel_rfl) rfl)
    (backI_seq 112 (w.heap.size + 1 + 1 + 1) W0.heap.size A c lo hn (by omega) W0 (Nat.le_refl _) (box1N r1).1 ((HV.out.below HB6.out).mono hww))
    (Below.refl _ _) (Nat.le_refl _) (fun _ => rfl)
    (fun pre V => Below W0.heap.size W0 V ∧ ∀ y ∈ pre, decide (y.2 ≤ s) = false)
    (fun cd _ V => cd = .ret ∧ V.heap[w.heap.size + 1]? = some (.cells #[.int .i64 (whereK lo s)] 3 (0, 0)) ∧ Below w.heap.size w V)
    (OwnFrom.and (ownFrom_below (Nat.le_refl _) (Nat.le_refl _)) (ownFrom_pure _ _))
    (fun cd _ X Y row hs hg hr => by
      obtain ⟨h1, h2, h4⟩ := hs
      have hr' : ∀ r, row = some r → ∃ o : Obj, X.heap[r]? = some o ∧ o.isCells = false := fun r e => (hr r e).2
      exact ⟨h1, cellsN hg hr' h2, ownFrom_below (β := Unit) (Nat.le_refl _) hww () X Y row h4 hg hr⟩)
    ⟨Below.refl _ _, fun y hy => by cases hy⟩
    (fun x a' _ => a' = { tmps := #[.agg #[.slice A lo.length c, .slice A' ts.length c'], .int .i64 p, .int .i64 q, .pointer (some ⟨w.heap.size, 0, none⟩), undef, undef, .pointer (some ⟨w.heap.size + 1, 0, none⟩), .pointer (some ⟨w.heap.size + 1 + 1, 0, none⟩), .int .i64 (x.1 : Int), .int .i64 x.2, .int .i64 p, .int .i64 q, .int .i64 s, .pointer (some ⟨w.heap.size, 0, none⟩), .slice A lo.length c, .func (.func 345) #[] #[.pointer (some ⟨w.heap.size + 1 + 1 + 1, 0, none⟩)], .int .i64 (x.1 : Int), .int .i64 x.2, undef, undef, undef, undef], defers := [] })
    (fun x a' => fun _ _ _ _ hs _ _ => hs)
    ?assign ?body ?done ?stop
  case assign =>
    rintro l pre x V K hpx hi hK
    simp only [encI]
    gi_wp2
    exact hK _ _ (Only.refl _ _) hi rfl
  case body =>
    rintro l pre x a' V hpx ⟨hB, hpre⟩ rfl
    have HBV := Lib.hid hB
    have HPR := Lib.hid hpre
    have HPX := Lib.hid hpx
    have hzV := hB.size
    obtain ⟨a0, a1⟩ := box1N (box_on R0.out hB)
    have p1 := box_on P1.out hB
    obtain ⟨c0, c1⟩ := box1N p1
    have P1' := Lib.hid p1
    clear hB hpre hpx p1
    cases hsp : decide (x.2 ≤ s)
    · have HSx := Lib.hid hsp
      gi_wp2
      exact ⟨Kept.refl _ _ _ _, HBV.out, fun y hy => (List.mem_append.1 hy).elim (HPR.out y) (fun e => by simp at e; subst e; exact HSx.out)⟩
    · have HFx := Lib.hid (HF1.out s x pre HPX.out HPR.out hsp)
      gi_wp2
      refine ⟨((Only.refl (fun b => b < W0.heap.size) V).setCell (g := w.heap.size + 1) (j := 0) (by omega) _).kept _ (fun b hb => ⟨Nat.zero_le _, fun h => by omega⟩), rfl, ?_, (bstep HB6.out HBV.out).setCell (p := ⟨w.heap.size + 1, 0, none⟩) (show w.heap.size ≤ w.heap.size + 1 by omega) _⟩
      rw [HFx.out]
      exact box_set P1'.out
  case done =>
    rintro D V hD ⟨hB, hall⟩ hK
    have HFx := Lib.hid (HF0.out s hall)
    have HBV := Lib.hid hB
    have HKD := Lib.hid hK
    have hDV : D < V.heap.size := (Array.getElem?_eq_some_iff.1 hK).1
    have p1 := box_on P1.out hB
    obtain ⟨c0, c1⟩ := box1N p1
    have P1' := Lib.hid p1
    clear hB hall hK p1
    gi_wp2
    have hK5 : (V.setCell ⟨w.heap.size + 1, 0, none⟩ (.int .i64 (-1))).heap[D]? = some (.deferred (some [])) := box_far HKD.out (by omega)
    refine ⟨by simp, .inl ⟨_, _, rfl, run_takeDeferred hK5, ?_⟩⟩
    have hput := fun {b cur e} => cellsN (b := b) (cur := cur) (e := e) (grownBy_putObj' _ D (.deferred none)) (fun r e => by cases e; exact ⟨_, hK5, rfl⟩)
    obtain ⟨d0, d1⟩ := box1N (hput (box_set (i := 0) (u := .int .i64 (-1)) P1'.out))
    have hFn := HFx.out
    refine ⟨.int .i64 (-1), by simp [results, Tryz.results242, go_sem, d0], by rw [hFn], ((bstep HB6.out HBV.out).setCell (p := ⟨w.heap.size + 1, 0, none⟩) (show w.heap.size ≤ w.heap.size + 1 by omega) _).trans (belowK_b (w := w) (Nat.le_refl _) _ D _ _ (by omega) hK5 rfl rfl)⟩
  case stop =>
    rintro D cd pre V hD _ ⟨rfl, h1, h3⟩ hK
    gi_wp2
    refine ⟨by simp, .inl ⟨_, _, rfl, run_takeDeferred hK, ?_⟩⟩
    have hput := fun {b cur e} => cellsN (b := b) (cur := cur) (e := e) (grownBy_putObj' V D (.deferred none)) (fun r e => by cases e; exact ⟨_, hK, rfl⟩)
    obtain ⟨a0, a1⟩ := box1N (hput h1)
    refine ⟨.int .i64 (whereK lo s), by simp [results, Tryz.results242, go_sem, a0], rfl, h3.trans (belowK_b (w := w) (Nat.le_refl _) _ D _ _ (by omega) hK rfl rfl)⟩
end Go.Proofs.YtlhemcjahcmdeaaGreatDoor
namespace Go.Proofs.YtlhemcjahcmdeaaGreatDoor
open Go.RowKit
set_option maxRecDepth 100000
set_option linter.unusedSimpArgs false
set_option linter.unusedVariables false

theorem l1In_any (a lo hi : Int) (w : World) : Calls Tryz.prog 63 #[.int .i64 a, .int .i64 lo, .int .i64 hi] w fun e w' => e = .returned (.bool (decide (lo ≤ a) && decide (a ≤ hi))) ∧ w = w' := by
  by_cases h1 : lo ≤ a
  · by_cases h2 : a ≤ hi
    · rw [decide_eq_true h1, decide_eq_true h2]
      go_enter Tryz.func63, Tryz.ntmps63
      go_wp2
      go_ret
      exact ⟨rfl, rfl⟩
    · have h3 : hi < a := by omega
      rw [decide_eq_true h1, decide_eq_false h2]
      go_enter Tryz.func63, Tryz.ntmps63
      go_wp2
      go_ret
      exact ⟨rfl, rfl⟩
  · have h3 : a < lo := by omega
    rw [decide_eq_false h1, Bool.false_and]
    go_enter Tryz.func63, Tryz.ntmps63
    go_wp2
    go_ret
    exact ⟨rfl, rfl⟩
def treeKeysK (ts : List NodeD) : List KeyD := (ts.map nodeKeysK).flatten
theorem treeKeys_cons (n : NodeD) (ts : List NodeD) : treeKeysK (n :: ts) = nodeKeysK n ++ treeKeysK ts := rfl
theorem treeKeys_append (a b : List NodeD) : treeKeysK (a ++ b) = treeKeysK a ++ treeKeysK b := by simp [treeKeysK]
theorem treeKeys_take {ts : List NodeD} {k : Nat} (h : k < ts.length) : treeKeysK (ts.take (k + 1)) = treeKeysK (ts.take k) ++ nodeKeysK ts[k] := by
  rw [List.take_succ_eq_append_getElem h, treeKeys_append]
  simp [treeKeysK]
theorem treeKeys_len (ts : List NodeD) : (treeKeysK ts).length ≤ sumT ts := by
  induction ts with
  | nil => simp [treeKeysK, sumT]
  | cons n ts ih =>
    have := nodeKeys_len n
    rw [treeKeys_cons, List.length_append, sumT_cons]
    omega
theorem treeKeys_takelen (ts : List NodeD) (k : Nat) : (treeKeysK (ts.take k)).length ≤ sumT ts := Nat.le_trans (treeKeys_len _) (sumT_take_le ts k)
set_option maxHeartbeats 1000000 in
theorem specTreeKeys_any (vl vn : Value) (lo : List Int) (ts : List NodeD) (w : World) (hv : RdT w w.heap.size vl vn lo ts) (hn : ts.length ≤ 1048576) (hs : sumT ts ≤ 1048576) :
    Calls Tryz.prog 253 #[.agg #[vl, vn]] w (NewK w (treeKeysK ts)) := by
  obtain ⟨A, c, A', c', rfl, rfl⟩ := hv.shape
  have HV := Lib.hid hv.2
  have HB := Lib.hid (bal1 w (.cells #[.slice A lo.length c, .slice A' ts.length c'] 27))
  have Q0 := Lib.hid (al1 w (.cells #[.slice A lo.length c, .slice A' ts.length c'] 27))
  clear hv
  go_enter Tryz.func253, Tryz.ntmps253
  go_upto_region 1 with (fail)
  generalize w.alloc (.cells #[.slice A lo.length c, .slice A' ts.length c'] 27) = W at *
  go_wp2
  go_loopw [3, 4] (fun o i wr => ∃ k : Nat, k ≤ ts.length ∧ i = .int .i64 k ∧ Hid (RowK wr W.heap.size o (treeKeysK (ts.take k))) ∧ Hid (Below W.heap.size W wr)) (fun _ i _ => ts.length - (intOf i).toNat)
  case atStart => exact ⟨0, Nat.zero_le _, rfl, Lib.hid (RowK.lit W), Lib.hid (bal1 _ _)⟩
  case round =>
    obtain ⟨k, hk, rfl, HR, HX⟩ := hrel
    obtain ⟨x0, x1, x2⟩ := box2 (box_on Q0.out HX.out)
    obtain ⟨Ao, co, rfl, _, _⟩ := HR.out.shape
    by_cases hlt : k < ts.length
    · obtain ⟨b, off, rfl, hbb, hc⟩ := (HV.out.on (bstep HB.out HX.out)).node hlt
      obtain ⟨A1, d1, c1, _, _, r1⟩ := hc k hlt
      have R1 := Lib.hid r1
      have HT := Lib.hid (treeKeys_take hlt)
      have HL := Lib.hid (treeKeys_takelen ts k)
      have hl := sumT_mem (List.getElem_mem hlt)
      have hlk := nodeKeys_len ts[k]
      have i1 : (k : Int) < (ts.length : Int) := by omega
      have i2 : (0 : Int) ≤ (k : Int) := by omega
      clear hc r1
      go_wp2_with fail
      refine (specNodeKeys_any _ ts[k] _ R1.out (by omega) (by omega)).mono ?_
      rintro e w2 ⟨v2, rfl, o2, b2⟩
      obtain ⟨A2, c2, rfl, _, _⟩ := o2.shape
      have HRow := Lib.hid (HR.out.on b2)
      have HAt := Lib.hid (o2.owns.reads.atK)
      have B2 := Lib.hid (bstep HX.out b2)
      have HZ := Lib.hid B2.out.size
      clear o2 b2 x0 x1 x2 c1
      go_wp2_with (at_builtin; refine wpList_appK _ rfl (.tmp 13) (.tmp 19) rfl W.heap.size _ (treeKeysK (ts.take k)) rfl HRow.out A2 (nodeKeysK ts[k]).length c2 (nodeKeysK ts[k]) rfl rfl HAt.out (by have := HL.out; omega) HZ.out ?_; intro v1 w1 o1 b1; clear HRow HAt)
      have HO := Lib.hid o1
      have B3 := Lib.hid (B2.out.trans b1)
      clear o1 b1
      go_roundw
      case rel => exact ⟨k + 1, by omega, by go_num, Lib.hid (by rw [HT.out]; exact HO.out), B3⟩
      case measure => simp [intOf]; omega
    · have e : k = ts.length := by omega
      subst e
      have h := HR.out
      rw [List.take_length] at h
      have HF := Lib.hid h
      clear h
      go_wp2
      go_ret
      refine ⟨_, rfl, ?_, bstep HB.out HX.out⟩
      have h := HF.out.mono (base' := w.heap.size) HB.out.size
      rw [List.take_length]
      exact h
set_option maxHeartbeats 1000000 in
theorem implTreeKeys_any (vl vn : Value) (lo : List Int) (ts : List NodeD) (w : World) (hv : RdT w w.heap.size vl vn lo ts) (hn : ts.length ≤ 1048576) (hs : sumT ts ≤ 1048576) :
    Calls Tryz.prog 279 #[.agg #[vl, vn]] w (NewK w (treeKeysK ts)) := by
  obtain ⟨A, c, A', c', rfl, rfl⟩ := hv.shape
  have HV := Lib.hid hv.2
  have HB := Lib.hid (bal1 w (.cells #[.slice A lo.length c, .slice A' ts.length c'] 27))
  have Q0 := Lib.hid (al1 w (.cells #[.slice A lo.length c, .slice A' ts.length c'] 27))
  clear hv
  go_enter Tryz.func279, Tryz.ntmps279
  go_upto_region 1 with (fail)
  generalize w.alloc (.cells #[.slice A lo.length c, .slice A' ts.length c'] 27) = W at *
  obtain ⟨x0, x1, x2⟩ := box2 (box_on Q0.out (bal1 W (.cells #[] 112)))
  go_wp2
  clear x0 x1 x2
  go_loopw [3, 10] (fun o i wr => ∃ k : Nat, k ≤ ts.length ∧ i = .int .i64 k ∧ Hid (RowK wr W.heap.size o (treeKeysK (ts.take k))) ∧ Hid (Below W.heap.size W wr)) (fun _ i _ => ts.length - (intOf i).toNat)
  case atStart => exact ⟨0, Nat.zero_le _, rfl, Lib.hid (RowK.lit W), Lib.hid (bal1 _ _)⟩
  case round =>
    obtain ⟨k, hk, rfl, HR, HX⟩ := hrel
    obtain ⟨Ao, co, rfl, _, _⟩ := HR.out.shape
    by_cases hlt : k < ts.length
    · obtain ⟨b, off, rfl, hbb, hc⟩ := (HV.out.on (bstep HB.out HX.out)).node hlt
      obtain ⟨A1, d1, c1, _, _, r1⟩ := hc k hlt
      have ba := bal1 wr (.cells #[.slice A1 (ts[k]).length d1] 153)
      have R1 := Lib.hid (r1.on ba)
      have HT := Lib.hid (treeKeys_take hlt)
      have HL := Lib.hid (treeKeys_takelen ts k)
      have hl := sumT_mem (List.getElem_mem hlt)
      have hlk := nodeKeys_len ts[k]
      have i1 : (k : Int) < (ts.length : Int) := by omega
      have i2 : (0 : Int) ≤ (k : Int) := by omega
      replace HX := Lib.hid (bstep HX.out ba)
      replace HR := Lib.hid (HR.out.on ba)
      clear hc r1 ba
      go_wp2_with fail
      refine (implNodeKeys_any _ ts[k] _ R1.out (by omega) (by omega)).mono ?_
      rintro e w2 ⟨v2, rfl, o2, b2⟩
      obtain ⟨A2, c2, rfl, _, _⟩ := o2.shape
      have HRow := Lib.hid (HR.out.on b2)
      have HAt := Lib.hid (o2.owns.reads.atK)
      have B2 := Lib.hid (bstep HX.out b2)
      have HZ := Lib.hid B2.out.size
      clear o2 b2 c1
      go_wp2_with (at_builtin; refine wpList_appK _ rfl (.tmp 14) (.tmp 16) rfl W.heap.size _ (treeKeysK (ts.take k)) rfl HRow.out A2 (nodeKeysK ts[k]).length c2 (nodeKeysK ts[k]) rfl rfl HAt.out (by have := HL.out; omega) HZ.out ?_; intro v1 w1 o1 b1; clear HRow HAt)
      have HO := Lib.hid o1
      have B3 := Lib.hid (B2.out.trans b1)
      clear o1 b1
      go_roundw
      case rel => exact ⟨k + 1, by omega, by go_num, Lib.hid (by rw [HT.out]; exact HO.out), B3⟩
      case measure => simp [intOf]; omega
    · have e : k = ts.length := by omega
      subst e
      have h := HR.out
      rw [List.take_length] at h
      have HF := Lib.hid h
      clear h
      go_wp2
      go_ret
      refine ⟨_, rfl, ?_, bstep HB.out HX.out⟩
      have h := HF.out.mono (base' := w.heap.size) HB.out.size
      rw [List.take_length]
      exact h
end Go.Proofs.YtlhemcjahcmdeaaGreatDoor
namespace Go.Proofs.YtlhemcjahcmdeaaGreatDoor
open Go.RowKit
set_option maxRecDepth 100000
set_option linter.unusedSimpArgs false
set_option linter.unusedVariables false

def InP (lo : List Int) (i : Nat) (x : Int) : Prop := lo.getD i 0 ≤ x ∧ (i + 1 < lo.length → x < lo.getD (i + 1) 0)
instance (lo : List Int) (i : Nat) (x : Int) : Decidable (InP lo i x) := inferInstanceAs (Decidable (_ ∧ _))
def FitP (lo : List Int) (i : Nat) (ns : NodeD) : Prop := nodeOkB ns = true ∧ (i = 0 ∨ 0 < (nodeKeysK ns).length) ∧ ∀ l ∈ ns, ∀ x ∈ l, InP lo i (spotI x.a x.b)
instance (lo : List Int) (i : Nat) (ns : NodeD) : Decidable (FitP lo i ns) := inferInstanceAs (Decidable (_ ∧ _ ∧ _))
def fitB (lo : List Int) (i : Nat) (ns : NodeD) : Bool := decide (FitP lo i ns)
def RiseP (lo : List Int) : Prop := ∀ i, i < lo.length - 1 → lo.getD i 0 < lo.getD (i + 1) 0
instance (lo : List Int) : Decidable (RiseP lo) := inferInstanceAs (Decidable (∀ i, i < lo.length - 1 → _))
def TreeP (lo : List Int) (ts : List NodeD) : Prop := 1 ≤ ts.length ∧ ts.length ≤ 20 ∧ lo.length = ts.length ∧ lo.getD 0 0 = 0 ∧ RiseP lo ∧ (∀ i, i < ts.length → fitB lo i (ts.getD i []) = true) ∧ (treeKeysK ts).length ≤ 60
instance (lo : List Int) (ts : List NodeD) : Decidable (TreeP lo ts) := inferInstanceAs (Decidable (_ ∧ _ ∧ _ ∧ _ ∧ _ ∧ (∀ i, i < ts.length → _) ∧ _))
def treeOkB (lo : List Int) (ts : List NodeD) : Bool := decide (TreeP lo ts)
theorem getD_at {lo : List Int} {i : Nat} (h : i < lo.length) : lo.getD i 0 = lo[i] := by simp [List.getD_eq_getElem?_getD, h]
theorem getD_node {ts : List NodeD} {i : Nat} (h : i < ts.length) : ts.getD i [] = ts[i] := by simp [List.getD_eq_getElem?_getD, h]
theorem fit_bad {lo : List Int} {i : Nat} {ns : NodeD} {k j : Nat} (hk : k < ns.length) (hj : j < (ns[k]).length) (h : ¬ InP lo i (spotI ((ns[k])[j]).a ((ns[k])[j]).b)) : fitB lo i ns = false :=
  decide_eq_false (fun hf => h (hf.2.2 _ (List.getElem_mem hk) _ (List.getElem_mem hj)))
theorem all_snoc {P : KeyD → Prop} {l : List KeyD} {j : Nat} (hj : j < l.length) (h : ∀ x ∈ l.take j, P x) (h2 : P l[j]) : ∀ x ∈ l.take (j + 1), P x := by
  rw [List.take_succ_eq_append_getElem hj]
  intro x hx
  rcases List.mem_append.1 hx with hx | hx
  · exact h x hx
  · simp at hx; subst hx; exact h2
theorem alls_snoc {P : KeyD → Prop} {ns : NodeD} {k : Nat} (hk : k < ns.length) (h : ∀ l ∈ ns.take k, ∀ x ∈ l, P x) (h2 : ∀ x ∈ ns[k], P x) : ∀ l ∈ ns.take (k + 1), ∀ x ∈ l, P x := by
  rw [List.take_succ_eq_append_getElem hk]
  intro l hl
  rcases List.mem_append.1 hl with hl | hl
  · exact h l hl
  · simp at hl; subst hl; exact h2
theorem l6Spot_any (x : KeyD) (w : World) : Calls Tryz.prog 205 #[x.v] w (SaysInt w (spotI x.a x.b)) := by
  have HP := Lib.hid (specSpotOf_any x.a x.b)
  have HB := Lib.hid (bal1 w (.cells #[.int .i64 x.a, .int .i64 x.b, .int .i64 x.c, .int .i64 x.d, .int .i64 x.e] 112))
  generalize spotI x.a x.b = s at *
  unfold KeyD.v keyV
  go_enter Tryz.func205, Tryz.ntmps205
  go_wp2_with fail
  refine (HP.out _).mono ?_
  rintro e w1 ⟨rfl, rfl⟩
  go_wp2
  go_ret
  exact ⟨rfl, HB.out⟩
set_option maxHeartbeats 8000000 in
theorem l6Node_any (vl vn : Value) (lo : List Int) (ts : List NodeD) (i : Nat) (w : World) (hv : RdT w w.heap.size vl vn lo ts) (hi : i < ts.length) (hiL : i < lo.length) (hn : ts.length ≤ 1048576) (hm : lo.length ≤ 1048576) (hs : sumT ts ≤ 1048576) :
    Calls Tryz.prog 252 #[.agg #[vl, vn], .int .i64 (i : Int)] w (SaysBool w (fitB lo i ts[i])) := by
  obtain ⟨A, c, B, d, rfl, rfl⟩ := hv.shape
  have HVL := Lib.hid hv.1
  obtain ⟨b0, off0, rfl, _, hc0⟩ := hv.2.node hi
  obtain ⟨A1, d1, c1, _, _, r1⟩ := hc0 i hi
  have HS := Lib.hid (small_at (by omega) hi)
  have hsm := sumT_mem (List.getElem_mem hi)
  have i3 : (i : Int) < (ts.length : Int) := by omega
  have i4 : (0 : Int) ≤ (i : Int) := by omega
  have i5 : (i : Int) < (lo.length : Int) := by omega
  generalize ts[i] = ns at *
  have hb2 := bal2 w (.cells #[.slice A lo.length c, .slice (some ⟨b0, off0, none⟩) ts.length d] 27) (.cells #[.slice A1 ns.length d1] 153)
  obtain ⟨q0, q1⟩ := al2 w (.cells #[.slice A lo.length c, .slice (some ⟨b0, off0, none⟩) ts.length d] 27) (.cells #[.slice A1 ns.length d1] 153)
  have HV2 := Lib.hid (r1.on hb2)
  have HB := Lib.hid hb2
  have Q0 := Lib.hid q0
  have Q1 := Lib.hid q1
  have c1' := (bcell (bal1 w (.cells #[.slice A lo.length c, .slice (some ⟨b0, off0, none⟩) ts.length d] 27))).1 b0 (off0 + i) (by assumption)
  rw [c1] at c1'
  clear hv hc0 r1 hb2 q0 q1
  go_enter Tryz.func252, Tryz.ntmps252
  go_upto_region 2 with (fail)
  clear c1 c1'
  generalize (w.alloc (.cells #[.slice A lo.length c, .slice (some ⟨b0, off0, none⟩) ts.length d] 27)).alloc (.cells #[.slice A1 ns.length d1] 153) = W at *
  obtain ⟨y0, y1⟩ := box1N Q1.out
  go_wp2_with fail
  refine (specNodeOk_any _ ns _ HV2.out HS.out).mono ?_
  rintro e W1 ⟨rfl, b1⟩
  have HVN := Lib.hid (HV2.out.on b1)
  replace Q0 := Lib.hid (box_on Q0.out b1)
  replace Q1 := Lib.hid (box_on Q1.out b1)
  have HB1 := Lib.hid (bstep HB.out b1)
  clear y0 y1 b1
  obtain ⟨x0, x1, x2⟩ := box2 Q0.out
  obtain ⟨y0, y1⟩ := box1N Q1.out
  cases hok : nodeOkB ns
  · have HF : Hid (fitB lo i ns = false) := Lib.hid (decide_eq_false (fun h => by have := h.1; rw [hok] at this; cases this))
    go_wp2
    go_ret
    exact ⟨ret_boolB HF.out.symm, HB1.out⟩
  · have HOK := Lib.hid hok
    clear hok
    by_cases hi0 : i = 0
    · have z0 : ¬ (0 : Int) < (i : Int) := by omega
      have z1 : (i : Int) ≤ 0 := by omega
      have HNE : Hid (i = 0 ∨ 0 < (nodeKeysK ns).length) := Lib.hid (.inl hi0)
      clear hi0 HV2 HB
      go_wp2
      go_loopw [6] (fun q wr => ∃ k : Nat, k ≤ ns.length ∧ q = .int .i64 k ∧ Hid (∀ l ∈ ns.take k, ∀ x ∈ l, InP lo i (spotI x.a x.b)) ∧ Hid (Below W1.heap.size W1 wr)) (fun q _ => ns.length - (intOf q).toNat)
      case atStart => exact ⟨0, Nat.zero_le _, rfl, Lib.hid (fun l hl => by simp at hl), Lib.hid (Below.refl _ _)⟩
      case round =>
        clear x0 x1 x2 y0 y1
        obtain ⟨k, hk, rfl, HI, HX⟩ := hrel
        obtain ⟨x0, x1, x2⟩ := box2 (box_on Q0.out HX.out)
        obtain ⟨y0, y1⟩ := box1N (box_on Q1.out HX.out)
        by_cases hlt : k < ns.length
        · have hlk := HS.out.at hlt
          have i1 : (k : Int) < (ns.length : Int) := by omega
          have i2 : (0 : Int) ≤ (k : Int) := by omega
          go_wp2
          go_loopw [7] (fun q wr => ∃ j : Nat, j ≤ (ns[k]).length ∧ q = .int .i64 j ∧ Hid (∀ x ∈ (ns[k]).take j, InP lo i (spotI x.a x.b)) ∧ Hid (Below W1.heap.size W1 wr)) (fun q _ => (ns[k]).length - (intOf q).toNat)
          case atStart => exact ⟨0, Nat.zero_le _, rfl, Lib.hid (fun l hl => by simp at hl), HX⟩
          case round =>
            clear x0 x1 x2 y0 y1 HX
            obtain ⟨j, hj, rfl, HJ, HX⟩ := hrel
            obtain ⟨x0, x1, x2⟩ := box2 (box_on Q0.out HX.out)
            obtain ⟨y0, y1⟩ := box1N (box_on Q1.out HX.out)
            obtain ⟨b, off, hA1, hbb, hc⟩ := (HVN.out.on HX.out).set hlt
            subst hA1
            obtain ⟨A2, d2, c1, _, _, r1⟩ := hc k hlt
            by_cases hlj : j < (ns[k]).length
            · obtain ⟨b3, off3, rfl, hbb3, hc3⟩ := r1.keys hlj
              obtain ⟨e0, e1, e2, e3, e4⟩ := hc3 j hlj
              have j1 : (j : Int) < ((ns[k]).length : Int) := by omega
              have j2 : (0 : Int) ≤ (j : Int) := by omega
              have HBAD := Lib.hid (fun h => fit_bad (lo := lo) (i := i) hlt hlj h)
              have HSN := Lib.hid (all_snoc (P := fun x => InP lo i (spotI x.a x.b)) hlj HJ.out)
              obtain ⟨s, hs⟩ : ∃ s, spotI ((ns[k])[j]).a ((ns[k])[j]).b = s := ⟨_, rfl⟩
              have HSP := Lib.hid (l6Spot_any (ns[k])[j])
              unfold KeyD.v keyV at HSP
              rw [hs] at HBAD HSN HSP
              clear hc hc3 r1 hs
              go_wp2_with fail
              refine (HSP.out _).mono ?_
              rintro e w5 ⟨rfl, b5⟩
              have HX5 := Lib.hid (bstep HX.out b5)
              clear x0 x1 x2 y0 y1 b5 c1 e0 e1 e2 e3 e4
              obtain ⟨x0, x1, x2⟩ := box2 (box_on Q0.out HX5.out)
              obtain ⟨b6, off6, hA6, hbb6, hc6⟩ := (HVL.out.on (bstep HB1.out HX5.out)).int hiL
              subst hA6
              have f1 := hc6 i hiL
              unfold iV at f1
              have g1 := getD_at hiL
              by_cases p1 : lo[i] ≤ s
              · by_cases p2 : i + 1 < lo.length
                · have f2 := hc6 (i + 1) p2
                  unfold iV at f2
                  have g2 := getD_at p2
                  have k1 : (i : Int) + 1 < (lo.length : Int) := by omega
                  have k2 : ((i : Int) + 1).toNat = i + 1 := by omega
                  have k3 : (0 : Int) ≤ (i : Int) + 1 := by omega
                  by_cases p3 : s < lo[i + 1]
                  · have HIN : Hid (InP lo i s) := Lib.hid ⟨by rw [g1]; exact p1, fun _ => by rw [g2]; exact p3⟩
                    clear hc6 g1 g2
                    go_wp2
                    go_roundw
                    case rel => exact ⟨j + 1, by omega, by go_num, Lib.hid (HSN.out HIN.out), HX5⟩
                    case measure => simp [intOf]; omega
                  · have p4 : lo[i + 1] ≤ s := by omega
                    have HN : Hid (¬ InP lo i s) := Lib.hid (fun h => by have := h.2 p2; rw [g2] at this; omega)
                    clear hc6 g1 g2 p3
                    go_wp2
                    go_ret
                    exact ⟨ret_boolB (HBAD.out HN.out).symm, bstep HB1.out HX5.out⟩
                · have k1 : ¬ (i : Int) + 1 < (lo.length : Int) := by omega
                  have k4 : (lo.length : Int) ≤ (i : Int) + 1 := by omega
                  have HIN : Hid (InP lo i s) := Lib.hid ⟨by rw [g1]; exact p1, fun h => absurd h p2⟩
                  clear hc6 g1 p2
                  go_wp2
                  go_roundw
                  case rel => exact ⟨j + 1, by omega, by go_num, Lib.hid (HSN.out HIN.out), HX5⟩
                  case measure => simp [intOf]; omega
              · have p4 : s < lo[i] := by omega
                have HN : Hid (¬ InP lo i s) := Lib.hid (fun h => by have := h.1; rw [g1] at this; omega)
                clear hc6 g1 p1
                go_wp2
                go_ret
                exact ⟨ret_boolB (HBAD.out HN.out).symm, bstep HB1.out HX5.out⟩
            · have e : j = (ns[k]).length := by omega
              subst e
              have h := HJ.out
              rw [List.take_length] at h
              have HSN := Lib.hid (alls_snoc (P := fun x => InP lo i (spotI x.a x.b)) hlt HI.out h)
              clear hc r1 h
              go_wp2
              go_roundw
              case rel => exact ⟨k + 1, by omega, by go_num, HSN, HX⟩
              case measure => simp [intOf]; omega
        · have e : k = ns.length := by omega
          subst e
          have h := HI.out
          rw [List.take_length] at h
          have HF := Lib.hid h
          clear h
          go_wp2
          go_ret
          exact ⟨ret_boolB (by symm; exact decide_eq_true ⟨HOK.out, HNE.out, HF.out⟩), bstep HB1.out HX.out⟩
    · have z0 : (0 : Int) < (i : Int) := by omega
      clear HB
      go_wp2_with fail
      refine (specNodeKeys_any _ ns _ HVN.out (by omega) (by omega)).mono ?_
      clear x0 x1 x2 y0 y1
      rintro e w2 ⟨v2, rfl, o2, b1⟩
      obtain ⟨A2, c2, rfl, _, _⟩ := o2.shape
      replace HVN := Lib.hid (HVN.out.on b1)
      replace Q0 := Lib.hid (box_on Q0.out b1)
      replace Q1 := Lib.hid (box_on Q1.out b1)
      replace HB1 := Lib.hid (bstep HB1.out b1)
      clear o2 b1 HV2
      obtain ⟨W1, rfl⟩ : ∃ W1, W1 = w2 := ⟨_, rfl⟩
      obtain ⟨x0, x1, x2⟩ := box2 Q0.out
      obtain ⟨y0, y1⟩ := box1N Q1.out
      by_cases hke : (nodeKeysK ns).length = 0
      · have hz : (((nodeKeysK ns).length : Int) == 0) = true := by simp [hke]
        have HF : Hid (fitB lo i ns = false) := Lib.hid (decide_eq_false (fun h => by have := h.2.1; omega))
        clear hke
        go_wp2
        go_ret
        exact ⟨ret_boolB HF.out.symm, HB1.out⟩
      · have hz : (((nodeKeysK ns).length : Int) == 0) = false := by simp; simpa using hke
        have HNE : Hid (i = 0 ∨ 0 < (nodeKeysK ns).length) := Lib.hid (.inr (by omega))
        clear hke
        go_wp2
        go_loopw [6] (fun q wr => ∃ k : Nat, k ≤ ns.length ∧ q = .int .i64 k ∧ Hid (∀ l ∈ ns.take k, ∀ x ∈ l, InP lo i (spotI x.a x.b)) ∧ Hid (Below W1.heap.size W1 wr)) (fun q _ => ns.length - (intOf q).toNat)
        case atStart => exact ⟨0, Nat.zero_le _, rfl, Lib.hid (fun l hl => by simp at hl), Lib.hid (Below.refl _ _)⟩
        case round =>
          clear x0 x1 x2 y0 y1
          obtain ⟨k, hk, rfl, HI, HX⟩ := hrel
          obtain ⟨x0, x1, x2⟩ := box2 (box_on Q0.out HX.out)
          obtain ⟨y0, y1⟩ := box1N (box_on Q1.out HX.out)
          by_cases hlt : k < ns.length
          · have hlk := HS.out.at hlt
            have i1 : (k : Int) < (ns.length : Int) := by omega
            have i2 : (0 : Int) ≤ (k : Int) := by omega
            go_wp2
            go_loopw [7] (fun q wr => ∃ j : Nat, j ≤ (ns[k]).length ∧ q = .int .i64 j ∧ Hid (∀ x ∈ (ns[k]).take j, InP lo i (spotI x.a x.b)) ∧ Hid (Below W1.heap.size W1 wr)) (fun q _ => (ns[k]).length - (intOf q).toNat)
            case atStart => exact ⟨0, Nat.zero_le _, rfl, Lib.hid (fun l hl => by simp at hl), HX⟩
            case round =>
              clear x0 x1 x2 y0 y1 HX
              obtain ⟨j, hj, rfl, HJ, HX⟩ := hrel
              obtain ⟨x0, x1, x2⟩ := box2 (box_on Q0.out HX.out)
              obtain ⟨y0, y1⟩ := box1N (box_on Q1.out HX.out)
              obtain ⟨b, off, hA1, hbb, hc⟩ := (HVN.out.on HX.out).set hlt
              subst hA1
              obtain ⟨A2, d2, c1, _, _, r1⟩ := hc k hlt
              by_cases hlj : j < (ns[k]).length
              · obtain ⟨b3, off3, rfl, hbb3, hc3⟩ := r1.keys hlj
                obtain ⟨e0, e1, e2, e3, e4⟩ := hc3 j hlj
                have j1 : (j : Int) < ((ns[k]).length : Int) := by omega
                have j2 : (0 : Int) ≤ (j : Int) := by omega
                have HBAD := Lib.hid (fun h => fit_bad (lo := lo) (i := i) hlt hlj h)
                have HSN := Lib.hid (all_snoc (P := fun x => InP lo i (spotI x.a x.b)) hlj HJ.out)
                obtain ⟨s, hs⟩ : ∃ s, spotI ((ns[k])[j]).a ((ns[k])[j]).b = s := ⟨_, rfl⟩
                have HSP := Lib.hid (l6Spot_any (ns[k])[j])
                unfold KeyD.v keyV at HSP
                rw [hs] at HBAD HSN HSP
                clear hc hc3 r1 hs
                go_wp2_with fail
                refine (HSP.out _).mono ?_
                rintro e w5 ⟨rfl, b5⟩
                have HX5 := Lib.hid (bstep HX.out b5)
                clear x0 x1 x2 y0 y1 b5 c1 e0 e1 e2 e3 e4
                obtain ⟨x0, x1, x2⟩ := box2 (box_on Q0.out HX5.out)
                obtain ⟨b6, off6, hA6, hbb6, hc6⟩ := (HVL.out.on (bstep HB1.out HX5.out)).int hiL
                subst hA6
                have f1 := hc6 i hiL
                unfold iV at f1
                have g1 := getD_at hiL
                by_cases p1 : lo[i] ≤ s
                · by_cases p2 : i + 1 < lo.length
                  · have f2 := hc6 (i + 1) p2
                    unfold iV at f2
                    have g2 := getD_at p2
                    have k1 : (i : Int) + 1 < (lo.length : Int) := by omega
                    have k2 : ((i : Int) + 1).toNat = i + 1 := by omega
                    have k3 : (0 : Int) ≤ (i : Int) + 1 := by omega
                    by_cases p3 : s < lo[i + 1]
                    · have HIN : Hid (InP lo i s) := Lib.hid ⟨by rw [g1]; exact p1, fun _ => by rw [g2]; exact p3⟩
                      clear hc6 g1 g2
                      go_wp2
                      go_roundw
                      case rel => exact ⟨j + 1, by omega, by go_num, Lib.hid (HSN.out HIN.out), HX5⟩
                      case measure => simp [intOf]; omega
                    · have p4 : lo[i + 1] ≤ s := by omega
                      have HN : Hid (¬ InP lo i s) := Lib.hid (fun h => by have := h.2 p2; rw [g2] at this; omega)
                      clear hc6 g1 g2 p3
                      go_wp2
                      go_ret
                      exact ⟨ret_boolB (HBAD.out HN.out).symm, bstep HB1.out HX5.out⟩
                  · have k1 : ¬ (i : Int) + 1 < (lo.length : Int) := by omega
                    have k4 : (lo.length : Int) ≤ (i : Int) + 1 := by omega
                    have HIN : Hid (InP lo i s) := Lib.hid ⟨by rw [g1]; exact p1, fun h => absurd h p2⟩
                    clear hc6 g1 p2
                    go_wp2
                    go_roundw
                    case rel => exact ⟨j + 1, by omega, by go_num, Lib.hid (HSN.out HIN.out), HX5⟩
                    case measure => simp [intOf]; omega
                · have p4 : s < lo[i] := by omega
                  have HN : Hid (¬ InP lo i s) := Lib.hid (fun h => by have := h.1; rw [g1] at this; omega)
                  clear hc6 g1 p1
                  go_wp2
                  go_ret
                  exact ⟨ret_boolB (HBAD.out HN.out).symm, bstep HB1.out HX5.out⟩
              · have e : j = (ns[k]).length := by omega
                subst e
                have h := HJ.out
                rw [List.take_length] at h
                have HSN := Lib.hid (alls_snoc (P := fun x => InP lo i (spotI x.a x.b)) hlt HI.out h)
                clear hc r1 h
                go_wp2
                go_roundw
                case rel => exact ⟨k + 1, by omega, by go_num, HSN, HX⟩
                case measure => simp [intOf]; omega
          · have e : k = ns.length := by omega
            subst e
            have h := HI.out
            rw [List.take_length] at h
            have HF := Lib.hid h
            clear h
            go_wp2
            go_ret
            exact ⟨ret_boolB (by symm; exact decide_eq_true ⟨HOK.out, HNE.out, HF.out⟩), bstep HB1.out HX.out⟩
/-- A row of ints, laid down as cells. -/
def IntsIn (w : World) (b off : Nat) (lo : List Int) : Prop := b < w.heap.size ∧ ∀ k (hk : k < lo.length), w.cell? ⟨b, off + k, none⟩ = some (.int .i64 lo[k])
theorem IntsIn.on {w w' : World} {b off : Nat} {lo : List Int} (h : IntsIn w b off lo) (hb : Below w.heap.size w w') : IntsIn w' b off lo := ⟨Nat.lt_of_lt_of_le h.1 hb.size, fun k hk => (hb.cell (p := ⟨b, off + k, none⟩) h.1).trans (h.2 k hk)⟩
theorem IntsIn.cellI {w : World} {b off : Nat} {lo : List Int} (h : IntsIn w b off lo) {k : Nat} (hk : k < lo.length) : w.cell? ⟨b, off + k, none⟩ = some (.int .i64 lo[k]) := h.2 k hk
theorem tree_bad {lo : List Int} {ts : List NodeD} (h : ¬ TreeP lo ts) : treeOkB lo ts = false := decide_eq_false h
set_option maxHeartbeats 8000000 in
theorem specTreeOk_any (vl vn : Value) (lo : List Int) (ts : List NodeD) (w : World) (hv : RdT w w.heap.size vl vn lo ts) (hn : ts.length ≤ 1048576) (hm : lo.length ≤ 1048576) (hs : sumT ts ≤ 1048576) :
    Calls Tryz.prog 192 #[.agg #[vl, vn]] w (SaysBool w (treeOkB lo ts)) := by
  obtain ⟨A, c, B, d, rfl, rfl⟩ := hv.shape
  have HB := Lib.hid (bal1 w (.cells #[.slice A lo.length c, .slice B ts.length d] 27))
  have Q0 := Lib.hid (al1 w (.cells #[.slice A lo.length c, .slice B ts.length d] 27))
  have HV := Lib.hid (hv.on (bal1 w (.cells #[.slice A lo.length c, .slice B ts.length d] 27)))
  clear hv
  go_enter Tryz.func192, Tryz.ntmps192
  go_upto_region 1 with (fail)
  generalize w.alloc (.cells #[.slice A lo.length c, .slice B ts.length d] 27) = W at *
  obtain ⟨x0, x1, x2⟩ := box2 Q0.out
  go_wp2_with fail
  refine (l1In_any (ts.length : Int) 1 20 _).mono ?_
  rintro e w1 ⟨rfl, rfl⟩
  by_cases h1 : 1 ≤ ts.length ∧ ts.length ≤ 20
  · have d1 : (decide ((1 : Int) ≤ (ts.length : Int)) && decide ((ts.length : Int) ≤ 20)) = true := by simp; omega
    rw [d1]
    by_cases h2 : lo.length = ts.length
    · have d2 : ((lo.length : Int) != (ts.length : Int)) = false := by simp [h2]
      have h0 : 0 < lo.length := by omega
      obtain ⟨b, off, rfl, hbb, hc⟩ := HV.out.1.int h0
      have HLI : Hid (IntsIn W b off lo) := Lib.hid ⟨hbb, hc⟩
      have f0 := hc 0 h0
      unfold iV at f0
      rw [Nat.add_zero] at f0
      have i0 : (0 : Int) < (lo.length : Int) := by omega
      have g0 := getD_at h0
      by_cases h3 : lo[0] = 0
      · have d3 : (lo[0] != 0) = false := by simp [h3]
        have H3 : Hid (lo.getD 0 0 = 0) := Lib.hid (by rw [g0]; exact h3)
        have H12 := Lib.hid h1
        have H2 := Lib.hid h2
        have h2a := Nat.le_of_eq h2
        have h2b := Nat.le_of_eq h2.symm
        clear hc g0 h3 h1 d1
        go_wp2
        clear x0 x1 x2 f0 d2 d3 h2
        go_loopw [3] (fun q wr => ∃ k : Nat, k ≤ ts.length ∧ q = .int .i64 k ∧ Hid (∀ j, j < k → fitB lo j (ts.getD j []) = true) ∧ Hid (∀ j, j + 1 < k → lo.getD j 0 < lo.getD (j + 1) 0) ∧ Hid (Below W.heap.size W wr)) (fun q _ => ts.length - (intOf q).toNat)
        case atStart => exact ⟨0, Nat.zero_le _, rfl, Lib.hid (fun j h => by omega), Lib.hid (fun j h => by omega), Lib.hid (Below.refl _ _)⟩
        case round =>
          obtain ⟨k, hk, rfl, HI1, HI2, HX⟩ := hrel
          have QW := Lib.hid (box_on Q0.out HX.out)
          obtain ⟨x0, x1, x2⟩ := box2 QW.out
          by_cases hlt : k < ts.length
          · have HLO := Lib.hid (HLI.out.on HX.out)
            have HVV := Lib.hid (HV.out.on HX.out)
            have hkL : k < lo.length := by omega
            have i1 : (k : Int) < (ts.length : Int) := by omega
            have i2 : (0 : Int) ≤ (k : Int) := by omega
            have i3 : (k : Int) < (lo.length : Int) := by omega
            have gk := getD_at hkL
            by_cases hk0 : k = 0
            · have z0 : decide (0 < k) = false := decide_eq_false (by omega)
              have HR : Hid (∀ j, j + 1 < k + 1 → lo.getD j 0 < lo.getD (j + 1) 0) := Lib.hid (fun j h => by omega)
              clear hk0
              cases hfb : fitB lo k ts[k]
              · have HFB := Lib.hid hfb
                have HBAD : Hid (treeOkB lo ts = false) := Lib.hid (tree_bad (fun h => by have := h.2.2.2.2.2.1 k hlt; rw [getD_node hlt, hfb] at this; cases this))
                clear hfb
                go_wp2
                refine but_begin (f := 21) (S := fun V => Below wr.drew.heap.size wr.drew V) (by kernel_rfl) ?_
                refine bt (f := 21) (i := 0) (v := ?vk0b0) rfl (Or.inl ⟨(by rfl), ?hyk0b0⟩) (Below.refl _ _) ?restk0b0
                case hyk0b0 => intro W hW; go_simp; exact rfl
                simp only [zA, zB, zC, Act.put, zD, zE, zF]
                refine bt (f := 21) (i := 1) (v := ?vk0b1) rfl (Or.inl ⟨(by rfl), ?hyk0b1⟩) (Below.refl _ _) ?restk0b1
                case hyk0b1 => intro W hW; go_simp; exact rfl
                simp only [zA, zB, zC, Act.put, zD, zE, zF]
                refine bt (f := 21) (i := 2) (v := ?vk0b2) rfl (Or.inl ⟨(by rfl), ?hyk0b2⟩) (Below.refl _ _) ?restk0b2
                case hyk0b2 => intro W hW; go_simp; exact rfl
                simp only [zA, zB, zC, Act.put, zD, zE, zF]
                refine bt (f := 21) (i := 3) (v := undef) rfl (Or.inr ⟨((wanted_at rfl rfl rfl rfl).trans rfl), rfl⟩) (Below.refl _ _) ?_
                simp only [zA, zB, zC, Act.put, zD, zE, zF]
                refine bt (f := 21) (i := 4) (v := undef) rfl (Or.inr ⟨((wanted_at rfl rfl rfl rfl).trans rfl), rfl⟩) (Below.refl _ _) ?_
                simp only [zA, zB, zC, Act.put, zD, zE, zF]
                refine bt (f := 21) (i := 5) (v := undef) rfl (Or.inr ⟨((wanted_at rfl rfl rfl rfl).trans rfl), rfl⟩) (Below.refl _ _) ?_
                simp only [zA, zB, zC, Act.put, zD, zE, zF]
                refine bt (f := 21) (i := 6) (v := undef) rfl (Or.inr ⟨((wanted_at rfl rfl rfl rfl).trans rfl), rfl⟩) (Below.refl _ _) ?_
                simp only [zA, zB, zC, Act.put, zD, zE, zF]
                refine bt (f := 21) (i := 7) (v := undef) rfl (Or.inr ⟨((wanted_at rfl rfl rfl rfl).trans rfl), rfl⟩) (Below.refl _ _) ?_
                simp only [zA, zB, zC, Act.put, zD, zE, zF]
                refine bt (f := 21) (i := 8) (v := undef) rfl (Or.inr ⟨((wanted_at rfl rfl rfl rfl).trans rfl), rfl⟩) (Below.refl _ _) ?_
                simp only [zA, zB, zC, Act.put, zD, zE, zF]
                refine bt (f := 21) (i := 9) (v := undef) rfl (Or.inr ⟨((wanted_at rfl rfl rfl rfl).trans rfl), rfl⟩) (Below.refl _ _) ?_
                simp only [zA, zB, zC, Act.put, zD, zE, zF]
                refine bt (f := 21) (i := 10) (v := undef) rfl (Or.inr ⟨((wanted_at rfl rfl rfl rfl).trans rfl), rfl⟩) (Below.refl _ _) ?_
                simp only [zA, zB, zC, Act.put, zD, zE, zF]
                refine bt (f := 21) (i := 11) (v := undef) rfl (Or.inr ⟨((wanted_at rfl rfl rfl rfl).trans rfl), rfl⟩) (Below.refl _ _) ?_
                simp only [zA, zB, zC, Act.put, zD, zE, zF]
                refine bt (f := 21) (i := 12) (v := undef) rfl (Or.inr ⟨((wanted_at rfl rfl rfl rfl).trans rfl), rfl⟩) (Below.refl _ _) ?_
                simp only [zA, zB, zC, Act.put, zD, zE, zF]
                refine bt (f := 21) (i := 13) (v := undef) rfl (Or.inr ⟨((wanted_at rfl rfl rfl rfl).trans rfl), rfl⟩) (Below.refl _ _) ?_
                simp only [zA, zB, zC, Act.put, zD, zE, zF]
                refine bt (f := 21) (i := 14) (v := undef) rfl (Or.inr ⟨((wanted_at rfl rfl rfl rfl).trans rfl), rfl⟩) (Below.refl _ _) ?_
                simp only [zA, zB, zC, Act.put, zD, zE, zF]
                refine bt (f := 21) (i := 15) (v := ?vk0b15) rfl (Or.inl ⟨(by rfl), ?hyk0b15⟩) (Below.refl _ _) ?restk0b15
                case hyk0b15 => intro W hW; go_simp; exact rfl
                simp only [zA, zB, zC, Act.put, zD, zE, zF]
                refine bt (f := 21) (i := 16) (v := ?vk0b16) rfl (Or.inl ⟨(by rfl), ?hyk0b16⟩) (Below.refl _ _) ?restk0b16
                case hyk0b16 => intro W hW; go_simp; exact rfl
                simp only [zA, zB, zC, Act.put, zD, zE, zF]
                refine bt (f := 21) (i := 17) (v := ?vk0b17) rfl (Or.inl ⟨((wanted_at rfl rfl rfl rfl).trans rfl), ?hyk0b17⟩) (Below.refl _ _) ?restk0b17
                case hyk0b17 =>
                  intro W hW
                  have hb0 : Below wr.heap.size wr W := bstep (Below.drew1 _) hW
                  obtain ⟨x0, x1, x2⟩ := box2 (box_on QW.out hb0)
                  go_simp
                  exact rfl
                simp only [zA, zB, zC, Act.put, zD, zE, zF]
                refine bt (f := 21) (i := 18) (v := ?vk0b18) rfl (Or.inl ⟨((wanted_at rfl rfl rfl rfl).trans rfl), ?hyk0b18⟩) (Below.refl _ _) ?restk0b18
                case hyk0b18 => intro W hW; go_simp; exact rfl
                simp only [zA, zB, zC, Act.put, zD, zE, zF]
                refine but_run (i := 19) (by kernel_rfl) rfl ((wanted_at rfl rfl rfl rfl).trans rfl) ?_
                simp only [zA, zB, zC]
                intro K HK
                go_wp2_with fail
                refine (l6Node_any _ _ lo ts k _ (HVV.out.on (bstep (Below.drew1 _) (Below.refl _ _))) hlt (by omega) (by omega) (by omega) (by omega)).mono ?_
                rintro r Vk0b1 ⟨rfl, hBk0b1⟩
                rw [HFB.out]
                have hSk0b1 := bstep (Below.refl _ _) hBk0b1
                go_wp2_with fail
                refine HK.out _ Vk0b1 (fun _ => hSk0b1) ?_
                clear HK
                refine bt (f := 21) (i := 20) (v := ?vk0b20) rfl (Or.inl ⟨((wanted_at rfl rfl rfl rfl).trans rfl), ?hyk0b20⟩) hSk0b1 ?restk0b20
                case hyk0b20 => intro W hW; go_simp; exact rfl
                simp only [zA, zB, zC, Act.put, zD, zE, zF]
                refine but_run (i := 21) (by kernel_rfl) rfl (by rfl) ?_
                simp only [zA, zB, zC]
                intro K HK
                go_wp2_with fail
                refine HK.out _ Vk0b1 (fun h => absurd rfl h) ?_
                clear HK
                refine but_done (by kernel_rfl) ?_
                go_wp2_with fail
                go_ret
                exact ⟨ret_boolB HBAD.out.symm, bstep HB.out (bstep HX.out (bstep (Below.drew1 _) hSk0b1))⟩
              · have HFB := Lib.hid hfb
                have HN1 : Hid (∀ j, j < k + 1 → fitB lo j (ts.getD j []) = true) := Lib.hid (fun j h => by
                  rcases Nat.lt_or_ge j k with h' | h'
                  · exact HI1.out j h'
                  · have : j = k := by omega
                    subst this; rw [getD_node hlt]; exact hfb)
                have HN2 := HR
                clear hfb
                go_wp2
                refine but_begin (f := 21) (S := fun V => Below wr.drew.heap.size wr.drew V) (by kernel_rfl) ?_
                refine bt (f := 21) (i := 0) (v := ?vk0g0) rfl (Or.inl ⟨(by rfl), ?hyk0g0⟩) (Below.refl _ _) ?restk0g0
                case hyk0g0 => intro W hW; go_simp; exact rfl
                simp only [zA, zB, zC, Act.put, zD, zE, zF]
                refine bt (f := 21) (i := 1) (v := ?vk0g1) rfl (Or.inl ⟨(by rfl), ?hyk0g1⟩) (Below.refl _ _) ?restk0g1
                case hyk0g1 => intro W hW; go_simp; exact rfl
                simp only [zA, zB, zC, Act.put, zD, zE, zF]
                refine bt (f := 21) (i := 2) (v := ?vk0g2) rfl (Or.inl ⟨(by rfl), ?hyk0g2⟩) (Below.refl _ _) ?restk0g2
                case hyk0g2 => intro W hW; go_simp; exact rfl
                simp only [zA, zB, zC, Act.put, zD, zE, zF]
                refine bt (f := 21) (i := 3) (v := undef) rfl (Or.inr ⟨((wanted_at rfl rfl rfl rfl).trans rfl), rfl⟩) (Below.refl _ _) ?_
                simp only [zA, zB, zC, Act.put, zD, zE, zF]
                refine bt (f := 21) (i := 4) (v := undef) rfl (Or.inr ⟨((wanted_at rfl rfl rfl rfl).trans rfl), rfl⟩) (Below.refl _ _) ?_
                simp only [zA, zB, zC, Act.put, zD, zE, zF]
                refine bt (f := 21) (i := 5) (v := undef) rfl (Or.inr ⟨((wanted_at rfl rfl rfl rfl).trans rfl), rfl⟩) (Below.refl _ _) ?_
                simp only [zA, zB, zC, Act.put, zD, zE, zF]
                refine bt (f := 21) (i := 6) (v := undef) rfl (Or.inr ⟨((wanted_at rfl rfl rfl rfl).trans rfl), rfl⟩) (Below.refl _ _) ?_
                simp only [zA, zB, zC, Act.put, zD, zE, zF]
                refine bt (f := 21) (i := 7) (v := undef) rfl (Or.inr ⟨((wanted_at rfl rfl rfl rfl).trans rfl), rfl⟩) (Below.refl _ _) ?_
                simp only [zA, zB, zC, Act.put, zD, zE, zF]
                refine bt (f := 21) (i := 8) (v := undef) rfl (Or.inr ⟨((wanted_at rfl rfl rfl rfl).trans rfl), rfl⟩) (Below.refl _ _) ?_
                simp only [zA, zB, zC, Act.put, zD, zE, zF]
                refine bt (f := 21) (i := 9) (v := undef) rfl (Or.inr ⟨((wanted_at rfl rfl rfl rfl).trans rfl), rfl⟩) (Below.refl _ _) ?_
                simp only [zA, zB, zC, Act.put, zD, zE, zF]
                refine bt (f := 21) (i := 10) (v := undef) rfl (Or.inr ⟨((wanted_at rfl rfl rfl rfl).trans rfl), rfl⟩) (Below.refl _ _) ?_
                simp only [zA, zB, zC, Act.put, zD, zE, zF]
                refine bt (f := 21) (i := 11) (v := undef) rfl (Or.inr ⟨((wanted_at rfl rfl rfl rfl).trans rfl), rfl⟩) (Below.refl _ _) ?_
                simp only [zA, zB, zC, Act.put, zD, zE, zF]
                refine bt (f := 21) (i := 12) (v := undef) rfl (Or.inr ⟨((wanted_at rfl rfl rfl rfl).trans rfl), rfl⟩) (Below.refl _ _) ?_
                simp only [zA, zB, zC, Act.put, zD, zE, zF]
                refine bt (f := 21) (i := 13) (v := undef) rfl (Or.inr ⟨((wanted_at rfl rfl rfl rfl).trans rfl), rfl⟩) (Below.refl _ _) ?_
                simp only [zA, zB, zC, Act.put, zD, zE, zF]
                refine bt (f := 21) (i := 14) (v := undef) rfl (Or.inr ⟨((wanted_at rfl rfl rfl rfl).trans rfl), rfl⟩) (Below.refl _ _) ?_
                simp only [zA, zB, zC, Act.put, zD, zE, zF]
                refine bt (f := 21) (i := 15) (v := ?vk0g15) rfl (Or.inl ⟨(by rfl), ?hyk0g15⟩) (Below.refl _ _) ?restk0g15
                case hyk0g15 => intro W hW; go_simp; exact rfl
                simp only [zA, zB, zC, Act.put, zD, zE, zF]
                refine bt (f := 21) (i := 16) (v := ?vk0g16) rfl (Or.inl ⟨(by rfl), ?hyk0g16⟩) (Below.refl _ _) ?restk0g16
                case hyk0g16 => intro W hW; go_simp; exact rfl
                simp only [zA, zB, zC, Act.put, zD, zE, zF]
                refine bt (f := 21) (i := 17) (v := ?vk0g17) rfl (Or.inl ⟨((wanted_at rfl rfl rfl rfl).trans rfl), ?hyk0g17⟩) (Below.refl _ _) ?restk0g17
                case hyk0g17 =>
                  intro W hW
                  have hb0 : Below wr.heap.size wr W := bstep (Below.drew1 _) hW
                  obtain ⟨x0, x1, x2⟩ := box2 (box_on QW.out hb0)
                  go_simp
                  exact rfl
                simp only [zA, zB, zC, Act.put, zD, zE, zF]
                refine bt (f := 21) (i := 18) (v := ?vk0g18) rfl (Or.inl ⟨((wanted_at rfl rfl rfl rfl).trans rfl), ?hyk0g18⟩) (Below.refl _ _) ?restk0g18
                case hyk0g18 => intro W hW; go_simp; exact rfl
                simp only [zA, zB, zC, Act.put, zD, zE, zF]
                refine but_run (i := 19) (by kernel_rfl) rfl ((wanted_at rfl rfl rfl rfl).trans rfl) ?_
                simp only [zA, zB, zC]
                intro K HK
                go_wp2_with fail
                refine (l6Node_any _ _ lo ts k _ (HVV.out.on (bstep (Below.drew1 _) (Below.refl _ _))) hlt (by omega) (by omega) (by omega) (by omega)).mono ?_
                rintro r Vk0g1 ⟨rfl, hBk0g1⟩
                rw [HFB.out]
                have hSk0g1 := bstep (Below.refl _ _) hBk0g1
                go_wp2_with fail
                refine HK.out _ Vk0g1 (fun _ => hSk0g1) ?_
                clear HK
                refine bt (f := 21) (i := 20) (v := ?vk0g20) rfl (Or.inl ⟨((wanted_at rfl rfl rfl rfl).trans rfl), ?hyk0g20⟩) hSk0g1 ?restk0g20
                case hyk0g20 => intro W hW; go_simp; exact rfl
                simp only [zA, zB, zC, Act.put, zD, zE, zF]
                refine but_run (i := 21) (by kernel_rfl) rfl (by rfl) ?_
                simp only [zA, zB, zC]
                intro K HK
                go_wp2_with fail
                refine HK.out _ Vk0g1 (fun h => absurd rfl h) ?_
                clear HK
                refine but_done (by kernel_rfl) ?_
                go_wp2_with fail
                go_roundw
                case rel => exact ⟨k + 1, by omega, by go_num, HN1, HN2, Lib.hid (bstep HX.out (bstep (Below.drew1 _) hSk0g1))⟩
                case measure => simp [intOf]; omega
            · have hkP : k - 1 < lo.length := by omega
              have z0 : decide (0 < k) = true := decide_eq_true (by omega)
              have i4 : IntKind.i64.wrap ((k : Int) - 1) = (k : Int) - 1 := by rw [IntKind.wrap_i64]; omega
              have i5 : (0 : Int) ≤ (k : Int) - 1 := by omega
              have i8 : (1 : Int) ≤ (k : Int) := by omega
              have i6 : (k : Int) - 1 < (lo.length : Int) := by omega
              have i7 : ((k : Int) - 1).toNat = k - 1 := by omega
              have gp := getD_at hkP
              have hkk : k - 1 + 1 = k := by omega
              by_cases hr : lo[k - 1] < lo[k]
              · have z1 : decide (lo[k] ≤ lo[k - 1]) = false := decide_eq_false (by omega)
                have HR : Hid (∀ j, j + 1 < k + 1 → lo.getD j 0 < lo.getD (j + 1) 0) := Lib.hid (fun j h => by
                  rcases Nat.lt_or_ge (j + 1) k with h' | h'
                  · exact HI2.out j h'
                  · have : j = k - 1 := by omega
                    subst this; rw [hkk, gk, gp]; exact hr)
                clear hkk gp gk hr hk0
                cases hfb : fitB lo k ts[k]
                · have HFB := Lib.hid hfb
                  have HBAD : Hid (treeOkB lo ts = false) := Lib.hid (tree_bad (fun h => by have := h.2.2.2.2.2.1 k hlt; rw [getD_node hlt, hfb] at this; cases this))
                  clear hfb
                  go_wp2
                  refine but_begin (f := 21) (S := fun V => Below wr.drew.heap.size wr.drew V) (by kernel_rfl) ?_
                  refine bt (f := 21) (i := 0) (v := ?vkub0) rfl (Or.inl ⟨(by rfl), ?hykub0⟩) (Below.refl _ _) ?restkub0
                  case hykub0 => intro W hW; go_simp; exact rfl
                  simp only [zA, zB, zC, Act.put, zD, zE, zF]
                  refine bt (f := 21) (i := 1) (v := ?vkub1) rfl (Or.inl ⟨(by rfl), ?hykub1⟩) (Below.refl _ _) ?restkub1
                  case hykub1 => intro W hW; go_simp; exact rfl
                  simp only [zA, zB, zC, Act.put, zD, zE, zF]
                  refine bt (f := 21) (i := 2) (v := ?vkub2) rfl (Or.inl ⟨(by rfl), ?hykub2⟩) (Below.refl _ _) ?restkub2
                  case hykub2 => intro W hW; go_simp; exact rfl
                  simp only [zA, zB, zC, Act.put, zD, zE, zF]
                  refine bt (f := 21) (i := 3) (v := ?vkub3) rfl (Or.inl ⟨((wanted_at rfl rfl rfl rfl).trans rfl), ?hykub3⟩) (Below.refl _ _) ?restkub3
                  case hykub3 => intro W hW; go_simp; exact rfl
                  simp only [zA, zB, zC, Act.put, zD, zE, zF]
                  refine bt (f := 21) (i := 4) (v := ?vkub4) rfl (Or.inl ⟨((wanted_at rfl rfl rfl rfl).trans rfl), ?hykub4⟩) (Below.refl _ _) ?restkub4
                  case hykub4 =>
                    intro W hW
                    have hb0 : Below wr.heap.size wr W := bstep (Below.drew1 _) hW
                    obtain ⟨x0, x1, x2⟩ := box2 (box_on QW.out hb0)
                    go_simp
                    exact rfl
                  simp only [zA, zB, zC, Act.put, zD, zE, zF]
                  refine bt (f := 21) (i := 5) (v := ?vkub5) rfl (Or.inl ⟨((wanted_at rfl rfl rfl rfl).trans rfl), ?hykub5⟩) (Below.refl _ _) ?restkub5
                  case hykub5 => intro W hW; go_simp; exact rfl
                  simp only [zA, zB, zC, Act.put, zD, zE, zF]
                  refine bt (f := 21) (i := 6) (v := ?vkub6) rfl (Or.inl ⟨((wanted_at rfl rfl rfl rfl).trans rfl), ?hykub6⟩) (Below.refl _ _) ?restkub6
                  case hykub6 => intro W hW; go_simp; exact rfl
                  simp only [zA, zB, zC, Act.put, zD, zE, zF]
                  refine bt (f := 21) (i := 7) (v := ?vkub7) rfl (Or.inl ⟨((wanted_at rfl rfl rfl rfl).trans rfl), ?hykub7⟩) (Below.refl _ _) ?restkub7
                  case hykub7 => intro W hW; go_simp; exact rfl
                  simp only [zA, zB, zC, Act.put, zD, zE, zF]
                  refine bt (f := 21) (i := 8) (v := ?vkub8) rfl (Or.inl ⟨((wanted_at rfl rfl rfl rfl).trans rfl), ?hykub8⟩) (Below.refl _ _) ?restkub8
                  case hykub8 =>
                    intro W hW
                    have hb0 : Below wr.heap.size wr W := bstep (Below.drew1 _) hW
                    have f1 := (HLO.out.on hb0).cellI hkL
                    have f2 := (HLO.out.on hb0).cellI hkP
                    go_simp
                    exact rfl
                  simp only [zA, zB, zC, Act.put, zD, zE, zF]
                  refine bt (f := 21) (i := 9) (v := ?vkub9) rfl (Or.inl ⟨((wanted_at rfl rfl rfl rfl).trans rfl), ?hykub9⟩) (Below.refl _ _) ?restkub9
                  case hykub9 => intro W hW; go_simp; exact rfl
                  simp only [zA, zB, zC, Act.put, zD, zE, zF]
                  refine bt (f := 21) (i := 10) (v := ?vkub10) rfl (Or.inl ⟨((wanted_at rfl rfl rfl rfl).trans rfl), ?hykub10⟩) (Below.refl _ _) ?restkub10
                  case hykub10 =>
                    intro W hW
                    have hb0 : Below wr.heap.size wr W := bstep (Below.drew1 _) hW
                    obtain ⟨x0, x1, x2⟩ := box2 (box_on QW.out hb0)
                    go_simp
                    exact rfl
                  simp only [zA, zB, zC, Act.put, zD, zE, zF]
                  refine bt (f := 21) (i := 11) (v := ?vkub11) rfl (Or.inl ⟨((wanted_at rfl rfl rfl rfl).trans rfl), ?hykub11⟩) (Below.refl _ _) ?restkub11
                  case hykub11 => intro W hW; go_simp; exact rfl
                  simp only [zA, zB, zC, Act.put, zD, zE, zF]
                  refine bt (f := 21) (i := 12) (v := ?vkub12) rfl (Or.inl ⟨((wanted_at rfl rfl rfl rfl).trans rfl), ?hykub12⟩) (Below.refl _ _) ?restkub12
                  case hykub12 => intro W hW; go_simp; exact rfl
                  simp only [zA, zB, zC, Act.put, zD, zE, zF]
                  refine bt (f := 21) (i := 13) (v := ?vkub13) rfl (Or.inl ⟨((wanted_at rfl rfl rfl rfl).trans rfl), ?hykub13⟩) (Below.refl _ _) ?restkub13
                  case hykub13 =>
                    intro W hW
                    have hb0 : Below wr.heap.size wr W := bstep (Below.drew1 _) hW
                    have f1 := (HLO.out.on hb0).cellI hkL
                    have f2 := (HLO.out.on hb0).cellI hkP
                    go_simp
                    exact rfl
                  simp only [zA, zB, zC, Act.put, zD, zE, zF]
                  refine bt (f := 21) (i := 14) (v := ?vkub14) rfl (Or.inl ⟨((wanted_at rfl rfl rfl rfl).trans rfl), ?hykub14⟩) (Below.refl _ _) ?restkub14
                  case hykub14 => intro W hW; go_simp; exact rfl
                  simp only [zA, zB, zC, Act.put, zD, zE, zF]
                  refine bt (f := 21) (i := 15) (v := ?vkub15) rfl (Or.inl ⟨(by rfl), ?hykub15⟩) (Below.refl _ _) ?restkub15
                  case hykub15 => intro W hW; go_simp; exact rfl
                  simp only [zA, zB, zC, Act.put, zD, zE, zF]
                  refine bt (f := 21) (i := 16) (v := ?vkub16) rfl (Or.inl ⟨(by rfl), ?hykub16⟩) (Below.refl _ _) ?restkub16
                  case hykub16 => intro W hW; go_simp; exact rfl
                  simp only [zA, zB, zC, Act.put, zD, zE, zF]
                  refine bt (f := 21) (i := 17) (v := ?vkub17) rfl (Or.inl ⟨((wanted_at rfl rfl rfl rfl).trans rfl), ?hykub17⟩) (Below.refl _ _) ?restkub17
                  case hykub17 =>
                    intro W hW
                    have hb0 : Below wr.heap.size wr W := bstep (Below.drew1 _) hW
                    obtain ⟨x0, x1, x2⟩ := box2 (box_on QW.out hb0)
                    go_simp
                    exact rfl
                  simp only [zA, zB, zC, Act.put, zD, zE, zF]
                  refine bt (f := 21) (i := 18) (v := ?vkub18) rfl (Or.inl ⟨((wanted_at rfl rfl rfl rfl).trans rfl), ?hykub18⟩) (Below.refl _ _) ?restkub18
                  case hykub18 => intro W hW; go_simp; exact rfl
                  simp only [zA, zB, zC, Act.put, zD, zE, zF]
                  refine but_run (i := 19) (by kernel_rfl) rfl ((wanted_at rfl rfl rfl rfl).trans rfl) ?_
                  simp only [zA, zB, zC]
                  intro K HK
                  go_wp2_with fail
                  refine (l6Node_any _ _ lo ts k _ (HVV.out.on (bstep (Below.drew1 _) (Below.refl _ _))) hlt (by omega) (by omega) (by omega) (by omega)).mono ?_
                  rintro r Vkub1 ⟨rfl, hBkub1⟩
                  rw [HFB.out]
                  have hSkub1 := bstep (Below.refl _ _) hBkub1
                  go_wp2_with fail
                  refine HK.out _ Vkub1 (fun _ => hSkub1) ?_
                  clear HK
                  refine bt (f := 21) (i := 20) (v := ?vkub20) rfl (Or.inl ⟨((wanted_at rfl rfl rfl rfl).trans rfl), ?hykub20⟩) hSkub1 ?restkub20
                  case hykub20 => intro W hW; go_simp; exact rfl
                  simp only [zA, zB, zC, Act.put, zD, zE, zF]
                  refine but_run (i := 21) (by kernel_rfl) rfl (by rfl) ?_
                  simp only [zA, zB, zC]
                  intro K HK
                  go_wp2_with fail
                  refine HK.out _ Vkub1 (fun h => absurd rfl h) ?_
                  clear HK
                  refine but_done (by kernel_rfl) ?_
                  go_wp2_with fail
                  go_ret
                  exact ⟨ret_boolB HBAD.out.symm, bstep HB.out (bstep HX.out (bstep (Below.drew1 _) hSkub1))⟩
                · have HFB := Lib.hid hfb
                  have HN1 : Hid (∀ j, j < k + 1 → fitB lo j (ts.getD j []) = true) := Lib.hid (fun j h => by
                    rcases Nat.lt_or_ge j k with h' | h'
                    · exact HI1.out j h'
                    · have : j = k := by omega
                      subst this; rw [getD_node hlt]; exact hfb)
                  have HN2 := HR
                  clear hfb
                  go_wp2
                  refine but_begin (f := 21) (S := fun V => Below wr.drew.heap.size wr.drew V) (by kernel_rfl) ?_
                  refine bt (f := 21) (i := 0) (v := ?vkug0) rfl (Or.inl ⟨(by rfl), ?hykug0⟩) (Below.refl _ _) ?restkug0
                  case hykug0 => intro W hW; go_simp; exact rfl
                  simp only [zA, zB, zC, Act.put, zD, zE, zF]
                  refine bt (f := 21) (i := 1) (v := ?vkug1) rfl (Or.inl ⟨(by rfl), ?hykug1⟩) (Below.refl _ _) ?restkug1
                  case hykug1 => intro W hW; go_simp; exact rfl
                  simp only [zA, zB, zC, Act.put, zD, zE, zF]
                  refine bt (f := 21) (i := 2) (v := ?vkug2) rfl (Or.inl ⟨(by rfl), ?hykug2⟩) (Below.refl _ _) ?restkug2
                  case hykug2 => intro W hW; go_simp; exact rfl
                  simp only [zA, zB, zC, Act.put, zD, zE, zF]
                  refine bt (f := 21) (i := 3) (v := ?vkug3) rfl (Or.inl ⟨((wanted_at rfl rfl rfl rfl).trans rfl), ?hykug3⟩) (Below.refl _ _) ?restkug3
                  case hykug3 => intro W hW; go_simp; exact rfl
                  simp only [zA, zB, zC, Act.put, zD, zE, zF]
                  refine bt (f := 21) (i := 4) (v := ?vkug4) rfl (Or.inl ⟨((wanted_at rfl rfl rfl rfl).trans rfl), ?hykug4⟩) (Below.refl _ _) ?restkug4
                  case hykug4 =>
                    intro W hW
                    have hb0 : Below wr.heap.size wr W := bstep (Below.drew1 _) hW
                    obtain ⟨x0, x1, x2⟩ := box2 (box_on QW.out hb0)
                    go_simp
                    exact rfl
                  simp only [zA, zB, zC, Act.put, zD, zE, zF]
                  refine bt (f := 21) (i := 5) (v := ?vkug5) rfl (Or.inl ⟨((wanted_at rfl rfl rfl rfl).trans rfl), ?hykug5⟩) (Below.refl _ _) ?restkug5
                  case hykug5 => intro W hW; go_simp; exact rfl
                  simp only [zA, zB, zC, Act.put, zD, zE, zF]
                  refine bt (f := 21) (i := 6) (v := ?vkug6) rfl (Or.inl ⟨((wanted_at rfl rfl rfl rfl).trans rfl), ?hykug6⟩) (Below.refl _ _) ?restkug6
                  case hykug6 => intro W hW; go_simp; exact rfl
                  simp only [zA, zB, zC, Act.put, zD, zE, zF]
                  refine bt (f := 21) (i := 7) (v := ?vkug7) rfl (Or.inl ⟨((wanted_at rfl rfl rfl rfl).trans rfl), ?hykug7⟩) (Below.refl _ _) ?restkug7
                  case hykug7 => intro W hW; go_simp; exact rfl
                  simp only [zA, zB, zC, Act.put, zD, zE, zF]
                  refine bt (f := 21) (i := 8) (v := ?vkug8) rfl (Or.inl ⟨((wanted_at rfl rfl rfl rfl).trans rfl), ?hykug8⟩) (Below.refl _ _) ?restkug8
                  case hykug8 =>
                    intro W hW
                    have hb0 : Below wr.heap.size wr W := bstep (Below.drew1 _) hW
                    have f1 := (HLO.out.on hb0).cellI hkL
                    have f2 := (HLO.out.on hb0).cellI hkP
                    go_simp
                    exact rfl
                  simp only [zA, zB, zC, Act.put, zD, zE, zF]
                  refine bt (f := 21) (i := 9) (v := ?vkug9) rfl (Or.inl ⟨((wanted_at rfl rfl rfl rfl).trans rfl), ?hykug9⟩) (Below.refl _ _) ?restkug9
                  case hykug9 => intro W hW; go_simp; exact rfl
                  simp only [zA, zB, zC, Act.put, zD, zE, zF]
                  refine bt (f := 21) (i := 10) (v := ?vkug10) rfl (Or.inl ⟨((wanted_at rfl rfl rfl rfl).trans rfl), ?hykug10⟩) (Below.refl _ _) ?restkug10
                  case hykug10 =>
                    intro W hW
                    have hb0 : Below wr.heap.size wr W := bstep (Below.drew1 _) hW
                    obtain ⟨x0, x1, x2⟩ := box2 (box_on QW.out hb0)
                    go_simp
                    exact rfl
                  simp only [zA, zB, zC, Act.put, zD, zE, zF]
                  refine bt (f := 21) (i := 11) (v := ?vkug11) rfl (Or.inl ⟨((wanted_at rfl rfl rfl rfl).trans rfl), ?hykug11⟩) (Below.refl _ _) ?restkug11
                  case hykug11 => intro W hW; go_simp; exact rfl
                  simp only [zA, zB, zC, Act.put, zD, zE, zF]
                  refine bt (f := 21) (i := 12) (v := ?vkug12) rfl (Or.inl ⟨((wanted_at rfl rfl rfl rfl).trans rfl), ?hykug12⟩) (Below.refl _ _) ?restkug12
                  case hykug12 => intro W hW; go_simp; exact rfl
                  simp only [zA, zB, zC, Act.put, zD, zE, zF]
                  refine bt (f := 21) (i := 13) (v := ?vkug13) rfl (Or.inl ⟨((wanted_at rfl rfl rfl rfl).trans rfl), ?hykug13⟩) (Below.refl _ _) ?restkug13
                  case hykug13 =>
                    intro W hW
                    have hb0 : Below wr.heap.size wr W := bstep (Below.drew1 _) hW
                    have f1 := (HLO.out.on hb0).cellI hkL
                    have f2 := (HLO.out.on hb0).cellI hkP
                    go_simp
                    exact rfl
                  simp only [zA, zB, zC, Act.put, zD, zE, zF]
                  refine bt (f := 21) (i := 14) (v := ?vkug14) rfl (Or.inl ⟨((wanted_at rfl rfl rfl rfl).trans rfl), ?hykug14⟩) (Below.refl _ _) ?restkug14
                  case hykug14 => intro W hW; go_simp; exact rfl
                  simp only [zA, zB, zC, Act.put, zD, zE, zF]
                  refine bt (f := 21) (i := 15) (v := ?vkug15) rfl (Or.inl ⟨(by rfl), ?hykug15⟩) (Below.refl _ _) ?restkug15
                  case hykug15 => intro W hW; go_simp; exact rfl
                  simp only [zA, zB, zC, Act.put, zD, zE, zF]
                  refine bt (f := 21) (i := 16) (v := ?vkug16) rfl (Or.inl ⟨(by rfl), ?hykug16⟩) (Below.refl _ _) ?restkug16
                  case hykug16 => intro W hW; go_simp; exact rfl
                  simp only [zA, zB, zC, Act.put, zD, zE, zF]
                  refine bt (f := 21) (i := 17) (v := ?vkug17) rfl (Or.inl ⟨((wanted_at rfl rfl rfl rfl).trans rfl), ?hykug17⟩) (Below.refl _ _) ?restkug17
                  case hykug17 =>
                    intro W hW
                    have hb0 : Below wr.heap.size wr W := bstep (Below.drew1 _) hW
                    obtain ⟨x0, x1, x2⟩ := box2 (box_on QW.out hb0)
                    go_simp
                    exact rfl
                  simp only [zA, zB, zC, Act.put, zD, zE, zF]
                  refine bt (f := 21) (i := 18) (v := ?vkug18) rfl (Or.inl ⟨((wanted_at rfl rfl rfl rfl).trans rfl), ?hykug18⟩) (Below.refl _ _) ?restkug18
                  case hykug18 => intro W hW; go_simp; exact rfl
                  simp only [zA, zB, zC, Act.put, zD, zE, zF]
                  refine but_run (i := 19) (by kernel_rfl) rfl ((wanted_at rfl rfl rfl rfl).trans rfl) ?_
                  simp only [zA, zB, zC]
                  intro K HK
                  go_wp2_with fail
                  refine (l6Node_any _ _ lo ts k _ (HVV.out.on (bstep (Below.drew1 _) (Below.refl _ _))) hlt (by omega) (by omega) (by omega) (by omega)).mono ?_
                  rintro r Vkug1 ⟨rfl, hBkug1⟩
                  rw [HFB.out]
                  have hSkug1 := bstep (Below.refl _ _) hBkug1
                  go_wp2_with fail
                  refine HK.out _ Vkug1 (fun _ => hSkug1) ?_
                  clear HK
                  refine bt (f := 21) (i := 20) (v := ?vkug20) rfl (Or.inl ⟨((wanted_at rfl rfl rfl rfl).trans rfl), ?hykug20⟩) hSkug1 ?restkug20
                  case hykug20 => intro W hW; go_simp; exact rfl
                  simp only [zA, zB, zC, Act.put, zD, zE, zF]
                  refine but_run (i := 21) (by kernel_rfl) rfl (by rfl) ?_
                  simp only [zA, zB, zC]
                  intro K HK
                  go_wp2_with fail
                  refine HK.out _ Vkug1 (fun h => absurd rfl h) ?_
                  clear HK
                  refine but_done (by kernel_rfl) ?_
                  go_wp2_with fail
                  go_roundw
                  case rel => exact ⟨k + 1, by omega, by go_num, HN1, HN2, Lib.hid (bstep HX.out (bstep (Below.drew1 _) hSkug1))⟩
                  case measure => simp [intOf]; omega
              · have z1 : decide (lo[k] ≤ lo[k - 1]) = true := decide_eq_true (by omega)
                have HBAD : Hid (treeOkB lo ts = false) := Lib.hid (tree_bad (fun h => by have := h.2.2.2.2.1 (k - 1) (by omega); rw [hkk, gk, gp] at this; omega))
                clear hkk gp gk hr hk0
                go_wp2
                refine but_begin (f := 21) (S := fun V => Below wr.drew.heap.size wr.drew V) (by kernel_rfl) ?_
                refine bt (f := 21) (i := 0) (v := ?vkdb0) rfl (Or.inl ⟨(by rfl), ?hykdb0⟩) (Below.refl _ _) ?restkdb0
                case hykdb0 => intro W hW; go_simp; exact rfl
                simp only [zA, zB, zC, Act.put, zD, zE, zF]
                refine bt (f := 21) (i := 1) (v := ?vkdb1) rfl (Or.inl ⟨(by rfl), ?hykdb1⟩) (Below.refl _ _) ?restkdb1
                case hykdb1 => intro W hW; go_simp; exact rfl
                simp only [zA, zB, zC, Act.put, zD, zE, zF]
                refine bt (f := 21) (i := 2) (v := ?vkdb2) rfl (Or.inl ⟨(by rfl), ?hykdb2⟩) (Below.refl _ _) ?restkdb2
                case hykdb2 => intro W hW; go_simp; exact rfl
                simp only [zA, zB, zC, Act.put, zD, zE, zF]
                refine bt (f := 21) (i := 3) (v := ?vkdb3) rfl (Or.inl ⟨((wanted_at rfl rfl rfl rfl).trans rfl), ?hykdb3⟩) (Below.refl _ _) ?restkdb3
                case hykdb3 => intro W hW; go_simp; exact rfl
                simp only [zA, zB, zC, Act.put, zD, zE, zF]
                refine bt (f := 21) (i := 4) (v := ?vkdb4) rfl (Or.inl ⟨((wanted_at rfl rfl rfl rfl).trans rfl), ?hykdb4⟩) (Below.refl _ _) ?restkdb4
                case hykdb4 =>
                  intro W hW
                  have hb0 : Below wr.heap.size wr W := bstep (Below.drew1 _) hW
                  obtain ⟨x0, x1, x2⟩ := box2 (box_on QW.out hb0)
                  go_simp
                  exact rfl
                simp only [zA, zB, zC, Act.put, zD, zE, zF]
                refine bt (f := 21) (i := 5) (v := ?vkdb5) rfl (Or.inl ⟨((wanted_at rfl rfl rfl rfl).trans rfl), ?hykdb5⟩) (Below.refl _ _) ?restkdb5
                case hykdb5 => intro W hW; go_simp; exact rfl
                simp only [zA, zB, zC, Act.put, zD, zE, zF]
                refine bt (f := 21) (i := 6) (v := ?vkdb6) rfl (Or.inl ⟨((wanted_at rfl rfl rfl rfl).trans rfl), ?hykdb6⟩) (Below.refl _ _) ?restkdb6
                case hykdb6 => intro W hW; go_simp; exact rfl
                simp only [zA, zB, zC, Act.put, zD, zE, zF]
                refine bt (f := 21) (i := 7) (v := ?vkdb7) rfl (Or.inl ⟨((wanted_at rfl rfl rfl rfl).trans rfl), ?hykdb7⟩) (Below.refl _ _) ?restkdb7
                case hykdb7 => intro W hW; go_simp; exact rfl
                simp only [zA, zB, zC, Act.put, zD, zE, zF]
                refine bt (f := 21) (i := 8) (v := ?vkdb8) rfl (Or.inl ⟨((wanted_at rfl rfl rfl rfl).trans rfl), ?hykdb8⟩) (Below.refl _ _) ?restkdb8
                case hykdb8 =>
                  intro W hW
                  have hb0 : Below wr.heap.size wr W := bstep (Below.drew1 _) hW
                  have f1 := (HLO.out.on hb0).cellI hkL
                  have f2 := (HLO.out.on hb0).cellI hkP
                  go_simp
                  exact rfl
                simp only [zA, zB, zC, Act.put, zD, zE, zF]
                refine bt (f := 21) (i := 9) (v := ?vkdb9) rfl (Or.inl ⟨((wanted_at rfl rfl rfl rfl).trans rfl), ?hykdb9⟩) (Below.refl _ _) ?restkdb9
                case hykdb9 => intro W hW; go_simp; exact rfl
                simp only [zA, zB, zC, Act.put, zD, zE, zF]
                refine bt (f := 21) (i := 10) (v := ?vkdb10) rfl (Or.inl ⟨((wanted_at rfl rfl rfl rfl).trans rfl), ?hykdb10⟩) (Below.refl _ _) ?restkdb10
                case hykdb10 =>
                  intro W hW
                  have hb0 : Below wr.heap.size wr W := bstep (Below.drew1 _) hW
                  obtain ⟨x0, x1, x2⟩ := box2 (box_on QW.out hb0)
                  go_simp
                  exact rfl
                simp only [zA, zB, zC, Act.put, zD, zE, zF]
                refine bt (f := 21) (i := 11) (v := ?vkdb11) rfl (Or.inl ⟨((wanted_at rfl rfl rfl rfl).trans rfl), ?hykdb11⟩) (Below.refl _ _) ?restkdb11
                case hykdb11 => intro W hW; go_simp; exact rfl
                simp only [zA, zB, zC, Act.put, zD, zE, zF]
                refine bt (f := 21) (i := 12) (v := ?vkdb12) rfl (Or.inl ⟨((wanted_at rfl rfl rfl rfl).trans rfl), ?hykdb12⟩) (Below.refl _ _) ?restkdb12
                case hykdb12 => intro W hW; go_simp; exact rfl
                simp only [zA, zB, zC, Act.put, zD, zE, zF]
                refine bt (f := 21) (i := 13) (v := ?vkdb13) rfl (Or.inl ⟨((wanted_at rfl rfl rfl rfl).trans rfl), ?hykdb13⟩) (Below.refl _ _) ?restkdb13
                case hykdb13 =>
                  intro W hW
                  have hb0 : Below wr.heap.size wr W := bstep (Below.drew1 _) hW
                  have f1 := (HLO.out.on hb0).cellI hkL
                  have f2 := (HLO.out.on hb0).cellI hkP
                  go_simp
                  exact rfl
                simp only [zA, zB, zC, Act.put, zD, zE, zF]
                refine bt (f := 21) (i := 14) (v := ?vkdb14) rfl (Or.inl ⟨((wanted_at rfl rfl rfl rfl).trans rfl), ?hykdb14⟩) (Below.refl _ _) ?restkdb14
                case hykdb14 => intro W hW; go_simp; exact rfl
                simp only [zA, zB, zC, Act.put, zD, zE, zF]
                refine bt (f := 21) (i := 15) (v := ?vkdb15) rfl (Or.inl ⟨(by rfl), ?hykdb15⟩) (Below.refl _ _) ?restkdb15
                case hykdb15 => intro W hW; go_simp; exact rfl
                simp only [zA, zB, zC, Act.put, zD, zE, zF]
                refine bt (f := 21) (i := 16) (v := ?vkdb16) rfl (Or.inl ⟨(by rfl), ?hykdb16⟩) (Below.refl _ _) ?restkdb16
                case hykdb16 => intro W hW; go_simp; exact rfl
                simp only [zA, zB, zC, Act.put, zD, zE, zF]
                refine bt (f := 21) (i := 17) (v := undef) rfl (Or.inr ⟨((wanted_at rfl rfl rfl rfl).trans rfl), rfl⟩) (Below.refl _ _) ?_
                simp only [zA, zB, zC, Act.put, zD, zE, zF]
                refine bt (f := 21) (i := 18) (v := undef) rfl (Or.inr ⟨((wanted_at rfl rfl rfl rfl).trans rfl), rfl⟩) (Below.refl _ _) ?_
                simp only [zA, zB, zC, Act.put, zD, zE, zF]
                refine bt (f := 21) (i := 19) (v := undef) rfl (Or.inr ⟨((wanted_at rfl rfl rfl rfl).trans rfl), rfl⟩) (Below.refl _ _) ?_
                simp only [zA, zB, zC, Act.put, zD, zE, zF]
                refine bt (f := 21) (i := 20) (v := undef) rfl (Or.inr ⟨((wanted_at rfl rfl rfl rfl).trans rfl), rfl⟩) (Below.refl _ _) ?_
                simp only [zA, zB, zC, Act.put, zD, zE, zF]
                refine but_run (i := 21) (by kernel_rfl) rfl (by rfl) ?_
                simp only [zA, zB, zC]
                intro K HK
                go_wp2_with fail
                refine HK.out _ wr.drew (fun h => absurd rfl h) ?_
                clear HK
                refine but_done (by kernel_rfl) ?_
                go_wp2_with fail
                go_ret
                exact ⟨ret_boolB HBAD.out.symm, bstep HB.out (bstep HX.out (bstep (Below.drew1 _) (Below.refl _ _)))⟩
          · have e : k = ts.length := by omega
            subst e
            go_wp2_with fail
            refine (specTreeKeys_any _ _ lo ts _ (HV.out.on HX.out) (by omega) (by omega)).mono ?_
            rintro e w2 ⟨v2, rfl, o2, b2⟩
            obtain ⟨A2, c2, rfl, _, _⟩ := o2.shape
            have HB2 := Lib.hid (bstep HB.out (bstep HX.out b2))
            clear o2 b2 x0 x1 x2
            go_wp2
            go_ret
            refine ⟨ret_boolB ?_, HB2.out⟩
            unfold treeOkB
            refine decide_eq_decide.2 ⟨fun h => ⟨H12.out.1, H12.out.2, H2.out, H3.out, fun j hj => HI2.out j (by omega), HI1.out, by omega⟩, fun h => by have := h.2.2.2.2.2.2; omega⟩
      · have d3 : (lo[0] != 0) = true := by simp [h3]
        have HBAD : Hid (treeOkB lo ts = false) := Lib.hid (tree_bad (fun h => h3 (by rw [← g0]; exact h.2.2.2.1)))
        clear hc g0 h3 d1 h1 h2
        go_wp2
        go_ret
        exact ⟨ret_boolB HBAD.out.symm, HB.out⟩
    · have d2 : ((lo.length : Int) != (ts.length : Int)) = true := by simp; omega
      have HBAD : Hid (treeOkB lo ts = false) := Lib.hid (tree_bad (fun h => h2 h.2.2.1))
      clear d1 h1 h2
      go_wp2
      go_ret
      exact ⟨ret_boolB HBAD.out.symm, HB.out⟩
  · have d1 : (decide ((1 : Int) ≤ (ts.length : Int)) && decide ((ts.length : Int) ≤ 20)) = false := by
      rcases Nat.lt_or_ge ts.length 1 with h | h
      · rw [decide_eq_false (by omega)]; rfl
      · rw [decide_eq_false (show ¬ (ts.length : Int) ≤ 20 by omega), Bool.and_false]
    rw [d1]
    have HBAD : Hid (treeOkB lo ts = false) := Lib.hid (tree_bad (fun h => h1 ⟨h.1, h.2.1⟩))
    clear d1 h1
    go_wp2
    go_ret
    exact ⟨ret_boolB HBAD.out.symm, HB.out⟩
end Go.Proofs.YtlhemcjahcmdeaaGreatDoor
namespace Go.Proofs.YtlhemcjahcmdeaaGreatDoor
open Go.RowKit
set_option maxRecDepth 100000
set_option linter.unusedSimpArgs false
set_option linter.unusedVariables false

def ltV (x y : VolD) : Bool := Go.Op.bytesLess x.a.toList y.a.toList
def ascB (l : List VolD) : Bool := decide (∀ i (h : i < l.length - 1), ltV (l[i]'(by omega)) (l[i + 1]'(by omega)) = true)
def sizeB (n : Int) : Bool := decide (1 ≤ n) && decide (n ≤ 12)
def kidlessB (d : PoolD) (id : Int) : Bool := decide (0 ≤ ageAtK d.ag id) && decide ((kidsK d.ag id).length = 0)
def ownB (d : PoolD) (id : Int) : Bool := kidlessB d id && decide (usesK id d.vo = 1)
def okV (d : PoolD) (v : VolD) : Bool := nameOkB v.a && sizeB v.c && ownB d v.b
def volsB (d : PoolD) : Bool := decide (d.vo.length ≤ 6) && ascB d.vo && d.vo.all (okV d)
def nextB (d : PoolD) : Bool := (decide (1 ≤ d.nx) && decide (d.nx ≤ 61)) && d.ag.all (fun a => decide (a.a < d.nx))
def refsK (l : List KeyD) : List KeyD := l.filter (fun k => k.c == 1)
def agesB (d : PoolD) : Bool := (treeKeysK d.ts).all (fun k => decide (0 ≤ ageAtK d.ag k.b))
def cellsB (d : PoolD) : Bool := (refsK (treeKeysK d.ts)).all (fun k => cellB d.ce k.d k.e) && decide (((refsK (treeKeysK d.ts)).map (·.d)).Nodup) && decide ((refsK (treeKeysK d.ts)).length = usedK d.ce)
def poolOkB (d : PoolD) : Bool := treeOkB d.lo d.ts && agesOkB d.ag && celsOkB d.ce && nextB d && volsB d && agesB d && cellsB d
theorem uses_two {l : List VolD} {i j : Nat} (hij : i < j) (hj : j < l.length) (h : (l[i]'(by omega)).b = (l[j]).b) : usesK (l[j]).b l ≠ 1 := by
  unfold usesK
  have e : l.countP (fun k => k.b == (l[j]).b) = (l.take j).countP (fun k => k.b == (l[j]).b) + (l.drop j).countP (fun k => k.b == (l[j]).b) := by
    rw [← List.countP_append, List.take_append_drop]
  have h1 : 0 < (l.take j).countP (fun k => k.b == (l[j]).b) := by
    rw [List.countP_pos_iff]
    exact ⟨l[i], List.mem_take_iff_getElem.2 ⟨i, by omega, rfl⟩, by simp [h]⟩
  have h2 : 0 < (l.drop j).countP (fun k => k.b == (l[j]).b) := by
    rw [List.countP_pos_iff]
    refine ⟨l[j], ?_, by simp⟩
    rw [vol_drop hj]
    exact List.mem_cons_self
  omega
theorem uses_one {l : List VolD} (h : ∀ i j (hij : i < j) (hj : j < l.length), (l[i]'(by omega)).b ≠ (l[j]).b) {i : Nat} (hi : i < l.length) : usesK (l[i]).b l = 1 := by
  unfold usesK
  have e : l.countP (fun k => k.b == (l[i]).b) = (l.take i).countP (fun k => k.b == (l[i]).b) + (l.drop i).countP (fun k => k.b == (l[i]).b) := by
    rw [← List.countP_append, List.take_append_drop]
  have h1 : (l.take i).countP (fun k => k.b == (l[i]).b) = 0 := by
    rw [List.countP_eq_zero]
    intro a ha
    obtain ⟨j, hj, rfl⟩ := List.mem_take_iff_getElem.1 ha
    have := h j i (by omega) hi
    simpa using this
  have h2 : (l.drop (i + 1)).countP (fun k => k.b == (l[i]).b) = 0 := by
    rw [List.countP_eq_zero]
    intro a ha
    obtain ⟨j, hj, rfl⟩ := List.mem_iff_getElem.1 ha
    rw [List.length_drop] at hj
    have := h i (i + 1 + j) (by omega) (by omega)
    rw [List.getElem_drop]
    simp
    exact fun h => this h.symm
  rw [e, h1, vol_drop hi, List.countP_cons, h2]
  simp
/-- What the model asks of the volume in place i. -/
def fitV (d : PoolD) (i : Nat) (h : i < d.vo.length) : Prop := nameOkB (d.vo[i]).a = true ∧ sizeB (d.vo[i]).c = true ∧ kidlessB d (d.vo[i]).b = true ∧ (∀ j (hj : j + 1 = i), ltV (d.vo[j]'(by omega)) d.vo[i] = true) ∧ ∀ j (hj : j < i), (d.vo[j]'(by omega)).b ≠ (d.vo[i]).b
theorem vols_fit {d : PoolD} (h : volsB d = true) {i : Nat} (hi : i < d.vo.length) : fitV d i hi := by
  unfold volsB at h
  simp only [Bool.and_eq_true, decide_eq_true_eq] at h
  obtain ⟨⟨_, ha⟩, hall⟩ := h
  have hv := List.all_eq_true.1 hall _ (List.getElem_mem hi)
  unfold okV ownB at hv
  simp only [Bool.and_eq_true, decide_eq_true_eq] at hv
  obtain ⟨⟨h1, h2⟩, h3, h4⟩ := hv
  refine ⟨h1, h2, h3, ?_, ?_⟩
  · rintro j rfl
    unfold ascB at ha
    exact of_decide_eq_true ha j (by omega)
  · intro j hj he
    exact uses_two hj hi he h4
theorem fit_vols {d : PoolD} (h : ∀ i (hi : i < d.vo.length), fitV d i hi) : volsB d = decide (d.vo.length ≤ 6) := by
  have h1 : ascB d.vo = true := by
    unfold ascB
    exact decide_eq_true (fun i hi => (h (i + 1) (by omega)).2.2.2.1 i rfl)
  have h2 : d.vo.all (okV d) = true := by
    rw [List.all_eq_true]
    intro v hv
    obtain ⟨i, hi, rfl⟩ := List.mem_iff_getElem.1 hv
    obtain ⟨a, b, c, _, _⟩ := h i hi
    unfold okV ownB
    rw [a, b, c, uses_one (fun i j hij hj => (h j hj).2.2.2.2 i hij) hi]
    rfl
  unfold volsB
  rw [h1, h2]
  simp
theorem unfit {d : PoolD} {i : Nat} (hi : i < d.vo.length) (h : ¬ fitV d i hi) : volsB d = false := by
  cases hv : volsB d
  · rfl
  · exact absurd (vols_fit hv hi) h
theorem okV_miss {d : PoolD} {i : Nat} (hi : i < d.vo.length) (h : okV d d.vo[i] = false) : volsB d = false := by
  have : d.vo.all (okV d) = false := by
    rw [List.all_eq_false]
    exact ⟨_, List.getElem_mem hi, by rw [h]; simp⟩
  unfold volsB
  rw [this, Bool.and_false]
theorem okV_step {d : PoolD} {k : Nat} (hi : k < d.vo.length) (h : ∀ j (hj : j < k) (hl : j < d.vo.length), okV d d.vo[j] = true) (h2 : okV d d.vo[k] = true) : ∀ j (hj : j < k + 1) (hl : j < d.vo.length), okV d d.vo[j] = true := by
  intro j hj hl
  by_cases h3 : j < k
  · exact h j h3 hl
  · have : j = k := by omega
    subst this
    exact h2
theorem okV_all {d : PoolD} (h : ∀ j (hl : j < d.vo.length), okV d d.vo[j] = true) : d.vo.all (okV d) = true := by
  rw [List.all_eq_true]
  intro v hv
  obtain ⟨i, hi, rfl⟩ := List.mem_iff_getElem.1 hv
  exact h i hi
theorem fitV_step {d : PoolD} {k : Nat} (hi : k < d.vo.length) (h : ∀ j (hj : j < k) (hl : j < d.vo.length), fitV d j hl) (h2 : fitV d k hi) : ∀ j (hj : j < k + 1) (hl : j < d.vo.length), fitV d j hl := by
  intro j hj hl
  by_cases h3 : j < k
  · exact h j h3 hl
  · have : j = k := by omega
    subst this
    exact h2
/-- The keys ahead of place i that refer to cells. -/
theorem refs_snoc {l : List KeyD} {k : Nat} (h : k < l.length) : refsK (l.take (k + 1)) = refsK (l.take k) ++ (if ((l[k]).c == 1) = true then [l[k]] else []) := by
  unfold refsK
  rw [List.take_succ_eq_append_getElem h, List.filter_append]
  simp [List.filter_cons]
theorem refs_mem {l : List KeyD} {k : Nat} {x : Int} : x ∈ (refsK (l.take k)).map (·.d) ↔ ∃ j, ∃ hj : j < l.length, j < k ∧ (l[j]).c = 1 ∧ (l[j]).d = x := by
  unfold refsK
  simp only [List.mem_map, List.mem_filter, beq_iff_eq]
  constructor
  · rintro ⟨y, ⟨hy, hc⟩, hd⟩
    obtain ⟨j, hj, rfl⟩ := List.mem_take_iff_getElem.1 hy
    exact ⟨j, by omega, by omega, hc, hd⟩
  · rintro ⟨j, hj, hk, hc, hd⟩
    exact ⟨l[j], ⟨List.mem_take_iff_getElem.2 ⟨j, by omega, rfl⟩, hc⟩, hd⟩
theorem refs_sub {l : List KeyD} (k : Nat) : (refsK (l.take k)).Sublist (refsK l) := (List.take_sublist k l).filter _
theorem refs_len (l : List KeyD) : (refsK l).length ≤ l.length := List.length_filter_le _ _
theorem nodup_snoc {l : List Int} {x : Int} (h : l.Nodup) (hx : x ∉ l) : (l ++ [x]).Nodup := by
  rw [List.nodup_append]
  refine ⟨h, by simp, ?_⟩
  intro a ha b hb e
  simp at hb
  subst hb
  subst e
  exact hx ha
theorem cells_miss1 {d : PoolD} {k : KeyD} (hk : k ∈ refsK (treeKeysK d.ts)) (h : cellB d.ce k.d k.e = false) : cellsB d = false := by
  have : (refsK (treeKeysK d.ts)).all (fun k => cellB d.ce k.d k.e) = false := by
    rw [List.all_eq_false]
    exact ⟨k, hk, by rw [h]; simp⟩
  unfold cellsB
  rw [this]
  rfl
theorem cells_miss2 {d : PoolD} (h : ¬ ((refsK (treeKeysK d.ts)).map (·.d)).Nodup) : cellsB d = false := by
  unfold cellsB
  rw [decide_eq_false h, Bool.and_false]
  rfl
theorem cells_end {d : PoolD} (h : ∀ k ∈ refsK (treeKeysK d.ts), cellB d.ce k.d k.e = true) (h2 : ((refsK (treeKeysK d.ts)).map (·.d)).Nodup) : cellsB d = decide ((refsK (treeKeysK d.ts)).length = usedK d.ce) := by
  unfold cellsB
  rw [List.all_eq_true.2 h, decide_eq_true h2]
  rfl
theorem cell_nat {l : List CelD} {i g : Int} (h : cellB l i g = true) : 0 ≤ i := by
  unfold cellB hasC at h
  simp only [Bool.and_eq_true, decide_eq_true_eq] at h
  exact h.1.1.1
end Go.Proofs.YtlhemcjahcmdeaaGreatDoor
namespace Go.Proofs.YtlhemcjahcmdeaaGreatDoor
open Go.RowKit
set_option maxRecDepth 100000
set_option linter.unusedSimpArgs false
set_option linter.unusedVariables false

def lessVV : Value := .func (.func 189) #[] #[]
theorem store_lessV (a : Addr) (m : Mode) (w : World) : (store a (.func (.func 189) #[] #[]) m).run Tryz.prog w = stored Tryz.prog w a (.func (.func 189) #[] #[]) m := run_store _ w a _ m rfl
theorem volSet_any (A : Option Addr) (n c : Nat) (w : World) : Calls Tryz.prog 128 #[.slice A n c] w fun e w' => e = .returned (.agg #[.slice A n c, lessVV]) ∧ Below w.heap.size w w' := by
  have hst := store_lessV
  go_enter Tryz.func128, Tryz.ntmps128
  go_wp2
  exact bodyPost_ret (v := .agg #[.slice A n c, lessVV]) (by simp [results, Tryz.results128, go_sem, lessVV]) rfl ⟨rfl, bal1 _ _⟩
theorem lessVol_any (x y : VolD) (w : World) : Calls Tryz.prog 189 #[.agg #[.string x.a, .int .i64 x.b, .int .i64 x.c, .bool x.d], .agg #[.string y.a, .int .i64 y.b, .int .i64 y.c, .bool y.d]] w (SaysBool w (ltV x y)) := by
  cases hR : ltV x y
  all_goals
    have hS : Go.Op.bytesLess x.a.toList y.a.toList = _ := hR
    go_enter Tryz.func189, Tryz.ntmps189
    go_wp2
    go_ret
    exact ⟨rfl, bal2 _ _ _⟩
theorem ascB_snoc {l : List VolD} {j : Nat} (hlt : j + 1 < l.length) (h : ∀ i (h : i < j) (h2 : i + 1 < l.length), ltV l[i] l[i + 1] = true) (h2 : ltV l[j] l[j + 1] = true) : ∀ i (h : i < j + 1) (h2 : i + 1 < l.length), ltV l[i] l[i + 1] = true := by
  intro i hi h4
  by_cases h3 : i < j
  · exact h i h3 h4
  · have : i = j := by omega
    subst this
    exact h2
set_option maxHeartbeats 1000000 in
theorem ascendingV_any (v : Value) (l : List VolD) (w : World) (hv : Reads w w.heap.size v (volsD l)) (hn : l.length ≤ 2097152) : Calls Tryz.prog 285 #[.agg #[v, lessVV]] w (SaysBool w (ascB l)) := by
  obtain ⟨A, c, rfl, _, _⟩ := hv.shapeVol
  have HT := Lib.hid lessVol_any
  unfold lessVV
  have HV := Lib.hid (hv.on (bal1 w (.cells #[.slice A l.length c, .func (.func 189) #[] #[]] 160)))
  have Q0 := Lib.hid (al1 w (.cells #[.slice A l.length c, .func (.func 189) #[] #[]] 160))
  have HB := Lib.hid (bal1 w (.cells #[.slice A l.length c, .func (.func 189) #[] #[]] 160))
  clear hv
  go_enter Tryz.func285, Tryz.ntmps285
  go_wp2
  generalize w.alloc (.cells #[.slice A l.length c, .func (.func 189) #[] #[]] 160) = W at *
  go_loopw [3] (fun i wr => ∃ j : Nat, (j < l.length ∨ j = 0) ∧ i = .int .i64 ((j : Int) + 1) ∧ Hid (∀ i (h : i < j) (h2 : i + 1 < l.length), ltV l[i] l[i + 1] = true) ∧ Hid (Below W.heap.size W wr)) (fun i _ => l.length - (intOf i).toNat)
  case atStart => exact ⟨0, .inr rfl, rfl, Lib.hid (fun i h => by omega), Lib.hid (Below.refl _ _)⟩
  case round =>
    obtain ⟨j, hj, rfl, HI, HW⟩ := hrel
    obtain ⟨x0, x1, x2⟩ := box2 (box_on Q0.out HW.out)
    by_cases hlt : j + 1 < l.length
    · obtain ⟨b, off, rfl, hbb, hc⟩ := (HV.out.on HW.out).vols hlt
      have F := Lib.hid (hc j (by omega))
      have F' := Lib.hid (hc (j + 1) hlt)
      have i1 : (j : Int) + 1 < (l.length : Int) := by omega
      have i2 : (0 : Int) ≤ (j : Int) + 1 := by omega
      have i3 : IntKind.i64.wrap ((j : Int) + 1 - 1) = (j : Int) := by rw [IntKind.wrap_i64]; omega
      have i7 : IntKind.i64.wrap (j : Int) = (j : Int) := by rw [IntKind.wrap_i64]; omega
      have i4 : (j : Int) < (l.length : Int) := by omega
      have i5 : (0 : Int) ≤ (j : Int) := by omega
      have i6 : ((j : Int) + 1).toNat = j + 1 := by omega
      have HP := Lib.hid (box_on Q0.out HW.out)
      clear hc
      obtain ⟨c0, c1, c2, c3⟩ := F.out
      obtain ⟨d0, d1, d2, d3⟩ := F'.out
      cases hless : ltV l[j] l[j + 1]
      all_goals
        have HL := Lib.hid hless
        clear hless
        go_wp2
        go_region_held3 (fun W => W.cell? ⟨w.heap.size, 0, none⟩ = some (.slice (some ⟨b, off, none⟩) l.length c) ∧ W.cell? ⟨w.heap.size, 1, none⟩ = some (.func (.func 189) #[] #[]) ∧ W.cell? ⟨b, off + j * 4, none⟩ = some (.string (l[j]).a) ∧ W.cell? ⟨b, off + j * 4 + 1, none⟩ = some (.int .i64 (l[j]).b) ∧ W.cell? ⟨b, off + j * 4 + 2, none⟩ = some (.int .i64 (l[j]).c) ∧ W.cell? ⟨b, off + j * 4 + 3, none⟩ = some (.bool (l[j]).d) ∧ W.cell? ⟨b, off + (j + 1) * 4, none⟩ = some (.string (l[j + 1]).a) ∧ W.cell? ⟨b, off + (j + 1) * 4 + 1, none⟩ = some (.int .i64 (l[j + 1]).b) ∧ W.cell? ⟨b, off + (j + 1) * 4 + 2, none⟩ = some (.int .i64 (l[j + 1]).c) ∧ W.cell? ⟨b, off + (j + 1) * 4 + 3, none⟩ = some (.bool (l[j + 1]).d))
          (first | with_reducible exact ⟨(box2 (box_on HP.out B8)).1, (box2 (box_on HP.out B8)).2.1, (F.out.on hbb B8).1, (F.out.on hbb B8).2.1, (F.out.on hbb B8).2.2.1, (F.out.on hbb B8).2.2.2, (F'.out.on hbb B8).1, (F'.out.on hbb B8).2.1, (F'.out.on hbb B8).2.2.1, (F'.out.on hbb B8).2.2.2⟩ | with_reducible exact ⟨(box2 (box_on HP.out (Below.drew1 _))).1, (box2 (box_on HP.out (Below.drew1 _))).2.1, (F.out.on hbb (Below.drew1 _)).1, (F.out.on hbb (Below.drew1 _)).2.1, (F.out.on hbb (Below.drew1 _)).2.2.1, (F.out.on hbb (Below.drew1 _)).2.2.2, (F'.out.on hbb (Below.drew1 _)).1, (F'.out.on hbb (Below.drew1 _)).2.1, (F'.out.on hbb (Below.drew1 _)).2.2.1, (F'.out.on hbb (Below.drew1 _)).2.2.2⟩ | exact ⟨x0, x1, F.out.1, F.out.2.1, F.out.2.2.1, F.out.2.2.2, F'.out.1, F'.out.2.1, F'.out.2.2.1, F'.out.2.2.2⟩ | fail)
          (first
            | (go_at_call 189; refine (HT.out l[j] l[j + 1] _).mono ?_; rintro r w8 ⟨rfl, b8⟩; rw [HL.out]; have B8 := bstep (Below.drew1 _) b8)
            | fail)
        all_goals
          have BC := Lib.hid (HW.out.trans (B8.mono HW.out.size))
          clear B8 b8 c0 c1 c2 c3 d0 d1 d2 d3 x0 x1 x2
          go_wp2
          first
            | go_ret
              refine ⟨ret_boolB ?_, bstep HB.out BC.out⟩
              symm
              refine decide_eq_false (fun h => ?_)
              have h2 := h j (by omega)
              rw [HL.out] at h2
              cases h2
            | go_roundw
              case rel => exact ⟨j + 1, .inl hlt, by go_num, Lib.hid (ascB_snoc hlt HI.out HL.out), BC⟩
              case measure => simp [intOf]; omega
    · have i2 : ¬ (j : Int) + 1 < (l.length : Int) := by omega
      go_wp2
      go_ret
      refine ⟨ret_boolB ?_, bstep HB.out HW.out⟩
      symm
      exact decide_eq_true (fun i h => HI.out i (by omega) (by omega))
theorem sizeOk_any (n : Int) (w : World) : Calls Tryz.prog 126 #[.int .i64 n] w fun e w' => e = .returned (.bool (sizeB n)) ∧ w = w' := by
  unfold sizeB
  cases h1 : decide (1 ≤ n) <;> cases h2 : decide (n ≤ 12)
  all_goals
    go_enter Tryz.func126, Tryz.ntmps126
    go_wp2
    go_ret
    exact ⟨rfl, rfl⟩
end Go.Proofs.YtlhemcjahcmdeaaGreatDoor
namespace Go.Proofs.YtlhemcjahcmdeaaGreatDoor
open Go.RowKit
set_option maxRecDepth 100000
set_option linter.unusedSimpArgs false
set_option linter.unusedVariables false

set_option maxHeartbeats 1000000 in
theorem ownVersion_any {t : TypeId} (vl vn va vc vv : Value) (d : PoolD) (id : Int) (w : World) (h : RdP t w w.heap.size vl vn va vc vv d) (hs : SmallP d) : Calls Tryz.prog 286 #[.agg #[vl, vn, va, vc, vv, .int .i64 d.nx], .int .i64 id] w (SaysBool w (ownB d id)) := by
  have hn : d.vo.length ≤ 2097152 := by have := hs.2.2.2; omega
  have hg : d.ag.length ≤ 2097152 := by have := hs.2.1; omega
  have HU := Lib.hid (fun W b => implVolsWith_any vl vn va vc vv d id W (h.on b) hn)
  obtain ⟨A0, c0, A1, c1, A2, c2, A3, c3, A4, c4, rfl, rfl, rfl, rfl, rfl⟩ := h.shape
  have HA := Lib.hid (fun W b => implAgeAt_any (.slice A2 d.ag.length c2) d.ag id W (h.2.1.on b) hg)
  have HK := Lib.hid (fun W b => implKidsOf_any (.slice A2 d.ag.length c2) d.ag id W (h.2.1.on b) hg)
  have HB := Lib.hid (bal1 w (.cells #[.slice A0 d.lo.length c0, .slice A1 d.ts.length c1, .slice A2 d.ag.length c2, .slice A3 d.ce.length c3, .slice A4 d.vo.length c4, .int .i64 d.nx] 32))
  have Q0 := Lib.hid (al1 w (.cells #[.slice A0 d.lo.length c0, .slice A1 d.ts.length c1, .slice A2 d.ag.length c2, .slice A3 d.ce.length c3, .slice A4 d.vo.length c4, .int .i64 d.nx] 32))
  obtain ⟨R, hR⟩ : ∃ R, ownB d id = R := ⟨_, rfl⟩
  rw [hR]
  have hx := hR.symm
  unfold ownB kidlessB at hx
  have HX := Lib.hid hx
  clear h hs hR hx hn hg
  go_enter Tryz.func286, Tryz.ntmps286
  go_upto_region 1 with (fail)
  generalize w.alloc (.cells #[.slice A0 d.lo.length c0, .slice A1 d.ts.length c1, .slice A2 d.ag.length c2, .slice A3 d.ce.length c3, .slice A4 d.vo.length c4, .int .i64 d.nx] 32) = W at *
  obtain ⟨x0, x1, x2, x3, x4, x5, x6⟩ := boxP Q0.out
  go_wp2_with fail
  refine (HA.out _ HB.out).mono ?_
  rintro e w1 ⟨rfl, b1⟩
  replace Q0 := Lib.hid (box_on Q0.out b1)
  replace HB := Lib.hid (bstep HB.out b1)
  clear x0 x1 x2 x3 x4 x5 x6 b1
  obtain ⟨x0, x1, x2, x3, x4, x5, x6⟩ := boxP Q0.out
  have hdec : decide ((ageAtK d.ag id : Int) ≥ 0) = decide (0 ≤ ageAtK d.ag id) := rfl
  cases h1 : decide (0 ≤ ageAtK d.ag id)
  · have HX2 : Hid (R = false) := Lib.hid (by rw [HX.out, h1]; rfl)
    have h2 : ¬ 0 ≤ ageAtK d.ag id := of_decide_eq_false h1
    clear hdec
    go_wp2
    go_ret
    exact ⟨by rw [HX2.out]; rfl, HB.out⟩
  · have h2 : 0 ≤ ageAtK d.ag id := of_decide_eq_true h1
    have HX2 := Lib.hid (HX.out.trans (by rw [h1, Bool.true_and]))
    clear hdec h1 HX
    go_wp2_with fail
    refine (HK.out _ HB.out).mono ?_
    rintro e w2 ⟨vk, rfl, ok, b1⟩
    obtain ⟨A5, c5, rfl, _, _⟩ := ok.owns.reads.lenN
    replace Q0 := Lib.hid (box_on Q0.out b1)
    replace HB := Lib.hid (bstep HB.out b1)
    clear x0 x1 x2 x3 x4 x5 x6 b1 ok
    obtain ⟨x0, x1, x2, x3, x4, x5, x6⟩ := boxP Q0.out
    generalize (kidsK d.ag id).length = m at *
    cases h3 : ((m : Int) == 0)
    · have HX3 : Hid (R = false) := Lib.hid (by rw [HX2.out, decide_eq_false (p := m = 0) (fun e => by rw [e] at h3; simp at h3)]; rfl)
      go_wp2
      go_ret
      exact ⟨by rw [HX3.out]; rfl, HB.out⟩
    · have HX3 : Hid (R = decide (usesK id d.vo = 1)) := Lib.hid (by rw [HX2.out, decide_eq_true (p := m = 0) (by simpa using h3), Bool.true_and])
      clear HX2
      go_wp2_with fail
      refine (HU.out _ HB.out).mono ?_
      rintro e w3 ⟨rfl, b1⟩
      replace HB := Lib.hid (bstep HB.out b1)
      clear x0 x1 x2 x3 x4 x5 x6 b1
      generalize usesK id d.vo = q at *
      cases h4 : ((q : Int) == 1)
      · have HX4 : Hid (R = false) := Lib.hid (by rw [HX3.out]; exact decide_eq_false (fun e => by rw [e] at h4; simp at h4))
        go_wp2
        go_ret
        exact ⟨by rw [HX4.out]; rfl, HB.out⟩
      · have HX4 : Hid (R = true) := Lib.hid (by rw [HX3.out]; exact decide_eq_true (by simp at h4; omega))
        go_wp2
        go_ret
        exact ⟨by rw [HX4.out]; rfl, HB.out⟩
set_option maxHeartbeats 2000000 in
theorem volsOk_any {t : TypeId} (vl vn va vc vv : Value) (d : PoolD) (w : World) (h : RdP t w w.heap.size vl vn va vc vv d) (hs : SmallP d) (hnm : ∀ k ∈ d.vo, k.a.size ≤ maxLen) : Calls Tryz.prog 224 #[.agg #[vl, vn, va, vc, vv, .int .i64 d.nx]] w (SaysBool w (volsB d)) := by
  have hn : d.vo.length ≤ 2097152 := by have := hs.2.2.2; omega
  have HO := Lib.hid (fun W b id => ownVersion_any vl vn va vc vv d id W (h.on b) hs)
  obtain ⟨A0, c0, A1, c1, A2, c2, A3, c3, A4, c4, rfl, rfl, rfl, rfl, rfl⟩ := h.shape
  have HA := Lib.hid (fun W b => ascendingV_any (.slice A4 d.vo.length c4) d.vo W (h.2.2.2.on b) hn)
  have HS := Lib.hid (volSet_any A4 d.vo.length c4)
  have HV := Lib.hid h.2.2.2
  have HN := Lib.hid (fun (v : VolD) (hv : v ∈ d.vo) W => implNameOk_any v.a W (hnm v hv))
  have HB := Lib.hid (bal1 w (.cells #[.slice A0 d.lo.length c0, .slice A1 d.ts.length c1, .slice A2 d.ag.length c2, .slice A3 d.ce.length c3, .slice A4 d.vo.length c4, .int .i64 d.nx] 32))
  have Q0 := Lib.hid (al1 w (.cells #[.slice A0 d.lo.length c0, .slice A1 d.ts.length c1, .slice A2 d.ag.length c2, .slice A3 d.ce.length c3, .slice A4 d.vo.length c4, .int .i64 d.nx] 32))
  unfold lessVV at HA HS
  obtain ⟨R, hR⟩ : ∃ R, volsB d = R := ⟨_, rfl⟩
  rw [hR]
  have HX := Lib.hid hR
  clear h hs hR hn hnm
  go_enter Tryz.func224, Tryz.ntmps224
  go_upto_region 1 with (fail)
  generalize w.alloc (.cells #[.slice A0 d.lo.length c0, .slice A1 d.ts.length c1, .slice A2 d.ag.length c2, .slice A3 d.ce.length c3, .slice A4 d.vo.length c4, .int .i64 d.nx] 32) = W at *
  obtain ⟨x0, x1, x2, x3, x4, x5, x6⟩ := boxP Q0.out
  by_cases h6 : d.vo.length ≤ 6
  · have e6 : decide ((d.vo.length : Int) > 6) = false := decide_eq_false (by omega)
    go_wp2_with fail
    refine (HS.out _).mono ?_
    rintro e w1 ⟨rfl, b1⟩
    replace Q0 := Lib.hid (box_on Q0.out b1)
    replace HB := Lib.hid (bstep HB.out b1)
    clear x0 x1 x2 x3 x4 x5 x6 b1
    obtain ⟨x0, x1, x2, x3, x4, x5, x6⟩ := boxP Q0.out
    go_wp2_with fail
    refine (HA.out _ HB.out).mono ?_
    rintro e w2 ⟨rfl, b1⟩
    replace Q0 := Lib.hid (box_on Q0.out b1)
    replace HB := Lib.hid (bstep HB.out b1)
    clear x0 x1 x2 x3 x4 x5 x6 b1
    obtain ⟨x0, x1, x2, x3, x4, x5, x6⟩ := boxP Q0.out
    cases ha : ascB d.vo
    · have HX2 : Hid (R = false) := Lib.hid (by rw [← HX.out]; unfold volsB; rw [ha, Bool.and_false]; rfl)
      go_wp2
      go_ret
      exact ⟨by rw [HX2.out]; rfl, HB.out⟩
    · have HX2 : Hid (R = d.vo.all (okV d)) := Lib.hid (by rw [← HX.out]; unfold volsB; rw [ha, decide_eq_true h6]; rfl)
      clear x0 x1 x2 x3 x4 x5 x6 ha
      obtain ⟨x0, x1, x2, x3, x4, x5, x6⟩ := boxP Q0.out
      go_wp2
      go_loopw [4, 19] (fun _ i wr => ∃ k : Nat, k ≤ d.vo.length ∧ i = .int .i64 k ∧ Hid (∀ j (hj : j < k) (hl : j < d.vo.length), okV d d.vo[j] = true) ∧ Hid (Below w.heap.size w wr) ∧ Hid (wr.heap[w.heap.size]? = some (.cells #[.slice A0 d.lo.length c0, .slice A1 d.ts.length c1, .slice A2 d.ag.length c2, .slice A3 d.ce.length c3, .slice A4 d.vo.length c4, .int .i64 d.nx] 32))) (fun _ i _ => d.vo.length - (intOf i).toNat)
      case atStart => exact ⟨0, Nat.zero_le _, rfl, Lib.hid (fun j hj => by omega), HB, Q0⟩
      case round =>
        clear x0 x1 x2 x3 x4 x5 x6 Q0 HB
        obtain ⟨k, hk, rfl, HI, HB, Q0⟩ := hrel
        by_cases hlt : k < d.vo.length
        · obtain ⟨b, off, rfl, hbb, hc⟩ := (HV.out.on HB.out).vols hlt
          have i1 : (k : Int) < (d.vo.length : Int) := by omega
          have i2 : (0 : Int) ≤ (k : Int) := by omega
          obtain ⟨y0, y1, y2, y3⟩ := hc k hlt
          have HM := Lib.hid (HN.out _ (List.getElem_mem hlt))
          have HBV := Lib.hid (okV_miss hlt)
          have HST := Lib.hid (okV_step hlt HI.out)
          clear hc
          obtain ⟨v, hv⟩ : ∃ v, v = d.vo[k] := ⟨_, rfl⟩
          rw [← hv] at y0 y1 y2 y3 HM HBV HST
          have b1 := bal1 wr (.cells #[.string v.a, .int .i64 v.b, .int .i64 v.c, .bool v.d] 41)
          have QV := Lib.hid (al1 wr (.cells #[.string v.a, .int .i64 v.b, .int .i64 v.c, .bool v.d] 41))
          replace Q0 := Lib.hid (box_on Q0.out b1)
          have HB2 := Lib.hid (bstep HB.out b1)
          clear b1 hv
          go_upto_region 6 with (fail)
          clear y0 y1 y2 y3
          generalize wr.alloc (.cells #[.string v.a, .int .i64 v.b, .int .i64 v.c, .bool v.d] 41) = wv at *
          obtain ⟨x0, x1, x2, x3, x4, x5, x6⟩ := boxP Q0.out
          obtain ⟨z0, z1, z2, z3, z4⟩ := box4 QV.out
          go_wp2_with fail
          refine (HM.out _).mono ?_
          rintro e _ ⟨rfl, rfl⟩
          cases hname : nameOkB v.a
          · have HF : Hid (R = false) := Lib.hid (by rw [← HX.out]; exact HBV.out (by unfold okV; rw [hname]; rfl))
            go_wp2
            go_ret
            exact ⟨by rw [HF.out]; rfl, HB2.out⟩
          · go_wp2_with fail
            refine (sizeOk_any v.c _).mono ?_
            rintro e _ ⟨rfl, rfl⟩
            cases hsz : sizeB v.c
            · have HF : Hid (R = false) := Lib.hid (by rw [← HX.out]; exact HBV.out (by unfold okV; rw [hsz, Bool.and_false]; rfl))
              go_wp2
              go_ret
              exact ⟨by rw [HF.out]; rfl, HB2.out⟩
            · have HOV : Hid (okV d v = ownB d v.b) := Lib.hid (by unfold okV; rw [hname, hsz]; rfl)
              go_wp2_with fail
              refine (HO.out _ HB2.out v.b).mono ?_
              rintro e w5 ⟨rfl, b1⟩
              replace Q0 := Lib.hid (box_on Q0.out b1)
              have HB3 := Lib.hid (bstep HB2.out b1)
              clear x0 x1 x2 x3 x4 x5 x6 z0 z1 z2 z3 z4 b1
              cases hown : ownB d v.b
              · have HF : Hid (R = false) := Lib.hid (by rw [← HX.out]; exact HBV.out (by rw [HOV.out, hown]))
                go_wp2
                go_ret
                exact ⟨by rw [HF.out]; rfl, HB3.out⟩
              · have HF := Lib.hid (HST.out (by rw [HOV.out, hown]))
                go_wp2
                go_roundw
                case rel => exact ⟨k + 1, by omega, by go_num, HF, HB3, Q0⟩
                case measure => simp [intOf]; omega
        · have HF : Hid (R = true) := Lib.hid (by rw [HX2.out]; exact okV_all (fun j hl => HI.out j (by omega) hl))
          go_wp2
          go_ret
          exact ⟨by rw [HF.out]; rfl, HB.out⟩
  · have e6 : decide ((d.vo.length : Int) > 6) = true := decide_eq_true (by omega)
    have HX2 : Hid (R = false) := Lib.hid (by rw [← HX.out]; unfold volsB; rw [decide_eq_false h6]; rfl)
    go_wp2
    go_ret
    exact ⟨by rw [HX2.out]; rfl, HB.out⟩
end Go.Proofs.YtlhemcjahcmdeaaGreatDoor
namespace Go.Proofs.YtlhemcjahcmdeaaGreatDoor
open Go.RowKit
set_option maxRecDepth 100000
set_option linter.unusedSimpArgs false
set_option linter.unusedVariables false

/-- The keys of a block. -/
def keysOfK (ts : List NodeD) (p : Int) : List KeyD := (treeKeysK ts).filter (fun k => k.a == p)
theorem keysOf_len (ts : List NodeD) (p : Int) : (keysOfK ts p).length ≤ sumT ts := Nat.le_trans (List.length_filter_le _ _) (treeKeys_len ts)
end Go.Proofs.YtlhemcjahcmdeaaGreatDoor
namespace Go.Proofs.YtlhemcjahcmdeaaGreatDoor
open Go.RowKit
set_option maxRecDepth 100000
set_option linter.unusedSimpArgs false
set_option linter.unusedVariables false

def layA : Array Value → Nat → List Value → Array Value
  | a, _, [] => a
  | a, o, v :: r => layA (a.setIfInBounds o v) (o + 1) r
theorem layA_size (vs : List Value) : ∀ (a : Array Value) (o : Nat), (layA a o vs).size = a.size := by
  induction vs with
  | nil => intro a o; rfl
  | cons v r ih => intro a o; rw [layA, ih]; simp
theorem layA_list (vs : List Value) : ∀ (a : Array Value) (o : Nat), o + vs.length ≤ a.size → (layA a o vs).toList = a.toList.take o ++ (vs ++ a.toList.drop (o + vs.length)) := by
  induction vs with
  | nil => intro a o h; simp [layA]
  | cons v r ih =>
    intro a o h
    simp only [List.length_cons] at h
    rw [layA, ih _ _ (by simp; omega), Array.toList_setIfInBounds, List.take_succ_eq_append_getElem (by simp; omega), List.take_set_of_le (Nat.le_refl _), List.getElem_set_self, List.drop_set_of_lt (by omega)]
    simp only [List.length_cons, List.append_assoc, List.singleton_append, List.cons_append, List.nil_append]
    rw [show o + 1 + r.length = o + (r.length + 1) by omega]
theorem heap_lay (g : Nat) (t : TypeId) (vs : List Value) : ∀ (w : World) (a : Array Value) (o : Nat), w.heap[g]? = some (.cells a t (0, 0)) → (w.setCells g o vs).heap[g]? = some (.cells (layA a o vs) t (0, 0)) := by
  induction vs with
  | nil => intro w a o h; exact h
  | cons v r ih => intro w a o h; exact ih _ _ _ (heap_setCell_same w g o a _ _ h)
theorem below_lay {B g : Nat} (hg : B ≤ g) (vs : List Value) : ∀ (a w : World) (o : Nat), Below B a w → Below B a (w.setCells g o vs) := by
  induction vs with
  | nil => intro a w o h; exact h
  | cons v r ih => intro a w o h; exact ih _ _ _ (h.setCell (p := ⟨g, o, none⟩) hg _)
end Go.Proofs.YtlhemcjahcmdeaaGreatDoor
namespace Go.Proofs.YtlhemcjahcmdeaaGreatDoor
open Go.RowKit
set_option maxRecDepth 100000
set_option linter.unusedSimpArgs false
set_option linter.unusedVariables false

/-- The first i hold what was kept of the first j of l; from j on nothing has turned. -/
structure DelIn (q : KeyD → Bool) (l m : List KeyD) (i j : Nat) : Prop where
  len : m.length = l.length
  jl : j ≤ l.length
  ij : i < j
  kept : m.take i = (l.take j).filter q
  rest : m.drop j = l.drop j
theorem all_kept {q : KeyD → Bool} {l : List KeyD} (h : ∀ j (hj : j < l.length), q l[j] = true) : l.filter q = l := by
  rw [List.filter_eq_self]
  intro x hx
  obtain ⟨j, hj, rfl⟩ := List.mem_iff_getElem.1 hx
  exact h j hj
theorem DelIn.start {q : KeyD → Bool} {l : List KeyD} {n : Nat} (hn : n < l.length) (h1 : q l[n] = false) (h2 : ∀ j (hj : j < n), q (l[j]'(by omega)) = true) : DelIn q l l n (n + 1) := by
  refine ⟨rfl, hn, Nat.lt_succ_self _, ?_, rfl⟩
  rw [List.take_succ_eq_append_getElem hn, List.filter_append]
  have e : (l.take n).filter q = l.take n := all_kept (fun j hj => by
    rw [List.getElem_take]
    rw [List.length_take] at hj
    exact h2 j (by omega))
  rw [e]
  simp [h1]
theorem DelIn.at {q : KeyD → Bool} {l m : List KeyD} {i j : Nat} (h : DelIn q l m i j) (hj : j < l.length) : m[j]'(by rw [h.len]; exact hj) = l[j] := by
  have h1 := h.rest
  have h2 : (m.drop j)[0]? = (l.drop j)[0]? := by rw [h1]
  rw [List.getElem?_drop, List.getElem?_drop, Nat.add_zero, List.getElem?_eq_getElem hj, List.getElem?_eq_getElem (by rw [h.len]; exact hj)] at h2
  exact Option.some.inj h2
theorem DelIn.drop {q : KeyD → Bool} {l m : List KeyD} {i j : Nat} (h : DelIn q l m i j) (hj : j < l.length) (hq : q l[j] = false) : DelIn q l m i (j + 1) := by
  refine ⟨h.len, hj, Nat.lt_succ_of_lt h.ij, ?_, ?_⟩
  · rw [h.kept, List.take_succ_eq_append_getElem hj, List.filter_append]
    simp [hq]
  · rw [← List.drop_drop, h.rest, List.drop_drop]
theorem DelIn.keep {q : KeyD → Bool} {l m : List KeyD} {i j : Nat} (h : DelIn q l m i j) (hj : j < l.length) (hq : q l[j] = true) : DelIn q l (m.set i l[j]) (i + 1) (j + 1) := by
  have hl := h.len
  have hij := h.ij
  refine ⟨by rw [List.length_set]; exact hl, hj, by omega, ?_, ?_⟩
  · rw [List.take_succ_eq_append_getElem (by rw [List.length_set]; omega), List.take_set_of_le (Nat.le_refl _), List.getElem_set_self, h.kept, List.take_succ_eq_append_getElem hj, List.filter_append]
    simp [hq]
  · rw [List.drop_set_of_lt (by omega), ← List.drop_drop, h.rest, List.drop_drop]
theorem DelIn.done {q : KeyD → Bool} {l m : List KeyD} {i j : Nat} (h : DelIn q l m i j) (hj : ¬ j < l.length) : m.take i = l.filter q ∧ i = (l.filter q).length ∧ i < l.length := by
  have hl := h.len
  have hij := h.ij
  have h1 := h.kept
  rw [show l.take j = l from List.take_of_length_le (by omega)] at h1
  refine ⟨h1, ?_, by have := h.jl; omega⟩
  rw [← h1, List.length_take]
  have := h.jl
  omega
theorem zero_cells (zero : Array Value) (n : Nat) : (Builtin.zeroCells zero n).toList.length = n * zero.size ∧ ((∀ v ∈ zero.toList, v.oneCell' = true) → ∀ v ∈ (Builtin.zeroCells zero n).toList, v.oneCell' = true) := by
  refine ⟨by simp [Builtin.zeroCells], fun h v hv => ?_⟩
  simp only [Builtin.zeroCells, Array.toList_map, Array.toList_range, List.mem_map, List.mem_range] at hv
  obtain ⟨i, hi, rfl⟩ := hv
  have hp : 0 < zero.size := by
    rcases Nat.eq_zero_or_pos zero.size with h0 | h0
    · rw [h0] at hi; simp at hi
    · exact h0
  have hlt := Nat.mod_lt i hp
  rw [getElem!_pos zero _ hlt]
  exact h _ (by simp)
/-- clear of n keys: nothing but the cells of these n turns. -/
theorem clear_keys (W : World) (g o n : Nat) (cur : Array Value) (e : TypeId) (hh : W.heap[g]? = some (.cells cur e (0, 0))) (hn : 0 < n) (ho : o + n * 5 ≤ cur.size) :
    ∃ zs : List Value, zs.length = n * 5 ∧ ∀ ty c, (Builtin.clear_ #[221] ty #[.slice (some ⟨g, o, none⟩) n c]).run Tryz.prog W = .ok (.tuple #[]) (W.setCells g o zs) := by
  obtain ⟨i, hi, h0, h1, h2⟩ := info_parts key_info
  obtain ⟨z1, z2⟩ := zero_cells (Value.agg #[.int .i64 0, .int .i64 0, .int .i64 0, .int .i64 0, .int .i64 0]).cells n
  have hcl : (Value.agg #[.int .i64 0, .int .i64 0, .int .i64 0, .int .i64 0, .int .i64 0]).cells = #[.int .i64 0, .int .i64 0, .int .i64 0, .int .i64 0, .int .i64 0] := by kernel_rfl
  refine ⟨(Builtin.zeroCells (Value.agg #[.int .i64 0, .int .i64 0, .int .i64 0, .int .i64 0, .int .i64 0]).cells n).toList, by rw [z1, hcl]; rfl, fun ty c => ?_⟩
  have hst := run_storeCells_cells (P := Tryz.prog) g o (Builtin.zeroCells (Value.agg #[.int .i64 0, .int .i64 0, .int .i64 0, .int .i64 0, .int .i64 0]).cells n).toList 0 W (fun j hj => by
    rw [z1, hcl] at hj
    have hj2 : j < n * 5 := hj
    rw [cell_of_row W g _ cur e (0, 0) hh, Array.getElem?_eq_getElem (by omega)]; rfl) (fun j hj => frozen_of_row W g _ cur e hh) (z2 (by rw [hcl]; intro v hv; simp at hv; subst hv; rfl))
  simp only [Nat.add_zero] at hst
  obtain ⟨m, rfl⟩ : ∃ m, n = m + 1 := ⟨n - 1, by omega⟩
  simp [Builtin.clear_, run_underlying Tryz.underlying221, zeroValue, typeInfo, hi, h0, hst]
end Go.Proofs.YtlhemcjahcmdeaaGreatDoor
namespace Go.Proofs.YtlhemcjahcmdeaaGreatDoor
open Go.RowKit
set_option maxRecDepth 100000
set_option linter.unusedSimpArgs false
set_option linter.unusedVariables false

theorem boxC {w : World} {p : Nat} {a : Value} {t : TypeId} (h : w.heap[p]? = some (.cells #[a] t (0, 0))) : w.cell? ⟨p, 0, none⟩ = some a ∧ ∀ o, w.frozen? ⟨p, o, none⟩ = false :=
  ⟨by rw [cell_of_row w p 0 _ _ _ h]; rfl, fun o => frozen_of_row w p o _ _ h⟩
theorem heap_far {w : World} {g j i : Nat} {u : Value} {o : Obj} (h : w.heap[i]? = some o) (hne : ¬ i = g) : (w.setCell ⟨g, j, none⟩ u).heap[i]? = some o := (Below.heap_setCell w ⟨g, j, none⟩ u i hne).trans h
theorem kvl_take (l : List KeyD) (N : Nat) : (kvl l).take (N * 5) = kvl (l.take N) := by
  by_cases h : N ≤ l.length
  · have he : kvl l = kvl (l.take N) ++ kvl (l.drop N) := by rw [← kvl_append, List.take_append_drop]
    have hl : (kvl (l.take N)).length = N * 5 := by rw [kvl_len]; simp; omega
    rw [he, ← hl, List.take_left']
    rfl
  · rw [List.take_of_length_le (by rw [kvl_len]; omega), List.take_of_length_le (by omega)]
theorem RwK.at5 {w : World} {g cap : Nat} {l : List KeyD} (h : RwK w g cap l) {i : Nat} (hi : i < l.length) (hc : l.length ≤ cap) (hm : cap ≤ maxLen) : Five w g (i * 5) l[i] := by
  obtain ⟨b, off, hA, _, hk⟩ := (h.owns (S := fun _ => True) trivial hc hm).reads.keys hi
  have h1 := hk i hi
  injection hA with hA
  injection hA with h2 h3
  subst h2
  subst h3
  simpa only [Nat.zero_add] using h1
/-- The closure of KeysOf, bound to the block's box. -/
theorem keysOf1_any (k : KeyD) (p : Int) (pb : Nat) (w : World) (hp : w.heap[pb]? = some (.cells #[.int .i64 p] 3 (0, 0))) :
    Calls Tryz.prog 304 #[k.v, .pointer (some ⟨pb, 0, none⟩)] w (SaysBool w (k.a != p)) := by
  unfold KeyD.v keyV
  have Q0 := Lib.hid (al1 w (.cells #[.int .i64 k.a, .int .i64 k.b, .int .i64 k.c, .int .i64 k.d, .int .i64 k.e] 112))
  have b0 := bal1 w (.cells #[.int .i64 k.a, .int .i64 k.b, .int .i64 k.c, .int .i64 k.d, .int .i64 k.e] 112)
  have HB := Lib.hid b0
  have HP := Lib.hid (box_on hp b0)
  clear hp b0
  obtain ⟨R, hR⟩ : ∃ R, (k.a != p) = R := ⟨_, rfl⟩
  rw [hR]
  go_enter Tryz.func304, Tryz.ntmps304
  go_upto_region 1 with (fail)
  generalize w.alloc (.cells #[.int .i64 k.a, .int .i64 k.b, .int .i64 k.c, .int .i64 k.d, .int .i64 k.e] 112) = W at *
  obtain ⟨x0, x1, x2, x3, x4, x5⟩ := box5 Q0.out
  obtain ⟨y0, y1⟩ := boxC HP.out
  cases R
  all_goals
    go_wp2
    go_ret
    exact ⟨rfl, HB.out⟩
set_option maxHeartbeats 1000000 in
theorem indexFuncK_any (v : Value) (l : List KeyD) (p : Int) (pb : Nat) (w : World) (hv : Reads w w.heap.size v (keysD l)) (hp : w.heap[pb]? = some (.cells #[.int .i64 p] 3 (0, 0))) (hn : l.length ≤ 2097152) :
    Calls Tryz.prog 333 #[v, .func (.func 304) #[] #[.pointer (some ⟨pb, 0, none⟩)]] w fun e w' => ∃ n : Int, e = .returned (.int .i64 n) ∧ Below w.heap.size w w' ∧
      ((n = -1 ∧ ∀ j (hj : j < l.length), ((l[j]).a == p) = true) ∨ ∃ m : Nat, n = (m : Int) ∧ ∃ h : m < l.length, ((l[m]).a == p) = false ∧ ∀ j (hj : j < m), ((l[j]'(by omega)).a == p) = true) := by
  obtain ⟨A, c, rfl, _, _⟩ := hv.shapeK
  have HT := Lib.hid keysOf1_any
  unfold KeyD.v keyV at HT
  have HV := Lib.hid hv
  have HP := Lib.hid hp
  clear hv hp
  go_enter Tryz.func333, Tryz.ntmps333
  go_wp2
  go_loopw [5, 8] (fun _ i wr => ∃ k : Nat, k ≤ l.length ∧ i = .int .i64 k ∧ Hid (∀ j (hj : j < k) (hl : j < l.length), ((l[j]).a == p) = true) ∧ Hid (Below w.heap.size w wr)) (fun _ i _ => l.length - (intOf i).toNat)
  case atStart => exact ⟨0, Nat.zero_le _, rfl, Lib.hid (fun j hj => by omega), Lib.hid (Below.refl _ _)⟩
  case round =>
    obtain ⟨k, hk, rfl, HI, HB⟩ := hrel
    by_cases hlt : k < l.length
    · obtain ⟨b, off, rfl, hbb, hc⟩ := (HV.out.on HB.out).keys hlt
      have i1 : (k : Int) < (l.length : Int) := by omega
      have i2 : (0 : Int) ≤ (k : Int) := by omega
      obtain ⟨c0, c1, c2, c3, c4⟩ := hc k hlt
      have HP1 := Lib.hid (box_on HP.out HB.out)
      clear hc
      cases hs : ((l[k]).a == p)
      · have HN : Hid (((l[k]).a != p) = true) := Lib.hid (by simp only [bne, hs]; rfl)
        have HS := Lib.hid hs
        clear hs
        go_wp2_with fail
        go_at_call 304
        refine (HT.out l[k] p pb _ HP1.out).mono ?_
        rintro r w8 ⟨rfl, b8⟩
        rw [HN.out]
        have B8 := Lib.hid (bstep HB.out b8)
        clear b8 c0 c1 c2 c3 c4
        go_wp2
        go_ret
        exact ⟨_, rfl, B8.out, .inr ⟨k, rfl, hlt, HS.out, fun j hj => HI.out j hj (by omega)⟩⟩
      · have HN : Hid (((l[k]).a != p) = false) := Lib.hid (by simp only [bne, hs]; rfl)
        have HS := Lib.hid hs
        clear hs
        go_wp2_with fail
        go_at_call 304
        refine (HT.out l[k] p pb _ HP1.out).mono ?_
        rintro r w8 ⟨rfl, b8⟩
        rw [HN.out]
        have B8 := Lib.hid (bstep HB.out b8)
        clear b8 c0 c1 c2 c3 c4
        go_wp2
        go_roundw
        case rel => exact ⟨k + 1, by omega, by go_num, Lib.hid (fun j hj hl => by
          by_cases hjk : j < k
          · exact HI.out j hjk hl
          · have : j = k := by omega
            subst this
            exact HS.out), B8⟩
        case measure => simp [intOf]; omega
    · go_wp2
      go_ret
      exact ⟨_, rfl, HB.out, .inl ⟨rfl, fun j hj => HI.out j (by omega) hj⟩⟩
set_option maxHeartbeats 4000000 in
theorem deleteFuncK_any (v : Value) (l : List KeyD) (p : Int) (pb base : Nat) (w : World) (hv : RowK w base v l) (hb : base ≤ w.heap.size) (hp : w.heap[pb]? = some (.cells #[.int .i64 p] 3 (0, 0))) (hpb : pb < base) (hn : l.length ≤ 2097152) :
    Calls Tryz.prog 303 #[v, .func (.func 304) #[] #[.pointer (some ⟨pb, 0, none⟩)]] w fun e w' => ∃ v', e = .returned v' ∧ RowK w' base v' (l.filter (fun k => k.a == p)) ∧ Below base w w' := by
  have HT := Lib.hid keysOf1_any
  unfold KeyD.v keyV at HT
  have HIF := Lib.hid (indexFuncK_any v l p pb w hv.owns.reads hp hn)
  have HP := Lib.hid hp
  have HV := Lib.hid hv
  rcases hv.owns.rwK with ⟨rfl, rfl⟩ | ⟨g, cap, rfl, hbg, hR, hcap, hmax⟩
  · clear hv hp
    go_enter Tryz.func303, Tryz.ntmps303
    go_wp2_with fail
    refine HIF.out.mono ?_
    rintro r w1 ⟨n, rfl, b1, ⟨rfl, _⟩ | ⟨m, rfl, hm, _⟩⟩
    · have B1 := Lib.hid (b1.mono hb)
      have O1 := Lib.hid (HV.out.on b1)
      clear b1
      go_wp2
      go_ret
      exact ⟨_, rfl, O1.out, B1.out⟩
    · simp at hm
  · have HRW := Lib.hid hR
    clear hv hp hR
    go_enter Tryz.func303, Tryz.ntmps303
    go_wp2_with fail
    refine HIF.out.mono ?_
    rintro r w1 ⟨n, rfl, b1, ⟨rfl, hall⟩ | ⟨m, rfl, hm, hno, hyes⟩⟩
    · have B1 := Lib.hid (b1.mono hb)
      have O1 := Lib.hid (HV.out.on b1)
      have HA : Hid (l.filter (fun k => k.a == p) = l) := Lib.hid (all_kept (q := fun k => k.a == p) hall)
      clear b1 hall
      go_wp2
      go_ret
      rw [HA.out]
      exact ⟨_, rfl, O1.out, B1.out⟩
    · have B1 := Lib.hid (b1.mono hb)
      have R1 := Lib.hid (Rw.keep HRW.out (b1.block g (Rw.lt HRW.out)))
      have D1 := Lib.hid (DelIn.start (q := fun k => k.a == p) hm hno hyes)
      have P1 := Lib.hid (box_on HP.out b1)
      have hm1 : ((m : Int) == -1) = false := beq_eq_false_iff_ne.2 (by omega)
      have i0 : IntKind.i64.wrap ((m : Int) + 1) = (m : Int) + 1 := by rw [IntKind.wrap_i64]; omega
      have HSZ := Lib.hid b1.size
      clear b1 hno hyes HIF HV HRW HP
      go_wp2
      clear hm1 i0
      go_loopw [5, 6, 7] (fun i j _ wr => ∃ (i' j' : Nat) (t : List KeyD), i = .int .i64 i' ∧ j = .int .i64 j' ∧ Hid (DelIn (fun k => k.a == p) l t i' j') ∧ Hid (RwK wr g cap t) ∧ Hid (wr.heap[pb]? = some (.cells #[.int .i64 p] 3 (0, 0))) ∧ Hid (base ≤ wr.heap.size) ∧ Hid (Below base w wr)) (fun _ j _ _ => l.length - (intOf j).toNat)
      case atStart => exact ⟨m, m + 1, l, rfl, by go_num, D1, R1, P1, Lib.hid (Nat.le_trans hb HSZ.out), B1⟩
      case round =>
        clear D1 R1 P1 HSZ B1 hm
        obtain ⟨i, j, t, rfl, rfl, HD, HR, HP, HZ, HB⟩ := hrel
        have hD := HD.out
        have hij := hD.ij
        have hjl := hD.jl
        have htl := hD.len
        by_cases hlt : j < l.length
        · obtain ⟨c0, c1, c2, c3, c4⟩ := HR.out.at5 (i := j) (by omega) (by omega) hmax
          rw [hD.at hlt] at c0 c1 c2 c3 c4
          have i1 : (j : Int) < (l.length : Int) := by omega
          have i2 : (0 : Int) ≤ (j : Int) := by omega
          have hq0 := al1 wr (.cells #[.int .i64 (l[j]).a, .int .i64 (l[j]).b, .int .i64 (l[j]).c, .int .i64 (l[j]).d, .int .i64 (l[j]).e] 112)
          have ba := bal1 wr (.cells #[.int .i64 (l[j]).a, .int .i64 (l[j]).b, .int .i64 (l[j]).c, .int .i64 (l[j]).d, .int .i64 (l[j]).e] 112)
          have HQ := Lib.hid hq0
          have HP2 := Lib.hid (box_on HP.out ba)
          have HR2 := Lib.hid (Rw.keep HR.out (ba.block g (Rw.lt HR.out)))
          have HB2 := Lib.hid (HB.out.trans (ba.mono HZ.out))
          have HZ2 := Lib.hid (Nat.le_trans HZ.out ba.size)
          clear hq0 ba hD
          cases hs : ((l[j]).a == p)
          · have HN : Hid (((l[j]).a != p) = true) := Lib.hid (by simp only [bne, hs]; rfl)
            have HS := Lib.hid hs
            clear hs
            go_wp2_with fail
            go_at_call 304
            refine (HT.out l[j] p pb _ HP2.out).mono ?_
            rintro r w8 ⟨rfl, b8⟩
            rw [HN.out]
            have R8 := Lib.hid (Rw.keep HR2.out (b8.block g (Rw.lt HR2.out)))
            have P8 := Lib.hid (box_on HP2.out b8)
            have B8 := Lib.hid (HB2.out.trans (b8.mono HZ2.out))
            have Z8 := Lib.hid (Nat.le_trans HZ2.out b8.size)
            clear b8 c0 c1 c2 c3 c4 HQ HP2 HR2 HB2 HZ2 HR HP HB HZ
            go_wp2
            go_roundw
            case rel => exact ⟨i, j + 1, t, rfl, by go_num, Lib.hid (HD.out.drop hlt HS.out), R8, P8, Z8, B8⟩
            case measure => simp [intOf]; omega
          · have HN : Hid (((l[j]).a != p) = false) := Lib.hid (by simp only [bne, hs]; rfl)
            have HS := Lib.hid hs
            clear hs
            go_wp2_with fail
            go_at_call 304
            refine (HT.out l[j] p pb _ HP2.out).mono ?_
            rintro r w8 ⟨rfl, b8⟩
            rw [HN.out]
            have R8 := Lib.hid (Rw.keep HR2.out (b8.block g (Rw.lt HR2.out)))
            have P8 := Lib.hid (box_on HP2.out b8)
            have B8 := Lib.hid (HB2.out.trans (b8.mono HZ2.out))
            have Z8 := Lib.hid (Nat.le_trans HZ2.out b8.size)
            obtain ⟨q0, q1, q2, q3, q4, q5⟩ := box5 (box_on HQ.out b8)
            clear b8 c0 c1 c2 c3 c4 HQ HP2 HR2 HB2 HZ2 HR HP HB HZ
            have hil : i < t.length := by omega
            have hpg : ¬ pb = g := by omega
            have R9 := Lib.hid (RwK.set R8.out hil l[j])
            have B9 := Lib.hid (b5 (i := i * 5) (u1 := .int .i64 (l[j]).a) (u2 := .int .i64 (l[j]).b) (u3 := .int .i64 (l[j]).c) (u4 := .int .i64 (l[j]).d) (u5 := .int .i64 (l[j]).e) B8.out hbg)
            have P9 := Lib.hid (heap_far (j := i * 5 + 4) (u := .int .i64 (l[j]).e) (heap_far (j := i * 5 + 3) (u := .int .i64 (l[j]).d) (heap_far (j := i * 5 + 2) (u := .int .i64 (l[j]).c) (heap_far (j := i * 5 + 1) (u := .int .i64 (l[j]).b) (heap_far (j := i * 5) (u := .int .i64 (l[j]).a) P8.out hpg) hpg) hpg) hpg) hpg)
            have hz5 : ∀ z, z < 5 → ∃ v, w8.cell? ⟨g, i * 5 + z, none⟩ = some v := RwK.five R8.out hil
            obtain ⟨v0, d0⟩ := hz5 0 (by omega)
            obtain ⟨v1, d1⟩ := hz5 1 (by omega)
            obtain ⟨v2, d2⟩ := hz5 2 (by omega)
            obtain ⟨v3, d3⟩ := hz5 3 (by omega)
            obtain ⟨v4, d4⟩ := hz5 4 (by omega)
            rw [Nat.add_zero] at d0
            have f0 := Rw.frozen R8.out (i * 5)
            have f1 := Rw.frozen R8.out (i * 5 + 1)
            have f2 := Rw.frozen R8.out (i * 5 + 2)
            have f3 := Rw.frozen R8.out (i * 5 + 3)
            have f4 := Rw.frozen R8.out (i * 5 + 4)
            have i3 : (i : Int) < (l.length : Int) := by omega
            have i4 : (0 : Int) ≤ (i : Int) := by omega
            have i5 : IntKind.i64.wrap ((i : Int) + 1) = (i : Int) + 1 := by rw [IntKind.wrap_i64]; omega
            clear hz5
            go_wp2
            go_roundw
            case rel => exact ⟨i + 1, j + 1, t.set i l[j], by go_num, by go_num, Lib.hid (HD.out.keep hlt HS.out), R9, P9, Lib.hid (by simpa using Z8.out), B9⟩
            case measure => simp [intOf]; omega
        · obtain ⟨hF, hFl, hil⟩ := hD.done hlt
          obtain ⟨cur, hh, hsz, htk⟩ := HR.out
          obtain ⟨zs, hzl, hcl⟩ := clear_keys wr g (i * 5) (l.length - i) cur _ hh (by omega) (by rw [hsz]; omega)
          have FIN : Hid (RowK (wr.setCells g (i * 5) zs) base (.slice (some ⟨g, 0, none⟩) i cap) (l.filter (fun k => k.a == p)) ∧ Below base w (wr.setCells g (i * 5) zs)) := by
            refine Lib.hid ⟨?_, below_lay hbg _ _ _ _ HB.out⟩
            refine ⟨by rw [kvl_len], .inr ⟨g, cap, _, by rw [← hFl], hbg, heap_lay g _ _ _ _ _ hh, by omega, hmax, by rw [layA_size]; exact hsz, ?_⟩⟩
            rw [← hFl, layA_list _ _ _ (by rw [hzl, hsz]; omega), List.take_append_of_le_length (by rw [List.length_take, Array.length_toList, hsz]; omega), List.take_take, Nat.min_self, ← hF, ← kvl_take, ← htk, List.take_take, show min (i * 5) (t.length * 5) = i * 5 by omega]
          have i1 : ¬ (j : Int) < (l.length : Int) := by omega
          have i2 : (0 : Int) ≤ (i : Int) := by omega
          have i3 : (i : Int) ≤ (l.length : Int) := by omega
          have i4 : (l.length : Int) ≤ (cap : Int) := by omega
          have i5 : (i : Int) ≤ (cap : Int) := by omega
          have i6 : i ≤ cap := by omega
          have i7 : ¬ cap = i := by omega
          clear hF hFl hh hsz htk hzl hD HD HR HP HB HZ
          go_wp2
          go_ret
          exact ⟨_, rfl, FIN.out.1, FIN.out.2⟩
set_option maxHeartbeats 1000000 in
theorem implKeysOf_any (vl vn : Value) (lo : List Int) (ts : List NodeD) (p : Int) (w : World) (hv : RdT w w.heap.size vl vn lo ts) (hn : ts.length ≤ 1048576) (hs : sumT ts ≤ 1048576) :
    Calls Tryz.prog 241 #[.agg #[vl, vn], .int .i64 p] w (NewK w (keysOfK ts p)) := by
  obtain ⟨A, c, A', c', rfl, rfl⟩ := hv.shape
  have hmf : ∀ (fn : Fn) (first cap : Array Value) (w : World), (Instr.makeFunc fn first cap).run Tryz.prog w = .ok (.func fn first cap) w := fun _ _ _ _ => rfl
  obtain ⟨q0, q1⟩ := al2 w (.cells #[.slice A lo.length c, .slice A' ts.length c'] 27) (.cells #[.int .i64 p] 3)
  have hb := bal2 w (.cells #[.slice A lo.length c, .slice A' ts.length c'] 27) (.cells #[.int .i64 p] 3)
  have hsz : ((w.alloc (.cells #[.slice A lo.length c, .slice A' ts.length c'] 27)).alloc (.cells #[.int .i64 p] 3)).heap.size = w.heap.size + 1 + 1 := by simp
  have HV := Lib.hid (hv.on hb)
  have HB := Lib.hid hb
  have Q0 := Lib.hid q0
  have Q1 := Lib.hid q1
  have HSZ := Lib.hid hsz
  have HTK := Lib.hid implTreeKeys_any
  have HKL := Lib.hid (treeKeys_len ts)
  clear hv hb q0 q1 hsz
  unfold keysOfK
  obtain ⟨L, hL⟩ : ∃ L, treeKeysK ts = L := ⟨_, rfl⟩
  rw [hL] at HKL ⊢
  have HL := Lib.hid hL
  clear hL
  go_enter Tryz.func241, Tryz.ntmps241
  go_upto_region 1 with (fail)
  generalize (w.alloc (.cells #[.slice A lo.length c, .slice A' ts.length c'] 27)).alloc (.cells #[.int .i64 p] 3) = W at *
  obtain ⟨x0, x1, x2⟩ := box2 Q0.out
  go_wp2_with fail
  refine (HTK.out _ _ lo ts _ HV.out hn hs).mono ?_
  rintro r w1 ⟨v1, rfl, o1, b1⟩
  rw [HL.out] at o1
  obtain ⟨A1, d1, rfl, _, _⟩ := o1.shape
  have O1 := Lib.hid o1
  have P1 := Lib.hid (box_on Q1.out b1)
  have B1 := Lib.hid b1
  clear o1 b1 x0 x1 x2
  go_wp2_with fail
  refine (deleteFuncK_any _ L p (w.heap.size + 1) W.heap.size _ O1.out B1.out.size P1.out (by have := HSZ.out; omega) (by have := HKL.out; omega)).mono ?_
  rintro r w2 ⟨v2, rfl, o2, b2⟩
  obtain ⟨A2, d2, rfl, _, _⟩ := o2.shape
  have O2 := Lib.hid (o2.mono HB.out.size)
  have B2 := Lib.hid (bstep HB.out (B1.out.trans b2))
  clear o2 b2
  go_wp2
  go_ret
  exact ⟨_, rfl, O2.out, B2.out⟩
end Go.Proofs.YtlhemcjahcmdeaaGreatDoor
namespace Go.Proofs.YtlhemcjahcmdeaaGreatDoor
open Go.RowKit
set_option maxRecDepth 100000
set_option linter.unusedSimpArgs false
set_option linter.unusedVariables false

/-- The closure of refs. -/
theorem refs1_any (k : KeyD) (w : World) :
    Calls Tryz.prog 334 #[k.v] w (SaysBool w (k.c != 1)) := by
  unfold KeyD.v keyV
  have Q0 := Lib.hid (al1 w (.cells #[.int .i64 k.a, .int .i64 k.b, .int .i64 k.c, .int .i64 k.d, .int .i64 k.e] 112))
  have b0 := bal1 w (.cells #[.int .i64 k.a, .int .i64 k.b, .int .i64 k.c, .int .i64 k.d, .int .i64 k.e] 112)
  have HB := Lib.hid b0
  clear b0
  obtain ⟨R, hR⟩ : ∃ R, (k.c != 1) = R := ⟨_, rfl⟩
  rw [hR]
  go_enter Tryz.func334, Tryz.ntmps334
  go_upto_region 1 with (fail)
  generalize w.alloc (.cells #[.int .i64 k.a, .int .i64 k.b, .int .i64 k.c, .int .i64 k.d, .int .i64 k.e] 112) = W at *
  obtain ⟨x0, x1, x2, x3, x4, x5⟩ := box5 Q0.out
  cases R
  all_goals
    go_wp2
    go_ret
    exact ⟨rfl, HB.out⟩
set_option maxHeartbeats 1000000 in
theorem indexFuncR_any (v : Value) (l : List KeyD) (w : World) (hv : Reads w w.heap.size v (keysD l)) (hn : l.length ≤ 2097152) :
    Calls Tryz.prog 333 #[v, .func (.func 334) #[] #[]] w fun e w' => ∃ n : Int, e = .returned (.int .i64 n) ∧ Below w.heap.size w w' ∧
      ((n = -1 ∧ ∀ j (hj : j < l.length), ((l[j]).c == 1) = true) ∨ ∃ m : Nat, n = (m : Int) ∧ ∃ h : m < l.length, ((l[m]).c == 1) = false ∧ ∀ j (hj : j < m), ((l[j]'(by omega)).c == 1) = true) := by
  obtain ⟨A, c, rfl, _, _⟩ := hv.shapeK
  have HT := Lib.hid refs1_any
  unfold KeyD.v keyV at HT
  have HV := Lib.hid hv
  clear hv
  go_enter Tryz.func333, Tryz.ntmps333
  go_wp2
  go_loopw [5, 8] (fun _ i wr => ∃ k : Nat, k ≤ l.length ∧ i = .int .i64 k ∧ Hid (∀ j (hj : j < k) (hl : j < l.length), ((l[j]).c == 1) = true) ∧ Hid (Below w.heap.size w wr)) (fun _ i _ => l.length - (intOf i).toNat)
  case atStart => exact ⟨0, Nat.zero_le _, rfl, Lib.hid (fun j hj => by omega), Lib.hid (Below.refl _ _)⟩
  case round =>
    obtain ⟨k, hk, rfl, HI, HB⟩ := hrel
    by_cases hlt : k < l.length
    · obtain ⟨b, off, rfl, hbb, hc⟩ := (HV.out.on HB.out).keys hlt
      have i1 : (k : Int) < (l.length : Int) := by omega
      have i2 : (0 : Int) ≤ (k : Int) := by omega
      obtain ⟨c0, c1, c2, c3, c4⟩ := hc k hlt
      clear hc
      cases hs : ((l[k]).c == 1)
      · have HN : Hid (((l[k]).c != 1) = true) := Lib.hid (by simp only [bne, hs]; rfl)
        have HS := Lib.hid hs
        clear hs
        go_wp2_with fail
        go_at_call 334
        refine (HT.out l[k] _).mono ?_
        rintro r w8 ⟨rfl, b8⟩
        rw [HN.out]
        have B8 := Lib.hid (bstep HB.out b8)
        clear b8 c0 c1 c2 c3 c4
        go_wp2
        go_ret
        exact ⟨_, rfl, B8.out, .inr ⟨k, rfl, hlt, HS.out, fun j hj => HI.out j hj (by omega)⟩⟩
      · have HN : Hid (((l[k]).c != 1) = false) := Lib.hid (by simp only [bne, hs]; rfl)
        have HS := Lib.hid hs
        clear hs
        go_wp2_with fail
        go_at_call 334
        refine (HT.out l[k] _).mono ?_
        rintro r w8 ⟨rfl, b8⟩
        rw [HN.out]
        have B8 := Lib.hid (bstep HB.out b8)
        clear b8 c0 c1 c2 c3 c4
        go_wp2
        go_roundw
        case rel => exact ⟨k + 1, by omega, by go_num, Lib.hid (fun j hj hl => by
          by_cases hjk : j < k
          · exact HI.out j hjk hl
          · have : j = k := by omega
            subst this
            exact HS.out), B8⟩
        case measure => simp [intOf]; omega
    · go_wp2
      go_ret
      exact ⟨_, rfl, HB.out, .inl ⟨rfl, fun j hj => HI.out j (by omega) hj⟩⟩
set_option maxHeartbeats 4000000 in
theorem deleteFuncR_any (v : Value) (l : List KeyD) (base : Nat) (w : World) (hv : RowK w base v l) (hb : base ≤ w.heap.size) (hn : l.length ≤ 2097152) :
    Calls Tryz.prog 303 #[v, .func (.func 334) #[] #[]] w fun e w' => ∃ v', e = .returned v' ∧ RowK w' base v' (l.filter (fun k => k.c == 1)) ∧ Below base w w' := by
  have HT := Lib.hid refs1_any
  unfold KeyD.v keyV at HT
  have HIF := Lib.hid (indexFuncR_any v l w hv.owns.reads hn)
  have HV := Lib.hid hv
  rcases hv.owns.rwK with ⟨rfl, rfl⟩ | ⟨g, cap, rfl, hbg, hR, hcap, hmax⟩
  · clear hv
    go_enter Tryz.func303, Tryz.ntmps303
    go_wp2_with fail
    refine HIF.out.mono ?_
    rintro r w1 ⟨n, rfl, b1, ⟨rfl, _⟩ | ⟨m, rfl, hm, _⟩⟩
    · have B1 := Lib.hid (b1.mono hb)
      have O1 := Lib.hid (HV.out.on b1)
      clear b1
      go_wp2
      go_ret
      exact ⟨_, rfl, O1.out, B1.out⟩
    · simp at hm
  · have HRW := Lib.hid hR
    clear hv hR
    go_enter Tryz.func303, Tryz.ntmps303
    go_wp2_with fail
    refine HIF.out.mono ?_
    rintro r w1 ⟨n, rfl, b1, ⟨rfl, hall⟩ | ⟨m, rfl, hm, hno, hyes⟩⟩
    · have B1 := Lib.hid (b1.mono hb)
      have O1 := Lib.hid (HV.out.on b1)
      have HA : Hid (l.filter (fun k => k.c == 1) = l) := Lib.hid (all_kept (q := fun k => k.c == 1) hall)
      clear b1 hall
      go_wp2
      go_ret
      rw [HA.out]
      exact ⟨_, rfl, O1.out, B1.out⟩
    · have B1 := Lib.hid (b1.mono hb)
      have R1 := Lib.hid (Rw.keep HRW.out (b1.block g (Rw.lt HRW.out)))
      have D1 := Lib.hid (DelIn.start (q := fun k => k.c == 1) hm hno hyes)
      have hm1 : ((m : Int) == -1) = false := beq_eq_false_iff_ne.2 (by omega)
      have i0 : IntKind.i64.wrap ((m : Int) + 1) = (m : Int) + 1 := by rw [IntKind.wrap_i64]; omega
      have HSZ := Lib.hid b1.size
      clear b1 hno hyes HIF HV HRW
      go_wp2
      clear hm1 i0
      go_loopw [5, 6, 7] (fun i j _ wr => ∃ (i' j' : Nat) (t : List KeyD), i = .int .i64 i' ∧ j = .int .i64 j' ∧ Hid (DelIn (fun k => k.c == 1) l t i' j') ∧ Hid (RwK wr g cap t) ∧ Hid (base ≤ wr.heap.size) ∧ Hid (Below base w wr)) (fun _ j _ _ => l.length - (intOf j).toNat)
      case atStart => exact ⟨m, m + 1, l, rfl, by go_num, D1, R1, Lib.hid (Nat.le_trans hb HSZ.out), B1⟩
      case round =>
        clear D1 R1 HSZ B1 hm
        obtain ⟨i, j, t, rfl, rfl, HD, HR, HZ, HB⟩ := hrel
        have hD := HD.out
        have hij := hD.ij
        have hjl := hD.jl
        have htl := hD.len
        by_cases hlt : j < l.length
        · obtain ⟨c0, c1, c2, c3, c4⟩ := HR.out.at5 (i := j) (by omega) (by omega) hmax
          rw [hD.at hlt] at c0 c1 c2 c3 c4
          have i1 : (j : Int) < (l.length : Int) := by omega
          have i2 : (0 : Int) ≤ (j : Int) := by omega
          have hq0 := al1 wr (.cells #[.int .i64 (l[j]).a, .int .i64 (l[j]).b, .int .i64 (l[j]).c, .int .i64 (l[j]).d, .int .i64 (l[j]).e] 112)
          have ba := bal1 wr (.cells #[.int .i64 (l[j]).a, .int .i64 (l[j]).b, .int .i64 (l[j]).c, .int .i64 (l[j]).d, .int .i64 (l[j]).e] 112)
          have HQ := Lib.hid hq0
          have HR2 := Lib.hid (Rw.keep HR.out (ba.block g (Rw.lt HR.out)))
          have HB2 := Lib.hid (HB.out.trans (ba.mono HZ.out))
          have HZ2 := Lib.hid (Nat.le_trans HZ.out ba.size)
          clear hq0 ba hD
          cases hs : ((l[j]).c == 1)
          · have HN : Hid (((l[j]).c != 1) = true) := Lib.hid (by simp only [bne, hs]; rfl)
            have HS := Lib.hid hs
            clear hs
            go_wp2_with fail
            go_at_call 334
            refine (HT.out l[j] _).mono ?_
            rintro r w8 ⟨rfl, b8⟩
            rw [HN.out]
            have R8 := Lib.hid (Rw.keep HR2.out (b8.block g (Rw.lt HR2.out)))
            have B8 := Lib.hid (HB2.out.trans (b8.mono HZ2.out))
            have Z8 := Lib.hid (Nat.le_trans HZ2.out b8.size)
            clear b8 c0 c1 c2 c3 c4 HQ HR2 HB2 HZ2 HR HB HZ
            go_wp2
            go_roundw
            case rel => exact ⟨i, j + 1, t, rfl, by go_num, Lib.hid (HD.out.drop hlt HS.out), R8, Z8, B8⟩
            case measure => simp [intOf]; omega
          · have HN : Hid (((l[j]).c != 1) = false) := Lib.hid (by simp only [bne, hs]; rfl)
            have HS := Lib.hid hs
            clear hs
            go_wp2_with fail
            go_at_call 334
            refine (HT.out l[j] _).mono ?_
            rintro r w8 ⟨rfl, b8⟩
            rw [HN.out]
            have R8 := Lib.hid (Rw.keep HR2.out (b8.block g (Rw.lt HR2.out)))
            have B8 := Lib.hid (HB2.out.trans (b8.mono HZ2.out))
            have Z8 := Lib.hid (Nat.le_trans HZ2.out b8.size)
            obtain ⟨q0, q1, q2, q3, q4, q5⟩ := box5 (box_on HQ.out b8)
            clear b8 c0 c1 c2 c3 c4 HQ HR2 HB2 HZ2 HR HB HZ
            have hil : i < t.length := by omega
            have R9 := Lib.hid (RwK.set R8.out hil l[j])
            have B9 := Lib.hid (b5 (i := i * 5) (u1 := .int .i64 (l[j]).a) (u2 := .int .i64 (l[j]).b) (u3 := .int .i64 (l[j]).c) (u4 := .int .i64 (l[j]).d) (u5 := .int .i64 (l[j]).e) B8.out hbg)
            have hz5 : ∀ z, z < 5 → ∃ v, w8.cell? ⟨g, i * 5 + z, none⟩ = some v := RwK.five R8.out hil
            obtain ⟨v0, d0⟩ := hz5 0 (by omega)
            obtain ⟨v1, d1⟩ := hz5 1 (by omega)
            obtain ⟨v2, d2⟩ := hz5 2 (by omega)
            obtain ⟨v3, d3⟩ := hz5 3 (by omega)
            obtain ⟨v4, d4⟩ := hz5 4 (by omega)
            rw [Nat.add_zero] at d0
            have f0 := Rw.frozen R8.out (i * 5)
            have f1 := Rw.frozen R8.out (i * 5 + 1)
            have f2 := Rw.frozen R8.out (i * 5 + 2)
            have f3 := Rw.frozen R8.out (i * 5 + 3)
            have f4 := Rw.frozen R8.out (i * 5 + 4)
            have i3 : (i : Int) < (l.length : Int) := by omega
            have i4 : (0 : Int) ≤ (i : Int) := by omega
            have i5 : IntKind.i64.wrap ((i : Int) + 1) = (i : Int) + 1 := by rw [IntKind.wrap_i64]; omega
            clear hz5
            go_wp2
            go_roundw
            case rel => exact ⟨i + 1, j + 1, t.set i l[j], by go_num, by go_num, Lib.hid (HD.out.keep hlt HS.out), R9, Lib.hid (by simpa using Z8.out), B9⟩
            case measure => simp [intOf]; omega
        · obtain ⟨hF, hFl, hil⟩ := hD.done hlt
          obtain ⟨cur, hh, hsz, htk⟩ := HR.out
          obtain ⟨zs, hzl, hcl⟩ := clear_keys wr g (i * 5) (l.length - i) cur _ hh (by omega) (by rw [hsz]; omega)
          have FIN : Hid (RowK (wr.setCells g (i * 5) zs) base (.slice (some ⟨g, 0, none⟩) i cap) (l.filter (fun k => k.c == 1)) ∧ Below base w (wr.setCells g (i * 5) zs)) := by
            refine Lib.hid ⟨?_, below_lay hbg _ _ _ _ HB.out⟩
            refine ⟨by rw [kvl_len], .inr ⟨g, cap, _, by rw [← hFl], hbg, heap_lay g _ _ _ _ _ hh, by omega, hmax, by rw [layA_size]; exact hsz, ?_⟩⟩
            rw [← hFl, layA_list _ _ _ (by rw [hzl, hsz]; omega), List.take_append_of_le_length (by rw [List.length_take, Array.length_toList, hsz]; omega), List.take_take, Nat.min_self, ← hF, ← kvl_take, ← htk, List.take_take, show min (i * 5) (t.length * 5) = i * 5 by omega]
          have i1 : ¬ (j : Int) < (l.length : Int) := by omega
          have i2 : (0 : Int) ≤ (i : Int) := by omega
          have i3 : (i : Int) ≤ (l.length : Int) := by omega
          have i4 : (l.length : Int) ≤ (cap : Int) := by omega
          have i5 : (i : Int) ≤ (cap : Int) := by omega
          have i6 : i ≤ cap := by omega
          have i7 : ¬ cap = i := by omega
          clear hF hFl hh hsz htk hzl hD HD HR HB HZ
          go_wp2
          go_ret
          exact ⟨_, rfl, FIN.out.1, FIN.out.2⟩
theorem treeKeysM_any (vl vn : Value) (lo : List Int) (ts : List NodeD) (w : World) (hv : RdT w w.heap.size vl vn lo ts) (hn : ts.length ≤ 1048576) (hs : sumT ts ≤ 1048576) :
    Calls Tryz.prog 288 #[.agg #[vl, vn]] w (NewK w (treeKeysK ts)) := by
  have HK := Lib.hid (fun W b => implTreeKeys_any vl vn lo ts W (hv.on b) hn hs)
  obtain ⟨A, c, A', c', rfl, rfl⟩ := hv.shape
  have b0 := Lib.hid (bal1 w (.cells #[.slice A lo.length c, .slice A' ts.length c'] 27))
  clear hv
  go_enter Tryz.func288, Tryz.ntmps288
  go_wp2_with fail
  refine (HK.out _ b0.out).mono ?_
  rintro e w1 ⟨v, rfl, o, b⟩
  have O := Lib.hid (o.mono b0.out.size)
  have B := Lib.hid (bstep b0.out b)
  clear o b
  go_wp2
  go_ret
  exact ⟨v, rfl, O.out, B.out⟩
theorem refs_any (vl vn : Value) (lo : List Int) (ts : List NodeD) (w : World) (hv : RdT w w.heap.size vl vn lo ts) (hn : ts.length ≤ 1048576) (hs : sumT ts ≤ 1048576) (hl : (treeKeysK ts).length ≤ 2097152) :
    Calls Tryz.prog 290 #[.agg #[vl, vn]] w (NewK w (refsK (treeKeysK ts))) := by
  have HK := Lib.hid (fun W b => treeKeysM_any vl vn lo ts W (hv.on b) hn hs)
  obtain ⟨A, c, A', c', rfl, rfl⟩ := hv.shape
  have b0 := Lib.hid (bal1 w (.cells #[.slice A lo.length c, .slice A' ts.length c'] 27))
  clear hv
  go_enter Tryz.func290, Tryz.ntmps290
  go_wp2_with fail
  refine (HK.out _ b0.out).mono ?_
  rintro e w1 ⟨v, rfl, o, b⟩
  have B := Lib.hid (bstep b0.out b)
  have hz := b.size
  have hz2 := b0.out.size
  have HD := Lib.hid (deleteFuncR_any v (treeKeysK ts) w.heap.size w1 (o.mono hz2) (by omega) hl)
  clear o b
  go_wp2_with fail
  refine HD.out.mono ?_
  rintro e w2 ⟨v2, rfl, o2, b2⟩
  have O := Lib.hid o2
  have BB := Lib.hid (B.out.trans b2)
  clear o2 b2
  go_wp2
  go_ret
  exact ⟨v2, rfl, O.out, BB.out⟩
end Go.Proofs.YtlhemcjahcmdeaaGreatDoor
namespace Go.Proofs.YtlhemcjahcmdeaaGreatDoor
open Go.RowKit
set_option maxRecDepth 100000
set_option linter.unusedSimpArgs false
set_option linter.unusedVariables false

theorem mappingsOf_any {t : TypeId} (vl vn va vc vv : Value) (d : PoolD) (w : World) (h : RdP t w w.heap.size vl vn va vc vv d) : Calls Tryz.prog 170 #[.agg #[vl, vn, va, vc, vv, .int .i64 d.nx]] w fun e w' => e = .returned (.agg #[vl, vn, va, vc]) ∧ Below w.heap.size w w' := by
  obtain ⟨A0, c0, A1, c1, A2, c2, A3, c3, A4, c4, rfl, rfl, rfl, rfl, rfl⟩ := h.shape
  clear h
  go_enter Tryz.func170, Tryz.ntmps170
  go_wp2
  refine bodyPost_ret (v := .agg #[.slice A0 d.lo.length c0, .slice A1 d.ts.length c1, .slice A2 d.ag.length c2, .slice A3 d.ce.length c3]) (by simp [results, Tryz.results170, go_sem, *]) rfl ⟨rfl, ?_⟩
  exact bal2 _ _ _
/-- The closure of nextOk, bound to the pool's box. -/
theorem nextOk1_any (d : PoolD) (k : AgeD) (pb : Nat) (a0 a1 a2 a3 a4 : Value) (w : World) (hp : w.heap[pb]? = some (.cells #[a0, a1, a2, a3, a4, .int .i64 d.nx] 32 (0, 0))) :
    Calls Tryz.prog 284 #[.agg #[.int .i64 k.a, .int .i64 k.b], .pointer (some ⟨pb, 0, none⟩)] w (SaysBool w (!decide (k.a < d.nx))) := by
  have Q0 := Lib.hid (al1 w (.cells #[.int .i64 k.a, .int .i64 k.b] 155))
  have b0 := bal1 w (.cells #[.int .i64 k.a, .int .i64 k.b] 155)
  have HB := Lib.hid b0
  have HP := Lib.hid (boxP (box_on hp b0)).2.2.2.2.2.1
  clear hp b0
  go_enter Tryz.func284, Tryz.ntmps284
  go_upto_region 1 with (fail)
  generalize w.alloc (.cells #[.int .i64 k.a, .int .i64 k.b] 155) = W at *
  obtain ⟨x0, x1, x2⟩ := box2 Q0.out
  have y0 := HP.out
  by_cases hs : k.a < d.nx
  · have e1 : decide (k.a ≥ d.nx) = false := decide_eq_false (by omega)
    go_wp2
    go_ret
    exact ⟨by rw [decide_eq_true hs]; rfl, HB.out⟩
  · have e1 : decide (k.a ≥ d.nx) = true := decide_eq_true (by omega)
    go_wp2
    go_ret
    exact ⟨by rw [decide_eq_false (by omega)]; rfl, HB.out⟩
theorem allP_miss {α : Type} {p : α → Bool} {l : List α} {k : Nat} (h : k < l.length) (hp : p l[k] = false) : l.all p = false := by
  rw [List.all_eq_false]
  exact ⟨_, List.getElem_mem h, by rw [hp]; simp⟩
theorem allP_snoc {α : Type} {p : α → Bool} {l : List α} {k : Nat} (h : k < l.length) (hi : ∀ j (hj : j < k) (hl : j < l.length), p l[j] = true) (hp : p l[k] = true) : ∀ j (hj : j < k + 1) (hl : j < l.length), p l[j] = true := by
  intro j hj hl
  by_cases h3 : j < k
  · exact hi j h3 hl
  · have : j = k := by omega
    subst this
    exact hp
theorem allP_done {α : Type} {p : α → Bool} {l : List α} (h : ∀ j (hl : j < l.length), p l[j] = true) : l.all p = true := by
  rw [List.all_eq_true]
  intro v hv
  obtain ⟨i, hi, rfl⟩ := List.mem_iff_getElem.1 hv
  exact h i hi
set_option maxHeartbeats 1000000 in
theorem indexFuncN_any (v : Value) (l : List AgeD) (d : PoolD) (pb : Nat) (a0 a1 a2 a3 a4 : Value) (w : World) (hv : Reads w w.heap.size v (agesD l)) (hp : w.heap[pb]? = some (.cells #[a0, a1, a2, a3, a4, .int .i64 d.nx] 32 (0, 0))) (hn : l.length ≤ 2097152) :
    Calls Tryz.prog 330 #[v, .func (.func 284) #[] #[.pointer (some ⟨pb, 0, none⟩)]] w fun e w' => ∃ n : Int, e = .returned (.int .i64 n) ∧ decide (n ≥ 0) = !(l.all (fun k => decide (k.a < d.nx))) ∧ Below w.heap.size w w' := by
  obtain ⟨A, c, rfl, _, _⟩ := hv.shapeG
  have HT := Lib.hid (nextOk1_any d)
  have HV := Lib.hid hv
  have HP := Lib.hid hp
  clear hv hp
  go_enter Tryz.func330, Tryz.ntmps330
  go_wp2
  go_loopw [5, 8] (fun _ i wr => ∃ k : Nat, k ≤ l.length ∧ i = .int .i64 k ∧ Hid (∀ j (hj : j < k) (hl : j < l.length), (fun k : AgeD => decide (k.a < d.nx)) l[j] = true) ∧ Hid (Below w.heap.size w wr)) (fun _ i _ => l.length - (intOf i).toNat)
  case atStart => exact ⟨0, Nat.zero_le _, rfl, Lib.hid (fun j hj => by omega), Lib.hid (Below.refl _ _)⟩
  case round =>
    obtain ⟨k, hk, rfl, HI, HB⟩ := hrel
    by_cases hlt : k < l.length
    · obtain ⟨b, off, rfl, hbb, hc⟩ := (HV.out.on HB.out).ages hlt
      have i1 : (k : Int) < (l.length : Int) := by omega
      have i2 : (0 : Int) ≤ (k : Int) := by omega
      obtain ⟨c0, c1⟩ := hc k hlt
      have HX := Lib.hid (HT.out l[k] pb a0 a1 a2 a3 a4 wr (box_on HP.out HB.out))
      clear hc
      cases hs : (fun k : AgeD => decide (k.a < d.nx)) l[k]
      · have HA : Hid (l.all (fun k => decide (k.a < d.nx)) = false) := Lib.hid (allP_miss (p := fun k : AgeD => decide (k.a < d.nx)) hlt hs)
        rw [show (decide ((l[k]).a < d.nx)) = false from hs] at HX
        clear hs
        go_wp2_with fail
        go_at_call 284
        refine HX.out.mono ?_
        rintro r w8 ⟨rfl, b8⟩
        have B8 := Lib.hid (bstep HB.out b8)
        have HQ : Hid (decide ((k : Int) ≥ 0) = true) := Lib.hid (decide_eq_true (by omega))
        clear b8 c0 c1
        go_wp2
        go_ret
        exact ⟨_, rfl, by rw [HA.out]; exact HQ.out, B8.out⟩
      · have HA := Lib.hid (allP_snoc (p := fun k : AgeD => decide (k.a < d.nx)) hlt HI.out hs)
        rw [show (decide ((l[k]).a < d.nx)) = true from hs] at HX
        clear hs
        go_wp2_with fail
        go_at_call 284
        refine HX.out.mono ?_
        rintro r w8 ⟨rfl, b8⟩
        have B8 := Lib.hid (bstep HB.out b8)
        clear b8 c0 c1
        go_wp2
        go_roundw
        case rel => exact ⟨k + 1, by omega, by go_num, HA, B8⟩
        case measure => simp [intOf]; omega
    · have HA : Hid (l.all (fun k => decide (k.a < d.nx)) = true) := Lib.hid (allP_done (p := fun k : AgeD => decide (k.a < d.nx)) (fun j hl => HI.out j (by omega) hl))
      go_wp2
      go_ret
      exact ⟨_, rfl, by rw [HA.out]; rfl, HB.out⟩
theorem containsN_any (v : Value) (l : List AgeD) (d : PoolD) (pb : Nat) (a0 a1 a2 a3 a4 : Value) (w : World) (hv : Reads w w.heap.size v (agesD l)) (hp : w.heap[pb]? = some (.cells #[a0, a1, a2, a3, a4, .int .i64 d.nx] 32 (0, 0))) (hn : l.length ≤ 2097152) :
    Calls Tryz.prog 283 #[v, .func (.func 284) #[] #[.pointer (some ⟨pb, 0, none⟩)]] w (SaysBool w (!(l.all (fun k => decide (k.a < d.nx))))) := by
  have HI := Lib.hid (indexFuncN_any v l d pb a0 a1 a2 a3 a4 w hv hp hn)
  obtain ⟨R, hR⟩ : ∃ R, (!(l.all (fun k => decide (k.a < d.nx)))) = R := ⟨_, rfl⟩
  rw [hR] at HI ⊢
  clear hR
  obtain ⟨A, c, rfl, _, _⟩ := hv.shapeG
  clear hv hp
  go_enter Tryz.func283, Tryz.ntmps283
  go_wp2_with fail
  refine HI.out.mono ?_
  rintro r w1 ⟨n, rfl, hd, b⟩
  have HB := Lib.hid b
  clear b
  go_wp2
  go_ret
  exact ⟨rfl, HB.out⟩
theorem nextOk_any {t : TypeId} (vl vn va vc vv : Value) (d : PoolD) (w : World) (h : RdP t w w.heap.size vl vn va vc vv d) (hs : SmallP d) : Calls Tryz.prog 223 #[.agg #[vl, vn, va, vc, vv, .int .i64 d.nx]] w (SaysBool w (nextB d)) := by
  have hg : d.ag.length ≤ 2097152 := by have := hs.2.1; omega
  obtain ⟨A0, c0, A1, c1, A2, c2, A3, c3, A4, c4, rfl, rfl, rfl, rfl, rfl⟩ := h.shape
  have HB := Lib.hid (bal1 w (.cells #[.slice A0 d.lo.length c0, .slice A1 d.ts.length c1, .slice A2 d.ag.length c2, .slice A3 d.ce.length c3, .slice A4 d.vo.length c4, .int .i64 d.nx] 32))
  have Q0 := Lib.hid (al1 w (.cells #[.slice A0 d.lo.length c0, .slice A1 d.ts.length c1, .slice A2 d.ag.length c2, .slice A3 d.ce.length c3, .slice A4 d.vo.length c4, .int .i64 d.nx] 32))
  have HC := Lib.hid (containsN_any (.slice A2 d.ag.length c2) d.ag d w.heap.size _ _ _ _ _ _ (h.2.1.on HB.out) Q0.out hg)
  obtain ⟨R, hR⟩ : ∃ R, nextB d = R := ⟨_, rfl⟩
  rw [hR]
  unfold nextB at hR
  have HX := Lib.hid hR.symm
  clear h hs hR hg
  obtain ⟨S, hS⟩ : ∃ S, d.ag.all (fun a => decide (a.a < d.nx)) = S := ⟨_, rfl⟩
  rw [hS] at HX HC
  clear hS
  go_enter Tryz.func223, Tryz.ntmps223
  go_upto_region 1 with (fail)
  generalize w.alloc (.cells #[.slice A0 d.lo.length c0, .slice A1 d.ts.length c1, .slice A2 d.ag.length c2, .slice A3 d.ce.length c3, .slice A4 d.vo.length c4, .int .i64 d.nx] 32) = W at *
  obtain ⟨x0, x1, x2, x3, x4, x5, x6⟩ := boxP Q0.out
  go_wp2_with fail
  refine HC.out.mono ?_
  rintro e w1 ⟨rfl, b1⟩
  replace Q0 := Lib.hid (box_on Q0.out b1)
  replace HB := Lib.hid (bstep HB.out b1)
  clear x0 x1 x2 x3 x4 x5 x6 b1
  obtain ⟨x0, x1, x2, x3, x4, x5, x6⟩ := boxP Q0.out
  by_cases h1 : 1 ≤ d.nx
  · have e1 : decide (d.nx ≥ 1) = true := decide_eq_true (by omega)
    by_cases h2 : d.nx ≤ 61
    · have e2 : decide (d.nx ≤ 61) = true := decide_eq_true h2
      have HF : Hid (R = S) := Lib.hid (by rw [HX.out, decide_eq_true h1, e2]; rfl)
      cases S
      all_goals
        go_wp2
        go_ret
        exact ⟨by rw [HF.out]; rfl, HB.out⟩
    · have e2 : decide (d.nx ≤ 61) = false := decide_eq_false h2
      have HF : Hid (R = false) := Lib.hid (by rw [HX.out, e2, Bool.and_false]; rfl)
      go_wp2
      go_ret
      exact ⟨by rw [HF.out]; rfl, HB.out⟩
  · have e1 : decide (d.nx ≥ 1) = false := decide_eq_false (by omega)
    have HF : Hid (R = false) := Lib.hid (by rw [HX.out, decide_eq_false h1]; rfl)
    go_wp2
    go_ret
    exact ⟨by rw [HF.out]; rfl, HB.out⟩
/-- The closure of agesExist, bound to the mappings' box. -/
theorem agesExist1_any (k : KeyD) (ag : List AgeD) (pb : Nat) (a0 a1 a3 A : Value) (w : World) (hv : Reads w w.heap.size A (agesD ag)) (hn : ag.length ≤ 2097152) (hp : w.heap[pb]? = some (.cells #[a0, a1, A, a3] 201 (0, 0))) :
    Calls Tryz.prog 289 #[k.v, .pointer (some ⟨pb, 0, none⟩)] w (SaysBool w (!decide (0 ≤ ageAtK ag k.b))) := by
  unfold KeyD.v keyV
  have HA := Lib.hid (fun W b => implAgeAt_any A ag k.b W (hv.on b) hn)
  obtain ⟨A2, c2, rfl, _, _⟩ := hv.shapeG
  have Q0 := Lib.hid (al1 w (.cells #[.int .i64 k.a, .int .i64 k.b, .int .i64 k.c, .int .i64 k.d, .int .i64 k.e] 112))
  have b0 := bal1 w (.cells #[.int .i64 k.a, .int .i64 k.b, .int .i64 k.c, .int .i64 k.d, .int .i64 k.e] 112)
  have HB := Lib.hid b0
  have HP := Lib.hid (box4 (box_on hp b0)).2.2.1
  clear hp b0 hv
  go_enter Tryz.func289, Tryz.ntmps289
  go_upto_region 1 with (fail)
  generalize w.alloc (.cells #[.int .i64 k.a, .int .i64 k.b, .int .i64 k.c, .int .i64 k.d, .int .i64 k.e] 112) = W at *
  obtain ⟨x0, x1, x2, x3, x4, x5⟩ := box5 Q0.out
  have y0 := HP.out
  go_wp2_with fail
  refine (HA.out _ HB.out).mono ?_
  rintro e w1 ⟨rfl, b1⟩
  have B1 := Lib.hid (bstep HB.out b1)
  clear b1 x0 x1 x2 x3 x4 x5 y0
  generalize ageAtK ag k.b = n at *
  by_cases h0 : 0 ≤ n
  · have e1 : decide (n < 0) = false := decide_eq_false (by omega)
    go_wp2
    go_ret
    exact ⟨by rw [decide_eq_true h0]; rfl, B1.out⟩
  · have e1 : decide (n < 0) = true := decide_eq_true (by omega)
    go_wp2
    go_ret
    exact ⟨by rw [decide_eq_false (by omega)]; rfl, B1.out⟩
set_option maxHeartbeats 1000000 in
theorem indexFuncG_any (v : Value) (l : List KeyD) (ag : List AgeD) (pb : Nat) (a0 a1 a3 A : Value) (w : World) (hv : Reads w w.heap.size v (keysD l)) (ha : Reads w w.heap.size A (agesD ag)) (hng : ag.length ≤ 2097152) (hp : w.heap[pb]? = some (.cells #[a0, a1, A, a3] 201 (0, 0))) (hn : l.length ≤ 2097152) :
    Calls Tryz.prog 333 #[v, .func (.func 289) #[] #[.pointer (some ⟨pb, 0, none⟩)]] w fun e w' => ∃ n : Int, e = .returned (.int .i64 n) ∧ decide (n ≥ 0) = !(l.all (fun k => decide (0 ≤ ageAtK ag k.b))) ∧ Below w.heap.size w w' := by
  obtain ⟨AA, c, rfl, _, _⟩ := hv.shapeK
  have HT := Lib.hid (agesExist1_any)
  have HV := Lib.hid hv
  have HP := Lib.hid hp
  have HG := Lib.hid ha
  clear ha
  unfold KeyD.v keyV at HT
  clear hv hp
  go_enter Tryz.func333, Tryz.ntmps333
  go_wp2
  go_loopw [5, 8] (fun _ i wr => ∃ k : Nat, k ≤ l.length ∧ i = .int .i64 k ∧ Hid (∀ j (hj : j < k) (hl : j < l.length), (fun k : KeyD => decide (0 ≤ ageAtK ag k.b)) l[j] = true) ∧ Hid (Below w.heap.size w wr)) (fun _ i _ => l.length - (intOf i).toNat)
  case atStart => exact ⟨0, Nat.zero_le _, rfl, Lib.hid (fun j hj => by omega), Lib.hid (Below.refl _ _)⟩
  case round =>
    obtain ⟨k, hk, rfl, HI, HB⟩ := hrel
    by_cases hlt : k < l.length
    · obtain ⟨b, off, rfl, hbb, hc⟩ := (HV.out.on HB.out).keys hlt
      have i1 : (k : Int) < (l.length : Int) := by omega
      have i2 : (0 : Int) ≤ (k : Int) := by omega
      obtain ⟨c0, c1, c2, c3, c4⟩ := hc k hlt
      have HX := Lib.hid (HT.out l[k] ag pb a0 a1 a3 A wr (HG.out.on HB.out) hng (box_on HP.out HB.out))
      clear hc
      cases hs : (fun k : KeyD => decide (0 ≤ ageAtK ag k.b)) l[k]
      · have HA : Hid (l.all (fun k => decide (0 ≤ ageAtK ag k.b)) = false) := Lib.hid (allP_miss (p := fun k : KeyD => decide (0 ≤ ageAtK ag k.b)) hlt hs)
        rw [show (decide (0 ≤ ageAtK ag (l[k]).b)) = false from hs] at HX
        clear hs
        go_wp2_with fail
        go_at_call 289
        refine HX.out.mono ?_
        rintro r w8 ⟨rfl, b8⟩
        have B8 := Lib.hid (bstep HB.out b8)
        have HQ : Hid (decide ((k : Int) ≥ 0) = true) := Lib.hid (decide_eq_true (by omega))
        clear b8 c0 c1 c2 c3 c4
        go_wp2
        go_ret
        exact ⟨_, rfl, by rw [HA.out]; exact HQ.out, B8.out⟩
      · have HA := Lib.hid (allP_snoc (p := fun k : KeyD => decide (0 ≤ ageAtK ag k.b)) hlt HI.out hs)
        rw [show (decide (0 ≤ ageAtK ag (l[k]).b)) = true from hs] at HX
        clear hs
        go_wp2_with fail
        go_at_call 289
        refine HX.out.mono ?_
        rintro r w8 ⟨rfl, b8⟩
        have B8 := Lib.hid (bstep HB.out b8)
        clear b8 c0 c1 c2 c3 c4
        go_wp2
        go_roundw
        case rel => exact ⟨k + 1, by omega, by go_num, HA, B8⟩
        case measure => simp [intOf]; omega
    · have HA : Hid (l.all (fun k => decide (0 ≤ ageAtK ag k.b)) = true) := Lib.hid (allP_done (p := fun k : KeyD => decide (0 ≤ ageAtK ag k.b)) (fun j hl => HI.out j (by omega) hl))
      go_wp2
      go_ret
      exact ⟨_, rfl, by rw [HA.out]; rfl, HB.out⟩
theorem containsG_any (v : Value) (l : List KeyD) (ag : List AgeD) (pb : Nat) (a0 a1 a3 A : Value) (w : World) (hv : Reads w w.heap.size v (keysD l)) (ha : Reads w w.heap.size A (agesD ag)) (hng : ag.length ≤ 2097152) (hp : w.heap[pb]? = some (.cells #[a0, a1, A, a3] 201 (0, 0))) (hn : l.length ≤ 2097152) :
    Calls Tryz.prog 287 #[v, .func (.func 289) #[] #[.pointer (some ⟨pb, 0, none⟩)]] w (SaysBool w (!(l.all (fun k => decide (0 ≤ ageAtK ag k.b))))) := by
  have HI := Lib.hid (indexFuncG_any v l ag pb a0 a1 a3 A w hv ha hng hp hn)
  obtain ⟨R, hR⟩ : ∃ R, (!(l.all (fun k => decide (0 ≤ ageAtK ag k.b)))) = R := ⟨_, rfl⟩
  rw [hR] at HI ⊢
  clear hR
  obtain ⟨AA, c, rfl, _, _⟩ := hv.shapeK
  clear hv hp ha
  go_enter Tryz.func287, Tryz.ntmps287
  go_wp2_with fail
  refine HI.out.mono ?_
  rintro r w1 ⟨n, rfl, hd, b⟩
  have HB := Lib.hid b
  clear b
  go_wp2
  go_ret
  exact ⟨rfl, HB.out⟩
theorem agesExist_any {t : TypeId} (vl vn va vc vv : Value) (d : PoolD) (w : World) (h : RdP t w w.heap.size vl vn va vc vv d) (hs : SmallP d) (hl : (treeKeysK d.ts).length ≤ 2097152) : Calls Tryz.prog 225 #[.agg #[vl, vn, va, vc]] w (SaysBool w (agesB d)) := by
  have hg : d.ag.length ≤ 2097152 := by have := hs.2.1; omega
  have h1 := hs.1
  have HK := Lib.hid (fun W b => treeKeysM_any vl vn d.lo d.ts W (h.1.on b) (by omega) (by omega))
  obtain ⟨A0, c0, A1, c1, A2, c2, A3, c3, A4, c4, rfl, rfl, rfl, rfl, rfl⟩ := h.shape
  have HB := Lib.hid (bal1 w (.cells #[.slice A0 d.lo.length c0, .slice A1 d.ts.length c1, .slice A2 d.ag.length c2, .slice A3 d.ce.length c3] 201))
  have Q0 := Lib.hid (al1 w (.cells #[.slice A0 d.lo.length c0, .slice A1 d.ts.length c1, .slice A2 d.ag.length c2, .slice A3 d.ce.length c3] 201))
  have HG := Lib.hid h.2.1
  clear h hs h1
  unfold agesB
  obtain ⟨R, hR⟩ : ∃ R, (treeKeysK d.ts).all (fun k => decide (0 ≤ ageAtK d.ag k.b)) = R := ⟨_, rfl⟩
  rw [hR]
  have HX := Lib.hid hR
  clear hR
  go_enter Tryz.func225, Tryz.ntmps225
  go_upto_region 1 with (fail)
  generalize w.alloc (.cells #[.slice A0 d.lo.length c0, .slice A1 d.ts.length c1, .slice A2 d.ag.length c2, .slice A3 d.ce.length c3] 201) = W at *
  obtain ⟨x0, x1, x2, x3, x4⟩ := box4 Q0.out
  go_wp2_with fail
  refine (HK.out _ HB.out).mono ?_
  rintro e w1 ⟨v1, rfl, o, b1⟩
  replace Q0 := Lib.hid (box_on Q0.out b1)
  replace HB := Lib.hid (bstep HB.out b1)
  have HC := Lib.hid (containsG_any v1 (treeKeysK d.ts) d.ag w.heap.size _ _ _ _ w1 o.owns.reads (HG.out.on HB.out) hg Q0.out hl)
  rw [HX.out] at HC
  obtain ⟨A5, c5, rfl, _, _⟩ := o.owns.reads.lenN
  clear x0 x1 x2 x3 x4 o b1
  obtain ⟨x0, x1, x2, x3, x4⟩ := box4 Q0.out
  go_wp2_with fail
  refine HC.out.mono ?_
  rintro e w2 ⟨rfl, b1⟩
  replace HB := Lib.hid (bstep HB.out b1)
  clear b1
  cases R
  all_goals
    go_wp2
    go_ret
    exact ⟨rfl, HB.out⟩
end Go.Proofs.YtlhemcjahcmdeaaGreatDoor
namespace Go.Proofs.YtlhemcjahcmdeaaGreatDoor
open Go.RowKit
set_option maxRecDepth 100000
set_option linter.unusedSimpArgs false
set_option linter.unusedVariables false

/-- Block b is a map with the keys L, in the order in which they were stored; under i lies val i. -/
def MapIs (w : World) (b : Nat) (L : List Nat) (val : Nat → Value) : Prop := ∃ es clock, w.heap[b]? = some (.map es clock) ∧ es.toList.map (fun e => (e.key, e.val)) = L.map (fun (i : Nat) => (Value.int .i64 (i : Int), val i))
theorem MapIs.keep {w w' : World} {b : Nat} {L : List Nat} {val : Nat → Value} (h : MapIs w b L val) (hk : w'.heap[b]? = w.heap[b]?) : MapIs w' b L val := by
  obtain ⟨es, c, hb, r⟩ := h
  exact ⟨es, c, hk.trans hb, r⟩
theorem MapIs.lt {w : World} {b : Nat} {L : List Nat} {val : Nat → Value} (h : MapIs w b L val) : b < w.heap.size := by
  obtain ⟨es, c, hb, r⟩ := h
  exact (Array.getElem?_eq_some_iff.1 hb).1
theorem MapIs.on {w w' : World} {b : Nat} {L : List Nat} {val : Nat → Value} (h : MapIs w b L val) (hb : Below w.heap.size w w') : MapIs w' b L val := h.keep (hb.block b h.lt)
theorem find_lem (val : Nat → Value) (k : Nat) : ∀ (L : List Nat) (es : List MapEntry) (i0 : Nat), es.map (fun e => (e.key, e.val)) = L.map (fun (i : Nat) => (Value.int .i64 (i : Int), val i)) →
    Instr.findNow (.int .i64) (.int .i64 (k : Int)) es i0 = some (if k ∈ L then some (i0 + L.idxOf k, val k) else none)
  | [], es, i0, h => by
    have : es = [] := by simpa using h
    subst this; simp [Instr.findNow]
  | j :: L, [], i0, h => by simp at h
  | j :: L, e :: es, i0, h => by
    simp only [List.map_cons, List.cons.injEq, Prod.mk.injEq] at h
    obtain ⟨⟨h1, h2⟩, h3⟩ := h
    have ih := find_lem val k L es (i0 + 1) h3
    simp only [Instr.findNow, h1, h2, Instr.sameNow]
    by_cases hkj : k = j
    · subst hkj; simp
    · have : ((k : Int) == (j : Int)) = false := by simp; omega
      have hjk : ¬ j = k := fun h => hkj h.symm
      simp only [this, if_true, ih, List.mem_cons, hkj, false_or, List.idxOf_cons]
      by_cases hm : k ∈ L
      · have hbeq : (j == k) = false := by simpa using hjk
        simp [hm, hbeq]; omega
      · simp [hm]
section
variable {P : Program} {w : World} {t k e b : Nat} {L : List Nat} {val : Nat → Value}
theorem run_checkKey (hk : P.underlying k = some (.int .i64)) (em : Bool) (x : Int) : (Instr.checkKey em 10000 k (.int .i64 x)).run P w = .ok () w := by
  unfold Instr.checkKey
  simp [run_underlying hk]
theorem run_findKey (hk : P.underlying k = some (.int .i64)) {es : Array MapEntry} (hes : es.toList.map (fun e => (e.key, e.val)) = L.map (fun (i : Nat) => (Value.int .i64 (i : Int), val i))) (i : Nat) :
    (Instr.findKey k (.int .i64 (i : Int)) es.toList).run P w = .ok (if i ∈ L then some (L.idxOf i, val i) else none) w := by
  simp [Instr.findKey, run_underlying hk, find_lem val i L es.toList 0 hes]
theorem run_getMap {es : Array MapEntry} {c : Nat} (h : w.heap[b]? = some (.map es c)) : (getObj b).run P w = .ok (.map es c) w := by
  simp [getObj, Sem.run, h]
/-- The world in which block b holds o. -/
def putB (w : World) (b : Nat) (o : Obj) : World := { w with heap := w.heap.setIfInBounds b o }
theorem putB_grown (w : World) (b : Nat) (o : Obj) : w.grownBy (putB w b o) (some b) :=
  ⟨rfl, rfl, rfl, by simp [putB], fun i _ hne => by
    have h : b ≠ i := fun h => hne (congrArg some h.symm)
    simp [putB, Array.getElem?_setIfInBounds_ne h]⟩
theorem run_setMap {es : Array MapEntry} {c : Nat} (h : w.heap[b]? = some (.map es c)) (o : Obj) : (setObj b o).run P w = .ok () (putB w b o) := by
  simp [setObj, Sem.run, h, putB]
theorem run_upd (ht : P.underlying t = some (.map k e)) (hk : P.underlying k = some (.int .i64)) (h : MapIs w b L val) (i : Nat) (hin : i ∉ L) :
    ∃ w', (Instr.mapUpdate t (.map (some b)) (.int .i64 (i : Int)) (val i)).run P w = .ok () w' ∧ MapIs w' b (L ++ [i]) val ∧ w.grownBy w' (some b) := by
  obtain ⟨es, c, hb, hes⟩ := h
  have hlt := (Array.getElem?_eq_some_iff.1 hb).1
  refine ⟨putB w b (.map (es.push { key := .int .i64 (i : Int), val := val i, born := c }) (c + 1)), ?_, ⟨es.push { key := .int .i64 (i : Int), val := val i, born := c }, c + 1, by simp [putB, hlt], by simp [hes]⟩, putB_grown _ _ _⟩
  simp [Instr.mapUpdate, run_underlying ht, run_getMap hb, run_checkKey hk, run_findKey hk hes, hin, run_setMap hb]
theorem MapIs.made (w : World) (val : Nat → Value) : MapIs (w.alloc (.map #[] 0)) w.heap.size [] val := ⟨#[], 0, heap_alloc_new w _, rfl⟩
end
end Go.Proofs.YtlhemcjahcmdeaaGreatDoor
namespace Go.Proofs.YtlhemcjahcmdeaaGreatDoor
open Go.RowKit
set_option maxRecDepth 100000
set_option linter.unusedSimpArgs false
set_option linter.unusedVariables false

section
variable {P : Program} {w : World} {t k e b : Nat} {L : List Nat} {val : Nat → Value}
theorem run_look1 (ht : P.underlying t = some (.map k e)) (hk : P.underlying k = some (.int .i64)) (h : MapIs w b L val) (i : Nat) (hin : i ∈ L) :
    (Instr.lookup t (.map (some b)) (.int .i64 (i : Int)) false).run P w = .ok (val i) w := by
  obtain ⟨es, c, hb, hes⟩ := h
  simp [Instr.lookup, run_underlying ht, run_getMap hb, run_checkKey hk, run_findKey hk hes, hin]
theorem run_look1_no (ht : P.underlying t = some (.map k e)) (hk : P.underlying k = some (.int .i64)) {z : Value} (hz : (zeroValue e).run P w = .ok z w) (h : MapIs w b L val) (i : Nat) (hin : i ∉ L) :
    (Instr.lookup t (.map (some b)) (.int .i64 (i : Int)) false).run P w = .ok z w := by
  obtain ⟨es, c, hb, hes⟩ := h
  simp [Instr.lookup, run_underlying ht, run_getMap hb, run_checkKey hk, run_findKey hk hes, hin, hz]
theorem run_lenM (ht : P.underlying t = some (.map k e)) (h : MapIs w b L val) (ty : TypeId) : (Builtin.len_ #[t] ty #[.map (some b)]).run P w = .ok (.int .i64 (L.length : Nat)) w := by
  obtain ⟨es, c, hb, hes⟩ := h
  have hl : es.size = L.length := by simpa using congrArg List.length hes
  simp [Builtin.len_, run_underlying ht, run_getMap hb, goInt, hl]
theorem run_makeMap0 (ht : P.underlying t = some (.map k e)) (w : World) : (Instr.makeMap t none).run P w = .ok (.map (some w.heap.size)) (w.alloc (.map #[] 0)) := by
  simp [Instr.makeMap, run_underlying ht]
end
/-- The cells of the keys, as natural numbers. -/
def natsK (l : List KeyD) : List Nat := l.map (fun k => k.d.toNat)
theorem nats_mem {l : List KeyD} {n : Nat} (h : ∀ k ∈ l, 0 ≤ k.d) : n ∈ natsK l ↔ (n : Int) ∈ l.map (·.d) := by
  unfold natsK
  rw [List.mem_map, List.mem_map]
  constructor
  · rintro ⟨k, hk, rfl⟩
    exact ⟨k, hk, by have := h k hk; omega⟩
  · rintro ⟨k, hk, he⟩
    exact ⟨k, hk, by have := h k hk; omega⟩
theorem key_drop {l : List KeyD} {k : Nat} (h : k < l.length) : l.take (k + 1) = l.take k ++ [l[k]] := List.take_succ_eq_append_getElem h
set_option maxHeartbeats 2000000 in
theorem cellsMatch_any {t : TypeId} (vl vn va vc vv : Value) (d : PoolD) (w : World) (h : RdP t w w.heap.size vl vn va vc vv d) (hs : SmallP d) (hl : (treeKeysK d.ts).length ≤ 2097152) : Calls Tryz.prog 226 #[.agg #[vl, vn, va, vc]] w (SaysBool w (cellsB d)) := by
  have hg : d.ce.length ≤ 2097152 := by have := hs.2.2.1; omega
  have h1 := hs.1
  have HK := Lib.hid (fun W b => refs_any vl vn d.lo d.ts W (h.1.on b) (by omega) (by omega) hl)
  obtain ⟨A0, c0, A1, c1, A2, c2, A3, c3, A4, c4, rfl, rfl, rfl, rfl, rfl⟩ := h.shape
  have HC := Lib.hid (fun W b i g => implCellAt_any (.slice A3 d.ce.length c3) d.ce i g W ((h.2.2.1.on b).retype _) hg)
  have HU := Lib.hid (fun W b => implUsedCells_any (.slice A3 d.ce.length c3) d.ce W ((h.2.2.1.on b).retype _) hg)
  have HB := Lib.hid (bal2 w (.cells #[.slice A0 d.lo.length c0, .slice A1 d.ts.length c1, .slice A2 d.ag.length c2, .slice A3 d.ce.length c3] 201) (.map #[] 0))
  obtain ⟨q0, q1⟩ := al2 w (.cells #[.slice A0 d.lo.length c0, .slice A1 d.ts.length c1, .slice A2 d.ag.length c2, .slice A3 d.ce.length c3] 201) (.map #[] 0)
  have Q0 := Lib.hid q0
  have hmm := run_makeMap0 (P := Tryz.prog) Tryz.underlying304
  have HM : Hid (MapIs _ _ [] (fun _ => .bool true)) := Lib.hid (MapIs.made (w.alloc (.cells #[.slice A0 d.lo.length c0, .slice A1 d.ts.length c1, .slice A2 d.ag.length c2, .slice A3 d.ce.length c3] 201)) (fun _ => .bool true))
  have hz0 : Hid (((w.alloc (.cells #[.slice A0 d.lo.length c0, .slice A1 d.ts.length c1, .slice A2 d.ag.length c2, .slice A3 d.ce.length c3] 201)).alloc (.map #[] 0)).heap.size = w.heap.size + 2) := Lib.hid (by simp)
  obtain ⟨rs, hrs⟩ : ∃ rs, refsK (treeKeysK d.ts) = rs := ⟨_, rfl⟩
  have hrl := refs_len (treeKeysK d.ts)
  rw [hrs] at hrl HK
  have HRS := Lib.hid hrs
  have hrn : rs.length ≤ 2097152 := by omega
  obtain ⟨R, hR⟩ : ∃ R, cellsB d = R := ⟨_, rfl⟩
  rw [hR]
  have HX := Lib.hid hR
  clear h hs hR q0 q1 h1 hrs hrl hl
  go_enter Tryz.func226, Tryz.ntmps226
  simp only [World.size_alloc] at HM
  go_upto_region 2 with (fail)
  clear hmm
  generalize (w.alloc (.cells #[.slice A0 d.lo.length c0, .slice A1 d.ts.length c1, .slice A2 d.ag.length c2, .slice A3 d.ce.length c3] 201)).alloc (.map #[] 0) = W at *
  have hz1 := Nat.le_of_eq hz0.out
  have hz2 := Nat.le_of_eq hz0.out.symm
  obtain ⟨x0, x1, x2, x3, x4⟩ := box4 Q0.out
  go_wp2_with fail
  refine (HK.out _ HB.out).mono ?_
  rintro e w1 ⟨v1, rfl, o, b1⟩
  replace Q0 := Lib.hid (box_on Q0.out b1)
  replace HM := Lib.hid (HM.out.on b1)
  replace HB := Lib.hid (bstep HB.out b1)
  have hz3 := b1.size
  have HO := Lib.hid (o.owns.mono (T := fun b => w.heap.size + 2 ≤ b) (fun b hb => by omega))
  obtain ⟨A5, c5, rfl, _, _⟩ := o.owns.reads.lenN
  clear x0 x1 x2 x3 x4 o b1
  go_wp2
  go_loopw [5, 6, 7, 13] (fun _ _ _ i wr => ∃ k : Nat, k ≤ rs.length ∧ i = .int .i64 k ∧ Hid (∀ j (hj : j < k) (hl : j < rs.length), cellB d.ce (rs[j]).d (rs[j]).e = true) ∧ Hid (((rs.take k).map (·.d)).Nodup) ∧ Hid (MapIs wr (w.heap.size + 1) (natsK (rs.take k)) (fun _ => .bool true)) ∧ Hid (Only (fun b => b = w.heap.size + 1) w1 wr)) (fun _ _ _ i _ => rs.length - (intOf i).toNat)
  case atStart => exact ⟨0, Nat.zero_le _, rfl, Lib.hid (fun j hj => by omega), Lib.hid (by simp), HM, Lib.hid (Only.refl _ _)⟩
  case round =>
    clear HM
    obtain ⟨k, hk, rfl, HI, HND, HM, HW⟩ := hrel
    have HBR := Lib.hid (HB.out.trans (HW.out.below HB.out.size (fun b hb => by omega)))
    have HQR := Lib.hid (box_only Q0.out HW.out (fun hb => by omega))
    have HOR := Lib.hid (HO.out.far HW.out (fun b hb _ hb' => by omega))
    have hzr := HW.out.size
    by_cases hlt : k < rs.length
    · obtain ⟨b, off, rfl, hbb, hc⟩ := HOR.out.reads.keys hlt
      have i1 : (k : Int) < (rs.length : Int) := by omega
      have i2 : (0 : Int) ≤ (k : Int) := by omega
      obtain ⟨y0, y1, y2, y3, y4⟩ := hc k hlt
      have HMISS : Hid (cellB d.ce (rs[k]).d (rs[k]).e = false → R = false) := Lib.hid (fun he => by rw [← HX.out]; exact cells_miss1 (k := rs[k]) (by rw [HRS.out]; exact List.getElem_mem hlt) he)
      have HDUP : Hid ((rs[k]).d ∈ (rs.take k).map (·.d) → R = false) := Lib.hid (fun hm => by
        rw [← HX.out]
        refine cells_miss2 (fun hn => ?_)
        rw [HRS.out] at hn
        have h2 : ((rs.take (k + 1)).map (·.d)).Nodup := hn.sublist ((List.take_sublist _ _).map _)
        rw [key_drop hlt, List.map_append, List.nodup_append] at h2
        exact h2.2.2 _ hm _ (by simp) rfl)
      have HNX : Hid ((rs[k]).d ∉ (rs.take k).map (·.d) → ((rs.take (k + 1)).map (·.d)).Nodup) := Lib.hid (fun hm => by
        rw [key_drop hlt, List.map_append]
        exact nodup_snoc HND.out hm)
      have HNS : Hid (natsK (rs.take (k + 1)) = natsK (rs.take k) ++ [(rs[k]).d.toNat]) := Lib.hid (by rw [key_drop hlt]; unfold natsK; rw [List.map_append]; rfl)
      have HPOS : Hid (∀ x ∈ rs.take k, 0 ≤ x.d) := Lib.hid (fun x hx => by
        obtain ⟨j, hj, rfl⟩ := List.mem_take_iff_getElem.1 hx
        exact cell_nat (HI.out j (by omega) (by omega)))
      have HNEXT : Hid (cellB d.ce (rs[k]).d (rs[k]).e = true → ∀ j (hj : j < k + 1) (hl : j < rs.length), cellB d.ce (rs[j]).d (rs[j]).e = true) := Lib.hid (fun he j hj hl => by
        by_cases h3 : j < k
        · exact HI.out j h3 hl
        · have : j = k := by omega
          subst this
          exact he)
      clear hc
      obtain ⟨v, hv⟩ : ∃ v, v = rs[k] := ⟨_, rfl⟩
      rw [← hv] at y0 y1 y2 y3 y4 HMISS HDUP HNX HNS HNEXT
      clear hv
      have ba := bal1 wr (.cells #[.int .i64 v.a, .int .i64 v.b, .int .i64 v.c, .int .i64 v.d, .int .i64 v.e] 112)
      have QK := Lib.hid (al1 wr (.cells #[.int .i64 v.a, .int .i64 v.b, .int .i64 v.c, .int .i64 v.d, .int .i64 v.e] 112))
      replace HQR := Lib.hid (box_on HQR.out ba)
      replace HM := Lib.hid (HM.out.on ba)
      replace HW := Lib.hid (HW.out.trans (Only.of_below ba _))
      replace HBR := Lib.hid (bstep HBR.out ba)
      clear ba HOR
      go_upto_region 5 with (fail)
      clear y0 y1 y2 y3 y4
      generalize wr.alloc (.cells #[.int .i64 v.a, .int .i64 v.b, .int .i64 v.c, .int .i64 v.d, .int .i64 v.e] 112) = wv at *
      obtain ⟨x0, x1, x2, x3, x4⟩ := box4 HQR.out
      obtain ⟨z0, z1, z2, z3, z4, z5⟩ := box5 QK.out
      go_wp2_with fail
      refine (HC.out _ HBR.out v.d v.e).mono ?_
      rintro e _ ⟨rfl, rfl⟩
      cases hcb : cellB d.ce v.d v.e
      · have HF : Hid (R = false) := Lib.hid (HMISS.out hcb)
        go_wp2
        go_ret
        exact ⟨by rw [HF.out]; rfl, HBR.out⟩
      · obtain ⟨n, hn⟩ : ∃ n : Nat, v.d = (n : Int) := ⟨v.d.toNat, by have := cell_nat hcb; omega⟩
        have HNE := Lib.hid (HNEXT.out hcb)
        have hnt : v.d.toNat = n := by rw [hn]; simp
        rw [hnt] at HNS
        by_cases hin : n ∈ natsK (rs.take k)
        · have HF : Hid (R = false) := Lib.hid (HDUP.out (by rw [hn]; exact (nats_mem HPOS.out).1 hin))
          have hlook : (Instr.lookup 304 (.map (some (w.heap.size + 1))) (.int .i64 v.d) false).run Tryz.prog wv = .ok (.bool true) wv := by
            rw [hn]
            exact run_look1 (P := Tryz.prog) Tryz.underlying304 Tryz.underlying3 HM.out n hin
          clear hn hnt hin
          go_wp2
          go_ret
          exact ⟨by rw [HF.out]; rfl, HBR.out⟩
        · have hlook : (Instr.lookup 304 (.map (some (w.heap.size + 1))) (.int .i64 v.d) false).run Tryz.prog wv = .ok (.bool false) wv := by
            rw [hn]
            exact run_look1_no (P := Tryz.prog) Tryz.underlying304 Tryz.underlying3 (Tryz.zeroValue4 wv) HM.out n hin
          have HND2 := Lib.hid (HNX.out (by rw [hn]; exact fun hm => hin ((nats_mem HPOS.out).2 hm)))
          obtain ⟨w4, hrun, hm4, hg4⟩ := run_upd (P := Tryz.prog) Tryz.underlying304 Tryz.underlying3 HM.out n hin
          have hupd : (Instr.mapUpdate 304 (.map (some (w.heap.size + 1))) (.int .i64 v.d) (.bool true)).run Tryz.prog wv = .ok () w4 := by
            rw [hn]
            exact hrun
          rw [← HNS.out] at hm4
          have HM4 := Lib.hid hm4
          have HW4 : Hid (Only (fun b => b = w.heap.size + 1) w1 w4) := Lib.hid (HW.out.trans (Only.of_grown hg4 rfl))
          clear hn hnt hin hrun hm4 hg4
          go_wp2
          go_roundw
          case rel => exact ⟨k + 1, by omega, by go_num, HNE, HND2, HM4, HW4⟩
          case measure => simp [intOf]; omega
    · have e : k = rs.length := by omega
      subst e
      rw [List.take_length] at HND HM
      have hlen := run_lenM (P := Tryz.prog) Tryz.underlying304 HM.out
      rw [show (natsK rs).length = rs.length by unfold natsK; simp] at hlen
      have HE := Lib.hid (cells_end (d := d) (by
        rw [HRS.out]
        intro x hx
        obtain ⟨j, hj, rfl⟩ := List.mem_iff_getElem.1 hx
        exact HI.out j hj hj) (by rw [HRS.out]; exact HND.out))
      rw [HRS.out, HX.out] at HE
      obtain ⟨x0, x1, x2, x3, x4⟩ := box4 HQR.out
      go_wp2_with fail
      refine (HU.out _ HBR.out).mono ?_
      rintro e w5 ⟨rfl, b1⟩
      have HB5 := Lib.hid (bstep HBR.out b1)
      clear b1 x0 x1 x2 x3 x4
      generalize usedK d.ce = u at *
      by_cases hu : rs.length = u
      · have e1 : ((rs.length : Int) == (u : Int)) = true := by simp; omega
        have HF : Hid (R = true) := Lib.hid (by rw [HE.out, decide_eq_true hu])
        clear hu
        go_wp2
        go_ret
        exact ⟨by rw [HF.out]; rfl, HB5.out⟩
      · have e1 : ((rs.length : Int) == (u : Int)) = false := by simp; omega
        have HF : Hid (R = false) := Lib.hid (by rw [HE.out, decide_eq_false hu])
        clear hu
        go_wp2
        go_ret
        exact ⟨by rw [HF.out]; rfl, HB5.out⟩
end Go.Proofs.YtlhemcjahcmdeaaGreatDoor
