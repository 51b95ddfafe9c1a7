/- Several texts in one: PoolAges, IntMap, PoolMap. -/
import Derived.Test.YtlhemcjahcmdeaaGreatDoorPkKD
namespace Go.Proofs.YtlhemcjahcmdeaaGreatDoor
open Go.RowKit
set_option maxRecDepth 100000
set_option linter.unusedSimpArgs false
set_option linter.unusedVariables false

theorem mappingsOf_any {t : TypeId} (vl vn va vc vv : Value) (d : PoolD) (w : World) (h : RdP t w w.heap.size vl vn va vc vv d) : Calls Tryz.prog 170 #[.agg #[vl, vn, va, vc, vv, .int .i64 d.nx]] w fun e w' => e = .returned (.agg #[vl, vn, va, vc]) ∧ Below w.heap.size w w' := by
  obtain ⟨A0, c0, A1, c1, A2, c2, A3, c3, A4, c4, rfl, rfl, rfl, rfl, rfl⟩ := h.shape
  clear h
  go_enter Tryz.func170, Tryz.ntmps170
  go_wp2
  refine bodyPost_ret (v := .agg #[.slice A0 d.lo.length c0, .slice A1 d.ts.length c1, .slice A2 d.ag.length c2, .slice A3 d.ce.length c3]) (by simp [results, Tryz.results170, go_sem, *]) rfl ⟨rfl, ?_⟩
  exact bal2 _ _ _
/-- The closure of nextOk, bound to the pool's box. -/
theorem nextOk1_any (d : PoolD) (k : AgeD) (pb : Nat) (a0 a1 a2 a3 a4 : Value) (w : World) (hp : w.heap[pb]? = some (.cells #[a0, a1, a2, a3, a4, .int .i64 d.nx] 32 (0, 0))) :
    Calls Tryz.prog 284 #[.agg #[.int .i64 k.a, .int .i64 k.b], .pointer (some ⟨pb, 0, none⟩)] w (SaysBool w (!decide (k.a < d.nx))) := by
  have Q0 := Lib.hid (al1 w (.cells #[.int .i64 k.a, .int .i64 k.b] 155))
  have b0 := bal1 w (.cells #[.int .i64 k.a, .int .i64 k.b] 155)
  have HB := Lib.hid b0
  have HP := Lib.hid (boxP (box_on hp b0)).2.2.2.2.2.1
  clear hp b0
  go_enter Tryz.func284, Tryz.ntmps284
  go_upto_region 1 with (fail)
  generalize w.alloc (.cells #[.int .i64 k.a, .int .i64 k.b] 155) = W at *
  obtain ⟨x0, x1, x2⟩ := box2 Q0.out
  have y0 := HP.out
  by_cases hs : k.a < d.nx
  · have e1 : decide (k.a ≥ d.nx) = false := decide_eq_false (by omega)
    go_wp2
    go_ret
    exact ⟨by rw [decide_eq_true hs]; rfl, HB.out⟩
  · have e1 : decide (k.a ≥ d.nx) = true := decide_eq_true (by omega)
    go_wp2
    go_ret
    exact ⟨by rw [decide_eq_false (by omega)]; rfl, HB.out⟩
theorem allP_miss {α : Type} {p : α → Bool} {l : List α} {k : Nat} (h : k < l.length) (hp : p l[k] = false) : l.all p = false := by
  rw [List.all_eq_false]
  exact ⟨_, List.getElem_mem h, by rw [hp]; simp⟩
theorem allP_snoc {α : Type} {p : α → Bool} {l : List α} {k : Nat} (h : k < l.length) (hi : ∀ j (hj : j < k) (hl : j < l.length), p l[j] = true) (hp : p l[k] = true) : ∀ j (hj : j < k + 1) (hl : j < l.length), p l[j] = true := by
  intro j hj hl
  by_cases h3 : j < k
  · exact hi j h3 hl
  · have : j = k := by omega
    subst this
    exact hp
theorem allP_done {α : Type} {p : α → Bool} {l : List α} (h : ∀ j (hl : j < l.length), p l[j] = true) : l.all p = true := by
  rw [List.all_eq_true]
  intro v hv
  obtain ⟨i, hi, rfl⟩ := List.mem_iff_getElem.1 hv
  exact h i hi
set_option maxHeartbeats 1000000 in
theorem indexFuncN_any (v : Value) (l : List AgeD) (d : PoolD) (pb : Nat) (a0 a1 a2 a3 a4 : Value) (w : World) (hv : Reads w w.heap.size v (agesD l)) (hp : w.heap[pb]? = some (.cells #[a0, a1, a2, a3, a4, .int .i64 d.nx] 32 (0, 0))) (hn : l.length ≤ 2097152) :
    Calls Tryz.prog 330 #[v, .func (.func 284) #[] #[.pointer (some ⟨pb, 0, none⟩)]] w fun e w' => ∃ n : Int, e = .returned (.int .i64 n) ∧ decide (n ≥ 0) = !(l.all (fun k => decide (k.a < d.nx))) ∧ Below w.heap.size w w' := by
  obtain ⟨A, c, rfl, _, _⟩ := hv.shapeG
  have HT := Lib.hid (nextOk1_any d)
  have HV := Lib.hid hv
  have HP := Lib.hid hp
  clear hv hp
  go_enter Tryz.func330, Tryz.ntmps330
  go_wp2
  go_loopw [5, 8] (fun _ i wr => ∃ k : Nat, k ≤ l.length ∧ i = .int .i64 k ∧ Hid (∀ j (hj : j < k) (hl : j < l.length), (fun k : AgeD => decide (k.a < d.nx)) l[j] = true) ∧ Hid (Below w.heap.size w wr)) (fun _ i _ => l.length - (intOf i).toNat)
  case atStart => exact ⟨0, Nat.zero_le _, rfl, Lib.hid (fun j hj => by omega), Lib.hid (Below.refl _ _)⟩
  case round =>
    obtain ⟨k, hk, rfl, HI, HB⟩ := hrel
    by_cases hlt : k < l.length
    · obtain ⟨b, off, rfl, hbb, hc⟩ := (HV.out.on HB.out).ages hlt
      have i1 : (k : Int) < (l.length : Int) := by omega
      have i2 : (0 : Int) ≤ (k : Int) := by omega
      obtain ⟨c0, c1⟩ := hc k hlt
      have HX := Lib.hid (HT.out l[k] pb a0 a1 a2 a3 a4 wr (box_on HP.out HB.out))
      clear hc
      cases hs : (fun k : AgeD => decide (k.a < d.nx)) l[k]
      · have HA : Hid (l.all (fun k => decide (k.a < d.nx)) = false) := Lib.hid (allP_miss (p := fun k : AgeD => decide (k.a < d.nx)) hlt hs)
        rw [show (decide ((l[k]).a < d.nx)) = false from hs] at HX
        clear hs
        go_wp2_with fail
        go_at_call 284
        refine HX.out.mono ?_
        rintro r w8 ⟨rfl, b8⟩
        have B8 := Lib.hid (bstep HB.out b8)
        have HQ : Hid (decide ((k : Int) ≥ 0) = true) := Lib.hid (decide_eq_true (by omega))
        clear b8 c0 c1
        go_wp2
        go_ret
        exact ⟨_, rfl, by rw [HA.out]; exact HQ.out, B8.out⟩
      · have HA := Lib.hid (allP_snoc (p := fun k : AgeD => decide (k.a < d.nx)) hlt HI.out hs)
        rw [show (decide ((l[k]).a < d.nx)) = true from hs] at HX
        clear hs
        go_wp2_with fail
        go_at_call 284
        refine HX.out.mono ?_
        rintro r w8 ⟨rfl, b8⟩
        have B8 := Lib.hid (bstep HB.out b8)
        clear b8 c0 c1
        go_wp2
        go_roundw
        case rel => exact ⟨k + 1, by omega, by go_num, HA, B8⟩
        case measure => simp [intOf]; omega
    · have HA : Hid (l.all (fun k => decide (k.a < d.nx)) = true) := Lib.hid (allP_done (p := fun k : AgeD => decide (k.a < d.nx)) (fun j hl => HI.out j (by omega) hl))
      go_wp2
      go_ret
      exact ⟨_, rfl, by rw [HA.out]; rfl, HB.out⟩
theorem containsN_any (v : Value) (l : List AgeD) (d : PoolD) (pb : Nat) (a0 a1 a2 a3 a4 : Value) (w : World) (hv : Reads w w.heap.size v (agesD l)) (hp : w.heap[pb]? = some (.cells #[a0, a1, a2, a3, a4, .int .i64 d.nx] 32 (0, 0))) (hn : l.length ≤ 2097152) :
    Calls Tryz.prog 283 #[v, .func (.func 284) #[] #[.pointer (some ⟨pb, 0, none⟩)]] w (SaysBool w (!(l.all (fun k => decide (k.a < d.nx))))) := by
  have HI := Lib.hid (indexFuncN_any v l d pb a0 a1 a2 a3 a4 w hv hp hn)
  obtain ⟨R, hR⟩ : ∃ R, (!(l.all (fun k => decide (k.a < d.nx)))) = R := ⟨_, rfl⟩
  rw [hR] at HI ⊢
  clear hR
  obtain ⟨A, c, rfl, _, _⟩ := hv.shapeG
  clear hv hp
  go_enter Tryz.func283, Tryz.ntmps283
  go_wp2_with fail
  refine HI.out.mono ?_
  rintro r w1 ⟨n, rfl, hd, b⟩
  have HB := Lib.hid b
  clear b
  go_wp2
  go_ret
  exact ⟨rfl, HB.out⟩
theorem nextOk_any {t : TypeId} (vl vn va vc vv : Value) (d : PoolD) (w : World) (h : RdP t w w.heap.size vl vn va vc vv d) (hs : SmallP d) : Calls Tryz.prog 223 #[.agg #[vl, vn, va, vc, vv, .int .i64 d.nx]] w (SaysBool w (nextB d)) := by
  have hg : d.ag.length ≤ 2097152 := by have := hs.2.1; omega
  obtain ⟨A0, c0, A1, c1, A2, c2, A3, c3, A4, c4, rfl, rfl, rfl, rfl, rfl⟩ := h.shape
  have HB := Lib.hid (bal1 w (.cells #[.slice A0 d.lo.length c0, .slice A1 d.ts.length c1, .slice A2 d.ag.length c2, .slice A3 d.ce.length c3, .slice A4 d.vo.length c4, .int .i64 d.nx] 32))
  have Q0 := Lib.hid (al1 w (.cells #[.slice A0 d.lo.length c0, .slice A1 d.ts.length c1, .slice A2 d.ag.length c2, .slice A3 d.ce.length c3, .slice A4 d.vo.length c4, .int .i64 d.nx] 32))
  have HC := Lib.hid (containsN_any (.slice A2 d.ag.length c2) d.ag d w.heap.size _ _ _ _ _ _ (h.2.1.on HB.out) Q0.out hg)
  obtain ⟨R, hR⟩ : ∃ R, nextB d = R := ⟨_, rfl⟩
  rw [hR]
  unfold nextB at hR
  have HX := Lib.hid hR.symm
  clear h hs hR hg
  obtain ⟨S, hS⟩ : ∃ S, d.ag.all (fun a => decide (a.a < d.nx)) = S := ⟨_, rfl⟩
  rw [hS] at HX HC
  clear hS
  go_enter Tryz.func223, Tryz.ntmps223
  go_upto_region 1 with (fail)
  generalize w.alloc (.cells #[.slice A0 d.lo.length c0, .slice A1 d.ts.length c1, .slice A2 d.ag.length c2, .slice A3 d.ce.length c3, .slice A4 d.vo.length c4, .int .i64 d.nx] 32) = W at *
  obtain ⟨x0, x1, x2, x3, x4, x5, x6⟩ := boxP Q0.out
  go_wp2_with fail
  refine HC.out.mono ?_
  rintro e w1 ⟨rfl, b1⟩
  replace Q0 := Lib.hid (box_on Q0.out b1)
  replace HB := Lib.hid (bstep HB.out b1)
  clear x0 x1 x2 x3 x4 x5 x6 b1
  obtain ⟨x0, x1, x2, x3, x4, x5, x6⟩ := boxP Q0.out
  by_cases h1 : 1 ≤ d.nx
  · have e1 : decide (d.nx ≥ 1) = true := decide_eq_true (by omega)
    by_cases h2 : d.nx ≤ 61
    · have e2 : decide (d.nx ≤ 61) = true := decide_eq_true h2
      have HF : Hid (R = S) := Lib.hid (by rw [HX.out, decide_eq_true h1, e2]; rfl)
      cases S
      all_goals
        go_wp2
        go_ret
        exact ⟨by rw [HF.out]; rfl, HB.out⟩
    · have e2 : decide (d.nx ≤ 61) = false := decide_eq_false h2
      have HF : Hid (R = false) := Lib.hid (by rw [HX.out, e2, Bool.and_false]; rfl)
      go_wp2
      go_ret
      exact ⟨by rw [HF.out]; rfl, HB.out⟩
  · have e1 : decide (d.nx ≥ 1) = false := decide_eq_false (by omega)
    have HF : Hid (R = false) := Lib.hid (by rw [HX.out, decide_eq_false h1]; rfl)
    go_wp2
    go_ret
    exact ⟨by rw [HF.out]; rfl, HB.out⟩
/-- The closure of agesExist, bound to the mappings' box. -/
theorem agesExist1_any (k : KeyD) (ag : List AgeD) (pb : Nat) (a0 a1 a3 A : Value) (w : World) (hv : Reads w w.heap.size A (agesD ag)) (hn : ag.length ≤ 2097152) (hp : w.heap[pb]? = some (.cells #[a0, a1, A, a3] 201 (0, 0))) :
    Calls Tryz.prog 289 #[k.v, .pointer (some ⟨pb, 0, none⟩)] w (SaysBool w (!decide (0 ≤ ageAtK ag k.b))) := by
  unfold KeyD.v keyV
  have HA := Lib.hid (fun W b => implAgeAt_any A ag k.b W (hv.on b) hn)
  obtain ⟨A2, c2, rfl, _, _⟩ := hv.shapeG
  have Q0 := Lib.hid (al1 w (.cells #[.int .i64 k.a, .int .i64 k.b, .int .i64 k.c, .int .i64 k.d, .int .i64 k.e] 112))
  have b0 := bal1 w (.cells #[.int .i64 k.a, .int .i64 k.b, .int .i64 k.c, .int .i64 k.d, .int .i64 k.e] 112)
  have HB := Lib.hid b0
  have HP := Lib.hid (box4 (box_on hp b0)).2.2.1
  clear hp b0 hv
  go_enter Tryz.func289, Tryz.ntmps289
  go_upto_region 1 with (fail)
  generalize w.alloc (.cells #[.int .i64 k.a, .int .i64 k.b, .int .i64 k.c, .int .i64 k.d, .int .i64 k.e] 112) = W at *
  obtain ⟨x0, x1, x2, x3, x4, x5⟩ := box5 Q0.out
  have y0 := HP.out
  go_wp2_with fail
  refine (HA.out _ HB.out).mono ?_
  rintro e w1 ⟨rfl, b1⟩
  have B1 := Lib.hid (bstep HB.out b1)
  clear b1 x0 x1 x2 x3 x4 x5 y0
  generalize ageAtK ag k.b = n at *
  by_cases h0 : 0 ≤ n
  · have e1 : decide (n < 0) = false := decide_eq_false (by omega)
    go_wp2
    go_ret
    exact ⟨by rw [decide_eq_true h0]; rfl, B1.out⟩
  · have e1 : decide (n < 0) = true := decide_eq_true (by omega)
    go_wp2
    go_ret
    exact ⟨by rw [decide_eq_false (by omega)]; rfl, B1.out⟩
set_option maxHeartbeats 1000000 in
theorem indexFuncG_any (v : Value) (l : List KeyD) (ag : List AgeD) (pb : Nat) (a0 a1 a3 A : Value) (w : World) (hv : Reads w w.heap.size v (keysD l)) (ha : Reads w w.heap.size A (agesD ag)) (hng : ag.length ≤ 2097152) (hp : w.heap[pb]? = some (.cells #[a0, a1, A, a3] 201 (0, 0))) (hn : l.length ≤ 2097152) :
    Calls Tryz.prog 333 #[v, .func (.func 289) #[] #[.pointer (some ⟨pb, 0, none⟩)]] w fun e w' => ∃ n : Int, e = .returned (.int .i64 n) ∧ decide (n ≥ 0) = !(l.all (fun k => decide (0 ≤ ageAtK ag k.b))) ∧ Below w.heap.size w w' := by
  obtain ⟨AA, c, rfl, _, _⟩ := hv.shapeK
  have HT := Lib.hid (agesExist1_any)
  have HV := Lib.hid hv
  have HP := Lib.hid hp
  have HG := Lib.hid ha
  clear ha
  unfold KeyD.v keyV at HT
  clear hv hp
  go_enter Tryz.func333, Tryz.ntmps333
  go_wp2
  go_loopw [5, 8] (fun _ i wr => ∃ k : Nat, k ≤ l.length ∧ i = .int .i64 k ∧ Hid (∀ j (hj : j < k) (hl : j < l.length), (fun k : KeyD => decide (0 ≤ ageAtK ag k.b)) l[j] = true) ∧ Hid (Below w.heap.size w wr)) (fun _ i _ => l.length - (intOf i).toNat)
  case atStart => exact ⟨0, Nat.zero_le _, rfl, Lib.hid (fun j hj => by omega), Lib.hid (Below.refl _ _)⟩
  case round =>
    obtain ⟨k, hk, rfl, HI, HB⟩ := hrel
    by_cases hlt : k < l.length
    · obtain ⟨b, off, rfl, hbb, hc⟩ := (HV.out.on HB.out).keys hlt
      have i1 : (k : Int) < (l.length : Int) := by omega
      have i2 : (0 : Int) ≤ (k : Int) := by omega
      obtain ⟨c0, c1, c2, c3, c4⟩ := hc k hlt
      have HX := Lib.hid (HT.out l[k] ag pb a0 a1 a3 A wr (HG.out.on HB.out) hng (box_on HP.out HB.out))
      clear hc
      cases hs : (fun k : KeyD => decide (0 ≤ ageAtK ag k.b)) l[k]
      · have HA : Hid (l.all (fun k => decide (0 ≤ ageAtK ag k.b)) = false) := Lib.hid (allP_miss (p := fun k : KeyD => decide (0 ≤ ageAtK ag k.b)) hlt hs)
        rw [show (decide (0 ≤ ageAtK ag (l[k]).b)) = false from hs] at HX
        clear hs
        go_wp2_with fail
        go_at_call 289
        refine HX.out.mono ?_
        rintro r w8 ⟨rfl, b8⟩
        have B8 := Lib.hid (bstep HB.out b8)
        have HQ : Hid (decide ((k : Int) ≥ 0) = true) := Lib.hid (decide_eq_true (by omega))
        clear b8 c0 c1 c2 c3 c4
        go_wp2
        go_ret
        exact ⟨_, rfl, by rw [HA.out]; exact HQ.out, B8.out⟩
      · have HA := Lib.hid (allP_snoc (p := fun k : KeyD => decide (0 ≤ ageAtK ag k.b)) hlt HI.out hs)
        rw [show (decide (0 ≤ ageAtK ag (l[k]).b)) = true from hs] at HX
        clear hs
        go_wp2_with fail
        go_at_call 289
        refine HX.out.mono ?_
        rintro r w8 ⟨rfl, b8⟩
        have B8 := Lib.hid (bstep HB.out b8)
        clear b8 c0 c1 c2 c3 c4
        go_wp2
        go_roundw
        case rel => exact ⟨k + 1, by omega, by go_num, HA, B8⟩
        case measure => simp [intOf]; omega
    · have HA : Hid (l.all (fun k => decide (0 ≤ ageAtK ag k.b)) = true) := Lib.hid (allP_done (p := fun k : KeyD => decide (0 ≤ ageAtK ag k.b)) (fun j hl => HI.out j (by omega) hl))
      go_wp2
      go_ret
      exact ⟨_, rfl, by rw [HA.out]; rfl, HB.out⟩
theorem containsG_any (v : Value) (l : List KeyD) (ag : List AgeD) (pb : Nat) (a0 a1 a3 A : Value) (w : World) (hv : Reads w w.heap.size v (keysD l)) (ha : Reads w w.heap.size A (agesD ag)) (hng : ag.length ≤ 2097152) (hp : w.heap[pb]? = some (.cells #[a0, a1, A, a3] 201 (0, 0))) (hn : l.length ≤ 2097152) :
    Calls Tryz.prog 287 #[v, .func (.func 289) #[] #[.pointer (some ⟨pb, 0, none⟩)]] w (SaysBool w (!(l.all (fun k => decide (0 ≤ ageAtK ag k.b))))) := by
  have HI := Lib.hid (indexFuncG_any v l ag pb a0 a1 a3 A w hv ha hng hp hn)
  obtain ⟨R, hR⟩ : ∃ R, (!(l.all (fun k => decide (0 ≤ ageAtK ag k.b)))) = R := ⟨_, rfl⟩
  rw [hR] at HI ⊢
  clear hR
  obtain ⟨AA, c, rfl, _, _⟩ := hv.shapeK
  clear hv hp ha
  go_enter Tryz.func287, Tryz.ntmps287
  go_wp2_with fail
  refine HI.out.mono ?_
  rintro r w1 ⟨n, rfl, hd, b⟩
  have HB := Lib.hid b
  clear b
  go_wp2
  go_ret
  exact ⟨rfl, HB.out⟩
theorem agesExist_any {t : TypeId} (vl vn va vc vv : Value) (d : PoolD) (w : World) (h : RdP t w w.heap.size vl vn va vc vv d) (hs : SmallP d) (hl : (treeKeysK d.ts).length ≤ 2097152) : Calls Tryz.prog 225 #[.agg #[vl, vn, va, vc]] w (SaysBool w (agesB d)) := by
  have hg : d.ag.length ≤ 2097152 := by have := hs.2.1; omega
  have h1 := hs.1
  have HK := Lib.hid (fun W b => treeKeysM_any vl vn d.lo d.ts W (h.1.on b) (by omega) (by omega))
  obtain ⟨A0, c0, A1, c1, A2, c2, A3, c3, A4, c4, rfl, rfl, rfl, rfl, rfl⟩ := h.shape
  have HB := Lib.hid (bal1 w (.cells #[.slice A0 d.lo.length c0, .slice A1 d.ts.length c1, .slice A2 d.ag.length c2, .slice A3 d.ce.length c3] 201))
  have Q0 := Lib.hid (al1 w (.cells #[.slice A0 d.lo.length c0, .slice A1 d.ts.length c1, .slice A2 d.ag.length c2, .slice A3 d.ce.length c3] 201))
  have HG := Lib.hid h.2.1
  clear h hs h1
  unfold agesB
  obtain ⟨R, hR⟩ : ∃ R, (treeKeysK d.ts).all (fun k => decide (0 ≤ ageAtK d.ag k.b)) = R := ⟨_, rfl⟩
  rw [hR]
  have HX := Lib.hid hR
  clear hR
  go_enter Tryz.func225, Tryz.ntmps225
  go_upto_region 1 with (fail)
  generalize w.alloc (.cells #[.slice A0 d.lo.length c0, .slice A1 d.ts.length c1, .slice A2 d.ag.length c2, .slice A3 d.ce.length c3] 201) = W at *
  obtain ⟨x0, x1, x2, x3, x4⟩ := box4 Q0.out
  go_wp2_with fail
  refine (HK.out _ HB.out).mono ?_
  rintro e w1 ⟨v1, rfl, o, b1⟩
  replace Q0 := Lib.hid (box_on Q0.out b1)
  replace HB := Lib.hid (bstep HB.out b1)
  have HC := Lib.hid (containsG_any v1 (treeKeysK d.ts) d.ag w.heap.size _ _ _ _ w1 o.owns.reads (HG.out.on HB.out) hg Q0.out hl)
  rw [HX.out] at HC
  obtain ⟨A5, c5, rfl, _, _⟩ := o.owns.reads.lenN
  clear x0 x1 x2 x3 x4 o b1
  obtain ⟨x0, x1, x2, x3, x4⟩ := box4 Q0.out
  go_wp2_with fail
  refine HC.out.mono ?_
  rintro e w2 ⟨rfl, b1⟩
  replace HB := Lib.hid (bstep HB.out b1)
  clear b1
  cases R
  all_goals
    go_wp2
    go_ret
    exact ⟨rfl, HB.out⟩
end Go.Proofs.YtlhemcjahcmdeaaGreatDoor
namespace Go.Proofs.YtlhemcjahcmdeaaGreatDoor
open Go.RowKit
set_option maxRecDepth 100000
set_option linter.unusedSimpArgs false
set_option linter.unusedVariables false

/-- Block b is a map with the keys L, in the order in which they were stored; under i lies val i. -/
def MapIs (w : World) (b : Nat) (L : List Nat) (val : Nat → Value) : Prop := ∃ es clock, w.heap[b]? = some (.map es clock) ∧ es.toList.map (fun e => (e.key, e.val)) = L.map (fun (i : Nat) => (Value.int .i64 (i : Int), val i))
theorem MapIs.keep {w w' : World} {b : Nat} {L : List Nat} {val : Nat → Value} (h : MapIs w b L val) (hk : w'.heap[b]? = w.heap[b]?) : MapIs w' b L val := by
  obtain ⟨es, c, hb, r⟩ := h
  exact ⟨es, c, hk.trans hb, r⟩
theorem MapIs.lt {w : World} {b : Nat} {L : List Nat} {val : Nat → Value} (h : MapIs w b L val) : b < w.heap.size := by
  obtain ⟨es, c, hb, r⟩ := h
  exact (Array.getElem?_eq_some_iff.1 hb).1
theorem MapIs.on {w w' : World} {b : Nat} {L : List Nat} {val : Nat → Value} (h : MapIs w b L val) (hb : Below w.heap.size w w') : MapIs w' b L val := h.keep (hb.block b h.lt)
theorem find_lem (val : Nat → Value) (k : Nat) : ∀ (L : List Nat) (es : List MapEntry) (i0 : Nat), es.map (fun e => (e.key, e.val)) = L.map (fun (i : Nat) => (Value.int .i64 (i : Int), val i)) →
    Instr.findNow (.int .i64) (.int .i64 (k : Int)) es i0 = some (if k ∈ L then some (i0 + L.idxOf k, val k) else none)
  | [], es, i0, h => by
    have : es = [] := by simpa using h
    subst this; simp [Instr.findNow]
  | j :: L, [], i0, h => by simp at h
  | j :: L, e :: es, i0, h => by
    simp only [List.map_cons, List.cons.injEq, Prod.mk.injEq] at h
    obtain ⟨⟨h1, h2⟩, h3⟩ := h
    have ih := find_lem val k L es (i0 + 1) h3
    simp only [Instr.findNow, h1, h2, Instr.sameNow]
    by_cases hkj : k = j
    · subst hkj; simp
    · have : ((k : Int) == (j : Int)) = false := by simp; omega
      have hjk : ¬ j = k := fun h => hkj h.symm
      simp only [this, if_true, ih, List.mem_cons, hkj, false_or, List.idxOf_cons]
      by_cases hm : k ∈ L
      · have hbeq : (j == k) = false := by simpa using hjk
        simp [hm, hbeq]; omega
      · simp [hm]
section
variable {P : Program} {w : World} {t k e b : Nat} {L : List Nat} {val : Nat → Value}
theorem run_checkKey (hk : P.underlying k = some (.int .i64)) (em : Bool) (x : Int) : (Instr.checkKey em 10000 k (.int .i64 x)).run P w = .ok () w := by
  unfold Instr.checkKey
  simp [run_underlying hk]
theorem run_findKey (hk : P.underlying k = some (.int .i64)) {es : Array MapEntry} (hes : es.toList.map (fun e => (e.key, e.val)) = L.map (fun (i : Nat) => (Value.int .i64 (i : Int), val i))) (i : Nat) :
    (Instr.findKey k (.int .i64 (i : Int)) es.toList).run P w = .ok (if i ∈ L then some (L.idxOf i, val i) else none) w := by
  simp [Instr.findKey, run_underlying hk, find_lem val i L es.toList 0 hes]
theorem run_getMap {es : Array MapEntry} {c : Nat} (h : w.heap[b]? = some (.map es c)) : (getObj b).run P w = .ok (.map es c) w := by
  simp [getObj, Sem.run, h]
/-- The world in which block b holds o. -/
def putB (w : World) (b : Nat) (o : Obj) : World := { w with heap := w.heap.setIfInBounds b o }
theorem putB_grown (w : World) (b : Nat) (o : Obj) : w.grownBy (putB w b o) (some b) :=
  ⟨rfl, rfl, rfl, by simp [putB], fun i _ hne => by
    have h : b ≠ i := fun h => hne (congrArg some h.symm)
    simp [putB, Array.getElem?_setIfInBounds_ne h]⟩
theorem run_setMap {es : Array MapEntry} {c : Nat} (h : w.heap[b]? = some (.map es c)) (o : Obj) : (setObj b o).run P w = .ok () (putB w b o) := by
  simp [setObj, Sem.run, h, putB]
theorem run_upd (ht : P.underlying t = some (.map k e)) (hk : P.underlying k = some (.int .i64)) (h : MapIs w b L val) (i : Nat) (hin : i ∉ L) :
    ∃ w', (Instr.mapUpdate t (.map (some b)) (.int .i64 (i : Int)) (val i)).run P w = .ok () w' ∧ MapIs w' b (L ++ [i]) val ∧ w.grownBy w' (some b) := by
  obtain ⟨es, c, hb, hes⟩ := h
  have hlt := (Array.getElem?_eq_some_iff.1 hb).1
  refine ⟨putB w b (.map (es.push { key := .int .i64 (i : Int), val := val i, born := c }) (c + 1)), ?_, ⟨es.push { key := .int .i64 (i : Int), val := val i, born := c }, c + 1, by simp [putB, hlt], by simp [hes]⟩, putB_grown _ _ _⟩
  simp [Instr.mapUpdate, run_underlying ht, run_getMap hb, run_checkKey hk, run_findKey hk hes, hin, run_setMap hb]
theorem MapIs.made (w : World) (val : Nat → Value) : MapIs (w.alloc (.map #[] 0)) w.heap.size [] val := ⟨#[], 0, heap_alloc_new w _, rfl⟩
end
end Go.Proofs.YtlhemcjahcmdeaaGreatDoor
namespace Go.Proofs.YtlhemcjahcmdeaaGreatDoor
open Go.RowKit
set_option maxRecDepth 100000
set_option linter.unusedSimpArgs false
set_option linter.unusedVariables false

section
variable {P : Program} {w : World} {t k e b : Nat} {L : List Nat} {val : Nat → Value}
theorem run_look1 (ht : P.underlying t = some (.map k e)) (hk : P.underlying k = some (.int .i64)) (h : MapIs w b L val) (i : Nat) (hin : i ∈ L) :
    (Instr.lookup t (.map (some b)) (.int .i64 (i : Int)) false).run P w = .ok (val i) w := by
  obtain ⟨es, c, hb, hes⟩ := h
  simp [Instr.lookup, run_underlying ht, run_getMap hb, run_checkKey hk, run_findKey hk hes, hin]
theorem run_look1_no (ht : P.underlying t = some (.map k e)) (hk : P.underlying k = some (.int .i64)) {z : Value} (hz : (zeroValue e).run P w = .ok z w) (h : MapIs w b L val) (i : Nat) (hin : i ∉ L) :
    (Instr.lookup t (.map (some b)) (.int .i64 (i : Int)) false).run P w = .ok z w := by
  obtain ⟨es, c, hb, hes⟩ := h
  simp [Instr.lookup, run_underlying ht, run_getMap hb, run_checkKey hk, run_findKey hk hes, hin, hz]
theorem run_lenM (ht : P.underlying t = some (.map k e)) (h : MapIs w b L val) (ty : TypeId) : (Builtin.len_ #[t] ty #[.map (some b)]).run P w = .ok (.int .i64 (L.length : Nat)) w := by
  obtain ⟨es, c, hb, hes⟩ := h
  have hl : es.size = L.length := by simpa using congrArg List.length hes
  simp [Builtin.len_, run_underlying ht, run_getMap hb, goInt, hl]
theorem run_makeMap0 (ht : P.underlying t = some (.map k e)) (w : World) : (Instr.makeMap t none).run P w = .ok (.map (some w.heap.size)) (w.alloc (.map #[] 0)) := by
  simp [Instr.makeMap, run_underlying ht]
end
/-- The cells of the keys, as natural numbers. -/
def natsK (l : List KeyD) : List Nat := l.map (fun k => k.d.toNat)
theorem nats_mem {l : List KeyD} {n : Nat} (h : ∀ k ∈ l, 0 ≤ k.d) : n ∈ natsK l ↔ (n : Int) ∈ l.map (·.d) := by
  unfold natsK
  rw [List.mem_map, List.mem_map]
  constructor
  · rintro ⟨k, hk, rfl⟩
    exact ⟨k, hk, by have := h k hk; omega⟩
  · rintro ⟨k, hk, he⟩
    exact ⟨k, hk, by have := h k hk; omega⟩
theorem key_drop {l : List KeyD} {k : Nat} (h : k < l.length) : l.take (k + 1) = l.take k ++ [l[k]] := List.take_succ_eq_append_getElem h
set_option maxHeartbeats 2000000 in
theorem cellsMatch_any {t : TypeId} (vl vn va vc vv : Value) (d : PoolD) (w : World) (h : RdP t w w.heap.size vl vn va vc vv d) (hs : SmallP d) (hl : (treeKeysK d.ts).length ≤ 2097152) : Calls Tryz.prog 226 #[.agg #[vl, vn, va, vc]] w (SaysBool w (cellsB d)) := by
  have hg : d.ce.length ≤ 2097152 := by have := hs.2.2.1; omega
  have h1 := hs.1
  have HK := Lib.hid (fun W b => refs_any vl vn d.lo d.ts W (h.1.on b) (by omega) (by omega) hl)
  obtain ⟨A0, c0, A1, c1, A2, c2, A3, c3, A4, c4, rfl, rfl, rfl, rfl, rfl⟩ := h.shape
  have HC := Lib.hid (fun W b i g => implCellAt_any (.slice A3 d.ce.length c3) d.ce i g W ((h.2.2.1.on b).retype _) hg)
  have HU := Lib.hid (fun W b => implUsedCells_any (.slice A3 d.ce.length c3) d.ce W ((h.2.2.1.on b).retype _) hg)
  have HB := Lib.hid (bal2 w (.cells #[.slice A0 d.lo.length c0, .slice A1 d.ts.length c1, .slice A2 d.ag.length c2, .slice A3 d.ce.length c3] 201) (.map #[] 0))
  obtain ⟨q0, q1⟩ := al2 w (.cells #[.slice A0 d.lo.length c0, .slice A1 d.ts.length c1, .slice A2 d.ag.length c2, .slice A3 d.ce.length c3] 201) (.map #[] 0)
  have Q0 := Lib.hid q0
  have hmm := run_makeMap0 (P := Tryz.prog) Tryz.underlying304
  have HM : Hid (MapIs _ _ [] (fun _ => .bool true)) := Lib.hid (MapIs.made (w.alloc (.cells #[.slice A0 d.lo.length c0, .slice A1 d.ts.length c1, .slice A2 d.ag.length c2, .slice A3 d.ce.length c3] 201)) (fun _ => .bool true))
  have hz0 : Hid (((w.alloc (.cells #[.slice A0 d.lo.length c0, .slice A1 d.ts.length c1, .slice A2 d.ag.length c2, .slice A3 d.ce.length c3] 201)).alloc (.map #[] 0)).heap.size = w.heap.size + 2) := Lib.hid (by simp)
  obtain ⟨rs, hrs⟩ : ∃ rs, refsK (treeKeysK d.ts) = rs := ⟨_, rfl⟩
  have hrl := refs_len (treeKeysK d.ts)
  rw [hrs] at hrl HK
  have HRS := Lib.hid hrs
  have hrn : rs.length ≤ 2097152 := by omega
  obtain ⟨R, hR⟩ : ∃ R, cellsB d = R := ⟨_, rfl⟩
  rw [hR]
  have HX := Lib.hid hR
  clear h hs hR q0 q1 h1 hrs hrl hl
  go_enter Tryz.func226, Tryz.ntmps226
  simp only [World.size_alloc] at HM
  go_upto_region 2 with (fail)
  clear hmm
  generalize (w.alloc (.cells #[.slice A0 d.lo.length c0, .slice A1 d.ts.length c1, .slice A2 d.ag.length c2, .slice A3 d.ce.length c3] 201)).alloc (.map #[] 0) = W at *
  have hz1 := Nat.le_of_eq hz0.out
  have hz2 := Nat.le_of_eq hz0.out.symm
  obtain ⟨x0, x1, x2, x3, x4⟩ := box4 Q0.out
  go_wp2_with fail
  refine (HK.out _ HB.out).mono ?_
  rintro e w1 ⟨v1, rfl, o, b1⟩
  replace Q0 := Lib.hid (box_on Q0.out b1)
  replace HM := Lib.hid (HM.out.on b1)
  replace HB := Lib.hid (bstep HB.out b1)
  have hz3 := b1.size
  have HO := Lib.hid (o.owns.mono (T := fun b => w.heap.size + 2 ≤ b) (fun b hb => by omega))
  obtain ⟨A5, c5, rfl, _, _⟩ := o.owns.reads.lenN
  clear x0 x1 x2 x3 x4 o b1
  go_wp2
  go_loopw [5, 6, 7, 13] (fun _ _ _ i wr => ∃ k : Nat, k ≤ rs.length ∧ i = .int .i64 k ∧ Hid (∀ j (hj : j < k) (hl : j < rs.length), cellB d.ce (rs[j]).d (rs[j]).e = true) ∧ Hid (((rs.take k).map (·.d)).Nodup) ∧ Hid (MapIs wr (w.heap.size + 1) (natsK (rs.take k)) (fun _ => .bool true)) ∧ Hid (Only (fun b => b = w.heap.size + 1) w1 wr)) (fun _ _ _ i _ => rs.length - (intOf i).toNat)
  case atStart => exact ⟨0, Nat.zero_le _, rfl, Lib.hid (fun j hj => by omega), Lib.hid (by simp), HM, Lib.hid (Only.refl _ _)⟩
  case round =>
    clear HM
    obtain ⟨k, hk, rfl, HI, HND, HM, HW⟩ := hrel
    have HBR := Lib.hid (HB.out.trans (HW.out.below HB.out.size (fun b hb => by omega)))
    have HQR := Lib.hid (box_only Q0.out HW.out (fun hb => by omega))
    have HOR := Lib.hid (HO.out.far HW.out (fun b hb _ hb' => by omega))
    have hzr := HW.out.size
    by_cases hlt : k < rs.length
    · obtain ⟨b, off, rfl, hbb, hc⟩ := HOR.out.reads.keys hlt
      have i1 : (k : Int) < (rs.length : Int) := by omega
      have i2 : (0 : Int) ≤ (k : Int) := by omega
      obtain ⟨y0, y1, y2, y3, y4⟩ := hc k hlt
      have HMISS : Hid (cellB d.ce (rs[k]).d (rs[k]).e = false → R = false) := Lib.hid (fun he => by rw [← HX.out]; exact cells_miss1 (k := rs[k]) (by rw [HRS.out]; exact List.getElem_mem hlt) he)
      have HDUP : Hid ((rs[k]).d ∈ (rs.take k).map (·.d) → R = false) := Lib.hid (fun hm => by
        rw [← HX.out]
        refine cells_miss2 (fun hn => ?_)
        rw [HRS.out] at hn
        have h2 : ((rs.take (k + 1)).map (·.d)).Nodup := hn.sublist ((List.take_sublist _ _).map _)
        rw [key_drop hlt, List.map_append, List.nodup_append] at h2
        exact h2.2.2 _ hm _ (by simp) rfl)
      have HNX : Hid ((rs[k]).d ∉ (rs.take k).map (·.d) → ((rs.take (k + 1)).map (·.d)).Nodup) := Lib.hid (fun hm => by
        rw [key_drop hlt, List.map_append]
        exact nodup_snoc HND.out hm)
      have HNS : Hid (natsK (rs.take (k + 1)) = natsK (rs.take k) ++ [(rs[k]).d.toNat]) := Lib.hid (by rw [key_drop hlt]; unfold natsK; rw [List.map_append]; rfl)
      have HPOS : Hid (∀ x ∈ rs.take k, 0 ≤ x.d) := Lib.hid (fun x hx => by
        obtain ⟨j, hj, rfl⟩ := List.mem_take_iff_getElem.1 hx
        exact cell_nat (HI.out j (by omega) (by omega)))
      have HNEXT : Hid (cellB d.ce (rs[k]).d (rs[k]).e = true → ∀ j (hj : j < k + 1) (hl : j < rs.length), cellB d.ce (rs[j]).d (rs[j]).e = true) := Lib.hid (fun he j hj hl => by
        by_cases h3 : j < k
        · exact HI.out j h3 hl
        · have : j = k := by omega
          subst this
          exact he)
      clear hc
      obtain ⟨v, hv⟩ : ∃ v, v = rs[k] := ⟨_, rfl⟩
      rw [← hv] at y0 y1 y2 y3 y4 HMISS HDUP HNX HNS HNEXT
      clear hv
      have ba := bal1 wr (.cells #[.int .i64 v.a, .int .i64 v.b, .int .i64 v.c, .int .i64 v.d, .int .i64 v.e] 112)
      have QK := Lib.hid (al1 wr (.cells #[.int .i64 v.a, .int .i64 v.b, .int .i64 v.c, .int .i64 v.d, .int .i64 v.e] 112))
      replace HQR := Lib.hid (box_on HQR.out ba)
      replace HM := Lib.hid (HM.out.on ba)
      replace HW := Lib.hid (HW.out.trans (Only.of_below ba _))
      replace HBR := Lib.hid (bstep HBR.out ba)
      clear ba HOR
      go_upto_region 5 with (fail)
      clear y0 y1 y2 y3 y4
      generalize wr.alloc (.cells #[.int .i64 v.a, .int .i64 v.b, .int .i64 v.c, .int .i64 v.d, .int .i64 v.e] 112) = wv at *
      obtain ⟨x0, x1, x2, x3, x4⟩ := box4 HQR.out
      obtain ⟨z0, z1, z2, z3, z4, z5⟩ := box5 QK.out
      go_wp2_with fail
      refine (HC.out _ HBR.out v.d v.e).mono ?_
      rintro e _ ⟨rfl, rfl⟩
      cases hcb : cellB d.ce v.d v.e
      · have HF : Hid (R = false) := Lib.hid (HMISS.out hcb)
        go_wp2
        go_ret
        exact ⟨by rw [HF.out]; rfl, HBR.out⟩
      · obtain ⟨n, hn⟩ : ∃ n : Nat, v.d = (n : Int) := ⟨v.d.toNat, by have := cell_nat hcb; omega⟩
        have HNE := Lib.hid (HNEXT.out hcb)
        have hnt : v.d.toNat = n := by rw [hn]; simp
        rw [hnt] at HNS
        by_cases hin : n ∈ natsK (rs.take k)
        · have HF : Hid (R = false) := Lib.hid (HDUP.out (by rw [hn]; exact (nats_mem HPOS.out).1 hin))
          have hlook : (Instr.lookup 304 (.map (some (w.heap.size + 1))) (.int .i64 v.d) false).run Tryz.prog wv = .ok (.bool true) wv := by
            rw [hn]
            exact run_look1 (P := Tryz.prog) Tryz.underlying304 Tryz.underlying3 HM.out n hin
          clear hn hnt hin
          go_wp2
          go_ret
          exact ⟨by rw [HF.out]; rfl, HBR.out⟩
        · have hlook : (Instr.lookup 304 (.map (some (w.heap.size + 1))) (.int .i64 v.d) false).run Tryz.prog wv = .ok (.bool false) wv := by
            rw [hn]
            exact run_look1_no (P := Tryz.prog) Tryz.underlying304 Tryz.underlying3 (Tryz.zeroValue4 wv) HM.out n hin
          have HND2 := Lib.hid (HNX.out (by rw [hn]; exact fun hm => hin ((nats_mem HPOS.out).2 hm)))
          obtain ⟨w4, hrun, hm4, hg4⟩ := run_upd (P := Tryz.prog) Tryz.underlying304 Tryz.underlying3 HM.out n hin
          have hupd : (Instr.mapUpdate 304 (.map (some (w.heap.size + 1))) (.int .i64 v.d) (.bool true)).run Tryz.prog wv = .ok () w4 := by
            rw [hn]
            exact hrun
          rw [← HNS.out] at hm4
          have HM4 := Lib.hid hm4
          have HW4 : Hid (Only (fun b => b = w.heap.size + 1) w1 w4) := Lib.hid (HW.out.trans (Only.of_grown hg4 rfl))
          clear hn hnt hin hrun hm4 hg4
          go_wp2
          go_roundw
          case rel => exact ⟨k + 1, by omega, by go_num, HNE, HND2, HM4, HW4⟩
          case measure => simp [intOf]; omega
    · have e : k = rs.length := by omega
      subst e
      rw [List.take_length] at HND HM
      have hlen := run_lenM (P := Tryz.prog) Tryz.underlying304 HM.out
      rw [show (natsK rs).length = rs.length by unfold natsK; simp] at hlen
      have HE := Lib.hid (cells_end (d := d) (by
        rw [HRS.out]
        intro x hx
        obtain ⟨j, hj, rfl⟩ := List.mem_iff_getElem.1 hx
        exact HI.out j hj hj) (by rw [HRS.out]; exact HND.out))
      rw [HRS.out, HX.out] at HE
      obtain ⟨x0, x1, x2, x3, x4⟩ := box4 HQR.out
      go_wp2_with fail
      refine (HU.out _ HBR.out).mono ?_
      rintro e w5 ⟨rfl, b1⟩
      have HB5 := Lib.hid (bstep HBR.out b1)
      clear b1 x0 x1 x2 x3 x4
      generalize usedK d.ce = u at *
      by_cases hu : rs.length = u
      · have e1 : ((rs.length : Int) == (u : Int)) = true := by simp; omega
        have HF : Hid (R = true) := Lib.hid (by rw [HE.out, decide_eq_true hu])
        clear hu
        go_wp2
        go_ret
        exact ⟨by rw [HF.out]; rfl, HB5.out⟩
      · have e1 : ((rs.length : Int) == (u : Int)) = false := by simp; omega
        have HF : Hid (R = false) := Lib.hid (by rw [HE.out, decide_eq_false hu])
        clear hu
        go_wp2
        go_ret
        exact ⟨by rw [HF.out]; rfl, HB5.out⟩
end Go.Proofs.YtlhemcjahcmdeaaGreatDoor
