/- Several texts in one: PoolVols, IntMap, PoolMap. -/
import Derived.Test.YtpfepcjbhchpcaaGreatPkND
namespace Go.Proofs.YtpfepcjbhchpcaaGreat
open Go.RowKit
set_option maxRecDepth 100000
set_option linter.unusedSimpArgs false
set_option linter.unusedVariables false

set_option maxHeartbeats 1000000 in
theorem ownVersion_any {t : TypeId} (vl vn va vc vv : Value) (d : PoolD) (id : Int) (w : World) (h : RdP t w w.heap.size vl vn va vc vv d) (hs : SmallP d) : Calls Tryz.prog 143 #[.agg #[vl, vn, va, vc, vv, .int .i64 d.nx], .int .i64 id] w (SaysBool w (ownB d id)) := by
  have hn : d.vo.length ≤ 2097152 := by have := hs.2.2.2; omega
  have hg : d.ag.length ≤ 2097152 := by have := hs.2.1; omega
  have HU := Lib.hid (fun W b => implVolsWith_any vl vn va vc vv d id W (h.on b) hn)
  obtain ⟨A0, c0, A1, c1, A2, c2, A3, c3, A4, c4, rfl, rfl, rfl, rfl, rfl⟩ := h.shape
  have HA := Lib.hid (fun W b => implAgeAt_any (.slice A2 d.ag.length c2) d.ag id W (h.2.1.on b) hg)
  have HK := Lib.hid (fun W b => implKidsOf_any (.slice A2 d.ag.length c2) d.ag id W (h.2.1.on b) hg)
  have HB := Lib.hid (bal1 w (.cells #[.slice A0 d.lo.length c0, .slice A1 d.ts.length c1, .slice A2 d.ag.length c2, .slice A3 d.ce.length c3, .slice A4 d.vo.length c4, .int .i64 d.nx] 41))
  have Q0 := Lib.hid (al1 w (.cells #[.slice A0 d.lo.length c0, .slice A1 d.ts.length c1, .slice A2 d.ag.length c2, .slice A3 d.ce.length c3, .slice A4 d.vo.length c4, .int .i64 d.nx] 41))
  obtain ⟨R, hR⟩ : ∃ R, ownB d id = R := ⟨_, rfl⟩
  rw [hR]
  have hx := hR.symm
  unfold ownB kidlessB at hx
  have HX := Lib.hid hx
  clear h hs hR hx hn hg
  go_enter Tryz.func143, Tryz.ntmps143
  go_upto_region 1 with (fail)
  generalize w.alloc (.cells #[.slice A0 d.lo.length c0, .slice A1 d.ts.length c1, .slice A2 d.ag.length c2, .slice A3 d.ce.length c3, .slice A4 d.vo.length c4, .int .i64 d.nx] 41) = W at *
  obtain ⟨x0, x1, x2, x3, x4, x5, x6⟩ := boxP Q0.out
  go_wp2_with fail
  refine (HA.out _ HB.out).mono ?_
  rintro e w1 ⟨rfl, b1⟩
  replace Q0 := Lib.hid (box_on Q0.out b1)
  replace HB := Lib.hid (bstep HB.out b1)
  clear x0 x1 x2 x3 x4 x5 x6 b1
  obtain ⟨x0, x1, x2, x3, x4, x5, x6⟩ := boxP Q0.out
  have hdec : decide ((ageAtK d.ag id : Int) ≥ 0) = decide (0 ≤ ageAtK d.ag id) := rfl
  cases h1 : decide (0 ≤ ageAtK d.ag id)
  · have HX2 : Hid (R = false) := Lib.hid (by rw [HX.out, h1]; rfl)
    have h2 : ¬ 0 ≤ ageAtK d.ag id := of_decide_eq_false h1
    clear hdec
    go_wp2
    go_ret
    exact ⟨by rw [HX2.out]; rfl, HB.out⟩
  · have h2 : 0 ≤ ageAtK d.ag id := of_decide_eq_true h1
    have HX2 := Lib.hid (HX.out.trans (by rw [h1, Bool.true_and]))
    clear hdec h1 HX
    go_wp2_with fail
    refine (HK.out _ HB.out).mono ?_
    rintro e w2 ⟨vk, rfl, ok, b1⟩
    obtain ⟨A5, c5, rfl, _, _⟩ := ok.owns.reads.lenN
    replace Q0 := Lib.hid (box_on Q0.out b1)
    replace HB := Lib.hid (bstep HB.out b1)
    clear x0 x1 x2 x3 x4 x5 x6 b1 ok
    obtain ⟨x0, x1, x2, x3, x4, x5, x6⟩ := boxP Q0.out
    generalize (kidsK d.ag id).length = m at *
    cases h3 : ((m : Int) == 0)
    · have HX3 : Hid (R = false) := Lib.hid (by rw [HX2.out, decide_eq_false (p := m = 0) (fun e => by rw [e] at h3; simp at h3)]; rfl)
      go_wp2
      go_ret
      exact ⟨by rw [HX3.out]; rfl, HB.out⟩
    · have HX3 : Hid (R = decide (usesK id d.vo = 1)) := Lib.hid (by rw [HX2.out, decide_eq_true (p := m = 0) (by simpa using h3), Bool.true_and])
      clear HX2
      go_wp2_with fail
      refine (HU.out _ HB.out).mono ?_
      rintro e w3 ⟨rfl, b1⟩
      replace HB := Lib.hid (bstep HB.out b1)
      clear x0 x1 x2 x3 x4 x5 x6 b1
      generalize usesK id d.vo = q at *
      cases h4 : ((q : Int) == 1)
      · have HX4 : Hid (R = false) := Lib.hid (by rw [HX3.out]; exact decide_eq_false (fun e => by rw [e] at h4; simp at h4))
        go_wp2
        go_ret
        exact ⟨by rw [HX4.out]; rfl, HB.out⟩
      · have HX4 : Hid (R = true) := Lib.hid (by rw [HX3.out]; exact decide_eq_true (by simp at h4; omega))
        go_wp2
        go_ret
        exact ⟨by rw [HX4.out]; rfl, HB.out⟩
set_option maxHeartbeats 2000000 in
theorem volsOk_any {t : TypeId} (vl vn va vc vv : Value) (d : PoolD) (w : World) (h : RdP t w w.heap.size vl vn va vc vv d) (hs : SmallP d) (hnm : ∀ k ∈ d.vo, k.a.size ≤ maxLen) : Calls Tryz.prog 77 #[.agg #[vl, vn, va, vc, vv, .int .i64 d.nx]] w (SaysBool w (volsB d)) := by
  have hn : d.vo.length ≤ 2097152 := by have := hs.2.2.2; omega
  have HO := Lib.hid (fun W b id => ownVersion_any vl vn va vc vv d id W (h.on b) hs)
  obtain ⟨A0, c0, A1, c1, A2, c2, A3, c3, A4, c4, rfl, rfl, rfl, rfl, rfl⟩ := h.shape
  have HA := Lib.hid (fun W b => ascendingV_any (.slice A4 d.vo.length c4) d.vo W (h.2.2.2.on b) hn)
  have HS := Lib.hid (volSet_any A4 d.vo.length c4)
  have HV := Lib.hid h.2.2.2
  have HN := Lib.hid (fun (v : VolD) (hv : v ∈ d.vo) W => implNameOk_any v.a W (hnm v hv))
  have HB := Lib.hid (bal1 w (.cells #[.slice A0 d.lo.length c0, .slice A1 d.ts.length c1, .slice A2 d.ag.length c2, .slice A3 d.ce.length c3, .slice A4 d.vo.length c4, .int .i64 d.nx] 41))
  have Q0 := Lib.hid (al1 w (.cells #[.slice A0 d.lo.length c0, .slice A1 d.ts.length c1, .slice A2 d.ag.length c2, .slice A3 d.ce.length c3, .slice A4 d.vo.length c4, .int .i64 d.nx] 41))
  unfold lessVV at HA HS
  obtain ⟨R, hR⟩ : ∃ R, volsB d = R := ⟨_, rfl⟩
  rw [hR]
  have HX := Lib.hid hR
  clear h hs hR hn hnm
  go_enter Tryz.func77, Tryz.ntmps77
  go_upto_region 1 with (fail)
  generalize w.alloc (.cells #[.slice A0 d.lo.length c0, .slice A1 d.ts.length c1, .slice A2 d.ag.length c2, .slice A3 d.ce.length c3, .slice A4 d.vo.length c4, .int .i64 d.nx] 41) = W at *
  obtain ⟨x0, x1, x2, x3, x4, x5, x6⟩ := boxP Q0.out
  by_cases h6 : d.vo.length ≤ 6
  · have e6 : decide ((d.vo.length : Int) > 6) = false := decide_eq_false (by omega)
    go_wp2_with fail
    refine (HS.out _).mono ?_
    rintro e w1 ⟨rfl, b1⟩
    replace Q0 := Lib.hid (box_on Q0.out b1)
    replace HB := Lib.hid (bstep HB.out b1)
    clear x0 x1 x2 x3 x4 x5 x6 b1
    obtain ⟨x0, x1, x2, x3, x4, x5, x6⟩ := boxP Q0.out
    go_wp2_with fail
    refine (HA.out _ HB.out).mono ?_
    rintro e w2 ⟨rfl, b1⟩
    replace Q0 := Lib.hid (box_on Q0.out b1)
    replace HB := Lib.hid (bstep HB.out b1)
    clear x0 x1 x2 x3 x4 x5 x6 b1
    obtain ⟨x0, x1, x2, x3, x4, x5, x6⟩ := boxP Q0.out
    cases ha : ascB d.vo
    · have HX2 : Hid (R = false) := Lib.hid (by rw [← HX.out]; unfold volsB; rw [ha, Bool.and_false]; rfl)
      go_wp2
      go_ret
      exact ⟨by rw [HX2.out]; rfl, HB.out⟩
    · have HX2 : Hid (R = d.vo.all (okV d)) := Lib.hid (by rw [← HX.out]; unfold volsB; rw [ha, decide_eq_true h6]; rfl)
      clear x0 x1 x2 x3 x4 x5 x6 ha
      obtain ⟨x0, x1, x2, x3, x4, x5, x6⟩ := boxP Q0.out
      go_wp2
      go_loopw [4, 19] (fun _ i wr => ∃ k : Nat, k ≤ d.vo.length ∧ i = .int .i64 k ∧ Hid (∀ j (hj : j < k) (hl : j < d.vo.length), okV d d.vo[j] = true) ∧ Hid (Below w.heap.size w wr) ∧ Hid (wr.heap[w.heap.size]? = some (.cells #[.slice A0 d.lo.length c0, .slice A1 d.ts.length c1, .slice A2 d.ag.length c2, .slice A3 d.ce.length c3, .slice A4 d.vo.length c4, .int .i64 d.nx] 41))) (fun _ i _ => d.vo.length - (intOf i).toNat)
      case atStart => exact ⟨0, Nat.zero_le _, rfl, Lib.hid (fun j hj => by omega), HB, Q0⟩
      case round =>
        clear x0 x1 x2 x3 x4 x5 x6 Q0 HB
        obtain ⟨k, hk, rfl, HI, HB, Q0⟩ := hrel
        by_cases hlt : k < d.vo.length
        · obtain ⟨b, off, rfl, hbb, hc⟩ := (HV.out.on HB.out).vols hlt
          have i1 : (k : Int) < (d.vo.length : Int) := by omega
          have i2 : (0 : Int) ≤ (k : Int) := by omega
          obtain ⟨y0, y1, y2, y3⟩ := hc k hlt
          have HM := Lib.hid (HN.out _ (List.getElem_mem hlt))
          have HBV := Lib.hid (okV_miss hlt)
          have HST := Lib.hid (okV_step hlt HI.out)
          clear hc
          obtain ⟨v, hv⟩ : ∃ v, v = d.vo[k] := ⟨_, rfl⟩
          rw [← hv] at y0 y1 y2 y3 HM HBV HST
          have b1 := bal1 wr (.cells #[.string v.a, .int .i64 v.b, .int .i64 v.c, .bool v.d] 110)
          have QV := Lib.hid (al1 wr (.cells #[.string v.a, .int .i64 v.b, .int .i64 v.c, .bool v.d] 110))
          replace Q0 := Lib.hid (box_on Q0.out b1)
          have HB2 := Lib.hid (bstep HB.out b1)
          clear b1 hv
          go_upto_region 6 with (fail)
          clear y0 y1 y2 y3
          generalize wr.alloc (.cells #[.string v.a, .int .i64 v.b, .int .i64 v.c, .bool v.d] 110) = wv at *
          obtain ⟨x0, x1, x2, x3, x4, x5, x6⟩ := boxP Q0.out
          obtain ⟨z0, z1, z2, z3, z4⟩ := box4 QV.out
          go_wp2_with fail
          refine (HM.out _).mono ?_
          rintro e _ ⟨rfl, rfl⟩
          cases hname : nameOkB v.a
          · have HF : Hid (R = false) := Lib.hid (by rw [← HX.out]; exact HBV.out (by unfold okV; rw [hname]; rfl))
            go_wp2
            go_ret
            exact ⟨by rw [HF.out]; rfl, HB2.out⟩
          · go_wp2_with fail
            refine (sizeOk_any v.c _).mono ?_
            rintro e _ ⟨rfl, rfl⟩
            cases hsz : sizeB v.c
            · have HF : Hid (R = false) := Lib.hid (by rw [← HX.out]; exact HBV.out (by unfold okV; rw [hsz, Bool.and_false]; rfl))
              go_wp2
              go_ret
              exact ⟨by rw [HF.out]; rfl, HB2.out⟩
            · have HOV : Hid (okV d v = ownB d v.b) := Lib.hid (by unfold okV; rw [hname, hsz]; rfl)
              go_wp2_with fail
              refine (HO.out _ HB2.out v.b).mono ?_
              rintro e w5 ⟨rfl, b1⟩
              replace Q0 := Lib.hid (box_on Q0.out b1)
              have HB3 := Lib.hid (bstep HB2.out b1)
              clear x0 x1 x2 x3 x4 x5 x6 z0 z1 z2 z3 z4 b1
              cases hown : ownB d v.b
              · have HF : Hid (R = false) := Lib.hid (by rw [← HX.out]; exact HBV.out (by rw [HOV.out, hown]))
                go_wp2
                go_ret
                exact ⟨by rw [HF.out]; rfl, HB3.out⟩
              · have HF := Lib.hid (HST.out (by rw [HOV.out, hown]))
                go_wp2
                go_roundw
                case rel => exact ⟨k + 1, by omega, by go_num, HF, HB3, Q0⟩
                case measure => simp [intOf]; omega
        · have HF : Hid (R = true) := Lib.hid (by rw [HX2.out]; exact okV_all (fun j hl => HI.out j (by omega) hl))
          go_wp2
          go_ret
          exact ⟨by rw [HF.out]; rfl, HB.out⟩
  · have e6 : decide ((d.vo.length : Int) > 6) = true := decide_eq_true (by omega)
    have HX2 : Hid (R = false) := Lib.hid (by rw [← HX.out]; unfold volsB; rw [decide_eq_false h6]; rfl)
    go_wp2
    go_ret
    exact ⟨by rw [HX2.out]; rfl, HB.out⟩
end Go.Proofs.YtpfepcjbhchpcaaGreat
namespace Go.Proofs.YtpfepcjbhchpcaaGreat
open Go.RowKit
set_option maxRecDepth 100000
set_option linter.unusedSimpArgs false
set_option linter.unusedVariables false

/-- Block b is a map with the keys L, in the order in which they were stored; under i lies val i. -/
def MapIs (w : World) (b : Nat) (L : List Nat) (val : Nat → Value) : Prop := ∃ es clock, w.heap[b]? = some (.map es clock) ∧ es.toList.map (fun e => (e.key, e.val)) = L.map (fun (i : Nat) => (Value.int .i64 (i : Int), val i))
theorem MapIs.keep {w w' : World} {b : Nat} {L : List Nat} {val : Nat → Value} (h : MapIs w b L val) (hk : w'.heap[b]? = w.heap[b]?) : MapIs w' b L val := by
  obtain ⟨es, c, hb, r⟩ := h
  exact ⟨es, c, hk.trans hb, r⟩
theorem MapIs.lt {w : World} {b : Nat} {L : List Nat} {val : Nat → Value} (h : MapIs w b L val) : b < w.heap.size := by
  obtain ⟨es, c, hb, r⟩ := h
  exact (Array.getElem?_eq_some_iff.1 hb).1
theorem MapIs.on {w w' : World} {b : Nat} {L : List Nat} {val : Nat → Value} (h : MapIs w b L val) (hb : Below w.heap.size w w') : MapIs w' b L val := h.keep (hb.block b h.lt)
theorem find_lem (val : Nat → Value) (k : Nat) : ∀ (L : List Nat) (es : List MapEntry) (i0 : Nat), es.map (fun e => (e.key, e.val)) = L.map (fun (i : Nat) => (Value.int .i64 (i : Int), val i)) →
    Instr.findNow (.int .i64) (.int .i64 (k : Int)) es i0 = some (if k ∈ L then some (i0 + L.idxOf k, val k) else none)
  | [], es, i0, h => by
    have : es = [] := by simpa using h
    subst this; simp [Instr.findNow]
  | j :: L, [], i0, h => by simp at h
  | j :: L, e :: es, i0, h => by
    simp only [List.map_cons, List.cons.injEq, Prod.mk.injEq] at h
    obtain ⟨⟨h1, h2⟩, h3⟩ := h
    have ih := find_lem val k L es (i0 + 1) h3
    simp only [Instr.findNow, h1, h2, Instr.sameNow]
    by_cases hkj : k = j
    · subst hkj; simp
    · have : ((k : Int) == (j : Int)) = false := by simp; omega
      have hjk : ¬ j = k := fun h => hkj h.symm
      simp only [this, if_true, ih, List.mem_cons, hkj, false_or, List.idxOf_cons]
      by_cases hm : k ∈ L
      · have hbeq : (j == k) = false := by simpa using hjk
        simp [hm, hbeq]; omega
      · simp [hm]
section
variable {P : Program} {w : World} {t k e b : Nat} {L : List Nat} {val : Nat → Value}
theorem run_checkKey (hk : P.underlying k = some (.int .i64)) (em : Bool) (x : Int) : (Instr.checkKey em 10000 k (.int .i64 x)).run P w = .ok () w := by
  unfold Instr.checkKey
  simp [run_underlying hk]
theorem run_findKey (hk : P.underlying k = some (.int .i64)) {es : Array MapEntry} (hes : es.toList.map (fun e => (e.key, e.val)) = L.map (fun (i : Nat) => (Value.int .i64 (i : Int), val i))) (i : Nat) :
    (Instr.findKey k (.int .i64 (i : Int)) es.toList).run P w = .ok (if i ∈ L then some (L.idxOf i, val i) else none) w := by
  simp [Instr.findKey, run_underlying hk, find_lem val i L es.toList 0 hes]
theorem run_getMap {es : Array MapEntry} {c : Nat} (h : w.heap[b]? = some (.map es c)) : (getObj b).run P w = .ok (.map es c) w := by
  simp [getObj, Sem.run, h]
/-- The world in which block b holds o. -/
def putB (w : World) (b : Nat) (o : Obj) : World := { w with heap := w.heap.setIfInBounds b o }
theorem putB_grown (w : World) (b : Nat) (o : Obj) : w.grownBy (putB w b o) (some b) :=
  ⟨rfl, rfl, rfl, by simp [putB], fun i _ hne => by
    have h : b ≠ i := fun h => hne (congrArg some h.symm)
    simp [putB, Array.getElem?_setIfInBounds_ne h]⟩
theorem run_setMap {es : Array MapEntry} {c : Nat} (h : w.heap[b]? = some (.map es c)) (o : Obj) : (setObj b o).run P w = .ok () (putB w b o) := by
  simp [setObj, Sem.run, h, putB]
theorem run_upd (ht : P.underlying t = some (.map k e)) (hk : P.underlying k = some (.int .i64)) (h : MapIs w b L val) (i : Nat) (hin : i ∉ L) :
    ∃ w', (Instr.mapUpdate t (.map (some b)) (.int .i64 (i : Int)) (val i)).run P w = .ok () w' ∧ MapIs w' b (L ++ [i]) val ∧ w.grownBy w' (some b) := by
  obtain ⟨es, c, hb, hes⟩ := h
  have hlt := (Array.getElem?_eq_some_iff.1 hb).1
  refine ⟨putB w b (.map (es.push { key := .int .i64 (i : Int), val := val i, born := c }) (c + 1)), ?_, ⟨es.push { key := .int .i64 (i : Int), val := val i, born := c }, c + 1, by simp [putB, hlt], by simp [hes]⟩, putB_grown _ _ _⟩
  simp [Instr.mapUpdate, run_underlying ht, run_getMap hb, run_checkKey hk, run_findKey hk hes, hin, run_setMap hb]
theorem MapIs.made (w : World) (val : Nat → Value) : MapIs (w.alloc (.map #[] 0)) w.heap.size [] val := ⟨#[], 0, heap_alloc_new w _, rfl⟩
end
end Go.Proofs.YtpfepcjbhchpcaaGreat
namespace Go.Proofs.YtpfepcjbhchpcaaGreat
open Go.RowKit
set_option maxRecDepth 100000
set_option linter.unusedSimpArgs false
set_option linter.unusedVariables false

section
variable {P : Program} {w : World} {t k e b : Nat} {L : List Nat} {val : Nat → Value}
theorem run_look1 (ht : P.underlying t = some (.map k e)) (hk : P.underlying k = some (.int .i64)) (h : MapIs w b L val) (i : Nat) (hin : i ∈ L) :
    (Instr.lookup t (.map (some b)) (.int .i64 (i : Int)) false).run P w = .ok (val i) w := by
  obtain ⟨es, c, hb, hes⟩ := h
  simp [Instr.lookup, run_underlying ht, run_getMap hb, run_checkKey hk, run_findKey hk hes, hin]
theorem run_look1_no (ht : P.underlying t = some (.map k e)) (hk : P.underlying k = some (.int .i64)) {z : Value} (hz : (zeroValue e).run P w = .ok z w) (h : MapIs w b L val) (i : Nat) (hin : i ∉ L) :
    (Instr.lookup t (.map (some b)) (.int .i64 (i : Int)) false).run P w = .ok z w := by
  obtain ⟨es, c, hb, hes⟩ := h
  simp [Instr.lookup, run_underlying ht, run_getMap hb, run_checkKey hk, run_findKey hk hes, hin, hz]
theorem run_lenM (ht : P.underlying t = some (.map k e)) (h : MapIs w b L val) (ty : TypeId) : (Builtin.len_ #[t] ty #[.map (some b)]).run P w = .ok (.int .i64 (L.length : Nat)) w := by
  obtain ⟨es, c, hb, hes⟩ := h
  have hl : es.size = L.length := by simpa using congrArg List.length hes
  simp [Builtin.len_, run_underlying ht, run_getMap hb, goInt, hl]
theorem run_makeMap0 (ht : P.underlying t = some (.map k e)) (w : World) : (Instr.makeMap t none).run P w = .ok (.map (some w.heap.size)) (w.alloc (.map #[] 0)) := by
  simp [Instr.makeMap, run_underlying ht]
end
/-- The cells of the keys, as natural numbers. -/
def natsK (l : List KeyD) : List Nat := l.map (fun k => k.d.toNat)
theorem nats_mem {l : List KeyD} {n : Nat} (h : ∀ k ∈ l, 0 ≤ k.d) : n ∈ natsK l ↔ (n : Int) ∈ l.map (·.d) := by
  unfold natsK
  rw [List.mem_map, List.mem_map]
  constructor
  · rintro ⟨k, hk, rfl⟩
    exact ⟨k, hk, by have := h k hk; omega⟩
  · rintro ⟨k, hk, he⟩
    exact ⟨k, hk, by have := h k hk; omega⟩
theorem key_drop {l : List KeyD} {k : Nat} (h : k < l.length) : l.take (k + 1) = l.take k ++ [l[k]] := List.take_succ_eq_append_getElem h
set_option maxHeartbeats 2000000 in
theorem cellsMatch_any {t : TypeId} (vl vn va vc vv : Value) (d : PoolD) (w : World) (h : RdP t w w.heap.size vl vn va vc vv d) (hs : SmallP d) (hl : (treeKeysK d.ts).length ≤ 2097152) : Calls Tryz.prog 79 #[.agg #[vl, vn, va, vc]] w (SaysBool w (cellsB d)) := by
  have hg : d.ce.length ≤ 2097152 := by have := hs.2.2.1; omega
  have h1 := hs.1
  have HK := Lib.hid (fun W b => refs_any vl vn d.lo d.ts W (h.1.on b) (by omega) (by omega) hl)
  obtain ⟨A0, c0, A1, c1, A2, c2, A3, c3, A4, c4, rfl, rfl, rfl, rfl, rfl⟩ := h.shape
  have HC := Lib.hid (fun W b i g => implCellAt_any (.slice A3 d.ce.length c3) d.ce i g W ((h.2.2.1.on b).retype _) hg)
  have HU := Lib.hid (fun W b => implUsedCells_any (.slice A3 d.ce.length c3) d.ce W ((h.2.2.1.on b).retype _) hg)
  have HB := Lib.hid (bal2 w (.cells #[.slice A0 d.lo.length c0, .slice A1 d.ts.length c1, .slice A2 d.ag.length c2, .slice A3 d.ce.length c3] 113) (.map #[] 0))
  obtain ⟨q0, q1⟩ := al2 w (.cells #[.slice A0 d.lo.length c0, .slice A1 d.ts.length c1, .slice A2 d.ag.length c2, .slice A3 d.ce.length c3] 113) (.map #[] 0)
  have Q0 := Lib.hid q0
  have hmm := run_makeMap0 (P := Tryz.prog) Tryz.underlying177
  have HM : Hid (MapIs _ _ [] (fun _ => .bool true)) := Lib.hid (MapIs.made (w.alloc (.cells #[.slice A0 d.lo.length c0, .slice A1 d.ts.length c1, .slice A2 d.ag.length c2, .slice A3 d.ce.length c3] 113)) (fun _ => .bool true))
  have hz0 : Hid (((w.alloc (.cells #[.slice A0 d.lo.length c0, .slice A1 d.ts.length c1, .slice A2 d.ag.length c2, .slice A3 d.ce.length c3] 113)).alloc (.map #[] 0)).heap.size = w.heap.size + 2) := Lib.hid (by simp)
  obtain ⟨rs, hrs⟩ : ∃ rs, refsK (treeKeysK d.ts) = rs := ⟨_, rfl⟩
  have hrl := refs_len (treeKeysK d.ts)
  rw [hrs] at hrl HK
  have HRS := Lib.hid hrs
  have hrn : rs.length ≤ 2097152 := by omega
  obtain ⟨R, hR⟩ : ∃ R, cellsB d = R := ⟨_, rfl⟩
  rw [hR]
  have HX := Lib.hid hR
  clear h hs hR q0 q1 h1 hrs hrl hl
  go_enter Tryz.func79, Tryz.ntmps79
  simp only [World.size_alloc] at HM
  go_upto_region 2 with (fail)
  clear hmm
  generalize (w.alloc (.cells #[.slice A0 d.lo.length c0, .slice A1 d.ts.length c1, .slice A2 d.ag.length c2, .slice A3 d.ce.length c3] 113)).alloc (.map #[] 0) = W at *
  have hz1 := Nat.le_of_eq hz0.out
  have hz2 := Nat.le_of_eq hz0.out.symm
  obtain ⟨x0, x1, x2, x3, x4⟩ := box4 Q0.out
  go_wp2_with fail
  refine (HK.out _ HB.out).mono ?_
  rintro e w1 ⟨v1, rfl, o, b1⟩
  replace Q0 := Lib.hid (box_on Q0.out b1)
  replace HM := Lib.hid (HM.out.on b1)
  replace HB := Lib.hid (bstep HB.out b1)
  have hz3 := b1.size
  have HO := Lib.hid (o.owns.mono (T := fun b => w.heap.size + 2 ≤ b) (fun b hb => by omega))
  obtain ⟨A5, c5, rfl, _, _⟩ := o.owns.reads.lenN
  clear x0 x1 x2 x3 x4 o b1
  go_wp2
  go_loopw [5, 6, 7, 13] (fun _ _ _ i wr => ∃ k : Nat, k ≤ rs.length ∧ i = .int .i64 k ∧ Hid (∀ j (hj : j < k) (hl : j < rs.length), cellB d.ce (rs[j]).d (rs[j]).e = true) ∧ Hid (((rs.take k).map (·.d)).Nodup) ∧ Hid (MapIs wr (w.heap.size + 1) (natsK (rs.take k)) (fun _ => .bool true)) ∧ Hid (Only (fun b => b = w.heap.size + 1) w1 wr)) (fun _ _ _ i _ => rs.length - (intOf i).toNat)
  case atStart => exact ⟨0, Nat.zero_le _, rfl, Lib.hid (fun j hj => by omega), Lib.hid (by simp), HM, Lib.hid (Only.refl _ _)⟩
  case round =>
    clear HM
    obtain ⟨k, hk, rfl, HI, HND, HM, HW⟩ := hrel
    have HBR := Lib.hid (HB.out.trans (HW.out.below HB.out.size (fun b hb => by omega)))
    have HQR := Lib.hid (box_only Q0.out HW.out (fun hb => by omega))
    have HOR := Lib.hid (HO.out.far HW.out (fun b hb _ hb' => by omega))
    have hzr := HW.out.size
    by_cases hlt : k < rs.length
    · obtain ⟨b, off, rfl, hbb, hc⟩ := HOR.out.reads.keys hlt
      have i1 : (k : Int) < (rs.length : Int) := by omega
      have i2 : (0 : Int) ≤ (k : Int) := by omega
      obtain ⟨y0, y1, y2, y3, y4⟩ := hc k hlt
      have HMISS : Hid (cellB d.ce (rs[k]).d (rs[k]).e = false → R = false) := Lib.hid (fun he => by rw [← HX.out]; exact cells_miss1 (k := rs[k]) (by rw [HRS.out]; exact List.getElem_mem hlt) he)
      have HDUP : Hid ((rs[k]).d ∈ (rs.take k).map (·.d) → R = false) := Lib.hid (fun hm => by
        rw [← HX.out]
        refine cells_miss2 (fun hn => ?_)
        rw [HRS.out] at hn
        have h2 : ((rs.take (k + 1)).map (·.d)).Nodup := hn.sublist ((List.take_sublist _ _).map _)
        rw [key_drop hlt, List.map_append, List.nodup_append] at h2
        exact h2.2.2 _ hm _ (by simp) rfl)
      have HNX : Hid ((rs[k]).d ∉ (rs.take k).map (·.d) → ((rs.take (k + 1)).map (·.d)).Nodup) := Lib.hid (fun hm => by
        rw [key_drop hlt, List.map_append]
        exact nodup_snoc HND.out hm)
      have HNS : Hid (natsK (rs.take (k + 1)) = natsK (rs.take k) ++ [(rs[k]).d.toNat]) := Lib.hid (by rw [key_drop hlt]; unfold natsK; rw [List.map_append]; rfl)
      have HPOS : Hid (∀ x ∈ rs.take k, 0 ≤ x.d) := Lib.hid (fun x hx => by
        obtain ⟨j, hj, rfl⟩ := List.mem_take_iff_getElem.1 hx
        exact cell_nat (HI.out j (by omega) (by omega)))
      have HNEXT : Hid (cellB d.ce (rs[k]).d (rs[k]).e = true → ∀ j (hj : j < k + 1) (hl : j < rs.length), cellB d.ce (rs[j]).d (rs[j]).e = true) := Lib.hid (fun he j hj hl => by
        by_cases h3 : j < k
        · exact HI.out j h3 hl
        · have : j = k := by omega
          subst this
          exact he)
      clear hc
      obtain ⟨v, hv⟩ : ∃ v, v = rs[k] := ⟨_, rfl⟩
      rw [← hv] at y0 y1 y2 y3 y4 HMISS HDUP HNX HNS HNEXT
      clear hv
      have ba := bal1 wr (.cells #[.int .i64 v.a, .int .i64 v.b, .int .i64 v.c, .int .i64 v.d, .int .i64 v.e] 58)
      have QK := Lib.hid (al1 wr (.cells #[.int .i64 v.a, .int .i64 v.b, .int .i64 v.c, .int .i64 v.d, .int .i64 v.e] 58))
      replace HQR := Lib.hid (box_on HQR.out ba)
      replace HM := Lib.hid (HM.out.on ba)
      replace HW := Lib.hid (HW.out.trans (Only.of_below ba _))
      replace HBR := Lib.hid (bstep HBR.out ba)
      clear ba HOR
      go_upto_region 5 with (fail)
      clear y0 y1 y2 y3 y4
      generalize wr.alloc (.cells #[.int .i64 v.a, .int .i64 v.b, .int .i64 v.c, .int .i64 v.d, .int .i64 v.e] 58) = wv at *
      obtain ⟨x0, x1, x2, x3, x4⟩ := box4 HQR.out
      obtain ⟨z0, z1, z2, z3, z4, z5⟩ := box5 QK.out
      go_wp2_with fail
      refine (HC.out _ HBR.out v.d v.e).mono ?_
      rintro e _ ⟨rfl, rfl⟩
      cases hcb : cellB d.ce v.d v.e
      · have HF : Hid (R = false) := Lib.hid (HMISS.out hcb)
        go_wp2
        go_ret
        exact ⟨by rw [HF.out]; rfl, HBR.out⟩
      · obtain ⟨n, hn⟩ : ∃ n : Nat, v.d = (n : Int) := ⟨v.d.toNat, by have := cell_nat hcb; omega⟩
        have HNE := Lib.hid (HNEXT.out hcb)
        have hnt : v.d.toNat = n := by rw [hn]; simp
        rw [hnt] at HNS
        by_cases hin : n ∈ natsK (rs.take k)
        · have HF : Hid (R = false) := Lib.hid (HDUP.out (by rw [hn]; exact (nats_mem HPOS.out).1 hin))
          have hlook : (Instr.lookup 177 (.map (some (w.heap.size + 1))) (.int .i64 v.d) false).run Tryz.prog wv = .ok (.bool true) wv := by
            rw [hn]
            exact run_look1 (P := Tryz.prog) Tryz.underlying177 Tryz.underlying3 HM.out n hin
          clear hn hnt hin
          go_wp2
          go_ret
          exact ⟨by rw [HF.out]; rfl, HBR.out⟩
        · have hlook : (Instr.lookup 177 (.map (some (w.heap.size + 1))) (.int .i64 v.d) false).run Tryz.prog wv = .ok (.bool false) wv := by
            rw [hn]
            exact run_look1_no (P := Tryz.prog) Tryz.underlying177 Tryz.underlying3 (Tryz.zeroValue4 wv) HM.out n hin
          have HND2 := Lib.hid (HNX.out (by rw [hn]; exact fun hm => hin ((nats_mem HPOS.out).2 hm)))
          obtain ⟨w4, hrun, hm4, hg4⟩ := run_upd (P := Tryz.prog) Tryz.underlying177 Tryz.underlying3 HM.out n hin
          have hupd : (Instr.mapUpdate 177 (.map (some (w.heap.size + 1))) (.int .i64 v.d) (.bool true)).run Tryz.prog wv = .ok () w4 := by
            rw [hn]
            exact hrun
          rw [← HNS.out] at hm4
          have HM4 := Lib.hid hm4
          have HW4 : Hid (Only (fun b => b = w.heap.size + 1) w1 w4) := Lib.hid (HW.out.trans (Only.of_grown hg4 rfl))
          clear hn hnt hin hrun hm4 hg4
          go_wp2
          go_roundw
          case rel => exact ⟨k + 1, by omega, by go_num, HNE, HND2, HM4, HW4⟩
          case measure => simp [intOf]; omega
    · have e : k = rs.length := by omega
      subst e
      rw [List.take_length] at HND HM
      have hlen := run_lenM (P := Tryz.prog) Tryz.underlying177 HM.out
      rw [show (natsK rs).length = rs.length by unfold natsK; simp] at hlen
      have HE := Lib.hid (cells_end (d := d) (by
        rw [HRS.out]
        intro x hx
        obtain ⟨j, hj, rfl⟩ := List.mem_iff_getElem.1 hx
        exact HI.out j hj hj) (by rw [HRS.out]; exact HND.out))
      rw [HRS.out, HX.out] at HE
      obtain ⟨x0, x1, x2, x3, x4⟩ := box4 HQR.out
      go_wp2_with fail
      refine (HU.out _ HBR.out).mono ?_
      rintro e w5 ⟨rfl, b1⟩
      have HB5 := Lib.hid (bstep HBR.out b1)
      clear b1 x0 x1 x2 x3 x4
      generalize usedK d.ce = u at *
      by_cases hu : rs.length = u
      · have e1 : ((rs.length : Int) == (u : Int)) = true := by simp; omega
        have HF : Hid (R = true) := Lib.hid (by rw [HE.out, decide_eq_true hu])
        clear hu
        go_wp2
        go_ret
        exact ⟨by rw [HF.out]; rfl, HB5.out⟩
      · have e1 : ((rs.length : Int) == (u : Int)) = false := by simp; omega
        have HF : Hid (R = false) := Lib.hid (by rw [HE.out, decide_eq_false hu])
        clear hu
        go_wp2
        go_ret
        exact ⟨by rw [HF.out]; rfl, HB5.out⟩
end Go.Proofs.YtpfepcjbhchpcaaGreat
