/- Contracts of spec.VolAt, impl.VolAt (slices.IndexFunc with its closure), spec.Idle, impl.Idle, impl.volsWith. Conditions: at most 2^21 volumes. -/
import Derived.Test.YtmpgmjnagpiijaaPool
import Derived.Test.YtmpgmjnagpiijaaCelRow
import Derived.Test.YtmpgmjnagpiijaaTreeNew
namespace Go.Proofs.Ytmpgmjnagpiijaa
open Go.RowKit
set_option maxRecDepth 100000
set_option linter.unusedSimpArgs false
set_option linter.unusedVariables false

/-- How many volumes at the head have another name. -/
def volJ (s : ByteArray) : List VolD → Nat
  | [] => 0
  | k :: l => if (k.a.toList == s.toList) = true then 0 else volJ s l + 1
def volK (s : ByteArray) (l : List VolD) : Int := if volJ s l < l.length then (volJ s l : Int) else -1
theorem volJ_hit {s : ByteArray} {l : List VolD} {k : Nat} (h : k < l.length) (hs : ((l[k]).a.toList == s.toList) = true) (hi : volJ s l = k + volJ s (l.drop k)) : volJ s l = k := by
  rw [vol_drop h, volJ, if_pos hs] at hi
  exact hi
theorem volJ_step {s : ByteArray} {l : List VolD} {k : Nat} (h : k < l.length) (hs : ((l[k]).a.toList == s.toList) = false) (hi : volJ s l = k + volJ s (l.drop k)) : volJ s l = (k + 1) + volJ s (l.drop (k + 1)) := by
  rw [vol_drop h, volJ, if_neg (by rw [hs]; simp)] at hi
  omega
theorem volK_hit {s : ByteArray} {l : List VolD} {k : Nat} (h : k < l.length) (hi : volJ s l = k) : volK s l = (k : Int) := by
  unfold volK
  rw [hi, if_pos h]
theorem volK_none {s : ByteArray} {l : List VolD} {k : Nat} (h : ¬ k < l.length) (hi : volJ s l = k + volJ s (l.drop k)) : volK s l = -1 := by
  unfold volK
  rw [if_neg (by omega)]
/-- How many volumes have the version. -/
def usesK (id : Int) (l : List VolD) : Nat := l.countP (fun k => k.b == id)
def idleP (id : Int) (l : List VolD) : Bool := l.all (fun k => !(k.b == id))
theorem uses_le (id : Int) (l : List VolD) (k : Nat) : usesK id (l.take k) ≤ l.length := by
  have h1 := List.countP_le_length (p := fun k : VolD => k.b == id) (l := l.take k)
  have h2 : (l.take k).length ≤ l.length := by simp; omega
  unfold usesK
  omega
theorem uses_step {id : Int} {l : List VolD} {k : Nat} (h : k < l.length) : usesK id (l.take (k + 1)) = usesK id (l.take k) + (if (l[k]).b == id then 1 else 0) := by
  unfold usesK
  rw [List.take_succ_eq_append_getElem h, List.countP_append, List.countP_singleton]
theorem idle_uses (id : Int) (l : List VolD) : idleP id l = decide (usesK id l = 0) := by
  unfold idleP usesK
  rw [Bool.eq_iff_iff]
  simp [List.countP_eq_zero]
theorem idle_next {id : Int} {l : List VolD} {k : Nat} (h : k < l.length) (hs : ((l[k]).b == id) = false) (hi : idleP id l = idleP id (l.drop k)) : idleP id l = idleP id (l.drop (k + 1)) := by
  rw [hi, vol_drop h, idleP, List.all_cons, hs]
  rfl
theorem idle_stop {id : Int} {l : List VolD} {k : Nat} (h : k < l.length) (hs : ((l[k]).b == id) = true) (hi : idleP id l = idleP id (l.drop k)) : idleP id l = false := by
  rw [hi, vol_drop h, idleP, List.all_cons, hs]
  rfl
theorem specVolAt_any {t : TypeId} (vl vn va vc vv : Value) (d : PoolD) (s : ByteArray) (w : World) (h : RdP t w w.heap.size vl vn va vc vv d) (hn : d.vo.length ≤ 2097152) :
    Calls Try.prog 13 #[.agg #[vl, vn, va, vc, vv, .int .i64 d.nx], .string s] w fun e w' => e = .returned (.int .i64 (volK s d.vo)) ∧ Below w.heap.size w w' := by
  obtain ⟨A0, c0, A1, c1, A2, c2, A3, c3, A4, c4, rfl, rfl, rfl, rfl, rfl⟩ := h.shape
  have HV := Lib.hid (h.2.2.2)
  have Q0 := Lib.hid (al1 w (.cells #[.slice A0 d.lo.length c0, .slice A1 d.ts.length c1, .slice A2 d.ag.length c2, .slice A3 d.ce.length c3, .slice A4 d.vo.length c4, .int .i64 d.nx] 30))
  have HB := Lib.hid (bal1 w (.cells #[.slice A0 d.lo.length c0, .slice A1 d.ts.length c1, .slice A2 d.ag.length c2, .slice A3 d.ce.length c3, .slice A4 d.vo.length c4, .int .i64 d.nx] 30))
  obtain ⟨R, hR⟩ : ∃ R, volK s d.vo = R := ⟨_, rfl⟩
  rw [hR]
  have HR := Lib.hid hR
  clear h hR
  go_enter Try.func13, Try.ntmps13
  go_upto_region 2 with (fail)
  generalize w.alloc (.cells #[.slice A0 d.lo.length c0, .slice A1 d.ts.length c1, .slice A2 d.ag.length c2, .slice A3 d.ce.length c3, .slice A4 d.vo.length c4, .int .i64 d.nx] 30) = W at *
  obtain ⟨x0, x1, x2, x3, x4, x5, x6⟩ := boxP Q0.out
  go_loop [5] (fun i => ∃ k : Nat, k ≤ d.vo.length ∧ i = .int .i64 k ∧ Hid (volJ s d.vo = k + volJ s (d.vo.drop k))) (fun i => d.vo.length - (intOf i).toNat)
  case atStart => exact ⟨0, Nat.zero_le _, rfl, Lib.hid (by simp)⟩
  case round =>
    obtain ⟨k, hk, rfl, HI⟩ := hrel
    by_cases hlt : k < d.vo.length
    · obtain ⟨b, off, rfl, hbb, hc⟩ := (HV.out.on HB.out).vols hlt
      have i1 : (k : Int) < (d.vo.length : Int) := by omega
      have i2 : (0 : Int) ≤ (k : Int) := by omega
      obtain ⟨y0, y1, y2, y3⟩ := hc k hlt
      clear hc
      cases hs : ((d.vo[k]).a.toList == s.toList)
      · have HS := Lib.hid (volJ_step hlt hs HI.out)
        go_wp2
        go_round
        case rel => exact ⟨k + 1, by omega, by go_num, HS⟩
        case measure => simp [intOf]; omega
      · have HK : Hid (R = (k : Int)) := Lib.hid (by rw [← HR.out, volK_hit hlt (volJ_hit hlt hs HI.out)])
        go_wp2
        go_ret
        exact ⟨by rw [HK.out]; rfl, HB.out⟩
    · have HK : Hid (R = -1) := Lib.hid (by rw [← HR.out, volK_none hlt HI.out])
      go_wp2
      go_ret
      exact ⟨by rw [HK.out]; rfl, HB.out⟩
theorem specIdle_any {t : TypeId} (vl vn va vc vv : Value) (d : PoolD) (id : Int) (w : World) (h : RdP t w w.heap.size vl vn va vc vv d) (hn : d.vo.length ≤ 2097152) :
    Calls Try.prog 16 #[.agg #[vl, vn, va, vc, vv, .int .i64 d.nx], .int .i64 id] w (SaysBool w (idleP id d.vo)) := by
  obtain ⟨A0, c0, A1, c1, A2, c2, A3, c3, A4, c4, rfl, rfl, rfl, rfl, rfl⟩ := h.shape
  have HV := Lib.hid (h.2.2.2)
  have Q0 := Lib.hid (al1 w (.cells #[.slice A0 d.lo.length c0, .slice A1 d.ts.length c1, .slice A2 d.ag.length c2, .slice A3 d.ce.length c3, .slice A4 d.vo.length c4, .int .i64 d.nx] 30))
  have HB := Lib.hid (bal1 w (.cells #[.slice A0 d.lo.length c0, .slice A1 d.ts.length c1, .slice A2 d.ag.length c2, .slice A3 d.ce.length c3, .slice A4 d.vo.length c4, .int .i64 d.nx] 30))
  obtain ⟨R, hR⟩ : ∃ R, idleP id d.vo = R := ⟨_, rfl⟩
  rw [hR]
  have HR := Lib.hid hR
  clear h hR
  go_enter Try.func16, Try.ntmps16
  go_upto_region 2 with (fail)
  generalize w.alloc (.cells #[.slice A0 d.lo.length c0, .slice A1 d.ts.length c1, .slice A2 d.ag.length c2, .slice A3 d.ce.length c3, .slice A4 d.vo.length c4, .int .i64 d.nx] 30) = W at *
  obtain ⟨x0, x1, x2, x3, x4, x5, x6⟩ := boxP Q0.out
  go_loop [5] (fun i => ∃ k : Nat, k ≤ d.vo.length ∧ i = .int .i64 k ∧ Hid (idleP id d.vo = idleP id (d.vo.drop k))) (fun i => d.vo.length - (intOf i).toNat)
  case atStart => exact ⟨0, Nat.zero_le _, rfl, Lib.hid (by simp)⟩
  case round =>
    obtain ⟨k, hk, rfl, HI⟩ := hrel
    by_cases hlt : k < d.vo.length
    · obtain ⟨b, off, rfl, hbb, hc⟩ := (HV.out.on HB.out).vols hlt
      have i1 : (k : Int) < (d.vo.length : Int) := by omega
      have i2 : (0 : Int) ≤ (k : Int) := by omega
      obtain ⟨y0, y1, y2, y3⟩ := hc k hlt
      clear hc
      cases hs : ((d.vo[k]).b == id)
      · have HS := Lib.hid (idle_next hlt hs HI.out)
        go_wp2
        go_round
        case rel => exact ⟨k + 1, by omega, by go_num, HS⟩
        case measure => simp [intOf]; omega
      · have HK : Hid (R = false) := Lib.hid (by rw [← HR.out, idle_stop hlt hs HI.out])
        go_wp2
        go_ret
        exact ⟨by rw [HK.out]; rfl, HB.out⟩
    · have e : k = d.vo.length := by omega
      have HK : Hid (R = true) := Lib.hid (by rw [← HR.out, HI.out, e]; simp [idleP])
      clear e
      go_wp2
      go_ret
      exact ⟨by rw [HK.out]; rfl, HB.out⟩
set_option maxHeartbeats 1000000 in
theorem implVolsWith_any {t : TypeId} (vl vn va vc vv : Value) (d : PoolD) (id : Int) (w : World) (h : RdP t w w.heap.size vl vn va vc vv d) (hn : d.vo.length ≤ 2097152) :
    Calls Try.prog 46 #[.agg #[vl, vn, va, vc, vv, .int .i64 d.nx], .int .i64 id] w fun e w' => e = .returned (.int .i64 (usesK id d.vo)) ∧ Below w.heap.size w w' := by
  obtain ⟨A0, c0, A1, c1, A2, c2, A3, c3, A4, c4, rfl, rfl, rfl, rfl, rfl⟩ := h.shape
  have HV := Lib.hid (h.2.2.2)
  have Q0 := Lib.hid (al1 w (.cells #[.slice A0 d.lo.length c0, .slice A1 d.ts.length c1, .slice A2 d.ag.length c2, .slice A3 d.ce.length c3, .slice A4 d.vo.length c4, .int .i64 d.nx] 30))
  have HB := Lib.hid (bal1 w (.cells #[.slice A0 d.lo.length c0, .slice A1 d.ts.length c1, .slice A2 d.ag.length c2, .slice A3 d.ce.length c3, .slice A4 d.vo.length c4, .int .i64 d.nx] 30))
  clear h
  go_enter Try.func46, Try.ntmps46
  go_upto_region 2 with (fail)
  generalize w.alloc (.cells #[.slice A0 d.lo.length c0, .slice A1 d.ts.length c1, .slice A2 d.ag.length c2, .slice A3 d.ce.length c3, .slice A4 d.vo.length c4, .int .i64 d.nx] 30) = W at *
  obtain ⟨x0, x1, x2, x3, x4, x5, x6⟩ := boxP Q0.out
  go_wp2
  go_loopw [5, 7, 11] (fun q _ i wr => ∃ k : Nat, k ≤ d.vo.length ∧ i = .int .i64 k ∧ q = .int .i64 (usesK id (d.vo.take k)) ∧ Hid (Below w.heap.size w wr)) (fun _ _ i _ => d.vo.length - (intOf i).toNat)
  case atStart => exact ⟨0, Nat.zero_le _, rfl, rfl, HB⟩
  case round =>
    obtain ⟨k, hk, rfl, rfl, HW⟩ := hrel
    by_cases hlt : k < d.vo.length
    · obtain ⟨b, off, rfl, hbb, hc⟩ := (HV.out.on HW.out).vols hlt
      have i1 : (k : Int) < (d.vo.length : Int) := by omega
      have i2 : (0 : Int) ≤ (k : Int) := by omega
      obtain ⟨y0, y1, y2, y3⟩ := hc k hlt
      have hu := uses_le id d.vo k
      have hst := uses_step (id := id) hlt
      have BA := Lib.hid (HW.out.alloc HW.out.size (.cells #[.string (d.vo[k]).a, .int .i64 (d.vo[k]).b, .int .i64 (d.vo[k]).c, .bool (d.vo[k]).d] 66))
      clear hc
      cases hs : ((d.vo[k]).b == id)
      · rw [hs] at hst
        have HS := Lib.hid hst
        clear hst
        generalize usesK id (d.vo.take k) = q at *
        go_wp2
        go_roundw
        case rel => exact ⟨k + 1, by omega, by go_num, by rw [HS.out]; rfl, BA⟩
        case measure => simp [intOf]; omega
      · rw [hs] at hst
        have HS := Lib.hid hst
        clear hst
        generalize usesK id (d.vo.take k) = q at *
        go_wp2
        go_roundw
        case rel => exact ⟨k + 1, by omega, by go_num, by rw [HS.out]; rfl, BA⟩
        case measure => simp [intOf]; omega
    · have e : k = d.vo.length := by omega
      subst e
      rw [List.take_length]
      go_wp2
      go_ret
      exact ⟨rfl, HW.out⟩
theorem implIdle_any {t : TypeId} (vl vn va vc vv : Value) (d : PoolD) (id : Int) (w : World) (h : RdP t w w.heap.size vl vn va vc vv d) (hn : d.vo.length ≤ 2097152) :
    Calls Try.prog 17 #[.agg #[vl, vn, va, vc, vv, .int .i64 d.nx], .int .i64 id] w (SaysBool w (idleP id d.vo)) := by
  have HW := Lib.hid (fun W b => implVolsWith_any vl vn va vc vv d id W (h.on b) hn)
  obtain ⟨A0, c0, A1, c1, A2, c2, A3, c3, A4, c4, rfl, rfl, rfl, rfl, rfl⟩ := h.shape
  have HB := Lib.hid (bal1 w (.cells #[.slice A0 d.lo.length c0, .slice A1 d.ts.length c1, .slice A2 d.ag.length c2, .slice A3 d.ce.length c3, .slice A4 d.vo.length c4, .int .i64 d.nx] 30))
  obtain ⟨R, hR⟩ : ∃ R, usesK id d.vo = R := ⟨_, rfl⟩
  have hd := idle_uses id d.vo
  rw [hR] at hd
  rw [hR] at HW
  clear h hR
  have Q0 := Lib.hid (al1 w (.cells #[.slice A0 d.lo.length c0, .slice A1 d.ts.length c1, .slice A2 d.ag.length c2, .slice A3 d.ce.length c3, .slice A4 d.vo.length c4, .int .i64 d.nx] 30))
  have e2 : ((R : Int) == 0) = decide (R = 0) := by
    rw [Bool.eq_iff_iff]
    simp
  obtain ⟨u, hu⟩ : ∃ u, decide (R = 0) = u := ⟨_, rfl⟩
  rw [hu] at e2 hd
  rw [hd]
  clear hd hu
  go_enter Try.func17, Try.ntmps17
  go_upto_region 1 with (fail)
  generalize w.alloc (.cells #[.slice A0 d.lo.length c0, .slice A1 d.ts.length c1, .slice A2 d.ag.length c2, .slice A3 d.ce.length c3, .slice A4 d.vo.length c4, .int .i64 d.nx] 30) = W at *
  obtain ⟨x0, x1, x2, x3, x4, x5, x6⟩ := boxP Q0.out
  go_wp2_with fail
  refine (HW.out _ HB.out).mono ?_
  rintro e w1 ⟨rfl, b1⟩
  have B1 := Lib.hid (bstep HB.out b1)
  clear b1
  go_wp2
  go_ret
  exact ⟨rfl, B1.out⟩
/-- The closure of VolAt, bound to the name's box. -/
theorem volAt1_any (k : VolD) (s : ByteArray) (pb : Nat) (w : World) (hp : w.heap[pb]? = some (.cells #[.string s] 9 (0, 0))) :
    Calls Try.prog 45 #[.agg #[.string k.a, .int .i64 k.b, .int .i64 k.c, .bool k.d], .pointer (some ⟨pb, 0, none⟩)] w (SaysBool w (k.a.toList == s.toList)) := by
  have Q0 := Lib.hid (al1 w (.cells #[.string k.a, .int .i64 k.b, .int .i64 k.c, .bool k.d] 66))
  have b0 := bal1 w (.cells #[.string k.a, .int .i64 k.b, .int .i64 k.c, .bool k.d] 66)
  have HB := Lib.hid b0
  have HP := Lib.hid (box_on hp b0)
  clear hp b0
  go_enter Try.func45, Try.ntmps45
  go_upto_region 1 with (fail)
  generalize w.alloc (.cells #[.string k.a, .int .i64 k.b, .int .i64 k.c, .bool k.d] 66) = W at *
  obtain ⟨x0, x1, x2, x3, x4⟩ := box4 Q0.out
  have y0 : W.cell? ⟨pb, 0, none⟩ = some (.string s) := by rw [cell_of_row W pb 0 _ _ _ HP.out]; rfl
  cases hs : (k.a.toList == s.toList)
  all_goals
    go_wp2
    go_ret
    exact ⟨by rw [hs]; rfl, HB.out⟩
set_option maxHeartbeats 1000000 in
theorem indexFuncV_any (v : Value) (l : List VolD) (s : ByteArray) (pb : Nat) (w : World) (hv : Reads w w.heap.size v (volsD l)) (hp : w.heap[pb]? = some (.cells #[.string s] 9 (0, 0))) (hn : l.length ≤ 2097152) :
    Calls Try.prog 44 #[v, .func (.func 45) #[] #[.pointer (some ⟨pb, 0, none⟩)]] w fun e w' => e = .returned (.int .i64 (volK s l)) ∧ Below w.heap.size w w' := by
  obtain ⟨A, c, rfl, _, _⟩ := hv.shapeVol
  have HT := Lib.hid volAt1_any
  have HV := Lib.hid hv
  have HP := Lib.hid hp
  clear hv hp
  obtain ⟨R, hR⟩ : ∃ R, volK s l = R := ⟨_, rfl⟩
  rw [hR]
  have HR := Lib.hid hR
  clear hR
  go_enter Try.func44, Try.ntmps44
  go_wp2
  go_loopw [5, 8] (fun _ i wr => ∃ k : Nat, k ≤ l.length ∧ i = .int .i64 k ∧ Hid (volJ s l = k + volJ s (l.drop k)) ∧ Hid (Below w.heap.size w wr)) (fun _ i _ => l.length - (intOf i).toNat)
  case atStart => exact ⟨0, Nat.zero_le _, rfl, Lib.hid (by simp), Lib.hid (Below.refl _ _)⟩
  case round =>
    obtain ⟨k, hk, rfl, HI, HB⟩ := hrel
    by_cases hlt : k < l.length
    · obtain ⟨b, off, rfl, hbb, hc⟩ := (HV.out.on HB.out).vols hlt
      have i1 : (k : Int) < (l.length : Int) := by omega
      have i2 : (0 : Int) ≤ (k : Int) := by omega
      obtain ⟨y0, y1, y2, y3⟩ := hc k hlt
      have HX := Lib.hid (HT.out l[k] s pb wr (box_on HP.out HB.out))
      clear hc
      cases hs : ((l[k]).a.toList == s.toList)
      · have HS := Lib.hid (volJ_step hlt hs HI.out)
        rw [hs] at HX
        clear hs
        go_wp2_with fail
        go_at_call 45
        refine HX.out.mono ?_
        rintro r w8 ⟨rfl, b8⟩
        have B8 := Lib.hid (bstep HB.out b8)
        clear b8 y0 y1 y2 y3
        go_wp2
        go_roundw
        case rel => exact ⟨k + 1, by omega, by go_num, HS, B8⟩
        case measure => simp [intOf]; omega
      · have HK : Hid (R = (k : Int)) := Lib.hid (by rw [← HR.out, volK_hit hlt (volJ_hit hlt hs HI.out)])
        rw [hs] at HX
        clear hs
        go_wp2_with fail
        go_at_call 45
        refine HX.out.mono ?_
        rintro r w8 ⟨rfl, b8⟩
        have B8 := Lib.hid (bstep HB.out b8)
        clear b8 y0 y1 y2 y3
        go_wp2
        go_ret
        exact ⟨by rw [HK.out]; rfl, B8.out⟩
    · have HK : Hid (R = -1) := Lib.hid (by rw [← HR.out, volK_none hlt HI.out])
      go_wp2
      go_ret
      exact ⟨by rw [HK.out]; rfl, HB.out⟩
theorem implVolAt_any {t : TypeId} (vl vn va vc vv : Value) (d : PoolD) (s : ByteArray) (w : World) (h : RdP t w w.heap.size vl vn va vc vv d) (hn : d.vo.length ≤ 2097152) :
    Calls Try.prog 15 #[.agg #[vl, vn, va, vc, vv, .int .i64 d.nx], .string s] w fun e w' => e = .returned (.int .i64 (volK s d.vo)) ∧ Below w.heap.size w w' := by
  obtain ⟨A0, c0, A1, c1, A2, c2, A3, c3, A4, c4, rfl, rfl, rfl, rfl, rfl⟩ := h.shape
  have HB := Lib.hid (bal2 w (.cells #[.slice A0 d.lo.length c0, .slice A1 d.ts.length c1, .slice A2 d.ag.length c2, .slice A3 d.ce.length c3, .slice A4 d.vo.length c4, .int .i64 d.nx] 30) (.cells #[.string s] 9))
  obtain ⟨q0, q1⟩ := al2 w (.cells #[.slice A0 d.lo.length c0, .slice A1 d.ts.length c1, .slice A2 d.ag.length c2, .slice A3 d.ce.length c3, .slice A4 d.vo.length c4, .int .i64 d.nx] 30) (.cells #[.string s] 9)
  have Q0 := Lib.hid q0
  have HX := Lib.hid (indexFuncV_any _ d.vo s (w.heap.size + 1) _ (h.2.2.2.on HB.out) q1 hn)
  clear h q0 q1
  go_enter Try.func15, Try.ntmps15
  go_upto_region 1 with (fail)
  generalize (w.alloc (.cells #[.slice A0 d.lo.length c0, .slice A1 d.ts.length c1, .slice A2 d.ag.length c2, .slice A3 d.ce.length c3, .slice A4 d.vo.length c4, .int .i64 d.nx] 30)).alloc (.cells #[.string s] 9) = W at *
  obtain ⟨x0, x1, x2, x3, x4, x5, x6⟩ := boxP Q0.out
  go_wp2_with fail
  refine HX.out.mono ?_
  rintro e w1 ⟨rfl, b1⟩
  have B1 := Lib.hid (bstep HB.out b1)
  clear b1
  go_wp2
  go_ret
  exact ⟨rfl, B1.out⟩
end Go.Proofs.Ytmpgmjnagpiijaa
