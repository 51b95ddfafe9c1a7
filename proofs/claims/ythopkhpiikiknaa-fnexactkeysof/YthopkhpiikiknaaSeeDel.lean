/- Contracts for slices.IndexFunc and slices.DeleteFunc at keys with the closure of impl.KeysOf, and for impl.KeysOf. Conditions: at most 2^20 nodes and 2^20 keys in all. -/
import Derived.Test.YthopkhpiikiknaaSeeDelP
namespace Go.Proofs.Ythopkhpiikiknaa
open Go.RowKit
set_option maxRecDepth 100000
set_option linter.unusedSimpArgs false
set_option linter.unusedVariables false

theorem boxC {w : World} {p : Nat} {a : Value} {t : TypeId} (h : w.heap[p]? = some (.cells #[a] t (0, 0))) : w.cell? ⟨p, 0, none⟩ = some a ∧ ∀ o, w.frozen? ⟨p, o, none⟩ = false :=
  ⟨by rw [cell_of_row w p 0 _ _ _ h]; rfl, fun o => frozen_of_row w p o _ _ h⟩
theorem heap_far {w : World} {g j i : Nat} {u : Value} {o : Obj} (h : w.heap[i]? = some o) (hne : ¬ i = g) : (w.setCell ⟨g, j, none⟩ u).heap[i]? = some o := (Below.heap_setCell w ⟨g, j, none⟩ u i hne).trans h
theorem kvl_take (l : List KeyD) (N : Nat) : (kvl l).take (N * 5) = kvl (l.take N) := by
  by_cases h : N ≤ l.length
  · have he : kvl l = kvl (l.take N) ++ kvl (l.drop N) := by rw [← kvl_append, List.take_append_drop]
    have hl : (kvl (l.take N)).length = N * 5 := by rw [kvl_len]; simp; omega
    rw [he, ← hl, List.take_left']
    rfl
  · rw [List.take_of_length_le (by rw [kvl_len]; omega), List.take_of_length_le (by omega)]
theorem RwK.at5 {w : World} {g cap : Nat} {l : List KeyD} (h : RwK w g cap l) {i : Nat} (hi : i < l.length) (hc : l.length ≤ cap) (hm : cap ≤ maxLen) : Five w g (i * 5) l[i] := by
  obtain ⟨b, off, hA, _, hk⟩ := (h.owns (S := fun _ => True) trivial hc hm).reads.keys hi
  have h1 := hk i hi
  injection hA with hA
  injection hA with h2 h3
  subst h2
  subst h3
  simpa only [Nat.zero_add] using h1
/-- The closure of KeysOf, bound to the block's box. -/
theorem keysOf1_any (k : KeyD) (p : Int) (pb : Nat) (w : World) (hp : w.heap[pb]? = some (.cells #[.int .i64 p] 3 (0, 0))) :
    Calls Try.prog 49 #[k.v, .pointer (some ⟨pb, 0, none⟩)] w (SaysBool w (k.a != p)) := by
  unfold KeyD.v keyV
  have Q0 := Lib.hid (al1 w (.cells #[.int .i64 k.a, .int .i64 k.b, .int .i64 k.c, .int .i64 k.d, .int .i64 k.e] 32))
  have b0 := bal1 w (.cells #[.int .i64 k.a, .int .i64 k.b, .int .i64 k.c, .int .i64 k.d, .int .i64 k.e] 32)
  have HB := Lib.hid b0
  have HP := Lib.hid (box_on hp b0)
  clear hp b0
  obtain ⟨R, hR⟩ : ∃ R, (k.a != p) = R := ⟨_, rfl⟩
  rw [hR]
  go_enter Try.func49, Try.ntmps49
  go_upto_region 1 with (fail)
  generalize w.alloc (.cells #[.int .i64 k.a, .int .i64 k.b, .int .i64 k.c, .int .i64 k.d, .int .i64 k.e] 32) = W at *
  obtain ⟨x0, x1, x2, x3, x4, x5⟩ := box5 Q0.out
  obtain ⟨y0, y1⟩ := boxC HP.out
  cases R
  all_goals
    go_wp2
    go_ret
    exact ⟨rfl, HB.out⟩
set_option maxHeartbeats 1000000 in
theorem indexFuncK_any (v : Value) (l : List KeyD) (p : Int) (pb : Nat) (w : World) (hv : Reads w w.heap.size v (keysD l)) (hp : w.heap[pb]? = some (.cells #[.int .i64 p] 3 (0, 0))) (hn : l.length ≤ 2097152) :
    Calls Try.prog 77 #[v, .func (.func 49) #[] #[.pointer (some ⟨pb, 0, none⟩)]] w fun e w' => ∃ n : Int, e = .returned (.int .i64 n) ∧ Below w.heap.size w w' ∧
      ((n = -1 ∧ ∀ j (hj : j < l.length), ((l[j]).a == p) = true) ∨ ∃ m : Nat, n = (m : Int) ∧ ∃ h : m < l.length, ((l[m]).a == p) = false ∧ ∀ j (hj : j < m), ((l[j]'(by omega)).a == p) = true) := by
  obtain ⟨A, c, rfl, _, _⟩ := hv.shapeK
  have HT := Lib.hid keysOf1_any
  unfold KeyD.v keyV at HT
  have HV := Lib.hid hv
  have HP := Lib.hid hp
  clear hv hp
  go_enter Try.func77, Try.ntmps77
  go_wp2
  go_loopw [5, 8] (fun _ i wr => ∃ k : Nat, k ≤ l.length ∧ i = .int .i64 k ∧ Hid (∀ j (hj : j < k) (hl : j < l.length), ((l[j]).a == p) = true) ∧ Hid (Below w.heap.size w wr)) (fun _ i _ => l.length - (intOf i).toNat)
  case atStart => exact ⟨0, Nat.zero_le _, rfl, Lib.hid (fun j hj => by omega), Lib.hid (Below.refl _ _)⟩
  case round =>
    obtain ⟨k, hk, rfl, HI, HB⟩ := hrel
    by_cases hlt : k < l.length
    · obtain ⟨b, off, rfl, hbb, hc⟩ := (HV.out.on HB.out).keys hlt
      have i1 : (k : Int) < (l.length : Int) := by omega
      have i2 : (0 : Int) ≤ (k : Int) := by omega
      obtain ⟨c0, c1, c2, c3, c4⟩ := hc k hlt
      have HP1 := Lib.hid (box_on HP.out HB.out)
      clear hc
      cases hs : ((l[k]).a == p)
      · have HN : Hid (((l[k]).a != p) = true) := Lib.hid (by simp only [bne, hs]; rfl)
        have HS := Lib.hid hs
        clear hs
        go_wp2_with fail
        go_at_call 49
        refine (HT.out l[k] p pb _ HP1.out).mono ?_
        rintro r w8 ⟨rfl, b8⟩
        rw [HN.out]
        have B8 := Lib.hid (bstep HB.out b8)
        clear b8 c0 c1 c2 c3 c4
        go_wp2
        go_ret
        exact ⟨_, rfl, B8.out, .inr ⟨k, rfl, hlt, HS.out, fun j hj => HI.out j hj (by omega)⟩⟩
      · have HN : Hid (((l[k]).a != p) = false) := Lib.hid (by simp only [bne, hs]; rfl)
        have HS := Lib.hid hs
        clear hs
        go_wp2_with fail
        go_at_call 49
        refine (HT.out l[k] p pb _ HP1.out).mono ?_
        rintro r w8 ⟨rfl, b8⟩
        rw [HN.out]
        have B8 := Lib.hid (bstep HB.out b8)
        clear b8 c0 c1 c2 c3 c4
        go_wp2
        go_roundw
        case rel => exact ⟨k + 1, by omega, by go_num, Lib.hid (fun j hj hl => by
          by_cases hjk : j < k
          · exact HI.out j hjk hl
          · have : j = k := by omega
            subst this
            exact HS.out), B8⟩
        case measure => simp [intOf]; omega
    · go_wp2
      go_ret
      exact ⟨_, rfl, HB.out, .inl ⟨rfl, fun j hj => HI.out j (by omega) hj⟩⟩
set_option maxHeartbeats 4000000 in
theorem deleteFuncK_any (v : Value) (l : List KeyD) (p : Int) (pb base : Nat) (w : World) (hv : RowK w base v l) (hb : base ≤ w.heap.size) (hp : w.heap[pb]? = some (.cells #[.int .i64 p] 3 (0, 0))) (hpb : pb < base) (hn : l.length ≤ 2097152) :
    Calls Try.prog 47 #[v, .func (.func 49) #[] #[.pointer (some ⟨pb, 0, none⟩)]] w fun e w' => ∃ v', e = .returned v' ∧ RowK w' base v' (l.filter (fun k => k.a == p)) ∧ Below base w w' := by
  have HT := Lib.hid keysOf1_any
  unfold KeyD.v keyV at HT
  have HIF := Lib.hid (indexFuncK_any v l p pb w hv.owns.reads hp hn)
  have HP := Lib.hid hp
  have HV := Lib.hid hv
  rcases hv.owns.rwK with ⟨rfl, rfl⟩ | ⟨g, cap, rfl, hbg, hR, hcap, hmax⟩
  · clear hv hp
    go_enter Try.func47, Try.ntmps47
    go_wp2_with fail
    refine HIF.out.mono ?_
    rintro r w1 ⟨n, rfl, b1, ⟨rfl, _⟩ | ⟨m, rfl, hm, _⟩⟩
    · have B1 := Lib.hid (b1.mono hb)
      have O1 := Lib.hid (HV.out.on b1)
      clear b1
      go_wp2
      go_ret
      exact ⟨_, rfl, O1.out, B1.out⟩
    · simp at hm
  · have HRW := Lib.hid hR
    clear hv hp hR
    go_enter Try.func47, Try.ntmps47
    go_wp2_with fail
    refine HIF.out.mono ?_
    rintro r w1 ⟨n, rfl, b1, ⟨rfl, hall⟩ | ⟨m, rfl, hm, hno, hyes⟩⟩
    · have B1 := Lib.hid (b1.mono hb)
      have O1 := Lib.hid (HV.out.on b1)
      have HA : Hid (l.filter (fun k => k.a == p) = l) := Lib.hid (all_kept (q := fun k => k.a == p) hall)
      clear b1 hall
      go_wp2
      go_ret
      rw [HA.out]
      exact ⟨_, rfl, O1.out, B1.out⟩
    · have B1 := Lib.hid (b1.mono hb)
      have R1 := Lib.hid (Rw.keep HRW.out (b1.block g (Rw.lt HRW.out)))
      have D1 := Lib.hid (DelIn.start (q := fun k => k.a == p) hm hno hyes)
      have P1 := Lib.hid (box_on HP.out b1)
      have hm1 : ((m : Int) == -1) = false := beq_eq_false_iff_ne.2 (by omega)
      have i0 : IntKind.i64.wrap ((m : Int) + 1) = (m : Int) + 1 := by rw [IntKind.wrap_i64]; omega
      have HSZ := Lib.hid b1.size
      clear b1 hno hyes HIF HV HRW HP
      go_wp2
      clear hm1 i0
      go_loopw [5, 6, 7] (fun i j _ wr => ∃ (i' j' : Nat) (t : List KeyD), i = .int .i64 i' ∧ j = .int .i64 j' ∧ Hid (DelIn (fun k => k.a == p) l t i' j') ∧ Hid (RwK wr g cap t) ∧ Hid (wr.heap[pb]? = some (.cells #[.int .i64 p] 3 (0, 0))) ∧ Hid (base ≤ wr.heap.size) ∧ Hid (Below base w wr)) (fun _ j _ _ => l.length - (intOf j).toNat)
      case atStart => exact ⟨m, m + 1, l, rfl, by go_num, D1, R1, P1, Lib.hid (Nat.le_trans hb HSZ.out), B1⟩
      case round =>
        clear D1 R1 P1 HSZ B1 hm
        obtain ⟨i, j, t, rfl, rfl, HD, HR, HP, HZ, HB⟩ := hrel
        have hD := HD.out
        have hij := hD.ij
        have hjl := hD.jl
        have htl := hD.len
        by_cases hlt : j < l.length
        · obtain ⟨c0, c1, c2, c3, c4⟩ := HR.out.at5 (i := j) (by omega) (by omega) hmax
          rw [hD.at hlt] at c0 c1 c2 c3 c4
          have i1 : (j : Int) < (l.length : Int) := by omega
          have i2 : (0 : Int) ≤ (j : Int) := by omega
          have hq0 := al1 wr (.cells #[.int .i64 (l[j]).a, .int .i64 (l[j]).b, .int .i64 (l[j]).c, .int .i64 (l[j]).d, .int .i64 (l[j]).e] 32)
          have ba := bal1 wr (.cells #[.int .i64 (l[j]).a, .int .i64 (l[j]).b, .int .i64 (l[j]).c, .int .i64 (l[j]).d, .int .i64 (l[j]).e] 32)
          have HQ := Lib.hid hq0
          have HP2 := Lib.hid (box_on HP.out ba)
          have HR2 := Lib.hid (Rw.keep HR.out (ba.block g (Rw.lt HR.out)))
          have HB2 := Lib.hid (HB.out.trans (ba.mono HZ.out))
          have HZ2 := Lib.hid (Nat.le_trans HZ.out ba.size)
          clear hq0 ba hD
          cases hs : ((l[j]).a == p)
          · have HN : Hid (((l[j]).a != p) = true) := Lib.hid (by simp only [bne, hs]; rfl)
            have HS := Lib.hid hs
            clear hs
            go_wp2_with fail
            go_at_call 49
            refine (HT.out l[j] p pb _ HP2.out).mono ?_
            rintro r w8 ⟨rfl, b8⟩
            rw [HN.out]
            have R8 := Lib.hid (Rw.keep HR2.out (b8.block g (Rw.lt HR2.out)))
            have P8 := Lib.hid (box_on HP2.out b8)
            have B8 := Lib.hid (HB2.out.trans (b8.mono HZ2.out))
            have Z8 := Lib.hid (Nat.le_trans HZ2.out b8.size)
            clear b8 c0 c1 c2 c3 c4 HQ HP2 HR2 HB2 HZ2 HR HP HB HZ
            go_wp2
            go_roundw
            case rel => exact ⟨i, j + 1, t, rfl, by go_num, Lib.hid (HD.out.drop hlt HS.out), R8, P8, Z8, B8⟩
            case measure => simp [intOf]; omega
          · have HN : Hid (((l[j]).a != p) = false) := Lib.hid (by simp only [bne, hs]; rfl)
            have HS := Lib.hid hs
            clear hs
            go_wp2_with fail
            go_at_call 49
            refine (HT.out l[j] p pb _ HP2.out).mono ?_
            rintro r w8 ⟨rfl, b8⟩
            rw [HN.out]
            have R8 := Lib.hid (Rw.keep HR2.out (b8.block g (Rw.lt HR2.out)))
            have P8 := Lib.hid (box_on HP2.out b8)
            have B8 := Lib.hid (HB2.out.trans (b8.mono HZ2.out))
            have Z8 := Lib.hid (Nat.le_trans HZ2.out b8.size)
            obtain ⟨q0, q1, q2, q3, q4, q5⟩ := box5 (box_on HQ.out b8)
            clear b8 c0 c1 c2 c3 c4 HQ HP2 HR2 HB2 HZ2 HR HP HB HZ
            have hil : i < t.length := by omega
            have hpg : ¬ pb = g := by omega
            have R9 := Lib.hid (RwK.set R8.out hil l[j])
            have B9 := Lib.hid (b5 (i := i * 5) (u1 := .int .i64 (l[j]).a) (u2 := .int .i64 (l[j]).b) (u3 := .int .i64 (l[j]).c) (u4 := .int .i64 (l[j]).d) (u5 := .int .i64 (l[j]).e) B8.out hbg)
            have P9 := Lib.hid (heap_far (j := i * 5 + 4) (u := .int .i64 (l[j]).e) (heap_far (j := i * 5 + 3) (u := .int .i64 (l[j]).d) (heap_far (j := i * 5 + 2) (u := .int .i64 (l[j]).c) (heap_far (j := i * 5 + 1) (u := .int .i64 (l[j]).b) (heap_far (j := i * 5) (u := .int .i64 (l[j]).a) P8.out hpg) hpg) hpg) hpg) hpg)
            have hz5 : ∀ z, z < 5 → ∃ v, w8.cell? ⟨g, i * 5 + z, none⟩ = some v := RwK.five R8.out hil
            obtain ⟨v0, d0⟩ := hz5 0 (by omega)
            obtain ⟨v1, d1⟩ := hz5 1 (by omega)
            obtain ⟨v2, d2⟩ := hz5 2 (by omega)
            obtain ⟨v3, d3⟩ := hz5 3 (by omega)
            obtain ⟨v4, d4⟩ := hz5 4 (by omega)
            rw [Nat.add_zero] at d0
            have f0 := Rw.frozen R8.out (i * 5)
            have f1 := Rw.frozen R8.out (i * 5 + 1)
            have f2 := Rw.frozen R8.out (i * 5 + 2)
            have f3 := Rw.frozen R8.out (i * 5 + 3)
            have f4 := Rw.frozen R8.out (i * 5 + 4)
            have i3 : (i : Int) < (l.length : Int) := by omega
            have i4 : (0 : Int) ≤ (i : Int) := by omega
            have i5 : IntKind.i64.wrap ((i : Int) + 1) = (i : Int) + 1 := by rw [IntKind.wrap_i64]; omega
            clear hz5
            go_wp2
            go_roundw
            case rel => exact ⟨i + 1, j + 1, t.set i l[j], by go_num, by go_num, Lib.hid (HD.out.keep hlt HS.out), R9, P9, Lib.hid (by simpa using Z8.out), B9⟩
            case measure => simp [intOf]; omega
        · obtain ⟨hF, hFl, hil⟩ := hD.done hlt
          obtain ⟨cur, hh, hsz, htk⟩ := HR.out
          obtain ⟨zs, hzl, hcl⟩ := clear_keys wr g (i * 5) (l.length - i) cur _ hh (by omega) (by rw [hsz]; omega)
          have FIN : Hid (RowK (wr.setCells g (i * 5) zs) base (.slice (some ⟨g, 0, none⟩) i cap) (l.filter (fun k => k.a == p)) ∧ Below base w (wr.setCells g (i * 5) zs)) := by
            refine Lib.hid ⟨?_, below_lay hbg _ _ _ _ HB.out⟩
            refine ⟨by rw [kvl_len], .inr ⟨g, cap, _, by rw [← hFl], hbg, heap_lay g _ _ _ _ _ hh, by omega, hmax, by rw [layA_size]; exact hsz, ?_⟩⟩
            rw [← hFl, layA_list _ _ _ (by rw [hzl, hsz]; omega), List.take_append_of_le_length (by rw [List.length_take, Array.length_toList, hsz]; omega), List.take_take, Nat.min_self, ← hF, ← kvl_take, ← htk, List.take_take, show min (i * 5) (t.length * 5) = i * 5 by omega]
          have i1 : ¬ (j : Int) < (l.length : Int) := by omega
          have i2 : (0 : Int) ≤ (i : Int) := by omega
          have i3 : (i : Int) ≤ (l.length : Int) := by omega
          have i4 : (l.length : Int) ≤ (cap : Int) := by omega
          have i5 : (i : Int) ≤ (cap : Int) := by omega
          have i6 : i ≤ cap := by omega
          have i7 : ¬ cap = i := by omega
          clear hF hFl hh hsz htk hzl hD HD HR HP HB HZ
          go_wp2
          go_ret
          exact ⟨_, rfl, FIN.out.1, FIN.out.2⟩
set_option maxHeartbeats 1000000 in
theorem implKeysOf_any (vl vn : Value) (lo : List Int) (ts : List NodeD) (p : Int) (w : World) (hv : RdT w w.heap.size vl vn lo ts) (hn : ts.length ≤ 1048576) (hs : sumT ts ≤ 1048576) :
    Calls Try.prog 13 #[.agg #[vl, vn], .int .i64 p] w (NewK w (keysOfK ts p)) := by
  obtain ⟨A, c, A', c', rfl, rfl⟩ := hv.shape
  have hmf : ∀ (fn : Fn) (first cap : Array Value) (w : World), (Instr.makeFunc fn first cap).run Try.prog w = .ok (.func fn first cap) w := fun _ _ _ _ => rfl
  obtain ⟨q0, q1⟩ := al2 w (.cells #[.slice A lo.length c, .slice A' ts.length c'] 27) (.cells #[.int .i64 p] 3)
  have hb := bal2 w (.cells #[.slice A lo.length c, .slice A' ts.length c'] 27) (.cells #[.int .i64 p] 3)
  have hsz : ((w.alloc (.cells #[.slice A lo.length c, .slice A' ts.length c'] 27)).alloc (.cells #[.int .i64 p] 3)).heap.size = w.heap.size + 1 + 1 := by simp
  have HV := Lib.hid (hv.on hb)
  have HB := Lib.hid hb
  have Q0 := Lib.hid q0
  have Q1 := Lib.hid q1
  have HSZ := Lib.hid hsz
  have HTK := Lib.hid implTreeKeys_any
  have HKL := Lib.hid (treeKeys_len ts)
  clear hv hb q0 q1 hsz
  unfold keysOfK
  obtain ⟨L, hL⟩ : ∃ L, treeKeysK ts = L := ⟨_, rfl⟩
  rw [hL] at HKL ⊢
  have HL := Lib.hid hL
  clear hL
  go_enter Try.func13, Try.ntmps13
  go_upto_region 1 with (fail)
  generalize (w.alloc (.cells #[.slice A lo.length c, .slice A' ts.length c'] 27)).alloc (.cells #[.int .i64 p] 3) = W at *
  obtain ⟨x0, x1, x2⟩ := box2 Q0.out
  go_wp2_with fail
  refine (HTK.out _ _ lo ts _ HV.out hn hs).mono ?_
  rintro r w1 ⟨v1, rfl, o1, b1⟩
  rw [HL.out] at o1
  obtain ⟨A1, d1, rfl, _, _⟩ := o1.shape
  have O1 := Lib.hid o1
  have P1 := Lib.hid (box_on Q1.out b1)
  have B1 := Lib.hid b1
  clear o1 b1 x0 x1 x2
  go_wp2_with fail
  refine (deleteFuncK_any _ L p (w.heap.size + 1) W.heap.size _ O1.out B1.out.size P1.out (by have := HSZ.out; omega) (by have := HKL.out; omega)).mono ?_
  rintro r w2 ⟨v2, rfl, o2, b2⟩
  obtain ⟨A2, d2, rfl, _, _⟩ := o2.shape
  have O2 := Lib.hid (o2.mono HB.out.size)
  have B2 := Lib.hid (bstep HB.out (B1.out.trans b2))
  clear o2 b2
  go_wp2
  go_ret
  exact ⟨_, rfl, O2.out, B2.out⟩
end Go.Proofs.Ythopkhpiikiknaa
