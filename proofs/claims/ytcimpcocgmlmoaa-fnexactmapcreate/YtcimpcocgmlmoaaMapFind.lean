/- Contracts for spec.MapAt, impl.MapAt (slices.IndexFunc with its closure), spec.SameMaps (l12SameInts), impl.SameMaps (slices.EqualFunc with sameMap, slices.Equal). Conditions: at most 1100000 Maps, letters and blocks. -/
import Derived.Test.YtcimpcocgmlmoaaMapLaw
import Derived.Deep.RegionHeld3
namespace Go.Proofs.Ytcimpcocgmlmoaa
open Go.RowKit
set_option maxRecDepth 100000
set_option linter.unusedSimpArgs false
set_option linter.unusedVariables false

/-- How many Maps at the head have another name. -/
def mapJ (s : ByteArray) : List MapD → Nat
  | [] => 0
  | k :: l => if (k.a.toList == s.toList) = true then 0 else mapJ s l + 1
def mapK (s : ByteArray) (l : List MapD) : Int := if mapJ s l < l.length then (mapJ s l : Int) else -1
theorem map_drop {l : List MapD} {k : Nat} (h : k < l.length) : l.drop k = l[k] :: l.drop (k + 1) := List.drop_eq_getElem_cons h
theorem mapJ_hit {s : ByteArray} {l : List MapD} {k : Nat} (h : k < l.length) (hs : ((l[k]).a.toList == s.toList) = true) (hi : mapJ s l = k + mapJ s (l.drop k)) : mapJ s l = k := by
  rw [map_drop h, mapJ, if_pos hs] at hi
  exact hi
theorem mapJ_step {s : ByteArray} {l : List MapD} {k : Nat} (h : k < l.length) (hs : ((l[k]).a.toList == s.toList) = false) (hi : mapJ s l = k + mapJ s (l.drop k)) : mapJ s l = (k + 1) + mapJ s (l.drop (k + 1)) := by
  rw [map_drop h, mapJ, if_neg (by rw [hs]; simp)] at hi
  omega
theorem mapK_hit {s : ByteArray} {l : List MapD} {k : Nat} (h : k < l.length) (hi : mapJ s l = k) : mapK s l = (k : Int) := by
  unfold mapK
  rw [hi, if_pos h]
theorem mapK_none {s : ByteArray} {l : List MapD} {k : Nat} (h : ¬ k < l.length) (hi : mapJ s l = k + mapJ s (l.drop k)) : mapK s l = -1 := by
  unfold mapK
  rw [if_neg (by omega)]
theorem mapK_range (s : ByteArray) (l : List MapD) : mapK s l = -1 ∨ ∃ j : Nat, mapK s l = (j : Int) ∧ j < l.length := by
  unfold mapK
  by_cases h : mapJ s l < l.length
  · rw [if_pos h]; exact .inr ⟨_, rfl, h⟩
  · rw [if_neg h]; exact .inl rfl
theorem specMapAt_any {t : TypeId} (v : Value) (l : List MapD) (s : ByteArray) (w : World) (hv : Reads w w.heap.size v (mapsT t l)) (hn : SmallM l) :
    Calls Try.prog 20 #[v, .string s] w fun e w' => e = .returned (.int .i64 (mapK s l)) ∧ Below w.heap.size w w' := by
  obtain ⟨A, c, rfl, _, _⟩ := Reads.lenN hv
  have HV := Lib.hid hv
  have hln : l.length ≤ 1100000 := hn.1
  obtain ⟨R, hR⟩ : ∃ R, mapK s l = R := ⟨_, rfl⟩
  rw [hR]
  have HR := Lib.hid hR
  clear hR hv hn
  go_enter Try.func20, Try.ntmps20
  go_wp2
  go_loop [5] (fun i => ∃ k : Nat, k ≤ l.length ∧ i = .int .i64 k ∧ Hid (mapJ s l = k + mapJ s (l.drop k))) (fun i => l.length - (intOf i).toNat)
  case atStart => exact ⟨0, Nat.zero_le _, rfl, Lib.hid (by simp)⟩
  case round =>
    obtain ⟨k, hk, rfl, HI⟩ := hrel
    by_cases hlt : k < l.length
    · obtain ⟨b, off, rfl, hbb, hc⟩ := HV.out.maps hlt
      have i1 : (k : Int) < (l.length : Int) := by omega
      have i2 : (0 : Int) ≤ (k : Int) := by omega
      obtain ⟨A1, d1, ⟨y0, y1, y2⟩, _⟩ := hc k hlt
      clear hc
      cases hs : ((l[k]).a.toList == s.toList)
      · have HS := Lib.hid (mapJ_step hlt hs HI.out)
        go_wp2
        go_round
        case rel => exact ⟨k + 1, by omega, by go_num, HS⟩
        case measure => simp [intOf]; omega
      · have HK : Hid (R = (k : Int)) := Lib.hid (by rw [← HR.out, mapK_hit hlt (mapJ_hit hlt hs HI.out)])
        go_wp2
        go_ret
        exact ⟨by rw [HK.out]; rfl, Below.refl _ _⟩
    · have HK : Hid (R = -1) := Lib.hid (by rw [← HR.out, mapK_none hlt HI.out])
      go_wp2
      go_ret
      exact ⟨by rw [HK.out]; rfl, Below.refl _ _⟩
theorem mapAt1_any (k : MapD) (u : Value) (s : ByteArray) (pb : Nat) (w : World) (hp : w.heap[pb]? = some (.cells #[.string s] 9 (0, 0))) :
    Calls Try.prog 48 #[.agg #[.string k.a, .bool k.f, u], .pointer (some ⟨pb, 0, none⟩)] w (SaysBool w (k.a.toList == s.toList)) := by
  have HB := Lib.hid (bal1 w (.cells #[.string k.a, .bool k.f, u] 53))
  have Q0 := Lib.hid (al1 w (.cells #[.string k.a, .bool k.f, u] 53))
  have Q1 := Lib.hid (box_on hp HB.out)
  clear hp
  go_enter Try.func48, Try.ntmps48
  go_upto_region 1 with (fail)
  generalize w.alloc (.cells #[.string k.a, .bool k.f, u] 53) = W at *
  obtain ⟨x0, x1, x2, x3⟩ := box3M Q0.out
  obtain ⟨y0, y1⟩ := box1N Q1.out
  cases hs : (k.a.toList == s.toList)
  all_goals
    go_wp2
    go_ret
    exact ⟨by rw [hs]; rfl, HB.out⟩
set_option maxHeartbeats 1000000 in
theorem indexFuncM_any {t : TypeId} (v : Value) (l : List MapD) (s : ByteArray) (pb : Nat) (w : World) (hv : Reads w w.heap.size v (mapsT t l)) (hp : w.heap[pb]? = some (.cells #[.string s] 9 (0, 0))) (hn : SmallM l) :
    Calls Try.prog 47 #[v, .func (.func 48) #[] #[.pointer (some ⟨pb, 0, none⟩)]] w fun e w' => e = .returned (.int .i64 (mapK s l)) ∧ Below w.heap.size w w' := by
  obtain ⟨A, c, rfl, _, _⟩ := Reads.lenN hv
  have HT := Lib.hid mapAt1_any
  have HV := Lib.hid hv
  have HP := Lib.hid hp
  have hln : l.length ≤ 1100000 := hn.1
  clear hv hp hn
  obtain ⟨R, hR⟩ : ∃ R, mapK s l = R := ⟨_, rfl⟩
  rw [hR]
  have HR := Lib.hid hR
  clear hR
  go_enter Try.func47, Try.ntmps47
  go_wp2
  go_loopw [5, 8] (fun _ i wr => ∃ k : Nat, k ≤ l.length ∧ i = .int .i64 k ∧ Hid (mapJ s l = k + mapJ s (l.drop k)) ∧ Hid (Below w.heap.size w wr)) (fun _ i _ => l.length - (intOf i).toNat)
  case atStart => exact ⟨0, Nat.zero_le _, rfl, Lib.hid (by simp), Lib.hid (Below.refl _ _)⟩
  case round =>
    obtain ⟨k, hk, rfl, HI, HB⟩ := hrel
    by_cases hlt : k < l.length
    · obtain ⟨b, off, rfl, hbb, hc⟩ := (HV.out.on HB.out).maps hlt
      have i1 : (k : Int) < (l.length : Int) := by omega
      have i2 : (0 : Int) ≤ (k : Int) := by omega
      obtain ⟨A1, d1, ⟨y0, y1, y2⟩, _⟩ := hc k hlt
      have HX := Lib.hid (HT.out l[k] (.slice A1 (l[k]).l.length d1) s pb wr (box_on HP.out HB.out))
      clear hc
      cases hs : ((l[k]).a.toList == s.toList)
      · have HS := Lib.hid (mapJ_step hlt hs HI.out)
        rw [hs] at HX
        clear hs
        go_wp2_with fail
        go_at_call 48
        refine HX.out.mono ?_
        rintro r w8 ⟨rfl, b8⟩
        have B8 := Lib.hid (bstep HB.out b8)
        clear b8 y0 y1 y2
        go_wp2
        go_roundw
        case rel => exact ⟨k + 1, by omega, by go_num, HS, B8⟩
        case measure => simp [intOf]; omega
      · have HK : Hid (R = (k : Int)) := Lib.hid (by rw [← HR.out, mapK_hit hlt (mapJ_hit hlt hs HI.out)])
        rw [hs] at HX
        clear hs
        go_wp2_with fail
        go_at_call 48
        refine HX.out.mono ?_
        rintro r w8 ⟨rfl, b8⟩
        have B8 := Lib.hid (bstep HB.out b8)
        clear b8 y0 y1 y2
        go_wp2
        go_ret
        exact ⟨by rw [HK.out]; rfl, B8.out⟩
    · have HK : Hid (R = -1) := Lib.hid (by rw [← HR.out, mapK_none hlt HI.out])
      go_wp2
      go_ret
      exact ⟨by rw [HK.out]; rfl, HB.out⟩
theorem implMapAt_any {t : TypeId} (v : Value) (l : List MapD) (s : ByteArray) (w : World) (hv : Reads w w.heap.size v (mapsT t l)) (hn : SmallM l) :
    Calls Try.prog 21 #[v, .string s] w fun e w' => e = .returned (.int .i64 (mapK s l)) ∧ Below w.heap.size w w' := by
  have HB := Lib.hid (bal1 w (.cells #[.string s] 9))
  have HX := Lib.hid (indexFuncM_any _ l s w.heap.size _ (hv.on HB.out) (al1 w (.cells #[.string s] 9)) hn)
  obtain ⟨A, c, rfl, _, _⟩ := Reads.lenN hv
  clear hv
  go_enter Try.func21, Try.ntmps21
  go_upto_region 1 with (fail)
  generalize w.alloc (.cells #[.string s] 9) = W at *
  go_wp2_with fail
  refine HX.out.mono ?_
  rintro e w1 ⟨rfl, b1⟩
  have B1 := Lib.hid (bstep HB.out b1)
  clear b1
  go_wp2
  go_ret
  exact ⟨rfl, B1.out⟩
/-- Two lists of ints are the same from place k on. -/
def intsB (a b : List Int) : Bool := decide (a = b)
theorem ints_next {a b : List Int} {k : Nat} (h : a.length = b.length) (hk : k < a.length) (hs : (a[k] != b[k]'(by omega)) = false) (hi : intsB a b = intsB (a.drop k) (b.drop k)) : intsB a b = intsB (a.drop (k + 1)) (b.drop (k + 1)) := by
  rw [hi, List.drop_eq_getElem_cons hk, List.drop_eq_getElem_cons (show k < b.length by omega)]
  have : a[k] = b[k]'(by omega) := by simpa using hs
  unfold intsB
  rw [this]
  exact decide_eq_decide.2 ⟨fun h => (List.cons.inj h).2, fun h => by rw [h]⟩
theorem ints_stop {a b : List Int} {k : Nat} (h : a.length = b.length) (hk : k < a.length) (hs : (a[k] != b[k]'(by omega)) = true) (hi : intsB a b = intsB (a.drop k) (b.drop k)) : intsB a b = false := by
  rw [hi, List.drop_eq_getElem_cons hk, List.drop_eq_getElem_cons (show k < b.length by omega)]
  have : ¬ a[k] = b[k]'(by omega) := by simpa using hs
  unfold intsB
  exact decide_eq_false (fun h => this (List.cons.inj h).1)
theorem ints_end {a b : List Int} (h : a.length = b.length) {k : Nat} (hk : ¬ k < a.length) (hi : intsB a b = intsB (a.drop k) (b.drop k)) : intsB a b = true := by
  rw [hi, List.drop_eq_nil_of_le (by omega), List.drop_eq_nil_of_le (by omega)]
  rfl
theorem ints_ne {a b : List Int} (h : a.length ≠ b.length) : intsB a b = false := by
  unfold intsB
  exact decide_eq_false (fun e => h (by rw [e]))
set_option maxHeartbeats 1000000 in
theorem l12SameInts_any (v u : Value) (a b : List Int) (w : World) (hv : Reads w w.heap.size v (intsD a)) (hu : Reads w w.heap.size u (intsD b)) (ha : a.length ≤ 1100000) (hb : b.length ≤ 1100000) :
    Calls Try.prog 42 #[v, u] w (SaysBool w (intsB a b)) := by
  obtain ⟨A, c, rfl, _, _⟩ := hv.lenN
  obtain ⟨A', c', rfl, _, _⟩ := hu.lenN
  by_cases hl : a.length = b.length
  · have HV := Lib.hid hv
    have HU := Lib.hid hu
    have hne : ((a.length : Int) != (b.length : Int)) = false := by simp [hl]
    have HL := Lib.hid hl
    have hl1 := Nat.le_of_eq hl
    have hl2 := Nat.le_of_eq hl.symm
    obtain ⟨R, hR⟩ : ∃ R, intsB a b = R := ⟨_, rfl⟩
    rw [hR]
    have HR := Lib.hid hR
    clear hv hu hl hR
    go_enter Try.func42, Try.ntmps42
    go_wp2
    go_loopw [5] (fun i wr => ∃ k : Nat, k ≤ a.length ∧ i = .int .i64 k ∧ Hid (intsB a b = intsB (a.drop k) (b.drop k)) ∧ Hid (Below w.heap.size w wr)) (fun i _ => a.length - (intOf i).toNat)
    case atStart => exact ⟨0, Nat.zero_le _, rfl, Lib.hid (by simp), Lib.hid (Below.refl _ _)⟩
    case round =>
      obtain ⟨k, hk, rfl, HI, HB⟩ := hrel
      by_cases hlt : k < a.length
      · obtain ⟨p, off, rfl, hbb, hc⟩ := (HV.out.on HB.out).int hlt
        obtain ⟨p2, off2, rfl, hbb2, hc2⟩ := (HU.out.on HB.out).int (i := k) (by omega)
        have c1 := hc k hlt
        have c2 := hc2 k (by omega)
        unfold iV at c1 c2
        clear hc hc2
        have i1 : (k : Int) < (a.length : Int) := by omega
        have i3 : (k : Int) < (b.length : Int) := by omega
        have i2 : (0 : Int) ≤ (k : Int) := by omega
        obtain ⟨y, hy⟩ : ∃ y, (a[k] != b[k]'(by omega)) = y := ⟨_, rfl⟩
        cases y
        · have HN := Lib.hid (ints_next HL.out hlt hy HI.out)
          go_wp2
          go_still_tail 8, (by kernel_rfl)
          change wpList _ _ _ _ _ wr.drew
          have HB1 := Lib.hid (bstep HB.out (Below.drew1 _))
          generalize wr.drew = wd at *
          go_wp2
          go_roundw
          case rel => exact ⟨k + 1, by omega, by go_num, HN, HB1⟩
          case measure => simp [intOf]; omega
        · have HK : Hid (R = false) := Lib.hid (by rw [← HR.out]; exact ints_stop HL.out hlt hy HI.out)
          go_wp2
          go_still_tail 8, (by kernel_rfl)
          change wpList _ _ _ _ _ wr.drew
          have HB1 := Lib.hid (bstep HB.out (Below.drew1 _))
          generalize wr.drew = wd at *
          go_wp2
          go_ret
          exact ⟨by rw [HK.out] <;> rfl, HB1.out⟩
      · have HK : Hid (R = true) := Lib.hid (by rw [← HR.out]; exact ints_end HL.out hlt HI.out)
        go_wp2
        go_ret
        exact ⟨by rw [HK.out] <;> rfl, HB.out⟩
  · have hne : ((a.length : Int) != (b.length : Int)) = true := by simp; omega
    rw [ints_ne hl]
    clear hv hu hl
    go_enter Try.func42, Try.ntmps42
    go_wp2
    go_ret
    exact ⟨rfl, Below.refl _ _⟩
set_option maxHeartbeats 1000000 in
theorem equalInts_any (v u : Value) (a b : List Int) (w : World) (hv : Reads w w.heap.size v (intsD a)) (hu : Reads w w.heap.size u (intsD b)) (ha : a.length ≤ 1100000) (hb : b.length ≤ 1100000) :
    Calls Try.prog 66 #[v, u] w (SaysBool w (intsB a b)) := by
  obtain ⟨A, c, rfl, _, _⟩ := hv.lenN
  obtain ⟨A', c', rfl, _, _⟩ := hu.lenN
  by_cases hl : a.length = b.length
  · have HV := Lib.hid hv
    have HU := Lib.hid hu
    have hne : ((a.length : Int) != (b.length : Int)) = false := by simp [hl]
    have HL := Lib.hid hl
    have hl1 := Nat.le_of_eq hl
    have hl2 := Nat.le_of_eq hl.symm
    obtain ⟨R, hR⟩ : ∃ R, intsB a b = R := ⟨_, rfl⟩
    rw [hR]
    have HR := Lib.hid hR
    clear hv hu hl hR
    go_enter Try.func66, Try.ntmps66
    go_wp2
    go_loopw [5, 13] (fun _ i wr => ∃ k : Nat, k ≤ a.length ∧ i = .int .i64 k ∧ Hid (intsB a b = intsB (a.drop k) (b.drop k)) ∧ Hid (Below w.heap.size w wr)) (fun _ i _ => a.length - (intOf i).toNat)
    case atStart => exact ⟨0, Nat.zero_le _, rfl, Lib.hid (by simp), Lib.hid (Below.refl _ _)⟩
    case round =>
      obtain ⟨k, hk, rfl, HI, HB⟩ := hrel
      by_cases hlt : k < a.length
      · obtain ⟨p, off, rfl, hbb, hc⟩ := (HV.out.on HB.out).int hlt
        obtain ⟨p2, off2, rfl, hbb2, hc2⟩ := (HU.out.on HB.out).int (i := k) (by omega)
        have c1 := hc k hlt
        have c2 := hc2 k (by omega)
        unfold iV at c1 c2
        clear hc hc2
        have i1 : (k : Int) < (a.length : Int) := by omega
        have i3 : (k : Int) < (b.length : Int) := by omega
        have i2 : (0 : Int) ≤ (k : Int) := by omega
        obtain ⟨y, hy⟩ : ∃ y, (a[k] != b[k]'(by omega)) = y := ⟨_, rfl⟩
        cases y
        · have HN := Lib.hid (ints_next HL.out hlt hy HI.out)
          go_wp2
          go_still_tail 8, (by kernel_rfl)
          change wpList _ _ _ _ _ wr.drew
          have HB1 := Lib.hid (bstep HB.out (Below.drew1 _))
          generalize wr.drew = wd at *
          go_wp2
          go_roundw
          case rel => exact ⟨k + 1, by omega, by go_num, HN, HB1⟩
          case measure => simp [intOf]; omega
        · have HK : Hid (R = false) := Lib.hid (by rw [← HR.out]; exact ints_stop HL.out hlt hy HI.out)
          go_wp2
          go_still_tail 8, (by kernel_rfl)
          change wpList _ _ _ _ _ wr.drew
          have HB1 := Lib.hid (bstep HB.out (Below.drew1 _))
          generalize wr.drew = wd at *
          go_wp2
          go_ret
          exact ⟨by rw [HK.out] <;> rfl, HB1.out⟩
      · have HK : Hid (R = true) := Lib.hid (by rw [← HR.out]; exact ints_end HL.out hlt HI.out)
        go_wp2
        go_ret
        exact ⟨by rw [HK.out] <;> rfl, HB.out⟩
  · have hne : ((a.length : Int) != (b.length : Int)) = true := by simp; omega
    rw [ints_ne hl]
    clear hv hu hl
    go_enter Try.func66, Try.ntmps66
    go_wp2
    go_ret
    exact ⟨rfl, Below.refl _ _⟩
def mapB (x y : MapD) : Bool := ((x.a.toList == y.a.toList) && (x.f == y.f)) && intsB x.l y.l
set_option maxHeartbeats 1000000 in
theorem sameMap_any (x y : MapD) (v u : Value) (w : World) (hv : Reads w w.heap.size v (intsD x.l)) (hu : Reads w w.heap.size u (intsD y.l)) (ha : x.l.length ≤ 1100000) (hb : y.l.length ≤ 1100000) :
    Calls Try.prog 45 #[.agg #[.string x.a, .bool x.f, v], .agg #[.string y.a, .bool y.f, u]] w (SaysBool w (mapB x y)) := by
  have HI := Lib.hid (fun W b => equalInts_any v u x.l y.l W (hv.on b) (hu.on b) ha hb)
  obtain ⟨A, c, rfl, _, _⟩ := hv.lenN
  obtain ⟨A', c', rfl, _, _⟩ := hu.lenN
  have HB := Lib.hid (bal2 w (.cells #[.string x.a, .bool x.f, .slice A x.l.length c] 53) (.cells #[.string y.a, .bool y.f, .slice A' y.l.length c'] 53))
  obtain ⟨q0, q1⟩ := al2 w (.cells #[.string x.a, .bool x.f, .slice A x.l.length c] 53) (.cells #[.string y.a, .bool y.f, .slice A' y.l.length c'] 53)
  have Q0 := Lib.hid q0
  have Q1 := Lib.hid q1
  have HM : Hid (mapB x y = (((x.a.toList == y.a.toList) && (x.f == y.f)) && intsB x.l y.l)) := Lib.hid rfl
  generalize mapB x y = R at HM ⊢
  clear hv hu q0 q1
  go_enter Try.func45, Try.ntmps45
  go_upto_region 1 with (fail)
  generalize (w.alloc (.cells #[.string x.a, .bool x.f, .slice A x.l.length c] 53)).alloc (.cells #[.string y.a, .bool y.f, .slice A' y.l.length c'] 53) = W at *
  obtain ⟨x0, x1, x2, x3⟩ := box3M Q0.out
  obtain ⟨y0, y1, y2, y3⟩ := box3M Q1.out
  cases hs : (x.a.toList == y.a.toList)
  · have HK : Hid (R = false) := Lib.hid (by rw [HM.out, hs]; rfl)
    go_wp2
    go_ret
    exact ⟨by rw [HK.out] <;> rfl, HB.out⟩
  · cases hf : (x.f == y.f)
    · have HK : Hid (R = false) := Lib.hid (by rw [HM.out, hf]; simp)
      go_wp2
      go_ret
      exact ⟨by rw [HK.out] <;> rfl, HB.out⟩
    · have HK : Hid (R = intsB x.l y.l) := Lib.hid (by rw [HM.out, hs, hf]; simp)
      go_wp2_with fail
      refine (HI.out _ HB.out).mono ?_
      rintro e w1 ⟨rfl, b1⟩
      have B1 := Lib.hid (bstep HB.out b1)
      clear x0 x1 x2 x3 y0 y1 y2 y3 b1
      generalize intsB x.l y.l = z at *
      go_wp2
      go_ret
      exact ⟨by rw [HK.out] <;> rfl, B1.out⟩
def mapsB : List MapD → List MapD → Bool
  | [], [] => true
  | x :: l, y :: m => mapB x y && mapsB l m
  | _, _ => false
theorem maps_next {a b : List MapD} {k : Nat} (hk : k < a.length) (hk2 : k < b.length) (hs : mapB a[k] b[k] = true) (hi : mapsB a b = mapsB (a.drop k) (b.drop k)) : mapsB a b = mapsB (a.drop (k + 1)) (b.drop (k + 1)) := by
  rw [hi, List.drop_eq_getElem_cons hk, List.drop_eq_getElem_cons hk2, mapsB, hs]
  rfl
theorem maps_stop {a b : List MapD} {k : Nat} (hk : k < a.length) (hk2 : k < b.length) (hs : mapB a[k] b[k] = false) (hi : mapsB a b = mapsB (a.drop k) (b.drop k)) : mapsB a b = false := by
  rw [hi, List.drop_eq_getElem_cons hk, List.drop_eq_getElem_cons hk2, mapsB, hs]
  rfl
theorem maps_end {a b : List MapD} (h : a.length = b.length) {k : Nat} (hk : ¬ k < a.length) (hi : mapsB a b = mapsB (a.drop k) (b.drop k)) : mapsB a b = true := by
  rw [hi, List.drop_eq_nil_of_le (by omega), List.drop_eq_nil_of_le (by omega)]
  rfl
theorem maps_ne : ∀ {a b : List MapD}, a.length ≠ b.length → mapsB a b = false := by
  intro a
  induction a with
  | nil =>
    intro b h
    cases b with
    | nil => exact absurd rfl h
    | cons y m => rfl
  | cons x l ih =>
    intro b h
    cases b with
    | nil => rfl
    | cons y m => rw [mapsB, ih (by simpa using h)]; simp
set_option maxHeartbeats 2000000 in
theorem equalFuncM_any {t t' : TypeId} (v u : Value) (a b : List MapD) (w : World) (hv : Reads w w.heap.size v (mapsT t a)) (hu : Reads w w.heap.size u (mapsT t' b)) (ha : SmallM a) (hb : SmallM b) :
    Calls Try.prog 44 #[v, u, .func (.func 45) #[] #[]] w (SaysBool w (mapsB a b)) := by
  obtain ⟨A, c, rfl, _, _⟩ := Reads.lenN hv
  obtain ⟨A', c', rfl, _, _⟩ := Reads.lenN hu
  have hla : a.length ≤ 1100000 := ha.1
  have hlb : b.length ≤ 1100000 := hb.1
  by_cases hl : a.length = b.length
  · have HV := Lib.hid hv
    have HU := Lib.hid hu
    have SA := Lib.hid ha
    have SB := Lib.hid hb
    have hne : ((a.length : Int) != (b.length : Int)) = false := by simp [hl]
    have HL := Lib.hid hl
    have hl1 := Nat.le_of_eq hl
    have hl2 := Nat.le_of_eq hl.symm
    obtain ⟨R, hR⟩ : ∃ R, mapsB a b = R := ⟨_, rfl⟩
    rw [hR]
    have HR := Lib.hid hR
    clear hv hu hl hR ha hb
    go_enter Try.func44, Try.ntmps44
    go_wp2
    go_loopw [7, 8, 9, 17] (fun _ _ _ i wr => ∃ k : Nat, k ≤ a.length ∧ i = .int .i64 k ∧ Hid (mapsB a b = mapsB (a.drop k) (b.drop k)) ∧ Hid (Below w.heap.size w wr)) (fun _ _ _ i _ => a.length - (intOf i).toNat)
    case atStart => exact ⟨0, Nat.zero_le _, rfl, Lib.hid (by simp), Lib.hid (Below.refl _ _)⟩
    case round =>
      obtain ⟨k, hk, rfl, HI, HB⟩ := hrel
      by_cases hlt : k < a.length
      · obtain ⟨p, off, rfl, hbb, hc⟩ := (HV.out.on HB.out).maps hlt
        obtain ⟨p2, off2, rfl, hbb2, hc2⟩ := (HU.out.on HB.out).maps (i := k) (by omega)
        obtain ⟨A1, d1, ⟨c0, c1, c2⟩, _, _, r1⟩ := hc k hlt
        obtain ⟨A2, d2, ⟨e0, e1, e2⟩, _, _, r2⟩ := hc2 k (by omega)
        have la := (SA.out.at hlt).2
        have lb := (SB.out.at (k := k) (by omega)).2
        have hB1 := bal1 wr (.cells #[.string (a[k]).a, .bool (a[k]).f, .slice A1 (a[k]).l.length d1] 53)
        have hB2 := bal2 wr (.cells #[.string (a[k]).a, .bool (a[k]).f, .slice A1 (a[k]).l.length d1] 53) (.cells #[.string (b[k]'(by omega)).a, .bool (b[k]'(by omega)).f, .slice A2 (b[k]'(by omega)).l.length d2] 53)
        have HX := Lib.hid (sameMap_any a[k] (b[k]'(by omega)) _ _ _ (r1.on hB2) (r2.on hB2) la lb)
        have HB2 := Lib.hid (bstep HB.out hB2)
        clear hc hc2 r1 r2 la lb
        have i1 : (k : Int) < (a.length : Int) := by omega
        have i3 : (k : Int) < (b.length : Int) := by omega
        have i2 : (0 : Int) ≤ (k : Int) := by omega
        obtain ⟨y, hy⟩ : ∃ y, mapB a[k] (b[k]'(by omega)) = y := ⟨_, rfl⟩
        rw [hy] at HX
        cases y
        · have HK : Hid (R = false) := Lib.hid (by rw [← HR.out]; exact maps_stop hlt (by omega) hy HI.out)
          clear hy hB1 hB2
          go_wp2_with fail
          go_at_call 45
          refine HX.out.mono ?_
          rintro e w1 ⟨rfl, b1⟩
          have B1 := Lib.hid (bstep HB2.out b1)
          clear b1
          go_wp2
          go_ret
          exact ⟨by rw [HK.out] <;> rfl, B1.out⟩
        · have HN := Lib.hid (maps_next hlt (by omega) hy HI.out)
          clear hy hB1 hB2
          go_wp2_with fail
          go_at_call 45
          refine HX.out.mono ?_
          rintro e w1 ⟨rfl, b1⟩
          have B1 := Lib.hid (bstep HB2.out b1)
          clear b1
          go_wp2
          go_roundw
          case rel => exact ⟨k + 1, by omega, by go_num, HN, B1⟩
          case measure => simp [intOf]; omega
      · have HK : Hid (R = true) := Lib.hid (by rw [← HR.out]; exact maps_end HL.out hlt HI.out)
        go_wp2
        go_ret
        exact ⟨by rw [HK.out] <;> rfl, HB.out⟩
  · have hne : ((a.length : Int) != (b.length : Int)) = true := by simp; omega
    rw [maps_ne hl]
    clear hv hu hl ha hb
    go_enter Try.func44, Try.ntmps44
    go_wp2
    go_ret
    exact ⟨rfl, Below.refl _ _⟩
theorem implSameMaps_any {t t' : TypeId} (v u : Value) (a b : List MapD) (w : World) (hv : Reads w w.heap.size v (mapsT t a)) (hu : Reads w w.heap.size u (mapsT t' b)) (ha : SmallM a) (hb : SmallM b) :
    Calls Try.prog 18 #[v, u] w (SaysBool w (mapsB a b)) := by
  have HX := Lib.hid (equalFuncM_any v u a b w hv hu ha hb)
  obtain ⟨A, c, rfl, _, _⟩ := Reads.lenN hv
  obtain ⟨A', c', rfl, _, _⟩ := Reads.lenN hu
  clear hv hu
  go_enter Try.func18, Try.ntmps18
  go_wp2_with fail
  refine HX.out.mono ?_
  rintro e w1 ⟨rfl, b1⟩
  have B1 := Lib.hid b1
  clear b1
  generalize mapsB a b = z at *
  go_wp2
  go_ret
  exact ⟨rfl, B1.out⟩
end Go.Proofs.Ytcimpcocgmlmoaa
