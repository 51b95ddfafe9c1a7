/- Contracts for marks in a device: laws.markByteSS, markWrS, markDev write marks into every byte and number, laws.heldByteSS, heldWrS, heldDev find them; laws.szByteSS .. szDev count. Conditions: no slice holds more than 2^20 elements. -/
import Derived.Test.YtkahjomkjhlkbaaDevTo
namespace Go.Proofs.Ytkahjomkjhlkbaa
open Go.RowKit
set_option maxRecDepth 100000

def mB (k : Int) (l : List UInt8) : List UInt8 := marks k l.length
def sB (l : List UInt8) : Nat := l.length
def mW (k : Int) (p : Int × List UInt8) : Int × List UInt8 := (k, marks (k + 1) p.2.length)
def sW (p : Int × List UInt8) : Nat := 1 + p.2.length
theorem Owns.markB {w : World} {T : Nat → Prop} {v : Value} {l : List UInt8} (h : Owns w T v (bytesD l)) (k : Int) (hn : l.length ≤ 1048576) (h0 : 0 ≤ k) (h1 : k ≤ 1125899906842624) :
    Calls Try.prog 52 #[v, .int .i64 k] w fun e w' => e = .returned (.int .i64 (k + l.length)) ∧ Owns w' T v (bytesD (marks k l.length)) ∧ Only T w w' := by
  rcases h.bytes with ⟨rfl, rfl⟩ | ⟨g, hg, ho⟩
  · go_enter Try.func52, Try.ntmps52
    go_wp2
    go_loopw [1, 5] (fun q i wr => i = .int .i64 0 ∧ q = .int .i64 k ∧ w = wr) (fun _ _ _ => 0)
    case atStart => exact ⟨rfl, rfl, rfl⟩
    case round =>
      obtain ⟨rfl, rfl, rfl⟩ := hrel
      go_wp2
      go_ret
      exact ⟨by simp, .nil _ _ _, Only.refl _ _⟩
  · refine (markByteS_any g v k l w ho (by omega) h0 h1).mono ?_
    rintro e w' ⟨rfl, ho', hgr⟩
    exact ⟨rfl, ho'.owns hg, Only.of_grown hgr hg⟩
/-- What a marking call leaves. -/
def Marked (w : World) (S : Nat → Prop) (v : Value) (k : Int) (c : Dat) (e : Ending) (w' : World) : Prop := e = .returned (.int .i64 k) ∧ Owns w' S v c ∧ Only S w w'
theorem map_set (f : List UInt8 → Dat) (ls : List (List UInt8)) (i : Nat) (l : List UInt8) : (ls.map f).set i (f l) = (ls.set i l).map f := by simp [List.map_set]
theorem markByteSS_any (v : Value) (S : Nat → Prop) (ls : List (List UInt8)) (k : Int) (w : World) (hv : Owns w S v (secsD ls)) (hn : ls.length ≤ 1048576) (hs : ∀ l ∈ ls, l.length ≤ 1048576) (h0 : 0 ≤ k) (h1 : k ≤ 4398046511104) :
    Calls Try.prog 96 #[v, .int .i64 k] w (Marked w S v (k + totL sB ls ls.length) (secsD (mkL mB sB k ls ls.length))) := by
  rcases hv.row' with ⟨rfl, hl, hc⟩ | ⟨g, cap, cur, xs, rfl, hS, hh, hcap, hmax, hsz, hl, hx, ho⟩
  · have : ls = [] := List.length_eq_zero_iff.1 hl
    subst this
    go_enter Try.func96, Try.ntmps96
    go_wp2
    go_loopw [1, 5] (fun q i wr => i = .int .i64 0 ∧ q = .int .i64 k ∧ w = wr) (fun _ _ _ => 0)
    case atStart => exact ⟨rfl, rfl, rfl⟩
    case round =>
      obtain ⟨rfl, rfl, rfl⟩ := hrel
      go_wp2
      go_ret
      exact ⟨by simp [totL], .nil _ _ _, Only.refl _ _⟩
  · have HXL : Hid (xs.length = ls.length) := Lib.hid (by rw [ho.1]; simp)
    have hle : ls.length ≤ cap := hcap
    have tot : ∀ i, totL sB ls i ≤ 1099511627776 := fun i => Nat.le_trans (totL_le sB ls i 1048576 hs) (by omega)
    have TOT := Lib.hid tot
    have HH := Lib.hid hh
    have HS := Lib.hid hs
    have HX := Lib.hid hx
    have HZ := Lib.hid hsz
    clear hh hs hx hl hsz tot hv
    go_enter Try.func96, Try.ntmps96
    go_wp2
    go_loopw [1, 5] (fun q i wr => ∃ j : Nat, j ≤ ls.length ∧ i = .int .i64 j ∧ q = .int .i64 (k + totL sB ls j) ∧ OwnsL wr (fun b => S b ∧ b ≠ g) xs ((mkL mB sB k ls j).map bytesD) ∧ Only (fun b => S b ∧ b ≠ g) w wr) (fun _ i _ => ls.length - (intOf i).toNat)
    case atStart => exact ⟨0, Nat.zero_le _, rfl, by simp [totL], by rw [mkL_zero]; exact ho, Only.refl _ _⟩
    case round =>
      obtain ⟨j, hj, rfl, rfl, hr, hO⟩ := hrel
      have hG := box_only HH.out hO (fun h => h.2 rfl)
      by_cases hlt : j < ls.length
      · have hlx : j < xs.length := by rw [HXL.out]; exact hlt
        have hlm : j < ((mkL mB sB k ls j).map bytesD).length := by simp [mkL_length]; exact hlt
        obtain ⟨T, hT, hTS, hup⟩ := hr.pick hlx hlm
        rw [List.getElem_map, mkL_at _ _ _ _ _ hlt] at hT
        have c1 : wr.cell? ⟨g, j, none⟩ = some xs[j] := by
          rw [cell_of_row wr g j cur _ _ hG]
          have h5 : (cur.toList.take (ls.length * 1))[j]? = some xs[j] := by rw [HX.out]; simp
          rw [List.getElem?_take_of_lt (by omega)] at h5
          simpa using h5
        have t1 := TOT.out j
        have hl := HS.out ls[j] (List.getElem_mem _)
        have T1 : Hid (totL sB ls (j + 1) = totL sB ls j + (ls[j]).length) := Lib.hid (totL_succ sB ls j hlt)
        have UP := Lib.hid hup
        have TS := Lib.hid hTS
        have HO := Lib.hid hO
        clear hr hG hup hTS hO ho
        have q0 : 0 ≤ k + (totL sB ls j : Int) := by omega
        obtain ⟨A1, d1, e1, _, _⟩ := hT.reads.len
        rw [e1] at hT c1
        rw [e1] at UP
        generalize hq : (totL sB ls j : Int) = q at q0
        have H := Lib.hid (hT.markB (k + q) hl q0 (by omega))
        go_wp2_with fail
        refine H.out.mono ?_
        rintro e w1 ⟨rfl, o1, g1⟩
        go_wp2
        go_roundw
        case rel =>
          refine ⟨j + 1, by omega, by go_num, ?_, ?_, ?_⟩
          · rw [T1.out]; subst hq; go_num
          · have h := UP.out w1 _ o1 g1
            rw [mkL_succ _ _ _ _ _ hlt, ← map_set]
            subst hq
            exact h
          · exact HO.out.trans (g1.mono TS.out)
        case measure => simp [intOf]; omega
      · go_wp2
        go_ret
        have e : j = ls.length := by omega
        subst e
        refine ⟨rfl, ?_, hO.mono (fun b hb => hb.1)⟩
        have h := OwnsL.row (S := S) (z := 1) hS hG hcap hmax HZ.out (by simp [mkL_length]) HX.out hr
        unfold secsD
        rw [mkL_length]
        exact h
theorem heldByteSS_any (v : Value) (ls : List (List UInt8)) (k : Int) (w : World) (hv : Reads w w.heap.size v (secsD (mkL mB sB k ls ls.length))) (hn : ls.length ≤ 1048576) (hs : ∀ l ∈ ls, l.length ≤ 1048576) (h0 : 0 ≤ k) (h1 : k ≤ 4398046511104) :
    Calls Try.prog 98 #[v, .int .i64 k] w fun e w' => e = .returned (.int .i64 (k + totL sB ls ls.length)) ∧ w = w' := by
  obtain ⟨A, c, rfl, _, _⟩ := hv.len
  rw [mkL_length] at *
  have tot : ∀ i, totL sB ls i ≤ 1099511627776 := fun i => Nat.le_trans (totL_le sB ls i 1048576 hs) (by omega)
  have TOT := Lib.hid tot
  have HS := Lib.hid hs
  have HV := Lib.hid hv
  clear tot hs hv
  go_enter Try.func98, Try.ntmps98
  go_wp2
  go_loop [1, 5] (fun q i => ∃ j : Nat, j ≤ ls.length ∧ i = .int .i64 j ∧ q = .int .i64 (k + totL sB ls j)) (fun _ i => ls.length - (intOf i).toNat)
  case atStart => exact ⟨0, Nat.zero_le _, rfl, by simp [totL]⟩
  case round =>
    obtain ⟨j, hj, rfl, rfl⟩ := hrel
    by_cases hlt : j < ls.length
    · have hlm : j < (mkL mB sB k ls ls.length).length := by rw [mkL_length]; exact hlt
      obtain ⟨b, off, rfl, hbb, hc⟩ := HV.out.sec hlm
      obtain ⟨A1, d1, c1, _, _, r1⟩ := hc j hlm
      have t1 := TOT.out j
      have hl := HS.out ls[j] (List.getElem_mem _)
      have T1 : Hid (totL sB ls (j + 1) = totL sB ls j + (ls[j]).length) := Lib.hid (totL_succ sB ls j hlt)
      rw [mkL_get _ _ _ _ _ _ hlt hlt] at c1 r1
      simp only [mB, marks_length] at c1 r1
      have i1 : (j : Int) < (ls.length : Int) := by omega
      have i2 : (0 : Int) ≤ (j : Int) := by omega
      clear hc
      generalize hq : (totL sB ls j : Int) = q at r1 c1
      have q0 : 0 ≤ k + q := by omega
      have H := Lib.hid (heldByteS_any A1 d1 (k + q) (ls[j]).length w r1 (by omega) q0 (by omega))
      have d0 : decide (k + q + ((ls[j]).length : Int) < 0) = false := decide_eq_false (by omega)
      have HQ := Lib.hid hq
      have q1 : q ≤ 1099511627776 := by omega
      clear hq t1
      go_wp2_with fail
      refine H.out.mono ?_
      rintro e w1 ⟨rfl, rfl⟩
      go_wp2
      go_round
      case rel => exact ⟨j + 1, by omega, by go_num, by rw [T1.out, ← HQ.out]; go_num⟩
      case measure => simp [intOf]; omega
    · go_wp2
      go_ret
      have e : j = ls.length := by omega
      subst e
      exact ⟨rfl, rfl⟩
theorem wr_set (ps : List (Int × List UInt8)) (i : Nat) (p : Int × List UInt8) (hi : i < ps.length) : (ps.set i p).flatMap wrC = ((ps.flatMap wrC).set (i * 2) (.lit (.int .i64 p.1))).set (i * 2 + 1) (bytesD p.2) := by
  induction ps generalizing i with
  | nil => simp at hi
  | cons q ps ih =>
    cases i with
    | zero => simp [wrC]
    | succ i =>
      have h := ih i (by simpa using hi)
      rw [List.set_cons_succ, List.flatMap_cons, h, List.flatMap_cons, show (i + 1) * 2 = i * 2 + 1 + 1 by omega]
      simp [wrC]
theorem cache_get (ps : List (Int × List UInt8)) (i : Nat) (hi : i < ps.length) : (ps.flatMap wrC)[i * 2 + 1]'(by rw [cache_len]; omega) = bytesD (ps[i]).2 := by
  have h := flat_get wrC 2 ps wrC_len i 1 hi (by omega)
  rw [List.getElem?_eq_getElem (by rw [cache_len]; omega)] at h
  simpa [wrC] using h
theorem sW_le (ps : List (Int × List UInt8)) (hs : ∀ p ∈ ps, p.2.length ≤ 1048576) : ∀ p ∈ ps, sW p ≤ 1048577 := fun p hp => by have := hs p hp; unfold sW; omega
theorem markWrS_any (v : Value) (S : Nat → Prop) (ps : List (Int × List UInt8)) (k : Int) (w : World) (hv : Owns w S v (cacheD ps)) (hn : ps.length ≤ 1048576) (hs : ∀ p ∈ ps, p.2.length ≤ 1048576) (h0 : 0 ≤ k) (h1 : k ≤ 8796093022208) :
    Calls Try.prog 97 #[v, .int .i64 k] w (Marked w S v (k + totL sW ps ps.length) (cacheD (mkL mW sW k ps ps.length))) := by
  rcases hv.rw' with ⟨rfl, hl, hc⟩ | ⟨g, cap, xs, rfl, hS, hR, hcap, hmax, hl, hxl, ho⟩
  · have : ps = [] := List.length_eq_zero_iff.1 hl
    subst this
    go_enter Try.func97, Try.ntmps97
    go_wp2
    go_loopw [1, 5] (fun q i wr => i = .int .i64 0 ∧ q = .int .i64 k ∧ w = wr) (fun _ _ _ => 0)
    case atStart => exact ⟨rfl, rfl, rfl⟩
    case round =>
      obtain ⟨rfl, rfl, rfl⟩ := hrel
      go_wp2
      go_ret
      exact ⟨by simp [totL], .nil _ _ _, Only.refl _ _⟩
  · have tot : ∀ i, totL sW ps i ≤ 1099512676352 := fun i => Nat.le_trans (totL_le sW ps i 1048577 (sW_le ps hs)) (by omega)
    have TOT := Lib.hid tot
    have HS := Lib.hid hs
    clear hs hl tot hv hxl
    go_enter Try.func97, Try.ntmps97
    go_wp2
    go_loopw [1, 5] (fun q i wr => ∃ (j : Nat) (xs : List Value), j ≤ ps.length ∧ i = .int .i64 j ∧ q = .int .i64 (k + totL sW ps j) ∧ Rw wr g 36 2 ps.length cap xs ∧ OwnsL wr (fun b => S b ∧ b ≠ g) xs ((mkL mW sW k ps j).flatMap wrC) ∧ Only S w wr) (fun _ i _ => ps.length - (intOf i).toNat)
    case atStart => exact ⟨0, xs, Nat.zero_le _, rfl, by simp [totL], hR, by rw [mkL_zero]; exact ho, Only.refl _ _⟩
    case round =>
      clear hR ho xs
      obtain ⟨j, xs, hj, rfl, rfl, hR, hr, hO⟩ := hrel
      by_cases hlt : j < ps.length
      · have hlm : j < (mkL mW sW k ps j).length := by rw [mkL_length]; exact hlt
        have hxl : xs.length = ps.length * 2 := by rw [hr.1, cache_len, mkL_length]
        have t1 := TOT.out j
        have hl := HS.out ps[j] (List.getElem_mem _)
        have T1 : Hid (totL sW ps (j + 1) = totL sW ps j + (1 + (ps[j]).2.length)) := Lib.hid (totL_succ sW ps j hlt)
        generalize hq : (totL sW ps j : Int) = q
        have HQ := Lib.hid hq
        have q1 : q ≤ 1099512676352 := by omega
        have q0 : 0 ≤ q := by omega
        clear hq t1
        obtain ⟨y0, c1⟩ : ∃ y0, wr.cell? ⟨g, j * 2, none⟩ = some y0 := ⟨_, hR.cell (by omega)⟩
        have f1 := hR.frozen (j * 2)
        have hR2 := hR.set (j * 2) (.int .i64 (k + q))
        have hr2 := (hr.setLit (j * 2) (.int .i64 (k + q))).keep (w' := wr.setCell ⟨g, j * 2, none⟩ (.int .i64 (k + q))) (fun b hb _ => Below.heap_setCell _ _ _ _ (by simpa using hb.2))
        have hO2 : Only S w (wr.setCell ⟨g, j * 2, none⟩ (.int .i64 (k + q))) := hO.setCell hS _
        have hx2 : (xs.set (j * 2) (.int .i64 (k + q))).length = ps.length * 2 := by simp [hxl]
        have c2 := hR.cell (i := j * 2 + 1) (by omega)
        have e2 : (xs.set (j * 2) (.int .i64 (k + q)))[j * 2 + 1]'(by omega) = xs[j * 2 + 1]'(by omega) := by rw [List.getElem_set_ne (by omega)]
        obtain ⟨T, hT, hTS, hup⟩ := hr2.pick (i := j * 2 + 1) (by omega) (by rw [List.length_set, cache_len, mkL_length]; omega)
        rw [e2, List.getElem_set_ne (by omega), cache_get _ _ hlm, mkL_at _ _ _ _ _ hlt] at hT
        rw [e2] at hup
        obtain ⟨A1, d1, e1, _, _⟩ := hT.reads.len
        rw [e1] at hT c2 hup
        have UP := Lib.hid hup
        have TS := Lib.hid hTS
        have HO := Lib.hid hO2
        have HR2 := Lib.hid hR2
        have HX := Lib.hid hxl
        clear hr hR hup hTS hO hO2 hR2 hr2 e1 e2 hx2 hxl
        have H := Lib.hid (hT.markB (k + q + 1) hl (by omega) (by omega))
        clear hT
        go_wp2_with fail
        refine H.out.mono ?_
        rintro e w1 ⟨rfl, o1, g1⟩
        go_wp2
        go_roundw
        case rel =>
          refine ⟨j + 1, xs.set (j * 2) (.int .i64 (k + q)), by omega, by go_num, ?_, ?_, ?_, ?_⟩
          · rw [T1.out, ← HQ.out]; go_num
          · exact HR2.out.keep (g1.block g HR2.out.lt (fun h => (TS.out _ h).2 rfl))
          · have h := UP.out w1 _ o1 g1
            rw [mkL_succ _ _ _ _ _ hlt, wr_set _ _ _ (by rw [mkL_length]; exact hlt)]
            simp only [mW, HQ.out]
            exact h
          · exact HO.out.trans (g1.mono (fun b hb => (TS.out b hb).1))
        case measure => simp [intOf]; omega
      · go_wp2
        go_ret
        have e : j = ps.length := by omega
        subst e
        refine ⟨rfl, ?_, hO⟩
        unfold cacheD
        have h := hR.owns hS hr hcap hmax (by rw [cache_len, mkL_length])
        rw [mkL_length]
        exact h
theorem heldWrS_any (v : Value) (ps : List (Int × List UInt8)) (k : Int) (w : World) (hv : Reads w w.heap.size v (cacheD (mkL mW sW k ps ps.length))) (hn : ps.length ≤ 1048576) (hs : ∀ p ∈ ps, p.2.length ≤ 1048576) (h0 : 0 ≤ k) (h1 : k ≤ 8796093022208) :
    Calls Try.prog 99 #[v, .int .i64 k] w fun e w' => e = .returned (.int .i64 (k + totL sW ps ps.length)) ∧ w = w' := by
  obtain ⟨A, c, rfl, _, _⟩ := hv.len
  rw [mkL_length] at *
  have tot : ∀ i, totL sW ps i ≤ 1099512676352 := fun i => Nat.le_trans (totL_le sW ps i 1048577 (sW_le ps hs)) (by omega)
  have TOT := Lib.hid tot
  have HS := Lib.hid hs
  have HV := Lib.hid hv
  clear tot hs hv
  go_enter Try.func99, Try.ntmps99
  go_wp2
  go_loop [1, 5] (fun q i => ∃ j : Nat, j ≤ ps.length ∧ i = .int .i64 j ∧ q = .int .i64 (k + totL sW ps j)) (fun _ i => ps.length - (intOf i).toNat)
  case atStart => exact ⟨0, Nat.zero_le _, rfl, by simp [totL]⟩
  case round =>
    obtain ⟨j, hj, rfl, rfl⟩ := hrel
    by_cases hlt : j < ps.length
    · have hlm : j < (mkL mW sW k ps ps.length).length := by rw [mkL_length]; exact hlt
      obtain ⟨b, off, rfl, hbb, hc⟩ := HV.out.wr hlm
      obtain ⟨c0, A1, d1, c1, _, _, r1⟩ := hc j hlm
      have t1 := TOT.out j
      have hl := HS.out ps[j] (List.getElem_mem _)
      have T1 : Hid (totL sW ps (j + 1) = totL sW ps j + (1 + (ps[j]).2.length)) := Lib.hid (totL_succ sW ps j hlt)
      rw [mkL_get _ _ _ _ _ _ hlt hlt] at c0 c1 r1
      simp only [mW, marks_length] at c0 c1 r1
      have i1 : (j : Int) < (ps.length : Int) := by omega
      have i2 : (0 : Int) ≤ (j : Int) := by omega
      clear hc
      generalize hq : (totL sW ps j : Int) = q at r1 c1 c0
      have q0 : 0 ≤ k + q := by omega
      have H := Lib.hid (heldByteS_any A1 d1 (k + q + 1) (ps[j]).2.length w r1 (by omega) (by omega) (by omega))
      have d0 : decide (k + q + 1 + ((ps[j]).2.length : Int) < 0) = false := decide_eq_false (by omega)
      have ne : (k + q != k + q) = false := by simp
      have HQ := Lib.hid hq
      have q1 : q ≤ 1099512676352 := by omega
      clear hq t1
      go_wp2_with fail
      refine H.out.mono ?_
      rintro e w1 ⟨rfl, rfl⟩
      go_wp2
      go_round
      case rel => exact ⟨j + 1, by omega, by go_num, by rw [T1.out, ← HQ.out]; go_num⟩
      case measure => simp [intOf]; omega
    · go_wp2
      go_ret
      have e : j = ps.length := by omega
      subst e
      exact ⟨rfl, rfl⟩
end Go.Proofs.Ytkahjomkjhlkbaa
