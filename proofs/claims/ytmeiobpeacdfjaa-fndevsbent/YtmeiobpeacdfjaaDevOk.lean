/- Contracts for spec.l1In, impl.hasSec, impl.DevOk and spec.DevOk: both DevOk return okD of the device. Conditions: no slice of the device holds more than 2^20 elements. -/
import Derived.Test.YtmeiobpeacdfjaaDevD
import Derived.IntWalk
namespace Go.Proofs.Ytmeiobpeacdfjaa
open Go.RowKit
set_option maxRecDepth 100000
set_option linter.unusedSimpArgs false
set_option linter.unusedVariables false

def secOk (l : List UInt8) : Bool := decide (l.length ≤ 80)
def wrOk (n : Nat) (p : Int × List UInt8) : Bool := decide (0 ≤ p.1) && decide (p.1 < n) && decide (p.2.length ≤ 80)
def okD (d : DevD) : Bool := decide (1 ≤ d.secs.length) && decide (d.secs.length ≤ 60) && decide (d.cache.length ≤ 60) && d.secs.all secOk && d.cache.all (wrOk d.secs.length) && decide (-1 ≤ d.fuse) && decide (d.fuse ≤ 1000)
theorem okD_iff (d : DevD) : okD d = true ↔ 1 ≤ d.secs.length ∧ d.secs.length ≤ 60 ∧ d.cache.length ≤ 60 ∧ (∀ l ∈ d.secs, l.length ≤ 80) ∧ (∀ p ∈ d.cache, 0 ≤ p.1 ∧ p.1 < d.secs.length ∧ p.2.length ≤ 80) ∧ -1 ≤ d.fuse ∧ d.fuse ≤ 1000 := by
  simp [okD, secOk, wrOk, and_assoc]
theorem okD_no {d : DevD} (h : ¬ (1 ≤ d.secs.length ∧ d.secs.length ≤ 60 ∧ d.cache.length ≤ 60 ∧ (∀ l ∈ d.secs, l.length ≤ 80) ∧ (∀ p ∈ d.cache, 0 ≤ p.1 ∧ p.1 < d.secs.length ∧ p.2.length ≤ 80) ∧ -1 ≤ d.fuse ∧ d.fuse ≤ 1000)) : okD d = false := by
  rw [← okD_iff] at h; simpa using h

theorem l1In_yes (a lo hi : Int) (w : World) (h1 : lo ≤ a) (h2 : a ≤ hi) : Calls Try.prog 62 #[.int .i64 a, .int .i64 lo, .int .i64 hi] w fun e w' => e = .returned (.bool true) ∧ w = w' := by
  go_enter Try.func62, Try.ntmps62
  go_wp2
  go_ret
  exact ⟨rfl, rfl⟩
theorem l1In_no (a lo hi : Int) (w : World) (h : a < lo ∨ hi < a) : Calls Try.prog 62 #[.int .i64 a, .int .i64 lo, .int .i64 hi] w fun e w' => e = .returned (.bool false) ∧ w = w' := by
  by_cases h1 : lo ≤ a
  · have h2 : hi < a := by omega
    clear h
    have d2 : decide (a ≤ hi) = false := decide_eq_false (by omega)
    go_enter Try.func62, Try.ntmps62
    go_wp2
    go_ret
    exact ⟨rfl, rfl⟩
  · have d1 : decide (lo ≤ a) = false := decide_eq_false (by omega)
    clear h
    go_enter Try.func62, Try.ntmps62
    go_wp2
    go_ret
    exact ⟨rfl, rfl⟩
theorem hasSec_yes (A : Option Addr) (c n : Nat) (v1 v2 v3 : Value) (m : Int) (w : World) (h1 : 0 ≤ m) (h2 : m < n) : Calls Try.prog 61 #[.agg #[.slice A n c, v1, v2, v3], .int .i64 m] w fun e w' => e = .returned (.bool true) ∧ Below w.heap.size w w' := by
  have HB := Lib.hid (bal1 w (.cells #[.slice A n c, v1, v2, v3] 27))
  go_enter Try.func61, Try.ntmps61
  go_wp2
  go_ret
  exact ⟨rfl, HB.out⟩
theorem hasSec_no (A : Option Addr) (c n : Nat) (v1 v2 v3 : Value) (m : Int) (w : World) (h : m < 0 ∨ n ≤ m) : Calls Try.prog 61 #[.agg #[.slice A n c, v1, v2, v3], .int .i64 m] w fun e w' => e = .returned (.bool false) ∧ Below w.heap.size w w' := by
  have HB := Lib.hid (bal1 w (.cells #[.slice A n c, v1, v2, v3] 27))
  by_cases h1 : 0 ≤ m
  · have h2 : (n : Int) ≤ m := by omega
    have d2 : decide (m < (n : Int)) = false := decide_eq_false (by omega)
    clear h
    go_enter Try.func61, Try.ntmps61
    go_wp2
    go_ret
    exact ⟨rfl, HB.out⟩
  · have d1 : decide (0 ≤ m) = false := decide_eq_false (by omega)
    clear h
    go_enter Try.func61, Try.ntmps61
    go_wp2
    go_ret
    exact ⟨rfl, HB.out⟩
theorem quiet_same {P : Program} {f : FuncId} {args : Array Value} {w : World} {n : Nat} {v : Value}
    (h : Calls P f args (w.drewN n) fun e w' => e = .returned v ∧ w.drewN n = w') : Calls P f args (w.drewN n) fun e w'' => e = .returned v ∧ ∃ m, w'' = w.drewN m :=
  h.mono fun _ _ ⟨he, hm⟩ => ⟨he, n, hm.symm⟩
def SaysB (w : World) (b : Bool) (e : Ending) (w' : World) : Prop := e = .returned (.bool b) ∧ Below w.heap.size w w'
theorem all_step {α : Type} {P : α → Prop} {ls : List α} {k : Nat} (hk : k < ls.length) (h : ∀ l ∈ ls.take k, P l) (h2 : P ls[k]) : ∀ l ∈ ls.take (k + 1), P l := by
  intro l hl
  rw [List.take_succ_eq_append_getElem hk, List.mem_append] at hl
  rcases hl with hl | hl
  · exact h l hl
  · simp at hl; subst hl; exact h2
theorem all_done {α : Type} {P : α → Prop} {ls : List α} {k : Nat} (hk : ¬ k < ls.length) (h : ∀ l ∈ ls.take k, P l) : ∀ l ∈ ls, P l := by
  rw [List.take_of_length_le (by omega)] at h; exact h
def WOk (n : Nat) (p : Int × List UInt8) : Prop := 0 ≤ p.1 ∧ p.1 < n ∧ p.2.length ≤ 80
def SOk (l : List UInt8) : Prop := l.length ≤ 80
theorem implDevOk_any (v : Value) (d : DevD) (w : World) (hv : RdDev w w.heap.size v d) (hs : SmallD d) : Calls Try.prog 18 #[v] w (SaysB w (okD d)) := by
  obtain ⟨v0, v1, rfl, hv0, hv1⟩ := hv
  obtain ⟨A0, d0, e0, _, _⟩ := hv0.len
  obtain ⟨A1, d1, e1, _, _⟩ := hv1.len
  subst e0 e1
  obtain ⟨s1, s2, s3, s4⟩ := hs
  have V0 := Lib.hid hv0
  have V1 := Lib.hid hv1
  have q0 := al1 w (.cells #[.slice A0 d.secs.length d0, .slice A1 d.cache.length d1, .int .i64 d.fuse, .bool d.down] 27)
  have Q0 := Lib.hid q0
  have HB := Lib.hid (bal1 w (.cells #[.slice A0 d.secs.length d0, .slice A1 d.cache.length d1, .int .i64 d.fuse, .bool d.down] 27))
  clear hv0 hv1 s3 s4 q0
  by_cases hsz : 1 ≤ d.secs.length ∧ d.secs.length ≤ 60 ∧ d.cache.length ≤ 60
  · obtain ⟨z1, z2, z3⟩ := hsz
    have k1 : decide ((d.secs.length : Int) < 1) = false := decide_eq_false (by omega)
    have k2 : decide ((60 : Int) < (d.secs.length : Int)) = false := decide_eq_false (by omega)
    have k3 : decide ((60 : Int) < (d.cache.length : Int)) = false := decide_eq_false (by omega)
    go_enter Try.func18, Try.ntmps18
    go_wp2
    go_loop [4, 26] (fun _ i => ∃ k : Nat, k ≤ d.secs.length ∧ i = .int .i64 k ∧ Hid (∀ l ∈ d.secs.take k, SOk l)) (fun _ i => d.secs.length - (intOf i).toNat)
    case atStart => exact ⟨0, Nat.zero_le _, rfl, Lib.hid (by simp)⟩
    case round =>
      obtain ⟨k, hk, rfl, HA⟩ := hrel
      by_cases hlt : k < d.secs.length
      · obtain ⟨b, off, rfl, hbb, hc⟩ := (V0.out.on HB.out).sec hlt
        obtain ⟨A2, d2, c1, _, _, _⟩ := hc k hlt
        clear hc
        by_cases hl : (d.secs[k]).length ≤ 80
        · have j1 : decide ((80 : Int) < ((d.secs[k]).length : Int)) = false := decide_eq_false (by omega)
          go_wp2
          go_round
          case rel => exact ⟨k + 1, by omega, by go_num, Lib.hid (all_step hlt HA.out hl)⟩
          case measure => simp [intOf]; omega
        · have j1 : decide ((80 : Int) < ((d.secs[k]).length : Int)) = true := decide_eq_true (by omega)
          go_wp2
          go_ret
          refine ⟨ret_boolB (okD_no ?_).symm, HB.out⟩
          rintro ⟨_, _, _, h, _⟩
          exact hl (h _ (List.getElem_mem _))
      · have HS := Lib.hid (all_done hlt HA.out)
        clear HA
        go_wp2
        go_loopw [6, 37] (fun _ i wr => ∃ k : Nat, k ≤ d.cache.length ∧ i = .int .i64 k ∧ Hid (∀ p ∈ d.cache.take k, WOk d.secs.length p) ∧ Hid (wr.heap[w.heap.size]? = some (.cells #[.slice A0 d.secs.length d0, .slice A1 d.cache.length d1, .int .i64 d.fuse, .bool d.down] 27)) ∧ Below w.heap.size w wr) (fun _ i _ => d.cache.length - (intOf i).toNat)
        case atStart => exact ⟨0, Nat.zero_le _, rfl, Lib.hid (by simp), Q0, HB.out⟩
        case round =>
          obtain ⟨k, hk, rfl, HA, HQ, hb⟩ := hrel
          obtain ⟨x0, x1, x2, x3, x4⟩ := box4 HQ.out
          by_cases hlt : k < d.cache.length
          · obtain ⟨b, off, rfl, hbb, hc⟩ := (V1.out.on hb).wr hlt
            obtain ⟨c0, A2, d2, c1, _, _, _⟩ := hc k hlt
            clear hc
            have hz : w.heap.size < wr.heap.size := (Array.getElem?_eq_some_iff.1 HQ.out).1
            have i1 : (k : Int) < (d.cache.length : Int) := by omega
            have i2 : (0 : Int) ≤ (k : Int) := by omega
            by_cases hm : 0 ≤ (d.cache[k]).1 ∧ (d.cache[k]).1 < d.secs.length
            · obtain ⟨m1, m2⟩ := hm
              go_wp2_with fail
              refine (hasSec_yes _ _ _ _ _ _ _ _ m1 m2).mono ?_
              rintro e w1 ⟨rfl, b1⟩
              obtain ⟨g0, g1⟩ := bcell b1
              have hb1 := bstep (bstep hb (bal1 _ _)) b1
              have hq1 := Lib.hid (box_on (box_on HQ.out (bal1 _ _)) b1)
              by_cases hl : (d.cache[k]).2.length ≤ 80
              · have j1 : decide ((80 : Int) < ((d.cache[k]).2.length : Int)) = false := decide_eq_false (by omega)
                go_wp2
                go_roundw
                case rel => exact ⟨k + 1, by omega, by go_num, Lib.hid (all_step hlt HA.out ⟨m1, m2, hl⟩), hq1, hb1⟩
                case measure => simp [intOf]; omega
              · have j1 : decide ((80 : Int) < ((d.cache[k]).2.length : Int)) = true := decide_eq_true (by omega)
                go_wp2
                go_ret
                refine ⟨ret_boolB (okD_no ?_).symm, hb1⟩
                rintro ⟨_, _, _, _, h, _⟩
                exact hl (h _ (List.getElem_mem _)).2.2
            · go_wp2_with fail
              refine (hasSec_no _ _ _ _ _ _ _ _ (by omega)).mono ?_
              rintro e w1 ⟨rfl, b1⟩
              have hb1 := bstep (bstep hb (bal1 _ _)) b1
              go_wp2
              go_ret
              refine ⟨ret_boolB (okD_no ?_).symm, hb1⟩
              rintro ⟨_, _, _, _, h, _⟩
              exact hm ⟨(h _ (List.getElem_mem _)).1, (h _ (List.getElem_mem _)).2.1⟩
          · have HC := Lib.hid (all_done hlt HA.out)
            clear HA
            by_cases hf : -1 ≤ d.fuse
            · by_cases hf2 : d.fuse ≤ 1000
              · go_wp2
                go_ret
                exact ⟨ret_boolB ((okD_iff d).2 ⟨z1, z2, z3, HS.out, HC.out, hf, hf2⟩).symm, hb⟩
              · have j2 : decide (d.fuse ≤ 1000) = false := decide_eq_false hf2
                go_wp2
                go_ret
                exact ⟨ret_boolB (okD_no (fun h => by have := h.2.2.2.2.2.2; omega)).symm, hb⟩
            · have j1 : decide (-1 ≤ d.fuse) = false := decide_eq_false hf
              go_wp2
              go_ret
              exact ⟨ret_boolB (okD_no (fun h => by have := h.2.2.2.2.2.1; omega)).symm, hb⟩
  · have HN : okD d = false := okD_no (fun h => hsz ⟨h.1, h.2.1, h.2.2.1⟩)
    have HN := Lib.hid HN
    by_cases y1 : d.secs.length < 1
    · have k1 : decide ((d.secs.length : Int) < 1) = true := decide_eq_true (by omega)
      clear hsz
      go_enter Try.func18, Try.ntmps18
      go_wp2
      go_ret
      exact ⟨ret_boolB HN.out.symm, HB.out⟩
    · have k1 : decide ((d.secs.length : Int) < 1) = false := decide_eq_false (by omega)
      by_cases y2 : 60 < d.secs.length
      · have k2 : decide ((60 : Int) < (d.secs.length : Int)) = true := decide_eq_true (by omega)
        clear hsz
        go_enter Try.func18, Try.ntmps18
        go_wp2
        go_ret
        exact ⟨ret_boolB HN.out.symm, HB.out⟩
      · have k2 : decide ((60 : Int) < (d.secs.length : Int)) = false := decide_eq_false (by omega)
        have k3 : decide ((60 : Int) < (d.cache.length : Int)) = true := decide_eq_true (by omega)
        clear hsz
        go_enter Try.func18, Try.ntmps18
        go_wp2
        go_ret
        exact ⟨ret_boolB HN.out.symm, HB.out⟩
theorem specDevOk_any (v : Value) (d : DevD) (w : World) (hv : RdDev w w.heap.size v d) (hs : SmallD d) : Calls Try.prog 19 #[v] w (SaysB w (okD d)) := by
  obtain ⟨v0, v1, rfl, hv0, hv1⟩ := hv
  obtain ⟨A0, d0, e0, _, _⟩ := hv0.len
  obtain ⟨A1, d1, e1, _, _⟩ := hv1.len
  subst e0 e1
  obtain ⟨s1, s2, s3, s4⟩ := hs
  have V0 := Lib.hid hv0
  have V1 := Lib.hid hv1
  have q0 := al1 w (.cells #[.slice A0 d.secs.length d0, .slice A1 d.cache.length d1, .int .i64 d.fuse, .bool d.down] 27)
  obtain ⟨x0, x1, x2, x3, x4⟩ := box4 q0
  have HB := Lib.hid (bal1 w (.cells #[.slice A0 d.secs.length d0, .slice A1 d.cache.length d1, .int .i64 d.fuse, .bool d.down] 27))
  have Q0 := Lib.hid q0
  clear hv0 hv1 s3 s4 q0
  go_enter Try.func19, Try.ntmps19
  go_wp2
  generalize w.alloc (.cells #[.slice A0 d.secs.length d0, .slice A1 d.cache.length d1, .int .i64 d.fuse, .bool d.down] 27) = W at *
  go_loop [3] (fun i => ∃ k : Nat, k ≤ d.secs.length ∧ i = .int .i64 k ∧ Hid (∀ l ∈ d.secs.take k, SOk l)) (fun i => d.secs.length - (intOf i).toNat)
  case atStart => exact ⟨0, Nat.zero_le _, rfl, Lib.hid (by simp)⟩
  case round =>
    obtain ⟨k, hk, rfl, HA⟩ := hrel
    by_cases hlt : k < d.secs.length
    · obtain ⟨b, off, rfl, hbb, hc⟩ := (V0.out.on HB.out).sec hlt
      obtain ⟨A2, d2, c1, _, _, _⟩ := hc k hlt
      clear hc
      by_cases hl : (d.secs[k]).length ≤ 80
      · have j1 : decide ((80 : Int) < ((d.secs[k]).length : Int)) = false := decide_eq_false (by omega)
        go_wp2
        go_round
        case rel => exact ⟨k + 1, by omega, by go_num, Lib.hid (all_step hlt HA.out hl)⟩
        case measure => simp [intOf]; omega
      · have j1 : decide ((80 : Int) < ((d.secs[k]).length : Int)) = true := decide_eq_true (by omega)
        go_wp2
        go_ret
        refine ⟨ret_boolB (okD_no ?_).symm, HB.out⟩
        rintro ⟨_, _, _, h, _⟩
        exact hl (h _ (List.getElem_mem _))
    · have HS := Lib.hid (all_done hlt HA.out)
      clear HA
      go_wp2
      go_loopw [4] (fun i wr => ∃ k : Nat, k ≤ d.cache.length ∧ i = .int .i64 k ∧ Hid (∀ p ∈ d.cache.take k, WOk d.secs.length p) ∧ Hid (wr.heap[w.heap.size]? = some (.cells #[.slice A0 d.secs.length d0, .slice A1 d.cache.length d1, .int .i64 d.fuse, .bool d.down] 27)) ∧ Below w.heap.size w wr) (fun i _ => d.cache.length - (intOf i).toNat)
      case atStart => exact ⟨0, Nat.zero_le _, rfl, Lib.hid (by simp), Q0, HB.out⟩
      case round =>
        obtain ⟨k, hk, rfl, HA, HQ, hb⟩ := hrel
        clear x0 x1 x2 x3 x4
        obtain ⟨x0, x1, x2, x3, x4⟩ := box4 HQ.out
        by_cases hlt : k < d.cache.length
        · obtain ⟨b, off, rfl, hbb, hc⟩ := (V1.out.on hb).wr hlt
          obtain ⟨c0, A2, d2, c1, _, _, _⟩ := hc k hlt
          clear hc
          have i1 : (k : Int) < (d.cache.length : Int) := by omega
          have i2 : (0 : Int) ≤ (k : Int) := by omega
          have w1 : IntKind.i64.wrap ((d.secs.length : Int) - 1) = (d.secs.length : Int) - 1 := IntWalk.i64_in _ (by omega)
          by_cases hm : 0 ≤ (d.cache[k]).1 ∧ (d.cache[k]).1 < d.secs.length
          · obtain ⟨m1, m2⟩ := hm
            have H := Lib.hid (fun w => l1In_yes (d.cache[k]).1 0 ((d.secs.length : Int) - 1) w m1 (by omega))
            by_cases hl : (d.cache[k]).2.length ≤ 80
            · have j1 : decide ((80 : Int) < ((d.cache[k]).2.length : Int)) = false := decide_eq_false (by omega)
              go_wp2
              go_quiet ((go_at_call 62; exact quiet_same (H.out _)))
              go_wp2
              go_roundw
              case rel => exact ⟨k + 1, by omega, by go_num, Lib.hid (all_step hlt HA.out ⟨m1, m2, hl⟩), HQ, bdrew hb _⟩
              case measure => simp [intOf]; omega
            · have j1 : decide ((80 : Int) < ((d.cache[k]).2.length : Int)) = true := decide_eq_true (by omega)
              go_wp2
              go_quiet ((go_at_call 62; exact quiet_same (H.out _)))
              go_wp2
              go_ret
              refine ⟨ret_boolB (okD_no ?_).symm, bdrew hb _⟩
              rintro ⟨_, _, _, _, h, _⟩
              exact hl (h _ (List.getElem_mem _)).2.2
          · have H := Lib.hid (fun w => l1In_no (d.cache[k]).1 0 ((d.secs.length : Int) - 1) w (by omega))
            go_wp2
            go_quiet ((go_at_call 62; exact quiet_same (H.out _)))
            go_wp2
            go_ret
            refine ⟨ret_boolB (okD_no ?_).symm, bdrew hb _⟩
            rintro ⟨_, _, _, _, h, _⟩
            exact hm ⟨(h _ (List.getElem_mem _)).1, (h _ (List.getElem_mem _)).2.1⟩
        · have HC := Lib.hid (all_done hlt HA.out)
          clear HA
          by_cases z1 : 1 ≤ d.secs.length ∧ d.secs.length ≤ 60
          · go_wp2_with fail
            refine (l1In_yes _ _ _ _ (by omega) (by omega)).mono ?_
            rintro e w1 ⟨rfl, rfl⟩
            by_cases z3 : d.cache.length ≤ 60
            · have j3 : decide ((d.cache.length : Int) ≤ 60) = true := decide_eq_true (by omega)
              by_cases hf : -1 ≤ d.fuse ∧ d.fuse ≤ 1000
              · go_wp2_with fail
                refine (l1In_yes _ _ _ _ hf.1 hf.2).mono ?_
                rintro e w1 ⟨rfl, rfl⟩
                go_wp2
                go_ret
                exact ⟨ret_boolB ((okD_iff d).2 ⟨z1.1, z1.2, z3, HS.out, HC.out, hf.1, hf.2⟩).symm, hb⟩
              · go_wp2_with fail
                refine (l1In_no _ _ _ _ (by omega)).mono ?_
                rintro e w1 ⟨rfl, rfl⟩
                go_wp2
                go_ret
                exact ⟨ret_boolB (okD_no (fun h => hf h.2.2.2.2.2)).symm, hb⟩
            · have j3 : decide ((d.cache.length : Int) ≤ 60) = false := decide_eq_false (by omega)
              go_wp2
              go_ret
              exact ⟨ret_boolB (okD_no (fun h => z3 h.2.2.1)).symm, hb⟩
          · go_wp2_with fail
            refine (l1In_no _ _ _ _ (by omega)).mono ?_
            rintro e w1 ⟨rfl, rfl⟩
            go_wp2
            go_ret
            exact ⟨ret_boolB (okD_no (fun h => z1 ⟨h.1, h.2.1⟩)).symm, hb⟩
end Go.Proofs.Ytmeiobpeacdfjaa
