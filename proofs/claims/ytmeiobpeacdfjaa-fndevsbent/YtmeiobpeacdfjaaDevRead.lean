/- What ReadSec answers (readD), the contract of spec.ReadSec, and the contract of the closure that slices.Backward returns over the cached writes. Conditions: no slice holds more than 2^20 elements. -/
import Derived.Test.YtmeiobpeacdfjaaDevFlush
import Derived.Test.YtmeiobpeacdfjaaNames
import Derived.RangeFuncNested
import Derived.RangeFuncBound
import Derived.RangeFuncCalls
import Derived.RangeFuncLeaves
import Derived.Shelf.Abstract
import Derived.Shelf.RegionOpen
import Derived.WalkKit
import Derived.OwnWalkIn
import Derived.TacticsInMore
import Derived.LoopNIn
import Derived.LoopIn
namespace Go.Proofs.Ytmeiobpeacdfjaa
open Go.RowKit
set_option maxRecDepth 100000
set_option linter.unusedSimpArgs false
set_option linter.unusedVariables false

/-- The bytes of the last of the first i writes to sector n, or b. -/
def lastB (ps : List (Int × List UInt8)) (n : Int) (b : List UInt8) : Nat → List UInt8
  | 0 => b
  | i + 1 => match ps[i]? with
    | some p => if p.1 = n then p.2 else lastB ps n b i
    | none => lastB ps n b i
theorem lastB_hit {ps : List (Int × List UInt8)} {n : Int} {b : List UInt8} {i : Nat} (hi : i < ps.length) (h : (ps[i]).1 = n) : lastB ps n b (i + 1) = (ps[i]).2 := by
  rw [lastB, List.getElem?_eq_getElem hi]; simp [h]
theorem lastB_miss {ps : List (Int × List UInt8)} {n : Int} {b : List UInt8} {i : Nat} (hi : i < ps.length) (h : (ps[i]).1 ≠ n) : lastB ps n b (i + 1) = lastB ps n b i := by
  rw [lastB, List.getElem?_eq_getElem hi]; simp [h]
theorem lastB_skip {ps : List (Int × List UInt8)} {n : Int} {b : List UInt8} {k : Nat} (h : ∀ j (hj : j < ps.length), k ≤ j → (ps[j]).1 ≠ n) : ∀ m, k ≤ m → m ≤ ps.length → lastB ps n b m = lastB ps n b k := by
  intro m
  induction m with
  | zero => intro h1 _; rw [show k = 0 by omega]
  | succ m ih =>
    intro h1 h2
    by_cases he : k = m + 1
    · rw [he]
    · rw [lastB_miss (by omega) (h m (by omega) (by omega))]
      exact ih (by omega) (by omega)
theorem lastB_ev {P : List UInt8 → Prop} {ps : List (Int × List UInt8)} {n : Int} {b : List UInt8} (hb : P b) (hp : ∀ p ∈ ps, P p.2) : ∀ i, P (lastB ps n b i) := by
  intro i
  induction i with
  | zero => exact hb
  | succ i ih =>
    rw [lastB]
    split
    · rename_i p h
      split
      · exact hp p (List.mem_of_getElem? h)
      · exact ih
    · exact ih
def inD (d : DevD) (n : Int) : Prop := okD d = true ∧ 0 ≤ n ∧ n < d.secs.length
instance (d : DevD) (n : Int) : Decidable (inD d n) := by unfold inD; infer_instance
def readD (d : DevD) (n : Int) : List UInt8 := if inD d n then lastB d.cache n (d.secs[n.toNat]?.getD []) d.cache.length else []
theorem readD_no {d : DevD} {n : Int} (h : ¬ inD d n) : readD d n = [] := if_neg h
theorem readD_yes {d : DevD} {n : Nat} (h : inD d n) (hn : n < d.secs.length) : readD d n = lastB d.cache n d.secs[n] d.cache.length := by
  rw [readD, if_pos h]
  simp [hn]
theorem readD_le {d : DevD} {n : Int} (hs : SmallD d) : (readD d n).length ≤ 1048576 := by
  unfold readD
  split
  · refine lastB_ev (P := fun l => l.length ≤ 1048576) ?_ (fun p hp => hs.2.2.2 p hp) _
    cases h : d.secs[n.toNat]? with
    | none => simp
    | some l => simpa using hs.2.2.1 l (List.mem_of_getElem? h)
  · simp

theorem Rd.nilOf {w : World} {B : Nat} {A : Option Addr} {l : List UInt8} (h : Rd w B A l) (hA : A = none) : l = [] := by
  rcases h with h | ⟨b, off, h, _⟩
  · exact h
  · rw [hA] at h; cases h
theorem Own.lit0 (w : World) : Own (w.alloc (.cells #[] 5)) w.heap.size (.slice (some ⟨w.heap.size, 0, none⟩) 0 0) [] :=
  ⟨0, _, rfl, heap_alloc_new w _, Nat.zero_le _, by unfold maxLen; omega, rfl, rfl⟩
/-- The sectors of a device, one by one. -/
theorem secs_at {w : World} {B : Nat} {v : Value} {ls : List (List UInt8)} (h : Reads w B v (secsD ls)) {i : Nat} (hi : i < ls.length) :
    ∃ b off c A c', v = .slice (some ⟨b, off, none⟩) ls.length c ∧ w.cell? ⟨b, off + i, none⟩ = some (.slice A (ls[i]).length c') ∧ Reads w B (.slice A (ls[i]).length c') (bytesD ls[i]) := by
  obtain ⟨A, cap, rfl, _, _, _, _, h⟩ := h.row'
  rcases h with h | ⟨b, off, xs, rfl, hb, hx, hcell, hr⟩
  · simp at h; subst h; simp at hi
  · have hx' : xs.length = ls.length := by simpa using hx
    have r := hr i (by omega) (by simpa using hi)
    have c := hcell i (by omega)
    simp only [List.getElem_map] at r
    obtain ⟨A', c', e, _⟩ := r.bytes
    exact ⟨b, off, cap, A', c', rfl, by rw [c, e], by rw [← e]; exact r⟩
/-- The cached writes of a device, one by one. -/
theorem cache_at {w : World} {B : Nat} {v : Value} {ps : List (Int × List UInt8)} (h : Reads w B v (cacheD ps)) {i : Nat} (hi : i < ps.length) :
    ∃ b off c A c', v = .slice (some ⟨b, off, none⟩) ps.length c ∧ w.cell? ⟨b, off + i * 2, none⟩ = some (.int .i64 (ps[i]).1) ∧ w.cell? ⟨b, off + i * 2 + 1, none⟩ = some (.slice A (ps[i]).2.length c') ∧ Reads w B (.slice A (ps[i]).2.length c') (bytesD (ps[i]).2) := by
  obtain ⟨A, cap, rfl, _, _, _, _, h⟩ := h.row'
  have hl := cache_len ps
  rcases h with h | ⟨b, off, xs, rfl, hb, hx, hcell, hr⟩
  · rw [h] at hl; simp at hl; omega
  · obtain ⟨A', c', e0, e1, r, _⟩ := wr_cells ⟨hx, hr⟩ hi
    have h0 := hcell (i * 2) (by omega)
    have h1 := hcell (i * 2 + 1) (by omega)
    rw [List.getElem?_eq_getElem (by omega)] at e0 e1
    exact ⟨b, off, cap, A', c', rfl, by rw [h0, Option.some.inj e0], by rw [Nat.add_assoc, h1, Option.some.inj e1], r⟩
set_option maxHeartbeats 2000000 in
theorem specReadSec_any (v : Value) (d : DevD) (n : Int) (w : World) (hv : RdDev w w.heap.size v d) (hs : SmallD d) : Calls Try.prog 21 #[v, .int .i64 n] w (NewB w (readD d n)) := by
  have HNO : Hid (¬ inD d n → readD d n = []) := Lib.hid readD_no
  have HLE := Lib.hid (readD_le (n := n) hs)
  have HYE : Hid (∀ k : Nat, n = k → ∀ (_ : inD d n) (hk : k < d.secs.length), readD d n = lastB d.cache n d.secs[k] d.cache.length) := Lib.hid (by rintro k rfl h hk; exact readD_yes h hk)
  generalize readD d n = L at *
  have HV := Lib.hid hv
  have HS := Lib.hid hs
  obtain ⟨A0, c0, A1, c1, rfl⟩ := hv.shape
  have q0 := Lib.hid (al1 w (.cells #[.slice A0 d.secs.length c0, .slice A1 d.cache.length c1, .int .i64 d.fuse, .bool d.down] 27))
  have HB := Lib.hid (bal1 w (.cells #[.slice A0 d.secs.length c0, .slice A1 d.cache.length c1, .int .i64 d.fuse, .bool d.down] 27))
  have sl : d.secs.length ≤ 1048576 := hs.1
  have cl : d.cache.length ≤ 1048576 := hs.2.1
  clear hv hs
  go_enter Try.func21, Try.ntmps21
  go_wp2_with fail
  refine (specDevOk_any _ d _ (HV.out.on HB.out) HS.out).mono ?_
  rintro e w1 ⟨rfl, b1⟩
  have B1 := Lib.hid (bstep HB.out b1)
  have q1 := box_on q0.out b1
  obtain ⟨x0, x1, x2, x3, x4⟩ := box4 q1
  clear q0 b1 HB q1
  have EMP : Hid (L = [] → NewB w L (.returned (.slice (some ⟨w1.heap.size, 0, none⟩) 0 0)) (w1.alloc (.cells #[] 5))) := Lib.hid (fun h => ⟨_, rfl, by rw [h]; exact (Own.lit0 w1).owns B1.out.size, bstep B1.out (bal1 _ _)⟩)
  cases hok : okD d
  · have HL := Lib.hid (HNO.out (fun h => by have := h.1; rw [hok] at this; cases this))
    go_wp2
    go_ret
    exact EMP.out HL.out
  · cases hin : inB n 0 ((d.secs.length : Int) - 1)
    · have HL := Lib.hid (HNO.out (fun h => by
        have h1 := h.2.1
        have h2 := h.2.2
        rw [inB_t h1 (by omega)] at hin
        cases hin))
      have HI := Lib.hid hin
      clear hin
      go_wp2_with (go_at_call 62; refine (in_any _ _ _ _).mono ?_; rintro e w' ⟨rfl, rfl⟩; rw [HI.out])
      go_ret
      exact EMP.out HL.out
    · have HI := Lib.hid hin
      simp only [inB, decide_eq_true_eq] at hin
      obtain ⟨k, rfl⟩ := Int.eq_ofNat_of_zero_le hin.1
      have hk : k < d.secs.length := by have := hin.2; omega
      have HL := Lib.hid (HYE.out k rfl ⟨hok, by omega, by omega⟩ hk)
      obtain ⟨v0, v1, he, r0, r1⟩ := HV.out.on B1.out
      simp at he
      obtain ⟨rfl, rfl⟩ := he
      have R1 := Lib.hid r1
      obtain ⟨b, off, c, A, c', he, y0, y1⟩ := secs_at r0 hk
      simp at he
      obtain ⟨rfl, rfl⟩ := he
      have Y1 := Lib.hid y1
      clear y1 r0 r1 hin HYE HNO HV EMP
      have i1 : (k : Int) < (d.secs.length : Int) := by omega
      go_wp2_with (go_at_call 62; refine (in_any _ _ _ _).mono ?_; rintro e w' ⟨rfl, rfl⟩; rw [HI.out])
      go_loop [5, 6] (fun u i => ∃ (j : Nat) (A : Option Addr) (c : Nat), j ≤ d.cache.length ∧ i = .int .i64 j ∧ u = .slice A (lastB d.cache k d.secs[k] j).length c ∧ Hid (Reads w1 w1.heap.size (.slice A (lastB d.cache k d.secs[k] j).length c) (bytesD (lastB d.cache k d.secs[k] j)))) (fun _ i => d.cache.length - (intOf i).toNat)
      case atStart => exact ⟨0, A, c', Nat.zero_le _, rfl, rfl, Y1⟩
      case round =>
        obtain ⟨j, A2, c2, hj, rfl, rfl, HR⟩ := hrel
        by_cases hlt : j < d.cache.length
        · obtain ⟨b2, off2, c3, A3, c4, he, z0, z1, z2⟩ := cache_at R1.out hlt
          simp at he
          obtain ⟨rfl, rfl⟩ := he
          have Z2 := Lib.hid z2
          have i2 : (j : Int) < (d.cache.length : Int) := by omega
          by_cases hm : (d.cache[j]).1 = (k : Int)
          · have hz : ((d.cache[j]).1 == (k : Int)) = true := by simp [hm]
            have E : Hid (lastB d.cache k d.secs[k] (j + 1) = (d.cache[j]).2) := Lib.hid (lastB_hit hlt hm)
            clear hm z2
            go_wp2
            go_round
            case rel => exact ⟨j + 1, A3, c4, by omega, by go_num, by rw [E.out], by rw [E.out]; exact Z2⟩
            case measure => simp [intOf]; omega
          · have hz : ((d.cache[j]).1 == (k : Int)) = false := by simp [hm]
            have E : Hid (lastB d.cache k d.secs[k] (j + 1) = lastB d.cache k d.secs[k] j) := Lib.hid (lastB_miss hlt hm)
            clear hm z2
            go_wp2
            go_round
            case rel => exact ⟨j + 1, A2, c2, by omega, by go_num, by rw [E.out], by rw [E.out]; exact HR⟩
            case measure => simp [intOf]; omega
        · have e : j = d.cache.length := by omega
          subst e
          rw [← HL.out] at HR ⊢
          have hle := HLE.out
          obtain ⟨_, _, he, _, _, rd⟩ := HR.out.bytes
          simp at he
          obtain ⟨rfl, rfl⟩ := he
          have r0 := rd.on (bal1 w1 (.cells #[] 5))
          have o0 := Own.lit0 w1
          have hnil : A2 = none → L = [] := rd.nilOf
          have BL := Lib.hid (bal1 w1 (.cells #[] 5))
          clear rd
          go_wp2_with (at_builtin; refine wpList_appB _ rfl (.tmp 46) (.tmp 47) rfl w1.heap.size w1.heap.size _ [] rfl o0 (Nat.le_refl _) _ A2 L L.length c2 rfl rfl r0 hnil (by simp; omega) ?_; intro v5 w5 g5 o5 hg5 b5 _ _; clear o0 r0 hnil)
          rw [List.nil_append] at o5
          have hz1 := B1.out.size
          go_ret
          exact ⟨v5, rfl, o5.owns (by omega), bstep B1.out (BL.out.trans b5)⟩
end Go.Proofs.Ytmeiobpeacdfjaa
