/- Contracts for the generic sorted set at keys: placeOf and put; impl.SetPut, slices.Clone at keys and impl.MergeSets. Conditions: at most 2^20 keys each. -/
import Derived.Test.YtmpgmjnagpiijaaKSetMerge
namespace Go.Proofs.Ytmpgmjnagpiijaa
open Go.RowKit
set_option maxRecDepth 100000
set_option linter.unusedSimpArgs false
set_option linter.unusedVariables false

theorem place_step {l : List KeyD} {k : Nat} {x : KeyD} (h : k < l.length) (hp : lessK l[k] x = true) (hf : placeK l x = k + placeK (l.drop k) x) : placeK l x = (k + 1) + placeK (l.drop (k + 1)) x := by
  rw [drop_at h] at hf
  unfold placeK at hf ⊢
  rw [List.findIdx_cons, hp] at hf
  simp only [Bool.not_true, cond_false] at hf
  omega
theorem place_hit {l : List KeyD} {k : Nat} {x : KeyD} (h : k < l.length) (hp : lessK l[k] x = false) (hf : placeK l x = k + placeK (l.drop k) x) : placeK l x = k := by
  rw [drop_at h] at hf
  unfold placeK at hf ⊢
  rw [List.findIdx_cons, hp] at hf
  simpa using hf
set_option maxHeartbeats 2000000 in
theorem placeOf_any (v : Value) (l : List KeyD) (x : KeyD) (w : World) (hv : Reads w w.heap.size v (keysD l)) (hn : l.length ≤ 2097152) : Calls Try.prog 126 #[.agg #[v, lessV], x.v] w fun e w' => e = .returned (.int .i64 (placeK l x : Nat)) ∧ Below w.heap.size w w' := by
  obtain ⟨A, c, rfl, _, _⟩ := hv.shapeK
  have HT := Lib.hid lessI
  unfold KeyD.v keyV at HT
  unfold KeyD.v keyV lessV
  obtain ⟨N, hN⟩ : ∃ N, placeK l x = N := ⟨_, rfl⟩
  rw [hN]
  obtain ⟨q0, q1⟩ := al2 w (.cells #[.slice A l.length c, .func (.func 125) #[] #[]] 157) (.cells #[.int .i64 x.a, .int .i64 x.b, .int .i64 x.c, .int .i64 x.d, .int .i64 x.e] 75)
  have b0 := bal2 w (.cells #[.slice A l.length c, .func (.func 125) #[] #[]] 157) (.cells #[.int .i64 x.a, .int .i64 x.b, .int .i64 x.c, .int .i64 x.d, .int .i64 x.e] 75)
  have Q0 := Lib.hid q0
  have Q1 := Lib.hid q1
  have HB := Lib.hid b0
  have HV := Lib.hid (hv.on b0)
  have HN := Lib.hid hN
  clear hv b0 q0 q1 hN
  go_enter Try.func126, Try.ntmps126
  go_wp2
  generalize (w.alloc (.cells #[.slice A l.length c, .func (.func 125) #[] #[]] 157)).alloc (.cells #[.int .i64 x.a, .int .i64 x.b, .int .i64 x.c, .int .i64 x.d, .int .i64 x.e] 75) = W at *
  go_loopw [5, 6, 10] (fun _ _ i wr => ∃ k : Nat, k ≤ l.length ∧ i = .int .i64 k ∧ Hid (placeK l x = k + placeK (l.drop k) x) ∧ Hid (Below W.heap.size W wr)) (fun _ _ i _ => l.length - (intOf i).toNat)
  case atStart => exact ⟨0, Nat.zero_le _, rfl, Lib.hid (by simp), Lib.hid (Below.refl _ _)⟩
  case round =>
    obtain ⟨k, hk, rfl, HI, HW⟩ := hrel
    have hzr := HW.out.size
    by_cases hlt : k < l.length
    · obtain ⟨b, off, rfl, hbb, hc⟩ := (HV.out.on HW.out).keys hlt
      have i1 : (k : Int) < (l.length : Int) := by omega
      have i2 : (0 : Int) ≤ (k : Int) := by omega
      obtain ⟨c0, c1, c2, c3, c4⟩ := hc k hlt
      have ba := bal1 wr (.cells #[.int .i64 (l[k]).a, .int .i64 (l[k]).b, .int .i64 (l[k]).c, .int .i64 (l[k]).d, .int .i64 (l[k]).e] 75)
      have BA := Lib.hid (HW.out.trans (ba.mono hzr))
      obtain ⟨x0, x1, x2⟩ := box2 (box_on Q0.out BA.out)
      obtain ⟨y0, y1, y2, y3, y4, y5⟩ := box5 (box_on Q1.out BA.out)
      clear hc ba
      cases hs : lessK l[k] x
      · have HS := Lib.hid hs
        clear hs
        go_wp2_with fail
        refine (HT.out l[k] x _).mono ?_
        rintro r w1 ⟨rfl, b1⟩
        rw [HS.out]
        have B1 := Lib.hid (BA.out.trans (b1.mono BA.out.size))
        clear c0 c1 c2 c3 c4 x0 x1 x2 y0 y1 y2 y3 y4 y5 b1
        go_wp2
        go_ret
        exact ⟨ret_intB (by rw [← HN.out, place_hit hlt HS.out HI.out]), bstep HB.out B1.out⟩
      · have HS := Lib.hid hs
        clear hs
        go_wp2_with fail
        refine (HT.out l[k] x _).mono ?_
        rintro r w1 ⟨rfl, b1⟩
        rw [HS.out]
        have B1 := Lib.hid (BA.out.trans (b1.mono BA.out.size))
        clear c0 c1 c2 c3 c4 x0 x1 x2 y0 y1 y2 y3 y4 y5 b1
        go_wp2
        go_roundw
        case rel => exact ⟨k + 1, by omega, by go_num, Lib.hid (place_step hlt HS.out HI.out), B1⟩
        case measure => simp [intOf]; omega
    · obtain ⟨x0, x1, x2⟩ := box2 (box_on Q0.out HW.out)
      have e : N = l.length := by
        rw [← HN.out, HI.out, List.drop_eq_nil_of_le (by omega)]
        simp [placeK]
        omega
      subst e
      go_wp2
      go_ret
      exact ⟨rfl, bstep HB.out HW.out⟩
theorem run_makeKeys1 (m : Nat) (hm : m ≤ 2000000) (w : World) :
    (Instr.makeSlice 115 (.int .i64 0) (.int .i64 ((m : Int) + 1))).run Try.prog w = .ok (.slice (some ⟨w.heap.size, 0, none⟩) 0 (m + 1)) (w.alloc (.cells (madeCells #[.int .i64 0, .int .i64 0, .int .i64 0, .int .i64 0, .int .i64 0] ((m + 1) * 5)) 75)) := run_makeKeys 0 (m + 1) (Nat.zero_le _) (by omega) w
theorem At.take {w : World} {A : Option Addr} {l : List KeyD} (h : At w A (kvl l)) (N : Nat) : At w A (kvl (l.take N)) := by
  rcases h with h | ⟨b, off, rfl, hc⟩
  · left
    have : l = [] := by
      have := congrArg List.length h
      rw [kvl_len] at this
      exact List.length_eq_zero_iff.1 (by simp at this; omega)
    subst this
    simp [kvl]
  · right
    have he : kvl l = kvl (l.take N) ++ kvl (l.drop N) := by rw [← kvl_append, List.take_append_drop]
    refine ⟨b, off, rfl, fun i hi => ?_⟩
    have hlt : i < (kvl l).length := by rw [he, List.length_append]; omega
    rw [hc i hlt]
    simp only [he, List.getElem_append_left hi]
theorem Reads.tailK {w : World} {B b off n c : Nat} {e : TypeId} {l : List KeyD} (h : Reads w B (.slice (some ⟨b, off, none⟩) n c) (.row e 5 l.length (l.flatMap kC))) (N : Nat) (hN : N < l.length) : b < B ∧ ∀ k (hk : k < (l.drop N).length), Five w b (off + N * 5 + k * 5) (l.drop N)[k] := by
  obtain ⟨b', off', he, hb, hc⟩ := h.keys hN
  cases he
  refine ⟨hb, fun k hk => ?_⟩
  have h1 := hc (N + k) (by simp at hk; omega)
  rw [List.getElem_drop, Nat.add_assoc, ← Nat.add_mul]
  exact h1
theorem flip_filter (t : List KeyD) (x : KeyD) : t.filter (fun y => !spotK y x) = t.filter (fun y => !spotK x y) := by
  congr 1
  funext y
  rw [spot_comm]
set_option maxHeartbeats 4000000 in
theorem put_any (v : Value) (l : List KeyD) (x : KeyD) (w : World) (hv : Reads w w.heap.size v (keysD l)) (hn : l.length ≤ 2000000) : Calls Try.prog 122 #[.agg #[v, lessV], x.v] w fun e w' => ∃ v', e = .returned (.agg #[v', lessV]) ∧ RowK w' w.heap.size v' (putK l x) ∧ Below w.heap.size w w' := by
  obtain ⟨A, c, rfl, hcap, hmax⟩ := hv.shapeK
  have hmk := run_makeKeys1 l.length hn
  have hst := store_less
  have HP := Lib.hid (fun w => placeOf_any (.slice A l.length c) l x w)
  have HT := Lib.hid (same_any A l.length c x)
  unfold KeyD.v keyV lessV at HT HP
  unfold KeyD.v keyV lessV
  obtain ⟨R, hR⟩ : ∃ R, putK l x = R := ⟨_, rfl⟩
  rw [hR]
  rw [put_eq] at hR
  have hple := place_le l x
  obtain ⟨N, hN⟩ : ∃ N, placeK l x = N := ⟨_, rfl⟩
  rw [hN] at hR hple HP
  obtain ⟨q0, q1, q2⟩ := al3 w (.cells #[.slice A l.length c, .func (.func 125) #[] #[]] 157) (.cells #[.int .i64 x.a, .int .i64 x.b, .int .i64 x.c, .int .i64 x.d, .int .i64 x.e] 75) (.cells #[.slice none 0 0, .nilFunc] 157)
  have b0 := bal3 w (.cells #[.slice A l.length c, .func (.func 125) #[] #[]] 157) (.cells #[.int .i64 x.a, .int .i64 x.b, .int .i64 x.c, .int .i64 x.d, .int .i64 x.e] 75) (.cells #[.slice none 0 0, .nilFunc] 157)
  have Q0 := Lib.hid q0
  have Q1 := Lib.hid q1
  have Q2 := Lib.hid q2
  have HB := Lib.hid b0
  have HV := Lib.hid (hv.on b0)
  have HR := Lib.hid hR
  have HZ : Hid ((((w.alloc (.cells #[.slice A l.length c, .func (.func 125) #[] #[]] 157)).alloc (.cells #[.int .i64 x.a, .int .i64 x.b, .int .i64 x.c, .int .i64 x.d, .int .i64 x.e] 75)).alloc (.cells #[.slice none 0 0, .nilFunc] 157)).heap.size = w.heap.size + 3) := Lib.hid (by simp)
  clear hv b0 q0 q1 q2 hR hN
  go_enter Try.func122, Try.ntmps122
  go_wp2_with fail
  refine (HP.out _ HV.out (by omega)).mono ?_
  rintro r w1 ⟨rfl, b1⟩
  have P0 := Lib.hid (box_on Q0.out b1)
  have P1 := Lib.hid (box_on Q1.out b1)
  have P2 := Lib.hid (box_on Q2.out b1)
  have B1 := Lib.hid (bstep HB.out b1)
  have V1 := Lib.hid (HV.out.on b1)
  have hz1 := b1.size
  rw [HZ.out] at hz1
  clear b1 Q0 Q1 Q2 HB HV HZ HP
  obtain ⟨x0, x1, x2⟩ := box2 P0.out
  have i1 : (N : Int) ≤ (l.length : Int) := by omega
  have i2 : (0 : Int) ≤ (N : Int) := by omega
  have i3 : (N : Int) ≤ (c : Int) := by omega
  have i4 : IntKind.i64.wrap ((l.length : Int) + 1) = (l.length : Int) + 1 := by rw [IntKind.wrap_i64]; omega
  go_upto_region 3 with (fail)
  have hbm := bal1 w1 (.cells (madeCells #[.int .i64 0, .int .i64 0, .int .i64 0, .int .i64 0, .int .i64 0] ((l.length + 1) * 5)) 75)
  have P0' := Lib.hid (box_on P0.out hbm)
  have START := Lib.hid (show Grow w1 _ _ _ from ⟨RowK.made w1 (l.length + 1) (by omega), hbm⟩)
  clear hmk x0 x1 x2 hbm
  generalize w1.alloc (.cells (madeCells #[.int .i64 0, .int .i64 0, .int .i64 0, .int .i64 0, .int .i64 0] ((l.length + 1) * 5)) 75) = w2 at *
  obtain ⟨x0, x1, x2⟩ := box2 P0'.out
  have HAt := Lib.hid ((V1.out.on START.out.2).atK.take N)
  have HZ := Lib.hid START.out.2.size
  clear P0'
  go_upto_region 4 with (at_builtin; refine wpList_appK _ rfl (.tmp 17) (.tmp 21) rfl w1.heap.size _ [] rfl START.out.1 A N c (l.take N) rfl (by simp; omega) HAt.out (by simp; omega) HZ.out ?_; intro v3 w3 o3 b3)
  have HG3 := Lib.hid (show Grow w1 w3 v3 (l.take N) from ⟨o3, START.out.2.trans b3⟩)
  obtain ⟨A3, c3, rfl, _, _⟩ := o3.shape
  clear o3 b3 START HAt HZ x0 x1 x2
  have hl3 : (l.take N).length = N := by simp; omega
  obtain ⟨y0, y1, y2, y3, y4, y5⟩ := box5 (box_on P1.out HG3.out.2)
  have ba := bal1 w3 (.cells #[.int .i64 x.a, .int .i64 x.b, .int .i64 x.c, .int .i64 x.d, .int .i64 x.e] 75)
  have HRow := Lib.hid (HG3.out.on ba).1
  have HB := Lib.hid (HG3.out.on ba).2
  have HAt := Lib.hid (At.key w3 x 75)
  have HZ := Lib.hid HB.out.size
  clear ba HG3
  go_upto_region 5 with (at_builtin; refine wpList_appK _ rfl (.tmp 23) (.tmp 25) rfl w1.heap.size _ (l.take N) rfl HRow.out (some ⟨w3.heap.size, 0, none⟩) 1 1 [x] rfl rfl HAt.out (by simp; omega) HZ.out ?_; intro v4 w4 o4 b4; clear HRow HAt y0 y1 y2 y3 y4 y5)
  have HG4 := Lib.hid (show Grow w1 w4 v4 (l.take N ++ [x]) from ⟨o4, HB.out.trans b4⟩)
  obtain ⟨A4, c4, rfl, _, _⟩ := o4.shape
  clear o4 b4 HB HZ
  have hl4 : (l.take N ++ [x]).length = N + 1 := by simp; omega
  have HR4 : Hid ((l.take N ++ [x]) ++ (l.drop N).filter (fun y => !spotK x y) = R) := Lib.hid (by rw [← flip_filter, ← HR.out]; simp)
  have HL4 := Lib.hid hl4
  have hlt4 : (l.drop N).length = l.length - N := by simp
  clear HR hl4 hl3
  generalize l.take N ++ [x] = m4 at *
  obtain ⟨x0, x1, x2⟩ := box2 (box_on P0.out HG4.out.2)
  by_cases hN : N < l.length
  · have hA : ∃ b off, A = some ⟨b, off, none⟩ := by
      obtain ⟨b, off, h, _⟩ := V1.out.keys hN
      exact ⟨b, off, h⟩
    obtain ⟨b, off, rfl⟩ := hA
    obtain ⟨hbb, hc⟩ := V1.out.tailK N hN
    have FK : Hid (∀ wt, Below w1.heap.size w1 wt → ∀ k (hk : k < (l.drop N).length), Five wt b (off + N * 5 + k * 5) (l.drop N)[k]) := Lib.hid (fun wt h k hk => (hc k hk).on hbb h)
    have hcN : ¬ c = N := by omega
    clear hc V1
    have HLT := Lib.hid hlt4
    clear hlt4
    generalize l.drop N = t at *
    go_wp2
    clear x0 x1 x2
    go_loopw [6, 8, 32] (fun o _ i wr => ∃ (k : Nat) (m : List KeyD), k ≤ l.length - N ∧ i = .int .i64 k ∧ Hid (m.length ≤ N + 1 + k) ∧ Hid (m ++ (t.drop k).filter (fun y => !spotK x y) = R) ∧ Hid (Grow w1 wr o m)) (fun _ _ i _ => l.length - N - (intOf i).toNat)
    case atStart => exact ⟨0, m4, Nat.zero_le _, rfl, Lib.hid (Nat.le_of_eq HL4.out), HR4, HG4⟩
    case round =>
      clear HG4 HR4 HL4
      obtain ⟨k, m, hk, rfl, HM, HI, HG⟩ := hrel
      obtain ⟨Ao, co, rfl, _, _⟩ := HG.out.1.shape
      by_cases hlt : k < l.length - N
      · have hkt : k < t.length := by rw [HLT.out]; exact hlt
        have i5 : (k : Int) < ((l.length - N : Nat) : Int) := by omega
        have i6 : (0 : Int) ≤ (k : Int) := by omega
        obtain ⟨c0, c1, c2, c5, c6⟩ := FK.out _ HG.out.2 k hkt
        have ba := bal1 wr (.cells #[.int .i64 (t[k]).a, .int .i64 (t[k]).b, .int .i64 (t[k]).c, .int .i64 (t[k]).d, .int .i64 (t[k]).e] 75)
        have HGa := Lib.hid (HG.out.on ba)
        have PK := Lib.hid (al1 wr (.cells #[.int .i64 (t[k]).a, .int .i64 (t[k]).b, .int .i64 (t[k]).c, .int .i64 (t[k]).d, .int .i64 (t[k]).e] 75))
        obtain ⟨x0, x1, x2⟩ := box2 (box_on P0.out HGa.out.2)
        obtain ⟨y0, y1, y2, y3, y4, y5⟩ := box5 (box_on P1.out HGa.out.2)
        clear ba
        cases hs : spotK x t[k]
        · have HS := Lib.hid hs
          clear hs
          go_upto_region 9 with (go_at_call 127; refine (HT.out t[k] _).mono ?_; rintro r w5 ⟨rfl, b5⟩; rw [HS.out])
          have HG5 := Lib.hid (HGa.out.on b5)
          have PK5 := box_on PK.out b5
          clear c0 c1 c2 c5 c6 x0 x1 x2 y0 y1 y2 y3 y4 y5 b5 HGa HG PK
          obtain ⟨y0, y1, y2, y3, y4, y5⟩ := box5 PK5
          clear PK5
          have ba := bal1 w5 (.cells #[.int .i64 (t[k]).a, .int .i64 (t[k]).b, .int .i64 (t[k]).c, .int .i64 (t[k]).d, .int .i64 (t[k]).e] 75)
          have HRow := Lib.hid (HG5.out.on ba).1
          have HB := Lib.hid (HG5.out.on ba).2
          have HAt := Lib.hid (At.key w5 t[k] 75)
          have HZ := Lib.hid HB.out.size
          clear ba HG5
          go_wp2_with (at_builtin; refine wpList_appK _ rfl (.tmp 41) (.tmp 43) rfl w1.heap.size _ m rfl HRow.out (some ⟨w5.heap.size, 0, none⟩) 1 1 [t[k]] rfl rfl HAt.out (by have := HM.out; simp; omega) HZ.out ?_; intro v6 w6 o6 b6; clear HRow HAt y0 y1 y2 y3 y4 y5)
          have HG6 := Lib.hid (show Grow w1 w6 v6 (m ++ [t[k]]) from ⟨o6, HB.out.trans b6⟩)
          clear o6 b6 HB HZ
          go_roundw
          case rel => exact ⟨k + 1, m ++ [t[k]], by omega, by go_num, Lib.hid (by have := HM.out; simp; omega), Lib.hid (filt_yes (p := fun y => !spotK x y) hkt (by rw [HS.out]; rfl) HI.out), HG6⟩
          case measure => simp [intOf]; omega
        · have HS := Lib.hid hs
          clear hs
          go_wp2_with fail
          refine (HT.out t[k] _).mono ?_
          rintro r w5 ⟨rfl, b5⟩
          rw [HS.out]
          have HG5 := Lib.hid (HGa.out.on b5)
          clear c0 c1 c2 c5 c6 x0 x1 x2 y0 y1 y2 y3 y4 y5 b5 HGa HG PK
          go_wp2
          go_roundw
          case rel => exact ⟨k + 1, m, by omega, by go_num, Lib.hid (by have := HM.out; omega), Lib.hid (filt_no (p := fun y => !spotK x y) hkt (by rw [HS.out]; rfl) HI.out), HG5⟩
          case measure => simp [intOf]; omega
      · have e : m = R := by
          have h := HI.out
          rw [List.drop_eq_nil_of_le (by rw [HLT.out]; omega)] at h
          simpa using h
        subst e
        obtain ⟨x0, x1, x2⟩ := box2 (box_on P0.out HG.out.2)
        obtain ⟨z0, z1, z2⟩ := box2 (box_on P2.out HG.out.2)
        go_wp2
        refine bodyPost_ret (v := .agg #[.slice Ao m.length co, lessV]) (by simp [results, Try.results122, go_sem, lessV, *]) rfl ⟨_, rfl, ?_, ?_⟩
        · exact ((HG.out.1.set (by omega)).set (by omega)).mono (by omega)
        · exact ((bstep B1.out HG.out.2).setCell (p := ⟨w.heap.size + 1 + 1, 0, none⟩) (by simp; omega) _).setCell (p := ⟨w.heap.size + 1 + 1, 1, none⟩) (by simp; omega) _
  · have hNl : N = l.length := by omega
    subst hNl
    have hR5 : m4 = R := by
      have h := HR4.out
      rw [List.drop_length] at h
      simpa using h
    subst hR5
    by_cases hc0 : c = l.length
    all_goals
      go_wp2
      clear x0 x1 x2
      go_loopw [6, 8, 32] (fun o _ i wr => i = .int .i64 0 ∧ o = .slice A4 m4.length c4 ∧ w4 = wr) (fun _ _ _ _ => 0)
      case atStart => exact ⟨rfl, rfl, rfl⟩
      case round =>
        obtain ⟨rfl, rfl, rfl⟩ := hrel
        obtain ⟨x0, x1, x2⟩ := box2 (box_on P0.out HG4.out.2)
        obtain ⟨z0, z1, z2⟩ := box2 (box_on P2.out HG4.out.2)
        go_wp2
        refine bodyPost_ret (v := .agg #[.slice A4 m4.length c4, lessV]) (by simp [results, Try.results122, go_sem, lessV, *]) rfl ⟨_, rfl, ?_, ?_⟩
        · exact ((HG4.out.1.set (by omega)).set (by omega)).mono (by omega)
        · exact ((bstep B1.out HG4.out.2).setCell (p := ⟨w.heap.size + 1 + 1, 0, none⟩) (by simp; omega) _).setCell (p := ⟨w.heap.size + 1 + 1, 1, none⟩) (by simp; omega) _
end Go.Proofs.Ytmpgmjnagpiijaa
