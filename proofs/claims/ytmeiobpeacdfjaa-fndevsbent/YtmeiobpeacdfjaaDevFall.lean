/- Contracts of impl.survives and impl.FallDev. Conditions: no slice holds more than 2^20 elements. -/
import Derived.Test.YtmeiobpeacdfjaaDevFlush
import Derived.Deep.DeepCutAuto
namespace Go.Proofs.Ytmeiobpeacdfjaa
open Go.RowKit
set_option maxRecDepth 100000
set_option linter.unusedSimpArgs false
set_option linter.unusedVariables false

/-- Bit i of k. -/
def bitB (k : Int) (i : Nat) : Bool := bits .and .i64 (k / 2 ^ i) 1 == 1
def surv (k : Int) (i : Nat) : Bool := decide (0 ≤ k) && decide (k < 1073741824) && bitB k i
theorem survives_any (k : Int) (i : Nat) (w : World) (hi : i ≤ 60) : Calls Try.prog 72 #[.int .i64 k, .int .i64 i] w fun e w' => e = .returned (.bool (surv k i)) ∧ w = w' := by
  by_cases h0 : 0 ≤ k
  · have d0 : decide (0 ≤ k) = true := decide_eq_true h0
    by_cases h1 : k < 1073741824
    · have d1 : decide (k < 1073741824) = true := decide_eq_true h1
      have E : Hid (surv k i = (bits .and .i64 (k / 2 ^ i) 1 == 1)) := Lib.hid (by unfold surv bitB; rw [d0, d1]; rfl)
      go_enter Try.func72, Try.ntmps72
      go_wp2
      go_ret
      exact ⟨ret_boolB E.out.symm, rfl⟩
    · have d1 : decide (k < 1073741824) = false := decide_eq_false h1
      have E : Hid (surv k i = false) := Lib.hid (by unfold surv; rw [d0, d1]; rfl)
      go_enter Try.func72, Try.ntmps72
      go_wp2
      go_ret
      exact ⟨ret_boolB E.out.symm, rfl⟩
  · have d0 : decide (0 ≤ k) = false := decide_eq_false h0
    have E : Hid (surv k i = false) := Lib.hid (by unfold surv; rw [d0]; rfl)
    go_enter Try.func72, Try.ntmps72
    go_wp2
    go_ret
    exact ⟨ret_boolB E.out.symm, rfl⟩
def fallD (d : DevD) (k : Int) : DevD := if okD d = true then ⟨appK (surv k) d.secs d.cache d.cache.length, [], -1, false⟩ else d
theorem fallD_no {d : DevD} {k : Int} (h : ¬ okD d = true) : fallD d k = d := if_neg h
theorem fallD_yes {d : DevD} {k : Int} (h : okD d = true) : fallD d k = ⟨appK (surv k) d.secs d.cache d.cache.length, [], -1, false⟩ := if_pos h
def FallIn (w6 : World) (b m : Nat) (keep : Int) (zs : List Value) (k : Nat) (wr : World) : Prop :=
  ∃ L, MapIs wr b L (valOf zs) ∧ L.Nodup ∧ (∀ i, i ∈ L ↔ i < m ∧ (i < k → surv keep i = true)) ∧ Only (fun x => x = b) w6 wr
set_option maxHeartbeats 1000000 in
set_option maxRecDepth 100000 in
theorem implFallDev_any (v : Value) (keep : Int) (d : DevD) (w : World) (hv : RdDev w w.heap.size v d) (hs : SmallD d) : Calls Try.prog 27 #[v, .int .i64 keep] w (NewDev w (fallD d keep)) := by
  have HV := Lib.hid hv
  have HS := Lib.hid hs
  obtain ⟨A0, c0, A1, c1, rfl⟩ := hv.shape
  obtain ⟨q0, q1⟩ := al2 w (.cells #[.slice A0 d.secs.length c0, .slice A1 d.cache.length c1, .int .i64 d.fuse, .bool d.down] 27) (.cells #[.slice none 0 0, .slice none 0 0, .int .i64 0, .bool false] 27)
  clear hv hs
  go_enter Try.func27, Try.ntmps27
  go_wp2_with fail
  refine (copyDev_any _ d _ (HV.out.on (bal2 _ _ _)) HS.out).mono ?_
  rintro e w1 ⟨x, rfl, o1, b1⟩
  have hb1 := bstep (bal2 _ _ _) b1
  have hz1 := b1.size
  simp only [World.size_alloc] at hz1 o1
  obtain ⟨A2, c2, A3, c3, rfl⟩ := o1.rd.shape
  have bx : Boxes (w1.alloc (.cells #[.slice A2 d.secs.length c2, .slice A3 d.cache.length c3, .int .i64 d.fuse, .bool d.down] 27)) w.heap.size (w.heap.size + 1) w1.heap.size #[.slice A0 d.secs.length c0, .slice A1 d.cache.length c1, .int .i64 d.fuse, .bool d.down] #[.slice none 0 0, .slice none 0 0, .int .i64 0, .bool false] #[.slice A2 d.secs.length c2, .slice A3 d.cache.length c3, .int .i64 d.fuse, .bool d.down] :=
    ⟨box_on (box_on q0 b1) (bal1 _ _), box_on (box_on q1 b1) (bal1 _ _), al1 _ _⟩
  have BX := Lib.hid bx
  have O1 := Lib.hid (o1.lt.on (bal1 w1 (.cells #[.slice A2 d.secs.length c2, .slice A3 d.cache.length c3, .int .i64 d.fuse, .bool d.down] 27)))
  have HB1 := Lib.hid (bstep hb1 (bal1 w1 (.cells #[.slice A2 d.secs.length c2, .slice A3 d.cache.length c3, .int .i64 d.fuse, .bool d.down] 27)))
  have RD := Lib.hid (HV.out.on HB1.out)
  obtain ⟨x0, x1, x2, x3, x4⟩ := box4 (box_on q0 b1)
  have hzz : w.heap.size + 1 < w1.heap.size := by omega
  have hza : w.heap.size < w1.heap.size := by omega
  clear q0 q1 b1 hb1 o1 bx
  go_wp2_with fail
  refine (implDevOk_any _ d _ RD.out HS.out).mono ?_
  rintro e w2 ⟨rfl, b2⟩
  have hb2 := bstep HB1.out b2
  have bx2 := BX.out.on b2
  have o2 := O1.out.on b2
  have hz2 := b2.size
  simp only [World.size_alloc] at hz2
  clear x0 x1 x2 x3 x4 BX O1 b2 RD HB1
  have BX := Lib.hid bx2
  have O2 := Lib.hid o2
  have HB2 := Lib.hid hb2
  obtain ⟨x0, x1, x2, x3, x4⟩ := box4 bx2.1
  obtain ⟨y0, y1, y2, y3, y4⟩ := box4 bx2.2.1
  obtain ⟨z0, z1, z2, z3, z4⟩ := box4 bx2.2.2
  have m1 : Mid w.heap.size (w.heap.size + 2) (w.heap.size + 1) := .mk (by omega) (by omega)
  clear bx2 o2 hb2
  obtain ⟨ss, cs, f, dn⟩ := d
  dsimp only at *
  by_cases hok : okD ⟨ss, cs, f, dn⟩ = true
  · rw [hok]
    have OK := Lib.hid hok
    have FB := (okD_iff _).1 hok
    have sl : ss.length ≤ 60 := FB.2.1
    have cl : cs.length ≤ 60 := FB.2.2.1
    clear hok FB
    obtain ⟨xs, zs, T, r0, r1, ol, hT, hS, _, _⟩ := dev_split O2.out (w.heap.size + 2) (fun b hb => hb.1)
    have R0 := Lib.hid r0
    have R1 := Lib.hid r1
    have OL := Lib.hid ol
    have HT := Lib.hid hT
    have HSS := Lib.hid hS
    have hzl : xs.length = ss.length := by have h := r0.1; simpa using h
    have RZ : Hid (ReadsL w2 w2.heap.size zs (cs.flatMap wrC)) := by
      have h := ol.reads
      refine Lib.hid ⟨by have := h.1; simp only [List.length_append, List.length_map] at this; omega, fun i a c => ?_⟩
      have := h.2 (xs.length + i) (by simp; omega) (by simp only [List.length_append, List.length_map]; omega)
      rw [List.getElem_append_right (by omega), List.getElem_append_right (by simp; omega)] at this
      simpa [hzl] using this
    clear r0 r1 ol hT hS hzl
    go_wp2_with fail
    refine (pendingWrites_any _ A3 _ _ c3 _ _ cs zs _ (row_at R1.out) RZ.out (by omega)).mono ?_
    rintro e w6 ⟨b, rfl, hb6, hm6, b6⟩
    have B6 := Lib.hid b6
    have hz6 := b6.size
    have bx6 := BX.out.on b6
    have BX6 := Lib.hid bx6
    clear x0 x1 x2 x3 x4 y0 y1 y2 y3 y4 z0 z1 z2 z3 z4 BX
    obtain ⟨z0, z1, z2, z3, z4⟩ := box4 bx6.2.2
    have REL : Hid (FallIn w6 b cs.length keep zs 0 w6) := Lib.hid ⟨_, hm6, List.nodup_range, fun i => by simp, Only.refl _ _⟩
    have hbl := hm6.lt
    clear b6 hm6 bx6
    go_wp2
    go_loopw [7, 19] (fun _ i wr => ∃ k : Nat, k ≤ cs.length ∧ i = .int .i64 k ∧ Hid (FallIn w6 b cs.length keep zs k wr)) (fun _ i _ => cs.length - (intOf i).toNat)
    case atStart => exact ⟨0, Nat.zero_le _, rfl, REL⟩
    case round =>
      clear z0 z1 z2 z3 z4
      obtain ⟨k, hk, rfl, HC⟩ := hrel
      obtain ⟨L, hm, hnd, hL, hO⟩ := HC.out
      have bxr : Boxes wr w.heap.size (w.heap.size + 1) w1.heap.size #[.slice A0 ss.length c0, .slice A1 cs.length c1, .int .i64 f, .bool dn] #[.slice none 0 0, .slice none 0 0, .int .i64 0, .bool false] #[.slice A2 ss.length c2, .slice A3 cs.length c3, .int .i64 f, .bool dn] :=
        ⟨box_only BX6.out.1 hO (by omega), box_only BX6.out.2.1 hO (by omega), box_only BX6.out.2.2 hO (by omega)⟩
      by_cases hlt : k < cs.length
      · have i1 : (k : Int) < (cs.length : Int) := by omega
        have i2 : (0 : Int) ≤ (k : Int) := by omega
        obtain ⟨w9, hdel, m9, g9⟩ := run_del (P := Try.prog) Try.underlying88 Try.underlying3 hm k 0 3
        by_cases hsv : surv keep k = true
        · have NEW : Hid (FallIn w6 b cs.length keep zs (k + 1) wr) := Lib.hid ⟨L, hm, hnd, fun i => by
            rw [hL i]
            constructor
            · rintro ⟨h1, h2⟩
              refine ⟨h1, fun h3 => ?_⟩
              by_cases hik : i = k
              · rw [hik]; exact hsv
              · exact h2 (by omega)
            · rintro ⟨h1, h2⟩
              exact ⟨h1, fun h3 => h2 (by omega)⟩, hO⟩
          clear hm hnd hL hO HC bxr hdel m9 g9
          go_wp2_with fail
          refine (survives_any keep k _ (by omega)).mono ?_
          rintro e w10 ⟨rfl, rfl⟩
          rw [hsv]
          go_wp2
          go_roundw
          case rel => exact ⟨k + 1, by omega, by go_num, NEW⟩
          case measure => simp [intOf]; omega
        · have hsv2 : surv keep k = false := by simpa using hsv
          have NEW : Hid (FallIn w6 b cs.length keep zs (k + 1) w9) := Lib.hid ⟨L.erase k, m9, hnd.erase k, fun i => by
            rw [hnd.mem_erase_iff, hL i]
            constructor
            · rintro ⟨h0, h1, h2⟩
              exact ⟨h1, fun h3 => h2 (by omega)⟩
            · rintro ⟨h1, h2⟩
              exact ⟨fun h => hsv (h ▸ h2 (by omega)), h1, fun h3 => h2 (by omega)⟩, hO.trans (Only.of_grown g9 rfl)⟩
          clear hm hnd hL hO HC bxr m9 g9 hsv
          go_wp2_with fail
          refine (survives_any keep k _ (by omega)).mono ?_
          rintro e w10 ⟨rfl, rfl⟩
          rw [hsv2]
          go_wp2
          go_roundw
          case rel => exact ⟨k + 1, by omega, by go_num, NEW⟩
          case measure => simp [intOf]; omega
      · have e : k = cs.length := by omega
        obtain ⟨z0, z1, z2, z3, z4⟩ := box4 bxr.2.2
        obtain ⟨y0, y1, y2, y3, y4⟩ := box4 bxr.2.1
        have BXR := Lib.hid bxr
        have hOB := Lib.hid hO
        have hzr := hO.size
        have br : Below w2.heap.size w2 wr := B6.out.trans (hO.below (by omega) (fun x hx => by omega))
        have BR := Lib.hid br
        have MR := Lib.hid hm
        have LR : Hid (∀ i, i ∈ L ↔ surv keep i = true ∧ i < cs.length) := Lib.hid (fun i => by rw [hL i]; exact ⟨fun h => ⟨h.2 (by omega), h.1⟩, fun h => ⟨h.2, fun _ => h.1⟩⟩)
        clear hm hnd hL hO HC bxr br
        have H := Lib.hid (settle_ready (d := ⟨ss, cs, f, dn⟩) (lim := w1.heap.size) OK.out R0.out OL.out (fun x hx => ⟨(HT.out x hx).1.2, (HT.out x hx).2⟩) (by omega) hb6 BR.out MR.out (surv keep) LR.out A3 c3 f dn)
        dsimp only at H
        go_wp2_with fail
        refine H.out.mono ?_
        rintro e w7 ⟨ys, rfl, r7, o7, g7⟩
        have N7 : ∀ p, p < w2.heap.size → (w.heap.size + 2 ≤ p → w1.heap.size ≤ p) → w7.heap[p]? = wr.heap[p]? := fun p hp hq => g7.block p (by omega) (fun h => by
          rcases h with h | h
          · omega
          · have := HSS.out p h; omega)
        have hq7 := (N7 w1.heap.size (by omega) (by omega)).trans BXR.out.2.2
        have hp7 := (N7 (w.heap.size + 1) (by omega) (by omega)).trans BXR.out.2.1
        have OD := Lib.hid ((dev_join (f := f) (dn := dn) r7 o7 HT.out HSS.out).turn (f' := -1) (b' := false))
        have HB7 : Hid (Below w.heap.size w w7) := Lib.hid ((bstep HB2.out BR.out).trans (g7.below (by have := (bstep HB2.out BR.out).size; omega) (fun p hp => by
          rcases hp with hp | hp
          · have := HB2.out.size; omega
          · have := HSS.out p hp; omega)))
        clear z0 z1 z2 z3 z4 y0 y1 y2 y3 y4
        obtain ⟨z0, z1, z2, z3, z4⟩ := box4 hq7
        obtain ⟨y0, y1, y2, y3, y4⟩ := box4 hp7
        have u1 := Two.l (w.heap.size + 1) w1.heap.size
        have u2 := Two.r (w.heap.size + 1) w1.heap.size
        have hz7 := g7.size
        have HQ7 := Lib.hid hq7
        have HP7 := Lib.hid hp7
        clear N7 hq7 hp7 r7 o7 g7 R0 R1 OL HT HSS RZ B6 BX6 BR MR LR BXR HB2
        clear e hlt hbl hzr hb6 hz6 H REL hOB
        have Q8 : Hid (∀ a b c d, ((((w7.setCell ⟨w1.heap.size, 0, none⟩ a).setCell ⟨w1.heap.size, 1, none⟩ b).setCell ⟨w1.heap.size, 2, none⟩ c).setCell ⟨w1.heap.size, 3, none⟩ d).heap[w1.heap.size]? = some (.cells #[a, b, c, d] 27)) := Lib.hid (fun a b c d => box_set (box_set (box_set (box_set HQ7.out))))
        have R8 : Hid (∀ a b c d, ((((w7.setCell ⟨w1.heap.size, 0, none⟩ a).setCell ⟨w1.heap.size, 1, none⟩ b).setCell ⟨w1.heap.size, 2, none⟩ c).setCell ⟨w1.heap.size, 3, none⟩ d).heap[w.heap.size + 1]? = some (.cells #[.slice none 0 0, .slice none 0 0, .int .i64 0, .bool false] 27)) := Lib.hid (fun a b c d => box_far (box_far (box_far (box_far HP7.out (by omega)) (by omega)) (by omega)) (by omega))
        have P8 : Hid (∀ a b c d, Only (Two (w.heap.size + 1) w1.heap.size) w7 ((((w7.setCell ⟨w1.heap.size, 0, none⟩ a).setCell ⟨w1.heap.size, 1, none⟩ b).setCell ⟨w1.heap.size, 2, none⟩ c).setCell ⟨w1.heap.size, 3, none⟩ d)) := Lib.hid (fun a b c d => ((((Only.refl _ _).setCell u2 _).setCell u2 _).setCell u2 _).setCell u2 _)
        go_upto_region 12 with (fail)
        obtain ⟨w8, hw8⟩ : ∃ w8, w8 = ((((w7.setCell ⟨w1.heap.size, 0, none⟩ (.slice A2 ss.length c2)).setCell ⟨w1.heap.size, 1, none⟩ (.slice none 0 0)).setCell ⟨w1.heap.size, 2, none⟩ (.int .i64 f)).setCell ⟨w1.heap.size, 3, none⟩ (.bool dn)) := ⟨_, rfl⟩
        rw [← hw8]
        have q8 := hw8 ▸ Q8.out (.slice A2 ss.length c2) (.slice none 0 0) (.int .i64 f) (.bool dn)
        have r8 := hw8 ▸ R8.out (.slice A2 ss.length c2) (.slice none 0 0) (.int .i64 f) (.bool dn)
        have o8 := hw8 ▸ P8.out (.slice A2 ss.length c2) (.slice none 0 0) (.int .i64 f) (.bool dn)
        clear hw8 Q8 R8 P8 y0 y1 y2 y3 y4 z0 z1 z2 z3 z4 HQ7 HP7
        obtain ⟨z0, z1, z2, z3, z4⟩ := box4 q8
        have Q9 : Hid (∀ a b, ((w8.setCell ⟨w1.heap.size, 3, none⟩ a).setCell ⟨w1.heap.size, 2, none⟩ b).heap[w1.heap.size]? = some (.cells #[.slice A2 ss.length c2, .slice none 0 0, b, a] 27)) := Lib.hid (fun a b => box_set (box_set q8))
        have R9 : Hid (∀ a b, ((w8.setCell ⟨w1.heap.size, 3, none⟩ a).setCell ⟨w1.heap.size, 2, none⟩ b).heap[w.heap.size + 1]? = some (.cells #[.slice none 0 0, .slice none 0 0, .int .i64 0, .bool false] 27)) := Lib.hid (fun a b => box_far (box_far r8 (by omega)) (by omega))
        have P9 : Hid (∀ a b, Only (Two (w.heap.size + 1) w1.heap.size) w7 ((w8.setCell ⟨w1.heap.size, 3, none⟩ a).setCell ⟨w1.heap.size, 2, none⟩ b)) := Lib.hid (fun a b => (o8.setCell u2 _).setCell u2 _)
        clear q8 r8 o8
        go_upto_region 13 with (fail)
        obtain ⟨w9, hw9⟩ : ∃ w9, w9 = ((w8.setCell ⟨w1.heap.size, 3, none⟩ (.bool false)).setCell ⟨w1.heap.size, 2, none⟩ (.int .i64 (-1))) := ⟨_, rfl⟩
        rw [← hw9]
        have q9 := hw9 ▸ Q9.out (.bool false) (.int .i64 (-1))
        have r9 := hw9 ▸ R9.out (.bool false) (.int .i64 (-1))
        have o9 := hw9 ▸ P9.out (.bool false) (.int .i64 (-1))
        clear hw9 Q9 R9 P9 z0 z1 z2 z3 z4
        obtain ⟨z0, z1, z2, z3, z4⟩ := box4 q9
        obtain ⟨y0, y1, y2, y3, y4⟩ := box4 r9
        have O9 := Lib.hid o9
        clear q9 r9 o9
        go_wp2
        refine bodyPost_ret (v := .agg #[.slice A2 ss.length c2, .slice none 0 0, .int .i64 (-1), .bool false]) (by simp [results, Try.results27, go_sem, *]) rfl ⟨_, rfl, ?_, ?_⟩
        · rw [fallD_yes OK.out]
          exact (OD.out.far ((((O9.out.setCell u1 _).setCell u1 _).setCell u1 _).setCell u1 _) (fun b hb _ hb' => by have := hb.1; have := hb.2; rcases hb' with rfl | rfl <;> omega)).mono (fun b hb => by have := hb.1; omega)
        · exact HB7.out.trans (((((O9.out.setCell u1 _).setCell u1 _).setCell u1 _).setCell u1 _).below HB7.out.size (fun b hb => by rcases hb with rfl | rfl <;> omega))
  · have hok2 : okD ⟨ss, cs, f, dn⟩ = false := by simpa using hok
    rw [hok2]
    have OK := Lib.hid hok
    clear hok hok2
    go_wp2
    refine bodyPost_ret (v := .agg #[.slice A2 ss.length c2, .slice A3 cs.length c3, .int .i64 f, .bool dn]) (by simp [results, Try.results27, go_sem, *]) rfl ⟨_, rfl, ?_, ?_⟩
    · rw [fallD_no OK.out]; exact (O2.out.mono (fun b hb => hb.1)).past (a := w.heap.size) (b := w.heap.size + 2) (((((Only.refl _ _).setCell m1 _).setCell m1 _).setCell m1 _).setCell m1 _) (by omega)
    · exact bpast (b := w.heap.size + 2) HB2.out (((((Only.refl _ _).setCell m1 _).setCell m1 _).setCell m1 _).setCell m1 _)
end Go.Proofs.Ytmeiobpeacdfjaa
