/- Contracts for MapResize of both sides. Conditions: at most 1100000 Maps, letters and blocks. -/
import Derived.Test.YtcimpcocgmlmoaaMapDoW
namespace Go.Proofs.Ytcimpcocgmlmoaa
open Go.RowKit
set_option maxRecDepth 100000
set_option linter.unusedSimpArgs false
set_option linter.unusedVariables false

set_option maxHeartbeats 4000000 in
theorem implMapResize_any {t : TypeId} (va : Value) (l : List MapD) (w : World) (hv : Reads w w.heap.size va (mapsT t l)) (hs : SmallM l) (s : ByteArray) (n : Int) (hz : s.size ≤ maxLen) : Calls Try.prog 33 #[va, .string s, .int .i64 n] w (NewMC w (resizeM s n l)) := by
  have HC := Lib.hid (fun (W : World) (b : Below w.heap.size w W) => copyMapsX_any _ l W (hv.on b) hs)
  have HN := Lib.hid (fun (W : World) (b : Below w.heap.size w W) => writableMap_any _ l W (hv.on b) hs s hz)
  have hln : l.length ≤ 1100000 := hs.1
  have BB := Lib.hid (Below.refl w.heap.size w)
  have HR0 : Hid (resizeM s n l = if wcodeM s l = 0 then (if sizeMB n then (l.set (mapJ s l) { mapD l s with l := resK (mapD l s).l n.toNat }, 0) else (l, 4)) else (l, wcodeM s l)) := Lib.hid rfl
  obtain ⟨R, hR⟩ : ∃ R, resizeM s n l = R := ⟨_, rfl⟩
  rw [hR] at HR0 ⊢
  clear hR
  by_cases h0 : wcodeM s l = 0
  · obtain ⟨h1, h3, hK, hJ⟩ := wcodeM_zero h0
    obtain ⟨A, c, rfl, _, _⟩ := Reads.lenN hv
    obtain ⟨p, off, rfl, hbb, hc⟩ := hv.maps hJ
    obtain ⟨A1, d1, hf, _, _, r1⟩ := hc _ hJ
    rw [h0, if_pos rfl, hK] at HN
    rw [if_pos h0, mapD_at hJ] at HR0
    rw [mapD_at hJ] at h3
    have HFX := Lib.hid h3
    have HF := Lib.hid hf
    have R1 := Lib.hid r1
    have hlj := (hs.at hJ).2
    have HX : Hid (∃ x, l[mapJ s l] = x) := Lib.hid ⟨_, rfl⟩
    generalize mapJ s l = J at *
    have i1 : (J : Int) < (l.length : Int) := by omega
    have i2 : (0 : Int) ≤ (J : Int) := by omega
    clear hv hc hf r1 h1 h3 h0 hK HX
    have HW := Lib.hid (fun (W : World) => sameB (sizeOkM_any n W))
    cases h7 : sizeMB n
    · rw [h7] at HW
      have HR : Hid (R = (l, 4)) := Lib.hid (by rw [HR0.out, h7]; simp)
      clear HR0 h7
      go_enter Try.func33, Try.ntmps33
      go_wp2_with fail
      refine (HC.out _ BB.out).mono ?_
      rintro r w1 ⟨us, rfl, o1, b1⟩
      have CP := Lib.hid (o1.c hln)
      replace BB := Lib.hid (bstep BB.out b1)
      clear o1 b1
      go_wp2_with fail
      refine (HN.out _ BB.out).mono ?_
      rintro r w2 ⟨rfl, b2⟩
      replace BB := Lib.hid (bstep BB.out b2)
      replace CP := Lib.hid (CP.out.on b2)
      have hzz := BB.out.size
      clear b2
      obtain ⟨c0, c1, c2⟩ := HF.out.on hbb BB.out
      rw [HFX.out] at c1
      go_wp2_with fail
      refine (HW.out _).mono ?_
      rintro r w4 ⟨rfl, b4⟩
      replace BB := Lib.hid (bstep BB.out b4)
      replace CP := Lib.hid (CP.out.on b4)
      clear b4
      go_wp2
      go_ret2
      exact ⟨_, by rw [HR.out] <;> rfl, by rw [HR.out]; exact CP.out.owns.mono (fun b hb => by omega), BB.out⟩
    · rw [h7] at HW
      have h4 : 1 ≤ n ∧ n ≤ 12 := by unfold sizeMB at h7; rw [Bool.and_eq_true] at h7; exact ⟨of_decide_eq_true h7.1, of_decide_eq_true h7.2⟩
      obtain ⟨q, rfl⟩ : ∃ q : Nat, n = (q : Int) := ⟨n.toNat, by omega⟩
      have hq : q ≤ 12 := by omega
      have HR : Hid (R = (l.set J { l[J] with l := resK (l[J]).l q }, 0)) := Lib.hid (by rw [HR0.out, h7, Int.toNat_natCast]; simp)
      clear HR0 h7 h4
      go_enter Try.func33, Try.ntmps33
      go_wp2_with fail
      refine (HC.out _ BB.out).mono ?_
      rintro r w1 ⟨us, rfl, o1, b1⟩
      have CP := Lib.hid (o1.c hln)
      replace BB := Lib.hid (bstep BB.out b1)
      clear o1 b1
      go_wp2_with fail
      refine (HN.out _ BB.out).mono ?_
      rintro r w2 ⟨rfl, b2⟩
      replace BB := Lib.hid (bstep BB.out b2)
      replace CP := Lib.hid (CP.out.on b2)
      have hzz := BB.out.size
      clear b2
      obtain ⟨c0, c1, c2⟩ := HF.out.on hbb BB.out
      rw [HFX.out] at c1
      go_wp2_with fail
      refine (HW.out _).mono ?_
      rintro r w4 ⟨rfl, b4⟩
      replace BB := Lib.hid (bstep BB.out b4)
      replace CP := Lib.hid (CP.out.on b4)
      clear b4
      clear c0 c1 c2
      obtain ⟨c0, c1, c2⟩ := HF.out.on hbb BB.out
      go_wp2_with fail
      refine (resized_any _ (l[J]).l q _ (R1.out.on BB.out) hlj (by omega)).mono ?_
      rintro r w5 ⟨u5, rfl, o5, b5⟩
      obtain ⟨A5, c5, e5, _, _⟩ := o5.reads.lenN
      subst e5
      have hst := CP.out.setL b5 hJ o5
      have HST := Lib.hid hst
      obtain ⟨A6, c6, -, e6, e7⟩ := (CP.out.on b5).cell hJ
      have e8 := e7 (J * 3 + 2)
      have hgb := CP.out.2.2.1
      have HB := Lib.hid ((bstep BB.out b5).setCell (p := ⟨_, J * 3 + 2, none⟩) (show w.heap.size ≤ _ from Nat.le_trans (by omega) hgb) (.slice A5 (resK (l[J]).l q).length c5))
      rw [resK_len] at HST HB ⊢
      clear hst CP o5 b5 c0 c1 c2 e7
      go_wp2
      go_ret2
      exact ⟨_, by rw [HR.out] <;> rfl, by rw [HR.out]; exact HST.out.mono (fun b hb => by omega), HB.out⟩
  · rw [if_neg h0] at HN HR0
    generalize wcodeM s l = C at *
    have d1 : (C != 0) = true := by simp [h0]
    have HR := Lib.hid HR0.out
    obtain ⟨A, c, rfl, _, _⟩ := Reads.lenN hv
    clear hv HR0
    go_enter Try.func33, Try.ntmps33
    go_wp2_with fail
    refine (HC.out _ BB.out).mono ?_
    rintro r w1 ⟨us, rfl, o1, b1⟩
    have CP := Lib.hid (o1.c hln)
    replace BB := Lib.hid (bstep BB.out b1)
    clear o1 b1
    go_wp2_with fail
    refine (HN.out _ BB.out).mono ?_
    rintro r w2 ⟨rfl, b2⟩
    replace BB := Lib.hid (bstep BB.out b2)
    replace CP := Lib.hid (CP.out.on b2)
    have hzz := BB.out.size
    clear b2
    go_wp2
    go_ret2
    exact ⟨_, by rw [HR.out] <;> rfl, by rw [HR.out]; exact CP.out.owns.mono (fun b hb => by omega), BB.out⟩
set_option maxHeartbeats 4000000 in
theorem specMapResize_any {t : TypeId} (va : Value) (l : List MapD) (w : World) (hv : Reads w w.heap.size va (mapsT t l)) (hs : SmallM l) (s : ByteArray) (n : Int) (hz : s.size ≤ maxLen) : Calls Try.prog 32 #[va, .string s, .int .i64 n] w (NewMC w (resizeM s n l)) := by
  have HC := Lib.hid (fun (W : World) (b : Below w.heap.size w W) => l12Copy_any _ l W (hv.on b) hs)
  have HN := Lib.hid (fun (W : World) (b : Below w.heap.size w W) => l12Code_any _ l W (hv.on b) hs s hz)
  have HA := Lib.hid (fun (W : World) (b : Below w.heap.size w W) => specMapAt_any _ l s W (hv.on b) hs)
  have hln : l.length ≤ 1100000 := hs.1
  have BB := Lib.hid (Below.refl w.heap.size w)
  have HR0 : Hid (resizeM s n l = if wcodeM s l = 0 then (if sizeMB n then (l.set (mapJ s l) { mapD l s with l := resK (mapD l s).l n.toNat }, 0) else (l, 4)) else (l, wcodeM s l)) := Lib.hid rfl
  obtain ⟨R, hR⟩ : ∃ R, resizeM s n l = R := ⟨_, rfl⟩
  rw [hR] at HR0 ⊢
  clear hR
  by_cases h0 : wcodeM s l = 0
  · obtain ⟨h1, h3, hK, hJ⟩ := wcodeM_zero h0
    obtain ⟨A, c, rfl, _, _⟩ := Reads.lenN hv
    obtain ⟨p, off, rfl, hbb, hc⟩ := hv.maps hJ
    obtain ⟨A1, d1, hf, _, _, r1⟩ := hc _ hJ
    rw [h1] at HN
    rw [hK] at HA
    rw [if_pos h0, mapD_at hJ] at HR0
    rw [mapD_at hJ] at h3
    have HFX := Lib.hid h3
    have HF := Lib.hid hf
    have R1 := Lib.hid r1
    have hlj := (hs.at hJ).2
    have HX : Hid (∃ x, l[mapJ s l] = x) := Lib.hid ⟨_, rfl⟩
    generalize mapJ s l = J at *
    have i1 : (J : Int) < (l.length : Int) := by omega
    have i2 : (0 : Int) ≤ (J : Int) := by omega
    clear hv hc hf r1 h1 h3 h0 hK HX
    have HW := Lib.hid (fun (W : World) => sameB (show Calls Try.prog 35 #[.int .i64 n, .int .i64 1, .int .i64 12] W (fun e w' => e = .returned (.bool (sizeMB n)) ∧ W = w') from l1InC_any n 1 12 W))
    cases h7 : sizeMB n
    · rw [h7] at HW
      have HR : Hid (R = (l, 4)) := Lib.hid (by rw [HR0.out, h7]; simp)
      clear HR0 h7
      go_enter Try.func32, Try.ntmps32
      go_wp2_with fail
      refine (HC.out _ BB.out).mono ?_
      rintro r w1 ⟨v1, rfl, o1, b1⟩
      obtain ⟨g, cap, us, rfl, hcp⟩ := CpC.of o1 (show 0 < l.length by omega)
      have CP := Lib.hid hcp
      replace BB := Lib.hid (bstep BB.out b1)
      clear o1 b1 hcp
      go_wp2_with fail
      refine (HN.out _ BB.out).mono ?_
      rintro r w2 ⟨rfl, b2⟩
      replace BB := Lib.hid (bstep BB.out b2)
      replace CP := Lib.hid (CP.out.on b2)
      clear b2
      go_wp2_with fail
      refine (HA.out _ BB.out).mono ?_
      rintro r w3 ⟨rfl, b3⟩
      replace BB := Lib.hid (bstep BB.out b3)
      replace CP := Lib.hid (CP.out.on b3)
      have hzz := BB.out.size
      clear b3
      obtain ⟨c0, c1, c2⟩ := HF.out.on hbb BB.out
      rw [HFX.out] at c1
      go_wp2_with fail
      refine (HW.out _).mono ?_
      rintro r w4 ⟨rfl, b4⟩
      replace BB := Lib.hid (bstep BB.out b4)
      replace CP := Lib.hid (CP.out.on b4)
      clear b4
      go_wp2
      go_ret2
      exact ⟨_, by rw [HR.out] <;> rfl, by rw [HR.out]; exact CP.out.owns.mono (fun b hb => by omega), BB.out⟩
    · rw [h7] at HW
      have h4 : 1 ≤ n ∧ n ≤ 12 := by unfold sizeMB at h7; rw [Bool.and_eq_true] at h7; exact ⟨of_decide_eq_true h7.1, of_decide_eq_true h7.2⟩
      obtain ⟨q, rfl⟩ : ∃ q : Nat, n = (q : Int) := ⟨n.toNat, by omega⟩
      have hq : q ≤ 12 := by omega
      have HR : Hid (R = (l.set J { l[J] with l := resK (l[J]).l q }, 0)) := Lib.hid (by rw [HR0.out, h7, Int.toNat_natCast]; simp)
      clear HR0 h7 h4
      go_enter Try.func32, Try.ntmps32
      go_wp2_with fail
      refine (HC.out _ BB.out).mono ?_
      rintro r w1 ⟨v1, rfl, o1, b1⟩
      obtain ⟨g, cap, us, rfl, hcp⟩ := CpC.of o1 (show 0 < l.length by omega)
      have CP := Lib.hid hcp
      replace BB := Lib.hid (bstep BB.out b1)
      clear o1 b1 hcp
      go_wp2_with fail
      refine (HN.out _ BB.out).mono ?_
      rintro r w2 ⟨rfl, b2⟩
      replace BB := Lib.hid (bstep BB.out b2)
      replace CP := Lib.hid (CP.out.on b2)
      clear b2
      go_wp2_with fail
      refine (HA.out _ BB.out).mono ?_
      rintro r w3 ⟨rfl, b3⟩
      replace BB := Lib.hid (bstep BB.out b3)
      replace CP := Lib.hid (CP.out.on b3)
      have hzz := BB.out.size
      clear b3
      obtain ⟨c0, c1, c2⟩ := HF.out.on hbb BB.out
      rw [HFX.out] at c1
      go_wp2_with fail
      refine (HW.out _).mono ?_
      rintro r w4 ⟨rfl, b4⟩
      replace BB := Lib.hid (bstep BB.out b4)
      replace CP := Lib.hid (CP.out.on b4)
      clear b4
      clear c0 c1 c2
      have rl0 := RowI.lit w4
      obtain ⟨c0, c1, c2⟩ := HF.out.on hbb (bstep BB.out (bal1 w4 (.cells #[] 3)))
      have hgb := CP.out.2.2.1
      have hz4 := BB.out.size
      have HL : Hid (RowI (w4.alloc (.cells #[] 3)) w4.heap.size (.slice (some ⟨w4.heap.size, 0, none⟩) 0 0) (resK (l[J]).l 0)) := Lib.hid (by have h := rl0; simpa [resK] using h)
      have HB4 := Lib.hid (bal1 w4 (.cells #[] 3))
      clear rl0 c0 c1 c2
      go_wp2
      go_loopw [11, 12, 13] (fun m i _ wr => ∃ (k : Nat), k ≤ q ∧ i = .int .i64 k ∧ Hid (RowI wr w4.heap.size m (resK (l[J]).l k)) ∧ Hid (Below w4.heap.size w4 wr)) (fun _ i _ _ => q - (intOf i).toNat)
      case atStart => exact ⟨0, Nat.zero_le _, rfl, HL, HB4⟩
      case round =>
        clear HL HB4
        obtain ⟨k, hk, rfl, HL, HB4⟩ := hrel
        obtain ⟨Am, cm, ham, _, _⟩ := HL.out.shape
        subst ham
        have hrl := resK_len (l[J]).l k
        have hz5 := HB4.out.size
        by_cases hlt : k < q
        · obtain ⟨c0, c1, c2⟩ := HF.out.on hbb (bstep BB.out HB4.out)
          have k1 : (k : Int) < (q : Int) := by omega
          by_cases hkl : k < (l[J]).l.length
          · obtain ⟨pb, po, ea, hpb, hcc⟩ := (R1.out.on (bstep BB.out HB4.out)).int hkl
            have k2 : (k : Int) < ((l[J]).l.length : Int) := by omega
            have k3 : (0 : Int) ≤ (k : Int) := by omega
            have cc := hcc k hkl
            unfold iV at cc
            subst ea
            have HE : Hid (resK (l[J]).l (k + 1) = resK (l[J]).l k ++ [(l[J]).l[k]]) := Lib.hid (by unfold resK; rw [List.take_succ_eq_append_getElem hkl, show k + 1 - (l[J]).l.length = 0 by omega, show k - (l[J]).l.length = 0 by omega]; simp)
            have HAT := Lib.hid (At.intOne wr (l[J]).l[k] 3)
            have hra := HL.out.on (bal1 wr (.cells #[.int .i64 (l[J]).l[k]] 3))
            have hzc : w4.heap.size ≤ (wr.alloc (.cells #[.int .i64 (l[J]).l[k]] 3)).heap.size := by simp; omega
            clear hcc
            rw [hrl] at hra ⊢
            go_wp2_with (first | (at_builtin; refine wpList_appI _ rfl (.tmp 61) (.tmp 63) rfl w4.heap.size _ (resK (l[J]).l k) rfl hra _ 1 1 [(l[J]).l[k]] rfl rfl HAT.out (by simp; omega) hzc ?_; intro v8 w8 o8 b8) | fail)
            have O8 := Lib.hid o8
            have B8 := Lib.hid ((HB4.out.alloc HB4.out.size _).trans b8)
            clear o8 b8 hra
            go_wp2
            go_roundw
            case rel => exact ⟨k + 1, by omega, by go_num, by rw [HE.out]; exact O8, B8⟩
            case measure => simp [intOf]; omega
          · have k2 : ¬ (k : Int) < ((l[J]).l.length : Int) := by omega
            have HE : Hid (resK (l[J]).l (k + 1) = resK (l[J]).l k ++ [0]) := Lib.hid (by unfold resK; rw [List.take_of_length_le (by omega), List.take_of_length_le (by omega), show k + 1 - (l[J]).l.length = (k - (l[J]).l.length) + 1 by omega, List.replicate_succ', List.append_assoc])
            have HAT := Lib.hid (At.intOne wr 0 3)
            have hra := HL.out.on (bal1 wr (.cells #[.int .i64 0] 3))
            have hzc : w4.heap.size ≤ (wr.alloc (.cells #[.int .i64 0] 3)).heap.size := by simp; omega
            rw [hrl] at hra ⊢
            go_wp2_with (first | (at_builtin; refine wpList_appI _ rfl (.tmp 61) (.tmp 63) rfl w4.heap.size _ (resK (l[J]).l k) rfl hra _ 1 1 [0] rfl rfl HAT.out (by simp; omega) hzc ?_; intro v8 w8 o8 b8) | fail)
            have O8 := Lib.hid o8
            have B8 := Lib.hid ((HB4.out.alloc HB4.out.size _).trans b8)
            clear o8 b8 hra
            go_wp2
            go_roundw
            case rel => exact ⟨k + 1, by omega, by go_num, by rw [HE.out]; exact O8, B8⟩
            case measure => simp [intOf]; omega
        · have e : k = q := by omega
          subst e
          have k1 : ¬ (k : Int) < (k : Int) := by omega
          have hst := CP.out.setL HB4.out hJ HL.out.owns
          have HST := Lib.hid hst
          obtain ⟨A6, c6, -, e6, e7⟩ := (CP.out.on HB4.out).cell hJ
          have e8 := e7 (J * 3 + 2)
          have HB := Lib.hid ((bstep BB.out HB4.out).setCell (p := ⟨_, J * 3 + 2, none⟩) (show w.heap.size ≤ _ from Nat.le_trans (by omega) hgb) (.slice Am (resK (l[J]).l k).length cm))
          rw [hrl] at HST HB ⊢
          clear hst e7
          go_wp2
          go_ret2
          exact ⟨_, by rw [HR.out] <;> rfl, by rw [HR.out]; exact HST.out.mono (fun b hb => by omega), HB.out⟩
  · rw [if_neg h0] at HR0
    rcases wcodeM_cases s l with ⟨h1, h2⟩ | ⟨h1, h3, h2⟩ | ⟨_, _, h2⟩
    · rw [h2] at HR0
      obtain ⟨A, c, rfl, _, _⟩ := Reads.lenN hv
      generalize codeM s l = C at *
      generalize mapK s l = K at *
      have d1 : (C != 0) = true := by simp [h1]
      have HR := Lib.hid HR0.out
      clear hv HR0 h0 h2
      go_enter Try.func32, Try.ntmps32
      go_wp2_with fail
      refine (HC.out _ BB.out).mono ?_
      rintro r w1 ⟨vC, rfl, o, b⟩
      have zC := b.size
      replace BB := Lib.hid (bstep BB.out b)
      have OC := Lib.hid o.ownR
      clear o b
      go_wp2_with fail
      refine (HN.out _ BB.out).mono ?_
      rintro r w2 ⟨rfl, b⟩
      have z2 := b.size
      replace OC := Lib.hid (OC.out.on b)
      replace BB := Lib.hid (bstep BB.out b)
      clear b
      go_wp2_with fail
      refine (HA.out _ BB.out).mono ?_
      rintro r w3 ⟨rfl, b⟩
      have z3 := b.size
      replace OC := Lib.hid (OC.out.on b)
      replace BB := Lib.hid (bstep BB.out b)
      clear b
      go_wp2
      go_ret2
      exact ⟨_, by rw [HR.out] <;> rfl, by rw [HR.out]; exact OC.out.mono (fun b hb => by omega), BB.out⟩
    · rw [h2] at HR0
      obtain ⟨hK, hJ⟩ := codeM_zero h1
      obtain ⟨A, c, rfl, _, _⟩ := Reads.lenN hv
      obtain ⟨p, off, rfl, hbb, hc⟩ := hv.maps hJ
      obtain ⟨A1, d1, hf, _, _, r1⟩ := hc _ hJ
      rw [h1] at HN
      rw [hK] at HA
      rw [mapD_at hJ] at h3
      have HFX := Lib.hid h3
      have HF := Lib.hid hf
      generalize mapJ s l = J at *
      have i1 : (J : Int) < (l.length : Int) := by omega
      have i2 : (0 : Int) ≤ (J : Int) := by omega
      have HR := Lib.hid HR0.out
      clear hv HR0 h0 h2 hc hf r1 h1 h3 hK
      go_enter Try.func32, Try.ntmps32
      go_wp2_with fail
      refine (HC.out _ BB.out).mono ?_
      rintro r w1 ⟨vC, rfl, o, b⟩
      have zC := b.size
      replace BB := Lib.hid (bstep BB.out b)
      have OC := Lib.hid o.ownR
      clear o b
      go_wp2_with fail
      refine (HN.out _ BB.out).mono ?_
      rintro r w2 ⟨rfl, b⟩
      have z2 := b.size
      replace OC := Lib.hid (OC.out.on b)
      replace BB := Lib.hid (bstep BB.out b)
      clear b
      go_wp2_with fail
      refine (HA.out _ BB.out).mono ?_
      rintro r w3 ⟨rfl, b⟩
      have z3 := b.size
      replace OC := Lib.hid (OC.out.on b)
      replace BB := Lib.hid (bstep BB.out b)
      clear b
      obtain ⟨c0, c1, c2⟩ := HF.out.on hbb BB.out
      rw [HFX.out] at c1
      go_wp2
      go_ret2
      exact ⟨_, by rw [HR.out] <;> rfl, by rw [HR.out]; exact OC.out.mono (fun b hb => by omega), BB.out⟩
    · exact absurd h2 h0
end Go.Proofs.Ytcimpcocgmlmoaa
