/- Several texts in one: Sights. -/
import Derived.Test.YthopkhpiikiknaaPkSG
namespace Go.Proofs.Ythopkhpiikiknaa
open Go.RowKit
set_option maxRecDepth 100000
set_option linter.unusedSimpArgs false
set_option linter.unusedVariables false

theorem sight_ok {p d : Int} (h1 : 0 ≤ p ∧ p ≤ 11) (h2 : 1 ≤ d ∧ d ≤ 8) : okK ⟨p, d, 0, 0, 0⟩ = true := by
  unfold okK keyOkB
  rw [decide_eq_true h1.1, decide_eq_true (show p ≤ 15 by omega), decide_eq_true h2.1, decide_eq_true (show d ≤ 60 by omega)]
  rfl
theorem beq_comm2 (a b : Int) : (a == b) = (b == a) := by
  rw [Bool.eq_iff_iff]
  simp
  exact eq_comm
/-- What FnSights asks, of the answers alone. -/
theorem sight_all {lo : List Int} {ts : List NodeD} {l : List AgeD} {p d : Int} (hok : treeOkB lo ts = true) (hvp : VP l) (hp : 0 ≤ p ∧ p ≤ 11) (hd : 1 ≤ d ∧ d ≤ 8) {F G O : Option KeyD}
    (hF : nearK (keysOfK ts p) (pathK l d) = F) (hG : nearK (keysOfK ts p) (pathK l d).tail = G) (hO : treeAtK lo ts p d = O) :
    (F = none → G = none ∧ (O.isSome = true → hasG l d = false) ∧ ∀ y ∈ keysOfK ts p, fromB l y.b d = false) ∧
    (∀ x, F = some x → x.a = p ∧ fromB l x.b d = true ∧ hasG l d = true ∧ (∀ y ∈ keysOfK ts p, fromB l y.b d = true → decide (x.b < y.b) = false) ∧
      (∀ u, O = some u → x = u ∧ ∀ v, G = some v → v.b < d) ∧ (O = none → G = some x)) := by
  obtain ⟨ha, hk⟩ := tree_asc hok
  have hat : treeAtK lo ts p d = atK (treeKeysK ts) p d := tree_at (x := ⟨p, d, 0, 0, 0⟩) hok (sight_ok hp hd)
  rw [hat] at hO
  have hself : hasG l d = true → d ∈ pathK l d := fun hh => path_self hvp hh
  refine ⟨fun h0 => ?_, fun x hx => ?_⟩
  · rw [h0] at hF
    have hn := near_none hF
    refine ⟨?_, fun ho => ?_, fun y hy => decide_eq_false (hn y hy)⟩
    · rw [← hG]
      exact near_not (fun k hk2 hm => hn k hk2 (List.mem_of_mem_tail hm))
    · cases hh : hasG l d
      · rfl
      · cases O with
        | none => cases ho
        | some u =>
          obtain ⟨h1, h2, _⟩ := sight_own ha hO
          exact absurd (by rw [h2]; exact hself hh) (hn u h1)
  · rw [hx] at hF
    obtain ⟨h1, h2, h3⟩ := near_some hF
    have hh : hasG l d = true := by
      cases hh : hasG l d
      · rw [path_no hh] at h2
        simp at h2
      · rfl
    refine ⟨(keysOf_mem.1 h1).2, decide_eq_true h2, hh, fun y hy hm => decide_eq_false (by have := h3 y hy (of_decide_eq_true hm); omega), fun u hu => ?_, fun h0 => ?_⟩
    · rw [hu] at hO
      obtain ⟨u1, u2, u3⟩ := sight_own ha hO
      have hub : u.b ≤ x.b := h3 u u1 (by rw [u2]; exact hself hh)
      have hxb : x.b ≤ d := path_le hvp h2
      refine ⟨u3 x h1 (by omega), fun v hv => ?_⟩
      rw [hv] at hG
      obtain ⟨_, v2, _⟩ := near_some hG
      exact sight_tail hvp v2
    · rw [h0] at hO
      have hno := sight_no hO
      rw [← hF, ← hG]
      refine (near_congr (fun y hy => ?_)).symm
      rw [sight_split hvp]
      constructor
      · rintro (⟨e, _⟩ | h)
        · exact absurd e (hno y hy)
        · exact h
      · exact fun h => .inr h
theorem pathS_vp {l : List AgeD} (h : VP l) (d : Int) : pathSK l d = pathK l d := pathS_eq h _ d
set_option maxHeartbeats 20000000 in
theorem sights_walk (a0 : Option Addr) (len0 cap0 : Nat) (z0 : List Int) (w : World) (w0 : CameIn .u8 w a0 len0 cap0 z0) :
    Calls Try.prog 3 #[.slice a0 len0 cap0] w fun e w' => e = .returned (.bool true) ∧ Below w.heap.size w w' := by
  obtain ⟨cd, rfl, hr⟩ := w0.rd
  clear w0
  by_cases hbig : cd.length ≤ 1048576
  · have d0 : decide ((1048576 : Int) < (cd.length : Int)) = false := decide_eq_false (by omega)
    have HDS := Lib.hid (drawSight_any a0 cap0 cd w hr hbig)
    have HSN := Lib.hid implSeen_any
    have HSA := Lib.hid implSeenAbove_any
    have HAT := Lib.hid implTreeAt_any
    have HSS := Lib.hid specSeen_any
    have HSEE := Lib.hid implSees_any
    unfold SaysFind KeyD.v keyV at HSN HSA HAT HSS
    unfold KeyD.v keyV at HSEE
    unfold DSight at HDS
    clear hr
    go_enter Try.func3, Try.ntmps3
    go_wp2_with fail
    refine (big_any _ _ _ _).mono ?_
    rintro r w1 ⟨rfl, rfl⟩
    rw [d0]
    clear d0
    go_wp2_with fail
    refine HDS.out.mono ?_
    rintro r w1 ⟨vl, vn, lo, ts, va, l, p, d, rfl, oT, hok, oL, gl, hl7, hp, hd, bd⟩
    obtain ⟨A, c, A', c', rfl, rfl⟩ := oT.reads.shape
    obtain ⟨Aa, ca, rfl, _, _⟩ := oL.shape
    have hvp := ok_vp gl.1
    obtain ⟨hs1, hs2, hs3⟩ := treeP_small hok
    have hsm : SmallT lo ts := ⟨by omega, by omega, by omega⟩
    obtain ⟨F, hF⟩ : ∃ F, nearK (keysOfK ts p) (pathK l d) = F := ⟨_, rfl⟩
    obtain ⟨G, hG⟩ : ∃ G, nearK (keysOfK ts p) (pathK l d).tail = G := ⟨_, rfl⟩
    obtain ⟨O, hO⟩ : ∃ O, treeAtK lo ts p d = O := ⟨_, rfl⟩
    have HALL := Lib.hid (sight_all hok hvp hp hd hF hG hO)
    have hF2 : nearK (keysOfK ts p) (pathSK l d) = F := by rw [pathS_vp hvp]; exact hF
    have hnl := ageAt_neg l d
    have hgq := ageAt_geq l d
    have hkl := keysOf_len ts p
    have hmem : ∀ y ∈ keysOfK ts p, y.a = p := fun y hy => (keysOf_mem.1 hy).2
    obtain ⟨KK, hKK⟩ : ∃ KK, keysOfK ts p = KK := ⟨_, rfl⟩
    rw [hKK] at HALL hkl hmem
    have HF := Lib.hid hF
    have HG := Lib.hid hG
    have HO := Lib.hid hO
    have HF2 := Lib.hid hF2
    have HKK := Lib.hid hKK
    have HMEM := Lib.hid hmem
    have HSM := Lib.hid hsm
    have HNL := Lib.hid hnl
    have HGQ := Lib.hid hgq
    have ba := bal1 w1 (.cells #[.slice A lo.length c, .slice A' ts.length c'] 27)
    have QT := Lib.hid (al1 w1 (.cells #[.slice A lo.length c, .slice A' ts.length c'] 27))
    have RT := Lib.hid (oT.reads.on ba)
    have RL := Lib.hid (oL.owns.reads.on ba)
    have BB := Lib.hid (bstep bd ba)
    clear oT oL bd ba gl hvp hok hF hG hO hF2 hKK hmem hsm hnl hgq HDS
    go_upto_region 4 with (fail)
    generalize w1.alloc (.cells #[.slice A lo.length c, .slice A' ts.length c'] 27) = W at *
    obtain ⟨kx, hkx⟩ : ∃ kx, F.getD zK = kx := ⟨_, rfl⟩
    obtain ⟨ky, hky⟩ : ∃ ky, F.isSome = ky := ⟨_, rfl⟩
    obtain ⟨ax, hax⟩ : ∃ ax, G.getD zK = ax := ⟨_, rfl⟩
    obtain ⟨ay, hay⟩ : ∃ ay, G.isSome = ay := ⟨_, rfl⟩
    obtain ⟨ox, hox⟩ : ∃ ox, O.getD zK = ox := ⟨_, rfl⟩
    obtain ⟨oy, hoy⟩ : ∃ oy, O.isSome = oy := ⟨_, rfl⟩
    have HKX := Lib.hid hkx
    have HKY := Lib.hid hky
    have HAX := Lib.hid hax
    have HAY := Lib.hid hay
    have HOX := Lib.hid hox
    have HOY := Lib.hid hoy
    clear hkx hky hax hay hox hoy
    obtain ⟨t0, t1, t2⟩ := box2 QT.out
    go_wp2_with fail
    refine (HSN.out _ _ _ lo ts l p d _ RT.out RL.out (by omega) (by omega) (by omega)).mono ?_
    rintro r w2 ⟨rfl, b2⟩
    rw [HF.out, HKX.out, HKY.out]
    have ba := bstep b2 (bal1 w2 (.cells #[.int .i64 kx.a, .int .i64 kx.b, .int .i64 kx.c, .int .i64 kx.d, .int .i64 kx.e] 32))
    have QK := Lib.hid (al1 w2 (.cells #[.int .i64 kx.a, .int .i64 kx.b, .int .i64 kx.c, .int .i64 kx.d, .int .i64 kx.e] 32))
    replace QT := Lib.hid (box_on QT.out ba)
    replace RT := Lib.hid (RT.out.on ba)
    replace RL := Lib.hid (RL.out.on ba)
    replace BB := Lib.hid (bstep BB.out ba)
    clear b2 ba t0 t1 t2
    go_upto_region 5 with (fail)
    generalize w2.alloc (.cells #[.int .i64 kx.a, .int .i64 kx.b, .int .i64 kx.c, .int .i64 kx.d, .int .i64 kx.e] 32) = W2 at *
    obtain ⟨t0, t1, t2⟩ := box2 QT.out
    go_wp2_with fail
    refine (HSA.out _ _ _ lo ts l p d _ RT.out RL.out (by omega) (by omega) (by omega)).mono ?_
    rintro r w2 ⟨rfl, b2⟩
    rw [HG.out, HAX.out, HAY.out]
    have ba := bstep b2 (bal1 w2 (.cells #[.int .i64 ax.a, .int .i64 ax.b, .int .i64 ax.c, .int .i64 ax.d, .int .i64 ax.e] 32))
    have QA := Lib.hid (al1 w2 (.cells #[.int .i64 ax.a, .int .i64 ax.b, .int .i64 ax.c, .int .i64 ax.d, .int .i64 ax.e] 32))
    replace QT := Lib.hid (box_on QT.out ba)
    replace RT := Lib.hid (RT.out.on ba)
    replace RL := Lib.hid (RL.out.on ba)
    replace BB := Lib.hid (bstep BB.out ba)
    replace QK := Lib.hid (box_on QK.out ba)
    clear b2 ba t0 t1 t2
    go_upto_region 6 with (fail)
    generalize w2.alloc (.cells #[.int .i64 ax.a, .int .i64 ax.b, .int .i64 ax.c, .int .i64 ax.d, .int .i64 ax.e] 32) = W3 at *
    obtain ⟨t0, t1, t2⟩ := box2 QT.out
    go_wp2_with fail
    refine (HAT.out _ _ lo ts p d _ RT.out HSM.out).mono ?_
    rintro r w2 ⟨rfl, b2⟩
    rw [HO.out, HOX.out, HOY.out]
    have ba := bstep b2 (bal1 w2 (.cells #[.int .i64 ox.a, .int .i64 ox.b, .int .i64 ox.c, .int .i64 ox.d, .int .i64 ox.e] 32))
    have QO := Lib.hid (al1 w2 (.cells #[.int .i64 ox.a, .int .i64 ox.b, .int .i64 ox.c, .int .i64 ox.d, .int .i64 ox.e] 32))
    replace QT := Lib.hid (box_on QT.out ba)
    replace RT := Lib.hid (RT.out.on ba)
    replace RL := Lib.hid (RL.out.on ba)
    replace BB := Lib.hid (bstep BB.out ba)
    replace QK := Lib.hid (box_on QK.out ba)
    replace QA := Lib.hid (box_on QA.out ba)
    clear b2 ba t0 t1 t2
    go_upto_region 7 with (fail)
    generalize w2.alloc (.cells #[.int .i64 ox.a, .int .i64 ox.b, .int .i64 ox.c, .int .i64 ox.d, .int .i64 ox.e] 32) = W4 at *
    obtain ⟨t0, t1, t2⟩ := box2 QT.out
    go_wp2_with fail
    refine (implKeysOf_any _ _ lo ts p _ RT.out (by omega) (by omega)).mono ?_
    rintro r w2 ⟨v2, rfl, o2, b2⟩
    rw [HKK.out] at o2
    obtain ⟨A2, c2, rfl, _, _⟩ := o2.shape
    have OK := Lib.hid o2
    replace QT := Lib.hid (box_on QT.out b2)
    replace RT := Lib.hid (RT.out.on b2)
    replace RL := Lib.hid (RL.out.on b2)
    replace BB := Lib.hid (bstep BB.out b2)
    replace QK := Lib.hid (box_on QK.out b2)
    replace QA := Lib.hid (box_on QA.out b2)
    replace QO := Lib.hid (box_on QO.out b2)
    clear b2 o2 t0 t1 t2
    obtain ⟨t0, t1, t2⟩ := box2 QT.out
    go_wp2_with fail
    refine (HSS.out _ _ _ lo ts l p d _ RT.out RL.out (by omega) (by omega) (by omega)).mono ?_
    rintro r w2 ⟨rfl, b2⟩
    rw [HF2.out, HKX.out, HKY.out]
    have ba := bstep b2 (bal1 w2 (.cells #[.int .i64 kx.a, .int .i64 kx.b, .int .i64 kx.c, .int .i64 kx.d, .int .i64 kx.e] 32))
    have QS := Lib.hid (al1 w2 (.cells #[.int .i64 kx.a, .int .i64 kx.b, .int .i64 kx.c, .int .i64 kx.d, .int .i64 kx.e] 32))
    replace QT := Lib.hid (box_on QT.out ba)
    replace RT := Lib.hid (RT.out.on ba)
    replace RL := Lib.hid (RL.out.on ba)
    replace BB := Lib.hid (bstep BB.out ba)
    replace QK := Lib.hid (box_on QK.out ba)
    replace QA := Lib.hid (box_on QA.out ba)
    replace QO := Lib.hid (box_on QO.out ba)
    replace OK := Lib.hid (OK.out.on ba)
    clear b2 ba t0 t1 t2
    go_upto_region 9 with (fail)
    generalize w2.alloc (.cells #[.int .i64 kx.a, .int .i64 kx.b, .int .i64 kx.c, .int .i64 kx.d, .int .i64 kx.e] 32) = W6 at *
    have hne1 : (ky != ky) = false := by simp
    have hne2 : ((KK.length : Int) != (KK.length : Int)) = false := by simp
    obtain ⟨t0, t1, t2⟩ := box2 QT.out
    go_wp2_with fail
    refine (specKeysOf_any _ _ lo ts p _ RT.out (by omega) (by omega)).mono ?_
    rintro r w2 ⟨v2, rfl, o2, b2⟩
    rw [HKK.out] at o2
    obtain ⟨A3, c3, rfl, _, _⟩ := o2.shape
    replace QT := Lib.hid (box_on QT.out b2)
    replace RT := Lib.hid (RT.out.on b2)
    replace RL := Lib.hid (RL.out.on b2)
    replace BB := Lib.hid (bstep BB.out b2)
    replace QK := Lib.hid (box_on QK.out b2)
    replace QA := Lib.hid (box_on QA.out b2)
    replace QO := Lib.hid (box_on QO.out b2)
    replace OK := Lib.hid (OK.out.on b2)
    clear b2 o2 t0 t1 t2 HSN HSA HAT HSS HF2 QS
    go_wp2
    clear hne1 hne2
    go_loopw [16] (fun i wr => ∃ i' : Nat, i' ≤ KK.length ∧ i = .int .i64 i' ∧ Hid (Below w2.heap.size w2 wr)) (fun i _ => KK.length - (intOf i).toNat)
    case atStart => exact ⟨0, Nat.zero_le _, rfl, Lib.hid (Below.refl _ _)⟩
    case round =>
      obtain ⟨i, hi, rfl, HX⟩ := hrel
      replace QT := Lib.hid (box_on QT.out HX.out)
      replace QK := Lib.hid (box_on QK.out HX.out)
      by_cases hlti : i < KK.length
      · obtain ⟨b, off, rfl, hbb, hc⟩ := (OK.out.on HX.out).owns.reads.keys hlti
        have HME : Hid (KK[i] ∈ KK) := Lib.hid (List.getElem_mem hlti)
        have FK := Lib.hid (hc i hlti)
        clear hc
        generalize KK[i] = y at *
        have hya := HMEM.out y HME.out
        obtain ⟨M, hM⟩ : ∃ M, fromB l y.b d = M := ⟨_, rfl⟩
        obtain ⟨E, hE⟩ : ∃ E, (kx.b == y.b) = E := ⟨_, rfl⟩
        have hE2 : (y.b == kx.b) = E := by rw [beq_comm2]; exact hE
        have hEE : (E != E) = false := by simp
        have i1 : (i : Int) < (KK.length : Int) := by omega
        have i2 : (0 : Int) ≤ (i : Int) := by omega
        have HIF : Hid (∀ V, Below wr.heap.size wr V → Calls Try.prog 16 #[.slice Aa l.length ca, .int .i64 y.b, .int .i64 d] V (SaysBool V M)) := Lib.hid (fun V hb => by
          have := implIsFrom_any (.slice Aa l.length ca) l y.b d V ((RL.out.on HX.out).on hb) (by omega)
          rw [hM] at this
          exact this)
        have HSE0 : Hid (∀ V, Below wr.heap.size wr V → Calls Try.prog 17 #[.agg #[.slice A lo.length c, .slice A' ts.length c'], .slice Aa l.length ca, .agg #[.int .i64 y.a, .int .i64 y.b, .int .i64 y.c, .int .i64 y.d, .int .i64 y.e], .int .i64 d] V (SaysBool V (ky && E))) := Lib.hid (fun V hb => by
          have := HSEE.out (.slice A lo.length c) (.slice A' ts.length c') (.slice Aa l.length ca) lo ts l y d V ((RT.out.on HX.out).on hb) ((RL.out.on HX.out).on hb) (by omega) (by omega) (by omega) F (by rw [hya, HKK.out, ← HKK.out]; exact HF.out)
          rw [HKX.out, HKY.out, hE] at this
          exact this)
        have HM0 : Hid (ky = false → M = false) := Lib.hid (fun h => by
          cases hFF : F with
          | none => rw [← hM]; exact (HALL.out.1 hFF).2.2 y HME.out
          | some x => have := HKY.out; rw [hFF, h] at this; cases this)
        have HM1 : Hid (ky = true → M = true → decide (kx.b < y.b) = false) := Lib.hid (fun h hm => by
          cases hFF : F with
          | none => have := HKY.out; rw [hFF, h] at this; cases this
          | some x =>
            have hx : kx = x := by rw [← HKX.out, hFF]; rfl
            rw [hx]
            exact (HALL.out.2 x hFF).2.2.2.1 y HME.out (by rw [hM]; exact hm))
        clear hM hya HME
        go_upto_region 14 with (fail)
        cases ky
        · have HSE := Lib.hid (show ∀ V, Below wr.heap.size wr V → Calls Try.prog 17 #[.agg #[.slice A lo.length c, .slice A' ts.length c'], .slice Aa l.length ca, .agg #[.int .i64 y.a, .int .i64 y.b, .int .i64 y.c, .int .i64 y.d, .int .i64 y.e], .int .i64 d] V (SaysBool V false) from HSE0.out)
          have hMf := HM0.out rfl
          subst hMf
          clear HM0 HM1 HSE0
          refine but_begin (f := 43) (S := fun V => Below wr.drew.heap.size wr.drew V) (by kernel_rfl) ?_
          refine but_take (f := 43) (i := 0) (v := ?vsa0) rfl (by kernel_rfl) (by kernel_rfl) (by kernel_rfl) (by kernel_rfl) (by kernel_rfl) (fun _ _ _ h => h) (Or.inl ⟨(by rfl), ?hysa0⟩) (Below.refl _ _) ?restsa0
          case hysa0 =>
            intro W hW
            go_simp
            exact rfl
          simp only [List.getElem_toArray, List.getElem_cons_succ, List.getElem_cons_zero, Act.put, List.setIfInBounds_toArray, List.set_cons_zero, List.set_cons_succ]
          refine but_take (f := 43) (i := 1) (v := ?vsa1) rfl (by kernel_rfl) (by kernel_rfl) (by kernel_rfl) (by kernel_rfl) (by kernel_rfl) (fun _ _ _ h => h) (Or.inl ⟨(by rfl), ?hysa1⟩) (Below.refl _ _) ?restsa1
          case hysa1 =>
            intro W hW
            go_simp
            exact rfl
          simp only [List.getElem_toArray, List.getElem_cons_succ, List.getElem_cons_zero, Act.put, List.setIfInBounds_toArray, List.set_cons_zero, List.set_cons_succ]
          refine but_take (f := 43) (i := 2) (v := ?vsa2) rfl (by kernel_rfl) (by kernel_rfl) (by kernel_rfl) (by kernel_rfl) (by kernel_rfl) (fun _ _ _ h => h) (Or.inl ⟨(by rfl), ?hysa2⟩) (Below.refl _ _) ?restsa2
          case hysa2 =>
            intro W hW
            go_simp
            exact rfl
          simp only [List.getElem_toArray, List.getElem_cons_succ, List.getElem_cons_zero, Act.put, List.setIfInBounds_toArray, List.set_cons_zero, List.set_cons_succ]
          refine but_take (f := 43) (i := 3) (v := ?vsa3) rfl (by kernel_rfl) (by kernel_rfl) (by kernel_rfl) (by kernel_rfl) (by kernel_rfl) (fun _ _ _ h => h) (Or.inl ⟨(by rfl), ?hysa3⟩) (Below.refl _ _) ?restsa3
          case hysa3 =>
            intro W hW
            go_simp
            exact rfl
          simp only [List.getElem_toArray, List.getElem_cons_succ, List.getElem_cons_zero, Act.put, List.setIfInBounds_toArray, List.set_cons_zero, List.set_cons_succ]
          refine but_take (f := 43) (i := 4) (v := ?vsa4) rfl (by kernel_rfl) (by kernel_rfl) (by kernel_rfl) (by kernel_rfl) (by kernel_rfl) (fun _ _ _ h => h) (Or.inl ⟨(by rfl), ?hysa4⟩) (Below.refl _ _) ?restsa4
          case hysa4 =>
            intro W hW
            go_simp
            exact rfl
          simp only [List.getElem_toArray, List.getElem_cons_succ, List.getElem_cons_zero, Act.put, List.setIfInBounds_toArray, List.set_cons_zero, List.set_cons_succ]
          refine but_take (f := 43) (i := 5) (v := ?vsa5) rfl (by kernel_rfl) (by kernel_rfl) (by kernel_rfl) (by kernel_rfl) (by kernel_rfl) (fun _ _ _ h => h) (Or.inl ⟨(by rfl), ?hysa5⟩) (Below.refl _ _) ?restsa5
          case hysa5 =>
            intro W hW
            have hb0 : Below wr.heap.size wr W := bstep (Below.drew1 _) hW
            obtain ⟨c0, c1, c2, c3, c4⟩ := FK.out.on hbb hb0
            go_simp
            exact rfl
          simp only [List.getElem_toArray, List.getElem_cons_succ, List.getElem_cons_zero, Act.put, List.setIfInBounds_toArray, List.set_cons_zero, List.set_cons_succ]
          refine but_take (f := 43) (i := 6) (v := ?vsa6) rfl (by kernel_rfl) (by kernel_rfl) (by kernel_rfl) (by kernel_rfl) (by kernel_rfl) (fun _ _ _ h => h) (Or.inl ⟨(by rfl), ?hysa6⟩) (Below.refl _ _) ?restsa6
          case hysa6 =>
            intro W hW
            go_simp
            exact rfl
          simp only [List.getElem_toArray, List.getElem_cons_succ, List.getElem_cons_zero, Act.put, List.setIfInBounds_toArray, List.set_cons_zero, List.set_cons_succ]
          refine but_run (i := 7) (by kernel_rfl) rfl (by rfl) ?_
          simp only [List.getElem_toArray, List.getElem_cons_succ, List.getElem_cons_zero]
          intro K HK
          go_wp2_with fail
          refine (HIF.out _ (bstep (Below.drew1 _) (Below.refl _ _))).mono ?_
          rintro r Vsa1 ⟨rfl, hBsa1⟩
          have hSsa1 := bstep (Below.refl _ _) hBsa1
          go_wp2_with fail
          refine HK.out _ Vsa1 (fun _ => hSsa1) ?_
          clear HK
          refine but_take (f := 43) (i := 8) (v := ?vsa8) rfl (by kernel_rfl) (by kernel_rfl) (by kernel_rfl) (by kernel_rfl) (by kernel_rfl) (fun _ _ _ h => h) (Or.inl ⟨(by rfl), ?hysa8⟩) hSsa1 ?restsa8
          case hysa8 =>
            intro W hW
            go_simp
            exact rfl
          simp only [List.getElem_toArray, List.getElem_cons_succ, List.getElem_cons_zero, Act.put, List.setIfInBounds_toArray, List.set_cons_zero, List.set_cons_succ]
          refine but_take (f := 43) (i := 9) (v := undef) rfl (by kernel_rfl) (by kernel_rfl) (by kernel_rfl) (by kernel_rfl) (by kernel_rfl) (fun _ _ _ h => h) (Or.inr ⟨((wanted_at rfl rfl rfl rfl).trans rfl), rfl⟩) hSsa1 ?_
          simp only [List.getElem_toArray, List.getElem_cons_succ, List.getElem_cons_zero, Act.put, List.setIfInBounds_toArray, List.set_cons_zero, List.set_cons_succ]
          refine but_take (f := 43) (i := 10) (v := undef) rfl (by kernel_rfl) (by kernel_rfl) (by kernel_rfl) (by kernel_rfl) (by kernel_rfl) (fun _ _ _ h => h) (Or.inr ⟨((wanted_at rfl rfl rfl rfl).trans rfl), rfl⟩) hSsa1 ?_
          simp only [List.getElem_toArray, List.getElem_cons_succ, List.getElem_cons_zero, Act.put, List.setIfInBounds_toArray, List.set_cons_zero, List.set_cons_succ]
          refine but_take (f := 43) (i := 11) (v := undef) rfl (by kernel_rfl) (by kernel_rfl) (by kernel_rfl) (by kernel_rfl) (by kernel_rfl) (fun _ _ _ h => h) (Or.inr ⟨((wanted_at rfl rfl rfl rfl).trans rfl), rfl⟩) hSsa1 ?_
          simp only [List.getElem_toArray, List.getElem_cons_succ, List.getElem_cons_zero, Act.put, List.setIfInBounds_toArray, List.set_cons_zero, List.set_cons_succ]
          refine but_take (f := 43) (i := 12) (v := undef) rfl (by kernel_rfl) (by kernel_rfl) (by kernel_rfl) (by kernel_rfl) (by kernel_rfl) (fun _ _ _ h => h) (Or.inr ⟨(wanted_un rfl rfl rfl rfl), rfl⟩) hSsa1 ?_
          simp only [List.getElem_toArray, List.getElem_cons_succ, List.getElem_cons_zero, Act.put, List.setIfInBounds_toArray, List.set_cons_zero, List.set_cons_succ]
          refine but_take (f := 43) (i := 13) (v := undef) rfl (by kernel_rfl) (by kernel_rfl) (by kernel_rfl) (by kernel_rfl) (by kernel_rfl) (fun _ _ _ h => h) (Or.inr ⟨(wanted_un rfl rfl rfl rfl), rfl⟩) hSsa1 ?_
          simp only [List.getElem_toArray, List.getElem_cons_succ, List.getElem_cons_zero, Act.put, List.setIfInBounds_toArray, List.set_cons_zero, List.set_cons_succ]
          refine but_take (f := 43) (i := 14) (v := undef) rfl (by kernel_rfl) (by kernel_rfl) (by kernel_rfl) (by kernel_rfl) (by kernel_rfl) (fun _ _ _ h => h) (Or.inr ⟨(wanted_un rfl rfl rfl rfl), rfl⟩) hSsa1 ?_
          simp only [List.getElem_toArray, List.getElem_cons_succ, List.getElem_cons_zero, Act.put, List.setIfInBounds_toArray, List.set_cons_zero, List.set_cons_succ]
          refine but_take (f := 43) (i := 15) (v := undef) rfl (by kernel_rfl) (by kernel_rfl) (by kernel_rfl) (by kernel_rfl) (by kernel_rfl) (fun _ _ _ h => h) (Or.inr ⟨(wanted_un rfl rfl rfl rfl), rfl⟩) hSsa1 ?_
          simp only [List.getElem_toArray, List.getElem_cons_succ, List.getElem_cons_zero, Act.put, List.setIfInBounds_toArray, List.set_cons_zero, List.set_cons_succ]
          refine but_take (f := 43) (i := 16) (v := undef) rfl (by kernel_rfl) (by kernel_rfl) (by kernel_rfl) (by kernel_rfl) (by kernel_rfl) (fun _ _ _ h => h) (Or.inr ⟨(wanted_un rfl rfl rfl rfl), rfl⟩) hSsa1 ?_
          simp only [List.getElem_toArray, List.getElem_cons_succ, List.getElem_cons_zero, Act.put, List.setIfInBounds_toArray, List.set_cons_zero, List.set_cons_succ]
          refine but_take (f := 43) (i := 17) (v := undef) rfl (by kernel_rfl) (by kernel_rfl) (by kernel_rfl) (by kernel_rfl) (by kernel_rfl) (fun _ _ _ h => h) (Or.inr ⟨(wanted_un rfl rfl rfl rfl), rfl⟩) hSsa1 ?_
          simp only [List.getElem_toArray, List.getElem_cons_succ, List.getElem_cons_zero, Act.put, List.setIfInBounds_toArray, List.set_cons_zero, List.set_cons_succ]
          refine but_take (f := 43) (i := 18) (v := undef) rfl (by kernel_rfl) (by kernel_rfl) (by kernel_rfl) (by kernel_rfl) (by kernel_rfl) (fun _ _ _ h => h) (Or.inr ⟨(wanted_un rfl rfl rfl rfl), rfl⟩) hSsa1 ?_
          simp only [List.getElem_toArray, List.getElem_cons_succ, List.getElem_cons_zero, Act.put, List.setIfInBounds_toArray, List.set_cons_zero, List.set_cons_succ]
          refine but_take (f := 43) (i := 19) (v := undef) rfl (by kernel_rfl) (by kernel_rfl) (by kernel_rfl) (by kernel_rfl) (by kernel_rfl) (fun _ _ _ h => h) (Or.inr ⟨(wanted_un rfl rfl rfl rfl), rfl⟩) hSsa1 ?_
          simp only [List.getElem_toArray, List.getElem_cons_succ, List.getElem_cons_zero, Act.put, List.setIfInBounds_toArray, List.set_cons_zero, List.set_cons_succ]
          refine but_take (f := 43) (i := 20) (v := undef) rfl (by kernel_rfl) (by kernel_rfl) (by kernel_rfl) (by kernel_rfl) (by kernel_rfl) (fun _ _ _ h => h) (Or.inr ⟨((wanted_at rfl rfl rfl rfl).trans rfl), rfl⟩) hSsa1 ?_
          simp only [List.getElem_toArray, List.getElem_cons_succ, List.getElem_cons_zero, Act.put, List.setIfInBounds_toArray, List.set_cons_zero, List.set_cons_succ]
          refine but_take (f := 43) (i := 21) (v := ?vsa21) rfl (by kernel_rfl) (by kernel_rfl) (by kernel_rfl) (by kernel_rfl) (by kernel_rfl) (fun _ _ _ h => h) (Or.inl ⟨(by rfl), ?hysa21⟩) hSsa1 ?restsa21
          case hysa21 =>
            intro W hW
            go_simp
            exact rfl
          simp only [List.getElem_toArray, List.getElem_cons_succ, List.getElem_cons_zero, Act.put, List.setIfInBounds_toArray, List.set_cons_zero, List.set_cons_succ]
          refine but_take (f := 43) (i := 22) (v := ?vsa22) rfl (by kernel_rfl) (by kernel_rfl) (by kernel_rfl) (by kernel_rfl) (by kernel_rfl) (fun _ _ _ h => h) (Or.inl ⟨(by rfl), ?hysa22⟩) hSsa1 ?restsa22
          case hysa22 =>
            intro W hW
            go_simp
            exact rfl
          simp only [List.getElem_toArray, List.getElem_cons_succ, List.getElem_cons_zero, Act.put, List.setIfInBounds_toArray, List.set_cons_zero, List.set_cons_succ]
          refine but_take (f := 43) (i := 23) (v := ?vsa23) rfl (by kernel_rfl) (by kernel_rfl) (by kernel_rfl) (by kernel_rfl) (by kernel_rfl) (fun _ _ _ h => h) (Or.inl ⟨((wanted_at rfl rfl rfl rfl).trans rfl), ?hysa23⟩) hSsa1 ?restsa23
          case hysa23 =>
            intro W hW
            have hb0 : Below wr.heap.size wr W := bstep (Below.drew1 _) hW
            obtain ⟨t0, t1, t2⟩ := box2 (box_on QT.out hb0)
            go_simp
            exact rfl
          simp only [List.getElem_toArray, List.getElem_cons_succ, List.getElem_cons_zero, Act.put, List.setIfInBounds_toArray, List.set_cons_zero, List.set_cons_succ]
          refine but_take (f := 43) (i := 24) (v := ?vsa24) rfl (by kernel_rfl) (by kernel_rfl) (by kernel_rfl) (by kernel_rfl) (by kernel_rfl) (fun _ _ _ h => h) (Or.inl ⟨((wanted_at rfl rfl rfl rfl).trans rfl), ?hysa24⟩) hSsa1 ?restsa24
          case hysa24 =>
            intro W hW
            go_simp
            exact rfl
          simp only [List.getElem_toArray, List.getElem_cons_succ, List.getElem_cons_zero, Act.put, List.setIfInBounds_toArray, List.set_cons_zero, List.set_cons_succ]
          refine but_take (f := 43) (i := 25) (v := ?vsa25) rfl (by kernel_rfl) (by kernel_rfl) (by kernel_rfl) (by kernel_rfl) (by kernel_rfl) (fun _ _ _ h => h) (Or.inl ⟨((wanted_at rfl rfl rfl rfl).trans rfl), ?hysa25⟩) hSsa1 ?restsa25
          case hysa25 =>
            intro W hW
            go_simp
            exact rfl
          simp only [List.getElem_toArray, List.getElem_cons_succ, List.getElem_cons_zero, Act.put, List.setIfInBounds_toArray, List.set_cons_zero, List.set_cons_succ]
          refine but_take (f := 43) (i := 26) (v := ?vsa26) rfl (by kernel_rfl) (by kernel_rfl) (by kernel_rfl) (by kernel_rfl) (by kernel_rfl) (fun _ _ _ h => h) (Or.inl ⟨((wanted_at rfl rfl rfl rfl).trans rfl), ?hysa26⟩) hSsa1 ?restsa26
          case hysa26 =>
            intro W hW
            go_simp
            exact rfl
          simp only [List.getElem_toArray, List.getElem_cons_succ, List.getElem_cons_zero, Act.put, List.setIfInBounds_toArray, List.set_cons_zero, List.set_cons_succ]
          refine but_take (f := 43) (i := 27) (v := ?vsa27) rfl (by kernel_rfl) (by kernel_rfl) (by kernel_rfl) (by kernel_rfl) (by kernel_rfl) (fun _ _ _ h => h) (Or.inl ⟨((wanted_at rfl rfl rfl rfl).trans rfl), ?hysa27⟩) hSsa1 ?restsa27
          case hysa27 =>
            intro W hW
            go_simp
            exact rfl
          simp only [List.getElem_toArray, List.getElem_cons_succ, List.getElem_cons_zero, Act.put, List.setIfInBounds_toArray, List.set_cons_zero, List.set_cons_succ]
          refine but_take (f := 43) (i := 28) (v := ?vsa28) rfl (by kernel_rfl) (by kernel_rfl) (by kernel_rfl) (by kernel_rfl) (by kernel_rfl) (fun _ _ _ h => h) (Or.inl ⟨((wanted_at rfl rfl rfl rfl).trans rfl), ?hysa28⟩) hSsa1 ?restsa28
          case hysa28 =>
            intro W hW
            have hb0 : Below wr.heap.size wr W := bstep (Below.drew1 _) hW
            obtain ⟨c0, c1, c2, c3, c4⟩ := FK.out.on hbb hb0
            go_simp
            exact rfl
          simp only [List.getElem_toArray, List.getElem_cons_succ, List.getElem_cons_zero, Act.put, List.setIfInBounds_toArray, List.set_cons_zero, List.set_cons_succ]
          refine but_take (f := 43) (i := 29) (v := ?vsa29) rfl (by kernel_rfl) (by kernel_rfl) (by kernel_rfl) (by kernel_rfl) (by kernel_rfl) (fun _ _ _ h => h) (Or.inl ⟨((wanted_at rfl rfl rfl rfl).trans rfl), ?hysa29⟩) hSsa1 ?restsa29
          case hysa29 =>
            intro W hW
            go_simp
            exact rfl
          simp only [List.getElem_toArray, List.getElem_cons_succ, List.getElem_cons_zero, Act.put, List.setIfInBounds_toArray, List.set_cons_zero, List.set_cons_succ]
          refine but_take (f := 43) (i := 31) (v := ?vsa31) rfl (by kernel_rfl) (by kernel_rfl) (by kernel_rfl) (by kernel_rfl) (by kernel_rfl) (fun _ _ _ h => h) (Or.inl ⟨((wanted_at rfl rfl rfl rfl).trans rfl), ?hysa31⟩) hSsa1 ?restsa31
          case hysa31 =>
            intro W hW
            go_simp
            exact rfl
          simp only [List.getElem_toArray, List.getElem_cons_succ, List.getElem_cons_zero, Act.put, List.setIfInBounds_toArray, List.set_cons_zero, List.set_cons_succ]
          refine but_run (i := 30) (by kernel_rfl) rfl ((wanted_at rfl rfl rfl rfl).trans rfl) ?_
          simp only [List.getElem_toArray, List.getElem_cons_succ, List.getElem_cons_zero]
          intro K HK
          go_wp2_with fail
          refine (HSE.out _ (bstep (Below.drew1 _) hSsa1)).mono ?_
          rintro r Vsa2 ⟨rfl, hBsa2⟩
          have hSsa2 := bstep hSsa1 hBsa2
          go_wp2_with fail
          refine HK.out _ Vsa2 (fun _ => hSsa2) ?_
          clear HK
          refine but_take (f := 43) (i := 32) (v := ?vsa32) rfl (by kernel_rfl) (by kernel_rfl) (by kernel_rfl) (by kernel_rfl) (by kernel_rfl) (fun _ _ _ h => h) (Or.inl ⟨((wanted_at rfl rfl rfl rfl).trans rfl), ?hysa32⟩) hSsa2 ?restsa32
          case hysa32 =>
            intro W hW
            go_simp
            exact rfl
          simp only [List.getElem_toArray, List.getElem_cons_succ, List.getElem_cons_zero, Act.put, List.setIfInBounds_toArray, List.set_cons_zero, List.set_cons_succ]
          refine but_take (f := 43) (i := 33) (v := undef) rfl (by kernel_rfl) (by kernel_rfl) (by kernel_rfl) (by kernel_rfl) (by kernel_rfl) (fun _ _ _ h => h) (Or.inr ⟨((wanted_at rfl rfl rfl rfl).trans rfl), rfl⟩) hSsa2 ?_
          simp only [List.getElem_toArray, List.getElem_cons_succ, List.getElem_cons_zero, Act.put, List.setIfInBounds_toArray, List.set_cons_zero, List.set_cons_succ]
          refine but_take (f := 43) (i := 34) (v := undef) rfl (by kernel_rfl) (by kernel_rfl) (by kernel_rfl) (by kernel_rfl) (by kernel_rfl) (fun _ _ _ h => h) (Or.inr ⟨((wanted_at rfl rfl rfl rfl).trans rfl), rfl⟩) hSsa2 ?_
          simp only [List.getElem_toArray, List.getElem_cons_succ, List.getElem_cons_zero, Act.put, List.setIfInBounds_toArray, List.set_cons_zero, List.set_cons_succ]
          refine but_take (f := 43) (i := 35) (v := undef) rfl (by kernel_rfl) (by kernel_rfl) (by kernel_rfl) (by kernel_rfl) (by kernel_rfl) (fun _ _ _ h => h) (Or.inr ⟨((wanted_at rfl rfl rfl rfl).trans rfl), rfl⟩) hSsa2 ?_
          simp only [List.getElem_toArray, List.getElem_cons_succ, List.getElem_cons_zero, Act.put, List.setIfInBounds_toArray, List.set_cons_zero, List.set_cons_succ]
          refine but_take (f := 43) (i := 36) (v := undef) rfl (by kernel_rfl) (by kernel_rfl) (by kernel_rfl) (by kernel_rfl) (by kernel_rfl) (fun _ _ _ h => h) (Or.inr ⟨((wanted_at rfl rfl rfl rfl).trans rfl), rfl⟩) hSsa2 ?_
          simp only [List.getElem_toArray, List.getElem_cons_succ, List.getElem_cons_zero, Act.put, List.setIfInBounds_toArray, List.set_cons_zero, List.set_cons_succ]
          refine but_take (f := 43) (i := 37) (v := undef) rfl (by kernel_rfl) (by kernel_rfl) (by kernel_rfl) (by kernel_rfl) (by kernel_rfl) (fun _ _ _ h => h) (Or.inr ⟨((wanted_at rfl rfl rfl rfl).trans rfl), rfl⟩) hSsa2 ?_
          simp only [List.getElem_toArray, List.getElem_cons_succ, List.getElem_cons_zero, Act.put, List.setIfInBounds_toArray, List.set_cons_zero, List.set_cons_succ]
          refine but_take (f := 43) (i := 38) (v := undef) rfl (by kernel_rfl) (by kernel_rfl) (by kernel_rfl) (by kernel_rfl) (by kernel_rfl) (fun _ _ _ h => h) (Or.inr ⟨((wanted_at rfl rfl rfl rfl).trans rfl), rfl⟩) hSsa2 ?_
          simp only [List.getElem_toArray, List.getElem_cons_succ, List.getElem_cons_zero, Act.put, List.setIfInBounds_toArray, List.set_cons_zero, List.set_cons_succ]
          refine but_take (f := 43) (i := 39) (v := undef) rfl (by kernel_rfl) (by kernel_rfl) (by kernel_rfl) (by kernel_rfl) (by kernel_rfl) (fun _ _ _ h => h) (Or.inr ⟨((wanted_at rfl rfl rfl rfl).trans rfl), rfl⟩) hSsa2 ?_
          simp only [List.getElem_toArray, List.getElem_cons_succ, List.getElem_cons_zero, Act.put, List.setIfInBounds_toArray, List.set_cons_zero, List.set_cons_succ]
          refine but_take (f := 43) (i := 40) (v := undef) rfl (by kernel_rfl) (by kernel_rfl) (by kernel_rfl) (by kernel_rfl) (by kernel_rfl) (fun _ _ _ h => h) (Or.inr ⟨((wanted_at rfl rfl rfl rfl).trans rfl), rfl⟩) hSsa2 ?_
          simp only [List.getElem_toArray, List.getElem_cons_succ, List.getElem_cons_zero, Act.put, List.setIfInBounds_toArray, List.set_cons_zero, List.set_cons_succ]
          refine but_take (f := 43) (i := 41) (v := ?vsa41) rfl (by kernel_rfl) (by kernel_rfl) (by kernel_rfl) (by kernel_rfl) (by kernel_rfl) (fun _ _ _ h => h) (Or.inl ⟨((wanted_at rfl rfl rfl rfl).trans rfl), ?hysa41⟩) hSsa2 ?restsa41
          case hysa41 =>
            intro W hW
            go_simp
            exact rfl
          simp only [List.getElem_toArray, List.getElem_cons_succ, List.getElem_cons_zero, Act.put, List.setIfInBounds_toArray, List.set_cons_zero, List.set_cons_succ]
          refine but_take (f := 43) (i := 42) (v := ?vsa42) rfl (by kernel_rfl) (by kernel_rfl) (by kernel_rfl) (by kernel_rfl) (by kernel_rfl) (fun _ _ _ h => h) (Or.inl ⟨((wanted_at rfl rfl rfl rfl).trans rfl), ?hysa42⟩) hSsa2 ?restsa42
          case hysa42 =>
            intro W hW
            go_simp
            exact rfl
          simp only [List.getElem_toArray, List.getElem_cons_succ, List.getElem_cons_zero, Act.put, List.setIfInBounds_toArray, List.set_cons_zero, List.set_cons_succ]
          refine but_run (i := 43) (by kernel_rfl) rfl (by rfl) ?_
          simp only [List.getElem_toArray, List.getElem_cons_succ, List.getElem_cons_zero]
          intro K HK
          go_wp2_with fail
          refine HK.out _ Vsa2 (fun h => absurd rfl h) ?_
          clear HK
          refine but_done (by kernel_rfl) ?_
          go_wp2_with fail
          go_roundw
          case rel => exact ⟨i + 1, by omega, by go_num, Lib.hid (bstep HX.out (bstep (Below.drew1 _) hSsa2))⟩
          case measure => simp [intOf]; omega
        · have HSE := Lib.hid (show ∀ V, Below wr.heap.size wr V → Calls Try.prog 17 #[.agg #[.slice A lo.length c, .slice A' ts.length c'], .slice Aa l.length ca, .agg #[.int .i64 y.a, .int .i64 y.b, .int .i64 y.c, .int .i64 y.d, .int .i64 y.e], .int .i64 d] V (SaysBool V E) from HSE0.out)
          cases M
          · clear HM0 HM1 HSE0
            refine but_begin (f := 43) (S := fun V => Below wr.drew.heap.size wr.drew V) (by kernel_rfl) ?_
            refine but_take (f := 43) (i := 0) (v := ?vsb0) rfl (by kernel_rfl) (by kernel_rfl) (by kernel_rfl) (by kernel_rfl) (by kernel_rfl) (fun _ _ _ h => h) (Or.inl ⟨(by rfl), ?hysb0⟩) (Below.refl _ _) ?restsb0
            case hysb0 =>
              intro W hW
              go_simp
              exact rfl
            simp only [List.getElem_toArray, List.getElem_cons_succ, List.getElem_cons_zero, Act.put, List.setIfInBounds_toArray, List.set_cons_zero, List.set_cons_succ]
            refine but_take (f := 43) (i := 1) (v := ?vsb1) rfl (by kernel_rfl) (by kernel_rfl) (by kernel_rfl) (by kernel_rfl) (by kernel_rfl) (fun _ _ _ h => h) (Or.inl ⟨(by rfl), ?hysb1⟩) (Below.refl _ _) ?restsb1
            case hysb1 =>
              intro W hW
              go_simp
              exact rfl
            simp only [List.getElem_toArray, List.getElem_cons_succ, List.getElem_cons_zero, Act.put, List.setIfInBounds_toArray, List.set_cons_zero, List.set_cons_succ]
            refine but_take (f := 43) (i := 2) (v := ?vsb2) rfl (by kernel_rfl) (by kernel_rfl) (by kernel_rfl) (by kernel_rfl) (by kernel_rfl) (fun _ _ _ h => h) (Or.inl ⟨(by rfl), ?hysb2⟩) (Below.refl _ _) ?restsb2
            case hysb2 =>
              intro W hW
              go_simp
              exact rfl
            simp only [List.getElem_toArray, List.getElem_cons_succ, List.getElem_cons_zero, Act.put, List.setIfInBounds_toArray, List.set_cons_zero, List.set_cons_succ]
            refine but_take (f := 43) (i := 3) (v := ?vsb3) rfl (by kernel_rfl) (by kernel_rfl) (by kernel_rfl) (by kernel_rfl) (by kernel_rfl) (fun _ _ _ h => h) (Or.inl ⟨(by rfl), ?hysb3⟩) (Below.refl _ _) ?restsb3
            case hysb3 =>
              intro W hW
              go_simp
              exact rfl
            simp only [List.getElem_toArray, List.getElem_cons_succ, List.getElem_cons_zero, Act.put, List.setIfInBounds_toArray, List.set_cons_zero, List.set_cons_succ]
            refine but_take (f := 43) (i := 4) (v := ?vsb4) rfl (by kernel_rfl) (by kernel_rfl) (by kernel_rfl) (by kernel_rfl) (by kernel_rfl) (fun _ _ _ h => h) (Or.inl ⟨(by rfl), ?hysb4⟩) (Below.refl _ _) ?restsb4
            case hysb4 =>
              intro W hW
              go_simp
              exact rfl
            simp only [List.getElem_toArray, List.getElem_cons_succ, List.getElem_cons_zero, Act.put, List.setIfInBounds_toArray, List.set_cons_zero, List.set_cons_succ]
            refine but_take (f := 43) (i := 5) (v := ?vsb5) rfl (by kernel_rfl) (by kernel_rfl) (by kernel_rfl) (by kernel_rfl) (by kernel_rfl) (fun _ _ _ h => h) (Or.inl ⟨(by rfl), ?hysb5⟩) (Below.refl _ _) ?restsb5
            case hysb5 =>
              intro W hW
              have hb0 : Below wr.heap.size wr W := bstep (Below.drew1 _) hW
              obtain ⟨c0, c1, c2, c3, c4⟩ := FK.out.on hbb hb0
              go_simp
              exact rfl
            simp only [List.getElem_toArray, List.getElem_cons_succ, List.getElem_cons_zero, Act.put, List.setIfInBounds_toArray, List.set_cons_zero, List.set_cons_succ]
            refine but_take (f := 43) (i := 6) (v := ?vsb6) rfl (by kernel_rfl) (by kernel_rfl) (by kernel_rfl) (by kernel_rfl) (by kernel_rfl) (fun _ _ _ h => h) (Or.inl ⟨(by rfl), ?hysb6⟩) (Below.refl _ _) ?restsb6
            case hysb6 =>
              intro W hW
              go_simp
              exact rfl
            simp only [List.getElem_toArray, List.getElem_cons_succ, List.getElem_cons_zero, Act.put, List.setIfInBounds_toArray, List.set_cons_zero, List.set_cons_succ]
            refine but_run (i := 7) (by kernel_rfl) rfl (by rfl) ?_
            simp only [List.getElem_toArray, List.getElem_cons_succ, List.getElem_cons_zero]
            intro K HK
            go_wp2_with fail
            refine (HIF.out _ (bstep (Below.drew1 _) (Below.refl _ _))).mono ?_
            rintro r Vsb1 ⟨rfl, hBsb1⟩
            have hSsb1 := bstep (Below.refl _ _) hBsb1
            go_wp2_with fail
            refine HK.out _ Vsb1 (fun _ => hSsb1) ?_
            clear HK
            refine but_take (f := 43) (i := 8) (v := ?vsb8) rfl (by kernel_rfl) (by kernel_rfl) (by kernel_rfl) (by kernel_rfl) (by kernel_rfl) (fun _ _ _ h => h) (Or.inl ⟨(by rfl), ?hysb8⟩) hSsb1 ?restsb8
            case hysb8 =>
              intro W hW
              go_simp
              exact rfl
            simp only [List.getElem_toArray, List.getElem_cons_succ, List.getElem_cons_zero, Act.put, List.setIfInBounds_toArray, List.set_cons_zero, List.set_cons_succ]
            refine but_take (f := 43) (i := 9) (v := undef) rfl (by kernel_rfl) (by kernel_rfl) (by kernel_rfl) (by kernel_rfl) (by kernel_rfl) (fun _ _ _ h => h) (Or.inr ⟨((wanted_at rfl rfl rfl rfl).trans rfl), rfl⟩) hSsb1 ?_
            simp only [List.getElem_toArray, List.getElem_cons_succ, List.getElem_cons_zero, Act.put, List.setIfInBounds_toArray, List.set_cons_zero, List.set_cons_succ]
            refine but_take (f := 43) (i := 10) (v := undef) rfl (by kernel_rfl) (by kernel_rfl) (by kernel_rfl) (by kernel_rfl) (by kernel_rfl) (fun _ _ _ h => h) (Or.inr ⟨((wanted_at rfl rfl rfl rfl).trans rfl), rfl⟩) hSsb1 ?_
            simp only [List.getElem_toArray, List.getElem_cons_succ, List.getElem_cons_zero, Act.put, List.setIfInBounds_toArray, List.set_cons_zero, List.set_cons_succ]
            refine but_take (f := 43) (i := 11) (v := undef) rfl (by kernel_rfl) (by kernel_rfl) (by kernel_rfl) (by kernel_rfl) (by kernel_rfl) (fun _ _ _ h => h) (Or.inr ⟨((wanted_at rfl rfl rfl rfl).trans rfl), rfl⟩) hSsb1 ?_
            simp only [List.getElem_toArray, List.getElem_cons_succ, List.getElem_cons_zero, Act.put, List.setIfInBounds_toArray, List.set_cons_zero, List.set_cons_succ]
            refine but_take (f := 43) (i := 12) (v := undef) rfl (by kernel_rfl) (by kernel_rfl) (by kernel_rfl) (by kernel_rfl) (by kernel_rfl) (fun _ _ _ h => h) (Or.inr ⟨(wanted_un rfl rfl rfl rfl), rfl⟩) hSsb1 ?_
            simp only [List.getElem_toArray, List.getElem_cons_succ, List.getElem_cons_zero, Act.put, List.setIfInBounds_toArray, List.set_cons_zero, List.set_cons_succ]
            refine but_take (f := 43) (i := 13) (v := undef) rfl (by kernel_rfl) (by kernel_rfl) (by kernel_rfl) (by kernel_rfl) (by kernel_rfl) (fun _ _ _ h => h) (Or.inr ⟨(wanted_un rfl rfl rfl rfl), rfl⟩) hSsb1 ?_
            simp only [List.getElem_toArray, List.getElem_cons_succ, List.getElem_cons_zero, Act.put, List.setIfInBounds_toArray, List.set_cons_zero, List.set_cons_succ]
            refine but_take (f := 43) (i := 14) (v := undef) rfl (by kernel_rfl) (by kernel_rfl) (by kernel_rfl) (by kernel_rfl) (by kernel_rfl) (fun _ _ _ h => h) (Or.inr ⟨(wanted_un rfl rfl rfl rfl), rfl⟩) hSsb1 ?_
            simp only [List.getElem_toArray, List.getElem_cons_succ, List.getElem_cons_zero, Act.put, List.setIfInBounds_toArray, List.set_cons_zero, List.set_cons_succ]
            refine but_take (f := 43) (i := 15) (v := undef) rfl (by kernel_rfl) (by kernel_rfl) (by kernel_rfl) (by kernel_rfl) (by kernel_rfl) (fun _ _ _ h => h) (Or.inr ⟨(wanted_un rfl rfl rfl rfl), rfl⟩) hSsb1 ?_
            simp only [List.getElem_toArray, List.getElem_cons_succ, List.getElem_cons_zero, Act.put, List.setIfInBounds_toArray, List.set_cons_zero, List.set_cons_succ]
            refine but_take (f := 43) (i := 16) (v := undef) rfl (by kernel_rfl) (by kernel_rfl) (by kernel_rfl) (by kernel_rfl) (by kernel_rfl) (fun _ _ _ h => h) (Or.inr ⟨(wanted_un rfl rfl rfl rfl), rfl⟩) hSsb1 ?_
            simp only [List.getElem_toArray, List.getElem_cons_succ, List.getElem_cons_zero, Act.put, List.setIfInBounds_toArray, List.set_cons_zero, List.set_cons_succ]
            refine but_take (f := 43) (i := 17) (v := undef) rfl (by kernel_rfl) (by kernel_rfl) (by kernel_rfl) (by kernel_rfl) (by kernel_rfl) (fun _ _ _ h => h) (Or.inr ⟨(wanted_un rfl rfl rfl rfl), rfl⟩) hSsb1 ?_
            simp only [List.getElem_toArray, List.getElem_cons_succ, List.getElem_cons_zero, Act.put, List.setIfInBounds_toArray, List.set_cons_zero, List.set_cons_succ]
            refine but_take (f := 43) (i := 18) (v := undef) rfl (by kernel_rfl) (by kernel_rfl) (by kernel_rfl) (by kernel_rfl) (by kernel_rfl) (fun _ _ _ h => h) (Or.inr ⟨(wanted_un rfl rfl rfl rfl), rfl⟩) hSsb1 ?_
            simp only [List.getElem_toArray, List.getElem_cons_succ, List.getElem_cons_zero, Act.put, List.setIfInBounds_toArray, List.set_cons_zero, List.set_cons_succ]
            refine but_take (f := 43) (i := 19) (v := undef) rfl (by kernel_rfl) (by kernel_rfl) (by kernel_rfl) (by kernel_rfl) (by kernel_rfl) (fun _ _ _ h => h) (Or.inr ⟨(wanted_un rfl rfl rfl rfl), rfl⟩) hSsb1 ?_
            simp only [List.getElem_toArray, List.getElem_cons_succ, List.getElem_cons_zero, Act.put, List.setIfInBounds_toArray, List.set_cons_zero, List.set_cons_succ]
            refine but_take (f := 43) (i := 20) (v := undef) rfl (by kernel_rfl) (by kernel_rfl) (by kernel_rfl) (by kernel_rfl) (by kernel_rfl) (fun _ _ _ h => h) (Or.inr ⟨((wanted_at rfl rfl rfl rfl).trans rfl), rfl⟩) hSsb1 ?_
            simp only [List.getElem_toArray, List.getElem_cons_succ, List.getElem_cons_zero, Act.put, List.setIfInBounds_toArray, List.set_cons_zero, List.set_cons_succ]
            refine but_take (f := 43) (i := 21) (v := ?vsb21) rfl (by kernel_rfl) (by kernel_rfl) (by kernel_rfl) (by kernel_rfl) (by kernel_rfl) (fun _ _ _ h => h) (Or.inl ⟨(by rfl), ?hysb21⟩) hSsb1 ?restsb21
            case hysb21 =>
              intro W hW
              go_simp
              exact rfl
            simp only [List.getElem_toArray, List.getElem_cons_succ, List.getElem_cons_zero, Act.put, List.setIfInBounds_toArray, List.set_cons_zero, List.set_cons_succ]
            refine but_take (f := 43) (i := 22) (v := ?vsb22) rfl (by kernel_rfl) (by kernel_rfl) (by kernel_rfl) (by kernel_rfl) (by kernel_rfl) (fun _ _ _ h => h) (Or.inl ⟨(by rfl), ?hysb22⟩) hSsb1 ?restsb22
            case hysb22 =>
              intro W hW
              go_simp
              exact rfl
            simp only [List.getElem_toArray, List.getElem_cons_succ, List.getElem_cons_zero, Act.put, List.setIfInBounds_toArray, List.set_cons_zero, List.set_cons_succ]
            refine but_take (f := 43) (i := 23) (v := ?vsb23) rfl (by kernel_rfl) (by kernel_rfl) (by kernel_rfl) (by kernel_rfl) (by kernel_rfl) (fun _ _ _ h => h) (Or.inl ⟨((wanted_at rfl rfl rfl rfl).trans rfl), ?hysb23⟩) hSsb1 ?restsb23
            case hysb23 =>
              intro W hW
              have hb0 : Below wr.heap.size wr W := bstep (Below.drew1 _) hW
              obtain ⟨t0, t1, t2⟩ := box2 (box_on QT.out hb0)
              go_simp
              exact rfl
            simp only [List.getElem_toArray, List.getElem_cons_succ, List.getElem_cons_zero, Act.put, List.setIfInBounds_toArray, List.set_cons_zero, List.set_cons_succ]
            refine but_take (f := 43) (i := 24) (v := ?vsb24) rfl (by kernel_rfl) (by kernel_rfl) (by kernel_rfl) (by kernel_rfl) (by kernel_rfl) (fun _ _ _ h => h) (Or.inl ⟨((wanted_at rfl rfl rfl rfl).trans rfl), ?hysb24⟩) hSsb1 ?restsb24
            case hysb24 =>
              intro W hW
              go_simp
              exact rfl
            simp only [List.getElem_toArray, List.getElem_cons_succ, List.getElem_cons_zero, Act.put, List.setIfInBounds_toArray, List.set_cons_zero, List.set_cons_succ]
            refine but_take (f := 43) (i := 25) (v := ?vsb25) rfl (by kernel_rfl) (by kernel_rfl) (by kernel_rfl) (by kernel_rfl) (by kernel_rfl) (fun _ _ _ h => h) (Or.inl ⟨((wanted_at rfl rfl rfl rfl).trans rfl), ?hysb25⟩) hSsb1 ?restsb25
            case hysb25 =>
              intro W hW
              go_simp
              exact rfl
            simp only [List.getElem_toArray, List.getElem_cons_succ, List.getElem_cons_zero, Act.put, List.setIfInBounds_toArray, List.set_cons_zero, List.set_cons_succ]
            refine but_take (f := 43) (i := 26) (v := ?vsb26) rfl (by kernel_rfl) (by kernel_rfl) (by kernel_rfl) (by kernel_rfl) (by kernel_rfl) (fun _ _ _ h => h) (Or.inl ⟨((wanted_at rfl rfl rfl rfl).trans rfl), ?hysb26⟩) hSsb1 ?restsb26
            case hysb26 =>
              intro W hW
              go_simp
              exact rfl
            simp only [List.getElem_toArray, List.getElem_cons_succ, List.getElem_cons_zero, Act.put, List.setIfInBounds_toArray, List.set_cons_zero, List.set_cons_succ]
            refine but_take (f := 43) (i := 27) (v := ?vsb27) rfl (by kernel_rfl) (by kernel_rfl) (by kernel_rfl) (by kernel_rfl) (by kernel_rfl) (fun _ _ _ h => h) (Or.inl ⟨((wanted_at rfl rfl rfl rfl).trans rfl), ?hysb27⟩) hSsb1 ?restsb27
            case hysb27 =>
              intro W hW
              go_simp
              exact rfl
            simp only [List.getElem_toArray, List.getElem_cons_succ, List.getElem_cons_zero, Act.put, List.setIfInBounds_toArray, List.set_cons_zero, List.set_cons_succ]
            refine but_take (f := 43) (i := 28) (v := ?vsb28) rfl (by kernel_rfl) (by kernel_rfl) (by kernel_rfl) (by kernel_rfl) (by kernel_rfl) (fun _ _ _ h => h) (Or.inl ⟨((wanted_at rfl rfl rfl rfl).trans rfl), ?hysb28⟩) hSsb1 ?restsb28
            case hysb28 =>
              intro W hW
              have hb0 : Below wr.heap.size wr W := bstep (Below.drew1 _) hW
              obtain ⟨c0, c1, c2, c3, c4⟩ := FK.out.on hbb hb0
              go_simp
              exact rfl
            simp only [List.getElem_toArray, List.getElem_cons_succ, List.getElem_cons_zero, Act.put, List.setIfInBounds_toArray, List.set_cons_zero, List.set_cons_succ]
            refine but_take (f := 43) (i := 29) (v := ?vsb29) rfl (by kernel_rfl) (by kernel_rfl) (by kernel_rfl) (by kernel_rfl) (by kernel_rfl) (fun _ _ _ h => h) (Or.inl ⟨((wanted_at rfl rfl rfl rfl).trans rfl), ?hysb29⟩) hSsb1 ?restsb29
            case hysb29 =>
              intro W hW
              go_simp
              exact rfl
            simp only [List.getElem_toArray, List.getElem_cons_succ, List.getElem_cons_zero, Act.put, List.setIfInBounds_toArray, List.set_cons_zero, List.set_cons_succ]
            refine but_take (f := 43) (i := 31) (v := ?vsb31) rfl (by kernel_rfl) (by kernel_rfl) (by kernel_rfl) (by kernel_rfl) (by kernel_rfl) (fun _ _ _ h => h) (Or.inl ⟨((wanted_at rfl rfl rfl rfl).trans rfl), ?hysb31⟩) hSsb1 ?restsb31
            case hysb31 =>
              intro W hW
              go_simp
              exact rfl
            simp only [List.getElem_toArray, List.getElem_cons_succ, List.getElem_cons_zero, Act.put, List.setIfInBounds_toArray, List.set_cons_zero, List.set_cons_succ]
            refine but_run (i := 30) (by kernel_rfl) rfl ((wanted_at rfl rfl rfl rfl).trans rfl) ?_
            simp only [List.getElem_toArray, List.getElem_cons_succ, List.getElem_cons_zero]
            intro K HK
            go_wp2_with fail
            refine (HSE.out _ (bstep (Below.drew1 _) hSsb1)).mono ?_
            rintro r Vsb2 ⟨rfl, hBsb2⟩
            have hSsb2 := bstep hSsb1 hBsb2
            go_wp2_with fail
            refine HK.out _ Vsb2 (fun _ => hSsb2) ?_
            clear HK
            refine but_take (f := 43) (i := 32) (v := ?vsb32) rfl (by kernel_rfl) (by kernel_rfl) (by kernel_rfl) (by kernel_rfl) (by kernel_rfl) (fun _ _ _ h => h) (Or.inl ⟨((wanted_at rfl rfl rfl rfl).trans rfl), ?hysb32⟩) hSsb2 ?restsb32
            case hysb32 =>
              intro W hW
              go_simp
              exact rfl
            simp only [List.getElem_toArray, List.getElem_cons_succ, List.getElem_cons_zero, Act.put, List.setIfInBounds_toArray, List.set_cons_zero, List.set_cons_succ]
            refine but_take (f := 43) (i := 33) (v := ?vsb33) rfl (by kernel_rfl) (by kernel_rfl) (by kernel_rfl) (by kernel_rfl) (by kernel_rfl) (fun _ _ _ h => h) (Or.inl ⟨((wanted_at rfl rfl rfl rfl).trans rfl), ?hysb33⟩) hSsb2 ?restsb33
            case hysb33 =>
              intro W hW
              go_simp
              exact rfl
            simp only [List.getElem_toArray, List.getElem_cons_succ, List.getElem_cons_zero, Act.put, List.setIfInBounds_toArray, List.set_cons_zero, List.set_cons_succ]
            refine but_take (f := 43) (i := 34) (v := ?vsb34) rfl (by kernel_rfl) (by kernel_rfl) (by kernel_rfl) (by kernel_rfl) (by kernel_rfl) (fun _ _ _ h => h) (Or.inl ⟨((wanted_at rfl rfl rfl rfl).trans rfl), ?hysb34⟩) hSsb2 ?restsb34
            case hysb34 =>
              intro W hW
              go_simp
              exact rfl
            simp only [List.getElem_toArray, List.getElem_cons_succ, List.getElem_cons_zero, Act.put, List.setIfInBounds_toArray, List.set_cons_zero, List.set_cons_succ]
            refine but_take (f := 43) (i := 35) (v := ?vsb35) rfl (by kernel_rfl) (by kernel_rfl) (by kernel_rfl) (by kernel_rfl) (by kernel_rfl) (fun _ _ _ h => h) (Or.inl ⟨((wanted_at rfl rfl rfl rfl).trans rfl), ?hysb35⟩) hSsb2 ?restsb35
            case hysb35 =>
              intro W hW
              go_simp
              exact rfl
            simp only [List.getElem_toArray, List.getElem_cons_succ, List.getElem_cons_zero, Act.put, List.setIfInBounds_toArray, List.set_cons_zero, List.set_cons_succ]
            refine but_take (f := 43) (i := 36) (v := ?vsb36) rfl (by kernel_rfl) (by kernel_rfl) (by kernel_rfl) (by kernel_rfl) (by kernel_rfl) (fun _ _ _ h => h) (Or.inl ⟨((wanted_at rfl rfl rfl rfl).trans rfl), ?hysb36⟩) hSsb2 ?restsb36
            case hysb36 =>
              intro W hW
              go_simp
              exact rfl
            simp only [List.getElem_toArray, List.getElem_cons_succ, List.getElem_cons_zero, Act.put, List.setIfInBounds_toArray, List.set_cons_zero, List.set_cons_succ]
            refine but_take (f := 43) (i := 37) (v := ?vsb37) rfl (by kernel_rfl) (by kernel_rfl) (by kernel_rfl) (by kernel_rfl) (by kernel_rfl) (fun _ _ _ h => h) (Or.inl ⟨((wanted_at rfl rfl rfl rfl).trans rfl), ?hysb37⟩) hSsb2 ?restsb37
            case hysb37 =>
              intro W hW
              have hb0 : Below wr.heap.size wr W := bstep (Below.drew1 _) hW
              obtain ⟨c0, c1, c2, c3, c4⟩ := FK.out.on hbb hb0
              go_simp
              exact rfl
            simp only [List.getElem_toArray, List.getElem_cons_succ, List.getElem_cons_zero, Act.put, List.setIfInBounds_toArray, List.set_cons_zero, List.set_cons_succ]
            refine but_take (f := 43) (i := 38) (v := ?vsb38) rfl (by kernel_rfl) (by kernel_rfl) (by kernel_rfl) (by kernel_rfl) (by kernel_rfl) (fun _ _ _ h => h) (Or.inl ⟨((wanted_at rfl rfl rfl rfl).trans rfl), ?hysb38⟩) hSsb2 ?restsb38
            case hysb38 =>
              intro W hW
              go_simp
              exact rfl
            simp only [List.getElem_toArray, List.getElem_cons_succ, List.getElem_cons_zero, Act.put, List.setIfInBounds_toArray, List.set_cons_zero, List.set_cons_succ]
            refine but_take (f := 43) (i := 39) (v := ?vsb39) rfl (by kernel_rfl) (by kernel_rfl) (by kernel_rfl) (by kernel_rfl) (by kernel_rfl) (fun _ _ _ h => h) (Or.inl ⟨((wanted_at rfl rfl rfl rfl).trans rfl), ?hysb39⟩) hSsb2 ?restsb39
            case hysb39 =>
              intro W hW
              have hb0 : Below wr.heap.size wr W := bstep (Below.drew1 _) hW
              obtain ⟨k0, k1, k2, k3, k4, k5⟩ := box5 (box_on QK.out hb0)
              go_simp
              exact rfl
            simp only [List.getElem_toArray, List.getElem_cons_succ, List.getElem_cons_zero, Act.put, List.setIfInBounds_toArray, List.set_cons_zero, List.set_cons_succ]
            refine but_take (f := 43) (i := 40) (v := ?vsb40) rfl (by kernel_rfl) (by kernel_rfl) (by kernel_rfl) (by kernel_rfl) (by kernel_rfl) (fun _ _ _ h => h) (Or.inl ⟨((wanted_at rfl rfl rfl rfl).trans rfl), ?hysb40⟩) hSsb2 ?restsb40
            case hysb40 =>
              intro W hW
              go_simp
              exact rfl
            simp only [List.getElem_toArray, List.getElem_cons_succ, List.getElem_cons_zero, Act.put, List.setIfInBounds_toArray, List.set_cons_zero, List.set_cons_succ]
            refine but_take (f := 43) (i := 41) (v := ?vsb41) rfl (by kernel_rfl) (by kernel_rfl) (by kernel_rfl) (by kernel_rfl) (by kernel_rfl) (fun _ _ _ h => h) (Or.inl ⟨((wanted_at rfl rfl rfl rfl).trans rfl), ?hysb41⟩) hSsb2 ?restsb41
            case hysb41 =>
              intro W hW
              go_simp
              exact rfl
            simp only [List.getElem_toArray, List.getElem_cons_succ, List.getElem_cons_zero, Act.put, List.setIfInBounds_toArray, List.set_cons_zero, List.set_cons_succ]
            refine but_take (f := 43) (i := 42) (v := ?vsb42) rfl (by kernel_rfl) (by kernel_rfl) (by kernel_rfl) (by kernel_rfl) (by kernel_rfl) (fun _ _ _ h => h) (Or.inl ⟨((wanted_at rfl rfl rfl rfl).trans rfl), ?hysb42⟩) hSsb2 ?restsb42
            case hysb42 =>
              intro W hW
              go_simp
              exact rfl
            simp only [List.getElem_toArray, List.getElem_cons_succ, List.getElem_cons_zero, Act.put, List.setIfInBounds_toArray, List.set_cons_zero, List.set_cons_succ]
            refine but_run (i := 43) (by kernel_rfl) rfl (by rfl) ?_
            simp only [List.getElem_toArray, List.getElem_cons_succ, List.getElem_cons_zero]
            intro K HK
            go_wp2_with fail
            refine HK.out _ Vsb2 (fun h => absurd rfl h) ?_
            clear HK
            refine but_done (by kernel_rfl) ?_
            go_wp2_with fail
            go_roundw
            case rel => exact ⟨i + 1, by omega, by go_num, Lib.hid (bstep HX.out (bstep (Below.drew1 _) hSsb2))⟩
            case measure => simp [intOf]; omega
          · have hgt := HM1.out rfl rfl
            clear HM0 HM1 HSE0
            refine but_begin (f := 43) (S := fun V => Below wr.drew.heap.size wr.drew V) (by kernel_rfl) ?_
            refine but_take (f := 43) (i := 0) (v := ?vsc0) rfl (by kernel_rfl) (by kernel_rfl) (by kernel_rfl) (by kernel_rfl) (by kernel_rfl) (fun _ _ _ h => h) (Or.inl ⟨(by rfl), ?hysc0⟩) (Below.refl _ _) ?restsc0
            case hysc0 =>
              intro W hW
              go_simp
              exact rfl
            simp only [List.getElem_toArray, List.getElem_cons_succ, List.getElem_cons_zero, Act.put, List.setIfInBounds_toArray, List.set_cons_zero, List.set_cons_succ]
            refine but_take (f := 43) (i := 1) (v := ?vsc1) rfl (by kernel_rfl) (by kernel_rfl) (by kernel_rfl) (by kernel_rfl) (by kernel_rfl) (fun _ _ _ h => h) (Or.inl ⟨(by rfl), ?hysc1⟩) (Below.refl _ _) ?restsc1
            case hysc1 =>
              intro W hW
              go_simp
              exact rfl
            simp only [List.getElem_toArray, List.getElem_cons_succ, List.getElem_cons_zero, Act.put, List.setIfInBounds_toArray, List.set_cons_zero, List.set_cons_succ]
            refine but_take (f := 43) (i := 2) (v := ?vsc2) rfl (by kernel_rfl) (by kernel_rfl) (by kernel_rfl) (by kernel_rfl) (by kernel_rfl) (fun _ _ _ h => h) (Or.inl ⟨(by rfl), ?hysc2⟩) (Below.refl _ _) ?restsc2
            case hysc2 =>
              intro W hW
              go_simp
              exact rfl
            simp only [List.getElem_toArray, List.getElem_cons_succ, List.getElem_cons_zero, Act.put, List.setIfInBounds_toArray, List.set_cons_zero, List.set_cons_succ]
            refine but_take (f := 43) (i := 3) (v := ?vsc3) rfl (by kernel_rfl) (by kernel_rfl) (by kernel_rfl) (by kernel_rfl) (by kernel_rfl) (fun _ _ _ h => h) (Or.inl ⟨(by rfl), ?hysc3⟩) (Below.refl _ _) ?restsc3
            case hysc3 =>
              intro W hW
              go_simp
              exact rfl
            simp only [List.getElem_toArray, List.getElem_cons_succ, List.getElem_cons_zero, Act.put, List.setIfInBounds_toArray, List.set_cons_zero, List.set_cons_succ]
            refine but_take (f := 43) (i := 4) (v := ?vsc4) rfl (by kernel_rfl) (by kernel_rfl) (by kernel_rfl) (by kernel_rfl) (by kernel_rfl) (fun _ _ _ h => h) (Or.inl ⟨(by rfl), ?hysc4⟩) (Below.refl _ _) ?restsc4
            case hysc4 =>
              intro W hW
              go_simp
              exact rfl
            simp only [List.getElem_toArray, List.getElem_cons_succ, List.getElem_cons_zero, Act.put, List.setIfInBounds_toArray, List.set_cons_zero, List.set_cons_succ]
            refine but_take (f := 43) (i := 5) (v := ?vsc5) rfl (by kernel_rfl) (by kernel_rfl) (by kernel_rfl) (by kernel_rfl) (by kernel_rfl) (fun _ _ _ h => h) (Or.inl ⟨(by rfl), ?hysc5⟩) (Below.refl _ _) ?restsc5
            case hysc5 =>
              intro W hW
              have hb0 : Below wr.heap.size wr W := bstep (Below.drew1 _) hW
              obtain ⟨c0, c1, c2, c3, c4⟩ := FK.out.on hbb hb0
              go_simp
              exact rfl
            simp only [List.getElem_toArray, List.getElem_cons_succ, List.getElem_cons_zero, Act.put, List.setIfInBounds_toArray, List.set_cons_zero, List.set_cons_succ]
            refine but_take (f := 43) (i := 6) (v := ?vsc6) rfl (by kernel_rfl) (by kernel_rfl) (by kernel_rfl) (by kernel_rfl) (by kernel_rfl) (fun _ _ _ h => h) (Or.inl ⟨(by rfl), ?hysc6⟩) (Below.refl _ _) ?restsc6
            case hysc6 =>
              intro W hW
              go_simp
              exact rfl
            simp only [List.getElem_toArray, List.getElem_cons_succ, List.getElem_cons_zero, Act.put, List.setIfInBounds_toArray, List.set_cons_zero, List.set_cons_succ]
            refine but_run (i := 7) (by kernel_rfl) rfl (by rfl) ?_
            simp only [List.getElem_toArray, List.getElem_cons_succ, List.getElem_cons_zero]
            intro K HK
            go_wp2_with fail
            refine (HIF.out _ (bstep (Below.drew1 _) (Below.refl _ _))).mono ?_
            rintro r Vsc1 ⟨rfl, hBsc1⟩
            have hSsc1 := bstep (Below.refl _ _) hBsc1
            go_wp2_with fail
            refine HK.out _ Vsc1 (fun _ => hSsc1) ?_
            clear HK
            refine but_take (f := 43) (i := 8) (v := ?vsc8) rfl (by kernel_rfl) (by kernel_rfl) (by kernel_rfl) (by kernel_rfl) (by kernel_rfl) (fun _ _ _ h => h) (Or.inl ⟨(by rfl), ?hysc8⟩) hSsc1 ?restsc8
            case hysc8 =>
              intro W hW
              go_simp
              exact rfl
            simp only [List.getElem_toArray, List.getElem_cons_succ, List.getElem_cons_zero, Act.put, List.setIfInBounds_toArray, List.set_cons_zero, List.set_cons_succ]
            refine but_take (f := 43) (i := 9) (v := ?vsc9) rfl (by kernel_rfl) (by kernel_rfl) (by kernel_rfl) (by kernel_rfl) (by kernel_rfl) (fun _ _ _ h => h) (Or.inl ⟨((wanted_at rfl rfl rfl rfl).trans rfl), ?hysc9⟩) hSsc1 ?restsc9
            case hysc9 =>
              intro W hW
              go_simp
              exact rfl
            simp only [List.getElem_toArray, List.getElem_cons_succ, List.getElem_cons_zero, Act.put, List.setIfInBounds_toArray, List.set_cons_zero, List.set_cons_succ]
            refine but_take (f := 43) (i := 10) (v := ?vsc10) rfl (by kernel_rfl) (by kernel_rfl) (by kernel_rfl) (by kernel_rfl) (by kernel_rfl) (fun _ _ _ h => h) (Or.inl ⟨((wanted_at rfl rfl rfl rfl).trans rfl), ?hysc10⟩) hSsc1 ?restsc10
            case hysc10 =>
              intro W hW
              go_simp
              exact rfl
            simp only [List.getElem_toArray, List.getElem_cons_succ, List.getElem_cons_zero, Act.put, List.setIfInBounds_toArray, List.set_cons_zero, List.set_cons_succ]
            refine but_take (f := 43) (i := 11) (v := ?vsc11) rfl (by kernel_rfl) (by kernel_rfl) (by kernel_rfl) (by kernel_rfl) (by kernel_rfl) (fun _ _ _ h => h) (Or.inl ⟨((wanted_at rfl rfl rfl rfl).trans rfl), ?hysc11⟩) hSsc1 ?restsc11
            case hysc11 =>
              intro W hW
              go_simp
              exact rfl
            simp only [List.getElem_toArray, List.getElem_cons_succ, List.getElem_cons_zero, Act.put, List.setIfInBounds_toArray, List.set_cons_zero, List.set_cons_succ]
            refine but_take (f := 43) (i := 12) (v := ?vsc12) rfl (by kernel_rfl) (by kernel_rfl) (by kernel_rfl) (by kernel_rfl) (by kernel_rfl) (fun _ _ _ h => h) (Or.inl ⟨((wanted_at rfl rfl rfl rfl).trans rfl), ?hysc12⟩) hSsc1 ?restsc12
            case hysc12 =>
              intro W hW
              go_simp
              exact rfl
            simp only [List.getElem_toArray, List.getElem_cons_succ, List.getElem_cons_zero, Act.put, List.setIfInBounds_toArray, List.set_cons_zero, List.set_cons_succ]
            refine but_take (f := 43) (i := 13) (v := ?vsc13) rfl (by kernel_rfl) (by kernel_rfl) (by kernel_rfl) (by kernel_rfl) (by kernel_rfl) (fun _ _ _ h => h) (Or.inl ⟨((wanted_at rfl rfl rfl rfl).trans rfl), ?hysc13⟩) hSsc1 ?restsc13
            case hysc13 =>
              intro W hW
              go_simp
              exact rfl
            simp only [List.getElem_toArray, List.getElem_cons_succ, List.getElem_cons_zero, Act.put, List.setIfInBounds_toArray, List.set_cons_zero, List.set_cons_succ]
            refine but_take (f := 43) (i := 14) (v := ?vsc14) rfl (by kernel_rfl) (by kernel_rfl) (by kernel_rfl) (by kernel_rfl) (by kernel_rfl) (fun _ _ _ h => h) (Or.inl ⟨((wanted_at rfl rfl rfl rfl).trans rfl), ?hysc14⟩) hSsc1 ?restsc14
            case hysc14 =>
              intro W hW
              go_simp
              exact rfl
            simp only [List.getElem_toArray, List.getElem_cons_succ, List.getElem_cons_zero, Act.put, List.setIfInBounds_toArray, List.set_cons_zero, List.set_cons_succ]
            refine but_take (f := 43) (i := 15) (v := ?vsc15) rfl (by kernel_rfl) (by kernel_rfl) (by kernel_rfl) (by kernel_rfl) (by kernel_rfl) (fun _ _ _ h => h) (Or.inl ⟨((wanted_at rfl rfl rfl rfl).trans rfl), ?hysc15⟩) hSsc1 ?restsc15
            case hysc15 =>
              intro W hW
              go_simp
              exact rfl
            simp only [List.getElem_toArray, List.getElem_cons_succ, List.getElem_cons_zero, Act.put, List.setIfInBounds_toArray, List.set_cons_zero, List.set_cons_succ]
            refine but_take (f := 43) (i := 16) (v := ?vsc16) rfl (by kernel_rfl) (by kernel_rfl) (by kernel_rfl) (by kernel_rfl) (by kernel_rfl) (fun _ _ _ h => h) (Or.inl ⟨((wanted_at rfl rfl rfl rfl).trans rfl), ?hysc16⟩) hSsc1 ?restsc16
            case hysc16 =>
              intro W hW
              have hb0 : Below wr.heap.size wr W := bstep (Below.drew1 _) hW
              obtain ⟨c0, c1, c2, c3, c4⟩ := FK.out.on hbb hb0
              go_simp
              exact rfl
            simp only [List.getElem_toArray, List.getElem_cons_succ, List.getElem_cons_zero, Act.put, List.setIfInBounds_toArray, List.set_cons_zero, List.set_cons_succ]
            refine but_take (f := 43) (i := 17) (v := ?vsc17) rfl (by kernel_rfl) (by kernel_rfl) (by kernel_rfl) (by kernel_rfl) (by kernel_rfl) (fun _ _ _ h => h) (Or.inl ⟨((wanted_at rfl rfl rfl rfl).trans rfl), ?hysc17⟩) hSsc1 ?restsc17
            case hysc17 =>
              intro W hW
              go_simp
              exact rfl
            simp only [List.getElem_toArray, List.getElem_cons_succ, List.getElem_cons_zero, Act.put, List.setIfInBounds_toArray, List.set_cons_zero, List.set_cons_succ]
            refine but_take (f := 43) (i := 18) (v := ?vsc18) rfl (by kernel_rfl) (by kernel_rfl) (by kernel_rfl) (by kernel_rfl) (by kernel_rfl) (fun _ _ _ h => h) (Or.inl ⟨((wanted_at rfl rfl rfl rfl).trans rfl), ?hysc18⟩) hSsc1 ?restsc18
            case hysc18 =>
              intro W hW
              have hb0 : Below wr.heap.size wr W := bstep (Below.drew1 _) hW
              obtain ⟨k0, k1, k2, k3, k4, k5⟩ := box5 (box_on QK.out hb0)
              go_simp
              exact rfl
            simp only [List.getElem_toArray, List.getElem_cons_succ, List.getElem_cons_zero, Act.put, List.setIfInBounds_toArray, List.set_cons_zero, List.set_cons_succ]
            refine but_take (f := 43) (i := 19) (v := ?vsc19) rfl (by kernel_rfl) (by kernel_rfl) (by kernel_rfl) (by kernel_rfl) (by kernel_rfl) (fun _ _ _ h => h) (Or.inl ⟨((wanted_at rfl rfl rfl rfl).trans rfl), ?hysc19⟩) hSsc1 ?restsc19
            case hysc19 =>
              intro W hW
              go_simp
              exact rfl
            simp only [List.getElem_toArray, List.getElem_cons_succ, List.getElem_cons_zero, Act.put, List.setIfInBounds_toArray, List.set_cons_zero, List.set_cons_succ]
            refine but_take (f := 43) (i := 20) (v := ?vsc20) rfl (by kernel_rfl) (by kernel_rfl) (by kernel_rfl) (by kernel_rfl) (by kernel_rfl) (fun _ _ _ h => h) (Or.inl ⟨((wanted_at rfl rfl rfl rfl).trans rfl), ?hysc20⟩) hSsc1 ?restsc20
            case hysc20 =>
              intro W hW
              go_simp
              exact rfl
            simp only [List.getElem_toArray, List.getElem_cons_succ, List.getElem_cons_zero, Act.put, List.setIfInBounds_toArray, List.set_cons_zero, List.set_cons_succ]
            refine but_take (f := 43) (i := 21) (v := ?vsc21) rfl (by kernel_rfl) (by kernel_rfl) (by kernel_rfl) (by kernel_rfl) (by kernel_rfl) (fun _ _ _ h => h) (Or.inl ⟨(by rfl), ?hysc21⟩) hSsc1 ?restsc21
            case hysc21 =>
              intro W hW
              go_simp
              exact rfl
            simp only [List.getElem_toArray, List.getElem_cons_succ, List.getElem_cons_zero, Act.put, List.setIfInBounds_toArray, List.set_cons_zero, List.set_cons_succ]
            refine but_take (f := 43) (i := 22) (v := ?vsc22) rfl (by kernel_rfl) (by kernel_rfl) (by kernel_rfl) (by kernel_rfl) (by kernel_rfl) (fun _ _ _ h => h) (Or.inl ⟨(by rfl), ?hysc22⟩) hSsc1 ?restsc22
            case hysc22 =>
              intro W hW
              go_simp
              exact rfl
            simp only [List.getElem_toArray, List.getElem_cons_succ, List.getElem_cons_zero, Act.put, List.setIfInBounds_toArray, List.set_cons_zero, List.set_cons_succ]
            refine but_take (f := 43) (i := 23) (v := ?vsc23) rfl (by kernel_rfl) (by kernel_rfl) (by kernel_rfl) (by kernel_rfl) (by kernel_rfl) (fun _ _ _ h => h) (Or.inl ⟨((wanted_at rfl rfl rfl rfl).trans rfl), ?hysc23⟩) hSsc1 ?restsc23
            case hysc23 =>
              intro W hW
              have hb0 : Below wr.heap.size wr W := bstep (Below.drew1 _) hW
              obtain ⟨t0, t1, t2⟩ := box2 (box_on QT.out hb0)
              go_simp
              exact rfl
            simp only [List.getElem_toArray, List.getElem_cons_succ, List.getElem_cons_zero, Act.put, List.setIfInBounds_toArray, List.set_cons_zero, List.set_cons_succ]
            refine but_take (f := 43) (i := 24) (v := ?vsc24) rfl (by kernel_rfl) (by kernel_rfl) (by kernel_rfl) (by kernel_rfl) (by kernel_rfl) (fun _ _ _ h => h) (Or.inl ⟨((wanted_at rfl rfl rfl rfl).trans rfl), ?hysc24⟩) hSsc1 ?restsc24
            case hysc24 =>
              intro W hW
              go_simp
              exact rfl
            simp only [List.getElem_toArray, List.getElem_cons_succ, List.getElem_cons_zero, Act.put, List.setIfInBounds_toArray, List.set_cons_zero, List.set_cons_succ]
            refine but_take (f := 43) (i := 25) (v := ?vsc25) rfl (by kernel_rfl) (by kernel_rfl) (by kernel_rfl) (by kernel_rfl) (by kernel_rfl) (fun _ _ _ h => h) (Or.inl ⟨((wanted_at rfl rfl rfl rfl).trans rfl), ?hysc25⟩) hSsc1 ?restsc25
            case hysc25 =>
              intro W hW
              go_simp
              exact rfl
            simp only [List.getElem_toArray, List.getElem_cons_succ, List.getElem_cons_zero, Act.put, List.setIfInBounds_toArray, List.set_cons_zero, List.set_cons_succ]
            refine but_take (f := 43) (i := 26) (v := ?vsc26) rfl (by kernel_rfl) (by kernel_rfl) (by kernel_rfl) (by kernel_rfl) (by kernel_rfl) (fun _ _ _ h => h) (Or.inl ⟨((wanted_at rfl rfl rfl rfl).trans rfl), ?hysc26⟩) hSsc1 ?restsc26
            case hysc26 =>
              intro W hW
              go_simp
              exact rfl
            simp only [List.getElem_toArray, List.getElem_cons_succ, List.getElem_cons_zero, Act.put, List.setIfInBounds_toArray, List.set_cons_zero, List.set_cons_succ]
            refine but_take (f := 43) (i := 27) (v := ?vsc27) rfl (by kernel_rfl) (by kernel_rfl) (by kernel_rfl) (by kernel_rfl) (by kernel_rfl) (fun _ _ _ h => h) (Or.inl ⟨((wanted_at rfl rfl rfl rfl).trans rfl), ?hysc27⟩) hSsc1 ?restsc27
            case hysc27 =>
              intro W hW
              go_simp
              exact rfl
            simp only [List.getElem_toArray, List.getElem_cons_succ, List.getElem_cons_zero, Act.put, List.setIfInBounds_toArray, List.set_cons_zero, List.set_cons_succ]
            refine but_take (f := 43) (i := 28) (v := ?vsc28) rfl (by kernel_rfl) (by kernel_rfl) (by kernel_rfl) (by kernel_rfl) (by kernel_rfl) (fun _ _ _ h => h) (Or.inl ⟨((wanted_at rfl rfl rfl rfl).trans rfl), ?hysc28⟩) hSsc1 ?restsc28
            case hysc28 =>
              intro W hW
              have hb0 : Below wr.heap.size wr W := bstep (Below.drew1 _) hW
              obtain ⟨c0, c1, c2, c3, c4⟩ := FK.out.on hbb hb0
              go_simp
              exact rfl
            simp only [List.getElem_toArray, List.getElem_cons_succ, List.getElem_cons_zero, Act.put, List.setIfInBounds_toArray, List.set_cons_zero, List.set_cons_succ]
            refine but_take (f := 43) (i := 29) (v := ?vsc29) rfl (by kernel_rfl) (by kernel_rfl) (by kernel_rfl) (by kernel_rfl) (by kernel_rfl) (fun _ _ _ h => h) (Or.inl ⟨((wanted_at rfl rfl rfl rfl).trans rfl), ?hysc29⟩) hSsc1 ?restsc29
            case hysc29 =>
              intro W hW
              go_simp
              exact rfl
            simp only [List.getElem_toArray, List.getElem_cons_succ, List.getElem_cons_zero, Act.put, List.setIfInBounds_toArray, List.set_cons_zero, List.set_cons_succ]
            refine but_take (f := 43) (i := 31) (v := ?vsc31) rfl (by kernel_rfl) (by kernel_rfl) (by kernel_rfl) (by kernel_rfl) (by kernel_rfl) (fun _ _ _ h => h) (Or.inl ⟨((wanted_at rfl rfl rfl rfl).trans rfl), ?hysc31⟩) hSsc1 ?restsc31
            case hysc31 =>
              intro W hW
              go_simp
              exact rfl
            simp only [List.getElem_toArray, List.getElem_cons_succ, List.getElem_cons_zero, Act.put, List.setIfInBounds_toArray, List.set_cons_zero, List.set_cons_succ]
            refine but_run (i := 30) (by kernel_rfl) rfl ((wanted_at rfl rfl rfl rfl).trans rfl) ?_
            simp only [List.getElem_toArray, List.getElem_cons_succ, List.getElem_cons_zero]
            intro K HK
            go_wp2_with fail
            refine (HSE.out _ (bstep (Below.drew1 _) hSsc1)).mono ?_
            rintro r Vsc2 ⟨rfl, hBsc2⟩
            have hSsc2 := bstep hSsc1 hBsc2
            go_wp2_with fail
            refine HK.out _ Vsc2 (fun _ => hSsc2) ?_
            clear HK
            refine but_take (f := 43) (i := 32) (v := ?vsc32) rfl (by kernel_rfl) (by kernel_rfl) (by kernel_rfl) (by kernel_rfl) (by kernel_rfl) (fun _ _ _ h => h) (Or.inl ⟨((wanted_at rfl rfl rfl rfl).trans rfl), ?hysc32⟩) hSsc2 ?restsc32
            case hysc32 =>
              intro W hW
              go_simp
              exact rfl
            simp only [List.getElem_toArray, List.getElem_cons_succ, List.getElem_cons_zero, Act.put, List.setIfInBounds_toArray, List.set_cons_zero, List.set_cons_succ]
            refine but_take (f := 43) (i := 33) (v := ?vsc33) rfl (by kernel_rfl) (by kernel_rfl) (by kernel_rfl) (by kernel_rfl) (by kernel_rfl) (fun _ _ _ h => h) (Or.inl ⟨((wanted_at rfl rfl rfl rfl).trans rfl), ?hysc33⟩) hSsc2 ?restsc33
            case hysc33 =>
              intro W hW
              go_simp
              exact rfl
            simp only [List.getElem_toArray, List.getElem_cons_succ, List.getElem_cons_zero, Act.put, List.setIfInBounds_toArray, List.set_cons_zero, List.set_cons_succ]
            refine but_take (f := 43) (i := 34) (v := ?vsc34) rfl (by kernel_rfl) (by kernel_rfl) (by kernel_rfl) (by kernel_rfl) (by kernel_rfl) (fun _ _ _ h => h) (Or.inl ⟨((wanted_at rfl rfl rfl rfl).trans rfl), ?hysc34⟩) hSsc2 ?restsc34
            case hysc34 =>
              intro W hW
              go_simp
              exact rfl
            simp only [List.getElem_toArray, List.getElem_cons_succ, List.getElem_cons_zero, Act.put, List.setIfInBounds_toArray, List.set_cons_zero, List.set_cons_succ]
            refine but_take (f := 43) (i := 35) (v := ?vsc35) rfl (by kernel_rfl) (by kernel_rfl) (by kernel_rfl) (by kernel_rfl) (by kernel_rfl) (fun _ _ _ h => h) (Or.inl ⟨((wanted_at rfl rfl rfl rfl).trans rfl), ?hysc35⟩) hSsc2 ?restsc35
            case hysc35 =>
              intro W hW
              go_simp
              exact rfl
            simp only [List.getElem_toArray, List.getElem_cons_succ, List.getElem_cons_zero, Act.put, List.setIfInBounds_toArray, List.set_cons_zero, List.set_cons_succ]
            refine but_take (f := 43) (i := 36) (v := ?vsc36) rfl (by kernel_rfl) (by kernel_rfl) (by kernel_rfl) (by kernel_rfl) (by kernel_rfl) (fun _ _ _ h => h) (Or.inl ⟨((wanted_at rfl rfl rfl rfl).trans rfl), ?hysc36⟩) hSsc2 ?restsc36
            case hysc36 =>
              intro W hW
              go_simp
              exact rfl
            simp only [List.getElem_toArray, List.getElem_cons_succ, List.getElem_cons_zero, Act.put, List.setIfInBounds_toArray, List.set_cons_zero, List.set_cons_succ]
            refine but_take (f := 43) (i := 37) (v := ?vsc37) rfl (by kernel_rfl) (by kernel_rfl) (by kernel_rfl) (by kernel_rfl) (by kernel_rfl) (fun _ _ _ h => h) (Or.inl ⟨((wanted_at rfl rfl rfl rfl).trans rfl), ?hysc37⟩) hSsc2 ?restsc37
            case hysc37 =>
              intro W hW
              have hb0 : Below wr.heap.size wr W := bstep (Below.drew1 _) hW
              obtain ⟨c0, c1, c2, c3, c4⟩ := FK.out.on hbb hb0
              go_simp
              exact rfl
            simp only [List.getElem_toArray, List.getElem_cons_succ, List.getElem_cons_zero, Act.put, List.setIfInBounds_toArray, List.set_cons_zero, List.set_cons_succ]
            refine but_take (f := 43) (i := 38) (v := ?vsc38) rfl (by kernel_rfl) (by kernel_rfl) (by kernel_rfl) (by kernel_rfl) (by kernel_rfl) (fun _ _ _ h => h) (Or.inl ⟨((wanted_at rfl rfl rfl rfl).trans rfl), ?hysc38⟩) hSsc2 ?restsc38
            case hysc38 =>
              intro W hW
              go_simp
              exact rfl
            simp only [List.getElem_toArray, List.getElem_cons_succ, List.getElem_cons_zero, Act.put, List.setIfInBounds_toArray, List.set_cons_zero, List.set_cons_succ]
            refine but_take (f := 43) (i := 39) (v := ?vsc39) rfl (by kernel_rfl) (by kernel_rfl) (by kernel_rfl) (by kernel_rfl) (by kernel_rfl) (fun _ _ _ h => h) (Or.inl ⟨((wanted_at rfl rfl rfl rfl).trans rfl), ?hysc39⟩) hSsc2 ?restsc39
            case hysc39 =>
              intro W hW
              have hb0 : Below wr.heap.size wr W := bstep (Below.drew1 _) hW
              obtain ⟨k0, k1, k2, k3, k4, k5⟩ := box5 (box_on QK.out hb0)
              go_simp
              exact rfl
            simp only [List.getElem_toArray, List.getElem_cons_succ, List.getElem_cons_zero, Act.put, List.setIfInBounds_toArray, List.set_cons_zero, List.set_cons_succ]
            refine but_take (f := 43) (i := 40) (v := ?vsc40) rfl (by kernel_rfl) (by kernel_rfl) (by kernel_rfl) (by kernel_rfl) (by kernel_rfl) (fun _ _ _ h => h) (Or.inl ⟨((wanted_at rfl rfl rfl rfl).trans rfl), ?hysc40⟩) hSsc2 ?restsc40
            case hysc40 =>
              intro W hW
              go_simp
              exact rfl
            simp only [List.getElem_toArray, List.getElem_cons_succ, List.getElem_cons_zero, Act.put, List.setIfInBounds_toArray, List.set_cons_zero, List.set_cons_succ]
            refine but_take (f := 43) (i := 41) (v := ?vsc41) rfl (by kernel_rfl) (by kernel_rfl) (by kernel_rfl) (by kernel_rfl) (by kernel_rfl) (fun _ _ _ h => h) (Or.inl ⟨((wanted_at rfl rfl rfl rfl).trans rfl), ?hysc41⟩) hSsc2 ?restsc41
            case hysc41 =>
              intro W hW
              go_simp
              exact rfl
            simp only [List.getElem_toArray, List.getElem_cons_succ, List.getElem_cons_zero, Act.put, List.setIfInBounds_toArray, List.set_cons_zero, List.set_cons_succ]
            refine but_take (f := 43) (i := 42) (v := ?vsc42) rfl (by kernel_rfl) (by kernel_rfl) (by kernel_rfl) (by kernel_rfl) (by kernel_rfl) (fun _ _ _ h => h) (Or.inl ⟨((wanted_at rfl rfl rfl rfl).trans rfl), ?hysc42⟩) hSsc2 ?restsc42
            case hysc42 =>
              intro W hW
              go_simp
              exact rfl
            simp only [List.getElem_toArray, List.getElem_cons_succ, List.getElem_cons_zero, Act.put, List.setIfInBounds_toArray, List.set_cons_zero, List.set_cons_succ]
            refine but_run (i := 43) (by kernel_rfl) rfl (by rfl) ?_
            simp only [List.getElem_toArray, List.getElem_cons_succ, List.getElem_cons_zero]
            intro K HK
            go_wp2_with fail
            refine HK.out _ Vsc2 (fun h => absurd rfl h) ?_
            clear HK
            refine but_done (by kernel_rfl) ?_
            go_wp2_with fail
            go_roundw
            case rel => exact ⟨i + 1, by omega, by go_num, Lib.hid (bstep HX.out (bstep (Below.drew1 _) hSsc2))⟩
            case measure => simp [intOf]; omega
      · have i1 : ¬ (i : Int) < (KK.length : Int) := by omega
        replace QA := Lib.hid (box_on QA.out HX.out)
        replace QO := Lib.hid (box_on QO.out HX.out)
        replace RL := Lib.hid (RL.out.on HX.out)
        replace BB := Lib.hid (bstep BB.out HX.out)
        clear OK RT QT HSEE HX hi
        cases F with
        | none =>
          have h1 : ky = false := HKY.out.symm
          obtain ⟨hg0, ho0, _⟩ := HALL.out.1 rfl
          have h2 : ay = false := by rw [← HAY.out, hg0]; rfl
          have HO0 : Hid (oy = true → hasG l d = false) := Lib.hid (by rw [← HOY.out]; exact ho0)
          subst h1 h2
          clear ho0 hg0 HALL
          cases oy
          · go_wp2
            go_ret
            exact ⟨rfl, BB.out⟩
          · have hh := HO0.out rfl
            have hneg := HNL.out
            rw [hh] at hneg
            have HNG : Hid (decide (ageAtK l d < 0) = true) := Lib.hid hneg
            clear hh hneg HO0
            go_wp2_with fail
            refine (implAgeAt_any _ l d _ RL.out (by omega)).mono ?_
            rintro r w3 ⟨rfl, b3⟩
            have B3 := Lib.hid (bstep BB.out b3)
            have hng := HNG.out
            clear b3
            go_wp2
            go_ret
            exact ⟨rfl, B3.out⟩
        | some x =>
          have h1 : ky = true := HKY.out.symm
          have h2 : kx = x := HKX.out.symm
          obtain ⟨ha, hfr, hh, _, hown, hnon⟩ := HALL.out.2 x rfl
          subst h1 h2
          have HFR := Lib.hid hfr
          cases O with
          | some u =>
            have h3 : oy = true := HOY.out.symm
            have h4 : ox = u := HOX.out.symm
            obtain ⟨hxu, hv⟩ := hown u rfl
            have hge := HGQ.out
            rw [hh] at hge
            have HGE : Hid (decide (0 ≤ ageAtK l d) = true) := Lib.hid hge
            have HLT : Hid (ay = true → decide (ax.b < d) = true) := Lib.hid (fun h => by
              cases G with
              | none => have := HAY.out; rw [h] at this; cases this
              | some v => rw [← HAX.out]; exact decide_eq_true (hv v rfl))
            subst h3 h4 hxu
            clear hown hnon hv hge hfr ha hh HALL
            go_wp2_with fail
            refine (implAgeAt_any _ l d _ RL.out (by omega)).mono ?_
            rintro r w3 ⟨rfl, b3⟩
            have B3 := Lib.hid (bstep BB.out b3)
            have hge := HGE.out
            obtain ⟨k0, k1, k2, k3, k4, k5⟩ := box5 (box_on QK.out b3)
            obtain ⟨o0, o1, o2, o3, o4, o5⟩ := box5 (box_on QO.out b3)
            obtain ⟨a0, a1, a2, a3, a4, a5⟩ := box5 (box_on QA.out b3)
            clear b3
            cases ay
            · go_wp2
              go_ret
              exact ⟨rfl, B3.out⟩
            · have hlt := HLT.out rfl
              go_wp2
              go_ret
              exact ⟨rfl, B3.out⟩
          | none =>
            have h3 : oy = false := HOY.out.symm
            have hgx := hnon rfl
            have h4 : ay = true := by rw [← HAY.out, hgx]; rfl
            have h5 : ax = kx := by rw [← HAX.out, hgx]; rfl
            have hpp : (kx.a == p) = true := by rw [ha]; simp
            subst h3 h4 h5
            clear hown hnon hgx hfr ha hh HALL
            obtain ⟨k0, k1, k2, k3, k4, k5⟩ := box5 QK.out
            go_wp2_with fail
            refine (implIsFrom_any _ l ax.b d _ RL.out (by omega)).mono ?_
            rintro r w3 ⟨rfl, b3⟩
            rw [HFR.out]
            have B3 := Lib.hid (bstep BB.out b3)
            clear k0 k1 k2 k3 k4 k5
            obtain ⟨k0, k1, k2, k3, k4, k5⟩ := box5 (box_on QK.out b3)
            obtain ⟨a0, a1, a2, a3, a4, a5⟩ := box5 (box_on QA.out b3)
            clear b3
            go_wp2
            go_ret
            exact ⟨rfl, B3.out⟩
  · have d0 : decide ((1048576 : Int) < (cd.length : Int)) = true := decide_eq_true (by omega)
    clear hr
    go_enter Try.func3, Try.ntmps3
    go_wp2_with fail
    refine (big_any _ _ _ _).mono ?_
    rintro r w1 ⟨rfl, rfl⟩
    rw [d0]
    clear d0
    go_wp2
    go_ret
    exact ⟨rfl, Below.refl _ _⟩
end Go.Proofs.Ythopkhpiikiknaa
