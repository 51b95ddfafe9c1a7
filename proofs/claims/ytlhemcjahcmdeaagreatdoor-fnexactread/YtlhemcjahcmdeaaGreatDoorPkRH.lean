/- Several texts in one: SeeS. -/
import Derived.Test.YtlhemcjahcmdeaaGreatDoorPkRG
namespace Go.Proofs.YtlhemcjahcmdeaaGreatDoor
open Go.RowKit
set_option maxRecDepth 100000
set_option linter.unusedSimpArgs false
set_option linter.unusedVariables false

theorem l7Has_any (v : Value) (l : List Int) (x : Int) (w : World) (hv : Reads w w.heap.size v (intsD l)) (hn : l.length ≤ 2097152) : Calls Tryz.prog 264 #[v, .int .i64 x] w fun e w' => e = .returned (.bool (decide (x ∈ l))) ∧ w = w' := by
  obtain ⟨A, c, rfl, _, _⟩ := hv.lenN
  have HV := Lib.hid hv
  clear hv
  go_enter Tryz.func264, Tryz.ntmps264
  go_wp2
  go_loop [5] (fun i => ∃ k : Nat, k ≤ l.length ∧ i = .int .i64 k ∧ Hid (x ∉ l.take k)) (fun i => l.length - (intOf i).toNat)
  case atStart => exact ⟨0, Nat.zero_le _, rfl, Lib.hid (by simp)⟩
  case round =>
    obtain ⟨k, hk, rfl, HI⟩ := hrel
    by_cases hlt : k < l.length
    · obtain ⟨b, off, rfl, hbb, hc⟩ := HV.out.int hlt
      have c0 := hc k hlt
      unfold iV at c0
      have i1 : (k : Int) < (l.length : Int) := by omega
      have i2 : (0 : Int) ≤ (k : Int) := by omega
      clear hc
      cases hs : (l[k] == x)
      · have HS : Hid ((x == l[k]) = false) := Lib.hid (by simp at hs ⊢; omega)
        go_wp2
        go_round
        case rel => exact ⟨k + 1, by omega, by go_num, Lib.hid (take_no hlt HI.out HS.out)⟩
        case measure => simp [intOf]; omega
      · have HS := Lib.hid hs
        go_wp2
        go_ret
        refine ⟨ret_boolB ?_, rfl⟩
        have h1 : x ∈ l := by
          have := HS.out
          simp at this
          rw [← this]
          exact List.getElem_mem hlt
        rw [decide_eq_true h1]
    · go_wp2
      go_ret
      refine ⟨ret_boolB ?_, rfl⟩
      have h1 : x ∉ l := by
        have := HI.out
        rw [show k = l.length by omega, List.take_length] at this
        exact this
      rw [decide_eq_false h1]
def pathSK (l : List AgeD) (d : Int) : List Int := pathSGo l (l.length + 1) d
theorem pathSGo_len (l : List AgeD) (n : Nat) (d : Int) : (pathSGo l n d).length ≤ n := by
  induction n generalizing d with
  | zero => simp [pathSGo]
  | succ n ih =>
    rw [pathSGo]
    split
    · have := ih (parG l d)
      simp only [List.length_cons]
      omega
    · simp
theorem pathSK_len (l : List AgeD) (d : Int) : (pathSK l d).length ≤ l.length + 1 := pathSGo_len l _ d
set_option maxHeartbeats 4000000 in
theorem specPathOf_any (v : Value) (l : List AgeD) (d : Int) (w : World) (hv : Reads w w.heap.size v (agesD l)) (hn : l.length ≤ 2000000) : Calls Tryz.prog 210 #[v, .int .i64 d] w (NewI w (pathSK l d)) := by
  obtain ⟨A, c, rfl, _, _⟩ := hv.shapeG
  have HV := Lib.hid hv
  obtain ⟨R, hR⟩ : ∃ R, pathSK l d = R := ⟨_, rfl⟩
  rw [hR]
  unfold pathSK at hR
  have HR := Lib.hid hR
  have b0 := bal1 w (.cells #[] 3)
  have G0 := Lib.hid (show GrowI w _ _ [] from ⟨RowI.lit w, b0⟩)
  have HV0 := Lib.hid (hv.on b0)
  clear hv hR b0
  go_enter Tryz.func210, Tryz.ntmps210
  go_upto_region 2 with (fail)
  generalize w.alloc (.cells #[] 3) = w0 at *
  go_wp2_with fail
  refine (specAgeAt_any _ l d _ HV0.out (by omega)).mono ?_
  rintro e w1 ⟨rfl, rfl⟩
  go_wp2
  go_loopw [5, 6] (fun o i wr => ∃ (m : List Int) (e : Int), i = .int .i64 (ageAtK l e) ∧ Hid (m.length ≤ l.length + 1) ∧ Hid (m ++ pathSGo l (l.length + 1 - m.length) e = R) ∧ Hid (GrowI w wr o m)) (fun o _ _ => l.length + 1 - lenV o)
  case atStart => exact ⟨[], d, rfl, Lib.hid (Nat.zero_le _), Lib.hid (by simpa using HR.out), G0⟩
  case round =>
    clear G0 HV0
    obtain ⟨m, e, rfl, HM, HI, HX⟩ := hrel
    obtain ⟨hrow, hb⟩ := HX.out
    obtain ⟨Ao, co, rfl, _, _⟩ := hrow.shape
    have hgeq := ageAt_geq l e
    cases hh : hasG l e
    · rw [hh] at hgeq
      have hRe : R = m := by rw [← HI.out, pathS_no hh, List.append_nil]
      subst hRe
      generalize ageAtK l e = q at *
      have hq : decide (0 ≤ q) = false := hgeq
      clear hrow hb hh hgeq
      go_wp2
      go_ret
      exact ⟨_, rfl, HX.out.1, HX.out.2⟩
    · obtain ⟨hN, hq0⟩ := ageAt_has hh
      have hq : decide (0 ≤ ageAtK l e) = true := by rw [hh] at hgeq; exact hgeq
      rw [hq0] at hq ⊢
      by_cases hfull : m.length ≤ l.length
      · have d1 : decide (m.length ≤ l.length) = true := decide_eq_true hfull
        have d2 : decide ((m.length : Int) ≤ (l.length : Int)) = true := decide_eq_true (by omega)
        have hpar := parG_at hN
        have hget := ageI_get hN
        obtain ⟨b, off, rfl, hbb, hc⟩ := (HV.out.on hb).ages hN
        have hfu := HI.out
        rw [show l.length + 1 - m.length = (l.length - m.length) + 1 by omega, pathS_yes hh, hpar] at hfu
        have HFU := Lib.hid hfu
        obtain ⟨c0, c1⟩ := hc _ hN
        rw [hget] at c0
        have FK := Lib.hid (And.intro c0 c1)
        clear hc hgeq hh hpar hget hfu hq0
        generalize ageI l e = N at *
        obtain ⟨f, hf⟩ : ∃ f, (l[N]).b = f := ⟨_, rfl⟩
        rw [hf] at HFU FK c1
        clear hf
        have i1 : (N : Int) < (l.length : Int) := by omega
        have i2 : (0 : Int) ≤ (N : Int) := by omega
        have HAt := Lib.hid (At.intOne wr e 3)
        have ba := bal1 wr (.cells #[.int .i64 e] 3)
        have HRow := Lib.hid (hrow.on ba)
        have HB2 := Lib.hid (hb.trans (ba.mono hb.size))
        have HZ := Lib.hid HB2.out.size
        clear ba HX
        go_upto_region 5 with (at_builtin; refine wpList_appI _ rfl (.tmp 20) (.tmp 26) rfl w.heap.size _ m rfl HRow.out (some ⟨wr.heap.size, 0, none⟩) 1 1 [e] rfl rfl HAt.out (by simp; omega) HZ.out ?_; intro v2 w2 o2 b2; clear HRow HAt)
        have hb2 := HB2.out.trans b2
        obtain ⟨m2, hm2⟩ : ∃ m2, m ++ [e] = m2 := ⟨_, rfl⟩
        rw [hm2] at o2
        have hl2 : m2.length = m.length + 1 := by rw [← hm2]; simp
        obtain ⟨A2, e2, rfl, _, _⟩ := o2.shape
        have HL2 := Lib.hid hl2
        have HG2 := Lib.hid (show GrowI w w2 _ m2 from ⟨o2, hb2⟩)
        have hbw2 : b < w.heap.size := by
          obtain ⟨b', off', he, hbb', _⟩ := HV.out.ages hN
          cases he
          exact hbb'
        have F2 : Hid (w2.cell? ⟨b, off + N * 2, none⟩ = some (.int .i64 e) ∧ w2.cell? ⟨b, off + N * 2 + 1, none⟩ = some (.int .i64 f)) := Lib.hid ⟨(World.cell?_of_block (a := ⟨b, off + N * 2, none⟩) ((hb2.block b hbw2).trans (hb.block b hbw2).symm)).trans FK.out.1, (World.cell?_of_block (a := ⟨b, off + N * 2 + 1, none⟩) ((hb2.block b hbw2).trans (hb.block b hbw2).symm)).trans FK.out.2⟩
        have HM2 : Hid (m2.length ≤ l.length + 1) := Lib.hid (by omega)
        have HI2 : Hid (m2 ++ pathSGo l (l.length + 1 - m2.length) f = R) := Lib.hid (by rw [show l.length + 1 - m2.length = l.length - m.length by omega, ← HFU.out, ← hm2]; simp)
        have HVW := Lib.hid (HV.out.on HG2.out.2)
        have HME : Hid (l.length + 1 - m2.length < l.length + 1 - m.length) := Lib.hid (by omega)
        clear c0 c1 hrow hb hb2 b2 o2 HB2 HZ FK hl2 HI HM hm2 hfull d1 d2 HFU HL2
        obtain ⟨c0, c1⟩ := F2.out
        go_wp2_with fail
        refine (specAgeAt_any _ l f _ HVW.out (by omega)).mono ?_
        rintro r w3 ⟨rfl, rfl⟩
        clear c0 c1
        go_wp2
        go_roundw
        case rel => exact ⟨m2, f, rfl, HM2, HI2, HG2⟩
        case measure => simp only [lenV]; exact HME.out
      · have d1 : decide (m.length ≤ l.length) = false := decide_eq_false hfull
        have d2 : decide ((m.length : Int) ≤ (l.length : Int)) = false := decide_eq_false (by omega)
        have hRe : R = m := by
          have h0 : l.length + 1 - m.length = 0 := by omega
          rw [← HI.out, h0, pathSGo, List.append_nil]
        subst hRe
        generalize ageI l e = N at *
        clear hrow hb hh hgeq hq0
        go_wp2
        go_ret
        exact ⟨_, rfl, HX.out.1, HX.out.2⟩
theorem l7HasB_any (v : Value) (l : List Int) (x : Int) (w : World) (hv : Reads w w.heap.size v (intsD l)) (hn : l.length ≤ 2097152) : Calls Tryz.prog 264 #[v, .int .i64 x] w (SaysBool w (decide (x ∈ l))) := by
  refine (l7Has_any v l x w hv hn).mono ?_
  rintro r _ ⟨h, rfl⟩
  exact ⟨h, Below.refl _ _⟩
theorem RowK.set5 {w : World} {base g : Nat} {v u1 u2 u3 u4 u5 : Value} {l : List KeyD} (h : RowK w base v l) (hg : g < base) : RowK (((((w.setCell ⟨g, 0, none⟩ u1).setCell ⟨g, 1, none⟩ u2).setCell ⟨g, 2, none⟩ u3).setCell ⟨g, 3, none⟩ u4).setCell ⟨g, 4, none⟩ u5) base v l :=
  ((((h.set hg).set hg).set hg).set hg).set hg
set_option maxHeartbeats 8000000 in
theorem l8Near_any (vl vn vp : Value) (lo : List Int) (ts : List NodeD) (p : Int) (path : List Int) (w : World) (hv : RdT w w.heap.size vl vn lo ts) (hvp : Reads w w.heap.size vp (intsD path)) (hn : ts.length ≤ 1048576) (hs : sumT ts ≤ 1048576) (hnp : path.length ≤ 2097152) :
    Calls Tryz.prog 209 #[.agg #[vl, vn], .int .i64 p, vp] w (SaysFind w (nearK (keysOfK ts p) path)) := by
  obtain ⟨A, c, A', c', rfl, rfl⟩ := hv.shape
  obtain ⟨Ap, cp, rfl, _, _⟩ := hvp.lenN
  unfold SaysFind KeyD.v keyV
  have hkl := keysOf_len ts p
  obtain ⟨L, hL⟩ : ∃ L, keysOfK ts p = L := ⟨_, rfl⟩
  rw [hL] at hkl ⊢
  obtain ⟨R, hR⟩ : ∃ R, nearK L path = R := ⟨_, rfl⟩
  rw [hR]
  unfold nearK at hR
  obtain ⟨q0, q1, q2⟩ := al3 w (.cells #[.slice A lo.length c, .slice A' ts.length c'] 27) (.cells #[.int .i64 0, .int .i64 0, .int .i64 0, .int .i64 0, .int .i64 0] 112) (.cells #[.int .i64 0, .int .i64 0, .int .i64 0, .int .i64 0, .int .i64 0] 112)
  have hb := bal3 w (.cells #[.slice A lo.length c, .slice A' ts.length c'] 27) (.cells #[.int .i64 0, .int .i64 0, .int .i64 0, .int .i64 0, .int .i64 0] 112) (.cells #[.int .i64 0, .int .i64 0, .int .i64 0, .int .i64 0, .int .i64 0] 112)
  have HV := Lib.hid (hv.on hb)
  have HVP := Lib.hid hvp
  have HB := Lib.hid hb
  have Q0 := Lib.hid q0
  have Q1 := Lib.hid q1
  have Q2 := Lib.hid q2
  have HSZ : Hid ((((w.alloc (.cells #[.slice A lo.length c, .slice A' ts.length c'] 27)).alloc (.cells #[.int .i64 0, .int .i64 0, .int .i64 0, .int .i64 0, .int .i64 0] 112)).alloc (.cells #[.int .i64 0, .int .i64 0, .int .i64 0, .int .i64 0, .int .i64 0] 112)).heap.size = w.heap.size + 1 + 1 + 1) := Lib.hid (by simp)
  have HR := Lib.hid hR
  have HL := Lib.hid hL
  have hl2 : L.length ≤ 1048576 := by omega
  clear hv hvp hb q0 q1 q2 hR hL hkl
  go_enter Tryz.func209, Tryz.ntmps209
  go_upto_region 3 with (fail)
  generalize ((w.alloc (.cells #[.slice A lo.length c, .slice A' ts.length c'] 27)).alloc (.cells #[.int .i64 0, .int .i64 0, .int .i64 0, .int .i64 0, .int .i64 0] 112)).alloc (.cells #[.int .i64 0, .int .i64 0, .int .i64 0, .int .i64 0, .int .i64 0] 112) = W at *
  obtain ⟨x0, x1, x2⟩ := box2 Q0.out
  go_wp2_with fail
  refine (specKeysOf_any _ _ lo ts p _ HV.out hn hs).mono ?_
  rintro r w1 ⟨v1, rfl, o1, b1⟩
  rw [HL.out] at o1
  obtain ⟨A1, c1, rfl, _, _⟩ := o1.shape
  have HRow := Lib.hid (show RowK w1 (w.heap.size + 1 + 1 + 1) (.slice A1 L.length c1) L from o1.mono (by have := HSZ.out; omega))
  replace Q1 := Lib.hid (box_on Q1.out b1)
  replace Q2 := Lib.hid (box_on Q2.out b1)
  replace HB := Lib.hid (bstep HB.out b1)
  have HZ := Lib.hid (show w.heap.size + 1 + 1 + 1 ≤ w1.heap.size by have := HSZ.out; have := b1.size; omega)
  clear o1 b1 x0 x1 x2 HV Q0 HSZ HL hn hs
  go_wp2
  go_loopw [9, 11] (fun f i wr => ∃ (k : Nat) (x : KeyD) (y : Bool) (o : Option KeyD), k ≤ L.length ∧ i = .int .i64 k ∧ f = .bool y ∧ Hid (o.isSome = y ∧ o.getD zK = x) ∧ Hid ((L.drop k).foldl (nearS path) o = R) ∧ Hid (wr.heap[w.heap.size + 1]? = some (.cells #[.int .i64 0, .int .i64 0, .int .i64 0, .int .i64 0, .int .i64 0] 112 (0, 0))) ∧ Hid (wr.heap[w.heap.size + 1 + 1]? = some (.cells #[.int .i64 x.a, .int .i64 x.b, .int .i64 x.c, .int .i64 x.d, .int .i64 x.e] 112 (0, 0))) ∧ Hid (RowK wr (w.heap.size + 1 + 1 + 1) (.slice A1 L.length c1) L) ∧ Hid (Below w.heap.size w wr) ∧ Hid (w.heap.size + 1 + 1 + 1 ≤ wr.heap.size)) (fun _ i _ => L.length - (intOf i).toNat)
  case atStart => exact ⟨0, ⟨0, 0, 0, 0, 0⟩, false, none, Nat.zero_le _, rfl, rfl, Lib.hid ⟨rfl, rfl⟩, HR, Q1, Q2, HRow, HB, HZ⟩
  case round =>
    clear Q1 Q2 HRow HB HZ HR
    obtain ⟨k, x, y, o, hk, rfl, rfl, HO, HI, Q1, Q2, HRow, HB, HZ⟩ := hrel
    by_cases hlt : k < L.length
    · obtain ⟨b, off, rfl, hbb, hc⟩ := HRow.out.owns.reads.keys hlt
      have i1 : (k : Int) < (L.length : Int) := by omega
      have i2 : (0 : Int) ≤ (k : Int) := by omega
      have FK := Lib.hid (hc k hlt)
      obtain ⟨M, hM⟩ : ∃ M, decide ((L[k]).b ∈ path) = M := ⟨_, rfl⟩
      obtain ⟨G, hG⟩ : ∃ G, decide (x.b < (L[k]).b) = G := ⟨_, rfl⟩
      have HNB : Hid (nearB path o L[k] = (M && (!y || G))) := Lib.hid (by rw [near_eq, HO.out.1, HO.out.2, hM, hG])
      have HM := Lib.hid hM
      clear hc hM
      go_upto_region 7 with (fail)
      cases M
      · cases y
        · refine but_begin (f := 20) (S := fun V => Below wr.drew.heap.size wr.drew V) (by kernel_rfl) ?_
          refine bt (f := 20) (i := 0) (v := ?vnff0) rfl (Or.inl ⟨(by rfl), ?hynff0⟩) (Below.refl _ _) ?restnff0
          case hynff0 => intro W hW; go_simp; exact rfl
          simp only [zA, zB, zC, Act.put, zD, zE, zF]
          refine bt (f := 20) (i := 1) (v := ?vnff1) rfl (Or.inl ⟨(by rfl), ?hynff1⟩) (Below.refl _ _) ?restnff1
          case hynff1 => intro W hW; go_simp; exact rfl
          simp only [zA, zB, zC, Act.put, zD, zE, zF]
          refine bt (f := 20) (i := 2) (v := ?vnff2) rfl (Or.inl ⟨(by rfl), ?hynff2⟩) (Below.refl _ _) ?restnff2
          case hynff2 => intro W hW; go_simp; exact rfl
          simp only [zA, zB, zC, Act.put, zD, zE, zF]
          refine bt (f := 20) (i := 3) (v := ?vnff3) rfl (Or.inl ⟨(by rfl), ?hynff3⟩) (Below.refl _ _) ?restnff3
          case hynff3 => intro W hW; go_simp; exact rfl
          simp only [zA, zB, zC, Act.put, zD, zE, zF]
          refine bt (f := 20) (i := 4) (v := ?vnff4) rfl (Or.inl ⟨(by rfl), ?hynff4⟩) (Below.refl _ _) ?restnff4
          case hynff4 => intro W hW; go_simp; exact rfl
          simp only [zA, zB, zC, Act.put, zD, zE, zF]
          refine bt (f := 20) (i := 5) (v := ?vnff5) rfl (Or.inl ⟨(by rfl), ?hynff5⟩) (Below.refl _ _) ?restnff5
          case hynff5 =>
            intro W hW
            have hb0 : Below wr.heap.size wr W := bstep (Below.drew1 _) hW
            obtain ⟨c0, c1, c2, c3, c4⟩ := FK.out.on hbb hb0
            go_simp
            exact rfl
          simp only [zA, zB, zC, Act.put, zD, zE, zF]
          refine but_run (i := 6) (by kernel_rfl) rfl (by rfl) ?_
          simp only [zA, zB, zC]
          intro K HK
          go_wp2_with fail
          refine (l7HasB_any _ path (L[k]).b _ (HVP.out.on (bstep HB.out (bstep (Below.drew1 _) (Below.refl _ _)))) hnp).mono ?_
          rintro r Vnff1 ⟨rfl, hBnff1⟩
          rw [HM.out]
          have hSnff1 := bstep (Below.refl _ _) hBnff1
          go_wp2_with fail
          refine HK.out _ Vnff1 (fun _ => hSnff1) ?_
          clear HK
          refine bt (f := 20) (i := 7) (v := ?vnff7) rfl (Or.inl ⟨(by rfl), ?hynff7⟩) hSnff1 ?restnff7
          case hynff7 => intro W hW; go_simp; exact rfl
          simp only [zA, zB, zC, Act.put, zD, zE, zF]
          refine bt (f := 20) (i := 8) (v := undef) rfl (Or.inr ⟨((wanted_at rfl rfl rfl rfl).trans rfl), rfl⟩) hSnff1 ?_
          simp only [zA, zB, zC, Act.put, zD, zE, zF]
          refine bt (f := 20) (i := 9) (v := undef) rfl (Or.inr ⟨((wanted_at rfl rfl rfl rfl).trans rfl), rfl⟩) hSnff1 ?_
          simp only [zA, zB, zC, Act.put, zD, zE, zF]
          refine bt (f := 20) (i := 10) (v := undef) rfl (Or.inr ⟨((wanted_at rfl rfl rfl rfl).trans rfl), rfl⟩) hSnff1 ?_
          simp only [zA, zB, zC, Act.put, zD, zE, zF]
          refine bt (f := 20) (i := 11) (v := undef) rfl (Or.inr ⟨(wanted_un rfl rfl rfl rfl), rfl⟩) hSnff1 ?_
          simp only [zA, zB, zC, Act.put, zD, zE, zF]
          refine bt (f := 20) (i := 12) (v := undef) rfl (Or.inr ⟨(wanted_un rfl rfl rfl rfl), rfl⟩) hSnff1 ?_
          simp only [zA, zB, zC, Act.put, zD, zE, zF]
          refine bt (f := 20) (i := 13) (v := undef) rfl (Or.inr ⟨(wanted_un rfl rfl rfl rfl), rfl⟩) hSnff1 ?_
          simp only [zA, zB, zC, Act.put, zD, zE, zF]
          refine bt (f := 20) (i := 14) (v := undef) rfl (Or.inr ⟨(wanted_un rfl rfl rfl rfl), rfl⟩) hSnff1 ?_
          simp only [zA, zB, zC, Act.put, zD, zE, zF]
          refine bt (f := 20) (i := 15) (v := undef) rfl (Or.inr ⟨(wanted_un rfl rfl rfl rfl), rfl⟩) hSnff1 ?_
          simp only [zA, zB, zC, Act.put, zD, zE, zF]
          refine bt (f := 20) (i := 16) (v := undef) rfl (Or.inr ⟨(wanted_un rfl rfl rfl rfl), rfl⟩) hSnff1 ?_
          simp only [zA, zB, zC, Act.put, zD, zE, zF]
          refine bt (f := 20) (i := 17) (v := undef) rfl (Or.inr ⟨(wanted_un rfl rfl rfl rfl), rfl⟩) hSnff1 ?_
          simp only [zA, zB, zC, Act.put, zD, zE, zF]
          refine bt (f := 20) (i := 18) (v := undef) rfl (Or.inr ⟨(wanted_un rfl rfl rfl rfl), rfl⟩) hSnff1 ?_
          simp only [zA, zB, zC, Act.put, zD, zE, zF]
          refine bt (f := 20) (i := 19) (v := undef) rfl (Or.inr ⟨((wanted_at rfl rfl rfl rfl).trans rfl), rfl⟩) hSnff1 ?_
          simp only [zA, zB, zC, Act.put, zD, zE, zF]
          refine but_run (i := 20) (by kernel_rfl) rfl (by rfl) ?_
          simp only [zA, zB, zC]
          intro K HK
          go_wp2_with fail
          refine HK.out _ Vnff1 (fun h => absurd rfl h) ?_
          clear HK
          refine but_done (by kernel_rfl) ?_
          go_wp2_with fail
          go_roundw
          case rel => exact ⟨k + 1, x, false, o, by omega, by go_num, rfl, HO, Lib.hid (near_no hlt HNB.out HI.out), Lib.hid (box_on Q1.out (bstep (Below.drew1 _) hSnff1)), Lib.hid (box_on Q2.out (bstep (Below.drew1 _) hSnff1)), Lib.hid (HRow.out.on (bstep (Below.drew1 _) hSnff1)), Lib.hid (bstep HB.out (bstep (Below.drew1 _) hSnff1)), Lib.hid (Nat.le_trans HZ.out ((bstep (Below.drew1 _) hSnff1)).size)⟩
          case measure => simp [intOf]; omega
        · refine but_begin (f := 20) (S := fun V => Below wr.drew.heap.size wr.drew V) (by kernel_rfl) ?_
          refine bt (f := 20) (i := 0) (v := ?vnft0) rfl (Or.inl ⟨(by rfl), ?hynft0⟩) (Below.refl _ _) ?restnft0
          case hynft0 => intro W hW; go_simp; exact rfl
          simp only [zA, zB, zC, Act.put, zD, zE, zF]
          refine bt (f := 20) (i := 1) (v := ?vnft1) rfl (Or.inl ⟨(by rfl), ?hynft1⟩) (Below.refl _ _) ?restnft1
          case hynft1 => intro W hW; go_simp; exact rfl
          simp only [zA, zB, zC, Act.put, zD, zE, zF]
          refine bt (f := 20) (i := 2) (v := ?vnft2) rfl (Or.inl ⟨(by rfl), ?hynft2⟩) (Below.refl _ _) ?restnft2
          case hynft2 => intro W hW; go_simp; exact rfl
          simp only [zA, zB, zC, Act.put, zD, zE, zF]
          refine bt (f := 20) (i := 3) (v := ?vnft3) rfl (Or.inl ⟨(by rfl), ?hynft3⟩) (Below.refl _ _) ?restnft3
          case hynft3 => intro W hW; go_simp; exact rfl
          simp only [zA, zB, zC, Act.put, zD, zE, zF]
          refine bt (f := 20) (i := 4) (v := ?vnft4) rfl (Or.inl ⟨(by rfl), ?hynft4⟩) (Below.refl _ _) ?restnft4
          case hynft4 => intro W hW; go_simp; exact rfl
          simp only [zA, zB, zC, Act.put, zD, zE, zF]
          refine bt (f := 20) (i := 5) (v := ?vnft5) rfl (Or.inl ⟨(by rfl), ?hynft5⟩) (Below.refl _ _) ?restnft5
          case hynft5 =>
            intro W hW
            have hb0 : Below wr.heap.size wr W := bstep (Below.drew1 _) hW
            obtain ⟨c0, c1, c2, c3, c4⟩ := FK.out.on hbb hb0
            go_simp
            exact rfl
          simp only [zA, zB, zC, Act.put, zD, zE, zF]
          refine but_run (i := 6) (by kernel_rfl) rfl (by rfl) ?_
          simp only [zA, zB, zC]
          intro K HK
          go_wp2_with fail
          refine (l7HasB_any _ path (L[k]).b _ (HVP.out.on (bstep HB.out (bstep (Below.drew1 _) (Below.refl _ _)))) hnp).mono ?_
          rintro r Vnft1 ⟨rfl, hBnft1⟩
          rw [HM.out]
          have hSnft1 := bstep (Below.refl _ _) hBnft1
          go_wp2_with fail
          refine HK.out _ Vnft1 (fun _ => hSnft1) ?_
          clear HK
          refine bt (f := 20) (i := 7) (v := ?vnft7) rfl (Or.inl ⟨(by rfl), ?hynft7⟩) hSnft1 ?restnft7
          case hynft7 => intro W hW; go_simp; exact rfl
          simp only [zA, zB, zC, Act.put, zD, zE, zF]
          refine bt (f := 20) (i := 8) (v := undef) rfl (Or.inr ⟨((wanted_at rfl rfl rfl rfl).trans rfl), rfl⟩) hSnft1 ?_
          simp only [zA, zB, zC, Act.put, zD, zE, zF]
          refine bt (f := 20) (i := 9) (v := undef) rfl (Or.inr ⟨((wanted_at rfl rfl rfl rfl).trans rfl), rfl⟩) hSnft1 ?_
          simp only [zA, zB, zC, Act.put, zD, zE, zF]
          refine bt (f := 20) (i := 10) (v := undef) rfl (Or.inr ⟨((wanted_at rfl rfl rfl rfl).trans rfl), rfl⟩) hSnft1 ?_
          simp only [zA, zB, zC, Act.put, zD, zE, zF]
          refine bt (f := 20) (i := 11) (v := undef) rfl (Or.inr ⟨(wanted_un rfl rfl rfl rfl), rfl⟩) hSnft1 ?_
          simp only [zA, zB, zC, Act.put, zD, zE, zF]
          refine bt (f := 20) (i := 12) (v := undef) rfl (Or.inr ⟨(wanted_un rfl rfl rfl rfl), rfl⟩) hSnft1 ?_
          simp only [zA, zB, zC, Act.put, zD, zE, zF]
          refine bt (f := 20) (i := 13) (v := undef) rfl (Or.inr ⟨(wanted_un rfl rfl rfl rfl), rfl⟩) hSnft1 ?_
          simp only [zA, zB, zC, Act.put, zD, zE, zF]
          refine bt (f := 20) (i := 14) (v := undef) rfl (Or.inr ⟨(wanted_un rfl rfl rfl rfl), rfl⟩) hSnft1 ?_
          simp only [zA, zB, zC, Act.put, zD, zE, zF]
          refine bt (f := 20) (i := 15) (v := undef) rfl (Or.inr ⟨(wanted_un rfl rfl rfl rfl), rfl⟩) hSnft1 ?_
          simp only [zA, zB, zC, Act.put, zD, zE, zF]
          refine bt (f := 20) (i := 16) (v := undef) rfl (Or.inr ⟨(wanted_un rfl rfl rfl rfl), rfl⟩) hSnft1 ?_
          simp only [zA, zB, zC, Act.put, zD, zE, zF]
          refine bt (f := 20) (i := 17) (v := undef) rfl (Or.inr ⟨(wanted_un rfl rfl rfl rfl), rfl⟩) hSnft1 ?_
          simp only [zA, zB, zC, Act.put, zD, zE, zF]
          refine bt (f := 20) (i := 18) (v := undef) rfl (Or.inr ⟨(wanted_un rfl rfl rfl rfl), rfl⟩) hSnft1 ?_
          simp only [zA, zB, zC, Act.put, zD, zE, zF]
          refine bt (f := 20) (i := 19) (v := undef) rfl (Or.inr ⟨((wanted_at rfl rfl rfl rfl).trans rfl), rfl⟩) hSnft1 ?_
          simp only [zA, zB, zC, Act.put, zD, zE, zF]
          refine but_run (i := 20) (by kernel_rfl) rfl (by rfl) ?_
          simp only [zA, zB, zC]
          intro K HK
          go_wp2_with fail
          refine HK.out _ Vnft1 (fun h => absurd rfl h) ?_
          clear HK
          refine but_done (by kernel_rfl) ?_
          go_wp2_with fail
          go_roundw
          case rel => exact ⟨k + 1, x, true, o, by omega, by go_num, rfl, HO, Lib.hid (near_no hlt HNB.out HI.out), Lib.hid (box_on Q1.out (bstep (Below.drew1 _) hSnft1)), Lib.hid (box_on Q2.out (bstep (Below.drew1 _) hSnft1)), Lib.hid (HRow.out.on (bstep (Below.drew1 _) hSnft1)), Lib.hid (bstep HB.out (bstep (Below.drew1 _) hSnft1)), Lib.hid (Nat.le_trans HZ.out ((bstep (Below.drew1 _) hSnft1)).size)⟩
          case measure => simp [intOf]; omega
      · cases y
        · refine but_begin (f := 20) (S := fun V => Below wr.drew.heap.size wr.drew V) (by kernel_rfl) ?_
          refine bt (f := 20) (i := 0) (v := ?vntf0) rfl (Or.inl ⟨(by rfl), ?hyntf0⟩) (Below.refl _ _) ?restntf0
          case hyntf0 => intro W hW; go_simp; exact rfl
          simp only [zA, zB, zC, Act.put, zD, zE, zF]
          refine bt (f := 20) (i := 1) (v := ?vntf1) rfl (Or.inl ⟨(by rfl), ?hyntf1⟩) (Below.refl _ _) ?restntf1
          case hyntf1 => intro W hW; go_simp; exact rfl
          simp only [zA, zB, zC, Act.put, zD, zE, zF]
          refine bt (f := 20) (i := 2) (v := ?vntf2) rfl (Or.inl ⟨(by rfl), ?hyntf2⟩) (Below.refl _ _) ?restntf2
          case hyntf2 => intro W hW; go_simp; exact rfl
          simp only [zA, zB, zC, Act.put, zD, zE, zF]
          refine bt (f := 20) (i := 3) (v := ?vntf3) rfl (Or.inl ⟨(by rfl), ?hyntf3⟩) (Below.refl _ _) ?restntf3
          case hyntf3 => intro W hW; go_simp; exact rfl
          simp only [zA, zB, zC, Act.put, zD, zE, zF]
          refine bt (f := 20) (i := 4) (v := ?vntf4) rfl (Or.inl ⟨(by rfl), ?hyntf4⟩) (Below.refl _ _) ?restntf4
          case hyntf4 => intro W hW; go_simp; exact rfl
          simp only [zA, zB, zC, Act.put, zD, zE, zF]
          refine bt (f := 20) (i := 5) (v := ?vntf5) rfl (Or.inl ⟨(by rfl), ?hyntf5⟩) (Below.refl _ _) ?restntf5
          case hyntf5 =>
            intro W hW
            have hb0 : Below wr.heap.size wr W := bstep (Below.drew1 _) hW
            obtain ⟨c0, c1, c2, c3, c4⟩ := FK.out.on hbb hb0
            go_simp
            exact rfl
          simp only [zA, zB, zC, Act.put, zD, zE, zF]
          refine but_run (i := 6) (by kernel_rfl) rfl (by rfl) ?_
          simp only [zA, zB, zC]
          intro K HK
          go_wp2_with fail
          refine (l7HasB_any _ path (L[k]).b _ (HVP.out.on (bstep HB.out (bstep (Below.drew1 _) (Below.refl _ _)))) hnp).mono ?_
          rintro r Vntf1 ⟨rfl, hBntf1⟩
          rw [HM.out]
          have hSntf1 := bstep (Below.refl _ _) hBntf1
          go_wp2_with fail
          refine HK.out _ Vntf1 (fun _ => hSntf1) ?_
          clear HK
          refine bt (f := 20) (i := 7) (v := ?vntf7) rfl (Or.inl ⟨(by rfl), ?hyntf7⟩) hSntf1 ?restntf7
          case hyntf7 => intro W hW; go_simp; exact rfl
          simp only [zA, zB, zC, Act.put, zD, zE, zF]
          refine bt (f := 20) (i := 8) (v := ?vntf8) rfl (Or.inl ⟨((wanted_at rfl rfl rfl rfl).trans rfl), ?hyntf8⟩) hSntf1 ?restntf8
          case hyntf8 => intro W hW; go_simp; exact rfl
          simp only [zA, zB, zC, Act.put, zD, zE, zF]
          refine bt (f := 20) (i := 9) (v := ?vntf9) rfl (Or.inl ⟨((wanted_at rfl rfl rfl rfl).trans rfl), ?hyntf9⟩) hSntf1 ?restntf9
          case hyntf9 => intro W hW; go_simp; exact rfl
          simp only [zA, zB, zC, Act.put, zD, zE, zF]
          refine bt (f := 20) (i := 10) (v := ?vntf10) rfl (Or.inl ⟨((wanted_at rfl rfl rfl rfl).trans rfl), ?hyntf10⟩) hSntf1 ?restntf10
          case hyntf10 => intro W hW; go_simp; exact rfl
          simp only [zA, zB, zC, Act.put, zD, zE, zF]
          refine bt (f := 20) (i := 11) (v := undef) rfl (Or.inr ⟨((wanted_at rfl rfl rfl rfl).trans rfl), rfl⟩) hSntf1 ?_
          simp only [zA, zB, zC, Act.put, zD, zE, zF]
          refine bt (f := 20) (i := 12) (v := undef) rfl (Or.inr ⟨((wanted_at rfl rfl rfl rfl).trans rfl), rfl⟩) hSntf1 ?_
          simp only [zA, zB, zC, Act.put, zD, zE, zF]
          refine bt (f := 20) (i := 13) (v := undef) rfl (Or.inr ⟨((wanted_at rfl rfl rfl rfl).trans rfl), rfl⟩) hSntf1 ?_
          simp only [zA, zB, zC, Act.put, zD, zE, zF]
          refine bt (f := 20) (i := 14) (v := undef) rfl (Or.inr ⟨((wanted_at rfl rfl rfl rfl).trans rfl), rfl⟩) hSntf1 ?_
          simp only [zA, zB, zC, Act.put, zD, zE, zF]
          refine bt (f := 20) (i := 15) (v := undef) rfl (Or.inr ⟨((wanted_at rfl rfl rfl rfl).trans rfl), rfl⟩) hSntf1 ?_
          simp only [zA, zB, zC, Act.put, zD, zE, zF]
          refine bt (f := 20) (i := 16) (v := undef) rfl (Or.inr ⟨((wanted_at rfl rfl rfl rfl).trans rfl), rfl⟩) hSntf1 ?_
          simp only [zA, zB, zC, Act.put, zD, zE, zF]
          refine bt (f := 20) (i := 17) (v := undef) rfl (Or.inr ⟨((wanted_at rfl rfl rfl rfl).trans rfl), rfl⟩) hSntf1 ?_
          simp only [zA, zB, zC, Act.put, zD, zE, zF]
          refine bt (f := 20) (i := 18) (v := undef) rfl (Or.inr ⟨((wanted_at rfl rfl rfl rfl).trans rfl), rfl⟩) hSntf1 ?_
          simp only [zA, zB, zC, Act.put, zD, zE, zF]
          refine bt (f := 20) (i := 19) (v := ?vntf19) rfl (Or.inl ⟨((wanted_at rfl rfl rfl rfl).trans rfl), ?hyntf19⟩) hSntf1 ?restntf19
          case hyntf19 => intro W hW; go_simp; exact rfl
          simp only [zA, zB, zC, Act.put, zD, zE, zF]
          refine but_run (i := 20) (by kernel_rfl) rfl (by rfl) ?_
          simp only [zA, zB, zC]
          intro K HK
          go_wp2_with fail
          refine HK.out _ Vntf1 (fun h => absurd rfl h) ?_
          clear HK
          refine but_done (by kernel_rfl) ?_
          obtain ⟨c0, c1, c2, c3, c4⟩ := FK.out.on hbb (bstep (Below.drew1 _) hSntf1)
          obtain ⟨z0, z1, z2, z3, z4, z5⟩ := box5 (box_on Q2.out (bstep (Below.drew1 _) hSntf1))
          go_wp2
          go_roundw
          case rel => exact ⟨k + 1, L[k], true, some L[k], by omega, by go_num, rfl, Lib.hid ⟨rfl, rfl⟩, Lib.hid (near_yes hlt HNB.out HI.out), Lib.hid (heap_far5 (box_on Q1.out (bstep (Below.drew1 _) hSntf1)) (by omega)), Lib.hid (box_setsK (box_on Q2.out (bstep (Below.drew1 _) hSntf1))), Lib.hid ((HRow.out.on (bstep (Below.drew1 _) hSntf1)).set5 (by omega)), Lib.hid (b5' (bstep HB.out (bstep (Below.drew1 _) hSntf1)) (by omega)), Lib.hid (by simp only [World.size_setCell]; exact Nat.le_trans HZ.out ((bstep (Below.drew1 _) hSntf1)).size)⟩
          case measure => simp [intOf]; omega
        · cases G
          · refine but_begin (f := 20) (S := fun V => Below wr.drew.heap.size wr.drew V) (by kernel_rfl) ?_
            refine bt (f := 20) (i := 0) (v := ?vnttf0) rfl (Or.inl ⟨(by rfl), ?hynttf0⟩) (Below.refl _ _) ?restnttf0
            case hynttf0 => intro W hW; go_simp; exact rfl
            simp only [zA, zB, zC, Act.put, zD, zE, zF]
            refine bt (f := 20) (i := 1) (v := ?vnttf1) rfl (Or.inl ⟨(by rfl), ?hynttf1⟩) (Below.refl _ _) ?restnttf1
            case hynttf1 => intro W hW; go_simp; exact rfl
            simp only [zA, zB, zC, Act.put, zD, zE, zF]
            refine bt (f := 20) (i := 2) (v := ?vnttf2) rfl (Or.inl ⟨(by rfl), ?hynttf2⟩) (Below.refl _ _) ?restnttf2
            case hynttf2 => intro W hW; go_simp; exact rfl
            simp only [zA, zB, zC, Act.put, zD, zE, zF]
            refine bt (f := 20) (i := 3) (v := ?vnttf3) rfl (Or.inl ⟨(by rfl), ?hynttf3⟩) (Below.refl _ _) ?restnttf3
            case hynttf3 => intro W hW; go_simp; exact rfl
            simp only [zA, zB, zC, Act.put, zD, zE, zF]
            refine bt (f := 20) (i := 4) (v := ?vnttf4) rfl (Or.inl ⟨(by rfl), ?hynttf4⟩) (Below.refl _ _) ?restnttf4
            case hynttf4 => intro W hW; go_simp; exact rfl
            simp only [zA, zB, zC, Act.put, zD, zE, zF]
            refine bt (f := 20) (i := 5) (v := ?vnttf5) rfl (Or.inl ⟨(by rfl), ?hynttf5⟩) (Below.refl _ _) ?restnttf5
            case hynttf5 =>
              intro W hW
              have hb0 : Below wr.heap.size wr W := bstep (Below.drew1 _) hW
              obtain ⟨c0, c1, c2, c3, c4⟩ := FK.out.on hbb hb0
              go_simp
              exact rfl
            simp only [zA, zB, zC, Act.put, zD, zE, zF]
            refine but_run (i := 6) (by kernel_rfl) rfl (by rfl) ?_
            simp only [zA, zB, zC]
            intro K HK
            go_wp2_with fail
            refine (l7HasB_any _ path (L[k]).b _ (HVP.out.on (bstep HB.out (bstep (Below.drew1 _) (Below.refl _ _)))) hnp).mono ?_
            rintro r Vnttf1 ⟨rfl, hBnttf1⟩
            rw [HM.out]
            have hSnttf1 := bstep (Below.refl _ _) hBnttf1
            go_wp2_with fail
            refine HK.out _ Vnttf1 (fun _ => hSnttf1) ?_
            clear HK
            refine bt (f := 20) (i := 7) (v := ?vnttf7) rfl (Or.inl ⟨(by rfl), ?hynttf7⟩) hSnttf1 ?restnttf7
            case hynttf7 => intro W hW; go_simp; exact rfl
            simp only [zA, zB, zC, Act.put, zD, zE, zF]
            refine bt (f := 20) (i := 8) (v := ?vnttf8) rfl (Or.inl ⟨((wanted_at rfl rfl rfl rfl).trans rfl), ?hynttf8⟩) hSnttf1 ?restnttf8
            case hynttf8 => intro W hW; go_simp; exact rfl
            simp only [zA, zB, zC, Act.put, zD, zE, zF]
            refine bt (f := 20) (i := 9) (v := ?vnttf9) rfl (Or.inl ⟨((wanted_at rfl rfl rfl rfl).trans rfl), ?hynttf9⟩) hSnttf1 ?restnttf9
            case hynttf9 => intro W hW; go_simp; exact rfl
            simp only [zA, zB, zC, Act.put, zD, zE, zF]
            refine bt (f := 20) (i := 10) (v := ?vnttf10) rfl (Or.inl ⟨((wanted_at rfl rfl rfl rfl).trans rfl), ?hynttf10⟩) hSnttf1 ?restnttf10
            case hynttf10 => intro W hW; go_simp; exact rfl
            simp only [zA, zB, zC, Act.put, zD, zE, zF]
            refine bt (f := 20) (i := 11) (v := ?vnttf11) rfl (Or.inl ⟨((wanted_at rfl rfl rfl rfl).trans rfl), ?hynttf11⟩) hSnttf1 ?restnttf11
            case hynttf11 => intro W hW; go_simp; exact rfl
            simp only [zA, zB, zC, Act.put, zD, zE, zF]
            refine bt (f := 20) (i := 12) (v := ?vnttf12) rfl (Or.inl ⟨((wanted_at rfl rfl rfl rfl).trans rfl), ?hynttf12⟩) hSnttf1 ?restnttf12
            case hynttf12 => intro W hW; go_simp; exact rfl
            simp only [zA, zB, zC, Act.put, zD, zE, zF]
            refine bt (f := 20) (i := 13) (v := ?vnttf13) rfl (Or.inl ⟨((wanted_at rfl rfl rfl rfl).trans rfl), ?hynttf13⟩) hSnttf1 ?restnttf13
            case hynttf13 => intro W hW; go_simp; exact rfl
            simp only [zA, zB, zC, Act.put, zD, zE, zF]
            refine bt (f := 20) (i := 14) (v := ?vnttf14) rfl (Or.inl ⟨((wanted_at rfl rfl rfl rfl).trans rfl), ?hynttf14⟩) hSnttf1 ?restnttf14
            case hynttf14 => intro W hW; go_simp; exact rfl
            simp only [zA, zB, zC, Act.put, zD, zE, zF]
            refine bt (f := 20) (i := 15) (v := ?vnttf15) rfl (Or.inl ⟨((wanted_at rfl rfl rfl rfl).trans rfl), ?hynttf15⟩) hSnttf1 ?restnttf15
            case hynttf15 =>
              intro W hW
              have hb0 : Below wr.heap.size wr W := bstep (Below.drew1 _) hW
              obtain ⟨c0, c1, c2, c3, c4⟩ := FK.out.on hbb hb0
              go_simp
              exact rfl
            simp only [zA, zB, zC, Act.put, zD, zE, zF]
            refine bt (f := 20) (i := 16) (v := ?vnttf16) rfl (Or.inl ⟨((wanted_at rfl rfl rfl rfl).trans rfl), ?hynttf16⟩) hSnttf1 ?restnttf16
            case hynttf16 => intro W hW; go_simp; exact rfl
            simp only [zA, zB, zC, Act.put, zD, zE, zF]
            refine bt (f := 20) (i := 17) (v := ?vnttf17) rfl (Or.inl ⟨((wanted_at rfl rfl rfl rfl).trans rfl), ?hynttf17⟩) hSnttf1 ?restnttf17
            case hynttf17 =>
              intro W hW
              have hb0 : Below wr.heap.size wr W := bstep (Below.drew1 _) hW
              obtain ⟨z0, z1, z2, z3, z4, z5⟩ := box5 (box_on Q2.out hb0)
              go_simp
              exact rfl
            simp only [zA, zB, zC, Act.put, zD, zE, zF]
            refine bt (f := 20) (i := 18) (v := ?vnttf18) rfl (Or.inl ⟨((wanted_at rfl rfl rfl rfl).trans rfl), ?hynttf18⟩) hSnttf1 ?restnttf18
            case hynttf18 => intro W hW; go_simp; exact rfl
            simp only [zA, zB, zC, Act.put, zD, zE, zF]
            refine bt (f := 20) (i := 19) (v := ?vnttf19) rfl (Or.inl ⟨((wanted_at rfl rfl rfl rfl).trans rfl), ?hynttf19⟩) hSnttf1 ?restnttf19
            case hynttf19 => intro W hW; go_simp; exact rfl
            simp only [zA, zB, zC, Act.put, zD, zE, zF]
            refine but_run (i := 20) (by kernel_rfl) rfl (by rfl) ?_
            simp only [zA, zB, zC]
            intro K HK
            go_wp2_with fail
            refine HK.out _ Vnttf1 (fun h => absurd rfl h) ?_
            clear HK
            refine but_done (by kernel_rfl) ?_
            go_wp2_with fail
            go_roundw
            case rel => exact ⟨k + 1, x, true, o, by omega, by go_num, rfl, HO, Lib.hid (near_no hlt HNB.out HI.out), Lib.hid (box_on Q1.out (bstep (Below.drew1 _) hSnttf1)), Lib.hid (box_on Q2.out (bstep (Below.drew1 _) hSnttf1)), Lib.hid (HRow.out.on (bstep (Below.drew1 _) hSnttf1)), Lib.hid (bstep HB.out (bstep (Below.drew1 _) hSnttf1)), Lib.hid (Nat.le_trans HZ.out ((bstep (Below.drew1 _) hSnttf1)).size)⟩
            case measure => simp [intOf]; omega
          · refine but_begin (f := 20) (S := fun V => Below wr.drew.heap.size wr.drew V) (by kernel_rfl) ?_
            refine bt (f := 20) (i := 0) (v := ?vnttt0) rfl (Or.inl ⟨(by rfl), ?hynttt0⟩) (Below.refl _ _) ?restnttt0
            case hynttt0 => intro W hW; go_simp; exact rfl
            simp only [zA, zB, zC, Act.put, zD, zE, zF]
            refine bt (f := 20) (i := 1) (v := ?vnttt1) rfl (Or.inl ⟨(by rfl), ?hynttt1⟩) (Below.refl _ _) ?restnttt1
            case hynttt1 => intro W hW; go_simp; exact rfl
            simp only [zA, zB, zC, Act.put, zD, zE, zF]
            refine bt (f := 20) (i := 2) (v := ?vnttt2) rfl (Or.inl ⟨(by rfl), ?hynttt2⟩) (Below.refl _ _) ?restnttt2
            case hynttt2 => intro W hW; go_simp; exact rfl
            simp only [zA, zB, zC, Act.put, zD, zE, zF]
            refine bt (f := 20) (i := 3) (v := ?vnttt3) rfl (Or.inl ⟨(by rfl), ?hynttt3⟩) (Below.refl _ _) ?restnttt3
            case hynttt3 => intro W hW; go_simp; exact rfl
            simp only [zA, zB, zC, Act.put, zD, zE, zF]
            refine bt (f := 20) (i := 4) (v := ?vnttt4) rfl (Or.inl ⟨(by rfl), ?hynttt4⟩) (Below.refl _ _) ?restnttt4
            case hynttt4 => intro W hW; go_simp; exact rfl
            simp only [zA, zB, zC, Act.put, zD, zE, zF]
            refine bt (f := 20) (i := 5) (v := ?vnttt5) rfl (Or.inl ⟨(by rfl), ?hynttt5⟩) (Below.refl _ _) ?restnttt5
            case hynttt5 =>
              intro W hW
              have hb0 : Below wr.heap.size wr W := bstep (Below.drew1 _) hW
              obtain ⟨c0, c1, c2, c3, c4⟩ := FK.out.on hbb hb0
              go_simp
              exact rfl
            simp only [zA, zB, zC, Act.put, zD, zE, zF]
            refine but_run (i := 6) (by kernel_rfl) rfl (by rfl) ?_
            simp only [zA, zB, zC]
            intro K HK
            go_wp2_with fail
            refine (l7HasB_any _ path (L[k]).b _ (HVP.out.on (bstep HB.out (bstep (Below.drew1 _) (Below.refl _ _)))) hnp).mono ?_
            rintro r Vnttt1 ⟨rfl, hBnttt1⟩
            rw [HM.out]
            have hSnttt1 := bstep (Below.refl _ _) hBnttt1
            go_wp2_with fail
            refine HK.out _ Vnttt1 (fun _ => hSnttt1) ?_
            clear HK
            refine bt (f := 20) (i := 7) (v := ?vnttt7) rfl (Or.inl ⟨(by rfl), ?hynttt7⟩) hSnttt1 ?restnttt7
            case hynttt7 => intro W hW; go_simp; exact rfl
            simp only [zA, zB, zC, Act.put, zD, zE, zF]
            refine bt (f := 20) (i := 8) (v := ?vnttt8) rfl (Or.inl ⟨((wanted_at rfl rfl rfl rfl).trans rfl), ?hynttt8⟩) hSnttt1 ?restnttt8
            case hynttt8 => intro W hW; go_simp; exact rfl
            simp only [zA, zB, zC, Act.put, zD, zE, zF]
            refine bt (f := 20) (i := 9) (v := ?vnttt9) rfl (Or.inl ⟨((wanted_at rfl rfl rfl rfl).trans rfl), ?hynttt9⟩) hSnttt1 ?restnttt9
            case hynttt9 => intro W hW; go_simp; exact rfl
            simp only [zA, zB, zC, Act.put, zD, zE, zF]
            refine bt (f := 20) (i := 10) (v := ?vnttt10) rfl (Or.inl ⟨((wanted_at rfl rfl rfl rfl).trans rfl), ?hynttt10⟩) hSnttt1 ?restnttt10
            case hynttt10 => intro W hW; go_simp; exact rfl
            simp only [zA, zB, zC, Act.put, zD, zE, zF]
            refine bt (f := 20) (i := 11) (v := ?vnttt11) rfl (Or.inl ⟨((wanted_at rfl rfl rfl rfl).trans rfl), ?hynttt11⟩) hSnttt1 ?restnttt11
            case hynttt11 => intro W hW; go_simp; exact rfl
            simp only [zA, zB, zC, Act.put, zD, zE, zF]
            refine bt (f := 20) (i := 12) (v := ?vnttt12) rfl (Or.inl ⟨((wanted_at rfl rfl rfl rfl).trans rfl), ?hynttt12⟩) hSnttt1 ?restnttt12
            case hynttt12 => intro W hW; go_simp; exact rfl
            simp only [zA, zB, zC, Act.put, zD, zE, zF]
            refine bt (f := 20) (i := 13) (v := ?vnttt13) rfl (Or.inl ⟨((wanted_at rfl rfl rfl rfl).trans rfl), ?hynttt13⟩) hSnttt1 ?restnttt13
            case hynttt13 => intro W hW; go_simp; exact rfl
            simp only [zA, zB, zC, Act.put, zD, zE, zF]
            refine bt (f := 20) (i := 14) (v := ?vnttt14) rfl (Or.inl ⟨((wanted_at rfl rfl rfl rfl).trans rfl), ?hynttt14⟩) hSnttt1 ?restnttt14
            case hynttt14 => intro W hW; go_simp; exact rfl
            simp only [zA, zB, zC, Act.put, zD, zE, zF]
            refine bt (f := 20) (i := 15) (v := ?vnttt15) rfl (Or.inl ⟨((wanted_at rfl rfl rfl rfl).trans rfl), ?hynttt15⟩) hSnttt1 ?restnttt15
            case hynttt15 =>
              intro W hW
              have hb0 : Below wr.heap.size wr W := bstep (Below.drew1 _) hW
              obtain ⟨c0, c1, c2, c3, c4⟩ := FK.out.on hbb hb0
              go_simp
              exact rfl
            simp only [zA, zB, zC, Act.put, zD, zE, zF]
            refine bt (f := 20) (i := 16) (v := ?vnttt16) rfl (Or.inl ⟨((wanted_at rfl rfl rfl rfl).trans rfl), ?hynttt16⟩) hSnttt1 ?restnttt16
            case hynttt16 => intro W hW; go_simp; exact rfl
            simp only [zA, zB, zC, Act.put, zD, zE, zF]
            refine bt (f := 20) (i := 17) (v := ?vnttt17) rfl (Or.inl ⟨((wanted_at rfl rfl rfl rfl).trans rfl), ?hynttt17⟩) hSnttt1 ?restnttt17
            case hynttt17 =>
              intro W hW
              have hb0 : Below wr.heap.size wr W := bstep (Below.drew1 _) hW
              obtain ⟨z0, z1, z2, z3, z4, z5⟩ := box5 (box_on Q2.out hb0)
              go_simp
              exact rfl
            simp only [zA, zB, zC, Act.put, zD, zE, zF]
            refine bt (f := 20) (i := 18) (v := ?vnttt18) rfl (Or.inl ⟨((wanted_at rfl rfl rfl rfl).trans rfl), ?hynttt18⟩) hSnttt1 ?restnttt18
            case hynttt18 => intro W hW; go_simp; exact rfl
            simp only [zA, zB, zC, Act.put, zD, zE, zF]
            refine bt (f := 20) (i := 19) (v := ?vnttt19) rfl (Or.inl ⟨((wanted_at rfl rfl rfl rfl).trans rfl), ?hynttt19⟩) hSnttt1 ?restnttt19
            case hynttt19 => intro W hW; go_simp; exact rfl
            simp only [zA, zB, zC, Act.put, zD, zE, zF]
            refine but_run (i := 20) (by kernel_rfl) rfl (by rfl) ?_
            simp only [zA, zB, zC]
            intro K HK
            go_wp2_with fail
            refine HK.out _ Vnttt1 (fun h => absurd rfl h) ?_
            clear HK
            refine but_done (by kernel_rfl) ?_
            obtain ⟨c0, c1, c2, c3, c4⟩ := FK.out.on hbb (bstep (Below.drew1 _) hSnttt1)
            obtain ⟨z0, z1, z2, z3, z4, z5⟩ := box5 (box_on Q2.out (bstep (Below.drew1 _) hSnttt1))
            go_wp2
            go_roundw
            case rel => exact ⟨k + 1, L[k], true, some L[k], by omega, by go_num, rfl, Lib.hid ⟨rfl, rfl⟩, Lib.hid (near_yes hlt HNB.out HI.out), Lib.hid (heap_far5 (box_on Q1.out (bstep (Below.drew1 _) hSnttt1)) (by omega)), Lib.hid (box_setsK (box_on Q2.out (bstep (Below.drew1 _) hSnttt1))), Lib.hid ((HRow.out.on (bstep (Below.drew1 _) hSnttt1)).set5 (by omega)), Lib.hid (b5' (bstep HB.out (bstep (Below.drew1 _) hSnttt1)) (by omega)), Lib.hid (by simp only [World.size_setCell]; exact Nat.le_trans HZ.out ((bstep (Below.drew1 _) hSnttt1)).size)⟩
            case measure => simp [intOf]; omega
    · have hF : R = o := by
        rw [← HI.out, List.drop_eq_nil_of_le (by omega)]
        rfl
      subst hF
      obtain ⟨z0, z1, z2, z3, z4, z5⟩ := box5 Q1.out
      obtain ⟨y0, y1, y2, y3, y4, y5⟩ := box5 Q2.out
      have hx := HO.out.2
      have hf := HO.out.1
      clear HO HI
      go_wp2
      refine bodyPost_ret (v := .tuple #[x.v, .bool y]) (by simp [results, Tryz.results209, go_sem, keyV, KeyD.v, *]) rfl ⟨by rw [hx, hf]; rfl, ?_⟩
      exact b5' (g := w.heap.size + 1) HB.out (by omega)
set_option maxHeartbeats 4000000 in
theorem specSeen_any (vl vn va : Value) (lo : List Int) (ts : List NodeD) (l : List AgeD) (p d : Int) (w : World) (hv : RdT w w.heap.size vl vn lo ts) (ha : Reads w w.heap.size va (agesD l)) (hn : ts.length ≤ 1048576) (hs : sumT ts ≤ 1048576) (hl : l.length ≤ 1048576) :
    Calls Tryz.prog 141 #[.agg #[vl, vn], va, .int .i64 p, .int .i64 d] w (SaysFind w (nearK (keysOfK ts p) (pathSK l d))) := by
  obtain ⟨A, c, A', c', rfl, rfl⟩ := hv.shape
  obtain ⟨Aa, ca, rfl, _, _⟩ := ha.shapeG
  have HN := Lib.hid l8Near_any
  unfold SaysFind KeyD.v keyV at HN
  unfold SaysFind KeyD.v keyV
  obtain ⟨q0, q1⟩ := al2 w (.cells #[.slice A lo.length c, .slice A' ts.length c'] 27) (.cells #[.int .i64 0, .int .i64 0, .int .i64 0, .int .i64 0, .int .i64 0] 112)
  have hb := bal2 w (.cells #[.slice A lo.length c, .slice A' ts.length c'] 27) (.cells #[.int .i64 0, .int .i64 0, .int .i64 0, .int .i64 0, .int .i64 0] 112)
  have HV := Lib.hid (hv.on hb)
  have HA := Lib.hid (ha.on hb)
  have HB := Lib.hid hb
  have Q0 := Lib.hid q0
  have Q1 := Lib.hid q1
  have HPL := Lib.hid (pathSK_len l d)
  obtain ⟨F, hF⟩ : ∃ F, nearK (keysOfK ts p) (pathSK l d) = F := ⟨_, rfl⟩
  rw [hF]
  have HF := Lib.hid hF
  clear hv ha hb q0 q1 hF
  go_enter Tryz.func141, Tryz.ntmps141
  go_upto_region 1 with (fail)
  generalize (w.alloc (.cells #[.slice A lo.length c, .slice A' ts.length c'] 27)).alloc (.cells #[.int .i64 0, .int .i64 0, .int .i64 0, .int .i64 0, .int .i64 0] 112) = W at *
  refine but_begin (f := 9) (S := fun V => V.heap[w.heap.size]? = some (.cells #[.slice A lo.length c, .slice A' ts.length c'] 27 (0, 0))) (by kernel_rfl) ?_
  refine bt (f := 9) (i := 0) (v := ?vss0) rfl (Or.inl ⟨(by rfl), ?hyss0⟩) (Q0.out) ?restss0
  case hyss0 =>
    intro W hW
    obtain ⟨x0, x1, x2⟩ := box2 hW
    go_simp
    exact rfl
  simp only [zA, zB, zC, Act.put, zD, zE, zF]
  refine bt (f := 9) (i := 1) (v := ?vss1) rfl (Or.inl ⟨(by rfl), ?hyss1⟩) (Q0.out) ?restss1
  case hyss1 => intro W hW; go_simp; exact rfl
  simp only [zA, zB, zC, Act.put, zD, zE, zF]
  refine bt (f := 9) (i := 2) (v := ?vss2) rfl (Or.inl ⟨(by rfl), ?hyss2⟩) (Q0.out) ?restss2
  case hyss2 => intro W hW; go_simp; exact rfl
  simp only [zA, zB, zC, Act.put, zD, zE, zF]
  refine bt (f := 9) (i := 3) (v := ?vss3) rfl (Or.inl ⟨(by rfl), ?hyss3⟩) (Q0.out) ?restss3
  case hyss3 => intro W hW; go_simp; exact rfl
  simp only [zA, zB, zC, Act.put, zD, zE, zF]
  refine but_run (i := 4) (by kernel_rfl) rfl (by rfl) ?_
  simp only [zA, zB, zC]
  intro K HK
  go_wp2_with fail
  refine (specPathOf_any _ l d _ (HA.out.on (Below.drew1 _)) (by omega)).mono ?_
  rintro r Vss1 ⟨v1, rfl, o1, b1⟩
  obtain ⟨A1, c1, rfl, _, _⟩ := o1.shape
  have O1 := Lib.hid o1
  have B1 := Lib.hid (bstep (Below.drew1 _) b1)
  clear o1 b1
  go_wp2_with fail
  have hSss1 : (fun V => V.heap[w.heap.size]? = some (.cells #[.slice A lo.length c, .slice A' ts.length c'] 27 (0, 0))) Vss1 := box_on Q0.out B1.out
  refine HK.out _ _ (fun _ => hSss1) ?_
  clear HK
  refine but_run (i := 5) (by kernel_rfl) rfl (by rfl) ?_
  simp only [zA, zB, zC]
  intro K HK
  go_wp2_with fail
  refine (HN.out _ _ _ lo ts p (pathSK l d) _ (HV.out.on B1.out) O1.out.owns.reads hn hs (by have := HPL.out; omega)).mono ?_
  rintro r Vss2 ⟨rfl, b2⟩
  rw [HF.out]
  have B2 := Lib.hid b2
  clear b2
  go_wp2_with fail
  have hSss2 : (fun V => V.heap[w.heap.size]? = some (.cells #[.slice A lo.length c, .slice A' ts.length c'] 27 (0, 0))) Vss2 := box_on (box_on Q0.out B1.out) B2.out
  refine HK.out _ _ (fun _ => hSss2) ?_
  clear HK
  refine bt (f := 9) (i := 6) (v := ?vss6) rfl (Or.inl ⟨(by rfl), ?hyss6⟩) hSss2 ?restss6
  case hyss6 => intro W hW; go_simp; exact rfl
  simp only [zA, zB, zC, Act.put, zD, zE, zF]
  refine bt (f := 9) (i := 7) (v := ?vss7) rfl (Or.inl ⟨(by rfl), ?hyss7⟩) hSss2 ?restss7
  case hyss7 => intro W hW; go_simp; exact rfl
  simp only [zA, zB, zC, Act.put, zD, zE, zF]
  refine but_run (i := 8) (by kernel_rfl) rfl (by rfl) ?_
  simp only [zA, zB, zC]
  intro K HK
  obtain ⟨y0, y1, y2, y3, y4, y5⟩ := box5 (box_on (box_on Q1.out B1.out) B2.out)
  go_wp2_with fail
  have hSss3 : (fun V => V.heap[w.heap.size]? = some (.cells #[.slice A lo.length c, .slice A' ts.length c'] 27 (0, 0))) ((((((Vss2.setCell ⟨w.heap.size + 1, 0, none⟩ (.int .i64 (F.getD zK).a)).setCell ⟨w.heap.size + 1, 1, none⟩ (.int .i64 (F.getD zK).b)).setCell ⟨w.heap.size + 1, 2, none⟩ (.int .i64 (F.getD zK).c)).setCell ⟨w.heap.size + 1, 3, none⟩ (.int .i64 (F.getD zK).d)).setCell ⟨w.heap.size + 1, 4, none⟩ (.int .i64 (F.getD zK).e))) := heap_far5 hSss2 (by omega)
  refine HK.out _ _ (fun _ => hSss3) ?_
  clear HK
  refine but_run (i := 9) (by kernel_rfl) rfl (by rfl) ?_
  simp only [zA, zB, zC]
  intro K HK
  go_wp2_with fail
  refine HK.out _ _ (fun h => absurd rfl h) ?_
  clear HK
  refine but_done (by kernel_rfl) ?_
  go_wp2
  refine bodyPost_ret (v := .tuple #[(F.getD zK).v, .bool F.isSome]) (by simp [results, Tryz.results141, go_sem, keyV, KeyD.v, *]) rfl ⟨rfl, ?_⟩
  exact b5' (bstep (bstep HB.out B1.out) B2.out) (by omega)
end Go.Proofs.YtlhemcjahcmdeaaGreatDoor
