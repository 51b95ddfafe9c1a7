/- Contracts for impl.PathOf, slices.Index and slices.Contains at ints, impl.IsFrom, laws.hasInt, laws.sameInts and laws.sameAges. Conditions: at most 2^20 versions or ints. -/
import Derived.Test.YtjnecehogebjkaaAgeCut
import Derived.StillTailTactics
import Derived.WalkMore
namespace Go.Proofs.Ytjnecehogebjkaa
open Go.RowKit
set_option maxRecDepth 100000
set_option linter.unusedSimpArgs false
set_option linter.unusedVariables false

/-- The way up from version d: at most n versions. -/
def pathGo (l : List AgeD) : Nat → Int → List Int
  | 0, _ => []
  | n + 1, d => if hasG l d then d :: (if parG l d == 0 then [] else pathGo l n (parG l d)) else []
def pathK (l : List AgeD) (d : Int) : List Int := pathGo l (l.length + 1) d
theorem pathGo_no {l : List AgeD} {d : Int} (h : hasG l d = false) (n : Nat) : pathGo l n d = [] := by
  cases n with
  | zero => rfl
  | succ n => rw [pathGo, h]; rfl
theorem pathGo_yes {l : List AgeD} {d : Int} (h : hasG l d = true) (n : Nat) : pathGo l (n + 1) d = d :: (if parG l d == 0 then [] else pathGo l n (parG l d)) := by
  rw [pathGo, h]; rfl
theorem pathGo_len (l : List AgeD) (n : Nat) (d : Int) : (pathGo l n d).length ≤ n := by
  induction n generalizing d with
  | zero => simp [pathGo]
  | succ n ih =>
    rw [pathGo]
    split
    · split
      · simp
      · have := ih (parG l d)
        simp only [List.length_cons]
        omega
    · simp
theorem pathK_len (l : List AgeD) (d : Int) : (pathK l d).length ≤ l.length + 1 := pathGo_len l _ d
theorem parG_at {l : List AgeD} {d : Int} (h : ageI l d < l.length) : parG l d = (l[ageI l d]).b := by
  unfold parG
  rw [List.getElem?_eq_getElem h]
def lenV : Value → Nat
  | .slice _ n _ => n
  | _ => 0
set_option maxHeartbeats 4000000 in
theorem implPathOf_any (v : Value) (l : List AgeD) (d : Int) (w : World) (hv : Reads w w.heap.size v (agesD l)) (hn : l.length ≤ 2000000) : Calls Try.prog 14 #[v, .int .i64 d] w (NewI w (pathK l d)) := by
  obtain ⟨A, c, rfl, _, _⟩ := hv.shapeG
  have HV := Lib.hid hv
  obtain ⟨R, hR⟩ : ∃ R, pathK l d = R := ⟨_, rfl⟩
  rw [hR]
  unfold pathK at hR
  have HR := Lib.hid hR
  have b0 := bal1 w (.cells #[] 3)
  have G0 := Lib.hid (show GrowI w _ _ [] from ⟨RowI.lit w, b0⟩)
  have HV0 := Lib.hid (hv.on b0)
  clear hv hR b0
  go_enter Try.func14, Try.ntmps14
  go_wp2
  go_step3
  go_wp2
  go_step3
  generalize w.alloc (.cells #[] 3) = w0 at *
  go_wp2_with fail
  refine (implAgeAt_any _ l d _ HV0.out (by omega)).mono ?_
  rintro e w1 ⟨rfl, b1⟩
  have G1 := Lib.hid (show GrowI w w1 _ [] from ⟨G0.out.1.on b1, bstep G0.out.2 b1⟩)
  clear G0 HV0 b1
  go_wp2
  go_loopw [5, 6] (fun o i wr => ∃ (m : List Int) (e : Int), i = .int .i64 (ageAtK l e) ∧ Hid (m.length ≤ l.length) ∧ Hid (m ++ pathGo l (l.length + 1 - m.length) e = R) ∧ Hid (GrowI w wr o m)) (fun o _ _ => l.length + 1 - lenV o)
  case atStart => exact ⟨[], d, rfl, Lib.hid (Nat.zero_le _), Lib.hid (by simpa using HR.out), G1⟩
  case round =>
    clear G1
    obtain ⟨m, e, rfl, HM, HI, HX⟩ := hrel
    obtain ⟨hrow, hb⟩ := HX.out
    obtain ⟨Ao, co, rfl, _, _⟩ := hrow.shape
    have hgeq := ageAt_geq l e
    cases hh : hasG l e
    · rw [hh] at hgeq
      have hRe : R = m := by rw [← HI.out, pathGo_no hh, List.append_nil]
      subst hRe
      generalize ageAtK l e = q at *
      have hq : decide (0 ≤ q) = false := hgeq
      clear hrow hb hh hgeq
      go_wp2
      go_ret
      exact ⟨_, rfl, HX.out.1, HX.out.2⟩
    · obtain ⟨hN, hq0⟩ := ageAt_has hh
      have hpar := parG_at hN
      have hget := ageI_get hN
      obtain ⟨b, off, rfl, hbb, hc⟩ := (HV.out.on hb).ages hN
      have hml := HM.out
      have hfu := HI.out
      rw [show l.length + 1 - m.length = (l.length - m.length) + 1 by omega, pathGo_yes hh, hpar] at hfu
      have HFU := Lib.hid hfu
      obtain ⟨c0, c1⟩ := hc _ hN
      rw [hq0]
      rw [hget] at c0
      have FK := Lib.hid (And.intro c0 c1)
      clear hc hgeq hh hq0 hpar hget hfu
      generalize ageI l e = N at *
      obtain ⟨f, hf⟩ : ∃ f, (l[N]).b = f := ⟨_, rfl⟩
      rw [hf] at HFU FK c1
      clear hf
      have i1 : (N : Int) < (l.length : Int) := by omega
      have i2 : (0 : Int) ≤ (N : Int) := by omega
      have HAt := Lib.hid (At.intOne wr e 3)
      have ba := bal1 wr (.cells #[.int .i64 e] 3)
      have HRow := Lib.hid (hrow.on ba)
      have HB2 := Lib.hid (hb.trans (ba.mono hb.size))
      have HZ := Lib.hid HB2.out.size
      clear ba HX
      go_upto_region 6 with (at_builtin; refine wpList_appI _ rfl (.tmp 20) (.tmp 26) rfl w.heap.size _ m rfl HRow.out (some ⟨wr.heap.size, 0, none⟩) 1 1 [e] rfl rfl HAt.out (by simp; omega) HZ.out ?_; intro v2 w2 o2 b2; clear HRow HAt)
      have hb2 := HB2.out.trans b2
      obtain ⟨m2, hm2⟩ : ∃ m2, m ++ [e] = m2 := ⟨_, rfl⟩
      rw [hm2] at o2
      have hl2 : m2.length = m.length + 1 := by rw [← hm2]; simp
      obtain ⟨A2, e2, rfl, _, _⟩ := o2.shape
      have HL2 := Lib.hid hl2
      have HG2 := Lib.hid (show GrowI w w2 _ m2 from ⟨o2, hb2⟩)
      have hbw2 : b < w.heap.size := by
        obtain ⟨b', off', he, hbb', _⟩ := HV.out.ages hN
        cases he
        exact hbb'
      have F2 : Hid (w2.cell? ⟨b, off + N * 2, none⟩ = some (.int .i64 e) ∧ w2.cell? ⟨b, off + N * 2 + 1, none⟩ = some (.int .i64 f)) := Lib.hid ⟨(World.cell?_of_block (a := ⟨b, off + N * 2, none⟩) ((hb2.block b hbw2).trans (hb.block b hbw2).symm)).trans FK.out.1, (World.cell?_of_block (a := ⟨b, off + N * 2 + 1, none⟩) ((hb2.block b hbw2).trans (hb.block b hbw2).symm)).trans FK.out.2⟩
      have HMM := Lib.hid hm2
      clear c0 c1 hrow hb hb2 b2 o2 HB2 HZ FK hm2 hl2 HI HM
      obtain ⟨c0, c1⟩ := F2.out
      cases hz : (f == 0)
      · rw [hz] at HFU
        simp only [Bool.false_eq_true, if_false] at HFU
        by_cases hfull : l.length < m2.length
        · have d1 : decide (l.length < m2.length) = true := decide_eq_true hfull
          have hRe : R = m2 := by
            have h0 : l.length - m.length = 0 := by have := HL2.out; omega
            rw [← HFU.out, h0, pathGo, HMM.out]
          subst hRe
          clear hml hfull
          go_wp2
          go_ret
          exact ⟨_, rfl, HG2.out.1, HG2.out.2⟩
        · have d1 : decide (l.length < m2.length) = false := decide_eq_false hfull
          have HM2 : Hid (m2.length ≤ l.length) := Lib.hid (by omega)
          have HI2 : Hid (m2 ++ pathGo l (l.length + 1 - m2.length) f = R) := Lib.hid (by rw [show l.length + 1 - m2.length = l.length - m.length by have := HL2.out; omega, ← HFU.out, ← HMM.out]; simp)
          have HVW := Lib.hid (HV.out.on HG2.out.2)
          have HME : Hid (l.length + 1 - m2.length < l.length + 1 - m.length) := Lib.hid (by have := HL2.out; omega)
          clear hml hfull
          go_wp2_with fail
          refine (implAgeAt_any _ l f _ HVW.out (by omega)).mono ?_
          rintro r w3 ⟨rfl, b3⟩
          have G3 := Lib.hid (show GrowI w w3 _ m2 from ⟨HG2.out.1.on b3, bstep HG2.out.2 b3⟩)
          clear b3 c0 c1 d1
          go_wp2
          go_roundw
          case rel => exact ⟨m2, f, rfl, HM2, HI2, G3⟩
          case measure => simp only [lenV]; exact HME.out
      · rw [hz] at HFU
        simp only [if_true] at HFU
        have hRe : R = m2 := by rw [← HFU.out, HMM.out]
        subst hRe
        clear hml
        go_wp2
        go_ret
        exact ⟨_, rfl, HG2.out.1, HG2.out.2⟩
theorem take_no {l : List Int} {k : Nat} {x : Int} (hk : k < l.length) (h : x ∉ l.take k) (hs : (x == l[k]) = false) : x ∉ l.take (k + 1) := by
  rw [List.take_succ_eq_append_getElem hk]
  intro hm
  rcases List.mem_append.1 hm with hm | hm
  · exact h hm
  · simp at hm
    simp [hm] at hs
theorem index_any (v : Value) (l : List Int) (x : Int) (w : World) (hv : Reads w w.heap.size v (intsD l)) (hn : l.length ≤ 2097152) : Calls Try.prog 55 #[v, .int .i64 x] w fun e w' => ∃ n : Int, e = .returned (.int .i64 n) ∧ decide (0 ≤ n) = decide (x ∈ l) ∧ w = w' := by
  obtain ⟨A, c, rfl, _, _⟩ := hv.lenN
  have HV := Lib.hid hv
  clear hv
  go_enter Try.func55, Try.ntmps55
  go_wp2
  go_loop [5, 8] (fun _ i => ∃ k : Nat, k ≤ l.length ∧ i = .int .i64 k ∧ Hid (x ∉ l.take k)) (fun _ i => l.length - (intOf i).toNat)
  case atStart => exact ⟨0, Nat.zero_le _, rfl, Lib.hid (by simp)⟩
  case round =>
    obtain ⟨k, hk, rfl, HI⟩ := hrel
    by_cases hlt : k < l.length
    · obtain ⟨b, off, rfl, hbb, hc⟩ := HV.out.int hlt
      have c0 := hc k hlt
      unfold iV at c0
      have i1 : (k : Int) < (l.length : Int) := by omega
      have i2 : (0 : Int) ≤ (k : Int) := by omega
      clear hc
      cases hs : (x == l[k])
      · have HS := Lib.hid hs
        go_wp2
        go_round
        case rel => exact ⟨k + 1, by omega, by go_num, Lib.hid (take_no hlt HI.out HS.out)⟩
        case measure => simp [intOf]; omega
      · have HS := Lib.hid hs
        go_wp2
        go_ret
        refine ⟨_, rfl, ?_, rfl⟩
        have h1 : x ∈ l := by
          have := HS.out
          simp at this
          rw [this]
          exact List.getElem_mem hlt
        exact ⟨fun _ => h1, fun _ => by omega⟩
    · go_wp2
      go_ret
      refine ⟨_, rfl, ?_, rfl⟩
      have h1 : x ∉ l := by
        have := HI.out
        rw [show k = l.length by omega, List.take_length] at this
        exact this
      exact ⟨fun h => by omega, fun h => absurd h h1⟩
theorem contains_any (v : Value) (l : List Int) (x : Int) (w : World) (hv : Reads w w.heap.size v (intsD l)) (hn : l.length ≤ 2097152) : Calls Try.prog 43 #[v, .int .i64 x] w fun e w' => e = .returned (.bool (decide (x ∈ l))) ∧ w = w' := by
  obtain ⟨A, c, rfl, _, _⟩ := hv.lenN
  have HV := Lib.hid hv
  obtain ⟨R, hR⟩ : ∃ R, decide (x ∈ l) = R := ⟨_, rfl⟩
  rw [hR]
  have HR := Lib.hid hR
  clear hv hR
  go_enter Try.func43, Try.ntmps43
  go_wp2_with fail
  refine (index_any _ l x _ HV.out hn).mono ?_
  rintro e w1 ⟨n, rfl, hq, rfl⟩
  rw [HR.out] at hq
  cases R
  all_goals
    go_wp2
    go_ret
    exact ⟨rfl, rfl⟩
def fromB (l : List AgeD) (o d : Int) : Bool := decide (o ∈ pathK l d)
theorem implIsFrom_any (v : Value) (l : List AgeD) (o d : Int) (w : World) (hv : Reads w w.heap.size v (agesD l)) (hn : l.length ≤ 2000000) : Calls Try.prog 16 #[v, .int .i64 o, .int .i64 d] w (SaysBool w (fromB l o d)) := by
  obtain ⟨A, c, rfl, _, _⟩ := hv.shapeG
  have HV := Lib.hid hv
  clear hv
  go_enter Try.func16, Try.ntmps16
  go_wp2_with fail
  refine (implPathOf_any _ l d _ HV.out hn).mono ?_
  rintro e w1 ⟨v1, rfl, o1, b1⟩
  obtain ⟨A1, c1, rfl, _, _⟩ := o1.shape
  have O1 := Lib.hid o1
  have B1 := Lib.hid b1
  clear o1 b1
  go_wp2_with fail
  refine (contains_any _ (pathK l d) o _ O1.out.owns.reads (by have := pathK_len l d; omega)).mono ?_
  rintro e w2 ⟨rfl, rfl⟩
  go_wp2
  go_ret
  exact ⟨rfl, B1.out⟩
theorem hasInt_any (v : Value) (l : List Int) (x : Int) (w : World) (hv : Reads w w.heap.size v (intsD l)) (hn : l.length ≤ 2097152) : Calls Try.prog 19 #[v, .int .i64 x] w fun e w' => e = .returned (.bool (decide (x ∈ l))) ∧ w = w' := by
  obtain ⟨A, c, rfl, _, _⟩ := hv.lenN
  have HV := Lib.hid hv
  clear hv
  go_enter Try.func19, Try.ntmps19
  go_wp2
  go_loop [5] (fun i => ∃ k : Nat, k ≤ l.length ∧ i = .int .i64 k ∧ Hid (x ∉ l.take k)) (fun i => l.length - (intOf i).toNat)
  case atStart => exact ⟨0, Nat.zero_le _, rfl, Lib.hid (by simp)⟩
  case round =>
    obtain ⟨k, hk, rfl, HI⟩ := hrel
    by_cases hlt : k < l.length
    · obtain ⟨b, off, rfl, hbb, hc⟩ := HV.out.int hlt
      have c0 := hc k hlt
      unfold iV at c0
      have i1 : (k : Int) < (l.length : Int) := by omega
      have i2 : (0 : Int) ≤ (k : Int) := by omega
      clear hc
      cases hs : (l[k] == x)
      · have HS : Hid ((x == l[k]) = false) := Lib.hid (by simp at hs ⊢; omega)
        go_wp2
        go_round
        case rel => exact ⟨k + 1, by omega, by go_num, Lib.hid (take_no hlt HI.out HS.out)⟩
        case measure => simp [intOf]; omega
      · have HS := Lib.hid hs
        go_wp2
        go_ret
        refine ⟨ret_boolB ?_, rfl⟩
        have h1 : x ∈ l := by
          have := HS.out
          simp at this
          rw [← this]
          exact List.getElem_mem hlt
        rw [decide_eq_true h1]
    · go_wp2
      go_ret
      refine ⟨ret_boolB ?_, rfl⟩
      have h1 : x ∉ l := by
        have := HI.out
        rw [show k = l.length by omega, List.take_length] at this
        exact this
      rw [decide_eq_false h1]
theorem sameInts7 (v u : Value) (l : List Int) (w : World) (hv : Reads w w.heap.size v (intsD l)) (hu : Reads w w.heap.size u (intsD l)) (hn : l.length ≤ 1100000) :
    Calls Try.prog 18 #[v, u] w (SaysBool w true) := by
  obtain ⟨A, c, rfl, _, _⟩ := hv.lenN
  obtain ⟨A', c', rfl, _, _⟩ := hu.lenN
  have hne : ((l.length : Int) != (l.length : Int)) = false := by simp
  have HV := Lib.hid hv
  have HU := Lib.hid hu
  clear hv hu
  go_enter Try.func18, Try.ntmps18
  go_wp2
  go_loopw [5] (fun i wr => ∃ k : Nat, k ≤ l.length ∧ i = .int .i64 k ∧ Hid (Below w.heap.size w wr)) (fun i _ => l.length - (intOf i).toNat)
  case atStart => exact ⟨0, Nat.zero_le _, rfl, Lib.hid (Below.refl _ _)⟩
  case round =>
    obtain ⟨k, hk, rfl, HB⟩ := hrel
    by_cases hlt : k < l.length
    · obtain ⟨b, off, rfl, hbb, hc⟩ := (HV.out.on HB.out).int hlt
      obtain ⟨b2, off2, rfl, hbb2, hc2⟩ := (HU.out.on HB.out).int hlt
      have c1 := hc k hlt
      have c2 := hc2 k hlt
      unfold iV at c1 c2
      clear hc hc2
      have i1 : (k : Int) < (l.length : Int) := by omega
      have i2 : (0 : Int) ≤ (k : Int) := by omega
      have hne2 : (l[k] != l[k]) = false := by simp
      go_wp2
      go_still_tail 8, (by kernel_rfl)
      change wpList _ _ _ _ _ wr.drew
      have HB1 := Lib.hid (bstep HB.out (Below.drew1 _))
      generalize wr.drew = wd at *
      go_wp2
      go_roundw
      case rel => exact ⟨k + 1, by omega, by go_num, HB1⟩
      case measure => simp [intOf]; omega
    · go_wp2
      go_ret
      exact ⟨rfl, HB.out⟩
theorem sameAges_same (v u : Value) (l : List AgeD) (w : World) (hv : Reads w w.heap.size v (agesD l)) (hu : Reads w w.heap.size u (agesD l)) (hn : l.length ≤ 1100000) :
    Calls Try.prog 22 #[v, u] w (SaysBool w true) := by
  obtain ⟨A, c, rfl, _, _⟩ := hv.shapeG
  obtain ⟨A', c', rfl, _, _⟩ := hu.shapeG
  have hne : ((l.length : Int) != (l.length : Int)) = false := by simp
  have HV := Lib.hid hv
  have HU := Lib.hid hu
  clear hv hu
  go_enter Try.func22, Try.ntmps22
  go_wp2
  go_loopw [5] (fun i wr => ∃ k : Nat, k ≤ l.length ∧ i = .int .i64 k ∧ Hid (Below w.heap.size w wr)) (fun i _ => l.length - (intOf i).toNat)
  case atStart => exact ⟨0, Nat.zero_le _, rfl, Lib.hid (Below.refl _ _)⟩
  case round =>
    obtain ⟨k, hk, rfl, HB⟩ := hrel
    by_cases hlt : k < l.length
    · obtain ⟨b, off, rfl, hbb, hc⟩ := (HV.out.on HB.out).ages hlt
      obtain ⟨b2, off2, rfl, hbb2, hc2⟩ := (HU.out.on HB.out).ages hlt
      obtain ⟨c1, c2⟩ := hc k hlt
      obtain ⟨c3, c4⟩ := hc2 k hlt
      clear hc hc2
      have i1 : (k : Int) < (l.length : Int) := by omega
      have i2 : (0 : Int) ≤ (k : Int) := by omega
      go_wp2
      go_still_tail 8, (by kernel_rfl)
      change wpList _ _ _ _ _ wr.drew
      have HB1 := Lib.hid (bstep HB.out (Below.drew1 _))
      generalize wr.drew = wd at *
      go_wp2
      go_roundw
      case rel => exact ⟨k + 1, by omega, by go_num, HB1⟩
      case measure => simp [intOf]; omega
    · go_wp2
      go_ret
      exact ⟨rfl, HB.out⟩
end Go.Proofs.Ytjnecehogebjkaa
