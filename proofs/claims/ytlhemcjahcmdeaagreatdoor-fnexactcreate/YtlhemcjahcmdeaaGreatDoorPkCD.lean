/- Several texts in one: VolIPut, AgePut, AgeOkI, AgeOkS, AgeNew, DoNew, PoolVols, Lay, SeeDelP, SeeDel, PoolRefs, PoolAges, IntMap, PoolMap. -/
import Derived.Lib.SliceRun
import Derived.Test.YtlhemcjahcmdeaaGreatDoorPkCC
namespace Go.Proofs.YtlhemcjahcmdeaaGreatDoor
open Go.RowKit
set_option maxRecDepth 100000
set_option linter.unusedSimpArgs false
set_option linter.unusedVariables false

def plV (l : List VolD) (x : VolD) : Nat := l.findIdx (fun y => !ltV y x)
theorem plV_le (l : List VolD) (x : VolD) : plV l x ≤ l.length := List.findIdx_le_length
theorem plV_step {l : List VolD} {k : Nat} {x : VolD} (h : k < l.length) (hp : ltV l[k] x = true) (hf : plV l x = k + plV (l.drop k) x) : plV l x = (k + 1) + plV (l.drop (k + 1)) x := by
  rw [vol_drop h] at hf
  unfold plV at hf ⊢
  rw [List.findIdx_cons, hp] at hf
  simp only [Bool.not_true, cond_false] at hf
  omega
theorem plV_hit {l : List VolD} {k : Nat} {x : VolD} (h : k < l.length) (hp : ltV l[k] x = false) (hf : plV l x = k + plV (l.drop k) x) : plV l x = k := by
  rw [vol_drop h] at hf
  unfold plV at hf ⊢
  rw [List.findIdx_cons, hp] at hf
  simpa using hf
def spotV (x y : VolD) : Bool := !ltV x y && !ltV y x
theorem spotV_def (x y : VolD) : spotV x y = (!ltV x y && !ltV y x) := rfl
theorem spotV_comm (x y : VolD) : spotV x y = spotV y x := by rw [spotV_def, spotV_def, Bool.and_comm]
def putVL (l : List VolD) (x : VolD) : List VolD := l.take (plV l x) ++ (x :: (l.drop (plV l x)).filter (fun y => !spotV y x))
theorem putVL_eq (l : List VolD) (x : VolD) : putVL l x = l.take (plV l x) ++ (x :: (l.drop (plV l x)).filter (fun y => !spotV y x)) := rfl
theorem vflip_filter (t : List VolD) (x : VolD) : t.filter (fun y => !spotV y x) = t.filter (fun y => !spotV x y) := by
  congr 1
  funext y
  rw [spotV_comm]
theorem plV_cut (l : List VolD) (x : VolD) : l.take (plV l x) = l.takeWhile (fun k => ltV k x) ∧ l.drop (plV l x) = l.dropWhile (fun k => ltV k x) := by
  induction l with
  | nil => exact ⟨rfl, rfl⟩
  | cons y l ih =>
    unfold plV at ih ⊢
    rw [List.findIdx_cons]
    cases h : ltV y x
    · simp [List.takeWhile_cons, List.dropWhile_cons, h]
    · simp [List.takeWhile_cons, List.dropWhile_cons, h, ih.1, ih.2]
/-- Where no volume has the name, put leaves all that were there. -/
theorem putVL_ins {l : List VolD} {x : VolD} (h : ∀ y ∈ l, y.a.toList ≠ x.a.toList) : putVL l x = putV l x := by
  unfold putVL putV
  rw [List.filter_eq_self.2, (plV_cut l x).1, (plV_cut l x).2]
  intro y hy
  have h1 := h y (List.mem_of_mem_drop hy)
  unfold spotV ltV
  rcases bless_tri y.a.toList x.a.toList with h2 | h2 | h2
  · rw [h2]; rfl
  · exact absurd h2 h1
  · rw [h2]; simp
theorem vfilt_yes {l m : List VolD} {k : Nat} {p : VolD → Bool} (h : k < l.length) (hp : p l[k] = true) {R : List VolD} (hf : m ++ (l.drop k).filter p = R) : (m ++ [l[k]]) ++ (l.drop (k + 1)).filter p = R := by
  rw [vol_drop h, List.filter_cons, hp] at hf
  simpa using hf
theorem vfilt_no {l m : List VolD} {k : Nat} {p : VolD → Bool} (h : k < l.length) (hp : p l[k] = false) {R : List VolD} (hf : m ++ (l.drop k).filter p = R) : m ++ (l.drop (k + 1)).filter p = R := by
  rw [vol_drop h, List.filter_cons, hp] at hf
  simpa using hf
theorem At.takeVol {w : World} {A : Option Addr} {l : List VolD} (h : At w A (volvl l)) (N : Nat) : At w A (volvl (l.take N)) := by
  have h1 : volvl l = volvl (l.take N) ++ volvl (l.drop N) := by rw [← volvl_append, List.take_append_drop]
  rw [h1] at h
  rcases h with h | ⟨b, off, rfl, hc⟩
  · exact .inl (List.append_eq_nil_iff.1 h).1
  · refine .inr ⟨b, off, rfl, fun i hi => ?_⟩
    rw [hc i (by rw [List.length_append]; omega), List.getElem_append_left hi]
/-- What a loop that appends volumes to a row of its own holds on to. -/
def GrowVol (w wr : World) (o : Value) (m : List VolD) : Prop := RowVol wr w.heap.size o m ∧ Below w.heap.size w wr
theorem GrowVol.on {w wr w' : World} {o : Value} {m : List VolD} (h : GrowVol w wr o m) (hb : Below wr.heap.size wr w') : GrowVol w w' o m := ⟨h.1.on hb, bstep h.2 hb⟩
theorem run_makeVols1 (m : Nat) (hm : m ≤ 2000000) (w : World) :
    (Instr.makeSlice 30 (.int .i64 0) (.int .i64 ((m : Int) + 1))).run Tryz.prog w = .ok (.slice (some ⟨w.heap.size, 0, none⟩) 0 (m + 1)) (w.alloc (.cells (madeCells #[.string ⟨#[]⟩, .int .i64 0, .int .i64 0, .bool false] ((m + 1) * 4)) 41)) := run_makeVol 0 (m + 1) (Nat.zero_le _) (by omega) w
theorem Reads.tailVol {w : World} {B b off n c : Nat} {e : TypeId} {l : List VolD} (h : Reads w B (.slice (some ⟨b, off, none⟩) n c) (.row e 4 l.length (l.flatMap volC))) (N : Nat) (hN : N < l.length) : b < B ∧ ∀ k (hk : k < (l.drop N).length), VolF w b (off + N * 4 + k * 4) (l.drop N)[k] := by
  obtain ⟨b', off', he, hb, hc⟩ := h.vols hN
  cases he
  refine ⟨hb, fun k hk => ?_⟩
  have h1 := hc (N + k) (by simp at hk; omega)
  rw [List.getElem_drop, Nat.add_assoc, ← Nat.add_mul]
  exact h1
set_option maxHeartbeats 1000000 in
theorem sameV_any (A : Option Addr) (n c : Nat) (x y : VolD) (w : World) : Calls Tryz.prog 191 #[.agg #[.slice A n c, lessVV], (.agg #[.string x.a, .int .i64 x.b, .int .i64 x.c, .bool x.d]), (.agg #[.string y.a, .int .i64 y.b, .int .i64 y.c, .bool y.d])] w (SaysBool w (spotV x y)) := by
  rw [spotV_def]
  have HT := Lib.hid lessVol_any
  unfold lessVV
  obtain ⟨q0, q1, q2⟩ := al3 w (.cells #[.slice A n c, .func (.func 189) #[] #[]] 160) (.cells #[.string x.a, .int .i64 x.b, .int .i64 x.c, .bool x.d] 41) (.cells #[.string y.a, .int .i64 y.b, .int .i64 y.c, .bool y.d] 41)
  have HB := Lib.hid (bal3 w (.cells #[.slice A n c, .func (.func 189) #[] #[]] 160) (.cells #[.string x.a, .int .i64 x.b, .int .i64 x.c, .bool x.d] 41) (.cells #[.string y.a, .int .i64 y.b, .int .i64 y.c, .bool y.d] 41))
  have Q0 := Lib.hid q0
  have Q1 := Lib.hid q1
  have Q2 := Lib.hid q2
  clear q0 q1 q2
  obtain ⟨X, hX⟩ : ∃ X, ltV x y = X := ⟨_, rfl⟩
  obtain ⟨Y, hY⟩ : ∃ Y, ltV y x = Y := ⟨_, rfl⟩
  rw [hX, hY]
  have HX := Lib.hid hX
  have HY := Lib.hid hY
  clear hX hY
  cases X
  · cases Y
    all_goals
      go_enter Tryz.func191, Tryz.ntmps191
      go_wp2_with fail
      refine (HT.out _ _ _).mono ?_
      rintro r w1 ⟨rfl, b1⟩
      rw [HX.out]
      have B1 := Lib.hid (bstep HB.out b1)
      obtain ⟨x0, x1, x2⟩ := box2 (box_on Q0.out b1)
      obtain ⟨y0, y1, y2, y3, y4⟩ := box4 (box_on Q1.out b1)
      obtain ⟨z0, z1, z2, z3, z4⟩ := box4 (box_on Q2.out b1)
      clear b1
      go_wp2_with fail
      refine (HT.out _ _ _).mono ?_
      rintro r w2 ⟨rfl, b2⟩
      rw [HY.out]
      have B2 := Lib.hid (bstep B1.out b2)
      clear x0 x1 x2 y0 y1 y2 y3 y4 z0 z1 z2 z3 z4 b2
      go_wp2
      go_ret
      exact ⟨rfl, B2.out⟩
  · go_enter Tryz.func191, Tryz.ntmps191
    go_wp2_with fail
    refine (HT.out _ _ _).mono ?_
    rintro r w1 ⟨rfl, b1⟩
    rw [HX.out]
    have B1 := Lib.hid (bstep HB.out b1)
    clear b1
    go_wp2
    go_ret
    exact ⟨rfl, B1.out⟩
set_option maxHeartbeats 2000000 in
theorem placeV_any (v : Value) (l : List VolD) (x : VolD) (w : World) (hv : Reads w w.heap.size v (volsD l)) (hn : l.length ≤ 2097152) : Calls Tryz.prog 190 #[.agg #[v, lessVV], (.agg #[.string x.a, .int .i64 x.b, .int .i64 x.c, .bool x.d])] w fun e w' => e = .returned (.int .i64 (plV l x : Nat)) ∧ Below w.heap.size w w' := by
  obtain ⟨A, c, rfl, _, _⟩ := hv.shapeVol
  have HT := Lib.hid lessVol_any
  unfold lessVV
  obtain ⟨N, hN⟩ : ∃ N, plV l x = N := ⟨_, rfl⟩
  rw [hN]
  obtain ⟨q0, q1⟩ := al2 w (.cells #[.slice A l.length c, .func (.func 189) #[] #[]] 160) (.cells #[.string x.a, .int .i64 x.b, .int .i64 x.c, .bool x.d] 41)
  have b0 := bal2 w (.cells #[.slice A l.length c, .func (.func 189) #[] #[]] 160) (.cells #[.string x.a, .int .i64 x.b, .int .i64 x.c, .bool x.d] 41)
  have Q0 := Lib.hid q0
  have Q1 := Lib.hid q1
  have HB := Lib.hid b0
  have HV := Lib.hid (hv.on b0)
  have HN := Lib.hid hN
  clear hv b0 q0 q1 hN
  go_enter Tryz.func190, Tryz.ntmps190
  go_wp2
  generalize (w.alloc (.cells #[.slice A l.length c, .func (.func 189) #[] #[]] 160)).alloc (.cells #[.string x.a, .int .i64 x.b, .int .i64 x.c, .bool x.d] 41) = W at *
  go_loopw [5, 6, 10] (fun _ _ i wr => ∃ k : Nat, k ≤ l.length ∧ i = .int .i64 k ∧ Hid (plV l x = k + plV (l.drop k) x) ∧ Hid (Below W.heap.size W wr)) (fun _ _ i _ => l.length - (intOf i).toNat)
  case atStart => exact ⟨0, Nat.zero_le _, rfl, Lib.hid (by simp), Lib.hid (Below.refl _ _)⟩
  case round =>
    obtain ⟨k, hk, rfl, HI, HW⟩ := hrel
    have hzr := HW.out.size
    by_cases hlt : k < l.length
    · obtain ⟨b, off, rfl, hbb, hc⟩ := (HV.out.on HW.out).vols hlt
      have i1 : (k : Int) < (l.length : Int) := by omega
      have i2 : (0 : Int) ≤ (k : Int) := by omega
      obtain ⟨c0, c1, c2, c3⟩ := hc k hlt
      have ba := bal1 wr (.cells #[.string (l[k]).a, .int .i64 (l[k]).b, .int .i64 (l[k]).c, .bool (l[k]).d] 41)
      have BA := Lib.hid (HW.out.trans (ba.mono hzr))
      obtain ⟨x0, x1, x2⟩ := box2 (box_on Q0.out BA.out)
      obtain ⟨y0, y1, y2, y3, y4⟩ := box4 (box_on Q1.out BA.out)
      clear hc ba
      cases hs : ltV l[k] x
      · have HS := Lib.hid hs
        clear hs
        go_wp2_with fail
        refine (HT.out l[k] x _).mono ?_
        rintro r w1 ⟨rfl, b1⟩
        rw [HS.out]
        have B1 := Lib.hid (BA.out.trans (b1.mono BA.out.size))
        clear c0 c1 c2 c3 x0 x1 x2 y0 y1 y2 y3 y4 b1
        go_wp2
        go_ret
        exact ⟨ret_intB (by rw [← HN.out, plV_hit hlt HS.out HI.out]), bstep HB.out B1.out⟩
      · have HS := Lib.hid hs
        clear hs
        go_wp2_with fail
        refine (HT.out l[k] x _).mono ?_
        rintro r w1 ⟨rfl, b1⟩
        rw [HS.out]
        have B1 := Lib.hid (BA.out.trans (b1.mono BA.out.size))
        clear c0 c1 c2 c3 x0 x1 x2 y0 y1 y2 y3 y4 b1
        go_wp2
        go_roundw
        case rel => exact ⟨k + 1, by omega, by go_num, Lib.hid (plV_step hlt HS.out HI.out), B1⟩
        case measure => simp [intOf]; omega
    · obtain ⟨x0, x1, x2⟩ := box2 (box_on Q0.out HW.out)
      have e : N = l.length := by
        rw [← HN.out, HI.out, List.drop_eq_nil_of_le (by omega)]
        simp [plV]
        omega
      subst e
      go_wp2
      go_ret
      exact ⟨rfl, bstep HB.out HW.out⟩
set_option maxHeartbeats 4000000 in
theorem putV_any (v : Value) (l : List VolD) (x : VolD) (w : World) (hv : Reads w w.heap.size v (volsD l)) (hn : l.length ≤ 2000000) : Calls Tryz.prog 129 #[.agg #[v, lessVV], (.agg #[.string x.a, .int .i64 x.b, .int .i64 x.c, .bool x.d])] w fun e w' => ∃ v', e = .returned (.agg #[v', lessVV]) ∧ RowVol w' w.heap.size v' (putVL l x) ∧ Below w.heap.size w w' := by
  obtain ⟨A, c, rfl, hcap, hmax⟩ := hv.shapeVol
  have hmk := run_makeVols1 l.length hn
  have hst := store_lessV
  have HP := Lib.hid (fun w => placeV_any (.slice A l.length c) l x w)
  have HT := Lib.hid (sameV_any A l.length c x)
  unfold lessVV at HT HP
  unfold lessVV
  obtain ⟨R, hR⟩ : ∃ R, putVL l x = R := ⟨_, rfl⟩
  rw [hR]
  rw [putVL_eq] at hR
  have hple := plV_le l x
  obtain ⟨N, hN⟩ : ∃ N, plV l x = N := ⟨_, rfl⟩
  rw [hN] at hR hple HP
  obtain ⟨q0, q1, q2⟩ := al3 w (.cells #[.slice A l.length c, .func (.func 189) #[] #[]] 160) (.cells #[.string x.a, .int .i64 x.b, .int .i64 x.c, .bool x.d] 41) (.cells #[.slice none 0 0, .nilFunc] 160)
  have b0 := bal3 w (.cells #[.slice A l.length c, .func (.func 189) #[] #[]] 160) (.cells #[.string x.a, .int .i64 x.b, .int .i64 x.c, .bool x.d] 41) (.cells #[.slice none 0 0, .nilFunc] 160)
  have Q0 := Lib.hid q0
  have Q1 := Lib.hid q1
  have Q2 := Lib.hid q2
  have HB := Lib.hid b0
  have HV := Lib.hid (hv.on b0)
  have HR := Lib.hid hR
  have HZ : Hid ((((w.alloc (.cells #[.slice A l.length c, .func (.func 189) #[] #[]] 160)).alloc (.cells #[.string x.a, .int .i64 x.b, .int .i64 x.c, .bool x.d] 41)).alloc (.cells #[.slice none 0 0, .nilFunc] 160)).heap.size = w.heap.size + 3) := Lib.hid (by simp)
  clear hv b0 q0 q1 q2 hR hN
  go_enter Tryz.func129, Tryz.ntmps129
  go_wp2_with fail
  refine (HP.out _ HV.out (by omega)).mono ?_
  rintro r w1 ⟨rfl, b1⟩
  have P0 := Lib.hid (box_on Q0.out b1)
  have P1 := Lib.hid (box_on Q1.out b1)
  have P2 := Lib.hid (box_on Q2.out b1)
  have B1 := Lib.hid (bstep HB.out b1)
  have V1 := Lib.hid (HV.out.on b1)
  have hz1 := b1.size
  rw [HZ.out] at hz1
  clear b1 Q0 Q1 Q2 HB HV HZ HP
  obtain ⟨x0, x1, x2⟩ := box2 P0.out
  have i1 : (N : Int) ≤ (l.length : Int) := by omega
  have i2 : (0 : Int) ≤ (N : Int) := by omega
  have i3 : (N : Int) ≤ (c : Int) := by omega
  have i4 : IntKind.i64.wrap ((l.length : Int) + 1) = (l.length : Int) + 1 := by rw [IntKind.wrap_i64]; omega
  go_upto_region 3 with (fail)
  have hbm := bal1 w1 (.cells (madeCells #[.string ⟨#[]⟩, .int .i64 0, .int .i64 0, .bool false] ((l.length + 1) * 4)) 41)
  have P0' := Lib.hid (box_on P0.out hbm)
  have START := Lib.hid (show GrowVol w1 _ _ _ from ⟨RowVol.made w1 (l.length + 1) (by omega), hbm⟩)
  clear hmk x0 x1 x2 hbm
  generalize w1.alloc (.cells (madeCells #[.string ⟨#[]⟩, .int .i64 0, .int .i64 0, .bool false] ((l.length + 1) * 4)) 41) = w2 at *
  obtain ⟨x0, x1, x2⟩ := box2 P0'.out
  have HAt := Lib.hid ((V1.out.on START.out.2).atVol.takeVol N)
  have HZ := Lib.hid START.out.2.size
  clear P0'
  go_upto_region 4 with (at_builtin; refine wpList_appVol _ rfl (.tmp 17) (.tmp 21) rfl w1.heap.size _ [] rfl START.out.1 A N c (l.take N) rfl (by simp; omega) HAt.out (by simp; omega) HZ.out ?_; intro v3 w3 o3 b3)
  have HG3 := Lib.hid (show GrowVol w1 w3 v3 (l.take N) from ⟨o3, START.out.2.trans b3⟩)
  obtain ⟨A3, c3, rfl, _, _⟩ := o3.shape
  clear o3 b3 START HAt HZ x0 x1 x2
  have hl3 : (l.take N).length = N := by simp; omega
  obtain ⟨y0, y1, y2, y3, y4⟩ := box4 (box_on P1.out HG3.out.2)
  have ba := bal1 w3 (.cells #[.string x.a, .int .i64 x.b, .int .i64 x.c, .bool x.d] 41)
  have HRow := Lib.hid (HG3.out.on ba).1
  have HB := Lib.hid (HG3.out.on ba).2
  have HAt := Lib.hid (At.vol w3 x 41)
  have HZ := Lib.hid HB.out.size
  clear ba HG3
  go_upto_region 5 with (at_builtin; refine wpList_appVol _ rfl (.tmp 23) (.tmp 25) rfl w1.heap.size _ (l.take N) rfl HRow.out (some ⟨w3.heap.size, 0, none⟩) 1 1 [x] rfl rfl HAt.out (by simp; omega) HZ.out ?_; intro v4 w4 o4 b4; clear HRow HAt y0 y1 y2 y3 y4)
  have HG4 := Lib.hid (show GrowVol w1 w4 v4 (l.take N ++ [x]) from ⟨o4, HB.out.trans b4⟩)
  obtain ⟨A4, c4, rfl, _, _⟩ := o4.shape
  clear o4 b4 HB HZ
  have hl4 : (l.take N ++ [x]).length = N + 1 := by simp; omega
  have HR4 : Hid ((l.take N ++ [x]) ++ (l.drop N).filter (fun y => !spotV x y) = R) := Lib.hid (by rw [← vflip_filter, ← HR.out]; simp)
  have HL4 := Lib.hid hl4
  have hlt4 : (l.drop N).length = l.length - N := by simp
  clear HR hl4 hl3
  generalize l.take N ++ [x] = m4 at *
  obtain ⟨x0, x1, x2⟩ := box2 (box_on P0.out HG4.out.2)
  by_cases hN : N < l.length
  · have hA : ∃ b off, A = some ⟨b, off, none⟩ := by
      obtain ⟨b, off, h, _⟩ := V1.out.vols hN
      exact ⟨b, off, h⟩
    obtain ⟨b, off, rfl⟩ := hA
    obtain ⟨hbb, hc⟩ := V1.out.tailVol N hN
    have FK : Hid (∀ wt, Below w1.heap.size w1 wt → ∀ k (hk : k < (l.drop N).length), VolF wt b (off + N * 4 + k * 4) (l.drop N)[k]) := Lib.hid (fun wt h k hk => (hc k hk).on hbb h)
    have hcN : ¬ c = N := by omega
    clear hc V1
    have HLT := Lib.hid hlt4
    clear hlt4
    generalize l.drop N = t at *
    go_wp2
    clear x0 x1 x2
    go_loopw [6, 8, 32] (fun o _ i wr => ∃ (k : Nat) (m : List VolD), k ≤ l.length - N ∧ i = .int .i64 k ∧ Hid (m.length ≤ N + 1 + k) ∧ Hid (m ++ (t.drop k).filter (fun y => !spotV x y) = R) ∧ Hid (GrowVol w1 wr o m)) (fun _ _ i _ => l.length - N - (intOf i).toNat)
    case atStart => exact ⟨0, m4, Nat.zero_le _, rfl, Lib.hid (Nat.le_of_eq HL4.out), HR4, HG4⟩
    case round =>
      clear HG4 HR4 HL4
      obtain ⟨k, m, hk, rfl, HM, HI, HG⟩ := hrel
      obtain ⟨Ao, co, rfl, _, _⟩ := HG.out.1.shape
      by_cases hlt : k < l.length - N
      · have hkt : k < t.length := by rw [HLT.out]; exact hlt
        have i5 : (k : Int) < ((l.length - N : Nat) : Int) := by omega
        have i6 : (0 : Int) ≤ (k : Int) := by omega
        obtain ⟨c0, c1, c2, c3⟩ := FK.out _ HG.out.2 k hkt
        have ba := bal1 wr (.cells #[.string (t[k]).a, .int .i64 (t[k]).b, .int .i64 (t[k]).c, .bool (t[k]).d] 41)
        have HGa := Lib.hid (HG.out.on ba)
        have PK := Lib.hid (al1 wr (.cells #[.string (t[k]).a, .int .i64 (t[k]).b, .int .i64 (t[k]).c, .bool (t[k]).d] 41))
        obtain ⟨x0, x1, x2⟩ := box2 (box_on P0.out HGa.out.2)
        obtain ⟨y0, y1, y2, y3, y4⟩ := box4 (box_on P1.out HGa.out.2)
        clear ba
        cases hs : spotV x t[k]
        · have HS := Lib.hid hs
          clear hs
          go_upto_region 9 with (go_at_call 191; refine (HT.out t[k] _).mono ?_; rintro r w5 ⟨rfl, b5⟩; rw [HS.out])
          have HG5 := Lib.hid (HGa.out.on b5)
          have PK5 := box_on PK.out b5
          clear c0 c1 c2 c3 x0 x1 x2 y0 y1 y2 y3 y4 b5 HGa HG PK
          obtain ⟨y0, y1, y2, y3, y4⟩ := box4 PK5
          clear PK5
          have ba := bal1 w5 (.cells #[.string (t[k]).a, .int .i64 (t[k]).b, .int .i64 (t[k]).c, .bool (t[k]).d] 41)
          have HRow := Lib.hid (HG5.out.on ba).1
          have HB := Lib.hid (HG5.out.on ba).2
          have HAt := Lib.hid (At.vol w5 t[k] 41)
          have HZ := Lib.hid HB.out.size
          clear ba HG5
          go_wp2_with (at_builtin; refine wpList_appVol _ rfl (.tmp 41) (.tmp 43) rfl w1.heap.size _ m rfl HRow.out (some ⟨w5.heap.size, 0, none⟩) 1 1 [t[k]] rfl rfl HAt.out (by have := HM.out; simp; omega) HZ.out ?_; intro v6 w6 o6 b6; clear HRow HAt y0 y1 y2 y3 y4)
          have HG6 := Lib.hid (show GrowVol w1 w6 v6 (m ++ [t[k]]) from ⟨o6, HB.out.trans b6⟩)
          clear o6 b6 HB HZ
          go_roundw
          case rel => exact ⟨k + 1, m ++ [t[k]], by omega, by go_num, Lib.hid (by have := HM.out; simp; omega), Lib.hid (vfilt_yes (p := fun y => !spotV x y) hkt (by rw [HS.out]; rfl) HI.out), HG6⟩
          case measure => simp [intOf]; omega
        · have HS := Lib.hid hs
          clear hs
          go_wp2_with fail
          refine (HT.out t[k] _).mono ?_
          rintro r w5 ⟨rfl, b5⟩
          rw [HS.out]
          have HG5 := Lib.hid (HGa.out.on b5)
          clear c0 c1 c2 c3 x0 x1 x2 y0 y1 y2 y3 y4 b5 HGa HG PK
          go_wp2
          go_roundw
          case rel => exact ⟨k + 1, m, by omega, by go_num, Lib.hid (by have := HM.out; omega), Lib.hid (vfilt_no (p := fun y => !spotV x y) hkt (by rw [HS.out]; rfl) HI.out), HG5⟩
          case measure => simp [intOf]; omega
      · have e : m = R := by
          have h := HI.out
          rw [List.drop_eq_nil_of_le (by rw [HLT.out]; omega)] at h
          simpa using h
        subst e
        obtain ⟨x0, x1, x2⟩ := box2 (box_on P0.out HG.out.2)
        obtain ⟨z0, z1, z2⟩ := box2 (box_on P2.out HG.out.2)
        go_wp2
        refine bodyPost_ret (v := .agg #[.slice Ao m.length co, lessVV]) (by simp [results, Tryz.results129, go_sem, lessVV, *]) rfl ⟨_, rfl, ?_, ?_⟩
        · exact ((HG.out.1.set (by omega)).set (by omega)).mono (by omega)
        · exact ((bstep B1.out HG.out.2).setCell (p := ⟨w.heap.size + 1 + 1, 0, none⟩) (by simp; omega) _).setCell (p := ⟨w.heap.size + 1 + 1, 1, none⟩) (by simp; omega) _
  · have hNl : N = l.length := by omega
    subst hNl
    have hR5 : m4 = R := by
      have h := HR4.out
      rw [List.drop_length] at h
      simpa using h
    subst hR5
    by_cases hc0 : c = l.length
    all_goals
      go_wp2
      clear x0 x1 x2
      go_loopw [6, 8, 32] (fun o _ i wr => i = .int .i64 0 ∧ o = .slice A4 m4.length c4 ∧ w4 = wr) (fun _ _ _ _ => 0)
      case atStart => exact ⟨rfl, rfl, rfl⟩
      case round =>
        obtain ⟨rfl, rfl, rfl⟩ := hrel
        obtain ⟨x0, x1, x2⟩ := box2 (box_on P0.out HG4.out.2)
        obtain ⟨z0, z1, z2⟩ := box2 (box_on P2.out HG4.out.2)
        go_wp2
        refine bodyPost_ret (v := .agg #[.slice A4 m4.length c4, lessVV]) (by simp [results, Tryz.results129, go_sem, lessVV, *]) rfl ⟨_, rfl, ?_, ?_⟩
        · exact ((HG4.out.1.set (by omega)).set (by omega)).mono (by omega)
        · exact ((bstep B1.out HG4.out.2).setCell (p := ⟨w.heap.size + 1 + 1, 0, none⟩) (by simp; omega) _).setCell (p := ⟨w.heap.size + 1 + 1, 1, none⟩) (by simp; omega) _
end Go.Proofs.YtlhemcjahcmdeaaGreatDoor
namespace Go.Proofs.YtlhemcjahcmdeaaGreatDoor
open Go.RowKit
set_option maxRecDepth 100000
set_option linter.unusedSimpArgs false
set_option linter.unusedVariables false

def spotG (x y : AgeD) : Bool := !decide (x.a < y.a) && !decide (y.a < x.a)
theorem spotG_def (x y : AgeD) : spotG x y = (!decide (x.a < y.a) && !decide (y.a < x.a)) := rfl
theorem spotG_comm (x y : AgeD) : spotG x y = spotG y x := by rw [spotG_def, spotG_def, Bool.and_comm]
def putGL (l : List AgeD) (x : AgeD) : List AgeD := l.take (plG l x.a) ++ (x :: (l.drop (plG l x.a)).filter (fun y => !spotG y x))
theorem putGL_eq (l : List AgeD) (x : AgeD) : putGL l x = l.take (plG l x.a) ++ (x :: (l.drop (plG l x.a)).filter (fun y => !spotG y x)) := rfl
theorem gflip_filter (t : List AgeD) (x : AgeD) : t.filter (fun y => !spotG y x) = t.filter (fun y => !spotG x y) := by
  congr 1
  funext y
  rw [spotG_comm]
theorem putGL_ins {l : List AgeD} {x : AgeD} (h : hasG l x.a = false) : putGL l x = insG l x := by
  unfold putGL insG
  rw [List.filter_eq_self.2]
  intro y hy
  have h1 := no_has h y (List.mem_of_mem_drop hy)
  have h2 : y.a ≠ x.a := by simpa using h1
  simp [spotG]
  omega
theorem gfilt_yes {l m : List AgeD} {k : Nat} {p : AgeD → Bool} (h : k < l.length) (hp : p l[k] = true) {R : List AgeD} (hf : m ++ (l.drop k).filter p = R) : (m ++ [l[k]]) ++ (l.drop (k + 1)).filter p = R := by
  rw [gdrop_at h, List.filter_cons, hp] at hf
  simpa using hf
theorem gfilt_no {l m : List AgeD} {k : Nat} {p : AgeD → Bool} (h : k < l.length) (hp : p l[k] = false) {R : List AgeD} (hf : m ++ (l.drop k).filter p = R) : m ++ (l.drop (k + 1)).filter p = R := by
  rw [gdrop_at h, List.filter_cons, hp] at hf
  simpa using hf
/-- What a loop that appends versions to a row of its own holds on to. -/
def GrowG (w wr : World) (o : Value) (m : List AgeD) : Prop := RowG wr w.heap.size o m ∧ Below w.heap.size w wr
theorem GrowG.on {w wr w' : World} {o : Value} {m : List AgeD} (h : GrowG w wr o m) (hb : Below wr.heap.size wr w') : GrowG w w' o m := ⟨h.1.on hb, bstep h.2 hb⟩
theorem run_makeAges1 (m : Nat) (hm : m ≤ 2000000) (w : World) :
    (Instr.makeSlice 28 (.int .i64 0) (.int .i64 ((m : Int) + 1))).run Tryz.prog w = .ok (.slice (some ⟨w.heap.size, 0, none⟩) 0 (m + 1)) (w.alloc (.cells (madeCells #[.int .i64 0, .int .i64 0] ((m + 1) * 2)) 155)) := run_makeAges 0 (m + 1) (Nat.zero_le _) (by omega) w
theorem Reads.tailG {w : World} {B b off n c : Nat} {e : TypeId} {l : List AgeD} (h : Reads w B (.slice (some ⟨b, off, none⟩) n c) (.row e 2 l.length (l.flatMap gC))) (N : Nat) (hN : N < l.length) : b < B ∧ ∀ k (hk : k < (l.drop N).length), Two w b (off + N * 2 + k * 2) (l.drop N)[k] := by
  obtain ⟨b', off', he, hb, hc⟩ := h.ages hN
  cases he
  refine ⟨hb, fun k hk => ?_⟩
  have h1 := hc (N + k) (by simp at hk; omega)
  rw [List.getElem_drop, Nat.add_assoc, ← Nat.add_mul]
  exact h1
set_option maxHeartbeats 1000000 in
theorem sameG_any (A : Option Addr) (n c : Nat) (x y : AgeD) (w : World) : Calls Tryz.prog 316 #[.agg #[.slice A n c, lessVG], (.agg #[.int .i64 x.a, .int .i64 x.b]), (.agg #[.int .i64 y.a, .int .i64 y.b])] w (SaysBool w (spotG x y)) := by
  rw [spotG_def]
  have HT := Lib.hid lessAge_any
  unfold lessVG
  obtain ⟨q0, q1, q2⟩ := al3 w (.cells #[.slice A n c, .func (.func 314) #[] #[]] 276) (.cells #[.int .i64 x.a, .int .i64 x.b] 155) (.cells #[.int .i64 y.a, .int .i64 y.b] 155)
  have HB := Lib.hid (bal3 w (.cells #[.slice A n c, .func (.func 314) #[] #[]] 276) (.cells #[.int .i64 x.a, .int .i64 x.b] 155) (.cells #[.int .i64 y.a, .int .i64 y.b] 155))
  have Q0 := Lib.hid q0
  have Q1 := Lib.hid q1
  have Q2 := Lib.hid q2
  clear q0 q1 q2
  obtain ⟨X, hX⟩ : ∃ X, decide (x.a < y.a) = X := ⟨_, rfl⟩
  obtain ⟨Y, hY⟩ : ∃ Y, decide (y.a < x.a) = Y := ⟨_, rfl⟩
  rw [hX, hY]
  have HX := Lib.hid hX
  have HY := Lib.hid hY
  clear hX hY
  cases X
  · cases Y
    all_goals
      go_enter Tryz.func316, Tryz.ntmps316
      go_wp2_with fail
      refine (HT.out _ _ _).mono ?_
      rintro r w1 ⟨rfl, b1⟩
      rw [HX.out]
      have B1 := Lib.hid (bstep HB.out b1)
      obtain ⟨x0, x1, x2⟩ := box2 (box_on Q0.out b1)
      obtain ⟨y0, y1, y2⟩ := box2 (box_on Q1.out b1)
      obtain ⟨z0, z1, z2⟩ := box2 (box_on Q2.out b1)
      clear b1
      go_wp2_with fail
      refine (HT.out _ _ _).mono ?_
      rintro r w2 ⟨rfl, b2⟩
      rw [HY.out]
      have B2 := Lib.hid (bstep B1.out b2)
      clear x0 x1 x2 y0 y1 y2 z0 z1 z2 b2
      go_wp2
      go_ret
      exact ⟨rfl, B2.out⟩
  · go_enter Tryz.func316, Tryz.ntmps316
    go_wp2_with fail
    refine (HT.out _ _ _).mono ?_
    rintro r w1 ⟨rfl, b1⟩
    rw [HX.out]
    have B1 := Lib.hid (bstep HB.out b1)
    clear b1
    go_wp2
    go_ret
    exact ⟨rfl, B1.out⟩
set_option maxHeartbeats 2000000 in
theorem placeG_any (v : Value) (l : List AgeD) (x : AgeD) (w : World) (hv : Reads w w.heap.size v (agesD l)) (hn : l.length ≤ 2097152) : Calls Tryz.prog 315 #[.agg #[v, lessVG], (.agg #[.int .i64 x.a, .int .i64 x.b])] w fun e w' => e = .returned (.int .i64 (plG l x.a : Nat)) ∧ Below w.heap.size w w' := by
  obtain ⟨A, c, rfl, _, _⟩ := hv.shapeG
  have HT := Lib.hid lessAge_any
  unfold lessVG
  obtain ⟨N, hN⟩ : ∃ N, plG l x.a = N := ⟨_, rfl⟩
  rw [hN]
  obtain ⟨q0, q1⟩ := al2 w (.cells #[.slice A l.length c, .func (.func 314) #[] #[]] 276) (.cells #[.int .i64 x.a, .int .i64 x.b] 155)
  have b0 := bal2 w (.cells #[.slice A l.length c, .func (.func 314) #[] #[]] 276) (.cells #[.int .i64 x.a, .int .i64 x.b] 155)
  have Q0 := Lib.hid q0
  have Q1 := Lib.hid q1
  have HB := Lib.hid b0
  have HV := Lib.hid (hv.on b0)
  have HN := Lib.hid hN
  clear hv b0 q0 q1 hN
  go_enter Tryz.func315, Tryz.ntmps315
  go_wp2
  generalize (w.alloc (.cells #[.slice A l.length c, .func (.func 314) #[] #[]] 276)).alloc (.cells #[.int .i64 x.a, .int .i64 x.b] 155) = W at *
  go_loopw [5, 6, 10] (fun _ _ i wr => ∃ k : Nat, k ≤ l.length ∧ i = .int .i64 k ∧ Hid (plG l x.a = k + plG (l.drop k) x.a) ∧ Hid (Below W.heap.size W wr)) (fun _ _ i _ => l.length - (intOf i).toNat)
  case atStart => exact ⟨0, Nat.zero_le _, rfl, Lib.hid (by simp), Lib.hid (Below.refl _ _)⟩
  case round =>
    obtain ⟨k, hk, rfl, HI, HW⟩ := hrel
    have hzr := HW.out.size
    by_cases hlt : k < l.length
    · obtain ⟨b, off, rfl, hbb, hc⟩ := (HV.out.on HW.out).ages hlt
      have i1 : (k : Int) < (l.length : Int) := by omega
      have i2 : (0 : Int) ≤ (k : Int) := by omega
      obtain ⟨c0, c1⟩ := hc k hlt
      have ba := bal1 wr (.cells #[.int .i64 (l[k]).a, .int .i64 (l[k]).b] 155)
      have BA := Lib.hid (HW.out.trans (ba.mono hzr))
      obtain ⟨x0, x1, x2⟩ := box2 (box_on Q0.out BA.out)
      obtain ⟨y0, y1, y2⟩ := box2 (box_on Q1.out BA.out)
      clear hc ba
      cases hs : decide (l[k].a < x.a)
      · have HS := Lib.hid hs
        clear hs
        go_wp2_with fail
        refine (HT.out l[k] x _).mono ?_
        rintro r w1 ⟨rfl, b1⟩
        rw [HS.out]
        have B1 := Lib.hid (BA.out.trans (b1.mono BA.out.size))
        clear c0 c1 x0 x1 x2 y0 y1 y2 b1
        go_wp2
        go_ret
        exact ⟨ret_intB (by rw [← HN.out, plG_hit hlt HS.out HI.out]), bstep HB.out B1.out⟩
      · have HS := Lib.hid hs
        clear hs
        go_wp2_with fail
        refine (HT.out l[k] x _).mono ?_
        rintro r w1 ⟨rfl, b1⟩
        rw [HS.out]
        have B1 := Lib.hid (BA.out.trans (b1.mono BA.out.size))
        clear c0 c1 x0 x1 x2 y0 y1 y2 b1
        go_wp2
        go_roundw
        case rel => exact ⟨k + 1, by omega, by go_num, Lib.hid (plG_step hlt HS.out HI.out), B1⟩
        case measure => simp [intOf]; omega
    · obtain ⟨x0, x1, x2⟩ := box2 (box_on Q0.out HW.out)
      have e : N = l.length := by
        rw [← HN.out, HI.out, List.drop_eq_nil_of_le (by omega)]
        simp [plG]
        omega
      subst e
      go_wp2
      go_ret
      exact ⟨rfl, bstep HB.out HW.out⟩
set_option maxHeartbeats 4000000 in
theorem putG_any (v : Value) (l : List AgeD) (x : AgeD) (w : World) (hv : Reads w w.heap.size v (agesD l)) (hn : l.length ≤ 2000000) : Calls Tryz.prog 251 #[.agg #[v, lessVG], (.agg #[.int .i64 x.a, .int .i64 x.b])] w fun e w' => ∃ v', e = .returned (.agg #[v', lessVG]) ∧ RowG w' w.heap.size v' (putGL l x) ∧ Below w.heap.size w w' := by
  obtain ⟨A, c, rfl, hcap, hmax⟩ := hv.shapeG
  have hmk := run_makeAges1 l.length hn
  have hst := store_lessG
  have HP := Lib.hid (fun w => placeG_any (.slice A l.length c) l x w)
  have HT := Lib.hid (sameG_any A l.length c x)
  unfold lessVG at HT HP
  unfold lessVG
  obtain ⟨R, hR⟩ : ∃ R, putGL l x = R := ⟨_, rfl⟩
  rw [hR]
  rw [putGL_eq] at hR
  have hple := plG_le l x.a
  obtain ⟨N, hN⟩ : ∃ N, plG l x.a = N := ⟨_, rfl⟩
  rw [hN] at hR hple HP
  obtain ⟨q0, q1, q2⟩ := al3 w (.cells #[.slice A l.length c, .func (.func 314) #[] #[]] 276) (.cells #[.int .i64 x.a, .int .i64 x.b] 155) (.cells #[.slice none 0 0, .nilFunc] 276)
  have b0 := bal3 w (.cells #[.slice A l.length c, .func (.func 314) #[] #[]] 276) (.cells #[.int .i64 x.a, .int .i64 x.b] 155) (.cells #[.slice none 0 0, .nilFunc] 276)
  have Q0 := Lib.hid q0
  have Q1 := Lib.hid q1
  have Q2 := Lib.hid q2
  have HB := Lib.hid b0
  have HV := Lib.hid (hv.on b0)
  have HR := Lib.hid hR
  have HZ : Hid ((((w.alloc (.cells #[.slice A l.length c, .func (.func 314) #[] #[]] 276)).alloc (.cells #[.int .i64 x.a, .int .i64 x.b] 155)).alloc (.cells #[.slice none 0 0, .nilFunc] 276)).heap.size = w.heap.size + 3) := Lib.hid (by simp)
  clear hv b0 q0 q1 q2 hR hN
  go_enter Tryz.func251, Tryz.ntmps251
  go_wp2_with fail
  refine (HP.out _ HV.out (by omega)).mono ?_
  rintro r w1 ⟨rfl, b1⟩
  have P0 := Lib.hid (box_on Q0.out b1)
  have P1 := Lib.hid (box_on Q1.out b1)
  have P2 := Lib.hid (box_on Q2.out b1)
  have B1 := Lib.hid (bstep HB.out b1)
  have V1 := Lib.hid (HV.out.on b1)
  have hz1 := b1.size
  rw [HZ.out] at hz1
  clear b1 Q0 Q1 Q2 HB HV HZ HP
  obtain ⟨x0, x1, x2⟩ := box2 P0.out
  have i1 : (N : Int) ≤ (l.length : Int) := by omega
  have i2 : (0 : Int) ≤ (N : Int) := by omega
  have i3 : (N : Int) ≤ (c : Int) := by omega
  have i4 : IntKind.i64.wrap ((l.length : Int) + 1) = (l.length : Int) + 1 := by rw [IntKind.wrap_i64]; omega
  go_upto_region 3 with (fail)
  have hbm := bal1 w1 (.cells (madeCells #[.int .i64 0, .int .i64 0] ((l.length + 1) * 2)) 155)
  have P0' := Lib.hid (box_on P0.out hbm)
  have START := Lib.hid (show GrowG w1 _ _ _ from ⟨RowG.made w1 (l.length + 1) (by omega), hbm⟩)
  clear hmk x0 x1 x2 hbm
  generalize w1.alloc (.cells (madeCells #[.int .i64 0, .int .i64 0] ((l.length + 1) * 2)) 155) = w2 at *
  obtain ⟨x0, x1, x2⟩ := box2 P0'.out
  have HAt := Lib.hid ((V1.out.on START.out.2).atG.takeG N)
  have HZ := Lib.hid START.out.2.size
  clear P0'
  go_upto_region 4 with (at_builtin; refine wpList_appG _ rfl (.tmp 17) (.tmp 21) rfl w1.heap.size _ [] rfl START.out.1 A N c (l.take N) rfl (by simp; omega) HAt.out (by simp; omega) HZ.out ?_; intro v3 w3 o3 b3)
  have HG3 := Lib.hid (show GrowG w1 w3 v3 (l.take N) from ⟨o3, START.out.2.trans b3⟩)
  obtain ⟨A3, c3, rfl, _, _⟩ := o3.shape
  clear o3 b3 START HAt HZ x0 x1 x2
  have hl3 : (l.take N).length = N := by simp; omega
  obtain ⟨y0, y1, y2⟩ := box2 (box_on P1.out HG3.out.2)
  have ba := bal1 w3 (.cells #[.int .i64 x.a, .int .i64 x.b] 155)
  have HRow := Lib.hid (HG3.out.on ba).1
  have HB := Lib.hid (HG3.out.on ba).2
  have HAt := Lib.hid (At.age w3 x 155)
  have HZ := Lib.hid HB.out.size
  clear ba HG3
  go_upto_region 5 with (at_builtin; refine wpList_appG _ rfl (.tmp 23) (.tmp 25) rfl w1.heap.size _ (l.take N) rfl HRow.out (some ⟨w3.heap.size, 0, none⟩) 1 1 [x] rfl rfl HAt.out (by simp; omega) HZ.out ?_; intro v4 w4 o4 b4; clear HRow HAt y0 y1 y2)
  have HG4 := Lib.hid (show GrowG w1 w4 v4 (l.take N ++ [x]) from ⟨o4, HB.out.trans b4⟩)
  obtain ⟨A4, c4, rfl, _, _⟩ := o4.shape
  clear o4 b4 HB HZ
  have hl4 : (l.take N ++ [x]).length = N + 1 := by simp; omega
  have HR4 : Hid ((l.take N ++ [x]) ++ (l.drop N).filter (fun y => !spotG x y) = R) := Lib.hid (by rw [← gflip_filter, ← HR.out]; simp)
  have HL4 := Lib.hid hl4
  have hlt4 : (l.drop N).length = l.length - N := by simp
  clear HR hl4 hl3
  generalize l.take N ++ [x] = m4 at *
  obtain ⟨x0, x1, x2⟩ := box2 (box_on P0.out HG4.out.2)
  by_cases hN : N < l.length
  · have hA : ∃ b off, A = some ⟨b, off, none⟩ := by
      obtain ⟨b, off, h, _⟩ := V1.out.ages hN
      exact ⟨b, off, h⟩
    obtain ⟨b, off, rfl⟩ := hA
    obtain ⟨hbb, hc⟩ := V1.out.tailG N hN
    have FK : Hid (∀ wt, Below w1.heap.size w1 wt → ∀ k (hk : k < (l.drop N).length), Two wt b (off + N * 2 + k * 2) (l.drop N)[k]) := Lib.hid (fun wt h k hk => (hc k hk).on hbb h)
    have hcN : ¬ c = N := by omega
    clear hc V1
    have HLT := Lib.hid hlt4
    clear hlt4
    generalize l.drop N = t at *
    go_wp2
    clear x0 x1 x2
    go_loopw [6, 8, 32] (fun o _ i wr => ∃ (k : Nat) (m : List AgeD), k ≤ l.length - N ∧ i = .int .i64 k ∧ Hid (m.length ≤ N + 1 + k) ∧ Hid (m ++ (t.drop k).filter (fun y => !spotG x y) = R) ∧ Hid (GrowG w1 wr o m)) (fun _ _ i _ => l.length - N - (intOf i).toNat)
    case atStart => exact ⟨0, m4, Nat.zero_le _, rfl, Lib.hid (Nat.le_of_eq HL4.out), HR4, HG4⟩
    case round =>
      clear HG4 HR4 HL4
      obtain ⟨k, m, hk, rfl, HM, HI, HG⟩ := hrel
      obtain ⟨Ao, co, rfl, _, _⟩ := HG.out.1.shape
      by_cases hlt : k < l.length - N
      · have hkt : k < t.length := by rw [HLT.out]; exact hlt
        have i5 : (k : Int) < ((l.length - N : Nat) : Int) := by omega
        have i6 : (0 : Int) ≤ (k : Int) := by omega
        obtain ⟨c0, c1⟩ := FK.out _ HG.out.2 k hkt
        have ba := bal1 wr (.cells #[.int .i64 (t[k]).a, .int .i64 (t[k]).b] 155)
        have HGa := Lib.hid (HG.out.on ba)
        have PK := Lib.hid (al1 wr (.cells #[.int .i64 (t[k]).a, .int .i64 (t[k]).b] 155))
        obtain ⟨x0, x1, x2⟩ := box2 (box_on P0.out HGa.out.2)
        obtain ⟨y0, y1, y2⟩ := box2 (box_on P1.out HGa.out.2)
        clear ba
        cases hs : spotG x t[k]
        · have HS := Lib.hid hs
          clear hs
          go_upto_region 9 with (go_at_call 316; refine (HT.out t[k] _).mono ?_; rintro r w5 ⟨rfl, b5⟩; rw [HS.out])
          have HG5 := Lib.hid (HGa.out.on b5)
          have PK5 := box_on PK.out b5
          clear c0 c1 x0 x1 x2 y0 y1 y2 b5 HGa HG PK
          obtain ⟨y0, y1, y2⟩ := box2 PK5
          clear PK5
          have ba := bal1 w5 (.cells #[.int .i64 (t[k]).a, .int .i64 (t[k]).b] 155)
          have HRow := Lib.hid (HG5.out.on ba).1
          have HB := Lib.hid (HG5.out.on ba).2
          have HAt := Lib.hid (At.age w5 t[k] 155)
          have HZ := Lib.hid HB.out.size
          clear ba HG5
          go_wp2_with (at_builtin; refine wpList_appG _ rfl (.tmp 41) (.tmp 43) rfl w1.heap.size _ m rfl HRow.out (some ⟨w5.heap.size, 0, none⟩) 1 1 [t[k]] rfl rfl HAt.out (by have := HM.out; simp; omega) HZ.out ?_; intro v6 w6 o6 b6; clear HRow HAt y0 y1 y2)
          have HG6 := Lib.hid (show GrowG w1 w6 v6 (m ++ [t[k]]) from ⟨o6, HB.out.trans b6⟩)
          clear o6 b6 HB HZ
          go_roundw
          case rel => exact ⟨k + 1, m ++ [t[k]], by omega, by go_num, Lib.hid (by have := HM.out; simp; omega), Lib.hid (gfilt_yes (p := fun y => !spotG x y) hkt (by rw [HS.out]; rfl) HI.out), HG6⟩
          case measure => simp [intOf]; omega
        · have HS := Lib.hid hs
          clear hs
          go_wp2_with fail
          refine (HT.out t[k] _).mono ?_
          rintro r w5 ⟨rfl, b5⟩
          rw [HS.out]
          have HG5 := Lib.hid (HGa.out.on b5)
          clear c0 c1 x0 x1 x2 y0 y1 y2 b5 HGa HG PK
          go_wp2
          go_roundw
          case rel => exact ⟨k + 1, m, by omega, by go_num, Lib.hid (by have := HM.out; omega), Lib.hid (gfilt_no (p := fun y => !spotG x y) hkt (by rw [HS.out]; rfl) HI.out), HG5⟩
          case measure => simp [intOf]; omega
      · have e : m = R := by
          have h := HI.out
          rw [List.drop_eq_nil_of_le (by rw [HLT.out]; omega)] at h
          simpa using h
        subst e
        obtain ⟨x0, x1, x2⟩ := box2 (box_on P0.out HG.out.2)
        obtain ⟨z0, z1, z2⟩ := box2 (box_on P2.out HG.out.2)
        go_wp2
        refine bodyPost_ret (v := .agg #[.slice Ao m.length co, lessVG]) (by simp [results, Tryz.results251, go_sem, lessVG, *]) rfl ⟨_, rfl, ?_, ?_⟩
        · exact ((HG.out.1.set (by omega)).set (by omega)).mono (by omega)
        · exact ((bstep B1.out HG.out.2).setCell (p := ⟨w.heap.size + 1 + 1, 0, none⟩) (by simp; omega) _).setCell (p := ⟨w.heap.size + 1 + 1, 1, none⟩) (by simp; omega) _
  · have hNl : N = l.length := by omega
    subst hNl
    have hR5 : m4 = R := by
      have h := HR4.out
      rw [List.drop_length] at h
      simpa using h
    subst hR5
    by_cases hc0 : c = l.length
    all_goals
      go_wp2
      clear x0 x1 x2
      go_loopw [6, 8, 32] (fun o _ i wr => i = .int .i64 0 ∧ o = .slice A4 m4.length c4 ∧ w4 = wr) (fun _ _ _ _ => 0)
      case atStart => exact ⟨rfl, rfl, rfl⟩
      case round =>
        obtain ⟨rfl, rfl, rfl⟩ := hrel
        obtain ⟨x0, x1, x2⟩ := box2 (box_on P0.out HG4.out.2)
        obtain ⟨z0, z1, z2⟩ := box2 (box_on P2.out HG4.out.2)
        go_wp2
        refine bodyPost_ret (v := .agg #[.slice A4 m4.length c4, lessVG]) (by simp [results, Tryz.results251, go_sem, lessVG, *]) rfl ⟨_, rfl, ?_, ?_⟩
        · exact ((HG4.out.1.set (by omega)).set (by omega)).mono (by omega)
        · exact ((bstep B1.out HG4.out.2).setCell (p := ⟨w.heap.size + 1 + 1, 0, none⟩) (by simp; omega) _).setCell (p := ⟨w.heap.size + 1 + 1, 1, none⟩) (by simp; omega) _
end Go.Proofs.YtlhemcjahcmdeaaGreatDoor
namespace Go.Proofs.YtlhemcjahcmdeaaGreatDoor
open Go.RowKit
set_option maxRecDepth 100000
set_option linter.unusedSimpArgs false
set_option linter.unusedVariables false

set_option maxHeartbeats 4000000 in
theorem implAgesOk_any (v : Value) (l : List AgeD) (w : World) (hv : Reads w w.heap.size v (agesD l)) (hn : l.length ≤ 2097152) : Calls Tryz.prog 221 #[v] w (SaysBool w (agesOkB l)) := by
  obtain ⟨A, c, rfl, hcap, hmax⟩ := hv.shapeG
  have HK := Lib.hid (ageSet_any A l.length c)
  have HA := Lib.hid (fun w => ascendingG_any (.slice A l.length c) l w)
  unfold lessVG at HK HA
  obtain ⟨R, hR⟩ : ∃ R, agesOkB l = R := ⟨_, rfl⟩
  rw [hR]
  have HR := Lib.hid hR
  have HV := Lib.hid hv
  clear hv hR
  by_cases h16 : l.length ≤ 16
  · have d0 : decide ((16 : Int) < (l.length : Int)) = false := decide_eq_false (by omega)
    go_enter Tryz.func221, Tryz.ntmps221
    go_wp2
    go_loopw [3, 4, 10] (fun _ _ i wr => ∃ k : Nat, k ≤ l.length ∧ i = .int .i64 k ∧ Hid (∀ j, j < k → fitG l j = true) ∧ Hid (Below w.heap.size w wr)) (fun _ _ i _ => l.length - (intOf i).toNat)
    case atStart => exact ⟨0, Nat.zero_le _, rfl, Lib.hid (fun j h => by omega), Lib.hid (Below.refl _ _)⟩
    case round =>
      clear d0
      obtain ⟨k, hk, rfl, HI, HW⟩ := hrel
      have hzr := HW.out.size
      by_cases hlt : k < l.length
      · have HTK := Lib.hid (((HV.out.on HW.out).on (bal1 wr (.cells #[.int .i64 (l[k]).a, .int .i64 (l[k]).b] 155))).takeG k hk)
        obtain ⟨b, off, rfl, hbb, hc⟩ := (HV.out.on HW.out).ages hlt
        have i1 : (k : Int) < (l.length : Int) := by omega
        have i2 : (0 : Int) ≤ (k : Int) := by omega
        have i3 : (k : Int) ≤ (c : Int) := by omega
        have i4 : k ≤ c := by omega
        obtain ⟨c0, c1⟩ := hc k hlt
        have QA := Lib.hid (al1 wr (.cells #[.int .i64 (l[k]).a, .int .i64 (l[k]).b] 155))
        have BA := Lib.hid (HW.out.trans ((bal1 wr (.cells #[.int .i64 (l[k]).a, .int .i64 (l[k]).b] 155)).mono hzr))
        have hfit := gfit_at hlt
        clear hc
        go_upto_region 6 with (fail)
        clear c0 c1
        generalize wr.alloc (.cells #[.int .i64 (l[k]).a, .int .i64 (l[k]).b] 155) = wa at *
        by_cases p1 : (l[k]).a < 1
        · have HF : Hid (fitG l k = false) := Lib.hid (by rw [hfit, show idG (l[k]).a = false by simp [idG]; omega]; rfl)
          have d1 : decide ((l[k]).a < 1) = true := decide_eq_true p1
          clear p1 hfit
          refine but_begin (f := 16) (S := fun V => Below wa.drew.heap.size wa.drew V) (by kernel_rfl) ?_
          refine bt (f := 16) (i := 0) (v := ?via0) rfl (Or.inl ⟨(by rfl), ?hyia0⟩) (Below.refl _ _) ?restia0
          case hyia0 => intro W hW; go_simp; exact rfl
          simp only [zA, zB, zC, Act.put, zD, zE, zF]
          refine bt (f := 16) (i := 1) (v := ?via1) rfl (Or.inl ⟨(by rfl), ?hyia1⟩) (Below.refl _ _) ?restia1
          case hyia1 =>
            intro W hW
            have hb0 : Below wa.heap.size wa W := bstep (Below.drew1 _) hW
            obtain ⟨y0, y1, y2⟩ := box2 (box_on QA.out hb0)
            go_simp
            exact rfl
          simp only [zA, zB, zC, Act.put, zD, zE, zF]
          refine bt (f := 16) (i := 2) (v := ?via2) rfl (Or.inl ⟨(by rfl), ?hyia2⟩) (Below.refl _ _) ?restia2
          case hyia2 => intro W hW; go_simp; exact rfl
          simp only [zA, zB, zC, Act.put, zD, zE, zF]
          refine bt (f := 16) (i := 3) (v := ?via3) rfl (Or.inl ⟨(by rfl), ?hyia3⟩) (Below.refl _ _) ?restia3
          case hyia3 => intro W hW; go_simp; exact rfl
          simp only [zA, zB, zC, Act.put, zD, zE, zF]
          refine bt (f := 16) (i := 4) (v := undef) rfl (Or.inr ⟨((wanted_at rfl rfl rfl rfl).trans rfl), rfl⟩) (Below.refl _ _) ?_
          simp only [zA, zB, zC, Act.put, zD, zE, zF]
          refine bt (f := 16) (i := 5) (v := undef) rfl (Or.inr ⟨((wanted_at rfl rfl rfl rfl).trans rfl), rfl⟩) (Below.refl _ _) ?_
          simp only [zA, zB, zC, Act.put, zD, zE, zF]
          refine bt (f := 16) (i := 6) (v := undef) rfl (Or.inr ⟨((wanted_at rfl rfl rfl rfl).trans rfl), rfl⟩) (Below.refl _ _) ?_
          simp only [zA, zB, zC, Act.put, zD, zE, zF]
          refine bt (f := 16) (i := 7) (v := ?via7) rfl (Or.inl ⟨(by rfl), ?hyia7⟩) (Below.refl _ _) ?restia7
          case hyia7 => intro W hW; go_simp; exact rfl
          simp only [zA, zB, zC, Act.put, zD, zE, zF]
          refine bt (f := 16) (i := 8) (v := ?via8) rfl (Or.inl ⟨(by rfl), ?hyia8⟩) (Below.refl _ _) ?restia8
          case hyia8 => intro W hW; go_simp; exact rfl
          simp only [zA, zB, zC, Act.put, zD, zE, zF]
          refine bt (f := 16) (i := 9) (v := undef) rfl (Or.inr ⟨((wanted_at rfl rfl rfl rfl).trans rfl), rfl⟩) (Below.refl _ _) ?_
          simp only [zA, zB, zC, Act.put, zD, zE, zF]
          refine bt (f := 16) (i := 10) (v := undef) rfl (Or.inr ⟨((wanted_at rfl rfl rfl rfl).trans rfl), rfl⟩) (Below.refl _ _) ?_
          simp only [zA, zB, zC, Act.put, zD, zE, zF]
          refine bt (f := 16) (i := 11) (v := undef) rfl (Or.inr ⟨((wanted_at rfl rfl rfl rfl).trans rfl), rfl⟩) (Below.refl _ _) ?_
          simp only [zA, zB, zC, Act.put, zD, zE, zF]
          refine bt (f := 16) (i := 12) (v := undef) rfl (Or.inr ⟨((wanted_at rfl rfl rfl rfl).trans rfl), rfl⟩) (Below.refl _ _) ?_
          simp only [zA, zB, zC, Act.put, zD, zE, zF]
          refine bt (f := 16) (i := 13) (v := undef) rfl (Or.inr ⟨((wanted_at rfl rfl rfl rfl).trans rfl), rfl⟩) (Below.refl _ _) ?_
          simp only [zA, zB, zC, Act.put, zD, zE, zF]
          refine bt (f := 16) (i := 14) (v := undef) rfl (Or.inr ⟨((wanted_at rfl rfl rfl rfl).trans rfl), rfl⟩) (Below.refl _ _) ?_
          simp only [zA, zB, zC, Act.put, zD, zE, zF]
          refine bt (f := 16) (i := 15) (v := undef) rfl (Or.inr ⟨((wanted_at rfl rfl rfl rfl).trans rfl), rfl⟩) (Below.refl _ _) ?_
          simp only [zA, zB, zC, Act.put, zD, zE, zF]
          refine but_run (i := 16) (by kernel_rfl) rfl (by rfl) ?_
          simp only [zA, zB, zC]
          intro K HK
          go_wp2_with fail
          refine HK.out _ wa.drew (fun h => absurd rfl h) ?_
          clear HK
          refine but_done (by kernel_rfl) ?_
          go_wp2_with fail
          go_ret
          exact ⟨ret_boolB (by rw [← HR.out]; exact (fit_miss hlt HF.out).symm), bstep BA.out (bstep (Below.drew1 _) (Below.refl _ _))⟩
        · by_cases p2 : 60 < (l[k]).a
          · have HF : Hid (fitG l k = false) := Lib.hid (by rw [hfit, show idG (l[k]).a = false by simp [idG]; omega]; rfl)
            have d1 : decide ((l[k]).a < 1) = false := decide_eq_false p1
            have d2 : decide (60 < (l[k]).a) = true := decide_eq_true p2
            clear p1 p2 hfit
            refine but_begin (f := 16) (S := fun V => Below wa.drew.heap.size wa.drew V) (by kernel_rfl) ?_
            refine bt (f := 16) (i := 0) (v := ?vib0) rfl (Or.inl ⟨(by rfl), ?hyib0⟩) (Below.refl _ _) ?restib0
            case hyib0 => intro W hW; go_simp; exact rfl
            simp only [zA, zB, zC, Act.put, zD, zE, zF]
            refine bt (f := 16) (i := 1) (v := ?vib1) rfl (Or.inl ⟨(by rfl), ?hyib1⟩) (Below.refl _ _) ?restib1
            case hyib1 =>
              intro W hW
              have hb0 : Below wa.heap.size wa W := bstep (Below.drew1 _) hW
              obtain ⟨y0, y1, y2⟩ := box2 (box_on QA.out hb0)
              go_simp
              exact rfl
            simp only [zA, zB, zC, Act.put, zD, zE, zF]
            refine bt (f := 16) (i := 2) (v := ?vib2) rfl (Or.inl ⟨(by rfl), ?hyib2⟩) (Below.refl _ _) ?restib2
            case hyib2 => intro W hW; go_simp; exact rfl
            simp only [zA, zB, zC, Act.put, zD, zE, zF]
            refine bt (f := 16) (i := 3) (v := ?vib3) rfl (Or.inl ⟨(by rfl), ?hyib3⟩) (Below.refl _ _) ?restib3
            case hyib3 => intro W hW; go_simp; exact rfl
            simp only [zA, zB, zC, Act.put, zD, zE, zF]
            refine bt (f := 16) (i := 4) (v := ?vib4) rfl (Or.inl ⟨((wanted_at rfl rfl rfl rfl).trans rfl), ?hyib4⟩) (Below.refl _ _) ?restib4
            case hyib4 => intro W hW; go_simp; exact rfl
            simp only [zA, zB, zC, Act.put, zD, zE, zF]
            refine bt (f := 16) (i := 5) (v := ?vib5) rfl (Or.inl ⟨((wanted_at rfl rfl rfl rfl).trans rfl), ?hyib5⟩) (Below.refl _ _) ?restib5
            case hyib5 =>
              intro W hW
              have hb0 : Below wa.heap.size wa W := bstep (Below.drew1 _) hW
              obtain ⟨y0, y1, y2⟩ := box2 (box_on QA.out hb0)
              go_simp
              exact rfl
            simp only [zA, zB, zC, Act.put, zD, zE, zF]
            refine bt (f := 16) (i := 6) (v := ?vib6) rfl (Or.inl ⟨((wanted_at rfl rfl rfl rfl).trans rfl), ?hyib6⟩) (Below.refl _ _) ?restib6
            case hyib6 => intro W hW; go_simp; exact rfl
            simp only [zA, zB, zC, Act.put, zD, zE, zF]
            refine bt (f := 16) (i := 7) (v := ?vib7) rfl (Or.inl ⟨(by rfl), ?hyib7⟩) (Below.refl _ _) ?restib7
            case hyib7 => intro W hW; go_simp; exact rfl
            simp only [zA, zB, zC, Act.put, zD, zE, zF]
            refine bt (f := 16) (i := 8) (v := ?vib8) rfl (Or.inl ⟨(by rfl), ?hyib8⟩) (Below.refl _ _) ?restib8
            case hyib8 => intro W hW; go_simp; exact rfl
            simp only [zA, zB, zC, Act.put, zD, zE, zF]
            refine bt (f := 16) (i := 9) (v := undef) rfl (Or.inr ⟨((wanted_at rfl rfl rfl rfl).trans rfl), rfl⟩) (Below.refl _ _) ?_
            simp only [zA, zB, zC, Act.put, zD, zE, zF]
            refine bt (f := 16) (i := 10) (v := undef) rfl (Or.inr ⟨((wanted_at rfl rfl rfl rfl).trans rfl), rfl⟩) (Below.refl _ _) ?_
            simp only [zA, zB, zC, Act.put, zD, zE, zF]
            refine bt (f := 16) (i := 11) (v := undef) rfl (Or.inr ⟨((wanted_at rfl rfl rfl rfl).trans rfl), rfl⟩) (Below.refl _ _) ?_
            simp only [zA, zB, zC, Act.put, zD, zE, zF]
            refine bt (f := 16) (i := 12) (v := undef) rfl (Or.inr ⟨((wanted_at rfl rfl rfl rfl).trans rfl), rfl⟩) (Below.refl _ _) ?_
            simp only [zA, zB, zC, Act.put, zD, zE, zF]
            refine bt (f := 16) (i := 13) (v := undef) rfl (Or.inr ⟨((wanted_at rfl rfl rfl rfl).trans rfl), rfl⟩) (Below.refl _ _) ?_
            simp only [zA, zB, zC, Act.put, zD, zE, zF]
            refine bt (f := 16) (i := 14) (v := undef) rfl (Or.inr ⟨((wanted_at rfl rfl rfl rfl).trans rfl), rfl⟩) (Below.refl _ _) ?_
            simp only [zA, zB, zC, Act.put, zD, zE, zF]
            refine bt (f := 16) (i := 15) (v := undef) rfl (Or.inr ⟨((wanted_at rfl rfl rfl rfl).trans rfl), rfl⟩) (Below.refl _ _) ?_
            simp only [zA, zB, zC, Act.put, zD, zE, zF]
            refine but_run (i := 16) (by kernel_rfl) rfl (by rfl) ?_
            simp only [zA, zB, zC]
            intro K HK
            go_wp2_with fail
            refine HK.out _ wa.drew (fun h => absurd rfl h) ?_
            clear HK
            refine but_done (by kernel_rfl) ?_
            go_wp2_with fail
            go_ret
            exact ⟨ret_boolB (by rw [← HR.out]; exact (fit_miss hlt HF.out).symm), bstep BA.out (bstep (Below.drew1 _) (Below.refl _ _))⟩
          · have hid : idG (l[k]).a = true := by simp [idG]; omega
            have d1 : decide ((l[k]).a < 1) = false := decide_eq_false p1
            have d2 : decide (60 < (l[k]).a) = false := decide_eq_false p2
            cases hp : ((l[k]).b == 0 || hasG (l.take k) (l[k]).b)
            · have HP := Lib.hid hp
              have HF : Hid (fitG l k = false) := Lib.hid (by rw [hfit, hid, parGB, hp]; rfl)
              clear p1 p2 hfit hid hp
              refine but_begin (f := 16) (S := fun V => Below wa.drew.heap.size wa.drew V) (by kernel_rfl) ?_
              refine bt (f := 16) (i := 0) (v := ?vic0) rfl (Or.inl ⟨(by rfl), ?hyic0⟩) (Below.refl _ _) ?restic0
              case hyic0 => intro W hW; go_simp; exact rfl
              simp only [zA, zB, zC, Act.put, zD, zE, zF]
              refine bt (f := 16) (i := 1) (v := ?vic1) rfl (Or.inl ⟨(by rfl), ?hyic1⟩) (Below.refl _ _) ?restic1
              case hyic1 =>
                intro W hW
                have hb0 : Below wa.heap.size wa W := bstep (Below.drew1 _) hW
                obtain ⟨y0, y1, y2⟩ := box2 (box_on QA.out hb0)
                go_simp
                exact rfl
              simp only [zA, zB, zC, Act.put, zD, zE, zF]
              refine bt (f := 16) (i := 2) (v := ?vic2) rfl (Or.inl ⟨(by rfl), ?hyic2⟩) (Below.refl _ _) ?restic2
              case hyic2 => intro W hW; go_simp; exact rfl
              simp only [zA, zB, zC, Act.put, zD, zE, zF]
              refine bt (f := 16) (i := 3) (v := ?vic3) rfl (Or.inl ⟨(by rfl), ?hyic3⟩) (Below.refl _ _) ?restic3
              case hyic3 => intro W hW; go_simp; exact rfl
              simp only [zA, zB, zC, Act.put, zD, zE, zF]
              refine bt (f := 16) (i := 4) (v := ?vic4) rfl (Or.inl ⟨((wanted_at rfl rfl rfl rfl).trans rfl), ?hyic4⟩) (Below.refl _ _) ?restic4
              case hyic4 => intro W hW; go_simp; exact rfl
              simp only [zA, zB, zC, Act.put, zD, zE, zF]
              refine bt (f := 16) (i := 5) (v := ?vic5) rfl (Or.inl ⟨((wanted_at rfl rfl rfl rfl).trans rfl), ?hyic5⟩) (Below.refl _ _) ?restic5
              case hyic5 =>
                intro W hW
                have hb0 : Below wa.heap.size wa W := bstep (Below.drew1 _) hW
                obtain ⟨y0, y1, y2⟩ := box2 (box_on QA.out hb0)
                go_simp
                exact rfl
              simp only [zA, zB, zC, Act.put, zD, zE, zF]
              refine bt (f := 16) (i := 6) (v := ?vic6) rfl (Or.inl ⟨((wanted_at rfl rfl rfl rfl).trans rfl), ?hyic6⟩) (Below.refl _ _) ?restic6
              case hyic6 => intro W hW; go_simp; exact rfl
              simp only [zA, zB, zC, Act.put, zD, zE, zF]
              refine bt (f := 16) (i := 7) (v := ?vic7) rfl (Or.inl ⟨(by rfl), ?hyic7⟩) (Below.refl _ _) ?restic7
              case hyic7 => intro W hW; go_simp; exact rfl
              simp only [zA, zB, zC, Act.put, zD, zE, zF]
              refine bt (f := 16) (i := 8) (v := ?vic8) rfl (Or.inl ⟨(by rfl), ?hyic8⟩) (Below.refl _ _) ?restic8
              case hyic8 => intro W hW; go_simp; exact rfl
              simp only [zA, zB, zC, Act.put, zD, zE, zF]
              refine bt (f := 16) (i := 9) (v := ?vic9) rfl (Or.inl ⟨((wanted_at rfl rfl rfl rfl).trans rfl), ?hyic9⟩) (Below.refl _ _) ?restic9
              case hyic9 => intro W hW; go_simp; exact rfl
              simp only [zA, zB, zC, Act.put, zD, zE, zF]
              refine bt (f := 16) (i := 10) (v := ?vic10) rfl (Or.inl ⟨((wanted_at rfl rfl rfl rfl).trans rfl), ?hyic10⟩) (Below.refl _ _) ?restic10
              case hyic10 => intro W hW; go_simp; exact rfl
              simp only [zA, zB, zC, Act.put, zD, zE, zF]
              refine bt (f := 16) (i := 11) (v := ?vic11) rfl (Or.inl ⟨((wanted_at rfl rfl rfl rfl).trans rfl), ?hyic11⟩) (Below.refl _ _) ?restic11
              case hyic11 => intro W hW; go_simp; exact rfl
              simp only [zA, zB, zC, Act.put, zD, zE, zF]
              refine bt (f := 16) (i := 12) (v := ?vic12) rfl (Or.inl ⟨((wanted_at rfl rfl rfl rfl).trans rfl), ?hyic12⟩) (Below.refl _ _) ?restic12
              case hyic12 => intro W hW; go_simp; exact rfl
              simp only [zA, zB, zC, Act.put, zD, zE, zF]
              refine bt (f := 16) (i := 13) (v := ?vic13) rfl (Or.inl ⟨((wanted_at rfl rfl rfl rfl).trans rfl), ?hyic13⟩) (Below.refl _ _) ?restic13
              case hyic13 =>
                intro W hW
                have hb0 : Below wa.heap.size wa W := bstep (Below.drew1 _) hW
                obtain ⟨y0, y1, y2⟩ := box2 (box_on QA.out hb0)
                go_simp
                exact rfl
              simp only [zA, zB, zC, Act.put, zD, zE, zF]
              refine but_run (i := 14) (by kernel_rfl) rfl ((wanted_at rfl rfl rfl rfl).trans rfl) ?_
              simp only [zA, zB, zC]
              intro K HK
              go_wp2_with fail
              refine (parentOk_any _ (l.take k) (l[k]).b _ (HTK.out.on (bstep (Below.drew1 _) (Below.refl _ _))) (by simp; omega)).mono ?_
              rintro r Vic1 ⟨rfl, hBic1⟩
              rw [HP.out]
              have hSic1 := bstep (Below.refl _ _) hBic1
              go_wp2_with fail
              refine HK.out _ Vic1 (fun _ => hSic1) ?_
              clear HK
              refine bt (f := 16) (i := 15) (v := ?vic15) rfl (Or.inl ⟨((wanted_at rfl rfl rfl rfl).trans rfl), ?hyic15⟩) hSic1 ?restic15
              case hyic15 => intro W hW; go_simp; exact rfl
              simp only [zA, zB, zC, Act.put, zD, zE, zF]
              refine but_run (i := 16) (by kernel_rfl) rfl (by rfl) ?_
              simp only [zA, zB, zC]
              intro K HK
              go_wp2_with fail
              refine HK.out _ Vic1 (fun h => absurd rfl h) ?_
              clear HK
              refine but_done (by kernel_rfl) ?_
              go_wp2_with fail
              go_ret
              exact ⟨ret_boolB (by rw [← HR.out]; exact (fit_miss hlt HF.out).symm), bstep BA.out (bstep (Below.drew1 _) hSic1)⟩
            · have HP := Lib.hid hp
              have HF : Hid (fitG l k = true) := Lib.hid (by rw [hfit, hid, parGB, hp]; rfl)
              clear p1 p2 hfit hid hp
              refine but_begin (f := 16) (S := fun V => Below wa.drew.heap.size wa.drew V) (by kernel_rfl) ?_
              refine bt (f := 16) (i := 0) (v := ?vid0) rfl (Or.inl ⟨(by rfl), ?hyid0⟩) (Below.refl _ _) ?restid0
              case hyid0 => intro W hW; go_simp; exact rfl
              simp only [zA, zB, zC, Act.put, zD, zE, zF]
              refine bt (f := 16) (i := 1) (v := ?vid1) rfl (Or.inl ⟨(by rfl), ?hyid1⟩) (Below.refl _ _) ?restid1
              case hyid1 =>
                intro W hW
                have hb0 : Below wa.heap.size wa W := bstep (Below.drew1 _) hW
                obtain ⟨y0, y1, y2⟩ := box2 (box_on QA.out hb0)
                go_simp
                exact rfl
              simp only [zA, zB, zC, Act.put, zD, zE, zF]
              refine bt (f := 16) (i := 2) (v := ?vid2) rfl (Or.inl ⟨(by rfl), ?hyid2⟩) (Below.refl _ _) ?restid2
              case hyid2 => intro W hW; go_simp; exact rfl
              simp only [zA, zB, zC, Act.put, zD, zE, zF]
              refine bt (f := 16) (i := 3) (v := ?vid3) rfl (Or.inl ⟨(by rfl), ?hyid3⟩) (Below.refl _ _) ?restid3
              case hyid3 => intro W hW; go_simp; exact rfl
              simp only [zA, zB, zC, Act.put, zD, zE, zF]
              refine bt (f := 16) (i := 4) (v := ?vid4) rfl (Or.inl ⟨((wanted_at rfl rfl rfl rfl).trans rfl), ?hyid4⟩) (Below.refl _ _) ?restid4
              case hyid4 => intro W hW; go_simp; exact rfl
              simp only [zA, zB, zC, Act.put, zD, zE, zF]
              refine bt (f := 16) (i := 5) (v := ?vid5) rfl (Or.inl ⟨((wanted_at rfl rfl rfl rfl).trans rfl), ?hyid5⟩) (Below.refl _ _) ?restid5
              case hyid5 =>
                intro W hW
                have hb0 : Below wa.heap.size wa W := bstep (Below.drew1 _) hW
                obtain ⟨y0, y1, y2⟩ := box2 (box_on QA.out hb0)
                go_simp
                exact rfl
              simp only [zA, zB, zC, Act.put, zD, zE, zF]
              refine bt (f := 16) (i := 6) (v := ?vid6) rfl (Or.inl ⟨((wanted_at rfl rfl rfl rfl).trans rfl), ?hyid6⟩) (Below.refl _ _) ?restid6
              case hyid6 => intro W hW; go_simp; exact rfl
              simp only [zA, zB, zC, Act.put, zD, zE, zF]
              refine bt (f := 16) (i := 7) (v := ?vid7) rfl (Or.inl ⟨(by rfl), ?hyid7⟩) (Below.refl _ _) ?restid7
              case hyid7 => intro W hW; go_simp; exact rfl
              simp only [zA, zB, zC, Act.put, zD, zE, zF]
              refine bt (f := 16) (i := 8) (v := ?vid8) rfl (Or.inl ⟨(by rfl), ?hyid8⟩) (Below.refl _ _) ?restid8
              case hyid8 => intro W hW; go_simp; exact rfl
              simp only [zA, zB, zC, Act.put, zD, zE, zF]
              refine bt (f := 16) (i := 9) (v := ?vid9) rfl (Or.inl ⟨((wanted_at rfl rfl rfl rfl).trans rfl), ?hyid9⟩) (Below.refl _ _) ?restid9
              case hyid9 => intro W hW; go_simp; exact rfl
              simp only [zA, zB, zC, Act.put, zD, zE, zF]
              refine bt (f := 16) (i := 10) (v := ?vid10) rfl (Or.inl ⟨((wanted_at rfl rfl rfl rfl).trans rfl), ?hyid10⟩) (Below.refl _ _) ?restid10
              case hyid10 => intro W hW; go_simp; exact rfl
              simp only [zA, zB, zC, Act.put, zD, zE, zF]
              refine bt (f := 16) (i := 11) (v := ?vid11) rfl (Or.inl ⟨((wanted_at rfl rfl rfl rfl).trans rfl), ?hyid11⟩) (Below.refl _ _) ?restid11
              case hyid11 => intro W hW; go_simp; exact rfl
              simp only [zA, zB, zC, Act.put, zD, zE, zF]
              refine bt (f := 16) (i := 12) (v := ?vid12) rfl (Or.inl ⟨((wanted_at rfl rfl rfl rfl).trans rfl), ?hyid12⟩) (Below.refl _ _) ?restid12
              case hyid12 => intro W hW; go_simp; exact rfl
              simp only [zA, zB, zC, Act.put, zD, zE, zF]
              refine bt (f := 16) (i := 13) (v := ?vid13) rfl (Or.inl ⟨((wanted_at rfl rfl rfl rfl).trans rfl), ?hyid13⟩) (Below.refl _ _) ?restid13
              case hyid13 =>
                intro W hW
                have hb0 : Below wa.heap.size wa W := bstep (Below.drew1 _) hW
                obtain ⟨y0, y1, y2⟩ := box2 (box_on QA.out hb0)
                go_simp
                exact rfl
              simp only [zA, zB, zC, Act.put, zD, zE, zF]
              refine but_run (i := 14) (by kernel_rfl) rfl ((wanted_at rfl rfl rfl rfl).trans rfl) ?_
              simp only [zA, zB, zC]
              intro K HK
              go_wp2_with fail
              refine (parentOk_any _ (l.take k) (l[k]).b _ (HTK.out.on (bstep (Below.drew1 _) (Below.refl _ _))) (by simp; omega)).mono ?_
              rintro r Vid1 ⟨rfl, hBid1⟩
              rw [HP.out]
              have hSid1 := bstep (Below.refl _ _) hBid1
              go_wp2_with fail
              refine HK.out _ Vid1 (fun _ => hSid1) ?_
              clear HK
              refine bt (f := 16) (i := 15) (v := ?vid15) rfl (Or.inl ⟨((wanted_at rfl rfl rfl rfl).trans rfl), ?hyid15⟩) hSid1 ?restid15
              case hyid15 => intro W hW; go_simp; exact rfl
              simp only [zA, zB, zC, Act.put, zD, zE, zF]
              refine but_run (i := 16) (by kernel_rfl) rfl (by rfl) ?_
              simp only [zA, zB, zC]
              intro K HK
              go_wp2_with fail
              refine HK.out _ Vid1 (fun h => absurd rfl h) ?_
              clear HK
              refine but_done (by kernel_rfl) ?_
              go_wp2_with fail
              go_roundw
              case rel => exact ⟨k + 1, by omega, by go_num, Lib.hid (fit_step HI.out HF.out), Lib.hid (bstep BA.out (bstep (Below.drew1 _) hSid1))⟩
              case measure => simp [intOf]; omega
      · have hall : decide (∀ i, i < l.length → fitG l i = true) = true := decide_eq_true (fun i hi => HI.out i (by omega))
        have HL := Lib.hid hall
        clear hall
        go_wp2_with fail
        refine (HK.out _).mono ?_
        rintro r w1 ⟨rfl, b1⟩
        have B1 := Lib.hid (HW.out.trans (b1.mono hzr))
        clear b1
        go_wp2_with fail
        refine (HA.out _ (HV.out.on B1.out) hn).mono ?_
        rintro r w2 ⟨rfl, b2⟩
        have B2 := Lib.hid (bstep B1.out b2)
        clear b2
        go_wp2
        go_ret
        refine ⟨ret_boolB ?_, B2.out⟩
        rw [← HR.out, agesOkB, HL.out, decide_eq_true h16]
        simp
  · have d0 : decide ((16 : Int) < (l.length : Int)) = true := decide_eq_true (by omega)
    go_enter Tryz.func221, Tryz.ntmps221
    go_wp2
    go_ret
    refine ⟨ret_boolB ?_, Below.refl _ _⟩
    rw [← HR.out, agesOkB, decide_eq_false h16]
    simp
end Go.Proofs.YtlhemcjahcmdeaaGreatDoor
namespace Go.Proofs.YtlhemcjahcmdeaaGreatDoor
open Go.RowKit
set_option maxRecDepth 100000
set_option linter.unusedSimpArgs false
set_option linter.unusedVariables false

set_option maxHeartbeats 4000000 in
theorem specAgesOk_any (v : Value) (l : List AgeD) (w : World) (hv : Reads w w.heap.size v (agesD l)) (hn : l.length ≤ 2097152) : Calls Tryz.prog 134 #[v] w (SaysBool w (agesOkB l)) := by
  obtain ⟨A, c, rfl, hcap, hmax⟩ := hv.shapeG
  obtain ⟨R, hR⟩ : ∃ R, agesOkB l = R := ⟨_, rfl⟩
  rw [hR]
  have HR := Lib.hid hR
  have HV := Lib.hid hv
  clear hv hR
  go_enter Tryz.func134, Tryz.ntmps134
  go_wp2
  go_loopw [3] (fun i wr => ∃ k : Nat, k ≤ l.length ∧ i = .int .i64 k ∧ Hid (∀ j, j < k → fitG l j = true) ∧ Hid (∀ j (h : j + 1 < l.length), j + 1 < k → (l[j]).a < (l[j + 1]).a) ∧ Hid (Below w.heap.size w wr)) (fun i _ => l.length - (intOf i).toNat)
  case atStart => exact ⟨0, Nat.zero_le _, rfl, Lib.hid (fun j h => by omega), Lib.hid (fun j h h2 => by omega), Lib.hid (Below.refl _ _)⟩
  case round =>
    obtain ⟨k, hk, rfl, HI, HJ, HW⟩ := hrel
    by_cases hlt : k < l.length
    · have HTK := Lib.hid ((HV.out.on HW.out).takeG k hk)
      obtain ⟨b, off, rfl, hbb, hc⟩ := (HV.out.on HW.out).ages hlt
      have i1 : (k : Int) < (l.length : Int) := by omega
      have i2 : (0 : Int) ≤ (k : Int) := by omega
      have i3 : (k : Int) ≤ (c : Int) := by omega
      have i4 : k ≤ c := by omega
      have FK := Lib.hid (hc k hlt)
      have hfit := gfit_at hlt
      cases hid : idG (l[k]).a
      · have HID := Lib.hid hid
        have HBAD : Hid (agesOkB l = false) := Lib.hid (fit_miss hlt (by rw [hfit, hid]; rfl))
        clear hc hfit hid
        go_upto_region 4 with (fail)
        refine but_begin (f := 24) (S := fun V => Below wr.drew.heap.size wr.drew V) (by kernel_rfl) ?_
        refine bt (f := 24) (i := 0) (v := ?vsb0) rfl (Or.inl ⟨(by rfl), ?hysb0⟩) (Below.refl _ _) ?restsb0
        case hysb0 => intro W hW; go_simp; exact rfl
        simp only [zA, zB, zC, Act.put, zD, zE, zF]
        refine bt (f := 24) (i := 1) (v := ?vsb1) rfl (Or.inl ⟨(by rfl), ?hysb1⟩) (Below.refl _ _) ?restsb1
        case hysb1 => intro W hW; go_simp; exact rfl
        simp only [zA, zB, zC, Act.put, zD, zE, zF]
        refine bt (f := 24) (i := 2) (v := ?vsb2) rfl (Or.inl ⟨(by rfl), ?hysb2⟩) (Below.refl _ _) ?restsb2
        case hysb2 => intro W hW; go_simp; exact rfl
        simp only [zA, zB, zC, Act.put, zD, zE, zF]
        refine bt (f := 24) (i := 3) (v := ?vsb3) rfl (Or.inl ⟨(by rfl), ?hysb3⟩) (Below.refl _ _) ?restsb3
        case hysb3 => intro W hW; go_simp; exact rfl
        simp only [zA, zB, zC, Act.put, zD, zE, zF]
        refine bt (f := 24) (i := 4) (v := ?vsb4) rfl (Or.inl ⟨(by rfl), ?hysb4⟩) (Below.refl _ _) ?restsb4
        case hysb4 =>
          intro W hW
          have hb0 : Below wr.heap.size wr W := bstep (Below.drew1 _) hW
          obtain ⟨y0, y1⟩ := FK.out.on hbb hb0
          go_simp
          exact rfl
        simp only [zA, zB, zC, Act.put, zD, zE, zF]
        refine but_run (i := 5) (by kernel_rfl) rfl (by rfl) ?_
        simp only [zA, zB, zC]
        intro K HK
        go_wp2_with fail
        refine (inG_any (l[k]).a _).mono ?_
        rintro r Vsb1 ⟨rfl, hBsb1⟩
        rw [HID.out]
        have hSsb1 := bstep (Below.refl _ _) hBsb1
        go_wp2_with fail
        refine HK.out _ Vsb1 (fun _ => hSsb1) ?_
        clear HK
        refine bt (f := 24) (i := 6) (v := ?vsb6) rfl (Or.inl ⟨(by rfl), ?hysb6⟩) hSsb1 ?restsb6
        case hysb6 => intro W hW; go_simp; exact rfl
        simp only [zA, zB, zC, Act.put, zD, zE, zF]
        refine bt (f := 24) (i := 7) (v := ?vsb7) rfl (Or.inl ⟨(by rfl), ?hysb7⟩) hSsb1 ?restsb7
        case hysb7 => intro W hW; go_simp; exact rfl
        simp only [zA, zB, zC, Act.put, zD, zE, zF]
        refine bt (f := 24) (i := 8) (v := undef) rfl (Or.inr ⟨((wanted_at rfl rfl rfl rfl).trans rfl), rfl⟩) hSsb1 ?_
        simp only [zA, zB, zC, Act.put, zD, zE, zF]
        refine bt (f := 24) (i := 9) (v := undef) rfl (Or.inr ⟨((wanted_at rfl rfl rfl rfl).trans rfl), rfl⟩) hSsb1 ?_
        simp only [zA, zB, zC, Act.put, zD, zE, zF]
        refine bt (f := 24) (i := 10) (v := undef) rfl (Or.inr ⟨((wanted_at rfl rfl rfl rfl).trans rfl), rfl⟩) hSsb1 ?_
        simp only [zA, zB, zC, Act.put, zD, zE, zF]
        refine bt (f := 24) (i := 11) (v := undef) rfl (Or.inr ⟨(wanted_un rfl rfl rfl rfl), rfl⟩) hSsb1 ?_
        simp only [zA, zB, zC, Act.put, zD, zE, zF]
        refine bt (f := 24) (i := 12) (v := undef) rfl (Or.inr ⟨(wanted_un rfl rfl rfl rfl), rfl⟩) hSsb1 ?_
        simp only [zA, zB, zC, Act.put, zD, zE, zF]
        refine bt (f := 24) (i := 13) (v := undef) rfl (Or.inr ⟨(wanted_un rfl rfl rfl rfl), rfl⟩) hSsb1 ?_
        simp only [zA, zB, zC, Act.put, zD, zE, zF]
        refine bt (f := 24) (i := 14) (v := undef) rfl (Or.inr ⟨(wanted_un rfl rfl rfl rfl), rfl⟩) hSsb1 ?_
        simp only [zA, zB, zC, Act.put, zD, zE, zF]
        refine bt (f := 24) (i := 15) (v := undef) rfl (Or.inr ⟨(wanted_un rfl rfl rfl rfl), rfl⟩) hSsb1 ?_
        simp only [zA, zB, zC, Act.put, zD, zE, zF]
        refine bt (f := 24) (i := 16) (v := undef) rfl (Or.inr ⟨(wanted_un rfl rfl rfl rfl), rfl⟩) hSsb1 ?_
        simp only [zA, zB, zC, Act.put, zD, zE, zF]
        refine bt (f := 24) (i := 17) (v := undef) rfl (Or.inr ⟨(wanted_un rfl rfl rfl rfl), rfl⟩) hSsb1 ?_
        simp only [zA, zB, zC, Act.put, zD, zE, zF]
        refine bt (f := 24) (i := 18) (v := undef) rfl (Or.inr ⟨(wanted_un rfl rfl rfl rfl), rfl⟩) hSsb1 ?_
        simp only [zA, zB, zC, Act.put, zD, zE, zF]
        refine bt (f := 24) (i := 19) (v := undef) rfl (Or.inr ⟨(wanted_un rfl rfl rfl rfl), rfl⟩) hSsb1 ?_
        simp only [zA, zB, zC, Act.put, zD, zE, zF]
        refine bt (f := 24) (i := 20) (v := undef) rfl (Or.inr ⟨(wanted_un rfl rfl rfl rfl), rfl⟩) hSsb1 ?_
        simp only [zA, zB, zC, Act.put, zD, zE, zF]
        refine bt (f := 24) (i := 21) (v := undef) rfl (Or.inr ⟨(wanted_un rfl rfl rfl rfl), rfl⟩) hSsb1 ?_
        simp only [zA, zB, zC, Act.put, zD, zE, zF]
        refine bt (f := 24) (i := 22) (v := undef) rfl (Or.inr ⟨(wanted_un rfl rfl rfl rfl), rfl⟩) hSsb1 ?_
        simp only [zA, zB, zC, Act.put, zD, zE, zF]
        refine bt (f := 24) (i := 23) (v := undef) rfl (Or.inr ⟨((wanted_at rfl rfl rfl rfl).trans rfl), rfl⟩) hSsb1 ?_
        simp only [zA, zB, zC, Act.put, zD, zE, zF]
        refine but_run (i := 24) (by kernel_rfl) rfl (by rfl) ?_
        simp only [zA, zB, zC]
        intro K HK
        go_wp2_with fail
        refine HK.out _ Vsb1 (fun h => absurd rfl h) ?_
        clear HK
        refine but_done (by kernel_rfl) ?_
        go_wp2_with fail
        go_ret
        exact ⟨ret_boolB (by rw [← HR.out]; exact HBAD.out.symm), bstep HW.out (bstep (Below.drew1 _) hSsb1)⟩
      · have HID := Lib.hid hid
        by_cases hk0 : k = 0
        · have z0 : decide (0 < k) = false := decide_eq_false (by omega)
          have HJ2 : Hid (∀ j (h : j + 1 < l.length), j + 1 < k + 1 → (l[j]).a < (l[j + 1]).a) := Lib.hid (fun j h h2 => by omega)
          clear hc hid hk0
          go_upto_region 4 with (fail)
          refine but_begin (f := 24) (S := fun V => Below wr.drew.heap.size wr.drew V) (by kernel_rfl) ?_
          refine bt (f := 24) (i := 0) (v := ?vs00) rfl (Or.inl ⟨(by rfl), ?hys00⟩) (Below.refl _ _) ?rests00
          case hys00 => intro W hW; go_simp; exact rfl
          simp only [zA, zB, zC, Act.put, zD, zE, zF]
          refine bt (f := 24) (i := 1) (v := ?vs01) rfl (Or.inl ⟨(by rfl), ?hys01⟩) (Below.refl _ _) ?rests01
          case hys01 => intro W hW; go_simp; exact rfl
          simp only [zA, zB, zC, Act.put, zD, zE, zF]
          refine bt (f := 24) (i := 2) (v := ?vs02) rfl (Or.inl ⟨(by rfl), ?hys02⟩) (Below.refl _ _) ?rests02
          case hys02 => intro W hW; go_simp; exact rfl
          simp only [zA, zB, zC, Act.put, zD, zE, zF]
          refine bt (f := 24) (i := 3) (v := ?vs03) rfl (Or.inl ⟨(by rfl), ?hys03⟩) (Below.refl _ _) ?rests03
          case hys03 => intro W hW; go_simp; exact rfl
          simp only [zA, zB, zC, Act.put, zD, zE, zF]
          refine bt (f := 24) (i := 4) (v := ?vs04) rfl (Or.inl ⟨(by rfl), ?hys04⟩) (Below.refl _ _) ?rests04
          case hys04 =>
            intro W hW
            have hb0 : Below wr.heap.size wr W := bstep (Below.drew1 _) hW
            obtain ⟨y0, y1⟩ := FK.out.on hbb hb0
            go_simp
            exact rfl
          simp only [zA, zB, zC, Act.put, zD, zE, zF]
          refine but_run (i := 5) (by kernel_rfl) rfl (by rfl) ?_
          simp only [zA, zB, zC]
          intro K HK
          go_wp2_with fail
          refine (inG_any (l[k]).a _).mono ?_
          rintro r Vs01 ⟨rfl, hBs01⟩
          rw [HID.out]
          have hSs01 := bstep (Below.refl _ _) hBs01
          go_wp2_with fail
          refine HK.out _ Vs01 (fun _ => hSs01) ?_
          clear HK
          refine bt (f := 24) (i := 6) (v := ?vs06) rfl (Or.inl ⟨(by rfl), ?hys06⟩) hSs01 ?rests06
          case hys06 => intro W hW; go_simp; exact rfl
          simp only [zA, zB, zC, Act.put, zD, zE, zF]
          refine bt (f := 24) (i := 7) (v := ?vs07) rfl (Or.inl ⟨(by rfl), ?hys07⟩) hSs01 ?rests07
          case hys07 => intro W hW; go_simp; exact rfl
          simp only [zA, zB, zC, Act.put, zD, zE, zF]
          refine bt (f := 24) (i := 8) (v := ?vs08) rfl (Or.inl ⟨((wanted_at rfl rfl rfl rfl).trans rfl), ?hys08⟩) hSs01 ?rests08
          case hys08 => intro W hW; go_simp; exact rfl
          simp only [zA, zB, zC, Act.put, zD, zE, zF]
          refine bt (f := 24) (i := 9) (v := ?vs09) rfl (Or.inl ⟨((wanted_at rfl rfl rfl rfl).trans rfl), ?hys09⟩) hSs01 ?rests09
          case hys09 => intro W hW; go_simp; exact rfl
          simp only [zA, zB, zC, Act.put, zD, zE, zF]
          refine bt (f := 24) (i := 10) (v := ?vs010) rfl (Or.inl ⟨((wanted_at rfl rfl rfl rfl).trans rfl), ?hys010⟩) hSs01 ?rests010
          case hys010 => intro W hW; go_simp; exact rfl
          simp only [zA, zB, zC, Act.put, zD, zE, zF]
          refine bt (f := 24) (i := 11) (v := undef) rfl (Or.inr ⟨((wanted_at rfl rfl rfl rfl).trans rfl), rfl⟩) hSs01 ?_
          simp only [zA, zB, zC, Act.put, zD, zE, zF]
          refine bt (f := 24) (i := 12) (v := undef) rfl (Or.inr ⟨((wanted_at rfl rfl rfl rfl).trans rfl), rfl⟩) hSs01 ?_
          simp only [zA, zB, zC, Act.put, zD, zE, zF]
          refine bt (f := 24) (i := 13) (v := undef) rfl (Or.inr ⟨((wanted_at rfl rfl rfl rfl).trans rfl), rfl⟩) hSs01 ?_
          simp only [zA, zB, zC, Act.put, zD, zE, zF]
          refine bt (f := 24) (i := 14) (v := undef) rfl (Or.inr ⟨((wanted_at rfl rfl rfl rfl).trans rfl), rfl⟩) hSs01 ?_
          simp only [zA, zB, zC, Act.put, zD, zE, zF]
          refine bt (f := 24) (i := 15) (v := undef) rfl (Or.inr ⟨((wanted_at rfl rfl rfl rfl).trans rfl), rfl⟩) hSs01 ?_
          simp only [zA, zB, zC, Act.put, zD, zE, zF]
          refine bt (f := 24) (i := 16) (v := undef) rfl (Or.inr ⟨((wanted_at rfl rfl rfl rfl).trans rfl), rfl⟩) hSs01 ?_
          simp only [zA, zB, zC, Act.put, zD, zE, zF]
          refine bt (f := 24) (i := 17) (v := undef) rfl (Or.inr ⟨((wanted_at rfl rfl rfl rfl).trans rfl), rfl⟩) hSs01 ?_
          simp only [zA, zB, zC, Act.put, zD, zE, zF]
          refine bt (f := 24) (i := 18) (v := undef) rfl (Or.inr ⟨((wanted_at rfl rfl rfl rfl).trans rfl), rfl⟩) hSs01 ?_
          simp only [zA, zB, zC, Act.put, zD, zE, zF]
          refine bt (f := 24) (i := 19) (v := undef) rfl (Or.inr ⟨((wanted_at rfl rfl rfl rfl).trans rfl), rfl⟩) hSs01 ?_
          simp only [zA, zB, zC, Act.put, zD, zE, zF]
          refine bt (f := 24) (i := 20) (v := undef) rfl (Or.inr ⟨((wanted_at rfl rfl rfl rfl).trans rfl), rfl⟩) hSs01 ?_
          simp only [zA, zB, zC, Act.put, zD, zE, zF]
          refine bt (f := 24) (i := 21) (v := undef) rfl (Or.inr ⟨((wanted_at rfl rfl rfl rfl).trans rfl), rfl⟩) hSs01 ?_
          simp only [zA, zB, zC, Act.put, zD, zE, zF]
          refine bt (f := 24) (i := 22) (v := undef) rfl (Or.inr ⟨((wanted_at rfl rfl rfl rfl).trans rfl), rfl⟩) hSs01 ?_
          simp only [zA, zB, zC, Act.put, zD, zE, zF]
          refine bt (f := 24) (i := 23) (v := ?vs023) rfl (Or.inl ⟨((wanted_at rfl rfl rfl rfl).trans rfl), ?hys023⟩) hSs01 ?rests023
          case hys023 => intro W hW; go_simp; exact rfl
          simp only [zA, zB, zC, Act.put, zD, zE, zF]
          refine but_run (i := 24) (by kernel_rfl) rfl (by rfl) ?_
          simp only [zA, zB, zC]
          intro K HK
          go_wp2_with fail
          refine HK.out _ Vs01 (fun h => absurd rfl h) ?_
          clear HK
          refine but_done (by kernel_rfl) ?_
          have BV := Lib.hid (bstep (Below.drew1 _) hSs01)
          go_upto_region 6 with (fail)
          obtain ⟨wv, hwv⟩ : ∃ wv, wv = Vs01 := ⟨_, rfl⟩
          rw [← hwv] at BV ⊢
          clear hwv
          cases q0 : ((l[k]).b != 0)
          · have HF : Hid (fitG l k = true) := Lib.hid (by rw [hfit, HID.out, parGB, show ((l[k]).b == 0) = true by simpa using q0]; rfl)
            refine but_begin (f := 17) (S := fun V => Below wv.drew.heap.size wv.drew V) (by kernel_rfl) ?_
            refine bt (f := 17) (i := 0) (v := ?vt0s00) rfl (Or.inl ⟨(by rfl), ?hyt0s00⟩) (Below.refl _ _) ?restt0s00
            case hyt0s00 => intro W hW; go_simp; exact rfl
            simp only [zA, zB, zC, Act.put, zD, zE, zF]
            refine bt (f := 17) (i := 1) (v := ?vt0s01) rfl (Or.inl ⟨(by rfl), ?hyt0s01⟩) (Below.refl _ _) ?restt0s01
            case hyt0s01 => intro W hW; go_simp; exact rfl
            simp only [zA, zB, zC, Act.put, zD, zE, zF]
            refine bt (f := 17) (i := 2) (v := ?vt0s02) rfl (Or.inl ⟨(by rfl), ?hyt0s02⟩) (Below.refl _ _) ?restt0s02
            case hyt0s02 => intro W hW; go_simp; exact rfl
            simp only [zA, zB, zC, Act.put, zD, zE, zF]
            refine bt (f := 17) (i := 3) (v := ?vt0s03) rfl (Or.inl ⟨(by rfl), ?hyt0s03⟩) (Below.refl _ _) ?restt0s03
            case hyt0s03 => intro W hW; go_simp; exact rfl
            simp only [zA, zB, zC, Act.put, zD, zE, zF]
            refine bt (f := 17) (i := 4) (v := ?vt0s04) rfl (Or.inl ⟨(by rfl), ?hyt0s04⟩) (Below.refl _ _) ?restt0s04
            case hyt0s04 =>
              intro W hW
              have hb0 : Below wv.heap.size wv W := bstep (Below.drew1 _) hW
              obtain ⟨y0, y1⟩ := FK.out.on hbb (bstep BV.out hb0)
              go_simp
              exact rfl
            simp only [zA, zB, zC, Act.put, zD, zE, zF]
            refine bt (f := 17) (i := 5) (v := ?vt0s05) rfl (Or.inl ⟨(by rfl), ?hyt0s05⟩) (Below.refl _ _) ?restt0s05
            case hyt0s05 => intro W hW; go_simp; exact rfl
            simp only [zA, zB, zC, Act.put, zD, zE, zF]
            refine bt (f := 17) (i := 6) (v := ?vt0s06) rfl (Or.inl ⟨(by rfl), ?hyt0s06⟩) (Below.refl _ _) ?restt0s06
            case hyt0s06 => intro W hW; go_simp; exact rfl
            simp only [zA, zB, zC, Act.put, zD, zE, zF]
            refine bt (f := 17) (i := 7) (v := undef) rfl (Or.inr ⟨((wanted_at rfl rfl rfl rfl).trans rfl), rfl⟩) (Below.refl _ _) ?_
            simp only [zA, zB, zC, Act.put, zD, zE, zF]
            refine bt (f := 17) (i := 8) (v := undef) rfl (Or.inr ⟨((wanted_at rfl rfl rfl rfl).trans rfl), rfl⟩) (Below.refl _ _) ?_
            simp only [zA, zB, zC, Act.put, zD, zE, zF]
            refine bt (f := 17) (i := 9) (v := undef) rfl (Or.inr ⟨((wanted_at rfl rfl rfl rfl).trans rfl), rfl⟩) (Below.refl _ _) ?_
            simp only [zA, zB, zC, Act.put, zD, zE, zF]
            refine bt (f := 17) (i := 10) (v := undef) rfl (Or.inr ⟨((wanted_at rfl rfl rfl rfl).trans rfl), rfl⟩) (Below.refl _ _) ?_
            simp only [zA, zB, zC, Act.put, zD, zE, zF]
            refine bt (f := 17) (i := 11) (v := undef) rfl (Or.inr ⟨((wanted_at rfl rfl rfl rfl).trans rfl), rfl⟩) (Below.refl _ _) ?_
            simp only [zA, zB, zC, Act.put, zD, zE, zF]
            refine bt (f := 17) (i := 12) (v := undef) rfl (Or.inr ⟨((wanted_at rfl rfl rfl rfl).trans rfl), rfl⟩) (Below.refl _ _) ?_
            simp only [zA, zB, zC, Act.put, zD, zE, zF]
            refine bt (f := 17) (i := 13) (v := undef) rfl (Or.inr ⟨((wanted_at rfl rfl rfl rfl).trans rfl), rfl⟩) (Below.refl _ _) ?_
            simp only [zA, zB, zC, Act.put, zD, zE, zF]
            refine bt (f := 17) (i := 14) (v := undef) rfl (Or.inr ⟨((wanted_at rfl rfl rfl rfl).trans rfl), rfl⟩) (Below.refl _ _) ?_
            simp only [zA, zB, zC, Act.put, zD, zE, zF]
            refine bt (f := 17) (i := 15) (v := undef) rfl (Or.inr ⟨((wanted_at rfl rfl rfl rfl).trans rfl), rfl⟩) (Below.refl _ _) ?_
            simp only [zA, zB, zC, Act.put, zD, zE, zF]
            refine bt (f := 17) (i := 16) (v := undef) rfl (Or.inr ⟨((wanted_at rfl rfl rfl rfl).trans rfl), rfl⟩) (Below.refl _ _) ?_
            simp only [zA, zB, zC, Act.put, zD, zE, zF]
            refine but_run (i := 17) (by kernel_rfl) rfl (by rfl) ?_
            simp only [zA, zB, zC]
            intro K HK
            go_wp2_with fail
            refine HK.out _ wv.drew (fun h => absurd rfl h) ?_
            clear HK
            refine but_done (by kernel_rfl) ?_
            go_wp2_with fail
            go_roundw
            case rel => exact ⟨k + 1, by omega, by go_num, Lib.hid (fit_step HI.out HF.out), HJ2, Lib.hid (bstep HW.out (bstep BV.out (bstep (Below.drew1 _) (Below.refl _ _))))⟩
            case measure => simp [intOf]; omega
          · have q9 : ((l[k]).b == 0) = false := by simpa using q0
            have hneg := ageAt_neg (l.take k) (l[k]).b
            cases q2 : hasG (l.take k) (l[k]).b
            · have HF : Hid (fitG l k = false) := Lib.hid (by rw [hfit, HID.out, parGB, q9, q2]; rfl)
              rw [q2] at hneg
              have q3 : decide (ageAtK (l.take k) (l[k]).b < 0) = true := hneg
              clear hneg q9 q2
              refine but_begin (f := 17) (S := fun V => Below wv.drew.heap.size wv.drew V) (by kernel_rfl) ?_
              refine bt (f := 17) (i := 0) (v := ?vtxs00) rfl (Or.inl ⟨(by rfl), ?hytxs00⟩) (Below.refl _ _) ?resttxs00
              case hytxs00 => intro W hW; go_simp; exact rfl
              simp only [zA, zB, zC, Act.put, zD, zE, zF]
              refine bt (f := 17) (i := 1) (v := ?vtxs01) rfl (Or.inl ⟨(by rfl), ?hytxs01⟩) (Below.refl _ _) ?resttxs01
              case hytxs01 => intro W hW; go_simp; exact rfl
              simp only [zA, zB, zC, Act.put, zD, zE, zF]
              refine bt (f := 17) (i := 2) (v := ?vtxs02) rfl (Or.inl ⟨(by rfl), ?hytxs02⟩) (Below.refl _ _) ?resttxs02
              case hytxs02 => intro W hW; go_simp; exact rfl
              simp only [zA, zB, zC, Act.put, zD, zE, zF]
              refine bt (f := 17) (i := 3) (v := ?vtxs03) rfl (Or.inl ⟨(by rfl), ?hytxs03⟩) (Below.refl _ _) ?resttxs03
              case hytxs03 => intro W hW; go_simp; exact rfl
              simp only [zA, zB, zC, Act.put, zD, zE, zF]
              refine bt (f := 17) (i := 4) (v := ?vtxs04) rfl (Or.inl ⟨(by rfl), ?hytxs04⟩) (Below.refl _ _) ?resttxs04
              case hytxs04 =>
                intro W hW
                have hb0 : Below wv.heap.size wv W := bstep (Below.drew1 _) hW
                obtain ⟨y0, y1⟩ := FK.out.on hbb (bstep BV.out hb0)
                go_simp
                exact rfl
              simp only [zA, zB, zC, Act.put, zD, zE, zF]
              refine bt (f := 17) (i := 5) (v := ?vtxs05) rfl (Or.inl ⟨(by rfl), ?hytxs05⟩) (Below.refl _ _) ?resttxs05
              case hytxs05 => intro W hW; go_simp; exact rfl
              simp only [zA, zB, zC, Act.put, zD, zE, zF]
              refine bt (f := 17) (i := 6) (v := ?vtxs06) rfl (Or.inl ⟨(by rfl), ?hytxs06⟩) (Below.refl _ _) ?resttxs06
              case hytxs06 => intro W hW; go_simp; exact rfl
              simp only [zA, zB, zC, Act.put, zD, zE, zF]
              refine bt (f := 17) (i := 7) (v := ?vtxs07) rfl (Or.inl ⟨((wanted_at rfl rfl rfl rfl).trans rfl), ?hytxs07⟩) (Below.refl _ _) ?resttxs07
              case hytxs07 => intro W hW; go_simp; exact rfl
              simp only [zA, zB, zC, Act.put, zD, zE, zF]
              refine bt (f := 17) (i := 8) (v := ?vtxs08) rfl (Or.inl ⟨((wanted_at rfl rfl rfl rfl).trans rfl), ?hytxs08⟩) (Below.refl _ _) ?resttxs08
              case hytxs08 => intro W hW; go_simp; exact rfl
              simp only [zA, zB, zC, Act.put, zD, zE, zF]
              refine bt (f := 17) (i := 9) (v := ?vtxs09) rfl (Or.inl ⟨((wanted_at rfl rfl rfl rfl).trans rfl), ?hytxs09⟩) (Below.refl _ _) ?resttxs09
              case hytxs09 => intro W hW; go_simp; exact rfl
              simp only [zA, zB, zC, Act.put, zD, zE, zF]
              refine bt (f := 17) (i := 10) (v := ?vtxs010) rfl (Or.inl ⟨((wanted_at rfl rfl rfl rfl).trans rfl), ?hytxs010⟩) (Below.refl _ _) ?resttxs010
              case hytxs010 => intro W hW; go_simp; exact rfl
              simp only [zA, zB, zC, Act.put, zD, zE, zF]
              refine bt (f := 17) (i := 11) (v := ?vtxs011) rfl (Or.inl ⟨((wanted_at rfl rfl rfl rfl).trans rfl), ?hytxs011⟩) (Below.refl _ _) ?resttxs011
              case hytxs011 => intro W hW; go_simp; exact rfl
              simp only [zA, zB, zC, Act.put, zD, zE, zF]
              refine bt (f := 17) (i := 12) (v := ?vtxs012) rfl (Or.inl ⟨((wanted_at rfl rfl rfl rfl).trans rfl), ?hytxs012⟩) (Below.refl _ _) ?resttxs012
              case hytxs012 => intro W hW; go_simp; exact rfl
              simp only [zA, zB, zC, Act.put, zD, zE, zF]
              refine bt (f := 17) (i := 13) (v := ?vtxs013) rfl (Or.inl ⟨((wanted_at rfl rfl rfl rfl).trans rfl), ?hytxs013⟩) (Below.refl _ _) ?resttxs013
              case hytxs013 => intro W hW; go_simp; exact rfl
              simp only [zA, zB, zC, Act.put, zD, zE, zF]
              refine bt (f := 17) (i := 14) (v := ?vtxs014) rfl (Or.inl ⟨((wanted_at rfl rfl rfl rfl).trans rfl), ?hytxs014⟩) (Below.refl _ _) ?resttxs014
              case hytxs014 =>
                intro W hW
                have hb0 : Below wv.heap.size wv W := bstep (Below.drew1 _) hW
                obtain ⟨y0, y1⟩ := FK.out.on hbb (bstep BV.out hb0)
                go_simp
                exact rfl
              simp only [zA, zB, zC, Act.put, zD, zE, zF]
              refine but_run (i := 15) (by kernel_rfl) rfl ((wanted_at rfl rfl rfl rfl).trans rfl) ?_
              simp only [zA, zB, zC]
              intro K HK
              go_wp2_with fail
              refine (specAgeAtB _ (l.take k) (l[k]).b _ (HTK.out.on (bstep BV.out (bstep (Below.drew1 _) (Below.refl _ _)))) (by simp; omega)).mono ?_
              rintro r Vtxs01 ⟨rfl, hBtxs01⟩
              have hStxs01 := bstep (Below.refl _ _) hBtxs01
              go_wp2_with fail
              refine HK.out _ Vtxs01 (fun _ => hStxs01) ?_
              clear HK
              refine bt (f := 17) (i := 16) (v := ?vtxs016) rfl (Or.inl ⟨((wanted_at rfl rfl rfl rfl).trans rfl), ?hytxs016⟩) hStxs01 ?resttxs016
              case hytxs016 => intro W hW; go_simp; exact rfl
              simp only [zA, zB, zC, Act.put, zD, zE, zF]
              refine but_run (i := 17) (by kernel_rfl) rfl (by rfl) ?_
              simp only [zA, zB, zC]
              intro K HK
              go_wp2_with fail
              refine HK.out _ Vtxs01 (fun h => absurd rfl h) ?_
              clear HK
              refine but_done (by kernel_rfl) ?_
              go_wp2_with fail
              go_ret
              exact ⟨ret_boolB (by rw [← HR.out]; exact (fit_miss hlt HF.out).symm), bstep HW.out (bstep BV.out (bstep (Below.drew1 _) hStxs01))⟩
            · have HF : Hid (fitG l k = true) := Lib.hid (by rw [hfit, HID.out, parGB, q9, q2]; rfl)
              rw [q2] at hneg
              have q3 : decide (ageAtK (l.take k) (l[k]).b < 0) = false := hneg
              clear hneg q9 q2
              refine but_begin (f := 17) (S := fun V => Below wv.drew.heap.size wv.drew V) (by kernel_rfl) ?_
              refine bt (f := 17) (i := 0) (v := ?vtys00) rfl (Or.inl ⟨(by rfl), ?hytys00⟩) (Below.refl _ _) ?resttys00
              case hytys00 => intro W hW; go_simp; exact rfl
              simp only [zA, zB, zC, Act.put, zD, zE, zF]
              refine bt (f := 17) (i := 1) (v := ?vtys01) rfl (Or.inl ⟨(by rfl), ?hytys01⟩) (Below.refl _ _) ?resttys01
              case hytys01 => intro W hW; go_simp; exact rfl
              simp only [zA, zB, zC, Act.put, zD, zE, zF]
              refine bt (f := 17) (i := 2) (v := ?vtys02) rfl (Or.inl ⟨(by rfl), ?hytys02⟩) (Below.refl _ _) ?resttys02
              case hytys02 => intro W hW; go_simp; exact rfl
              simp only [zA, zB, zC, Act.put, zD, zE, zF]
              refine bt (f := 17) (i := 3) (v := ?vtys03) rfl (Or.inl ⟨(by rfl), ?hytys03⟩) (Below.refl _ _) ?resttys03
              case hytys03 => intro W hW; go_simp; exact rfl
              simp only [zA, zB, zC, Act.put, zD, zE, zF]
              refine bt (f := 17) (i := 4) (v := ?vtys04) rfl (Or.inl ⟨(by rfl), ?hytys04⟩) (Below.refl _ _) ?resttys04
              case hytys04 =>
                intro W hW
                have hb0 : Below wv.heap.size wv W := bstep (Below.drew1 _) hW
                obtain ⟨y0, y1⟩ := FK.out.on hbb (bstep BV.out hb0)
                go_simp
                exact rfl
              simp only [zA, zB, zC, Act.put, zD, zE, zF]
              refine bt (f := 17) (i := 5) (v := ?vtys05) rfl (Or.inl ⟨(by rfl), ?hytys05⟩) (Below.refl _ _) ?resttys05
              case hytys05 => intro W hW; go_simp; exact rfl
              simp only [zA, zB, zC, Act.put, zD, zE, zF]
              refine bt (f := 17) (i := 6) (v := ?vtys06) rfl (Or.inl ⟨(by rfl), ?hytys06⟩) (Below.refl _ _) ?resttys06
              case hytys06 => intro W hW; go_simp; exact rfl
              simp only [zA, zB, zC, Act.put, zD, zE, zF]
              refine bt (f := 17) (i := 7) (v := ?vtys07) rfl (Or.inl ⟨((wanted_at rfl rfl rfl rfl).trans rfl), ?hytys07⟩) (Below.refl _ _) ?resttys07
              case hytys07 => intro W hW; go_simp; exact rfl
              simp only [zA, zB, zC, Act.put, zD, zE, zF]
              refine bt (f := 17) (i := 8) (v := ?vtys08) rfl (Or.inl ⟨((wanted_at rfl rfl rfl rfl).trans rfl), ?hytys08⟩) (Below.refl _ _) ?resttys08
              case hytys08 => intro W hW; go_simp; exact rfl
              simp only [zA, zB, zC, Act.put, zD, zE, zF]
              refine bt (f := 17) (i := 9) (v := ?vtys09) rfl (Or.inl ⟨((wanted_at rfl rfl rfl rfl).trans rfl), ?hytys09⟩) (Below.refl _ _) ?resttys09
              case hytys09 => intro W hW; go_simp; exact rfl
              simp only [zA, zB, zC, Act.put, zD, zE, zF]
              refine bt (f := 17) (i := 10) (v := ?vtys010) rfl (Or.inl ⟨((wanted_at rfl rfl rfl rfl).trans rfl), ?hytys010⟩) (Below.refl _ _) ?resttys010
              case hytys010 => intro W hW; go_simp; exact rfl
              simp only [zA, zB, zC, Act.put, zD, zE, zF]
              refine bt (f := 17) (i := 11) (v := ?vtys011) rfl (Or.inl ⟨((wanted_at rfl rfl rfl rfl).trans rfl), ?hytys011⟩) (Below.refl _ _) ?resttys011
              case hytys011 => intro W hW; go_simp; exact rfl
              simp only [zA, zB, zC, Act.put, zD, zE, zF]
              refine bt (f := 17) (i := 12) (v := ?vtys012) rfl (Or.inl ⟨((wanted_at rfl rfl rfl rfl).trans rfl), ?hytys012⟩) (Below.refl _ _) ?resttys012
              case hytys012 => intro W hW; go_simp; exact rfl
              simp only [zA, zB, zC, Act.put, zD, zE, zF]
              refine bt (f := 17) (i := 13) (v := ?vtys013) rfl (Or.inl ⟨((wanted_at rfl rfl rfl rfl).trans rfl), ?hytys013⟩) (Below.refl _ _) ?resttys013
              case hytys013 => intro W hW; go_simp; exact rfl
              simp only [zA, zB, zC, Act.put, zD, zE, zF]
              refine bt (f := 17) (i := 14) (v := ?vtys014) rfl (Or.inl ⟨((wanted_at rfl rfl rfl rfl).trans rfl), ?hytys014⟩) (Below.refl _ _) ?resttys014
              case hytys014 =>
                intro W hW
                have hb0 : Below wv.heap.size wv W := bstep (Below.drew1 _) hW
                obtain ⟨y0, y1⟩ := FK.out.on hbb (bstep BV.out hb0)
                go_simp
                exact rfl
              simp only [zA, zB, zC, Act.put, zD, zE, zF]
              refine but_run (i := 15) (by kernel_rfl) rfl ((wanted_at rfl rfl rfl rfl).trans rfl) ?_
              simp only [zA, zB, zC]
              intro K HK
              go_wp2_with fail
              refine (specAgeAtB _ (l.take k) (l[k]).b _ (HTK.out.on (bstep BV.out (bstep (Below.drew1 _) (Below.refl _ _)))) (by simp; omega)).mono ?_
              rintro r Vtys01 ⟨rfl, hBtys01⟩
              have hStys01 := bstep (Below.refl _ _) hBtys01
              go_wp2_with fail
              refine HK.out _ Vtys01 (fun _ => hStys01) ?_
              clear HK
              refine bt (f := 17) (i := 16) (v := ?vtys016) rfl (Or.inl ⟨((wanted_at rfl rfl rfl rfl).trans rfl), ?hytys016⟩) hStys01 ?resttys016
              case hytys016 => intro W hW; go_simp; exact rfl
              simp only [zA, zB, zC, Act.put, zD, zE, zF]
              refine but_run (i := 17) (by kernel_rfl) rfl (by rfl) ?_
              simp only [zA, zB, zC]
              intro K HK
              go_wp2_with fail
              refine HK.out _ Vtys01 (fun h => absurd rfl h) ?_
              clear HK
              refine but_done (by kernel_rfl) ?_
              go_wp2_with fail
              go_roundw
              case rel => exact ⟨k + 1, by omega, by go_num, Lib.hid (fit_step HI.out HF.out), HJ2, Lib.hid (bstep HW.out (bstep BV.out (bstep (Below.drew1 _) hStys01)))⟩
              case measure => simp [intOf]; omega
        · have z0 : decide (0 < k) = true := decide_eq_true (by omega)
          obtain ⟨j, hj⟩ : ∃ j, j + 1 = k := ⟨k - 1, by omega⟩
          have hjl : j < l.length := by omega
          have j1 : (j : Int) < (l.length : Int) := by omega
          have j2 : (0 : Int) ≤ (j : Int) := by omega
          have j3 : IntKind.i64.wrap ((k : Int) - 1) = (j : Int) := by rw [IntKind.wrap_i64]; omega
          have j4 : IntKind.i64.wrap (j : Int) = (j : Int) := by rw [IntKind.wrap_i64]; omega
          have FJ := Lib.hid (hc j hjl)
          by_cases p : (l[k]).a ≤ (l[j]).a
          · have z1 : decide ((l[k]).a ≤ (l[j]).a) = true := decide_eq_true p
            have HBAD : Hid (agesOkB l = false) := Lib.hid (rise_miss (j := j) (by omega) (by subst hj; omega))
            clear hc hfit hid hk0 hj p
            go_upto_region 4 with (fail)
            refine but_begin (f := 24) (S := fun V => Below wr.drew.heap.size wr.drew V) (by kernel_rfl) ?_
            refine bt (f := 24) (i := 0) (v := ?vsx0) rfl (Or.inl ⟨(by rfl), ?hysx0⟩) (Below.refl _ _) ?restsx0
            case hysx0 => intro W hW; go_simp; exact rfl
            simp only [zA, zB, zC, Act.put, zD, zE, zF]
            refine bt (f := 24) (i := 1) (v := ?vsx1) rfl (Or.inl ⟨(by rfl), ?hysx1⟩) (Below.refl _ _) ?restsx1
            case hysx1 => intro W hW; go_simp; exact rfl
            simp only [zA, zB, zC, Act.put, zD, zE, zF]
            refine bt (f := 24) (i := 2) (v := ?vsx2) rfl (Or.inl ⟨(by rfl), ?hysx2⟩) (Below.refl _ _) ?restsx2
            case hysx2 => intro W hW; go_simp; exact rfl
            simp only [zA, zB, zC, Act.put, zD, zE, zF]
            refine bt (f := 24) (i := 3) (v := ?vsx3) rfl (Or.inl ⟨(by rfl), ?hysx3⟩) (Below.refl _ _) ?restsx3
            case hysx3 => intro W hW; go_simp; exact rfl
            simp only [zA, zB, zC, Act.put, zD, zE, zF]
            refine bt (f := 24) (i := 4) (v := ?vsx4) rfl (Or.inl ⟨(by rfl), ?hysx4⟩) (Below.refl _ _) ?restsx4
            case hysx4 =>
              intro W hW
              have hb0 : Below wr.heap.size wr W := bstep (Below.drew1 _) hW
              obtain ⟨y0, y1⟩ := FK.out.on hbb hb0
              obtain ⟨z0, z1⟩ := FJ.out.on hbb hb0
              go_simp
              exact rfl
            simp only [zA, zB, zC, Act.put, zD, zE, zF]
            refine but_run (i := 5) (by kernel_rfl) rfl (by rfl) ?_
            simp only [zA, zB, zC]
            intro K HK
            go_wp2_with fail
            refine (inG_any (l[k]).a _).mono ?_
            rintro r Vsx1 ⟨rfl, hBsx1⟩
            rw [HID.out]
            have hSsx1 := bstep (Below.refl _ _) hBsx1
            go_wp2_with fail
            refine HK.out _ Vsx1 (fun _ => hSsx1) ?_
            clear HK
            refine bt (f := 24) (i := 6) (v := ?vsx6) rfl (Or.inl ⟨(by rfl), ?hysx6⟩) hSsx1 ?restsx6
            case hysx6 => intro W hW; go_simp; exact rfl
            simp only [zA, zB, zC, Act.put, zD, zE, zF]
            refine bt (f := 24) (i := 7) (v := ?vsx7) rfl (Or.inl ⟨(by rfl), ?hysx7⟩) hSsx1 ?restsx7
            case hysx7 => intro W hW; go_simp; exact rfl
            simp only [zA, zB, zC, Act.put, zD, zE, zF]
            refine bt (f := 24) (i := 8) (v := ?vsx8) rfl (Or.inl ⟨((wanted_at rfl rfl rfl rfl).trans rfl), ?hysx8⟩) hSsx1 ?restsx8
            case hysx8 => intro W hW; go_simp; exact rfl
            simp only [zA, zB, zC, Act.put, zD, zE, zF]
            refine bt (f := 24) (i := 9) (v := ?vsx9) rfl (Or.inl ⟨((wanted_at rfl rfl rfl rfl).trans rfl), ?hysx9⟩) hSsx1 ?restsx9
            case hysx9 => intro W hW; go_simp; exact rfl
            simp only [zA, zB, zC, Act.put, zD, zE, zF]
            refine bt (f := 24) (i := 10) (v := ?vsx10) rfl (Or.inl ⟨((wanted_at rfl rfl rfl rfl).trans rfl), ?hysx10⟩) hSsx1 ?restsx10
            case hysx10 => intro W hW; go_simp; exact rfl
            simp only [zA, zB, zC, Act.put, zD, zE, zF]
            refine bt (f := 24) (i := 11) (v := ?vsx11) rfl (Or.inl ⟨((wanted_at rfl rfl rfl rfl).trans rfl), ?hysx11⟩) hSsx1 ?restsx11
            case hysx11 => intro W hW; go_simp; exact rfl
            simp only [zA, zB, zC, Act.put, zD, zE, zF]
            refine bt (f := 24) (i := 12) (v := ?vsx12) rfl (Or.inl ⟨((wanted_at rfl rfl rfl rfl).trans rfl), ?hysx12⟩) hSsx1 ?restsx12
            case hysx12 => intro W hW; go_simp; exact rfl
            simp only [zA, zB, zC, Act.put, zD, zE, zF]
            refine bt (f := 24) (i := 13) (v := ?vsx13) rfl (Or.inl ⟨((wanted_at rfl rfl rfl rfl).trans rfl), ?hysx13⟩) hSsx1 ?restsx13
            case hysx13 => intro W hW; go_simp; exact rfl
            simp only [zA, zB, zC, Act.put, zD, zE, zF]
            refine bt (f := 24) (i := 14) (v := ?vsx14) rfl (Or.inl ⟨((wanted_at rfl rfl rfl rfl).trans rfl), ?hysx14⟩) hSsx1 ?restsx14
            case hysx14 => intro W hW; go_simp; exact rfl
            simp only [zA, zB, zC, Act.put, zD, zE, zF]
            refine bt (f := 24) (i := 15) (v := ?vsx15) rfl (Or.inl ⟨((wanted_at rfl rfl rfl rfl).trans rfl), ?hysx15⟩) hSsx1 ?restsx15
            case hysx15 => intro W hW; go_simp; exact rfl
            simp only [zA, zB, zC, Act.put, zD, zE, zF]
            refine bt (f := 24) (i := 16) (v := ?vsx16) rfl (Or.inl ⟨((wanted_at rfl rfl rfl rfl).trans rfl), ?hysx16⟩) hSsx1 ?restsx16
            case hysx16 =>
              intro W hW
              have hb0 : Below wr.heap.size wr W := bstep (Below.drew1 _) hW
              obtain ⟨y0, y1⟩ := FK.out.on hbb hb0
              obtain ⟨z0, z1⟩ := FJ.out.on hbb hb0
              go_simp
              exact rfl
            simp only [zA, zB, zC, Act.put, zD, zE, zF]
            refine bt (f := 24) (i := 17) (v := ?vsx17) rfl (Or.inl ⟨((wanted_at rfl rfl rfl rfl).trans rfl), ?hysx17⟩) hSsx1 ?restsx17
            case hysx17 => intro W hW; go_simp; exact rfl
            simp only [zA, zB, zC, Act.put, zD, zE, zF]
            refine bt (f := 24) (i := 18) (v := ?vsx18) rfl (Or.inl ⟨((wanted_at rfl rfl rfl rfl).trans rfl), ?hysx18⟩) hSsx1 ?restsx18
            case hysx18 => intro W hW; go_simp; exact rfl
            simp only [zA, zB, zC, Act.put, zD, zE, zF]
            refine bt (f := 24) (i := 19) (v := ?vsx19) rfl (Or.inl ⟨((wanted_at rfl rfl rfl rfl).trans rfl), ?hysx19⟩) hSsx1 ?restsx19
            case hysx19 => intro W hW; go_simp; exact rfl
            simp only [zA, zB, zC, Act.put, zD, zE, zF]
            refine bt (f := 24) (i := 20) (v := ?vsx20) rfl (Or.inl ⟨((wanted_at rfl rfl rfl rfl).trans rfl), ?hysx20⟩) hSsx1 ?restsx20
            case hysx20 => intro W hW; go_simp; exact rfl
            simp only [zA, zB, zC, Act.put, zD, zE, zF]
            refine bt (f := 24) (i := 21) (v := ?vsx21) rfl (Or.inl ⟨((wanted_at rfl rfl rfl rfl).trans rfl), ?hysx21⟩) hSsx1 ?restsx21
            case hysx21 =>
              intro W hW
              have hb0 : Below wr.heap.size wr W := bstep (Below.drew1 _) hW
              obtain ⟨y0, y1⟩ := FK.out.on hbb hb0
              obtain ⟨z0, z1⟩ := FJ.out.on hbb hb0
              go_simp
              exact rfl
            simp only [zA, zB, zC, Act.put, zD, zE, zF]
            refine bt (f := 24) (i := 22) (v := ?vsx22) rfl (Or.inl ⟨((wanted_at rfl rfl rfl rfl).trans rfl), ?hysx22⟩) hSsx1 ?restsx22
            case hysx22 => intro W hW; go_simp; exact rfl
            simp only [zA, zB, zC, Act.put, zD, zE, zF]
            refine bt (f := 24) (i := 23) (v := ?vsx23) rfl (Or.inl ⟨((wanted_at rfl rfl rfl rfl).trans rfl), ?hysx23⟩) hSsx1 ?restsx23
            case hysx23 => intro W hW; go_simp; exact rfl
            simp only [zA, zB, zC, Act.put, zD, zE, zF]
            refine but_run (i := 24) (by kernel_rfl) rfl (by rfl) ?_
            simp only [zA, zB, zC]
            intro K HK
            go_wp2_with fail
            refine HK.out _ Vsx1 (fun h => absurd rfl h) ?_
            clear HK
            refine but_done (by kernel_rfl) ?_
            go_wp2_with fail
            go_ret
            exact ⟨ret_boolB (by rw [← HR.out]; exact HBAD.out.symm), bstep HW.out (bstep (Below.drew1 _) hSsx1)⟩
          · have z1 : decide ((l[k]).a ≤ (l[j]).a) = false := decide_eq_false p
            have HJ2 : Hid (∀ j (h : j + 1 < l.length), j + 1 < k + 1 → (l[j]).a < (l[j + 1]).a) := Lib.hid (fun i h h2 => by
              by_cases h3 : i + 1 < k
              · exact HJ.out i h h3
              · have e1 : i = j := by omega
                subst e1
                subst hj
                omega)
            clear hc hid hk0 hj p
            go_upto_region 4 with (fail)
            refine but_begin (f := 24) (S := fun V => Below wr.drew.heap.size wr.drew V) (by kernel_rfl) ?_
            refine bt (f := 24) (i := 0) (v := ?vsy0) rfl (Or.inl ⟨(by rfl), ?hysy0⟩) (Below.refl _ _) ?restsy0
            case hysy0 => intro W hW; go_simp; exact rfl
            simp only [zA, zB, zC, Act.put, zD, zE, zF]
            refine bt (f := 24) (i := 1) (v := ?vsy1) rfl (Or.inl ⟨(by rfl), ?hysy1⟩) (Below.refl _ _) ?restsy1
            case hysy1 => intro W hW; go_simp; exact rfl
            simp only [zA, zB, zC, Act.put, zD, zE, zF]
            refine bt (f := 24) (i := 2) (v := ?vsy2) rfl (Or.inl ⟨(by rfl), ?hysy2⟩) (Below.refl _ _) ?restsy2
            case hysy2 => intro W hW; go_simp; exact rfl
            simp only [zA, zB, zC, Act.put, zD, zE, zF]
            refine bt (f := 24) (i := 3) (v := ?vsy3) rfl (Or.inl ⟨(by rfl), ?hysy3⟩) (Below.refl _ _) ?restsy3
            case hysy3 => intro W hW; go_simp; exact rfl
            simp only [zA, zB, zC, Act.put, zD, zE, zF]
            refine bt (f := 24) (i := 4) (v := ?vsy4) rfl (Or.inl ⟨(by rfl), ?hysy4⟩) (Below.refl _ _) ?restsy4
            case hysy4 =>
              intro W hW
              have hb0 : Below wr.heap.size wr W := bstep (Below.drew1 _) hW
              obtain ⟨y0, y1⟩ := FK.out.on hbb hb0
              obtain ⟨z0, z1⟩ := FJ.out.on hbb hb0
              go_simp
              exact rfl
            simp only [zA, zB, zC, Act.put, zD, zE, zF]
            refine but_run (i := 5) (by kernel_rfl) rfl (by rfl) ?_
            simp only [zA, zB, zC]
            intro K HK
            go_wp2_with fail
            refine (inG_any (l[k]).a _).mono ?_
            rintro r Vsy1 ⟨rfl, hBsy1⟩
            rw [HID.out]
            have hSsy1 := bstep (Below.refl _ _) hBsy1
            go_wp2_with fail
            refine HK.out _ Vsy1 (fun _ => hSsy1) ?_
            clear HK
            refine bt (f := 24) (i := 6) (v := ?vsy6) rfl (Or.inl ⟨(by rfl), ?hysy6⟩) hSsy1 ?restsy6
            case hysy6 => intro W hW; go_simp; exact rfl
            simp only [zA, zB, zC, Act.put, zD, zE, zF]
            refine bt (f := 24) (i := 7) (v := ?vsy7) rfl (Or.inl ⟨(by rfl), ?hysy7⟩) hSsy1 ?restsy7
            case hysy7 => intro W hW; go_simp; exact rfl
            simp only [zA, zB, zC, Act.put, zD, zE, zF]
            refine bt (f := 24) (i := 8) (v := ?vsy8) rfl (Or.inl ⟨((wanted_at rfl rfl rfl rfl).trans rfl), ?hysy8⟩) hSsy1 ?restsy8
            case hysy8 => intro W hW; go_simp; exact rfl
            simp only [zA, zB, zC, Act.put, zD, zE, zF]
            refine bt (f := 24) (i := 9) (v := ?vsy9) rfl (Or.inl ⟨((wanted_at rfl rfl rfl rfl).trans rfl), ?hysy9⟩) hSsy1 ?restsy9
            case hysy9 => intro W hW; go_simp; exact rfl
            simp only [zA, zB, zC, Act.put, zD, zE, zF]
            refine bt (f := 24) (i := 10) (v := ?vsy10) rfl (Or.inl ⟨((wanted_at rfl rfl rfl rfl).trans rfl), ?hysy10⟩) hSsy1 ?restsy10
            case hysy10 => intro W hW; go_simp; exact rfl
            simp only [zA, zB, zC, Act.put, zD, zE, zF]
            refine bt (f := 24) (i := 11) (v := ?vsy11) rfl (Or.inl ⟨((wanted_at rfl rfl rfl rfl).trans rfl), ?hysy11⟩) hSsy1 ?restsy11
            case hysy11 => intro W hW; go_simp; exact rfl
            simp only [zA, zB, zC, Act.put, zD, zE, zF]
            refine bt (f := 24) (i := 12) (v := ?vsy12) rfl (Or.inl ⟨((wanted_at rfl rfl rfl rfl).trans rfl), ?hysy12⟩) hSsy1 ?restsy12
            case hysy12 => intro W hW; go_simp; exact rfl
            simp only [zA, zB, zC, Act.put, zD, zE, zF]
            refine bt (f := 24) (i := 13) (v := ?vsy13) rfl (Or.inl ⟨((wanted_at rfl rfl rfl rfl).trans rfl), ?hysy13⟩) hSsy1 ?restsy13
            case hysy13 => intro W hW; go_simp; exact rfl
            simp only [zA, zB, zC, Act.put, zD, zE, zF]
            refine bt (f := 24) (i := 14) (v := ?vsy14) rfl (Or.inl ⟨((wanted_at rfl rfl rfl rfl).trans rfl), ?hysy14⟩) hSsy1 ?restsy14
            case hysy14 => intro W hW; go_simp; exact rfl
            simp only [zA, zB, zC, Act.put, zD, zE, zF]
            refine bt (f := 24) (i := 15) (v := ?vsy15) rfl (Or.inl ⟨((wanted_at rfl rfl rfl rfl).trans rfl), ?hysy15⟩) hSsy1 ?restsy15
            case hysy15 => intro W hW; go_simp; exact rfl
            simp only [zA, zB, zC, Act.put, zD, zE, zF]
            refine bt (f := 24) (i := 16) (v := ?vsy16) rfl (Or.inl ⟨((wanted_at rfl rfl rfl rfl).trans rfl), ?hysy16⟩) hSsy1 ?restsy16
            case hysy16 =>
              intro W hW
              have hb0 : Below wr.heap.size wr W := bstep (Below.drew1 _) hW
              obtain ⟨y0, y1⟩ := FK.out.on hbb hb0
              obtain ⟨z0, z1⟩ := FJ.out.on hbb hb0
              go_simp
              exact rfl
            simp only [zA, zB, zC, Act.put, zD, zE, zF]
            refine bt (f := 24) (i := 17) (v := ?vsy17) rfl (Or.inl ⟨((wanted_at rfl rfl rfl rfl).trans rfl), ?hysy17⟩) hSsy1 ?restsy17
            case hysy17 => intro W hW; go_simp; exact rfl
            simp only [zA, zB, zC, Act.put, zD, zE, zF]
            refine bt (f := 24) (i := 18) (v := ?vsy18) rfl (Or.inl ⟨((wanted_at rfl rfl rfl rfl).trans rfl), ?hysy18⟩) hSsy1 ?restsy18
            case hysy18 => intro W hW; go_simp; exact rfl
            simp only [zA, zB, zC, Act.put, zD, zE, zF]
            refine bt (f := 24) (i := 19) (v := ?vsy19) rfl (Or.inl ⟨((wanted_at rfl rfl rfl rfl).trans rfl), ?hysy19⟩) hSsy1 ?restsy19
            case hysy19 => intro W hW; go_simp; exact rfl
            simp only [zA, zB, zC, Act.put, zD, zE, zF]
            refine bt (f := 24) (i := 20) (v := ?vsy20) rfl (Or.inl ⟨((wanted_at rfl rfl rfl rfl).trans rfl), ?hysy20⟩) hSsy1 ?restsy20
            case hysy20 => intro W hW; go_simp; exact rfl
            simp only [zA, zB, zC, Act.put, zD, zE, zF]
            refine bt (f := 24) (i := 21) (v := ?vsy21) rfl (Or.inl ⟨((wanted_at rfl rfl rfl rfl).trans rfl), ?hysy21⟩) hSsy1 ?restsy21
            case hysy21 =>
              intro W hW
              have hb0 : Below wr.heap.size wr W := bstep (Below.drew1 _) hW
              obtain ⟨y0, y1⟩ := FK.out.on hbb hb0
              obtain ⟨z0, z1⟩ := FJ.out.on hbb hb0
              go_simp
              exact rfl
            simp only [zA, zB, zC, Act.put, zD, zE, zF]
            refine bt (f := 24) (i := 22) (v := ?vsy22) rfl (Or.inl ⟨((wanted_at rfl rfl rfl rfl).trans rfl), ?hysy22⟩) hSsy1 ?restsy22
            case hysy22 => intro W hW; go_simp; exact rfl
            simp only [zA, zB, zC, Act.put, zD, zE, zF]
            refine bt (f := 24) (i := 23) (v := ?vsy23) rfl (Or.inl ⟨((wanted_at rfl rfl rfl rfl).trans rfl), ?hysy23⟩) hSsy1 ?restsy23
            case hysy23 => intro W hW; go_simp; exact rfl
            simp only [zA, zB, zC, Act.put, zD, zE, zF]
            refine but_run (i := 24) (by kernel_rfl) rfl (by rfl) ?_
            simp only [zA, zB, zC]
            intro K HK
            go_wp2_with fail
            refine HK.out _ Vsy1 (fun h => absurd rfl h) ?_
            clear HK
            refine but_done (by kernel_rfl) ?_
            have BV := Lib.hid (bstep (Below.drew1 _) hSsy1)
            go_upto_region 6 with (fail)
            obtain ⟨wv, hwv⟩ : ∃ wv, wv = Vsy1 := ⟨_, rfl⟩
            rw [← hwv] at BV ⊢
            clear hwv
            cases q0 : ((l[k]).b != 0)
            · have HF : Hid (fitG l k = true) := Lib.hid (by rw [hfit, HID.out, parGB, show ((l[k]).b == 0) = true by simpa using q0]; rfl)
              refine but_begin (f := 17) (S := fun V => Below wv.drew.heap.size wv.drew V) (by kernel_rfl) ?_
              refine bt (f := 17) (i := 0) (v := ?vt0sy0) rfl (Or.inl ⟨(by rfl), ?hyt0sy0⟩) (Below.refl _ _) ?restt0sy0
              case hyt0sy0 => intro W hW; go_simp; exact rfl
              simp only [zA, zB, zC, Act.put, zD, zE, zF]
              refine bt (f := 17) (i := 1) (v := ?vt0sy1) rfl (Or.inl ⟨(by rfl), ?hyt0sy1⟩) (Below.refl _ _) ?restt0sy1
              case hyt0sy1 => intro W hW; go_simp; exact rfl
              simp only [zA, zB, zC, Act.put, zD, zE, zF]
              refine bt (f := 17) (i := 2) (v := ?vt0sy2) rfl (Or.inl ⟨(by rfl), ?hyt0sy2⟩) (Below.refl _ _) ?restt0sy2
              case hyt0sy2 => intro W hW; go_simp; exact rfl
              simp only [zA, zB, zC, Act.put, zD, zE, zF]
              refine bt (f := 17) (i := 3) (v := ?vt0sy3) rfl (Or.inl ⟨(by rfl), ?hyt0sy3⟩) (Below.refl _ _) ?restt0sy3
              case hyt0sy3 => intro W hW; go_simp; exact rfl
              simp only [zA, zB, zC, Act.put, zD, zE, zF]
              refine bt (f := 17) (i := 4) (v := ?vt0sy4) rfl (Or.inl ⟨(by rfl), ?hyt0sy4⟩) (Below.refl _ _) ?restt0sy4
              case hyt0sy4 =>
                intro W hW
                have hb0 : Below wv.heap.size wv W := bstep (Below.drew1 _) hW
                obtain ⟨y0, y1⟩ := FK.out.on hbb (bstep BV.out hb0)
                go_simp
                exact rfl
              simp only [zA, zB, zC, Act.put, zD, zE, zF]
              refine bt (f := 17) (i := 5) (v := ?vt0sy5) rfl (Or.inl ⟨(by rfl), ?hyt0sy5⟩) (Below.refl _ _) ?restt0sy5
              case hyt0sy5 => intro W hW; go_simp; exact rfl
              simp only [zA, zB, zC, Act.put, zD, zE, zF]
              refine bt (f := 17) (i := 6) (v := ?vt0sy6) rfl (Or.inl ⟨(by rfl), ?hyt0sy6⟩) (Below.refl _ _) ?restt0sy6
              case hyt0sy6 => intro W hW; go_simp; exact rfl
              simp only [zA, zB, zC, Act.put, zD, zE, zF]
              refine bt (f := 17) (i := 7) (v := undef) rfl (Or.inr ⟨((wanted_at rfl rfl rfl rfl).trans rfl), rfl⟩) (Below.refl _ _) ?_
              simp only [zA, zB, zC, Act.put, zD, zE, zF]
              refine bt (f := 17) (i := 8) (v := undef) rfl (Or.inr ⟨((wanted_at rfl rfl rfl rfl).trans rfl), rfl⟩) (Below.refl _ _) ?_
              simp only [zA, zB, zC, Act.put, zD, zE, zF]
              refine bt (f := 17) (i := 9) (v := undef) rfl (Or.inr ⟨((wanted_at rfl rfl rfl rfl).trans rfl), rfl⟩) (Below.refl _ _) ?_
              simp only [zA, zB, zC, Act.put, zD, zE, zF]
              refine bt (f := 17) (i := 10) (v := undef) rfl (Or.inr ⟨((wanted_at rfl rfl rfl rfl).trans rfl), rfl⟩) (Below.refl _ _) ?_
              simp only [zA, zB, zC, Act.put, zD, zE, zF]
              refine bt (f := 17) (i := 11) (v := undef) rfl (Or.inr ⟨((wanted_at rfl rfl rfl rfl).trans rfl), rfl⟩) (Below.refl _ _) ?_
              simp only [zA, zB, zC, Act.put, zD, zE, zF]
              refine bt (f := 17) (i := 12) (v := undef) rfl (Or.inr ⟨((wanted_at rfl rfl rfl rfl).trans rfl), rfl⟩) (Below.refl _ _) ?_
              simp only [zA, zB, zC, Act.put, zD, zE, zF]
              refine bt (f := 17) (i := 13) (v := undef) rfl (Or.inr ⟨((wanted_at rfl rfl rfl rfl).trans rfl), rfl⟩) (Below.refl _ _) ?_
              simp only [zA, zB, zC, Act.put, zD, zE, zF]
              refine bt (f := 17) (i := 14) (v := undef) rfl (Or.inr ⟨((wanted_at rfl rfl rfl rfl).trans rfl), rfl⟩) (Below.refl _ _) ?_
              simp only [zA, zB, zC, Act.put, zD, zE, zF]
              refine bt (f := 17) (i := 15) (v := undef) rfl (Or.inr ⟨((wanted_at rfl rfl rfl rfl).trans rfl), rfl⟩) (Below.refl _ _) ?_
              simp only [zA, zB, zC, Act.put, zD, zE, zF]
              refine bt (f := 17) (i := 16) (v := undef) rfl (Or.inr ⟨((wanted_at rfl rfl rfl rfl).trans rfl), rfl⟩) (Below.refl _ _) ?_
              simp only [zA, zB, zC, Act.put, zD, zE, zF]
              refine but_run (i := 17) (by kernel_rfl) rfl (by rfl) ?_
              simp only [zA, zB, zC]
              intro K HK
              go_wp2_with fail
              refine HK.out _ wv.drew (fun h => absurd rfl h) ?_
              clear HK
              refine but_done (by kernel_rfl) ?_
              go_wp2_with fail
              go_roundw
              case rel => exact ⟨k + 1, by omega, by go_num, Lib.hid (fit_step HI.out HF.out), HJ2, Lib.hid (bstep HW.out (bstep BV.out (bstep (Below.drew1 _) (Below.refl _ _))))⟩
              case measure => simp [intOf]; omega
            · have q9 : ((l[k]).b == 0) = false := by simpa using q0
              have hneg := ageAt_neg (l.take k) (l[k]).b
              cases q2 : hasG (l.take k) (l[k]).b
              · have HF : Hid (fitG l k = false) := Lib.hid (by rw [hfit, HID.out, parGB, q9, q2]; rfl)
                rw [q2] at hneg
                have q3 : decide (ageAtK (l.take k) (l[k]).b < 0) = true := hneg
                clear hneg q9 q2
                refine but_begin (f := 17) (S := fun V => Below wv.drew.heap.size wv.drew V) (by kernel_rfl) ?_
                refine bt (f := 17) (i := 0) (v := ?vtxsy0) rfl (Or.inl ⟨(by rfl), ?hytxsy0⟩) (Below.refl _ _) ?resttxsy0
                case hytxsy0 => intro W hW; go_simp; exact rfl
                simp only [zA, zB, zC, Act.put, zD, zE, zF]
                refine bt (f := 17) (i := 1) (v := ?vtxsy1) rfl (Or.inl ⟨(by rfl), ?hytxsy1⟩) (Below.refl _ _) ?resttxsy1
                case hytxsy1 => intro W hW; go_simp; exact rfl
                simp only [zA, zB, zC, Act.put, zD, zE, zF]
                refine bt (f := 17) (i := 2) (v := ?vtxsy2) rfl (Or.inl ⟨(by rfl), ?hytxsy2⟩) (Below.refl _ _) ?resttxsy2
                case hytxsy2 => intro W hW; go_simp; exact rfl
                simp only [zA, zB, zC, Act.put, zD, zE, zF]
                refine bt (f := 17) (i := 3) (v := ?vtxsy3) rfl (Or.inl ⟨(by rfl), ?hytxsy3⟩) (Below.refl _ _) ?resttxsy3
                case hytxsy3 => intro W hW; go_simp; exact rfl
                simp only [zA, zB, zC, Act.put, zD, zE, zF]
                refine bt (f := 17) (i := 4) (v := ?vtxsy4) rfl (Or.inl ⟨(by rfl), ?hytxsy4⟩) (Below.refl _ _) ?resttxsy4
                case hytxsy4 =>
                  intro W hW
                  have hb0 : Below wv.heap.size wv W := bstep (Below.drew1 _) hW
                  obtain ⟨y0, y1⟩ := FK.out.on hbb (bstep BV.out hb0)
                  go_simp
                  exact rfl
                simp only [zA, zB, zC, Act.put, zD, zE, zF]
                refine bt (f := 17) (i := 5) (v := ?vtxsy5) rfl (Or.inl ⟨(by rfl), ?hytxsy5⟩) (Below.refl _ _) ?resttxsy5
                case hytxsy5 => intro W hW; go_simp; exact rfl
                simp only [zA, zB, zC, Act.put, zD, zE, zF]
                refine bt (f := 17) (i := 6) (v := ?vtxsy6) rfl (Or.inl ⟨(by rfl), ?hytxsy6⟩) (Below.refl _ _) ?resttxsy6
                case hytxsy6 => intro W hW; go_simp; exact rfl
                simp only [zA, zB, zC, Act.put, zD, zE, zF]
                refine bt (f := 17) (i := 7) (v := ?vtxsy7) rfl (Or.inl ⟨((wanted_at rfl rfl rfl rfl).trans rfl), ?hytxsy7⟩) (Below.refl _ _) ?resttxsy7
                case hytxsy7 => intro W hW; go_simp; exact rfl
                simp only [zA, zB, zC, Act.put, zD, zE, zF]
                refine bt (f := 17) (i := 8) (v := ?vtxsy8) rfl (Or.inl ⟨((wanted_at rfl rfl rfl rfl).trans rfl), ?hytxsy8⟩) (Below.refl _ _) ?resttxsy8
                case hytxsy8 => intro W hW; go_simp; exact rfl
                simp only [zA, zB, zC, Act.put, zD, zE, zF]
                refine bt (f := 17) (i := 9) (v := ?vtxsy9) rfl (Or.inl ⟨((wanted_at rfl rfl rfl rfl).trans rfl), ?hytxsy9⟩) (Below.refl _ _) ?resttxsy9
                case hytxsy9 => intro W hW; go_simp; exact rfl
                simp only [zA, zB, zC, Act.put, zD, zE, zF]
                refine bt (f := 17) (i := 10) (v := ?vtxsy10) rfl (Or.inl ⟨((wanted_at rfl rfl rfl rfl).trans rfl), ?hytxsy10⟩) (Below.refl _ _) ?resttxsy10
                case hytxsy10 => intro W hW; go_simp; exact rfl
                simp only [zA, zB, zC, Act.put, zD, zE, zF]
                refine bt (f := 17) (i := 11) (v := ?vtxsy11) rfl (Or.inl ⟨((wanted_at rfl rfl rfl rfl).trans rfl), ?hytxsy11⟩) (Below.refl _ _) ?resttxsy11
                case hytxsy11 => intro W hW; go_simp; exact rfl
                simp only [zA, zB, zC, Act.put, zD, zE, zF]
                refine bt (f := 17) (i := 12) (v := ?vtxsy12) rfl (Or.inl ⟨((wanted_at rfl rfl rfl rfl).trans rfl), ?hytxsy12⟩) (Below.refl _ _) ?resttxsy12
                case hytxsy12 => intro W hW; go_simp; exact rfl
                simp only [zA, zB, zC, Act.put, zD, zE, zF]
                refine bt (f := 17) (i := 13) (v := ?vtxsy13) rfl (Or.inl ⟨((wanted_at rfl rfl rfl rfl).trans rfl), ?hytxsy13⟩) (Below.refl _ _) ?resttxsy13
                case hytxsy13 => intro W hW; go_simp; exact rfl
                simp only [zA, zB, zC, Act.put, zD, zE, zF]
                refine bt (f := 17) (i := 14) (v := ?vtxsy14) rfl (Or.inl ⟨((wanted_at rfl rfl rfl rfl).trans rfl), ?hytxsy14⟩) (Below.refl _ _) ?resttxsy14
                case hytxsy14 =>
                  intro W hW
                  have hb0 : Below wv.heap.size wv W := bstep (Below.drew1 _) hW
                  obtain ⟨y0, y1⟩ := FK.out.on hbb (bstep BV.out hb0)
                  go_simp
                  exact rfl
                simp only [zA, zB, zC, Act.put, zD, zE, zF]
                refine but_run (i := 15) (by kernel_rfl) rfl ((wanted_at rfl rfl rfl rfl).trans rfl) ?_
                simp only [zA, zB, zC]
                intro K HK
                go_wp2_with fail
                refine (specAgeAtB _ (l.take k) (l[k]).b _ (HTK.out.on (bstep BV.out (bstep (Below.drew1 _) (Below.refl _ _)))) (by simp; omega)).mono ?_
                rintro r Vtxsy1 ⟨rfl, hBtxsy1⟩
                have hStxsy1 := bstep (Below.refl _ _) hBtxsy1
                go_wp2_with fail
                refine HK.out _ Vtxsy1 (fun _ => hStxsy1) ?_
                clear HK
                refine bt (f := 17) (i := 16) (v := ?vtxsy16) rfl (Or.inl ⟨((wanted_at rfl rfl rfl rfl).trans rfl), ?hytxsy16⟩) hStxsy1 ?resttxsy16
                case hytxsy16 => intro W hW; go_simp; exact rfl
                simp only [zA, zB, zC, Act.put, zD, zE, zF]
                refine but_run (i := 17) (by kernel_rfl) rfl (by rfl) ?_
                simp only [zA, zB, zC]
                intro K HK
                go_wp2_with fail
                refine HK.out _ Vtxsy1 (fun h => absurd rfl h) ?_
                clear HK
                refine but_done (by kernel_rfl) ?_
                go_wp2_with fail
                go_ret
                exact ⟨ret_boolB (by rw [← HR.out]; exact (fit_miss hlt HF.out).symm), bstep HW.out (bstep BV.out (bstep (Below.drew1 _) hStxsy1))⟩
              · have HF : Hid (fitG l k = true) := Lib.hid (by rw [hfit, HID.out, parGB, q9, q2]; rfl)
                rw [q2] at hneg
                have q3 : decide (ageAtK (l.take k) (l[k]).b < 0) = false := hneg
                clear hneg q9 q2
                refine but_begin (f := 17) (S := fun V => Below wv.drew.heap.size wv.drew V) (by kernel_rfl) ?_
                refine bt (f := 17) (i := 0) (v := ?vtysy0) rfl (Or.inl ⟨(by rfl), ?hytysy0⟩) (Below.refl _ _) ?resttysy0
                case hytysy0 => intro W hW; go_simp; exact rfl
                simp only [zA, zB, zC, Act.put, zD, zE, zF]
                refine bt (f := 17) (i := 1) (v := ?vtysy1) rfl (Or.inl ⟨(by rfl), ?hytysy1⟩) (Below.refl _ _) ?resttysy1
                case hytysy1 => intro W hW; go_simp; exact rfl
                simp only [zA, zB, zC, Act.put, zD, zE, zF]
                refine bt (f := 17) (i := 2) (v := ?vtysy2) rfl (Or.inl ⟨(by rfl), ?hytysy2⟩) (Below.refl _ _) ?resttysy2
                case hytysy2 => intro W hW; go_simp; exact rfl
                simp only [zA, zB, zC, Act.put, zD, zE, zF]
                refine bt (f := 17) (i := 3) (v := ?vtysy3) rfl (Or.inl ⟨(by rfl), ?hytysy3⟩) (Below.refl _ _) ?resttysy3
                case hytysy3 => intro W hW; go_simp; exact rfl
                simp only [zA, zB, zC, Act.put, zD, zE, zF]
                refine bt (f := 17) (i := 4) (v := ?vtysy4) rfl (Or.inl ⟨(by rfl), ?hytysy4⟩) (Below.refl _ _) ?resttysy4
                case hytysy4 =>
                  intro W hW
                  have hb0 : Below wv.heap.size wv W := bstep (Below.drew1 _) hW
                  obtain ⟨y0, y1⟩ := FK.out.on hbb (bstep BV.out hb0)
                  go_simp
                  exact rfl
                simp only [zA, zB, zC, Act.put, zD, zE, zF]
                refine bt (f := 17) (i := 5) (v := ?vtysy5) rfl (Or.inl ⟨(by rfl), ?hytysy5⟩) (Below.refl _ _) ?resttysy5
                case hytysy5 => intro W hW; go_simp; exact rfl
                simp only [zA, zB, zC, Act.put, zD, zE, zF]
                refine bt (f := 17) (i := 6) (v := ?vtysy6) rfl (Or.inl ⟨(by rfl), ?hytysy6⟩) (Below.refl _ _) ?resttysy6
                case hytysy6 => intro W hW; go_simp; exact rfl
                simp only [zA, zB, zC, Act.put, zD, zE, zF]
                refine bt (f := 17) (i := 7) (v := ?vtysy7) rfl (Or.inl ⟨((wanted_at rfl rfl rfl rfl).trans rfl), ?hytysy7⟩) (Below.refl _ _) ?resttysy7
                case hytysy7 => intro W hW; go_simp; exact rfl
                simp only [zA, zB, zC, Act.put, zD, zE, zF]
                refine bt (f := 17) (i := 8) (v := ?vtysy8) rfl (Or.inl ⟨((wanted_at rfl rfl rfl rfl).trans rfl), ?hytysy8⟩) (Below.refl _ _) ?resttysy8
                case hytysy8 => intro W hW; go_simp; exact rfl
                simp only [zA, zB, zC, Act.put, zD, zE, zF]
                refine bt (f := 17) (i := 9) (v := ?vtysy9) rfl (Or.inl ⟨((wanted_at rfl rfl rfl rfl).trans rfl), ?hytysy9⟩) (Below.refl _ _) ?resttysy9
                case hytysy9 => intro W hW; go_simp; exact rfl
                simp only [zA, zB, zC, Act.put, zD, zE, zF]
                refine bt (f := 17) (i := 10) (v := ?vtysy10) rfl (Or.inl ⟨((wanted_at rfl rfl rfl rfl).trans rfl), ?hytysy10⟩) (Below.refl _ _) ?resttysy10
                case hytysy10 => intro W hW; go_simp; exact rfl
                simp only [zA, zB, zC, Act.put, zD, zE, zF]
                refine bt (f := 17) (i := 11) (v := ?vtysy11) rfl (Or.inl ⟨((wanted_at rfl rfl rfl rfl).trans rfl), ?hytysy11⟩) (Below.refl _ _) ?resttysy11
                case hytysy11 => intro W hW; go_simp; exact rfl
                simp only [zA, zB, zC, Act.put, zD, zE, zF]
                refine bt (f := 17) (i := 12) (v := ?vtysy12) rfl (Or.inl ⟨((wanted_at rfl rfl rfl rfl).trans rfl), ?hytysy12⟩) (Below.refl _ _) ?resttysy12
                case hytysy12 => intro W hW; go_simp; exact rfl
                simp only [zA, zB, zC, Act.put, zD, zE, zF]
                refine bt (f := 17) (i := 13) (v := ?vtysy13) rfl (Or.inl ⟨((wanted_at rfl rfl rfl rfl).trans rfl), ?hytysy13⟩) (Below.refl _ _) ?resttysy13
                case hytysy13 => intro W hW; go_simp; exact rfl
                simp only [zA, zB, zC, Act.put, zD, zE, zF]
                refine bt (f := 17) (i := 14) (v := ?vtysy14) rfl (Or.inl ⟨((wanted_at rfl rfl rfl rfl).trans rfl), ?hytysy14⟩) (Below.refl _ _) ?resttysy14
                case hytysy14 =>
                  intro W hW
                  have hb0 : Below wv.heap.size wv W := bstep (Below.drew1 _) hW
                  obtain ⟨y0, y1⟩ := FK.out.on hbb (bstep BV.out hb0)
                  go_simp
                  exact rfl
                simp only [zA, zB, zC, Act.put, zD, zE, zF]
                refine but_run (i := 15) (by kernel_rfl) rfl ((wanted_at rfl rfl rfl rfl).trans rfl) ?_
                simp only [zA, zB, zC]
                intro K HK
                go_wp2_with fail
                refine (specAgeAtB _ (l.take k) (l[k]).b _ (HTK.out.on (bstep BV.out (bstep (Below.drew1 _) (Below.refl _ _)))) (by simp; omega)).mono ?_
                rintro r Vtysy1 ⟨rfl, hBtysy1⟩
                have hStysy1 := bstep (Below.refl _ _) hBtysy1
                go_wp2_with fail
                refine HK.out _ Vtysy1 (fun _ => hStysy1) ?_
                clear HK
                refine bt (f := 17) (i := 16) (v := ?vtysy16) rfl (Or.inl ⟨((wanted_at rfl rfl rfl rfl).trans rfl), ?hytysy16⟩) hStysy1 ?resttysy16
                case hytysy16 => intro W hW; go_simp; exact rfl
                simp only [zA, zB, zC, Act.put, zD, zE, zF]
                refine but_run (i := 17) (by kernel_rfl) rfl (by rfl) ?_
                simp only [zA, zB, zC]
                intro K HK
                go_wp2_with fail
                refine HK.out _ Vtysy1 (fun h => absurd rfl h) ?_
                clear HK
                refine but_done (by kernel_rfl) ?_
                go_wp2_with fail
                go_roundw
                case rel => exact ⟨k + 1, by omega, by go_num, Lib.hid (fit_step HI.out HF.out), HJ2, Lib.hid (bstep HW.out (bstep BV.out (bstep (Below.drew1 _) hStysy1)))⟩
                case measure => simp [intOf]; omega
    · have hall : decide (∀ i, i < l.length → fitG l i = true) = true := decide_eq_true (fun i hi => HI.out i (by omega))
      have hrise : riseG l = true := decide_eq_true (fun i hi => HJ.out i (by omega) (by omega))
      have hX : agesOkB l = decide (l.length ≤ 16) := by rw [agesOkB, hall, hrise]; simp
      have HX := Lib.hid hX
      clear hall hrise hX
      by_cases h16 : l.length ≤ 16
      · have d0 : decide ((l.length : Int) ≤ 16) = true := decide_eq_true (by omega)
        go_wp2
        go_ret
        exact ⟨ret_boolB (by rw [← HR.out, HX.out, decide_eq_true h16]), HW.out⟩
      · have d0 : decide ((l.length : Int) ≤ 16) = false := decide_eq_false (by omega)
        go_wp2
        go_ret
        exact ⟨ret_boolB (by rw [← HR.out, HX.out, decide_eq_false h16]), HW.out⟩
end Go.Proofs.YtlhemcjahcmdeaaGreatDoor
namespace Go.Proofs.YtlhemcjahcmdeaaGreatDoor
open Go.RowKit
set_option maxRecDepth 100000
set_option linter.unusedSimpArgs false
set_option linter.unusedVariables false

theorem run_itemsG (v f : Value) (w : World) : (Instr.field 276 (.agg #[v, f]) 0).run Tryz.prog w = .ok v w := by
  simp [Instr.field, run_underlying Tryz.underlying276, part, asAgg, go_sem, isAgg, run_underlying Tryz.underlying28]
theorem cloneG_any (v : Value) (l : List AgeD) (w : World) (hv : Reads w w.heap.size v (agesD l)) (hn : l.length ≤ 2097152) : Calls Tryz.prog 177 #[v] w (NewG w l) := by
  obtain ⟨A, c, rfl, _, _⟩ := hv.shapeG
  have hA := Reads.atG hv
  rcases A with _ | ad
  · have h0 : l = [] := by
      rcases hA with h | ⟨b, off, h, _⟩
      · have := congrArg List.length h
        rw [gvl_len] at this
        exact List.length_eq_zero_iff.1 (by simp at this; omega)
      · cases h
    subst h0
    have hq := run_eqnil (P := Tryz.prog) w 28 155 none 0 c Tryz.underlying28
    clear hA hv
    go_enter Tryz.func177, Tryz.ntmps177
    go_wp2
    go_ret
    exact ⟨_, rfl, row_nil _ _ _ _, Below.refl _ _⟩
  · have HA := Lib.hid (hA.on (bal1 w (.cells #[] 155)))
    have ho0 := RowG.lit w
    have HB := Lib.hid (bal1 w (.cells #[] 155))
    have HZ := Lib.hid HB.out.size
    have hq := run_eqnil (P := Tryz.prog) w 28 155 (some ad) l.length c Tryz.underlying28
    clear hA hv
    go_enter Tryz.func177, Tryz.ntmps177
    go_wp2_with (at_builtin; refine wpList_appG _ rfl (.tmp 5) (.tmp 6) rfl w.heap.size _ [] rfl ho0 (some ad) l.length c l rfl rfl HA.out (by simp; omega) HZ.out ?_; intro v1 w1 o1 b1; clear ho0)
    have B1 := Lib.hid (HB.out.trans b1)
    rw [List.nil_append] at o1
    go_ret
    exact ⟨v1, rfl, o1, B1.out⟩
/-- A call leaves a row of versions in memory of its own, and a bool. -/
def NewGB (w : World) (l : List AgeD) (b : Bool) (e : Ending) (w' : World) : Prop := ∃ v, e = .returned (.tuple #[v, .bool b]) ∧ RowG w' w.heap.size v l ∧ Below w.heap.size w w'
theorem newK_yes {l : List AgeD} {d f : Int} (h : newOk l d f = true) : newK l d f = insG l ⟨d, f⟩ := by rw [newK, h]; rfl
theorem newK_no {l : List AgeD} {d f : Int} (h : newOk l d f = false) : newK l d f = l := by rw [newK, h]; rfl
set_option maxHeartbeats 2000000 in
theorem implNewAge_any (v : Value) (l : List AgeD) (d f : Int) (w : World) (hv : Reads w w.heap.size v (agesD l)) (hn : l.length ≤ 2000000) : Calls Tryz.prog 188 #[v, .int .i64 d, .int .i64 f] w (NewGB w (newK l d f) (newOk l d f)) := by
  obtain ⟨A, c, rfl, _, _⟩ := hv.shapeG
  have HK := Lib.hid (ageSet_any A l.length c)
  have HP := Lib.hid (fun w => putG_any (.slice A l.length c) l ⟨d, f⟩ w)
  unfold lessVG at HK HP
  have HV := Lib.hid hv
  have HG := Lib.hid (ageAt_geq l d)
  have hfi := fun v w => run_itemsG v (.func (.func 314) #[] #[]) w
  clear hv
  cases hh : hasG l d
  · have HI := Lib.hid (putGL_ins (l := l) (x := ⟨d, f⟩) hh)
    have HH := Lib.hid hh
    rw [hh] at HG
    clear hh
    go_enter Tryz.func188, Tryz.ntmps188
    go_wp2_with fail
    refine (implAgeAt_any _ l d _ HV.out (by omega)).mono ?_
    rintro e w1 ⟨rfl, b1⟩
    generalize ageAtK l d = q at *
    have hq : decide (0 ≤ q) = false := HG.out
    go_wp2_with fail
    refine (HK.out _).mono ?_
    rintro e w2 ⟨rfl, b2⟩
    have B2 := Lib.hid (bstep b1 b2)
    clear b1 b2 hq
    go_wp2_with fail
    refine (HP.out _ (HV.out.on B2.out) (by omega)).mono ?_
    rintro e w3 ⟨v3, rfl, o3, b3⟩
    rw [HI.out] at o3
    have B3 := Lib.hid (bstep B2.out b3)
    have O3 := Lib.hid (o3.mono B2.out.size)
    obtain ⟨A3, c3, rfl, _, _⟩ := o3.shape
    clear b3 o3
    go_wp2_with fail
    refine (implAgesOk_any _ (insG l ⟨d, f⟩) _ O3.out.owns.reads (by rw [insG_len]; omega)).mono ?_
    rintro e w4 ⟨rfl, b4⟩
    have B4 := Lib.hid (bstep B3.out b4)
    have O4 := Lib.hid (O3.out.on b4)
    clear b4 O3
    cases hok : agesOkB (insG l ⟨d, f⟩)
    · have hno : newOk l d f = false := by rw [newOk, hok]; simp
      have HNO := Lib.hid hno
      clear hno hok
      go_wp2_with fail
      refine (cloneG_any _ l _ (HV.out.on B4.out) (by omega)).mono ?_
      rintro e w5 ⟨v5, rfl, o5, b5⟩
      go_wp2
      refine bodyPost_ret (v := .tuple #[v5, .bool false]) (by simp [results, Tryz.results188, go_sem]) rfl ?_
      rw [HNO.out, newK_no HNO.out]
      exact ⟨_, rfl, o5.mono B4.out.size, bstep B4.out b5⟩
    · have hyes : newOk l d f = true := by rw [newOk, hok, HH.out]; rfl
      have HYES := Lib.hid hyes
      clear hyes hok
      go_wp2
      refine bodyPost_ret (v := .tuple #[.slice A3 (insG l ⟨d, f⟩).length c3, .bool true]) (by simp [results, Tryz.results188, go_sem]) rfl ?_
      rw [HYES.out, newK_yes HYES.out]
      exact ⟨_, rfl, O4.out, B4.out⟩
  · have hno : newOk l d f = false := by rw [newOk, hh]; rfl
    have HNO := Lib.hid hno
    rw [hh] at HG
    clear hno hh
    go_enter Tryz.func188, Tryz.ntmps188
    go_wp2_with fail
    refine (implAgeAt_any _ l d _ HV.out (by omega)).mono ?_
    rintro e w1 ⟨rfl, b1⟩
    generalize ageAtK l d = q at *
    have hq : decide (0 ≤ q) = true := HG.out
    have B1 := Lib.hid b1
    clear b1
    go_wp2_with fail
    refine (cloneG_any _ l _ (HV.out.on B1.out) (by omega)).mono ?_
    rintro e w5 ⟨v5, rfl, o5, b5⟩
    go_wp2
    refine bodyPost_ret (v := .tuple #[v5, .bool false]) (by simp [results, Tryz.results188, go_sem]) rfl ?_
    rw [HNO.out, newK_no HNO.out]
    exact ⟨_, rfl, o5.mono B1.out.size, bstep B1.out b5⟩
/-- What is still to come when versions are copied one by one and x is laid in. -/
def goG (x : AgeD) (l : List AgeD) (dn : Bool) : List AgeD := if dn then l else insG l x
theorem insG_cons (y : AgeD) (t : List AgeD) (x : AgeD) : insG (y :: t) x = if y.a < x.a then y :: insG t x else x :: y :: t := by
  unfold insG plG
  rw [List.findIdx_cons]
  by_cases h : y.a < x.a
  · rw [decide_eq_true h, if_pos h]; rfl
  · rw [decide_eq_false h, if_neg h]; rfl
theorem goG_done {x : AgeD} {l m R : List AgeD} {k : Nat} (h : k < l.length) (hf : m ++ goG x (l.drop k) true = R) : (m ++ [l[k]]) ++ goG x (l.drop (k + 1)) true = R := by
  rw [goG, if_pos rfl, gdrop_at h] at hf
  rw [goG, if_pos rfl]
  simpa using hf
theorem goG_less {x : AgeD} {l m R : List AgeD} {k : Nat} (h : k < l.length) (hl : (l[k]).a < x.a) (hf : m ++ goG x (l.drop k) false = R) : (m ++ [l[k]]) ++ goG x (l.drop (k + 1)) false = R := by
  rw [goG, if_neg (by simp), gdrop_at h, insG_cons, if_pos hl] at hf
  rw [goG, if_neg (by simp)]
  simpa using hf
theorem goG_more {x : AgeD} {l m R : List AgeD} {k : Nat} (h : k < l.length) (hl : ¬ (l[k]).a < x.a) (hf : m ++ goG x (l.drop k) false = R) : ((m ++ [x]) ++ [l[k]]) ++ goG x (l.drop (k + 1)) true = R := by
  rw [goG, if_neg (by simp), gdrop_at h, insG_cons, if_neg hl] at hf
  rw [goG, if_pos rfl]
  simpa using hf
theorem has_ne {l : List AgeD} {d : Int} (h : hasG l d = false) {k : Nat} (hk : k < l.length) : (l[k]).a ≠ d := by
  have := no_has h l[k] (List.getElem_mem hk)
  simpa using this
set_option maxHeartbeats 4000000 in
theorem specNewAge_any (v : Value) (l : List AgeD) (d f : Int) (w : World) (hv : Reads w w.heap.size v (agesD l)) (hn : l.length ≤ 2000000) : Calls Tryz.prog 64 #[v, .int .i64 d, .int .i64 f] w (NewGB w (newK l d f) (newOk l d f)) := by
  obtain ⟨A, c, rfl, _, _⟩ := hv.shapeG
  have HV0 := Lib.hid hv
  have b0 := bal1 w (.cells #[] 155)
  have HV := Lib.hid (hv.on b0)
  have HO := Lib.hid (RowG.lit w)
  have HB := Lib.hid b0
  have HG := Lib.hid (ageAt_geq l d)
  obtain ⟨R, hR⟩ : ∃ R, goG ⟨d, f⟩ l (hasG l d) = R := ⟨_, rfl⟩
  have HR := Lib.hid hR
  obtain ⟨h, hh⟩ : ∃ h, hasG l d = h := ⟨_, rfl⟩
  have HH := Lib.hid hh
  rw [hh] at HG HR
  clear hv b0 hR hh
  go_enter Tryz.func64, Tryz.ntmps64
  go_upto_region 2 with (fail)
  generalize w.alloc (.cells #[] 155) = w0 at *
  go_wp2_with fail
  refine (specAgeAt_any _ l d _ HV.out (by omega)).mono ?_
  rintro e w1 ⟨rfl, rfl⟩
  obtain ⟨q, hq0⟩ : ∃ q, ageAtK l d = q := ⟨_, rfl⟩
  have HQ := Lib.hid hq0
  rw [hq0] at HG ⊢
  have hq : decide (0 ≤ q) = h := HG.out
  clear hq0
  go_wp2
  all_goals
    go_loopw [8, 9, 10] (fun o b i wr => ∃ (k : Nat) (m : List AgeD) (dn : Bool), k ≤ l.length ∧ i = .int .i64 k ∧ b = .bool dn ∧ Hid (dn = false → h = false) ∧ Hid (m.length ≤ k + 1 ∧ (dn = false → m.length ≤ k)) ∧ Hid (m ++ goG ⟨d, f⟩ (l.drop k) dn = R) ∧ Hid (GrowG w wr o m)) (fun _ _ i _ => l.length - (intOf i).toNat)
    case atStart => exact ⟨0, [], h, Nat.zero_le _, rfl, by simp_all, Lib.hid (fun e => e), Lib.hid ⟨by simp, fun _ => by simp⟩, Lib.hid HR.out, Lib.hid ⟨HO.out, HB.out⟩⟩
    case round =>
      obtain ⟨k, m, dn, hk, rfl, rfl, HD, HM, HI, HX⟩ := hrel
      obtain ⟨hrow, hb⟩ := HX.out
      obtain ⟨Ao, co, rfl, _, _⟩ := hrow.shape
      by_cases hlt : k < l.length
      · obtain ⟨b, off, rfl, hbb, hc⟩ := (HV0.out.on hb).ages hlt
        have i1 : (k : Int) < (l.length : Int) := by omega
        have i2 : (0 : Int) ≤ (k : Int) := by omega
        obtain ⟨c0, c1⟩ := hc k hlt
        have FK := Lib.hid (hc k hlt)
        clear hc
        cases dn
        · have hf0 := HD.out rfl
          by_cases hgt : d < (l[k]).a
          · have d1 : decide (d < (l[k]).a) = true := decide_eq_true hgt
            have HNL : Hid (¬ (l[k]).a < d) := Lib.hid (by omega)
            have HAt := Lib.hid (At.age wr ⟨d, f⟩ 155)
            have ba := bal1 wr (.cells #[.int .i64 d, .int .i64 f] 155)
            have HRow := Lib.hid (hrow.on ba)
            have HB2 := Lib.hid (hb.trans (ba.mono hb.size))
            have HZ := Lib.hid HB2.out.size
            clear hrow hb ba HX hgt hf0
            go_upto_region 8 with (at_builtin; refine wpList_appG _ rfl (.tmp 33) (.tmp 37) rfl w.heap.size _ m rfl HRow.out (some ⟨wr.heap.size, 0, none⟩) 1 1 [⟨d, f⟩] rfl rfl HAt.out (by have := HM.out.1; simp; omega) HZ.out ?_; intro v1 w2 o1 b1; clear HRow HAt)
            have hb2 := HB2.out.trans b1
            obtain ⟨m2, hm2⟩ : ∃ m2, m ++ [⟨d, f⟩] = m2 := ⟨_, rfl⟩
            rw [hm2] at o1
            have HM2 := Lib.hid hm2
            have HML : Hid (m2.length ≤ k + 2) := Lib.hid (by have := HM.out.1; rw [← hm2]; simp; omega)
            clear hm2
            obtain ⟨A1, e1, rfl, _, _⟩ := o1.shape
            obtain ⟨b', off', he, hbb', hc'⟩ := (HV0.out.on hb2).ages hlt
            cases he
            clear c0 c1 b1 HB2 HZ
            obtain ⟨c0, c1⟩ := hc' k hlt
            clear hc'
            have HAt := Lib.hid (At.age w2 l[k] 155)
            have ba := bal1 w2 (.cells #[.int .i64 (l[k]).a, .int .i64 (l[k]).b] 155)
            have HRow := Lib.hid (o1.on ba)
            have HB2 := Lib.hid (hb2.trans (ba.mono hb2.size))
            have HZ := Lib.hid HB2.out.size
            clear o1 hb2 ba
            go_wp2_with (at_builtin; refine wpList_appG _ rfl (.tmp 39) (.tmp 44) rfl w.heap.size _ m2 rfl HRow.out (some ⟨w2.heap.size, 0, none⟩) 1 1 [l[k]] rfl rfl HAt.out (by have := HML.out; simp; omega) HZ.out ?_; intro v3 w3 o3 b3; clear HRow HAt)
            have HX := Lib.hid (show GrowG w w3 v3 (m2 ++ [l[k]]) from ⟨o3, HB2.out.trans b3⟩)
            clear o3 b3
            go_roundw
            case rel => exact ⟨k + 1, m2 ++ [l[k]], true, by omega, by go_num, rfl, Lib.hid (fun e => by cases e), Lib.hid ⟨by have := HM.out.2 rfl; rw [← HM2.out]; simp; omega, fun e => by cases e⟩, Lib.hid (by rw [← HM2.out]; exact goG_more hlt HNL.out HI.out), HX⟩
            case measure => simp [intOf]; omega
          · have d1 : decide (d < (l[k]).a) = false := decide_eq_false hgt
            have hne := has_ne (HH.out.trans hf0) hlt
            have HLT : Hid ((l[k]).a < d) := Lib.hid (by omega)
            have HAt := Lib.hid (At.age wr l[k] 155)
            have ba := bal1 wr (.cells #[.int .i64 (l[k]).a, .int .i64 (l[k]).b] 155)
            have HRow := Lib.hid (hrow.on ba)
            have HB2 := Lib.hid (hb.trans (ba.mono hb.size))
            have HZ := Lib.hid HB2.out.size
            clear hrow hb ba HX hgt hf0 hne
            go_wp2_with (at_builtin; refine wpList_appG _ rfl (.tmp 39) (.tmp 44) rfl w.heap.size _ m rfl HRow.out (some ⟨wr.heap.size, 0, none⟩) 1 1 [l[k]] rfl rfl HAt.out (by have := HM.out.1; simp; omega) HZ.out ?_; intro v3 w3 o3 b3; clear HRow HAt)
            have HX := Lib.hid (show GrowG w w3 v3 (m ++ [l[k]]) from ⟨o3, HB2.out.trans b3⟩)
            clear o3 b3
            go_roundw
            case rel => exact ⟨k + 1, m ++ [l[k]], false, by omega, by go_num, rfl, HD, Lib.hid ⟨by have := HM.out.2 rfl; simp; omega, fun _ => by have := HM.out.2 rfl; simp; omega⟩, Lib.hid (goG_less hlt HLT.out HI.out), HX⟩
            case measure => simp [intOf]; omega
        · have HAt := Lib.hid (At.age wr l[k] 155)
          have ba := bal1 wr (.cells #[.int .i64 (l[k]).a, .int .i64 (l[k]).b] 155)
          have HRow := Lib.hid (hrow.on ba)
          have HB2 := Lib.hid (hb.trans (ba.mono hb.size))
          have HZ := Lib.hid HB2.out.size
          clear hrow hb ba HX
          go_wp2_with (at_builtin; refine wpList_appG _ rfl (.tmp 39) (.tmp 44) rfl w.heap.size _ m rfl HRow.out (some ⟨wr.heap.size, 0, none⟩) 1 1 [l[k]] rfl rfl HAt.out (by have := HM.out.1; simp; omega) HZ.out ?_; intro v3 w3 o3 b3; clear HRow HAt)
          have HX := Lib.hid (show GrowG w w3 v3 (m ++ [l[k]]) from ⟨o3, HB2.out.trans b3⟩)
          clear o3 b3
          go_roundw
          case rel => exact ⟨k + 1, m ++ [l[k]], true, by omega, by go_num, rfl, HD, Lib.hid ⟨by have := HM.out.1; simp; omega, fun e => by cases e⟩, Lib.hid (goG_done hlt HI.out), HX⟩
          case measure => simp [intOf]; omega
      · have hke : k = l.length := by omega
        have hfin := HI.out
        rw [hke, List.drop_length] at hfin
        have HFIN := Lib.hid hfin
        clear hfin hke
        cases dn
        · have HAt := Lib.hid (At.age wr ⟨d, f⟩ 155)
          have ba := bal1 wr (.cells #[.int .i64 d, .int .i64 f] 155)
          have HRow := Lib.hid (hrow.on ba)
          have HB2 := Lib.hid (hb.trans (ba.mono hb.size))
          have HZ := Lib.hid HB2.out.size
          clear hrow hb ba HX
          go_upto_region 12 with (at_builtin; refine wpList_appG _ rfl (.tmp 48) (.tmp 52) rfl w.heap.size _ m rfl HRow.out (some ⟨wr.heap.size, 0, none⟩) 1 1 [⟨d, f⟩] rfl rfl HAt.out (by have := HM.out.1; simp; omega) HZ.out ?_; intro v3 w3 o3 b3; clear HRow HAt)
          have hRe : m ++ [⟨d, f⟩] = R := by rw [← HFIN.out]; rfl
          rw [hRe] at o3
          have HX := Lib.hid (show GrowG w w3 v3 R from ⟨o3, HB2.out.trans b3⟩)
          obtain ⟨A3, c3, rfl, _, _⟩ := o3.shape
          clear o3 b3 HB2 HZ hRe
          have BX := Lib.hid HX.out.2
          have OX := Lib.hid HX.out.1
          have HVT := Lib.hid (HV0.out.on BX.out)
          clear HX
          go_upto_region 12 with (fail)
          go_wp2_with fail
          refine (specAgeAt_any _ l d _ HVT.out (by omega)).mono ?_
          rintro e wq ⟨rfl, hwq⟩
          subst hwq
          rw [HQ.out]
          cases h
          · have hq2 : decide (0 ≤ q) = false := hq
            have HRI : Hid (insG l ⟨d, f⟩ = R) := Lib.hid HR.out
            go_wp2_with fail
            refine (specAgesOk_any _ R _ OX.out.owns.reads (by rw [← HRI.out, insG_len]; omega)).mono ?_
            rintro e w4 ⟨rfl, b4⟩
            replace OX := Lib.hid (OX.out.on b4)
            replace BX := Lib.hid (bstep BX.out b4)
            clear b4
            cases hok : agesOkB R
            · have hno : newOk l d f = false := by rw [newOk, HRI.out, hok]; simp
              have HNO := Lib.hid hno
              clear hno hok hq2
              have HAt := Lib.hid ((HV0.out.on BX.out).atG.on (bal1 w4 (.cells #[] 155)))
              have HRow := Lib.hid (RowG.lit w4)
              have HB2 := Lib.hid (bal1 w4 (.cells #[] 155))
              have HZ := Lib.hid HB2.out.size
              go_wp2_with (at_builtin; refine wpList_appG _ rfl (.tmp 63) (.tmp 64) rfl w4.heap.size _ [] rfl HRow.out A l.length c l rfl rfl HAt.out (by simp; omega) HZ.out ?_; intro v7 w7 o7 b7; clear HRow HAt)
              rw [List.nil_append] at o7
              have B7 := Lib.hid (bstep BX.out (HB2.out.trans b7))
              refine bodyPost_ret (v := .tuple #[v7, .bool false]) (by simp [results, Tryz.results64, go_sem]) rfl ?_
              rw [HNO.out, newK_no HNO.out]
              exact ⟨_, rfl, o7.mono BX.out.size, B7.out⟩
            · have hyes : newOk l d f = true := by rw [newOk, HRI.out, hok, HH.out]; rfl
              have HYES := Lib.hid hyes
              clear hyes hok hq2
              go_wp2
              refine bodyPost_ret (v := .tuple #[.slice A3 R.length c3, .bool true]) (by simp [results, Tryz.results64, go_sem]) rfl ?_
              rw [HYES.out, newK_yes HYES.out, HRI.out]
              exact ⟨_, rfl, OX.out, BX.out⟩
          · have hq2 : decide (0 ≤ q) = true := hq
            have hno : newOk l d f = false := by rw [newOk, HH.out]; rfl
            have HNO := Lib.hid hno
            clear hno
            have HAt := Lib.hid ((HV0.out.on BX.out).atG.on (bal1 w3 (.cells #[] 155)))
            have HRow := Lib.hid (RowG.lit w3)
            have HB2 := Lib.hid (bal1 w3 (.cells #[] 155))
            have HZ := Lib.hid HB2.out.size
            go_wp2_with (at_builtin; refine wpList_appG _ rfl (.tmp 63) (.tmp 64) rfl w3.heap.size _ [] rfl HRow.out A l.length c l rfl rfl HAt.out (by simp; omega) HZ.out ?_; intro v7 w7 o7 b7; clear HRow HAt)
            rw [List.nil_append] at o7
            have B7 := Lib.hid (bstep BX.out (HB2.out.trans b7))
            refine bodyPost_ret (v := .tuple #[v7, .bool false]) (by simp [results, Tryz.results64, go_sem]) rfl ?_
            rw [HNO.out, newK_no HNO.out]
            exact ⟨_, rfl, o7.mono BX.out.size, B7.out⟩
        · have hRe : R = m := by rw [← HFIN.out, goG, if_pos rfl, List.append_nil]
          subst hRe
          clear hrow hb
          have BX := Lib.hid HX.out.2
          have OX := Lib.hid HX.out.1
          have HVT := Lib.hid (HV0.out.on BX.out)
          clear HX
          go_upto_region 12 with (fail)
          go_wp2_with fail
          refine (specAgeAt_any _ l d _ HVT.out (by omega)).mono ?_
          rintro e wq ⟨rfl, hwq⟩
          subst hwq
          rw [HQ.out]
          cases h
          · have hq2 : decide (0 ≤ q) = false := hq
            have HRI : Hid (insG l ⟨d, f⟩ = R) := Lib.hid HR.out
            go_wp2_with fail
            refine (specAgesOk_any _ R _ OX.out.owns.reads (by rw [← HRI.out, insG_len]; omega)).mono ?_
            rintro e w4 ⟨rfl, b4⟩
            replace OX := Lib.hid (OX.out.on b4)
            replace BX := Lib.hid (bstep BX.out b4)
            clear b4
            cases hok : agesOkB R
            · have hno : newOk l d f = false := by rw [newOk, HRI.out, hok]; simp
              have HNO := Lib.hid hno
              clear hno hok hq2
              have HAt := Lib.hid ((HV0.out.on BX.out).atG.on (bal1 w4 (.cells #[] 155)))
              have HRow := Lib.hid (RowG.lit w4)
              have HB2 := Lib.hid (bal1 w4 (.cells #[] 155))
              have HZ := Lib.hid HB2.out.size
              go_wp2_with (at_builtin; refine wpList_appG _ rfl (.tmp 63) (.tmp 64) rfl w4.heap.size _ [] rfl HRow.out A l.length c l rfl rfl HAt.out (by simp; omega) HZ.out ?_; intro v7 w7 o7 b7; clear HRow HAt)
              rw [List.nil_append] at o7
              have B7 := Lib.hid (bstep BX.out (HB2.out.trans b7))
              refine bodyPost_ret (v := .tuple #[v7, .bool false]) (by simp [results, Tryz.results64, go_sem]) rfl ?_
              rw [HNO.out, newK_no HNO.out]
              exact ⟨_, rfl, o7.mono BX.out.size, B7.out⟩
            · have hyes : newOk l d f = true := by rw [newOk, HRI.out, hok, HH.out]; rfl
              have HYES := Lib.hid hyes
              clear hyes hok hq2
              go_wp2
              refine bodyPost_ret (v := .tuple #[.slice Ao R.length co, .bool true]) (by simp [results, Tryz.results64, go_sem]) rfl ?_
              rw [HYES.out, newK_yes HYES.out, HRI.out]
              exact ⟨_, rfl, OX.out, BX.out⟩
          · have hq2 : decide (0 ≤ q) = true := hq
            have hno : newOk l d f = false := by rw [newOk, HH.out]; rfl
            have HNO := Lib.hid hno
            clear hno
            have HAt := Lib.hid ((HV0.out.on BX.out).atG.on (bal1 wr (.cells #[] 155)))
            have HRow := Lib.hid (RowG.lit wr)
            have HB2 := Lib.hid (bal1 wr (.cells #[] 155))
            have HZ := Lib.hid HB2.out.size
            go_wp2_with (at_builtin; refine wpList_appG _ rfl (.tmp 63) (.tmp 64) rfl wr.heap.size _ [] rfl HRow.out A l.length c l rfl rfl HAt.out (by simp; omega) HZ.out ?_; intro v7 w7 o7 b7; clear HRow HAt)
            rw [List.nil_append] at o7
            have B7 := Lib.hid (bstep BX.out (HB2.out.trans b7))
            refine bodyPost_ret (v := .tuple #[v7, .bool false]) (by simp [results, Tryz.results64, go_sem]) rfl ?_
            rw [HNO.out, newK_no HNO.out]
            exact ⟨_, rfl, o7.mono BX.out.size, B7.out⟩
end Go.Proofs.YtlhemcjahcmdeaaGreatDoor
namespace Go.Proofs.YtlhemcjahcmdeaaGreatDoor
open Go.RowKit
set_option maxRecDepth 100000
set_option linter.unusedSimpArgs false
set_option linter.unusedVariables false

abbrev POOLB (vl vn va vc vv : Value) (n : Int) : Obj := .cells #[vl, vn, va, vc, vv, .int .i64 n] 32 (0, 0)
theorem errV_ne {c : Int} (h : c ≠ 0) : errV c = .iface 137 (.agg #[.int .i64 c]) := if_neg h
theorem box_setP2 {w : World} {q : Nat} {a b c d e f u : Value} {t : TypeId} (h : w.heap[q]? = some (.cells #[a, b, c, d, e, f] t (0, 0))) : (w.setCell ⟨q, 2, none⟩ u).heap[q]? = some (.cells #[a, b, u, d, e, f] t (0, 0)) := box_set (i := 2) h
theorem box_setP4 {w : World} {q : Nat} {a b c d e f u : Value} {t : TypeId} (h : w.heap[q]? = some (.cells #[a, b, c, d, e, f] t (0, 0))) : (w.setCell ⟨q, 4, none⟩ u).heap[q]? = some (.cells #[a, b, c, d, u, f] t (0, 0)) := box_set (i := 4) h
theorem box_setP5 {w : World} {q : Nat} {a b c d e f u : Value} {t : TypeId} (h : w.heap[q]? = some (.cells #[a, b, c, d, e, f] t (0, 0))) : (w.setCell ⟨q, 5, none⟩ u).heap[q]? = some (.cells #[a, b, c, d, e, u] t (0, 0)) := box_set (i := 5) h
theorem ageD_no {d : PoolD} {f : Int} (h : newOk d.ag d.nx f = false) : ageD d f = (d, 6) := by unfold ageD; rw [h]; rfl
theorem ageD_yes {d : PoolD} {f : Int} (h : newOk d.ag d.nx f = true) : ageD d f = ({ d with ag := newK d.ag d.nx f, nx := d.nx + 1 }, 0) := by unfold ageD; rw [h]; rfl
/-- The version is made, or there is no room. -/
def NewVer (w : World) (q : Nat) (S : Nat → Prop) (t : TypeId) (vl vn vc vv : Value) (d : PoolD) (f : Int) (e : Ending) (w' : World) : Prop :=
  (newOk d.ag d.nx f = false ∧ e = .returned (.tuple #[.int .i64 0, errV 6]) ∧ Below w.heap.size w w') ∨
  (newOk d.ag d.nx f = true ∧ e = .returned (.tuple #[.int .i64 d.nx, .nilIface]) ∧ Only (fun b => b = q) w w' ∧ ∃ va, w'.heap[q]? = some (POOLB vl vn va vc vv (d.nx + 1)) ∧ PoolC t w' (fun b => S b ∨ w.heap.size ≤ b) vl vn va vc vv { d with ag := newK d.ag d.nx f, nx := d.nx + 1 })
set_option maxHeartbeats 1000000 in
theorem newVersion_any {t : TypeId} (vl vn va vc vv : Value) (d : PoolD) (f : Int) (q : Nat) (S : Nat → Prop) (w : World) (hq : w.heap[q]? = some (POOLB vl vn va vc vv d.nx)) (hC : PoolC t w S vl vn va vc vv d) (hS : ¬ S q) (hn : d.ag.length ≤ 2000000) (h0 : 0 ≤ d.nx) (h1 : d.nx ≤ 1000) :
    Calls Tryz.prog 127 #[.pointer (some ⟨q, 0, none⟩), .int .i64 f] w (NewVer w q S t vl vn vc vv d f) := by
  have hR := hC.reads
  obtain ⟨A0, c0, A1, c1, A2, c2, A3, c3, A4, c4, rfl, rfl, rfl, rfl, rfl⟩ := hR.shape
  have HN := Lib.hid (implNewAge_any (.slice A2 d.ag.length c2) d.ag d.nx f w hR.2.1 hn)
  have HQ := Lib.hid hq
  have HC := Lib.hid hC
  have hlt : q < w.heap.size := (Array.getElem?_eq_some_iff.1 hq).1
  obtain ⟨x0, x1, x2, x3, x4, x5, x6⟩ := boxP hq
  have hw : IntKind.i64.wrap (d.nx + 1) = d.nx + 1 := by rw [IntKind.wrap_i64]; omega
  clear hR hC hq
  go_enter Tryz.func127, Tryz.ntmps127
  go_wp2_with fail
  refine HN.out.mono ?_
  rintro r w1 ⟨v1, rfl, o1, b1⟩
  have B1 := Lib.hid b1
  have O1 := Lib.hid o1
  obtain ⟨A5, c5, rfl, _, _⟩ := o1.shape
  clear x0 x1 x2 x3 x4 x5 x6 o1 b1
  obtain ⟨x0, x1, x2, x3, x4, x5, x6⟩ := boxP (box_on HQ.out B1.out)
  cases hok : newOk d.ag d.nx f
  · go_wp2
    go_ret2
    exact .inl ⟨hok, rfl, B1.out⟩
  · go_wp2
    go_ret2
    refine .inr ⟨hok, rfl, ((Only.of_below B1.out (fun b => b = q)).setCell rfl _).setCell rfl _, _, box_setP5 (box_setP2 (box_on HQ.out B1.out)), ?_⟩
    have hS' : ¬ (S q ∨ w.heap.size ≤ q) := fun h => h.elim hS (fun h => by omega)
    exact (((HC.out.ages B1.out O1.out.owns).next (d.nx + 1)).setFar hS').setFar hS'
theorem nameOk_size {s : ByteArray} (h : nameOkB s = true) : s.size ≤ maxLen := by
  unfold nameOkB inB at h
  simp only [Bool.and_eq_true, decide_eq_true_eq] at h
  have : maxLen = 9223372036854775807 := by kernel_rfl
  omega
theorem mayB_pool {d : PoolD} {s : ByteArray} (h : mayB d s = true) : poolOkB d = true := by
  unfold mayB at h
  rw [Bool.and_eq_true] at h
  exact h.1
/-- What a valid pool's sizes are. -/
theorem pool_small {d : PoolD} (h : poolOkB d = true) : SmallP d ∧ d.ag.length ≤ 16 ∧ d.vo.length ≤ 6 ∧ d.ce.length ≤ 24 ∧ 1 ≤ d.nx ∧ d.nx ≤ 61 ∧ ascB d.vo = true ∧ (∀ k ∈ d.vo, k.a.size ≤ maxLen) ∧ treeOkB d.lo d.ts = true ∧ agesOkB d.ag = true ∧ celsOkB d.ce = true ∧ ∀ v ∈ d.vo, 1 ≤ v.c ∧ v.c ≤ 12 := by
  unfold poolOkB at h
  simp only [Bool.and_eq_true] at h
  obtain ⟨⟨⟨⟨⟨⟨h1, h2⟩, h3⟩, h4⟩, h5⟩, h6⟩, h7⟩ := h
  have g2 := h2
  have g3 := h3
  have g5 := h5
  unfold agesOkB at h2
  unfold celsOkB at h3
  unfold nextB at h4
  unfold volsB at h5
  simp only [Bool.and_eq_true, decide_eq_true_eq] at h2 h3 h4 h5
  have ht := of_decide_eq_true h1
  have hs : sumT d.ts ≤ d.ts.length * 11 := by
    have hf := ht.2.2.2.2.2.1
    have key : ∀ (l : List NodeD), (∀ x ∈ l, x.length + sumN x ≤ 11) → sumT l ≤ l.length * 11 := by
      intro l
      induction l with
      | nil => intro _; exact Nat.le_refl _
      | cons x l ih =>
        intro h
        have h1 := h x List.mem_cons_self
        have h2 := ih (fun y hy => h y (List.mem_cons_of_mem _ hy))
        rw [sumT_cons, List.length_cons]
        omega
    refine key d.ts (fun x hx => ?_)
    obtain ⟨i, hi, rfl⟩ := List.mem_iff_getElem.1 hx
    have h8 := hf i hi
    rw [getD_node hi] at h8
    have h9 := (of_decide_eq_true h8).1
    unfold nodeOkB at h9
    simp only [Bool.and_eq_true, decide_eq_true_eq] at h9
    omega
  refine ⟨⟨?_, by omega, by omega, by omega⟩, h2.2, h5.1.1, Nat.le_of_eq h3.2, h4.1.1, h4.1.2, h5.1.2, ?_, h1, g2, g3, ?_⟩
  · have h10 := ht.2.1
    have h11 := ht.2.2.1
    omega
  · intro k hk
    have := List.all_eq_true.1 h5.2 k hk
    unfold okV at this
    simp only [Bool.and_eq_true] at this
    exact nameOk_size this.1.1
  · intro k hk
    have := List.all_eq_true.1 h5.2 k hk
    unfold okV sizeB at this
    simp only [Bool.and_eq_true, decide_eq_true_eq] at this
    exact this.1.2
theorem did_err {w w' : World} {q : Nat} {S : Nat → Prop} {d : PoolD} {c : Int} (hc : c ≠ 0) (b : Below w.heap.size w w') : DidP w q S (d, c) (.returned (errV c)) w' := ⟨rfl, Only.of_below b _, fun h => absurd h hc⟩
theorem did_errO {w w' : World} {q : Nat} {S : Nat → Prop} {d : PoolD} {c : Int} (hc : c ≠ 0) (b : Only (fun b => b = q ∨ S b) w w') : DidP w q S (d, c) (.returned (errV c)) w' := ⟨rfl, b, fun h => absurd h hc⟩
theorem did_ok {t : TypeId} {w w' : World} {q : Nat} {S : Nat → Prop} {d : PoolD} {vl vn va vc vv : Value} (b : Only (fun b => b = q ∨ S b) w w') (hq : w'.heap[q]? = some (POOLB vl vn va vc vv d.nx)) (hC : PoolC t w' (fun b => S b ∨ w.heap.size ≤ b) vl vn va vc vv d) : DidP w q S (d, 0) (.returned .nilIface) w' := ⟨rfl, b, fun _ => ⟨t, vl, vn, va, vc, vv, hq, hC⟩⟩
theorem run_itemsV (v f : Value) (w : World) : (Instr.field 160 (.agg #[v, f]) 0).run Tryz.prog w = .ok v w := by
  simp [Instr.field, run_underlying Tryz.underlying160, part, asAgg, go_sem, isAgg, run_underlying Tryz.underlying30]
set_option maxHeartbeats 2000000 in
theorem create_any {t : TypeId} (vl vn va vc vv : Value) (d : PoolD) (s : ByteArray) (n : Int) (q : Nat) (S : Nat → Prop) (w : World) (hq : w.heap[q]? = some (POOLB vl vn va vc vv d.nx)) (hC : PoolC t w S vl vn va vc vv d) (hS : ¬ S q) (hp : poolOkB d = true) :
    Calls Tryz.prog 59 #[.pointer (some ⟨q, 0, none⟩), .string s, .int .i64 n] w (DidP w q S (createD s n d)) := by
  obtain ⟨hs, ha, hvo, _, h0, h1, hasc, _⟩ := pool_small hp
  have hR := hC.reads
  obtain ⟨A0, c0, A1, c1, A2, c2, A3, c3, A4, c4, rfl, rfl, rfl, rfl, rfl⟩ := hR.shape
  have HVA := Lib.hid (implVolAt_any _ _ _ _ _ d s w hR (by omega))
  have HSZ := Lib.hid (sizeOk_any n)
  have HVS := Lib.hid volSet_any
  have HPV := Lib.hid (fun (W : World) (h : Reads W W.heap.size (.slice A4 d.vo.length c4) (volsD d.vo)) (x : VolD) => putV_any (.slice A4 d.vo.length c4) d.vo x W h (by omega))
  unfold lessVV at HVS HPV
  have HNV := Lib.hid (fun (W : World) (hq : W.heap[q]? = some (POOLB (.slice A0 d.lo.length c0) (.slice A1 d.ts.length c1) (.slice A2 d.ag.length c2) (.slice A3 d.ce.length c3) (.slice A4 d.vo.length c4) d.nx)) (hC : PoolC t W S (.slice A0 d.lo.length c0) (.slice A1 d.ts.length c1) (.slice A2 d.ag.length c2) (.slice A3 d.ce.length c3) (.slice A4 d.vo.length c4) d) => newVersion_any _ _ _ _ _ d 0 q S W hq hC hS (by omega) (by omega) (by omega))
  have HQ := Lib.hid hq
  have HC := Lib.hid hC
  have HS := Lib.hid hS
  have hlt : q < w.heap.size := (Array.getElem?_eq_some_iff.1 hq).1
  obtain ⟨x0, x1, x2, x3, x4, x5, x6⟩ := boxP hq
  obtain ⟨K, hK⟩ : ∃ K, volK s d.vo = K := ⟨_, rfl⟩
  rw [hK] at HVA
  clear hR hC hq hs ha hvo h0 h1 hS hp
  by_cases hk : 0 ≤ K
  · have d1 : decide (K ≥ 0) = true := decide_eq_true hk
    rw [show createD s n d = (d, 3) by unfold createD; rw [hK, if_pos hk]]
    clear hK hk HNV HPV HVS HSZ HC HQ HS hasc
    go_enter Tryz.func59, Tryz.ntmps59
    go_wp2_with fail
    refine HVA.out.mono ?_
    rintro r w1 ⟨rfl, b1⟩
    have B1 := Lib.hid b1
    clear x0 x1 x2 x3 x4 x5 x6 b1
    go_wp2
    go_ret
    exact did_err (by decide) B1.out
  · have d1 : decide (K ≥ 0) = false := decide_eq_false hk
    have hno := mem_noname (s := s) (l := d.vo) (by omega)
    cases hz : sizeB n
    · rw [show createD s n d = (d, 4) by unfold createD; rw [hK, if_neg hk, hz]; rfl]
      rw [hz] at HSZ
      clear hK hk HNV HPV HVS HC HQ HS hasc hno hz
      go_enter Tryz.func59, Tryz.ntmps59
      go_wp2_with fail
      refine HVA.out.mono ?_
      rintro r w1 ⟨rfl, b1⟩
      have B1 := Lib.hid b1
      clear x0 x1 x2 x3 x4 x5 x6 b1
      go_wp2_with fail
      refine (HSZ.out _).mono ?_
      rintro r _ ⟨rfl, rfl⟩
      go_wp2
      go_ret
      exact did_err (by decide) B1.out
    · rw [hz] at HSZ
      have HD : Hid (createD s n d = if (ageD d 0).2 = 0 then ({ (ageD d 0).1 with vo := putV d.vo ⟨s, d.nx, n, false⟩ }, 0) else (d, 6)) := Lib.hid (by unfold createD; rw [hK, if_neg hk, hz]; rfl)
      have HPI : Hid (putVL d.vo ⟨s, d.nx, n, false⟩ = putV d.vo ⟨s, d.nx, n, false⟩) := Lib.hid (putVL_ins hno)
      clear hK hk hz hno hasc
      go_enter Tryz.func59, Tryz.ntmps59
      go_wp2_with fail
      refine HVA.out.mono ?_
      rintro r w1 ⟨rfl, b1⟩
      have B1 := Lib.hid b1
      clear x0 x1 x2 x3 x4 x5 x6 b1 HVA
      go_wp2_with fail
      refine (HSZ.out _).mono ?_
      rintro r _ ⟨rfl, rfl⟩
      go_wp2_with fail
      refine (HNV.out _ (box_on HQ.out B1.out) (HC.out.on B1.out)).mono ?_
      rintro r w2 (⟨hno, rfl, b2⟩ | ⟨hok, rfl, o2, va, q2, C2⟩)
      · have B2 := Lib.hid (bstep B1.out b2)
        have hD := HD.out
        rw [ageD_no hno] at hD
        have HDD := Lib.hid hD
        clear b2 hno hD HD HNV HPV HVS HC HQ HSZ
        rw [errV_ne (by decide)]
        go_wp2
        go_ret
        rw [HDD.out]
        exact did_err (c := 6) (by decide) B2.out
      · have hD := HD.out
        rw [ageD_yes hok] at hD
        have HDD := Lib.hid hD
        have O2 := Lib.hid o2
        have Q2 := Lib.hid q2
        have hz1 := B1.out.size
        have hz2 := o2.size
        have C2 := Lib.hid C2.lt
        have hR2 := C2.out.reads
        obtain ⟨A6, c6, e6, _, _⟩ := (show Reads w2 w2.heap.size va (agesD (newK d.ag d.nx 0)) from hR2.2.1).shapeG
        subst e6
        obtain ⟨x0, x1, x2, x3, x4, x5, x6⟩ := boxP q2
        clear o2 q2 hok hD HD HNV HC HQ HSZ hR2
        go_wp2_with fail
        refine (HVS.out _ _ _ _).mono ?_
        rintro r w3 ⟨rfl, b3⟩
        have B3 := Lib.hid b3
        clear x0 x1 x2 x3 x4 x5 x6 b3
        go_wp2_with fail
        refine (HPV.out w3 (C2.out.on B3.out).reads.2.2.2 ⟨s, d.nx, n, false⟩).mono ?_
        rintro r w4 ⟨v4, rfl, o4, b4⟩
        rw [HPI.out] at o4
        obtain ⟨A7, c7, rfl, _, _⟩ := o4.shape
        have hz3 := B3.out.size
        have hz4 := b4.size
        have B4 := Lib.hid b4
        have O4 := Lib.hid o4
        have B34 := Lib.hid (bstep B3.out b4)
        clear o4 b4
        obtain ⟨x0, x1, x2, x3, x4, x5, x6⟩ := boxP (box_on Q2.out B34.out)
        have hit := run_itemsV
        go_wp2
        go_ret
        have hO : Only (fun b => b = q ∨ S b) w w2 := (Only.of_below B1.out _).trans (O2.out.mono (fun b hb => .inl hb))
        rw [HDD.out]
        refine did_ok (t := t) ((hO.trans (Only.of_below B34.out _)).setCell (.inl rfl) _) (box_setP4 (box_on Q2.out B34.out)) ?_
        have hS' : ¬ (((S q ∨ w1.heap.size ≤ q) ∧ q < w2.heap.size) ∨ w3.heap.size ≤ q) := by
          rintro (⟨h | h, _⟩ | h)
          · exact HS.out h
          · omega
          · omega
        exact ((((C2.out.on B3.out).vols B4.out O4.out.owns)).setFar hS').mono (fun b hb => by
          rcases hb with ⟨h | h, _⟩ | h
          · exact .inl h
          · exact .inr (by omega)
          · exact .inr (by omega))
end Go.Proofs.YtlhemcjahcmdeaaGreatDoor
namespace Go.Proofs.YtlhemcjahcmdeaaGreatDoor
open Go.RowKit
set_option maxRecDepth 100000
set_option linter.unusedSimpArgs false
set_option linter.unusedVariables false

set_option maxHeartbeats 1000000 in
theorem ownVersion_any {t : TypeId} (vl vn va vc vv : Value) (d : PoolD) (id : Int) (w : World) (h : RdP t w w.heap.size vl vn va vc vv d) (hs : SmallP d) : Calls Tryz.prog 286 #[.agg #[vl, vn, va, vc, vv, .int .i64 d.nx], .int .i64 id] w (SaysBool w (ownB d id)) := by
  have hn : d.vo.length ≤ 2097152 := by have := hs.2.2.2; omega
  have hg : d.ag.length ≤ 2097152 := by have := hs.2.1; omega
  have HU := Lib.hid (fun W b => implVolsWith_any vl vn va vc vv d id W (h.on b) hn)
  obtain ⟨A0, c0, A1, c1, A2, c2, A3, c3, A4, c4, rfl, rfl, rfl, rfl, rfl⟩ := h.shape
  have HA := Lib.hid (fun W b => implAgeAt_any (.slice A2 d.ag.length c2) d.ag id W (h.2.1.on b) hg)
  have HK := Lib.hid (fun W b => implKidsOf_any (.slice A2 d.ag.length c2) d.ag id W (h.2.1.on b) hg)
  have HB := Lib.hid (bal1 w (.cells #[.slice A0 d.lo.length c0, .slice A1 d.ts.length c1, .slice A2 d.ag.length c2, .slice A3 d.ce.length c3, .slice A4 d.vo.length c4, .int .i64 d.nx] 32))
  have Q0 := Lib.hid (al1 w (.cells #[.slice A0 d.lo.length c0, .slice A1 d.ts.length c1, .slice A2 d.ag.length c2, .slice A3 d.ce.length c3, .slice A4 d.vo.length c4, .int .i64 d.nx] 32))
  obtain ⟨R, hR⟩ : ∃ R, ownB d id = R := ⟨_, rfl⟩
  rw [hR]
  have hx := hR.symm
  unfold ownB kidlessB at hx
  have HX := Lib.hid hx
  clear h hs hR hx hn hg
  go_enter Tryz.func286, Tryz.ntmps286
  go_upto_region 1 with (fail)
  generalize w.alloc (.cells #[.slice A0 d.lo.length c0, .slice A1 d.ts.length c1, .slice A2 d.ag.length c2, .slice A3 d.ce.length c3, .slice A4 d.vo.length c4, .int .i64 d.nx] 32) = W at *
  obtain ⟨x0, x1, x2, x3, x4, x5, x6⟩ := boxP Q0.out
  go_wp2_with fail
  refine (HA.out _ HB.out).mono ?_
  rintro e w1 ⟨rfl, b1⟩
  replace Q0 := Lib.hid (box_on Q0.out b1)
  replace HB := Lib.hid (bstep HB.out b1)
  clear x0 x1 x2 x3 x4 x5 x6 b1
  obtain ⟨x0, x1, x2, x3, x4, x5, x6⟩ := boxP Q0.out
  have hdec : decide ((ageAtK d.ag id : Int) ≥ 0) = decide (0 ≤ ageAtK d.ag id) := rfl
  cases h1 : decide (0 ≤ ageAtK d.ag id)
  · have HX2 : Hid (R = false) := Lib.hid (by rw [HX.out, h1]; rfl)
    have h2 : ¬ 0 ≤ ageAtK d.ag id := of_decide_eq_false h1
    clear hdec
    go_wp2
    go_ret
    exact ⟨by rw [HX2.out]; rfl, HB.out⟩
  · have h2 : 0 ≤ ageAtK d.ag id := of_decide_eq_true h1
    have HX2 := Lib.hid (HX.out.trans (by rw [h1, Bool.true_and]))
    clear hdec h1 HX
    go_wp2_with fail
    refine (HK.out _ HB.out).mono ?_
    rintro e w2 ⟨vk, rfl, ok, b1⟩
    obtain ⟨A5, c5, rfl, _, _⟩ := ok.owns.reads.lenN
    replace Q0 := Lib.hid (box_on Q0.out b1)
    replace HB := Lib.hid (bstep HB.out b1)
    clear x0 x1 x2 x3 x4 x5 x6 b1 ok
    obtain ⟨x0, x1, x2, x3, x4, x5, x6⟩ := boxP Q0.out
    generalize (kidsK d.ag id).length = m at *
    cases h3 : ((m : Int) == 0)
    · have HX3 : Hid (R = false) := Lib.hid (by rw [HX2.out, decide_eq_false (p := m = 0) (fun e => by rw [e] at h3; simp at h3)]; rfl)
      go_wp2
      go_ret
      exact ⟨by rw [HX3.out]; rfl, HB.out⟩
    · have HX3 : Hid (R = decide (usesK id d.vo = 1)) := Lib.hid (by rw [HX2.out, decide_eq_true (p := m = 0) (by simpa using h3), Bool.true_and])
      clear HX2
      go_wp2_with fail
      refine (HU.out _ HB.out).mono ?_
      rintro e w3 ⟨rfl, b1⟩
      replace HB := Lib.hid (bstep HB.out b1)
      clear x0 x1 x2 x3 x4 x5 x6 b1
      generalize usesK id d.vo = q at *
      cases h4 : ((q : Int) == 1)
      · have HX4 : Hid (R = false) := Lib.hid (by rw [HX3.out]; exact decide_eq_false (fun e => by rw [e] at h4; simp at h4))
        go_wp2
        go_ret
        exact ⟨by rw [HX4.out]; rfl, HB.out⟩
      · have HX4 : Hid (R = true) := Lib.hid (by rw [HX3.out]; exact decide_eq_true (by simp at h4; omega))
        go_wp2
        go_ret
        exact ⟨by rw [HX4.out]; rfl, HB.out⟩
set_option maxHeartbeats 2000000 in
theorem volsOk_any {t : TypeId} (vl vn va vc vv : Value) (d : PoolD) (w : World) (h : RdP t w w.heap.size vl vn va vc vv d) (hs : SmallP d) (hnm : ∀ k ∈ d.vo, k.a.size ≤ maxLen) : Calls Tryz.prog 224 #[.agg #[vl, vn, va, vc, vv, .int .i64 d.nx]] w (SaysBool w (volsB d)) := by
  have hn : d.vo.length ≤ 2097152 := by have := hs.2.2.2; omega
  have HO := Lib.hid (fun W b id => ownVersion_any vl vn va vc vv d id W (h.on b) hs)
  obtain ⟨A0, c0, A1, c1, A2, c2, A3, c3, A4, c4, rfl, rfl, rfl, rfl, rfl⟩ := h.shape
  have HA := Lib.hid (fun W b => ascendingV_any (.slice A4 d.vo.length c4) d.vo W (h.2.2.2.on b) hn)
  have HS := Lib.hid (volSet_any A4 d.vo.length c4)
  have HV := Lib.hid h.2.2.2
  have HN := Lib.hid (fun (v : VolD) (hv : v ∈ d.vo) W => implNameOk_any v.a W (hnm v hv))
  have HB := Lib.hid (bal1 w (.cells #[.slice A0 d.lo.length c0, .slice A1 d.ts.length c1, .slice A2 d.ag.length c2, .slice A3 d.ce.length c3, .slice A4 d.vo.length c4, .int .i64 d.nx] 32))
  have Q0 := Lib.hid (al1 w (.cells #[.slice A0 d.lo.length c0, .slice A1 d.ts.length c1, .slice A2 d.ag.length c2, .slice A3 d.ce.length c3, .slice A4 d.vo.length c4, .int .i64 d.nx] 32))
  unfold lessVV at HA HS
  obtain ⟨R, hR⟩ : ∃ R, volsB d = R := ⟨_, rfl⟩
  rw [hR]
  have HX := Lib.hid hR
  clear h hs hR hn hnm
  go_enter Tryz.func224, Tryz.ntmps224
  go_upto_region 1 with (fail)
  generalize w.alloc (.cells #[.slice A0 d.lo.length c0, .slice A1 d.ts.length c1, .slice A2 d.ag.length c2, .slice A3 d.ce.length c3, .slice A4 d.vo.length c4, .int .i64 d.nx] 32) = W at *
  obtain ⟨x0, x1, x2, x3, x4, x5, x6⟩ := boxP Q0.out
  by_cases h6 : d.vo.length ≤ 6
  · have e6 : decide ((d.vo.length : Int) > 6) = false := decide_eq_false (by omega)
    go_wp2_with fail
    refine (HS.out _).mono ?_
    rintro e w1 ⟨rfl, b1⟩
    replace Q0 := Lib.hid (box_on Q0.out b1)
    replace HB := Lib.hid (bstep HB.out b1)
    clear x0 x1 x2 x3 x4 x5 x6 b1
    obtain ⟨x0, x1, x2, x3, x4, x5, x6⟩ := boxP Q0.out
    go_wp2_with fail
    refine (HA.out _ HB.out).mono ?_
    rintro e w2 ⟨rfl, b1⟩
    replace Q0 := Lib.hid (box_on Q0.out b1)
    replace HB := Lib.hid (bstep HB.out b1)
    clear x0 x1 x2 x3 x4 x5 x6 b1
    obtain ⟨x0, x1, x2, x3, x4, x5, x6⟩ := boxP Q0.out
    cases ha : ascB d.vo
    · have HX2 : Hid (R = false) := Lib.hid (by rw [← HX.out]; unfold volsB; rw [ha, Bool.and_false]; rfl)
      go_wp2
      go_ret
      exact ⟨by rw [HX2.out]; rfl, HB.out⟩
    · have HX2 : Hid (R = d.vo.all (okV d)) := Lib.hid (by rw [← HX.out]; unfold volsB; rw [ha, decide_eq_true h6]; rfl)
      clear x0 x1 x2 x3 x4 x5 x6 ha
      obtain ⟨x0, x1, x2, x3, x4, x5, x6⟩ := boxP Q0.out
      go_wp2
      go_loopw [4, 19] (fun _ i wr => ∃ k : Nat, k ≤ d.vo.length ∧ i = .int .i64 k ∧ Hid (∀ j (hj : j < k) (hl : j < d.vo.length), okV d d.vo[j] = true) ∧ Hid (Below w.heap.size w wr) ∧ Hid (wr.heap[w.heap.size]? = some (.cells #[.slice A0 d.lo.length c0, .slice A1 d.ts.length c1, .slice A2 d.ag.length c2, .slice A3 d.ce.length c3, .slice A4 d.vo.length c4, .int .i64 d.nx] 32))) (fun _ i _ => d.vo.length - (intOf i).toNat)
      case atStart => exact ⟨0, Nat.zero_le _, rfl, Lib.hid (fun j hj => by omega), HB, Q0⟩
      case round =>
        clear x0 x1 x2 x3 x4 x5 x6 Q0 HB
        obtain ⟨k, hk, rfl, HI, HB, Q0⟩ := hrel
        by_cases hlt : k < d.vo.length
        · obtain ⟨b, off, rfl, hbb, hc⟩ := (HV.out.on HB.out).vols hlt
          have i1 : (k : Int) < (d.vo.length : Int) := by omega
          have i2 : (0 : Int) ≤ (k : Int) := by omega
          obtain ⟨y0, y1, y2, y3⟩ := hc k hlt
          have HM := Lib.hid (HN.out _ (List.getElem_mem hlt))
          have HBV := Lib.hid (okV_miss hlt)
          have HST := Lib.hid (okV_step hlt HI.out)
          clear hc
          obtain ⟨v, hv⟩ : ∃ v, v = d.vo[k] := ⟨_, rfl⟩
          rw [← hv] at y0 y1 y2 y3 HM HBV HST
          have b1 := bal1 wr (.cells #[.string v.a, .int .i64 v.b, .int .i64 v.c, .bool v.d] 41)
          have QV := Lib.hid (al1 wr (.cells #[.string v.a, .int .i64 v.b, .int .i64 v.c, .bool v.d] 41))
          replace Q0 := Lib.hid (box_on Q0.out b1)
          have HB2 := Lib.hid (bstep HB.out b1)
          clear b1 hv
          go_upto_region 6 with (fail)
          clear y0 y1 y2 y3
          generalize wr.alloc (.cells #[.string v.a, .int .i64 v.b, .int .i64 v.c, .bool v.d] 41) = wv at *
          obtain ⟨x0, x1, x2, x3, x4, x5, x6⟩ := boxP Q0.out
          obtain ⟨z0, z1, z2, z3, z4⟩ := box4 QV.out
          go_wp2_with fail
          refine (HM.out _).mono ?_
          rintro e _ ⟨rfl, rfl⟩
          cases hname : nameOkB v.a
          · have HF : Hid (R = false) := Lib.hid (by rw [← HX.out]; exact HBV.out (by unfold okV; rw [hname]; rfl))
            go_wp2
            go_ret
            exact ⟨by rw [HF.out]; rfl, HB2.out⟩
          · go_wp2_with fail
            refine (sizeOk_any v.c _).mono ?_
            rintro e _ ⟨rfl, rfl⟩
            cases hsz : sizeB v.c
            · have HF : Hid (R = false) := Lib.hid (by rw [← HX.out]; exact HBV.out (by unfold okV; rw [hsz, Bool.and_false]; rfl))
              go_wp2
              go_ret
              exact ⟨by rw [HF.out]; rfl, HB2.out⟩
            · have HOV : Hid (okV d v = ownB d v.b) := Lib.hid (by unfold okV; rw [hname, hsz]; rfl)
              go_wp2_with fail
              refine (HO.out _ HB2.out v.b).mono ?_
              rintro e w5 ⟨rfl, b1⟩
              replace Q0 := Lib.hid (box_on Q0.out b1)
              have HB3 := Lib.hid (bstep HB2.out b1)
              clear x0 x1 x2 x3 x4 x5 x6 z0 z1 z2 z3 z4 b1
              cases hown : ownB d v.b
              · have HF : Hid (R = false) := Lib.hid (by rw [← HX.out]; exact HBV.out (by rw [HOV.out, hown]))
                go_wp2
                go_ret
                exact ⟨by rw [HF.out]; rfl, HB3.out⟩
              · have HF := Lib.hid (HST.out (by rw [HOV.out, hown]))
                go_wp2
                go_roundw
                case rel => exact ⟨k + 1, by omega, by go_num, HF, HB3, Q0⟩
                case measure => simp [intOf]; omega
        · have HF : Hid (R = true) := Lib.hid (by rw [HX2.out]; exact okV_all (fun j hl => HI.out j (by omega) hl))
          go_wp2
          go_ret
          exact ⟨by rw [HF.out]; rfl, HB.out⟩
  · have e6 : decide ((d.vo.length : Int) > 6) = true := decide_eq_true (by omega)
    have HX2 : Hid (R = false) := Lib.hid (by rw [← HX.out]; unfold volsB; rw [decide_eq_false h6]; rfl)
    go_wp2
    go_ret
    exact ⟨by rw [HX2.out]; rfl, HB.out⟩
end Go.Proofs.YtlhemcjahcmdeaaGreatDoor
namespace Go.Proofs.YtlhemcjahcmdeaaGreatDoor
open Go.RowKit
set_option maxRecDepth 100000
set_option linter.unusedSimpArgs false
set_option linter.unusedVariables false

def layA : Array Value → Nat → List Value → Array Value
  | a, _, [] => a
  | a, o, v :: r => layA (a.setIfInBounds o v) (o + 1) r
theorem layA_size (vs : List Value) : ∀ (a : Array Value) (o : Nat), (layA a o vs).size = a.size := by
  induction vs with
  | nil => intro a o; rfl
  | cons v r ih => intro a o; rw [layA, ih]; simp
theorem layA_list (vs : List Value) : ∀ (a : Array Value) (o : Nat), o + vs.length ≤ a.size → (layA a o vs).toList = a.toList.take o ++ (vs ++ a.toList.drop (o + vs.length)) := by
  induction vs with
  | nil => intro a o h; simp [layA]
  | cons v r ih =>
    intro a o h
    simp only [List.length_cons] at h
    rw [layA, ih _ _ (by simp; omega), Array.toList_setIfInBounds, List.take_succ_eq_append_getElem (by simp; omega), List.take_set_of_le (Nat.le_refl _), List.getElem_set_self, List.drop_set_of_lt (by omega)]
    simp only [List.length_cons, List.append_assoc, List.singleton_append, List.cons_append, List.nil_append]
    rw [show o + 1 + r.length = o + (r.length + 1) by omega]
theorem heap_lay (g : Nat) (t : TypeId) (vs : List Value) : ∀ (w : World) (a : Array Value) (o : Nat), w.heap[g]? = some (.cells a t (0, 0)) → (w.setCells g o vs).heap[g]? = some (.cells (layA a o vs) t (0, 0)) := by
  induction vs with
  | nil => intro w a o h; exact h
  | cons v r ih => intro w a o h; exact ih _ _ _ (heap_setCell_same w g o a _ _ h)
theorem below_lay {B g : Nat} (hg : B ≤ g) (vs : List Value) : ∀ (a w : World) (o : Nat), Below B a w → Below B a (w.setCells g o vs) := by
  induction vs with
  | nil => intro a w o h; exact h
  | cons v r ih => intro a w o h; exact ih _ _ _ (h.setCell (p := ⟨g, o, none⟩) hg _)
end Go.Proofs.YtlhemcjahcmdeaaGreatDoor
namespace Go.Proofs.YtlhemcjahcmdeaaGreatDoor
open Go.RowKit
set_option maxRecDepth 100000
set_option linter.unusedSimpArgs false
set_option linter.unusedVariables false

/-- The first i hold what was kept of the first j of l; from j on nothing has turned. -/
structure DelIn (q : KeyD → Bool) (l m : List KeyD) (i j : Nat) : Prop where
  len : m.length = l.length
  jl : j ≤ l.length
  ij : i < j
  kept : m.take i = (l.take j).filter q
  rest : m.drop j = l.drop j
theorem all_kept {q : KeyD → Bool} {l : List KeyD} (h : ∀ j (hj : j < l.length), q l[j] = true) : l.filter q = l := by
  rw [List.filter_eq_self]
  intro x hx
  obtain ⟨j, hj, rfl⟩ := List.mem_iff_getElem.1 hx
  exact h j hj
theorem DelIn.start {q : KeyD → Bool} {l : List KeyD} {n : Nat} (hn : n < l.length) (h1 : q l[n] = false) (h2 : ∀ j (hj : j < n), q (l[j]'(by omega)) = true) : DelIn q l l n (n + 1) := by
  refine ⟨rfl, hn, Nat.lt_succ_self _, ?_, rfl⟩
  rw [List.take_succ_eq_append_getElem hn, List.filter_append]
  have e : (l.take n).filter q = l.take n := all_kept (fun j hj => by
    rw [List.getElem_take]
    rw [List.length_take] at hj
    exact h2 j (by omega))
  rw [e]
  simp [h1]
theorem DelIn.at {q : KeyD → Bool} {l m : List KeyD} {i j : Nat} (h : DelIn q l m i j) (hj : j < l.length) : m[j]'(by rw [h.len]; exact hj) = l[j] := by
  have h1 := h.rest
  have h2 : (m.drop j)[0]? = (l.drop j)[0]? := by rw [h1]
  rw [List.getElem?_drop, List.getElem?_drop, Nat.add_zero, List.getElem?_eq_getElem hj, List.getElem?_eq_getElem (by rw [h.len]; exact hj)] at h2
  exact Option.some.inj h2
theorem DelIn.drop {q : KeyD → Bool} {l m : List KeyD} {i j : Nat} (h : DelIn q l m i j) (hj : j < l.length) (hq : q l[j] = false) : DelIn q l m i (j + 1) := by
  refine ⟨h.len, hj, Nat.lt_succ_of_lt h.ij, ?_, ?_⟩
  · rw [h.kept, List.take_succ_eq_append_getElem hj, List.filter_append]
    simp [hq]
  · rw [← List.drop_drop, h.rest, List.drop_drop]
theorem DelIn.keep {q : KeyD → Bool} {l m : List KeyD} {i j : Nat} (h : DelIn q l m i j) (hj : j < l.length) (hq : q l[j] = true) : DelIn q l (m.set i l[j]) (i + 1) (j + 1) := by
  have hl := h.len
  have hij := h.ij
  refine ⟨by rw [List.length_set]; exact hl, hj, by omega, ?_, ?_⟩
  · rw [List.take_succ_eq_append_getElem (by rw [List.length_set]; omega), List.take_set_of_le (Nat.le_refl _), List.getElem_set_self, h.kept, List.take_succ_eq_append_getElem hj, List.filter_append]
    simp [hq]
  · rw [List.drop_set_of_lt (by omega), ← List.drop_drop, h.rest, List.drop_drop]
theorem DelIn.done {q : KeyD → Bool} {l m : List KeyD} {i j : Nat} (h : DelIn q l m i j) (hj : ¬ j < l.length) : m.take i = l.filter q ∧ i = (l.filter q).length ∧ i < l.length := by
  have hl := h.len
  have hij := h.ij
  have h1 := h.kept
  rw [show l.take j = l from List.take_of_length_le (by omega)] at h1
  refine ⟨h1, ?_, by have := h.jl; omega⟩
  rw [← h1, List.length_take]
  have := h.jl
  omega
theorem zero_cells (zero : Array Value) (n : Nat) : (Builtin.zeroCells zero n).toList.length = n * zero.size ∧ ((∀ v ∈ zero.toList, v.oneCell' = true) → ∀ v ∈ (Builtin.zeroCells zero n).toList, v.oneCell' = true) := by
  refine ⟨by simp [Builtin.zeroCells], fun h v hv => ?_⟩
  simp only [Builtin.zeroCells, Array.toList_map, Array.toList_range, List.mem_map, List.mem_range] at hv
  obtain ⟨i, hi, rfl⟩ := hv
  have hp : 0 < zero.size := by
    rcases Nat.eq_zero_or_pos zero.size with h0 | h0
    · rw [h0] at hi; simp at hi
    · exact h0
  have hlt := Nat.mod_lt i hp
  rw [getElem!_pos zero _ hlt]
  exact h _ (by simp)
/-- clear of n keys: nothing but the cells of these n turns. -/
theorem clear_keys (W : World) (g o n : Nat) (cur : Array Value) (e : TypeId) (hh : W.heap[g]? = some (.cells cur e (0, 0))) (hn : 0 < n) (ho : o + n * 5 ≤ cur.size) :
    ∃ zs : List Value, zs.length = n * 5 ∧ ∀ ty c, (Builtin.clear_ #[221] ty #[.slice (some ⟨g, o, none⟩) n c]).run Tryz.prog W = .ok (.tuple #[]) (W.setCells g o zs) := by
  obtain ⟨i, hi, h0, h1, h2⟩ := info_parts key_info
  obtain ⟨z1, z2⟩ := zero_cells (Value.agg #[.int .i64 0, .int .i64 0, .int .i64 0, .int .i64 0, .int .i64 0]).cells n
  have hcl : (Value.agg #[.int .i64 0, .int .i64 0, .int .i64 0, .int .i64 0, .int .i64 0]).cells = #[.int .i64 0, .int .i64 0, .int .i64 0, .int .i64 0, .int .i64 0] := by kernel_rfl
  refine ⟨(Builtin.zeroCells (Value.agg #[.int .i64 0, .int .i64 0, .int .i64 0, .int .i64 0, .int .i64 0]).cells n).toList, by rw [z1, hcl]; rfl, fun ty c => ?_⟩
  have hst := run_storeCells_cells (P := Tryz.prog) g o (Builtin.zeroCells (Value.agg #[.int .i64 0, .int .i64 0, .int .i64 0, .int .i64 0, .int .i64 0]).cells n).toList 0 W (fun j hj => by
    rw [z1, hcl] at hj
    have hj2 : j < n * 5 := hj
    rw [cell_of_row W g _ cur e (0, 0) hh, Array.getElem?_eq_getElem (by omega)]; rfl) (fun j hj => frozen_of_row W g _ cur e hh) (z2 (by rw [hcl]; intro v hv; simp at hv; subst hv; rfl))
  simp only [Nat.add_zero] at hst
  obtain ⟨m, rfl⟩ : ∃ m, n = m + 1 := ⟨n - 1, by omega⟩
  simp [Builtin.clear_, run_underlying Tryz.underlying221, zeroValue, typeInfo, hi, h0, hst]
end Go.Proofs.YtlhemcjahcmdeaaGreatDoor
namespace Go.Proofs.YtlhemcjahcmdeaaGreatDoor
open Go.RowKit
set_option maxRecDepth 100000
set_option linter.unusedSimpArgs false
set_option linter.unusedVariables false

theorem kvl_take (l : List KeyD) (N : Nat) : (kvl l).take (N * 5) = kvl (l.take N) := by
  by_cases h : N ≤ l.length
  · have he : kvl l = kvl (l.take N) ++ kvl (l.drop N) := by rw [← kvl_append, List.take_append_drop]
    have hl : (kvl (l.take N)).length = N * 5 := by rw [kvl_len]; simp; omega
    rw [he, ← hl, List.take_left']
    rfl
  · rw [List.take_of_length_le (by rw [kvl_len]; omega), List.take_of_length_le (by omega)]
theorem RwK.at5 {w : World} {g cap : Nat} {l : List KeyD} (h : RwK w g cap l) {i : Nat} (hi : i < l.length) (hc : l.length ≤ cap) (hm : cap ≤ maxLen) : Five w g (i * 5) l[i] := by
  obtain ⟨b, off, hA, _, hk⟩ := (h.owns (S := fun _ => True) trivial hc hm).reads.keys hi
  have h1 := hk i hi
  injection hA with hA
  injection hA with h2 h3
  subst h2
  subst h3
  simpa only [Nat.zero_add] using h1
end Go.Proofs.YtlhemcjahcmdeaaGreatDoor
namespace Go.Proofs.YtlhemcjahcmdeaaGreatDoor
open Go.RowKit
set_option maxRecDepth 100000
set_option linter.unusedSimpArgs false
set_option linter.unusedVariables false

/-- The closure of refs. -/
theorem refs1_any (k : KeyD) (w : World) :
    Calls Tryz.prog 334 #[k.v] w (SaysBool w (k.c != 1)) := by
  unfold KeyD.v keyV
  have Q0 := Lib.hid (al1 w (.cells #[.int .i64 k.a, .int .i64 k.b, .int .i64 k.c, .int .i64 k.d, .int .i64 k.e] 112))
  have b0 := bal1 w (.cells #[.int .i64 k.a, .int .i64 k.b, .int .i64 k.c, .int .i64 k.d, .int .i64 k.e] 112)
  have HB := Lib.hid b0
  clear b0
  obtain ⟨R, hR⟩ : ∃ R, (k.c != 1) = R := ⟨_, rfl⟩
  rw [hR]
  go_enter Tryz.func334, Tryz.ntmps334
  go_upto_region 1 with (fail)
  generalize w.alloc (.cells #[.int .i64 k.a, .int .i64 k.b, .int .i64 k.c, .int .i64 k.d, .int .i64 k.e] 112) = W at *
  obtain ⟨x0, x1, x2, x3, x4, x5⟩ := box5 Q0.out
  cases R
  all_goals
    go_wp2
    go_ret
    exact ⟨rfl, HB.out⟩
set_option maxHeartbeats 1000000 in
theorem indexFuncR_any (v : Value) (l : List KeyD) (w : World) (hv : Reads w w.heap.size v (keysD l)) (hn : l.length ≤ 2097152) :
    Calls Tryz.prog 333 #[v, .func (.func 334) #[] #[]] w fun e w' => ∃ n : Int, e = .returned (.int .i64 n) ∧ Below w.heap.size w w' ∧
      ((n = -1 ∧ ∀ j (hj : j < l.length), ((l[j]).c == 1) = true) ∨ ∃ m : Nat, n = (m : Int) ∧ ∃ h : m < l.length, ((l[m]).c == 1) = false ∧ ∀ j (hj : j < m), ((l[j]'(by omega)).c == 1) = true) := by
  obtain ⟨A, c, rfl, _, _⟩ := hv.shapeK
  have HT := Lib.hid refs1_any
  unfold KeyD.v keyV at HT
  have HV := Lib.hid hv
  clear hv
  go_enter Tryz.func333, Tryz.ntmps333
  go_wp2
  go_loopw [5, 8] (fun _ i wr => ∃ k : Nat, k ≤ l.length ∧ i = .int .i64 k ∧ Hid (∀ j (hj : j < k) (hl : j < l.length), ((l[j]).c == 1) = true) ∧ Hid (Below w.heap.size w wr)) (fun _ i _ => l.length - (intOf i).toNat)
  case atStart => exact ⟨0, Nat.zero_le _, rfl, Lib.hid (fun j hj => by omega), Lib.hid (Below.refl _ _)⟩
  case round =>
    obtain ⟨k, hk, rfl, HI, HB⟩ := hrel
    by_cases hlt : k < l.length
    · obtain ⟨b, off, rfl, hbb, hc⟩ := (HV.out.on HB.out).keys hlt
      have i1 : (k : Int) < (l.length : Int) := by omega
      have i2 : (0 : Int) ≤ (k : Int) := by omega
      obtain ⟨c0, c1, c2, c3, c4⟩ := hc k hlt
      clear hc
      cases hs : ((l[k]).c == 1)
      · have HN : Hid (((l[k]).c != 1) = true) := Lib.hid (by simp only [bne, hs]; rfl)
        have HS := Lib.hid hs
        clear hs
        go_wp2_with fail
        go_at_call 334
        refine (HT.out l[k] _).mono ?_
        rintro r w8 ⟨rfl, b8⟩
        rw [HN.out]
        have B8 := Lib.hid (bstep HB.out b8)
        clear b8 c0 c1 c2 c3 c4
        go_wp2
        go_ret
        exact ⟨_, rfl, B8.out, .inr ⟨k, rfl, hlt, HS.out, fun j hj => HI.out j hj (by omega)⟩⟩
      · have HN : Hid (((l[k]).c != 1) = false) := Lib.hid (by simp only [bne, hs]; rfl)
        have HS := Lib.hid hs
        clear hs
        go_wp2_with fail
        go_at_call 334
        refine (HT.out l[k] _).mono ?_
        rintro r w8 ⟨rfl, b8⟩
        rw [HN.out]
        have B8 := Lib.hid (bstep HB.out b8)
        clear b8 c0 c1 c2 c3 c4
        go_wp2
        go_roundw
        case rel => exact ⟨k + 1, by omega, by go_num, Lib.hid (fun j hj hl => by
          by_cases hjk : j < k
          · exact HI.out j hjk hl
          · have : j = k := by omega
            subst this
            exact HS.out), B8⟩
        case measure => simp [intOf]; omega
    · go_wp2
      go_ret
      exact ⟨_, rfl, HB.out, .inl ⟨rfl, fun j hj => HI.out j (by omega) hj⟩⟩
set_option maxHeartbeats 4000000 in
theorem deleteFuncR_any (v : Value) (l : List KeyD) (base : Nat) (w : World) (hv : RowK w base v l) (hb : base ≤ w.heap.size) (hn : l.length ≤ 2097152) :
    Calls Tryz.prog 303 #[v, .func (.func 334) #[] #[]] w fun e w' => ∃ v', e = .returned v' ∧ RowK w' base v' (l.filter (fun k => k.c == 1)) ∧ Below base w w' := by
  have HT := Lib.hid refs1_any
  unfold KeyD.v keyV at HT
  have HIF := Lib.hid (indexFuncR_any v l w hv.owns.reads hn)
  have HV := Lib.hid hv
  rcases hv.owns.rwK with ⟨rfl, rfl⟩ | ⟨g, cap, rfl, hbg, hR, hcap, hmax⟩
  · clear hv
    go_enter Tryz.func303, Tryz.ntmps303
    go_wp2_with fail
    refine HIF.out.mono ?_
    rintro r w1 ⟨n, rfl, b1, ⟨rfl, _⟩ | ⟨m, rfl, hm, _⟩⟩
    · have B1 := Lib.hid (b1.mono hb)
      have O1 := Lib.hid (HV.out.on b1)
      clear b1
      go_wp2
      go_ret
      exact ⟨_, rfl, O1.out, B1.out⟩
    · simp at hm
  · have HRW := Lib.hid hR
    clear hv hR
    go_enter Tryz.func303, Tryz.ntmps303
    go_wp2_with fail
    refine HIF.out.mono ?_
    rintro r w1 ⟨n, rfl, b1, ⟨rfl, hall⟩ | ⟨m, rfl, hm, hno, hyes⟩⟩
    · have B1 := Lib.hid (b1.mono hb)
      have O1 := Lib.hid (HV.out.on b1)
      have HA : Hid (l.filter (fun k => k.c == 1) = l) := Lib.hid (all_kept (q := fun k => k.c == 1) hall)
      clear b1 hall
      go_wp2
      go_ret
      rw [HA.out]
      exact ⟨_, rfl, O1.out, B1.out⟩
    · have B1 := Lib.hid (b1.mono hb)
      have R1 := Lib.hid (Rw.keep HRW.out (b1.block g (Rw.lt HRW.out)))
      have D1 := Lib.hid (DelIn.start (q := fun k => k.c == 1) hm hno hyes)
      have hm1 : ((m : Int) == -1) = false := beq_eq_false_iff_ne.2 (by omega)
      have i0 : IntKind.i64.wrap ((m : Int) + 1) = (m : Int) + 1 := by rw [IntKind.wrap_i64]; omega
      have HSZ := Lib.hid b1.size
      clear b1 hno hyes HIF HV HRW
      go_wp2
      clear hm1 i0
      go_loopw [5, 6, 7] (fun i j _ wr => ∃ (i' j' : Nat) (t : List KeyD), i = .int .i64 i' ∧ j = .int .i64 j' ∧ Hid (DelIn (fun k => k.c == 1) l t i' j') ∧ Hid (RwK wr g cap t) ∧ Hid (base ≤ wr.heap.size) ∧ Hid (Below base w wr)) (fun _ j _ _ => l.length - (intOf j).toNat)
      case atStart => exact ⟨m, m + 1, l, rfl, by go_num, D1, R1, Lib.hid (Nat.le_trans hb HSZ.out), B1⟩
      case round =>
        clear D1 R1 HSZ B1 hm
        obtain ⟨i, j, t, rfl, rfl, HD, HR, HZ, HB⟩ := hrel
        have hD := HD.out
        have hij := hD.ij
        have hjl := hD.jl
        have htl := hD.len
        by_cases hlt : j < l.length
        · obtain ⟨c0, c1, c2, c3, c4⟩ := HR.out.at5 (i := j) (by omega) (by omega) hmax
          rw [hD.at hlt] at c0 c1 c2 c3 c4
          have i1 : (j : Int) < (l.length : Int) := by omega
          have i2 : (0 : Int) ≤ (j : Int) := by omega
          have hq0 := al1 wr (.cells #[.int .i64 (l[j]).a, .int .i64 (l[j]).b, .int .i64 (l[j]).c, .int .i64 (l[j]).d, .int .i64 (l[j]).e] 112)
          have ba := bal1 wr (.cells #[.int .i64 (l[j]).a, .int .i64 (l[j]).b, .int .i64 (l[j]).c, .int .i64 (l[j]).d, .int .i64 (l[j]).e] 112)
          have HQ := Lib.hid hq0
          have HR2 := Lib.hid (Rw.keep HR.out (ba.block g (Rw.lt HR.out)))
          have HB2 := Lib.hid (HB.out.trans (ba.mono HZ.out))
          have HZ2 := Lib.hid (Nat.le_trans HZ.out ba.size)
          clear hq0 ba hD
          cases hs : ((l[j]).c == 1)
          · have HN : Hid (((l[j]).c != 1) = true) := Lib.hid (by simp only [bne, hs]; rfl)
            have HS := Lib.hid hs
            clear hs
            go_wp2_with fail
            go_at_call 334
            refine (HT.out l[j] _).mono ?_
            rintro r w8 ⟨rfl, b8⟩
            rw [HN.out]
            have R8 := Lib.hid (Rw.keep HR2.out (b8.block g (Rw.lt HR2.out)))
            have B8 := Lib.hid (HB2.out.trans (b8.mono HZ2.out))
            have Z8 := Lib.hid (Nat.le_trans HZ2.out b8.size)
            clear b8 c0 c1 c2 c3 c4 HQ HR2 HB2 HZ2 HR HB HZ
            go_wp2
            go_roundw
            case rel => exact ⟨i, j + 1, t, rfl, by go_num, Lib.hid (HD.out.drop hlt HS.out), R8, Z8, B8⟩
            case measure => simp [intOf]; omega
          · have HN : Hid (((l[j]).c != 1) = false) := Lib.hid (by simp only [bne, hs]; rfl)
            have HS := Lib.hid hs
            clear hs
            go_wp2_with fail
            go_at_call 334
            refine (HT.out l[j] _).mono ?_
            rintro r w8 ⟨rfl, b8⟩
            rw [HN.out]
            have R8 := Lib.hid (Rw.keep HR2.out (b8.block g (Rw.lt HR2.out)))
            have B8 := Lib.hid (HB2.out.trans (b8.mono HZ2.out))
            have Z8 := Lib.hid (Nat.le_trans HZ2.out b8.size)
            obtain ⟨q0, q1, q2, q3, q4, q5⟩ := box5 (box_on HQ.out b8)
            clear b8 c0 c1 c2 c3 c4 HQ HR2 HB2 HZ2 HR HB HZ
            have hil : i < t.length := by omega
            have R9 := Lib.hid (RwK.set R8.out hil l[j])
            have B9 := Lib.hid (b5 (i := i * 5) (u1 := .int .i64 (l[j]).a) (u2 := .int .i64 (l[j]).b) (u3 := .int .i64 (l[j]).c) (u4 := .int .i64 (l[j]).d) (u5 := .int .i64 (l[j]).e) B8.out hbg)
            have hz5 : ∀ z, z < 5 → ∃ v, w8.cell? ⟨g, i * 5 + z, none⟩ = some v := RwK.five R8.out hil
            obtain ⟨v0, d0⟩ := hz5 0 (by omega)
            obtain ⟨v1, d1⟩ := hz5 1 (by omega)
            obtain ⟨v2, d2⟩ := hz5 2 (by omega)
            obtain ⟨v3, d3⟩ := hz5 3 (by omega)
            obtain ⟨v4, d4⟩ := hz5 4 (by omega)
            rw [Nat.add_zero] at d0
            have f0 := Rw.frozen R8.out (i * 5)
            have f1 := Rw.frozen R8.out (i * 5 + 1)
            have f2 := Rw.frozen R8.out (i * 5 + 2)
            have f3 := Rw.frozen R8.out (i * 5 + 3)
            have f4 := Rw.frozen R8.out (i * 5 + 4)
            have i3 : (i : Int) < (l.length : Int) := by omega
            have i4 : (0 : Int) ≤ (i : Int) := by omega
            have i5 : IntKind.i64.wrap ((i : Int) + 1) = (i : Int) + 1 := by rw [IntKind.wrap_i64]; omega
            clear hz5
            go_wp2
            go_roundw
            case rel => exact ⟨i + 1, j + 1, t.set i l[j], by go_num, by go_num, Lib.hid (HD.out.keep hlt HS.out), R9, Lib.hid (by simpa using Z8.out), B9⟩
            case measure => simp [intOf]; omega
        · obtain ⟨hF, hFl, hil⟩ := hD.done hlt
          obtain ⟨cur, hh, hsz, htk⟩ := HR.out
          obtain ⟨zs, hzl, hcl⟩ := clear_keys wr g (i * 5) (l.length - i) cur _ hh (by omega) (by rw [hsz]; omega)
          have FIN : Hid (RowK (wr.setCells g (i * 5) zs) base (.slice (some ⟨g, 0, none⟩) i cap) (l.filter (fun k => k.c == 1)) ∧ Below base w (wr.setCells g (i * 5) zs)) := by
            refine Lib.hid ⟨?_, below_lay hbg _ _ _ _ HB.out⟩
            refine ⟨by rw [kvl_len], .inr ⟨g, cap, _, by rw [← hFl], hbg, heap_lay g _ _ _ _ _ hh, by omega, hmax, by rw [layA_size]; exact hsz, ?_⟩⟩
            rw [← hFl, layA_list _ _ _ (by rw [hzl, hsz]; omega), List.take_append_of_le_length (by rw [List.length_take, Array.length_toList, hsz]; omega), List.take_take, Nat.min_self, ← hF, ← kvl_take, ← htk, List.take_take, show min (i * 5) (t.length * 5) = i * 5 by omega]
          have i1 : ¬ (j : Int) < (l.length : Int) := by omega
          have i2 : (0 : Int) ≤ (i : Int) := by omega
          have i3 : (i : Int) ≤ (l.length : Int) := by omega
          have i4 : (l.length : Int) ≤ (cap : Int) := by omega
          have i5 : (i : Int) ≤ (cap : Int) := by omega
          have i6 : i ≤ cap := by omega
          have i7 : ¬ cap = i := by omega
          clear hF hFl hh hsz htk hzl hD HD HR HB HZ
          go_wp2
          go_ret
          exact ⟨_, rfl, FIN.out.1, FIN.out.2⟩
theorem treeKeysM_any (vl vn : Value) (lo : List Int) (ts : List NodeD) (w : World) (hv : RdT w w.heap.size vl vn lo ts) (hn : ts.length ≤ 1048576) (hs : sumT ts ≤ 1048576) :
    Calls Tryz.prog 288 #[.agg #[vl, vn]] w (NewK w (treeKeysK ts)) := by
  have HK := Lib.hid (fun W b => implTreeKeys_any vl vn lo ts W (hv.on b) hn hs)
  obtain ⟨A, c, A', c', rfl, rfl⟩ := hv.shape
  have b0 := Lib.hid (bal1 w (.cells #[.slice A lo.length c, .slice A' ts.length c'] 27))
  clear hv
  go_enter Tryz.func288, Tryz.ntmps288
  go_wp2_with fail
  refine (HK.out _ b0.out).mono ?_
  rintro e w1 ⟨v, rfl, o, b⟩
  have O := Lib.hid (o.mono b0.out.size)
  have B := Lib.hid (bstep b0.out b)
  clear o b
  go_wp2
  go_ret
  exact ⟨v, rfl, O.out, B.out⟩
theorem refs_any (vl vn : Value) (lo : List Int) (ts : List NodeD) (w : World) (hv : RdT w w.heap.size vl vn lo ts) (hn : ts.length ≤ 1048576) (hs : sumT ts ≤ 1048576) (hl : (treeKeysK ts).length ≤ 2097152) :
    Calls Tryz.prog 290 #[.agg #[vl, vn]] w (NewK w (refsK (treeKeysK ts))) := by
  have HK := Lib.hid (fun W b => treeKeysM_any vl vn lo ts W (hv.on b) hn hs)
  obtain ⟨A, c, A', c', rfl, rfl⟩ := hv.shape
  have b0 := Lib.hid (bal1 w (.cells #[.slice A lo.length c, .slice A' ts.length c'] 27))
  clear hv
  go_enter Tryz.func290, Tryz.ntmps290
  go_wp2_with fail
  refine (HK.out _ b0.out).mono ?_
  rintro e w1 ⟨v, rfl, o, b⟩
  have B := Lib.hid (bstep b0.out b)
  have hz := b.size
  have hz2 := b0.out.size
  have HD := Lib.hid (deleteFuncR_any v (treeKeysK ts) w.heap.size w1 (o.mono hz2) (by omega) hl)
  clear o b
  go_wp2_with fail
  refine HD.out.mono ?_
  rintro e w2 ⟨v2, rfl, o2, b2⟩
  have O := Lib.hid o2
  have BB := Lib.hid (B.out.trans b2)
  clear o2 b2
  go_wp2
  go_ret
  exact ⟨v2, rfl, O.out, BB.out⟩
end Go.Proofs.YtlhemcjahcmdeaaGreatDoor
namespace Go.Proofs.YtlhemcjahcmdeaaGreatDoor
open Go.RowKit
set_option maxRecDepth 100000
set_option linter.unusedSimpArgs false
set_option linter.unusedVariables false

theorem mappingsOf_any {t : TypeId} (vl vn va vc vv : Value) (d : PoolD) (w : World) (h : RdP t w w.heap.size vl vn va vc vv d) : Calls Tryz.prog 170 #[.agg #[vl, vn, va, vc, vv, .int .i64 d.nx]] w fun e w' => e = .returned (.agg #[vl, vn, va, vc]) ∧ Below w.heap.size w w' := by
  obtain ⟨A0, c0, A1, c1, A2, c2, A3, c3, A4, c4, rfl, rfl, rfl, rfl, rfl⟩ := h.shape
  clear h
  go_enter Tryz.func170, Tryz.ntmps170
  go_wp2
  refine bodyPost_ret (v := .agg #[.slice A0 d.lo.length c0, .slice A1 d.ts.length c1, .slice A2 d.ag.length c2, .slice A3 d.ce.length c3]) (by simp [results, Tryz.results170, go_sem, *]) rfl ⟨rfl, ?_⟩
  exact bal2 _ _ _
/-- The closure of nextOk, bound to the pool's box. -/
theorem nextOk1_any (d : PoolD) (k : AgeD) (pb : Nat) (a0 a1 a2 a3 a4 : Value) (w : World) (hp : w.heap[pb]? = some (.cells #[a0, a1, a2, a3, a4, .int .i64 d.nx] 32 (0, 0))) :
    Calls Tryz.prog 284 #[.agg #[.int .i64 k.a, .int .i64 k.b], .pointer (some ⟨pb, 0, none⟩)] w (SaysBool w (!decide (k.a < d.nx))) := by
  have Q0 := Lib.hid (al1 w (.cells #[.int .i64 k.a, .int .i64 k.b] 155))
  have b0 := bal1 w (.cells #[.int .i64 k.a, .int .i64 k.b] 155)
  have HB := Lib.hid b0
  have HP := Lib.hid (boxP (box_on hp b0)).2.2.2.2.2.1
  clear hp b0
  go_enter Tryz.func284, Tryz.ntmps284
  go_upto_region 1 with (fail)
  generalize w.alloc (.cells #[.int .i64 k.a, .int .i64 k.b] 155) = W at *
  obtain ⟨x0, x1, x2⟩ := box2 Q0.out
  have y0 := HP.out
  by_cases hs : k.a < d.nx
  · have e1 : decide (k.a ≥ d.nx) = false := decide_eq_false (by omega)
    go_wp2
    go_ret
    exact ⟨by rw [decide_eq_true hs]; rfl, HB.out⟩
  · have e1 : decide (k.a ≥ d.nx) = true := decide_eq_true (by omega)
    go_wp2
    go_ret
    exact ⟨by rw [decide_eq_false (by omega)]; rfl, HB.out⟩
theorem allP_miss {α : Type} {p : α → Bool} {l : List α} {k : Nat} (h : k < l.length) (hp : p l[k] = false) : l.all p = false := by
  rw [List.all_eq_false]
  exact ⟨_, List.getElem_mem h, by rw [hp]; simp⟩
theorem allP_snoc {α : Type} {p : α → Bool} {l : List α} {k : Nat} (h : k < l.length) (hi : ∀ j (hj : j < k) (hl : j < l.length), p l[j] = true) (hp : p l[k] = true) : ∀ j (hj : j < k + 1) (hl : j < l.length), p l[j] = true := by
  intro j hj hl
  by_cases h3 : j < k
  · exact hi j h3 hl
  · have : j = k := by omega
    subst this
    exact hp
theorem allP_done {α : Type} {p : α → Bool} {l : List α} (h : ∀ j (hl : j < l.length), p l[j] = true) : l.all p = true := by
  rw [List.all_eq_true]
  intro v hv
  obtain ⟨i, hi, rfl⟩ := List.mem_iff_getElem.1 hv
  exact h i hi
set_option maxHeartbeats 1000000 in
theorem indexFuncN_any (v : Value) (l : List AgeD) (d : PoolD) (pb : Nat) (a0 a1 a2 a3 a4 : Value) (w : World) (hv : Reads w w.heap.size v (agesD l)) (hp : w.heap[pb]? = some (.cells #[a0, a1, a2, a3, a4, .int .i64 d.nx] 32 (0, 0))) (hn : l.length ≤ 2097152) :
    Calls Tryz.prog 330 #[v, .func (.func 284) #[] #[.pointer (some ⟨pb, 0, none⟩)]] w fun e w' => ∃ n : Int, e = .returned (.int .i64 n) ∧ decide (n ≥ 0) = !(l.all (fun k => decide (k.a < d.nx))) ∧ Below w.heap.size w w' := by
  obtain ⟨A, c, rfl, _, _⟩ := hv.shapeG
  have HT := Lib.hid (nextOk1_any d)
  have HV := Lib.hid hv
  have HP := Lib.hid hp
  clear hv hp
  go_enter Tryz.func330, Tryz.ntmps330
  go_wp2
  go_loopw [5, 8] (fun _ i wr => ∃ k : Nat, k ≤ l.length ∧ i = .int .i64 k ∧ Hid (∀ j (hj : j < k) (hl : j < l.length), (fun k : AgeD => decide (k.a < d.nx)) l[j] = true) ∧ Hid (Below w.heap.size w wr)) (fun _ i _ => l.length - (intOf i).toNat)
  case atStart => exact ⟨0, Nat.zero_le _, rfl, Lib.hid (fun j hj => by omega), Lib.hid (Below.refl _ _)⟩
  case round =>
    obtain ⟨k, hk, rfl, HI, HB⟩ := hrel
    by_cases hlt : k < l.length
    · obtain ⟨b, off, rfl, hbb, hc⟩ := (HV.out.on HB.out).ages hlt
      have i1 : (k : Int) < (l.length : Int) := by omega
      have i2 : (0 : Int) ≤ (k : Int) := by omega
      obtain ⟨c0, c1⟩ := hc k hlt
      have HX := Lib.hid (HT.out l[k] pb a0 a1 a2 a3 a4 wr (box_on HP.out HB.out))
      clear hc
      cases hs : (fun k : AgeD => decide (k.a < d.nx)) l[k]
      · have HA : Hid (l.all (fun k => decide (k.a < d.nx)) = false) := Lib.hid (allP_miss (p := fun k : AgeD => decide (k.a < d.nx)) hlt hs)
        rw [show (decide ((l[k]).a < d.nx)) = false from hs] at HX
        clear hs
        go_wp2_with fail
        go_at_call 284
        refine HX.out.mono ?_
        rintro r w8 ⟨rfl, b8⟩
        have B8 := Lib.hid (bstep HB.out b8)
        have HQ : Hid (decide ((k : Int) ≥ 0) = true) := Lib.hid (decide_eq_true (by omega))
        clear b8 c0 c1
        go_wp2
        go_ret
        exact ⟨_, rfl, by rw [HA.out]; exact HQ.out, B8.out⟩
      · have HA := Lib.hid (allP_snoc (p := fun k : AgeD => decide (k.a < d.nx)) hlt HI.out hs)
        rw [show (decide ((l[k]).a < d.nx)) = true from hs] at HX
        clear hs
        go_wp2_with fail
        go_at_call 284
        refine HX.out.mono ?_
        rintro r w8 ⟨rfl, b8⟩
        have B8 := Lib.hid (bstep HB.out b8)
        clear b8 c0 c1
        go_wp2
        go_roundw
        case rel => exact ⟨k + 1, by omega, by go_num, HA, B8⟩
        case measure => simp [intOf]; omega
    · have HA : Hid (l.all (fun k => decide (k.a < d.nx)) = true) := Lib.hid (allP_done (p := fun k : AgeD => decide (k.a < d.nx)) (fun j hl => HI.out j (by omega) hl))
      go_wp2
      go_ret
      exact ⟨_, rfl, by rw [HA.out]; rfl, HB.out⟩
theorem containsN_any (v : Value) (l : List AgeD) (d : PoolD) (pb : Nat) (a0 a1 a2 a3 a4 : Value) (w : World) (hv : Reads w w.heap.size v (agesD l)) (hp : w.heap[pb]? = some (.cells #[a0, a1, a2, a3, a4, .int .i64 d.nx] 32 (0, 0))) (hn : l.length ≤ 2097152) :
    Calls Tryz.prog 283 #[v, .func (.func 284) #[] #[.pointer (some ⟨pb, 0, none⟩)]] w (SaysBool w (!(l.all (fun k => decide (k.a < d.nx))))) := by
  have HI := Lib.hid (indexFuncN_any v l d pb a0 a1 a2 a3 a4 w hv hp hn)
  obtain ⟨R, hR⟩ : ∃ R, (!(l.all (fun k => decide (k.a < d.nx)))) = R := ⟨_, rfl⟩
  rw [hR] at HI ⊢
  clear hR
  obtain ⟨A, c, rfl, _, _⟩ := hv.shapeG
  clear hv hp
  go_enter Tryz.func283, Tryz.ntmps283
  go_wp2_with fail
  refine HI.out.mono ?_
  rintro r w1 ⟨n, rfl, hd, b⟩
  have HB := Lib.hid b
  clear b
  go_wp2
  go_ret
  exact ⟨rfl, HB.out⟩
theorem nextOk_any {t : TypeId} (vl vn va vc vv : Value) (d : PoolD) (w : World) (h : RdP t w w.heap.size vl vn va vc vv d) (hs : SmallP d) : Calls Tryz.prog 223 #[.agg #[vl, vn, va, vc, vv, .int .i64 d.nx]] w (SaysBool w (nextB d)) := by
  have hg : d.ag.length ≤ 2097152 := by have := hs.2.1; omega
  obtain ⟨A0, c0, A1, c1, A2, c2, A3, c3, A4, c4, rfl, rfl, rfl, rfl, rfl⟩ := h.shape
  have HB := Lib.hid (bal1 w (.cells #[.slice A0 d.lo.length c0, .slice A1 d.ts.length c1, .slice A2 d.ag.length c2, .slice A3 d.ce.length c3, .slice A4 d.vo.length c4, .int .i64 d.nx] 32))
  have Q0 := Lib.hid (al1 w (.cells #[.slice A0 d.lo.length c0, .slice A1 d.ts.length c1, .slice A2 d.ag.length c2, .slice A3 d.ce.length c3, .slice A4 d.vo.length c4, .int .i64 d.nx] 32))
  have HC := Lib.hid (containsN_any (.slice A2 d.ag.length c2) d.ag d w.heap.size _ _ _ _ _ _ (h.2.1.on HB.out) Q0.out hg)
  obtain ⟨R, hR⟩ : ∃ R, nextB d = R := ⟨_, rfl⟩
  rw [hR]
  unfold nextB at hR
  have HX := Lib.hid hR.symm
  clear h hs hR hg
  obtain ⟨S, hS⟩ : ∃ S, d.ag.all (fun a => decide (a.a < d.nx)) = S := ⟨_, rfl⟩
  rw [hS] at HX HC
  clear hS
  go_enter Tryz.func223, Tryz.ntmps223
  go_upto_region 1 with (fail)
  generalize w.alloc (.cells #[.slice A0 d.lo.length c0, .slice A1 d.ts.length c1, .slice A2 d.ag.length c2, .slice A3 d.ce.length c3, .slice A4 d.vo.length c4, .int .i64 d.nx] 32) = W at *
  obtain ⟨x0, x1, x2, x3, x4, x5, x6⟩ := boxP Q0.out
  go_wp2_with fail
  refine HC.out.mono ?_
  rintro e w1 ⟨rfl, b1⟩
  replace Q0 := Lib.hid (box_on Q0.out b1)
  replace HB := Lib.hid (bstep HB.out b1)
  clear x0 x1 x2 x3 x4 x5 x6 b1
  obtain ⟨x0, x1, x2, x3, x4, x5, x6⟩ := boxP Q0.out
  by_cases h1 : 1 ≤ d.nx
  · have e1 : decide (d.nx ≥ 1) = true := decide_eq_true (by omega)
    by_cases h2 : d.nx ≤ 61
    · have e2 : decide (d.nx ≤ 61) = true := decide_eq_true h2
      have HF : Hid (R = S) := Lib.hid (by rw [HX.out, decide_eq_true h1, e2]; rfl)
      cases S
      all_goals
        go_wp2
        go_ret
        exact ⟨by rw [HF.out]; rfl, HB.out⟩
    · have e2 : decide (d.nx ≤ 61) = false := decide_eq_false h2
      have HF : Hid (R = false) := Lib.hid (by rw [HX.out, e2, Bool.and_false]; rfl)
      go_wp2
      go_ret
      exact ⟨by rw [HF.out]; rfl, HB.out⟩
  · have e1 : decide (d.nx ≥ 1) = false := decide_eq_false (by omega)
    have HF : Hid (R = false) := Lib.hid (by rw [HX.out, decide_eq_false h1]; rfl)
    go_wp2
    go_ret
    exact ⟨by rw [HF.out]; rfl, HB.out⟩
/-- The closure of agesExist, bound to the mappings' box. -/
theorem agesExist1_any (k : KeyD) (ag : List AgeD) (pb : Nat) (a0 a1 a3 A : Value) (w : World) (hv : Reads w w.heap.size A (agesD ag)) (hn : ag.length ≤ 2097152) (hp : w.heap[pb]? = some (.cells #[a0, a1, A, a3] 201 (0, 0))) :
    Calls Tryz.prog 289 #[k.v, .pointer (some ⟨pb, 0, none⟩)] w (SaysBool w (!decide (0 ≤ ageAtK ag k.b))) := by
  unfold KeyD.v keyV
  have HA := Lib.hid (fun W b => implAgeAt_any A ag k.b W (hv.on b) hn)
  obtain ⟨A2, c2, rfl, _, _⟩ := hv.shapeG
  have Q0 := Lib.hid (al1 w (.cells #[.int .i64 k.a, .int .i64 k.b, .int .i64 k.c, .int .i64 k.d, .int .i64 k.e] 112))
  have b0 := bal1 w (.cells #[.int .i64 k.a, .int .i64 k.b, .int .i64 k.c, .int .i64 k.d, .int .i64 k.e] 112)
  have HB := Lib.hid b0
  have HP := Lib.hid (box4 (box_on hp b0)).2.2.1
  clear hp b0 hv
  go_enter Tryz.func289, Tryz.ntmps289
  go_upto_region 1 with (fail)
  generalize w.alloc (.cells #[.int .i64 k.a, .int .i64 k.b, .int .i64 k.c, .int .i64 k.d, .int .i64 k.e] 112) = W at *
  obtain ⟨x0, x1, x2, x3, x4, x5⟩ := box5 Q0.out
  have y0 := HP.out
  go_wp2_with fail
  refine (HA.out _ HB.out).mono ?_
  rintro e w1 ⟨rfl, b1⟩
  have B1 := Lib.hid (bstep HB.out b1)
  clear b1 x0 x1 x2 x3 x4 x5 y0
  generalize ageAtK ag k.b = n at *
  by_cases h0 : 0 ≤ n
  · have e1 : decide (n < 0) = false := decide_eq_false (by omega)
    go_wp2
    go_ret
    exact ⟨by rw [decide_eq_true h0]; rfl, B1.out⟩
  · have e1 : decide (n < 0) = true := decide_eq_true (by omega)
    go_wp2
    go_ret
    exact ⟨by rw [decide_eq_false (by omega)]; rfl, B1.out⟩
set_option maxHeartbeats 1000000 in
theorem indexFuncG_any (v : Value) (l : List KeyD) (ag : List AgeD) (pb : Nat) (a0 a1 a3 A : Value) (w : World) (hv : Reads w w.heap.size v (keysD l)) (ha : Reads w w.heap.size A (agesD ag)) (hng : ag.length ≤ 2097152) (hp : w.heap[pb]? = some (.cells #[a0, a1, A, a3] 201 (0, 0))) (hn : l.length ≤ 2097152) :
    Calls Tryz.prog 333 #[v, .func (.func 289) #[] #[.pointer (some ⟨pb, 0, none⟩)]] w fun e w' => ∃ n : Int, e = .returned (.int .i64 n) ∧ decide (n ≥ 0) = !(l.all (fun k => decide (0 ≤ ageAtK ag k.b))) ∧ Below w.heap.size w w' := by
  obtain ⟨AA, c, rfl, _, _⟩ := hv.shapeK
  have HT := Lib.hid (agesExist1_any)
  have HV := Lib.hid hv
  have HP := Lib.hid hp
  have HG := Lib.hid ha
  clear ha
  unfold KeyD.v keyV at HT
  clear hv hp
  go_enter Tryz.func333, Tryz.ntmps333
  go_wp2
  go_loopw [5, 8] (fun _ i wr => ∃ k : Nat, k ≤ l.length ∧ i = .int .i64 k ∧ Hid (∀ j (hj : j < k) (hl : j < l.length), (fun k : KeyD => decide (0 ≤ ageAtK ag k.b)) l[j] = true) ∧ Hid (Below w.heap.size w wr)) (fun _ i _ => l.length - (intOf i).toNat)
  case atStart => exact ⟨0, Nat.zero_le _, rfl, Lib.hid (fun j hj => by omega), Lib.hid (Below.refl _ _)⟩
  case round =>
    obtain ⟨k, hk, rfl, HI, HB⟩ := hrel
    by_cases hlt : k < l.length
    · obtain ⟨b, off, rfl, hbb, hc⟩ := (HV.out.on HB.out).keys hlt
      have i1 : (k : Int) < (l.length : Int) := by omega
      have i2 : (0 : Int) ≤ (k : Int) := by omega
      obtain ⟨c0, c1, c2, c3, c4⟩ := hc k hlt
      have HX := Lib.hid (HT.out l[k] ag pb a0 a1 a3 A wr (HG.out.on HB.out) hng (box_on HP.out HB.out))
      clear hc
      cases hs : (fun k : KeyD => decide (0 ≤ ageAtK ag k.b)) l[k]
      · have HA : Hid (l.all (fun k => decide (0 ≤ ageAtK ag k.b)) = false) := Lib.hid (allP_miss (p := fun k : KeyD => decide (0 ≤ ageAtK ag k.b)) hlt hs)
        rw [show (decide (0 ≤ ageAtK ag (l[k]).b)) = false from hs] at HX
        clear hs
        go_wp2_with fail
        go_at_call 289
        refine HX.out.mono ?_
        rintro r w8 ⟨rfl, b8⟩
        have B8 := Lib.hid (bstep HB.out b8)
        have HQ : Hid (decide ((k : Int) ≥ 0) = true) := Lib.hid (decide_eq_true (by omega))
        clear b8 c0 c1 c2 c3 c4
        go_wp2
        go_ret
        exact ⟨_, rfl, by rw [HA.out]; exact HQ.out, B8.out⟩
      · have HA := Lib.hid (allP_snoc (p := fun k : KeyD => decide (0 ≤ ageAtK ag k.b)) hlt HI.out hs)
        rw [show (decide (0 ≤ ageAtK ag (l[k]).b)) = true from hs] at HX
        clear hs
        go_wp2_with fail
        go_at_call 289
        refine HX.out.mono ?_
        rintro r w8 ⟨rfl, b8⟩
        have B8 := Lib.hid (bstep HB.out b8)
        clear b8 c0 c1 c2 c3 c4
        go_wp2
        go_roundw
        case rel => exact ⟨k + 1, by omega, by go_num, HA, B8⟩
        case measure => simp [intOf]; omega
    · have HA : Hid (l.all (fun k => decide (0 ≤ ageAtK ag k.b)) = true) := Lib.hid (allP_done (p := fun k : KeyD => decide (0 ≤ ageAtK ag k.b)) (fun j hl => HI.out j (by omega) hl))
      go_wp2
      go_ret
      exact ⟨_, rfl, by rw [HA.out]; rfl, HB.out⟩
theorem containsG_any (v : Value) (l : List KeyD) (ag : List AgeD) (pb : Nat) (a0 a1 a3 A : Value) (w : World) (hv : Reads w w.heap.size v (keysD l)) (ha : Reads w w.heap.size A (agesD ag)) (hng : ag.length ≤ 2097152) (hp : w.heap[pb]? = some (.cells #[a0, a1, A, a3] 201 (0, 0))) (hn : l.length ≤ 2097152) :
    Calls Tryz.prog 287 #[v, .func (.func 289) #[] #[.pointer (some ⟨pb, 0, none⟩)]] w (SaysBool w (!(l.all (fun k => decide (0 ≤ ageAtK ag k.b))))) := by
  have HI := Lib.hid (indexFuncG_any v l ag pb a0 a1 a3 A w hv ha hng hp hn)
  obtain ⟨R, hR⟩ : ∃ R, (!(l.all (fun k => decide (0 ≤ ageAtK ag k.b)))) = R := ⟨_, rfl⟩
  rw [hR] at HI ⊢
  clear hR
  obtain ⟨AA, c, rfl, _, _⟩ := hv.shapeK
  clear hv hp ha
  go_enter Tryz.func287, Tryz.ntmps287
  go_wp2_with fail
  refine HI.out.mono ?_
  rintro r w1 ⟨n, rfl, hd, b⟩
  have HB := Lib.hid b
  clear b
  go_wp2
  go_ret
  exact ⟨rfl, HB.out⟩
theorem agesExist_any {t : TypeId} (vl vn va vc vv : Value) (d : PoolD) (w : World) (h : RdP t w w.heap.size vl vn va vc vv d) (hs : SmallP d) (hl : (treeKeysK d.ts).length ≤ 2097152) : Calls Tryz.prog 225 #[.agg #[vl, vn, va, vc]] w (SaysBool w (agesB d)) := by
  have hg : d.ag.length ≤ 2097152 := by have := hs.2.1; omega
  have h1 := hs.1
  have HK := Lib.hid (fun W b => treeKeysM_any vl vn d.lo d.ts W (h.1.on b) (by omega) (by omega))
  obtain ⟨A0, c0, A1, c1, A2, c2, A3, c3, A4, c4, rfl, rfl, rfl, rfl, rfl⟩ := h.shape
  have HB := Lib.hid (bal1 w (.cells #[.slice A0 d.lo.length c0, .slice A1 d.ts.length c1, .slice A2 d.ag.length c2, .slice A3 d.ce.length c3] 201))
  have Q0 := Lib.hid (al1 w (.cells #[.slice A0 d.lo.length c0, .slice A1 d.ts.length c1, .slice A2 d.ag.length c2, .slice A3 d.ce.length c3] 201))
  have HG := Lib.hid h.2.1
  clear h hs h1
  unfold agesB
  obtain ⟨R, hR⟩ : ∃ R, (treeKeysK d.ts).all (fun k => decide (0 ≤ ageAtK d.ag k.b)) = R := ⟨_, rfl⟩
  rw [hR]
  have HX := Lib.hid hR
  clear hR
  go_enter Tryz.func225, Tryz.ntmps225
  go_upto_region 1 with (fail)
  generalize w.alloc (.cells #[.slice A0 d.lo.length c0, .slice A1 d.ts.length c1, .slice A2 d.ag.length c2, .slice A3 d.ce.length c3] 201) = W at *
  obtain ⟨x0, x1, x2, x3, x4⟩ := box4 Q0.out
  go_wp2_with fail
  refine (HK.out _ HB.out).mono ?_
  rintro e w1 ⟨v1, rfl, o, b1⟩
  replace Q0 := Lib.hid (box_on Q0.out b1)
  replace HB := Lib.hid (bstep HB.out b1)
  have HC := Lib.hid (containsG_any v1 (treeKeysK d.ts) d.ag w.heap.size _ _ _ _ w1 o.owns.reads (HG.out.on HB.out) hg Q0.out hl)
  rw [HX.out] at HC
  obtain ⟨A5, c5, rfl, _, _⟩ := o.owns.reads.lenN
  clear x0 x1 x2 x3 x4 o b1
  obtain ⟨x0, x1, x2, x3, x4⟩ := box4 Q0.out
  go_wp2_with fail
  refine HC.out.mono ?_
  rintro e w2 ⟨rfl, b1⟩
  replace HB := Lib.hid (bstep HB.out b1)
  clear b1
  cases R
  all_goals
    go_wp2
    go_ret
    exact ⟨rfl, HB.out⟩
end Go.Proofs.YtlhemcjahcmdeaaGreatDoor
namespace Go.Proofs.YtlhemcjahcmdeaaGreatDoor
open Go.RowKit
set_option maxRecDepth 100000
set_option linter.unusedSimpArgs false
set_option linter.unusedVariables false

/-- Block b is a map with the keys L, in the order in which they were stored; under i lies val i. -/
def MapIs (w : World) (b : Nat) (L : List Nat) (val : Nat → Value) : Prop := ∃ es clock, w.heap[b]? = some (.map es clock) ∧ es.toList.map (fun e => (e.key, e.val)) = L.map (fun (i : Nat) => (Value.int .i64 (i : Int), val i))
theorem MapIs.keep {w w' : World} {b : Nat} {L : List Nat} {val : Nat → Value} (h : MapIs w b L val) (hk : w'.heap[b]? = w.heap[b]?) : MapIs w' b L val := by
  obtain ⟨es, c, hb, r⟩ := h
  exact ⟨es, c, hk.trans hb, r⟩
theorem MapIs.lt {w : World} {b : Nat} {L : List Nat} {val : Nat → Value} (h : MapIs w b L val) : b < w.heap.size := by
  obtain ⟨es, c, hb, r⟩ := h
  exact (Array.getElem?_eq_some_iff.1 hb).1
theorem MapIs.on {w w' : World} {b : Nat} {L : List Nat} {val : Nat → Value} (h : MapIs w b L val) (hb : Below w.heap.size w w') : MapIs w' b L val := h.keep (hb.block b h.lt)
theorem find_lem (val : Nat → Value) (k : Nat) : ∀ (L : List Nat) (es : List MapEntry) (i0 : Nat), es.map (fun e => (e.key, e.val)) = L.map (fun (i : Nat) => (Value.int .i64 (i : Int), val i)) →
    Instr.findNow (.int .i64) (.int .i64 (k : Int)) es i0 = some (if k ∈ L then some (i0 + L.idxOf k, val k) else none)
  | [], es, i0, h => by
    have : es = [] := by simpa using h
    subst this; simp [Instr.findNow]
  | j :: L, [], i0, h => by simp at h
  | j :: L, e :: es, i0, h => by
    simp only [List.map_cons, List.cons.injEq, Prod.mk.injEq] at h
    obtain ⟨⟨h1, h2⟩, h3⟩ := h
    have ih := find_lem val k L es (i0 + 1) h3
    simp only [Instr.findNow, h1, h2, Instr.sameNow]
    by_cases hkj : k = j
    · subst hkj; simp
    · have : ((k : Int) == (j : Int)) = false := by simp; omega
      have hjk : ¬ j = k := fun h => hkj h.symm
      simp only [this, if_true, ih, List.mem_cons, hkj, false_or, List.idxOf_cons]
      by_cases hm : k ∈ L
      · have hbeq : (j == k) = false := by simpa using hjk
        simp [hm, hbeq]; omega
      · simp [hm]
section
variable {P : Program} {w : World} {t k e b : Nat} {L : List Nat} {val : Nat → Value}
theorem run_checkKey (hk : P.underlying k = some (.int .i64)) (em : Bool) (x : Int) : (Instr.checkKey em 10000 k (.int .i64 x)).run P w = .ok () w := by
  unfold Instr.checkKey
  simp [run_underlying hk]
theorem run_findKey (hk : P.underlying k = some (.int .i64)) {es : Array MapEntry} (hes : es.toList.map (fun e => (e.key, e.val)) = L.map (fun (i : Nat) => (Value.int .i64 (i : Int), val i))) (i : Nat) :
    (Instr.findKey k (.int .i64 (i : Int)) es.toList).run P w = .ok (if i ∈ L then some (L.idxOf i, val i) else none) w := by
  simp [Instr.findKey, run_underlying hk, find_lem val i L es.toList 0 hes]
theorem run_getMap {es : Array MapEntry} {c : Nat} (h : w.heap[b]? = some (.map es c)) : (getObj b).run P w = .ok (.map es c) w := by
  simp [getObj, Sem.run, h]
/-- The world in which block b holds o. -/
def putB (w : World) (b : Nat) (o : Obj) : World := { w with heap := w.heap.setIfInBounds b o }
theorem putB_grown (w : World) (b : Nat) (o : Obj) : w.grownBy (putB w b o) (some b) :=
  ⟨rfl, rfl, rfl, by simp [putB], fun i _ hne => by
    have h : b ≠ i := fun h => hne (congrArg some h.symm)
    simp [putB, Array.getElem?_setIfInBounds_ne h]⟩
theorem run_setMap {es : Array MapEntry} {c : Nat} (h : w.heap[b]? = some (.map es c)) (o : Obj) : (setObj b o).run P w = .ok () (putB w b o) := by
  simp [setObj, Sem.run, h, putB]
theorem run_upd (ht : P.underlying t = some (.map k e)) (hk : P.underlying k = some (.int .i64)) (h : MapIs w b L val) (i : Nat) (hin : i ∉ L) :
    ∃ w', (Instr.mapUpdate t (.map (some b)) (.int .i64 (i : Int)) (val i)).run P w = .ok () w' ∧ MapIs w' b (L ++ [i]) val ∧ w.grownBy w' (some b) := by
  obtain ⟨es, c, hb, hes⟩ := h
  have hlt := (Array.getElem?_eq_some_iff.1 hb).1
  refine ⟨putB w b (.map (es.push { key := .int .i64 (i : Int), val := val i, born := c }) (c + 1)), ?_, ⟨es.push { key := .int .i64 (i : Int), val := val i, born := c }, c + 1, by simp [putB, hlt], by simp [hes]⟩, putB_grown _ _ _⟩
  simp [Instr.mapUpdate, run_underlying ht, run_getMap hb, run_checkKey hk, run_findKey hk hes, hin, run_setMap hb]
theorem MapIs.made (w : World) (val : Nat → Value) : MapIs (w.alloc (.map #[] 0)) w.heap.size [] val := ⟨#[], 0, heap_alloc_new w _, rfl⟩
end
end Go.Proofs.YtlhemcjahcmdeaaGreatDoor
namespace Go.Proofs.YtlhemcjahcmdeaaGreatDoor
open Go.RowKit
set_option maxRecDepth 100000
set_option linter.unusedSimpArgs false
set_option linter.unusedVariables false

section
variable {P : Program} {w : World} {t k e b : Nat} {L : List Nat} {val : Nat → Value}
theorem run_look1 (ht : P.underlying t = some (.map k e)) (hk : P.underlying k = some (.int .i64)) (h : MapIs w b L val) (i : Nat) (hin : i ∈ L) :
    (Instr.lookup t (.map (some b)) (.int .i64 (i : Int)) false).run P w = .ok (val i) w := by
  obtain ⟨es, c, hb, hes⟩ := h
  simp [Instr.lookup, run_underlying ht, run_getMap hb, run_checkKey hk, run_findKey hk hes, hin]
theorem run_look1_no (ht : P.underlying t = some (.map k e)) (hk : P.underlying k = some (.int .i64)) {z : Value} (hz : (zeroValue e).run P w = .ok z w) (h : MapIs w b L val) (i : Nat) (hin : i ∉ L) :
    (Instr.lookup t (.map (some b)) (.int .i64 (i : Int)) false).run P w = .ok z w := by
  obtain ⟨es, c, hb, hes⟩ := h
  simp [Instr.lookup, run_underlying ht, run_getMap hb, run_checkKey hk, run_findKey hk hes, hin, hz]
theorem run_lenM (ht : P.underlying t = some (.map k e)) (h : MapIs w b L val) (ty : TypeId) : (Builtin.len_ #[t] ty #[.map (some b)]).run P w = .ok (.int .i64 (L.length : Nat)) w := by
  obtain ⟨es, c, hb, hes⟩ := h
  have hl : es.size = L.length := by simpa using congrArg List.length hes
  simp [Builtin.len_, run_underlying ht, run_getMap hb, goInt, hl]
theorem run_makeMap0 (ht : P.underlying t = some (.map k e)) (w : World) : (Instr.makeMap t none).run P w = .ok (.map (some w.heap.size)) (w.alloc (.map #[] 0)) := by
  simp [Instr.makeMap, run_underlying ht]
end
/-- The cells of the keys, as natural numbers. -/
def natsK (l : List KeyD) : List Nat := l.map (fun k => k.d.toNat)
theorem nats_mem {l : List KeyD} {n : Nat} (h : ∀ k ∈ l, 0 ≤ k.d) : n ∈ natsK l ↔ (n : Int) ∈ l.map (·.d) := by
  unfold natsK
  rw [List.mem_map, List.mem_map]
  constructor
  · rintro ⟨k, hk, rfl⟩
    exact ⟨k, hk, by have := h k hk; omega⟩
  · rintro ⟨k, hk, he⟩
    exact ⟨k, hk, by have := h k hk; omega⟩
theorem key_drop {l : List KeyD} {k : Nat} (h : k < l.length) : l.take (k + 1) = l.take k ++ [l[k]] := List.take_succ_eq_append_getElem h
set_option maxHeartbeats 2000000 in
theorem cellsMatch_any {t : TypeId} (vl vn va vc vv : Value) (d : PoolD) (w : World) (h : RdP t w w.heap.size vl vn va vc vv d) (hs : SmallP d) (hl : (treeKeysK d.ts).length ≤ 2097152) : Calls Tryz.prog 226 #[.agg #[vl, vn, va, vc]] w (SaysBool w (cellsB d)) := by
  have hg : d.ce.length ≤ 2097152 := by have := hs.2.2.1; omega
  have h1 := hs.1
  have HK := Lib.hid (fun W b => refs_any vl vn d.lo d.ts W (h.1.on b) (by omega) (by omega) hl)
  obtain ⟨A0, c0, A1, c1, A2, c2, A3, c3, A4, c4, rfl, rfl, rfl, rfl, rfl⟩ := h.shape
  have HC := Lib.hid (fun W b i g => implCellAt_any (.slice A3 d.ce.length c3) d.ce i g W ((h.2.2.1.on b).retype _) hg)
  have HU := Lib.hid (fun W b => implUsedCells_any (.slice A3 d.ce.length c3) d.ce W ((h.2.2.1.on b).retype _) hg)
  have HB := Lib.hid (bal2 w (.cells #[.slice A0 d.lo.length c0, .slice A1 d.ts.length c1, .slice A2 d.ag.length c2, .slice A3 d.ce.length c3] 201) (.map #[] 0))
  obtain ⟨q0, q1⟩ := al2 w (.cells #[.slice A0 d.lo.length c0, .slice A1 d.ts.length c1, .slice A2 d.ag.length c2, .slice A3 d.ce.length c3] 201) (.map #[] 0)
  have Q0 := Lib.hid q0
  have hmm := run_makeMap0 (P := Tryz.prog) Tryz.underlying304
  have HM : Hid (MapIs _ _ [] (fun _ => .bool true)) := Lib.hid (MapIs.made (w.alloc (.cells #[.slice A0 d.lo.length c0, .slice A1 d.ts.length c1, .slice A2 d.ag.length c2, .slice A3 d.ce.length c3] 201)) (fun _ => .bool true))
  have hz0 : Hid (((w.alloc (.cells #[.slice A0 d.lo.length c0, .slice A1 d.ts.length c1, .slice A2 d.ag.length c2, .slice A3 d.ce.length c3] 201)).alloc (.map #[] 0)).heap.size = w.heap.size + 2) := Lib.hid (by simp)
  obtain ⟨rs, hrs⟩ : ∃ rs, refsK (treeKeysK d.ts) = rs := ⟨_, rfl⟩
  have hrl := refs_len (treeKeysK d.ts)
  rw [hrs] at hrl HK
  have HRS := Lib.hid hrs
  have hrn : rs.length ≤ 2097152 := by omega
  obtain ⟨R, hR⟩ : ∃ R, cellsB d = R := ⟨_, rfl⟩
  rw [hR]
  have HX := Lib.hid hR
  clear h hs hR q0 q1 h1 hrs hrl hl
  go_enter Tryz.func226, Tryz.ntmps226
  simp only [World.size_alloc] at HM
  go_upto_region 2 with (fail)
  clear hmm
  generalize (w.alloc (.cells #[.slice A0 d.lo.length c0, .slice A1 d.ts.length c1, .slice A2 d.ag.length c2, .slice A3 d.ce.length c3] 201)).alloc (.map #[] 0) = W at *
  have hz1 := Nat.le_of_eq hz0.out
  have hz2 := Nat.le_of_eq hz0.out.symm
  obtain ⟨x0, x1, x2, x3, x4⟩ := box4 Q0.out
  go_wp2_with fail
  refine (HK.out _ HB.out).mono ?_
  rintro e w1 ⟨v1, rfl, o, b1⟩
  replace Q0 := Lib.hid (box_on Q0.out b1)
  replace HM := Lib.hid (HM.out.on b1)
  replace HB := Lib.hid (bstep HB.out b1)
  have hz3 := b1.size
  have HO := Lib.hid (o.owns.mono (T := fun b => w.heap.size + 2 ≤ b) (fun b hb => by omega))
  obtain ⟨A5, c5, rfl, _, _⟩ := o.owns.reads.lenN
  clear x0 x1 x2 x3 x4 o b1
  go_wp2
  go_loopw [5, 6, 7, 13] (fun _ _ _ i wr => ∃ k : Nat, k ≤ rs.length ∧ i = .int .i64 k ∧ Hid (∀ j (hj : j < k) (hl : j < rs.length), cellB d.ce (rs[j]).d (rs[j]).e = true) ∧ Hid (((rs.take k).map (·.d)).Nodup) ∧ Hid (MapIs wr (w.heap.size + 1) (natsK (rs.take k)) (fun _ => .bool true)) ∧ Hid (Only (fun b => b = w.heap.size + 1) w1 wr)) (fun _ _ _ i _ => rs.length - (intOf i).toNat)
  case atStart => exact ⟨0, Nat.zero_le _, rfl, Lib.hid (fun j hj => by omega), Lib.hid (by simp), HM, Lib.hid (Only.refl _ _)⟩
  case round =>
    clear HM
    obtain ⟨k, hk, rfl, HI, HND, HM, HW⟩ := hrel
    have HBR := Lib.hid (HB.out.trans (HW.out.below HB.out.size (fun b hb => by omega)))
    have HQR := Lib.hid (box_only Q0.out HW.out (fun hb => by omega))
    have HOR := Lib.hid (HO.out.far HW.out (fun b hb _ hb' => by omega))
    have hzr := HW.out.size
    by_cases hlt : k < rs.length
    · obtain ⟨b, off, rfl, hbb, hc⟩ := HOR.out.reads.keys hlt
      have i1 : (k : Int) < (rs.length : Int) := by omega
      have i2 : (0 : Int) ≤ (k : Int) := by omega
      obtain ⟨y0, y1, y2, y3, y4⟩ := hc k hlt
      have HMISS : Hid (cellB d.ce (rs[k]).d (rs[k]).e = false → R = false) := Lib.hid (fun he => by rw [← HX.out]; exact cells_miss1 (k := rs[k]) (by rw [HRS.out]; exact List.getElem_mem hlt) he)
      have HDUP : Hid ((rs[k]).d ∈ (rs.take k).map (·.d) → R = false) := Lib.hid (fun hm => by
        rw [← HX.out]
        refine cells_miss2 (fun hn => ?_)
        rw [HRS.out] at hn
        have h2 : ((rs.take (k + 1)).map (·.d)).Nodup := hn.sublist ((List.take_sublist _ _).map _)
        rw [key_drop hlt, List.map_append, List.nodup_append] at h2
        exact h2.2.2 _ hm _ (by simp) rfl)
      have HNX : Hid ((rs[k]).d ∉ (rs.take k).map (·.d) → ((rs.take (k + 1)).map (·.d)).Nodup) := Lib.hid (fun hm => by
        rw [key_drop hlt, List.map_append]
        exact nodup_snoc HND.out hm)
      have HNS : Hid (natsK (rs.take (k + 1)) = natsK (rs.take k) ++ [(rs[k]).d.toNat]) := Lib.hid (by rw [key_drop hlt]; unfold natsK; rw [List.map_append]; rfl)
      have HPOS : Hid (∀ x ∈ rs.take k, 0 ≤ x.d) := Lib.hid (fun x hx => by
        obtain ⟨j, hj, rfl⟩ := List.mem_take_iff_getElem.1 hx
        exact cell_nat (HI.out j (by omega) (by omega)))
      have HNEXT : Hid (cellB d.ce (rs[k]).d (rs[k]).e = true → ∀ j (hj : j < k + 1) (hl : j < rs.length), cellB d.ce (rs[j]).d (rs[j]).e = true) := Lib.hid (fun he j hj hl => by
        by_cases h3 : j < k
        · exact HI.out j h3 hl
        · have : j = k := by omega
          subst this
          exact he)
      clear hc
      obtain ⟨v, hv⟩ : ∃ v, v = rs[k] := ⟨_, rfl⟩
      rw [← hv] at y0 y1 y2 y3 y4 HMISS HDUP HNX HNS HNEXT
      clear hv
      have ba := bal1 wr (.cells #[.int .i64 v.a, .int .i64 v.b, .int .i64 v.c, .int .i64 v.d, .int .i64 v.e] 112)
      have QK := Lib.hid (al1 wr (.cells #[.int .i64 v.a, .int .i64 v.b, .int .i64 v.c, .int .i64 v.d, .int .i64 v.e] 112))
      replace HQR := Lib.hid (box_on HQR.out ba)
      replace HM := Lib.hid (HM.out.on ba)
      replace HW := Lib.hid (HW.out.trans (Only.of_below ba _))
      replace HBR := Lib.hid (bstep HBR.out ba)
      clear ba HOR
      go_upto_region 5 with (fail)
      clear y0 y1 y2 y3 y4
      generalize wr.alloc (.cells #[.int .i64 v.a, .int .i64 v.b, .int .i64 v.c, .int .i64 v.d, .int .i64 v.e] 112) = wv at *
      obtain ⟨x0, x1, x2, x3, x4⟩ := box4 HQR.out
      obtain ⟨z0, z1, z2, z3, z4, z5⟩ := box5 QK.out
      go_wp2_with fail
      refine (HC.out _ HBR.out v.d v.e).mono ?_
      rintro e _ ⟨rfl, rfl⟩
      cases hcb : cellB d.ce v.d v.e
      · have HF : Hid (R = false) := Lib.hid (HMISS.out hcb)
        go_wp2
        go_ret
        exact ⟨by rw [HF.out]; rfl, HBR.out⟩
      · obtain ⟨n, hn⟩ : ∃ n : Nat, v.d = (n : Int) := ⟨v.d.toNat, by have := cell_nat hcb; omega⟩
        have HNE := Lib.hid (HNEXT.out hcb)
        have hnt : v.d.toNat = n := by rw [hn]; simp
        rw [hnt] at HNS
        by_cases hin : n ∈ natsK (rs.take k)
        · have HF : Hid (R = false) := Lib.hid (HDUP.out (by rw [hn]; exact (nats_mem HPOS.out).1 hin))
          have hlook : (Instr.lookup 304 (.map (some (w.heap.size + 1))) (.int .i64 v.d) false).run Tryz.prog wv = .ok (.bool true) wv := by
            rw [hn]
            exact run_look1 (P := Tryz.prog) Tryz.underlying304 Tryz.underlying3 HM.out n hin
          clear hn hnt hin
          go_wp2
          go_ret
          exact ⟨by rw [HF.out]; rfl, HBR.out⟩
        · have hlook : (Instr.lookup 304 (.map (some (w.heap.size + 1))) (.int .i64 v.d) false).run Tryz.prog wv = .ok (.bool false) wv := by
            rw [hn]
            exact run_look1_no (P := Tryz.prog) Tryz.underlying304 Tryz.underlying3 (Tryz.zeroValue4 wv) HM.out n hin
          have HND2 := Lib.hid (HNX.out (by rw [hn]; exact fun hm => hin ((nats_mem HPOS.out).2 hm)))
          obtain ⟨w4, hrun, hm4, hg4⟩ := run_upd (P := Tryz.prog) Tryz.underlying304 Tryz.underlying3 HM.out n hin
          have hupd : (Instr.mapUpdate 304 (.map (some (w.heap.size + 1))) (.int .i64 v.d) (.bool true)).run Tryz.prog wv = .ok () w4 := by
            rw [hn]
            exact hrun
          rw [← HNS.out] at hm4
          have HM4 := Lib.hid hm4
          have HW4 : Hid (Only (fun b => b = w.heap.size + 1) w1 w4) := Lib.hid (HW.out.trans (Only.of_grown hg4 rfl))
          clear hn hnt hin hrun hm4 hg4
          go_wp2
          go_roundw
          case rel => exact ⟨k + 1, by omega, by go_num, HNE, HND2, HM4, HW4⟩
          case measure => simp [intOf]; omega
    · have e : k = rs.length := by omega
      subst e
      rw [List.take_length] at HND HM
      have hlen := run_lenM (P := Tryz.prog) Tryz.underlying304 HM.out
      rw [show (natsK rs).length = rs.length by unfold natsK; simp] at hlen
      have HE := Lib.hid (cells_end (d := d) (by
        rw [HRS.out]
        intro x hx
        obtain ⟨j, hj, rfl⟩ := List.mem_iff_getElem.1 hx
        exact HI.out j hj hj) (by rw [HRS.out]; exact HND.out))
      rw [HRS.out, HX.out] at HE
      obtain ⟨x0, x1, x2, x3, x4⟩ := box4 HQR.out
      go_wp2_with fail
      refine (HU.out _ HBR.out).mono ?_
      rintro e w5 ⟨rfl, b1⟩
      have HB5 := Lib.hid (bstep HBR.out b1)
      clear b1 x0 x1 x2 x3 x4
      generalize usedK d.ce = u at *
      by_cases hu : rs.length = u
      · have e1 : ((rs.length : Int) == (u : Int)) = true := by simp; omega
        have HF : Hid (R = true) := Lib.hid (by rw [HE.out, decide_eq_true hu])
        clear hu
        go_wp2
        go_ret
        exact ⟨by rw [HF.out]; rfl, HB5.out⟩
      · have e1 : ((rs.length : Int) == (u : Int)) = false := by simp; omega
        have HF : Hid (R = false) := Lib.hid (by rw [HE.out, decide_eq_false hu])
        clear hu
        go_wp2
        go_ret
        exact ⟨by rw [HF.out]; rfl, HB5.out⟩
end Go.Proofs.YtlhemcjahcmdeaaGreatDoor
