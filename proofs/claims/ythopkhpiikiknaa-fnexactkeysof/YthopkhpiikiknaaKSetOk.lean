/- Contracts for impl.SetOk, spec.SetOk (spec.l4Rises). Conditions: at most 2^21 keys. -/
import Derived.Test.YthopkhpiikiknaaKSetImpl
namespace Go.Proofs.Ythopkhpiikiknaa
open Go.RowKit
set_option maxRecDepth 100000
set_option linter.unusedSimpArgs false
set_option linter.unusedVariables false

theorem okS (x : KeyD) (w : World) : Calls Try.prog 92 #[x.v] w (SaysBool w (okK x)) := specKeyOk_any _ _ _ _ _ w
theorem lessS (x y : KeyD) (w : World) : Calls Try.prog 122 #[x.v, y.v] w (SaysBool w (lessK x y)) := specLessKey_any _ _ _ _ _ _ _ _ _ _ w
theorem all_stepK {l : List KeyD} {k : Nat} (h : k < l.length) (hp : okK l[k] = true) (hf : (l.drop k).all okK = l.all okK) : (l.drop (k + 1)).all okK = l.all okK := by
  rw [drop_at h, List.all_cons, hp] at hf
  exact hf
theorem all_missK {l : List KeyD} {k : Nat} (h : k < l.length) (hp : okK l[k] = false) (hf : (l.drop k).all okK = l.all okK) : l.all okK = false := by
  rw [drop_at h, List.all_cons, hp] at hf
  exact hf.symm
set_option maxHeartbeats 1000000 in
theorem l4Rises_any (v : Value) (l : List KeyD) (w : World) (hv : Reads w w.heap.size v (keysD l)) (hn : l.length ≤ 2097152) : Calls Try.prog 141 #[v] w (SaysBool w (riseB l)) := by
  obtain ⟨A, c, rfl, _, _⟩ := hv.shapeK
  have HT := Lib.hid lessS
  unfold KeyD.v keyV at HT
  have HV := Lib.hid hv
  clear hv
  go_enter Try.func141, Try.ntmps141
  go_wp2
  go_loopw [3] (fun i wr => ∃ j : Nat, (j < l.length ∨ j = 0) ∧ i = .int .i64 ((j : Int) + 1) ∧ Hid (∀ i (h : i < j) (h2 : i + 1 < l.length), lessK l[i] l[i + 1] = true) ∧ Hid (Below w.heap.size w wr)) (fun i _ => l.length - (intOf i).toNat)
  case atStart => exact ⟨0, .inr rfl, rfl, Lib.hid (fun i h => by omega), Lib.hid (Below.refl _ _)⟩
  case round =>
    obtain ⟨j, hj, rfl, HI, HW⟩ := hrel
    by_cases hlt : j + 1 < l.length
    · obtain ⟨b, off, rfl, hbb, hc⟩ := (HV.out.on HW.out).keys hlt
      have F := Lib.hid (hc j (by omega))
      have F' := Lib.hid (hc (j + 1) hlt)
      have i1 : (j : Int) + 1 < (l.length : Int) := by omega
      have i2 : (0 : Int) ≤ (j : Int) + 1 := by omega
      have i3 : IntKind.i64.wrap ((j : Int) + 1 - 1) = (j : Int) := by rw [IntKind.wrap_i64]; omega
      have i7 : IntKind.i64.wrap (j : Int) = (j : Int) := by rw [IntKind.wrap_i64]; omega
      have i4 : (j : Int) < (l.length : Int) := by omega
      have i5 : (0 : Int) ≤ (j : Int) := by omega
      have i6 : ((j : Int) + 1).toNat = j + 1 := by omega
      clear hc
      obtain ⟨c0, c1, c2, c3, c4⟩ := F.out
      obtain ⟨d0, d1, d2, d3, d4⟩ := F'.out
      cases hless : lessK l[j] l[j + 1]
      all_goals
        have HL := Lib.hid hless
        clear hless
        go_wp2
        go_region_held3 (fun W => W.cell? ⟨b, off + j * 5, none⟩ = some (.int .i64 (l[j]).a) ∧ W.cell? ⟨b, off + j * 5 + 1, none⟩ = some (.int .i64 (l[j]).b) ∧ W.cell? ⟨b, off + j * 5 + 2, none⟩ = some (.int .i64 (l[j]).c) ∧ W.cell? ⟨b, off + j * 5 + 3, none⟩ = some (.int .i64 (l[j]).d) ∧ W.cell? ⟨b, off + j * 5 + 4, none⟩ = some (.int .i64 (l[j]).e) ∧ W.cell? ⟨b, off + (j + 1) * 5, none⟩ = some (.int .i64 (l[j + 1]).a) ∧ W.cell? ⟨b, off + (j + 1) * 5 + 1, none⟩ = some (.int .i64 (l[j + 1]).b) ∧ W.cell? ⟨b, off + (j + 1) * 5 + 2, none⟩ = some (.int .i64 (l[j + 1]).c) ∧ W.cell? ⟨b, off + (j + 1) * 5 + 3, none⟩ = some (.int .i64 (l[j + 1]).d) ∧ W.cell? ⟨b, off + (j + 1) * 5 + 4, none⟩ = some (.int .i64 (l[j + 1]).e))
          (first | with_reducible exact (F.out.on hbb B8).and (F'.out.on hbb B8) | with_reducible exact (F.out.on hbb (Below.drew1 _)).and (F'.out.on hbb (Below.drew1 _)) | exact F.out.and F'.out | fail)
          (first
            | (go_at_call 122; refine (HT.out _ _ _).mono ?_; rintro r w8 ⟨rfl, b8⟩; rw [HL.out]; have B8 := bstep (Below.drew1 _) b8)
            | fail)
        all_goals
          have BC := Lib.hid (HW.out.trans (B8.mono HW.out.size))
          clear B8 b8 c0 c1 c2 c3 c4 d0 d1 d2 d3 d4
          go_wp2
          first
            | go_ret
              refine ⟨ret_boolB ?_, BC.out⟩
              symm
              refine decide_eq_false (fun h => ?_)
              have h2 := h j (by omega)
              rw [HL.out] at h2
              cases h2
            | go_roundw
              case rel => exact ⟨j + 1, .inl hlt, by go_num, Lib.hid (rise_snoc hlt HI.out HL.out), BC⟩
              case measure => simp [intOf]; omega
    · have i2 : ¬ (j : Int) + 1 < (l.length : Int) := by omega
      go_wp2
      go_ret
      refine ⟨ret_boolB ?_, HW.out⟩
      symm
      exact decide_eq_true (fun i h => HI.out i (by omega) (by omega))
set_option maxHeartbeats 1000000 in
theorem specSetOk_any (v : Value) (l : List KeyD) (w : World) (hv : Reads w w.heap.size v (keysD l)) (hn : l.length ≤ 2097152) : Calls Try.prog 134 #[v] w (SaysBool w (setOkB l)) := by
  obtain ⟨A, c, rfl, _, _⟩ := hv.shapeK
  have HT := Lib.hid okS
  unfold KeyD.v keyV at HT
  have HA := Lib.hid (fun w => l4Rises_any (.slice A l.length c) l w)
  obtain ⟨R, hR⟩ : ∃ R, setOkB l = R := ⟨_, rfl⟩
  rw [hR]
  have HR := Lib.hid hR
  have HV := Lib.hid hv
  clear hv hR
  go_enter Try.func134, Try.ntmps134
  go_wp2
  go_loopw [3] (fun i wr => ∃ k : Nat, k ≤ l.length ∧ i = .int .i64 k ∧ Hid ((l.drop k).all okK = l.all okK) ∧ Hid (Below w.heap.size w wr)) (fun i _ => l.length - (intOf i).toNat)
  case atStart => exact ⟨0, Nat.zero_le _, rfl, Lib.hid rfl, Lib.hid (Below.refl _ _)⟩
  case round =>
    obtain ⟨k, hk, rfl, HI, HW⟩ := hrel
    have hzr := HW.out.size
    by_cases hlt : k < l.length
    · obtain ⟨b, off, rfl, hbb, hc⟩ := (HV.out.on HW.out).keys hlt
      have i1 : (k : Int) < (l.length : Int) := by omega
      have i2 : (0 : Int) ≤ (k : Int) := by omega
      obtain ⟨c0, c1, c2, c3, c4⟩ := hc k hlt
      clear hc
      cases hs : okK l[k]
      all_goals
        have HS := Lib.hid hs
        clear hs
        go_wp2_with fail
        refine (HT.out l[k] _).mono ?_
        rintro r w1 ⟨rfl, b1⟩
        rw [HS.out]
        have B1 := Lib.hid (HW.out.trans (b1.mono HW.out.size))
        clear c0 c1 c2 c3 c4 b1
        go_wp2
        first
          | go_roundw
            case rel => exact ⟨k + 1, by omega, by go_num, Lib.hid (all_stepK hlt HS.out HI.out), B1⟩
            case measure => simp [intOf]; omega
          | go_ret
            refine ⟨ret_boolB ?_, B1.out⟩
            rw [← HR.out, setOkB, all_missK hlt HS.out HI.out]
            rfl
    · have hall : l.all okK = true := by
        rw [← HI.out, List.drop_eq_nil_of_le (by omega)]
        rfl
      have HL := Lib.hid hall
      clear hall
      cases hri : riseB l
      all_goals
        have HRI := Lib.hid hri
        clear hri
        go_wp2_with fail
        refine (HA.out _ (HV.out.on HW.out) hn).mono ?_
        rintro r w2 ⟨rfl, b2⟩
        rw [HRI.out]
        have B2 := Lib.hid (bstep HW.out b2)
        clear b2
        go_wp2
        go_ret
        refine ⟨ret_boolB ?_, B2.out⟩
        rw [← HR.out, setOkB, HL.out, HRI.out]
        first
          | simp; done
          | (simp only [Bool.true_and, Bool.and_self]; exact decide_eq_decide.2 (by omega))
end Go.Proofs.Ythopkhpiikiknaa
