/- Contracts for slices.Clone and slices.IndexFunc at cells, impl.unusedCell, TakeCell, FreeCell, CellsNew, and spec.l9Copy, TakeCell, FreeCell, CellsNew. Conditions: at most 2^21 cells. -/
import Derived.Test.YtikopfekpnfkbaaCelArr
import Derived.Test.YtikopfekpnfkbaaCellLaw
namespace Go.Proofs.Ytikopfekpnfkbaa
open Go.RowKit
set_option maxRecDepth 100000
set_option linter.unusedSimpArgs false
set_option linter.unusedVariables false

/-- What lies in blocks from p to q, its own. -/
abbrev OwnQ (w : World) (p q : Nat) (v : Value) (c : Dat) : Prop := Owns w (fun b => p ≤ b ∧ b < q) v c
theorem RowCel.ownR {w : World} {base : Nat} {v : Value} {l : List CelD} (h : RowCel w base v l) : OwnQ w base w.heap.size v (celsT 34 l) := h.owns.lt
/-- A call leaves cells in memory of its own: in a row or in an array. -/
def NewCe (w : World) (l : List CelD) (e : Ending) (w' : World) : Prop := ∃ v t, e = .returned v ∧ OwnQ w' w.heap.size w'.heap.size v (celsT t l) ∧ Below w.heap.size w w'
/-- A call leaves cells in memory of its own, and an index and a bool. -/
def NewCeB (w : World) (l : List CelD) (n : Int) (b : Bool) (e : Ending) (w' : World) : Prop := ∃ v t, e = .returned (.tuple #[v, .int .i64 n, .bool b]) ∧ OwnQ w' w.heap.size w'.heap.size v (celsT t l) ∧ Below w.heap.size w w'
theorem RwCel.arr {w : World} {g : Nat} {t : TypeId} {l : List CelD} (h : w.heap[g]? = some (.cells (celvl l).toArray t (0, 0))) (hl : l.length = 24) : RwCel t w g 24 l :=
  ⟨_, h, celvl_size hl, by rw [List.toList_toArray, List.take_of_length_le (by rw [celvl_len]; omega)]⟩
theorem RwCel.ownQ {w : World} {g p : Nat} {t : TypeId} {l : List CelD} (h : RwCel t w g 24 l) (hl : l.length = 24) (hp : p ≤ g) : OwnQ w p w.heap.size (.slice (some ⟨g, 0, none⟩) 24 24) (celsT t l) := by
  have h1 := h.owns (S := fun b => p ≤ b ∧ b < w.heap.size) ⟨hp, Rw.lt h⟩ (by omega) (by unfold maxLen; omega)
  rw [hl] at h1
  exact h1
set_option maxHeartbeats 1000000 in
theorem cloneC_any (v : Value) (l : List CelD) (w : World) (hv : Reads w w.heap.size v (celsD l)) (hn : l.length ≤ 2097152) : Calls Try.prog 41 #[v] w (NewCel w l) := by
  obtain ⟨A, c, rfl, _, _⟩ := hv.shapeCel
  have hA := Reads.atCel hv
  rcases A with _ | ad
  · have h0 : l = [] := by
      rcases hA with h | ⟨b, off, h, _⟩
      · have := congrArg List.length h
        rw [celvl_len] at this
        exact List.length_eq_zero_iff.1 (by simp at this; omega)
      · cases h
    subst h0
    have hq := run_eqnil (P := Try.prog) w 24 34 none 0 c Try.underlying24
    clear hA hv
    go_enter Try.func41, Try.ntmps41
    go_wp2
    go_ret
    exact ⟨_, rfl, row_nil _ _ _ _, Below.refl _ _⟩
  · have HA := Lib.hid (hA.on (bal1 w (.cells #[] 34)))
    have ho0 := RowCel.lit w
    have HB := Lib.hid (bal1 w (.cells #[] 34))
    have HZ := Lib.hid HB.out.size
    have hq := run_eqnil (P := Try.prog) w 24 34 (some ad) l.length c Try.underlying24
    clear hA hv
    go_enter Try.func41, Try.ntmps41
    go_wp2_with (at_builtin; refine wpList_appCel _ rfl (.tmp 5) (.tmp 6) rfl w.heap.size _ [] rfl ho0 (some ad) l.length c l rfl rfl HA.out (by simp; omega) HZ.out ?_; intro v1 w1 o1 b1; clear ho0)
    have B1 := Lib.hid (HB.out.trans b1)
    rw [List.nil_append] at o1
    go_ret
    exact ⟨v1, rfl, o1, B1.out⟩
set_option maxHeartbeats 1000000 in
theorem l9Copy_any (v : Value) (l : List CelD) (w : World) (hv : Reads w w.heap.size v (celsD l)) (hn : l.length ≤ 2097152) : Calls Try.prog 43 #[v] w (NewCel w l) := by
  obtain ⟨A, c, rfl, _, _⟩ := hv.shapeCel
  have HA := Lib.hid ((Reads.atCel hv).on (bal1 w (.cells #[] 34)))
  have ho0 := RowCel.lit w
  have HB := Lib.hid (bal1 w (.cells #[] 34))
  have HZ := Lib.hid HB.out.size
  clear hv
  go_enter Try.func43, Try.ntmps43
  go_wp2_with (at_builtin; refine wpList_appCel _ rfl (.tmp 3) (.tmp 4) rfl w.heap.size _ [] rfl ho0 A l.length c l rfl rfl HA.out (by simp; omega) HZ.out ?_; intro v1 w1 o1 b1; clear ho0)
  have B1 := Lib.hid (HB.out.trans b1)
  rw [List.nil_append] at o1
  go_ret
  exact ⟨v1, rfl, o1, B1.out⟩
theorem unused1_any (x : CelD) (w : World) : Calls Try.prog 54 #[.agg #[.int .i64 x.a, .bool x.b, .int .i64 x.c]] w (SaysBool w (!x.b)) := by
  have HB := Lib.hid (bal3C w x 34)
  obtain ⟨a, b, c⟩ := x
  dsimp only at HB ⊢
  cases b
  all_goals
    go_enter Try.func54, Try.ntmps54
    go_wp2
    go_ret
    exact ⟨rfl, HB.out⟩
/-- The place of the first cell that is not used, or -1. -/
def idleK (l : List CelD) : Int := if idleI l < l.length then (idleI l : Int) else -1
set_option maxHeartbeats 1000000 in
theorem indexFuncC_any (v : Value) (l : List CelD) (w : World) (hv : Reads w w.heap.size v (celsD l)) (hn : l.length ≤ 2097152) :
    Calls Try.prog 53 #[v, .func (.func 54) #[] #[]] w fun e w' => e = .returned (.int .i64 (idleK l)) ∧ Below w.heap.size w w' := by
  obtain ⟨A, c, rfl, _, _⟩ := hv.shapeCel
  have HT := Lib.hid unused1_any
  have HV := Lib.hid hv
  clear hv
  obtain ⟨R, hR⟩ : ∃ R, idleK l = R := ⟨_, rfl⟩
  rw [hR]
  have HR := Lib.hid hR
  clear hR
  go_enter Try.func53, Try.ntmps53
  go_wp2
  go_loopw [5, 8] (fun _ i wr => ∃ k : Nat, k ≤ l.length ∧ i = .int .i64 k ∧ Hid (idleI l = k + idleI (l.drop k)) ∧ Hid (Below w.heap.size w wr)) (fun _ i _ => l.length - (intOf i).toNat)
  case atStart => exact ⟨0, Nat.zero_le _, rfl, Lib.hid (by simp), Lib.hid (Below.refl _ _)⟩
  case round =>
    obtain ⟨k, hk, rfl, HI, HB⟩ := hrel
    by_cases hlt : k < l.length
    · obtain ⟨b, off, rfl, hbb, hc⟩ := (HV.out.on HB.out).cels hlt
      have i1 : (k : Int) < (l.length : Int) := by omega
      have i2 : (0 : Int) ≤ (k : Int) := by omega
      obtain ⟨c0, c1, c2⟩ := hc k hlt
      clear hc
      obtain ⟨u, hu⟩ : ∃ u, (l[k]).b = u := ⟨_, rfl⟩
      have HU := Lib.hid hu
      have HX := Lib.hid (HT.out l[k])
      rw [hu] at HX c1
      clear hu
      cases u
      · go_wp2_with fail
        go_at_call 54
        refine (HX.out _).mono ?_
        rintro r w8 ⟨rfl, b8⟩
        have B8 := Lib.hid (bstep HB.out b8)
        have HRK : Hid (R = (k : Int)) := Lib.hid (by rw [← HR.out]; unfold idleK; rw [idle_hit hlt HU.out HI.out, if_pos hlt])
        clear b8 c0 c1 c2
        go_wp2
        go_ret
        exact ⟨by rw [HRK.out]; rfl, B8.out⟩
      · go_wp2_with fail
        go_at_call 54
        refine (HX.out _).mono ?_
        rintro r w8 ⟨rfl, b8⟩
        have B8 := Lib.hid (bstep HB.out b8)
        clear b8 c0 c1 c2
        go_wp2
        go_roundw
        case rel => exact ⟨k + 1, by omega, by go_num, Lib.hid (idle_step hlt HU.out HI.out), B8⟩
        case measure => simp [intOf]; omega
    · have HRK : Hid (R = -1) := Lib.hid (by rw [← HR.out]; unfold idleK; rw [if_neg (by rw [HI.out]; omega)])
      go_wp2
      go_ret
      exact ⟨by rw [HRK.out]; rfl, HB.out⟩
theorem unusedCell_any (v : Value) (l : List CelD) (w : World) (hv : Reads w w.heap.size v (celsD l)) (hn : l.length ≤ 2097152) :
    Calls Try.prog 39 #[v] w fun e w' => e = .returned (.int .i64 (idleK l)) ∧ Below w.heap.size w w' := by
  obtain ⟨A, c, rfl, _, _⟩ := hv.shapeCel
  have HI := Lib.hid (indexFuncC_any _ l w hv hn)
  clear hv
  go_enter Try.func39, Try.ntmps39
  go_wp2_with fail
  refine HI.out.mono ?_
  rintro r w8 ⟨rfl, b8⟩
  go_wp2
  go_ret
  exact ⟨rfl, b8⟩
theorem implCellsNew_any (w : World) : Calls Try.prog 28 #[] w (NewCe w noCells) := by
  have hz := (zero_of_info arr_info).1
  have HQ := Lib.hid (al1 w (.cells zeroA 58))
  have HB := Lib.hid (bal1 w (.cells zeroA 58))
  go_enter Try.func28, Try.ntmps28
  go_wp2
  go_ret
  exact ⟨_, _, rfl, (RwCel.arr HQ.out rfl).ownQ rfl (Nat.le_refl _), HB.out⟩
theorem specCellsNew_any (w : World) : Calls Try.prog 29 #[] w (NewCe w noCells) := by
  have hm : madeCells #[.int .i64 0, .bool false, .int .i64 0] (24 * 3) = zeroA := by kernel_rfl
  have hmk : (Instr.makeSlice 24 (.int .i64 24) (.int .i64 24)).run Try.prog w = .ok (.slice (some ⟨w.heap.size, 0, none⟩) 24 24) (w.alloc (.cells zeroA 34)) := by
    have h := run_makeCel 24 24 (Nat.le_refl _) (by omega) w
    rw [hm] at h
    exact h
  have HQ := Lib.hid (al1 w (.cells zeroA 34))
  have HB := Lib.hid (bal1 w (.cells zeroA 34))
  clear hm
  go_enter Try.func29, Try.ntmps29
  go_wp2
  go_ret
  exact ⟨_, _, rfl, (RwCel.arr HQ.out rfl).ownQ rfl (Nat.le_refl _), HB.out⟩
end Go.Proofs.Ytikopfekpnfkbaa
