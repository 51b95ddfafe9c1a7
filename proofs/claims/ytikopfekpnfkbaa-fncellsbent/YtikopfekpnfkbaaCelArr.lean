/- Contracts for impl.cellsOf and impl.CellsNew: cells in an array. Conditions: a list of 24 cells. -/
import Derived.Test.YtikopfekpnfkbaaCelOk
import Derived.Test.YtikopfekpnfkbaaArr
namespace Go.Proofs.Ytikopfekpnfkbaa
open Go.RowKit
set_option maxRecDepth 100000
set_option linter.unusedSimpArgs false
set_option linter.unusedVariables false

def noCells : List CelD := List.replicate 24 ⟨0, false, 0⟩
def zeroA : Array Value := (celvl noCells).toArray
theorem arr_info : (Try.prog.info? 58).map (fun i => (i.zero, i.size)) = some (some (.agg zeroA), 72) := by kernel_rfl
theorem arr_size {c : Array Value} (h : c.size = 72) : (Try.prog.info? 58).map (·.size) = some c.size := by rw [h]; exact (zero_of_info arr_info).2
theorem cel_size : (Try.prog.info? 34).map (·.size) = some 3 := by kernel_rfl
theorem zeroA_size : zeroA.size = 72 := by kernel_rfl
theorem celvl_size {l : List CelD} (h : l.length = 24) : (celvl l).toArray.size = 72 := by simp [celvl_len, h]
theorem celvl_all (l : List CelD) : (celvl l).toArray.all (·.oneCell') = true := all_oneCell_toArray (celvl_cells l)
set_option maxHeartbeats 1000000 in
theorem cellsOf_any (v : Value) (l : List CelD) (w : World) (hv : Reads w w.heap.size v (celsD l)) (hn : l.length = 24) :
    Calls Try.prog 42 #[v] w fun e w' => e = .returned (.agg (celvl l).toArray) ∧ Below w.heap.size w w' := by
  obtain ⟨A, c, rfl, _, _⟩ := hv.shapeCel
  have hz := (zero_of_info arr_info).1
  obtain ⟨q0, q1⟩ := al2 w (.cells zeroA 58) (.cells zeroA 58)
  have hb := bal2 w (.cells zeroA 58) (.cells zeroA 58)
  have hA := (hv.on hb).atCel
  have Q0 := Lib.hid q0
  have Q1 := Lib.hid q1
  have HB := Lib.hid hb
  have HN := Lib.hid hn
  have HA := Lib.hid hA
  clear hb q0 q1 hv hA
  go_enter Try.func42, Try.ntmps42
  go_upto_region 2 with (fail)
  generalize (w.alloc (.cells zeroA 58)).alloc (.cells zeroA 58) = W at *
  obtain ⟨b, off, rfl, hcell⟩ : ∃ b off, A = some ⟨b, off, none⟩ ∧ ∀ (i : Nat) (h : i < (celvl l).length), W.cell? ⟨b, off + i, none⟩ = some (celvl l)[i] := by
    rcases HA.out with h | h
    · have := congrArg List.length h
      rw [celvl_len, HN.out] at this
      simp at this
    · exact h
  have HS : Hid (∀ j v, (celvl l)[j]? = some v → W.cell? ((⟨b, off, none⟩ : Addr).add j) = some v) := Lib.hid (fun j v hj => by
    obtain ⟨h1, h2⟩ := List.getElem?_eq_some_iff.1 hj
    rw [Addr.add_mid, hcell j h1, h2])
  have HSZ := Lib.hid (celvl_size hn)
  rw [hn]
  clear hcell hn HA
  go_upto_region 3 with (refine wpList_arrCopy rfl (.tmp 4) (.tmp 5) 24 24 rfl 34 3 Try.underlying24 cel_size (w.heap.size + 1) 24 24 ⟨b, off, none⟩ c rfl rfl zeroA 58 Q1.out (celvl l) (by rw [celvl_len, HN.out]) HS.out (by rw [celvl_len, HN.out, zeroA_size]) (celvl_cells l) w.heap.size w HB.out (by omega) ?_; intro w2 h2 b2 k2)
  have h0 := (k2 w.heap.size (by omega)).trans Q0.out
  go_wp2_with (first | (refine wpList_load_row rfl 58 (.tmp 3) rfl (w.heap.size + 1) rfl 58 (celvl l).toArray (0, 0) _ h2 Try.underlying58 rfl (arr_size HSZ.out) ?_) | (refine wpList_arrStore rfl 58 (.tmp 2) (.tmp 7) rfl w.heap.size (celvl l).toArray zeroA 58 rfl rfl h0 (arr_size HSZ.out) (by rw [HSZ.out, zeroA_size]) (celvl_all l) w.heap.size w b2 (Nat.le_refl _) ?_; intro w3 h3 b3 k3))
  refine bodyPost_ret (v := .agg (celvl l).toArray) (results_cell_row rfl _ _ w.heap.size 58 (celvl l).toArray (0, 0) _ rfl h3 Try.underlying58 rfl (arr_size HSZ.out)) rfl ?_
  exact ⟨rfl, b3⟩
end Go.Proofs.Ytikopfekpnfkbaa
