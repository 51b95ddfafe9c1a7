/- The walks of FnExactCellsNew, CellsOk, TakeCell, FreeCell, CellAt and UsedCells: at every argument the call returns true and writes nothing that was there. No condition. -/
import Derived.Test.YtikopfekpnfkbaaCelSTake
namespace Go.Proofs.Ytikopfekpnfkbaa
open Go.RowKit
set_option maxRecDepth 100000
set_option linter.unusedSimpArgs false
set_option linter.unusedVariables false

abbrev RdC (w : World) (v : Value) (t : TypeId) (l : List CelD) : Prop := Reads w w.heap.size v (celsT t l)
theorem OwnQ.rd {w : World} {p q : Nat} {v : Value} {t : TypeId} {l : List CelD} (h : OwnQ w p q v (celsT t l)) : Reads w w.heap.size v (celsD l) := (Owns.reads h).retype _
theorem SaysCell.bel {w w' : World} {n : Int} {b : Bool} {e : Ending} (h : SaysCell w n b e w') : e = .returned (.tuple #[.int .i64 n, .bool b]) ∧ Below w.heap.size w w' := by
  obtain ⟨h1, rfl⟩ := h
  exact ⟨h1, Below.refl _ _⟩
set_option maxHeartbeats 4000000 in
theorem exactCellsNew_walk (w : World) : Calls Try.prog 5 #[] w fun e w' => e = .returned (.bool true) ∧ Below w.heap.size w w' := by
  obtain ⟨R, hR⟩ : ∃ R, noCells = R := ⟨_, rfl⟩
  have hRn : R.length ≤ 1048576 := by rw [← hR]; decide
  have HR := Lib.hid hR
  clear hR
  have BB := Lib.hid (Below.refl w.heap.size w)
  go_enter Try.func5, Try.ntmps5
  go_wp2_with fail
  refine (specCellsNew_any _).mono ?_
  rintro r w1 ⟨vS, tS, rfl, o, b⟩
  have zS := b.size
  replace BB := Lib.hid (bstep BB.out b)
  have OS := Lib.hid o
  clear o b
  rw [HR.out] at OS
  go_wp2_with fail
  refine (implCellsNew_any _).mono ?_
  rintro r w2 ⟨vG, tG, rfl, o, b⟩
  have zG := b.size
  replace OS := Lib.hid (OS.out.on b)
  replace BB := Lib.hid (bstep BB.out b)
  have OG := Lib.hid o
  clear o b
  rw [HR.out] at OG
  go_wp2_with fail
  refine (eqCellS_same _ _ R _ OG.out.reads OS.out.reads (by omega)).mono ?_
  rintro r w3 ⟨rfl, b⟩
  have z3 := b.size
  replace OS := Lib.hid (OS.out.on b)
  replace OG := Lib.hid (OG.out.on b)
  replace BB := Lib.hid (bstep BB.out b)
  clear b
  go_wp2_with fail
  refine (markCellS_any _ _ R 1 _ OG.out (by omega) (by omega) (by omega)).mono ?_
  rintro r w4 ⟨rfl, o, g⟩
  have z4 := g.size
  replace OS := Lib.hid (OS.out.far g (fun b hb _ hb' => by omega))
  replace BB := Lib.hid (BB.out.trans (g.below BB.out.size (fun b hb => by omega)))
  replace OG := Lib.hid o
  clear o g
  have d2 : decide ((1 : Int) + ((R.length * 3 : Nat) : Int) < 0) = false := decide_eq_false (by omega)
  have d3 : ((1 : Int) + ((R.length * 3 : Nat) : Int) != (1 : Int) + ((R.length * 3 : Nat) : Int)) = false := by simp
  generalize hq : (1 : Int) + ((R.length * 3 : Nat) : Int) = q at *
  have HQ := Lib.hid hq
  clear hq
  go_wp2_with fail
  refine (heldCellS_any _ R 1 _ OG.out.reads (by omega) (by omega) (by omega)).mono ?_
  rintro r _ ⟨rfl, rfl⟩
  rw [HQ.out]
  go_wp2_with fail
  refine (implCellsNew_any _).mono ?_
  rintro r w5 ⟨vH, tH, rfl, o, b⟩
  have zH := b.size
  replace OS := Lib.hid (OS.out.on b)
  replace OG := Lib.hid (OG.out.on b)
  replace BB := Lib.hid (bstep BB.out b)
  have OH := Lib.hid o
  clear o b
  rw [HR.out] at OH
  go_wp2_with fail
  refine (eqCellS_same _ _ R _ OH.out.reads OS.out.reads (by omega)).mono ?_
  rintro r w6 ⟨rfl, b⟩
  have z6 := b.size
  replace OS := Lib.hid (OS.out.on b)
  replace OG := Lib.hid (OG.out.on b)
  replace OH := Lib.hid (OH.out.on b)
  replace BB := Lib.hid (bstep BB.out b)
  clear b
  go_wp2_with fail
  refine (heldCellS_any _ R 1 _ OG.out.reads (by omega) (by omega) (by omega)).mono ?_
  rintro r _ ⟨rfl, rfl⟩
  rw [HQ.out]
  go_wp2
  go_ret
  exact ⟨rfl, BB.out⟩
set_option maxHeartbeats 4000000 in
theorem exactCellsOk_walk (v : Value) (l : List CelD)  (w : World) (hv : Reads w w.heap.size v (celsA l))  : Calls Try.prog 6 #[v] w fun e w' => e = .returned (.bool true) ∧ Below w.heap.size w w' := by
  obtain ⟨A, c, rfl, hc1, hc2⟩ := hv.shapeCel
  have HV := Lib.hid hv
  clear hv
  by_cases hn : l.length ≤ 1048576
  · have HT := Lib.hid (fun w' (b : Below w.heap.size w w') => (toCellS_any (.slice A l.length c) l w' (HV.out.on b) hn).mono (fun e w'' h => h.ce))
    obtain ⟨K, hK⟩ : ∃ K, celsOkB l = K := ⟨_, rfl⟩
    have HK := Lib.hid hK
    clear hK
    have hneK : (K != K) = false := by simp
    have BB := Lib.hid (Below.refl w.heap.size w)
    go_enter Try.func6, Try.ntmps6
    go_wp2_with fail
    refine (szCel_small _ _ _ _ hn 1048576 (by omega) (by omega)).mono ?_
    rintro r w0 ⟨rfl, rfl⟩
    have d0 : decide ((1048576 : Int) - (l.length : Int) < 0) = false := decide_eq_false (by omega)
    go_wp2_with fail
    refine (HT.out _ BB.out).mono ?_
    rintro r w1 ⟨vT, tT, rfl, o, b⟩
    have zT := b.size
    replace BB := Lib.hid (bstep BB.out b)
    have OT := Lib.hid o
    clear o b
    clear d0
    go_wp2_with fail
    refine (specCellsOk_any _ l  _ OT.out.rd (by omega)).mono ?_
    rintro r _ ⟨rfl, rfl⟩
    rw [HK.out]
    clear OT
    go_wp2_with fail
    refine (HT.out _ BB.out).mono ?_
    rintro r w2 ⟨vX, tX, rfl, o, b⟩
    have zX := b.size
    replace BB := Lib.hid (bstep BB.out b)
    have OX := Lib.hid o
    clear o b
    go_wp2_with fail
    refine (implCellsOk_any _ l  _ OX.out.rd (by omega)).mono ?_
    rintro r w3 ⟨rfl, b⟩
    have z3 := b.size
    replace OX := Lib.hid (OX.out.on b)
    replace BB := Lib.hid (bstep BB.out b)
    clear b
    rw [HK.out]
    go_wp2_with fail
    refine (HT.out _ BB.out).mono ?_
    rintro r w4 ⟨vY, tY, rfl, o, b⟩
    have zY := b.size
    replace OX := Lib.hid (OX.out.on b)
    replace BB := Lib.hid (bstep BB.out b)
    have OY := Lib.hid o
    clear o b
    go_wp2_with fail
    refine (eqCellS_same _ _ l _ OX.out.reads OY.out.reads (by omega)).mono ?_
    rintro r w5 ⟨rfl, b⟩
    have z5 := b.size
    replace OX := Lib.hid (OX.out.on b)
    replace OY := Lib.hid (OY.out.on b)
    replace BB := Lib.hid (bstep BB.out b)
    clear b
    go_wp2
    go_ret
    exact ⟨rfl, BB.out⟩
  · go_enter Try.func6, Try.ntmps6
    go_wp2_with fail
    refine (szCel_big _ _ _ _ (by omega) 1048576 (by omega) (by omega) (by omega)).mono ?_
    rintro r w0 ⟨rfl, rfl⟩
    go_wp2
    go_ret
    exact ⟨rfl, Below.refl _ _⟩
set_option maxHeartbeats 4000000 in
theorem exactCellAt_walk (v : Value) (l : List CelD) (i : Int) (g : Int) (w : World) (hv : Reads w w.heap.size v (celsA l)) (_ : (Lit.int .i64 i).wf = true) (_ : (Lit.int .i64 g).wf = true) : Calls Try.prog 9 #[v, .int .i64 i, .int .i64 g] w fun e w' => e = .returned (.bool true) ∧ Below w.heap.size w w' := by
  obtain ⟨A, c, rfl, hc1, hc2⟩ := hv.shapeCel
  have HV := Lib.hid hv
  clear hv
  by_cases hn : l.length ≤ 1048576
  · have HT := Lib.hid (fun w' (b : Below w.heap.size w w') => (toCellS_any (.slice A l.length c) l w' (HV.out.on b) hn).mono (fun e w'' h => h.ce))
    obtain ⟨K, hK⟩ : ∃ K, cellK l i g = K := ⟨_, rfl⟩
    have HK := Lib.hid hK
    clear hK
    have hneK : (K != K) = false := by simp
    obtain ⟨O, hO⟩ : ∃ O, cellB l i g = O := ⟨_, rfl⟩
    have HO := Lib.hid hO
    clear hO
    have hneO : (O != O) = false := by simp
    have BB := Lib.hid (Below.refl w.heap.size w)
    go_enter Try.func9, Try.ntmps9
    go_wp2_with fail
    refine (szCel_small _ _ _ _ hn 1048576 (by omega) (by omega)).mono ?_
    rintro r w0 ⟨rfl, rfl⟩
    have d0 : decide ((1048576 : Int) - (l.length : Int) < 0) = false := decide_eq_false (by omega)
    go_wp2_with fail
    refine (HT.out _ BB.out).mono ?_
    rintro r w1 ⟨vT, tT, rfl, o, b⟩
    have zT := b.size
    replace BB := Lib.hid (bstep BB.out b)
    have OT := Lib.hid o
    clear o b
    clear d0
    go_wp2_with fail
    refine (specCellAt_any _ l i g _ OT.out.rd (by omega)).mono ?_
    rintro r _ ⟨rfl, rfl⟩
    rw [HK.out, HO.out]
    clear OT
    go_wp2_with fail
    refine (HT.out _ BB.out).mono ?_
    rintro r w2 ⟨vX, tX, rfl, o, b⟩
    have zX := b.size
    replace BB := Lib.hid (bstep BB.out b)
    have OX := Lib.hid o
    clear o b
    go_wp2_with fail
    refine ((implCellAt_any _ l i g _ OX.out.rd (by omega)).mono (fun _ _ h => h.bel)).mono ?_
    rintro r w3 ⟨rfl, b⟩
    have z3 := b.size
    replace OX := Lib.hid (OX.out.on b)
    replace BB := Lib.hid (bstep BB.out b)
    clear b
    rw [HK.out, HO.out]
    go_wp2_with fail
    refine (HT.out _ BB.out).mono ?_
    rintro r w4 ⟨vY, tY, rfl, o, b⟩
    have zY := b.size
    replace OX := Lib.hid (OX.out.on b)
    replace BB := Lib.hid (bstep BB.out b)
    have OY := Lib.hid o
    clear o b
    go_wp2_with fail
    refine (eqCellS_same _ _ l _ OX.out.reads OY.out.reads (by omega)).mono ?_
    rintro r w5 ⟨rfl, b⟩
    have z5 := b.size
    replace OX := Lib.hid (OX.out.on b)
    replace OY := Lib.hid (OY.out.on b)
    replace BB := Lib.hid (bstep BB.out b)
    clear b
    go_wp2
    go_ret
    exact ⟨rfl, BB.out⟩
  · go_enter Try.func9, Try.ntmps9
    go_wp2_with fail
    refine (szCel_big _ _ _ _ (by omega) 1048576 (by omega) (by omega) (by omega)).mono ?_
    rintro r w0 ⟨rfl, rfl⟩
    go_wp2
    go_ret
    exact ⟨rfl, Below.refl _ _⟩
set_option maxHeartbeats 4000000 in
theorem exactUsedCells_walk (v : Value) (l : List CelD)  (w : World) (hv : Reads w w.heap.size v (celsA l))  : Calls Try.prog 10 #[v] w fun e w' => e = .returned (.bool true) ∧ Below w.heap.size w w' := by
  obtain ⟨A, c, rfl, hc1, hc2⟩ := hv.shapeCel
  have HV := Lib.hid hv
  clear hv
  by_cases hn : l.length ≤ 1048576
  · have HT := Lib.hid (fun w' (b : Below w.heap.size w w') => (toCellS_any (.slice A l.length c) l w' (HV.out.on b) hn).mono (fun e w'' h => h.ce))
    obtain ⟨K, hK⟩ : ∃ K, usedK l = K := ⟨_, rfl⟩
    have HK := Lib.hid hK
    clear hK
    have hneK : (K != K) = false := by simp
    have BB := Lib.hid (Below.refl w.heap.size w)
    go_enter Try.func10, Try.ntmps10
    go_wp2_with fail
    refine (szCel_small _ _ _ _ hn 1048576 (by omega) (by omega)).mono ?_
    rintro r w0 ⟨rfl, rfl⟩
    have d0 : decide ((1048576 : Int) - (l.length : Int) < 0) = false := decide_eq_false (by omega)
    go_wp2_with fail
    refine (HT.out _ BB.out).mono ?_
    rintro r w1 ⟨vT, tT, rfl, o, b⟩
    have zT := b.size
    replace BB := Lib.hid (bstep BB.out b)
    have OT := Lib.hid o
    clear o b
    clear d0
    go_wp2_with fail
    refine (specUsedCells_any _ l  _ OT.out.rd (by omega)).mono ?_
    rintro r _ ⟨rfl, rfl⟩
    rw [HK.out]
    clear OT
    go_wp2_with fail
    refine (HT.out _ BB.out).mono ?_
    rintro r w2 ⟨vX, tX, rfl, o, b⟩
    have zX := b.size
    replace BB := Lib.hid (bstep BB.out b)
    have OX := Lib.hid o
    clear o b
    go_wp2_with fail
    refine (implUsedCells_any _ l  _ OX.out.rd (by omega)).mono ?_
    rintro r w3 ⟨rfl, b⟩
    have z3 := b.size
    replace OX := Lib.hid (OX.out.on b)
    replace BB := Lib.hid (bstep BB.out b)
    clear b
    rw [HK.out]
    go_wp2_with fail
    refine (HT.out _ BB.out).mono ?_
    rintro r w4 ⟨vY, tY, rfl, o, b⟩
    have zY := b.size
    replace OX := Lib.hid (OX.out.on b)
    replace BB := Lib.hid (bstep BB.out b)
    have OY := Lib.hid o
    clear o b
    go_wp2_with fail
    refine (eqCellS_same _ _ l _ OX.out.reads OY.out.reads (by omega)).mono ?_
    rintro r w5 ⟨rfl, b⟩
    have z5 := b.size
    replace OX := Lib.hid (OX.out.on b)
    replace OY := Lib.hid (OY.out.on b)
    replace BB := Lib.hid (bstep BB.out b)
    clear b
    go_wp2
    go_ret
    exact ⟨rfl, BB.out⟩
  · go_enter Try.func10, Try.ntmps10
    go_wp2_with fail
    refine (szCel_big _ _ _ _ (by omega) 1048576 (by omega) (by omega) (by omega)).mono ?_
    rintro r w0 ⟨rfl, rfl⟩
    go_wp2
    go_ret
    exact ⟨rfl, Below.refl _ _⟩
set_option maxHeartbeats 4000000 in
theorem exactFreeCell_walk (v : Value) (l : List CelD) (i : Int) (w : World) (hv : Reads w w.heap.size v (celsA l)) (_ : (Lit.int .i64 i).wf = true) : Calls Try.prog 8 #[v, .int .i64 i] w fun e w' => e = .returned (.bool true) ∧ Below w.heap.size w w' := by
  obtain ⟨A, c, rfl, hc1, hc2⟩ := hv.shapeCel
  have HV := Lib.hid hv
  clear hv
  by_cases hn : l.length ≤ 1048576
  · have HT := Lib.hid (fun w' (b : Below w.heap.size w w') => (toCellS_any (.slice A l.length c) l w' (HV.out.on b) hn).mono (fun e w'' h => h.ce))
    obtain ⟨R, hR⟩ : ∃ R, freeK l i = R := ⟨_, rfl⟩
    have hRl := freeK_len l i
    rw [hR] at hRl
    have HR := Lib.hid hR
    clear hR
    have hRn : R.length ≤ 1048576 := by omega
    clear hRl
    have BB := Lib.hid (Below.refl w.heap.size w)
    go_enter Try.func8, Try.ntmps8
    go_wp2_with fail
    refine (szCel_small _ _ _ _ hn 1048576 (by omega) (by omega)).mono ?_
    rintro r w0 ⟨rfl, rfl⟩
    have d0 : decide ((1048576 : Int) - (l.length : Int) < 0) = false := decide_eq_false (by omega)
    go_wp2_with fail
    refine (HT.out _ BB.out).mono ?_
    rintro r w1 ⟨vT, tT, rfl, o, b⟩
    have zT := b.size
    replace BB := Lib.hid (bstep BB.out b)
    have OT := Lib.hid o
    clear o b
    clear d0
    go_wp2_with fail
    refine (specFreeCell_any _ l i _ OT.out.rd (by omega)).mono ?_
    rintro r w2 ⟨vS, tS, rfl, o, b⟩
    have zS := b.size
    replace OT := Lib.hid (OT.out.on b)
    replace BB := Lib.hid (bstep BB.out b)
    have OS := Lib.hid o
    clear o b
    rw [HR.out] at OS
    clear OT
    go_wp2_with fail
    refine (HT.out _ BB.out).mono ?_
    rintro r w3 ⟨vX, tX, rfl, o, b⟩
    have zX := b.size
    replace OS := Lib.hid (OS.out.on b)
    replace BB := Lib.hid (bstep BB.out b)
    have OX := Lib.hid o
    clear o b
    go_wp2_with fail
    refine (implFreeCell_any _ l i _ OX.out.rd (by omega)).mono ?_
    rintro r w4 ⟨vG, tG, rfl, o, b⟩
    have zG := b.size
    replace OS := Lib.hid (OS.out.on b)
    replace OX := Lib.hid (OX.out.on b)
    replace BB := Lib.hid (bstep BB.out b)
    have OG := Lib.hid o
    clear o b
    rw [HR.out] at OG
    go_wp2_with fail
    refine (eqCellS_same _ _ R _ OG.out.reads OS.out.reads (by omega)).mono ?_
    rintro r w5 ⟨rfl, b⟩
    have z5 := b.size
    replace OS := Lib.hid (OS.out.on b)
    replace OX := Lib.hid (OX.out.on b)
    replace OG := Lib.hid (OG.out.on b)
    replace BB := Lib.hid (bstep BB.out b)
    clear b
    go_wp2_with fail
    refine (HT.out _ BB.out).mono ?_
    rintro r w6 ⟨vY, tY, rfl, o, b⟩
    have zY := b.size
    replace OS := Lib.hid (OS.out.on b)
    replace OX := Lib.hid (OX.out.on b)
    replace OG := Lib.hid (OG.out.on b)
    replace BB := Lib.hid (bstep BB.out b)
    have OY := Lib.hid o
    clear o b
    go_wp2_with fail
    refine (eqCellS_same _ _ l _ OX.out.reads OY.out.reads (by omega)).mono ?_
    rintro r w7 ⟨rfl, b⟩
    have z7 := b.size
    replace OS := Lib.hid (OS.out.on b)
    replace OX := Lib.hid (OX.out.on b)
    replace OG := Lib.hid (OG.out.on b)
    replace OY := Lib.hid (OY.out.on b)
    replace BB := Lib.hid (bstep BB.out b)
    clear b
    clear OY
    go_wp2_with fail
    refine (markCellS_any _ _ l 1 _ OX.out (by omega) (by omega) (by omega)).mono ?_
    rintro r w8 ⟨rfl, o, g⟩
    have z8 := g.size
    replace OS := Lib.hid (OS.out.far g (fun b hb _ hb' => by omega))
    replace OG := Lib.hid (OG.out.far g (fun b hb _ hb' => by omega))
    replace BB := Lib.hid (BB.out.trans (g.below BB.out.size (fun b hb => by omega)))
    replace OX := Lib.hid o
    clear o g
    have d1 : decide ((1 : Int) + ((l.length * 3 : Nat) : Int) < 0) = false := decide_eq_false (by omega)
    clear OX
    go_wp2_with fail
    refine (eqCellS_same _ _ R _ OG.out.reads OS.out.reads (by omega)).mono ?_
    rintro r w9 ⟨rfl, b⟩
    have z9 := b.size
    replace OS := Lib.hid (OS.out.on b)
    replace OG := Lib.hid (OG.out.on b)
    replace BB := Lib.hid (bstep BB.out b)
    clear b
    clear d1
    go_wp2_with fail
    refine (markCellS_any _ _ R 1 _ OG.out (by omega) (by omega) (by omega)).mono ?_
    rintro r w10 ⟨rfl, o, g⟩
    have z10 := g.size
    replace OS := Lib.hid (OS.out.far g (fun b hb _ hb' => by omega))
    replace BB := Lib.hid (BB.out.trans (g.below BB.out.size (fun b hb => by omega)))
    replace OG := Lib.hid o
    clear o g
    have d2 : decide ((1 : Int) + ((R.length * 3 : Nat) : Int) < 0) = false := decide_eq_false (by omega)
    have d3 : ((1 : Int) + ((R.length * 3 : Nat) : Int) != (1 : Int) + ((R.length * 3 : Nat) : Int)) = false := by simp
    generalize hq : (1 : Int) + ((R.length * 3 : Nat) : Int) = q at *
    have HQ := Lib.hid hq
    clear hq
    go_wp2_with fail
    refine (heldCellS_any _ R 1 _ OG.out.reads (by omega) (by omega) (by omega)).mono ?_
    rintro r _ ⟨rfl, rfl⟩
    rw [HQ.out]
    go_wp2_with fail
    refine (HT.out _ BB.out).mono ?_
    rintro r w11 ⟨vZ, tZ, rfl, o, b⟩
    have zZ := b.size
    replace OS := Lib.hid (OS.out.on b)
    replace OG := Lib.hid (OG.out.on b)
    replace BB := Lib.hid (bstep BB.out b)
    have OZ := Lib.hid o
    clear o b
    go_wp2_with fail
    refine (implFreeCell_any _ l i _ OZ.out.rd (by omega)).mono ?_
    rintro r w12 ⟨vH, tH, rfl, o, b⟩
    have zH := b.size
    replace OS := Lib.hid (OS.out.on b)
    replace OG := Lib.hid (OG.out.on b)
    replace OZ := Lib.hid (OZ.out.on b)
    replace BB := Lib.hid (bstep BB.out b)
    have OH := Lib.hid o
    clear o b
    rw [HR.out] at OH
    clear OZ
    go_wp2_with fail
    refine (eqCellS_same _ _ R _ OH.out.reads OS.out.reads (by omega)).mono ?_
    rintro r w13 ⟨rfl, b⟩
    have z13 := b.size
    replace OS := Lib.hid (OS.out.on b)
    replace OG := Lib.hid (OG.out.on b)
    replace OH := Lib.hid (OH.out.on b)
    replace BB := Lib.hid (bstep BB.out b)
    clear b
    go_wp2_with fail
    refine (heldCellS_any _ R 1 _ OG.out.reads (by omega) (by omega) (by omega)).mono ?_
    rintro r _ ⟨rfl, rfl⟩
    rw [HQ.out]
    go_wp2
    go_ret
    exact ⟨rfl, BB.out⟩
  · go_enter Try.func8, Try.ntmps8
    go_wp2_with fail
    refine (szCel_big _ _ _ _ (by omega) 1048576 (by omega) (by omega) (by omega)).mono ?_
    rintro r w0 ⟨rfl, rfl⟩
    go_wp2
    go_ret
    exact ⟨rfl, Below.refl _ _⟩
set_option maxHeartbeats 4000000 in
theorem exactTakeCell_walk (v : Value) (l : List CelD) (n : Int) (w : World) (hv : Reads w w.heap.size v (celsA l)) (_ : (Lit.int .i64 n).wf = true) : Calls Try.prog 7 #[v, .int .i64 n] w fun e w' => e = .returned (.bool true) ∧ Below w.heap.size w w' := by
  obtain ⟨A, c, rfl, hc1, hc2⟩ := hv.shapeCel
  have HV := Lib.hid hv
  clear hv
  by_cases hn : l.length ≤ 1048576
  · have HT := Lib.hid (fun w' (b : Below w.heap.size w w') => (toCellS_any (.slice A l.length c) l w' (HV.out.on b) hn).mono (fun e w'' h => h.ce))
    obtain ⟨R, hR⟩ : ∃ R, takeK l n = R := ⟨_, rfl⟩
    have hRl := takeK_len l n
    rw [hR] at hRl
    have HR := Lib.hid hR
    clear hR
    have hRn : R.length ≤ 1048576 := by omega
    clear hRl
    obtain ⟨K, hK⟩ : ∃ K, takeI l n = K := ⟨_, rfl⟩
    have HK := Lib.hid hK
    clear hK
    have hneK : (K != K) = false := by simp
    obtain ⟨O, hO⟩ : ∃ O, takeB l n = O := ⟨_, rfl⟩
    have HO := Lib.hid hO
    clear hO
    have hneO : (O != O) = false := by simp
    have BB := Lib.hid (Below.refl w.heap.size w)
    go_enter Try.func7, Try.ntmps7
    go_wp2_with fail
    refine (szCel_small _ _ _ _ hn 1048576 (by omega) (by omega)).mono ?_
    rintro r w0 ⟨rfl, rfl⟩
    have d0 : decide ((1048576 : Int) - (l.length : Int) < 0) = false := decide_eq_false (by omega)
    go_wp2_with fail
    refine (HT.out _ BB.out).mono ?_
    rintro r w1 ⟨vT, tT, rfl, o, b⟩
    have zT := b.size
    replace BB := Lib.hid (bstep BB.out b)
    have OT := Lib.hid o
    clear o b
    clear d0
    go_wp2_with fail
    refine (specTakeCell_any _ l n _ OT.out.rd (by omega)).mono ?_
    rintro r w2 ⟨vS, tS, rfl, o, b⟩
    have zS := b.size
    replace OT := Lib.hid (OT.out.on b)
    replace BB := Lib.hid (bstep BB.out b)
    have OS := Lib.hid o
    clear o b
    rw [HR.out] at OS
    rw [HK.out, HO.out]
    clear OT
    go_wp2_with fail
    refine (HT.out _ BB.out).mono ?_
    rintro r w3 ⟨vX, tX, rfl, o, b⟩
    have zX := b.size
    replace OS := Lib.hid (OS.out.on b)
    replace BB := Lib.hid (bstep BB.out b)
    have OX := Lib.hid o
    clear o b
    go_wp2_with fail
    refine (implTakeCell_any _ l n _ OX.out.rd (by omega)).mono ?_
    rintro r w4 ⟨vG, tG, rfl, o, b⟩
    have zG := b.size
    replace OS := Lib.hid (OS.out.on b)
    replace OX := Lib.hid (OX.out.on b)
    replace BB := Lib.hid (bstep BB.out b)
    have OG := Lib.hid o
    clear o b
    rw [HR.out] at OG
    rw [HK.out, HO.out]
    go_wp2_with fail
    refine (eqCellS_same _ _ R _ OG.out.reads OS.out.reads (by omega)).mono ?_
    rintro r w5 ⟨rfl, b⟩
    have z5 := b.size
    replace OS := Lib.hid (OS.out.on b)
    replace OX := Lib.hid (OX.out.on b)
    replace OG := Lib.hid (OG.out.on b)
    replace BB := Lib.hid (bstep BB.out b)
    clear b
    go_wp2_with fail
    refine (HT.out _ BB.out).mono ?_
    rintro r w6 ⟨vY, tY, rfl, o, b⟩
    have zY := b.size
    replace OS := Lib.hid (OS.out.on b)
    replace OX := Lib.hid (OX.out.on b)
    replace OG := Lib.hid (OG.out.on b)
    replace BB := Lib.hid (bstep BB.out b)
    have OY := Lib.hid o
    clear o b
    go_wp2_with fail
    refine (eqCellS_same _ _ l _ OX.out.reads OY.out.reads (by omega)).mono ?_
    rintro r w7 ⟨rfl, b⟩
    have z7 := b.size
    replace OS := Lib.hid (OS.out.on b)
    replace OX := Lib.hid (OX.out.on b)
    replace OG := Lib.hid (OG.out.on b)
    replace OY := Lib.hid (OY.out.on b)
    replace BB := Lib.hid (bstep BB.out b)
    clear b
    clear OY
    go_wp2_with fail
    refine (markCellS_any _ _ l 1 _ OX.out (by omega) (by omega) (by omega)).mono ?_
    rintro r w8 ⟨rfl, o, g⟩
    have z8 := g.size
    replace OS := Lib.hid (OS.out.far g (fun b hb _ hb' => by omega))
    replace OG := Lib.hid (OG.out.far g (fun b hb _ hb' => by omega))
    replace BB := Lib.hid (BB.out.trans (g.below BB.out.size (fun b hb => by omega)))
    replace OX := Lib.hid o
    clear o g
    have d1 : decide ((1 : Int) + ((l.length * 3 : Nat) : Int) < 0) = false := decide_eq_false (by omega)
    clear OX
    go_wp2_with fail
    refine (eqCellS_same _ _ R _ OG.out.reads OS.out.reads (by omega)).mono ?_
    rintro r w9 ⟨rfl, b⟩
    have z9 := b.size
    replace OS := Lib.hid (OS.out.on b)
    replace OG := Lib.hid (OG.out.on b)
    replace BB := Lib.hid (bstep BB.out b)
    clear b
    clear d1
    go_wp2_with fail
    refine (markCellS_any _ _ R 1 _ OG.out (by omega) (by omega) (by omega)).mono ?_
    rintro r w10 ⟨rfl, o, g⟩
    have z10 := g.size
    replace OS := Lib.hid (OS.out.far g (fun b hb _ hb' => by omega))
    replace BB := Lib.hid (BB.out.trans (g.below BB.out.size (fun b hb => by omega)))
    replace OG := Lib.hid o
    clear o g
    have d2 : decide ((1 : Int) + ((R.length * 3 : Nat) : Int) < 0) = false := decide_eq_false (by omega)
    have d3 : ((1 : Int) + ((R.length * 3 : Nat) : Int) != (1 : Int) + ((R.length * 3 : Nat) : Int)) = false := by simp
    generalize hq : (1 : Int) + ((R.length * 3 : Nat) : Int) = q at *
    have HQ := Lib.hid hq
    clear hq
    go_wp2_with fail
    refine (heldCellS_any _ R 1 _ OG.out.reads (by omega) (by omega) (by omega)).mono ?_
    rintro r _ ⟨rfl, rfl⟩
    rw [HQ.out]
    go_wp2_with fail
    refine (HT.out _ BB.out).mono ?_
    rintro r w11 ⟨vZ, tZ, rfl, o, b⟩
    have zZ := b.size
    replace OS := Lib.hid (OS.out.on b)
    replace OG := Lib.hid (OG.out.on b)
    replace BB := Lib.hid (bstep BB.out b)
    have OZ := Lib.hid o
    clear o b
    go_wp2_with fail
    refine (implTakeCell_any _ l n _ OZ.out.rd (by omega)).mono ?_
    rintro r w12 ⟨vH, tH, rfl, o, b⟩
    have zH := b.size
    replace OS := Lib.hid (OS.out.on b)
    replace OG := Lib.hid (OG.out.on b)
    replace OZ := Lib.hid (OZ.out.on b)
    replace BB := Lib.hid (bstep BB.out b)
    have OH := Lib.hid o
    clear o b
    rw [HR.out] at OH
    rw [HK.out, HO.out]
    clear OZ
    go_wp2_with fail
    refine (eqCellS_same _ _ R _ OH.out.reads OS.out.reads (by omega)).mono ?_
    rintro r w13 ⟨rfl, b⟩
    have z13 := b.size
    replace OS := Lib.hid (OS.out.on b)
    replace OG := Lib.hid (OG.out.on b)
    replace OH := Lib.hid (OH.out.on b)
    replace BB := Lib.hid (bstep BB.out b)
    clear b
    go_wp2_with fail
    refine (heldCellS_any _ R 1 _ OG.out.reads (by omega) (by omega) (by omega)).mono ?_
    rintro r _ ⟨rfl, rfl⟩
    rw [HQ.out]
    go_wp2
    go_ret
    exact ⟨rfl, BB.out⟩
  · go_enter Try.func7, Try.ntmps7
    go_wp2_with fail
    refine (szCel_big _ _ _ _ (by omega) 1048576 (by omega) (by omega) (by omega)).mono ?_
    rintro r w0 ⟨rfl, rfl⟩
    go_wp2
    go_ret
    exact ⟨rfl, Below.refl _ _⟩
end Go.Proofs.Ytikopfekpnfkbaa
