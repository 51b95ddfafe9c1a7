/- The walk of FnExactFallDev: at every device and every int the call returns true and writes nothing that was there. No condition. -/
import Derived.Test.YtkahjomkjhlkbaaDevLaw
import Derived.Test.YtkahjomkjhlkbaaDevSFall
import Derived.Test.YtkahjomkjhlkbaaDevOpen
import Derived.Deep.RegionHeld3
namespace Go.Proofs.Ytkahjomkjhlkbaa
open Go.RowKit
set_option maxRecDepth 100000
theorem appK_ev {P : List UInt8 → Prop} (keep : Nat → Bool) (ls : List (List UInt8)) (ps : List (Int × List UInt8)) (h1 : ∀ l ∈ ls, P l) (h2 : ∀ p ∈ ps, P p.2) (i : Nat) : ∀ l ∈ appK keep ls ps i, P l := by
  induction i with
  | zero => exact h1
  | succ i ih =>
    simp only [appK]
    split
    · rename_i p hp
      split
      · intro l hl
        rcases List.mem_or_eq_of_mem_set hl with h | h
        · exact ih l h
        · subst h; exact h2 p (List.mem_of_getElem? hp)
      · exact ih
    · exact ih
theorem fallD_small {d : DevD} {k : Int} (hs : SmallD d) : SmallD (fallD d k) := by
  obtain ⟨h1, h2, h3, h4⟩ := hs
  by_cases h : okD d = true
  · rw [fallD_yes h]
    exact ⟨by simp only [appK_length]; exact h1, by simp, appK_ev _ _ _ h3 h4 _, by simp⟩
  · rw [fallD_no h]; exact ⟨h1, h2, h3, h4⟩
set_option maxHeartbeats 4000000 in
theorem exactFallDev_gen (v : Value) (d D : DevD) (n : Int) (w : World) (hv : RdArg w w.heap.size v d) (hD : SmallD d → SmallD D)
    (HS : Hid (∀ v w, RdDev w w.heap.size v d → SmallD d → Calls Try.prog 34 #[v, .int .i64 n] w (NewDev w D))) (HI : Hid (∀ v w, RdDev w w.heap.size v d → SmallD d → Calls Try.prog 22 #[v, .int .i64 n] w (NewDev w D))) :
    Calls Try.prog 9 #[v, .int .i64 n] w fun e w' => e = .returned (.bool true) ∧ Below w.heap.size w w' := by
  have HV := Lib.hid hv
  have HD := Lib.hid hD
  obtain ⟨v0, v1, rfl, h0, h1⟩ := hv
  obtain ⟨A0, d0, e0, _, _⟩ := h0.len
  obtain ⟨A1, d1, e1, _, _⟩ := h1.len
  subst e0 e1
  clear h0 h1 hD
  have d2 : decide ((1 : Int) + (totD D : Int) < 0) = false := decide_eq_false (by omega)
  have d4 : decide ((1 : Int) + (totD d : Int) < 0) = false := decide_eq_false (by omega)
  have d3 : ((1 : Int) + (totD D : Int) != 1 + (totD D : Int)) = false := by simp
  have q0 := al1 w (.cells #[.slice A0 d.secs.length d0, .slice A1 d.cache.length d1, .int .i64 d.fuse, .bool d.down] 59)
  have HB0 := Lib.hid (bal1 w (.cells #[.slice A0 d.secs.length d0, .slice A1 d.cache.length d1, .int .i64 d.fuse, .bool d.down] 59))
  go_enter Try.func9, Try.ntmps9
  go_wp2_with fail
  refine (szDev_any _ d 1048576 _ (HV.out.on HB0.out) (by omega) (by omega)).mono ?_
  rintro e w1 ⟨x, rfl, x1, x2, b1⟩
  have hb1 := bstep HB0.out b1
  replace q0 := box_on q0 b1
  have X2 := Lib.hid x2
  clear x2 b1
  by_cases hx : x < 0
  · go_wp2
    go_ret
    exact ⟨rfl, hb1⟩
  · have hsm := Lib.hid (X2.out (by omega))
    have hsD := Lib.hid (HD.out hsm.out)
    have Q1 := Lib.hid q0
    have HB1 := Lib.hid hb1
    obtain ⟨c0, c1, c2, c3, c4⟩ := box4 q0
    clear q0 hb1 HB0
    go_wp2_with fail
    refine (toDev_any _ d _ (HV.out.on HB1.out) hsm.out).mono ?_
    rintro e w2 ⟨y, rfl, o2, b2⟩
    have HB2 := Lib.hid (bstep HB1.out b2)
    have Q2 := Lib.hid (box_on Q1.out b2)
    clear b2 c0 c1 c2 c3 c4 Q1 HB1
    have R2 := Lib.hid o2.rd
    obtain ⟨A2, d2', A3, d3', rfl⟩ := o2.rd.shape
    clear o2
    go_wp2_with fail
    refine (HS.out _ _ R2.out hsm.out).mono ?_
    rintro e w3 ⟨y, rfl, o3, b3⟩
    obtain ⟨A4, e4, A5, e5, rfl⟩ := o3.rd.shape
    have bb := bstep b3 (bal1 w3 (.cells #[.slice A4 D.secs.length e4, .slice A5 D.cache.length e5, .int .i64 D.fuse, .bool D.down] 27))
    have HB3 := Lib.hid (bstep HB2.out bb)
    have Q3 := Lib.hid (box_on Q2.out bb)
    have W3 := Lib.hid (al1 w3 (.cells #[.slice A4 D.secs.length e4, .slice A5 D.cache.length e5, .int .i64 D.fuse, .bool D.down] 27))
    have OW3 := Lib.hid (o3.lt.on (bal1 w3 (.cells #[.slice A4 D.secs.length e4, .slice A5 D.cache.length e5, .int .i64 D.fuse, .bool D.down] 27)))
    have hz3 := HB2.out.size
    have hz3' := b3.size
    obtain ⟨c0, c1, c2, c3, c4⟩ := box4 (box_on Q2.out b3)
    have hzw : w.heap.size < w2.heap.size := (Array.getElem?_eq_some_iff.1 Q2.out).1
    have hn1 : w.heap.size < w3.heap.size := by omega
    clear R2 o3 b3 bb HB2 Q2
    go_wp2_with fail
    refine (toDev_any _ d _ (HV.out.on HB3.out) hsm.out).mono ?_
    rintro e w4 ⟨y, rfl, o4, b4⟩
    obtain ⟨A6, e6, A7, e7, rfl⟩ := o4.rd.shape
    have hz4 := b4.size
    simp only [World.size_alloc] at hz4 o4
    have bb := bstep b4 (bal1 w4 (.cells #[.slice A6 d.secs.length e6, .slice A7 d.cache.length e7, .int .i64 d.fuse, .bool d.down] 27))
    have Q4 := Lib.hid (box_on Q3.out bb)
    have W4 := Lib.hid (box_on W3.out bb)
    have OW4 := Lib.hid (OW3.out.on bb)
    have HB4 := Lib.hid (bstep HB3.out bb)
    clear Q3 W3 OW3 HB3
    have X4 := Lib.hid (al1 w4 (.cells #[.slice A6 d.secs.length e6, .slice A7 d.cache.length e7, .int .i64 d.fuse, .bool d.down] 27))
    have OX4 := Lib.hid (o4.lt.on (bal1 w4 (.cells #[.slice A6 d.secs.length e6, .slice A7 d.cache.length e7, .int .i64 d.fuse, .bool d.down] 27)))
    clear o4 b4 bb c0 c1 c2 c3 c4
    go_wp2_with fail
    refine (HI.out _ _ OX4.out.rd hsm.out).mono ?_
    rintro e w5 ⟨y, rfl, o5, b5⟩
    obtain ⟨A8, e8, A9, e9, rfl⟩ := o5.rd.shape
    have hz5 := b5.size
    simp only [World.size_alloc] at hz5 o5
    obtain ⟨c0, c1, c2, c3, c4⟩ := box4 (box_on W4.out b5)
    have bb := bstep b5 (bal1 w5 (.cells #[.slice A8 D.secs.length e8, .slice A9 D.cache.length e9, .int .i64 D.fuse, .bool D.down] 27))
    have Q5 := Lib.hid (box_on Q4.out bb)
    have W5 := Lib.hid (box_on W4.out bb)
    have X5 := Lib.hid (box_on X4.out bb)
    have OW5 := Lib.hid (OW4.out.on bb)
    have OX5 := Lib.hid (OX4.out.on bb)
    have HB5 := Lib.hid (bstep HB4.out bb)
    clear Q4 W4 X4 OW4 OX4 HB4
    have G5 := Lib.hid (al1 w5 (.cells #[.slice A8 D.secs.length e8, .slice A9 D.cache.length e9, .int .i64 D.fuse, .bool D.down] 27))
    have OG5 := Lib.hid (o5.lt.on (bal1 w5 (.cells #[.slice A8 D.secs.length e8, .slice A9 D.cache.length e9, .int .i64 D.fuse, .bool D.down] 27)))
    have hn2 : w3.heap.size < w5.heap.size := by omega
    clear o5 b5 bb
    go_wp2_with fail
    refine (eqDev_same _ _ D _ OG5.out.rd OW5.out.rd hsD.out).mono ?_
    rintro e w6 ⟨rfl, b6⟩
    have hz6 := b6.size
    simp only [World.size_alloc] at hz6
    clear c0 c1 c2 c3 c4
    have Q6 := Lib.hid (box_on Q5.out b6)
    have W6 := Lib.hid (box_on W5.out b6)
    have X6 := Lib.hid (box_on X5.out b6)
    have G6 := Lib.hid (box_on G5.out b6)
    have OW6 := Lib.hid (OW5.out.on b6)
    have OX6 := Lib.hid (OX5.out.on b6)
    have OG6 := Lib.hid (OG5.out.on b6)
    have HB6 := Lib.hid (bstep HB5.out b6)
    clear Q5 W5 X5 G5 OW5 OX5 OG5 HB5
    clear b6
    obtain ⟨c0, c1, c2, c3, c4⟩ := box4 Q6.out
    obtain ⟨k0, k1, k2, k3, k4⟩ := box4 X6.out
    go_wp2
    go_region_held3 (fun W => W.cell? ⟨w.heap.size, 0, none⟩ = some (.slice A0 d.secs.length d0) ∧ W.cell? ⟨w.heap.size, 1, none⟩ = some (.slice A1 d.cache.length d1) ∧ W.cell? ⟨w.heap.size, 2, none⟩ = some (.int .i64 d.fuse) ∧ W.cell? ⟨w.heap.size, 3, none⟩ = some (.bool d.down) ∧ W.cell? ⟨w4.heap.size, 0, none⟩ = some (.slice A6 d.secs.length e6) ∧ W.cell? ⟨w4.heap.size, 1, none⟩ = some (.slice A7 d.cache.length e7) ∧ W.cell? ⟨w4.heap.size, 2, none⟩ = some (.int .i64 d.fuse) ∧ W.cell? ⟨w4.heap.size, 3, none⟩ = some (.bool d.down)) (first | go_keep | exact ⟨a0, a1, a2, a3, f0, f1, f2, f3⟩ | exact ⟨g0, g1, g2, g3, h0, h1, h2, h3⟩)
      (first
        | (go_at_call 48; refine (toDev_any _ d _ (HV.out.on HB6.out.drew) hsm.out).mono ?_; rintro e w7 ⟨u, rfl, o7, b7⟩; obtain ⟨a0, a1, a2, a3, _⟩ := box4 (box_on (show w6.drew.heap[w.heap.size]? = _ from Q6.out) b7); obtain ⟨f0, f1, f2, f3, _⟩ := box4 (box_on (show w6.drew.heap[w4.heap.size]? = _ from X6.out) b7); have R7 := o7.rd; obtain ⟨_, _, _, _, rfl⟩ := R7.shape; have bd7 : Below w6.heap.size w6 w7 := (Below.refl _ _).drew.trans b7)
        | (go_at_call 50; refine (eqDev_same _ _ d _ (OX6.out.on bd7).rd R7 hsm.out).mono ?_; rintro e w8 ⟨rfl, b8⟩; have bd8 := bstep bd7 b8; obtain ⟨g0, g1, g2, g3, _⟩ := box4 (box_on Q6.out bd8); obtain ⟨h0, h1, h2, h3, _⟩ := box4 (box_on X6.out bd8)))
    have hz8 := bd8.size
    have Q8 := Lib.hid (box_on Q6.out bd8)
    have W8 := Lib.hid (box_on W6.out bd8)
    have X8 := Lib.hid (box_on X6.out bd8)
    have G8 := Lib.hid (box_on G6.out bd8)
    have OW8 := Lib.hid (OW6.out.on bd8)
    have OX8 := Lib.hid (OX6.out.on bd8)
    have OG8 := Lib.hid (OG6.out.on bd8)
    have HB8 := Lib.hid (bstep HB6.out bd8)
    clear Q6 W6 X6 G6 OW6 OX6 OG6 HB6
    clear o7 b7 R7 bd7 b8 bd8 a0 a1 a2 a3 f0 f1 f2 f3 g0 g1 g2 g3 h0 h1 h2 h3 c0 c1 c2 c3 c4 k0 k1 k2 k3 k4
    obtain ⟨c0, c1, c2, c3, c4⟩ := box4 X8.out
    go_wp2_with fail
    refine (markDev_any _ _ d _ OX8.out hsm.out).mono ?_
    rintro e w9 ⟨rfl, _, m9⟩
    have hz9 := m9.size
    have Q9 := Lib.hid (box_only Q8.out m9 (fun h => by have h1 := h.1; have h2 := h.2; omega))
    have W9 := Lib.hid (box_only W8.out m9 (fun h => by have h1 := h.1; have h2 := h.2; omega))
    have G9 := Lib.hid (box_only G8.out m9 (fun h => by have h1 := h.1; have h2 := h.2; omega))
    have OW9 := Lib.hid (OW8.out.far m9 (fun b hb _ h => by have h1 := h.1; have h2 := h.2; have h3 := hb.1; have h4 := hb.2; omega))
    have OG9 := Lib.hid (OG8.out.far m9 (fun b hb _ h => by have h1 := h.1; have h2 := h.2; have h3 := hb.1; have h4 := hb.2; omega))
    have HB9 := Lib.hid (HB8.out.trans (m9.below HB8.out.size (fun b h => by have h1 := h.1; omega)))
    clear c0 c1 c2 c3 c4 Q8 W8 X8 G8 OW8 OX8 OG8 HB8 m9
    obtain ⟨c0, c1, c2, c3, c4⟩ := box4 G9.out
    obtain ⟨k0, k1, k2, k3, k4⟩ := box4 W9.out
    go_wp2_with fail
    refine (eqDev_same _ _ D _ OG9.out.rd OW9.out.rd hsD.out).mono ?_
    rintro e wA ⟨rfl, bA⟩
    have hzA := bA.size
    have QA := Lib.hid (box_on Q9.out bA)
    have WA := Lib.hid (box_on W9.out bA)
    have GA := Lib.hid (box_on G9.out bA)
    have OWA := Lib.hid (OW9.out.on bA)
    have OGA := Lib.hid (OG9.out.on bA)
    have HBA := Lib.hid (bstep HB9.out bA)
    clear Q9 W9 G9 OW9 OG9 HB9
    clear c0 c1 c2 c3 c4 k0 k1 k2 k3 k4 bA
    obtain ⟨c0, c1, c2, c3, c4⟩ := box4 GA.out
    go_wp2_with fail
    refine (markDev_any _ _ D _ OGA.out hsD.out).mono ?_
    rintro e wB ⟨rfl, ogB, mB⟩
    have hzB := mB.size
    have QB := Lib.hid (box_only QA.out mB (fun h => by have h1 := h.1; have h2 := h.2; omega))
    have WB := Lib.hid (box_only WA.out mB (fun h => by have h1 := h.1; have h2 := h.2; omega))
    have GB := Lib.hid (box_only GA.out mB (fun h => by have h1 := h.1; have h2 := h.2; omega))
    have OWB := Lib.hid (OWA.out.far mB (fun b hb _ h => by have h1 := h.1; have h2 := h.2; have h3 := hb.1; have h4 := hb.2; omega))
    have OGB := Lib.hid ogB
    have HBB := Lib.hid (HBA.out.trans (mB.below HBA.out.size (fun b h => by have h1 := h.1; omega)))
    clear c0 c1 c2 c3 c4 QA WA GA OWA OGA HBA mB ogB
    obtain ⟨c0, c1, c2, c3, c4⟩ := box4 GB.out
    go_wp2_with fail
    refine (heldDev_any _ D _ OGB.out.rd hsD.out).mono ?_
    rintro e wC ⟨rfl, bC⟩
    have hzC := bC.size
    have QC := Lib.hid (box_on QB.out bC)
    have WC := Lib.hid (box_on WB.out bC)
    have GC := Lib.hid (box_on GB.out bC)
    have OWC := Lib.hid (OWB.out.on bC)
    have OGC := Lib.hid (OGB.out.on bC)
    have HBC := Lib.hid (bstep HBB.out bC)
    clear QB WB GB OWB OGB HBB
    clear c0 c1 c2 c3 c4 bC
    obtain ⟨c0, c1, c2, c3, c4⟩ := box4 QC.out
    go_wp2_with fail
    refine (toDev_any _ d _ (HV.out.on HBC.out) hsm.out).mono ?_
    rintro e wD ⟨y, rfl, oD, bD⟩
    have RDD := Lib.hid oD.rd
    obtain ⟨_, _, _, _, rfl⟩ := oD.rd.shape
    have hzD := bD.size
    have WD := Lib.hid (box_on WC.out bD)
    have GD := Lib.hid (box_on GC.out bD)
    have OWD := Lib.hid (OWC.out.on bD)
    have OGD := Lib.hid (OGC.out.on bD)
    have HBD := Lib.hid (bstep HBC.out bD)
    clear WC GC OWC OGC HBC
    clear c0 c1 c2 c3 c4 bD oD QC
    go_wp2_with fail
    refine (HI.out _ _ RDD.out hsm.out).mono ?_
    rintro e wE ⟨y, rfl, oE, bE⟩
    obtain ⟨B0, f0, B1, f1, rfl⟩ := oE.rd.shape
    have hzE := bE.size
    obtain ⟨c0, c1, c2, c3, c4⟩ := box4 (box_on WD.out bE)
    have bb := bstep bE (bal1 wE (.cells #[.slice B0 D.secs.length f0, .slice B1 D.cache.length f1, .int .i64 D.fuse, .bool D.down] 27))
    have GE := Lib.hid (box_on GD.out bb)
    have OWE := Lib.hid (OWD.out.on bb)
    have OGE := Lib.hid (OGD.out.on bb)
    have HBE := Lib.hid (bstep HBD.out bb)
    clear GD OWD OGD HBD
    have OHE := Lib.hid (oE.on (bal1 wE (.cells #[.slice B0 D.secs.length f0, .slice B1 D.cache.length f1, .int .i64 D.fuse, .bool D.down] 27)))
    have hn3 : w3.heap.size < wE.heap.size := by omega
    clear oE bE bb RDD WD
    go_wp2_with fail
    refine (eqDev_same _ _ D _ OHE.out.rd OWE.out.rd hsD.out).mono ?_
    rintro e wF ⟨rfl, bF⟩
    have GF := Lib.hid (box_on GE.out bF)
    have OGF := Lib.hid (OGE.out.on bF)
    have HBF := Lib.hid (bstep HBE.out bF)
    clear GE OGE HBE
    clear c0 c1 c2 c3 c4 bF
    obtain ⟨c0, c1, c2, c3, c4⟩ := box4 GF.out
    go_wp2_with fail
    refine (heldDev_any _ D _ OGF.out.rd hsD.out).mono ?_
    rintro e wG ⟨rfl, bG⟩
    have hbG := bstep HBF.out bG
    go_wp2
    go_ret
    exact ⟨rfl, hbG⟩
theorem exactFallDev_walk (v : Value) (d : DevD) (n : Int) (w : World) (hv : RdArg w w.heap.size v d) (_hn : (Lit.int .i64 n).wf = true) : Calls Try.prog 9 #[v, .int .i64 n] w fun e w' => e = .returned (.bool true) ∧ Below w.heap.size w w' :=
  exactFallDev_gen v d (fallD d n) n w hv fallD_small (Lib.hid (fun v w h hs => specFallDev_any v n d w h hs)) (Lib.hid (fun v w h hs => implFallDev_any v n d w h hs))
end Go.Proofs.Ytkahjomkjhlkbaa
