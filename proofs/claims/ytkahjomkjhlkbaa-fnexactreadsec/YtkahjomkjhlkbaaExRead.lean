/- The walk of FnExactReadSec: at every device and every int the call returns true and writes nothing that was there. No condition. -/
import Derived.Test.YtkahjomkjhlkbaaDevLaw
import Derived.Test.YtkahjomkjhlkbaaDevReadI
import Derived.Test.YtkahjomkjhlkbaaDevOpen
import Derived.Deep.RegionHeld3
namespace Go.Proofs.Ytkahjomkjhlkbaa
open Go.RowKit
set_option maxRecDepth 100000
theorem eqB_same {w : World} {S T : Nat → Prop} {u v : Value} {l : List UInt8} (hu : Owns w S u (bytesD l)) (hv : Owns w T v (bytesD l)) (hl : l.length ≤ 1048576) : Calls Try.prog 49 #[u, v] w fun e w' => e = .returned (.bool true) ∧ Below w.heap.size w w' := by
  obtain ⟨A, c, rfl, _, _, r⟩ := hu.reads.bytes
  obtain ⟨A', c', rfl, _, _, r'⟩ := hv.reads.bytes
  refine (eqByteS_any A A' c c' l l w r r' (by omega) (by omega)).mono ?_
  rintro e _ ⟨rfl, n, rfl⟩
  rw [beq_self_eq_true]
  exact ⟨rfl, bdrew (Below.refl _ _) n⟩
theorem heldB {w : World} {S : Nat → Prop} {u : Value} {n : Nat} (hu : Owns w S u (bytesD (marks 1 n))) (hl : n ≤ 1048576) : Calls Try.prog 53 #[u, .int .i64 1] w fun e w' => e = .returned (.int .i64 (1 + n)) ∧ w = w' := by
  obtain ⟨A, c, rfl, _, _, r⟩ := hu.reads.bytes
  have h := heldByteS_any A c 1 n w r (by omega) (by omega) (by omega)
  rw [marks_length]
  exact h
set_option maxHeartbeats 4000000 in
theorem exactReadSec_gen (v : Value) (d : DevD) (n : Int) (L : List UInt8) (w : World) (hv : RdArg w w.heap.size v d) (hL : SmallD d → L.length ≤ 1048576)
    (HS : Hid (∀ v w, RdDev w w.heap.size v d → SmallD d → Calls Try.prog 30 #[v, .int .i64 n] w (NewB w L))) (HI : Hid (∀ v w, RdDev w w.heap.size v d → SmallD d → Calls Try.prog 20 #[v, .int .i64 n] w (NewB w L))) :
    Calls Try.prog 7 #[v, .int .i64 n] w fun e w' => e = .returned (.bool true) ∧ Below w.heap.size w w' := by
  have HV := Lib.hid hv
  have HD := Lib.hid hL
  obtain ⟨v0, v1, rfl, h0, h1⟩ := hv
  obtain ⟨A0, d0, e0, _, _⟩ := h0.len
  obtain ⟨A1, d1, e1, _, _⟩ := h1.len
  subst e0 e1
  clear h0 h1 hL
  have d2 : decide ((1 : Int) + (L.length : Int) < 0) = false := decide_eq_false (by omega)
  have d4 : decide ((1 : Int) + (totD d : Int) < 0) = false := decide_eq_false (by omega)
  have d3 : ((1 : Int) + (L.length : Int) != 1 + (L.length : Int)) = false := by simp
  have q0 := al1 w (.cells #[.slice A0 d.secs.length d0, .slice A1 d.cache.length d1, .int .i64 d.fuse, .bool d.down] 59)
  have HB0 := Lib.hid (bal1 w (.cells #[.slice A0 d.secs.length d0, .slice A1 d.cache.length d1, .int .i64 d.fuse, .bool d.down] 59))
  go_enter Try.func7, Try.ntmps7
  go_wp2_with fail
  refine (szDev_any _ d 1048576 _ (HV.out.on HB0.out) (by omega) (by omega)).mono ?_
  rintro e w1 ⟨x, rfl, x1, x2, b1⟩
  have hb1 := bstep HB0.out b1
  replace q0 := box_on q0 b1
  have X2 := Lib.hid x2
  clear x2 b1
  by_cases hx : x < 0
  · go_wp2
    go_ret
    exact ⟨rfl, hb1⟩
  · have hsm := Lib.hid (X2.out (by omega))
    have hll := HD.out hsm.out
    have Q1 := Lib.hid q0
    have HB1 := Lib.hid hb1
    obtain ⟨c0, c1, c2, c3, c4⟩ := box4 q0
    clear q0 hb1 HB0
    go_wp2_with fail
    refine (toDev_any _ d _ (HV.out.on HB1.out) hsm.out).mono ?_
    rintro e w2 ⟨y, rfl, o2, b2⟩
    have HB2 := Lib.hid (bstep HB1.out b2)
    have Q2 := Lib.hid (box_on Q1.out b2)
    clear b2 c0 c1 c2 c3 c4 Q1 HB1
    have R2 := Lib.hid o2.rd
    obtain ⟨A2, d2', A3, d3', rfl⟩ := o2.rd.shape
    clear o2
    go_wp2_with fail
    refine (HS.out _ _ R2.out hsm.out).mono ?_
    rintro e w3 ⟨ub, rfl, o3, b3⟩
    obtain ⟨A4, e4, rfl⟩ := o3.isSlice
    have OW3 := Lib.hid o3.lt
    have HB3 := Lib.hid (bstep HB2.out b3)
    have Q3 := Lib.hid (box_on Q2.out b3)
    have hzw : w.heap.size < w2.heap.size := (Array.getElem?_eq_some_iff.1 Q2.out).1
    have hz3 := b3.size
    obtain ⟨c0, c1, c2, c3, c4⟩ := box4 Q3.out
    clear R2 o3 b3 HB2 Q2
    go_wp2_with fail
    refine (toDev_any _ d _ (HV.out.on HB3.out) hsm.out).mono ?_
    rintro e w4 ⟨y, rfl, o4, b4⟩
    obtain ⟨A6, e6, A7, e7, rfl⟩ := o4.rd.shape
    have hz4 := b4.size
    have bb := bstep b4 (bal1 w4 (.cells #[.slice A6 d.secs.length e6, .slice A7 d.cache.length e7, .int .i64 d.fuse, .bool d.down] 27))
    have Q4 := Lib.hid (box_on Q3.out bb)
    have OW4 := Lib.hid (OW3.out.on bb)
    have HB4 := Lib.hid (bstep HB3.out bb)
    clear Q3 OW3 HB3
    have X4 := Lib.hid (al1 w4 (.cells #[.slice A6 d.secs.length e6, .slice A7 d.cache.length e7, .int .i64 d.fuse, .bool d.down] 27))
    have OX4 := Lib.hid (o4.lt.on (bal1 w4 (.cells #[.slice A6 d.secs.length e6, .slice A7 d.cache.length e7, .int .i64 d.fuse, .bool d.down] 27)))
    clear o4 b4 bb c0 c1 c2 c3 c4
    go_wp2_with fail
    refine (HI.out _ _ OX4.out.rd hsm.out).mono ?_
    rintro e w5 ⟨ug, rfl, o5, b5⟩
    obtain ⟨A8, e8, rfl⟩ := o5.isSlice
    have hz5 := b5.size
    simp only [World.size_alloc] at hz5 o5
    have OG5 := Lib.hid o5.lt
    have Q5 := Lib.hid (box_on Q4.out b5)
    have X5 := Lib.hid (box_on X4.out b5)
    have OW5 := Lib.hid (OW4.out.on b5)
    have OX5 := Lib.hid (OX4.out.on b5)
    have HB5 := Lib.hid (bstep HB4.out b5)
    clear Q4 X4 OW4 OX4 HB4 o5 b5
    go_wp2_with fail
    refine (eqB_same OG5.out OW5.out hll).mono ?_
    rintro e w6 ⟨rfl, b6⟩
    have hz6 := b6.size
    have Q6 := Lib.hid (box_on Q5.out b6)
    have X6 := Lib.hid (box_on X5.out b6)
    have OW6 := Lib.hid (OW5.out.on b6)
    have OX6 := Lib.hid (OX5.out.on b6)
    have OG6 := Lib.hid (OG5.out.on b6)
    have HB6 := Lib.hid (bstep HB5.out b6)
    clear Q5 X5 OW5 OX5 OG5 HB5 b6
    obtain ⟨c0, c1, c2, c3, c4⟩ := box4 Q6.out
    obtain ⟨k0, k1, k2, k3, k4⟩ := box4 X6.out
    go_wp2
    go_region_held3 (fun W => W.cell? ⟨w.heap.size, 0, none⟩ = some (.slice A0 d.secs.length d0) ∧ W.cell? ⟨w.heap.size, 1, none⟩ = some (.slice A1 d.cache.length d1) ∧ W.cell? ⟨w.heap.size, 2, none⟩ = some (.int .i64 d.fuse) ∧ W.cell? ⟨w.heap.size, 3, none⟩ = some (.bool d.down) ∧ W.cell? ⟨w4.heap.size, 0, none⟩ = some (.slice A6 d.secs.length e6) ∧ W.cell? ⟨w4.heap.size, 1, none⟩ = some (.slice A7 d.cache.length e7) ∧ W.cell? ⟨w4.heap.size, 2, none⟩ = some (.int .i64 d.fuse) ∧ W.cell? ⟨w4.heap.size, 3, none⟩ = some (.bool d.down)) (first | go_keep | exact ⟨a0, a1, a2, a3, f0, f1, f2, f3⟩ | exact ⟨g0, g1, g2, g3, h0, h1, h2, h3⟩)
      (first
        | (go_at_call 48; refine (toDev_any _ d _ (HV.out.on HB6.out.drew) hsm.out).mono ?_; rintro e w7 ⟨u, rfl, o7, b7⟩; obtain ⟨a0, a1, a2, a3, _⟩ := box4 (box_on (show w6.drew.heap[w.heap.size]? = _ from Q6.out) b7); obtain ⟨f0, f1, f2, f3, _⟩ := box4 (box_on (show w6.drew.heap[w4.heap.size]? = _ from X6.out) b7); have R7 := o7.rd; obtain ⟨_, _, _, _, rfl⟩ := R7.shape; have bd7 : Below w6.heap.size w6 w7 := (Below.refl _ _).drew.trans b7)
        | (go_at_call 50; refine (eqDev_same _ _ d _ (OX6.out.on bd7).rd R7 hsm.out).mono ?_; rintro e w8 ⟨rfl, b8⟩; have bd8 := bstep bd7 b8; obtain ⟨g0, g1, g2, g3, _⟩ := box4 (box_on Q6.out bd8); obtain ⟨h0, h1, h2, h3, _⟩ := box4 (box_on X6.out bd8)))
    have hz8 := bd8.size
    have Q8 := Lib.hid (box_on Q6.out bd8)
    have X8 := Lib.hid (box_on X6.out bd8)
    have OW8 := Lib.hid (OW6.out.on bd8)
    have OX8 := Lib.hid (OX6.out.on bd8)
    have OG8 := Lib.hid (OG6.out.on bd8)
    have HB8 := Lib.hid (bstep HB6.out bd8)
    clear Q6 X6 OW6 OX6 OG6 HB6
    clear o7 b7 R7 bd7 b8 bd8 a0 a1 a2 a3 f0 f1 f2 f3 g0 g1 g2 g3 h0 h1 h2 h3 c0 c1 c2 c3 c4 k0 k1 k2 k3 k4
    obtain ⟨c0, c1, c2, c3, c4⟩ := box4 X8.out
    go_wp2_with fail
    refine (markDev_any _ _ d _ OX8.out hsm.out).mono ?_
    rintro e w9 ⟨rfl, _, m9⟩
    have hz9 := m9.size
    have Q9 := Lib.hid (box_only Q8.out m9 (fun h => by have h1 := h.1; have h2 := h.2; omega))
    have OW9 := Lib.hid (OW8.out.far m9 (fun b hb _ h => by have h1 := h.1; have h2 := h.2; have h3 := hb.1; have h4 := hb.2; omega))
    have OG9 := Lib.hid (OG8.out.far m9 (fun b hb _ h => by have h1 := h.1; have h2 := h.2; have h3 := hb.1; have h4 := hb.2; omega))
    have HB9 := Lib.hid (HB8.out.trans (m9.below HB8.out.size (fun b h => by have h1 := h.1; omega)))
    clear c0 c1 c2 c3 c4 Q8 X8 OW8 OX8 OG8 HB8 m9
    go_wp2_with fail
    refine (eqB_same OG9.out OW9.out hll).mono ?_
    rintro e wA ⟨rfl, bA⟩
    have hzA := bA.size
    have QA := Lib.hid (box_on Q9.out bA)
    have OWA := Lib.hid (OW9.out.on bA)
    have OGA := Lib.hid (OG9.out.on bA)
    have HBA := Lib.hid (bstep HB9.out bA)
    clear Q9 OW9 OG9 HB9 bA
    go_wp2_with fail
    refine (OGA.out.markB 1 hll (by omega) (by omega)).mono ?_
    rintro e wB ⟨rfl, ogB, mB⟩
    have hzB := mB.size
    have QB := Lib.hid (box_only QA.out mB (fun h => by have h1 := h.1; have h2 := h.2; omega))
    have OWB := Lib.hid (OWA.out.far mB (fun b hb _ h => by have h1 := h.1; have h2 := h.2; have h3 := hb.1; have h4 := hb.2; omega))
    have OGB := Lib.hid ogB
    have HBB := Lib.hid (HBA.out.trans (mB.below HBA.out.size (fun b h => by have h1 := h.1; omega)))
    clear QA OWA OGA HBA mB ogB
    go_wp2_with fail
    refine (heldB OGB.out hll).mono ?_
    rintro e wC ⟨rfl, rfl⟩
    obtain ⟨c0, c1, c2, c3, c4⟩ := box4 QB.out
    go_wp2_with fail
    refine (toDev_any _ d _ (HV.out.on HBB.out) hsm.out).mono ?_
    rintro e wD ⟨y, rfl, oD, bD⟩
    have RDD := Lib.hid oD.rd
    obtain ⟨_, _, _, _, rfl⟩ := oD.rd.shape
    have hzD := bD.size
    have OWD := Lib.hid (OWB.out.on bD)
    have OGD := Lib.hid (OGB.out.on bD)
    have HBD := Lib.hid (bstep HBB.out bD)
    clear OWB OGB HBB
    clear c0 c1 c2 c3 c4 bD oD QB
    go_wp2_with fail
    refine (HI.out _ _ RDD.out hsm.out).mono ?_
    rintro e wE ⟨uh, rfl, oE, bE⟩
    obtain ⟨B0, f0, rfl⟩ := oE.isSlice
    have OHE := Lib.hid oE
    have OWE := Lib.hid (OWD.out.on bE)
    have OGE := Lib.hid (OGD.out.on bE)
    have HBE := Lib.hid (bstep HBD.out bE)
    clear OWD OGD HBD oE bE RDD
    go_wp2_with fail
    refine (eqB_same OHE.out OWE.out hll).mono ?_
    rintro e wF ⟨rfl, bF⟩
    have OGF := Lib.hid (OGE.out.on bF)
    have HBF := Lib.hid (bstep HBE.out bF)
    clear OGE HBE bF
    go_wp2_with fail
    refine (heldB OGF.out hll).mono ?_
    rintro e wG ⟨rfl, rfl⟩
    go_wp2
    go_ret
    exact ⟨rfl, HBF.out⟩
theorem exactReadSec_walk (v : Value) (d : DevD) (n : Int) (w : World) (hv : RdArg w w.heap.size v d) (_hn : (Lit.int .i64 n).wf = true) : Calls Try.prog 7 #[v, .int .i64 n] w fun e w' => e = .returned (.bool true) ∧ Below w.heap.size w w' :=
  exactReadSec_gen v d n (readD d n) w hv readD_le (Lib.hid (fun v w h hs => specReadSec_any v d n w h hs)) (Lib.hid (fun v w h hs => implReadSec_any v d n w h hs))
end Go.Proofs.Ytkahjomkjhlkbaa
