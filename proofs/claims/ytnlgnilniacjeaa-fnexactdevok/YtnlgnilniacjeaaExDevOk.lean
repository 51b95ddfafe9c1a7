/- The walk of FnExactDevOk: at every device the call returns true and writes nothing that was there. No condition. -/
import Derived.Test.YtnlgnilniacjeaaDevLaw
import Derived.Test.YtnlgnilniacjeaaDevOk
import Derived.Test.YtnlgnilniacjeaaDevOpen
import Derived.Deep.RegionHeld3
namespace Go.Proofs.Ytnlgnilniacjeaa
open Go.RowKit
set_option maxHeartbeats 1000000 in
theorem exactDevOk_walk (v : Value) (d : DevD) (w : World) (hv : RdArg w w.heap.size v d) :
    Calls Try.prog 7 #[v] w fun e w' => e = .returned (.bool true) ∧ Below w.heap.size w w' := by
  have HV := Lib.hid hv
  obtain ⟨v0, v1, rfl, h0, h1⟩ := hv
  obtain ⟨A0, d0, e0, _, _⟩ := h0.len
  obtain ⟨A1, d1, e1, _, _⟩ := h1.len
  subst e0 e1
  clear h0 h1
  have q0 := al1 w (.cells #[.slice A0 d.secs.length d0, .slice A1 d.cache.length d1, .int .i64 d.fuse, .bool d.down] 48)
  have HB0 := Lib.hid (bal1 w (.cells #[.slice A0 d.secs.length d0, .slice A1 d.cache.length d1, .int .i64 d.fuse, .bool d.down] 48))
  go_enter Try.func7, Try.ntmps7
  go_wp2_with fail
  refine (szDev_any _ d 1048576 _ (HV.out.on HB0.out) (by omega) (by omega)).mono ?_
  rintro e w1 ⟨x, rfl, x1, x2, b1⟩
  have hb1 := bstep HB0.out b1
  replace q0 := box_on q0 b1
  have X2 := Lib.hid x2
  clear x2 b1
  by_cases hx : x < 0
  · go_wp2
    go_ret
    exact ⟨rfl, hb1⟩
  · have hsm := Lib.hid (X2.out (by omega))
    have Q0 := Lib.hid q0
    obtain ⟨c0, c1, c2, c3, c4⟩ := box4 q0
    clear q0
    go_wp2_with fail
    refine (toDev_any _ d _ (HV.out.on hb1) hsm.out).mono ?_
    rintro e w2 ⟨y, rfl, o2, b2⟩
    have hb2 := bstep hb1 b2
    have q2 := box_on Q0.out b2
    clear b2 c0 c1 c2 c3 c4 Q0
    have R2 := o2.rd
    obtain ⟨A2, d2, A3, d3, rfl⟩ := R2.shape
    go_wp2_with fail
    refine (specDevOk_any _ d _ R2 hsm.out).mono ?_
    rintro e w3 ⟨rfl, b3⟩
    have hb3 := bstep hb2 b3
    have Q3 := Lib.hid (box_on q2 b3)
    clear b3 q2 R2 hb1 hb2
    obtain ⟨c0, c1, c2, c3, c4⟩ := box4 Q3.out
    go_wp2_with fail
    refine (toDev_any _ d _ (HV.out.on hb3) hsm.out).mono ?_
    rintro e w4 ⟨z, rfl, o4, b4⟩
    have hb4 := bstep hb3 b4
    have q4 := box_on Q3.out b4
    have R4 := o4.rd
    obtain ⟨A4, d4, A5, d5, rfl⟩ := R4.shape
    have hz4 : w.heap.size < w4.heap.size := (Array.getElem?_eq_some_iff.1 q4).1
    have r5 := al1 w4 (.cells #[.slice A4 d.secs.length d4, .slice A5 d.cache.length d5, .int .i64 d.fuse, .bool d.down] 27)
    have q5 := box_on q4 (bal1 w4 (.cells #[.slice A4 d.secs.length d4, .slice A5 d.cache.length d5, .int .i64 d.fuse, .bool d.down] 27))
    have R5 := R4.on (bal1 w4 (.cells #[.slice A4 d.secs.length d4, .slice A5 d.cache.length d5, .int .i64 d.fuse, .bool d.down] 27))
    have hb5 := bstep hb4 (bal1 w4 (.cells #[.slice A4 d.secs.length d4, .slice A5 d.cache.length d5, .int .i64 d.fuse, .bool d.down] 27))
    have HR5 := Lib.hid r5
    have HQ5 := Lib.hid q5
    have HW := Lib.hid R5
    have HB5 := Lib.hid hb5
    clear b4 c0 c1 c2 c3 c4 Q3 q4 R4 r5 q5 R5 hb5 hb3
    go_wp2_with fail
    refine (implDevOk_any _ d _ HW.out hsm.out).mono ?_
    rintro e w6 ⟨rfl, b6⟩
    have q6 := box_on HQ5.out b6
    have r6 := box_on HR5.out b6
    have R6 := Lib.hid (HW.out.on b6)
    have hb6 := bstep HB5.out b6
    have hz6 := b6.size
    simp only [World.size_alloc] at hz6
    clear HR5 HQ5 HW HB5 b6
    obtain ⟨c0, c1, c2, c3, c4⟩ := box4 q6
    obtain ⟨e0, e1, e2, e3, e4⟩ := box4 r6
    have Q6 := Lib.hid q6
    have P6 := Lib.hid r6
    clear q6 r6
    have hne : (okD d != okD d) = false := by simp
    go_wp2
    go_region_held3 (fun W => W.cell? ⟨w.heap.size, 0, none⟩ = some (.slice A0 d.secs.length d0) ∧ W.cell? ⟨w.heap.size, 1, none⟩ = some (.slice A1 d.cache.length d1) ∧ W.cell? ⟨w.heap.size, 2, none⟩ = some (.int .i64 d.fuse) ∧ W.cell? ⟨w.heap.size, 3, none⟩ = some (.bool d.down) ∧ W.cell? ⟨w4.heap.size, 0, none⟩ = some (.slice A4 d.secs.length d4) ∧ W.cell? ⟨w4.heap.size, 1, none⟩ = some (.slice A5 d.cache.length d5) ∧ W.cell? ⟨w4.heap.size, 2, none⟩ = some (.int .i64 d.fuse) ∧ W.cell? ⟨w4.heap.size, 3, none⟩ = some (.bool d.down)) (first | go_keep | exact ⟨a0, a1, a2, a3, f0, f1, f2, f3⟩ | exact ⟨g0, g1, g2, g3, h0, h1, h2, h3⟩)
      (first
        | (go_at_call 38; refine (toDev_any _ d _ (HV.out.on hb6.drew) hsm.out).mono ?_; rintro e w7 ⟨u, rfl, o7, b7⟩; have q7 := box_on (show w6.drew.heap[w.heap.size]? = _ from Q6.out) b7; have r7 := box_on (show w6.drew.heap[w4.heap.size]? = _ from P6.out) b7; obtain ⟨a0, a1, a2, a3, _⟩ := box4 q7; obtain ⟨f0, f1, f2, f3, _⟩ := box4 r7; have R7 := o7.rd; obtain ⟨A6, d6, A7, d7, rfl⟩ := R7.shape; have S7 := Lib.hid (R6.out.on ((Below.refl _ _).drew.trans b7)); have hb7 := bstep hb6.drew b7)
        | (go_at_call 34; refine (eqDev_same _ _ d _ S7.out R7 hsm.out).mono ?_; rintro e w8 ⟨rfl, b8⟩; obtain ⟨g0, g1, g2, g3, _⟩ := box4 (box_on q7 b8); obtain ⟨h0, h1, h2, h3, _⟩ := box4 (box_on r7 b8); have hb8 := bstep hb7 b8))
    go_wp2
    go_ret
    exact ⟨rfl, hb8⟩
end Go.Proofs.Ytnlgnilniacjeaa
