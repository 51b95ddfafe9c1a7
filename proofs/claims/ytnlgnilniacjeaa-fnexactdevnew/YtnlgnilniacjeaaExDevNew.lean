/- The walk of FnExactDevNew: at every int the call returns true and writes nothing that was there. No condition. -/
import Derived.Test.YtnlgnilniacjeaaDevLaw
import Derived.Test.YtnlgnilniacjeaaDevNew
namespace Go.Proofs.Ytnlgnilniacjeaa
open Go.RowKit
set_option maxHeartbeats 2000000 in
theorem exactDevNew_gen (n : Int) (D : DevD) (w : World) (hs : SmallD D)
    (HS : Hid (∀ w, Calls Try.prog 33 #[.int .i64 n] w (NewDev w D))) (HI : Hid (∀ w, Calls Try.prog 32 #[.int .i64 n] w (NewDev w D))) :
    Calls Try.prog 6 #[.int .i64 n] w fun e w' => e = .returned (.bool true) ∧ Below w.heap.size w w' := by
  have hsm := Lib.hid hs
  clear hs
  have d2 : decide ((1 : Int) + (totD D : Int) < 0) = false := decide_eq_false (by omega)
  have d3 : ((1 : Int) + (totD D : Int) != 1 + (totD D : Int)) = false := by simp
  go_enter Try.func6, Try.ntmps6
  go_wp2_with fail
  refine (HS.out _).mono ?_
  rintro e w1 ⟨x, rfl, o1, b1⟩
  obtain ⟨A0, c0, A1, c1, rfl⟩ := o1.rd.shape
  have q1 := al1 w1 (.cells #[.slice A0 D.secs.length c0, .slice A1 D.cache.length c1, .int .i64 D.fuse, .bool D.down] 27)
  have p1 := Lib.hid (o1.lt.on (bal1 w1 (.cells #[.slice A0 D.secs.length c0, .slice A1 D.cache.length c1, .int .i64 D.fuse, .bool D.down] 27)))
  have hb1 := bstep b1 (bal1 w1 (.cells #[.slice A0 D.secs.length c0, .slice A1 D.cache.length c1, .int .i64 D.fuse, .bool D.down] 27))
  have Q1 := Lib.hid q1
  have HB1 := Lib.hid hb1
  have hz1 := b1.size
  clear o1 q1 hb1 b1
  go_wp2_with fail
  refine (HI.out _).mono ?_
  rintro e w2 ⟨x, rfl, o2, b2⟩
  obtain ⟨A2, c2, A3, c3, rfl⟩ := o2.rd.shape
  have hz2 := b2.size
  simp only [World.size_alloc] at hz2 o2
  have bb := bstep b2 (bal1 w2 (.cells #[.slice A2 D.secs.length c2, .slice A3 D.cache.length c3, .int .i64 D.fuse, .bool D.down] 27))
  have q2 := box_on Q1.out bb
  have r2 := al1 w2 (.cells #[.slice A2 D.secs.length c2, .slice A3 D.cache.length c3, .int .i64 D.fuse, .bool D.down] 27)
  have p2 := Lib.hid (p1.out.on bb)
  have g2 := Lib.hid (o2.lt.on (bal1 w2 (.cells #[.slice A2 D.secs.length c2, .slice A3 D.cache.length c3, .int .i64 D.fuse, .bool D.down] 27)))
  have HB2 := Lib.hid (bstep HB1.out bb)
  have Q2 := Lib.hid q2
  have R2 := Lib.hid r2
  obtain ⟨y0, y1, y2, y3, y4⟩ := box4 (box_on Q1.out b2)
  clear o2 b2 bb q2 r2 p1 Q1 HB1
  have hn12 : w1.heap.size < w2.heap.size := by omega
  go_wp2_with fail
  refine (eqDev_same _ _ D _ g2.out.rd p2.out.rd hsm.out).mono ?_
  rintro e w3 ⟨rfl, b3⟩
  have Q3 := Lib.hid (box_on Q2.out b3)
  have R3 := Lib.hid (box_on R2.out b3)
  have p3 := Lib.hid (p2.out.on b3)
  have g3 := Lib.hid (g2.out.on b3)
  have HB3 := Lib.hid (bstep HB2.out b3)
  have hz3 := b3.size
  simp only [World.size_alloc] at hz3
  clear Q2 R2 p2 g2 HB2 b3 y0 y1 y2 y3 y4
  obtain ⟨y0, y1, y2, y3, y4⟩ := box4 R3.out
  go_wp2_with fail
  refine (markDev_any _ _ D _ g3.out hsm.out).mono ?_
  rintro e w4 ⟨rfl, g4', m4⟩
  have Q4 := Lib.hid (box_only Q3.out m4 (fun h => by have := h.1; omega))
  have R4 := Lib.hid (box_only R3.out m4 (fun h => by have := h.2; omega))
  have p4 := Lib.hid (p3.out.far m4 (fun b hb _ hb' => by have := hb.2; have := hb'.1; omega))
  have g4 := Lib.hid g4'
  have HB4 := Lib.hid (HB3.out.trans (m4.below HB3.out.size (fun b hb => by have := hb.1; omega)))
  have hz4 := m4.size
  clear Q3 R3 p3 g3 HB3 m4 g4' y0 y1 y2 y3 y4
  obtain ⟨y0, y1, y2, y3, y4⟩ := box4 R4.out
  go_wp2_with fail
  refine (heldDev_any _ D _ g4.out.rd hsm.out).mono ?_
  rintro e w5 ⟨rfl, b5⟩
  have Q5 := Lib.hid (box_on Q4.out b5)
  have R5 := Lib.hid (box_on R4.out b5)
  have p5 := Lib.hid (p4.out.on b5)
  have g5 := Lib.hid (g4.out.on b5)
  have HB5 := Lib.hid (bstep HB4.out b5)
  have hz5 := b5.size
  clear Q4 R4 p4 g4 HB4 b5 y0 y1 y2 y3 y4
  go_wp2_with fail
  refine (HI.out _).mono ?_
  rintro e w6 ⟨x, rfl, o6, b6⟩
  obtain ⟨A4, c4, A5, c5, rfl⟩ := o6.rd.shape
  have bb := bstep b6 (bal1 w6 (.cells #[.slice A4 D.secs.length c4, .slice A5 D.cache.length c5, .int .i64 D.fuse, .bool D.down] 27))
  have R6 := Lib.hid (box_on R5.out bb)
  have p6 := Lib.hid (p5.out.on bb)
  have g6 := Lib.hid (g5.out.on bb)
  have h6 := Lib.hid (o6.on (bal1 w6 (.cells #[.slice A4 D.secs.length c4, .slice A5 D.cache.length c5, .int .i64 D.fuse, .bool D.down] 27)))
  have HB6 := Lib.hid (bstep HB5.out bb)
  have hz6 := b6.size
  obtain ⟨y0, y1, y2, y3, y4⟩ := box4 (box_on Q5.out b6)
  have hn16 : w1.heap.size < w6.heap.size := by omega
  clear Q5 R5 p5 g5 HB5 b6 bb o6
  go_wp2_with fail
  refine (eqDev_same _ _ D _ h6.out.rd p6.out.rd hsm.out).mono ?_
  rintro e w7 ⟨rfl, b7⟩
  have R7 := Lib.hid (box_on R6.out b7)
  have g7 := Lib.hid (g6.out.on b7)
  have HB7 := Lib.hid (bstep HB6.out b7)
  clear R6 p6 g6 HB6 b7 h6 y0 y1 y2 y3 y4
  obtain ⟨y0, y1, y2, y3, y4⟩ := box4 R7.out
  go_wp2_with fail
  refine (heldDev_any _ D _ g7.out.rd hsm.out).mono ?_
  rintro e w8 ⟨rfl, b8⟩
  have hb8 := bstep HB7.out b8
  go_wp2
  go_ret
  exact ⟨rfl, hb8⟩
theorem exactDevNew_walk (n : Int) (w : World) (_hn : (Lit.int .i64 n).wf = true) : Calls Try.prog 6 #[.int .i64 n] w fun e w' => e = .returned (.bool true) ∧ Below w.heap.size w w' :=
  exactDevNew_gen n (newD n) w (newD_small n) (Lib.hid (specDevNew_any n)) (Lib.hid (implDevNew_any n))
end Go.Proofs.Ytnlgnilniacjeaa
