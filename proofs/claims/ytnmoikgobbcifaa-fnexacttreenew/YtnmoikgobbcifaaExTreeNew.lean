/- The walk of FnExactTreeNew: at every argument the call returns true and writes nothing that was there. No condition. -/
import Derived.Test.YtnmoikgobbcifaaTreeMark
import Derived.Test.YtnmoikgobbcifaaTreeNew
namespace Go.Proofs.Ytnmoikgobbcifaa
open Go.RowKit
set_option maxRecDepth 100000
set_option linter.unusedSimpArgs false
set_option linter.unusedVariables false
set_option maxHeartbeats 4000000 in
theorem exactTreeNew_walk (w : World) : Calls Try.prog 5 #[] w fun e w' => e = .returned (.bool true) ∧ Below w.heap.size w w' := by
  have HS : Hid (∀ W, ∃ rl rt, rl = [(0 : Int)] ∧ rt = [([] : NodeD)] ∧ Calls Try.prog 22 #[] W (NewTS W rl rt)) := Lib.hid (fun W => ⟨_, _, rfl, rfl, specTreeNew_any W⟩)
  obtain ⟨rl, hrl⟩ : ∃ rl, rl = [(0 : Int)] := ⟨_, rfl⟩
  obtain ⟨rt, hrt⟩ : ∃ rt, rt = [([] : NodeD)] := ⟨_, rfl⟩
  have HS := Lib.hid specTreeNew_any
  have HI := Lib.hid implTreeNew_any
  rw [← hrl, ← hrt] at HS HI
  have hsR : Hid (SmallT rl rt) := Lib.hid (by subst hrl hrt; exact ⟨by decide, by decide, by decide⟩)
  clear hrl hrt
  have BB := Lib.hid (Below.refl w.heap.size w)
  go_enter Try.func5, Try.ntmps5
  go_wp2_with fail
  refine (HS.out _).mono ?_
  rintro r w1 ⟨vlS, vnS, rfl, o, b⟩
  have zS := b.size
  replace BB := Lib.hid (bstep BB.out b)
  have OS := Lib.hid o.c.lt
  clear o b
  obtain ⟨AS, cS, BS, dS, rfl, rfl⟩ := OS.out.reads.shape
  have ba := bal1 w1 (.cells #[.slice AS rl.length cS, .slice BS rt.length dS] 27)
  have QS := Lib.hid (al1 w1 (.cells #[.slice AS rl.length cS, .slice BS rt.length dS] 27))
  have hw2 : (w1.alloc (.cells #[.slice AS rl.length cS, .slice BS rt.length dS] 27)).heap.size = w1.heap.size + 1 := by simp
  replace OS := Lib.hid (OS.out.on ba)
  replace BB := Lib.hid (bstep BB.out ba)
  clear ba
  have yw2 := Lib.hid hw2
  clear hw2
  go_upto_region 2 with (fail)
  generalize w1.alloc (.cells #[.slice AS rl.length cS, .slice BS rt.length dS] 27) = w2 at *
  have xw2 := Nat.le_of_eq yw2.out
  have uw2 := Nat.le_of_eq yw2.out.symm
  clear yw2
  obtain ⟨S0, S1, S2⟩ := box2 QS.out
  go_wp2_with fail
  refine (HI.out _).mono ?_
  clear S0 S1 S2
  rintro r w3 ⟨vlG, vnG, rfl, o, b⟩
  have zG := b.size
  replace OS := Lib.hid (OS.out.on b)
  replace QS := Lib.hid (box_on QS.out b)
  replace BB := Lib.hid (bstep BB.out b)
  have OG := Lib.hid o.c.lt
  clear o b
  obtain ⟨AG, cG, BG, dG, rfl, rfl⟩ := OG.out.reads.shape
  have ba := bal1 w3 (.cells #[.slice AG rl.length cG, .slice BG rt.length dG] 27)
  have QG := Lib.hid (al1 w3 (.cells #[.slice AG rl.length cG, .slice BG rt.length dG] 27))
  have hw4 : (w3.alloc (.cells #[.slice AG rl.length cG, .slice BG rt.length dG] 27)).heap.size = w3.heap.size + 1 := by simp
  replace OS := Lib.hid (OS.out.on ba)
  replace OG := Lib.hid (OG.out.on ba)
  replace QS := Lib.hid (box_on QS.out ba)
  replace BB := Lib.hid (bstep BB.out ba)
  clear ba
  have yw4 := Lib.hid hw4
  clear hw4
  obtain ⟨S0, S1, S2⟩ := box2 QS.out
  go_upto_region 3 with (fail)
  clear S0 S1 S2
  generalize w3.alloc (.cells #[.slice AG rl.length cG, .slice BG rt.length dG] 27) = w4 at *
  have xw4 := Nat.le_of_eq yw4.out
  have uw4 := Nat.le_of_eq yw4.out.symm
  clear yw4
  obtain ⟨S0, S1, S2⟩ := box2 QS.out
  obtain ⟨G0, G1, G2⟩ := box2 QG.out
  go_wp2_with fail
  refine (eqTree_same _ _ _ _ rl rt _ OG.out.reads OS.out.reads hsR.out).mono ?_
  clear S0 S1 S2 G0 G1 G2
  rintro r w5 ⟨rfl, b⟩
  have z5 := b.size
  replace OS := Lib.hid (OS.out.on b)
  replace OG := Lib.hid (OG.out.on b)
  replace QS := Lib.hid (box_on QS.out b)
  replace QG := Lib.hid (box_on QG.out b)
  replace BB := Lib.hid (bstep BB.out b)
  clear b
  obtain ⟨S0, S1, S2⟩ := box2 QS.out
  obtain ⟨G0, G1, G2⟩ := box2 QG.out
  go_wp2_with fail
  refine (markTree_any _ _ _ rl rt 1 _ OG.out (fun b hb => by omega) hsR.out (by omega) (by omega)).mono ?_
  clear S0 S1 S2 G0 G1 G2
  rintro r w6 ⟨rfl, o, g⟩
  have z6 := g.size
  replace OS := Lib.hid (OS.out.far g (fun b hb _ hb' => by omega))
  replace QS := Lib.hid (box_only QS.out g (fun hb => by omega))
  replace QG := Lib.hid (box_only QG.out g (fun hb => by omega))
  replace BB := Lib.hid (BB.out.trans (g.below BB.out.size (fun b hb => by omega)))
  replace OG := Lib.hid o
  clear o g
  have hme := markEnd_le hsR.out (k := 1) (by omega) (by omega)
  have d2 : decide (markEnd 1 rl rt < 0) = false := decide_eq_false (by omega)
  have d3 : (markEnd 1 rl rt != markEnd 1 rl rt) = false := by simp
  obtain ⟨mq, hq⟩ : ∃ mq, markEnd 1 rl rt = mq := ⟨_, rfl⟩
  rw [hq] at d2 d3 hme
  rw [hq]
  have HQ := Lib.hid hq
  clear hq
  obtain ⟨S0, S1, S2⟩ := box2 QS.out
  obtain ⟨G0, G1, G2⟩ := box2 QG.out
  go_wp2_with fail
  refine (heldTree_any _ _ rl rt 1 _ OG.out.reads hsR.out (by omega) (by omega)).mono ?_
  clear S0 S1 S2 G0 G1 G2
  rintro r w7 ⟨rfl, b⟩
  have z7 := b.size
  replace OS := Lib.hid (OS.out.on b)
  replace OG := Lib.hid (OG.out.on b)
  replace QS := Lib.hid (box_on QS.out b)
  replace QG := Lib.hid (box_on QG.out b)
  replace BB := Lib.hid (bstep BB.out b)
  clear b
  rw [HQ.out]
  obtain ⟨S0, S1, S2⟩ := box2 QS.out
  obtain ⟨G0, G1, G2⟩ := box2 QG.out
  go_wp2_with fail
  refine (HI.out _).mono ?_
  clear S0 S1 S2 G0 G1 G2
  rintro r w8 ⟨vlH, vnH, rfl, o, b⟩
  have zH := b.size
  replace OS := Lib.hid (OS.out.on b)
  replace OG := Lib.hid (OG.out.on b)
  replace QS := Lib.hid (box_on QS.out b)
  replace QG := Lib.hid (box_on QG.out b)
  replace BB := Lib.hid (bstep BB.out b)
  have OH := Lib.hid o.c.lt
  clear o b
  obtain ⟨AH, cH, BH, dH, rfl, rfl⟩ := OH.out.reads.shape
  have ba := bal1 w8 (.cells #[.slice AH rl.length cH, .slice BH rt.length dH] 27)
  have QH := Lib.hid (al1 w8 (.cells #[.slice AH rl.length cH, .slice BH rt.length dH] 27))
  have hw9 : (w8.alloc (.cells #[.slice AH rl.length cH, .slice BH rt.length dH] 27)).heap.size = w8.heap.size + 1 := by simp
  replace OS := Lib.hid (OS.out.on ba)
  replace OG := Lib.hid (OG.out.on ba)
  replace OH := Lib.hid (OH.out.on ba)
  replace QS := Lib.hid (box_on QS.out ba)
  replace QG := Lib.hid (box_on QG.out ba)
  replace BB := Lib.hid (bstep BB.out ba)
  clear ba
  have yw9 := Lib.hid hw9
  clear hw9
  obtain ⟨S0, S1, S2⟩ := box2 QS.out
  obtain ⟨G0, G1, G2⟩ := box2 QG.out
  go_upto_region 14 with (fail)
  clear S0 S1 S2 G0 G1 G2
  generalize w8.alloc (.cells #[.slice AH rl.length cH, .slice BH rt.length dH] 27) = w9 at *
  have xw9 := Nat.le_of_eq yw9.out
  have uw9 := Nat.le_of_eq yw9.out.symm
  clear yw9
  obtain ⟨S0, S1, S2⟩ := box2 QS.out
  obtain ⟨G0, G1, G2⟩ := box2 QG.out
  obtain ⟨H0, H1, H2⟩ := box2 QH.out
  go_wp2_with fail
  refine (eqTree_same _ _ _ _ rl rt _ OH.out.reads OS.out.reads hsR.out).mono ?_
  clear S0 S1 S2 G0 G1 G2 H0 H1 H2
  rintro r w10 ⟨rfl, b⟩
  have z10 := b.size
  replace OS := Lib.hid (OS.out.on b)
  replace OG := Lib.hid (OG.out.on b)
  replace OH := Lib.hid (OH.out.on b)
  replace QS := Lib.hid (box_on QS.out b)
  replace QG := Lib.hid (box_on QG.out b)
  replace QH := Lib.hid (box_on QH.out b)
  replace BB := Lib.hid (bstep BB.out b)
  clear b
  obtain ⟨S0, S1, S2⟩ := box2 QS.out
  obtain ⟨G0, G1, G2⟩ := box2 QG.out
  obtain ⟨H0, H1, H2⟩ := box2 QH.out
  go_wp2_with fail
  refine (heldTree_any _ _ rl rt 1 _ OG.out.reads hsR.out (by omega) (by omega)).mono ?_
  clear S0 S1 S2 G0 G1 G2 H0 H1 H2
  rintro r w11 ⟨rfl, b⟩
  have z11 := b.size
  replace OS := Lib.hid (OS.out.on b)
  replace OG := Lib.hid (OG.out.on b)
  replace OH := Lib.hid (OH.out.on b)
  replace QS := Lib.hid (box_on QS.out b)
  replace QG := Lib.hid (box_on QG.out b)
  replace QH := Lib.hid (box_on QH.out b)
  replace BB := Lib.hid (bstep BB.out b)
  clear b
  rw [HQ.out]
  go_wp2
  go_ret
  exact ⟨rfl, BB.out⟩
end Go.Proofs.Ytnmoikgobbcifaa
