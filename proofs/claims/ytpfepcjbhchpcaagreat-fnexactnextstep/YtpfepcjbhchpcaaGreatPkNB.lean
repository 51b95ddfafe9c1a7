/- Several texts in one: Pool, CelPure, CelFind, CelOk, KSetPure, NodePure, Iter, NodeIter, NodeLay, KSetImpl, KSetFind, NodeIAt, KSetOk, NodeOk, KSetDrop, KSetPut, KSetMerge, NodeSKeys, KSetIPut, KSetIMerge, NodeIKeys, TreePure, PoolFind. -/
import Derived.RangeFuncNested
import Derived.RangeFuncBound
import Derived.RangeFuncCalls
import Derived.RangeFuncLeaves
import Derived.Shelf.Abstract
import Derived.Shelf.RegionOpen
import Derived.WalkKit
import Derived.OwnWalkIn
import Derived.TacticsInMore
import Derived.LoopNIn
import Derived.LoopIn
import Derived.Test.YtpfepcjbhchpcaaGreatPkNA
namespace Go.Proofs.YtpfepcjbhchpcaaGreat
open Go.RowKit Go.ChangeShapes Go.WideShapes Go.Deep
set_option maxRecDepth 100000
set_option linter.unusedSimpArgs false
set_option linter.unusedVariables false

structure PoolD where
  (lo : List Int) (ts : List NodeD) (ag : List AgeD) (ce : List CelD) (vo : List VolD) (nx : Int)
theorem boxP {w : World} {p : Nat} {a b c d e f : Value} {t : TypeId} (h : w.heap[p]? = some (.cells #[a, b, c, d, e, f] t (0, 0))) : w.cell? ⟨p, 0, none⟩ = some a ∧ w.cell? ⟨p, 1, none⟩ = some b ∧ w.cell? ⟨p, 2, none⟩ = some c ∧ w.cell? ⟨p, 3, none⟩ = some d ∧ w.cell? ⟨p, 4, none⟩ = some e ∧ w.cell? ⟨p, 5, none⟩ = some f ∧ ∀ o, w.frozen? ⟨p, o, none⟩ = false :=
  ⟨by rw [cell_of_row w p 0 _ _ _ h]; rfl, by rw [cell_of_row w p 1 _ _ _ h]; rfl, by rw [cell_of_row w p 2 _ _ _ h]; rfl, by rw [cell_of_row w p 3 _ _ _ h]; rfl, by rw [cell_of_row w p 4 _ _ _ h]; rfl, by rw [cell_of_row w p 5 _ _ _ h]; rfl, fun o => frozen_of_row w p o _ _ h⟩
/-- A pool's five slices read as d's lists; the cells' block is made for type t. -/
def RdP (t : TypeId) (w : World) (B : Nat) (vl vn va vc vv : Value) (d : PoolD) : Prop := RdT w B vl vn d.lo d.ts ∧ Reads w B va (agesD d.ag) ∧ Reads w B vc (celsT t d.ce) ∧ Reads w B vv (volsD d.vo)
theorem RdP.on {t : TypeId} {w w' : World} {vl vn va vc vv : Value} {d : PoolD} (h : RdP t w w.heap.size vl vn va vc vv d) (hb : Below w.heap.size w w') : RdP t w' w'.heap.size vl vn va vc vv d := ⟨h.1.on hb, h.2.1.on hb, h.2.2.1.on hb, h.2.2.2.on hb⟩
theorem RdP.shape {t : TypeId} {w : World} {B : Nat} {vl vn va vc vv : Value} {d : PoolD} (h : RdP t w B vl vn va vc vv d) : ∃ A0 c0 A1 c1 A2 c2 A3 c3 A4 c4, vl = .slice A0 d.lo.length c0 ∧ vn = .slice A1 d.ts.length c1 ∧ va = .slice A2 d.ag.length c2 ∧ vc = .slice A3 d.ce.length c3 ∧ vv = .slice A4 d.vo.length c4 := by
  obtain ⟨A0, c0, A1, c1, h0, h1⟩ := h.1.shape
  obtain ⟨A2, c2, h2, _⟩ := h.2.1.lenN
  obtain ⟨A3, c3, h3, _⟩ := h.2.2.1.lenN
  obtain ⟨A4, c4, h4, _⟩ := h.2.2.2.lenN
  exact ⟨A0, c0, A1, c1, A2, c2, A3, c3, A4, c4, h0, h1, h2, h3, h4⟩
/-- A pool of the laws as it comes in. -/
def RdA (w : World) (vl vn va vc vv : Value) (d : PoolD) : Prop := (Reads w w.heap.size vl (intsD d.lo) ∧ Reads w w.heap.size vn (nodesA d.ts)) ∧ Reads w w.heap.size va (agesA d.ag) ∧ Reads w w.heap.size vc (celsA d.ce) ∧ Reads w w.heap.size vv (volsA d.vo)
theorem RdA.on {w w' : World} {vl vn va vc vv : Value} {d : PoolD} (h : RdA w vl vn va vc vv d) (hb : Below w.heap.size w w') : RdA w' vl vn va vc vv d := ⟨⟨h.1.1.on hb, h.1.2.on hb⟩, h.2.1.on hb, h.2.2.1.on hb, h.2.2.2.on hb⟩
theorem RdA.shape {w : World} {vl vn va vc vv : Value} {d : PoolD} (h : RdA w vl vn va vc vv d) : ∃ A0 c0 A1 c1 A2 c2 A3 c3 A4 c4, vl = .slice A0 d.lo.length c0 ∧ vn = .slice A1 d.ts.length c1 ∧ va = .slice A2 d.ag.length c2 ∧ vc = .slice A3 d.ce.length c3 ∧ vv = .slice A4 d.vo.length c4 := by
  obtain ⟨A0, c0, h0, _⟩ := h.1.1.lenN
  obtain ⟨A1, c1, h1, _⟩ := h.1.2.lenN
  obtain ⟨A2, c2, h2, _⟩ := h.2.1.lenN
  obtain ⟨A3, c3, h3, _⟩ := h.2.2.1.lenN
  obtain ⟨A4, c4, h4, _⟩ := h.2.2.2.lenN
  exact ⟨A0, c0, A1, c1, A2, c2, A3, c3, A4, c4, h0, h1, h2, h3, h4⟩
/-- A pool in blocks of S, each part in blocks of its own. -/
def PoolC (t : TypeId) (w : World) (S : Nat → Prop) (vl vn va vc vv : Value) (d : PoolD) : Prop := ∃ P Q R T : Nat → Prop, (∀ b, P b → S b) ∧ (∀ b, Q b → S b) ∧ (∀ b, R b → S b) ∧ (∀ b, T b → S b) ∧ (∀ b, P b → ¬ Q b ∧ ¬ R b ∧ ¬ T b) ∧ (∀ b, Q b → ¬ R b ∧ ¬ T b) ∧ (∀ b, R b → ¬ T b) ∧
  TreeC w P vl vn d.lo d.ts ∧ Owns w Q va (agesD d.ag) ∧ Owns w R vc (celsT t d.ce) ∧ Owns w T vv (volsD d.vo)
theorem PoolC.reads {t : TypeId} {w : World} {S : Nat → Prop} {vl vn va vc vv : Value} {d : PoolD} (h : PoolC t w S vl vn va vc vv d) : RdP t w w.heap.size vl vn va vc vv d := by
  obtain ⟨P, Q, R, T, _, _, _, _, _, _, _, h1, h2, h3, h4⟩ := h
  exact ⟨h1.reads, h2.reads, h3.reads, h4.reads⟩
theorem PoolC.keep {t : TypeId} {w w' : World} {S : Nat → Prop} {vl vn va vc vv : Value} {d : PoolD} (h : PoolC t w S vl vn va vc vv d) (hk : ∀ b, S b → b < w.heap.size → w'.heap[b]? = w.heap[b]?) : PoolC t w' S vl vn va vc vv d := by
  obtain ⟨P, Q, R, T, p1, p2, p3, p4, p5, p6, p7, h1, h2, h3, h4⟩ := h
  exact ⟨P, Q, R, T, p1, p2, p3, p4, p5, p6, p7, h1.keep (fun b hb => hk b (p1 b hb)), h2.keep (fun b hb => hk b (p2 b hb)), h3.keep (fun b hb => hk b (p3 b hb)), h4.keep (fun b hb => hk b (p4 b hb))⟩
theorem PoolC.on {t : TypeId} {w w' : World} {S : Nat → Prop} {vl vn va vc vv : Value} {d : PoolD} (h : PoolC t w S vl vn va vc vv d) (hb : Below w.heap.size w w') : PoolC t w' S vl vn va vc vv d := h.keep (fun b _ hl => hb.block b hl)
theorem PoolC.far {t : TypeId} {w w' : World} {S T : Nat → Prop} {vl vn va vc vv : Value} {d : PoolD} (h : PoolC t w S vl vn va vc vv d) (hg : Only T w w') (hd : ∀ b, S b → b < w.heap.size → ¬ T b) : PoolC t w' S vl vn va vc vv d := h.keep (fun b hb hl => hg.block b hl (hd b hb hl))
theorem PoolC.mono {t : TypeId} {w : World} {S U : Nat → Prop} {vl vn va vc vv : Value} {d : PoolD} (h : PoolC t w S vl vn va vc vv d) (hS : ∀ b, S b → U b) : PoolC t w U vl vn va vc vv d := by
  obtain ⟨P, Q, R, T, p1, p2, p3, p4, p5, p6, p7, h1, h2, h3, h4⟩ := h
  exact ⟨P, Q, R, T, fun b hb => hS b (p1 b hb), fun b hb => hS b (p2 b hb), fun b hb => hS b (p3 b hb), fun b hb => hS b (p4 b hb), p5, p6, p7, h1, h2, h3, h4⟩
theorem PoolC.lt {t : TypeId} {w : World} {S : Nat → Prop} {vl vn va vc vv : Value} {d : PoolD} (h : PoolC t w S vl vn va vc vv d) : PoolC t w (fun b => S b ∧ b < w.heap.size) vl vn va vc vv d := by
  obtain ⟨P, Q, R, T, p1, p2, p3, p4, p5, p6, p7, h1, h2, h3, h4⟩ := h
  exact ⟨fun b => P b ∧ b < w.heap.size, fun b => Q b ∧ b < w.heap.size, fun b => R b ∧ b < w.heap.size, fun b => T b ∧ b < w.heap.size, fun b hb => ⟨p1 b hb.1, hb.2⟩, fun b hb => ⟨p2 b hb.1, hb.2⟩, fun b hb => ⟨p3 b hb.1, hb.2⟩, fun b hb => ⟨p4 b hb.1, hb.2⟩, fun b hb => ⟨fun h => (p5 b hb.1).1 h.1, fun h => (p5 b hb.1).2.1 h.1, fun h => (p5 b hb.1).2.2 h.1⟩, fun b hb => ⟨fun h => (p6 b hb.1).1 h.1, fun h => (p6 b hb.1).2 h.1⟩, fun b hb h => p7 b hb.1 h.1, h1.lt, h2.lt, h3.lt, h4.lt⟩
/-- The call makes a pool in new memory. -/
def NewP (t : TypeId) (w : World) (d : PoolD) (e : Ending) (w' : World) : Prop := ∃ vl vn va vc vv, e = .returned (.agg #[vl, vn, va, vc, vv, .int .i64 d.nx]) ∧ PoolC t w' (fun b => w.heap.size ≤ b) vl vn va vc vv d ∧ Below w.heap.size w w'
def SmallP (d : PoolD) : Prop := d.lo.length + (d.ts.length + sumT d.ts) ≤ 1048576 ∧ d.ag.length ≤ 1048576 ∧ d.ce.length ≤ 1048576 ∧ d.vo.length ≤ 1048576
theorem SmallP.t {d : PoolD} (h : SmallP d) : SmallT d.lo d.ts := by
  have := h.1
  exact ⟨by omega, by omega, by omega⟩
/-- A pool of the laws, its names of sizes that strings have. -/
def PoolIs (w : World) (v : Value) (d : PoolD) : Prop := ∃ vl vn va vc vv, v = .agg #[vl, vn, va, vc, vv, .int .i64 d.nx] ∧ RdA w vl vn va vc vv d ∧ (∀ k ∈ d.vo, k.a.size ≤ maxLen) ∧ (Lit.int .i64 d.nx).wf = true
theorem pool_opens : Opens Tryz.prog 30 (fun ds => ∃ d : PoolD, ds = [intsD d.lo, nodesA d.ts, agesA d.ag, celsA d.ce, volsA d.vo, .lit (iV d.nx)] ∧ (∀ k ∈ d.vo, k.a.size ≤ maxLen) ∧ (Lit.int .i64 d.nx).wf = true) := by
  have h := Opens.struct (P := Tryz.prog) Tryz.underlying30 (by kernel_rfl) [(fun ds => ∃ lo ts, ds = [intsD lo, nodesA ts]), (fun ds => ∃ l, ds = [agesA l]), (fun ds => ∃ l, ds = [celsA l]), (fun ds => ∃ l, ds = [volsA l] ∧ ∀ k ∈ l, k.a.size ≤ maxLen), (fun ds => ∃ n : Int, ds = [.lit (iV n)] ∧ (Lit.int .i64 n).wf = true)] rfl (fun i hi => by
    match i, hi with
    | 0, _ => exact tree_opens
    | 1, _ => exact ages_opens
    | 2, _ => exact cels_opens
    | 3, _ => exact vols_opens
    | 4, _ => exact Opens.int Tryz.underlying3)
  refine h.weaken (fun ds ⟨dss, hd, hC, hds⟩ => ?_)
  match dss, hd with
  | [a, b, c, e, f], _ =>
    obtain ⟨lo, ts, h0⟩ := hC 0 (by simp)
    obtain ⟨ag, h1⟩ := hC 1 (by simp)
    obtain ⟨ce, h2⟩ := hC 2 (by simp)
    obtain ⟨vo, h3, z3⟩ := hC 3 (by simp)
    obtain ⟨nx, h4, z4⟩ := hC 4 (by simp)
    simp at h0 h1 h2 h3 h4
    subst h0 h1 h2 h3 h4
    exact ⟨⟨lo, ts, ag, ce, vo, nx⟩, by rw [hds]; rfl, z3, z4⟩
theorem open_poolArg {H : Type} {enc : TypeId × Value → H} {w : World} {r : Reach} {b0 base : Nat} {spare : Nat → Bool} {held : Bool} {v : Value} {x : DataW H} {p : List MemPlace}
    (hv : Value.okWide Tryz.prog w r b0 30 v) (h : DataW.Trod enc Tryz.prog w base spare held 30 v x p) : ∃ d, PoolIs w v d := by
  obtain ⟨cs, rfl, hsz⟩ := okWide_struct Tryz.underlying30 hv
  obtain ⟨fuel, hf⟩ := h
  obtain ⟨ds, ⟨d, rfl, hn, hw⟩, hr⟩ := pool_opens _ _ _ _ _ _ _ _ _ hf
  obtain ⟨l⟩ := cs
  have hl := hr.1
  simp [Value.cells] at hl
  match l, hl with
  | [a, b, c, e, f, g], _ =>
    have r0 := hr.2 0 (by simp [Value.cells]) (by simp)
    have r1 := hr.2 1 (by simp [Value.cells]) (by simp)
    have r2 := hr.2 2 (by simp [Value.cells]) (by simp)
    have r3 := hr.2 3 (by simp [Value.cells]) (by simp)
    have r4 := hr.2 4 (by simp [Value.cells]) (by simp)
    have r5 := hr.2 5 (by simp [Value.cells]) (by simp)
    simp [Value.cells] at r0 r1 r2 r3 r4 r5
    cases r5
    exact ⟨d, a, b, c, e, f, rfl, ⟨⟨r0, r1⟩, r2, r3, r4⟩, hn, hw⟩
theorem szTree_le (vl vn : Value) (lo : List Int) (ts : List NodeD) (w : World) (hl : Reads w w.heap.size vl (intsD lo)) (hv : Reads w w.heap.size vn (nodesA ts)) :
    Calls Tryz.prog 17 #[.agg #[vl, vn], .int .i64 1048576] w fun e w' => ((∃ q : Int, e = .returned (.int .i64 q) ∧ 0 ≤ q ∧ q ≤ 1048576 ∧ lo.length + (ts.length + sumT ts) ≤ 1048576) ∨ e = .returned (.int .i64 (-1))) ∧ Below w.heap.size w w' := by
  obtain ⟨A, c, rfl, hc1, hc2⟩ := hl.lenN
  have HS := Lib.hid (fun W b m => szNodeS_any vn ts m W (hv.on b))
  obtain ⟨A', c', rfl, _, _⟩ := hv.lenN
  have HB := Lib.hid (bal1 w (.cells #[.slice A lo.length c, .slice A' ts.length c'] 25))
  clear hv hl
  go_enter Tryz.func17, Tryz.ntmps17
  go_wp2_with fail
  refine (szIntS_any A lo.length c 1048576 _ (by omega) (by omega) (by omega)).mono ?_
  rintro e w1 ⟨rfl, (⟨rfl, h3⟩ | ⟨rfl, h3⟩)⟩
  · go_wp2
    go_ret
    exact ⟨.inr rfl, HB.out⟩
  · generalize hq : (1048576 : Int) - ((lo.length : Nat) : Int) = q
    have d2 : decide (q < 0) = false := decide_eq_false (by omega)
    go_wp2_with fail
    refine (HS.out _ HB.out q (by omega) (by omega)).mono ?_
    rintro e w2 ⟨b2, (⟨rfl, h4⟩ | ⟨rfl, h4⟩)⟩
    · have HB2 := Lib.hid (bstep HB.out b2)
      clear b2
      go_wp2
      go_ret
      exact ⟨.inr rfl, HB2.out⟩
    · have HB2 := Lib.hid (bstep HB.out b2)
      clear b2
      generalize hp : q - ((ts.length + sumT ts : Nat) : Int) = p
      have d3 : decide (p < 0) = false := decide_eq_false (by omega)
      go_wp2
      go_ret
      exact ⟨.inl ⟨p, rfl, by omega, by omega, by omega⟩, HB2.out⟩
set_option maxHeartbeats 1000000 in
theorem szPool_any (vl vn va vc vv : Value) (d : PoolD) (w : World) (h : RdA w vl vn va vc vv d) (hn : ∀ k ∈ d.vo, k.a.size ≤ maxLen) :
    Calls Tryz.prog 6 #[.agg #[vl, vn, va, vc, vv, .int .i64 d.nx], .int .i64 1048576] w fun e w' => ((∃ q : Int, e = .returned (.int .i64 q) ∧ 0 ≤ q ∧ SmallP d) ∨ e = .returned (.int .i64 (-1))) ∧ Below w.heap.size w w' := by
  obtain ⟨A0, c0, A1, c1, A2, c2, A3, c3, A4, c4, rfl, rfl, rfl, rfl, rfl⟩ := h.shape
  have hl2 := h.2.1.lenN
  have hl3 := h.2.2.1.lenN
  obtain ⟨_, _, e2, g2, g2'⟩ := h.2.1.lenN
  obtain ⟨_, _, e3, g3, g3'⟩ := h.2.2.1.lenN
  cases e2
  cases e3
  clear hl2 hl3
  have m2 : d.ag.length ≤ maxLen := by omega
  have m3 : d.ce.length ≤ maxLen := by omega
  have HT := Lib.hid (fun W b => szTree_le (.slice A0 d.lo.length c0) (.slice A1 d.ts.length c1) d.lo d.ts W (h.1.1.on b) (h.1.2.on b))
  have HV := Lib.hid (fun W b m => szVolS_any (.slice A4 d.vo.length c4) d.vo m W (h.2.2.2.on b) hn)
  have HB := Lib.hid (bal1 w (.cells #[.slice A0 d.lo.length c0, .slice A1 d.ts.length c1, .slice A2 d.ag.length c2, .slice A3 d.ce.length c3, .slice A4 d.vo.length c4, .int .i64 d.nx] 30))
  have Q0 := Lib.hid (al1 w (.cells #[.slice A0 d.lo.length c0, .slice A1 d.ts.length c1, .slice A2 d.ag.length c2, .slice A3 d.ce.length c3, .slice A4 d.vo.length c4, .int .i64 d.nx] 30))
  have M2 := Lib.hid m2
  have M3 := Lib.hid m3
  clear h hn m2 m3 g2 g2' g3 g3'
  go_enter Tryz.func6, Tryz.ntmps6
  go_upto_region 1 with (fail)
  generalize w.alloc (.cells #[.slice A0 d.lo.length c0, .slice A1 d.ts.length c1, .slice A2 d.ag.length c2, .slice A3 d.ce.length c3, .slice A4 d.vo.length c4, .int .i64 d.nx] 30) = W at *
  obtain ⟨x0, x1, x2, x3, x4, x5, x6⟩ := boxP Q0.out
  go_wp2_with fail
  refine (HT.out _ HB.out).mono ?_
  rintro e w1 ⟨⟨q, rfl, q0, q1, S1⟩ | rfl, b1⟩
  · clear x0 x1 x2 x3 x4 x5 x6
    obtain ⟨x0, x1, x2, x3, x4, x5, x6⟩ := boxP (box_on Q0.out b1)
    have HB1 := Lib.hid (bstep HB.out b1)
    have HS1 := Lib.hid S1
    have HW1 := Lib.hid (box_on Q0.out b1)
    have d1 : decide (q < 0) = false := decide_eq_false (by omega)
    clear b1 S1
    go_wp2_with fail
    refine (szAgeS_any A2 d.ag.length c2 q _ M2.out q0 q1).mono ?_
    rintro e w2 ⟨rfl, ⟨rfl, h3⟩ | ⟨rfl, h3⟩⟩
    · go_wp2
      go_ret
      exact ⟨.inr rfl, HB1.out⟩
    · have S2 : Hid (d.ag.length ≤ 1048576) := Lib.hid (by omega)
      have q2 : 0 ≤ q - ((d.ag.length : Nat) : Int) := by omega
      have q3 : q - ((d.ag.length : Nat) : Int) ≤ 1048576 := by omega
      generalize q - ((d.ag.length : Nat) : Int) = r at *
      have d2 : decide (r < 0) = false := decide_eq_false (by omega)
      clear h3
      go_wp2_with fail
      refine (szCellS_any A3 d.ce.length c3 r _ M3.out q2 q3).mono ?_
      rintro e w2 ⟨rfl, ⟨rfl, h3⟩ | ⟨rfl, h3⟩⟩
      · go_wp2
        go_ret
        exact ⟨.inr rfl, HB1.out⟩
      · have S3 : Hid (d.ce.length ≤ 1048576) := Lib.hid (by omega)
        have q4 : 0 ≤ r - ((d.ce.length : Nat) : Int) := by omega
        have q5 : r - ((d.ce.length : Nat) : Int) ≤ 1048576 := by omega
        generalize r - ((d.ce.length : Nat) : Int) = s at *
        have d3 : decide (s < 0) = false := decide_eq_false (by omega)
        clear h3
        go_wp2_with fail
        refine (HV.out _ HB1.out s q4 q5).mono ?_
        rintro e w2 ⟨b2, ⟨rfl, h3⟩ | ⟨rfl, h3⟩⟩
        · have HB2 := Lib.hid (bstep HB1.out b2)
          clear b2
          go_wp2
          go_ret
          exact ⟨.inr rfl, HB2.out⟩
        · have HB2 := Lib.hid (bstep HB1.out b2)
          have S4 : Hid (d.vo.length ≤ 1048576) := Lib.hid (by omega)
          have q6 : 0 ≤ s - ((d.vo.length + sumV d.vo : Nat) : Int) := by omega
          generalize s - ((d.vo.length + sumV d.vo : Nat) : Int) = p at *
          have d4 : decide (p < 0) = false := decide_eq_false (by omega)
          clear b2 h3
          go_wp2
          go_ret
          exact ⟨.inl ⟨p, rfl, q6, HS1.out, S2.out, S3.out, S4.out⟩, HB2.out⟩
  · have HB1 := Lib.hid (bstep HB.out b1)
    clear b1
    go_wp2
    go_ret
    exact ⟨.inr rfl, HB1.out⟩
set_option maxHeartbeats 1000000 in
theorem toPool_any (vl vn va vc vv : Value) (d : PoolD) (w : World) (h : RdA w vl vn va vc vv d) (hs : SmallP d) :
    Calls Tryz.prog 8 #[.agg #[vl, vn, va, vc, vv, .int .i64 d.nx]] w (NewP 107 w d) := by
  obtain ⟨A0, c0, A1, c1, A2, c2, A3, c3, A4, c4, rfl, rfl, rfl, rfl, rfl⟩ := h.shape
  have HT := Lib.hid (fun W b => toTree_any (.slice A0 d.lo.length c0) (.slice A1 d.ts.length c1) d.lo d.ts W (h.1.1.on b) (h.1.2.on b) hs.1)
  have HA := Lib.hid (fun W b => toAgeS_any (.slice A2 d.ag.length c2) d.ag W (h.2.1.on b) hs.2.1)
  have HC := Lib.hid (fun W b => toCellS_any (.slice A3 d.ce.length c3) d.ce W (h.2.2.1.on b) hs.2.2.1)
  have HV := Lib.hid (fun W b => toVolS_any (.slice A4 d.vo.length c4) d.vo W (h.2.2.2.on b) hs.2.2.2)
  obtain ⟨q0, q1, q2⟩ := al3 w (.cells #[.slice A0 d.lo.length c0, .slice A1 d.ts.length c1, .slice A2 d.ag.length c2, .slice A3 d.ce.length c3, .slice A4 d.vo.length c4, .int .i64 d.nx] 30) (.cells #[.slice none 0 0, .slice none 0 0, .slice none 0 0, .slice none 0 0, .slice none 0 0, .int .i64 0] 41) (.cells #[.slice none 0 0, .slice none 0 0, .slice none 0 0, .slice none 0 0, .slice none 0 0, .int .i64 0] 41)
  have Q0 := Lib.hid q0
  have Q1 := Lib.hid q1
  have Q2 := Lib.hid q2
  have HB := Lib.hid (bal3 w (.cells #[.slice A0 d.lo.length c0, .slice A1 d.ts.length c1, .slice A2 d.ag.length c2, .slice A3 d.ce.length c3, .slice A4 d.vo.length c4, .int .i64 d.nx] 30) (.cells #[.slice none 0 0, .slice none 0 0, .slice none 0 0, .slice none 0 0, .slice none 0 0, .int .i64 0] 41) (.cells #[.slice none 0 0, .slice none 0 0, .slice none 0 0, .slice none 0 0, .slice none 0 0, .int .i64 0] 41))
  have HZ : Hid ((((w.alloc (.cells #[.slice A0 d.lo.length c0, .slice A1 d.ts.length c1, .slice A2 d.ag.length c2, .slice A3 d.ce.length c3, .slice A4 d.vo.length c4, .int .i64 d.nx] 30)).alloc (.cells #[.slice none 0 0, .slice none 0 0, .slice none 0 0, .slice none 0 0, .slice none 0 0, .int .i64 0] 41)).alloc (.cells #[.slice none 0 0, .slice none 0 0, .slice none 0 0, .slice none 0 0, .slice none 0 0, .int .i64 0] 41)).heap.size = w.heap.size + 3) := Lib.hid (by simp)
  clear h hs q0 q1 q2
  go_enter Tryz.func8, Tryz.ntmps8
  go_upto_region 2 with (fail)
  generalize ((w.alloc (.cells #[.slice A0 d.lo.length c0, .slice A1 d.ts.length c1, .slice A2 d.ag.length c2, .slice A3 d.ce.length c3, .slice A4 d.vo.length c4, .int .i64 d.nx] 30)).alloc (.cells #[.slice none 0 0, .slice none 0 0, .slice none 0 0, .slice none 0 0, .slice none 0 0, .int .i64 0] 41)).alloc (.cells #[.slice none 0 0, .slice none 0 0, .slice none 0 0, .slice none 0 0, .slice none 0 0, .int .i64 0] 41) = W at *
  obtain ⟨x0, x1, x2, x3, x4, x5, x6⟩ := boxP Q0.out
  go_wp2_with fail
  refine (HT.out _ HB.out).mono ?_
  rintro e w1 ⟨r0, r1, rfl, o1, b1⟩
  obtain ⟨B0, e0, B1, e1, rfl, rfl⟩ := o1.reads.shape
  clear x0 x1 x2 x3 x4 x5 x6
  have hz := HZ.out
  have hz1 := b1.size
  replace Q0 := Lib.hid (box_far (g := w.heap.size + 1 + 1) (j := 1) (u := .slice B1 d.ts.length e1) (box_far (g := w.heap.size + 1 + 1) (j := 0) (u := .slice B0 d.lo.length e0) (box_on Q0.out b1) (by omega)) (by omega))
  replace Q1 := Lib.hid (box_far (g := w.heap.size + 1 + 1) (j := 1) (u := .slice B1 d.ts.length e1) (box_far (g := w.heap.size + 1 + 1) (j := 0) (u := .slice B0 d.lo.length e0) (box_on Q1.out b1) (by omega)) (by omega))
  obtain ⟨x0, x1, x2, x3, x4, x5, x6⟩ := boxP (box_on Q2.out b1)
  replace Q2 := Lib.hid (box_set (i := 1) (u := .slice B1 d.ts.length e1) (box_set (i := 0) (u := .slice B0 d.lo.length e0) (box_on Q2.out b1)))
  replace HB := Lib.hid (((bstep HB.out b1).setCell (p := ⟨w.heap.size + 1 + 1, 0, none⟩) (show w.heap.size ≤ w.heap.size + 1 + 1 by omega) (.slice B0 d.lo.length e0)).setCell (p := ⟨w.heap.size + 1 + 1, 1, none⟩) (show w.heap.size ≤ w.heap.size + 1 + 1 by omega) (.slice B1 d.ts.length e1))
  have O1 := Lib.hid (TreeC.keep (w' := (w1.setCell ⟨w.heap.size + 1 + 1, 0, none⟩ (.slice B0 d.lo.length e0)).setCell ⟨w.heap.size + 1 + 1, 1, none⟩ (.slice B1 d.ts.length e1)) (o1.c.lt.mono (T := fun b => w.heap.size + 3 ≤ b ∧ b < w1.heap.size) (fun b hb => ⟨by have := hb.1; omega, hb.2⟩)) (fun b hb _ => (Below.heap_setCell _ _ _ _ (fun h => by have h1 : b = w.heap.size + 1 + 1 := h; have := hb.1; omega)).trans (Below.heap_setCell _ _ _ _ (fun h => by have h1 : b = w.heap.size + 1 + 1 := h; have := hb.1; omega))))
  have ZZ : Hid (w1.heap.size = ((w1.setCell ⟨w.heap.size + 1 + 1, 0, none⟩ (.slice B0 d.lo.length e0)).setCell ⟨w.heap.size + 1 + 1, 1, none⟩ (.slice B1 d.ts.length e1)).heap.size) := Lib.hid (by simp)
  simp only [List.setIfInBounds_toArray, List.set_cons_zero, List.set_cons_succ] at Q2
  clear o1 b1
  go_upto_region 3 with (fail)
  clear x0 x1 x2 x3 x4 x5 x6
  generalize (w1.setCell ⟨w.heap.size + 1 + 1, 0, none⟩ (.slice B0 d.lo.length e0)).setCell ⟨w.heap.size + 1 + 1, 1, none⟩ (.slice B1 d.ts.length e1) = W1 at *
  have hy1 := Nat.le_of_eq ZZ.out
  have hy2 := Nat.le_of_eq ZZ.out.symm
  obtain ⟨x0, x1, x2, x3, x4, x5, x6⟩ := boxP Q0.out
  go_wp2_with fail
  refine (HA.out _ HB.out).mono ?_
  rintro e w2 ⟨r2, rfl, o2, b1⟩
  obtain ⟨B2, e2, rfl, _, _⟩ := o2.shape
  clear x0 x1 x2 x3 x4 x5 x6
  have hz2 := b1.size
  replace Q0 := Lib.hid (box_far (g := w.heap.size + 1 + 1) (j := 2) (u := (.slice B2 d.ag.length e2)) (box_on Q0.out b1) (by omega))
  replace Q1 := Lib.hid (box_far (g := w.heap.size + 1 + 1) (j := 2) (u := (.slice B2 d.ag.length e2)) (box_on Q1.out b1) (by omega))
  obtain ⟨x0, x1, x2, x3, x4, x5, x6⟩ := boxP (box_on Q2.out b1)
  replace Q2 := Lib.hid (box_set (i := 2) (u := (.slice B2 d.ag.length e2)) (box_on Q2.out b1))
  replace HB := Lib.hid ((bstep HB.out b1).setCell (p := ⟨w.heap.size + 1 + 1, 2, none⟩) (show w.heap.size ≤ w.heap.size + 1 + 1 by omega) (.slice B2 d.ag.length e2))
  have HO2 : Only (Mid w.heap.size (w.heap.size + 3)) w2 (w2.setCell ⟨w.heap.size + 1 + 1, 2, none⟩ (.slice B2 d.ag.length e2)) := (Only.refl _ _).setCell (.mk (by omega) (by omega)) _
  replace O1 := Lib.hid ((O1.out.on b1).far HO2 (fun b hb _ hb' => by have := hb'.2; have := hb.1; omega))
  have O2 := Lib.hid ((o2.owns.lt.mono (T := fun b => W1.heap.size ≤ b ∧ b < w2.heap.size) (fun b hb => hb)).far HO2 (fun b hb _ hb' => by have := hb'.2; have := hb.1; omega))
  have ZZ2 : Hid (w2.heap.size = (w2.setCell ⟨w.heap.size + 1 + 1, 2, none⟩ (.slice B2 d.ag.length e2)).heap.size) := Lib.hid (by simp)
  simp only [List.setIfInBounds_toArray, List.set_cons_zero, List.set_cons_succ] at Q2
  clear o2 b1 HO2
  go_upto_region 4 with (fail)
  clear x0 x1 x2 x3 x4 x5 x6
  generalize w2.setCell ⟨w.heap.size + 1 + 1, 2, none⟩ (.slice B2 d.ag.length e2) = W2 at *
  have hy2a := Nat.le_of_eq ZZ2.out
  have hy2b := Nat.le_of_eq ZZ2.out.symm
  obtain ⟨x0, x1, x2, x3, x4, x5, x6⟩ := boxP Q0.out
  go_wp2_with fail
  refine (HC.out _ HB.out).mono ?_
  rintro e w3 ⟨r3, rfl, o3, b1⟩
  obtain ⟨B3, e3, rfl, _, _⟩ := o3.shape
  clear x0 x1 x2 x3 x4 x5 x6
  have hz3 := b1.size
  replace Q0 := Lib.hid (box_far (g := w.heap.size + 1 + 1) (j := 3) (u := (.slice B3 d.ce.length e3)) (box_on Q0.out b1) (by omega))
  replace Q1 := Lib.hid (box_far (g := w.heap.size + 1 + 1) (j := 3) (u := (.slice B3 d.ce.length e3)) (box_on Q1.out b1) (by omega))
  obtain ⟨x0, x1, x2, x3, x4, x5, x6⟩ := boxP (box_on Q2.out b1)
  replace Q2 := Lib.hid (box_set (i := 3) (u := (.slice B3 d.ce.length e3)) (box_on Q2.out b1))
  replace HB := Lib.hid ((bstep HB.out b1).setCell (p := ⟨w.heap.size + 1 + 1, 3, none⟩) (show w.heap.size ≤ w.heap.size + 1 + 1 by omega) (.slice B3 d.ce.length e3))
  have HO3 : Only (Mid w.heap.size (w.heap.size + 3)) w3 (w3.setCell ⟨w.heap.size + 1 + 1, 3, none⟩ (.slice B3 d.ce.length e3)) := (Only.refl _ _).setCell (.mk (by omega) (by omega)) _
  replace O1 := Lib.hid ((O1.out.on b1).far HO3 (fun b hb _ hb' => by have := hb'.2; have := hb.1; omega))
  replace O2 := Lib.hid ((O2.out.on b1).far HO3 (fun b hb _ hb' => by have := hb'.2; have := hb.1; omega))
  have O3 := Lib.hid ((o3.owns.lt.mono (T := fun b => W2.heap.size ≤ b ∧ b < w3.heap.size) (fun b hb => hb)).far HO3 (fun b hb _ hb' => by have := hb'.2; have := hb.1; omega))
  have ZZ3 : Hid (w3.heap.size = (w3.setCell ⟨w.heap.size + 1 + 1, 3, none⟩ (.slice B3 d.ce.length e3)).heap.size) := Lib.hid (by simp)
  simp only [List.setIfInBounds_toArray, List.set_cons_zero, List.set_cons_succ] at Q2
  clear o3 b1 HO3
  go_upto_region 5 with (fail)
  clear x0 x1 x2 x3 x4 x5 x6
  generalize w3.setCell ⟨w.heap.size + 1 + 1, 3, none⟩ (.slice B3 d.ce.length e3) = W3 at *
  have hy3a := Nat.le_of_eq ZZ3.out
  have hy3b := Nat.le_of_eq ZZ3.out.symm
  obtain ⟨x0, x1, x2, x3, x4, x5, x6⟩ := boxP Q0.out
  go_wp2_with fail
  refine (HV.out _ HB.out).mono ?_
  rintro e w4 ⟨r4, rfl, o4, b1⟩
  obtain ⟨B4, e4, rfl, _, _⟩ := o4.shape
  clear x0 x1 x2 x3 x4 x5 x6
  have hz4 := b1.size
  obtain ⟨x0, x1, x2, x3, x4, x5, x6⟩ := boxP (box_on Q0.out b1)
  obtain ⟨y0, y1, y2, y3, y4, y5, y6⟩ := boxP (box_on Q2.out b1)
  obtain ⟨z0, z1, z2, z3, z4, z5, z6⟩ := boxP (box_on Q1.out b1)
  replace O1 := Lib.hid (O1.out.on b1)
  replace O2 := Lib.hid (O2.out.on b1)
  replace O3 := Lib.hid (O3.out.on b1)
  have O4 := Lib.hid (o4.owns)
  have BB := Lib.hid (bstep HB.out b1)
  clear o4 b1
  go_wp2
  have HO : ∀ a b c0 c1 c2 c3 c4 c5, Only (Mid w.heap.size (w.heap.size + 3)) w4 ((((((((w4.setCell ⟨w.heap.size + 1 + 1, 4, none⟩ a).setCell ⟨w.heap.size + 1 + 1, 5, none⟩ b).setCell ⟨w.heap.size + 1, 0, none⟩ c0).setCell ⟨w.heap.size + 1, 1, none⟩ c1).setCell ⟨w.heap.size + 1, 2, none⟩ c2).setCell ⟨w.heap.size + 1, 3, none⟩ c3).setCell ⟨w.heap.size + 1, 4, none⟩ c4).setCell ⟨w.heap.size + 1, 5, none⟩ c5) := fun a b c0 c1 c2 c3 c4 c5 => ((((((((Only.refl _ _).setCell (.mk (by omega) (by omega)) _).setCell (.mk (by omega) (by omega)) _).setCell (.mk (by omega) (by omega)) _).setCell (.mk (by omega) (by omega)) _).setCell (.mk (by omega) (by omega)) _).setCell (.mk (by omega) (by omega)) _).setCell (.mk (by omega) (by omega)) _).setCell (.mk (by omega) (by omega)) _
  refine bodyPost_ret (v := .agg #[.slice B0 d.lo.length e0, .slice B1 d.ts.length e1, .slice B2 d.ag.length e2, .slice B3 d.ce.length e3, .slice B4 d.vo.length e4, .int .i64 d.nx]) (by simp [results, Tryz.results8, go_sem, y0, y1, y2, y3, y4, y5, y6, z0, z1, z2, z3, z4, z5, z6]) rfl ⟨_, _, _, _, _, rfl, ⟨fun b => w.heap.size + 3 ≤ b ∧ b < w1.heap.size, fun b => W1.heap.size ≤ b ∧ b < w2.heap.size, fun b => W2.heap.size ≤ b ∧ b < w3.heap.size, fun b => W3.heap.size ≤ b, fun b hb => by have := hb.1; omega, fun b hb => by have := hb.1; omega, fun b hb => by have := hb.1; omega, fun b hb => by omega, fun b hb => ⟨fun h => by have := hb.2; have := h.1; omega, fun h => by have := hb.2; have := h.1; omega, fun h => by have := hb.2; omega⟩, fun b hb => ⟨fun h => by have := hb.2; have := h.1; omega, fun h => by have := hb.2; omega⟩, fun b hb h => by have := hb.2; omega, ?_, ?_, ?_, ?_⟩, bpast BB.out (HO _ _ _ _ _ _ _ _)⟩
  · exact O1.out.far (HO _ _ _ _ _ _ _ _) (fun b hb _ hb' => by have := hb'.2; have := hb.1; omega)
  · exact O2.out.far (HO _ _ _ _ _ _ _ _) (fun b hb _ hb' => by have := hb'.2; have := hb.1; omega)
  · exact O3.out.far (HO _ _ _ _ _ _ _ _) (fun b hb _ hb' => by have := hb'.2; have := hb.1; omega)
  · exact O4.out.far (HO _ _ _ _ _ _ _ _) (fun b hb _ hb' => by have := hb'.2; omega)
set_option maxHeartbeats 1000000 in
theorem eqPool_same {t u : TypeId} (vl vn va vc vv ul un ua uc uv : Value) (d : PoolD) (w : World) (h : RdP t w w.heap.size vl vn va vc vv d) (k : RdP u w w.heap.size ul un ua uc uv d) (hs : SmallP d) :
    Calls Tryz.prog 10 #[.agg #[vl, vn, va, vc, vv, .int .i64 d.nx], .agg #[ul, un, ua, uc, uv, .int .i64 d.nx]] w (SaysBool w true) := by
  obtain ⟨A0, c0, A1, c1, A2, c2, A3, c3, A4, c4, rfl, rfl, rfl, rfl, rfl⟩ := h.shape
  obtain ⟨B0, e0, B1, e1, B2, e2, B3, e3, B4, e4, rfl, rfl, rfl, rfl, rfl⟩ := k.shape
  have s2 := hs.2.1
  have s3 := hs.2.2.1
  have s4 := hs.2.2.2
  have HT := Lib.hid (fun W b => eqTree_same (.slice A0 d.lo.length c0) (.slice A1 d.ts.length c1) (.slice B0 d.lo.length e0) (.slice B1 d.ts.length e1) d.lo d.ts W (h.1.on b) (k.1.on b) hs.t)
  have HA := Lib.hid (fun W b => eqAgeS_same (.slice A2 d.ag.length c2) (.slice B2 d.ag.length e2) d.ag W (h.2.1.on b) (k.2.1.on b) (by omega))
  have HC := Lib.hid (fun W b => eqCellS_same (.slice A3 d.ce.length c3) (.slice B3 d.ce.length e3) d.ce W (h.2.2.1.on b) (k.2.2.1.on b) (by omega))
  have HV := Lib.hid (fun W b => eqVolS_same (.slice A4 d.vo.length c4) (.slice B4 d.vo.length e4) d.vo W (h.2.2.2.on b) (k.2.2.2.on b) (by omega))
  have hne : ((d.nx : Int) != d.nx) = false := by simp
  have HB := Lib.hid (bal2 w (.cells #[.slice A0 d.lo.length c0, .slice A1 d.ts.length c1, .slice A2 d.ag.length c2, .slice A3 d.ce.length c3, .slice A4 d.vo.length c4, .int .i64 d.nx] 41) (.cells #[.slice B0 d.lo.length e0, .slice B1 d.ts.length e1, .slice B2 d.ag.length e2, .slice B3 d.ce.length e3, .slice B4 d.vo.length e4, .int .i64 d.nx] 41))
  obtain ⟨q0, q1⟩ := al2 w (.cells #[.slice A0 d.lo.length c0, .slice A1 d.ts.length c1, .slice A2 d.ag.length c2, .slice A3 d.ce.length c3, .slice A4 d.vo.length c4, .int .i64 d.nx] 41) (.cells #[.slice B0 d.lo.length e0, .slice B1 d.ts.length e1, .slice B2 d.ag.length e2, .slice B3 d.ce.length e3, .slice B4 d.vo.length e4, .int .i64 d.nx] 41)
  have Q0 := Lib.hid q0
  have Q1 := Lib.hid q1
  clear h k q0 q1 hs s2 s3 s4
  go_enter Tryz.func10, Tryz.ntmps10
  go_upto_region 1 with (fail)
  generalize (w.alloc (.cells #[.slice A0 d.lo.length c0, .slice A1 d.ts.length c1, .slice A2 d.ag.length c2, .slice A3 d.ce.length c3, .slice A4 d.vo.length c4, .int .i64 d.nx] 41)).alloc (.cells #[.slice B0 d.lo.length e0, .slice B1 d.ts.length e1, .slice B2 d.ag.length e2, .slice B3 d.ce.length e3, .slice B4 d.vo.length e4, .int .i64 d.nx] 41) = W at *
  obtain ⟨x0, x1, x2, x3, x4, x5, x6⟩ := boxP Q0.out
  obtain ⟨y0, y1, y2, y3, y4, y5, y6⟩ := boxP Q1.out
  go_wp2_with fail
  refine (HT.out _ HB.out).mono ?_
  rintro e w1 ⟨rfl, b1⟩
  clear x0 x1 x2 x3 x4 x5 x6 y0 y1 y2 y3 y4 y5 y6
  replace HB := Lib.hid (bstep HB.out b1)
  replace Q0 := Lib.hid (box_on Q0.out b1)
  replace Q1 := Lib.hid (box_on Q1.out b1)
  obtain ⟨x0, x1, x2, x3, x4, x5, x6⟩ := boxP Q0.out
  obtain ⟨y0, y1, y2, y3, y4, y5, y6⟩ := boxP Q1.out
  clear b1
  go_wp2_with fail
  refine (HA.out _ HB.out).mono ?_
  rintro e w1 ⟨rfl, b1⟩
  clear x0 x1 x2 x3 x4 x5 x6 y0 y1 y2 y3 y4 y5 y6
  replace HB := Lib.hid (bstep HB.out b1)
  replace Q0 := Lib.hid (box_on Q0.out b1)
  replace Q1 := Lib.hid (box_on Q1.out b1)
  obtain ⟨x0, x1, x2, x3, x4, x5, x6⟩ := boxP Q0.out
  obtain ⟨y0, y1, y2, y3, y4, y5, y6⟩ := boxP Q1.out
  clear b1
  go_wp2_with fail
  refine (HC.out _ HB.out).mono ?_
  rintro e w1 ⟨rfl, b1⟩
  clear x0 x1 x2 x3 x4 x5 x6 y0 y1 y2 y3 y4 y5 y6
  replace HB := Lib.hid (bstep HB.out b1)
  replace Q0 := Lib.hid (box_on Q0.out b1)
  replace Q1 := Lib.hid (box_on Q1.out b1)
  obtain ⟨x0, x1, x2, x3, x4, x5, x6⟩ := boxP Q0.out
  obtain ⟨y0, y1, y2, y3, y4, y5, y6⟩ := boxP Q1.out
  clear b1
  go_wp2_with fail
  refine (HV.out _ HB.out).mono ?_
  rintro e w1 ⟨rfl, b1⟩
  clear x0 x1 x2 x3 x4 x5 x6 y0 y1 y2 y3 y4 y5 y6
  replace HB := Lib.hid (bstep HB.out b1)
  replace Q0 := Lib.hid (box_on Q0.out b1)
  replace Q1 := Lib.hid (box_on Q1.out b1)
  obtain ⟨x0, x1, x2, x3, x4, x5, x6⟩ := boxP Q0.out
  obtain ⟨y0, y1, y2, y3, y4, y5, y6⟩ := boxP Q1.out
  clear b1
  go_wp2
  go_ret
  exact ⟨rfl, HB.out⟩
end Go.Proofs.YtpfepcjbhchpcaaGreat
namespace Go.Proofs.YtpfepcjbhchpcaaGreat
open Go.RowKit
set_option maxRecDepth 100000
set_option linter.unusedSimpArgs false
set_option linter.unusedVariables false

def wordB (n : Int) : Bool := decide (0 ≤ n) && decide (n ≤ 65535)
/-- A cell that may stand in a valid list. -/
def okC (x : CelD) : Bool := (decide (0 ≤ x.a) && decide (x.a ≤ 999)) && wordB x.c && (x.b || x.c == 0)
def celsOkB (l : List CelD) : Bool := l.all okC && decide (l.length = 24)
def hasC (l : List CelD) (i : Int) : Bool := decide (0 ≤ i) && decide (i ≤ (l.length : Int) - 1)
def usedC (l : List CelD) (i : Int) : Bool := match l[i.toNat]? with | none => false | some x => x.b
def cellB (l : List CelD) (i g : Int) : Bool := hasC l i && usedC l i && (match l[i.toNat]? with | none => false | some x => x.a == g)
def cellK (l : List CelD) (i g : Int) : Int := if cellB l i g then (match l[i.toNat]? with | none => 0 | some x => x.c) else 0
def usedK (l : List CelD) : Nat := l.countP (fun x => x.b)
theorem usedC_at {l : List CelD} {i : Nat} (h : i < l.length) : usedC l (i : Int) = (l[i]).b := by
  unfold usedC
  rw [Int.toNat_natCast, List.getElem?_eq_getElem h]
theorem used_take {l : List CelD} {k : Nat} (h : k < l.length) : usedK (l.take (k + 1)) = usedK (l.take k) + if (l[k]).b then 1 else 0 := by
  unfold usedK
  rw [List.take_succ_eq_append_getElem h, List.countP_append]
  simp [List.countP_cons]
theorem all_takeC {p : CelD → Bool} {l : List CelD} {k : Nat} (h : k < l.length) (hp : p l[k] = true) (ht : (l.take k).all p = true) : (l.take (k + 1)).all p = true := by
  rw [List.take_succ_eq_append_getElem h, List.all_append, ht]
  simp [hp]
theorem all_miss {p : CelD → Bool} {l : List CelD} {k : Nat} (h : k < l.length) (hp : p l[k] = false) : l.all p = false := by
  rw [List.all_eq_false]
  exact ⟨l[k], List.getElem_mem h, by rw [hp]; simp⟩
end Go.Proofs.YtpfepcjbhchpcaaGreat
namespace Go.Proofs.YtpfepcjbhchpcaaGreat
open Go.RowKit
set_option maxRecDepth 100000
set_option linter.unusedSimpArgs false
set_option linter.unusedVariables false

def SaysB (w : World) (b : Bool) (e : Ending) (w' : World) : Prop := e = .returned (.bool b) ∧ w = w'
theorem l1InC_any (a lo hi : Int) (w : World) : Calls Tryz.prog 58 #[.int .i64 a, .int .i64 lo, .int .i64 hi] w (SaysB w (decide (lo ≤ a) && decide (a ≤ hi))) := by
  by_cases h1 : lo ≤ a
  · by_cases h2 : a ≤ hi
    · rw [decide_eq_true h1, decide_eq_true h2]
      go_enter Tryz.func58, Tryz.ntmps58
      go_wp2
      go_ret
      exact ⟨rfl, rfl⟩
    · have h3 : hi < a := by omega
      rw [decide_eq_true h1, decide_eq_false h2]
      go_enter Tryz.func58, Tryz.ntmps58
      go_wp2
      go_ret
      exact ⟨rfl, rfl⟩
  · have h3 : a < lo := by omega
    rw [decide_eq_false h1, Bool.false_and]
    go_enter Tryz.func58, Tryz.ntmps58
    go_wp2
    go_ret
    exact ⟨rfl, rfl⟩
theorem l1Word_any (n : Int) (w : World) : Calls Tryz.prog 120 #[.int .i64 n] w (SaysB w (wordB n)) := by
  go_enter Tryz.func120, Tryz.ntmps120
  go_wp2_with fail
  refine (l1InC_any n 0 65535 _).mono ?_
  rintro e w1 ⟨rfl, rfl⟩
  go_wp2
  go_ret
  exact ⟨rfl, rfl⟩
theorem wordOk_any (n : Int) (w : World) : Calls Tryz.prog 187 #[.int .i64 n] w (SaysB w (wordB n)) := by
  unfold wordB
  by_cases h1 : 0 ≤ n
  · by_cases h2 : n ≤ 65535
    · rw [decide_eq_true h1, decide_eq_true h2]
      go_enter Tryz.func187, Tryz.ntmps187
      go_wp2
      go_ret
      exact ⟨rfl, rfl⟩
    · have h3 : 65535 < n := by omega
      rw [decide_eq_true h1, decide_eq_false h2]
      go_enter Tryz.func187, Tryz.ntmps187
      go_wp2
      go_ret
      exact ⟨rfl, rfl⟩
  · have h3 : n < 0 := by omega
    rw [decide_eq_false h1, Bool.false_and]
    go_enter Tryz.func187, Tryz.ntmps187
    go_wp2
    go_ret
    exact ⟨rfl, rfl⟩
theorem hasC_yes {l : List CelD} {i : Int} (h : hasC l i = true) : ∃ k : Nat, i = (k : Int) ∧ k < l.length := by
  unfold hasC at h
  rw [Bool.and_eq_true] at h
  have h1 := of_decide_eq_true h.1
  have h2 := of_decide_eq_true h.2
  exact ⟨i.toNat, by omega, by omega⟩
theorem hasC_nat {l : List CelD} {k : Nat} (h : k < l.length) : hasC l (k : Int) = true := by
  unfold hasC
  rw [decide_eq_true (show (0 : Int) ≤ (k : Int) by omega), decide_eq_true (show (k : Int) ≤ (l.length : Int) - 1 by omega)]
  rfl
theorem hasCell_any (A : Option Addr) (c : Nat) (l : List CelD) (i : Int) (w : World) : Calls Tryz.prog 195 #[.slice A l.length c, .int .i64 i] w (SaysB w (hasC l i)) := by
  unfold hasC
  by_cases h1 : 0 ≤ i
  · by_cases h2 : i < (l.length : Int)
    · rw [decide_eq_true h1, decide_eq_true (show i ≤ (l.length : Int) - 1 by omega)]
      go_enter Tryz.func195, Tryz.ntmps195
      go_wp2
      go_ret
      exact ⟨rfl, rfl⟩
    · have h3 : (l.length : Int) ≤ i := by omega
      rw [decide_eq_true h1, decide_eq_false (show ¬ i ≤ (l.length : Int) - 1 by omega)]
      go_enter Tryz.func195, Tryz.ntmps195
      go_wp2
      go_ret
      exact ⟨rfl, rfl⟩
  · have h3 : i < 0 := by omega
    rw [decide_eq_false h1, Bool.false_and]
    go_enter Tryz.func195, Tryz.ntmps195
    go_wp2
    go_ret
    exact ⟨rfl, rfl⟩
def SaysCell (w : World) (n : Int) (b : Bool) (e : Ending) (w' : World) : Prop := e = .returned (.tuple #[.int .i64 n, .bool b]) ∧ w = w'
theorem cell_no {l : List CelD} {i g : Int} (h : cellB l i g = false) : cellK l i g = 0 := by
  unfold cellK
  rw [h]
  rfl
theorem cellB_has {l : List CelD} {i g : Int} (h : hasC l i = false) : cellB l i g = false := by
  unfold cellB
  rw [h]
  rfl
theorem cellB_used {l : List CelD} {k : Nat} {g : Int} (hk : k < l.length) (h : (l[k]).b = false) : cellB l (k : Int) g = false := by
  unfold cellB
  rw [usedC_at hk, h]
  simp
theorem cellB_at {l : List CelD} {k : Nat} {g : Int} (hk : k < l.length) (h : (l[k]).b = true) : cellB l (k : Int) g = ((l[k]).a == g) := by
  unfold cellB
  rw [usedC_at hk, h, hasC_nat hk, Int.toNat_natCast, List.getElem?_eq_getElem hk]
  rfl
theorem cellK_at {l : List CelD} {k : Nat} {g : Int} (hk : k < l.length) (h : cellB l (k : Int) g = true) : cellK l (k : Int) g = (l[k]).c := by
  unfold cellK
  rw [if_pos h, Int.toNat_natCast, List.getElem?_eq_getElem hk]
set_option maxHeartbeats 1000000 in
theorem implCellAt_any (v : Value) (l : List CelD) (i g : Int) (w : World) (hv : Reads w w.heap.size v (celsD l)) (hn : l.length ≤ 2097152) : Calls Tryz.prog 149 #[v, .int .i64 i, .int .i64 g] w (SaysCell w (cellK l i g) (cellB l i g)) := by
  obtain ⟨A, c, rfl, _, _⟩ := hv.shapeCel
  have HC := Lib.hid (hasCell_any A c l)
  cases hh : hasC l i
  · rw [cell_no (cellB_has hh), cellB_has hh]
    have HH := Lib.hid hh
    clear hh hv
    go_enter Tryz.func149, Tryz.ntmps149
    go_wp2_with fail
    refine (HC.out i _).mono ?_
    rintro e w1 ⟨rfl, rfl⟩
    rw [HH.out]
    go_wp2
    refine bodyPost_ret (v := .tuple #[.int .i64 0, .bool false]) (by simp [results, Tryz.results149, go_sem]) rfl ?_
    exact ⟨rfl, rfl⟩
  · obtain ⟨k, rfl, hk⟩ := hasC_yes hh
    obtain ⟨b, off, rfl, hbb, hc⟩ := hv.cels hk
    obtain ⟨c0, c1, c2⟩ := hc k hk
    have HH := Lib.hid hh
    have i1 : (k : Int) < (l.length : Int) := by omega
    have i2 : (0 : Int) ≤ (k : Int) := by omega
    clear hc hh hv
    cases hu : (l[k]).b
    · rw [cell_no (cellB_used hk hu), cellB_used hk hu]
      rw [hu] at c1
      go_enter Tryz.func149, Tryz.ntmps149
      go_wp2_with fail
      refine (HC.out _ _).mono ?_
      rintro e w1 ⟨rfl, rfl⟩
      rw [HH.out]
      go_wp2
      refine bodyPost_ret (v := .tuple #[.int .i64 0, .bool false]) (by simp [results, Tryz.results149, go_sem]) rfl ?_
      exact ⟨rfl, rfl⟩
    · rw [hu] at c1
      have HB := Lib.hid (cellB_at (g := g) hk hu)
      clear hu
      cases hs : ((l[k]).a != g)
      · have hb : cellB l (k : Int) g = true := by rw [HB.out]; simpa using hs
        rw [cellK_at hk hb, hb]
        clear hb
        go_enter Tryz.func149, Tryz.ntmps149
        go_wp2_with fail
        refine (HC.out _ _).mono ?_
        rintro e w1 ⟨rfl, rfl⟩
        rw [HH.out]
        go_wp2
        refine bodyPost_ret (v := .tuple #[.int .i64 (l[k]).c, .bool true]) (by simp [results, Tryz.results149, go_sem]) rfl ?_
        exact ⟨rfl, rfl⟩
      · have hb : cellB l (k : Int) g = false := by rw [HB.out]; simpa using hs
        rw [cell_no hb, hb]
        clear hb
        go_enter Tryz.func149, Tryz.ntmps149
        go_wp2_with fail
        refine (HC.out _ _).mono ?_
        rintro e w1 ⟨rfl, rfl⟩
        rw [HH.out]
        go_wp2
        refine bodyPost_ret (v := .tuple #[.int .i64 0, .bool false]) (by simp [results, Tryz.results149, go_sem]) rfl ?_
        exact ⟨rfl, rfl⟩
set_option maxHeartbeats 1000000 in
theorem specCellAt_any (v : Value) (l : List CelD) (i g : Int) (w : World) (hv : Reads w w.heap.size v (celsD l)) (hn : l.length ≤ 2097152) : Calls Tryz.prog 122 #[v, .int .i64 i, .int .i64 g] w (SaysCell w (cellK l i g) (cellB l i g)) := by
  obtain ⟨A, c, rfl, _, _⟩ := hv.shapeCel
  have HC : Hid (∀ (i : Int) (w : World), Calls Tryz.prog 58 #[.int .i64 i, .int .i64 0, .int .i64 ((l.length : Int) - 1)] w (SaysB w (hasC l i))) := Lib.hid (fun i w => l1InC_any i 0 ((l.length : Int) - 1) w)
  cases hh : hasC l i
  · rw [cell_no (cellB_has hh), cellB_has hh]
    have HH := Lib.hid hh
    clear hh hv
    go_enter Tryz.func122, Tryz.ntmps122
    go_wp2_with fail
    refine (HC.out i _).mono ?_
    rintro e w1 ⟨rfl, rfl⟩
    rw [HH.out]
    go_wp2
    refine bodyPost_ret (v := .tuple #[.int .i64 0, .bool false]) (by simp [results, Tryz.results122, go_sem]) rfl ?_
    exact ⟨rfl, rfl⟩
  · obtain ⟨k, rfl, hk⟩ := hasC_yes hh
    obtain ⟨b, off, rfl, hbb, hc⟩ := hv.cels hk
    obtain ⟨c0, c1, c2⟩ := hc k hk
    have HH := Lib.hid hh
    have i1 : (k : Int) < (l.length : Int) := by omega
    have i2 : (0 : Int) ≤ (k : Int) := by omega
    clear hc hh hv
    cases hu : (l[k]).b
    · rw [cell_no (cellB_used hk hu), cellB_used hk hu]
      rw [hu] at c1
      go_enter Tryz.func122, Tryz.ntmps122
      go_wp2_with fail
      refine (HC.out _ _).mono ?_
      rintro e w1 ⟨rfl, rfl⟩
      rw [HH.out]
      go_wp2
      refine bodyPost_ret (v := .tuple #[.int .i64 0, .bool false]) (by simp [results, Tryz.results122, go_sem]) rfl ?_
      exact ⟨rfl, rfl⟩
    · rw [hu] at c1
      have HB := Lib.hid (cellB_at (g := g) hk hu)
      clear hu
      cases hs : ((l[k]).a != g)
      · have hb : cellB l (k : Int) g = true := by rw [HB.out]; simpa using hs
        rw [cellK_at hk hb, hb]
        clear hb
        go_enter Tryz.func122, Tryz.ntmps122
        go_wp2_with fail
        refine (HC.out _ _).mono ?_
        rintro e w1 ⟨rfl, rfl⟩
        rw [HH.out]
        go_wp2
        refine bodyPost_ret (v := .tuple #[.int .i64 (l[k]).c, .bool true]) (by simp [results, Tryz.results122, go_sem]) rfl ?_
        exact ⟨rfl, rfl⟩
      · have hb : cellB l (k : Int) g = false := by rw [HB.out]; simpa using hs
        rw [cell_no hb, hb]
        clear hb
        go_enter Tryz.func122, Tryz.ntmps122
        go_wp2_with fail
        refine (HC.out _ _).mono ?_
        rintro e w1 ⟨rfl, rfl⟩
        rw [HH.out]
        go_wp2
        refine bodyPost_ret (v := .tuple #[.int .i64 0, .bool false]) (by simp [results, Tryz.results122, go_sem]) rfl ?_
        exact ⟨rfl, rfl⟩
theorem bal3C (w : World) (k : CelD) (e : TypeId) : Below w.heap.size w (w.alloc (.cells #[.int .i64 k.a, .bool k.b, .int .i64 k.c] e)) := bal1 _ _
set_option maxHeartbeats 1000000 in
theorem implUsedCells_any (v : Value) (l : List CelD) (w : World) (hv : Reads w w.heap.size v (celsD l)) (hn : l.length ≤ 2097152) : Calls Tryz.prog 150 #[v] w fun e w' => e = .returned (.int .i64 (usedK l : Nat)) ∧ Below w.heap.size w w' := by
  obtain ⟨A, c, rfl, _, _⟩ := hv.shapeCel
  have HV := Lib.hid hv
  clear hv
  go_enter Tryz.func150, Tryz.ntmps150
  go_wp2
  go_loopw [3, 5, 8] (fun n _ i wr => ∃ (k m : Nat), k ≤ l.length ∧ m ≤ k ∧ i = .int .i64 k ∧ n = .int .i64 m ∧ Hid (usedK (l.take k) = m) ∧ Hid (Below w.heap.size w wr)) (fun _ _ i _ => l.length - (intOf i).toNat)
  case atStart => exact ⟨0, 0, Nat.zero_le _, Nat.le_refl _, rfl, rfl, Lib.hid (by simp [usedK]), Lib.hid (Below.refl _ _)⟩
  case round =>
    obtain ⟨k, m, hk, hm, rfl, rfl, HI, HW⟩ := hrel
    by_cases hlt : k < l.length
    · obtain ⟨b, off, rfl, hbb, hc⟩ := (HV.out.on HW.out).cels hlt
      have i1 : (k : Int) < (l.length : Int) := by omega
      have i2 : (0 : Int) ≤ (k : Int) := by omega
      obtain ⟨c0, c1, c2⟩ := hc k hlt
      have BA := Lib.hid (HW.out.trans ((bal3C wr l[k] 107).mono HW.out.size))
      have HU := Lib.hid (used_take hlt)
      clear hc
      cases hu : (l[k]).b
      · rw [hu] at c1 BA HU
        go_wp2
        go_roundw
        case rel => exact ⟨k + 1, m, by omega, by omega, by go_num, rfl, Lib.hid (by rw [HU.out, HI.out]; simp), BA⟩
        case measure => simp [intOf]; omega
      · rw [hu] at c1 BA HU
        go_wp2
        go_roundw
        case rel => exact ⟨k + 1, m + 1, by omega, by omega, by go_num, by go_num, Lib.hid (by rw [HU.out, HI.out]; simp), BA⟩
        case measure => simp [intOf]; omega
    · have e : k = l.length := by omega
      subst e
      have HR : Hid (usedK l = m) := Lib.hid (by have := HI.out; rwa [List.take_length] at this)
      clear HI
      go_wp2
      go_ret
      exact ⟨by rw [HR.out]; rfl, HW.out⟩
set_option maxHeartbeats 1000000 in
theorem specUsedCells_any (v : Value) (l : List CelD) (w : World) (hv : Reads w w.heap.size v (celsD l)) (hn : l.length ≤ 2097152) : Calls Tryz.prog 123 #[v] w fun e w' => e = .returned (.int .i64 (usedK l : Nat)) ∧ w = w' := by
  obtain ⟨A, c, rfl, _, _⟩ := hv.shapeCel
  have HV := Lib.hid hv
  clear hv
  go_enter Tryz.func123, Tryz.ntmps123
  go_wp2
  go_loop [3, 4] (fun n i => ∃ (k m : Nat), k ≤ l.length ∧ m ≤ k ∧ i = .int .i64 k ∧ n = .int .i64 m ∧ Hid (usedK (l.take k) = m)) (fun _ i => l.length - (intOf i).toNat)
  case atStart => exact ⟨0, 0, Nat.zero_le _, Nat.le_refl _, rfl, rfl, Lib.hid (by simp [usedK])⟩
  case round =>
    obtain ⟨k, m, hk, hm, rfl, rfl, HI⟩ := hrel
    by_cases hlt : k < l.length
    · obtain ⟨b, off, rfl, hbb, hc⟩ := HV.out.cels hlt
      have i1 : (k : Int) < (l.length : Int) := by omega
      have i2 : (0 : Int) ≤ (k : Int) := by omega
      obtain ⟨c0, c1, c2⟩ := hc k hlt
      have HU := Lib.hid (used_take hlt)
      clear hc
      cases hu : (l[k]).b
      · rw [hu] at c1 HU
        go_wp2
        go_round
        case rel => exact ⟨k + 1, m, by omega, by omega, by go_num, rfl, Lib.hid (by rw [HU.out, HI.out]; simp)⟩
        case measure => simp [intOf]; omega
      · rw [hu] at c1 HU
        go_wp2
        go_round
        case rel => exact ⟨k + 1, m + 1, by omega, by omega, by go_num, by go_num, Lib.hid (by rw [HU.out, HI.out]; simp)⟩
        case measure => simp [intOf]; omega
    · have e : k = l.length := by omega
      subst e
      have HR : Hid (usedK l = m) := Lib.hid (by have := HI.out; rwa [List.take_length] at this)
      clear HI
      go_wp2
      go_ret
      exact ⟨by rw [HR.out]; rfl, rfl⟩
end Go.Proofs.YtpfepcjbhchpcaaGreat
namespace Go.Proofs.YtpfepcjbhchpcaaGreat
open Go.RowKit
set_option maxRecDepth 100000
set_option linter.unusedSimpArgs false
set_option linter.unusedVariables false

set_option maxHeartbeats 1000000 in
theorem cellOk_any (x : CelD) (w : World) : Calls Tryz.prog 136 #[.agg #[.int .i64 x.a, .bool x.b, .int .i64 x.c]] w fun e w' => e = .returned (.bool (okC x)) ∧ Below w.heap.size w w' := by
  have HW := Lib.hid wordOk_any
  have HB := Lib.hid (bal3C w x 107)
  obtain ⟨a, b, c⟩ := x
  unfold okC
  dsimp only at HB ⊢
  by_cases h1 : 0 ≤ a
  · by_cases h2 : a ≤ 999
    · rw [decide_eq_true h1, decide_eq_true h2]
      obtain ⟨q, hq⟩ : ∃ q, wordB c = q := ⟨_, rfl⟩
      rw [hq]
      have HQ := Lib.hid hq
      clear hq
      cases q
      · go_enter Tryz.func136, Tryz.ntmps136
        go_wp2_with fail
        refine (HW.out c _).mono ?_
        rintro e w1 ⟨rfl, rfl⟩
        rw [HQ.out]
        go_wp2
        go_ret
        exact ⟨rfl, HB.out⟩
      · cases b
        · cases hc : (c == 0)
          all_goals
            go_enter Tryz.func136, Tryz.ntmps136
            go_wp2_with fail
            refine (HW.out c _).mono ?_
            rintro e w1 ⟨rfl, rfl⟩
            rw [HQ.out]
            go_wp2
            go_ret
            exact ⟨rfl, HB.out⟩
        · go_enter Tryz.func136, Tryz.ntmps136
          go_wp2_with fail
          refine (HW.out c _).mono ?_
          rintro e w1 ⟨rfl, rfl⟩
          rw [HQ.out]
          go_wp2
          go_ret
          exact ⟨rfl, HB.out⟩
    · have h3 : 999 < a := by omega
      rw [decide_eq_true h1, decide_eq_false h2]
      simp only [Bool.and_false, Bool.false_and]
      go_enter Tryz.func136, Tryz.ntmps136
      go_wp2
      go_ret
      exact ⟨rfl, HB.out⟩
  · have h3 : a < 0 := by omega
    rw [decide_eq_false h1]
    simp only [Bool.false_and]
    go_enter Tryz.func136, Tryz.ntmps136
    go_wp2
    go_ret
    exact ⟨rfl, HB.out⟩
theorem cellsOk_all {l : List CelD} (h : l.all okC = true) : celsOkB l = decide (l.length = 24) := by
  unfold celsOkB
  rw [h, Bool.true_and]
theorem cellsOk_miss {l : List CelD} {k : Nat} (h : k < l.length) (hp : okC l[k] = false) : celsOkB l = false := by
  unfold celsOkB
  rw [all_miss h hp, Bool.false_and]
set_option maxHeartbeats 1000000 in
theorem implCellsOk_any (v : Value) (l : List CelD) (w : World) (hv : Reads w w.heap.size v (celsD l)) (hn : l.length ≤ 2097152) : Calls Tryz.prog 75 #[v] w fun e w' => e = .returned (.bool (celsOkB l)) ∧ Below w.heap.size w w' := by
  obtain ⟨A, c, rfl, _, _⟩ := hv.shapeCel
  have HV := Lib.hid hv
  have HK := Lib.hid cellOk_any
  obtain ⟨R, hR⟩ : ∃ R, celsOkB l = R := ⟨_, rfl⟩
  rw [hR]
  have HR := Lib.hid hR
  clear hv hR
  by_cases hl : l.length = 24
  · have hl2 : ((l.length : Int) != 24) = false := by rw [hl]; rfl
    have HL := Lib.hid hl
    clear hl
    go_enter Tryz.func75, Tryz.ntmps75
    go_wp2
    clear hl2
    go_loopw [4, 10] (fun _ i wr => ∃ k : Nat, k ≤ l.length ∧ i = .int .i64 k ∧ Hid ((l.take k).all okC = true) ∧ Hid (Below w.heap.size w wr)) (fun _ i _ => l.length - (intOf i).toNat)
    case atStart => exact ⟨0, Nat.zero_le _, rfl, Lib.hid (by simp), Lib.hid (Below.refl _ _)⟩
    case round =>
      obtain ⟨k, hk, rfl, HI, HW⟩ := hrel
      by_cases hlt : k < l.length
      · obtain ⟨b, off, rfl, hbb, hc⟩ := (HV.out.on HW.out).cels hlt
        have i1 : (k : Int) < (l.length : Int) := by omega
        have i2 : (0 : Int) ≤ (k : Int) := by omega
        obtain ⟨c0, c1, c2⟩ := hc k hlt
        have BA := Lib.hid (HW.out.trans ((bal3C wr l[k] 107).mono HW.out.size))
        clear hc
        cases hs : okC l[k]
        all_goals
          have HS := Lib.hid hs
          clear hs
          go_wp2_with fail
          refine (HK.out l[k] _).mono ?_
          rintro e w1 ⟨rfl, b1⟩
          rw [HS.out]
          have B1 := Lib.hid (bstep BA.out b1)
          clear b1 c0 c1 c2
          go_wp2
        · go_ret
          exact ⟨by rw [← HR.out, cellsOk_miss hlt HS.out]; rfl, B1.out⟩
        · go_roundw
          case rel => exact ⟨k + 1, by omega, by go_num, Lib.hid (all_takeC hlt HS.out HI.out), B1⟩
          case measure => simp [intOf]; omega
      · have e : k = l.length := by omega
        subst e
        have HRT : Hid (R = true) := Lib.hid (by
          have h := HI.out
          rw [List.take_length] at h
          rw [← HR.out, cellsOk_all h, decide_eq_true HL.out])
        clear HI
        go_wp2
        go_ret
        exact ⟨by rw [HRT.out]; rfl, HW.out⟩
  · have hl2 : ((l.length : Int) != 24) = true := by simpa using (show ¬ (l.length : Int) = 24 by omega)
    have HRT : Hid (R = false) := Lib.hid (by
      rw [← HR.out]
      unfold celsOkB
      rw [decide_eq_false hl, Bool.and_false])
    clear hl
    go_enter Tryz.func75, Tryz.ntmps75
    go_wp2
    go_ret
    exact ⟨by rw [HRT.out]; rfl, Below.refl _ _⟩
theorem okC_parts (x : CelD) {q1 q2 q3 : Bool} (h1 : (decide (0 ≤ x.a) && decide (x.a ≤ 999)) = q1) (h2 : wordB x.c = q2) (h3 : (x.b || x.c == 0) = q3) : okC x = (q1 && q2 && q3) := by
  unfold okC
  rw [h1, h2, h3]
set_option maxHeartbeats 4000000 in
theorem specCellsOk_any (v : Value) (l : List CelD) (w : World) (hv : Reads w w.heap.size v (celsD l)) (hn : l.length ≤ 2097152) : Calls Tryz.prog 57 #[v] w fun e w' => e = .returned (.bool (celsOkB l)) ∧ w = w' := by
  obtain ⟨A, c, rfl, _, _⟩ := hv.shapeCel
  have HV := Lib.hid hv
  have HG : Hid (∀ (a : Int) (w : World), Calls Tryz.prog 58 #[.int .i64 a, .int .i64 0, .int .i64 999] w (SaysB w (decide (0 ≤ a) && decide (a ≤ 999)))) := Lib.hid (fun a w => l1InC_any a 0 999 w)
  have HWD := Lib.hid l1Word_any
  obtain ⟨R, hR⟩ : ∃ R, celsOkB l = R := ⟨_, rfl⟩
  rw [hR]
  have HR := Lib.hid hR
  clear hv hR
  go_enter Tryz.func57, Tryz.ntmps57
  go_wp2
  go_loop [3] (fun i => ∃ k : Nat, k ≤ l.length ∧ i = .int .i64 k ∧ Hid ((l.take k).all okC = true)) (fun i => l.length - (intOf i).toNat)
  case atStart => exact ⟨0, Nat.zero_le _, rfl, Lib.hid (by simp)⟩
  case round =>
    obtain ⟨k, hk, rfl, HI⟩ := hrel
    by_cases hlt : k < l.length
    · obtain ⟨b, off, rfl, hbb, hc⟩ := HV.out.cels hlt
      have i1 : (k : Int) < (l.length : Int) := by omega
      have i2 : (0 : Int) ≤ (k : Int) := by omega
      obtain ⟨c0, c1, c2⟩ := hc k hlt
      clear hc
      obtain ⟨q1, hq1⟩ : ∃ q, (decide (0 ≤ (l[k]).a) && decide ((l[k]).a ≤ 999)) = q := ⟨_, rfl⟩
      obtain ⟨q2, hq2⟩ : ∃ q, wordB (l[k]).c = q := ⟨_, rfl⟩
      have HP := fun q3 (h : ((l[k]).b || (l[k]).c == 0) = q3) => okC_parts l[k] hq1 hq2 h
      have HQ1 := Lib.hid hq1
      have HQ2 := Lib.hid hq2
      clear hq1 hq2
      cases q1
      · have HS : Hid (okC l[k] = false) := Lib.hid (by rw [HP _ rfl]; simp)
        clear HP
        go_wp2_with fail
        refine (HG.out (l[k]).a _).mono ?_
        rintro e w1 ⟨rfl, rfl⟩
        rw [HQ1.out]
        go_wp2
        go_ret
        exact ⟨by rw [← HR.out, cellsOk_miss hlt HS.out]; rfl, rfl⟩
      · cases q2
        · have HS : Hid (okC l[k] = false) := Lib.hid (by rw [HP _ rfl]; simp)
          clear HP
          go_wp2_with fail
          refine (HG.out (l[k]).a _).mono ?_
          rintro e w1 ⟨rfl, rfl⟩
          rw [HQ1.out]
          go_wp2_with fail
          refine (HWD.out (l[k]).c _).mono ?_
          rintro e w1 ⟨rfl, rfl⟩
          rw [HQ2.out]
          go_wp2
          go_ret
          exact ⟨by rw [← HR.out, cellsOk_miss hlt HS.out]; rfl, rfl⟩
        · cases hb : (l[k]).b
          · cases hc : ((l[k]).c != 0)
            · have HS : Hid (okC l[k] = true) := Lib.hid (by
                have h0 : ((l[k]).c == 0) = true := by simpa using hc
                rw [HP true (by rw [h0]; simp)]; rfl)
              rw [hb] at c1
              clear HP hb
              go_wp2_with fail
              refine (HG.out (l[k]).a _).mono ?_
              rintro e w1 ⟨rfl, rfl⟩
              rw [HQ1.out]
              go_wp2_with fail
              refine (HWD.out (l[k]).c _).mono ?_
              rintro e w1 ⟨rfl, rfl⟩
              rw [HQ2.out]
              go_wp2
              go_round
              case rel => exact ⟨k + 1, by omega, by go_num, Lib.hid (all_takeC hlt HS.out HI.out)⟩
              case measure => simp [intOf]; omega
            · have HS : Hid (okC l[k] = false) := Lib.hid (by
                have h0 : ((l[k]).c == 0) = false := by simpa using hc
                rw [HP false (by rw [h0, hb]; rfl)]; rfl)
              rw [hb] at c1
              clear HP hb
              go_wp2_with fail
              refine (HG.out (l[k]).a _).mono ?_
              rintro e w1 ⟨rfl, rfl⟩
              rw [HQ1.out]
              go_wp2_with fail
              refine (HWD.out (l[k]).c _).mono ?_
              rintro e w1 ⟨rfl, rfl⟩
              rw [HQ2.out]
              go_wp2
              go_ret
              exact ⟨by rw [← HR.out, cellsOk_miss hlt HS.out]; rfl, rfl⟩
          · have HS : Hid (okC l[k] = true) := Lib.hid (by rw [HP true (by rw [hb]; rfl)]; rfl)
            rw [hb] at c1
            clear HP hb
            go_wp2_with fail
            refine (HG.out (l[k]).a _).mono ?_
            rintro e w1 ⟨rfl, rfl⟩
            rw [HQ1.out]
            go_wp2_with fail
            refine (HWD.out (l[k]).c _).mono ?_
            rintro e w1 ⟨rfl, rfl⟩
            rw [HQ2.out]
            go_wp2
            go_round
            case rel => exact ⟨k + 1, by omega, by go_num, Lib.hid (all_takeC hlt HS.out HI.out)⟩
            case measure => simp [intOf]; omega
    · have e : k = l.length := by omega
      subst e
      have HRT : Hid (R = decide (l.length = 24)) := Lib.hid (by
        have h := HI.out
        rw [List.take_length] at h
        rw [← HR.out, cellsOk_all h])
      have hd : ((l.length : Int) == 24) = decide (l.length = 24) := by
        by_cases h : l.length = 24
        · rw [h]; rfl
        · rw [decide_eq_false h]
          simpa using (show ¬ (l.length : Int) = 24 by omega)
      generalize decide (l.length = 24) = D at *
      clear HI
      go_wp2
      go_ret
      exact ⟨by rw [HRT.out]; rfl, rfl⟩
end Go.Proofs.YtpfepcjbhchpcaaGreat
namespace Go.Proofs.YtpfepcjbhchpcaaGreat
open Go.RowKit
set_option maxRecDepth 100000
set_option linter.unusedSimpArgs false
set_option linter.unusedVariables false

def lessK (x y : KeyD) : Bool := lessB x.a x.b y.a y.b
def spotK (x y : KeyD) : Bool := spotB x.a x.b y.a y.b
def okK (x : KeyD) : Bool := keyOkB x.a x.b x.c x.d x.e
theorem spot_less (x y : KeyD) : spotK x y = (!lessK x y && !lessK y x) := by
  simp only [spotK, spotB, lessK, lessB]
  rw [Bool.eq_iff_iff]
  by_cases h : x.a = y.a
  · simp [h]; omega
  · have h' : ¬ y.a = x.a := fun e => h e.symm
    simp [h, h']; omega
theorem spot_comm (x y : KeyD) : spotK x y = spotK y x := by rw [spot_less, spot_less, Bool.and_comm]
theorem less_spot {x y : KeyD} (h : lessK x y = true) : spotK x y = false := by rw [spot_less, h]; rfl
def riseB (l : List KeyD) : Bool := decide (∀ i (h : i < l.length - 1), lessK (l[i]'(by omega)) (l[i + 1]'(by omega)) = true)
def setOkB (l : List KeyD) : Bool := l.all okK && riseB l && decide (l.length ≤ 60)
def atK (l : List KeyD) (b a : Int) : Option KeyD := l.find? (fun x => spotB x.a x.b b a)
def putGo (k : KeyD) : List KeyD → Bool → List KeyD
  | [], done => if done then [] else [k]
  | x :: t, done => (if !done && !lessK x k then [k] else []) ++ ((if !spotK x k then [x] else []) ++ putGo k t (done || !lessK x k))
def putK (l : List KeyD) (k : KeyD) : List KeyD := putGo k l false
def mergeK (a b : List KeyD) : List KeyD := b.foldl putK a
def dropK (l : List KeyD) : List KeyD := l.filter (fun x => x.c != 0)
theorem putGo_true (k : KeyD) (l : List KeyD) : putGo k l true = l.filter (fun x => !spotK x k) := by
  induction l with
  | nil => rfl
  | cons x t ih =>
    simp only [putGo, Bool.true_or, ih]
    cases h : spotK x k <;> simp [h]
/-- The place of the first key that is not less than k. -/
def placeK (l : List KeyD) (k : KeyD) : Nat := l.findIdx (fun x => !lessK x k)
theorem put_eq (l : List KeyD) (k : KeyD) : putK l k = l.take (placeK l k) ++ (k :: (l.drop (placeK l k)).filter (fun x => !spotK x k)) := by
  unfold putK placeK
  induction l with
  | nil => rfl
  | cons x t ih =>
    rw [List.findIdx_cons]
    cases h : lessK x k
    · simp only [putGo, h, Bool.not_false, Bool.and_true, cond_true, Bool.or_true, if_true, putGo_true, List.take_zero, List.nil_append, List.drop_zero]
      cases h2 : spotK x k <;> simp [h2]
    · have h2 := less_spot h
      simp only [putGo, h, Bool.not_true, Bool.and_false, cond_false, Bool.or_false, Bool.false_eq_true, if_false, List.nil_append, h2, Bool.not_false, if_true, ih]
      simp
theorem putGo_len (k : KeyD) (l : List KeyD) (d : Bool) : (putGo k l d).length ≤ l.length + 1 := by
  induction l generalizing d with
  | nil => cases d <;> simp [putGo]
  | cons x t ih =>
    cases d
    · cases h : lessK x k
      · have := List.length_filter_le (fun x => !spotK x k) t
        simp only [putGo, h, Bool.not_false, Bool.and_true, if_true, Bool.or_true, putGo_true, List.length_append, List.length_cons, List.length_nil]
        split <;> simp <;> omega
      · have := ih false
        simp only [putGo, h, Bool.not_true, Bool.and_false, Bool.false_eq_true, if_false, List.nil_append, Bool.or_false, List.length_append, List.length_cons]
        split <;> simp <;> omega
    · have := ih true
      simp only [putGo, Bool.not_true, Bool.false_and, Bool.false_eq_true, if_false, Bool.true_or, List.nil_append, List.length_append, List.length_cons]
      split <;> simp <;> omega
theorem putK_len (l : List KeyD) (k : KeyD) : (putK l k).length ≤ l.length + 1 := putGo_len k l false
theorem mergeK_len (a b : List KeyD) : (mergeK a b).length ≤ a.length + b.length := by
  unfold mergeK
  induction b generalizing a with
  | nil => simp
  | cons k b ih =>
    have h1 := ih (putK a k)
    have h2 := putK_len a k
    simp only [List.foldl_cons, List.length_cons]
    omega
theorem dropK_len (l : List KeyD) : (dropK l).length ≤ l.length := List.length_filter_le _ _
theorem place_le (l : List KeyD) (k : KeyD) : placeK l k ≤ l.length := List.findIdx_le_length
theorem drop_at {l : List KeyD} {k : Nat} (h : k < l.length) : l.drop k = l[k] :: l.drop (k + 1) := List.drop_eq_getElem_cons h
end Go.Proofs.YtpfepcjbhchpcaaGreat
namespace Go.Proofs.YtpfepcjbhchpcaaGreat
open Go.RowKit
set_option maxRecDepth 100000
set_option linter.unusedSimpArgs false
set_option linter.unusedVariables false

def okL (l : List KeyD) : Bool := setOkB l && decide (0 < l.length)
def nodeOkB (ns : List (List KeyD)) : Bool := ns.all okL && decide (ns.length ≤ 3) && decide (sumN ns ≤ 8)
/-- The newest set first. -/
def atRev : List (List KeyD) → Int → Int → Option KeyD
  | [], _, _ => none
  | l :: r, b, a => match atK l b a with
    | some k => if k.c = 0 then none else some k
    | none => atRev r b a
def nodeAtK (ns : List (List KeyD)) (b a : Int) : Option KeyD := atRev ns.reverse b a
def nodeKeysK (ns : List (List KeyD)) : List KeyD := dropK (ns.foldl mergeK [])
theorem foldl_flat (ns : List (List KeyD)) (a : List KeyD) : ns.foldl mergeK a = mergeK a ns.flatten := by
  induction ns generalizing a with
  | nil => rfl
  | cons l ns ih =>
    rw [List.foldl_cons, ih, List.flatten_cons]
    unfold mergeK
    rw [List.foldl_append]
theorem keys_flat (ns : List (List KeyD)) : nodeKeysK ns = dropK (mergeK [] ns.flatten) := by rw [nodeKeysK, foldl_flat]
theorem flat_sum (ns : List (List KeyD)) : ns.flatten.length = sumN ns := by simp [sumN, List.length_flatten]
theorem fold_len (ns : List (List KeyD)) (a : List KeyD) : (ns.foldl mergeK a).length ≤ a.length + sumN ns := by
  rw [foldl_flat, ← flat_sum]
  exact mergeK_len _ _
theorem nodeKeys_len (ns : List (List KeyD)) : (nodeKeysK ns).length ≤ sumN ns := by
  have h := fold_len ns []
  have h2 := dropK_len (ns.foldl mergeK [])
  unfold nodeKeysK
  simp at h
  omega
theorem all_take {ns : List (List KeyD)} {k : Nat} (h : k < ns.length) (h1 : (ns.take k).all okL = true) (h2 : okL ns[k] = true) : (ns.take (k + 1)).all okL = true := by
  rw [List.take_succ_eq_append_getElem h, List.all_append, h1]
  simp [h2]
theorem all_bad {ns : List (List KeyD)} {k : Nat} (h : k < ns.length) (h2 : okL ns[k] = false) : nodeOkB ns = false := by
  have : ns.all okL = false := by
    rw [List.all_eq_false]
    exact ⟨ns[k], List.getElem_mem h, by simp [h2]⟩
  rw [nodeOkB, this]
  rfl
theorem atRev_step {ns : List (List KeyD)} {k : Nat} (h : k < ns.length) (b a : Int) : atRev (ns.take (k + 1)).reverse b a = match atK ns[k] b a with
    | some x => if x.c = 0 then none else some x
    | none => atRev (ns.take k).reverse b a := by
  rw [List.take_succ_eq_append_getElem h, List.reverse_append]
  rfl
def pickO : Option KeyD → Option KeyD
  | some x => if x.c = 0 then none else some x
  | none => none
/-- The same, key by key. -/
theorem atRev_find (r : List (List KeyD)) (b a : Int) : atRev r b a = pickO (r.flatten.find? (fun x => spotB x.a x.b b a)) := by
  induction r with
  | nil => rfl
  | cons l r ih =>
    rw [List.flatten_cons, List.find?_append]
    unfold atRev atK
    cases l.find? (fun x => spotB x.a x.b b a) with
    | none => simpa using ih
    | some x => rfl
end Go.Proofs.YtpfepcjbhchpcaaGreat
namespace Go.Proofs.YtpfepcjbhchpcaaGreat
open Go.RowKit Go.Shelf
set_option maxRecDepth 100000
set_option linter.unusedSimpArgs false
set_option linter.unusedVariables false

theorem round_any {P : Program} {n m l : Nat} {f : FuncId} {tmps : Array Value} {assign body : Code} {w : World} {R : Ending → World → Prop} (h : RoundIn Fence.wide n P l f tmps assign body w R) : RoundIn Fence.wide m P l f tmps assign body w R :=
  ⟨h.1, fun c cs _ => h.2 c cs (room_wide _)⟩
/-- A call of yield goes through, as one round of loop l. -/
def Yields (P : Program) (l : Nat) (args : Array Value) (W : World) (R : Ending → World → Prop) : Prop :=
  ∃ fn tmps assign body, (Instr.yield l args).run P W = .ok (.round l fn tmps assign body) W ∧ ∀ m, RoundIn Fence.wide m P l fn tmps assign body W R
/-- V' is V but for blocks from n₀ to B, rows of elements of type E from B on, and new blocks. -/
structure Kept (E : TypeId) (n₀ B : Nat) (V V' : World) : Prop where
  os : V'.os = V.os
  tape : V'.tape = V.tape
  output : V'.output = V.output
  size : V.heap.size ≤ V'.heap.size
  block : ∀ k, k < V.heap.size → (k < n₀ ∨ (B ≤ k ∧ ∀ cur, V.heap[k]? ≠ some (.cells cur E (0, 0)))) → V'.heap[k]? = V.heap[k]?
theorem Kept.refl (E : TypeId) (n₀ B : Nat) (V : World) : Kept E n₀ B V V := ⟨rfl, rfl, rfl, Nat.le_refl _, fun _ _ _ => rfl⟩
theorem Kept.trans {E : TypeId} {n₀ B : Nat} {V V' V'' : World} (h : Kept E n₀ B V V') (k : Kept E n₀ B V' V'') : Kept E n₀ B V V'' :=
  ⟨k.os.trans h.os, k.tape.trans h.tape, k.output.trans h.output, Nat.le_trans h.size k.size, fun i hi hc => by
    have e := h.block i hi hc
    refine (k.block i (Nat.lt_of_lt_of_le hi h.size) ?_).trans e
    rcases hc with hc | ⟨h1, h2⟩
    · exact .inl hc
    · exact .inr ⟨h1, fun cur => by rw [e]; exact h2 cur⟩⟩
theorem Kept.mono {E : TypeId} {n₀ n₁ B B' : Nat} {V V' : World} (h : Kept E n₀ B V V') (hn : n₁ ≤ n₀) (hB : B ≤ B') : Kept E n₁ B' V V' :=
  ⟨h.os, h.tape, h.output, h.size, fun k hk hc => h.block k hk (hc.elim (fun h => .inl (by omega)) (fun h => .inr ⟨by omega, h.2⟩))⟩
theorem Only.kept {S : Nat → Prop} {V V' : World} (h : Only S V V') (E : TypeId) {n₀ B : Nat} (hS : ∀ b, S b → n₀ ≤ b ∧ (B ≤ b → ∃ cur, V.heap[b]? = some (.cells cur E (0, 0)))) : Kept E n₀ B V V' :=
  ⟨h.os, h.tape, h.output, h.size, fun k hk hc => h.block k hk (fun hs => by
    rcases hc with hc | ⟨h1, h2⟩
    · have := (hS k hs).1; omega
    · obtain ⟨cur, hcur⟩ := (hS k hs).2 h1
      exact h2 cur hcur)⟩
theorem Kept.of_below {V V' : World} (h : Below V.heap.size V V') (E : TypeId) (n₀ B : Nat) : Kept E n₀ B V V' := ⟨h.os, h.tape, h.output, h.size, fun k hk _ => h.block k hk⟩
theorem Kept.below {E : TypeId} {n₀ B : Nat} {V V' : World} (h : Kept E n₀ B V V') : Below n₀ V V' ∨ V.heap.size < n₀ := by
  by_cases hn : V.heap.size < n₀
  · exact .inr hn
  · exact .inl ⟨h.os, h.tape, h.output, h.size, fun k hk => h.block k (by omega) (.inl hk)⟩
theorem Kept.box {E : TypeId} {n₀ B : Nat} {V V' : World} (h : Kept E n₀ B V V') {k : Nat} {o : Obj} (hk : V.heap[k]? = some o) (hB : B ≤ k) (ho : ∀ cur, o ≠ .cells cur E (0, 0)) : V'.heap[k]? = some o :=
  (h.block k (Array.getElem?_eq_some_iff.1 hk).1 (.inr ⟨hB, fun cur e => ho cur (by rw [hk] at e; exact Option.some.inj e)⟩)).trans hk
/-- The closure g hands out the list xs, one by one, or a part of it if a round says so. -/
def SeqL {α : Type} (E : TypeId) (P : Program) (g : Nat) (lb : Array Value) (encs : α → Array Value) (n₀ : Nat) (xs : List α) (w : World) : Prop :=
  ∀ (l : Nat) (J Jx : List α → World → Prop) (W : World), Below w.heap.size w W → OwnFrom W.heap.size J → OwnFrom W.heap.size Jx →
    (∀ pre x V, pre ++ [x] <+: xs → J pre V → Yields P l (encs x) V fun e V' => (e = .returned (.bool true) ∧ J (pre ++ [x]) V' ∧ Kept E n₀ W.heap.size V V') ∨ (e = .returned (.bool false) ∧ Jx (pre ++ [x]) V' ∧ Kept E 0 W.heap.size V V')) →
    J [] W → Calls P g (#[.func (.yield l) #[] #[]] ++ lb) W fun e V' => (∃ v, e = .returned v) ∧ (J xs V' ∨ ∃ pre, pre <+: xs ∧ Jx pre V')
/-- How the body of a round may be left. -/
def leftL {α : Type} (E : TypeId) (n₀ B : Nat) (I : List α → World → Prop) (Ix : Code → List α → World → Prop) (ys : List α) (W : World) : Exit → Act → World → Prop
  | .normal, _, W' => Kept E n₀ B W W' ∧ I ys W'
  | .ret, _, W' => Kept E 0 B W W' ∧ Ix .ret ys W'
  | .exit id, _, W' => Kept E 0 B W W' ∧ Ix (.exit id) ys W'
  | .goto t, _, W' => Kept E 0 B W W' ∧ Ix (.goto t) ys W'
  | .panic _, _, _ => False
  | .outgrown, _, _ => False
theorem only_put {S : Nat → Prop} (W : World) (l : Nat) (o : Obj) (h : S l) : Only S W (W.putObj l o) := Only.of_grown (grownBy_putObj' W l o) h
theorem rangeL {α : Type} {E : TypeId} {P : Program} {n : Nat} {g : Operand} {ps : Array Tmp} {assign body : Code} {Q : Exit → Act → World → Prop} {a : Act} {w : World} {gf : Nat} {lb : Array Value}
    (hg : a.eval g = .func (.func gf) #[] lb) (eg : ∀ args w, (callFunc gf args).run P w = .ok (.enter gf args) w) {encs : α → Array Value} {n₀ : Nat} {xs : List α} {w0 : World} (hseq : SeqL E P gf lb encs n₀ xs w0) (hb0 : Below w0.heap.size w0 w) (hn₀ : n₀ ≤ w.heap.size) (hps : ∀ x, (encs x).size = ps.size)
    (I : List α → World → Prop) (Ix : Code → List α → World → Prop) (hI : OwnFrom w.heap.size I) (hIx : ∀ c, OwnFrom w.heap.size (Ix c)) (h0 : I [] w) (Ax : α → Act → World → Prop) (hAx : ∀ x a', OwnFrom w.heap.size (fun (_ : Unit) W => Ax x a' W))
    (hassign : ∀ (l : Nat) (pre : List α) (x : α) (W : World) (K : Act → World → Prop), pre ++ [x] <+: xs → I pre W → (∀ a' W', Only (fun _ => False) W W' → I pre W' → Ax x a' W' → K a' W') →
      assign.wpIn (Fence.wide.inRound l) n P (Exit.then K (fun _ _ _ => False)) { tmps := (ps.zip (encs x)).foldl (fun t (p, v) => t.setIfInBounds p v) a.tmps, defers := [] } W)
    (hbody : ∀ (l : Nat) (pre : List α) (x : α) (a' : Act) (W : World), pre ++ [x] <+: xs → I pre W → Ax x a' W → body.wpIn (Fence.wide.inRound l) n P (leftL E n₀ w.heap.size I Ix (pre ++ [x]) W) a' W)
    (hdone : ∀ (D : Nat) (W : World), w.heap.size ≤ D → I xs W → W.heap[D]? = some (.deferred (some [])) → Q .normal { a with defers := { target := .collected D, args := #[] } :: a.defers } W)
    (hstop : ∀ (D : Nat) (c : Code) (pre : List α) (W : World), w.heap.size ≤ D → pre <+: xs → Ix c pre W → W.heap[D]? = some (.deferred (some [])) → c.wpIn Fence.wide n P Q { a with defers := { target := .collected D, args := #[] } :: a.defers } W) :
    (Code.rangeFunc g ps assign body).wpIn Fence.wide n P Q a w := by
  refine wpIn_rangeFunc (fun fn hfn => ?_)
  let rec' (st : LoopState) (pe : Option Code) : Loop := { state := st, pending := pe, fn, tmps := a.tmps, params := ps, assign, body, defers := w.heap.size }
  obtain ⟨rc, hrc⟩ : ∃ rc, rc = rec' := ⟨_, rfl⟩
  obtain ⟨W1, hW1⟩ : ∃ W1, (w.alloc (.deferred (some []))).alloc (.loop (rc .ready none)) = W1 := ⟨_, rfl⟩
  have hz : W1.heap.size = w.heap.size + 2 := by rw [← hW1]; simp
  have q := al2 w (.deferred (some [])) (.loop (rc .ready none))
  rw [hW1] at q
  obtain ⟨q0, q1⟩ := q
  have hb1 : Below w.heap.size w W1 := by rw [← hW1]; exact bal2 _ _ _
  have keep : ∀ {A B : World} {row : Option Nat} {k : Nat} {o : Obj}, A.grownBy B row → (∀ r, row = some r → W1.heap.size ≤ r ∧ ∃ o : Obj, A.heap[r]? = some o ∧ o.isCells = false) → k < w.heap.size + 2 → A.heap[k]? = some o → B.heap[k]? = some o := by
    intro A B row k o hg' hr hk ho
    refine (hg'.block k (Array.getElem?_eq_some_iff.1 ho).1 (fun e => ?_)).trans ho
    have := (hr k e.symm).1
    omega
  have low : ∀ {A : World} {row : Option Nat}, (∀ r, row = some r → W1.heap.size ≤ r ∧ ∃ o : Obj, A.heap[r]? = some o ∧ o.isCells = false) → ∀ r, row = some r → w.heap.size ≤ r ∧ ∃ o : Obj, A.heap[r]? = some o ∧ o.isCells = false :=
    fun hr r e => ⟨by have := (hr r e).1; omega, (hr r e).2⟩
  refine ⟨w.heap.size + 1, [{ target := .collected w.heap.size, args := #[] }], W1, { target := .fn (.func gf) lb, args := #[.func (.yield (w.heap.size + 1)) #[] #[]] }, W1, gf,
    #[.func (.yield (w.heap.size + 1)) #[] #[]] ++ lb, W1, by rw [← hW1, hrc]; exact run_enterLoop_outer _ _ _ _ _, ?_, fun _ _ => trivial, ?_, (fun h => by cases h), callsIn_wide.2 ?_⟩
  · simp only [resolve, hg]
    simp [go_sem]
  · simp [invoke, go_sem, eg]
  · refine (hseq (w.heap.size + 1)
      (fun pre W => I pre W ∧ W.heap[w.heap.size + 1]? = some (.loop (rc .ready none)) ∧ W.heap[w.heap.size]? = some (.deferred (some [])))
      (fun pre W => ∃ c, Ix c pre W ∧ W.heap[w.heap.size + 1]? = some (.loop (rc .done (some c))) ∧ W.heap[w.heap.size]? = some (.deferred (some [])))
      W1 (hb0.trans (hb1.mono hb0.size))
      (fun s A B row hs hg' hr => ⟨hI s A B row hs.1 hg' (low hr), keep hg' hr (by omega) hs.2.1, keep hg' hr (by omega) hs.2.2⟩)
      (fun s A B row hs hg' hr => by
        obtain ⟨c, h1, h2, h3⟩ := hs
        exact ⟨c, hIx c s A B row h1 hg' (low hr), keep hg' hr (by omega) h2, keep hg' hr (by omega) h3⟩)
      ?_ ⟨by rw [← hW1]; exact hI.alloc _ (hI.alloc _ h0), q1, q0⟩).mono ?_
    · rintro pre x V hpx ⟨hi, hl, hk⟩
      have hy := run_yield (P := P) (args := encs x) hl (by rw [hrc]; exact hps x)
      rw [hrc] at hy
      refine ⟨fn, _, assign, body, hy, fun m => round_any (n := n) (roundIn_of_wpIn trivial (hassign _ pre x V _ hpx hi ?_))⟩
      clear hy
      intro a' Va hoa hia hax
      have hl' := box_only hl hoa (fun h => h)
      have hk' := box_only hk hoa (fun h => h)
      have hlt : w.heap.size + 1 < Va.heap.size := (Array.getElem?_eq_some_iff.1 hl').1
      refine ⟨_, run_beginRound hl' (by rw [hrc]), ?_⟩
      obtain ⟨Vb, hVb⟩ : ∃ Vb, Va.putObj (w.heap.size + 1) (.loop { rc .ready none with state := .busy }) = Vb := ⟨_, rfl⟩
      have hob : Only (fun b => b = w.heap.size + 1) Va Vb := by rw [← hVb]; exact only_put _ _ _ rfl
      have hlb : Vb.heap[w.heap.size + 1]? = some (.loop { rc .ready none with state := .busy }) := by rw [← hVb]; exact World.putObj_heap_same hlt
      have hkb : Vb.heap[w.heap.size]? = some (.deferred (some [])) := by rw [← hVb]; exact (World.putObj_heap_other (by omega)).trans hk'
      have hib : I pre Vb := by rw [← hVb]; exact hI.putObj _ hia (by omega) hl' rfl
      have hab : Ax x a' Vb := by rw [← hVb]; exact (hAx x a').putObj (s := ()) _ hax (by omega) hl' rfl
      rw [hVb]
      refine wpIn_mono (hbody _ pre x a' Vb hpx hib hab) ?_
      have fin : ∀ (jump : Option Code) (n₁ : Nat) (V3 : World), n₁ ≤ w.heap.size → Kept E n₁ w.heap.size Vb V3 → ∃ V4, (Instr.endRound (w.heap.size + 1) jump).run P V3 = .ok (.bool jump.isNone) V4 ∧ V4 = V3.putObj (w.heap.size + 1) (.loop (rc (if jump.isNone then .ready else .done) jump)) ∧
          V3.heap[w.heap.size + 1]? = some (.loop { rc .ready none with state := .busy }) ∧ V4.heap[w.heap.size + 1]? = some (.loop (rc (if jump.isNone then .ready else .done) jump)) ∧ V4.heap[w.heap.size]? = some (.deferred (some [])) ∧ Kept E n₁ W1.heap.size V V4 := by
        intro jump n₁ V3 hn1 ho3
        have hl3 := ho3.box hlb (by omega) (fun _ h => by cases h)
        have hk3 := ho3.box hkb (Nat.le_refl _) (fun _ h => by cases h)
        have hr := run_endRound (P := P) jump hl3
        rw [hrc] at hr ⊢
        refine ⟨_, hr, rfl, by rw [hrc] at hl3; exact hl3, World.putObj_heap_same (Array.getElem?_eq_some_iff.1 hl3).1, (World.putObj_heap_other (by omega)).trans hk3, ?_⟩
        have t1 : Kept E n₁ W1.heap.size V Va := hoa.kept E (fun _ h => h.elim)
        have t2 : Kept E n₁ W1.heap.size Va Vb := hob.kept E (fun b h => ⟨by omega, fun _ => by omega⟩)
        exact ((t1.trans t2).trans (ho3.mono (Nat.le_refl _) (by omega))).trans ((only_put (S := fun b => b = w.heap.size + 1) _ _ _ rfl).kept E (fun b h => ⟨by omega, fun _ => by omega⟩))
      rintro e a3 V3 hp
      cases e with
      | normal =>
        obtain ⟨ho3, hi3⟩ := hp
        obtain ⟨V4, hr, hV4, hl3, hl4, hk4, ho4⟩ := fin none n₀ V3 hn₀ ho3
        exact ⟨_, _, hr, .inl ⟨rfl, ⟨by rw [hV4]; exact hI.putObj _ hi3 (by omega) hl3 rfl, hl4, hk4⟩, ho4⟩⟩
      | ret =>
        obtain ⟨ho3, hi3⟩ := hp
        obtain ⟨V4, hr, hV4, hl3, hl4, hk4, ho4⟩ := fin (some .ret) 0 V3 (Nat.zero_le _) ho3
        exact ⟨_, _, hr, .inr ⟨rfl, ⟨.ret, by rw [hV4]; exact (hIx _).putObj _ hi3 (by omega) hl3 rfl, hl4, hk4⟩, ho4⟩⟩
      | exit id =>
        obtain ⟨ho3, hi3⟩ := hp
        obtain ⟨V4, hr, hV4, hl3, hl4, hk4, ho4⟩ := fin (some (.exit id)) 0 V3 (Nat.zero_le _) ho3
        exact ⟨_, _, hr, .inr ⟨rfl, ⟨.exit id, by rw [hV4]; exact (hIx _).putObj _ hi3 (by omega) hl3 rfl, hl4, hk4⟩, ho4⟩⟩
      | goto t =>
        obtain ⟨ho3, hi3⟩ := hp
        obtain ⟨V4, hr, hV4, hl3, hl4, hk4, ho4⟩ := fin (some (.goto t)) 0 V3 (Nat.zero_le _) ho3
        exact ⟨_, _, hr, .inr ⟨rfl, ⟨.goto t, by rw [hV4]; exact (hIx _).putObj _ hi3 (by omega) hl3 rfl, hl4, hk4⟩, ho4⟩⟩
      | panic ch => exact hp.elim
      | outgrown => exact hp.elim
    · rintro e W2 ⟨⟨v, rfl⟩, (⟨hi, hl, hk⟩ | ⟨pre, hpre, c, hi, hl, hk⟩)⟩
      · have he := run_endLoop (P := P) hl (by rw [hrc]; simp [rec'])
        rw [hrc] at he
        exact ⟨none, _, he, hdone _ _ (Nat.le_refl _) (hI.putObj _ hi (by omega) hl rfl) ((World.putObj_heap_other (by omega)).trans hk)⟩
      · have he := run_endLoop (P := P) hl (by rw [hrc]; simp [rec'])
        rw [hrc] at he
        exact ⟨some c, _, he, hstop _ c pre _ (Nat.le_refl _) hpre ((hIx c).putObj _ hi (by omega) hl rfl) ((World.putObj_heap_other (by omega)).trans hk)⟩
end Go.Proofs.YtpfepcjbhchpcaaGreat
namespace Go.Proofs.YtpfepcjbhchpcaaGreat
open Go.RowKit Go.Shelf
set_option maxRecDepth 100000
set_option linter.unusedSimpArgs false
set_option linter.unusedVariables false
attribute [local go_sem] Oper.semAt_some

/-- One set as an iterator hands it out: its index, its slice, its keys. -/
structure SV where
  (i : Nat) (A : Option Addr) (c : Nat) (ks : List KeyD)
def encS (x : SV) : Array Value := #[.int .i64 (x.i : Int), .slice x.A x.ks.length x.c]
/-- The cells of the sets lie below n₀, and so do their keys. -/
def SetsAt (W : World) (n₀ : Nat) (A : Option Addr) (zs : List SV) : Prop := (∀ k (h : k < zs.length), (zs[k]).i = k) ∧ (zs = [] ∨ ∃ b off, A = some ⟨b, off, none⟩ ∧ b < n₀ ∧ ∀ k (h : k < zs.length), W.cell? ⟨b, off + k, none⟩ = some (.slice (zs[k]).A (zs[k]).ks.length (zs[k]).c))
theorem SetsAt.below {W W' : World} {n₀ : Nat} {A : Option Addr} {zs : List SV} (h : SetsAt W n₀ A zs) (hb : Below n₀ W W') : SetsAt W' n₀ A zs := by
  obtain ⟨h1, h | ⟨b, off, h2, h3, h4⟩⟩ := h
  · exact ⟨h1, .inl h⟩
  · exact ⟨h1, .inr ⟨b, off, h2, h3, fun k hk => (hb.cell (p := ⟨b, off + k, none⟩) h3).trans (h4 k hk)⟩⟩
theorem only_below {E : TypeId} {n₀ B : Nat} {V V' : World} (h : Kept E n₀ B V V') (hn : n₀ ≤ V.heap.size) : Below n₀ V V' := h.below.elim (fun h => h) (fun h => by omega)
theorem take_pre {α : Type} {zs : List α} {k : Nat} (h : k < zs.length) : zs.take k ++ [zs[k]] <+: zs := by
  rw [← List.take_succ_eq_append_getElem h]
  exact List.take_prefix _ _
set_option maxHeartbeats 2000000 in
theorem all_seq (E : TypeId) (Bs n₀ : Nat) (A : Option Addr) (c : Nat) (zs : List SV) (hm : zs.length ≤ 1100000) (hBs : Bs < n₀) (w : World) (hn₀ : n₀ ≤ w.heap.size) (hc : w.cell? ⟨Bs, 0, none⟩ = some (.slice A zs.length c)) (hz : SetsAt w n₀ A zs) :
    SeqL E Tryz.prog 223 #[.pointer (some ⟨Bs, 0, none⟩)] encS n₀ zs w := by
  intro l J Jx W hW hJ hJx hY h0
  have hc' : W.cell? ⟨Bs, 0, none⟩ = some (.slice A zs.length c) := (hW.cell (p := ⟨Bs, 0, none⟩) (show Bs < w.heap.size by omega)).trans hc
  have HZ := Lib.hid (hz.below (hW.mono hn₀))
  have hnW : n₀ ≤ W.heap.size := Nat.le_trans hn₀ hW.size
  clear hc hz hW hJ hJx
  refine (callsIn_wide (n := 1)).1 ?_
  refine callsIn_of_wp Tryz.func223 rfl trivial ?_ rfl
  simp only [Tryz.ntmps223, List.size_toArray, List.length_cons, List.length_nil, Nat.reduceAdd, Nat.reduceSub, Array.replicate_succ, Array.replicate_zero, List.push_toArray, List.append_toArray, List.nil_append, List.cons_append]
  gi_wp2
  gi_loopw [7] (fun i wr => ∃ k : Nat, k ≤ zs.length ∧ i = .int .i64 k ∧ Hid (J (zs.take k) wr) ∧ Hid (Below n₀ W wr)) (fun i _ => zs.length - (intOf i).toNat)
  case atStart => exact ⟨0, Nat.zero_le _, rfl, Lib.hid h0, Lib.hid (Below.refl _ _)⟩
  case round =>
    obtain ⟨k, hk, rfl, HJ, HX⟩ := hrel
    by_cases hlt : k < zs.length
    · obtain ⟨hi, hz⟩ := HZ.out
      obtain ⟨b, off, rfl, hb, hcc⟩ : ∃ b off, A = some ⟨b, off, none⟩ ∧ b < n₀ ∧ ∀ k (h : k < zs.length), W.cell? ⟨b, off + k, none⟩ = some (.slice (zs[k]).A (zs[k]).ks.length (zs[k]).c) := by
        rcases hz with h | h
        · rw [h] at hlt; simp at hlt
        · exact h
      have y0 := (HX.out.cell (p := ⟨b, off + k, none⟩) hb).trans (hcc k hlt)
      obtain ⟨fn, tmps, assign, body, hy, hR⟩ := hY _ zs[k] wr (take_pre hlt) HJ.out
      unfold encS at hy
      rw [hi k hlt] at hy
      have HR := Lib.hid hR
      have hsz := HX.out.size
      have HT : Hid (zs.take (k + 1) = zs.take k ++ [zs[k]]) := Lib.hid (List.take_succ_eq_append_getElem hlt)
      have i2 : (k : Int) < (zs.length : Int) := by omega
      have i3 : (0 : Int) ≤ (k : Int) := by omega
      clear hcc hi hz hR
      gi_wp2
      refine (HR.out _).mono ?_
      rintro e W3 (⟨rfl, hJ3, ho3⟩ | ⟨rfl, hJx3, ho3⟩)
      · gi_wp2
        go_roundw
        case rel => exact ⟨k + 1, by omega, by go_num, Lib.hid (by rw [HT.out]; exact hJ3), Lib.hid (HX.out.trans (only_below ho3 (Nat.le_trans hnW hsz)))⟩
        case measure => simp [intOf]; omega
      · gi_wp2
        refine bodyPost_ret (results_none rfl _ _ _) rfl ?_
        exact ⟨⟨_, rfl⟩, .inr ⟨_, take_pre hlt, hJx3⟩⟩
    · have e : k = zs.length := by omega
      subst e
      have HJ2 := HJ.out
      rw [List.take_length] at HJ2
      gi_wp2
      go_end0
      exact ⟨⟨_, rfl⟩, .inl HJ2⟩
theorem rev_take {α : Type} {zs : List α} {k : Nat} (h : k < zs.length) : zs.reverse.take (zs.length - k) = zs.reverse.take (zs.length - (k + 1)) ++ [zs[k]] := by
  rw [show zs.length - k = (zs.length - (k + 1)) + 1 by omega, List.take_succ_eq_append_getElem (by simp; omega)]
  congr 2
  rw [List.getElem_reverse]
  congr 1
  omega
theorem rev_pre {α : Type} {zs : List α} {k : Nat} (h : k < zs.length) : zs.reverse.take (zs.length - (k + 1)) ++ [zs[k]] <+: zs.reverse := by
  rw [← rev_take h]
  exact List.take_prefix _ _
set_option maxHeartbeats 2000000 in
theorem back_seq (E : TypeId) (Bs n₀ : Nat) (A : Option Addr) (c : Nat) (zs : List SV) (hm : zs.length ≤ 1100000) (hBs : Bs < n₀) (w : World) (hn₀ : n₀ ≤ w.heap.size) (hc : w.cell? ⟨Bs, 0, none⟩ = some (.slice A zs.length c)) (hz : SetsAt w n₀ A zs) :
    SeqL E Tryz.prog 249 #[.pointer (some ⟨Bs, 0, none⟩)] encS n₀ zs.reverse w := by
  intro l J Jx W hW hJ hJx hY h0
  have hc' : W.cell? ⟨Bs, 0, none⟩ = some (.slice A zs.length c) := (hW.cell (p := ⟨Bs, 0, none⟩) (show Bs < w.heap.size by omega)).trans hc
  have HZ := Lib.hid (hz.below (hW.mono hn₀))
  have hnW : n₀ ≤ W.heap.size := Nat.le_trans hn₀ hW.size
  clear hc hz hW hJ hJx
  refine (callsIn_wide (n := 1)).1 ?_
  refine callsIn_of_wp Tryz.func249 rfl trivial ?_ rfl
  simp only [Tryz.ntmps249, List.size_toArray, List.length_cons, List.length_nil, Nat.reduceAdd, Nat.reduceSub, Array.replicate_succ, Array.replicate_zero, List.push_toArray, List.append_toArray, List.nil_append, List.cons_append]
  gi_wp2
  gi_loopw [3] (fun i wr => ∃ r : Nat, r ≤ zs.length ∧ i = .int .i64 ((r : Int) - 1) ∧ Hid (J (zs.reverse.take (zs.length - r)) wr) ∧ Hid (Below n₀ W wr)) (fun i _ => (intOf i + 1).toNat)
  case atStart => exact ⟨zs.length, Nat.le_refl _, rfl, Lib.hid (by rw [Nat.sub_self]; exact h0), Lib.hid (Below.refl _ _)⟩
  case round =>
    obtain ⟨r, hr, rfl, HJ, HX⟩ := hrel
    have hB2 : wr.cell? ⟨Bs, 0, none⟩ = some (.slice A zs.length c) := (HX.out.cell (p := ⟨Bs, 0, none⟩) hBs).trans hc'
    rcases Nat.eq_zero_or_pos r with rfl | hpos
    · have t0 : decide ((0 : Int) ≤ ((0 : Nat) : Int) - 1) = false := by decide
      have HJ2 := HJ.out
      rw [Nat.sub_zero, List.take_of_length_le (by simp)] at HJ2
      gi_wp2
      go_end0
      exact ⟨⟨_, rfl⟩, .inl HJ2⟩
    · obtain ⟨k, rfl⟩ : ∃ k, r = k + 1 := ⟨r - 1, by omega⟩
      have hlt : k < zs.length := by omega
      have e1 : ((k + 1 : Nat) : Int) - 1 = (k : Int) := by omega
      rw [e1]
      obtain ⟨hi, hz⟩ := HZ.out
      obtain ⟨b, off, rfl, hb, hcc⟩ : ∃ b off, A = some ⟨b, off, none⟩ ∧ b < n₀ ∧ ∀ k (h : k < zs.length), W.cell? ⟨b, off + k, none⟩ = some (.slice (zs[k]).A (zs[k]).ks.length (zs[k]).c) := by
        rcases hz with h | h
        · rw [h] at hlt; simp at hlt
        · exact h
      have y0 := (HX.out.cell (p := ⟨b, off + k, none⟩) hb).trans (hcc k hlt)
      obtain ⟨fn, tmps, assign, body, hy, hR⟩ := hY _ zs[k] wr (rev_pre hlt) HJ.out
      unfold encS at hy
      rw [hi k hlt] at hy
      have HR := Lib.hid hR
      have hsz := HX.out.size
      have HT := Lib.hid (rev_take hlt)
      have i2 : (k : Int) < (zs.length : Int) := by omega
      have i3 : (0 : Int) ≤ (k : Int) := by omega
      clear hcc hi hz hR e1 hpos
      gi_wp2
      refine (HR.out _).mono ?_
      rintro e W3 (⟨rfl, hJ3, ho3⟩ | ⟨rfl, hJx3, ho3⟩)
      · gi_wp2
        go_roundw
        case rel => exact ⟨k, by omega, by go_num, Lib.hid (by rw [HT.out]; exact hJ3), Lib.hid (HX.out.trans (only_below ho3 (Nat.le_trans hnW hsz)))⟩
        case measure => simp [intOf]
      · gi_wp2
        refine bodyPost_ret (results_none rfl _ _ _) rfl ?_
        exact ⟨⟨_, rfl⟩, .inr ⟨_, rev_pre hlt, hJx3⟩⟩
theorem allF_any (a : Option Addr) (len cap : Nat) (w : World) :
    Calls Tryz.prog 184 #[.slice a len cap] w fun e w' => e = .returned (.func (.func 223) #[] #[.pointer (some ⟨w.heap.size, 0, none⟩)]) ∧ w' = w.alloc (.cells #[.slice a len cap] 95) := by
  go_enter Tryz.func184, Tryz.ntmps184
  go_wp2
  go_ret
  exact ⟨rfl, rfl⟩
theorem backF_any (a : Option Addr) (len cap : Nat) (w : World) :
    Calls Tryz.prog 236 #[.slice a len cap] w fun e w' => e = .returned (.func (.func 249) #[] #[.pointer (some ⟨w.heap.size, 0, none⟩)]) ∧ w' = w.alloc (.cells #[.slice a len cap] 95) := by
  go_enter Tryz.func236, Tryz.ntmps236
  go_wp2
  go_ret
  exact ⟨rfl, rfl⟩
theorem layered_any (g : Nat) (lb : Array Value) (w : World) :
    Calls Tryz.prog 183 #[.func (.func g) #[] lb] w fun e w' => e = .returned (.func (.func 222) #[] #[.pointer (some ⟨w.heap.size, 0, none⟩)]) ∧ w' = w.alloc (.cells #[.func (.func g) #[] lb] 199) := by
  go_enter Tryz.func183, Tryz.ntmps183
  go_wp2
  go_ret
  exact ⟨rfl, rfl⟩
end Go.Proofs.YtpfepcjbhchpcaaGreat
namespace Go.Proofs.YtpfepcjbhchpcaaGreat
open Go.RowKit Go.Shelf
set_option maxRecDepth 100000
set_option linter.unusedSimpArgs false
set_option linter.unusedVariables false
attribute [local go_sem] Oper.semAt_some

theorem round_in {P : Program} {n l l' : Nat} {f : FuncId} {tmps : Array Value} {assign body : Code} {w : World} {R : Ending → World → Prop} (h : RoundIn Fence.wide n P l f tmps assign body w R) : RoundIn (Fence.wide.inRound l') n P l f tmps assign body w R := h
def keysOfS (zs : List SV) : List KeyD := zs.flatMap SV.ks
theorem keysOfS_snoc (pre : List SV) (x : SV) : keysOfS (pre ++ [x]) = keysOfS pre ++ x.ks := by simp [keysOfS]
theorem keysOfS_pre {pre zs : List SV} (h : pre <+: zs) : keysOfS pre <+: keysOfS zs := by
  obtain ⟨t, rfl⟩ := h
  exact ⟨keysOfS t, by simp [keysOfS]⟩
theorem key_pre {pre zs : List SV} {x : SV} {k : Nat} (h : pre ++ [x] <+: zs) (hk : k < x.ks.length) : (keysOfS pre ++ x.ks.take k) ++ [x.ks[k]] <+: keysOfS zs := by
  refine List.IsPrefix.trans ?_ (keysOfS_pre h)
  rw [keysOfS_snoc, List.append_assoc]
  exact (List.prefix_append_right_inj _).2 (take_pre hk)
theorem only_alloc0 (W : World) (o : Obj) (S : Nat → Prop) : Only S W (W.alloc o) := Only.of_below (bal1 W o) S
set_option maxHeartbeats 4000000 in
theorem layered_seq (E : TypeId) (hE : ∀ cur cur', Obj.cells cur 124 (0, 0) ≠ .cells cur' E (0, 0)) (Bf n₀ gf : Nat) (lb : Array Value) (zs : List SV) (w : World) (hn₀ : n₀ ≤ w.heap.size) (hBf : Bf < n₀) (hf : w.cell? ⟨Bf, 0, none⟩ = some (.func (.func gf) #[] lb)) (eg : ∀ args w, (callFunc gf args).run Tryz.prog w = .ok (.enter gf args) w)
    (hseq : SeqL E Tryz.prog gf lb encS n₀ zs w) (hr : ∀ z ∈ zs, Reads w n₀ (.slice z.A z.ks.length z.c) (keysD z.ks)) (hl : ∀ z ∈ zs, z.ks.length ≤ 1100000) :
    SeqL E Tryz.prog 222 #[.pointer (some ⟨Bf, 0, none⟩)] (fun k : KeyD => #[k.v]) n₀ (keysOfS zs) w := by
  intro l J Jx W hW hJ hJx hY h0
  have hf' : W.cell? ⟨Bf, 0, none⟩ = some (.func (.func gf) #[] lb) := (hW.cell (p := ⟨Bf, 0, none⟩) (show Bf < w.heap.size by omega)).trans hf
  have hnW : n₀ ≤ W.heap.size := Nat.le_trans hn₀ hW.size
  have HR : Hid (∀ z ∈ zs, ∀ V, Below n₀ W V → Reads V n₀ (.slice z.A z.ks.length z.c) (keysD z.ks)) := Lib.hid (fun z hz V hV => (hr z hz).keep ((hW.mono hn₀).trans hV).block)
  have HL := Lib.hid hl
  have HY := Lib.hid hY
  have HJ := Lib.hid hJ
  have HJx := Lib.hid hJx
  have HSQ := Lib.hid hseq
  have HW := Lib.hid hW
  have H0 := Lib.hid h0
  clear hf hr hl hW hY hJ hJx hseq h0
  refine (callsIn_wide (n := 3)).1 ?_
  refine callsIn_of_wp_marks Tryz.func222 rfl trivial ?_ rfl
  simp only [Tryz.ntmps222, List.size_toArray, List.length_cons, List.length_nil, Nat.reduceAdd, Nat.reduceSub, Array.replicate_succ, Array.replicate_zero, List.push_toArray, List.append_toArray, List.nil_append, List.cons_append]
  have hf2 : (W.alloc (.cells #[.func (.yield l) #[] #[]] 124)).cell? ⟨Bf, 0, none⟩ = some (.func (.func gf) #[] lb) := ((bal1 W _).cell (p := ⟨Bf, 0, none⟩) (show Bf < W.heap.size by omega)).trans hf'
  gi_wp2
  clear hf2 hf'
  have QY := al1 W (.cells #[.func (.yield l) #[] #[]] 124)
  have hBW := bal1 W (.cells #[.func (.yield l) #[] #[]] 124)
  have hsz : (W.alloc (.cells #[.func (.yield l) #[] #[]] 124)).heap.size = W.heap.size + 1 := by simp
  have H1 := Lib.hid (HJ.out.alloc (.cells #[.func (.yield l) #[] #[]] 124) H0.out)
  generalize W.alloc (.cells #[.func (.yield l) #[] #[]] 124) = W0 at *
  refine rangeL (gf := gf) (lb := lb) rfl eg HSQ.out (bstep HW.out hBW) (by omega) (fun _ => rfl)
    (fun pre V => J (keysOfS pre) V ∧ V.heap[W.heap.size]? = some (.cells #[.func (.yield l) #[] #[]] 124 (0, 0)) ∧ Below n₀ W V)
    (fun c pre V => c = .ret ∧ ∃ q, q <+: keysOfS zs ∧ Jx q V)
    (fun s A B row hs hg hr => ⟨HJ.out _ A B row hs.1 hg (fun r e => ⟨by have := (hr r e).1; omega, (hr r e).2⟩), by
      refine (hg.block _ (Array.getElem?_eq_some_iff.1 hs.2.1).1 (fun e => ?_)).trans hs.2.1
      have := (hr _ e.symm).1
      omega, ownFrom_below (β := Unit) hnW (show n₀ ≤ W0.heap.size by omega) () A B row hs.2.2 hg hr⟩)
    (fun c s A B row hs hg hr => by
      obtain ⟨h1, q, h2, h3⟩ := hs
      exact ⟨h1, q, h2, HJx.out _ A B row h3 hg (fun r e => ⟨by have := (hr r e).1; omega, (hr r e).2⟩)⟩)
    ⟨H1.out, QY, hBW.mono hnW⟩
    (fun x a' _ => a' = { tmps := #[.func (.yield l) #[] #[], .pointer (some ⟨Bf, 0, none⟩), .pointer (some ⟨W.heap.size, 0, none⟩), undef, .slice x.A x.ks.length x.c, undef, undef, .func (.func gf) #[] lb, .int .i64 (x.i : Int), .slice x.A x.ks.length x.c, undef, undef, undef, undef, undef, undef, undef, undef, undef, undef, undef], defers := [] })
    (fun x a' => fun _ _ _ _ hs _ _ => hs)
    ?assign ?body ?done ?stop
  case assign =>
    intro l' pre x V K hpx hi hK
    simp only [encS]
    gi_wp2
    exact hK _ _ (Only.refl _ _) hi rfl
  case body =>
    rintro l' pre x a' V hpx ⟨hj, hbox, hB⟩ rfl
    have hx : x ∈ zs := by
      obtain ⟨t, rfl⟩ := hpx
      simp
    have HRx := Lib.hid (HR.out x hx)
    have hlx := HL.out x hx
    have HP := Lib.hid hpx
    have HB := Lib.hid hB
    have HQ := Lib.hid hbox
    have HJ0 := Lib.hid hj
    have hzV := hB.size
    clear hpx hj hbox hB hx
    gi_wp2
    gi_loopw [12] (fun i wr => ∃ k : Nat, k ≤ x.ks.length ∧ i = .int .i64 k ∧ Hid (J (keysOfS pre ++ x.ks.take k) wr) ∧ Hid (Kept E n₀ W.heap.size V wr)) (fun i _ => x.ks.length - (intOf i).toNat)
    case atStart => exact ⟨0, Nat.zero_le _, rfl, Lib.hid (by rw [List.take_zero, List.append_nil]; exact HJ0.out), Lib.hid (Kept.refl _ _ _ _)⟩
    case round =>
      obtain ⟨k, hk, rfl, HK, HO⟩ := hrel
      have hzo := HO.out.size
      by_cases hlt : k < x.ks.length
      · have hbw := HB.out.trans (only_below HO.out (Nat.le_trans hnW hzV))
        obtain ⟨b, off, hA, hbb, hc⟩ := (HRx.out wr hbw).keys hlt
        obtain ⟨c0, c1, c2, c3, c4⟩ := hc k hlt
        have qy := HO.out.box HQ.out (Nat.le_refl _) (hE _)
        obtain ⟨z0, z1⟩ := box1N (box_on qy (bal1 wr (.cells #[.int .i64 (x.ks[k]).a, .int .i64 (x.ks[k]).b, .int .i64 (x.ks[k]).c, .int .i64 (x.ks[k]).d, .int .i64 (x.ks[k]).e] 58)))
        obtain ⟨fn, tmps, assign, body, hy, hR⟩ := HY.out _ x.ks[k] (wr.alloc (.cells #[.int .i64 (x.ks[k]).a, .int .i64 (x.ks[k]).b, .int .i64 (x.ks[k]).c, .int .i64 (x.ks[k]).d, .int .i64 (x.ks[k]).e] 58)) (key_pre HP.out hlt) (HJ.out.alloc _ HK.out)
        unfold KeyD.v keyV at hy
        have HRo := Lib.hid hR
        have HT : Hid (keysOfS pre ++ x.ks.take (k + 1) = (keysOfS pre ++ x.ks.take k) ++ [x.ks[k]]) := Lib.hid (by rw [List.take_succ_eq_append_getElem hlt, List.append_assoc])
        have i2 : (k : Int) < (x.ks.length : Int) := by omega
        have i3 : (0 : Int) ≤ (k : Int) := by omega
        clear hc hR hbw qy
        rw [hA] at *
        gi_wp2
        refine RoundIn.mono (round_in (HRo.out _)) ?_
        rintro e W3 (⟨rfl, hJ3, ho3⟩ | ⟨rfl, hJx3, ho3⟩)
        · have HO3 := Lib.hid ((HO.out.trans (Kept.of_below (bal1 _ _) _ _ _)).trans ho3)
          have HJ3 := Lib.hid hJ3
          clear hJ3 ho3 c0 c1 c2 c3 c4 z0 z1 hy
          gi_wp2
          go_roundw
          case rel => exact ⟨k + 1, by omega, by go_num, Lib.hid (by rw [HT.out]; exact HJ3.out), HO3⟩
          case measure => simp [intOf]; omega
        · have HO3 := Lib.hid (((HO.out.trans (Kept.of_below (bal1 _ _) _ _ _)).mono (Nat.zero_le _) (Nat.le_refl _)).trans ho3)
          have HJ3 := Lib.hid hJx3
          clear hJx3 ho3 c0 c1 c2 c3 c4 z0 z1 hy
          gi_wp2
          exact ⟨HO3.out.mono (Nat.le_refl _) (by omega), rfl, _, key_pre HP.out hlt, HJ3.out⟩
      · have e : k = x.ks.length := by omega
        subst e
        have hK2 := HK.out
        rw [List.take_length, ← keysOfS_snoc] at hK2
        have HK2 := Lib.hid hK2
        clear hK2
        gi_wp2
        exact ⟨HO.out.mono (Nat.le_refl _) (by omega), HK2.out, HO.out.box HQ.out (Nat.le_refl _) (hE _), HB.out.trans (only_below HO.out (Nat.le_trans hnW hzV))⟩
  case done =>
    rintro D V hD ⟨hj, _, _⟩ hK
    gi_wp2
    refine ⟨by simp, .inl ⟨_, _, rfl, run_takeDeferred hK, ?_⟩⟩
    refine ⟨_, results_none rfl _ _ _, ⟨_, rfl⟩, .inl (HJ.out.putObj _ hj (by omega) hK rfl)⟩
  case stop =>
    rintro D c pre V hD _ ⟨rfl, q, hq, hj⟩ hK
    gi_wp2
    refine ⟨by simp, .inl ⟨_, _, rfl, run_takeDeferred hK, ?_⟩⟩
    refine ⟨_, results_none rfl _ _ _, ⟨_, rfl⟩, .inr ⟨q, hq, HJx.out.putObj _ hj (by omega) hK rfl⟩⟩
end Go.Proofs.YtpfepcjbhchpcaaGreat
namespace Go.Proofs.YtpfepcjbhchpcaaGreat
open Go.RowKit
set_option maxRecDepth 100000
set_option linter.unusedSimpArgs false
set_option linter.unusedVariables false

/-- LessKey as a value. -/
def lessV : Value := .func (.func 244) #[] #[]
theorem store_less (a : Addr) (m : Mode) (w : World) : (store a (.func (.func 244) #[] #[]) m).run Tryz.prog w = stored Tryz.prog w a (.func (.func 244) #[] #[]) m := run_store _ w a _ m rfl
theorem keySet_any (A : Option Addr) (n c : Nat) (w : World) : Calls Tryz.prog 227 #[.slice A n c] w fun e w' => e = .returned (.agg #[.slice A n c, lessV]) ∧ Below w.heap.size w w' := by
  have hst := store_less
  go_enter Tryz.func227, Tryz.ntmps227
  go_wp2
  exact bodyPost_ret (v := .agg #[.slice A n c, lessV]) (by simp [results, Tryz.results227, go_sem, lessV]) rfl ⟨rfl, bal1 _ _⟩
theorem lessI (x y : KeyD) (w : World) : Calls Tryz.prog 244 #[x.v, y.v] w (SaysBool w (lessK x y)) := implLessKey_any _ _ _ _ _ _ _ _ _ _ w
set_option maxHeartbeats 1000000 in
theorem same_any (A : Option Addr) (n c : Nat) (x y : KeyD) (w : World) : Calls Tryz.prog 246 #[.agg #[.slice A n c, lessV], x.v, y.v] w (SaysBool w (spotK x y)) := by
  rw [spot_less]
  have HT := Lib.hid lessI
  unfold KeyD.v keyV at HT
  unfold KeyD.v keyV lessV
  obtain ⟨q0, q1, q2⟩ := al3 w (.cells #[.slice A n c, .func (.func 244) #[] #[]] 229) (.cells #[.int .i64 x.a, .int .i64 x.b, .int .i64 x.c, .int .i64 x.d, .int .i64 x.e] 58) (.cells #[.int .i64 y.a, .int .i64 y.b, .int .i64 y.c, .int .i64 y.d, .int .i64 y.e] 58)
  have HB := Lib.hid (bal3 w (.cells #[.slice A n c, .func (.func 244) #[] #[]] 229) (.cells #[.int .i64 x.a, .int .i64 x.b, .int .i64 x.c, .int .i64 x.d, .int .i64 x.e] 58) (.cells #[.int .i64 y.a, .int .i64 y.b, .int .i64 y.c, .int .i64 y.d, .int .i64 y.e] 58))
  have Q0 := Lib.hid q0
  have Q1 := Lib.hid q1
  have Q2 := Lib.hid q2
  clear q0 q1 q2
  obtain ⟨X, hX⟩ : ∃ X, lessK x y = X := ⟨_, rfl⟩
  obtain ⟨Y, hY⟩ : ∃ Y, lessK y x = Y := ⟨_, rfl⟩
  rw [hX, hY]
  have HX := Lib.hid hX
  have HY := Lib.hid hY
  clear hX hY
  cases X
  · cases Y
    all_goals
      go_enter Tryz.func246, Tryz.ntmps246
      go_wp2_with fail
      refine (HT.out _ _ _).mono ?_
      rintro r w1 ⟨rfl, b1⟩
      rw [HX.out]
      have B1 := Lib.hid (bstep HB.out b1)
      obtain ⟨x0, x1, x2⟩ := box2 (box_on Q0.out b1)
      obtain ⟨y0, y1, y2, y3, y4, y5⟩ := box5 (box_on Q1.out b1)
      obtain ⟨z0, z1, z2, z3, z4, z5⟩ := box5 (box_on Q2.out b1)
      clear b1
      go_wp2_with fail
      refine (HT.out _ _ _).mono ?_
      rintro r w2 ⟨rfl, b2⟩
      rw [HY.out]
      have B2 := Lib.hid (bstep B1.out b2)
      clear x0 x1 x2 y0 y1 y2 y3 y4 y5 z0 z1 z2 z3 z4 z5 b2
      go_wp2
      go_ret
      exact ⟨rfl, B2.out⟩
  · go_enter Tryz.func246, Tryz.ntmps246
    go_wp2_with fail
    refine (HT.out _ _ _).mono ?_
    rintro r w1 ⟨rfl, b1⟩
    rw [HX.out]
    have B1 := Lib.hid (bstep HB.out b1)
    clear b1
    go_wp2
    go_ret
    exact ⟨rfl, B1.out⟩
theorem rise_snoc {l : List KeyD} {j : Nat} (hlt : j + 1 < l.length) (h : ∀ i (h : i < j) (h2 : i + 1 < l.length), lessK l[i] l[i + 1] = true) (h2 : lessK l[j] l[j + 1] = true) : ∀ i (h : i < j + 1) (h2 : i + 1 < l.length), lessK l[i] l[i + 1] = true := by
  intro i hi h4
  by_cases h3 : i < j
  · exact h i h3 h4
  · have : i = j := by omega
    subst this
    exact h2
set_option maxHeartbeats 1000000 in
theorem ascending_any (v : Value) (l : List KeyD) (w : World) (hv : Reads w w.heap.size v (keysD l)) (hn : l.length ≤ 2097152) : Calls Tryz.prog 242 #[.agg #[v, lessV]] w (SaysBool w (riseB l)) := by
  obtain ⟨A, c, rfl, _, _⟩ := hv.shapeK
  have HT := Lib.hid lessI
  unfold KeyD.v keyV at HT
  unfold lessV
  have HV := Lib.hid (hv.on (bal1 w (.cells #[.slice A l.length c, .func (.func 244) #[] #[]] 229)))
  have Q0 := Lib.hid (al1 w (.cells #[.slice A l.length c, .func (.func 244) #[] #[]] 229))
  have HB := Lib.hid (bal1 w (.cells #[.slice A l.length c, .func (.func 244) #[] #[]] 229))
  clear hv
  go_enter Tryz.func242, Tryz.ntmps242
  go_wp2
  generalize w.alloc (.cells #[.slice A l.length c, .func (.func 244) #[] #[]] 229) = W at *
  go_loopw [3] (fun i wr => ∃ j : Nat, (j < l.length ∨ j = 0) ∧ i = .int .i64 ((j : Int) + 1) ∧ Hid (∀ i (h : i < j) (h2 : i + 1 < l.length), lessK l[i] l[i + 1] = true) ∧ Hid (Below W.heap.size W wr)) (fun i _ => l.length - (intOf i).toNat)
  case atStart => exact ⟨0, .inr rfl, rfl, Lib.hid (fun i h => by omega), Lib.hid (Below.refl _ _)⟩
  case round =>
    obtain ⟨j, hj, rfl, HI, HW⟩ := hrel
    obtain ⟨x0, x1, x2⟩ := box2 (box_on Q0.out HW.out)
    by_cases hlt : j + 1 < l.length
    · obtain ⟨b, off, rfl, hbb, hc⟩ := (HV.out.on HW.out).keys hlt
      have F := Lib.hid (hc j (by omega))
      have F' := Lib.hid (hc (j + 1) hlt)
      have i1 : (j : Int) + 1 < (l.length : Int) := by omega
      have i2 : (0 : Int) ≤ (j : Int) + 1 := by omega
      have i3 : IntKind.i64.wrap ((j : Int) + 1 - 1) = (j : Int) := by rw [IntKind.wrap_i64]; omega
      have i7 : IntKind.i64.wrap (j : Int) = (j : Int) := by rw [IntKind.wrap_i64]; omega
      have i4 : (j : Int) < (l.length : Int) := by omega
      have i5 : (0 : Int) ≤ (j : Int) := by omega
      have i6 : ((j : Int) + 1).toNat = j + 1 := by omega
      have HP := Lib.hid (box_on Q0.out HW.out)
      clear hc
      obtain ⟨c0, c1, c2, c3, c4⟩ := F.out
      obtain ⟨d0, d1, d2, d3, d4⟩ := F'.out
      cases hless : lessK l[j] l[j + 1]
      all_goals
        have HL := Lib.hid hless
        clear hless
        go_wp2
        go_region_held3 (fun W => W.cell? ⟨w.heap.size, 0, none⟩ = some (.slice (some ⟨b, off, none⟩) l.length c) ∧ W.cell? ⟨w.heap.size, 1, none⟩ = some (.func (.func 244) #[] #[]) ∧ W.cell? ⟨b, off + j * 5, none⟩ = some (.int .i64 (l[j]).a) ∧ W.cell? ⟨b, off + j * 5 + 1, none⟩ = some (.int .i64 (l[j]).b) ∧ W.cell? ⟨b, off + j * 5 + 2, none⟩ = some (.int .i64 (l[j]).c) ∧ W.cell? ⟨b, off + j * 5 + 3, none⟩ = some (.int .i64 (l[j]).d) ∧ W.cell? ⟨b, off + j * 5 + 4, none⟩ = some (.int .i64 (l[j]).e) ∧ W.cell? ⟨b, off + (j + 1) * 5, none⟩ = some (.int .i64 (l[j + 1]).a) ∧ W.cell? ⟨b, off + (j + 1) * 5 + 1, none⟩ = some (.int .i64 (l[j + 1]).b) ∧ W.cell? ⟨b, off + (j + 1) * 5 + 2, none⟩ = some (.int .i64 (l[j + 1]).c) ∧ W.cell? ⟨b, off + (j + 1) * 5 + 3, none⟩ = some (.int .i64 (l[j + 1]).d) ∧ W.cell? ⟨b, off + (j + 1) * 5 + 4, none⟩ = some (.int .i64 (l[j + 1]).e))
          (first | with_reducible exact ⟨(box2 (box_on HP.out B8)).1, (box2 (box_on HP.out B8)).2.1, (F.out.on hbb B8).and (F'.out.on hbb B8)⟩ | with_reducible exact ⟨(box2 (box_on HP.out (Below.drew1 _))).1, (box2 (box_on HP.out (Below.drew1 _))).2.1, (F.out.on hbb (Below.drew1 _)).and (F'.out.on hbb (Below.drew1 _))⟩ | exact ⟨x0, x1, F.out.and F'.out⟩ | fail)
          (first
            | (go_at_call 244; refine (HT.out _ _ _).mono ?_; rintro r w8 ⟨rfl, b8⟩; rw [HL.out]; have B8 := bstep (Below.drew1 _) b8)
            | fail)
        all_goals
          have BC := Lib.hid (HW.out.trans (B8.mono HW.out.size))
          clear B8 b8 c0 c1 c2 c3 c4 d0 d1 d2 d3 d4 x0 x1 x2
          go_wp2
          first
            | go_ret
              refine ⟨ret_boolB ?_, bstep HB.out BC.out⟩
              symm
              refine decide_eq_false (fun h => ?_)
              have h2 := h j (by omega)
              rw [HL.out] at h2
              cases h2
            | go_roundw
              case rel => exact ⟨j + 1, .inl hlt, by go_num, Lib.hid (rise_snoc hlt HI.out HL.out), BC⟩
              case measure => simp [intOf]; omega
    · have i2 : ¬ (j : Int) + 1 < (l.length : Int) := by omega
      go_wp2
      go_ret
      refine ⟨ret_boolB ?_, bstep HB.out HW.out⟩
      symm
      exact decide_eq_true (fun i h => HI.out i (by omega) (by omega))
end Go.Proofs.YtpfepcjbhchpcaaGreat
namespace Go.Proofs.YtpfepcjbhchpcaaGreat
open Go.RowKit
set_option maxRecDepth 100000
set_option linter.unusedSimpArgs false
set_option linter.unusedVariables false

def zK : KeyD := ⟨0, 0, 0, 0, 0⟩
def SaysFind (w : World) (o : Option KeyD) (e : Ending) (w' : World) : Prop := e = .returned (.tuple #[(o.getD zK).v, .bool o.isSome]) ∧ Below w.heap.size w w'
theorem find_step {l : List KeyD} {k : Nat} {p : KeyD → Bool} (h : k < l.length) (hp : p l[k] = false) (hf : (l.drop k).find? p = l.find? p) : (l.drop (k + 1)).find? p = l.find? p := by
  rw [drop_at h, List.find?_cons, hp] at hf
  exact hf
theorem find_hit {l : List KeyD} {k : Nat} {p : KeyD → Bool} (h : k < l.length) (hp : p l[k] = true) (hf : (l.drop k).find? p = l.find? p) : l.find? p = some l[k] := by
  rw [drop_at h, List.find?_cons, hp] at hf
  exact hf.symm
theorem b5' {B : Nat} {w w1 : World} {g : Nat} {u1 u2 u3 u4 u5 : Value} (h : Below B w w1) (hg : B ≤ g) : Below B w (((((w1.setCell ⟨g, 0, none⟩ u1).setCell ⟨g, 1, none⟩ u2).setCell ⟨g, 2, none⟩ u3).setCell ⟨g, 3, none⟩ u4).setCell ⟨g, 4, none⟩ u5) :=
  ((((h.setCell (p := ⟨g, 0, none⟩) hg _).setCell (p := ⟨g, 1, none⟩) hg _).setCell (p := ⟨g, 2, none⟩) hg _).setCell (p := ⟨g, 3, none⟩) hg _).setCell (p := ⟨g, 4, none⟩) hg _
end Go.Proofs.YtpfepcjbhchpcaaGreat
namespace Go.Proofs.YtpfepcjbhchpcaaGreat
open Go.RowKit Go.Shelf
set_option maxRecDepth 100000
set_option linter.unusedSimpArgs false
set_option linter.unusedVariables false
attribute [local go_sem] Oper.semAt_some

theorem list_of {α : Type} {P : Nat → α → Prop} : ∀ n, (∀ k, k < n → ∃ z, P k z) → ∃ zs : List α, zs.length = n ∧ ∀ k (h : k < zs.length), P k zs[k] := by
  intro n
  induction n with
  | zero => intro _; exact ⟨[], rfl, fun k h => by simp at h⟩
  | succ n ih =>
    intro h
    obtain ⟨zs, h1, h2⟩ := ih (fun k hk => h k (by omega))
    obtain ⟨z, hz⟩ := h n (by omega)
    refine ⟨zs ++ [z], by simp [h1], fun k hk => ?_⟩
    by_cases hlt : k < zs.length
    · rw [List.getElem_append_left hlt]; exact h2 k hlt
    · simp only [List.length_append, List.length_singleton] at hk
      have e : k = zs.length := by omega
      subst e
      rw [List.getElem_append_right (Nat.le_refl _)]
      simp only [Nat.sub_self, List.getElem_singleton]
      rw [h1]
      exact hz
theorem sets_sv {w : World} {A : Option Addr} {c : Nat} {ns : List (List KeyD)} (h : Reads w w.heap.size (.slice A ns.length c) (setsD ns)) :
    ∃ zs : List SV, zs.length = ns.length ∧ zs.map SV.ks = ns ∧ SetsAt w w.heap.size A zs ∧ ∀ z ∈ zs, Reads w w.heap.size (.slice z.A z.ks.length z.c) (keysD z.ks) := by
  by_cases h0 : 0 < ns.length
  · obtain ⟨b, off, rfl, hb, hc⟩ := h.set h0
    obtain ⟨zs, hl, hz⟩ := list_of (α := SV) (P := fun k z => ∃ hk : k < ns.length, z.i = k ∧ z.ks = ns[k] ∧ w.cell? ⟨b, off + k, none⟩ = some (.slice z.A z.ks.length z.c) ∧ Reads w w.heap.size (.slice z.A z.ks.length z.c) (keysD z.ks)) ns.length (fun k hk => by
      obtain ⟨A2, c2, h1, _, _, h2⟩ := hc k hk
      exact ⟨⟨k, A2, c2, ns[k]⟩, hk, rfl, rfl, h1, h2⟩)
    refine ⟨zs, hl, ?_, ⟨fun k hk => (hz k hk).2.1, .inr ⟨b, off, rfl, hb, fun k hk => (hz k hk).2.2.2.1⟩⟩, fun z hm => ?_⟩
    · refine List.ext_getElem (by simp [hl]) (fun k h1 h2 => ?_)
      rw [List.getElem_map]
      exact (hz k (by simpa using h1)).2.2.1
    · obtain ⟨k, hk, rfl⟩ := List.getElem_of_mem hm
      exact (hz k hk).2.2.2.2
  · have : ns = [] := List.length_eq_zero_iff.1 (by omega)
    subst this
    exact ⟨[], rfl, rfl, ⟨fun k hk => by simp at hk, .inl rfl⟩, fun z hz => by simp at hz⟩
theorem keysOfS_map (zs : List SV) : keysOfS zs = (zs.map SV.ks).flatten := by simp [keysOfS, List.flatMap_def]
theorem cellsN {W W' : World} {row : Option Nat} (hg : W.grownBy W' row) (hr : ∀ r, row = some r → ∃ o : Obj, W.heap[r]? = some o ∧ o.isCells = false) {b : Nat} {cur : Array Value} {e : TypeId} (h : W.heap[b]? = some (.cells cur e (0, 0))) : W'.heap[b]? = some (.cells cur e (0, 0)) := by
  refine (hg.block b (Array.getElem?_eq_some_iff.1 h).1 (fun he => ?_)).trans h
  obtain ⟨o, h1, h2⟩ := hr b he.symm
  rw [h] at h1
  cases h1
  cases h2
theorem find_pre {K pre : List KeyD} {x : KeyD} {p : KeyD → Bool} (h : pre ++ [x] <+: K) (h1 : ∀ y ∈ pre, p y = false) (h2 : p x = true) : K.find? p = some x := by
  obtain ⟨t, rfl⟩ := h
  rw [List.append_assoc, List.find?_append, List.find?_eq_none.2 (fun y hy => by simp [h1 y hy])]
  simp [List.find?_cons, h2]
theorem find_no {K : List KeyD} {p : KeyD → Bool} (h1 : ∀ y ∈ K, p y = false) : K.find? p = none := List.find?_eq_none.2 (fun y hy => by simp [h1 y hy])
theorem sumN_sv {zs : List SV} {ns : List (List KeyD)} (h : zs.map SV.ks = ns) {z : SV} (hz : z ∈ zs) : z.ks.length ≤ sumN ns := sumN_mem (by rw [← h]; exact List.mem_map_of_mem hz)
/-- The world behind a key's store into block g and a bool's into block h. -/
abbrev st6 (w : World) (g h : Nat) (u1 u2 u3 u4 u5 u6 : Value) : World := (((((w.setCell ⟨g, 0, none⟩ u1).setCell ⟨g, 1, none⟩ u2).setCell ⟨g, 2, none⟩ u3).setCell ⟨g, 3, none⟩ u4).setCell ⟨g, 4, none⟩ u5).setCell ⟨h, 0, none⟩ u6
theorem only6 {S : Nat → Prop} {w w1 : World} {g h : Nat} {u1 u2 u3 u4 u5 u6 : Value} (hO : Only S w w1) (hg : S g) (hh : S h) : Only S w (st6 w1 g h u1 u2 u3 u4 u5 u6) :=
  (((((hO.setCell hg _).setCell hg _).setCell hg _).setCell hg _).setCell hg _).setCell hh _
theorem box6 {w : World} {g h : Nat} {a b c d e f : Value} {t t2 : TypeId} (h1 : w.heap[g]? = some (.cells #[a, b, c, d, e] t (0, 0))) (h2 : w.heap[h]? = some (.cells #[f] t2 (0, 0))) (hne : g ≠ h) (u1 u2 u3 u4 u5 u6 : Value) :
    (st6 w g h u1 u2 u3 u4 u5 u6).heap[g]? = some (.cells #[u1, u2, u3, u4, u5] t (0, 0)) ∧ (st6 w g h u1 u2 u3 u4 u5 u6).heap[h]? = some (.cells #[u6] t2 (0, 0)) := by
  have far : ∀ (W : World) (j : Nat) (u : Value), (W.setCell ⟨g, j, none⟩ u).heap[h]? = W.heap[h]? := fun W j u => Below.heap_setCell _ _ _ _ (by simp; omega)
  refine ⟨(Below.heap_setCell _ _ _ _ (by simp; omega)).trans (box_set (box_set (box_set (box_set (box_set h1))))), box_set (cs := #[f]) ?_⟩
  rw [far, far, far, far, far]
  exact h2
theorem below6 {w w1 : World} {g h : Nat} {u1 u2 u3 u4 u5 u6 : Value} (hO : Below w.heap.size w w1) (hg : w.heap.size ≤ g) (hh : w.heap.size ≤ h) : Below w.heap.size w (st6 w1 g h u1 u2 u3 u4 u5 u6) := (b5' hO hg).setCell (p := ⟨h, 0, none⟩) hh _
theorem SetsAt.mono {W : World} {n₀ n₁ : Nat} {A : Option Addr} {zs : List SV} (h : SetsAt W n₀ A zs) (hn : n₀ ≤ n₁) : SetsAt W n₁ A zs := by
  obtain ⟨h1, h | ⟨b, off, h2, h3, h4⟩⟩ := h
  · exact ⟨h1, .inl h⟩
  · exact ⟨h1, .inr ⟨b, off, h2, by omega, h4⟩⟩
set_option maxHeartbeats 4000000 in
theorem implNodeAt_any (v : Value) (ns : List (List KeyD)) (p q : Int) (w : World) (hv : Reads w w.heap.size v (setsD ns)) (hs : SmallN ns) : Calls Tryz.prog 210 #[.agg #[v], .int .i64 p, .int .i64 q] w (SaysFind w (nodeAtK ns p q)) := by
  obtain ⟨A, c, rfl, _, _⟩ := hv.lenN
  obtain ⟨zs, hzl, hzm, hzs, hzr⟩ := sets_sv hv
  have hF : nodeAtK ns p q = pickO ((keysOfS zs.reverse).find? (fun x => spotB x.a x.b p q)) := by
    rw [nodeAtK, atRev_find, keysOfS_map, List.map_reverse, hzm]
  obtain ⟨F, hFF⟩ : ∃ F, nodeAtK ns p q = F := ⟨_, rfl⟩
  rw [hFF] at hF ⊢
  have HF1 : Hid (∀ x, (keysOfS zs.reverse).find? (fun x => spotB x.a x.b p q) = some x → F = if x.c = 0 then none else some x) := Lib.hid (fun x hx => by rw [hx] at hF; exact hF)
  have HF0 : Hid ((keysOfS zs.reverse).find? (fun x => spotB x.a x.b p q) = none → F = none) := Lib.hid (fun hx => by rw [hx] at hF; exact hF)
  have HL : Hid (∀ z ∈ zs.reverse, z.ks.length ≤ 1100000) := Lib.hid (fun z hz => Nat.le_trans (sumN_sv hzm (List.mem_reverse.1 hz)) hs.2)
  have hn : zs.length ≤ 1100000 := by rw [hzl]; exact hs.1
  have HSp := Lib.hid implSameSpot_any
  unfold keyV at HSp
  unfold SaysFind KeyD.v keyV
  rw [← hzl] at *
  have B0 := bal3 w (.cells #[.slice A zs.length c] 97) (.cells #[.int .i64 0, .int .i64 0, .int .i64 0, .int .i64 0, .int .i64 0] 58) (.cells #[.bool false] 4)
  obtain ⟨q0, q1, q2⟩ := al3 w (.cells #[.slice A zs.length c] 97) (.cells #[.int .i64 0, .int .i64 0, .int .i64 0, .int .i64 0, .int .i64 0] 58) (.cells #[.bool false] 4)
  have HZ : Hid ((((w.alloc (.cells #[.slice A zs.length c] 97)).alloc (.cells #[.int .i64 0, .int .i64 0, .int .i64 0, .int .i64 0, .int .i64 0] 58)).alloc (.cells #[.bool false] 4)).heap.size = w.heap.size + 3) := Lib.hid (by simp)
  have HB := Lib.hid B0
  have Q0 := Lib.hid q0
  have Q1 := Lib.hid q1
  have Q2 := Lib.hid q2
  have HZS := Lib.hid hzs
  have HZR := Lib.hid hzr
  clear hF hFF hzs hzr hv hs B0 q0 q1 q2 hzm
  refine (callsIn_wide (n := 3)).1 ?_
  refine callsIn_of_wp_marks Tryz.func210 rfl trivial ?_ rfl
  simp only [Tryz.ntmps210, List.size_toArray, List.length_cons, List.length_nil, Nat.reduceAdd, Nat.reduceSub, Array.replicate_succ, Array.replicate_zero, List.push_toArray, List.append_toArray, List.nil_append, List.cons_append]
  gi_wp2_with fail
  refine ⟨trivial, (callsIn_wide.2 (backF_any _ _ _ _)).mono ?_⟩
  rintro r w1 ⟨rfl, rfl⟩
  gi_wp2_with fail
  refine ⟨trivial, (callsIn_wide.2 (layered_any _ _ _)).mono ?_⟩
  rintro r w2 ⟨rfl, rfl⟩
  gi_wp2_with fail
  obtain ⟨r0, r1, r2⟩ := al3 (((w.alloc (.cells #[.slice A zs.length c] 97)).alloc (.cells #[.int .i64 0, .int .i64 0, .int .i64 0, .int .i64 0, .int .i64 0] 58)).alloc (.cells #[.bool false] 4)) (.cells #[.int .i64 p, .int .i64 q, .int .i64 0, .int .i64 0, .int .i64 0] 58) (.cells #[.slice A zs.length c] 95) (.cells #[.func (.func 249) #[] #[.pointer (some ⟨w.heap.size + 1 + 1 + 1 + 1, 0, none⟩)]] 199)
  have hb3 := bal3 (((w.alloc (.cells #[.slice A zs.length c] 97)).alloc (.cells #[.int .i64 0, .int .i64 0, .int .i64 0, .int .i64 0, .int .i64 0] 58)).alloc (.cells #[.bool false] 4)) (.cells #[.int .i64 p, .int .i64 q, .int .i64 0, .int .i64 0, .int .i64 0] 58) (.cells #[.slice A zs.length c] 95) (.cells #[.func (.func 249) #[] #[.pointer (some ⟨w.heap.size + 1 + 1 + 1 + 1, 0, none⟩)]] 199)
  have hz6 : ((((((w.alloc (.cells #[.slice A zs.length c] 97)).alloc (.cells #[.int .i64 0, .int .i64 0, .int .i64 0, .int .i64 0, .int .i64 0] 58)).alloc (.cells #[.bool false] 4)).alloc (.cells #[.int .i64 p, .int .i64 q, .int .i64 0, .int .i64 0, .int .i64 0] 58)).alloc (.cells #[.slice A zs.length c] 95)).alloc (.cells #[.func (.func 249) #[] #[.pointer (some ⟨w.heap.size + 1 + 1 + 1 + 1, 0, none⟩)]] 199)).heap.size = w.heap.size + 6 := by simp
  simp only [World.size_alloc] at r0 r1 r2
  have HB6 := Lib.hid (bstep HB.out hb3)
  have P1 := Lib.hid (box_on Q1.out hb3)
  have P2 := Lib.hid (box_on Q2.out hb3)
  clear hb3 HB Q0 Q1 Q2 HZ
  generalize (((((w.alloc (.cells #[.slice A zs.length c] 97)).alloc (.cells #[.int .i64 0, .int .i64 0, .int .i64 0, .int .i64 0, .int .i64 0] 58)).alloc (.cells #[.bool false] 4)).alloc (.cells #[.int .i64 p, .int .i64 q, .int .i64 0, .int .i64 0, .int .i64 0] 58)).alloc (.cells #[.slice A zs.length c] 95)).alloc (.cells #[.func (.func 249) #[] #[.pointer (some ⟨w.heap.size + 1 + 1 + 1 + 1, 0, none⟩)]] 199) = W0 at *
  have R0 := Lib.hid r0
  have hww := HB6.out.size
  refine rangeL (E := 58) (gf := 222) (lb := #[.pointer (some ⟨w.heap.size + 1 + 1 + 1 + 1 + 1, 0, none⟩)]) rfl (enters_of Tryz.func222 (by kernel_rfl) rfl)
    (layered_seq 58 (fun _ _ h => by cases h) (w.heap.size + 1 + 1 + 1 + 1 + 1) W0.heap.size 249 #[.pointer (some ⟨w.heap.size + 1 + 1 + 1 + 1, 0, none⟩)] zs.reverse W0 (Nat.le_refl _) (by omega) (box1N r2).1 (enters_of Tryz.func249 (by kernel_rfl) rfl)
      (back_seq 58 (w.heap.size + 1 + 1 + 1 + 1) W0.heap.size A c zs hn (by omega) W0 (Nat.le_refl _) (box1N r1).1 ((HZS.out.below HB6.out).mono hww))
      (fun z hz => (HZR.out z (List.mem_reverse.1 hz)).on HB6.out) HL.out)
    (Below.refl _ _) (Nat.le_refl _) (fun _ => rfl)
    (fun pre V => Below W0.heap.size W0 V ∧ ∀ y ∈ pre, spotB y.a y.b p q = false)
    (fun cd _ V => cd = .ret ∧ V.heap[w.heap.size + 1]? = some (.cells #[.int .i64 (F.getD zK).a, .int .i64 (F.getD zK).b, .int .i64 (F.getD zK).c, .int .i64 (F.getD zK).d, .int .i64 (F.getD zK).e] 58 (0, 0)) ∧ V.heap[w.heap.size + 1 + 1]? = some (.cells #[.bool F.isSome] 4 (0, 0)) ∧ Below w.heap.size w V)
    (OwnFrom.and (ownFrom_below (Nat.le_refl _) (Nat.le_refl _)) (ownFrom_pure _ _))
    (fun cd s X Y row hs hg hr => by
      obtain ⟨h1, h2, h3, h4⟩ := hs
      have hr' : ∀ r, row = some r → ∃ o : Obj, X.heap[r]? = some o ∧ o.isCells = false := fun r e => (hr r e).2
      exact ⟨h1, cellsN hg hr' h2, cellsN hg hr' h3, ownFrom_below (β := Unit) (Nat.le_refl _) hww () X Y row h4 hg hr⟩)
    ⟨Below.refl _ _, fun y hy => by cases hy⟩
    (fun x a' V => ∃ Bx, W0.heap.size ≤ Bx ∧ V.heap[Bx]? = some (.cells #[.int .i64 x.a, .int .i64 x.b, .int .i64 x.c, .int .i64 x.d, .int .i64 x.e] 58 (0, 0)) ∧ a' = { tmps := #[.agg #[.slice A zs.length c], .int .i64 p, .int .i64 q, .pointer (some ⟨w.heap.size, 0, none⟩), undef, undef, .pointer (some ⟨w.heap.size + 1, 0, none⟩), .pointer (some ⟨w.heap.size + 1 + 1, 0, none⟩), .pointer (some ⟨w.heap.size + 1 + 1 + 1, 0, none⟩), .pointer (some ⟨Bx, 0, none⟩), .int .i64 p, .int .i64 q, .agg #[.int .i64 p, .int .i64 q, .int .i64 0, .int .i64 0, .int .i64 0], .pointer (some ⟨w.heap.size, 0, none⟩), .slice A zs.length c, .func (.func 249) #[] #[.pointer (some ⟨w.heap.size + 1 + 1 + 1 + 1, 0, none⟩)], .func (.func 222) #[] #[.pointer (some ⟨w.heap.size + 1 + 1 + 1 + 1 + 1, 0, none⟩)], .agg #[.int .i64 x.a, .int .i64 x.b, .int .i64 x.c, .int .i64 x.d, .int .i64 x.e], undef, undef, undef, undef, undef, undef, undef, undef, undef, undef], defers := [] })
    (fun x a' _ X Y row hs hg hr => by obtain ⟨Bx, h1, h2, h3⟩ := hs; exact ⟨Bx, h1, cellsN hg (fun r e => (hr r e).2) h2, h3⟩)
    ?assign ?body ?done ?stop
  case assign =>
    rintro l pre x V K hpx ⟨hB, hpre⟩ hK
    unfold KeyD.v keyV
    gi_wp2
    exact hK _ _ (only_alloc0 _ _ _) ⟨hB.alloc hB.size _, hpre⟩ ⟨V.heap.size, hB.size, al1 _ _, rfl⟩
  case body =>
    rintro l pre x a' V hpx ⟨hB, hpre⟩ ⟨Bx, hBx, qx, rfl⟩
    have HBV := Lib.hid hB
    have HPR := Lib.hid hpre
    have HPX := Lib.hid hpx
    have hzV := hB.size
    have QX := Lib.hid qx
    obtain ⟨a0, a1, a2, a3, a4, a5⟩ := box5 qx
    obtain ⟨b0, b1, b2, b3, b4, b5⟩ := box5 (box_on R0.out hB)
    clear hB hpre hpx qx
    cases hsp : spotB x.a x.b p q
    · have HSx := Lib.hid hsp
      clear hsp
      gi_wp2_with fail
      refine ⟨trivial, (CallsIn.inRound l (callsIn_wide.2 (HSp.out _ _ _ _ _ _ _ _ _ _ _))).mono ?_⟩
      rintro r w4 ⟨rfl, e4⟩
      rw [HSx.out]
      have E4 := Lib.hid e4
      clear e4 a0 a1 a2 a3 a4 a5 b0 b1 b2 b3 b4 b5
      gi_wp2
      exact ⟨Kept.of_below E4.out _ _ _, HBV.out.trans (E4.out.mono hzV), fun y hy => (List.mem_append.1 hy).elim (HPR.out y) (fun e => by simp at e; subst e; exact HSx.out)⟩
    · have HSx := Lib.hid hsp
      have hFx := HF1.out x (find_pre HPX.out HPR.out hsp)
      clear hsp
      by_cases hx0 : x.c = 0
      · have z : (x.c == 0) = true := by simp [hx0]
        rw [if_pos hx0] at hFx
        have HFx := Lib.hid hFx
        clear hFx hx0
        gi_wp2_with fail
        refine ⟨trivial, (CallsIn.inRound l (callsIn_wide.2 (HSp.out _ _ _ _ _ _ _ _ _ _ _))).mono ?_⟩
        rintro r w4 ⟨rfl, e4⟩
        rw [HSx.out]
        have E4 := Lib.hid e4
        have hz4 := e4.size
        have p1 := box_on (box_on P1.out HBV.out) e4
        have p2 := box_on (box_on P2.out HBV.out) e4
        clear a0 a1 a2 a3 a4 a5 b0 b1 b2 b3 b4 b5
        obtain ⟨a0, a1, a2, a3, a4, a5⟩ := box5 (box_on QX.out e4)
        obtain ⟨b0, b1, b2, b3, b4, b5⟩ := box5 p1
        obtain ⟨c0, c1⟩ := box1N p2
        have P1' := Lib.hid p1
        have P2' := Lib.hid p2
        clear e4 p1 p2
        gi_wp2
        obtain ⟨s1, s2⟩ := box6 P1'.out P2'.out (by omega) (.int .i64 0) (.int .i64 0) (.int .i64 0) (.int .i64 0) (.int .i64 0) (.bool false)
        refine ⟨(only6 (S := fun b => b < W0.heap.size) (Only.of_below E4.out _) (show w.heap.size + 1 < W0.heap.size by omega) (show w.heap.size + 1 + 1 < W0.heap.size by omega)).kept _ (fun b hb => ⟨Nat.zero_le _, fun h => by omega⟩), rfl, ?_, ?_, below6 (bstep (bstep HB6.out HBV.out) E4.out) (by omega) (by omega)⟩
        · rw [HFx.out]; exact s1
        · rw [HFx.out]; exact s2
      · have z : (x.c == 0) = false := by simp [hx0]
        rw [if_neg hx0] at hFx
        have HFx := Lib.hid hFx
        clear hFx hx0
        gi_wp2_with fail
        refine ⟨trivial, (CallsIn.inRound l (callsIn_wide.2 (HSp.out _ _ _ _ _ _ _ _ _ _ _))).mono ?_⟩
        rintro r w4 ⟨rfl, e4⟩
        rw [HSx.out]
        have E4 := Lib.hid e4
        have hz4 := e4.size
        have p1 := box_on (box_on P1.out HBV.out) e4
        have p2 := box_on (box_on P2.out HBV.out) e4
        clear a0 a1 a2 a3 a4 a5 b0 b1 b2 b3 b4 b5
        obtain ⟨a0, a1, a2, a3, a4, a5⟩ := box5 (box_on QX.out e4)
        obtain ⟨b0, b1, b2, b3, b4, b5⟩ := box5 p1
        obtain ⟨c0, c1⟩ := box1N p2
        have P1' := Lib.hid p1
        have P2' := Lib.hid p2
        clear e4 p1 p2
        gi_wp2
        obtain ⟨s1, s2⟩ := box6 P1'.out P2'.out (by omega) (.int .i64 x.a) (.int .i64 x.b) (.int .i64 x.c) (.int .i64 x.d) (.int .i64 x.e) (.bool true)
        refine ⟨(only6 (S := fun b => b < W0.heap.size) (Only.of_below E4.out _) (show w.heap.size + 1 < W0.heap.size by omega) (show w.heap.size + 1 + 1 < W0.heap.size by omega)).kept _ (fun b hb => ⟨Nat.zero_le _, fun h => by omega⟩), rfl, ?_, ?_, below6 (bstep (bstep HB6.out HBV.out) E4.out) (by omega) (by omega)⟩
        · rw [HFx.out]; exact s1
        · rw [HFx.out]; exact s2
  case done =>
    rintro D V hD ⟨hB, hall⟩ hK
    have HFx := Lib.hid (HF0.out (find_no hall))
    have HBV := Lib.hid hB
    have HKD := Lib.hid hK
    have hDV : D < V.heap.size := (Array.getElem?_eq_some_iff.1 hK).1
    have p1 := box_on P1.out hB
    have p2 := box_on P2.out hB
    obtain ⟨b0, b1, b2, b3, b4, b5⟩ := box5 p1
    obtain ⟨c0, c1⟩ := box1N p2
    have P1' := Lib.hid p1
    have P2' := Lib.hid p2
    clear hB hall hK p1 p2
    gi_wp2
    obtain ⟨s1, s2⟩ := box6 P1'.out P2'.out (by omega) (.int .i64 0) (.int .i64 0) (.int .i64 0) (.int .i64 0) (.int .i64 0) (.bool false)
    have hK5 : (st6 V (w.heap.size + 1) (w.heap.size + 1 + 1) (.int .i64 0) (.int .i64 0) (.int .i64 0) (.int .i64 0) (.int .i64 0) (.bool false)).heap[D]? = some (.deferred (some [])) := box_only HKD.out (only6 (S := fun b => b < W0.heap.size) (Only.refl _ _) (show w.heap.size + 1 < W0.heap.size by omega) (show w.heap.size + 1 + 1 < W0.heap.size by omega)) (by omega)
    have hb6 := below6 (u1 := .int .i64 0) (u2 := .int .i64 0) (u3 := .int .i64 0) (u4 := .int .i64 0) (u5 := .int .i64 0) (u6 := .bool false) (bstep HB6.out HBV.out) (show w.heap.size ≤ w.heap.size + 1 by omega) (show w.heap.size ≤ w.heap.size + 1 + 1 by omega)
    refine ⟨by simp, .inl ⟨_, _, rfl, run_takeDeferred hK5, ?_⟩⟩
    have hput := fun {b cur e} => cellsN (b := b) (cur := cur) (e := e) (grownBy_putObj' _ D (.deferred none)) (fun r e => by cases e; exact ⟨_, hK5, rfl⟩)
    obtain ⟨a0, a1, a2, a3, a4, a5⟩ := box5 (hput s1)
    obtain ⟨c0, c1⟩ := box1N (hput s2)
    have hFn := HFx.out
    refine ⟨.tuple #[(F.getD zK).v, .bool F.isSome], by simp [results, Tryz.results210, go_sem, keyV, KeyD.v, hFn, zK, a0, a1, a2, a3, a4, c0], rfl, hb6.trans (belowK_b (w := w) (Nat.le_refl _) _ D _ _ (by omega) hK5 rfl rfl)⟩
  case stop =>
    rintro D cd pre V hD _ ⟨rfl, h1, h2, h3⟩ hK
    gi_wp2
    refine ⟨by simp, .inl ⟨_, _, rfl, run_takeDeferred hK, ?_⟩⟩
    have hput := fun {b cur e} => cellsN (b := b) (cur := cur) (e := e) (grownBy_putObj' V D (.deferred none)) (fun r e => by cases e; exact ⟨_, hK, rfl⟩)
    obtain ⟨a0, a1, a2, a3, a4, a5⟩ := box5 (hput h1)
    obtain ⟨c0, c1⟩ := box1N (hput h2)
    refine ⟨.tuple #[(F.getD zK).v, .bool F.isSome], by simp [results, Tryz.results210, go_sem, keyV, KeyD.v, a0, a1, a2, a3, a4, c0], rfl, h3.trans (belowK_b (w := w) (Nat.le_refl _) _ D _ _ (by omega) hK rfl rfl)⟩
end Go.Proofs.YtpfepcjbhchpcaaGreat
namespace Go.Proofs.YtpfepcjbhchpcaaGreat
open Go.RowKit
set_option maxRecDepth 100000
set_option linter.unusedSimpArgs false
set_option linter.unusedVariables false

theorem okI (x : KeyD) (w : World) : Calls Tryz.prog 238 #[x.v] w (SaysBool w (okK x)) := implKeyOk_any _ _ _ _ _ w
theorem okS (x : KeyD) (w : World) : Calls Tryz.prog 91 #[x.v] w (SaysBool w (okK x)) := specKeyOk_any _ _ _ _ _ w
theorem lessS (x y : KeyD) (w : World) : Calls Tryz.prog 163 #[x.v, y.v] w (SaysBool w (lessK x y)) := specLessKey_any _ _ _ _ _ _ _ _ _ _ w
theorem all_stepK {l : List KeyD} {k : Nat} (h : k < l.length) (hp : okK l[k] = true) (hf : (l.drop k).all okK = l.all okK) : (l.drop (k + 1)).all okK = l.all okK := by
  rw [drop_at h, List.all_cons, hp] at hf
  exact hf
theorem all_missK {l : List KeyD} {k : Nat} (h : k < l.length) (hp : okK l[k] = false) (hf : (l.drop k).all okK = l.all okK) : l.all okK = false := by
  rw [drop_at h, List.all_cons, hp] at hf
  exact hf.symm
set_option maxHeartbeats 1000000 in
theorem implSetOk_any (v : Value) (l : List KeyD) (w : World) (hv : Reads w w.heap.size v (keysD l)) (hn : l.length ≤ 2097152) : Calls Tryz.prog 221 #[v] w (SaysBool w (setOkB l)) := by
  obtain ⟨A, c, rfl, _, _⟩ := hv.shapeK
  have HT := Lib.hid okI
  unfold KeyD.v keyV at HT
  have HK := Lib.hid (keySet_any A l.length c)
  have HA := Lib.hid (fun w => ascending_any (.slice A l.length c) l w)
  unfold lessV at HK HA
  obtain ⟨R, hR⟩ : ∃ R, setOkB l = R := ⟨_, rfl⟩
  rw [hR]
  have HR := Lib.hid hR
  have HV := Lib.hid hv
  clear hv hR
  by_cases h60 : l.length ≤ 60
  · have d0 : decide ((60 : Int) < (l.length : Int)) = false := decide_eq_false (by omega)
    go_enter Tryz.func221, Tryz.ntmps221
    go_wp2
    go_loopw [4, 10] (fun _ i wr => ∃ k : Nat, k ≤ l.length ∧ i = .int .i64 k ∧ Hid ((l.drop k).all okK = l.all okK) ∧ Hid (Below w.heap.size w wr)) (fun _ i _ => l.length - (intOf i).toNat)
    case atStart => exact ⟨0, Nat.zero_le _, rfl, Lib.hid rfl, Lib.hid (Below.refl _ _)⟩
    case round =>
      obtain ⟨k, hk, rfl, HI, HW⟩ := hrel
      have hzr := HW.out.size
      by_cases hlt : k < l.length
      · obtain ⟨b, off, rfl, hbb, hc⟩ := (HV.out.on HW.out).keys hlt
        have i1 : (k : Int) < (l.length : Int) := by omega
        have i2 : (0 : Int) ≤ (k : Int) := by omega
        obtain ⟨c0, c1, c2, c3, c4⟩ := hc k hlt
        have BA := Lib.hid (HW.out.trans ((bal1 wr (.cells #[.int .i64 (l[k]).a, .int .i64 (l[k]).b, .int .i64 (l[k]).c, .int .i64 (l[k]).d, .int .i64 (l[k]).e] 58)).mono hzr))
        clear hc
        cases hs : okK l[k]
        all_goals
          have HS := Lib.hid hs
          clear hs
          go_wp2_with fail
          refine (HT.out l[k] _).mono ?_
          rintro r w1 ⟨rfl, b1⟩
          rw [HS.out]
          have B1 := Lib.hid (BA.out.trans (b1.mono BA.out.size))
          clear c0 c1 c2 c3 c4 b1
          go_wp2
          first
            | go_roundw
              case rel => exact ⟨k + 1, by omega, by go_num, Lib.hid (all_stepK hlt HS.out HI.out), B1⟩
              case measure => simp [intOf]; omega
            | go_ret
              refine ⟨ret_boolB ?_, B1.out⟩
              rw [← HR.out, setOkB, all_missK hlt HS.out HI.out]
              rfl
      · have hall : l.all okK = true := by
          rw [← HI.out, List.drop_eq_nil_of_le (by omega)]
          rfl
        have HL := Lib.hid hall
        clear hall
        go_wp2_with fail
        refine (HK.out _).mono ?_
        rintro r w1 ⟨rfl, b1⟩
        have B1 := Lib.hid (HW.out.trans (b1.mono hzr))
        clear b1
        go_wp2_with fail
        refine (HA.out _ (HV.out.on B1.out) hn).mono ?_
        rintro r w2 ⟨rfl, b2⟩
        have B2 := Lib.hid (bstep B1.out b2)
        clear b2
        go_wp2
        go_ret
        refine ⟨ret_boolB ?_, B2.out⟩
        rw [← HR.out, setOkB, HL.out, decide_eq_true h60]
        simp
  · have d0 : decide ((60 : Int) < (l.length : Int)) = true := decide_eq_true (by omega)
    go_enter Tryz.func221, Tryz.ntmps221
    go_wp2
    go_ret
    refine ⟨ret_boolB ?_, Below.refl _ _⟩
    rw [← HR.out, setOkB, decide_eq_false h60]
    simp
set_option maxHeartbeats 1000000 in
theorem l4Rises_any (v : Value) (l : List KeyD) (w : World) (hv : Reads w w.heap.size v (keysD l)) (hn : l.length ≤ 2097152) : Calls Tryz.prog 235 #[v] w (SaysBool w (riseB l)) := by
  obtain ⟨A, c, rfl, _, _⟩ := hv.shapeK
  have HT := Lib.hid lessS
  unfold KeyD.v keyV at HT
  have HV := Lib.hid hv
  clear hv
  go_enter Tryz.func235, Tryz.ntmps235
  go_wp2
  go_loopw [3] (fun i wr => ∃ j : Nat, (j < l.length ∨ j = 0) ∧ i = .int .i64 ((j : Int) + 1) ∧ Hid (∀ i (h : i < j) (h2 : i + 1 < l.length), lessK l[i] l[i + 1] = true) ∧ Hid (Below w.heap.size w wr)) (fun i _ => l.length - (intOf i).toNat)
  case atStart => exact ⟨0, .inr rfl, rfl, Lib.hid (fun i h => by omega), Lib.hid (Below.refl _ _)⟩
  case round =>
    obtain ⟨j, hj, rfl, HI, HW⟩ := hrel
    by_cases hlt : j + 1 < l.length
    · obtain ⟨b, off, rfl, hbb, hc⟩ := (HV.out.on HW.out).keys hlt
      have F := Lib.hid (hc j (by omega))
      have F' := Lib.hid (hc (j + 1) hlt)
      have i1 : (j : Int) + 1 < (l.length : Int) := by omega
      have i2 : (0 : Int) ≤ (j : Int) + 1 := by omega
      have i3 : IntKind.i64.wrap ((j : Int) + 1 - 1) = (j : Int) := by rw [IntKind.wrap_i64]; omega
      have i7 : IntKind.i64.wrap (j : Int) = (j : Int) := by rw [IntKind.wrap_i64]; omega
      have i4 : (j : Int) < (l.length : Int) := by omega
      have i5 : (0 : Int) ≤ (j : Int) := by omega
      have i6 : ((j : Int) + 1).toNat = j + 1 := by omega
      clear hc
      obtain ⟨c0, c1, c2, c3, c4⟩ := F.out
      obtain ⟨d0, d1, d2, d3, d4⟩ := F'.out
      cases hless : lessK l[j] l[j + 1]
      all_goals
        have HL := Lib.hid hless
        clear hless
        go_wp2
        go_region_held3 (fun W => W.cell? ⟨b, off + j * 5, none⟩ = some (.int .i64 (l[j]).a) ∧ W.cell? ⟨b, off + j * 5 + 1, none⟩ = some (.int .i64 (l[j]).b) ∧ W.cell? ⟨b, off + j * 5 + 2, none⟩ = some (.int .i64 (l[j]).c) ∧ W.cell? ⟨b, off + j * 5 + 3, none⟩ = some (.int .i64 (l[j]).d) ∧ W.cell? ⟨b, off + j * 5 + 4, none⟩ = some (.int .i64 (l[j]).e) ∧ W.cell? ⟨b, off + (j + 1) * 5, none⟩ = some (.int .i64 (l[j + 1]).a) ∧ W.cell? ⟨b, off + (j + 1) * 5 + 1, none⟩ = some (.int .i64 (l[j + 1]).b) ∧ W.cell? ⟨b, off + (j + 1) * 5 + 2, none⟩ = some (.int .i64 (l[j + 1]).c) ∧ W.cell? ⟨b, off + (j + 1) * 5 + 3, none⟩ = some (.int .i64 (l[j + 1]).d) ∧ W.cell? ⟨b, off + (j + 1) * 5 + 4, none⟩ = some (.int .i64 (l[j + 1]).e))
          (first | with_reducible exact (F.out.on hbb B8).and (F'.out.on hbb B8) | with_reducible exact (F.out.on hbb (Below.drew1 _)).and (F'.out.on hbb (Below.drew1 _)) | exact F.out.and F'.out | fail)
          (first
            | (go_at_call 163; refine (HT.out _ _ _).mono ?_; rintro r w8 ⟨rfl, b8⟩; rw [HL.out]; have B8 := bstep (Below.drew1 _) b8)
            | fail)
        all_goals
          have BC := Lib.hid (HW.out.trans (B8.mono HW.out.size))
          clear B8 b8 c0 c1 c2 c3 c4 d0 d1 d2 d3 d4
          go_wp2
          first
            | go_ret
              refine ⟨ret_boolB ?_, BC.out⟩
              symm
              refine decide_eq_false (fun h => ?_)
              have h2 := h j (by omega)
              rw [HL.out] at h2
              cases h2
            | go_roundw
              case rel => exact ⟨j + 1, .inl hlt, by go_num, Lib.hid (rise_snoc hlt HI.out HL.out), BC⟩
              case measure => simp [intOf]; omega
    · have i2 : ¬ (j : Int) + 1 < (l.length : Int) := by omega
      go_wp2
      go_ret
      refine ⟨ret_boolB ?_, HW.out⟩
      symm
      exact decide_eq_true (fun i h => HI.out i (by omega) (by omega))
set_option maxHeartbeats 1000000 in
theorem specSetOk_any (v : Value) (l : List KeyD) (w : World) (hv : Reads w w.heap.size v (keysD l)) (hn : l.length ≤ 2097152) : Calls Tryz.prog 207 #[v] w (SaysBool w (setOkB l)) := by
  obtain ⟨A, c, rfl, _, _⟩ := hv.shapeK
  have HT := Lib.hid okS
  unfold KeyD.v keyV at HT
  have HA := Lib.hid (fun w => l4Rises_any (.slice A l.length c) l w)
  obtain ⟨R, hR⟩ : ∃ R, setOkB l = R := ⟨_, rfl⟩
  rw [hR]
  have HR := Lib.hid hR
  have HV := Lib.hid hv
  clear hv hR
  go_enter Tryz.func207, Tryz.ntmps207
  go_wp2
  go_loopw [3] (fun i wr => ∃ k : Nat, k ≤ l.length ∧ i = .int .i64 k ∧ Hid ((l.drop k).all okK = l.all okK) ∧ Hid (Below w.heap.size w wr)) (fun i _ => l.length - (intOf i).toNat)
  case atStart => exact ⟨0, Nat.zero_le _, rfl, Lib.hid rfl, Lib.hid (Below.refl _ _)⟩
  case round =>
    obtain ⟨k, hk, rfl, HI, HW⟩ := hrel
    have hzr := HW.out.size
    by_cases hlt : k < l.length
    · obtain ⟨b, off, rfl, hbb, hc⟩ := (HV.out.on HW.out).keys hlt
      have i1 : (k : Int) < (l.length : Int) := by omega
      have i2 : (0 : Int) ≤ (k : Int) := by omega
      obtain ⟨c0, c1, c2, c3, c4⟩ := hc k hlt
      clear hc
      cases hs : okK l[k]
      all_goals
        have HS := Lib.hid hs
        clear hs
        go_wp2_with fail
        refine (HT.out l[k] _).mono ?_
        rintro r w1 ⟨rfl, b1⟩
        rw [HS.out]
        have B1 := Lib.hid (HW.out.trans (b1.mono HW.out.size))
        clear c0 c1 c2 c3 c4 b1
        go_wp2
        first
          | go_roundw
            case rel => exact ⟨k + 1, by omega, by go_num, Lib.hid (all_stepK hlt HS.out HI.out), B1⟩
            case measure => simp [intOf]; omega
          | go_ret
            refine ⟨ret_boolB ?_, B1.out⟩
            rw [← HR.out, setOkB, all_missK hlt HS.out HI.out]
            rfl
    · have hall : l.all okK = true := by
        rw [← HI.out, List.drop_eq_nil_of_le (by omega)]
        rfl
      have HL := Lib.hid hall
      clear hall
      cases hri : riseB l
      all_goals
        have HRI := Lib.hid hri
        clear hri
        go_wp2_with fail
        refine (HA.out _ (HV.out.on HW.out) hn).mono ?_
        rintro r w2 ⟨rfl, b2⟩
        rw [HRI.out]
        have B2 := Lib.hid (bstep HW.out b2)
        clear b2
        go_wp2
        go_ret
        refine ⟨ret_boolB ?_, B2.out⟩
        rw [← HR.out, setOkB, HL.out, HRI.out]
        first
          | simp; done
          | (simp only [Bool.true_and, Bool.and_self]; exact decide_eq_decide.2 (by omega))
end Go.Proofs.YtpfepcjbhchpcaaGreat
namespace Go.Proofs.YtpfepcjbhchpcaaGreat
open Go.RowKit
set_option maxRecDepth 100000
set_option linter.unusedSimpArgs false
set_option linter.unusedVariables false

set_option maxHeartbeats 2000000 in
theorem implNodeOk_any (v : Value) (ns : List (List KeyD)) (w : World) (hv : Reads w w.heap.size v (setsD ns)) (hs : SmallN ns) : Calls Tryz.prog 182 #[.agg #[v]] w (SaysBool w (nodeOkB ns)) := by
  obtain ⟨A, c, rfl, _, _⟩ := hv.lenN
  have B0 := bal1 w (.cells #[.slice A ns.length c] 97)
  have HB := Lib.hid B0
  have Q0 := Lib.hid (al1 w (.cells #[.slice A ns.length c] 97))
  have HV := Lib.hid (hv.on B0)
  have HS := Lib.hid hs
  have hn := hs.1
  obtain ⟨R, hR⟩ : ∃ R, nodeOkB ns = R := ⟨_, rfl⟩
  rw [hR]
  have HR := Lib.hid hR
  clear hv hs hR B0
  by_cases h3 : ns.length ≤ 3
  · have d0 : decide ((3 : Int) < (ns.length : Int)) = false := decide_eq_false (by omega)
    go_enter Tryz.func182, Tryz.ntmps182
    go_wp2
    generalize w.alloc (.cells #[.slice A ns.length c] 97) = W at *
    clear d0
    go_loopw [3, 5, 13] (fun t _ i wr => ∃ k : Nat, k ≤ ns.length ∧ i = .int .i64 k ∧ t = .int .i64 (sumN (ns.take k) : Nat) ∧ Hid ((ns.take k).all okL = true) ∧ Hid (Below W.heap.size W wr)) (fun _ _ i _ => ns.length - (intOf i).toNat)
    case atStart => exact ⟨0, Nat.zero_le _, rfl, by simp [sumN], Lib.hid rfl, Lib.hid (Below.refl _ _)⟩
    case round =>
      obtain ⟨k, hk, rfl, rfl, HI, HW⟩ := hrel
      have hsum := Nat.le_trans (sumN_take_le ns k) HS.out.2
      by_cases hlt : k < ns.length
      · obtain ⟨b, off, rfl, hbb, hc⟩ := (HV.out.on HW.out).set hlt
        obtain ⟨A1, d1, c1, _, _, r1⟩ := hc k hlt
        have hl := HS.out.at hlt
        have T1 := Lib.hid (sumN_take hlt)
        have R1 := Lib.hid r1
        have i1 : (k : Int) < (ns.length : Int) := by omega
        have i2 : (0 : Int) ≤ (k : Int) := by omega
        clear hc r1
        generalize hq : sumN (ns.take k) = q at *
        have HQ := Lib.hid hq
        clear hq
        by_cases h0 : (ns[k]).length = 0
        · have z0 : (((ns[k]).length : Int) == 0) = true := by simp [h0]
          have HBad := Lib.hid (all_bad hlt (by simp [okL, h0]))
          clear h0
          go_wp2
          go_ret
          exact ⟨ret_boolB (by rw [← HR.out, HBad.out]), bstep HB.out HW.out⟩
        · have z0 : (((ns[k]).length : Int) == 0) = false := by simp; simpa using h0
          have H0 := Lib.hid h0
          clear h0
          cases hs : setOkB ns[k]
          all_goals
            have HSk := Lib.hid hs
            clear hs
            go_wp2_with fail
            refine (implSetOk_any _ ns[k] _ R1.out (by omega)).mono ?_
            rintro r w1 ⟨rfl, b1⟩
            rw [HSk.out]
            have B1 := Lib.hid (HW.out.trans (b1.mono HW.out.size))
            clear b1
            go_wp2
            first
              | go_roundw
                case rel => exact ⟨k + 1, by omega, by go_num, by rw [T1.out]; go_num, Lib.hid (all_take hlt HI.out (by have := H0.out; simp [okL, HSk.out]; omega)), B1⟩
                case measure => simp [intOf]; omega
              | go_ret
                exact ⟨ret_boolB (by rw [← HR.out, all_bad hlt (by simp [okL, HSk.out])]), bstep HB.out B1.out⟩
      · have e : k = ns.length := by omega
        subst e
        have hh : sumN (ns.take ns.length) = sumN ns := by rw [List.take_length]
        have hh2 := HI.out
        rw [List.take_length] at hh2
        rw [hh] at *
        have HH := Lib.hid hh2
        have H3 := Lib.hid h3
        clear hh hh2
        go_wp2
        go_ret
        refine ⟨ret_boolB ?_, bstep HB.out HW.out⟩
        rw [← HR.out, nodeOkB, HH.out, decide_eq_true H3.out]
        simp
        omega
  · have d0 : decide ((3 : Int) < (ns.length : Int)) = true := decide_eq_true (by omega)
    go_enter Tryz.func182, Tryz.ntmps182
    go_wp2
    go_ret
    refine ⟨ret_boolB ?_, HB.out⟩
    rw [← HR.out, nodeOkB, decide_eq_false h3]
    simp
theorem l5Count_any (v : Value) (ns : List (List KeyD)) (w : World) (hv : Reads w w.heap.size v (setsD ns)) (hs : SmallN ns) : Calls Tryz.prog 208 #[.agg #[v]] w fun e w' => e = .returned (.int .i64 (sumN ns : Nat)) ∧ Below w.heap.size w w' := by
  obtain ⟨A, c, rfl, _, _⟩ := hv.lenN
  have B0 := bal1 w (.cells #[.slice A ns.length c] 97)
  have HB := Lib.hid B0
  have Q0 := Lib.hid (al1 w (.cells #[.slice A ns.length c] 97))
  have HV := Lib.hid (hv.on B0)
  have HS := Lib.hid hs
  have hn := hs.1
  clear hv hs B0
  go_enter Tryz.func208, Tryz.ntmps208
  go_wp2
  generalize w.alloc (.cells #[.slice A ns.length c] 97) = W at *
  obtain ⟨x0, x1⟩ := box1N Q0.out
  go_loopw [3, 4] (fun t i wr => ∃ k : Nat, k ≤ ns.length ∧ i = .int .i64 k ∧ t = .int .i64 (sumN (ns.take k) : Nat) ∧ W = wr) (fun _ i _ => ns.length - (intOf i).toNat)
  case atStart => exact ⟨0, Nat.zero_le _, rfl, by simp [sumN], rfl⟩
  case round =>
    obtain ⟨k, hk, rfl, rfl, rfl⟩ := hrel
    have hsum := Nat.le_trans (sumN_take_le ns k) HS.out.2
    by_cases hlt : k < ns.length
    · obtain ⟨b, off, rfl, hbb, hc⟩ := HV.out.set hlt
      obtain ⟨A1, d1, c1, _, _, r1⟩ := hc k hlt
      have hl := HS.out.at hlt
      have T1 := Lib.hid (sumN_take hlt)
      have i1 : (k : Int) < (ns.length : Int) := by omega
      have i2 : (0 : Int) ≤ (k : Int) := by omega
      clear hc r1
      generalize hq : sumN (ns.take k) = q at *
      have HQ := Lib.hid hq
      clear hq
      go_wp2
      go_roundw
      case rel => exact ⟨k + 1, by omega, by go_num, by rw [T1.out]; go_num, trivial⟩
      case measure => simp [intOf]; omega
    · have e : k = ns.length := by omega
      subst e
      have hh : sumN (ns.take ns.length) = sumN ns := by rw [List.take_length]
      rw [hh] at *
      go_wp2
      go_ret
      exact ⟨rfl, HB.out⟩
set_option maxHeartbeats 2000000 in
theorem specNodeOk_any (v : Value) (ns : List (List KeyD)) (w : World) (hv : Reads w w.heap.size v (setsD ns)) (hs : SmallN ns) : Calls Tryz.prog 162 #[.agg #[v]] w (SaysBool w (nodeOkB ns)) := by
  obtain ⟨A, c, rfl, _, _⟩ := hv.lenN
  have B0 := bal1 w (.cells #[.slice A ns.length c] 97)
  have HB := Lib.hid B0
  have Q0 := Lib.hid (al1 w (.cells #[.slice A ns.length c] 97))
  have HV := Lib.hid (hv.on B0)
  have HS := Lib.hid hs
  have hn := hs.1
  obtain ⟨R, hR⟩ : ∃ R, nodeOkB ns = R := ⟨_, rfl⟩
  rw [hR]
  have HR := Lib.hid hR
  clear hv hs hR B0
  go_enter Tryz.func162, Tryz.ntmps162
  go_wp2
  generalize w.alloc (.cells #[.slice A ns.length c] 97) = W at *
  go_loopw [3] (fun i wr => ∃ k : Nat, k ≤ ns.length ∧ i = .int .i64 k ∧ Hid ((ns.take k).all okL = true) ∧ Hid (Below W.heap.size W wr)) (fun i _ => ns.length - (intOf i).toNat)
  case atStart => exact ⟨0, Nat.zero_le _, rfl, Lib.hid rfl, Lib.hid (Below.refl _ _)⟩
  case round =>
    obtain ⟨k, hk, rfl, HI, HW⟩ := hrel
    have Q1 := Lib.hid (box_on Q0.out HW.out)
    obtain ⟨x0, x1⟩ := box1N Q1.out
    by_cases hlt : k < ns.length
    · obtain ⟨b, off, rfl, hbb, hc⟩ := (HV.out.on HW.out).set hlt
      obtain ⟨A1, d1, c1, _, _, r1⟩ := hc k hlt
      have hl := HS.out.at hlt
      have R1 := Lib.hid r1
      have i1 : (k : Int) < (ns.length : Int) := by omega
      have i2 : (0 : Int) ≤ (k : Int) := by omega
      have HC : Hid (∀ w', Below wr.heap.size wr w' → w'.cell? ⟨b, off + k, none⟩ = some (.slice A1 (ns[k]).length d1)) := Lib.hid (fun w' h => (h.cell (p := ⟨b, off + k, none⟩) hbb).trans c1)
      clear hc r1
      cases hs : setOkB ns[k]
      · have HSk := Lib.hid hs
        clear hs
        go_wp2_with fail
        refine (specSetOk_any _ ns[k] _ R1.out (by omega)).mono ?_
        rintro r w1 ⟨rfl, b1⟩
        rw [HSk.out]
        have B1 := Lib.hid (HW.out.trans (b1.mono HW.out.size))
        clear b1 x0 x1 c1
        go_wp2
        go_ret
        exact ⟨ret_boolB (by rw [← HR.out, all_bad hlt (by simp [okL, HSk.out])]), bstep HB.out B1.out⟩
      · have HSk := Lib.hid hs
        clear hs
        by_cases h0 : (ns[k]).length = 0
        · have z0 : (((ns[k]).length : Int) == 0) = true := by simp [h0]
          have HBad := Lib.hid (all_bad hlt (by simp [okL, h0]))
          clear h0
          go_wp2_with fail
          refine (specSetOk_any _ ns[k] _ R1.out (by omega)).mono ?_
          rintro r w1 ⟨rfl, b1⟩
          rw [HSk.out]
          have B1 := Lib.hid (HW.out.trans (b1.mono HW.out.size))
          have c2 := HC.out _ b1
          obtain ⟨y0, y1⟩ := box1N (box_on Q1.out b1)
          clear b1 x0 x1 c1
          go_wp2
          go_ret
          exact ⟨ret_boolB (by rw [← HR.out, HBad.out]), bstep HB.out B1.out⟩
        · have z0 : (((ns[k]).length : Int) == 0) = false := by simp; simpa using h0
          have H0 := Lib.hid h0
          clear h0
          go_wp2_with fail
          refine (specSetOk_any _ ns[k] _ R1.out (by omega)).mono ?_
          rintro r w1 ⟨rfl, b1⟩
          rw [HSk.out]
          have B1 := Lib.hid (HW.out.trans (b1.mono HW.out.size))
          have c2 := HC.out _ b1
          obtain ⟨y0, y1⟩ := box1N (box_on Q1.out b1)
          clear b1 x0 x1 c1
          go_wp2
          go_roundw
          case rel => exact ⟨k + 1, by omega, by go_num, Lib.hid (all_take hlt HI.out (by have := H0.out; simp [okL, HSk.out]; omega)), B1⟩
          case measure => simp [intOf]; omega
    · have e : k = ns.length := by omega
      subst e
      have hh2 := HI.out
      rw [List.take_length] at hh2
      have HH := Lib.hid hh2
      clear hh2
      by_cases h3 : ns.length ≤ 3
      · have d0 : decide ((ns.length : Int) ≤ 3) = true := decide_eq_true (by omega)
        go_wp2_with fail
        refine (l5Count_any _ ns _ (HV.out.on HW.out) HS.out).mono ?_
        rintro r w1 ⟨rfl, b1⟩
        have B1 := Lib.hid (HW.out.trans (b1.mono HW.out.size))
        clear b1
        have H3 := Lib.hid h3
        go_wp2
        go_ret
        refine ⟨ret_boolB ?_, bstep HB.out B1.out⟩
        rw [← HR.out, nodeOkB, HH.out, decide_eq_true H3.out]
        simp
        omega
      · have d0 : decide ((ns.length : Int) ≤ 3) = false := decide_eq_false (by omega)
        have H3 := Lib.hid h3
        go_wp2
        go_ret
        refine ⟨ret_boolB ?_, bstep HB.out HW.out⟩
        rw [← HR.out, nodeOkB, decide_eq_false H3.out]
        simp
end Go.Proofs.YtpfepcjbhchpcaaGreat
namespace Go.Proofs.YtpfepcjbhchpcaaGreat
open Go.RowKit
set_option maxRecDepth 100000
set_option linter.unusedSimpArgs false
set_option linter.unusedVariables false

set_option maxHeartbeats 1000000 in
theorem specSetAt_any (v : Value) (l : List KeyD) (b a : Int) (w : World) (hv : Reads w w.heap.size v (keysD l)) (hn : l.length ≤ 2097152) : Calls Tryz.prog 161 #[v, .int .i64 b, .int .i64 a] w (SaysFind w (atK l b a)) := by
  obtain ⟨A, c, rfl, _, _⟩ := hv.shapeK
  unfold SaysFind KeyD.v keyV
  obtain ⟨F, hF⟩ : ∃ F, atK l b a = F := ⟨_, rfl⟩
  rw [hF]
  unfold atK at hF
  have Q0 := Lib.hid (al1 w (.cells #[.int .i64 0, .int .i64 0, .int .i64 0, .int .i64 0, .int .i64 0] 58))
  have b0 := bal1 w (.cells #[.int .i64 0, .int .i64 0, .int .i64 0, .int .i64 0, .int .i64 0] 58)
  have HV := Lib.hid (hv.on b0)
  have HB := Lib.hid b0
  have HF := Lib.hid hF
  clear hv b0 hF
  go_enter Tryz.func161, Tryz.ntmps161
  go_wp2
  generalize w.alloc (.cells #[.int .i64 0, .int .i64 0, .int .i64 0, .int .i64 0, .int .i64 0] 58) = W at *
  go_loopw [8] (fun i wr => ∃ k : Nat, k ≤ l.length ∧ i = .int .i64 k ∧ Hid ((l.drop k).find? (fun x => spotB x.a x.b b a) = l.find? (fun x => spotB x.a x.b b a)) ∧ W = wr) (fun i _ => l.length - (intOf i).toNat)
  case atStart => exact ⟨0, Nat.zero_le _, rfl, Lib.hid rfl, rfl⟩
  case round =>
    obtain ⟨k, hk, rfl, HI, rfl⟩ := hrel
    obtain ⟨z0, z1, z2, z3, z4, z5⟩ := box5 Q0.out
    by_cases hlt : k < l.length
    · obtain ⟨bb, off, rfl, hbb, hc⟩ := HV.out.keys hlt
      have i1 : (k : Int) < (l.length : Int) := by omega
      have i2 : (0 : Int) ≤ (k : Int) := by omega
      obtain ⟨c0, c1, c2, c3, c4⟩ := hc k hlt
      clear hc
      have hsp : ∃ x y, ((l[k]).a == b) = x ∧ ((l[k]).b == a) = y ∧ spotB (l[k]).a (l[k]).b b a = (x && y) := ⟨_, _, rfl, rfl, rfl⟩
      obtain ⟨x, y, hx, hy, hxy⟩ := hsp
      have HX := Lib.hid hxy
      clear hxy
      cases hz : (x && y)
      · rw [hz] at HX
        cases x <;> cases y <;> first | cases hz | skip
        all_goals
          go_wp2
          go_roundw
          case rel => exact ⟨k + 1, by omega, by go_num, Lib.hid (find_step (p := fun x => spotB x.a x.b b a) hlt HX.out HI.out), by first | trivial | rfl⟩
          case measure => simp [intOf]; omega
      · cases x <;> cases y <;> first | cases hz | skip
        all_goals
            go_wp2
            have hF : F = some l[k] := by rw [← HF.out]; exact find_hit (p := fun x => spotB x.a x.b b a) hlt HX.out HI.out
            refine bodyPost_ret (v := .tuple #[(F.getD zK).v, .bool F.isSome]) (by simp [results, Tryz.results161, go_sem, keyV, KeyD.v, hF, *]) rfl ⟨rfl, ?_⟩
            exact b5' HB.out (Nat.le_refl _)
    · go_wp2
      have hF : F = none := by
        rw [← HF.out, ← HI.out, List.drop_eq_nil_of_le (by omega)]
        rfl
      refine bodyPost_ret (v := .tuple #[(F.getD zK).v, .bool F.isSome]) (by simp [results, Tryz.results161, go_sem, keyV, KeyD.v, hF, zK, *]) rfl ⟨rfl, ?_⟩
      exact b5' HB.out (Nat.le_refl _)
theorem filt_yes {l m : List KeyD} {k : Nat} {p : KeyD → Bool} (h : k < l.length) (hp : p l[k] = true) {R : List KeyD} (hf : m ++ (l.drop k).filter p = R) : (m ++ [l[k]]) ++ (l.drop (k + 1)).filter p = R := by
  rw [drop_at h, List.filter_cons, hp] at hf
  simpa using hf
theorem filt_no {l m : List KeyD} {k : Nat} {p : KeyD → Bool} (h : k < l.length) (hp : p l[k] = false) {R : List KeyD} (hf : m ++ (l.drop k).filter p = R) : m ++ (l.drop (k + 1)).filter p = R := by
  rw [drop_at h, List.filter_cons, hp] at hf
  simpa using hf
/-- What a loop that appends keys to a row of its own holds on to. -/
def Grow (w wr : World) (o : Value) (m : List KeyD) : Prop := RowK wr w.heap.size o m ∧ Below w.heap.size w wr
set_option maxHeartbeats 1000000 in
theorem specDrop_any (v : Value) (l : List KeyD) (w : World) (hv : Reads w w.heap.size v (keysD l)) (hn : l.length ≤ 2097152) : Calls Tryz.prog 95 #[v] w (NewK w (dropK l)) := by
  obtain ⟨A, c, rfl, _, _⟩ := hv.shapeK
  obtain ⟨R, hR⟩ : ∃ R, dropK l = R := ⟨_, rfl⟩
  rw [hR]
  unfold dropK at hR
  have HR := Lib.hid hR
  have HV := Lib.hid hv
  clear hv hR
  go_enter Tryz.func95, Tryz.ntmps95
  go_wp2
  go_loopw [3, 4] (fun o i wr => ∃ (k : Nat) (m : List KeyD), k ≤ l.length ∧ i = .int .i64 k ∧ Hid (m.length ≤ k) ∧ Hid (m ++ (l.drop k).filter (fun x => x.c != 0) = R) ∧ Hid (Grow w wr o m)) (fun _ i _ => l.length - (intOf i).toNat)
  case atStart => exact ⟨0, [], Nat.zero_le _, rfl, Lib.hid (Nat.zero_le _), Lib.hid HR.out, Lib.hid ⟨RowK.lit w, bal1 _ _⟩⟩
  case round =>
    obtain ⟨k, m, hk, rfl, HM, HI, HG⟩ := hrel
    obtain ⟨hrow, hb⟩ := HG.out
    by_cases hlt : k < l.length
    · obtain ⟨b, off, rfl, hbb, hc⟩ := (HV.out.on hb).keys hlt
      have i1 : (k : Int) < (l.length : Int) := by omega
      have i2 : (0 : Int) ≤ (k : Int) := by omega
      obtain ⟨c0, c1, c2, c3, c4⟩ := hc k hlt
      clear hc
      cases hs : ((l[k]).c != 0)
      · have HS := Lib.hid hs
        clear hrow hb
        go_wp2
        go_roundw
        case rel => exact ⟨k + 1, m, by omega, by go_num, Lib.hid (Nat.le_succ_of_le HM.out), Lib.hid (filt_no (p := fun x => x.c != 0) hlt HS.out HI.out), HG⟩
        case measure => simp [intOf]; omega
      · have HS := Lib.hid hs
        have ba := bal1 wr (.cells #[.int .i64 (l[k]).a, .int .i64 (l[k]).b, .int .i64 (l[k]).c, .int .i64 (l[k]).d, .int .i64 (l[k]).e] 58)
        have HRow := Lib.hid (hrow.on ba)
        have HAt := Lib.hid (At.key wr l[k] 58)
        have HB := Lib.hid (hb.trans (ba.mono hb.size))
        obtain ⟨Ao, co, rfl, _, _⟩ := hrow.shape
        have hzz : (wr.alloc (.cells #[.int .i64 (l[k]).a, .int .i64 (l[k]).b, .int .i64 (l[k]).c, .int .i64 (l[k]).d, .int .i64 (l[k]).e] 58)).heap.size = wr.heap.size + 1 := by simp
        have HZ := Lib.hid (show w.heap.size ≤ (wr.alloc (.cells #[.int .i64 (l[k]).a, .int .i64 (l[k]).b, .int .i64 (l[k]).c, .int .i64 (l[k]).d, .int .i64 (l[k]).e] 58)).heap.size by have := hb.size; omega)
        clear hrow hb ba hzz HG
        go_wp2_with (at_builtin; refine wpList_appK _ rfl (.tmp 18) (.tmp 23) rfl w.heap.size _ m rfl HRow.out (some ⟨wr.heap.size, 0, none⟩) 1 1 [l[k]] rfl rfl HAt.out (by have := HM.out; simp; omega) HZ.out ?_; intro v1 w1 o1 b1; clear HRow HAt)
        have HG := Lib.hid (show Grow w w1 v1 (m ++ [l[k]]) from ⟨o1, HB.out.trans b1⟩)
        clear o1 b1
        go_roundw
        case rel => exact ⟨k + 1, m ++ [l[k]], by omega, by go_num, Lib.hid (by have := HM.out; simp; omega), Lib.hid (filt_yes (p := fun x => x.c != 0) hlt HS.out HI.out), HG⟩
        case measure => simp [intOf]; omega
    · have e : m = R := by
        have := HI.out
        rw [List.drop_eq_nil_of_le (by omega)] at this
        simpa using this
      subst e
      obtain ⟨Ao, co, rfl, _, _⟩ := hrow.shape
      go_wp2
      go_ret
      exact ⟨_, rfl, HG.out.1, HG.out.2⟩
theorem run_makeKeys0 (m : Nat) (hm : m ≤ 2097152) (w : World) :
    (Instr.makeSlice 54 (.int .i64 0) (.int .i64 (m : Int))).run Tryz.prog w = .ok (.slice (some ⟨w.heap.size, 0, none⟩) 0 m) (w.alloc (.cells (madeCells #[.int .i64 0, .int .i64 0, .int .i64 0, .int .i64 0, .int .i64 0] (m * 5)) 58)) := run_makeKeys 0 m (Nat.zero_le _) hm w
set_option maxHeartbeats 1000000 in
theorem implDrop_any (v : Value) (l : List KeyD) (w : World) (hv : Reads w w.heap.size v (keysD l)) (hn : l.length ≤ 2097152) : Calls Tryz.prog 197 #[v] w (NewK w (dropK l)) := by
  obtain ⟨A, c, rfl, _, _⟩ := hv.shapeK
  obtain ⟨R, hR⟩ : ∃ R, dropK l = R := ⟨_, rfl⟩
  rw [hR]
  unfold dropK at hR
  have HR := Lib.hid hR
  have HV := Lib.hid hv
  have hmk := run_makeKeys0 l.length hn
  clear hv hR
  go_enter Tryz.func197, Tryz.ntmps197
  go_wp2
  clear hmk
  go_loopw [3, 5, 11] (fun o _ i wr => ∃ (k : Nat) (m : List KeyD), k ≤ l.length ∧ i = .int .i64 k ∧ Hid (m.length ≤ k) ∧ Hid (m ++ (l.drop k).filter (fun x => x.c != 0) = R) ∧ Hid (Grow w wr o m)) (fun _ _ i _ => l.length - (intOf i).toNat)
  case atStart => exact ⟨0, [], Nat.zero_le _, rfl, Lib.hid (Nat.zero_le _), Lib.hid HR.out, Lib.hid ⟨RowK.made w l.length hn, bal1 _ _⟩⟩
  case round =>
    obtain ⟨k, m, hk, rfl, HM, HI, HG⟩ := hrel
    obtain ⟨hrow, hb⟩ := HG.out
    by_cases hlt : k < l.length
    · obtain ⟨b, off, rfl, hbb, hc⟩ := (HV.out.on hb).keys hlt
      have i1 : (k : Int) < (l.length : Int) := by omega
      have i2 : (0 : Int) ≤ (k : Int) := by omega
      obtain ⟨c0, c1, c2, c3, c4⟩ := hc k hlt
      clear hc
      have ba := bal1 wr (.cells #[.int .i64 (l[k]).a, .int .i64 (l[k]).b, .int .i64 (l[k]).c, .int .i64 (l[k]).d, .int .i64 (l[k]).e] 58)
      obtain ⟨Ao, co, rfl, _, _⟩ := hrow.shape
      have HG1 := Lib.hid (show Grow w (wr.alloc (.cells #[.int .i64 (l[k]).a, .int .i64 (l[k]).b, .int .i64 (l[k]).c, .int .i64 (l[k]).d, .int .i64 (l[k]).e] 58)) (.slice Ao m.length co) m from ⟨hrow.on ba, hb.trans (ba.mono hb.size)⟩)
      cases hs : ((l[k]).c != 0)
      · have HS := Lib.hid hs
        clear hrow hb ba
        go_wp2
        go_roundw
        case rel => exact ⟨k + 1, m, by omega, by go_num, Lib.hid (Nat.le_succ_of_le HM.out), Lib.hid (filt_no (p := fun x => x.c != 0) hlt HS.out HI.out), HG1⟩
        case measure => simp [intOf]; omega
      · have HS := Lib.hid hs
        have hat := At.key (wr.alloc (.cells #[.int .i64 (l[k]).a, .int .i64 (l[k]).b, .int .i64 (l[k]).c, .int .i64 (l[k]).d, .int .i64 (l[k]).e] 58)) l[k] 58
        simp only [World.size_alloc] at hat
        have HAt := Lib.hid hat
        have bb := bal1 (wr.alloc (.cells #[.int .i64 (l[k]).a, .int .i64 (l[k]).b, .int .i64 (l[k]).c, .int .i64 (l[k]).d, .int .i64 (l[k]).e] 58)) (.cells #[.int .i64 (l[k]).a, .int .i64 (l[k]).b, .int .i64 (l[k]).c, .int .i64 (l[k]).d, .int .i64 (l[k]).e] 58)
        have HRow := Lib.hid (HG1.out.1.on bb)
        have HB := Lib.hid (HG1.out.2.trans (bb.mono HG1.out.2.size))
        have HZ := Lib.hid HB.out.size
        clear hrow hb ba bb hat HG HG1
        go_wp2_with (at_builtin; refine wpList_appK _ rfl (.tmp 18) (.tmp 20) rfl w.heap.size _ m rfl HRow.out (some ⟨wr.heap.size + 1, 0, none⟩) 1 1 [l[k]] rfl rfl HAt.out (by have := HM.out; simp; omega) HZ.out ?_; intro v1 w1 o1 b1; clear HRow HAt)
        have HG := Lib.hid (show Grow w w1 v1 (m ++ [l[k]]) from ⟨o1, HB.out.trans b1⟩)
        clear o1 b1
        go_roundw
        case rel => exact ⟨k + 1, m ++ [l[k]], by omega, by go_num, Lib.hid (by have := HM.out; simp; omega), Lib.hid (filt_yes (p := fun x => x.c != 0) hlt HS.out HI.out), HG⟩
        case measure => simp [intOf]; omega
    · have e : m = R := by
        have := HI.out
        rw [List.drop_eq_nil_of_le (by omega)] at this
        simpa using this
      subst e
      obtain ⟨Ao, co, rfl, _, _⟩ := hrow.shape
      go_wp2
      go_ret
      exact ⟨_, rfl, HG.out.1, HG.out.2⟩
end Go.Proofs.YtpfepcjbhchpcaaGreat
namespace Go.Proofs.YtpfepcjbhchpcaaGreat
open Go.RowKit
set_option maxRecDepth 100000
set_option linter.unusedSimpArgs false
set_option linter.unusedVariables false

theorem spotS (x y : KeyD) (w : World) : Calls Tryz.prog 164 #[x.v, y.v] w (SaysBool w (spotK x y)) := specSameSpot_any _ _ _ _ _ _ _ _ _ _ w
theorem five_box {w : World} {p : Nat} {x : KeyD} {t : TypeId} (h : w.heap[p]? = some (.cells #[.int .i64 x.a, .int .i64 x.b, .int .i64 x.c, .int .i64 x.d, .int .i64 x.e] t (0, 0))) : w.cell? ⟨p, 0, none⟩ = some (.int .i64 x.a) ∧ w.cell? ⟨p, 0 + 1, none⟩ = some (.int .i64 x.b) ∧ w.cell? ⟨p, 0 + 2, none⟩ = some (.int .i64 x.c) ∧ w.cell? ⟨p, 0 + 3, none⟩ = some (.int .i64 x.d) ∧ w.cell? ⟨p, 0 + 4, none⟩ = some (.int .i64 x.e) := by
  obtain ⟨h0, h1, h2, h3, h4, _⟩ := box5 h
  exact ⟨h0, h1, h2, h3, h4⟩
theorem Grow.on {W a b : World} {o : Value} {m : List KeyD} (h : Grow W a o m) (hb : Below a.heap.size a b) : Grow W b o m := ⟨h.1.on hb, h.2.trans (hb.mono h.2.size)⟩
theorem Grow.drewN {W a : World} {o : Value} {m : List KeyD} (h : Grow W a o m) (n : Nat) : Grow W (a.drewN n) o m := h.on (bdrew (Below.refl _ _) n)
theorem go_cons {l : List KeyD} {k : Nat} {x : KeyD} {d : Bool} (h : k < l.length) : putGo x (l.drop k) d = (if !d && !lessK l[k] x then [x] else []) ++ ((if !spotK l[k] x then [l[k]] else []) ++ putGo x (l.drop (k + 1)) (d || !lessK l[k] x)) := by
  rw [drop_at h]; rfl
set_option maxHeartbeats 2000000 in
theorem specSetPut_any (v : Value) (l : List KeyD) (x : KeyD) (w : World) (hv : Reads w w.heap.size v (keysD l)) (hn : l.length ≤ 2097152) : Calls Tryz.prog 96 #[v, x.v] w (NewK w (putK l x)) := by
  obtain ⟨A, c, rfl, _, _⟩ := hv.shapeK
  obtain ⟨R, hR⟩ : ∃ R, putK l x = R := ⟨_, rfl⟩
  rw [hR]
  unfold putK at hR
  have HLs := Lib.hid lessS
  have HSp := Lib.hid spotS
  unfold KeyD.v keyV at HLs HSp
  unfold KeyD.v keyV
  have b0 := bal1 w (.cells #[.int .i64 x.a, .int .i64 x.b, .int .i64 x.c, .int .i64 x.d, .int .i64 x.e] 58)
  have Q0 := Lib.hid (al1 w (.cells #[.int .i64 x.a, .int .i64 x.b, .int .i64 x.c, .int .i64 x.d, .int .i64 x.e] 58))
  have HB0 := Lib.hid b0
  have HV := Lib.hid (hv.on b0)
  have HR := Lib.hid hR
  clear hv hR b0
  go_enter Tryz.func96, Tryz.ntmps96
  go_upto_region 1 with (fail)
  have HZ0 : Hid ((w.alloc (.cells #[.int .i64 x.a, .int .i64 x.b, .int .i64 x.c, .int .i64 x.d, .int .i64 x.e] 58)).heap.size = w.heap.size + 1) := Lib.hid (by simp)
  generalize w.alloc (.cells #[.int .i64 x.a, .int .i64 x.b, .int .i64 x.c, .int .i64 x.d, .int .i64 x.e] 58) = W at *
  have START := Lib.hid (show Grow W (W.alloc (.cells #[] 58)) (.slice (some ⟨W.heap.size, 0, none⟩) 0 0) [] from ⟨RowK.lit W, bal1 _ _⟩)
  go_wp2
  go_loopw [5, 6, 7] (fun o d i wr => ∃ (k : Nat) (m : List KeyD) (db : Bool), k ≤ l.length ∧ i = .int .i64 k ∧ d = .bool db ∧ Hid (m.length ≤ k + db.toNat) ∧ Hid (m ++ putGo x (l.drop k) db = R) ∧ Hid (Grow W wr o m)) (fun _ _ i _ => l.length - (intOf i).toNat)
  case atStart => exact ⟨0, [], false, Nat.zero_le _, rfl, rfl, Lib.hid (Nat.zero_le _), Lib.hid HR.out, START⟩
  case round =>
    clear START
    obtain ⟨k, m, db, hk, rfl, rfl, HM, HI, HG⟩ := hrel
    obtain ⟨Ao, co, rfl, _, _⟩ := HG.out.1.shape
    by_cases hlt : k < l.length
    · have i1 : (k : Int) < (l.length : Int) := by omega
      have i2 : (0 : Int) ≤ (k : Int) := by omega
      have HI2 := Lib.hid (show m ++ ((if !db && !lessK l[k] x then [x] else []) ++ ((if !spotK l[k] x then [l[k]] else []) ++ putGo x (l.drop (k + 1)) (db || !lessK l[k] x))) = R by rw [← go_cons hlt]; exact HI.out)
      clear HI
      obtain ⟨b, off, rfl, hbW, hc⟩ := HV.out.keys hlt
      have FK : Hid (∀ wt, Below W.heap.size W wt → Five wt b (off + k * 5) l[k]) := Lib.hid (fun wt h => (hc k hlt).on hbW h)
      clear hc
      cases db
      · cases hl : lessK l[k] x
        all_goals
          have HL := Lib.hid hl
          clear hl
          rw [HL.out] at HI2
        · have F := Lib.hid (FK.out _ HG.out.2)
          have hbb := Nat.lt_of_lt_of_le hbW HG.out.2.size
          have P := Lib.hid (box_on Q0.out HG.out.2)
          obtain ⟨c0, c1, c2, c3, c4⟩ := F.out
          obtain ⟨y0, y1, y2, y3, y4, y5⟩ := box5 P.out
          go_wp2
          go_region_held3 (fun W => W.cell? ⟨b, off + k * 5, none⟩ = some (.int .i64 (l[k]).a) ∧ W.cell? ⟨b, off + k * 5 + 1, none⟩ = some (.int .i64 (l[k]).b) ∧ W.cell? ⟨b, off + k * 5 + 2, none⟩ = some (.int .i64 (l[k]).c) ∧ W.cell? ⟨b, off + k * 5 + 3, none⟩ = some (.int .i64 (l[k]).d) ∧ W.cell? ⟨b, off + k * 5 + 4, none⟩ = some (.int .i64 (l[k]).e) ∧ W.cell? ⟨w.heap.size, 0, none⟩ = some (.int .i64 (x).a) ∧ W.cell? ⟨w.heap.size, 0 + 1, none⟩ = some (.int .i64 (x).b) ∧ W.cell? ⟨w.heap.size, 0 + 2, none⟩ = some (.int .i64 (x).c) ∧ W.cell? ⟨w.heap.size, 0 + 3, none⟩ = some (.int .i64 (x).d) ∧ W.cell? ⟨w.heap.size, 0 + 4, none⟩ = some (.int .i64 (x).e))
            (first | with_reducible exact (F.out.on hbb B8).and (five_box (box_on P.out B8)) | with_reducible exact (F.out.on hbb (Below.drew1 _)).and (five_box (box_on P.out (Below.drew1 _))) | exact F.out.and (five_box P.out) | fail)
            (first
              | (go_at_call 163; refine (HLs.out _ _ _).mono ?_; rintro r w8 ⟨rfl, b8⟩; rw [HL.out]; have B8 := bstep (Below.drew1 _) b8)
              | fail)
          have HG1 := Lib.hid (HG.out.on B8)
          have P1 := box_on P.out B8
          clear B8 b8 c0 c1 c2 c3 c4 y0 y1 y2 y3 y4 y5 F P HG hbb
          obtain ⟨y0, y1, y2, y3, y4, y5⟩ := box5 P1
          clear P1
          have ba := bal1 w8 (.cells #[.int .i64 x.a, .int .i64 x.b, .int .i64 x.c, .int .i64 x.d, .int .i64 x.e] 58)
          have HRow := Lib.hid (HG1.out.on ba).1
          have HB := Lib.hid (HG1.out.on ba).2
          have HAt := Lib.hid (At.key w8 x 58)
          have HZ := Lib.hid HB.out.size
          clear ba HG1
          go_wp2_with (at_builtin; refine wpList_appK _ rfl (.tmp 26) (.tmp 28) rfl W.heap.size _ m rfl HRow.out (some ⟨w8.heap.size, 0, none⟩) 1 1 [x] rfl rfl HAt.out (by have := HM.out; simp at this ⊢; omega) HZ.out ?_; intro v1 wc o1 b1; clear HRow HAt y0 y1 y2 y3 y4 y5)
          have HG := Lib.hid (show Grow W wc v1 (m ++ [x]) from ⟨o1, HB.out.trans b1⟩)
          have HM2 := Lib.hid (show (m ++ [x]).length ≤ k + 1 by have := HM.out; simp at this ⊢; omega)
          clear o1 b1 HB HZ
          replace HI2 := Lib.hid (show (m ++ [x]) ++ ((if !spotK l[k] x then [l[k]] else []) ++ putGo x (l.drop (k + 1)) true) = R by have h := HI2.out; simpa using h)
          clear HM
          generalize m ++ [x] = m2 at *
          have HG2 := HG
          obtain ⟨Av, cv, rfl, _, _⟩ := HG.out.1.shape
          have F := Lib.hid (FK.out _ HG2.out.2)
          have hbb := Nat.lt_of_lt_of_le hbW HG2.out.2.size
          have P := Lib.hid (box_on Q0.out HG2.out.2)
          obtain ⟨c0, c1, c2, c3, c4⟩ := F.out
          obtain ⟨y0, y1, y2, y3, y4, y5⟩ := box5 P.out
          cases hs : spotK l[k] x
          all_goals
            have HS := Lib.hid hs
            clear hs
            rw [HS.out] at HI2
            go_region_held3 (fun W => W.cell? ⟨b, off + k * 5, none⟩ = some (.int .i64 (l[k]).a) ∧ W.cell? ⟨b, off + k * 5 + 1, none⟩ = some (.int .i64 (l[k]).b) ∧ W.cell? ⟨b, off + k * 5 + 2, none⟩ = some (.int .i64 (l[k]).c) ∧ W.cell? ⟨b, off + k * 5 + 3, none⟩ = some (.int .i64 (l[k]).d) ∧ W.cell? ⟨b, off + k * 5 + 4, none⟩ = some (.int .i64 (l[k]).e) ∧ W.cell? ⟨w.heap.size, 0, none⟩ = some (.int .i64 (x).a) ∧ W.cell? ⟨w.heap.size, 0 + 1, none⟩ = some (.int .i64 (x).b) ∧ W.cell? ⟨w.heap.size, 0 + 2, none⟩ = some (.int .i64 (x).c) ∧ W.cell? ⟨w.heap.size, 0 + 3, none⟩ = some (.int .i64 (x).d) ∧ W.cell? ⟨w.heap.size, 0 + 4, none⟩ = some (.int .i64 (x).e))
              (first | with_reducible exact (F.out.on hbb B8).and (five_box (box_on P.out B8)) | with_reducible exact (F.out.on hbb (Below.drew1 _)).and (five_box (box_on P.out (Below.drew1 _))) | exact F.out.and (five_box P.out) | fail)
              (first
                | (go_at_call 164; refine (HSp.out _ _ _).mono ?_; rintro r w8 ⟨rfl, b8⟩; rw [HS.out]; have B8 := bstep (Below.drew1 _) b8)
                | fail)
          · have HG3 := Lib.hid (HG2.out.on B8)
            have F3 := F.out.on hbb B8
            clear B8 b8 c0 c1 c2 c3 c4 y0 y1 y2 y3 y4 y5 F P
            obtain ⟨c0, c1, c2, c3, c4⟩ := F3
            have ba := bal1 w8 (.cells #[.int .i64 (l[k]).a, .int .i64 (l[k]).b, .int .i64 (l[k]).c, .int .i64 (l[k]).d, .int .i64 (l[k]).e] 58)
            have HRow := Lib.hid (HG3.out.on ba).1
            have HB := Lib.hid (HG3.out.on ba).2
            have HAt := Lib.hid (At.key w8 l[k] 58)
            have HZ := Lib.hid HB.out.size
            clear ba HG HG2 HG3
            go_wp2_with (at_builtin; refine wpList_appK _ rfl (.tmp 37) (.tmp 42) rfl W.heap.size _ m2 rfl HRow.out (some ⟨w8.heap.size, 0, none⟩) 1 1 [l[k]] rfl rfl HAt.out (by have := HM2.out; simp; omega) HZ.out ?_; intro v1 w9 o1 b1; clear HRow HAt)
            have HG4 := Lib.hid (show Grow W w9 v1 (m2 ++ [l[k]]) from ⟨o1, HB.out.trans b1⟩)
            clear o1 b1
            go_roundw
            case rel => exact ⟨k + 1, m2 ++ [l[k]], true, by omega, by go_num, rfl, Lib.hid (by have := HM2.out; simp at this ⊢; omega), Lib.hid (by have h := HI2.out; simpa using h), HG4⟩
            case measure => simp [intOf]; omega
          · have HG3 := Lib.hid (HG2.out.on B8)
            clear B8 b8 c0 c1 c2 c3 c4 y0 y1 y2 y3 y4 y5 F P HG HG2
            go_wp2
            go_roundw
            case rel => exact ⟨k + 1, m2, true, by omega, by go_num, rfl, Lib.hid (by have := HM2.out; simp at this ⊢; omega), Lib.hid (by have h := HI2.out; simpa using h), HG3⟩
            case measure => simp [intOf]; omega
        · have F := Lib.hid (FK.out _ HG.out.2)
          have hbb := Nat.lt_of_lt_of_le hbW HG.out.2.size
          have P := Lib.hid (box_on Q0.out HG.out.2)
          obtain ⟨c0, c1, c2, c3, c4⟩ := F.out
          obtain ⟨y0, y1, y2, y3, y4, y5⟩ := box5 P.out
          go_wp2
          go_region_held3 (fun W => W.cell? ⟨b, off + k * 5, none⟩ = some (.int .i64 (l[k]).a) ∧ W.cell? ⟨b, off + k * 5 + 1, none⟩ = some (.int .i64 (l[k]).b) ∧ W.cell? ⟨b, off + k * 5 + 2, none⟩ = some (.int .i64 (l[k]).c) ∧ W.cell? ⟨b, off + k * 5 + 3, none⟩ = some (.int .i64 (l[k]).d) ∧ W.cell? ⟨b, off + k * 5 + 4, none⟩ = some (.int .i64 (l[k]).e) ∧ W.cell? ⟨w.heap.size, 0, none⟩ = some (.int .i64 (x).a) ∧ W.cell? ⟨w.heap.size, 0 + 1, none⟩ = some (.int .i64 (x).b) ∧ W.cell? ⟨w.heap.size, 0 + 2, none⟩ = some (.int .i64 (x).c) ∧ W.cell? ⟨w.heap.size, 0 + 3, none⟩ = some (.int .i64 (x).d) ∧ W.cell? ⟨w.heap.size, 0 + 4, none⟩ = some (.int .i64 (x).e))
            (first | with_reducible exact (F.out.on hbb B8).and (five_box (box_on P.out B8)) | with_reducible exact (F.out.on hbb (Below.drew1 _)).and (five_box (box_on P.out (Below.drew1 _))) | exact F.out.and (five_box P.out) | fail)
            (first
              | (go_at_call 163; refine (HLs.out _ _ _).mono ?_; rintro r wc ⟨rfl, b8⟩; rw [HL.out]; have B8 := bstep (Below.drew1 _) b8)
              | fail)
          have HG2 := Lib.hid (HG.out.on B8)
          have HM2 := Lib.hid (show m.length ≤ k + 1 by have := HM.out; simp at this; omega)
          clear B8 b8 c0 c1 c2 c3 c4 y0 y1 y2 y3 y4 y5 F P hbb
          replace HI2 := Lib.hid (show m ++ ((if !spotK l[k] x then [l[k]] else []) ++ putGo x (l.drop (k + 1)) false) = R by have h := HI2.out; simpa using h)
          go_wp2
          have F := Lib.hid (FK.out _ HG2.out.2)
          have hbb := Nat.lt_of_lt_of_le hbW HG2.out.2.size
          have P := Lib.hid (box_on Q0.out HG2.out.2)
          obtain ⟨c0, c1, c2, c3, c4⟩ := F.out
          obtain ⟨y0, y1, y2, y3, y4, y5⟩ := box5 P.out
          cases hs : spotK l[k] x
          all_goals
            have HS := Lib.hid hs
            clear hs
            rw [HS.out] at HI2
            go_region_held3 (fun W => W.cell? ⟨b, off + k * 5, none⟩ = some (.int .i64 (l[k]).a) ∧ W.cell? ⟨b, off + k * 5 + 1, none⟩ = some (.int .i64 (l[k]).b) ∧ W.cell? ⟨b, off + k * 5 + 2, none⟩ = some (.int .i64 (l[k]).c) ∧ W.cell? ⟨b, off + k * 5 + 3, none⟩ = some (.int .i64 (l[k]).d) ∧ W.cell? ⟨b, off + k * 5 + 4, none⟩ = some (.int .i64 (l[k]).e) ∧ W.cell? ⟨w.heap.size, 0, none⟩ = some (.int .i64 (x).a) ∧ W.cell? ⟨w.heap.size, 0 + 1, none⟩ = some (.int .i64 (x).b) ∧ W.cell? ⟨w.heap.size, 0 + 2, none⟩ = some (.int .i64 (x).c) ∧ W.cell? ⟨w.heap.size, 0 + 3, none⟩ = some (.int .i64 (x).d) ∧ W.cell? ⟨w.heap.size, 0 + 4, none⟩ = some (.int .i64 (x).e))
              (first | with_reducible exact (F.out.on hbb B8).and (five_box (box_on P.out B8)) | with_reducible exact (F.out.on hbb (Below.drew1 _)).and (five_box (box_on P.out (Below.drew1 _))) | exact F.out.and (five_box P.out) | fail)
              (first
                | (go_at_call 164; refine (HSp.out _ _ _).mono ?_; rintro r w8 ⟨rfl, b8⟩; rw [HS.out]; have B8 := bstep (Below.drew1 _) b8)
                | fail)
          · have HG3 := Lib.hid (HG2.out.on B8)
            have F3 := F.out.on hbb B8
            clear B8 b8 c0 c1 c2 c3 c4 y0 y1 y2 y3 y4 y5 F P
            obtain ⟨c0, c1, c2, c3, c4⟩ := F3
            have ba := bal1 w8 (.cells #[.int .i64 (l[k]).a, .int .i64 (l[k]).b, .int .i64 (l[k]).c, .int .i64 (l[k]).d, .int .i64 (l[k]).e] 58)
            have HRow := Lib.hid (HG3.out.on ba).1
            have HB := Lib.hid (HG3.out.on ba).2
            have HAt := Lib.hid (At.key w8 l[k] 58)
            have HZ := Lib.hid HB.out.size
            clear ba HG HG2 HG3
            go_wp2_with (at_builtin; refine wpList_appK _ rfl (.tmp 37) (.tmp 42) rfl W.heap.size _ m rfl HRow.out (some ⟨w8.heap.size, 0, none⟩) 1 1 [l[k]] rfl rfl HAt.out (by have := HM2.out; simp; omega) HZ.out ?_; intro v1 w9 o1 b1; clear HRow HAt)
            have HG4 := Lib.hid (show Grow W w9 v1 (m ++ [l[k]]) from ⟨o1, HB.out.trans b1⟩)
            clear o1 b1
            go_roundw
            case rel => exact ⟨k + 1, m ++ [l[k]], false, by omega, by go_num, rfl, Lib.hid (by have := HM.out; simp at this ⊢; omega), Lib.hid (by have h := HI2.out; simpa using h), HG4⟩
            case measure => simp [intOf]; omega
          · have HG3 := Lib.hid (HG2.out.on B8)
            clear B8 b8 c0 c1 c2 c3 c4 y0 y1 y2 y3 y4 y5 F P HG HG2
            go_wp2
            go_roundw
            case rel => exact ⟨k + 1, m, false, by omega, by go_num, rfl, Lib.hid (by have := HM.out; simp at this ⊢; omega), Lib.hid (by have h := HI2.out; simpa using h), HG3⟩
            case measure => simp [intOf]; omega
      · have HGq : Hid (∀ n, Grow W (wr.drewN n) (.slice Ao m.length co) m) := Lib.hid (fun n => HG.out.drewN n)
        go_wp2
        go_quiet (fail)
        go_wp2
        generalize hwc : wr.drewN _ = wc
        have HG2 := Lib.hid (show Grow W wc (.slice Ao m.length co) m by rw [← hwc]; exact HGq.out _)
        have HM2 := Lib.hid (show m.length ≤ k + 1 by have := HM.out; simp at this; omega)
        clear hwc HGq
        replace HI2 := Lib.hid (show m ++ ((if !spotK l[k] x then [l[k]] else []) ++ putGo x (l.drop (k + 1)) true) = R by have h := HI2.out; simpa using h)
        have F := Lib.hid (FK.out _ HG2.out.2)
        have hbb := Nat.lt_of_lt_of_le hbW HG2.out.2.size
        have P := Lib.hid (box_on Q0.out HG2.out.2)
        obtain ⟨c0, c1, c2, c3, c4⟩ := F.out
        obtain ⟨y0, y1, y2, y3, y4, y5⟩ := box5 P.out
        cases hs : spotK l[k] x
        all_goals
          have HS := Lib.hid hs
          clear hs
          rw [HS.out] at HI2
          go_region_held3 (fun W => W.cell? ⟨b, off + k * 5, none⟩ = some (.int .i64 (l[k]).a) ∧ W.cell? ⟨b, off + k * 5 + 1, none⟩ = some (.int .i64 (l[k]).b) ∧ W.cell? ⟨b, off + k * 5 + 2, none⟩ = some (.int .i64 (l[k]).c) ∧ W.cell? ⟨b, off + k * 5 + 3, none⟩ = some (.int .i64 (l[k]).d) ∧ W.cell? ⟨b, off + k * 5 + 4, none⟩ = some (.int .i64 (l[k]).e) ∧ W.cell? ⟨w.heap.size, 0, none⟩ = some (.int .i64 (x).a) ∧ W.cell? ⟨w.heap.size, 0 + 1, none⟩ = some (.int .i64 (x).b) ∧ W.cell? ⟨w.heap.size, 0 + 2, none⟩ = some (.int .i64 (x).c) ∧ W.cell? ⟨w.heap.size, 0 + 3, none⟩ = some (.int .i64 (x).d) ∧ W.cell? ⟨w.heap.size, 0 + 4, none⟩ = some (.int .i64 (x).e))
            (first | with_reducible exact (F.out.on hbb B8).and (five_box (box_on P.out B8)) | with_reducible exact (F.out.on hbb (Below.drew1 _)).and (five_box (box_on P.out (Below.drew1 _))) | exact F.out.and (five_box P.out) | fail)
            (first
              | (go_at_call 164; refine (HSp.out _ _ _).mono ?_; rintro r w8 ⟨rfl, b8⟩; rw [HS.out]; have B8 := bstep (Below.drew1 _) b8)
              | fail)
        · have HG3 := Lib.hid (HG2.out.on B8)
          have F3 := F.out.on hbb B8
          clear B8 b8 c0 c1 c2 c3 c4 y0 y1 y2 y3 y4 y5 F P
          obtain ⟨c0, c1, c2, c3, c4⟩ := F3
          have ba := bal1 w8 (.cells #[.int .i64 (l[k]).a, .int .i64 (l[k]).b, .int .i64 (l[k]).c, .int .i64 (l[k]).d, .int .i64 (l[k]).e] 58)
          have HRow := Lib.hid (HG3.out.on ba).1
          have HB := Lib.hid (HG3.out.on ba).2
          have HAt := Lib.hid (At.key w8 l[k] 58)
          have HZ := Lib.hid HB.out.size
          clear ba HG HG2 HG3
          go_wp2_with (at_builtin; refine wpList_appK _ rfl (.tmp 37) (.tmp 42) rfl W.heap.size _ m rfl HRow.out (some ⟨w8.heap.size, 0, none⟩) 1 1 [l[k]] rfl rfl HAt.out (by have := HM2.out; simp; omega) HZ.out ?_; intro v1 w9 o1 b1; clear HRow HAt)
          have HG4 := Lib.hid (show Grow W w9 v1 (m ++ [l[k]]) from ⟨o1, HB.out.trans b1⟩)
          clear o1 b1
          go_roundw
          case rel => exact ⟨k + 1, m ++ [l[k]], true, by omega, by go_num, rfl, Lib.hid (by have := HM2.out; simp at this ⊢; omega), Lib.hid (by have h := HI2.out; simpa using h), HG4⟩
          case measure => simp [intOf]; omega
        · have HG3 := Lib.hid (HG2.out.on B8)
          clear B8 b8 c0 c1 c2 c3 c4 y0 y1 y2 y3 y4 y5 F P HG HG2
          go_wp2
          go_roundw
          case rel => exact ⟨k + 1, m, true, by omega, by go_num, rfl, Lib.hid (by have := HM2.out; simp at this ⊢; omega), Lib.hid (by have h := HI2.out; simpa using h), HG3⟩
          case measure => simp [intOf]; omega
    · have hI := HI.out
      rw [List.drop_eq_nil_of_le (by omega)] at hI
      cases db
      · have hI2 : m ++ [x] = R := hI
        subst hI2
        obtain ⟨y0, y1, y2, y3, y4, y5⟩ := box5 (box_on Q0.out HG.out.2)
        have ba := bal1 wr (.cells #[.int .i64 x.a, .int .i64 x.b, .int .i64 x.c, .int .i64 x.d, .int .i64 x.e] 58)
        have HRow := Lib.hid (HG.out.on ba).1
        have HB := Lib.hid (HG.out.on ba).2
        have HAt := Lib.hid (At.key wr x 58)
        have HZ := Lib.hid HB.out.size
        clear ba hI HI HG
        go_wp2_with (at_builtin; refine wpList_appK _ rfl (.tmp 46) (.tmp 48) rfl W.heap.size _ m rfl HRow.out (some ⟨wr.heap.size, 0, none⟩) 1 1 [x] rfl rfl HAt.out (by have := HM.out; simp at this ⊢; omega) HZ.out ?_; intro v1 wc o1 b1; clear HRow HAt y0 y1 y2 y3 y4 y5)
        go_ret
        exact ⟨_, rfl, o1.mono (by have := HZ0.out; omega), bstep HB0.out (HB.out.trans b1)⟩
      · have hI2 : m = R := by simpa [putGo] using hI
        subst hI2
        go_wp2
        go_ret
        exact ⟨_, rfl, HG.out.1.mono (by have := HZ0.out; omega), bstep HB0.out HG.out.2⟩
end Go.Proofs.YtpfepcjbhchpcaaGreat
namespace Go.Proofs.YtpfepcjbhchpcaaGreat
open Go.RowKit
set_option maxRecDepth 100000
set_option linter.unusedSimpArgs false
set_option linter.unusedVariables false

theorem merge_step {a b : List KeyD} {k : Nat} (h : k < b.length) {R : List KeyD} (hf : mergeK a (b.drop k) = R) : mergeK (putK a b[k]) (b.drop (k + 1)) = R := by
  rw [drop_at h] at hf
  exact hf
theorem Grow.reads {W wr : World} {o : Value} {m : List KeyD} (h : Grow W wr o m) : Reads wr wr.heap.size o (keysD m) := h.1.owns.reads
theorem NewK.grow {w wr w' : World} {o : Value} {m : List KeyD} (hr : RowK w' wr.heap.size o m) (hb : Below wr.heap.size wr w') (h : Below w.heap.size w wr) : Grow w w' o m := ⟨hr.mono h.size, bstep h hb⟩
set_option maxHeartbeats 1000000 in
theorem specMergeSets_any (v u : Value) (a b : List KeyD) (w : World) (hv : Reads w w.heap.size v (keysD a)) (hu : Reads w w.heap.size u (keysD b)) (hn : a.length ≤ 1048576) (hm : b.length ≤ 1048576) : Calls Tryz.prog 124 #[v, u] w (NewK w (mergeK a b)) := by
  obtain ⟨A, c, rfl, _, _⟩ := hv.shapeK
  obtain ⟨A', c', rfl, _, _⟩ := hu.shapeK
  obtain ⟨R, hR⟩ : ∃ R, mergeK a b = R := ⟨_, rfl⟩
  rw [hR]
  have HT := Lib.hid specSetPut_any
  unfold KeyD.v keyV at HT
  have HR := Lib.hid hR
  have HU := Lib.hid hu
  have b0 := bal1 w (.cells #[] 58)
  have HAt := Lib.hid ((hv.on b0).atK)
  have HRow := Lib.hid (RowK.lit w)
  have HB := Lib.hid b0
  have HZ := Lib.hid b0.size
  clear hv hu hR b0
  go_enter Tryz.func124, Tryz.ntmps124
  go_wp2_with (at_builtin; refine wpList_appK _ rfl (.tmp 7) (.tmp 8) rfl w.heap.size _ [] rfl HRow.out A a.length c a rfl rfl HAt.out (by simp; omega) HZ.out ?_; intro v1 w1 o1 b1; clear HRow HAt)
  have START := Lib.hid (show Grow w w1 v1 a from ⟨o1, HB.out.trans b1⟩)
  clear o1 b1 HB HZ
  go_loopw [5, 6] (fun o i wr => ∃ (k : Nat) (m : List KeyD), k ≤ b.length ∧ i = .int .i64 k ∧ Hid (m.length ≤ a.length + k) ∧ Hid (mergeK m (b.drop k) = R) ∧ Hid (Grow w wr o m)) (fun _ i _ => b.length - (intOf i).toNat)
  case atStart => exact ⟨0, a, Nat.zero_le _, rfl, Lib.hid (Nat.le_refl _), HR, START⟩
  case round =>
    clear START
    obtain ⟨k, m, hk, rfl, HM, HI, HG⟩ := hrel
    obtain ⟨Ao, co, rfl, _, _⟩ := HG.out.1.shape
    by_cases hlt : k < b.length
    · obtain ⟨bb, off, rfl, hbb, hc⟩ := (HU.out.on HG.out.2).keys hlt
      have i1 : (k : Int) < (b.length : Int) := by omega
      have i2 : (0 : Int) ≤ (k : Int) := by omega
      obtain ⟨c0, c1, c2, c3, c4⟩ := hc k hlt
      clear hc
      go_wp2_with fail
      refine (HT.out _ m b[k] _ HG.out.reads (by have := HM.out; omega)).mono ?_
      rintro r w2 ⟨v2, rfl, o2, b2⟩
      have HG2 := Lib.hid (NewK.grow o2 b2 HG.out.2)
      have HM2 := Lib.hid (show (putK m b[k]).length ≤ a.length + (k + 1) by have := putK_len m b[k]; have := HM.out; omega)
      obtain ⟨Ap, cp, rfl, _, _⟩ := o2.shape
      clear o2 b2 c0 c1 c2 c3 c4 HG
      go_wp2
      go_roundw
      case rel => exact ⟨k + 1, putK m b[k], by omega, by go_num, HM2, Lib.hid (merge_step hlt HI.out), HG2⟩
      case measure => simp [intOf]; omega
    · have e : m = R := by
        have := HI.out
        rw [List.drop_eq_nil_of_le (by omega)] at this
        exact this
      subst e
      go_wp2
      go_ret
      exact ⟨_, rfl, HG.out.1, HG.out.2⟩
end Go.Proofs.YtpfepcjbhchpcaaGreat
namespace Go.Proofs.YtpfepcjbhchpcaaGreat
open Go.RowKit
set_option maxRecDepth 100000
set_option linter.unusedSimpArgs false
set_option linter.unusedVariables false

set_option maxHeartbeats 2000000 in
theorem specNodeAt_any (v : Value) (ns : List (List KeyD)) (p q : Int) (w : World) (hv : Reads w w.heap.size v (setsD ns)) (hs : SmallN ns) : Calls Tryz.prog 179 #[.agg #[v], .int .i64 p, .int .i64 q] w (SaysFind w (nodeAtK ns p q)) := by
  obtain ⟨A, c, rfl, _, _⟩ := hv.lenN
  have B0 := bal2 w (.cells #[.slice A ns.length c] 97) (.cells #[.int .i64 0, .int .i64 0, .int .i64 0, .int .i64 0, .int .i64 0] 58)
  obtain ⟨q0, q1⟩ := al2 w (.cells #[.slice A ns.length c] 97) (.cells #[.int .i64 0, .int .i64 0, .int .i64 0, .int .i64 0, .int .i64 0] 58)
  have HB := Lib.hid B0
  have Q0 := Lib.hid q0
  have Q1 := Lib.hid q1
  have HV := Lib.hid (hv.on B0)
  have HS := Lib.hid hs
  have HZ : Hid (((w.alloc (.cells #[.slice A ns.length c] 97)).alloc (.cells #[.int .i64 0, .int .i64 0, .int .i64 0, .int .i64 0, .int .i64 0] 58)).heap.size = w.heap.size + 2) := Lib.hid (by simp)
  have hn := hs.1
  have HC := Lib.hid specSetAt_any
  unfold SaysFind KeyD.v keyV at HC
  unfold SaysFind KeyD.v keyV
  obtain ⟨F, hF⟩ : ∃ F, nodeAtK ns p q = F := ⟨_, rfl⟩
  rw [hF]
  have HF := Lib.hid (show atRev (ns.take ns.length).reverse p q = F by rw [List.take_length]; exact hF)
  clear hv hs B0 q0 q1 hF
  go_enter Tryz.func179, Tryz.ntmps179
  go_wp2
  generalize (w.alloc (.cells #[.slice A ns.length c] 97)).alloc (.cells #[.int .i64 0, .int .i64 0, .int .i64 0, .int .i64 0, .int .i64 0] 58) = W at *
  go_loopw [8] (fun i wr => ∃ r : Nat, r ≤ ns.length ∧ i = .int .i64 ((r : Int) - 1) ∧ Hid (atRev (ns.take r).reverse p q = F) ∧ Hid (Below W.heap.size W wr)) (fun i _ => (intOf i + 1).toNat)
  case atStart => exact ⟨ns.length, Nat.le_refl _, rfl, HF, Lib.hid (Below.refl _ _)⟩
  case round =>
    clear HF
    obtain ⟨r, hr, rfl, HI, HW⟩ := hrel
    have hzW := HZ.out
    have hzr := HW.out.size
    rcases Nat.eq_zero_or_pos r with rfl | hpos
    · have t0 : decide ((0 : Int) ≤ ((0 : Nat) : Int) - 1) = false := by decide
      obtain ⟨z0, z1, z2, z3, z4, z5⟩ := box5 (box_on Q1.out HW.out)
      have hF : F = none := by rw [← HI.out]; rfl
      clear HI
      go_wp2
      refine bodyPost_ret (v := .tuple #[(F.getD zK).v, .bool F.isSome]) (by simp [results, Tryz.results179, go_sem, keyV, KeyD.v, hF, zK, *]) rfl ⟨rfl, ?_⟩
      exact b5' (bstep HB.out HW.out) (by omega)
    · obtain ⟨k, rfl⟩ : ∃ k, r = k + 1 := ⟨r - 1, by omega⟩
      have hlt : k < ns.length := by omega
      have e1 : ((k + 1 : Nat) : Int) - 1 = (k : Int) := by omega
      rw [e1]
      have HI2 := HI.out
      rw [atRev_step hlt] at HI2
      obtain ⟨b, off, rfl, hbb, hc⟩ := (HV.out.on HW.out).set hlt
      obtain ⟨A1, d1, c1, _, _, r1⟩ := hc k hlt
      have hl := HS.out.at hlt
      have R1 := Lib.hid r1
      obtain ⟨x0, x1⟩ := box1N (box_on Q0.out HW.out)
      have i1 : (k : Int) < (ns.length : Int) := by omega
      have i2 : (0 : Int) ≤ (k : Int) := by omega
      obtain ⟨x, hx⟩ : ∃ x, (atK ns[k] p q).getD zK = x := ⟨_, rfl⟩
      obtain ⟨y, hy⟩ : ∃ y, (atK ns[k] p q).isSome = y := ⟨_, rfl⟩
      have HX := Lib.hid hx
      have HY := Lib.hid hy
      have HI3 : Hid (y = false → atRev (ns.take k).reverse p q = F) := Lib.hid (by
        intro h
        rw [h] at hy
        rw [Option.isSome_eq_false_iff, Option.isNone_iff_eq_none] at hy
        rw [hy] at HI2
        exact HI2)
      have HI4 : Hid (y = true → F = if x.c = 0 then none else some x) := Lib.hid (by
        intro h
        rw [h] at hy
        obtain ⟨x', hx'⟩ := Option.isSome_iff_exists.1 hy
        rw [hx'] at HI2 hx
        simp only [Option.getD_some] at hx
        subst hx
        exact HI2.symm)
      clear hc r1 HI2 HI hx hy e1 hpos
      go_wp2_with fail
      refine (HC.out _ ns[k] p q _ R1.out (by omega)).mono ?_
      rintro r w1 ⟨rfl, b1⟩
      rw [HX.out, HY.out]
      have B1 := Lib.hid (HW.out.trans (b1.mono hzr))
      have BA := Lib.hid (B1.out.trans ((bal1 w1 (.cells #[.int .i64 x.a, .int .i64 x.b, .int .i64 x.c, .int .i64 x.d, .int .i64 x.e] 58)).mono B1.out.size))
      have P3 := Lib.hid (al1 w1 (.cells #[.int .i64 x.a, .int .i64 x.b, .int .i64 x.c, .int .i64 x.d, .int .i64 x.e] 58))
      have hz1 := B1.out.size
      clear b1 x0 x1 c1
      cases y
      · have HI5 := Lib.hid (HI3.out rfl)
        clear HI3 HI4
        go_wp2
        go_roundw
        case rel => exact ⟨k, by omega, by go_num, HI5, BA⟩
        case measure => simp [intOf]
      · have hF := HI4.out rfl
        clear HI3 HI4
        by_cases hx0 : x.c = 0
        · have z : (x.c == 0) = true := by simp [hx0]
          rw [if_pos hx0] at hF
          obtain ⟨z0, z1, z2, z3, z4, z5⟩ := box5 (box_on Q1.out BA.out)
          have hne : ¬ w1.heap.size = w.heap.size + 1 := by omega
          clear hx0
          go_wp2
          refine bodyPost_ret (v := .tuple #[(F.getD zK).v, .bool F.isSome]) (by simp [results, Tryz.results179, go_sem, keyV, KeyD.v, hF, zK, *]) rfl ⟨rfl, ?_⟩
          exact b5' (bstep HB.out BA.out) (by omega)
        · have z : (x.c == 0) = false := by simp [hx0]
          rw [if_neg hx0] at hF
          obtain ⟨z0, z1, z2, z3, z4, z5⟩ := box5 (box_on Q1.out BA.out)
          have hne : ¬ w1.heap.size = w.heap.size + 1 := by omega
          clear hx0
          go_wp2
          refine bodyPost_ret (v := .tuple #[(F.getD zK).v, .bool F.isSome]) (by simp [results, Tryz.results179, go_sem, keyV, KeyD.v, hF, *]) rfl ⟨rfl, ?_⟩
          exact b5' (bstep HB.out BA.out) (by omega)
theorem fold_take {ns : List (List KeyD)} {k : Nat} (h : k < ns.length) : (ns.take (k + 1)).foldl mergeK [] = mergeK ((ns.take k).foldl mergeK []) ns[k] := by
  rw [List.take_succ_eq_append_getElem h, List.foldl_append]
  rfl
theorem fold_take_len (ns : List (List KeyD)) (k : Nat) : ((ns.take k).foldl mergeK []).length ≤ sumN ns := by
  have h1 := fold_len (ns.take k) []
  have h2 := sumN_take_le ns k
  simp only [List.length_nil] at h1
  omega
set_option maxHeartbeats 1000000 in
theorem specNodeKeys_any (v : Value) (ns : List (List KeyD)) (w : World) (hv : Reads w w.heap.size v (setsD ns)) (h1 : ns.length ≤ 1048576) (h2 : sumN ns ≤ 1048576) : Calls Tryz.prog 61 #[.agg #[v]] w (NewK w (nodeKeysK ns)) := by
  obtain ⟨A, c, rfl, _, _⟩ := hv.lenN
  have B0 := bal1 w (.cells #[.slice A ns.length c] 97)
  have HB := Lib.hid B0
  have Q0 := Lib.hid (al1 w (.cells #[.slice A ns.length c] 97))
  have HV := Lib.hid (hv.on B0)
  have hnk : nodeKeysK ns = dropK ((ns.take ns.length).foldl mergeK []) := by rw [List.take_length]; rfl
  rw [hnk]
  clear hv B0 hnk
  go_enter Tryz.func61, Tryz.ntmps61
  go_upto_region 1 with (fail)
  generalize w.alloc (.cells #[.slice A ns.length c] 97) = W at *
  have START := Lib.hid (show Grow W (W.alloc (.cells #[] 58)) (.slice (some ⟨W.heap.size, 0, none⟩) 0 0) [] from ⟨RowK.lit W, bal1 _ _⟩)
  go_wp2
  go_loopw [3, 4] (fun o i wr => ∃ (k : Nat) (m : List KeyD), k ≤ ns.length ∧ i = .int .i64 k ∧ Hid (m = (ns.take k).foldl mergeK []) ∧ Hid (Grow W wr o m)) (fun _ i _ => ns.length - (intOf i).toNat)
  case atStart => exact ⟨0, [], Nat.zero_le _, rfl, Lib.hid rfl, START⟩
  case round =>
    clear START
    obtain ⟨k, m, hk, rfl, HM, HG⟩ := hrel
    obtain ⟨Ao, co, rfl, _, _⟩ := HG.out.1.shape
    obtain ⟨x0, x1⟩ := box1N (box_on Q0.out HG.out.2)
    have hm : m.length ≤ 1048576 := by rw [HM.out]; exact Nat.le_trans (fold_take_len ns k) h2
    by_cases hlt : k < ns.length
    · obtain ⟨b, off, rfl, hbb, hc⟩ := (HV.out.on HG.out.2).set hlt
      obtain ⟨A1, d1, c1, _, _, r1⟩ := hc k hlt
      have hl := Nat.le_trans (sumN_mem (List.getElem_mem hlt)) h2
      have R1 := Lib.hid r1
      have i1 : (k : Int) < (ns.length : Int) := by omega
      have i2 : (0 : Int) ≤ (k : Int) := by omega
      clear hc r1
      go_wp2_with fail
      refine (specMergeSets_any _ _ m ns[k] _ HG.out.reads R1.out hm hl).mono ?_
      rintro r w1 ⟨v1, rfl, o1, b1⟩
      have HG1 := Lib.hid (NewK.grow o1 b1 HG.out.2)
      have HM1 := Lib.hid (show mergeK m ns[k] = (ns.take (k + 1)).foldl mergeK [] by rw [fold_take hlt, HM.out])
      clear o1 b1 x0 x1 c1
      go_wp2
      go_roundw
      case rel => exact ⟨k + 1, _, by omega, by go_num, HM1, HG1⟩
      case measure => simp [intOf]; omega
    · have e : k = ns.length := by omega
      subst e
      go_wp2_with fail
      refine (specDrop_any _ m _ HG.out.reads (by omega)).mono ?_
      rintro r w1 ⟨v1, rfl, o1, b1⟩
      rw [HM.out] at o1
      have O1 := Lib.hid (o1.mono (Nat.le_trans HB.out.size HG.out.2.size))
      have B1 := Lib.hid (bstep (bstep HB.out HG.out.2) b1)
      clear o1 b1 x0 x1
      go_wp2
      go_ret
      exact ⟨_, rfl, O1.out, B1.out⟩
theorem Owns.wrap {w : World} {base : Nat} {v : Value} {l : List KeyD} (h : Owns w (fun b => base ≤ b) v (keysD l)) (hb : base ≤ w.heap.size) : Owns (w.alloc (.cells #[v] 54)) (fun b => base ≤ b) (.slice (some ⟨w.heap.size, 0, none⟩) 1 1) (setsD [l]) := by
  have h2 : Owns (w.alloc (.cells #[v] 54)) (fun b => base ≤ b ∧ b ≠ w.heap.size) v (keysD l) := (h.lt.keep (fun b _ hl => (bal1 w (.cells #[v] 54)).block b hl)).mono (fun b hb => ⟨hb.1, by omega⟩)
  exact OwnsL.row (S := fun b => base ≤ b) (cs := [keysD l]) (xs := [v]) hb (heap_alloc_new w _) (Nat.le_refl _) (by unfold maxLen; omega) rfl rfl rfl (.one h2)
end Go.Proofs.YtpfepcjbhchpcaaGreat
namespace Go.Proofs.YtpfepcjbhchpcaaGreat
open Go.RowKit
set_option maxRecDepth 100000
set_option linter.unusedSimpArgs false
set_option linter.unusedVariables false

theorem place_step {l : List KeyD} {k : Nat} {x : KeyD} (h : k < l.length) (hp : lessK l[k] x = true) (hf : placeK l x = k + placeK (l.drop k) x) : placeK l x = (k + 1) + placeK (l.drop (k + 1)) x := by
  rw [drop_at h] at hf
  unfold placeK at hf ⊢
  rw [List.findIdx_cons, hp] at hf
  simp only [Bool.not_true, cond_false] at hf
  omega
theorem place_hit {l : List KeyD} {k : Nat} {x : KeyD} (h : k < l.length) (hp : lessK l[k] x = false) (hf : placeK l x = k + placeK (l.drop k) x) : placeK l x = k := by
  rw [drop_at h] at hf
  unfold placeK at hf ⊢
  rw [List.findIdx_cons, hp] at hf
  simpa using hf
set_option maxHeartbeats 2000000 in
theorem placeOf_any (v : Value) (l : List KeyD) (x : KeyD) (w : World) (hv : Reads w w.heap.size v (keysD l)) (hn : l.length ≤ 2097152) : Calls Tryz.prog 245 #[.agg #[v, lessV], x.v] w fun e w' => e = .returned (.int .i64 (placeK l x : Nat)) ∧ Below w.heap.size w w' := by
  obtain ⟨A, c, rfl, _, _⟩ := hv.shapeK
  have HT := Lib.hid lessI
  unfold KeyD.v keyV at HT
  unfold KeyD.v keyV lessV
  obtain ⟨N, hN⟩ : ∃ N, placeK l x = N := ⟨_, rfl⟩
  rw [hN]
  obtain ⟨q0, q1⟩ := al2 w (.cells #[.slice A l.length c, .func (.func 244) #[] #[]] 229) (.cells #[.int .i64 x.a, .int .i64 x.b, .int .i64 x.c, .int .i64 x.d, .int .i64 x.e] 58)
  have b0 := bal2 w (.cells #[.slice A l.length c, .func (.func 244) #[] #[]] 229) (.cells #[.int .i64 x.a, .int .i64 x.b, .int .i64 x.c, .int .i64 x.d, .int .i64 x.e] 58)
  have Q0 := Lib.hid q0
  have Q1 := Lib.hid q1
  have HB := Lib.hid b0
  have HV := Lib.hid (hv.on b0)
  have HN := Lib.hid hN
  clear hv b0 q0 q1 hN
  go_enter Tryz.func245, Tryz.ntmps245
  go_wp2
  generalize (w.alloc (.cells #[.slice A l.length c, .func (.func 244) #[] #[]] 229)).alloc (.cells #[.int .i64 x.a, .int .i64 x.b, .int .i64 x.c, .int .i64 x.d, .int .i64 x.e] 58) = W at *
  go_loopw [5, 6, 10] (fun _ _ i wr => ∃ k : Nat, k ≤ l.length ∧ i = .int .i64 k ∧ Hid (placeK l x = k + placeK (l.drop k) x) ∧ Hid (Below W.heap.size W wr)) (fun _ _ i _ => l.length - (intOf i).toNat)
  case atStart => exact ⟨0, Nat.zero_le _, rfl, Lib.hid (by simp), Lib.hid (Below.refl _ _)⟩
  case round =>
    obtain ⟨k, hk, rfl, HI, HW⟩ := hrel
    have hzr := HW.out.size
    by_cases hlt : k < l.length
    · obtain ⟨b, off, rfl, hbb, hc⟩ := (HV.out.on HW.out).keys hlt
      have i1 : (k : Int) < (l.length : Int) := by omega
      have i2 : (0 : Int) ≤ (k : Int) := by omega
      obtain ⟨c0, c1, c2, c3, c4⟩ := hc k hlt
      have ba := bal1 wr (.cells #[.int .i64 (l[k]).a, .int .i64 (l[k]).b, .int .i64 (l[k]).c, .int .i64 (l[k]).d, .int .i64 (l[k]).e] 58)
      have BA := Lib.hid (HW.out.trans (ba.mono hzr))
      obtain ⟨x0, x1, x2⟩ := box2 (box_on Q0.out BA.out)
      obtain ⟨y0, y1, y2, y3, y4, y5⟩ := box5 (box_on Q1.out BA.out)
      clear hc ba
      cases hs : lessK l[k] x
      · have HS := Lib.hid hs
        clear hs
        go_wp2_with fail
        refine (HT.out l[k] x _).mono ?_
        rintro r w1 ⟨rfl, b1⟩
        rw [HS.out]
        have B1 := Lib.hid (BA.out.trans (b1.mono BA.out.size))
        clear c0 c1 c2 c3 c4 x0 x1 x2 y0 y1 y2 y3 y4 y5 b1
        go_wp2
        go_ret
        exact ⟨ret_intB (by rw [← HN.out, place_hit hlt HS.out HI.out]), bstep HB.out B1.out⟩
      · have HS := Lib.hid hs
        clear hs
        go_wp2_with fail
        refine (HT.out l[k] x _).mono ?_
        rintro r w1 ⟨rfl, b1⟩
        rw [HS.out]
        have B1 := Lib.hid (BA.out.trans (b1.mono BA.out.size))
        clear c0 c1 c2 c3 c4 x0 x1 x2 y0 y1 y2 y3 y4 y5 b1
        go_wp2
        go_roundw
        case rel => exact ⟨k + 1, by omega, by go_num, Lib.hid (place_step hlt HS.out HI.out), B1⟩
        case measure => simp [intOf]; omega
    · obtain ⟨x0, x1, x2⟩ := box2 (box_on Q0.out HW.out)
      have e : N = l.length := by
        rw [← HN.out, HI.out, List.drop_eq_nil_of_le (by omega)]
        simp [placeK]
        omega
      subst e
      go_wp2
      go_ret
      exact ⟨rfl, bstep HB.out HW.out⟩
theorem run_makeKeys1 (m : Nat) (hm : m ≤ 2000000) (w : World) :
    (Instr.makeSlice 54 (.int .i64 0) (.int .i64 ((m : Int) + 1))).run Tryz.prog w = .ok (.slice (some ⟨w.heap.size, 0, none⟩) 0 (m + 1)) (w.alloc (.cells (madeCells #[.int .i64 0, .int .i64 0, .int .i64 0, .int .i64 0, .int .i64 0] ((m + 1) * 5)) 58)) := run_makeKeys 0 (m + 1) (Nat.zero_le _) (by omega) w
theorem At.take {w : World} {A : Option Addr} {l : List KeyD} (h : At w A (kvl l)) (N : Nat) : At w A (kvl (l.take N)) := by
  rcases h with h | ⟨b, off, rfl, hc⟩
  · left
    have : l = [] := by
      have := congrArg List.length h
      rw [kvl_len] at this
      exact List.length_eq_zero_iff.1 (by simp at this; omega)
    subst this
    simp [kvl]
  · right
    have he : kvl l = kvl (l.take N) ++ kvl (l.drop N) := by rw [← kvl_append, List.take_append_drop]
    refine ⟨b, off, rfl, fun i hi => ?_⟩
    have hlt : i < (kvl l).length := by rw [he, List.length_append]; omega
    rw [hc i hlt]
    simp only [he, List.getElem_append_left hi]
theorem Reads.tailK {w : World} {B b off n c : Nat} {e : TypeId} {l : List KeyD} (h : Reads w B (.slice (some ⟨b, off, none⟩) n c) (.row e 5 l.length (l.flatMap kC))) (N : Nat) (hN : N < l.length) : b < B ∧ ∀ k (hk : k < (l.drop N).length), Five w b (off + N * 5 + k * 5) (l.drop N)[k] := by
  obtain ⟨b', off', he, hb, hc⟩ := h.keys hN
  cases he
  refine ⟨hb, fun k hk => ?_⟩
  have h1 := hc (N + k) (by simp at hk; omega)
  rw [List.getElem_drop, Nat.add_assoc, ← Nat.add_mul]
  exact h1
theorem flip_filter (t : List KeyD) (x : KeyD) : t.filter (fun y => !spotK y x) = t.filter (fun y => !spotK x y) := by
  congr 1
  funext y
  rw [spot_comm]
set_option maxHeartbeats 4000000 in
theorem put_any (v : Value) (l : List KeyD) (x : KeyD) (w : World) (hv : Reads w w.heap.size v (keysD l)) (hn : l.length ≤ 2000000) : Calls Tryz.prog 228 #[.agg #[v, lessV], x.v] w fun e w' => ∃ v', e = .returned (.agg #[v', lessV]) ∧ RowK w' w.heap.size v' (putK l x) ∧ Below w.heap.size w w' := by
  obtain ⟨A, c, rfl, hcap, hmax⟩ := hv.shapeK
  have hmk := run_makeKeys1 l.length hn
  have hst := store_less
  have HP := Lib.hid (fun w => placeOf_any (.slice A l.length c) l x w)
  have HT := Lib.hid (same_any A l.length c x)
  unfold KeyD.v keyV lessV at HT HP
  unfold KeyD.v keyV lessV
  obtain ⟨R, hR⟩ : ∃ R, putK l x = R := ⟨_, rfl⟩
  rw [hR]
  rw [put_eq] at hR
  have hple := place_le l x
  obtain ⟨N, hN⟩ : ∃ N, placeK l x = N := ⟨_, rfl⟩
  rw [hN] at hR hple HP
  obtain ⟨q0, q1, q2⟩ := al3 w (.cells #[.slice A l.length c, .func (.func 244) #[] #[]] 229) (.cells #[.int .i64 x.a, .int .i64 x.b, .int .i64 x.c, .int .i64 x.d, .int .i64 x.e] 58) (.cells #[.slice none 0 0, .nilFunc] 229)
  have b0 := bal3 w (.cells #[.slice A l.length c, .func (.func 244) #[] #[]] 229) (.cells #[.int .i64 x.a, .int .i64 x.b, .int .i64 x.c, .int .i64 x.d, .int .i64 x.e] 58) (.cells #[.slice none 0 0, .nilFunc] 229)
  have Q0 := Lib.hid q0
  have Q1 := Lib.hid q1
  have Q2 := Lib.hid q2
  have HB := Lib.hid b0
  have HV := Lib.hid (hv.on b0)
  have HR := Lib.hid hR
  have HZ : Hid ((((w.alloc (.cells #[.slice A l.length c, .func (.func 244) #[] #[]] 229)).alloc (.cells #[.int .i64 x.a, .int .i64 x.b, .int .i64 x.c, .int .i64 x.d, .int .i64 x.e] 58)).alloc (.cells #[.slice none 0 0, .nilFunc] 229)).heap.size = w.heap.size + 3) := Lib.hid (by simp)
  clear hv b0 q0 q1 q2 hR hN
  go_enter Tryz.func228, Tryz.ntmps228
  go_wp2_with fail
  refine (HP.out _ HV.out (by omega)).mono ?_
  rintro r w1 ⟨rfl, b1⟩
  have P0 := Lib.hid (box_on Q0.out b1)
  have P1 := Lib.hid (box_on Q1.out b1)
  have P2 := Lib.hid (box_on Q2.out b1)
  have B1 := Lib.hid (bstep HB.out b1)
  have V1 := Lib.hid (HV.out.on b1)
  have hz1 := b1.size
  rw [HZ.out] at hz1
  clear b1 Q0 Q1 Q2 HB HV HZ HP
  obtain ⟨x0, x1, x2⟩ := box2 P0.out
  have i1 : (N : Int) ≤ (l.length : Int) := by omega
  have i2 : (0 : Int) ≤ (N : Int) := by omega
  have i3 : (N : Int) ≤ (c : Int) := by omega
  have i4 : IntKind.i64.wrap ((l.length : Int) + 1) = (l.length : Int) + 1 := by rw [IntKind.wrap_i64]; omega
  go_upto_region 3 with (fail)
  have hbm := bal1 w1 (.cells (madeCells #[.int .i64 0, .int .i64 0, .int .i64 0, .int .i64 0, .int .i64 0] ((l.length + 1) * 5)) 58)
  have P0' := Lib.hid (box_on P0.out hbm)
  have START := Lib.hid (show Grow w1 _ _ _ from ⟨RowK.made w1 (l.length + 1) (by omega), hbm⟩)
  clear hmk x0 x1 x2 hbm
  generalize w1.alloc (.cells (madeCells #[.int .i64 0, .int .i64 0, .int .i64 0, .int .i64 0, .int .i64 0] ((l.length + 1) * 5)) 58) = w2 at *
  obtain ⟨x0, x1, x2⟩ := box2 P0'.out
  have HAt := Lib.hid ((V1.out.on START.out.2).atK.take N)
  have HZ := Lib.hid START.out.2.size
  clear P0'
  go_upto_region 4 with (at_builtin; refine wpList_appK _ rfl (.tmp 17) (.tmp 21) rfl w1.heap.size _ [] rfl START.out.1 A N c (l.take N) rfl (by simp; omega) HAt.out (by simp; omega) HZ.out ?_; intro v3 w3 o3 b3)
  have HG3 := Lib.hid (show Grow w1 w3 v3 (l.take N) from ⟨o3, START.out.2.trans b3⟩)
  obtain ⟨A3, c3, rfl, _, _⟩ := o3.shape
  clear o3 b3 START HAt HZ x0 x1 x2
  have hl3 : (l.take N).length = N := by simp; omega
  obtain ⟨y0, y1, y2, y3, y4, y5⟩ := box5 (box_on P1.out HG3.out.2)
  have ba := bal1 w3 (.cells #[.int .i64 x.a, .int .i64 x.b, .int .i64 x.c, .int .i64 x.d, .int .i64 x.e] 58)
  have HRow := Lib.hid (HG3.out.on ba).1
  have HB := Lib.hid (HG3.out.on ba).2
  have HAt := Lib.hid (At.key w3 x 58)
  have HZ := Lib.hid HB.out.size
  clear ba HG3
  go_upto_region 5 with (at_builtin; refine wpList_appK _ rfl (.tmp 23) (.tmp 25) rfl w1.heap.size _ (l.take N) rfl HRow.out (some ⟨w3.heap.size, 0, none⟩) 1 1 [x] rfl rfl HAt.out (by simp; omega) HZ.out ?_; intro v4 w4 o4 b4; clear HRow HAt y0 y1 y2 y3 y4 y5)
  have HG4 := Lib.hid (show Grow w1 w4 v4 (l.take N ++ [x]) from ⟨o4, HB.out.trans b4⟩)
  obtain ⟨A4, c4, rfl, _, _⟩ := o4.shape
  clear o4 b4 HB HZ
  have hl4 : (l.take N ++ [x]).length = N + 1 := by simp; omega
  have HR4 : Hid ((l.take N ++ [x]) ++ (l.drop N).filter (fun y => !spotK x y) = R) := Lib.hid (by rw [← flip_filter, ← HR.out]; simp)
  have HL4 := Lib.hid hl4
  have hlt4 : (l.drop N).length = l.length - N := by simp
  clear HR hl4 hl3
  generalize l.take N ++ [x] = m4 at *
  obtain ⟨x0, x1, x2⟩ := box2 (box_on P0.out HG4.out.2)
  by_cases hN : N < l.length
  · have hA : ∃ b off, A = some ⟨b, off, none⟩ := by
      obtain ⟨b, off, h, _⟩ := V1.out.keys hN
      exact ⟨b, off, h⟩
    obtain ⟨b, off, rfl⟩ := hA
    obtain ⟨hbb, hc⟩ := V1.out.tailK N hN
    have FK : Hid (∀ wt, Below w1.heap.size w1 wt → ∀ k (hk : k < (l.drop N).length), Five wt b (off + N * 5 + k * 5) (l.drop N)[k]) := Lib.hid (fun wt h k hk => (hc k hk).on hbb h)
    have hcN : ¬ c = N := by omega
    clear hc V1
    have HLT := Lib.hid hlt4
    clear hlt4
    generalize l.drop N = t at *
    go_wp2
    clear x0 x1 x2
    go_loopw [6, 8, 32] (fun o _ i wr => ∃ (k : Nat) (m : List KeyD), k ≤ l.length - N ∧ i = .int .i64 k ∧ Hid (m.length ≤ N + 1 + k) ∧ Hid (m ++ (t.drop k).filter (fun y => !spotK x y) = R) ∧ Hid (Grow w1 wr o m)) (fun _ _ i _ => l.length - N - (intOf i).toNat)
    case atStart => exact ⟨0, m4, Nat.zero_le _, rfl, Lib.hid (Nat.le_of_eq HL4.out), HR4, HG4⟩
    case round =>
      clear HG4 HR4 HL4
      obtain ⟨k, m, hk, rfl, HM, HI, HG⟩ := hrel
      obtain ⟨Ao, co, rfl, _, _⟩ := HG.out.1.shape
      by_cases hlt : k < l.length - N
      · have hkt : k < t.length := by rw [HLT.out]; exact hlt
        have i5 : (k : Int) < ((l.length - N : Nat) : Int) := by omega
        have i6 : (0 : Int) ≤ (k : Int) := by omega
        obtain ⟨c0, c1, c2, c5, c6⟩ := FK.out _ HG.out.2 k hkt
        have ba := bal1 wr (.cells #[.int .i64 (t[k]).a, .int .i64 (t[k]).b, .int .i64 (t[k]).c, .int .i64 (t[k]).d, .int .i64 (t[k]).e] 58)
        have HGa := Lib.hid (HG.out.on ba)
        have PK := Lib.hid (al1 wr (.cells #[.int .i64 (t[k]).a, .int .i64 (t[k]).b, .int .i64 (t[k]).c, .int .i64 (t[k]).d, .int .i64 (t[k]).e] 58))
        obtain ⟨x0, x1, x2⟩ := box2 (box_on P0.out HGa.out.2)
        obtain ⟨y0, y1, y2, y3, y4, y5⟩ := box5 (box_on P1.out HGa.out.2)
        clear ba
        cases hs : spotK x t[k]
        · have HS := Lib.hid hs
          clear hs
          go_upto_region 9 with (go_at_call 246; refine (HT.out t[k] _).mono ?_; rintro r w5 ⟨rfl, b5⟩; rw [HS.out])
          have HG5 := Lib.hid (HGa.out.on b5)
          have PK5 := box_on PK.out b5
          clear c0 c1 c2 c5 c6 x0 x1 x2 y0 y1 y2 y3 y4 y5 b5 HGa HG PK
          obtain ⟨y0, y1, y2, y3, y4, y5⟩ := box5 PK5
          clear PK5
          have ba := bal1 w5 (.cells #[.int .i64 (t[k]).a, .int .i64 (t[k]).b, .int .i64 (t[k]).c, .int .i64 (t[k]).d, .int .i64 (t[k]).e] 58)
          have HRow := Lib.hid (HG5.out.on ba).1
          have HB := Lib.hid (HG5.out.on ba).2
          have HAt := Lib.hid (At.key w5 t[k] 58)
          have HZ := Lib.hid HB.out.size
          clear ba HG5
          go_wp2_with (at_builtin; refine wpList_appK _ rfl (.tmp 41) (.tmp 43) rfl w1.heap.size _ m rfl HRow.out (some ⟨w5.heap.size, 0, none⟩) 1 1 [t[k]] rfl rfl HAt.out (by have := HM.out; simp; omega) HZ.out ?_; intro v6 w6 o6 b6; clear HRow HAt y0 y1 y2 y3 y4 y5)
          have HG6 := Lib.hid (show Grow w1 w6 v6 (m ++ [t[k]]) from ⟨o6, HB.out.trans b6⟩)
          clear o6 b6 HB HZ
          go_roundw
          case rel => exact ⟨k + 1, m ++ [t[k]], by omega, by go_num, Lib.hid (by have := HM.out; simp; omega), Lib.hid (filt_yes (p := fun y => !spotK x y) hkt (by rw [HS.out]; rfl) HI.out), HG6⟩
          case measure => simp [intOf]; omega
        · have HS := Lib.hid hs
          clear hs
          go_wp2_with fail
          refine (HT.out t[k] _).mono ?_
          rintro r w5 ⟨rfl, b5⟩
          rw [HS.out]
          have HG5 := Lib.hid (HGa.out.on b5)
          clear c0 c1 c2 c5 c6 x0 x1 x2 y0 y1 y2 y3 y4 y5 b5 HGa HG PK
          go_wp2
          go_roundw
          case rel => exact ⟨k + 1, m, by omega, by go_num, Lib.hid (by have := HM.out; omega), Lib.hid (filt_no (p := fun y => !spotK x y) hkt (by rw [HS.out]; rfl) HI.out), HG5⟩
          case measure => simp [intOf]; omega
      · have e : m = R := by
          have h := HI.out
          rw [List.drop_eq_nil_of_le (by rw [HLT.out]; omega)] at h
          simpa using h
        subst e
        obtain ⟨x0, x1, x2⟩ := box2 (box_on P0.out HG.out.2)
        obtain ⟨z0, z1, z2⟩ := box2 (box_on P2.out HG.out.2)
        go_wp2
        refine bodyPost_ret (v := .agg #[.slice Ao m.length co, lessV]) (by simp [results, Tryz.results228, go_sem, lessV, *]) rfl ⟨_, rfl, ?_, ?_⟩
        · exact ((HG.out.1.set (by omega)).set (by omega)).mono (by omega)
        · exact ((bstep B1.out HG.out.2).setCell (p := ⟨w.heap.size + 1 + 1, 0, none⟩) (by simp; omega) _).setCell (p := ⟨w.heap.size + 1 + 1, 1, none⟩) (by simp; omega) _
  · have hNl : N = l.length := by omega
    subst hNl
    have hR5 : m4 = R := by
      have h := HR4.out
      rw [List.drop_length] at h
      simpa using h
    subst hR5
    by_cases hc0 : c = l.length
    all_goals
      go_wp2
      clear x0 x1 x2
      go_loopw [6, 8, 32] (fun o _ i wr => i = .int .i64 0 ∧ o = .slice A4 m4.length c4 ∧ w4 = wr) (fun _ _ _ _ => 0)
      case atStart => exact ⟨rfl, rfl, rfl⟩
      case round =>
        obtain ⟨rfl, rfl, rfl⟩ := hrel
        obtain ⟨x0, x1, x2⟩ := box2 (box_on P0.out HG4.out.2)
        obtain ⟨z0, z1, z2⟩ := box2 (box_on P2.out HG4.out.2)
        go_wp2
        refine bodyPost_ret (v := .agg #[.slice A4 m4.length c4, lessV]) (by simp [results, Tryz.results228, go_sem, lessV, *]) rfl ⟨_, rfl, ?_, ?_⟩
        · exact ((HG4.out.1.set (by omega)).set (by omega)).mono (by omega)
        · exact ((bstep B1.out HG4.out.2).setCell (p := ⟨w.heap.size + 1 + 1, 0, none⟩) (by simp; omega) _).setCell (p := ⟨w.heap.size + 1 + 1, 1, none⟩) (by simp; omega) _
end Go.Proofs.YtpfepcjbhchpcaaGreat
namespace Go.Proofs.YtpfepcjbhchpcaaGreat
open Go.RowKit
set_option maxRecDepth 100000
set_option linter.unusedSimpArgs false
set_option linter.unusedVariables false

theorem cloneK_any (v : Value) (l : List KeyD) (w : World) (hv : Reads w w.heap.size v (keysD l)) (hn : l.length ≤ 2097152) : Calls Tryz.prog 218 #[v] w (NewK w l) := by
  obtain ⟨A, c, rfl, _, _⟩ := hv.shapeK
  rcases A with _ | ad
  · have h0 : l = [] := by
      rcases hv.atK with h | ⟨b, off, h, _⟩
      · have := congrArg List.length h
        rw [kvl_len] at this
        exact List.length_eq_zero_iff.1 (by simp at this; omega)
      · cases h
    subst h0
    have hq := run_eqnil (P := Tryz.prog) w 54 58 none 0 c Tryz.underlying54
    go_enter Tryz.func218, Tryz.ntmps218
    go_wp2
    go_ret
    exact ⟨_, rfl, row_nil _ _ _ _, Below.refl _ _⟩
  · have b0 := bal1 w (.cells #[] 58)
    have HAt := Lib.hid ((hv.on b0).atK)
    have HRow := Lib.hid (RowK.lit w)
    have HB := Lib.hid b0
    have HZ := Lib.hid b0.size
    have hq := run_eqnil (P := Tryz.prog) w 54 58 (some ad) l.length c Tryz.underlying54
    clear hv b0
    go_enter Tryz.func218, Tryz.ntmps218
    go_wp2_with (at_builtin; refine wpList_appK _ rfl (.tmp 5) (.tmp 6) rfl w.heap.size _ [] rfl HRow.out (some ad) l.length c l rfl rfl HAt.out (by simp; omega) HZ.out ?_; intro v1 w1 o1 b1; clear HRow HAt)
    go_ret
    exact ⟨v1, rfl, o1, HB.out.trans b1⟩
set_option maxHeartbeats 2000000 in
theorem implMergeSets_any (v u : Value) (a b : List KeyD) (w : World) (hv : Reads w w.heap.size v (keysD a)) (hu : Reads w w.heap.size u (keysD b)) (hn : a.length + b.length ≤ 1500000) : Calls Tryz.prog 198 #[v, u] w (NewK w (mergeK a b)) := by
  obtain ⟨A, c, rfl, _, _⟩ := hv.shapeK
  obtain ⟨A', c', rfl, _, _⟩ := hu.shapeK
  obtain ⟨R, hR⟩ : ∃ R, mergeK a b = R := ⟨_, rfl⟩
  rw [hR]
  have HC := Lib.hid cloneK_any
  have HK := Lib.hid keySet_any
  have HP := Lib.hid put_any
  unfold lessV at HK HP
  unfold KeyD.v keyV at HP
  have hst := store_less
  have HR := Lib.hid hR
  have HU := Lib.hid hu
  have HV := Lib.hid hv
  clear hv hu hR
  go_enter Tryz.func198, Tryz.ntmps198
  go_wp2_with fail
  refine (HC.out _ a _ HV.out (by omega)).mono ?_
  rintro r w1 ⟨v1, rfl, o1, b1⟩
  have HG1 := Lib.hid (show Grow w w1 v1 a from ⟨o1, b1⟩)
  obtain ⟨A1, c1, rfl, _, _⟩ := o1.shape
  clear o1 b1 HV
  go_wp2_with fail
  refine (HK.out _ _ _ _).mono ?_
  rintro r w2 ⟨rfl, b2⟩
  have HG2 := Lib.hid (HG1.out.on b2)
  have ba := bal1 w2 (.cells #[.slice A1 a.length c1, .func (.func 244) #[] #[]] 229)
  have START := Lib.hid (HG2.out.on ba)
  have BOX := Lib.hid (al1 w2 (.cells #[.slice A1 a.length c1, .func (.func 244) #[] #[]] 229))
  have hz2 := HG2.out.2.size
  have NEQ : Hid (∀ g, (Value.slice A1 a.length c1).ownBlock = some g → g ≠ w2.heap.size) := Lib.hid (fun g hg => by have := (HG2.out.1.lt g hg).1; omega)
  clear HG1 HG2 b2 ba
  go_wp2
  go_loopw [7, 13] (fun _ i wr => ∃ (k : Nat) (m : List KeyD) (o : Value), k ≤ b.length ∧ i = .int .i64 k ∧ Hid (m.length ≤ a.length + k) ∧ Hid (mergeK m (b.drop k) = R) ∧ Hid (Grow w wr o m) ∧ Hid (wr.heap[w2.heap.size]? = some (.cells #[o, .func (.func 244) #[] #[]] 229)) ∧ Hid (∀ g, o.ownBlock = some g → g ≠ w2.heap.size)) (fun _ i _ => b.length - (intOf i).toNat)
  case atStart => exact ⟨0, a, _, Nat.zero_le _, rfl, Lib.hid (Nat.le_refl _), HR, START, BOX, NEQ⟩
  case round =>
    clear START BOX NEQ
    obtain ⟨k, m, o, hk, rfl, HM, HI, HG, BOX, NEQ⟩ := hrel
    obtain ⟨Ao, co, rfl, _, _⟩ := HG.out.1.shape
    have hzw : w2.heap.size < wr.heap.size := (Array.getElem?_eq_some_iff.1 BOX.out).1
    by_cases hlt : k < b.length
    · obtain ⟨bb, off, rfl, hbb, hc⟩ := (HU.out.on HG.out.2).keys hlt
      have i1 : (k : Int) < (b.length : Int) := by omega
      have i2 : (0 : Int) ≤ (k : Int) := by omega
      obtain ⟨c0, c1, c2, c3, c4⟩ := hc k hlt
      have ba := bal1 wr (.cells #[.int .i64 (b[k]).a, .int .i64 (b[k]).b, .int .i64 (b[k]).c, .int .i64 (b[k]).d, .int .i64 (b[k]).e] 58)
      have HGa := Lib.hid (HG.out.on ba)
      have BOXa := Lib.hid (box_on BOX.out ba)
      have hza : (wr.alloc (.cells #[.int .i64 (b[k]).a, .int .i64 (b[k]).b, .int .i64 (b[k]).c, .int .i64 (b[k]).d, .int .i64 (b[k]).e] 58)).heap.size = wr.heap.size + 1 := by simp
      obtain ⟨x0, x1, x2⟩ := box2 BOXa.out
      have HZa := Lib.hid hza
      clear hc ba hza
      go_wp2_with fail
      refine (HP.out _ m b[k] _ HGa.out.reads (by have := HM.out; omega)).mono ?_
      rintro r w5 ⟨v5, rfl, o5, b5⟩
      have bx := box_on BOXa.out b5
      rw [HZa.out] at o5
      have hb5 := bstep HGa.out.2 b5
      have HM2 := Lib.hid (show (putK m b[k]).length ≤ a.length + (k + 1) by have := putK_len m b[k]; have := HM.out; omega)
      obtain ⟨A5, c5, rfl, _, _⟩ := o5.shape
      have NEQ5 : Hid (∀ g, (Value.slice A5 (putK m b[k]).length c5).ownBlock = some g → g ≠ w2.heap.size) := Lib.hid (fun g hg => by have := (o5.lt g hg).2; omega)
      have HG5 := Lib.hid (show Grow w ((w5.setCell ⟨w2.heap.size, 0, none⟩ (.slice A5 (putK m b[k]).length c5)).setCell ⟨w2.heap.size, 1, none⟩ (.func (.func 244) #[] #[])) (.slice A5 (putK m b[k]).length c5) (putK m b[k]) from ⟨((o5.set (by omega)).set (by omega)).mono (by have := HG.out.2.size; omega), (hb5.setCell (p := ⟨w2.heap.size, 0, none⟩) hz2 _).setCell (p := ⟨w2.heap.size, 1, none⟩) hz2 _⟩)
      have BOX5 := Lib.hid (box_set (i := 1) (u := .func (.func 244) #[] #[]) (box_set (i := 0) (u := .slice A5 (putK m b[k]).length c5) bx))
      clear x0 x1 x2 c0 c1 c2 c3 c4
      obtain ⟨x0, x1, x2⟩ := box2 bx
      clear o5 b5 bx hb5 HGa HG BOXa BOX NEQ
      go_wp2
      go_roundw
      case rel => exact ⟨k + 1, putK m b[k], _, by omega, by go_num, HM2, Lib.hid (merge_step hlt HI.out), HG5, BOX5, NEQ5⟩
      case measure => simp [intOf]; omega
    · have e : m = R := by
        have := HI.out
        rw [List.drop_eq_nil_of_le (by omega)] at this
        exact this
      subst e
      obtain ⟨x0, x1, x2⟩ := box2 BOX.out
      go_wp2
      go_ret
      exact ⟨_, rfl, HG.out.1, HG.out.2⟩
end Go.Proofs.YtpfepcjbhchpcaaGreat
namespace Go.Proofs.YtpfepcjbhchpcaaGreat
open Go.RowKit Go.Shelf
set_option maxRecDepth 100000
set_option linter.unusedSimpArgs false
set_option linter.unusedVariables false
attribute [local go_sem] Oper.semAt_some

theorem RowK.keepC {w w' : World} {base : Nat} {v : Value} {l : List KeyD} (h : RowK w base v l) (hk : ∀ (b : Nat) (cur : Array Value) (e : TypeId), w.heap[b]? = some (.cells cur e (0, 0)) → w'.heap[b]? = some (.cells cur e (0, 0))) : RowK w' base v l := by
  obtain ⟨h1, h2 | ⟨g, cap, cur, e1, e2, e3, e4⟩⟩ := h
  · exact ⟨h1, .inl h2⟩
  · exact ⟨h1, .inr ⟨g, cap, cur, e1, e2, hk _ _ _ e3, e4⟩⟩
theorem RowK.cells {w : World} {base : Nat} {v : Value} {l : List KeyD} (h : RowK w base v l) {g : Nat} (hg : v.ownBlock = some g) : ∃ cur, w.heap[g]? = some (.cells cur 58 (0, 0)) := by
  obtain ⟨h1, ⟨rfl, _⟩ | ⟨g', cap, cur, rfl, e2, e3, e4⟩⟩ := h
  · simp [Value.ownBlock] at hg
  · simp [Value.ownBlock] at hg
    subst hg
    exact ⟨cur, e3⟩
theorem wpListIn_appK {F : Fence} {n : Nat} {ops : Array Oper} {rest : List Oper} {o : Oper} {a : Act} {Q : Exit → Act → World → Prop} (w : World) (hgd : o.guard = none) (s x : Operand)
    (hop : o.op = .call { callee := .builtin .append, args := #[s, x], argTypes := #[54, 54] })
    (base : Nat) (v : Value) (l : List KeyD) (hs : a.eval s = v) (hown : RowK w base v l) (b c : Nat) (m : List KeyD) (hx : a.eval x = .slice (some ⟨b, 0, none⟩) m.length c) (hA : At w (some ⟨b, 0, none⟩) (kvl m)) (hlen : l.length + m.length ≤ 1073741824) (hbase : base ≤ w.heap.size)
    (h : ∀ v' w', RowK w' base v' (l ++ m) → w.grownBy w' v.ownBlock → wpListIn F n Tryz.prog ops Q rest (a.put o.dst v') w') : wpListIn F n Tryz.prog ops Q (o :: rest) a w := by
  obtain ⟨i, hi, h0, h1, h2⟩ := info_parts key_info
  refine wpListIn_append_own w hgd s x 54 hop base 58 i _ 5 40 Tryz.underlying54 hi h0 h1 h2 rfl (by omega) v l.length (kvl l) hs hown ⟨b, 0, none⟩ m.length c (kvl m) hx (kvl_len m) ?_ (kvl_cells m) (by unfold maxLen; omega) (by omega) hbase ?_
  · intro j u hu
    have hj := (List.getElem?_eq_some_iff.1 hu).1
    rcases hA with h | ⟨b', off, he, hc⟩
    · rw [h] at hj; simp at hj
    · injection he with he
      injection he with e1 e2
      subst e1 e2
      rw [Addr.add_lit, hc j hj]
      rw [List.getElem?_eq_getElem hj] at hu
      exact hu
  · intro v' w' h2 h3 _
    refine h v' w' ?_ h3
    rw [← kvl_append, ← List.length_append] at h2
    exact h2
set_option maxHeartbeats 4000000 in
theorem appendSeq_any (gf n₀ : Nat) (lb : Array Value) (xs : List KeyD) (w : World) (hn₀ : n₀ ≤ w.heap.size) (eg : ∀ args w, (callFunc gf args).run Tryz.prog w = .ok (.enter gf args) w) (hseq : SeqL 58 Tryz.prog gf lb (fun k : KeyD => #[k.v]) n₀ xs w) (hl : xs.length ≤ 1100000) :
    Calls Tryz.prog 226 #[.slice none 0 0, .func (.func gf) #[] lb] w (NewK w xs) := by
  have HSQ := Lib.hid hseq
  have q0 := al1 w (.cells #[.slice none 0 0] 54)
  have hb := bal1 w (.cells #[.slice none 0 0] 54)
  have hz : (w.alloc (.cells #[.slice none 0 0] 54)).heap.size = w.heap.size + 1 := by simp
  clear hseq
  refine (callsIn_wide (n := 3)).1 ?_
  refine callsIn_of_wp_marks Tryz.func226 rfl trivial ?_ rfl
  simp only [Tryz.ntmps226, List.size_toArray, List.length_cons, List.length_nil, Nat.reduceAdd, Nat.reduceSub, Array.replicate_succ, Array.replicate_zero, List.push_toArray, List.append_toArray, List.nil_append, List.cons_append]
  gi_wp2
  generalize w.alloc (.cells #[.slice none 0 0] 54) = W0 at *
  refine rangeL (E := 58) (gf := gf) (lb := lb) rfl eg HSQ.out hb (by omega) (fun _ => rfl)
    (fun pre V => (∃ v, V.heap[w.heap.size]? = some (.cells #[v] 54 (0, 0)) ∧ RowK V (w.heap.size + 1) v pre) ∧ Below w.heap.size w V)
    (fun _ _ _ => False)
    (fun s X Y row hs hg hr => by
      obtain ⟨⟨v, h1, h2⟩, h3⟩ := hs
      have hr' : ∀ r, row = some r → ∃ o : Obj, X.heap[r]? = some o ∧ o.isCells = false := fun r e => (hr r e).2
      exact ⟨⟨v, cellsN hg hr' h1, h2.keepC (fun _ _ _ h => cellsN hg hr' h)⟩, ownFrom_below (β := Unit) (Nat.le_refl _) hb.size () X Y row h3 hg hr⟩)
    (fun _ _ _ _ _ hs _ _ => hs.elim)
    ⟨⟨_, q0, row_nil _ _ _ _⟩, hb⟩
    (fun x a' V => ∃ Bx, W0.heap.size ≤ Bx ∧ V.heap[Bx]? = some (.cells #[.int .i64 x.a, .int .i64 x.b, .int .i64 x.c, .int .i64 x.d, .int .i64 x.e] 58 (0, 0)) ∧ a' = { tmps := #[.slice none 0 0, .func (.func gf) #[] lb, .pointer (some ⟨w.heap.size, 0, none⟩), undef, .slice none 0 0, .pointer (some ⟨Bx, 0, none⟩), .func (.func gf) #[] lb, .agg #[.int .i64 x.a, .int .i64 x.b, .int .i64 x.c, .int .i64 x.d, .int .i64 x.e], undef, undef, undef, undef, undef], defers := [] })
    (fun x a' _ X Y row hs hg hr => by obtain ⟨Bx, h1, h2, h3⟩ := hs; exact ⟨Bx, h1, cellsN hg (fun r e => (hr r e).2) h2, h3⟩)
    ?assign ?body ?done ?stop
  case assign =>
    rintro l pre x V K hpx ⟨⟨v, h1, h2⟩, hB⟩ hK
    unfold KeyD.v keyV
    have hzV := (Array.getElem?_eq_some_iff.1 h1).1
    gi_wp2
    exact hK _ _ (only_alloc0 _ _ _) ⟨⟨v, box_on h1 (bal1 _ _), h2.on (bal1 _ _)⟩, hB.alloc hB.size _⟩ ⟨V.heap.size, by omega, al1 _ _, rfl⟩
  case body =>
    rintro l pre x a' V hpx ⟨⟨v, h1, h2⟩, hB⟩ ⟨Bx, hBx, qx, rfl⟩
    have hpl : pre.length + 1 ≤ 1100000 := by
      have h := hpx.length_le
      simp at h
      omega
    obtain ⟨A, c, rfl, _, _⟩ := h2.shape
    have Q1 := Lib.hid h1
    have R1 := Lib.hid h2
    have HBV := Lib.hid hB
    have hzV := (Array.getElem?_eq_some_iff.1 h1).1
    obtain ⟨a0, a1, a2, a3, a4, a5⟩ := box5 qx
    obtain ⟨c0, c1⟩ := box1N h1
    have ba := bal1 V (.cells #[.int .i64 x.a, .int .i64 x.b, .int .i64 x.c, .int .i64 x.d, .int .i64 x.e] 58)
    have HA := Lib.hid (At.key V x 58)
    have HRow := Lib.hid (h2.on ba)
    clear h1 h2 hB qx ba
    gi_wp2_with (gi_at_builtin; refine wpListIn_appK _ rfl (.tmp 8) (.tmp 10) rfl (w.heap.size + 1) _ pre rfl HRow.out V.heap.size 1 [x] rfl HA.out (by simp; omega) (by simp; omega) ?_; intro v1 w1 o1 g1; obtain ⟨Av, cv, rfl, _, _⟩ := o1.shape; have hk1 : w1.heap[w.heap.size]? = some (.cells #[.slice A pre.length c] 54 (0, 0)) := (g1.block _ (by simp; omega) (fun e => by have := (HRow.out.lt _ e.symm).2; omega)).trans (box_on Q1.out (bal1 V (.cells #[.int .i64 x.a, .int .i64 x.b, .int .i64 x.c, .int .i64 x.d, .int .i64 x.e] 58))); have G1 := Lib.hid g1; have O1 := Lib.hid o1; have K1 := Lib.hid hk1; clear c0 c1; obtain ⟨c0, c1⟩ := box1N hk1; clear hk1 o1 g1)
    have ht1 : Kept 58 n₀ W0.heap.size (V.alloc (.cells #[.int .i64 x.a, .int .i64 x.b, .int .i64 x.c, .int .i64 x.d, .int .i64 x.e] 58)) w1 := by
      refine Only.kept (S := fun b => (Value.slice A pre.length c).ownBlock = some b) ⟨G1.out.os, G1.out.tape, G1.out.output, G1.out.size, fun i hi hn => G1.out.block i hi (fun e => hn e.symm)⟩ _ (fun b hb => ⟨by have := (HRow.out.lt _ hb).2; omega, fun _ => HRow.out.cells hb⟩)
    have ht2 : Kept 58 n₀ W0.heap.size w1 (w1.setCell ⟨w.heap.size, 0, none⟩ (.slice Av (pre.length + 1) cv)) :=
      Only.kept (S := fun b => b = w.heap.size) (Only.setCell (S := fun b => b = w.heap.size) (g := w.heap.size) (Only.refl _ _) rfl _) _ (fun b hb => ⟨by omega, fun h => by omega⟩)
    have hlen1 : (pre ++ [x]).length = pre.length + 1 := by simp
    have o2 := O1.out
    rw [hlen1] at o2
    refine ⟨((Kept.of_below (bal1 _ _) _ _ _).trans ht1).trans ht2, ⟨_, box_set K1.out, o2.set (by omega)⟩, ?_⟩
    have hb1 : Below w.heap.size (V.alloc (.cells #[.int .i64 x.a, .int .i64 x.b, .int .i64 x.c, .int .i64 x.d, .int .i64 x.e] 58)) w1 := (Below.refl _ _).grown G1.out (by simp; omega) (fun k e => by have := (HRow.out.lt _ e).2; omega)
    exact ((HBV.out.alloc HBV.out.size _).trans hb1).setCell (p := ⟨w.heap.size, 0, none⟩) (Nat.le_refl _) _
  case done =>
    rintro D V hD ⟨⟨v, h1, h2⟩, hB⟩ hK
    obtain ⟨c0, c1⟩ := box1N h1
    obtain ⟨A, c, rfl, _, _⟩ := h2.shape
    gi_wp2
    refine ⟨by simp, .inl ⟨_, _, rfl, run_takeDeferred hK, ?_⟩⟩
    have hput := fun b cur e => cellsN (b := b) (cur := cur) (e := e) (grownBy_putObj' V D (.deferred none)) (fun r e => by cases e; exact ⟨_, hK, rfl⟩)
    exact ⟨_, results_tmp rfl _ _ _, _, rfl, (h2.keepC hput).mono (by omega), hB.trans (belowK_b (w := w) (Nat.le_refl _) _ D _ _ (by omega) hK rfl rfl)⟩
  case stop =>
    rintro D cd pre V hD _ h hK
    exact h.elim
theorem reads_nilK (w : World) : Reads w w.heap.size (.slice none 0 0) (keysD []) := Reads.nil none 0 58 5 (Nat.zero_le _)
theorem collect_any (gf n₀ : Nat) (lb : Array Value) (xs : List KeyD) (w : World) (hn₀ : n₀ ≤ w.heap.size) (eg : ∀ args w, (callFunc gf args).run Tryz.prog w = .ok (.enter gf args) w) (hseq : SeqL 58 Tryz.prog gf lb (fun k : KeyD => #[k.v]) n₀ xs w) (hl : xs.length ≤ 1100000) :
    Calls Tryz.prog 196 #[.func (.func gf) #[] lb] w (NewK w xs) := by
  go_enter Tryz.func196, Tryz.ntmps196
  go_wp2_with fail
  refine (appendSeq_any gf n₀ lb xs w hn₀ eg hseq hl).mono ?_
  rintro r w1 ⟨v1, rfl, o1, b1⟩
  have O1 := Lib.hid o1
  have B1 := Lib.hid b1
  clear o1 b1 eg hseq
  go_wp2
  go_ret
  exact ⟨_, rfl, O1.out, B1.out⟩
set_option maxHeartbeats 400000 in
theorem implNodeKeys_any (v : Value) (ns : List (List KeyD)) (w : World) (hv : Reads w w.heap.size v (setsD ns)) (h1 : ns.length ≤ 1048576) (h2 : sumN ns ≤ 1048576) : Calls Tryz.prog 151 #[.agg #[v]] w (NewK w (nodeKeysK ns)) := by
  obtain ⟨A, c, rfl, _, _⟩ := hv.lenN
  obtain ⟨zs, hzl, hzm, hzs, hzr⟩ := sets_sv hv
  have hkf : keysOfS zs = ns.flatten := by rw [keysOfS_map, hzm]
  have hfl : ns.flatten.length ≤ 1048576 := by rw [flat_sum ns]; exact h2
  rw [keys_flat]
  have HM := Lib.hid (mergeK_len [] ns.flatten)
  generalize hfn : ns.flatten = L at *
  have HKF := Lib.hid hkf
  have HL : Hid (∀ z ∈ zs, z.ks.length ≤ 1100000) := Lib.hid (fun z hz => Nat.le_trans (sumN_sv hzm hz) (by omega))
  have hn : zs.length ≤ 1100000 := by omega
  rw [← hzl] at *
  have B0 := bal3 w (.cells #[.slice A zs.length c] 97) (.cells #[.slice A zs.length c] 95) (.cells #[.func (.func 223) #[] #[.pointer (some ⟨w.heap.size + 1, 0, none⟩)]] 199)
  obtain ⟨q0, q1, q2⟩ := al3 w (.cells #[.slice A zs.length c] 97) (.cells #[.slice A zs.length c] 95) (.cells #[.func (.func 223) #[] #[.pointer (some ⟨w.heap.size + 1, 0, none⟩)]] 199)
  have hz3 : (((w.alloc (.cells #[.slice A zs.length c] 97)).alloc (.cells #[.slice A zs.length c] 95)).alloc (.cells #[.func (.func 223) #[] #[.pointer (some ⟨w.heap.size + 1, 0, none⟩)]] 199)).heap.size = w.heap.size + 3 := by simp
  have HZS := Lib.hid hzs
  have HZR := Lib.hid hzr
  have HB := Lib.hid B0
  have Q1 := Lib.hid q1
  have Q2 := Lib.hid q2
  have HZ := Lib.hid hz3
  clear hkf hzs hzr hv B0 q0 q1 q2 hzm hfn hz3 hzl
  go_enter Tryz.func151, Tryz.ntmps151
  go_wp2_with fail
  refine (allF_any _ _ _ _).mono ?_
  rintro r w1 ⟨rfl, rfl⟩
  go_wp2_with fail
  refine (layered_any _ _ _).mono ?_
  rintro r w2 ⟨rfl, rfl⟩
  go_wp2_with fail
  generalize ((w.alloc (.cells #[.slice A zs.length c] 97)).alloc (.cells #[.slice A zs.length c] 95)).alloc (.cells #[.func (.func 223) #[] #[.pointer (some ⟨w.heap.size + 1, 0, none⟩)]] 199) = W0 at *
  have hz := HZ.out
  have hww := HB.out.size
  have HC := Lib.hid (collect_any 222 W0.heap.size #[.pointer (some ⟨w.heap.size + 1 + 1, 0, none⟩)] (keysOfS zs) W0 (Nat.le_refl _) (enters_of Tryz.func222 (by kernel_rfl) rfl)
    (layered_seq 58 (fun _ _ h => by cases h) (w.heap.size + 1 + 1) W0.heap.size 223 #[.pointer (some ⟨w.heap.size + 1, 0, none⟩)] zs W0 (Nat.le_refl _) (by omega) (box1N Q2.out).1 (enters_of Tryz.func223 (by kernel_rfl) rfl)
      (all_seq 58 (w.heap.size + 1) W0.heap.size A c zs hn (by omega) W0 (Nat.le_refl _) (box1N Q1.out).1 ((HZS.out.below HB.out).mono hww))
      (fun z hz => (HZR.out z hz).on HB.out) HL.out) (by rw [HKF.out]; omega))
  rw [HKF.out] at HC
  refine HC.out.mono ?_
  clear HC hz
  rintro r w3 ⟨v3, rfl, o3, b3⟩
  have B3 := Lib.hid (bstep HB.out b3)
  have O3 := Lib.hid o3.owns
  obtain ⟨A3, c3, rfl, _, _⟩ := o3.shape
  clear o3 b3
  go_wp2_with fail
  refine (implMergeSets_any _ _ [] L _ (reads_nilK _) O3.out.reads (by rw [List.length_nil]; omega)).mono ?_
  rintro r w4 ⟨v4, rfl, o4, b4⟩
  have hml := HM.out
  simp only [List.length_nil] at hml
  generalize mergeK [] L = M at *
  have B4 := Lib.hid (bstep B3.out b4)
  have O4 := Lib.hid o4.owns
  obtain ⟨A4, c4, rfl, _, _⟩ := o4.shape
  clear o4 b4
  go_wp2_with fail
  refine (implDrop_any _ M _ O4.out.reads (by omega)).mono ?_
  rintro r w5 ⟨v5, rfl, o5, b5⟩
  have B5 := Lib.hid (bstep B4.out b5)
  have O5 := Lib.hid (o5.mono B4.out.size)
  clear o5 b5
  go_wp2
  go_ret
  exact ⟨_, rfl, O5.out, B5.out⟩
end Go.Proofs.YtpfepcjbhchpcaaGreat
namespace Go.Proofs.YtpfepcjbhchpcaaGreat
open Go.RowKit
set_option maxRecDepth 100000
set_option linter.unusedSimpArgs false
set_option linter.unusedVariables false

def spotI (b a : Int) : Int := wrap64 (wrap64 (64 * b) + a)
theorem specSpotOf_any (b a : Int) (w : World) : Calls Tryz.prog 160 #[.int .i64 b, .int .i64 a] w fun e w' => e = .returned (.int .i64 (spotI b a)) ∧ w = w' := by
  unfold spotI
  go_enter Tryz.func160, Tryz.ntmps160
  go_wp2
  go_ret
  exact ⟨rfl, rfl⟩
theorem implSpotOf_any (b a : Int) (w : World) : Calls Tryz.prog 224 #[.int .i64 b, .int .i64 a] w fun e w' => e = .returned (.int .i64 (spotI b a)) ∧ w = w' := by
  unfold spotI
  go_enter Tryz.func224, Tryz.ntmps224
  go_wp2
  go_ret
  exact ⟨rfl, rfl⟩
end Go.Proofs.YtpfepcjbhchpcaaGreat
namespace Go.Proofs.YtpfepcjbhchpcaaGreat
open Go.RowKit
set_option maxRecDepth 100000
set_option linter.unusedSimpArgs false
set_option linter.unusedVariables false

/-- How many volumes have the version. -/
def usesK (id : Int) (l : List VolD) : Nat := l.countP (fun k => k.b == id)
def idleP (id : Int) (l : List VolD) : Bool := l.all (fun k => !(k.b == id))
theorem uses_le (id : Int) (l : List VolD) (k : Nat) : usesK id (l.take k) ≤ l.length := by
  have h1 := List.countP_le_length (p := fun k : VolD => k.b == id) (l := l.take k)
  have h2 : (l.take k).length ≤ l.length := by simp; omega
  unfold usesK
  omega
theorem uses_step {id : Int} {l : List VolD} {k : Nat} (h : k < l.length) : usesK id (l.take (k + 1)) = usesK id (l.take k) + (if (l[k]).b == id then 1 else 0) := by
  unfold usesK
  rw [List.take_succ_eq_append_getElem h, List.countP_append, List.countP_singleton]
theorem idle_uses (id : Int) (l : List VolD) : idleP id l = decide (usesK id l = 0) := by
  unfold idleP usesK
  rw [Bool.eq_iff_iff]
  simp [List.countP_eq_zero]
theorem idle_next {id : Int} {l : List VolD} {k : Nat} (h : k < l.length) (hs : ((l[k]).b == id) = false) (hi : idleP id l = idleP id (l.drop k)) : idleP id l = idleP id (l.drop (k + 1)) := by
  rw [hi, vol_drop h, idleP, List.all_cons, hs]
  rfl
theorem idle_stop {id : Int} {l : List VolD} {k : Nat} (h : k < l.length) (hs : ((l[k]).b == id) = true) (hi : idleP id l = idleP id (l.drop k)) : idleP id l = false := by
  rw [hi, vol_drop h, idleP, List.all_cons, hs]
  rfl
theorem specIdle_any {t : TypeId} (vl vn va vc vv : Value) (d : PoolD) (id : Int) (w : World) (h : RdP t w w.heap.size vl vn va vc vv d) (hn : d.vo.length ≤ 2097152) :
    Calls Tryz.prog 65 #[.agg #[vl, vn, va, vc, vv, .int .i64 d.nx], .int .i64 id] w (SaysBool w (idleP id d.vo)) := by
  obtain ⟨A0, c0, A1, c1, A2, c2, A3, c3, A4, c4, rfl, rfl, rfl, rfl, rfl⟩ := h.shape
  have HV := Lib.hid (h.2.2.2)
  have Q0 := Lib.hid (al1 w (.cells #[.slice A0 d.lo.length c0, .slice A1 d.ts.length c1, .slice A2 d.ag.length c2, .slice A3 d.ce.length c3, .slice A4 d.vo.length c4, .int .i64 d.nx] 41))
  have HB := Lib.hid (bal1 w (.cells #[.slice A0 d.lo.length c0, .slice A1 d.ts.length c1, .slice A2 d.ag.length c2, .slice A3 d.ce.length c3, .slice A4 d.vo.length c4, .int .i64 d.nx] 41))
  obtain ⟨R, hR⟩ : ∃ R, idleP id d.vo = R := ⟨_, rfl⟩
  rw [hR]
  have HR := Lib.hid hR
  clear h hR
  go_enter Tryz.func65, Tryz.ntmps65
  go_upto_region 2 with (fail)
  generalize w.alloc (.cells #[.slice A0 d.lo.length c0, .slice A1 d.ts.length c1, .slice A2 d.ag.length c2, .slice A3 d.ce.length c3, .slice A4 d.vo.length c4, .int .i64 d.nx] 41) = W at *
  obtain ⟨x0, x1, x2, x3, x4, x5, x6⟩ := boxP Q0.out
  go_loop [5] (fun i => ∃ k : Nat, k ≤ d.vo.length ∧ i = .int .i64 k ∧ Hid (idleP id d.vo = idleP id (d.vo.drop k))) (fun i => d.vo.length - (intOf i).toNat)
  case atStart => exact ⟨0, Nat.zero_le _, rfl, Lib.hid (by simp)⟩
  case round =>
    obtain ⟨k, hk, rfl, HI⟩ := hrel
    by_cases hlt : k < d.vo.length
    · obtain ⟨b, off, rfl, hbb, hc⟩ := (HV.out.on HB.out).vols hlt
      have i1 : (k : Int) < (d.vo.length : Int) := by omega
      have i2 : (0 : Int) ≤ (k : Int) := by omega
      obtain ⟨y0, y1, y2, y3⟩ := hc k hlt
      clear hc
      cases hs : ((d.vo[k]).b == id)
      · have HS := Lib.hid (idle_next hlt hs HI.out)
        go_wp2
        go_round
        case rel => exact ⟨k + 1, by omega, by go_num, HS⟩
        case measure => simp [intOf]; omega
      · have HK : Hid (R = false) := Lib.hid (by rw [← HR.out, idle_stop hlt hs HI.out])
        go_wp2
        go_ret
        exact ⟨by rw [HK.out]; rfl, HB.out⟩
    · have e : k = d.vo.length := by omega
      have HK : Hid (R = true) := Lib.hid (by rw [← HR.out, HI.out, e]; simp [idleP])
      clear e
      go_wp2
      go_ret
      exact ⟨by rw [HK.out]; rfl, HB.out⟩
set_option maxHeartbeats 1000000 in
theorem implVolsWith_any {t : TypeId} (vl vn va vc vv : Value) (d : PoolD) (id : Int) (w : World) (h : RdP t w w.heap.size vl vn va vc vv d) (hn : d.vo.length ≤ 2097152) :
    Calls Tryz.prog 191 #[.agg #[vl, vn, va, vc, vv, .int .i64 d.nx], .int .i64 id] w fun e w' => e = .returned (.int .i64 (usesK id d.vo)) ∧ Below w.heap.size w w' := by
  obtain ⟨A0, c0, A1, c1, A2, c2, A3, c3, A4, c4, rfl, rfl, rfl, rfl, rfl⟩ := h.shape
  have HV := Lib.hid (h.2.2.2)
  have Q0 := Lib.hid (al1 w (.cells #[.slice A0 d.lo.length c0, .slice A1 d.ts.length c1, .slice A2 d.ag.length c2, .slice A3 d.ce.length c3, .slice A4 d.vo.length c4, .int .i64 d.nx] 41))
  have HB := Lib.hid (bal1 w (.cells #[.slice A0 d.lo.length c0, .slice A1 d.ts.length c1, .slice A2 d.ag.length c2, .slice A3 d.ce.length c3, .slice A4 d.vo.length c4, .int .i64 d.nx] 41))
  clear h
  go_enter Tryz.func191, Tryz.ntmps191
  go_upto_region 2 with (fail)
  generalize w.alloc (.cells #[.slice A0 d.lo.length c0, .slice A1 d.ts.length c1, .slice A2 d.ag.length c2, .slice A3 d.ce.length c3, .slice A4 d.vo.length c4, .int .i64 d.nx] 41) = W at *
  obtain ⟨x0, x1, x2, x3, x4, x5, x6⟩ := boxP Q0.out
  go_wp2
  go_loopw [5, 7, 11] (fun q _ i wr => ∃ k : Nat, k ≤ d.vo.length ∧ i = .int .i64 k ∧ q = .int .i64 (usesK id (d.vo.take k)) ∧ Hid (Below w.heap.size w wr)) (fun _ _ i _ => d.vo.length - (intOf i).toNat)
  case atStart => exact ⟨0, Nat.zero_le _, rfl, rfl, HB⟩
  case round =>
    obtain ⟨k, hk, rfl, rfl, HW⟩ := hrel
    by_cases hlt : k < d.vo.length
    · obtain ⟨b, off, rfl, hbb, hc⟩ := (HV.out.on HW.out).vols hlt
      have i1 : (k : Int) < (d.vo.length : Int) := by omega
      have i2 : (0 : Int) ≤ (k : Int) := by omega
      obtain ⟨y0, y1, y2, y3⟩ := hc k hlt
      have hu := uses_le id d.vo k
      have hst := uses_step (id := id) hlt
      have BA := Lib.hid (HW.out.alloc HW.out.size (.cells #[.string (d.vo[k]).a, .int .i64 (d.vo[k]).b, .int .i64 (d.vo[k]).c, .bool (d.vo[k]).d] 110))
      clear hc
      cases hs : ((d.vo[k]).b == id)
      · rw [hs] at hst
        have HS := Lib.hid hst
        clear hst
        generalize usesK id (d.vo.take k) = q at *
        go_wp2
        go_roundw
        case rel => exact ⟨k + 1, by omega, by go_num, by rw [HS.out]; rfl, BA⟩
        case measure => simp [intOf]; omega
      · rw [hs] at hst
        have HS := Lib.hid hst
        clear hst
        generalize usesK id (d.vo.take k) = q at *
        go_wp2
        go_roundw
        case rel => exact ⟨k + 1, by omega, by go_num, by rw [HS.out]; rfl, BA⟩
        case measure => simp [intOf]; omega
    · have e : k = d.vo.length := by omega
      subst e
      rw [List.take_length]
      go_wp2
      go_ret
      exact ⟨rfl, HW.out⟩
theorem implIdle_any {t : TypeId} (vl vn va vc vv : Value) (d : PoolD) (id : Int) (w : World) (h : RdP t w w.heap.size vl vn va vc vv d) (hn : d.vo.length ≤ 2097152) :
    Calls Tryz.prog 155 #[.agg #[vl, vn, va, vc, vv, .int .i64 d.nx], .int .i64 id] w (SaysBool w (idleP id d.vo)) := by
  have HW := Lib.hid (fun W b => implVolsWith_any vl vn va vc vv d id W (h.on b) hn)
  obtain ⟨A0, c0, A1, c1, A2, c2, A3, c3, A4, c4, rfl, rfl, rfl, rfl, rfl⟩ := h.shape
  have HB := Lib.hid (bal1 w (.cells #[.slice A0 d.lo.length c0, .slice A1 d.ts.length c1, .slice A2 d.ag.length c2, .slice A3 d.ce.length c3, .slice A4 d.vo.length c4, .int .i64 d.nx] 41))
  obtain ⟨R, hR⟩ : ∃ R, usesK id d.vo = R := ⟨_, rfl⟩
  have hd := idle_uses id d.vo
  rw [hR] at hd
  rw [hR] at HW
  clear h hR
  have Q0 := Lib.hid (al1 w (.cells #[.slice A0 d.lo.length c0, .slice A1 d.ts.length c1, .slice A2 d.ag.length c2, .slice A3 d.ce.length c3, .slice A4 d.vo.length c4, .int .i64 d.nx] 41))
  have e2 : ((R : Int) == 0) = decide (R = 0) := by
    rw [Bool.eq_iff_iff]
    simp
  obtain ⟨u, hu⟩ : ∃ u, decide (R = 0) = u := ⟨_, rfl⟩
  rw [hu] at e2 hd
  rw [hd]
  clear hd hu
  go_enter Tryz.func155, Tryz.ntmps155
  go_upto_region 1 with (fail)
  generalize w.alloc (.cells #[.slice A0 d.lo.length c0, .slice A1 d.ts.length c1, .slice A2 d.ag.length c2, .slice A3 d.ce.length c3, .slice A4 d.vo.length c4, .int .i64 d.nx] 41) = W at *
  obtain ⟨x0, x1, x2, x3, x4, x5, x6⟩ := boxP Q0.out
  go_wp2_with fail
  refine (HW.out _ HB.out).mono ?_
  rintro e w1 ⟨rfl, b1⟩
  have B1 := Lib.hid (bstep HB.out b1)
  clear b1
  go_wp2
  go_ret
  exact ⟨rfl, B1.out⟩
end Go.Proofs.YtpfepcjbhchpcaaGreat
