/- Pools: as data, opened as an argument; laws.toPool copies one, laws.szPool counts, laws.eqPool finds two that read alike equal. Conditions: at most 2^20 bounds, nodes, sets and keys, versions, cells and volumes. -/
import Derived.Test.YtmpgmjnagpiijaaVolLaw
import Derived.Test.YtmpgmjnagpiijaaAgeLaw
import Derived.Test.YtmpgmjnagpiijaaTreeLaw
namespace Go.Proofs.Ytmpgmjnagpiijaa
open Go.RowKit Go.ChangeShapes Go.WideShapes Go.Deep
set_option maxRecDepth 100000
set_option linter.unusedSimpArgs false
set_option linter.unusedVariables false

structure PoolD where
  (lo : List Int) (ts : List NodeD) (ag : List AgeD) (ce : List CelD) (vo : List VolD) (nx : Int)
theorem boxP {w : World} {p : Nat} {a b c d e f : Value} {t : TypeId} (h : w.heap[p]? = some (.cells #[a, b, c, d, e, f] t (0, 0))) : w.cell? ⟨p, 0, none⟩ = some a ∧ w.cell? ⟨p, 1, none⟩ = some b ∧ w.cell? ⟨p, 2, none⟩ = some c ∧ w.cell? ⟨p, 3, none⟩ = some d ∧ w.cell? ⟨p, 4, none⟩ = some e ∧ w.cell? ⟨p, 5, none⟩ = some f ∧ ∀ o, w.frozen? ⟨p, o, none⟩ = false :=
  ⟨by rw [cell_of_row w p 0 _ _ _ h]; rfl, by rw [cell_of_row w p 1 _ _ _ h]; rfl, by rw [cell_of_row w p 2 _ _ _ h]; rfl, by rw [cell_of_row w p 3 _ _ _ h]; rfl, by rw [cell_of_row w p 4 _ _ _ h]; rfl, by rw [cell_of_row w p 5 _ _ _ h]; rfl, fun o => frozen_of_row w p o _ _ h⟩
/-- A pool's five slices read as d's lists; the cells' block is made for type t. -/
def RdP (t : TypeId) (w : World) (B : Nat) (vl vn va vc vv : Value) (d : PoolD) : Prop := RdT w B vl vn d.lo d.ts ∧ Reads w B va (agesD d.ag) ∧ Reads w B vc (celsT t d.ce) ∧ Reads w B vv (volsD d.vo)
theorem RdP.on {t : TypeId} {w w' : World} {vl vn va vc vv : Value} {d : PoolD} (h : RdP t w w.heap.size vl vn va vc vv d) (hb : Below w.heap.size w w') : RdP t w' w'.heap.size vl vn va vc vv d := ⟨h.1.on hb, h.2.1.on hb, h.2.2.1.on hb, h.2.2.2.on hb⟩
theorem RdP.shape {t : TypeId} {w : World} {B : Nat} {vl vn va vc vv : Value} {d : PoolD} (h : RdP t w B vl vn va vc vv d) : ∃ A0 c0 A1 c1 A2 c2 A3 c3 A4 c4, vl = .slice A0 d.lo.length c0 ∧ vn = .slice A1 d.ts.length c1 ∧ va = .slice A2 d.ag.length c2 ∧ vc = .slice A3 d.ce.length c3 ∧ vv = .slice A4 d.vo.length c4 := by
  obtain ⟨A0, c0, A1, c1, h0, h1⟩ := h.1.shape
  obtain ⟨A2, c2, h2, _⟩ := h.2.1.lenN
  obtain ⟨A3, c3, h3, _⟩ := h.2.2.1.lenN
  obtain ⟨A4, c4, h4, _⟩ := h.2.2.2.lenN
  exact ⟨A0, c0, A1, c1, A2, c2, A3, c3, A4, c4, h0, h1, h2, h3, h4⟩
/-- A pool of the laws as it comes in. -/
def RdA (w : World) (vl vn va vc vv : Value) (d : PoolD) : Prop := (Reads w w.heap.size vl (intsD d.lo) ∧ Reads w w.heap.size vn (nodesA d.ts)) ∧ Reads w w.heap.size va (agesA d.ag) ∧ Reads w w.heap.size vc (celsA d.ce) ∧ Reads w w.heap.size vv (volsA d.vo)
theorem RdA.on {w w' : World} {vl vn va vc vv : Value} {d : PoolD} (h : RdA w vl vn va vc vv d) (hb : Below w.heap.size w w') : RdA w' vl vn va vc vv d := ⟨⟨h.1.1.on hb, h.1.2.on hb⟩, h.2.1.on hb, h.2.2.1.on hb, h.2.2.2.on hb⟩
theorem RdA.shape {w : World} {vl vn va vc vv : Value} {d : PoolD} (h : RdA w vl vn va vc vv d) : ∃ A0 c0 A1 c1 A2 c2 A3 c3 A4 c4, vl = .slice A0 d.lo.length c0 ∧ vn = .slice A1 d.ts.length c1 ∧ va = .slice A2 d.ag.length c2 ∧ vc = .slice A3 d.ce.length c3 ∧ vv = .slice A4 d.vo.length c4 := by
  obtain ⟨A0, c0, h0, _⟩ := h.1.1.lenN
  obtain ⟨A1, c1, h1, _⟩ := h.1.2.lenN
  obtain ⟨A2, c2, h2, _⟩ := h.2.1.lenN
  obtain ⟨A3, c3, h3, _⟩ := h.2.2.1.lenN
  obtain ⟨A4, c4, h4, _⟩ := h.2.2.2.lenN
  exact ⟨A0, c0, A1, c1, A2, c2, A3, c3, A4, c4, h0, h1, h2, h3, h4⟩
/-- A pool in blocks of S, each part in blocks of its own. -/
def PoolC (t : TypeId) (w : World) (S : Nat → Prop) (vl vn va vc vv : Value) (d : PoolD) : Prop := ∃ P Q R T : Nat → Prop, (∀ b, P b → S b) ∧ (∀ b, Q b → S b) ∧ (∀ b, R b → S b) ∧ (∀ b, T b → S b) ∧ (∀ b, P b → ¬ Q b ∧ ¬ R b ∧ ¬ T b) ∧ (∀ b, Q b → ¬ R b ∧ ¬ T b) ∧ (∀ b, R b → ¬ T b) ∧
  TreeC w P vl vn d.lo d.ts ∧ Owns w Q va (agesD d.ag) ∧ Owns w R vc (celsT t d.ce) ∧ Owns w T vv (volsD d.vo)
theorem PoolC.reads {t : TypeId} {w : World} {S : Nat → Prop} {vl vn va vc vv : Value} {d : PoolD} (h : PoolC t w S vl vn va vc vv d) : RdP t w w.heap.size vl vn va vc vv d := by
  obtain ⟨P, Q, R, T, _, _, _, _, _, _, _, h1, h2, h3, h4⟩ := h
  exact ⟨h1.reads, h2.reads, h3.reads, h4.reads⟩
theorem PoolC.keep {t : TypeId} {w w' : World} {S : Nat → Prop} {vl vn va vc vv : Value} {d : PoolD} (h : PoolC t w S vl vn va vc vv d) (hk : ∀ b, S b → b < w.heap.size → w'.heap[b]? = w.heap[b]?) : PoolC t w' S vl vn va vc vv d := by
  obtain ⟨P, Q, R, T, p1, p2, p3, p4, p5, p6, p7, h1, h2, h3, h4⟩ := h
  exact ⟨P, Q, R, T, p1, p2, p3, p4, p5, p6, p7, h1.keep (fun b hb => hk b (p1 b hb)), h2.keep (fun b hb => hk b (p2 b hb)), h3.keep (fun b hb => hk b (p3 b hb)), h4.keep (fun b hb => hk b (p4 b hb))⟩
theorem PoolC.on {t : TypeId} {w w' : World} {S : Nat → Prop} {vl vn va vc vv : Value} {d : PoolD} (h : PoolC t w S vl vn va vc vv d) (hb : Below w.heap.size w w') : PoolC t w' S vl vn va vc vv d := h.keep (fun b _ hl => hb.block b hl)
theorem PoolC.far {t : TypeId} {w w' : World} {S T : Nat → Prop} {vl vn va vc vv : Value} {d : PoolD} (h : PoolC t w S vl vn va vc vv d) (hg : Only T w w') (hd : ∀ b, S b → b < w.heap.size → ¬ T b) : PoolC t w' S vl vn va vc vv d := h.keep (fun b hb hl => hg.block b hl (hd b hb hl))
theorem PoolC.mono {t : TypeId} {w : World} {S U : Nat → Prop} {vl vn va vc vv : Value} {d : PoolD} (h : PoolC t w S vl vn va vc vv d) (hS : ∀ b, S b → U b) : PoolC t w U vl vn va vc vv d := by
  obtain ⟨P, Q, R, T, p1, p2, p3, p4, p5, p6, p7, h1, h2, h3, h4⟩ := h
  exact ⟨P, Q, R, T, fun b hb => hS b (p1 b hb), fun b hb => hS b (p2 b hb), fun b hb => hS b (p3 b hb), fun b hb => hS b (p4 b hb), p5, p6, p7, h1, h2, h3, h4⟩
theorem PoolC.lt {t : TypeId} {w : World} {S : Nat → Prop} {vl vn va vc vv : Value} {d : PoolD} (h : PoolC t w S vl vn va vc vv d) : PoolC t w (fun b => S b ∧ b < w.heap.size) vl vn va vc vv d := by
  obtain ⟨P, Q, R, T, p1, p2, p3, p4, p5, p6, p7, h1, h2, h3, h4⟩ := h
  exact ⟨fun b => P b ∧ b < w.heap.size, fun b => Q b ∧ b < w.heap.size, fun b => R b ∧ b < w.heap.size, fun b => T b ∧ b < w.heap.size, fun b hb => ⟨p1 b hb.1, hb.2⟩, fun b hb => ⟨p2 b hb.1, hb.2⟩, fun b hb => ⟨p3 b hb.1, hb.2⟩, fun b hb => ⟨p4 b hb.1, hb.2⟩, fun b hb => ⟨fun h => (p5 b hb.1).1 h.1, fun h => (p5 b hb.1).2.1 h.1, fun h => (p5 b hb.1).2.2 h.1⟩, fun b hb => ⟨fun h => (p6 b hb.1).1 h.1, fun h => (p6 b hb.1).2 h.1⟩, fun b hb h => p7 b hb.1 h.1, h1.lt, h2.lt, h3.lt, h4.lt⟩
/-- The call makes a pool in new memory. -/
def NewP (t : TypeId) (w : World) (d : PoolD) (e : Ending) (w' : World) : Prop := ∃ vl vn va vc vv, e = .returned (.agg #[vl, vn, va, vc, vv, .int .i64 d.nx]) ∧ PoolC t w' (fun b => w.heap.size ≤ b) vl vn va vc vv d ∧ Below w.heap.size w w'
def SmallP (d : PoolD) : Prop := d.lo.length + (d.ts.length + sumT d.ts) ≤ 1048576 ∧ d.ag.length ≤ 1048576 ∧ d.ce.length ≤ 1048576 ∧ d.vo.length ≤ 1048576
theorem SmallP.t {d : PoolD} (h : SmallP d) : SmallT d.lo d.ts := by
  have := h.1
  exact ⟨by omega, by omega, by omega⟩
/-- A pool of the laws, its names of sizes that strings have. -/
def PoolIs (w : World) (v : Value) (d : PoolD) : Prop := ∃ vl vn va vc vv, v = .agg #[vl, vn, va, vc, vv, .int .i64 d.nx] ∧ RdA w vl vn va vc vv d ∧ (∀ k ∈ d.vo, k.a.size ≤ maxLen) ∧ (Lit.int .i64 d.nx).wf = true
theorem pool_opens : Opens Try.prog 42 (fun ds => ∃ d : PoolD, ds = [intsD d.lo, nodesA d.ts, agesA d.ag, celsA d.ce, volsA d.vo, .lit (iV d.nx)] ∧ (∀ k ∈ d.vo, k.a.size ≤ maxLen) ∧ (Lit.int .i64 d.nx).wf = true) := by
  have h := Opens.struct (P := Try.prog) Try.underlying42 (by kernel_rfl) [(fun ds => ∃ lo ts, ds = [intsD lo, nodesA ts]), (fun ds => ∃ l, ds = [agesA l]), (fun ds => ∃ l, ds = [celsA l]), (fun ds => ∃ l, ds = [volsA l] ∧ ∀ k ∈ l, k.a.size ≤ maxLen), (fun ds => ∃ n : Int, ds = [.lit (iV n)] ∧ (Lit.int .i64 n).wf = true)] rfl (fun i hi => by
    match i, hi with
    | 0, _ => exact tree_opens
    | 1, _ => exact ages_opens
    | 2, _ => exact cels_opens
    | 3, _ => exact vols_opens
    | 4, _ => exact Opens.int Try.underlying3)
  refine h.weaken (fun ds ⟨dss, hd, hC, hds⟩ => ?_)
  match dss, hd with
  | [a, b, c, e, f], _ =>
    obtain ⟨lo, ts, h0⟩ := hC 0 (by simp)
    obtain ⟨ag, h1⟩ := hC 1 (by simp)
    obtain ⟨ce, h2⟩ := hC 2 (by simp)
    obtain ⟨vo, h3, z3⟩ := hC 3 (by simp)
    obtain ⟨nx, h4, z4⟩ := hC 4 (by simp)
    simp at h0 h1 h2 h3 h4
    subst h0 h1 h2 h3 h4
    exact ⟨⟨lo, ts, ag, ce, vo, nx⟩, by rw [hds]; rfl, z3, z4⟩
theorem open_poolArg {H : Type} {enc : TypeId × Value → H} {w : World} {r : Reach} {b0 base : Nat} {spare : Nat → Bool} {held : Bool} {v : Value} {x : DataW H} {p : List MemPlace}
    (hv : Value.okWide Try.prog w r b0 42 v) (h : DataW.Trod enc Try.prog w base spare held 42 v x p) : ∃ d, PoolIs w v d := by
  obtain ⟨cs, rfl, hsz⟩ := okWide_struct Try.underlying42 hv
  obtain ⟨fuel, hf⟩ := h
  obtain ⟨ds, ⟨d, rfl, hn, hw⟩, hr⟩ := pool_opens _ _ _ _ _ _ _ _ _ hf
  obtain ⟨l⟩ := cs
  have hl := hr.1
  simp [Value.cells] at hl
  match l, hl with
  | [a, b, c, e, f, g], _ =>
    have r0 := hr.2 0 (by simp [Value.cells]) (by simp)
    have r1 := hr.2 1 (by simp [Value.cells]) (by simp)
    have r2 := hr.2 2 (by simp [Value.cells]) (by simp)
    have r3 := hr.2 3 (by simp [Value.cells]) (by simp)
    have r4 := hr.2 4 (by simp [Value.cells]) (by simp)
    have r5 := hr.2 5 (by simp [Value.cells]) (by simp)
    simp [Value.cells] at r0 r1 r2 r3 r4 r5
    cases r5
    exact ⟨d, a, b, c, e, f, rfl, ⟨⟨r0, r1⟩, r2, r3, r4⟩, hn, hw⟩
theorem szTree_le (vl vn : Value) (lo : List Int) (ts : List NodeD) (w : World) (hl : Reads w w.heap.size vl (intsD lo)) (hv : Reads w w.heap.size vn (nodesA ts)) :
    Calls Try.prog 36 #[.agg #[vl, vn], .int .i64 1048576] w fun e w' => ((∃ q : Int, e = .returned (.int .i64 q) ∧ 0 ≤ q ∧ q ≤ 1048576 ∧ lo.length + (ts.length + sumT ts) ≤ 1048576) ∨ e = .returned (.int .i64 (-1))) ∧ Below w.heap.size w w' := by
  obtain ⟨A, c, rfl, hc1, hc2⟩ := hl.lenN
  have HS := Lib.hid (fun W b m => szNodeS_any vn ts m W (hv.on b))
  obtain ⟨A', c', rfl, _, _⟩ := hv.lenN
  have HB := Lib.hid (bal1 w (.cells #[.slice A lo.length c, .slice A' ts.length c'] 37))
  clear hv hl
  go_enter Try.func36, Try.ntmps36
  go_wp2_with fail
  refine (szIntS_any A lo.length c 1048576 _ (by omega) (by omega) (by omega)).mono ?_
  rintro e w1 ⟨rfl, (⟨rfl, h3⟩ | ⟨rfl, h3⟩)⟩
  · go_wp2
    go_ret
    exact ⟨.inr rfl, HB.out⟩
  · generalize hq : (1048576 : Int) - ((lo.length : Nat) : Int) = q
    have d2 : decide (q < 0) = false := decide_eq_false (by omega)
    go_wp2_with fail
    refine (HS.out _ HB.out q (by omega) (by omega)).mono ?_
    rintro e w2 ⟨b2, (⟨rfl, h4⟩ | ⟨rfl, h4⟩)⟩
    · have HB2 := Lib.hid (bstep HB.out b2)
      clear b2
      go_wp2
      go_ret
      exact ⟨.inr rfl, HB2.out⟩
    · have HB2 := Lib.hid (bstep HB.out b2)
      clear b2
      generalize hp : q - ((ts.length + sumT ts : Nat) : Int) = p
      have d3 : decide (p < 0) = false := decide_eq_false (by omega)
      go_wp2
      go_ret
      exact ⟨.inl ⟨p, rfl, by omega, by omega, by omega⟩, HB2.out⟩
set_option maxHeartbeats 1000000 in
theorem szPool_any (vl vn va vc vv : Value) (d : PoolD) (w : World) (h : RdA w vl vn va vc vv d) (hn : ∀ k ∈ d.vo, k.a.size ≤ maxLen) :
    Calls Try.prog 12 #[.agg #[vl, vn, va, vc, vv, .int .i64 d.nx], .int .i64 1048576] w fun e w' => ((∃ q : Int, e = .returned (.int .i64 q) ∧ 0 ≤ q ∧ SmallP d) ∨ e = .returned (.int .i64 (-1))) ∧ Below w.heap.size w w' := by
  obtain ⟨A0, c0, A1, c1, A2, c2, A3, c3, A4, c4, rfl, rfl, rfl, rfl, rfl⟩ := h.shape
  have hl2 := h.2.1.lenN
  have hl3 := h.2.2.1.lenN
  obtain ⟨_, _, e2, g2, g2'⟩ := h.2.1.lenN
  obtain ⟨_, _, e3, g3, g3'⟩ := h.2.2.1.lenN
  cases e2
  cases e3
  clear hl2 hl3
  have m2 : d.ag.length ≤ maxLen := by omega
  have m3 : d.ce.length ≤ maxLen := by omega
  have HT := Lib.hid (fun W b => szTree_le (.slice A0 d.lo.length c0) (.slice A1 d.ts.length c1) d.lo d.ts W (h.1.1.on b) (h.1.2.on b))
  have HV := Lib.hid (fun W b m => szVolS_any (.slice A4 d.vo.length c4) d.vo m W (h.2.2.2.on b) hn)
  have HB := Lib.hid (bal1 w (.cells #[.slice A0 d.lo.length c0, .slice A1 d.ts.length c1, .slice A2 d.ag.length c2, .slice A3 d.ce.length c3, .slice A4 d.vo.length c4, .int .i64 d.nx] 42))
  have Q0 := Lib.hid (al1 w (.cells #[.slice A0 d.lo.length c0, .slice A1 d.ts.length c1, .slice A2 d.ag.length c2, .slice A3 d.ce.length c3, .slice A4 d.vo.length c4, .int .i64 d.nx] 42))
  have M2 := Lib.hid m2
  have M3 := Lib.hid m3
  clear h hn m2 m3 g2 g2' g3 g3'
  go_enter Try.func12, Try.ntmps12
  go_upto_region 1 with (fail)
  generalize w.alloc (.cells #[.slice A0 d.lo.length c0, .slice A1 d.ts.length c1, .slice A2 d.ag.length c2, .slice A3 d.ce.length c3, .slice A4 d.vo.length c4, .int .i64 d.nx] 42) = W at *
  obtain ⟨x0, x1, x2, x3, x4, x5, x6⟩ := boxP Q0.out
  go_wp2_with fail
  refine (HT.out _ HB.out).mono ?_
  rintro e w1 ⟨⟨q, rfl, q0, q1, S1⟩ | rfl, b1⟩
  · clear x0 x1 x2 x3 x4 x5 x6
    obtain ⟨x0, x1, x2, x3, x4, x5, x6⟩ := boxP (box_on Q0.out b1)
    have HB1 := Lib.hid (bstep HB.out b1)
    have HS1 := Lib.hid S1
    have HW1 := Lib.hid (box_on Q0.out b1)
    have d1 : decide (q < 0) = false := decide_eq_false (by omega)
    clear b1 S1
    go_wp2_with fail
    refine (szAgeS_any A2 d.ag.length c2 q _ M2.out q0 q1).mono ?_
    rintro e w2 ⟨rfl, ⟨rfl, h3⟩ | ⟨rfl, h3⟩⟩
    · go_wp2
      go_ret
      exact ⟨.inr rfl, HB1.out⟩
    · have S2 : Hid (d.ag.length ≤ 1048576) := Lib.hid (by omega)
      have q2 : 0 ≤ q - ((d.ag.length : Nat) : Int) := by omega
      have q3 : q - ((d.ag.length : Nat) : Int) ≤ 1048576 := by omega
      generalize q - ((d.ag.length : Nat) : Int) = r at *
      have d2 : decide (r < 0) = false := decide_eq_false (by omega)
      clear h3
      go_wp2_with fail
      refine (szCellS_any A3 d.ce.length c3 r _ M3.out q2 q3).mono ?_
      rintro e w2 ⟨rfl, ⟨rfl, h3⟩ | ⟨rfl, h3⟩⟩
      · go_wp2
        go_ret
        exact ⟨.inr rfl, HB1.out⟩
      · have S3 : Hid (d.ce.length ≤ 1048576) := Lib.hid (by omega)
        have q4 : 0 ≤ r - ((d.ce.length : Nat) : Int) := by omega
        have q5 : r - ((d.ce.length : Nat) : Int) ≤ 1048576 := by omega
        generalize r - ((d.ce.length : Nat) : Int) = s at *
        have d3 : decide (s < 0) = false := decide_eq_false (by omega)
        clear h3
        go_wp2_with fail
        refine (HV.out _ HB1.out s q4 q5).mono ?_
        rintro e w2 ⟨b2, ⟨rfl, h3⟩ | ⟨rfl, h3⟩⟩
        · have HB2 := Lib.hid (bstep HB1.out b2)
          clear b2
          go_wp2
          go_ret
          exact ⟨.inr rfl, HB2.out⟩
        · have HB2 := Lib.hid (bstep HB1.out b2)
          have S4 : Hid (d.vo.length ≤ 1048576) := Lib.hid (by omega)
          have q6 : 0 ≤ s - ((d.vo.length + sumV d.vo : Nat) : Int) := by omega
          generalize s - ((d.vo.length + sumV d.vo : Nat) : Int) = p at *
          have d4 : decide (p < 0) = false := decide_eq_false (by omega)
          clear b2 h3
          go_wp2
          go_ret
          exact ⟨.inl ⟨p, rfl, q6, HS1.out, S2.out, S3.out, S4.out⟩, HB2.out⟩
  · have HB1 := Lib.hid (bstep HB.out b1)
    clear b1
    go_wp2
    go_ret
    exact ⟨.inr rfl, HB1.out⟩
set_option maxHeartbeats 1000000 in
theorem toPool_any (vl vn va vc vv : Value) (d : PoolD) (w : World) (h : RdA w vl vn va vc vv d) (hs : SmallP d) :
    Calls Try.prog 14 #[.agg #[vl, vn, va, vc, vv, .int .i64 d.nx]] w (NewP 90 w d) := by
  obtain ⟨A0, c0, A1, c1, A2, c2, A3, c3, A4, c4, rfl, rfl, rfl, rfl, rfl⟩ := h.shape
  have HT := Lib.hid (fun W b => toTree_any (.slice A0 d.lo.length c0) (.slice A1 d.ts.length c1) d.lo d.ts W (h.1.1.on b) (h.1.2.on b) hs.1)
  have HA := Lib.hid (fun W b => toAgeS_any (.slice A2 d.ag.length c2) d.ag W (h.2.1.on b) hs.2.1)
  have HC := Lib.hid (fun W b => toCellS_any (.slice A3 d.ce.length c3) d.ce W (h.2.2.1.on b) hs.2.2.1)
  have HV := Lib.hid (fun W b => toVolS_any (.slice A4 d.vo.length c4) d.vo W (h.2.2.2.on b) hs.2.2.2)
  obtain ⟨q0, q1, q2⟩ := al3 w (.cells #[.slice A0 d.lo.length c0, .slice A1 d.ts.length c1, .slice A2 d.ag.length c2, .slice A3 d.ce.length c3, .slice A4 d.vo.length c4, .int .i64 d.nx] 42) (.cells #[.slice none 0 0, .slice none 0 0, .slice none 0 0, .slice none 0 0, .slice none 0 0, .int .i64 0] 30) (.cells #[.slice none 0 0, .slice none 0 0, .slice none 0 0, .slice none 0 0, .slice none 0 0, .int .i64 0] 30)
  have Q0 := Lib.hid q0
  have Q1 := Lib.hid q1
  have Q2 := Lib.hid q2
  have HB := Lib.hid (bal3 w (.cells #[.slice A0 d.lo.length c0, .slice A1 d.ts.length c1, .slice A2 d.ag.length c2, .slice A3 d.ce.length c3, .slice A4 d.vo.length c4, .int .i64 d.nx] 42) (.cells #[.slice none 0 0, .slice none 0 0, .slice none 0 0, .slice none 0 0, .slice none 0 0, .int .i64 0] 30) (.cells #[.slice none 0 0, .slice none 0 0, .slice none 0 0, .slice none 0 0, .slice none 0 0, .int .i64 0] 30))
  have HZ : Hid ((((w.alloc (.cells #[.slice A0 d.lo.length c0, .slice A1 d.ts.length c1, .slice A2 d.ag.length c2, .slice A3 d.ce.length c3, .slice A4 d.vo.length c4, .int .i64 d.nx] 42)).alloc (.cells #[.slice none 0 0, .slice none 0 0, .slice none 0 0, .slice none 0 0, .slice none 0 0, .int .i64 0] 30)).alloc (.cells #[.slice none 0 0, .slice none 0 0, .slice none 0 0, .slice none 0 0, .slice none 0 0, .int .i64 0] 30)).heap.size = w.heap.size + 3) := Lib.hid (by simp)
  clear h hs q0 q1 q2
  go_enter Try.func14, Try.ntmps14
  go_upto_region 2 with (fail)
  generalize ((w.alloc (.cells #[.slice A0 d.lo.length c0, .slice A1 d.ts.length c1, .slice A2 d.ag.length c2, .slice A3 d.ce.length c3, .slice A4 d.vo.length c4, .int .i64 d.nx] 42)).alloc (.cells #[.slice none 0 0, .slice none 0 0, .slice none 0 0, .slice none 0 0, .slice none 0 0, .int .i64 0] 30)).alloc (.cells #[.slice none 0 0, .slice none 0 0, .slice none 0 0, .slice none 0 0, .slice none 0 0, .int .i64 0] 30) = W at *
  obtain ⟨x0, x1, x2, x3, x4, x5, x6⟩ := boxP Q0.out
  go_wp2_with fail
  refine (HT.out _ HB.out).mono ?_
  rintro e w1 ⟨r0, r1, rfl, o1, b1⟩
  obtain ⟨B0, e0, B1, e1, rfl, rfl⟩ := o1.reads.shape
  clear x0 x1 x2 x3 x4 x5 x6
  have hz := HZ.out
  have hz1 := b1.size
  replace Q0 := Lib.hid (box_far (g := w.heap.size + 1 + 1) (j := 1) (u := .slice B1 d.ts.length e1) (box_far (g := w.heap.size + 1 + 1) (j := 0) (u := .slice B0 d.lo.length e0) (box_on Q0.out b1) (by omega)) (by omega))
  replace Q1 := Lib.hid (box_far (g := w.heap.size + 1 + 1) (j := 1) (u := .slice B1 d.ts.length e1) (box_far (g := w.heap.size + 1 + 1) (j := 0) (u := .slice B0 d.lo.length e0) (box_on Q1.out b1) (by omega)) (by omega))
  obtain ⟨x0, x1, x2, x3, x4, x5, x6⟩ := boxP (box_on Q2.out b1)
  replace Q2 := Lib.hid (box_set (i := 1) (u := .slice B1 d.ts.length e1) (box_set (i := 0) (u := .slice B0 d.lo.length e0) (box_on Q2.out b1)))
  replace HB := Lib.hid (((bstep HB.out b1).setCell (p := ⟨w.heap.size + 1 + 1, 0, none⟩) (show w.heap.size ≤ w.heap.size + 1 + 1 by omega) (.slice B0 d.lo.length e0)).setCell (p := ⟨w.heap.size + 1 + 1, 1, none⟩) (show w.heap.size ≤ w.heap.size + 1 + 1 by omega) (.slice B1 d.ts.length e1))
  have O1 := Lib.hid (TreeC.keep (w' := (w1.setCell ⟨w.heap.size + 1 + 1, 0, none⟩ (.slice B0 d.lo.length e0)).setCell ⟨w.heap.size + 1 + 1, 1, none⟩ (.slice B1 d.ts.length e1)) (o1.c.lt.mono (T := fun b => w.heap.size + 3 ≤ b ∧ b < w1.heap.size) (fun b hb => ⟨by have := hb.1; omega, hb.2⟩)) (fun b hb _ => (Below.heap_setCell _ _ _ _ (fun h => by have h1 : b = w.heap.size + 1 + 1 := h; have := hb.1; omega)).trans (Below.heap_setCell _ _ _ _ (fun h => by have h1 : b = w.heap.size + 1 + 1 := h; have := hb.1; omega))))
  have ZZ : Hid (w1.heap.size = ((w1.setCell ⟨w.heap.size + 1 + 1, 0, none⟩ (.slice B0 d.lo.length e0)).setCell ⟨w.heap.size + 1 + 1, 1, none⟩ (.slice B1 d.ts.length e1)).heap.size) := Lib.hid (by simp)
  simp only [List.setIfInBounds_toArray, List.set_cons_zero, List.set_cons_succ] at Q2
  clear o1 b1
  go_upto_region 3 with (fail)
  clear x0 x1 x2 x3 x4 x5 x6
  generalize (w1.setCell ⟨w.heap.size + 1 + 1, 0, none⟩ (.slice B0 d.lo.length e0)).setCell ⟨w.heap.size + 1 + 1, 1, none⟩ (.slice B1 d.ts.length e1) = W1 at *
  have hy1 := Nat.le_of_eq ZZ.out
  have hy2 := Nat.le_of_eq ZZ.out.symm
  obtain ⟨x0, x1, x2, x3, x4, x5, x6⟩ := boxP Q0.out
  go_wp2_with fail
  refine (HA.out _ HB.out).mono ?_
  rintro e w2 ⟨r2, rfl, o2, b1⟩
  obtain ⟨B2, e2, rfl, _, _⟩ := o2.shape
  clear x0 x1 x2 x3 x4 x5 x6
  have hz2 := b1.size
  replace Q0 := Lib.hid (box_far (g := w.heap.size + 1 + 1) (j := 2) (u := (.slice B2 d.ag.length e2)) (box_on Q0.out b1) (by omega))
  replace Q1 := Lib.hid (box_far (g := w.heap.size + 1 + 1) (j := 2) (u := (.slice B2 d.ag.length e2)) (box_on Q1.out b1) (by omega))
  obtain ⟨x0, x1, x2, x3, x4, x5, x6⟩ := boxP (box_on Q2.out b1)
  replace Q2 := Lib.hid (box_set (i := 2) (u := (.slice B2 d.ag.length e2)) (box_on Q2.out b1))
  replace HB := Lib.hid ((bstep HB.out b1).setCell (p := ⟨w.heap.size + 1 + 1, 2, none⟩) (show w.heap.size ≤ w.heap.size + 1 + 1 by omega) (.slice B2 d.ag.length e2))
  have HO2 : Only (Mid w.heap.size (w.heap.size + 3)) w2 (w2.setCell ⟨w.heap.size + 1 + 1, 2, none⟩ (.slice B2 d.ag.length e2)) := (Only.refl _ _).setCell (.mk (by omega) (by omega)) _
  replace O1 := Lib.hid ((O1.out.on b1).far HO2 (fun b hb _ hb' => by have := hb'.2; have := hb.1; omega))
  have O2 := Lib.hid ((o2.owns.lt.mono (T := fun b => W1.heap.size ≤ b ∧ b < w2.heap.size) (fun b hb => hb)).far HO2 (fun b hb _ hb' => by have := hb'.2; have := hb.1; omega))
  have ZZ2 : Hid (w2.heap.size = (w2.setCell ⟨w.heap.size + 1 + 1, 2, none⟩ (.slice B2 d.ag.length e2)).heap.size) := Lib.hid (by simp)
  simp only [List.setIfInBounds_toArray, List.set_cons_zero, List.set_cons_succ] at Q2
  clear o2 b1 HO2
  go_upto_region 4 with (fail)
  clear x0 x1 x2 x3 x4 x5 x6
  generalize w2.setCell ⟨w.heap.size + 1 + 1, 2, none⟩ (.slice B2 d.ag.length e2) = W2 at *
  have hy2a := Nat.le_of_eq ZZ2.out
  have hy2b := Nat.le_of_eq ZZ2.out.symm
  obtain ⟨x0, x1, x2, x3, x4, x5, x6⟩ := boxP Q0.out
  go_wp2_with fail
  refine (HC.out _ HB.out).mono ?_
  rintro e w3 ⟨r3, rfl, o3, b1⟩
  obtain ⟨B3, e3, rfl, _, _⟩ := o3.shape
  clear x0 x1 x2 x3 x4 x5 x6
  have hz3 := b1.size
  replace Q0 := Lib.hid (box_far (g := w.heap.size + 1 + 1) (j := 3) (u := (.slice B3 d.ce.length e3)) (box_on Q0.out b1) (by omega))
  replace Q1 := Lib.hid (box_far (g := w.heap.size + 1 + 1) (j := 3) (u := (.slice B3 d.ce.length e3)) (box_on Q1.out b1) (by omega))
  obtain ⟨x0, x1, x2, x3, x4, x5, x6⟩ := boxP (box_on Q2.out b1)
  replace Q2 := Lib.hid (box_set (i := 3) (u := (.slice B3 d.ce.length e3)) (box_on Q2.out b1))
  replace HB := Lib.hid ((bstep HB.out b1).setCell (p := ⟨w.heap.size + 1 + 1, 3, none⟩) (show w.heap.size ≤ w.heap.size + 1 + 1 by omega) (.slice B3 d.ce.length e3))
  have HO3 : Only (Mid w.heap.size (w.heap.size + 3)) w3 (w3.setCell ⟨w.heap.size + 1 + 1, 3, none⟩ (.slice B3 d.ce.length e3)) := (Only.refl _ _).setCell (.mk (by omega) (by omega)) _
  replace O1 := Lib.hid ((O1.out.on b1).far HO3 (fun b hb _ hb' => by have := hb'.2; have := hb.1; omega))
  replace O2 := Lib.hid ((O2.out.on b1).far HO3 (fun b hb _ hb' => by have := hb'.2; have := hb.1; omega))
  have O3 := Lib.hid ((o3.owns.lt.mono (T := fun b => W2.heap.size ≤ b ∧ b < w3.heap.size) (fun b hb => hb)).far HO3 (fun b hb _ hb' => by have := hb'.2; have := hb.1; omega))
  have ZZ3 : Hid (w3.heap.size = (w3.setCell ⟨w.heap.size + 1 + 1, 3, none⟩ (.slice B3 d.ce.length e3)).heap.size) := Lib.hid (by simp)
  simp only [List.setIfInBounds_toArray, List.set_cons_zero, List.set_cons_succ] at Q2
  clear o3 b1 HO3
  go_upto_region 5 with (fail)
  clear x0 x1 x2 x3 x4 x5 x6
  generalize w3.setCell ⟨w.heap.size + 1 + 1, 3, none⟩ (.slice B3 d.ce.length e3) = W3 at *
  have hy3a := Nat.le_of_eq ZZ3.out
  have hy3b := Nat.le_of_eq ZZ3.out.symm
  obtain ⟨x0, x1, x2, x3, x4, x5, x6⟩ := boxP Q0.out
  go_wp2_with fail
  refine (HV.out _ HB.out).mono ?_
  rintro e w4 ⟨r4, rfl, o4, b1⟩
  obtain ⟨B4, e4, rfl, _, _⟩ := o4.shape
  clear x0 x1 x2 x3 x4 x5 x6
  have hz4 := b1.size
  obtain ⟨x0, x1, x2, x3, x4, x5, x6⟩ := boxP (box_on Q0.out b1)
  obtain ⟨y0, y1, y2, y3, y4, y5, y6⟩ := boxP (box_on Q2.out b1)
  obtain ⟨z0, z1, z2, z3, z4, z5, z6⟩ := boxP (box_on Q1.out b1)
  replace O1 := Lib.hid (O1.out.on b1)
  replace O2 := Lib.hid (O2.out.on b1)
  replace O3 := Lib.hid (O3.out.on b1)
  have O4 := Lib.hid (o4.owns)
  have BB := Lib.hid (bstep HB.out b1)
  clear o4 b1
  go_wp2
  have HO : ∀ a b c0 c1 c2 c3 c4 c5, Only (Mid w.heap.size (w.heap.size + 3)) w4 ((((((((w4.setCell ⟨w.heap.size + 1 + 1, 4, none⟩ a).setCell ⟨w.heap.size + 1 + 1, 5, none⟩ b).setCell ⟨w.heap.size + 1, 0, none⟩ c0).setCell ⟨w.heap.size + 1, 1, none⟩ c1).setCell ⟨w.heap.size + 1, 2, none⟩ c2).setCell ⟨w.heap.size + 1, 3, none⟩ c3).setCell ⟨w.heap.size + 1, 4, none⟩ c4).setCell ⟨w.heap.size + 1, 5, none⟩ c5) := fun a b c0 c1 c2 c3 c4 c5 => ((((((((Only.refl _ _).setCell (.mk (by omega) (by omega)) _).setCell (.mk (by omega) (by omega)) _).setCell (.mk (by omega) (by omega)) _).setCell (.mk (by omega) (by omega)) _).setCell (.mk (by omega) (by omega)) _).setCell (.mk (by omega) (by omega)) _).setCell (.mk (by omega) (by omega)) _).setCell (.mk (by omega) (by omega)) _
  refine bodyPost_ret (v := .agg #[.slice B0 d.lo.length e0, .slice B1 d.ts.length e1, .slice B2 d.ag.length e2, .slice B3 d.ce.length e3, .slice B4 d.vo.length e4, .int .i64 d.nx]) (by simp [results, Try.results14, go_sem, y0, y1, y2, y3, y4, y5, y6, z0, z1, z2, z3, z4, z5, z6]) rfl ⟨_, _, _, _, _, rfl, ⟨fun b => w.heap.size + 3 ≤ b ∧ b < w1.heap.size, fun b => W1.heap.size ≤ b ∧ b < w2.heap.size, fun b => W2.heap.size ≤ b ∧ b < w3.heap.size, fun b => W3.heap.size ≤ b, fun b hb => by have := hb.1; omega, fun b hb => by have := hb.1; omega, fun b hb => by have := hb.1; omega, fun b hb => by omega, fun b hb => ⟨fun h => by have := hb.2; have := h.1; omega, fun h => by have := hb.2; have := h.1; omega, fun h => by have := hb.2; omega⟩, fun b hb => ⟨fun h => by have := hb.2; have := h.1; omega, fun h => by have := hb.2; omega⟩, fun b hb h => by have := hb.2; omega, ?_, ?_, ?_, ?_⟩, bpast BB.out (HO _ _ _ _ _ _ _ _)⟩
  · exact O1.out.far (HO _ _ _ _ _ _ _ _) (fun b hb _ hb' => by have := hb'.2; have := hb.1; omega)
  · exact O2.out.far (HO _ _ _ _ _ _ _ _) (fun b hb _ hb' => by have := hb'.2; have := hb.1; omega)
  · exact O3.out.far (HO _ _ _ _ _ _ _ _) (fun b hb _ hb' => by have := hb'.2; have := hb.1; omega)
  · exact O4.out.far (HO _ _ _ _ _ _ _ _) (fun b hb _ hb' => by have := hb'.2; omega)
set_option maxHeartbeats 1000000 in
theorem eqPool_same {t u : TypeId} (vl vn va vc vv ul un ua uc uv : Value) (d : PoolD) (w : World) (h : RdP t w w.heap.size vl vn va vc vv d) (k : RdP u w w.heap.size ul un ua uc uv d) (hs : SmallP d) :
    Calls Try.prog 9 #[.agg #[vl, vn, va, vc, vv, .int .i64 d.nx], .agg #[ul, un, ua, uc, uv, .int .i64 d.nx]] w (SaysBool w true) := by
  obtain ⟨A0, c0, A1, c1, A2, c2, A3, c3, A4, c4, rfl, rfl, rfl, rfl, rfl⟩ := h.shape
  obtain ⟨B0, e0, B1, e1, B2, e2, B3, e3, B4, e4, rfl, rfl, rfl, rfl, rfl⟩ := k.shape
  have s2 := hs.2.1
  have s3 := hs.2.2.1
  have s4 := hs.2.2.2
  have HT := Lib.hid (fun W b => eqTree_same (.slice A0 d.lo.length c0) (.slice A1 d.ts.length c1) (.slice B0 d.lo.length e0) (.slice B1 d.ts.length e1) d.lo d.ts W (h.1.on b) (k.1.on b) hs.t)
  have HA := Lib.hid (fun W b => eqAgeS_same (.slice A2 d.ag.length c2) (.slice B2 d.ag.length e2) d.ag W (h.2.1.on b) (k.2.1.on b) (by omega))
  have HC := Lib.hid (fun W b => eqCellS_same (.slice A3 d.ce.length c3) (.slice B3 d.ce.length e3) d.ce W (h.2.2.1.on b) (k.2.2.1.on b) (by omega))
  have HV := Lib.hid (fun W b => eqVolS_same (.slice A4 d.vo.length c4) (.slice B4 d.vo.length e4) d.vo W (h.2.2.2.on b) (k.2.2.2.on b) (by omega))
  have hne : ((d.nx : Int) != d.nx) = false := by simp
  have HB := Lib.hid (bal2 w (.cells #[.slice A0 d.lo.length c0, .slice A1 d.ts.length c1, .slice A2 d.ag.length c2, .slice A3 d.ce.length c3, .slice A4 d.vo.length c4, .int .i64 d.nx] 30) (.cells #[.slice B0 d.lo.length e0, .slice B1 d.ts.length e1, .slice B2 d.ag.length e2, .slice B3 d.ce.length e3, .slice B4 d.vo.length e4, .int .i64 d.nx] 30))
  obtain ⟨q0, q1⟩ := al2 w (.cells #[.slice A0 d.lo.length c0, .slice A1 d.ts.length c1, .slice A2 d.ag.length c2, .slice A3 d.ce.length c3, .slice A4 d.vo.length c4, .int .i64 d.nx] 30) (.cells #[.slice B0 d.lo.length e0, .slice B1 d.ts.length e1, .slice B2 d.ag.length e2, .slice B3 d.ce.length e3, .slice B4 d.vo.length e4, .int .i64 d.nx] 30)
  have Q0 := Lib.hid q0
  have Q1 := Lib.hid q1
  clear h k q0 q1 hs s2 s3 s4
  go_enter Try.func9, Try.ntmps9
  go_upto_region 1 with (fail)
  generalize (w.alloc (.cells #[.slice A0 d.lo.length c0, .slice A1 d.ts.length c1, .slice A2 d.ag.length c2, .slice A3 d.ce.length c3, .slice A4 d.vo.length c4, .int .i64 d.nx] 30)).alloc (.cells #[.slice B0 d.lo.length e0, .slice B1 d.ts.length e1, .slice B2 d.ag.length e2, .slice B3 d.ce.length e3, .slice B4 d.vo.length e4, .int .i64 d.nx] 30) = W at *
  obtain ⟨x0, x1, x2, x3, x4, x5, x6⟩ := boxP Q0.out
  obtain ⟨y0, y1, y2, y3, y4, y5, y6⟩ := boxP Q1.out
  go_wp2_with fail
  refine (HT.out _ HB.out).mono ?_
  rintro e w1 ⟨rfl, b1⟩
  clear x0 x1 x2 x3 x4 x5 x6 y0 y1 y2 y3 y4 y5 y6
  replace HB := Lib.hid (bstep HB.out b1)
  replace Q0 := Lib.hid (box_on Q0.out b1)
  replace Q1 := Lib.hid (box_on Q1.out b1)
  obtain ⟨x0, x1, x2, x3, x4, x5, x6⟩ := boxP Q0.out
  obtain ⟨y0, y1, y2, y3, y4, y5, y6⟩ := boxP Q1.out
  clear b1
  go_wp2_with fail
  refine (HA.out _ HB.out).mono ?_
  rintro e w1 ⟨rfl, b1⟩
  clear x0 x1 x2 x3 x4 x5 x6 y0 y1 y2 y3 y4 y5 y6
  replace HB := Lib.hid (bstep HB.out b1)
  replace Q0 := Lib.hid (box_on Q0.out b1)
  replace Q1 := Lib.hid (box_on Q1.out b1)
  obtain ⟨x0, x1, x2, x3, x4, x5, x6⟩ := boxP Q0.out
  obtain ⟨y0, y1, y2, y3, y4, y5, y6⟩ := boxP Q1.out
  clear b1
  go_wp2_with fail
  refine (HC.out _ HB.out).mono ?_
  rintro e w1 ⟨rfl, b1⟩
  clear x0 x1 x2 x3 x4 x5 x6 y0 y1 y2 y3 y4 y5 y6
  replace HB := Lib.hid (bstep HB.out b1)
  replace Q0 := Lib.hid (box_on Q0.out b1)
  replace Q1 := Lib.hid (box_on Q1.out b1)
  obtain ⟨x0, x1, x2, x3, x4, x5, x6⟩ := boxP Q0.out
  obtain ⟨y0, y1, y2, y3, y4, y5, y6⟩ := boxP Q1.out
  clear b1
  go_wp2_with fail
  refine (HV.out _ HB.out).mono ?_
  rintro e w1 ⟨rfl, b1⟩
  clear x0 x1 x2 x3 x4 x5 x6 y0 y1 y2 y3 y4 y5 y6
  replace HB := Lib.hid (bstep HB.out b1)
  replace Q0 := Lib.hid (box_on Q0.out b1)
  replace Q1 := Lib.hid (box_on Q1.out b1)
  obtain ⟨x0, x1, x2, x3, x4, x5, x6⟩ := boxP Q0.out
  obtain ⟨y0, y1, y2, y3, y4, y5, y6⟩ := boxP Q1.out
  clear b1
  go_wp2
  go_ret
  exact ⟨rfl, HB.out⟩
end Go.Proofs.Ytmpgmjnagpiijaa
