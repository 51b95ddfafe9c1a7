/- Several texts in one: TreeLaw, TreeMark, ExTree, NodeCopy, TreeCopy, NodeBox, TreePack. -/
import Derived.Test.YtkcafbdlealbpaaGreatTree
import Derived.Test.YtkcafbdlealbpaaGreatNodeSKeys
import Derived.Test.YtkcafbdlealbpaaGreatKSetIMerge
import Derived.Test.YtkcafbdlealbpaaGreatGen
import Derived.Test.YtkcafbdlealbpaaGreatLast
import Derived.Test.YtkcafbdlealbpaaGreatKSetFind
import Derived.Test.YtkcafbdlealbpaaGreatTreeKeys
import Derived.Test.YtkcafbdlealbpaaGreatTreeOk
/- Contracts for trees in the laws: laws.toTree copies one, eqTree finds two that read alike equal, markTree writes marks, heldTree finds them; a tree that comes in as an argument is opened. Conditions: at most 1100000 bounds, nodes, sets and keys. -/
namespace Go.Proofs.YtkcafbdlealbpaaGreat
open Go.RowKit Go.ChangeShapes Go.WideShapes Go.Deep
set_option maxRecDepth 100000
set_option linter.unusedSimpArgs false
set_option linter.unusedVariables false

theorem ints_opens : Opens Tryz.prog 24 (fun ds => ∃ l, ds = [intsD l]) := by
  have hi : Opens Tryz.prog 3 (fun ds => ∃ n : Int, ds = [.lit (iV n)]) := (Opens.int Tryz.underlying3).weaken (fun ds ⟨n, h, _⟩ => ⟨n, h⟩)
  have h := Opens.slice (z := 1) (fun n : Int => [.lit (iV n)]) (fun _ => rfl) (by omega) Tryz.underlying24 (by kernel_rfl) hi 3
  refine h.weaken (fun ds ⟨l, hl⟩ => ⟨l, ?_⟩)
  rw [hl, intsD, flat_one]
theorem nodes_opens : Opens Tryz.prog 52 (fun ds => ∃ ts, ds = [nodesA ts]) := by
  have h := Opens.slice (z := 1) (fun ns : NodeD => [setsA ns]) (fun _ => rfl) (by omega) Tryz.underlying52 (by kernel_rfl) node_opens 131
  refine h.weaken (fun ds ⟨l, hl⟩ => ⟨l, ?_⟩)
  rw [hl, nodesA, flat_one]
theorem tree_opens : Opens Tryz.prog 54 (fun ds => ∃ lo ts, ds = [intsD lo, nodesA ts]) := by
  have h := Opens.struct (P := Tryz.prog) Tryz.underlying54 (by kernel_rfl) [fun ds => ∃ l, ds = [intsD l], fun ds => ∃ ts, ds = [nodesA ts]] rfl (fun i hi => by
    match i, hi with
    | 0, _ => exact ints_opens
    | 1, _ => exact nodes_opens)
  refine h.weaken (fun ds ⟨dss, hd, hC, hds⟩ => ?_)
  match dss, hd with
  | [a, b], _ =>
    obtain ⟨lo, h0⟩ := hC 0 (by simp)
    obtain ⟨ts, h1⟩ := hC 1 (by simp)
    simp at h0 h1
    subst h0 h1
    exact ⟨lo, ts, by rw [hds]; rfl⟩
/-- A tree as it comes in. -/
def TreeIs (w : World) (v : Value) (d : List Int × List NodeD) : Prop := ∃ vl vn, v = .agg #[vl, vn] ∧ Reads w w.heap.size vl (intsD d.1) ∧ Reads w w.heap.size vn (nodesA d.2)
theorem open_treeArg {H : Type} {enc : TypeId × Value → H} {w : World} {r : Reach} {b0 base : Nat} {spare : Nat → Bool} {held : Bool} {v : Value} {x : DataW H} {p : List MemPlace}
    (hv : Value.okWide Tryz.prog w r b0 54 v) (h : DataW.Trod enc Tryz.prog w base spare held 54 v x p) : ∃ d, TreeIs w v d := by
  obtain ⟨cs, rfl, hsz⟩ := okWide_struct Tryz.underlying54 hv
  obtain ⟨fuel, hf⟩ := h
  obtain ⟨ds, ⟨lo, ts, rfl⟩, hr⟩ := tree_opens _ _ _ _ _ _ _ _ _ hf
  obtain ⟨l⟩ := cs
  have hl := hr.1
  simp [Value.cells] at hl
  match l, hl with
  | [a, b], _ =>
    have r0 := hr.2 0 (by simp [Value.cells]) (by simp)
    have r1 := hr.2 1 (by simp [Value.cells]) (by simp)
    simp [Value.cells] at r0 r1
    exact ⟨(lo, ts), a, b, rfl, r0, r1⟩
theorem ints_litL (w : World) (S : Nat → Prop) (l : List Int) : OwnsL w S (l.map iV) (l.map fun n => .lit (iV n)) :=
  ⟨by simp, fun _ _ => False, fun i h h' => by simp only [List.getElem_map]; exact .lit _ _, fun _ _ h => h.elim, fun _ _ _ _ h => h.elim⟩
theorem made1I (n : Nat) : (madeCells #[.int .i64 0] n).size = n * 1 := by simp [size_madeCells]
theorem toIntS_any (v : Value) (l : List Int) (w : World) (hv : Reads w w.heap.size v (intsD l)) (hn : l.length ≤ 1048576) :
    Calls Tryz.prog 78 #[v] w fun e w' => ∃ u, e = .returned u ∧ Owns w' (fun b => w.heap.size ≤ b) u (intsD l) ∧ Below w.heap.size w w' := by
  obtain ⟨A, c, rfl, _, _⟩ := hv.lenN
  have hmk := run_makeInts l.length (by omega)
  have HV := Lib.hid hv
  clear hv
  go_enter Tryz.func78, Tryz.ntmps78
  go_wp2
  go_loopw [4] (fun i wr => ∃ k : Nat, k ≤ l.length ∧ i = .int .i64 k ∧ Hid (RowV wr w.heap.size (l.length * 1) 3 ((l.take k).map iV)) ∧ Hid (Below w.heap.size w wr)) (fun i _ => l.length - (intOf i).toNat)
  case atStart => exact ⟨0, Nat.zero_le _, rfl, Lib.hid (by rw [← made1I]; exact RowV.new w _ _), Lib.hid ((Below.refl _ _).alloc (Nat.le_refl _) _)⟩
  case round =>
    obtain ⟨k, hk, rfl, HR, HB⟩ := hrel
    by_cases hlt : k < l.length
    · obtain ⟨b, off, rfl, hbb, hc⟩ := (HV.out.on HB.out).int hlt
      have c1 := hc k hlt
      unfold iV at c1
      have hl : ((l.take k).map iV).length = k := by simp; omega
      obtain ⟨y, c2⟩ := HR.out.cell (k := k) (by omega)
      have f2 := HR.out.frozen k
      have h1 := HR.out.step (by rw [hl]; omega) (iV l[k])
      rw [hl] at h1
      have HR2 : Hid (RowV (wr.setCell ⟨w.heap.size, k, none⟩ (.int .i64 l[k])) w.heap.size (l.length * 1) 3 ((l.take (k + 1)).map iV)) := Lib.hid (by rw [List.take_succ_eq_append_getElem hlt, List.map_append]; exact h1)
      have HB2 := Lib.hid (HB.out.setCell (p := ⟨w.heap.size, k, none⟩) (Nat.le_refl _) (.int .i64 l[k]))
      have i1 : (k : Int) < (l.length : Int) := by omega
      have i2 : (0 : Int) ≤ (k : Int) := by omega
      clear hc h1 hl HR HB
      go_wp2
      go_roundw
      case rel => exact ⟨k + 1, by omega, by go_num, HR2, HB2⟩
      case measure => simp [intOf]; omega
    · go_wp2
      go_ret
      have e : k = l.length := by omega
      subst e
      have h := HR.out
      rw [List.take_length] at h
      exact ⟨_, rfl, h.owns (ints_litL _ _ _) (by simp) (by unfold maxLen; omega), HB.out⟩
theorem toNodeS_any (v : Value) (ts : List NodeD) (w : World) (hv : Reads w w.heap.size v (nodesA ts)) (hn : ts.length + sumT ts ≤ 1048576) :
    Calls Tryz.prog 79 #[v] w fun e w' => ∃ u, e = .returned u ∧ Owns w' (fun b => w.heap.size ≤ b) u (nodesD ts) ∧ Below w.heap.size w w' := by
  obtain ⟨A, c, rfl, _, _⟩ := hv.lenN
  have hmk := run_makeNodes ts.length (by omega)
  have HV := Lib.hid hv
  clear hv
  go_enter Tryz.func79, Tryz.ntmps79
  go_wp2
  go_loopw [4] (fun i wr => ∃ (k : Nat) (xs : List Value), k ≤ ts.length ∧ i = .int .i64 k ∧ RowV wr w.heap.size (ts.length * 1) 71 xs ∧ OwnsL wr (fun b => w.heap.size < b) xs ((ts.take k).map setsD) ∧ Below w.heap.size w wr) (fun i _ => ts.length - (intOf i).toNat)
  case atStart => exact ⟨0, [], Nat.zero_le _, rfl, by rw [← made1N (.slice none 0 0)]; exact RowV.new w _ _, OwnsL.nil _ _, (Below.refl _ _).alloc (Nat.le_refl _) _⟩
  case round =>
    obtain ⟨k, xs, hk, rfl, hrow, hown, hb⟩ := hrel
    by_cases hlt : k < ts.length
    · obtain ⟨b, off, rfl, hbb, hc⟩ := (HV.out.on hb).nodeA hlt
      obtain ⟨A1, d1, c1, _, _, r1⟩ := hc k hlt
      have hl := sumT_mem (List.getElem_mem hlt)
      have HX : Hid (xs.length = k) := Lib.hid (by rw [hown.1]; simp; omega)
      have hg := hrow.lt
      have R1 := Lib.hid r1
      clear hc r1
      have i1 : (k : Int) < (ts.length : Int) := by omega
      have i2 : (0 : Int) ≤ (k : Int) := by omega
      go_wp2_with fail
      refine (toNode_any _ ts[k] _ R1.out (by omega)).mono ?_
      rintro e w1 ⟨vv, rfl, o2, b1⟩
      obtain ⟨Av, cv, rfl, _, _⟩ := o2.reads.lenN
      have hrow1 := hrow.keep (b1.block _ hg)
      have hb1 := hb.trans (b1.mono hb.size)
      obtain ⟨y, c2⟩ := hrow1.cell (k := k) (by omega)
      have f2 := hrow1.frozen k
      have HR := Lib.hid (hrow1.step (by rw [HX.out]; omega) (.slice Av (ts[k]).length cv))
      have HO := Lib.hid (OwnsL.push (j := k) (u := .slice Av (ts[k]).length cv) hown b1 o2 hg)
      have HB := Lib.hid (hb1.setCell (p := ⟨w.heap.size, k, none⟩) (Nat.le_refl _) (.slice Av (ts[k]).length cv))
      clear hrow hrow1 hown hb1 hb o2 b1
      go_wp2
      go_roundw
      case rel =>
        refine ⟨k + 1, xs ++ [.slice Av (ts[k]).length cv], by omega, by go_num, ?_, ?_, HB.out⟩
        · have h := HR.out
          rw [HX.out] at h
          exact h
        · have h := HO.out
          rw [List.take_succ_eq_append_getElem hlt, List.map_append]
          exact h
      case measure => simp [intOf]; omega
    · go_wp2
      go_ret
      have e : k = ts.length := by omega
      subst e
      rw [List.take_length] at hown
      exact ⟨_, rfl, hrow.owns hown (by simp) (by unfold maxLen; omega), hb⟩
theorem toTree_any (vl vn : Value) (lo : List Int) (ts : List NodeD) (w : World) (hl : Reads w w.heap.size vl (intsD lo)) (hv : Reads w w.heap.size vn (nodesA ts)) (hn : lo.length + (ts.length + sumT ts) ≤ 1048576) :
    Calls Tryz.prog 32 #[.agg #[vl, vn]] w (NewTS w lo ts) := by
  have HI := Lib.hid (fun W b => toIntS_any vl lo W (hl.on b) (by omega))
  have HN := Lib.hid (fun W b => toNodeS_any vn ts W (hv.on b) (by omega))
  obtain ⟨A, c, rfl, _, _⟩ := hl.lenN
  obtain ⟨A', c', rfl, _, _⟩ := hv.lenN
  obtain ⟨q0, q1, q2⟩ := al3 w (.cells #[.slice A lo.length c, .slice A' ts.length c'] 54) (.cells #[.slice none 0 0, .slice none 0 0] 27) (.cells #[.slice none 0 0, .slice none 0 0] 27)
  have Q0 := Lib.hid q0
  have Q1 := Lib.hid q1
  have Q2 := Lib.hid q2
  have HB := Lib.hid (bal3 w (.cells #[.slice A lo.length c, .slice A' ts.length c'] 54) (.cells #[.slice none 0 0, .slice none 0 0] 27) (.cells #[.slice none 0 0, .slice none 0 0] 27))
  have HZ : Hid ((((w.alloc (.cells #[.slice A lo.length c, .slice A' ts.length c'] 54)).alloc (.cells #[.slice none 0 0, .slice none 0 0] 27)).alloc (.cells #[.slice none 0 0, .slice none 0 0] 27)).heap.size = w.heap.size + 3) := Lib.hid (by simp)
  clear hv hl q0 q1 q2
  go_enter Tryz.func32, Tryz.ntmps32
  go_upto_region 2 with (fail)
  generalize ((w.alloc (.cells #[.slice A lo.length c, .slice A' ts.length c'] 54)).alloc (.cells #[.slice none 0 0, .slice none 0 0] 27)).alloc (.cells #[.slice none 0 0, .slice none 0 0] 27) = W at *
  obtain ⟨x0, x1, x2⟩ := box2 Q0.out
  go_wp2_with fail
  refine (HI.out _ HB.out).mono ?_
  rintro e w1 ⟨u1, rfl, o1, b1⟩
  obtain ⟨A1, c1, rfl, _, _⟩ := o1.reads.lenN
  clear x0 x1 x2
  have hz := HZ.out
  have hz1 := b1.size
  replace Q0 := Lib.hid (box_far (g := w.heap.size + 1 + 1) (j := 0) (u := .slice A1 lo.length c1) (box_on Q0.out b1) (by omega))
  replace Q1 := Lib.hid (box_far (g := w.heap.size + 1 + 1) (j := 0) (u := .slice A1 lo.length c1) (box_on Q1.out b1) (by omega))
  obtain ⟨x0, x1, x2⟩ := box2 (box_on Q2.out b1)
  replace Q2 := Lib.hid (box_set (i := 0) (u := .slice A1 lo.length c1) (box_on Q2.out b1))
  replace HB := Lib.hid ((bstep HB.out b1).setCell (p := ⟨w.heap.size + 1 + 1, 0, none⟩) (show w.heap.size ≤ w.heap.size + 1 + 1 by omega) (.slice A1 lo.length c1))
  have O1 := Lib.hid (Owns.keep (w' := w1.setCell ⟨w.heap.size + 1 + 1, 0, none⟩ (.slice A1 lo.length c1)) (o1.lt.mono (T := fun b => w.heap.size + 3 ≤ b ∧ b < w1.heap.size) (fun b hb => ⟨by omega, by omega⟩)) (fun b hb _ => Below.heap_setCell _ _ _ _ (fun h => by have h1 : b = w.heap.size + 1 + 1 := h; omega)))
  have ZZ : Hid (w1.heap.size = (w1.setCell ⟨w.heap.size + 1 + 1, 0, none⟩ (.slice A1 lo.length c1)).heap.size) := Lib.hid (by simp)
  simp only [List.setIfInBounds_toArray, List.set_cons_zero] at Q2
  clear o1 b1
  go_upto_region 3 with (fail)
  clear x0 x1 x2
  generalize w1.setCell ⟨w.heap.size + 1 + 1, 0, none⟩ (.slice A1 lo.length c1) = W1 at *
  have hy1 := Nat.le_of_eq ZZ.out
  have hy2 := Nat.le_of_eq ZZ.out.symm
  obtain ⟨x0, x1, x2⟩ := box2 Q0.out
  go_wp2_with fail
  refine (HN.out _ HB.out).mono ?_
  rintro e w2 ⟨u2, rfl, o2, b2⟩
  obtain ⟨A2, c2, rfl, _, _⟩ := o2.reads.lenN
  clear x0 x1 x2
  obtain ⟨x0, x1, x2⟩ := box2 (box_on Q2.out b2)
  obtain ⟨y0, y1, y2⟩ := box2 (box_on Q1.out b2)
  have O2 := Lib.hid o2
  have OO := Lib.hid (O1.out.on b2)
  have BB := Lib.hid (bstep HB.out b2)
  have hz2 := b2.size
  clear o2 b2
  go_wp2
  have HO : ∀ a b c, Only (Mid w.heap.size (w.heap.size + 3)) w2 (((w2.setCell ⟨w.heap.size + 1 + 1, 1, none⟩ a).setCell ⟨w.heap.size + 1, 0, none⟩ b).setCell ⟨w.heap.size + 1, 1, none⟩ c) := fun a b c => (((Only.refl _ _).setCell (.mk (by omega) (by omega)) _).setCell (.mk (by omega) (by omega)) _).setCell (.mk (by omega) (by omega)) _
  refine bodyPost_ret (v := .agg #[.slice A1 lo.length c1, .slice A2 ts.length c2]) (by simp [results, Tryz.results32, go_sem, y0, y1, y2, x0, x1, x2]) rfl ⟨_, _, rfl, ⟨fun b => w.heap.size + 3 ≤ b ∧ b < w1.heap.size, fun b => W1.heap.size ≤ b, fun b hb => by omega, fun b hb => by omega, fun b hb hb' => by omega, ?_, ?_⟩, bpast BB.out (HO _ _ _)⟩
  · exact OO.out.far (HO _ _ _) (fun b hb _ hb' => by have := hb'.2; omega)
  · exact O2.out.far (HO _ _ _) (fun b hb _ hb' => by have := hb'.2; omega)
set_option maxHeartbeats 1000000 in
theorem eqIntS_same (v u : Value) (l : List Int) (w : World) (hv : Reads w w.heap.size v (intsD l)) (hu : Reads w w.heap.size u (intsD l)) (hn : l.length ≤ 1100000) :
    Calls Tryz.prog 80 #[v, u] w (SaysBool w true) := by
  obtain ⟨A, c, rfl, _, _⟩ := hv.lenN
  obtain ⟨A', c', rfl, _, _⟩ := hu.lenN
  have hne : ((l.length : Int) != (l.length : Int)) = false := by simp
  have HV := Lib.hid hv
  have HU := Lib.hid hu
  clear hv hu
  go_enter Tryz.func80, Tryz.ntmps80
  go_wp2
  go_loopw [5] (fun i wr => ∃ k : Nat, k ≤ l.length ∧ i = .int .i64 k ∧ Hid (Below w.heap.size w wr)) (fun i _ => l.length - (intOf i).toNat)
  case atStart => exact ⟨0, Nat.zero_le _, rfl, Lib.hid (Below.refl _ _)⟩
  case round =>
    obtain ⟨k, hk, rfl, HB⟩ := hrel
    by_cases hlt : k < l.length
    · obtain ⟨b, off, rfl, hbb, hc⟩ := (HV.out.on HB.out).int hlt
      obtain ⟨b2, off2, rfl, hbb2, hc2⟩ := (HU.out.on HB.out).int hlt
      have c1 := hc k hlt
      have c2 := hc2 k hlt
      unfold iV at c1 c2
      clear hc hc2
      have i1 : (k : Int) < (l.length : Int) := by omega
      have i2 : (0 : Int) ≤ (k : Int) := by omega
      have hne2 : (l[k] != l[k]) = false := by simp
      go_wp2
      go_still_tail 8, (by kernel_rfl)
      change wpList _ _ _ _ _ wr.drew
      have HB1 := Lib.hid (bstep HB.out (Below.drew1 _))
      generalize wr.drew = wd at *
      go_wp2
      go_roundw
      case rel => exact ⟨k + 1, by omega, by go_num, HB1⟩
      case measure => simp [intOf]; omega
    · go_wp2
      go_ret
      exact ⟨rfl, HB.out⟩
set_option maxHeartbeats 1000000 in
theorem eqNodeS_same (v u : Value) (ts : List NodeD) (w : World) (hv : Reads w w.heap.size v (nodesD ts)) (hu : Reads w w.heap.size u (nodesD ts)) (hn : ts.length ≤ 1100000) (hs : sumT ts ≤ 1100000) :
    Calls Tryz.prog 81 #[v, u] w (SaysBool w true) := by
  obtain ⟨A, c, rfl, _, _⟩ := hv.lenN
  obtain ⟨A', c', rfl, _, _⟩ := hu.lenN
  have hne : ((ts.length : Int) != (ts.length : Int)) = false := by simp
  have HV := Lib.hid hv
  have HU := Lib.hid hu
  have HS := Lib.hid hs
  clear hv hu hs
  go_enter Tryz.func81, Tryz.ntmps81
  go_wp2
  go_loopw [5] (fun i wr => ∃ k : Nat, k ≤ ts.length ∧ i = .int .i64 k ∧ Hid (Below w.heap.size w wr)) (fun i _ => ts.length - (intOf i).toNat)
  case atStart => exact ⟨0, Nat.zero_le _, rfl, Lib.hid (Below.refl _ _)⟩
  case round =>
    obtain ⟨k, hk, rfl, HB⟩ := hrel
    by_cases hlt : k < ts.length
    · obtain ⟨b, off, rfl, hbb, hc⟩ := (HV.out.on HB.out).node hlt
      obtain ⟨b2, off2, rfl, hbb2, hc2⟩ := (HU.out.on HB.out).node hlt
      obtain ⟨A1, d1, c1, _, _, r1⟩ := hc k hlt
      obtain ⟨A2, d2, c2, _, _, r2⟩ := hc2 k hlt
      have hl := Lib.hid (small_at HS.out hlt)
      have R1 := Lib.hid r1
      have R2 := Lib.hid r2
      clear hc hc2 r1 r2
      have i1 : (k : Int) < (ts.length : Int) := by omega
      have i2 : (0 : Int) ≤ (k : Int) := by omega
      go_wp2
      go_still_tail 8, (by kernel_rfl)
      change wpList _ _ _ _ _ wr.drew
      have HB1 := Lib.hid (bstep HB.out (Below.drew1 _))
      have Q1 := Lib.hid (R1.out.on (Below.drew1 _))
      have Q2 := Lib.hid (R2.out.on (Below.drew1 _))
      clear R1 R2
      generalize wr.drew = wd at *
      go_wp2_with fail
      refine (eqNode_same _ _ ts[k] _ Q1.out Q2.out hl.out).mono ?_
      rintro e w2 ⟨rfl, b2⟩
      have HB2 := Lib.hid (bstep HB1.out b2)
      clear b2
      go_wp2
      go_roundw
      case rel => exact ⟨k + 1, by omega, by go_num, HB2⟩
      case measure => simp [intOf]; omega
    · go_wp2
      go_ret
      exact ⟨rfl, HB.out⟩
theorem eqTree_same (vl vn ul un : Value) (lo : List Int) (ts : List NodeD) (w : World) (hv : RdT w w.heap.size vl vn lo ts) (hu : RdT w w.heap.size ul un lo ts) (hs : SmallT lo ts) :
    Calls Tryz.prog 34 #[.agg #[vl, vn], .agg #[ul, un]] w (SaysBool w true) := by
  have HI := Lib.hid (fun W b => eqIntS_same vl ul lo W (hv.1.on b) (hu.1.on b) hs.1)
  have HN := Lib.hid (fun W b => eqNodeS_same vn un ts W (hv.2.on b) (hu.2.on b) hs.2.1 hs.2.2)
  obtain ⟨A, c, A', c', rfl, rfl⟩ := hv.shape
  obtain ⟨B, d, B', d', rfl, rfl⟩ := hu.shape
  have HB := Lib.hid (bal2 w (.cells #[.slice A lo.length c, .slice A' ts.length c'] 27) (.cells #[.slice B lo.length d, .slice B' ts.length d'] 27))
  obtain ⟨q0, q1⟩ := al2 w (.cells #[.slice A lo.length c, .slice A' ts.length c'] 27) (.cells #[.slice B lo.length d, .slice B' ts.length d'] 27)
  have Q0 := Lib.hid q0
  have Q1 := Lib.hid q1
  clear hv hu q0 q1
  go_enter Tryz.func34, Tryz.ntmps34
  go_upto_region 1 with (fail)
  generalize (w.alloc (.cells #[.slice A lo.length c, .slice A' ts.length c'] 27)).alloc (.cells #[.slice B lo.length d, .slice B' ts.length d'] 27) = W at *
  obtain ⟨x0, x1, x2⟩ := box2 Q0.out
  obtain ⟨y0, y1, y2⟩ := box2 Q1.out
  go_wp2_with fail
  refine (HI.out _ HB.out).mono ?_
  rintro e w1 ⟨rfl, b1⟩
  clear x0 x1 x2 y0 y1 y2
  have B1 := Lib.hid (bstep HB.out b1)
  obtain ⟨x0, x1, x2⟩ := box2 (box_on Q0.out b1)
  obtain ⟨y0, y1, y2⟩ := box2 (box_on Q1.out b1)
  clear b1
  go_wp2_with fail
  refine (HN.out _ B1.out).mono ?_
  rintro e w2 ⟨rfl, b2⟩
  have B2 := Lib.hid (bstep B1.out b2)
  clear b2
  go_wp2
  go_ret
  exact ⟨rfl, B2.out⟩
end Go.Proofs.YtkcafbdlealbpaaGreat
/- Contracts for trees in the laws: laws.markTree writes marks, laws.heldTree finds them. Conditions: at most 1100000 bounds, nodes, sets and keys. -/
namespace Go.Proofs.YtkcafbdlealbpaaGreat
open Go.RowKit Go.ChangeShapes Go.WideShapes Go.Deep
set_option maxRecDepth 100000
set_option linter.unusedSimpArgs false
set_option linter.unusedVariables false

def mI (k : Int) (_ : Int) : Int := k
def sI (_ : Int) : Nat := 1
def mNd (k : Int) (ns : NodeD) : NodeD := mkL mN sN k ns ns.length
def sNd (ns : NodeD) : Nat := sumN ns * 5
def mkI (k : Int) (l : List Int) : List Int := mkL mI sI k l l.length
def mkT (k : Int) (ts : List NodeD) : List NodeD := mkL mNd sNd k ts ts.length
theorem mNd_len (k : Int) (ns : NodeD) : (mNd k ns).length = ns.length := mkL_length _ _ _ _ _
theorem totI (l : List Int) (i : Nat) (h : i ≤ l.length) : totL sI l i = i := by
  induction l generalizing i with
  | nil => simp at h; subst h; rfl
  | cons a l ih =>
    cases i with
    | zero => rfl
    | succ i => simp only [totL, sI]; rw [ih i (by simpa using h)]; omega
theorem totT (ts : List NodeD) (i : Nat) : totL sNd ts i ≤ sumT ts * 5 := by
  induction ts generalizing i with
  | nil => cases i <;> simp [totL]
  | cons a ts ih =>
    cases i with
    | zero => simp [totL]
    | succ i => have := ih i; simp only [totL, sNd, sumT_cons]; omega
def RwC (w : World) (g : Nat) (e : TypeId) (n : Nat) (xs : List Value) : Prop := ∃ cur : Array Value, w.heap[g]? = some (.cells cur e (0, 0)) ∧ n ≤ cur.size ∧ cur.toList.take n = xs
theorem RwC.set {w : World} {g : Nat} {e : TypeId} {n : Nat} {xs : List Value} (h : RwC w g e n xs) (i : Nat) (u : Value) : RwC (w.setCell ⟨g, i, none⟩ u) g e n (xs.set i u) := by
  obtain ⟨cur, hg, hs, hx⟩ := h
  refine ⟨cur.setIfInBounds i u, heap_setCell_same w g i cur _ _ hg, by simpa using hs, ?_⟩
  rw [Array.toList_setIfInBounds, ← hx, List.take_set]
theorem RwC.cell {w : World} {g : Nat} {e : TypeId} {n : Nat} {xs : List Value} (h : RwC w g e n xs) {i : Nat} (hi : i < xs.length) : w.cell? ⟨g, i, none⟩ = some xs[i] := by
  obtain ⟨cur, hg, hs, hx⟩ := h
  rw [cell_of_row w g i cur _ _ hg]
  subst hx
  simp at hi ⊢
theorem RwC.frozen {w : World} {g : Nat} {e : TypeId} {n : Nat} {xs : List Value} (h : RwC w g e n xs) (k : Nat) : w.frozen? ⟨g, k, none⟩ = false := by
  obtain ⟨cur, hg, _⟩ := h
  exact frozen_of_row w g k cur _ hg
theorem lits_eq {w : World} {B : Nat} {xs : List Value} {l : List Int} (h : ReadsL w B xs (l.map fun n => .lit (iV n))) : xs = l.map iV := by
  refine List.ext_getElem (by rw [h.1]; simp) (fun i h1 h2 => ?_)
  have := h.2 i h1 (by rw [← h.1]; exact h1)
  simp only [List.getElem_map] at this ⊢
  generalize xs[i] = x at this
  cases this
  rfl
set_option maxHeartbeats 1000000 in
theorem markIntS_any (v : Value) (S : Nat → Prop) (l : List Int) (k : Int) (w : World) (hv : OwnC w S v (intsD l)) (hn : l.length ≤ 1100000) (h0 : 0 ≤ k) (h1 : k ≤ 1099511627776) :
    Calls Tryz.prog 82 #[v, .int .i64 k] w fun e w' => e = .returned (.int .i64 (k + (l.length : Nat))) ∧ OwnC w' S v (intsD (mkI k l)) ∧ Only S w w' := by
  rcases hv with ⟨rfl, hl, hc⟩ | ⟨g, cap, cur, xs, rfl, hS, hh, hcap, hmax, hsz, hl, hx, ho⟩
  · have : l = [] := List.length_eq_zero_iff.1 hl
    subst this
    go_enter Tryz.func82, Tryz.ntmps82
    go_wp2
    go_loopw [1, 5] (fun q i wr => i = .int .i64 0 ∧ q = .int .i64 k ∧ w = wr) (fun _ _ _ => 0)
    case atStart => exact ⟨rfl, rfl, rfl⟩
    case round =>
      obtain ⟨rfl, rfl, rfl⟩ := hrel
      go_wp2
      go_ret
      exact ⟨by simp, .inl ⟨rfl, rfl, rfl⟩, Only.refl _ _⟩
  · have hxs := lits_eq ho.reads
    rw [Nat.mul_one] at hx hsz
    have HR : Hid (RwC w g 3 l.length (l.map iV)) := Lib.hid ⟨cur, hh, hsz, by rw [hx, hxs]⟩
    clear hh hx ho hxs hsz hl
    go_enter Tryz.func82, Tryz.ntmps82
    go_wp2
    go_loopw [1, 5] (fun q i wr => ∃ j : Nat, j ≤ l.length ∧ i = .int .i64 j ∧ q = .int .i64 (k + (j : Nat)) ∧ Hid (RwC wr g 3 l.length ((mkL mI sI k l j).map iV)) ∧ Hid (Only S w wr)) (fun _ i _ => l.length - (intOf i).toNat)
    case atStart => exact ⟨0, Nat.zero_le _, rfl, by simp, by rw [mkL_zero]; exact HR, Lib.hid (Only.refl _ _)⟩
    case round =>
      clear HR
      obtain ⟨j, hj, rfl, rfl, HR, HO⟩ := hrel
      by_cases hlt : j < l.length
      · have hlm : j < ((mkL mI sI k l j).map iV).length := by simp [mkL_length]; exact hlt
        obtain ⟨y, c1⟩ : ∃ y : Int, wr.cell? ⟨g, j, none⟩ = some (.int .i64 y) := ⟨_, (HR.out.cell hlm).trans (by rw [List.getElem_map]; rfl)⟩
        have f1 := HR.out.frozen j
        have hs := HR.out.set j (iV (k + (j : Nat)))
        rw [← List.map_set, show (mkL mI sI k l j).set j (k + (j : Nat)) = mkL mI sI k l (j + 1) by rw [mkL_succ _ _ _ _ _ hlt, totI l j hj]; rfl] at hs
        have HS := Lib.hid hs
        have HO2 := Lib.hid (HO.out.setCell (j := j) hS (iV (k + (j : Nat))))
        unfold iV at HS HO2
        have i1 : (j : Int) < (l.length : Int) := by omega
        have i2 : (0 : Int) ≤ (j : Int) := by omega
        clear HR HO hlm hs
        have q1 : k + (j : Int) ≤ 1199511627776 := by omega
        have q0 : 0 ≤ k + (j : Int) := by omega
        generalize hq : k + (j : Int) = q at *
        have HQ := Lib.hid hq
        clear hq
        go_wp2
        go_roundw
        case rel => exact ⟨j + 1, by omega, by go_num, by rw [← HQ.out]; go_num, HS, HO2⟩
        case measure => simp [intOf]; omega
      · go_wp2
        go_ret
        have e : j = l.length := by omega
        subst e
        obtain ⟨cur2, k1, k2, k3⟩ := HR.out
        refine ⟨rfl, .inr ⟨g, cap, cur2, (mkI k l).map iV, by rw [mkI, mkL_length], hS, k1, by rw [mkI, mkL_length]; exact hcap, hmax, by rw [mkI, mkL_length, Nat.mul_one]; exact k2, by simp, by rw [mkI, mkL_length, Nat.mul_one]; exact k3, ints_litL _ _ _⟩, HO.out⟩
set_option maxHeartbeats 1000000 in
theorem markNodeS_any (v : Value) (S : Nat → Prop) (ts : List NodeD) (k : Int) (w : World) (hv : OwnC w S v (nodesD ts)) (hn : ts.length ≤ 1100000) (hs : sumT ts ≤ 1100000) (h0 : 0 ≤ k) (h1 : k ≤ 549755813888) :
    Calls Tryz.prog 83 #[v, .int .i64 k] w fun e w' => e = .returned (.int .i64 (k + (totL sNd ts ts.length : Nat))) ∧ OwnC w' S v (nodesD (mkT k ts)) ∧ Only S w w' := by
  rcases hv with ⟨rfl, hl, hc⟩ | ⟨g, cap, cur, xs, rfl, hS, hh, hcap, hmax, hsz, hl, hx, ho⟩
  · have : ts = [] := List.length_eq_zero_iff.1 hl
    subst this
    go_enter Tryz.func83, Tryz.ntmps83
    go_wp2
    go_loopw [1, 5] (fun q i wr => i = .int .i64 0 ∧ q = .int .i64 k ∧ w = wr) (fun _ _ _ => 0)
    case atStart => exact ⟨rfl, rfl, rfl⟩
    case round =>
      obtain ⟨rfl, rfl, rfl⟩ := hrel
      go_wp2
      go_ret
      exact ⟨by simp [totL], .inl ⟨rfl, rfl, rfl⟩, Only.refl _ _⟩
  · have HXL : Hid (xs.length = ts.length) := Lib.hid (by rw [ho.1]; simp)
    have TOT : Hid (∀ i, totL sNd ts i ≤ 5500000) := Lib.hid (fun i => by have := totT ts i; omega)
    have HH := Lib.hid hh
    have HS := Lib.hid hs
    have HX := Lib.hid hx
    have HZ := Lib.hid hsz
    have HO := Lib.hid ho
    clear hh hs hx hl hsz ho
    go_enter Tryz.func83, Tryz.ntmps83
    go_wp2
    go_loopw [1, 5] (fun q i wr => ∃ j : Nat, j ≤ ts.length ∧ i = .int .i64 j ∧ q = .int .i64 (k + totL sNd ts j) ∧ OwnsL wr (fun b => S b ∧ b ≠ g) xs ((mkL mNd sNd k ts j).map setsD) ∧ Only (fun b => S b ∧ b ≠ g) w wr) (fun _ i _ => ts.length - (intOf i).toNat)
    case atStart => exact ⟨0, Nat.zero_le _, rfl, by simp [totL], by rw [mkL_zero]; exact HO.out, Only.refl _ _⟩
    case round =>
      obtain ⟨j, hj, rfl, rfl, hr, hO⟩ := hrel
      have hG := box_only HH.out hO (fun h => h.2 rfl)
      by_cases hlt : j < ts.length
      · have hlx : j < xs.length := by rw [HXL.out]; exact hlt
        have hlm : j < ((mkL mNd sNd k ts j).map setsD).length := by simp [mkL_length]; exact hlt
        obtain ⟨T, hT, hTS, hup⟩ := hr.pick hlx hlm
        rw [List.getElem_map, mkL_at _ _ _ _ _ hlt] at hT
        have c1 : wr.cell? ⟨g, j, none⟩ = some xs[j] := by
          rw [cell_of_row wr g j cur _ _ hG]
          have h5 : (cur.toList.take (ts.length * 1))[j]? = some xs[j] := by rw [HX.out]; simp
          rw [List.getElem?_take_of_lt (by omega)] at h5
          simpa using h5
        have t1 := TOT.out j
        have hl := Lib.hid (small_at HS.out hlt)
        have T1 : Hid (totL sNd ts (j + 1) = totL sNd ts j + sumN ts[j] * 5) := Lib.hid (totL_succ sNd ts j hlt)
        have UP := Lib.hid hup
        have TS := Lib.hid hTS
        have HO := Lib.hid hO
        clear hr hG hup hTS hO
        have q0 : 0 ≤ k + (totL sNd ts j : Int) := by omega
        obtain ⟨A1, d1, e1, _, _⟩ := hT.reads.lenN
        rw [e1] at hT c1
        rw [e1] at UP
        have hjc : j < cap := by omega
        generalize hq : (totL sNd ts j : Int) = q at q0
        have H := Lib.hid (markKeySS_any _ _ ts[j] (k + q) _ hT hl.out q0 (by omega))
        clear hT
        go_wp2_with fail
        refine H.out.mono ?_
        rintro e w1 ⟨rfl, o1, g1⟩
        go_wp2
        go_roundw
        case rel =>
          refine ⟨j + 1, by omega, by go_num, ?_, ?_, ?_⟩
          · rw [T1.out]; subst hq; go_num
          · have h := UP.out w1 _ o1 g1
            rw [mkL_succ _ _ _ _ _ hlt, List.map_set]
            subst hq
            exact h
          · exact HO.out.trans (g1.mono TS.out)
        case measure => simp [intOf]; omega
      · go_wp2
        go_ret
        have e : j = ts.length := by omega
        subst e
        exact ⟨rfl, .inr ⟨g, cap, cur, xs, by rw [mkT, mkL_length], hS, hG, by rw [mkT, mkL_length]; exact hcap, hmax, by rw [mkT, mkL_length]; exact HZ.out, by simp, by rw [mkT, mkL_length]; exact HX.out, hr⟩, hO.mono (fun b hb => hb.1)⟩
def markEnd (k : Int) (lo : List Int) (ts : List NodeD) : Int := k + (lo.length : Nat) + (totL sNd ts ts.length : Nat)
theorem markEnd_le {k : Int} {lo : List Int} {ts : List NodeD} (hs : SmallT lo ts) (h0 : 0 ≤ k) (h1 : k ≤ 274877906944) : 0 ≤ markEnd k lo ts ∧ markEnd k lo ts ≤ 549755813888 := by
  have := totT ts ts.length
  have := hs.1
  have := hs.2.2
  unfold markEnd
  omega
theorem markTree_any (vl vn : Value) (S : Nat → Prop) (lo : List Int) (ts : List NodeD) (k : Int) (w : World) (hv : TreeC w S vl vn lo ts) (hS : ∀ b, S b → b < w.heap.size) (hs : SmallT lo ts) (h0 : 0 ≤ k) (h1 : k ≤ 274877906944) :
    Calls Tryz.prog 35 #[.agg #[vl, vn], .int .i64 k] w fun e w' => e = .returned (.int .i64 (markEnd k lo ts)) ∧ TreeC w' S vl vn (mkI k lo) (mkT (k + (lo.length : Nat)) ts) ∧ Only S w w' := by
  obtain ⟨A, c, A', c', rfl, rfl⟩ := hv.reads.shape
  obtain ⟨P, Q, hP, hQ, hd, hl, hn⟩ := hv
  have HB := Lib.hid (bal1 w (.cells #[.slice A lo.length c, .slice A' ts.length c'] 27))
  have Q0 := Lib.hid (al1 w (.cells #[.slice A lo.length c, .slice A' ts.length c'] 27))
  have HM := Lib.hid (markIntS_any _ P lo k _ (hl.on HB.out) hs.1 h0 (by omega))
  have HN := Lib.hid (hn.on HB.out)
  have hs1 := hs.1
  have hs2 := hs.2.1
  have hs3 := hs.2.2
  clear hl hn
  go_enter Tryz.func35, Tryz.ntmps35
  go_upto_region 1 with (fail)
  generalize w.alloc (.cells #[.slice A lo.length c, .slice A' ts.length c'] 27) = W at *
  obtain ⟨x0, x1, x2⟩ := box2 Q0.out
  go_wp2_with fail
  refine HM.out.mono ?_
  rintro e w1 ⟨rfl, o, g⟩
  clear x0 x1 x2
  have hPW : ∀ b, P b → b < w.heap.size := fun b hb => hS b (hP b hb)
  replace Q0 := Lib.hid (box_only Q0.out g (fun h => by have := hPW _ h; omega))
  replace HN := Lib.hid (HN.out.far g (fun b hb _ hb' => hd b hb' hb))
  have HL := Lib.hid o
  have HG := Lib.hid ((Only.of_below HB.out S).trans (g.mono hP))
  clear o g HM
  obtain ⟨q, hq⟩ : ∃ q : Int, k + ((lo.length : Nat) : Int) = q := ⟨_, rfl⟩
  rw [hq]
  have HM := Lib.hid (markNodeS_any _ Q ts q _ HN.out hs2 hs3 (by omega) (by omega))
  have HQ := Lib.hid hq
  clear hq
  obtain ⟨x0, x1, x2⟩ := box2 Q0.out
  go_wp2_with fail
  refine HM.out.mono ?_
  rintro e w2 ⟨rfl, o, g⟩
  have ON := Lib.hid o
  have OL := Lib.hid (HL.out.far g (fun b hb _ hb' => hd b hb hb'))
  have G := Lib.hid (HG.out.trans (g.mono hQ))
  clear o g
  go_wp2
  go_ret
  exact ⟨by rw [markEnd, HQ.out]; rfl, ⟨P, Q, hP, hQ, hd, OL.out, by rw [HQ.out]; exact ON.out⟩, G.out⟩
theorem heldIntS_any (v : Value) (l : List Int) (k : Int) (w : World) (hv : Reads w w.heap.size v (intsD (mkI k l))) (hn : l.length ≤ 1100000) (h0 : 0 ≤ k) (h1 : k ≤ 1099511627776) :
    Calls Tryz.prog 84 #[v, .int .i64 k] w fun e w' => e = .returned (.int .i64 (k + (l.length : Nat))) ∧ w = w' := by
  have hml : (mkI k l).length = l.length := mkL_length _ _ _ _ _
  obtain ⟨A, c, rfl, _, _⟩ := hv.lenN
  rw [hml] at hv
  rw [hml]
  have HV := Lib.hid hv
  clear hv
  go_enter Tryz.func84, Tryz.ntmps84
  go_wp2
  go_loop [1, 5] (fun q i => ∃ j : Nat, j ≤ l.length ∧ i = .int .i64 j ∧ q = .int .i64 (k + (j : Nat))) (fun _ i => l.length - (intOf i).toNat)
  case atStart => exact ⟨0, Nat.zero_le _, rfl, by simp⟩
  case round =>
    obtain ⟨j, hj, rfl, rfl⟩ := hrel
    by_cases hlt : j < l.length
    · obtain ⟨b, off, rfl, hbb, hc⟩ := HV.out.int (i := j) (by rw [hml]; exact hlt)
      have c1 := hc j (by rw [hml]; exact hlt)
      rw [show (mkI k l)[j]'(by rw [hml]; exact hlt) = k + (j : Nat) from (mkL_get _ _ _ _ _ _ hlt hlt).trans (by rw [totI l j hj]; rfl)] at c1
      unfold iV at c1
      have i1 : (j : Int) < (l.length : Int) := by omega
      have i2 : (0 : Int) ≤ (j : Int) := by omega
      have q1 : k + (j : Int) ≤ 1199511627776 := by omega
      have q0 : 0 ≤ k + (j : Int) := by omega
      clear hc
      generalize hq : k + (j : Int) = q at *
      have HQ := Lib.hid hq
      have hne : (q != q) = false := by simp
      clear hq
      go_wp2
      go_round
      case rel => exact ⟨j + 1, by omega, by go_num, by rw [← HQ.out]; go_num⟩
      case measure => simp [intOf]; omega
    · go_wp2
      go_ret
      have e : j = l.length := by omega
      subst e
      exact ⟨rfl, rfl⟩
set_option maxHeartbeats 1000000 in
theorem heldNodeS_any (v : Value) (ts : List NodeD) (k : Int) (w : World) (hv : Reads w w.heap.size v (nodesD (mkT k ts))) (hn : ts.length ≤ 1100000) (hs : sumT ts ≤ 1100000) (h0 : 0 ≤ k) (h1 : k ≤ 549755813888) :
    Calls Tryz.prog 85 #[v, .int .i64 k] w fun e w' => e = .returned (.int .i64 (k + (totL sNd ts ts.length : Nat))) ∧ w = w' := by
  have hml : (mkT k ts).length = ts.length := mkL_length _ _ _ _ _
  obtain ⟨A, c, rfl, _, _⟩ := hv.lenN
  rw [hml] at hv
  rw [hml]
  have TOT : Hid (∀ i, totL sNd ts i ≤ 5500000) := Lib.hid (fun i => by have := totT ts i; omega)
  have HS := Lib.hid hs
  have HV := Lib.hid hv
  clear hs hv
  go_enter Tryz.func85, Tryz.ntmps85
  go_wp2
  go_loop [1, 5] (fun q i => ∃ j : Nat, j ≤ ts.length ∧ i = .int .i64 j ∧ q = .int .i64 (k + totL sNd ts j)) (fun _ i => ts.length - (intOf i).toNat)
  case atStart => exact ⟨0, Nat.zero_le _, rfl, by simp [totL]⟩
  case round =>
    obtain ⟨j, hj, rfl, rfl⟩ := hrel
    by_cases hlt : j < ts.length
    · have hlm : j < (mkT k ts).length := by rw [hml]; exact hlt
      obtain ⟨b, off, rfl, hbb, hc⟩ := HV.out.node hlm
      obtain ⟨A1, d1, c1, _, _, r1⟩ := hc j hlm
      have t1 := TOT.out j
      have hl := Lib.hid (small_at HS.out hlt)
      have T1 : Hid (totL sNd ts (j + 1) = totL sNd ts j + sumN ts[j] * 5) := Lib.hid (totL_succ sNd ts j hlt)
      have eg : (mkT k ts)[j]'hlm = mNd (k + (totL sNd ts j : Int)) ts[j] := mkL_get _ _ _ _ _ _ hlt hlt
      rw [eg] at c1 r1
      rw [mNd_len] at c1 r1
      have i1 : (j : Int) < (ts.length : Int) := by omega
      have i2 : (0 : Int) ≤ (j : Int) := by omega
      clear hc
      generalize hq : (totL sNd ts j : Int) = q at r1 c1
      have q0 : 0 ≤ k + q := by omega
      have H := Lib.hid (heldKeySS_any _ ts[j] (k + q) w r1 hl.out q0 (by omega))
      have hsn : sumN ts[j] ≤ 1100000 := hl.out.2
      have d0 : decide (k + q + ((sumN ts[j] * 5 : Nat) : Int) < 0) = false := decide_eq_false (by omega)
      have HQ := Lib.hid hq
      have q1 : q ≤ 5500000 := by omega
      clear hq t1 r1 eg
      go_wp2_with fail
      refine H.out.mono ?_
      rintro e w1 ⟨rfl, rfl⟩
      go_wp2
      go_round
      case rel => exact ⟨j + 1, by omega, by go_num, by rw [T1.out, ← HQ.out]; go_num⟩
      case measure => simp [intOf]; omega
    · go_wp2
      go_ret
      have e : j = ts.length := by omega
      subst e
      exact ⟨rfl, rfl⟩
theorem heldTree_any (vl vn : Value) (lo : List Int) (ts : List NodeD) (k : Int) (w : World) (hv : RdT w w.heap.size vl vn (mkI k lo) (mkT (k + (lo.length : Nat)) ts)) (hs : SmallT lo ts) (h0 : 0 ≤ k) (h1 : k ≤ 274877906944) :
    Calls Tryz.prog 36 #[.agg #[vl, vn], .int .i64 k] w fun e w' => e = .returned (.int .i64 (markEnd k lo ts)) ∧ Below w.heap.size w w' := by
  have HME := markEnd_le hs h0 h1
  have hs1 := hs.1
  have HI := Lib.hid (fun W b => heldIntS_any vl lo k W (hv.1.on b) hs.1 h0 (by omega))
  have HN := Lib.hid (fun W b => heldNodeS_any vn ts (k + (lo.length : Nat)) W (hv.2.on b) hs.2.1 hs.2.2 (by omega) (by omega))
  obtain ⟨A, c, A', c', rfl, rfl⟩ := hv.shape
  have hml : (mkT (k + (lo.length : Nat)) ts).length = ts.length := mkL_length _ _ _ _ _
  have hmi : (mkI k lo).length = lo.length := mkL_length _ _ _ _ _
  rw [hml, hmi]
  rw [hml] at HN
  rw [hmi] at HI
  have HB := Lib.hid (bal1 w (.cells #[.slice A lo.length c, .slice A' ts.length c'] 27))
  have d0 : decide (markEnd k lo ts < 0) = false := decide_eq_false (by omega)
  obtain ⟨q, hq⟩ : ∃ q : Int, k + ((lo.length : Nat) : Int) = q := ⟨_, rfl⟩
  unfold markEnd at d0 HME ⊢
  rw [hq] at HN HI d0 HME ⊢
  have d1 : decide (q < 0) = false := decide_eq_false (by omega)
  generalize hp : q + ((totL sNd ts ts.length : Nat) : Int) = p at HN d0 HME ⊢
  clear hv hml hmi
  go_enter Tryz.func36, Tryz.ntmps36
  go_wp2_with fail
  refine (HI.out _ HB.out).mono ?_
  rintro e w1 ⟨rfl, rfl⟩
  go_wp2_with fail
  refine (HN.out _ HB.out).mono ?_
  rintro e w1 ⟨rfl, rfl⟩
  go_wp2
  go_ret
  exact ⟨rfl, HB.out⟩
end Go.Proofs.YtkcafbdlealbpaaGreat
/- The size of a tree as the exact laws take it. Conditions: none beyond the law's own. -/
namespace Go.Proofs.YtkcafbdlealbpaaGreat
open Go.RowKit
set_option maxRecDepth 100000
set_option linter.unusedSimpArgs false
set_option linter.unusedVariables false
theorem szT_small (vl vn : Value) (lo : List Int) (ts : List NodeD) (w : World) (hl : Reads w w.heap.size vl (intsD lo)) (hv : Reads w w.heap.size vn (nodesA ts)) (hn : lo.length + (ts.length + sumT ts) ≤ 1048576) : Calls Tryz.prog 31 #[.agg #[vl, vn], .int .i64 1048576] w fun e w' => (∃ q : Int, e = .returned (.int .i64 q) ∧ 0 ≤ q) ∧ Below w.heap.size w w' := by
  refine (szTree_any vl vn lo ts w hl hv).mono ?_
  rintro r w1 ⟨⟨q, h1, h2, _⟩ | ⟨_, h⟩, b⟩
  · exact ⟨⟨q, h1, h2⟩, b⟩
  · omega
theorem szT_big (vl vn : Value) (lo : List Int) (ts : List NodeD) (w : World) (hl : Reads w w.heap.size vl (intsD lo)) (hv : Reads w w.heap.size vn (nodesA ts)) (hn : 1048576 < lo.length + (ts.length + sumT ts)) : Calls Tryz.prog 31 #[.agg #[vl, vn], .int .i64 1048576] w fun e w' => e = .returned (.int .i64 (-1)) ∧ Below w.heap.size w w' := by
  refine (szTree_any vl vn lo ts w hl hv).mono ?_
  rintro r w1 ⟨⟨q, h1, h2, _⟩ | ⟨h, _⟩, b⟩
  · omega
  · exact ⟨h, b⟩
end Go.Proofs.YtkcafbdlealbpaaGreat
/- Contracts for slices.Clone at sets of keys, impl.copyNode and spec.l5Copy: a new node in new memory that reads alike. Conditions: at most 1100000 sets and keys. -/
namespace Go.Proofs.YtkcafbdlealbpaaGreat
open Go.RowKit
set_option maxRecDepth 100000
set_option linter.unusedSimpArgs false
set_option linter.unusedVariables false

theorem cloneSets_any (A : Option Addr) (n c : Nat) (xs : List Value) (w : World) (hA : At w A xs) (hl : xs.length = n * 1) (h1 : ∀ u ∈ xs, u.oneCell' = true) (hn : n ≤ 1100000) : Calls Tryz.prog 122 #[.slice A n c] w (NewRow w 36 1 n xs) := by
  rcases A with _ | ad
  · have h0 : xs = [] := by
      rcases hA with h | ⟨b, off, h, _⟩
      · exact h
      · cases h
    subst h0
    have h2 : n = 0 := by simpa using hl.symm
    subst h2
    have hq := run_eqnil (P := Tryz.prog) w 69 36 none 0 c Tryz.underlying69
    go_enter Tryz.func122, Tryz.ntmps122
    go_wp2
    go_ret
    exact ⟨_, rfl, row_nil _ _ _ _, Below.refl _ _⟩
  · have hA0 := hA.on (bal1 w (.cells #[] 36))
    have ho0 := row_lit w 36 1
    have HB := Lib.hid (bal1 w (.cells #[] 36))
    have hq := run_eqnil (P := Tryz.prog) w 69 36 (some ad) n c Tryz.underlying69
    have HL := Lib.hid hl
    have H1 := Lib.hid h1
    clear hA hl h1
    go_enter Tryz.func122, Tryz.ntmps122
    go_wp2_with (at_builtin; refine wpList_appV _ rfl (.tmp 5) (.tmp 6) 69 36 1 24 (.slice none 0 0) rfl Tryz.underlying69 (by kernel_rfl) rfl (by omega) (by omega) w.heap.size 0 _ [] rfl ho0 (some ad) n c xs rfl HL.out hA0 H1.out (by omega) (by simp) ?_; intro v1 w1 o1 g1 _ _; have b1 := Lib.hid (grown_below HB.out g1 ho0 (Nat.le_refl _)); clear g1 ho0 hA0)
    rw [List.nil_append, Nat.zero_add] at o1
    go_ret
    exact ⟨v1, rfl, o1, b1.out⟩
set_option maxHeartbeats 2000000 in
theorem copyNode_any (v : Value) (ns : List (List KeyD)) (w : World) (hv : Reads w w.heap.size v (setsD ns)) (hs : SmallN ns) : Calls Tryz.prog 90 #[.agg #[v]] w (NewN w ns) := by
  obtain ⟨A0, d0, rfl, _, _⟩ := hv.lenN
  have HS := Lib.hid hs
  have s1 := hs.1
  obtain ⟨xs, hat, hrs, hxl⟩ := hv.cells
  have X0 := Lib.hid hrs
  have HXL := Lib.hid hxl
  have ones : ∀ u ∈ xs, u.oneCell' = true := hrs.ones (fun c hc => by simp at hc; obtain ⟨l, _, rfl⟩ := hc; rfl)
  obtain ⟨q0, q1⟩ := al2 w (.cells #[.slice A0 ns.length d0] 71) (.cells #[.slice none 0 0] 71)
  have Q0 := Lib.hid q0
  have Q1 := Lib.hid q1
  clear hv hs hrs hxl q0 q1
  go_enter Tryz.func90, Tryz.ntmps90
  go_wp2_with fail
  refine (cloneSets_any A0 ns.length d0 xs _ (hat.on (bal2 _ _ _)) HXL.out ones s1).mono ?_
  rintro e w1 ⟨u, rfl, ho1, b1⟩
  have hb1 := bstep (bal2 _ _ _) b1
  have q0 := box_on Q0.out b1
  have q1 := box_on Q1.out b1
  have hz := b1.size
  simp only [World.size_alloc] at hz ho1
  obtain ⟨Au, cu, rfl⟩ := row_form ho1
  have HO1 := Lib.hid ho1
  have P0 := Lib.hid q0
  have P1 := Lib.hid q1
  have HB1 := Lib.hid hb1
  clear b1 ones hat q0 q1 ho1 hb1
  have REL1 : Hid (CopyIn w (w.heap.size + 1 + 1) w.heap.size (.cells #[.slice A0 ns.length d0] 71) (.slice Au ns.length cu) 36 1 ns.length 0 xs (ns.map keysD) w1) :=
    Lib.hid ⟨xs, HO1.out, by simpa using OwnsL.nil _ _, fun _ _ => rfl, P0.out, HB1.out⟩
  go_wp2
  go_loopw [11] (fun i wr => ∃ k : Nat, k ≤ ns.length ∧ i = .int .i64 k ∧ Hid (CopyIn w (w.heap.size + 1 + 1) w.heap.size (.cells #[.slice A0 ns.length d0] 71) (.slice Au ns.length cu) 36 1 ns.length k xs (ns.map keysD) wr) ∧ Hid (wr.heap[w.heap.size + 1]? = some (.cells #[.slice none 0 0] 71))) (fun i _ => ns.length - (intOf i).toNat)
  case atStart => exact ⟨0, Nat.zero_le _, rfl, REL1, P1⟩
  case round =>
    clear hz REL1
    obtain ⟨k, hk, rfl, HC, HP⟩ := hrel
    obtain ⟨zs, ho, hown, htl, hbx, hb⟩ := HC.out
    by_cases hlt : k < ns.length
    · have hxk : k < xs.length := by rw [HXL.out]; omega
      rcases row_cases ho with ⟨_, h, _⟩ | ⟨g, cap, hu, hbg, hR, hn, hc, hl⟩
      · omega
      · cases hu
        have hzk : k < zs.length := by omega
        have ez : zs[k] = xs[k] := by
          have := htl k (Nat.le_refl _)
          rw [List.getElem?_eq_getElem hzk, List.getElem?_eq_getElem hxk] at this
          exact Option.some.inj this
        have c1 := hR.cell hzk
        rw [ez] at c1
        have rk := (X0.out.on hb).2 k hxk (by simpa using hlt)
        rw [List.getElem_map] at rk
        obtain ⟨Ak, dk, ek, _, _⟩ := rk.lenN
        rw [ek] at c1 rk
        have hg := hR.lt
        have hlk := HS.out.at hlt
        have i1 : (k : Int) < (ns.length : Int) := by omega
        have i2 : (0 : Int) ≤ (k : Int) := by omega
        have hne2 : ¬ w.heap.size = g := by omega
        have RK := Lib.hid rk
        have HOWN := Lib.hid hown
        have HO := Lib.hid ho
        have HT := Lib.hid htl
        have HR := Lib.hid hR
        have HBX := Lib.hid hbx
        have HZ := Lib.hid hzk
        have HBB := Lib.hid hb
        clear rk ek ez hown ho htl hR hbx hb hl hxk hzk HC
        go_wp2_with fail
        refine (cloneK_any _ ns[k] _ RK.out (by omega)).mono ?_
        rintro e w2 ⟨x, rfl, ox, b2⟩
        have R2 := HR.out.keep (b2.block g hg)
        have cc := R2.cell HZ.out
        have ff := R2.frozen k
        obtain ⟨Ax, dx, rfl, _, _⟩ := ox.shape
        have NEW := Lib.hid (CopyIn.step (w := w) HO.out HOWN.out HT.out HBX.out HBB.out b2 ox.owns hg (by omega) hne2 (by omega) hlt)
        have HP2 := Lib.hid (box_far (j := k) (u := .slice Ax (ns[k]).length dx) (box_on HP.out b2) (show w.heap.size + 1 ≠ g by omega))
        clear ox b2 R2 c1
        go_wp2
        go_roundw
        case rel =>
          refine ⟨k + 1, by omega, by go_num, ?_, HP2⟩
          have h := NEW.out
          exact Lib.hid (h (by simpa using hlt) (by simp))
        case measure => simp [intOf]; omega
    · have e : k = ns.length := by omega
      have hsec : Owns wr (fun b => w.heap.size + 1 + 1 ≤ b) (.slice Au ns.length cu) (setsD ns) := by
        subst e
        have h1 : zs.length = ns.length * 1 := ho.1
        rw [List.take_of_length_le (by omega), List.take_of_length_le (by simp)] at hown
        exact row_owns ho hown (by simp)
      have HSEC := Lib.hid hsec
      have HBB := Lib.hid hb
      obtain ⟨x0, x1⟩ := box1N HP.out
      clear hsec hown ho htl hbx hb HC
      go_wp2
      refine bodyPost_ret (v := .agg #[.slice Au ns.length cu]) (by simp [results, Tryz.results90, go_sem, x0, x1]) rfl ⟨_, rfl, ?_, ?_⟩
      · exact (HSEC.out.setFar (by omega)).mono (fun b hb => by omega)
      · exact HBB.out.setCell (p := ⟨w.heap.size + 1, 0, none⟩) (show w.heap.size ≤ w.heap.size + 1 by omega) _
/-- What the region of spec.l5Copy reads: two boxes and an element. -/
def NC1 (p1 b1 : Nat) (o1 : Nat) (v1 e1 : Value) (p3 : Nat) (v3 : Value) (W : World) : Prop := W.cell? ⟨p1, 0, none⟩ = some v1 ∧ W.cell? ⟨b1, o1, none⟩ = some e1 ∧ W.cell? ⟨p3, 0, none⟩ = some v3
theorem NC1.on {p1 b1 o1 : Nat} {v1 e1 : Value} {p3 : Nat} {v3 : Value} {wr W : World} (h : NC1 p1 b1 o1 v1 e1 p3 v3 wr) (hb : Below wr.heap.size wr W) : NC1 p1 b1 o1 v1 e1 p3 v3 W :=
  have k : ∀ (b o : Nat) (v : Value), wr.cell? ⟨b, o, none⟩ = some v → W.cell? ⟨b, o, none⟩ = some v := fun b o _ hc => (World.cell?_of_block (a := ⟨b, o, none⟩) (hb.block b (World.block_lt_of_cell? wr _ hc))).trans hc
  ⟨k _ _ _ h.1, k _ _ _ h.2.1, k _ _ _ h.2.2⟩
theorem NC1.grown {p1 b1 o1 : Nat} {v1 e1 : Value} {p3 : Nat} {v3 : Value} {wr W : World} {g : Option Nat} (h : NC1 p1 b1 o1 v1 e1 p3 v3 wr) (hg : wr.grownBy W g) (h1 : g ≠ some p1) (h2 : g ≠ some b1) (h3 : g ≠ some p3) : NC1 p1 b1 o1 v1 e1 p3 v3 W :=
  have k : ∀ (b o : Nat) (v : Value), g ≠ some b → wr.cell? ⟨b, o, none⟩ = some v → W.cell? ⟨b, o, none⟩ = some v := fun b o _ hn hc => (World.cell?_of_block (a := ⟨b, o, none⟩) (hg.block b (World.block_lt_of_cell? wr _ hc) (fun e => hn e.symm))).trans hc
  ⟨k _ _ _ h1 h.1, k _ _ _ h2 h.2.1, k _ _ _ h3 h.2.2⟩
theorem operAppN {P : Program} {o : Oper} {a : Act} {Kn : Act → World → Prop} {Q : Exit → Act → World → Prop} (w : World) (hgd : o.guard = none) (s x : Operand) (t e z by_ : Nat) (zero : Value)
    (hop : o.op = .call { callee := .builtin .append, args := #[s, x], argTypes := #[t, t] }) (ht : P.underlying t = some (.slice e)) (hinfo : (P.info? e).map (fun i => (i.zero, i.size, i.bytes)) = some (some zero, z, by_)) (hzc : zero.cells.size = z) (hz : 0 < z) (hby : by_ ≤ 1024)
    (base n : Nat) (v : Value) (xs : List Value) (hs : a.eval s = v) (hown : w.ownsRow base e z v n xs) (A : Option Addr) (m c : Nat) (news : List Value) (hx : a.eval x = .slice A m c) (hl : news.length = m * z) (hA : At w A news) (h1 : ∀ u ∈ news, u.oneCell' = true) (hlen : n + m ≤ 1073741824) (hbase : base ≤ w.heap.size)
    (h : ∀ v' w', w'.ownsRow base e z v' (n + m) (xs ++ news) → w.grownBy w' v.ownBlock → (v' = .slice none 0 0 ↔ v = .slice none 0 0 ∧ m = 0) → (v'.ownBlock = v.ownBlock ∨ v'.ownBlock = some w.heap.size) → Kn (a.put o.dst v') w') : Oper.wp P o a w Kn Q := by
  have h2 := step_appV (ops := #[]) (Q := Q) (E := True) w hgd s x t e z by_ zero hop ht hinfo hzc hz hby base n v xs hs hown A m c news hx hl hA h1 hlen hbase h
  rwa [if_pos (by simp [Region.wanted, hgd])] at h2
theorem inner_appK (wr w6 : World) {v6 : Value} (l : List KeyD) (o6 : w6.ownsRow wr.heap.size 29 5 v6 (0 + l.length) ([] ++ kvl l)) (g6 : (wr.drew.alloc (.cells #[] 29)).grownBy w6 (Value.slice (some ⟨wr.drew.heap.size, 0, none⟩) 0 0).ownBlock) : Below wr.heap.size wr w6 ∧ RowK w6 wr.heap.size v6 l ∧ ∃ A c, v6 = .slice A l.length c := by
  have o7 : RowK w6 wr.heap.size v6 l := by rw [Nat.zero_add, List.nil_append] at o6; exact o6
  refine ⟨?_, o7, by obtain ⟨A, c, h, _⟩ := o7.shape; exact ⟨A, c, h⟩⟩
  have h : Below wr.heap.size wr (wr.drew.alloc (.cells #[] 29)) := (Below.refl _ _).drew.alloc (Nat.le_refl _) _
  exact h.grown g6 h.size (fun k hk => by simp [Value.ownBlock] at hk; subst hk; exact Nat.le_refl _)
def SetsIn (w : World) (ns : List (List KeyD)) (bx1 bx2 : Obj) (k : Nat) (wr : World) : Prop :=
  ∃ u xs, wr.ownsRow (w.heap.size + 3) 36 1 u k xs ∧ OwnsL wr (Tof (w.heap.size + 3) u) xs ((ns.take k).map keysD) ∧ wr.heap[w.heap.size]? = some bx1 ∧ wr.heap[w.heap.size + 1]? = some bx2 ∧ wr.heap[w.heap.size + 1 + 1]? = some (.cells #[u] 71) ∧ Below w.heap.size w wr
set_option maxHeartbeats 4000000 in
theorem l5Copy_any (v : Value) (ns : List (List KeyD)) (w : World) (hv : Reads w w.heap.size v (setsD ns)) (hs : SmallN ns) : Calls Tryz.prog 100 #[.agg #[v]] w (NewN w ns) := by
  obtain ⟨A0, d0, rfl, _, _⟩ := hv.lenN
  have HS := Lib.hid hs
  have s1 := hs.1
  have V0 := Lib.hid hv
  obtain ⟨q0, q1, q2⟩ := al3 w (.cells #[.slice A0 ns.length d0] 71) (.cells #[.slice none 0 0] 71) (.cells #[.slice none 0 0] 71)
  have REL : Hid (SetsIn w ns (.cells #[.slice A0 ns.length d0] 71) (.cells #[.slice none 0 0] 71) 0 _) := Lib.hid ⟨.slice none 0 0, [], row_nil _ _ _ _, by simpa using OwnsL.nil _ _, q0, q1, q2, bal3 _ _ _ _⟩
  clear hv hs q0 q1 q2
  go_enter Tryz.func100, Tryz.ntmps100
  go_wp2
  go_loopw [4] (fun i wr => ∃ k : Nat, k ≤ ns.length ∧ i = .int .i64 k ∧ Hid (SetsIn w ns (.cells #[.slice A0 ns.length d0] 71) (.cells #[.slice none 0 0] 71) k wr)) (fun i _ => ns.length - (intOf i).toNat)
  case atStart => exact ⟨0, Nat.zero_le _, rfl, REL⟩
  case round =>
    clear REL
    obtain ⟨k, hk, rfl, HC⟩ := hrel
    obtain ⟨u, xs, hr, ho, q0, q1, q2, hb⟩ := HC.out
    obtain ⟨x0, x1⟩ := box1N q0
    by_cases hlt : k < ns.length
    · obtain ⟨b, off, rfl, hb0, _⟩ := V0.out.set hlt
      obtain ⟨b', off', hbe, hbb, hc⟩ := (V0.out.on hb).set hlt
      cases hbe
      obtain ⟨A2, d2, c1, _, _, r1⟩ := hc k hlt
      obtain ⟨z0, z1⟩ := box1N q2
      obtain ⟨Au, cu, rfl⟩ := row_form hr
      have hzw : w.heap.size + 1 + 1 < wr.heap.size := (Array.getElem?_eq_some_iff.1 q2).1
      have hzx : w.heap.size < wr.heap.size := by omega
      have i1 : (k : Int) < (ns.length : Int) := by omega
      have i2 : (0 : Int) ≤ (k : Int) := by omega
      have hlk := HS.out.at hlt
      have n1 : ¬ w.heap.size + 1 + 1 = w.heap.size := by omega
      have n2 : ¬ w.heap.size = w.heap.size + 1 + 1 := by omega
      have Q0 := Lib.hid q0
      have Q1 := Lib.hid q1
      have Q2 := Lib.hid q2
      have HR := Lib.hid hr
      have HO := Lib.hid ho
      have HB := Lib.hid hb
      have AT := Lib.hid (Reads.on r1 ((Below.refl _ _).drew.alloc (Nat.le_refl _) (.cells #[] 29))).atK
      have HZ1 : Hid (wr.heap.size ≤ (wr.drew.alloc (.cells #[] 29)).heap.size) := Lib.hid (Nat.le_of_lt (by rw [World.size_alloc]; exact Nat.lt_succ_self _))
      have C1 := Lib.hid c1
      clear hc q0 q1 q2 hr ho hb r1 HC
      go_wp2
      have hSW : NC1 w.heap.size b (off + k) (.slice (some ⟨b, off, none⟩) ns.length d0) (.slice A2 (ns[k]).length d2) (w.heap.size + 1 + 1) (.slice Au k cu) wr.drew := ⟨x0, c1, z0⟩
      have hSV : NC1 w.heap.size b (off + k) (.slice (some ⟨b, off, none⟩) ns.length d0) (.slice A2 (ns[k]).length d2) (w.heap.size + 1 + 1) (.slice Au k cu) wr := ⟨x0, c1, z0⟩
      refine but_begin (f := 12) (S := NC1 w.heap.size b (off + k) (.slice (some ⟨b, off, none⟩) ns.length d0) (.slice A2 (ns[k]).length d2) (w.heap.size + 1 + 1) (.slice Au k cu)) (by kernel_rfl) ?_
      refine but_take (f := 12) (i := 0) (v := ?v0) rfl (by kernel_rfl) (by kernel_rfl) (by kernel_rfl) (by kernel_rfl) (by kernel_rfl) (fun _ _ _ h => h) (Or.inl ⟨by rfl, ?hy0⟩) hSW ?rest0
      case hy0 =>
        intro W hW
        obtain ⟨h1, h2, h3⟩ := hW
        go_simp
        exact rfl
      simp only [List.getElem_toArray, List.getElem_cons_succ, List.getElem_cons_zero, Act.put, List.setIfInBounds_toArray, List.set_cons_zero, List.set_cons_succ]
      refine but_take (f := 12) (i := 1) (v := ?v1) rfl (by kernel_rfl) (by kernel_rfl) (by kernel_rfl) (by kernel_rfl) (by kernel_rfl) (fun _ _ _ h => h) (Or.inl ⟨by rfl, ?hy1⟩) hSW ?rest1
      case hy1 =>
        intro W hW
        obtain ⟨h1, h2, h3⟩ := hW
        go_simp
        exact rfl
      simp only [List.getElem_toArray, List.getElem_cons_succ, List.getElem_cons_zero, Act.put, List.setIfInBounds_toArray, List.set_cons_zero, List.set_cons_succ]
      refine but_take (f := 12) (i := 3) (v := ?v3) rfl (by kernel_rfl) (by kernel_rfl) (by kernel_rfl) (by kernel_rfl) (by kernel_rfl) (fun _ _ _ h => h) (Or.inl ⟨by rfl, ?hy3⟩) hSW ?rest3
      case hy3 =>
        intro W hW
        obtain ⟨h1, h2, h3⟩ := hW
        go_simp
        exact rfl
      simp only [List.getElem_toArray, List.getElem_cons_succ, List.getElem_cons_zero, Act.put, List.setIfInBounds_toArray, List.set_cons_zero, List.set_cons_succ]
      refine but_take (f := 12) (i := 4) (v := ?v4) rfl (by kernel_rfl) (by kernel_rfl) (by kernel_rfl) (by kernel_rfl) (by kernel_rfl) (fun _ _ _ h => h) (Or.inl ⟨by rfl, ?hy4⟩) hSW ?rest4
      case hy4 =>
        intro W hW
        obtain ⟨h1, h2, h3⟩ := hW
        go_simp
        exact rfl
      simp only [List.getElem_toArray, List.getElem_cons_succ, List.getElem_cons_zero, Act.put, List.setIfInBounds_toArray, List.set_cons_zero, List.set_cons_succ]
      refine but_take (f := 12) (i := 5) (v := ?v5) rfl (by kernel_rfl) (by kernel_rfl) (by kernel_rfl) (by kernel_rfl) (by kernel_rfl) (fun _ _ _ h => h) (Or.inl ⟨by rfl, ?hy5⟩) hSW ?rest5
      case hy5 =>
        intro W hW
        obtain ⟨h1, h2, h3⟩ := hW
        go_simp
        exact rfl
      simp only [List.getElem_toArray, List.getElem_cons_succ, List.getElem_cons_zero, Act.put, List.setIfInBounds_toArray, List.set_cons_zero, List.set_cons_succ]
      refine but_take (f := 12) (i := 6) (v := ?v6) rfl (by kernel_rfl) (by kernel_rfl) (by kernel_rfl) (by kernel_rfl) (by kernel_rfl) (fun _ _ _ h => h) (Or.inl ⟨by rfl, ?hy6⟩) hSW ?rest6
      case hy6 =>
        intro W hW
        obtain ⟨h1, h2, h3⟩ := hW
        go_simp
        exact rfl
      simp only [List.getElem_toArray, List.getElem_cons_succ, List.getElem_cons_zero, Act.put, List.setIfInBounds_toArray, List.set_cons_zero, List.set_cons_succ]
      refine but_take (f := 12) (i := 7) (v := ?v7) rfl (by kernel_rfl) (by kernel_rfl) (by kernel_rfl) (by kernel_rfl) (by kernel_rfl) (fun _ _ _ h => h) (Or.inl ⟨by rfl, ?hy7⟩) hSW ?rest7
      case hy7 =>
        intro W hW
        obtain ⟨h1, h2, h3⟩ := hW
        go_simp
        exact rfl
      simp only [List.getElem_toArray, List.getElem_cons_succ, List.getElem_cons_zero, Act.put, List.setIfInBounds_toArray, List.set_cons_zero, List.set_cons_succ]
      refine but_run (i := 2) (by kernel_rfl) rfl (by rfl) ?_
      simp only [List.getElem_toArray, List.getElem_cons_succ, List.getElem_cons_zero]
      intro K_ HK
      go_wp2
      refine HK.out _ (wr.drew.alloc (.cells #[] 29)) (fun _ => hSW.on (bal1 _ _)) ?_
      clear HK
      refine but_run (i := 8) (by kernel_rfl) rfl (by rfl) ?_
      simp only [List.getElem_toArray, List.getElem_cons_succ, List.getElem_cons_zero]
      intro K_ HK
      refine operAppN _ (by rfl) (.tmp 15) (.tmp 20) 36 29 5 40 (.agg #[.int .i64 0, .int .i64 0, .int .i64 0, .int .i64 0, .int .i64 0]) (by rfl) Tryz.underlying36 (by kernel_rfl) rfl (by omega) (by omega) wr.heap.size 0 _ [] (by rfl) (row_lit wr.drew 29 5) A2 (ns[k]).length d2 (kvl ns[k]) (by rfl) (kvl_len _) AT.out (kvl_cells _) (by omega) HZ1.out ?_
      intro v6 w6 o6' g6' _ _
      obtain ⟨b6, o6, A6, c6, rfl⟩ := inner_appK wr _ _ o6' g6'
      have hS6 := hSV.on b6
      refine HK.out _ _ (fun _ => hS6) ?_
      clear HK
      have B6 := Lib.hid b6
      have O6 := Lib.hid o6.owns
      clear o6 o6' g6' b6
      simp only [Act.put, List.setIfInBounds_toArray, List.set_cons_zero, List.set_cons_succ]
      refine but_run (i := 9) (by kernel_rfl) rfl (by rfl) ?_
      simp only [List.getElem_toArray, List.getElem_cons_succ, List.getElem_cons_zero]
      intro K_ HK
      go_wp2
      have hS7 := hS6.on (bal1 w6 (.cells #[.slice A6 (ns[k]).length c6] 36))
      refine HK.out _ _ (fun _ => hS7) ?_
      clear HK
      have hz6 := B6.out.size
      refine but_run (i := 10) (by kernel_rfl) rfl (by rfl) ?_
      simp only [List.getElem_toArray, List.getElem_cons_succ, List.getElem_cons_zero]
      intro K_ HK
      refine operAppN _ (by rfl) (.tmp 14) (.tmp 22) 69 36 1 24 (.slice none 0 0) (by rfl) Tryz.underlying69 (by kernel_rfl) rfl (by omega) (by omega) (w.heap.size + 3) k _ xs (by rfl) (row_on (row_on HR.out B6.out) (bal1 _ _)) _ 1 1 [.slice A6 (ns[k]).length c6] (by rfl) rfl (At.lit1 _ _ _) (by simp [Value.oneCell']) (by omega) (by simp; omega) ?_
      intro v8 w8 o8 g8 n8 at8
      have h8 := box_grown (box_on (box_on Q2.out B6.out) (bal1 _ _)) g8 (row_ne HR.out (by omega))
      have K8 := Lib.hid (box_grown (box_on (box_on Q0.out B6.out) (bal1 _ _)) g8 (row_ne HR.out (by omega)))
      have L8 := Lib.hid (box_grown (box_on (box_on Q1.out B6.out) (bal1 _ _)) g8 (row_ne HR.out (by omega)))
      have hS8 := hS7.grown g8 (row_ne HR.out (by omega)) (row_ne HR.out (by omega)) (row_ne HR.out (by omega))
      refine HK.out _ _ (fun _ => hS8) ?_
      clear HK
      have O8 := Lib.hid o8
      have G8 := Lib.hid g8
      have AT8 := Lib.hid at8
      obtain ⟨gv, cv, rfl⟩ := row_shape o8 (by omega)
      obtain ⟨f0, f1⟩ := box1N h8
      have H8 := Lib.hid h8
      clear h8 o8 g8 at8 n8
      simp only [Act.put, List.setIfInBounds_toArray, List.set_cons_zero, List.set_cons_succ]
      refine but_run (i := 11) (by kernel_rfl) rfl (by rfl) ?_
      simp only [List.getElem_toArray, List.getElem_cons_succ, List.getElem_cons_zero]
      intro K_ HK
      go_wp2
      refine HK.out _ _ (fun _ => hS8) ?_
      clear HK
      refine but_run (i := 12) (by kernel_rfl) rfl (by rfl) ?_
      simp only [List.getElem_toArray, List.getElem_cons_succ, List.getElem_cons_zero]
      intro K_ HK
      go_wp2
      refine HK.out _ _ (fun h => (h rfl).elim) ?_
      clear HK
      have B7 := Lib.hid (bstep B6.out (bal1 w6 (.cells #[.slice A6 (ns[k]).length c6] 36)))
      have HX := Lib.hid (own_grow HR.out HO.out B7.out (OwnsL.one ((O6.out.on (bal1 _ (.cells #[.slice A6 (ns[k]).length c6] 36))).lt)) G8.out AT8.out (by omega))
      have HB8 := Lib.hid (grown_below (bstep HB.out B7.out) G8.out (row_on HR.out B7.out) (by omega))
      have NEW : Hid (SetsIn w ns (.cells #[.slice (some ⟨b, off, none⟩) ns.length d0] 71) (.cells #[.slice none 0 0] 71) (k + 1) (w8.setCell ⟨w.heap.size + 1 + 1, 0, none⟩ (.slice (some ⟨gv, 0, none⟩) (k + 1) cv))) := by
        refine Lib.hid ⟨_, _, row_keep O8.out (fun g hg => Below.heap_setCell _ _ _ _ (by have := (row_lt O8.out g hg).2; simp; omega)), ?_, box_far K8.out (by omega), box_far L8.out (by omega), box_set H8.out, HB8.out.setCell (p := ⟨w.heap.size + 1 + 1, 0, none⟩) (by simp; omega) _⟩
        rw [List.take_succ_eq_append_getElem hlt, List.map_append]
        exact HX.out.keep (fun b hb _ => Below.heap_setCell _ _ _ _ (by have := hb.1; simp; omega))
      clear HX HB8 O8 G8 AT8 H8 K8 L8 HR HO Q0 Q1 Q2 HB B7 B6 O6
      refine but_done (by kernel_rfl) ?_
      go_wp2
      go_roundw
      case rel => exact ⟨k + 1, by omega, by go_num, NEW⟩
      case measure => simp [intOf]; omega
    · have e : k = ns.length := by omega
      subst e
      rw [List.take_of_length_le (Nat.le_refl _)] at ho
      obtain ⟨Au, cu, rfl⟩ := row_form hr
      obtain ⟨z0, z1⟩ := box1N q2
      obtain ⟨y0, y1⟩ := box1N q1
      have hsec : Owns wr (fun b => w.heap.size + 3 ≤ b) (.slice Au ns.length cu) (setsD ns) := row_owns hr ho (by simp)
      have HSEC := Lib.hid hsec
      have HBB := Lib.hid hb
      clear hsec ho hr q0 q1 q2 hb HC
      go_wp2
      refine bodyPost_ret (v := .agg #[.slice Au ns.length cu]) (by simp [results, Tryz.results100, go_sem, y0, y1]) rfl ⟨_, rfl, ?_, ?_⟩
      · exact (HSEC.out.setFar (by omega)).mono (fun b hb => by omega)
      · exact HBB.out.setCell (p := ⟨w.heap.size + 1, 0, none⟩) (show w.heap.size ≤ w.heap.size + 1 by omega) _
end Go.Proofs.YtkcafbdlealbpaaGreat
/- Contracts of slices.Clone at nodes and ints, impl.copyTree and spec.l6Copy: a new tree in new memory that reads alike. Conditions: at most 1100000 bounds, nodes, sets and keys. -/
namespace Go.Proofs.YtkcafbdlealbpaaGreat
open Go.RowKit
set_option maxRecDepth 100000
set_option linter.unusedSimpArgs false
set_option linter.unusedVariables false
theorem cloneNodes_any (A : Option Addr) (n c : Nat) (xs : List Value) (w : World) (hA : At w A xs) (hl : xs.length = n * 1) (h1 : ∀ u ∈ xs, u.oneCell' = true) (hn : n ≤ 1100000) : Calls Tryz.prog 89 #[.slice A n c] w (NewRow w 71 1 n xs) := by
  rcases A with _ | ad
  · have h0 : xs = [] := by
      rcases hA with h | ⟨b, off, h, _⟩
      · exact h
      · cases h
    subst h0
    have h2 : n = 0 := by simpa using hl.symm
    subst h2
    have hq := run_eqnil (P := Tryz.prog) w 25 71 none 0 c Tryz.underlying25
    go_enter Tryz.func89, Tryz.ntmps89
    go_wp2
    go_ret
    exact ⟨_, rfl, row_nil _ _ _ _, Below.refl _ _⟩
  · have hA0 := hA.on (bal1 w (.cells #[] 71))
    have ho0 := row_lit w 71 1
    have HB := Lib.hid (bal1 w (.cells #[] 71))
    have hq := run_eqnil (P := Tryz.prog) w 25 71 (some ad) n c Tryz.underlying25
    have HL := Lib.hid hl
    have H1 := Lib.hid h1
    clear hA hl h1
    go_enter Tryz.func89, Tryz.ntmps89
    go_wp2_with (at_builtin; refine wpList_appV _ rfl (.tmp 5) (.tmp 6) 25 71 1 24 (.agg #[.slice none 0 0]) rfl Tryz.underlying25 (by kernel_rfl) rfl (by omega) (by omega) w.heap.size 0 _ [] rfl ho0 (some ad) n c xs rfl HL.out hA0 H1.out (by omega) (by simp) ?_; intro v1 w1 o1 g1 _ _; have b1 := Lib.hid (grown_below HB.out g1 ho0 (Nat.le_refl _)); clear g1 ho0 hA0)
    rw [List.nil_append, Nat.zero_add] at o1
    go_ret
    exact ⟨v1, rfl, o1, b1.out⟩
theorem cloneInts_any (A : Option Addr) (n c : Nat) (xs : List Value) (w : World) (hA : At w A xs) (hl : xs.length = n * 1) (h1 : ∀ u ∈ xs, u.oneCell' = true) (hn : n ≤ 1100000) : Calls Tryz.prog 91 #[.slice A n c] w (NewRow w 3 1 n xs) := by
  rcases A with _ | ad
  · have h0 : xs = [] := by
      rcases hA with h | ⟨b, off, h, _⟩
      · exact h
      · cases h
    subst h0
    have h2 : n = 0 := by simpa using hl.symm
    subst h2
    have hq := run_eqnil (P := Tryz.prog) w 24 3 none 0 c Tryz.underlying24
    go_enter Tryz.func91, Tryz.ntmps91
    go_wp2
    go_ret
    exact ⟨_, rfl, row_nil _ _ _ _, Below.refl _ _⟩
  · have hA0 := hA.on (bal1 w (.cells #[] 3))
    have ho0 := row_lit w 3 1
    have HB := Lib.hid (bal1 w (.cells #[] 3))
    have hq := run_eqnil (P := Tryz.prog) w 24 3 (some ad) n c Tryz.underlying24
    have HL := Lib.hid hl
    have H1 := Lib.hid h1
    clear hA hl h1
    go_enter Tryz.func91, Tryz.ntmps91
    go_wp2_with (at_builtin; refine wpList_appV _ rfl (.tmp 5) (.tmp 6) 24 3 1 8 (.int .i64 0) rfl Tryz.underlying24 (by kernel_rfl) rfl (by omega) (by omega) w.heap.size 0 _ [] rfl ho0 (some ad) n c xs rfl HL.out hA0 H1.out (by omega) (by simp) ?_; intro v1 w1 o1 g1 _ _; have b1 := Lib.hid (grown_below HB.out g1 ho0 (Nat.le_refl _)); clear g1 ho0 hA0)
    rw [List.nil_append, Nat.zero_add] at o1
    go_ret
    exact ⟨v1, rfl, o1, b1.out⟩
theorem only_two (w : World) (p i j : Nat) (a b : Value) : Only (fun b => b = p) w ((w.setCell ⟨p, i, none⟩ a).setCell ⟨p, j, none⟩ b) :=
  Only.setCell (S := fun b => b = p) (g := p) (Only.setCell (S := fun b => b = p) (g := p) (Only.refl _ _) rfl _) rfl _
theorem one_iV (l : List Int) : ∀ u ∈ l.map iV, u.oneCell' = true := by
  intro u hu
  simp only [List.mem_map] at hu
  obtain ⟨n, _, rfl⟩ := hu
  rfl
theorem row_ints {w : World} {base : Nat} {v : Value} {lo : List Int} (h : w.ownsRow base 3 1 v lo.length (lo.map iV)) : Owns w (fun b => base ≤ b) v (intsD lo) := row_owns h (ints_litL _ _ _) (by simp)
theorem Reads.atI {w : World} {B : Nat} {A : Option Addr} {n c : Nat} {lo : List Int} (h : Reads w B (.slice A n c) (intsD lo)) : At w A (lo.map iV) := by
  obtain ⟨xs, hat, hrs, _⟩ := h.cells
  rw [← lits_eq hrs]
  exact hat
set_option maxHeartbeats 4000000 in
theorem copyTree_any (vl vn : Value) (lo : List Int) (ts : List NodeD) (w : World) (hv : RdT w w.heap.size vl vn lo ts) (hs : SmallT lo ts) : Calls Tryz.prog 42 #[.agg #[vl, vn]] w (NewTS w lo ts) := by
  obtain ⟨A, c, B, d, rfl, rfl⟩ := hv.shape
  have HS := Lib.hid hs
  have s1 := hs.1
  have s2 := hs.2.1
  have HVL := Lib.hid hv.1
  obtain ⟨xs, hat, hrs, hxl⟩ := hv.2.cells
  have X0 := Lib.hid hrs
  have HXL := Lib.hid hxl
  have ones : ∀ u ∈ xs, u.oneCell' = true := hrs.ones (fun c hc => by simp at hc; obtain ⟨l, _, rfl⟩ := hc; rfl)
  obtain ⟨q0, q1⟩ := al2 w (.cells #[.slice A lo.length c, .slice B ts.length d] 27) (.cells #[.slice none 0 0, .slice none 0 0] 27)
  have Q0 := Lib.hid q0
  have Q1 := Lib.hid q1
  clear hv hs hrs hxl q0 q1
  go_enter Tryz.func42, Tryz.ntmps42
  go_wp2_with fail
  refine (cloneNodes_any B ts.length d xs _ (hat.on (bal2 _ _ _)) HXL.out ones s2).mono ?_
  rintro e w1 ⟨u, rfl, ho1, b1⟩
  have hb1 := bstep (bal2 _ _ _) b1
  have q0 := box_on Q0.out b1
  have q1 := box_on Q1.out b1
  have hz := b1.size
  simp only [World.size_alloc] at hz ho1
  obtain ⟨Au, cu, rfl⟩ := row_form ho1
  have HO1 := Lib.hid ho1
  have P0 := Lib.hid q0
  have P1 := Lib.hid q1
  have HB1 := Lib.hid hb1
  clear b1 ones hat q0 q1 ho1 hb1
  have REL1 : Hid (CopyIn w (w.heap.size + 1 + 1) w.heap.size (.cells #[.slice A lo.length c, .slice B ts.length d] 27) (.slice Au ts.length cu) 71 1 ts.length 0 xs (ts.map setsD) w1) :=
    Lib.hid ⟨xs, HO1.out, by simpa using OwnsL.nil _ _, fun _ _ => rfl, P0.out, HB1.out⟩
  go_wp2
  go_loopw [11] (fun i wr => ∃ k : Nat, k ≤ ts.length ∧ i = .int .i64 k ∧ Hid (CopyIn w (w.heap.size + 1 + 1) w.heap.size (.cells #[.slice A lo.length c, .slice B ts.length d] 27) (.slice Au ts.length cu) 71 1 ts.length k xs (ts.map setsD) wr) ∧ Hid (wr.heap[w.heap.size + 1]? = some (.cells #[.slice none 0 0, .slice none 0 0] 27))) (fun i _ => ts.length - (intOf i).toNat)
  case atStart => exact ⟨0, Nat.zero_le _, rfl, REL1, P1⟩
  case round =>
    clear hz REL1
    obtain ⟨k, hk, rfl, HC, HP⟩ := hrel
    obtain ⟨zs, ho, hown, htl, hbx, hb⟩ := HC.out
    by_cases hlt : k < ts.length
    · have hxk : k < xs.length := by rw [HXL.out]; omega
      rcases row_cases ho with ⟨_, h, _⟩ | ⟨g, cap, hu, hbg, hR, hn, hc, hl⟩
      · omega
      · cases hu
        have hzk : k < zs.length := by omega
        have ez : zs[k] = xs[k] := by
          have := htl k (Nat.le_refl _)
          rw [List.getElem?_eq_getElem hzk, List.getElem?_eq_getElem hxk] at this
          exact Option.some.inj this
        have c1 := hR.cell hzk
        rw [ez] at c1
        have rk := (X0.out.on hb).2 k hxk (by simpa using hlt)
        rw [List.getElem_map] at rk
        obtain ⟨Ak, dk, ek, _, _⟩ := rk.lenN
        rw [ek] at c1 rk
        have hg := hR.lt
        have hlk := Lib.hid (HS.out.at hlt)
        have i1 : (k : Int) < (ts.length : Int) := by omega
        have i2 : (0 : Int) ≤ (k : Int) := by omega
        have hne2 : ¬ w.heap.size = g := by omega
        have ba := bal1 wr (.cells #[.slice Ak (ts[k]).length dk] 71)
        have RK := Lib.hid (rk.on ba)
        have BA := Lib.hid ba
        have HOWN := Lib.hid hown
        have HO := Lib.hid ho
        have HT := Lib.hid htl
        have HR := Lib.hid hR
        have HBX := Lib.hid hbx
        have HZ := Lib.hid hzk
        have HBB := Lib.hid hb
        clear rk ek ez hown ho htl hR hbx hb hl hxk hzk HC ba
        go_wp2_with fail
        refine (copyNode_any _ ts[k] _ RK.out hlk.out).mono ?_
        rintro e w2 ⟨x, rfl, ox, b2'⟩
        have b2 := bstep BA.out b2'
        have hsz : wr.heap.size ≤ (wr.alloc (.cells #[.slice Ak (ts[k]).length dk] 71)).heap.size := BA.out.size
        have R2 := HR.out.keep (b2.block g hg)
        have cc := R2.cell HZ.out
        have ff := R2.frozen k
        obtain ⟨Ax, dx, rfl, _, _⟩ := ox.reads.lenN
        have NEW := Lib.hid (CopyIn.step (w := w) HO.out HOWN.out HT.out HBX.out HBB.out b2 (ox.mono (fun b hb => Nat.le_trans hsz hb)) hg (by omega) hne2 (by omega) hlt)
        have HP2 := Lib.hid (box_far (j := k) (u := .slice Ax (ts[k]).length dx) (box_on HP.out b2) (show w.heap.size + 1 ≠ g by omega))
        clear ox b2 b2' R2 c1 hsz
        go_wp2
        go_roundw
        case rel =>
          refine ⟨k + 1, by omega, by go_num, ?_, HP2⟩
          have h := NEW.out
          exact Lib.hid (h (by simpa using hlt) (by simp))
        case measure => simp [intOf]; omega
    · have e : k = ts.length := by omega
      have hsec : Owns wr (fun b => w.heap.size + 1 + 1 ≤ b) (.slice Au ts.length cu) (nodesD ts) := by
        subst e
        have h1 : zs.length = ts.length * 1 := ho.1
        rw [List.take_of_length_le (by omega), List.take_of_length_le (by simp)] at hown
        exact row_owns ho hown (by simp)
      have HSEC := Lib.hid hsec.lt
      have HBB := Lib.hid hb
      obtain ⟨x0, x1, x2⟩ := box2 hbx
      have AT := Lib.hid ((HVL.out.on hb).atI)
      have hzw := (Array.getElem?_eq_some_iff.1 HP.out).1
      clear hsec hown ho htl hbx hb HC
      go_wp2_with fail
      refine (cloneInts_any A lo.length c (lo.map iV) _ AT.out (by simp) (one_iV _) s1).mono ?_
      rintro e w3 ⟨v3, rfl, o3, b3⟩
      obtain ⟨A3, c3, rfl⟩ := row_form o3
      have O3 := Lib.hid (row_ints o3)
      have ON := Lib.hid (HSEC.out.on b3)
      have B3 := Lib.hid (bstep HBB.out b3)
      have hz3 := b3.size
      clear x0 x1 x2
      obtain ⟨x0, x1, x2⟩ := box2 (box_on HP.out b3)
      clear o3 b3
      go_wp2
      have HO : ∀ a b, Only (fun b => b = w.heap.size + 1) w3 ((w3.setCell ⟨w.heap.size + 1, 0, none⟩ a).setCell ⟨w.heap.size + 1, 1, none⟩ b) := fun a b => only_two _ _ _ _ _ _
      refine bodyPost_ret (v := .agg #[.slice A3 lo.length c3, .slice Au ts.length cu]) (by simp [results, Tryz.results42, go_sem, x0, x1, x2]) rfl ⟨_, _, rfl, ⟨fun b => wr.heap.size ≤ b, fun b => w.heap.size + 1 + 1 ≤ b ∧ b < wr.heap.size, fun b hb => by omega, fun b hb => by omega, fun b hb hb' => by omega, O3.out.far (HO _ _) (fun b hb _ hb' => by omega), ON.out.far (HO _ _) (fun b hb _ hb' => by omega)⟩, B3.out.trans ((HO _ _).below B3.out.size (fun b hb => by omega))⟩
/-- What the region of spec.l6Copy reads. -/
def NC2 (p1 b1 o1 : Nat) (v1 e1 : Value) (p3 : Nat) (v3 : Value) (W : World) : Prop := W.cell? ⟨p1, 1, none⟩ = some v1 ∧ W.cell? ⟨b1, o1, none⟩ = some e1 ∧ W.cell? ⟨p3, 1, none⟩ = some v3
theorem NC2.on {p1 b1 o1 : Nat} {v1 e1 : Value} {p3 : Nat} {v3 : Value} {wr W : World} (h : NC2 p1 b1 o1 v1 e1 p3 v3 wr) (hb : Below wr.heap.size wr W) : NC2 p1 b1 o1 v1 e1 p3 v3 W :=
  have k : ∀ (b o : Nat) (v : Value), wr.cell? ⟨b, o, none⟩ = some v → W.cell? ⟨b, o, none⟩ = some v := fun b o _ hc => (World.cell?_of_block (a := ⟨b, o, none⟩) (hb.block b (World.block_lt_of_cell? wr _ hc))).trans hc
  ⟨k _ _ _ h.1, k _ _ _ h.2.1, k _ _ _ h.2.2⟩
theorem NC2.grown {p1 b1 o1 : Nat} {v1 e1 : Value} {p3 : Nat} {v3 : Value} {wr W : World} {g : Option Nat} (h : NC2 p1 b1 o1 v1 e1 p3 v3 wr) (hg : wr.grownBy W g) (h1 : g ≠ some p1) (h2 : g ≠ some b1) (h3 : g ≠ some p3) : NC2 p1 b1 o1 v1 e1 p3 v3 W :=
  have k : ∀ (b o : Nat) (v : Value), g ≠ some b → wr.cell? ⟨b, o, none⟩ = some v → W.cell? ⟨b, o, none⟩ = some v := fun b o _ hn hc => (World.cell?_of_block (a := ⟨b, o, none⟩) (hg.block b (World.block_lt_of_cell? wr _ hc) (fun e => hn e.symm))).trans hc
  ⟨k _ _ _ h1 h.1, k _ _ _ h2 h.2.1, k _ _ _ h3 h.2.2⟩
def NodesIn (W2 : World) (p3 : Nat) (vlo : Value) (ts : List NodeD) (k : Nat) (wr : World) : Prop :=
  ∃ u xs, wr.ownsRow (p3 + 1) 71 1 u k xs ∧ OwnsL wr (Tof (p3 + 1) u) xs ((ts.take k).map setsD) ∧ wr.heap[p3]? = some (.cells #[vlo, u] 27 (0, 0)) ∧ Below p3 W2 wr
theorem Below.of {B : Nat} {a b c : World} (h : Below B a b) (k : Below b.heap.size b c) (hB : B ≤ b.heap.size) : Below B a c := h.trans (k.mono hB)
set_option maxHeartbeats 8000000 in
theorem l6Copy_any (vl vn : Value) (lo : List Int) (ts : List NodeD) (w : World) (hv : RdT w w.heap.size vl vn lo ts) (hs : SmallT lo ts) : Calls Tryz.prog 45 #[.agg #[vl, vn]] w (NewTS w lo ts) := by
  obtain ⟨A, c, B, d, rfl, rfl⟩ := hv.shape
  have HS := Lib.hid hs
  have s1 := hs.1
  have s2 := hs.2.1
  obtain ⟨q0, q1⟩ := al2 w (.cells #[.slice A lo.length c, .slice B ts.length d] 27) (.cells #[.slice none 0 0, .slice none 0 0] 27)
  have hb2 := bal2 w (.cells #[.slice A lo.length c, .slice B ts.length d] 27) (.cells #[.slice none 0 0, .slice none 0 0] 27)
  have hz2 : ((w.alloc (.cells #[.slice A lo.length c, .slice B ts.length d] 27)).alloc (.cells #[.slice none 0 0, .slice none 0 0] 27)).heap.size = w.heap.size + 2 := by simp
  have HV0 := Lib.hid hv.2
  have HV := Lib.hid (hv.on hb2)
  have HB := Lib.hid hb2
  have Q0 := Lib.hid q0
  have Q1 := Lib.hid q1
  have HZ2 := Lib.hid hz2
  clear hv hs q0 q1 hb2 hz2
  go_enter Tryz.func45, Tryz.ntmps45
  go_upto_region 1 with (fail)
  generalize (w.alloc (.cells #[.slice A lo.length c, .slice B ts.length d] 27)).alloc (.cells #[.slice none 0 0, .slice none 0 0] 27) = W at *
  have ba := bal1 W (.cells #[] 3)
  have AT := Lib.hid ((HV.out.1.on ba).atI)
  have ho0 := row_lit W 3 1
  obtain ⟨x0, x1, x2⟩ := box2 (box_on Q0.out ba)
  have BA := Lib.hid ba
  have HON : Hid (∀ u ∈ lo.map iV, u.oneCell' = true) := Lib.hid (one_iV lo)
  clear ba
  go_wp2_with (at_builtin; refine wpList_appV _ rfl (.tmp 5) (.tmp 7) 24 3 1 8 (.int .i64 0) rfl Tryz.underlying24 (by kernel_rfl) rfl (by omega) (by omega) W.heap.size 0 _ [] rfl ho0 A lo.length c (lo.map iV) rfl (by simp) AT.out HON.out (by omega) (by simp) ?_; intro v1 w1 o1 g1 _ _; have b1 := Lib.hid (grown_below BA.out g1 ho0 (Nat.le_refl _)); clear g1 ho0 AT x0 x1 x2; rw [List.nil_append, Nat.zero_add] at o1; obtain ⟨Al, cl, rfl⟩ := row_form o1)
  have OL := Lib.hid (row_ints o1).lt
  have hz2 := Nat.le_of_eq HZ2.out
  have hz2' := Nat.le_of_eq HZ2.out.symm
  have hzb := b1.out.size
  clear o1
  have q3 := al1 w1 (.cells #[.slice Al lo.length cl, .slice none 0 0] 27)
  have ba := bal1 w1 (.cells #[.slice Al lo.length cl, .slice none 0 0] 27)
  have hzA : (w1.alloc (.cells #[.slice Al lo.length cl, .slice none 0 0] 27)).heap.size = w1.heap.size + 1 := by simp
  replace HB := Lib.hid (bstep (bstep HB.out b1.out) ba)
  replace HV := Lib.hid ((HV.out.on b1.out).on ba)
  replace Q0 := Lib.hid (box_on (box_on Q0.out b1.out) ba)
  replace Q1 := Lib.hid (box_on (box_on Q1.out b1.out) ba)
  replace OL := Lib.hid (OL.out.on ba)
  have Q3 := Lib.hid q3
  have HZA := Lib.hid hzA
  clear q3 ba b1 hzA
  go_upto_region 2 with (fail)
  generalize w1.alloc (.cells #[.slice Al lo.length cl, .slice none 0 0] 27) = W2 at *
  have hzA1 := Nat.le_of_eq HZA.out
  have hzA2 := Nat.le_of_eq HZA.out.symm
  have REL : Hid (NodesIn W2 w1.heap.size (.slice Al lo.length cl) ts 0 W2) := Lib.hid ⟨.slice none 0 0, [], row_nil _ _ _ _, by simpa using OwnsL.nil _ _, Q3.out, Below.refl _ _⟩
  go_wp2
  go_loopw [4] (fun i wr => ∃ k : Nat, k ≤ ts.length ∧ i = .int .i64 k ∧ Hid (NodesIn W2 w1.heap.size (.slice Al lo.length cl) ts k wr)) (fun i _ => ts.length - (intOf i).toNat)
  case atStart => exact ⟨0, Nat.zero_le _, rfl, REL⟩
  case round =>
    clear REL
    obtain ⟨k, hk, rfl, HC⟩ := hrel
    obtain ⟨u, xs, hr, ho, q3, hb⟩ := HC.out
    have q0 : wr.heap[w.heap.size]? = some (.cells #[.slice A lo.length c, .slice B ts.length d] 27) := (hb.block _ (by omega)).trans Q0.out
    obtain ⟨x0, x1, x2⟩ := box2 q0
    have hzW := hb.size
    have hbw : Below w.heap.size w wr := HB.out.trans (hb.mono (by omega))
    by_cases hlt : k < ts.length
    · obtain ⟨b, off, hBe, hb0, _⟩ := HV0.out.node hlt
      subst hBe
      obtain ⟨b', off', hbe, _, hc⟩ := (HV0.out.on hbw).node hlt
      cases hbe
      obtain ⟨A2, d2, c1, _, _, r1⟩ := hc k hlt
      obtain ⟨z0, z1, z2⟩ := box2 q3
      obtain ⟨Au, cu, rfl⟩ := row_form hr
      have hz3 := (Array.getElem?_eq_some_iff.1 q3).1
      have i1 : (k : Int) < (ts.length : Int) := by omega
      have i2 : (0 : Int) ≤ (k : Int) := by omega
      have hlk := Lib.hid (HS.out.at hlt)
      have n1 : ¬ w1.heap.size = w.heap.size := by omega
      have n2 : ¬ w.heap.size = w1.heap.size := by omega
      have R1 := Lib.hid r1
      have Q3 := Lib.hid q3
      have HR := Lib.hid hr
      have HO := Lib.hid ho
      have HX := Lib.hid hb
      clear hc q0 q3 hr ho hb r1 HC hbw
      go_wp2
      have hSW : NC2 w.heap.size b (off + k) (.slice (some ⟨b, off, none⟩) ts.length d) (.slice A2 (ts[k]).length d2) w1.heap.size (.slice Au k cu) wr.drew := ⟨x1, c1, z1⟩
      have hSV : NC2 w.heap.size b (off + k) (.slice (some ⟨b, off, none⟩) ts.length d) (.slice A2 (ts[k]).length d2) w1.heap.size (.slice Au k cu) wr := ⟨x1, c1, z1⟩
      refine but_begin (f := 11) (S := NC2 w.heap.size b (off + k) (.slice (some ⟨b, off, none⟩) ts.length d) (.slice A2 (ts[k]).length d2) w1.heap.size (.slice Au k cu)) (by kernel_rfl) ?_
      refine but_take (f := 11) (i := 0) (v := ?v0) rfl (by kernel_rfl) (by kernel_rfl) (by kernel_rfl) (by kernel_rfl) (by kernel_rfl) (fun _ _ _ h => h) (Or.inl ⟨by rfl, ?hy0⟩) hSW ?rest0
      case hy0 =>
        intro W hW
        obtain ⟨h1, h2, h3⟩ := hW
        go_simp
        exact rfl
      simp only [List.getElem_toArray, List.getElem_cons_succ, List.getElem_cons_zero, Act.put, List.setIfInBounds_toArray, List.set_cons_zero, List.set_cons_succ]
      refine but_take (f := 11) (i := 1) (v := ?v1) rfl (by kernel_rfl) (by kernel_rfl) (by kernel_rfl) (by kernel_rfl) (by kernel_rfl) (fun _ _ _ h => h) (Or.inl ⟨by rfl, ?hy1⟩) hSW ?rest1
      case hy1 =>
        intro W hW
        obtain ⟨h1, h2, h3⟩ := hW
        go_simp
        exact rfl
      simp only [List.getElem_toArray, List.getElem_cons_succ, List.getElem_cons_zero, Act.put, List.setIfInBounds_toArray, List.set_cons_zero, List.set_cons_succ]
      refine but_take (f := 11) (i := 2) (v := ?v2) rfl (by kernel_rfl) (by kernel_rfl) (by kernel_rfl) (by kernel_rfl) (by kernel_rfl) (fun _ _ _ h => h) (Or.inl ⟨by rfl, ?hy2⟩) hSW ?rest2
      case hy2 =>
        intro W hW
        obtain ⟨h1, h2, h3⟩ := hW
        go_simp
        exact rfl
      simp only [List.getElem_toArray, List.getElem_cons_succ, List.getElem_cons_zero, Act.put, List.setIfInBounds_toArray, List.set_cons_zero, List.set_cons_succ]
      refine but_take (f := 11) (i := 3) (v := ?v3) rfl (by kernel_rfl) (by kernel_rfl) (by kernel_rfl) (by kernel_rfl) (by kernel_rfl) (fun _ _ _ h => h) (Or.inl ⟨by rfl, ?hy3⟩) hSW ?rest3
      case hy3 =>
        intro W hW
        obtain ⟨h1, h2, h3⟩ := hW
        go_simp
        exact rfl
      simp only [List.getElem_toArray, List.getElem_cons_succ, List.getElem_cons_zero, Act.put, List.setIfInBounds_toArray, List.set_cons_zero, List.set_cons_succ]
      refine but_take (f := 11) (i := 4) (v := ?v4) rfl (by kernel_rfl) (by kernel_rfl) (by kernel_rfl) (by kernel_rfl) (by kernel_rfl) (fun _ _ _ h => h) (Or.inl ⟨by rfl, ?hy4⟩) hSW ?rest4
      case hy4 =>
        intro W hW
        obtain ⟨h1, h2, h3⟩ := hW
        go_simp
        exact rfl
      simp only [List.getElem_toArray, List.getElem_cons_succ, List.getElem_cons_zero, Act.put, List.setIfInBounds_toArray, List.set_cons_zero, List.set_cons_succ]
      refine but_take (f := 11) (i := 5) (v := ?v5) rfl (by kernel_rfl) (by kernel_rfl) (by kernel_rfl) (by kernel_rfl) (by kernel_rfl) (fun _ _ _ h => h) (Or.inl ⟨by rfl, ?hy5⟩) hSW ?rest5
      case hy5 =>
        intro W hW
        obtain ⟨h1, h2, h3⟩ := hW
        go_simp
        exact rfl
      simp only [List.getElem_toArray, List.getElem_cons_succ, List.getElem_cons_zero, Act.put, List.setIfInBounds_toArray, List.set_cons_zero, List.set_cons_succ]
      refine but_take (f := 11) (i := 6) (v := ?v6) rfl (by kernel_rfl) (by kernel_rfl) (by kernel_rfl) (by kernel_rfl) (by kernel_rfl) (fun _ _ _ h => h) (Or.inl ⟨by rfl, ?hy6⟩) hSW ?rest6
      case hy6 =>
        intro W hW
        obtain ⟨h1, h2, h3⟩ := hW
        go_simp
        exact rfl
      simp only [List.getElem_toArray, List.getElem_cons_succ, List.getElem_cons_zero, Act.put, List.setIfInBounds_toArray, List.set_cons_zero, List.set_cons_succ]
      refine but_run (i := 7) (by kernel_rfl) rfl (by rfl) ?_
      simp only [List.getElem_toArray, List.getElem_cons_succ, List.getElem_cons_zero]
      intro K_ HK
      go_wp2_with fail
      refine (l5Copy_any _ ts[k] _ (R1.out.on (Below.drew1 _)) hlk.out).mono ?_
      rintro e w6 ⟨v6, rfl, o6, b6'⟩
      obtain ⟨A6, c6, rfl, _, _⟩ := o6.reads.lenN
      have b6 : Below wr.heap.size wr w6 := bstep (Below.drew1 _) b6'
      have hS6 := hSV.on b6
      go_wp2_with fail
      refine HK.out _ _ (fun _ => hS6) ?_
      clear HK
      have B6 := Lib.hid b6
      have O6 : Hid (Owns w6 (fun b => wr.heap.size ≤ b) (.slice A6 (ts[k]).length c6) (setsD ts[k])) := Lib.hid o6
      clear o6 b6 b6'
      try simp only [Act.put, List.setIfInBounds_toArray, List.set_cons_zero, List.set_cons_succ]
      refine but_run (i := 8) (by kernel_rfl) rfl (by rfl) ?_
      simp only [List.getElem_toArray, List.getElem_cons_succ, List.getElem_cons_zero]
      intro K_ HK
      go_wp2
      have hS7 := hS6.on (bal1 w6 (.cells #[.slice A6 (ts[k]).length c6] 71))
      refine HK.out _ _ (fun _ => hS7) ?_
      clear HK
      have hz6 := B6.out.size
      refine but_run (i := 9) (by kernel_rfl) rfl (by rfl) ?_
      simp only [List.getElem_toArray, List.getElem_cons_succ, List.getElem_cons_zero]
      intro K_ HK
      refine operAppN _ (by rfl) (.tmp 18) (.tmp 25) 25 71 1 24 (.agg #[.slice none 0 0]) (by rfl) Tryz.underlying25 (by kernel_rfl) rfl (by omega) (by omega) (w1.heap.size + 1) k _ xs (by rfl) (row_on (row_on HR.out B6.out) (bal1 _ _)) _ 1 1 [.slice A6 (ts[k]).length c6] (by rfl) rfl (At.lit1 _ _ _) (by simp [Value.oneCell']) (by omega) (by simp; omega) ?_
      intro v8 w8 o8 g8 n8 at8
      have h8 := box_grown (box_on (box_on Q3.out B6.out) (bal1 _ _)) g8 (row_ne HR.out (by omega))
      have hS8 := hS7.grown g8 (row_ne HR.out (by omega)) (row_ne HR.out (by omega)) (row_ne HR.out (by omega))
      refine HK.out _ _ (fun _ => hS8) ?_
      clear HK
      have O8 := Lib.hid o8
      have G8 := Lib.hid g8
      have AT8 := Lib.hid at8
      obtain ⟨gv, cv, rfl⟩ := row_shape o8 (by omega)
      obtain ⟨f0, f1, f2⟩ := box2 h8
      have H8 := Lib.hid h8
      clear h8 o8 g8 at8 n8
      simp only [Act.put, List.setIfInBounds_toArray, List.set_cons_zero, List.set_cons_succ]
      refine but_run (i := 10) (by kernel_rfl) rfl (by rfl) ?_
      simp only [List.getElem_toArray, List.getElem_cons_succ, List.getElem_cons_zero]
      intro K_ HK
      go_wp2
      refine HK.out _ _ (fun _ => hS8) ?_
      clear HK
      refine but_run (i := 11) (by kernel_rfl) rfl (by rfl) ?_
      simp only [List.getElem_toArray, List.getElem_cons_succ, List.getElem_cons_zero]
      intro K_ HK
      go_wp2
      refine HK.out _ _ (fun h => (h rfl).elim) ?_
      clear HK
      have B7 := Lib.hid (bstep B6.out (bal1 w6 (.cells #[.slice A6 (ts[k]).length c6] 71)))
      have HX2 := Lib.hid (own_grow HR.out HO.out B7.out (OwnsL.one ((O6.out.on (bal1 _ (.cells #[.slice A6 (ts[k]).length c6] 71))).lt)) G8.out AT8.out (by omega))
      have HB8 : Hid (Below w1.heap.size W2 w8) := Lib.hid (((HX.out.trans (B7.out.mono (by omega))).grown G8.out (Nat.le_trans (Nat.le_trans (by omega) hzW) (Nat.le_trans (Nat.le_refl _) B7.out.size)) (fun k hk => by have := (row_lt (row_on HR.out B7.out) k hk).2; omega)))
      have NEW : Hid (NodesIn W2 w1.heap.size (.slice Al lo.length cl) ts (k + 1) (w8.setCell ⟨w1.heap.size, 1, none⟩ (.slice (some ⟨gv, 0, none⟩) (k + 1) cv))) := by
        refine Lib.hid ⟨_, _, row_keep O8.out (fun g hg => Below.heap_setCell _ _ _ _ (by have := (row_lt O8.out g hg).2; simp; omega)), ?_, box_set H8.out, HB8.out.setCell (p := ⟨w1.heap.size, 1, none⟩) (Nat.le_refl _) _⟩
        rw [List.take_succ_eq_append_getElem hlt, List.map_append]
        exact HX2.out.keep (fun b hb _ => Below.heap_setCell _ _ _ _ (by have := hb.1; simp; omega))
      clear HX2 HB8 O8 G8 AT8 H8 HR HO Q3 B7 B6 O6
      refine but_done (by kernel_rfl) ?_
      go_wp2
      go_roundw
      case rel => exact ⟨k + 1, by omega, by go_num, NEW⟩
      case measure => simp [intOf]; omega
    · have e : k = ts.length := by omega
      subst e
      rw [List.take_of_length_le (Nat.le_refl _)] at ho
      obtain ⟨Au, cu, rfl⟩ := row_form hr
      obtain ⟨z0, z1, z2⟩ := box2 q3
      have q1 : wr.heap[w.heap.size + 1]? = some (.cells #[.slice none 0 0, .slice none 0 0] 27) := (hb.block _ (by omega)).trans Q1.out
      obtain ⟨y0, y1, y2⟩ := box2 q1
      have hsec : Owns wr (fun b => w1.heap.size + 1 ≤ b) (.slice Au ts.length cu) (nodesD ts) := row_owns hr ho (by simp)
      have HSEC := Lib.hid hsec
      have HLW : Hid (Owns wr (fun b => W.heap.size ≤ b ∧ b < w1.heap.size) (.slice Al lo.length cl) (intsD lo)) := Lib.hid (OL.out.keep (fun b hb' _ => hb.block b hb'.2))
      have HBB := Lib.hid hbw
      have n3 : ¬ w1.heap.size = w.heap.size + 1 := by omega
      clear hsec ho hr q0 q1 q3 hb HC hbw
      go_wp2
      have HO : ∀ a b, Only (fun b => b = w.heap.size + 1) wr ((wr.setCell ⟨w.heap.size + 1, 0, none⟩ a).setCell ⟨w.heap.size + 1, 1, none⟩ b) := fun a b => only_two _ _ _ _ _ _
      refine bodyPost_ret (v := .agg #[.slice Al lo.length cl, .slice Au ts.length cu]) (by simp [results, Tryz.results45, go_sem, y0, y1, y2]) rfl ⟨_, _, rfl, ⟨fun b => W.heap.size ≤ b ∧ b < w1.heap.size, fun b => w1.heap.size + 1 ≤ b, fun b hb => by omega, fun b hb => by omega, fun b hb hb' => by omega, HLW.out.far (HO _ _) (fun b hb _ hb' => by omega), HSEC.out.far (HO _ _) (fun b hb _ hb' => by omega)⟩, HBB.out.trans ((HO _ _).below HBB.out.size (fun b hb => by omega))⟩
end Go.Proofs.YtkcafbdlealbpaaGreat
/- A node of a call's own in a box of its own: its elements read, one of them replaced, one more appended; impl.takesKey. Conditions: at most 2^20 keys. -/
namespace Go.Proofs.YtkcafbdlealbpaaGreat
open Go.RowKit
set_option maxRecDepth 100000
set_option linter.unusedSimpArgs false
set_option linter.unusedVariables false

/-- u is a row of sets in blocks from base on, none of them bo. -/
def NOwn (w : World) (base bo : Nat) (u : Value) (ns : List (List KeyD)) : Prop :=
  ∃ xs, w.ownsRow base 36 1 u ns.length xs ∧ OwnsL w (fun b => (base ≤ b ∧ b ≠ bo) ∧ u.ownBlock ≠ some b) xs (ns.map keysD) ∧ u.ownBlock ≠ some bo
theorem NOwn.of {w : World} {base : Nat} {u : Value} {ns : List (List KeyD)} (h : Owns w (fun b => base ≤ b) u (setsD ns)) (o : Obj) : NOwn (w.alloc o) base w.heap.size u ns := by
  rcases h.rw' with ⟨rfl, h0, hc⟩ | ⟨g, cap, xs, rfl, hS, hR, hn, hc, hl, hx, ho⟩
  · have : ns = [] := List.length_eq_zero_iff.1 h0
    subst this
    exact ⟨[], row_nil _ _ _ _, OwnsL.nil _ _, by simp [Value.ownBlock]⟩
  · have hlt := hR.lt
    refine ⟨xs, row_on (hR.row hS hn hc (by simpa using hx)) (bal1 _ _), ?_, by simp [Value.ownBlock]; omega⟩
    exact (ho.lt.on (bal1 w o)).mono (fun b hb => ⟨⟨hb.1.1, by omega⟩, fun e => hb.1.2 (by simp [Value.ownBlock] at e; exact e.symm)⟩)
theorem NOwn.on {w w' : World} {base bo : Nat} {u : Value} {ns : List (List KeyD)} (h : NOwn w base bo u ns) (hb : Below w.heap.size w w') : NOwn w' base bo u ns := by
  obtain ⟨xs, h1, h2, h3⟩ := h
  exact ⟨xs, row_on h1 hb, h2.on hb, h3⟩
theorem rowP_owns {P : Nat → Prop} {w : World} {base e z n : Nat} {v : Value} {xs : List Value} {cs : List Dat} (h : w.ownsRow base e z v n xs) (ho : OwnsL w (fun b => P b ∧ v.ownBlock ≠ some b) xs cs) (hP : ∀ g, v.ownBlock = some g → P g) (hl : cs.length = n * z) : Owns w P v (.row e z n cs) := by
  rcases row_cases h with ⟨rfl, rfl, rfl⟩ | ⟨g, cap, rfl, hb, hR, hn, hc, _⟩
  · have : cs = [] := List.length_eq_zero_iff.1 (by simpa using hl)
    subst this
    exact .nil _ _ _
  · exact hR.owns (hP g rfl) (ho.mono (fun b hb => ⟨hb.1, fun e => hb.2 (by rw [e]; rfl)⟩)) hn hc hl
theorem NOwn.owns {w : World} {base bo : Nat} {u : Value} {ns : List (List KeyD)} (h : NOwn w base bo u ns) : Owns w (fun b => base ≤ b ∧ b ≠ bo) u (setsD ns) := by
  obtain ⟨xs, h1, h2, h3⟩ := h
  exact rowP_owns h1 h2 (fun g hg => ⟨(row_lt h1 g hg).2, fun e => h3 (by rw [← e]; exact hg)⟩) (by simp)
theorem NOwn.form {w : World} {base bo : Nat} {u : Value} {ns : List (List KeyD)} (h : NOwn w base bo u ns) : ∃ A c, u = .slice A ns.length c := by
  obtain ⟨xs, h1, _, _⟩ := h
  exact row_form h1
theorem NOwn.elem {w : World} {base bo : Nat} {u : Value} {ns : List (List KeyD)} (h : NOwn w base bo u ns) {i : Nat} (hi : i < ns.length) :
    ∃ g cap A2 c2, u = .slice (some ⟨g, 0, none⟩) ns.length cap ∧ base ≤ g ∧ g ≠ bo ∧ g < w.heap.size ∧ w.cell? ⟨g, i, none⟩ = some (.slice A2 (ns[i]).length c2) ∧ (∀ o, w.frozen? ⟨g, o, none⟩ = false) ∧ Reads w w.heap.size (.slice A2 (ns[i]).length c2) (keysD ns[i]) := by
  obtain ⟨xs, h1, h2, h3⟩ := h
  rcases row_cases h1 with ⟨_, h0, _⟩ | ⟨g, cap, rfl, hb, hR, hn, hc, hx⟩
  · omega
  · have hxi : i < xs.length := by omega
    have hr := h2.reads.2 i hxi (by simpa using hi)
    rw [List.getElem_map] at hr
    have hcell := hR.cell hxi
    obtain ⟨A2, c2, e, _, _⟩ := hr.shapeK
    rw [e] at hr hcell
    exact ⟨g, cap, A2, c2, rfl, hb, fun e => h3 (by rw [← e]; rfl), hR.lt, hcell, fun o => hR.frozen o, hr⟩
theorem OwnsL.setN {w : World} {S T : Nat → Prop} {vs : List Value} {cs : List Dat} {i : Nat} {u : Value} {c : Dat} (h : OwnsL w S vs cs) (hu : Owns w T u c) (hd : ∀ b, S b → ¬ T b) : OwnsL w (fun b => S b ∨ T b) (vs.set i u) (cs.set i c) := by
  obtain ⟨hl, F, ho, hF, hj⟩ := h
  refine ⟨by simp [hl], fun j b => (j = i ∧ T b) ∨ (j ≠ i ∧ F j b), fun j a b => ?_, fun j b hb => ?_, fun j k b hjk hb hb' => ?_⟩
  · simp only [List.length_set] at a b
    by_cases hij : i = j
    · subst hij; rw [List.getElem_set_self, List.getElem_set_self]; exact hu.mono (fun b hb => .inl ⟨rfl, hb⟩)
    · rw [List.getElem_set_ne hij, List.getElem_set_ne hij]; exact (ho j a b).mono (fun b hb => .inr ⟨Ne.symm hij, hb⟩)
  · rcases hb with ⟨_, hb⟩ | ⟨_, hb⟩
    · exact .inr hb
    · exact .inl (hF j b hb)
  · rcases hb with ⟨h1, hb⟩ | ⟨h1, hb⟩ <;> rcases hb' with ⟨h2, hb'⟩ | ⟨h2, hb'⟩
    · omega
    · exact hd b (hF k b hb') hb
    · exact hd b (hF j b hb) hb'
    · exact hj j k b hjk hb hb'
theorem NOwn.put {w w' : World} {base bo g cap : Nat} {ns : List (List KeyD)} {x : Value} {l : List KeyD} {i : Nat} (h : NOwn w base bo (.slice (some ⟨g, 0, none⟩) ns.length cap) ns) (hi : i < ns.length) (hb : Below w.heap.size w w') (hx : RowK w' w.heap.size x l) (hbo : bo < w.heap.size) (hbase : base ≤ w.heap.size) :
    NOwn (w'.setCell ⟨g, i, none⟩ x) base bo (.slice (some ⟨g, 0, none⟩) ns.length cap) (ns.set i l) := by
  obtain ⟨xs, h1, h2, h3⟩ := h
  have hg := (row_lt h1 g rfl).1
  refine ⟨xs.set i x, ?_, ?_, h3⟩
  · have h := row_set (row_on h1 hb) i x
    rw [List.length_set]
    exact h
  · have k1 := (h2.lt.on hb).setN (i := i) hx.owns (fun b hb hb' => by have := hb.2; omega)
    rw [List.map_set]
    refine OwnsL.mono (k1.keep (w' := w'.setCell ⟨g, i, none⟩ x) (fun b hb _ => Below.heap_setCell _ _ _ _ ?_)) ?_
    · rintro rfl
      rcases hb with hb | hb
      · exact hb.1.2 rfl
      · omega
    · rintro b (hb | hb)
      · exact hb.1
      · exact ⟨⟨by omega, by omega⟩, by simp [Value.ownBlock]; omega⟩
theorem own_growN {P : Nat → Prop} {wr w7 w8 : World} {base e z n : Nat} {u v' : Value} {xs news : List Value} {cs ds : List Dat} (hr : wr.ownsRow base e z u n xs) (ho : OwnsL wr (fun b => P b ∧ u.ownBlock ≠ some b) xs cs) (b7 : Below wr.heap.size wr w7) (hn : OwnsL w7 (fun b => wr.heap.size ≤ b ∧ b < w7.heap.size) news ds)
    (hg : w7.grownBy w8 u.ownBlock) (hat : v'.ownBlock = u.ownBlock ∨ v'.ownBlock = some w7.heap.size) (hP : ∀ b, wr.heap.size ≤ b → P b) : OwnsL w8 (fun b => P b ∧ v'.ownBlock ≠ some b) (xs ++ news) (cs ++ ds) := by
  have hO : Only (fun b => u.ownBlock = some b) w7 w8 := ⟨hg.os, hg.tape, hg.output, hg.size, fun i hi hn => hg.block i hi (fun e => hn e.symm)⟩
  have hz7 := b7.size
  have k1 : OwnsL w8 (fun b => (P b ∧ u.ownBlock ≠ some b) ∧ b < wr.heap.size) xs cs := (ho.lt.on b7).far hO (fun b hb _ hb' => hb.1.2 hb')
  have k2 := hn.far hO (fun b hb _ hb' => by have := (row_lt hr b hb').1; have := hb.1; omega)
  refine k1.append k2 (fun b hb => ⟨hb.1.1, fun hv => ?_⟩) (fun b hb => ⟨hP b hb.1, fun hv => ?_⟩) (fun b hb hb' => by have := hb.2; have := hb'.1; omega)
  · rcases hat with h | h
    · exact hb.1.2 (h ▸ hv)
    · rw [h] at hv; simp at hv; have := hb.2; omega
  · rcases hat with h | h
    · have := (row_lt hr b (h ▸ hv)).1; have := hb.1; omega
    · rw [h] at hv; simp at hv; have := hb.2; omega
/-- One more set, of one key, and the row's new value stored into the box. -/
theorem NOwn.app {w w8 : World} {base bo : Nat} {u v8 : Value} {ns : List (List KeyD)} {xs : List Value} {k : KeyD} (h1 : w.ownsRow base 36 1 u ns.length xs) (h2 : OwnsL w (fun b => (base ≤ b ∧ b ≠ bo) ∧ u.ownBlock ≠ some b) xs (ns.map keysD)) (h3 : u.ownBlock ≠ some bo) (hbo : bo < w.heap.size) (hbase : base ≤ w.heap.size)
    (o8 : w8.ownsRow base 36 1 v8 (ns.length + 1) (xs ++ [.slice (some ⟨w.heap.size, 0, none⟩) 1 1])) (g8 : ((w.alloc (.cells #[.int .i64 k.a, .int .i64 k.b, .int .i64 k.c, .int .i64 k.d, .int .i64 k.e] 29)).alloc (.cells #[.slice (some ⟨w.heap.size, 0, none⟩) 1 1] 36)).grownBy w8 u.ownBlock)
    (hat : v8.ownBlock = u.ownBlock ∨ v8.ownBlock = some ((w.alloc (.cells #[.int .i64 k.a, .int .i64 k.b, .int .i64 k.c, .int .i64 k.d, .int .i64 k.e] 29)).alloc (.cells #[.slice (some ⟨w.heap.size, 0, none⟩) 1 1] 36)).heap.size) :
    NOwn (w8.setCell ⟨bo, 0, none⟩ v8) base bo v8 (ns ++ [[k]]) := by
  have hrow : RowK (w.alloc (.cells #[.int .i64 k.a, .int .i64 k.b, .int .i64 k.c, .int .i64 k.d, .int .i64 k.e] 29)) w.heap.size (.slice (some ⟨w.heap.size, 0, none⟩) 1 1) [k] :=
    ⟨kvl_len _, .inr ⟨w.heap.size, 1, _, rfl, Nat.le_refl _, heap_alloc_new w _, Nat.le_refl _, by unfold maxLen; omega, rfl, rfl⟩⟩
  have hn8 : v8.ownBlock ≠ some bo := by
    rcases hat with h | h
    · rw [h]; exact h3
    · rw [h]; simp; omega
  have k2 := own_growN (P := fun b => base ≤ b ∧ b ≠ bo) h1 h2 (bal2 _ _ _) (OwnsL.one ((hrow.owns.on (bal1 _ (.cells #[.slice (some ⟨w.heap.size, 0, none⟩) 1 1] 36))).lt)) g8 hat (fun b hb => ⟨by omega, by omega⟩)
  refine ⟨xs ++ [.slice (some ⟨w.heap.size, 0, none⟩) 1 1], ?_, ?_, hn8⟩
  · rw [List.length_append]
    exact row_keep o8 (fun g hg => Below.heap_setCell _ _ _ _ (fun e => hn8 (by have e' : g = bo := e; rw [← e']; exact hg)))
  · rw [List.map_append]
    exact k2.keep (fun b hb _ => Below.heap_setCell _ _ _ _ hb.1.2)
set_option maxHeartbeats 1000000 in
theorem takesKey_any (v : Value) (l : List KeyD) (x : KeyD) (w : World) (hv : Reads w w.heap.size v (keysD l)) (hn : l.length ≤ 1100000) : Calls Tryz.prog 142 #[v, x.v] w (SaysBool w (takesB l x)) := by
  obtain ⟨A, c, rfl, _, _⟩ := hv.shapeK
  have B0 := bal1 w (.cells #[.int .i64 x.a, .int .i64 x.b, .int .i64 x.c, .int .i64 x.d, .int .i64 x.e] 29)
  have HV := Lib.hid (hv.on B0)
  have HB := Lib.hid B0
  have HI := Lib.hid implSetAt_any
  unfold SaysFind KeyD.v keyV at HI
  unfold KeyD.v keyV
  obtain ⟨y, hy⟩ : ∃ y, (atK l x.a x.b).isSome = y := ⟨_, rfl⟩
  have hT : takesB l x = (y || decide (l.length < 4)) := by rw [takesB, hy]
  rw [hT]
  have HY := Lib.hid hy
  clear hv B0 hy hT
  go_enter Tryz.func142, Tryz.ntmps142
  go_wp2_with fail
  refine (HI.out _ l x.a x.b _ HV.out (by omega)).mono ?_
  rintro r w1 ⟨rfl, b1⟩
  rw [HY.out]
  generalize (atK l x.a x.b).getD zK = z
  have B2 := Lib.hid (bstep (bstep HB.out b1) (bal1 w1 (.cells #[.int .i64 z.a, .int .i64 z.b, .int .i64 z.c, .int .i64 z.d, .int .i64 z.e] 29)))
  clear b1
  cases y
  · have hd : decide ((l.length : Int) < 4) = decide (l.length < 4) := by congr 1; simp; omega
    go_wp2
    go_ret
    exact ⟨ret_boolB (by simp), B2.out⟩
  · go_wp2
    go_ret
    exact ⟨ret_boolB rfl, B2.out⟩
end Go.Proofs.YtkcafbdlealbpaaGreat
/- Contracts of spec.TreePack and impl.TreePack. Conditions: at most 2^20 bounds, nodes, sets and keys. -/
namespace Go.Proofs.YtkcafbdlealbpaaGreat
open Go.RowKit
set_option maxRecDepth 100000
set_option linter.unusedSimpArgs false
set_option linter.unusedVariables false
def treePackK (ts : List NodeD) (p : Int) : List NodeD := if 0 ≤ p ∧ p < (ts.length : Int) then ts.set p.toNat (nodePackK (ts.getD p.toNat [])) else ts
theorem nodePack_size (ns : NodeD) : (nodePackK ns).length + sumN (nodePackK ns) ≤ ns.length + sumN ns := by
  unfold nodePackK
  rw [sum_new]
  have h1 := nodeKeys_len ns
  unfold nodeNewK
  split
  · simp; omega
  · rename_i h
    have : ns ≠ [] := by rintro rfl; exact h rfl
    have := List.length_pos_iff.2 this
    simp; omega
theorem sumT_set (ts : List NodeD) (i : Nat) (n : NodeD) (h : i < ts.length) : sumT (ts.set i n) + ((ts[i]).length + sumN ts[i]) = sumT ts + (n.length + sumN n) := by
  induction ts generalizing i with
  | nil => simp at h
  | cons a ts ih =>
    cases i with
    | zero => simp only [List.set_cons_zero, sumT_cons, List.getElem_cons_zero]; omega
    | succ i =>
      have := ih i (by simpa using h)
      simp only [List.set_cons_succ, sumT_cons, List.getElem_cons_succ]; omega
theorem treePack_small (ts : List NodeD) (p : Int) : (treePackK ts p).length = ts.length ∧ sumT (treePackK ts p) ≤ sumT ts := by
  unfold treePackK
  split
  · rename_i h
    have hlt : p.toNat < ts.length := by omega
    have h1 := sumT_set ts p.toNat (nodePackK (ts.getD p.toNat [])) hlt
    have h2 := nodePack_size (ts.getD p.toNat [])
    rw [getD_node hlt] at h1 h2 ⊢
    exact ⟨by simp, by omega⟩
  · exact ⟨rfl, Nat.le_refl _⟩
theorem Owns.setNode {w w' : World} {S : Nat → Prop} {g cap : Nat} {ts : List NodeD} {i : Nat} {x : Value} {ns : NodeD} (h : Owns w S (.slice (some ⟨g, 0, none⟩) ts.length cap) (nodesD ts)) (hb : Below w.heap.size w w') (hx : Owns w' (fun b => w.heap.size ≤ b) x (setsD ns)) :
    Owns (w'.setCell ⟨g, i, none⟩ x) (fun b => S b ∨ w.heap.size ≤ b) (.slice (some ⟨g, 0, none⟩) ts.length cap) (nodesD (ts.set i ns)) := by
  rcases h.rw' with ⟨hv, _⟩ | ⟨g', cap', xs, hv, hS, hR, hn, hc, hl, hx', ho⟩
  · cases hv
  · cases hv
    have hg := hR.lt
    have hR2 := (hR.keep (hb.block g hg)).set i x
    have k1 := (ho.lt.on hb).setN (i := i) hx (fun b hb hb' => by have := hb.2; omega)
    have k2 : OwnsL (w'.setCell ⟨g, i, none⟩ x) (fun b => (S b ∨ w.heap.size ≤ b) ∧ b ≠ g) (xs.set i x) ((ts.set i ns).map setsD) := by
      rw [List.map_set]
      refine OwnsL.mono (k1.keep (w' := w'.setCell ⟨g, i, none⟩ x) (fun b hb _ => Below.heap_setCell _ _ _ _ ?_)) ?_
      · rcases hb with hb | hb
        · exact hb.1.2
        · simp; omega
      · rintro b (hb | hb)
        · exact ⟨.inl hb.1.1, hb.1.2⟩
        · exact ⟨.inr hb, by omega⟩
    have h5 := hR2.owns (S := fun b => S b ∨ w.heap.size ≤ b) (.inl hS) k2 hn hc (by simp)
    unfold nodesD
    rw [List.length_set]
    exact h5
theorem Owns.nodeRow {w : World} {S : Nat → Prop} {A : Option Addr} {n cap : Nat} {ts : List NodeD} (h : Owns w S (.slice A n cap) (nodesD ts)) {i : Nat} (hi : i < ts.length) : ∃ g x, A = some ⟨g, 0, none⟩ ∧ S g ∧ g < w.heap.size ∧ w.cell? ⟨g, i, none⟩ = some x ∧ ∀ o, w.frozen? ⟨g, o, none⟩ = false := by
  rcases h.rw' with ⟨_, h0, _⟩ | ⟨g', cap', xs, hv, hS, hR, hn, hc, hl, hx', ho⟩
  · omega
  · cases hv
    exact ⟨g', _, rfl, hS, hR.lt, hR.cell (by rw [hx']; simpa using hi), fun o => hR.frozen o⟩
set_option maxHeartbeats 8000000 in
theorem specTreePack_any (vl vn : Value) (lo : List Int) (ts : List NodeD) (p : Int) (w : World) (hv : RdT w w.heap.size vl vn lo ts) (hs : SmallT lo ts) (hn : sumT ts ≤ 1048576) : Calls Tryz.prog 26 #[.agg #[vl, vn], .int .i64 p] w (NewTS w lo (treePackK ts p)) := by
  obtain ⟨A, c, B, d, rfl, rfl⟩ := hv.shape
  have HS := Lib.hid hs
  have s1 := hs.1
  have s2 := hs.2.1
  obtain ⟨q0, q1⟩ := al2 w (.cells #[.slice A lo.length c, .slice B ts.length d] 27) (.cells #[.slice none 0 0, .slice none 0 0] 27)
  have hb2 := bal2 w (.cells #[.slice A lo.length c, .slice B ts.length d] 27) (.cells #[.slice none 0 0, .slice none 0 0] 27)
  have hz2 : ((w.alloc (.cells #[.slice A lo.length c, .slice B ts.length d] 27)).alloc (.cells #[.slice none 0 0, .slice none 0 0] 27)).heap.size = w.heap.size + 2 := by simp
  have HV := Lib.hid (hv.on hb2)
  have HB := Lib.hid hb2
  have Q0 := Lib.hid q0
  have Q1 := Lib.hid q1
  have HZ2 := Lib.hid hz2
  have HIN : Hid (0 ≤ p ∧ p < (ts.length : Int) → treePackK ts p = ts.set p.toNat (nodePackK (ts.getD p.toNat []))) := Lib.hid (fun h => if_pos h)
  have HOUT : Hid (¬ (0 ≤ p ∧ p < (ts.length : Int)) → treePackK ts p = ts) := Lib.hid (fun h => if_neg h)
  generalize treePackK ts p = rt at *
  clear hv hs q0 q1 hb2 hz2
  go_enter Tryz.func26, Tryz.ntmps26
  go_upto_region 1 with (fail)
  generalize (w.alloc (.cells #[.slice A lo.length c, .slice B ts.length d] 27)).alloc (.cells #[.slice none 0 0, .slice none 0 0] 27) = W at *
  have hz2 := Nat.le_of_eq HZ2.out
  have hz3 := Nat.le_of_eq HZ2.out.symm
  obtain ⟨x0, x1, x2⟩ := box2 Q0.out
  go_wp2_with fail
  refine (l6Copy_any _ _ lo ts _ HV.out HS.out).mono ?_
  rintro e w1 ⟨vl1, vn1, rfl, o1, b1⟩
  obtain ⟨A1, c1, B1, d1, rfl, rfl⟩ := o1.reads.shape
  clear x0 x1 x2
  have ba := bal1 w1 (.cells #[.slice A1 lo.length c1, .slice B1 ts.length d1] 27)
  have q5 := al1 w1 (.cells #[.slice A1 lo.length c1, .slice B1 ts.length d1] 27)
  have hzA : (w1.alloc (.cells #[.slice A1 lo.length c1, .slice B1 ts.length d1] 27)).heap.size = w1.heap.size + 1 := by simp
  have O1 := Lib.hid (o1.lt.on ba)
  replace HV := Lib.hid ((HV.out.on b1).on ba)
  replace HB := Lib.hid (bstep (bstep HB.out b1) ba)
  replace Q0 := Lib.hid (box_on (box_on Q0.out b1) ba)
  replace Q1 := Lib.hid (box_on (box_on Q1.out b1) ba)
  have Q5 := Lib.hid q5
  have hb1 := b1.size
  have HZA := Lib.hid hzA
  clear o1 b1 ba q5 hzA
  go_upto_region 2 with (fail)
  generalize w1.alloc (.cells #[.slice A1 lo.length c1, .slice B1 ts.length d1] 27) = W2 at *
  have hy1 := Nat.le_of_eq HZA.out
  have hy2 := Nat.le_of_eq HZA.out.symm
  obtain ⟨x0, x1, x2⟩ := box2 Q0.out
  go_wp2_with fail
  refine (l1In_any p 0 ((ts.length : Int) - 1) _).mono ?_
  rintro e w2 ⟨rfl, rfl⟩
  by_cases hin : 0 ≤ p ∧ p < (ts.length : Int)
  · have hrt := HIN.out hin
    obtain ⟨i, rfl⟩ := Int.eq_ofNat_of_zero_le hin.1
    have hlt : i < ts.length := by have := hin.2; omega
    have d1' : (decide ((0 : Int) ≤ (i : Int)) && decide ((i : Int) ≤ (ts.length : Int) - 1)) = true := by simp; omega
    rw [d1']
    rw [show ((i : Int)).toNat = i from rfl, getD_node hlt] at hrt
    have HRT := Lib.hid hrt
    obtain ⟨P, R, hP, hR, hPR, ol, on⟩ := O1.out
    obtain ⟨g, x, hg0, hRg, hgl, gc, gf⟩ := on.nodeRow hlt
    subst hg0
    obtain ⟨b, off, hbe, hbb, hc⟩ := HV.out.2.node hlt
    subst hbe
    obtain ⟨A2, d2, e1, _, _, r1⟩ := hc i hlt
    have hsm := sumT_mem (List.getElem_mem hlt)
    have i1 : (i : Int) < (ts.length : Int) := by omega
    have i2 : (0 : Int) ≤ (i : Int) := by omega
    have hRg2 := hR g hRg
    have hn5 : ¬ g = w1.heap.size := by omega
    have R1 := Lib.hid r1
    have OL := Lib.hid ol
    have ON := Lib.hid on
    have HG := Lib.hid (And.intro gc gf)
    clear hc r1 ol on gc gf hrt d1' hin x0 x1 x2
    obtain ⟨x0, x1, x2⟩ := box2 Q0.out
    obtain ⟨y0, y1, y2⟩ := box2 Q5.out
    go_wp2
    have hSW : NC2 w.heap.size b (off + i) (.slice (some ⟨b, off, none⟩) ts.length d) (.slice A2 (ts[i]).length d2) w1.heap.size (.slice (some ⟨g, 0, none⟩) ts.length d1) W2.drew := ⟨x1, e1, y1⟩
    have hSV : NC2 w.heap.size b (off + i) (.slice (some ⟨b, off, none⟩) ts.length d) (.slice A2 (ts[i]).length d2) w1.heap.size (.slice (some ⟨g, 0, none⟩) ts.length d1) W2 := ⟨x1, e1, y1⟩
    refine but_begin (f := 10) (S := NC2 w.heap.size b (off + i) (.slice (some ⟨b, off, none⟩) ts.length d) (.slice A2 (ts[i]).length d2) w1.heap.size (.slice (some ⟨g, 0, none⟩) ts.length d1)) (by kernel_rfl) ?_
    refine but_take (f := 10) (i := 0) (v := ?v0) rfl (by kernel_rfl) (by kernel_rfl) (by kernel_rfl) (by kernel_rfl) (by kernel_rfl) (fun _ _ _ h => h) (Or.inl ⟨by rfl, ?hy0⟩) hSW ?rest0
    case hy0 =>
      intro W hW
      obtain ⟨h1, h2, h3⟩ := hW
      go_simp
      exact rfl
    simp only [List.getElem_toArray, List.getElem_cons_succ, List.getElem_cons_zero, Act.put, List.setIfInBounds_toArray, List.set_cons_zero, List.set_cons_succ]
    refine but_take (f := 10) (i := 1) (v := ?v1) rfl (by kernel_rfl) (by kernel_rfl) (by kernel_rfl) (by kernel_rfl) (by kernel_rfl) (fun _ _ _ h => h) (Or.inl ⟨by rfl, ?hy1⟩) hSW ?rest1
    case hy1 =>
      intro W hW
      obtain ⟨h1, h2, h3⟩ := hW
      go_simp
      exact rfl
    simp only [List.getElem_toArray, List.getElem_cons_succ, List.getElem_cons_zero, Act.put, List.setIfInBounds_toArray, List.set_cons_zero, List.set_cons_succ]
    refine but_take (f := 10) (i := 2) (v := ?v2) rfl (by kernel_rfl) (by kernel_rfl) (by kernel_rfl) (by kernel_rfl) (by kernel_rfl) (fun _ _ _ h => h) (Or.inl ⟨by rfl, ?hy2⟩) hSW ?rest2
    case hy2 =>
      intro W hW
      obtain ⟨h1, h2, h3⟩ := hW
      go_simp
      exact rfl
    simp only [List.getElem_toArray, List.getElem_cons_succ, List.getElem_cons_zero, Act.put, List.setIfInBounds_toArray, List.set_cons_zero, List.set_cons_succ]
    refine but_take (f := 10) (i := 3) (v := ?v3) rfl (by kernel_rfl) (by kernel_rfl) (by kernel_rfl) (by kernel_rfl) (by kernel_rfl) (fun _ _ _ h => h) (Or.inl ⟨by rfl, ?hy3⟩) hSW ?rest3
    case hy3 =>
      intro W hW
      obtain ⟨h1, h2, h3⟩ := hW
      go_simp
      exact rfl
    simp only [List.getElem_toArray, List.getElem_cons_succ, List.getElem_cons_zero, Act.put, List.setIfInBounds_toArray, List.set_cons_zero, List.set_cons_succ]
    refine but_take (f := 10) (i := 4) (v := ?v4) rfl (by kernel_rfl) (by kernel_rfl) (by kernel_rfl) (by kernel_rfl) (by kernel_rfl) (fun _ _ _ h => h) (Or.inl ⟨by rfl, ?hy4⟩) hSW ?rest4
    case hy4 =>
      intro W hW
      obtain ⟨h1, h2, h3⟩ := hW
      go_simp
      exact rfl
    simp only [List.getElem_toArray, List.getElem_cons_succ, List.getElem_cons_zero, Act.put, List.setIfInBounds_toArray, List.set_cons_zero, List.set_cons_succ]
    refine but_take (f := 10) (i := 5) (v := ?v5) rfl (by kernel_rfl) (by kernel_rfl) (by kernel_rfl) (by kernel_rfl) (by kernel_rfl) (fun _ _ _ h => h) (Or.inl ⟨by rfl, ?hy5⟩) hSW ?rest5
    case hy5 =>
      intro W hW
      obtain ⟨h1, h2, h3⟩ := hW
      go_simp
      exact rfl
    simp only [List.getElem_toArray, List.getElem_cons_succ, List.getElem_cons_zero, Act.put, List.setIfInBounds_toArray, List.set_cons_zero, List.set_cons_succ]
    refine but_take (f := 10) (i := 6) (v := ?v6) rfl (by kernel_rfl) (by kernel_rfl) (by kernel_rfl) (by kernel_rfl) (by kernel_rfl) (fun _ _ _ h => h) (Or.inl ⟨by rfl, ?hy6⟩) hSW ?rest6
    case hy6 =>
      intro W hW
      obtain ⟨h1, h2, h3⟩ := hW
      go_simp
      exact rfl
    simp only [List.getElem_toArray, List.getElem_cons_succ, List.getElem_cons_zero, Act.put, List.setIfInBounds_toArray, List.set_cons_zero, List.set_cons_succ]
    refine but_take (f := 10) (i := 7) (v := ?v7) rfl (by kernel_rfl) (by kernel_rfl) (by kernel_rfl) (by kernel_rfl) (by kernel_rfl) (fun _ _ _ h => h) (Or.inl ⟨by rfl, ?hy7⟩) hSW ?rest7
    case hy7 =>
      intro W hW
      obtain ⟨h1, h2, h3⟩ := hW
      go_simp
      exact rfl
    simp only [List.getElem_toArray, List.getElem_cons_succ, List.getElem_cons_zero, Act.put, List.setIfInBounds_toArray, List.set_cons_zero, List.set_cons_succ]
    refine but_run (i := 8) (by kernel_rfl) rfl (by rfl) ?_
    simp only [List.getElem_toArray, List.getElem_cons_succ, List.getElem_cons_zero]
    intro K_ HK
    go_wp2_with fail
    refine (specNodePack_any _ ts[i] _ (R1.out.on (Below.drew1 _)) (by omega) (by omega)).mono ?_
    rintro e w6 ⟨v6, rfl, o6, b6'⟩
    obtain ⟨A6, c6, rfl, _, _⟩ := o6.reads.lenN
    have b6 : Below W2.heap.size W2 w6 := bstep (Below.drew1 _) b6'
    have hS6 := hSV.on b6
    go_wp2_with fail
    refine HK.out _ _ (fun _ => hS6) ?_
    clear HK
    have B6 := Lib.hid b6
    have O6 : Hid (Owns w6 (fun b => W2.heap.size ≤ b) (.slice A6 (nodePackK ts[i]).length c6) (setsD (nodePackK ts[i]))) := Lib.hid o6
    clear o6 b6 b6'
    try simp only [Act.put, List.setIfInBounds_toArray, List.set_cons_zero, List.set_cons_succ]
    refine but_run (i := 9) (by kernel_rfl) rfl (by rfl) ?_
    simp only [List.getElem_toArray, List.getElem_cons_succ, List.getElem_cons_zero]
    intro K_ HK
    go_wp2
    refine HK.out _ _ (fun _ => hS6) ?_
    clear HK
    have g1 : w6.cell? ⟨g, i, none⟩ = some x := ((bcell B6.out).1 g i hgl).trans HG.out.1
    have g2 : ∀ o, w6.frozen? ⟨g, o, none⟩ = false := fun o => ((bcell B6.out).2 g o hgl).trans (HG.out.2 o)
    refine but_run (i := 10) (by kernel_rfl) rfl (by rfl) ?_
    simp only [List.getElem_toArray, List.getElem_cons_succ, List.getElem_cons_zero]
    intro K_ HK
    go_wp2
    refine HK.out _ _ (fun h => (h rfl).elim) ?_
    clear HK
    refine but_done (by kernel_rfl) ?_
    have hz6 := B6.out.size
    have ON2 := Lib.hid (Owns.setNode (i := i) ON.out B6.out O6.out)
    have OL2 := Lib.hid ((OL.out.on B6.out).keep (w' := w6.setCell ⟨g, i, none⟩ (.slice A6 (nodePackK ts[i]).length c6)) (fun b hb _ => Below.heap_setCell _ _ _ _ (fun e => hPR b hb (by have e' : b = g := e; rw [e']; exact hRg))))
    have P0 := Lib.hid (box_far (j := i) (u := .slice A6 (nodePackK ts[i]).length c6) (box_on Q1.out B6.out) (show w.heap.size + 1 ≠ g by omega))
    have P5 := Lib.hid (box_far (j := i) (u := .slice A6 (nodePackK ts[i]).length c6) (box_on Q5.out B6.out) (show w1.heap.size ≠ g by omega))
    have BB := Lib.hid ((bstep HB.out B6.out).setCell (p := ⟨g, i, none⟩) (show w.heap.size ≤ g by omega) (.slice A6 (nodePackK ts[i]).length c6))
    have hz7 : (w6.setCell ⟨g, i, none⟩ (.slice A6 (nodePackK ts[i]).length c6)).heap.size = w6.heap.size := by simp
    clear HG g1 g2 ON OL O6 hS6 hSW hSV x0 x1 x2 y0 y1 y2 e1 Q0 Q1 Q5 HV
    generalize w6.setCell ⟨g, i, none⟩ (.slice A6 (nodePackK ts[i]).length c6) = W7 at *
    obtain ⟨x0, x1, x2⟩ := box2 P0.out
    obtain ⟨y0, y1, y2⟩ := box2 P5.out
    have n3 : ¬ w1.heap.size = w.heap.size + 1 := by omega
    go_wp2
    have HO : ∀ a b, Only (fun b => b = w.heap.size + 1) W7 ((W7.setCell ⟨w.heap.size + 1, 0, none⟩ a).setCell ⟨w.heap.size + 1, 1, none⟩ b) := fun a b => only_two _ _ _ _ _ _
    refine bodyPost_ret (v := .agg #[.slice A1 lo.length c1, .slice (some ⟨g, 0, none⟩) ts.length d1]) (by simp [results, Tryz.results26, go_sem, x0, x1, x2]) rfl ⟨_, _, rfl, ⟨P, fun b => R b ∨ W2.heap.size ≤ b, fun b hb => by have := hP b hb; omega, fun b hb => by rcases hb with hb | hb; (have := hR b hb; omega); omega, fun b hb hb' => by rcases hb' with hb' | hb'; (exact hPR b hb hb'); (have := hP b hb; omega), OL2.out.far (HO _ _) (fun b hb _ hb' => by have := hP b hb; omega), ?_⟩, BB.out.trans ((HO _ _).below BB.out.size (fun b hb => by omega))⟩
    rw [HRT.out]
    exact ON2.out.far (HO _ _) (fun b hb _ hb' => by rcases hb with hb | hb; (have := hR b hb; omega); omega)
  · have hrt := HOUT.out hin
    have d2' : (decide ((0 : Int) ≤ p) && decide (p ≤ (ts.length : Int) - 1)) = false := by
      rcases Int.lt_or_le p 0 with h | h
      · rw [decide_eq_false (by omega)]; rfl
      · rw [decide_eq_false (show ¬ p ≤ (ts.length : Int) - 1 by omega), Bool.and_false]
    rw [d2']
    have HRT := Lib.hid hrt
    clear hin hrt d2' x0 x1 x2
    obtain ⟨x0, x1, x2⟩ := box2 Q1.out
    obtain ⟨y0, y1, y2⟩ := box2 Q5.out
    have n3 : ¬ w1.heap.size = w.heap.size + 1 := by omega
    go_wp2
    have HO : ∀ a b, Only (fun b => b = w.heap.size + 1) W2 ((W2.setCell ⟨w.heap.size + 1, 0, none⟩ a).setCell ⟨w.heap.size + 1, 1, none⟩ b) := fun a b => only_two _ _ _ _ _ _
    have h9 := (O1.out.keep (w' := (W2.setCell ⟨w.heap.size + 1, 0, none⟩ (.slice A1 lo.length c1)).setCell ⟨w.heap.size + 1, 1, none⟩ (.slice B1 ts.length d1)) (fun b hb hl => (HO _ _).block b hl (fun e => by omega))).mono (T := fun b => w.heap.size ≤ b) (fun b hb => by omega)
    exact bodyPost_ret (v := .agg #[.slice A1 lo.length c1, .slice B1 ts.length d1]) (by simp [results, Tryz.results26, go_sem, x0, x1, x2]) rfl ⟨_, _, rfl, by rw [HRT.out]; exact h9, HB.out.trans ((HO _ _).below HB.out.size (fun b hb => by omega))⟩
set_option maxHeartbeats 8000000 in
theorem implTreePack_any (vl vn : Value) (lo : List Int) (ts : List NodeD) (p : Int) (w : World) (hv : RdT w w.heap.size vl vn lo ts) (hs : SmallT lo ts) (hn : sumT ts ≤ 1048576) : Calls Tryz.prog 25 #[.agg #[vl, vn], .int .i64 p] w (NewTS w lo (treePackK ts p)) := by
  obtain ⟨A, c, B, d, rfl, rfl⟩ := hv.shape
  have HS := Lib.hid hs
  have s1 := hs.1
  have s2 := hs.2.1
  obtain ⟨q0, q1⟩ := al2 w (.cells #[.slice A lo.length c, .slice B ts.length d] 27) (.cells #[.slice none 0 0, .slice none 0 0] 27)
  have hb2 := bal2 w (.cells #[.slice A lo.length c, .slice B ts.length d] 27) (.cells #[.slice none 0 0, .slice none 0 0] 27)
  have hz2 : ((w.alloc (.cells #[.slice A lo.length c, .slice B ts.length d] 27)).alloc (.cells #[.slice none 0 0, .slice none 0 0] 27)).heap.size = w.heap.size + 2 := by simp
  have HV := Lib.hid (hv.on hb2)
  have HB := Lib.hid hb2
  have Q0 := Lib.hid q0
  have Q1 := Lib.hid q1
  have HZ2 := Lib.hid hz2
  have HIN : Hid (0 ≤ p ∧ p < (ts.length : Int) → treePackK ts p = ts.set p.toNat (nodePackK (ts.getD p.toNat []))) := Lib.hid (fun h => if_pos h)
  have HOUT : Hid (¬ (0 ≤ p ∧ p < (ts.length : Int)) → treePackK ts p = ts) := Lib.hid (fun h => if_neg h)
  generalize treePackK ts p = rt at *
  clear hv hs q0 q1 hb2 hz2
  go_enter Tryz.func25, Tryz.ntmps25
  go_upto_region 1 with (fail)
  generalize (w.alloc (.cells #[.slice A lo.length c, .slice B ts.length d] 27)).alloc (.cells #[.slice none 0 0, .slice none 0 0] 27) = W at *
  have hz2 := Nat.le_of_eq HZ2.out
  have hz3 := Nat.le_of_eq HZ2.out.symm
  obtain ⟨x0, x1, x2⟩ := box2 Q0.out
  go_wp2_with fail
  refine (copyTree_any _ _ lo ts _ HV.out HS.out).mono ?_
  rintro e w1 ⟨vl1, vn1, rfl, o1, b1⟩
  obtain ⟨A1, c1, B1, d1, rfl, rfl⟩ := o1.reads.shape
  clear x0 x1 x2
  have ba := bal1 w1 (.cells #[.slice A1 lo.length c1, .slice B1 ts.length d1] 27)
  have q5 := al1 w1 (.cells #[.slice A1 lo.length c1, .slice B1 ts.length d1] 27)
  have hzA : (w1.alloc (.cells #[.slice A1 lo.length c1, .slice B1 ts.length d1] 27)).heap.size = w1.heap.size + 1 := by simp
  have O1 := Lib.hid (o1.lt.on ba)
  replace HV := Lib.hid ((HV.out.on b1).on ba)
  replace HB := Lib.hid (bstep (bstep HB.out b1) ba)
  replace Q0 := Lib.hid (box_on (box_on Q0.out b1) ba)
  replace Q1 := Lib.hid (box_on (box_on Q1.out b1) ba)
  have Q5 := Lib.hid q5
  have hb1 := b1.size
  have HZA := Lib.hid hzA
  clear o1 b1 ba q5 hzA
  go_upto_region 2 with (fail)
  generalize w1.alloc (.cells #[.slice A1 lo.length c1, .slice B1 ts.length d1] 27) = W2 at *
  have hy1 := Nat.le_of_eq HZA.out
  have hy2 := Nat.le_of_eq HZA.out.symm
  obtain ⟨x0, x1, x2⟩ := box2 Q0.out
  go_wp2_with fail
  refine (hasNode_any _ _ lo ts p _ HV.out (by omega)).mono ?_
  rintro e W3 ⟨rfl, b3⟩
  replace HV := Lib.hid (HV.out.on b3)
  replace HB := Lib.hid (bstep HB.out b3)
  replace Q0 := Lib.hid (box_on Q0.out b3)
  replace Q1 := Lib.hid (box_on Q1.out b3)
  replace Q5 := Lib.hid (box_on Q5.out b3)
  replace O1 := Lib.hid (O1.out.on b3)
  have hy3 := b3.size
  clear b3 HZA
  obtain ⟨W2, rfl⟩ : ∃ W, W = W3 := ⟨_, rfl⟩
  by_cases hin : 0 ≤ p ∧ p < (ts.length : Int)
  · have hrt := HIN.out hin
    obtain ⟨i, rfl⟩ := Int.eq_ofNat_of_zero_le hin.1
    have hlt : i < ts.length := by have := hin.2; omega
    have d1' : (decide ((0 : Int) ≤ (i : Int)) && decide ((i : Int) < (ts.length : Int))) = true := by simp; omega
    rw [d1']
    rw [show ((i : Int)).toNat = i from rfl, getD_node hlt] at hrt
    have HRT := Lib.hid hrt
    obtain ⟨P, R, hP, hR, hPR, ol, on⟩ := O1.out
    obtain ⟨g, x, hg0, hRg, hgl, gc, gf⟩ := on.nodeRow hlt
    subst hg0
    obtain ⟨b, off, hbe, hbb, hc⟩ := HV.out.2.node hlt
    subst hbe
    obtain ⟨A2, d2, e1, _, _, r1⟩ := hc i hlt
    have hsm := sumT_mem (List.getElem_mem hlt)
    have i1 : (i : Int) < (ts.length : Int) := by omega
    have i2 : (0 : Int) ≤ (i : Int) := by omega
    have hRg2 := hR g hRg
    have hn5 : ¬ g = w1.heap.size := by omega
    have R1 := Lib.hid r1
    have OL := Lib.hid ol
    have ON := Lib.hid on
    have HG := Lib.hid (And.intro gc gf)
    clear hc r1 ol on gc gf hrt d1' hin x0 x1 x2
    obtain ⟨x0, x1, x2⟩ := box2 Q0.out
    obtain ⟨y0, y1, y2⟩ := box2 Q5.out
    go_wp2
    have hSW : NC2 w.heap.size b (off + i) (.slice (some ⟨b, off, none⟩) ts.length d) (.slice A2 (ts[i]).length d2) w1.heap.size (.slice (some ⟨g, 0, none⟩) ts.length d1) W2.drew := ⟨x1, e1, y1⟩
    have hSV : NC2 w.heap.size b (off + i) (.slice (some ⟨b, off, none⟩) ts.length d) (.slice A2 (ts[i]).length d2) w1.heap.size (.slice (some ⟨g, 0, none⟩) ts.length d1) W2 := ⟨x1, e1, y1⟩
    refine but_begin (f := 10) (S := NC2 w.heap.size b (off + i) (.slice (some ⟨b, off, none⟩) ts.length d) (.slice A2 (ts[i]).length d2) w1.heap.size (.slice (some ⟨g, 0, none⟩) ts.length d1)) (by kernel_rfl) ?_
    refine but_take (f := 10) (i := 0) (v := ?v0) rfl (by kernel_rfl) (by kernel_rfl) (by kernel_rfl) (by kernel_rfl) (by kernel_rfl) (fun _ _ _ h => h) (Or.inl ⟨by rfl, ?hy0⟩) hSW ?rest0
    case hy0 =>
      intro W hW
      obtain ⟨h1, h2, h3⟩ := hW
      go_simp
      exact rfl
    simp only [List.getElem_toArray, List.getElem_cons_succ, List.getElem_cons_zero, Act.put, List.setIfInBounds_toArray, List.set_cons_zero, List.set_cons_succ]
    refine but_take (f := 10) (i := 1) (v := ?v1) rfl (by kernel_rfl) (by kernel_rfl) (by kernel_rfl) (by kernel_rfl) (by kernel_rfl) (fun _ _ _ h => h) (Or.inl ⟨by rfl, ?hy1⟩) hSW ?rest1
    case hy1 =>
      intro W hW
      obtain ⟨h1, h2, h3⟩ := hW
      go_simp
      exact rfl
    simp only [List.getElem_toArray, List.getElem_cons_succ, List.getElem_cons_zero, Act.put, List.setIfInBounds_toArray, List.set_cons_zero, List.set_cons_succ]
    refine but_take (f := 10) (i := 2) (v := ?v2) rfl (by kernel_rfl) (by kernel_rfl) (by kernel_rfl) (by kernel_rfl) (by kernel_rfl) (fun _ _ _ h => h) (Or.inl ⟨by rfl, ?hy2⟩) hSW ?rest2
    case hy2 =>
      intro W hW
      obtain ⟨h1, h2, h3⟩ := hW
      go_simp
      exact rfl
    simp only [List.getElem_toArray, List.getElem_cons_succ, List.getElem_cons_zero, Act.put, List.setIfInBounds_toArray, List.set_cons_zero, List.set_cons_succ]
    refine but_take (f := 10) (i := 3) (v := ?v3) rfl (by kernel_rfl) (by kernel_rfl) (by kernel_rfl) (by kernel_rfl) (by kernel_rfl) (fun _ _ _ h => h) (Or.inl ⟨by rfl, ?hy3⟩) hSW ?rest3
    case hy3 =>
      intro W hW
      obtain ⟨h1, h2, h3⟩ := hW
      go_simp
      exact rfl
    simp only [List.getElem_toArray, List.getElem_cons_succ, List.getElem_cons_zero, Act.put, List.setIfInBounds_toArray, List.set_cons_zero, List.set_cons_succ]
    refine but_take (f := 10) (i := 4) (v := ?v4) rfl (by kernel_rfl) (by kernel_rfl) (by kernel_rfl) (by kernel_rfl) (by kernel_rfl) (fun _ _ _ h => h) (Or.inl ⟨by rfl, ?hy4⟩) hSW ?rest4
    case hy4 =>
      intro W hW
      obtain ⟨h1, h2, h3⟩ := hW
      go_simp
      exact rfl
    simp only [List.getElem_toArray, List.getElem_cons_succ, List.getElem_cons_zero, Act.put, List.setIfInBounds_toArray, List.set_cons_zero, List.set_cons_succ]
    refine but_take (f := 10) (i := 5) (v := ?v5) rfl (by kernel_rfl) (by kernel_rfl) (by kernel_rfl) (by kernel_rfl) (by kernel_rfl) (fun _ _ _ h => h) (Or.inl ⟨by rfl, ?hy5⟩) hSW ?rest5
    case hy5 =>
      intro W hW
      obtain ⟨h1, h2, h3⟩ := hW
      go_simp
      exact rfl
    simp only [List.getElem_toArray, List.getElem_cons_succ, List.getElem_cons_zero, Act.put, List.setIfInBounds_toArray, List.set_cons_zero, List.set_cons_succ]
    refine but_take (f := 10) (i := 6) (v := ?v6) rfl (by kernel_rfl) (by kernel_rfl) (by kernel_rfl) (by kernel_rfl) (by kernel_rfl) (fun _ _ _ h => h) (Or.inl ⟨by rfl, ?hy6⟩) hSW ?rest6
    case hy6 =>
      intro W hW
      obtain ⟨h1, h2, h3⟩ := hW
      go_simp
      exact rfl
    simp only [List.getElem_toArray, List.getElem_cons_succ, List.getElem_cons_zero, Act.put, List.setIfInBounds_toArray, List.set_cons_zero, List.set_cons_succ]
    refine but_take (f := 10) (i := 7) (v := ?v7) rfl (by kernel_rfl) (by kernel_rfl) (by kernel_rfl) (by kernel_rfl) (by kernel_rfl) (fun _ _ _ h => h) (Or.inl ⟨by rfl, ?hy7⟩) hSW ?rest7
    case hy7 =>
      intro W hW
      obtain ⟨h1, h2, h3⟩ := hW
      go_simp
      exact rfl
    simp only [List.getElem_toArray, List.getElem_cons_succ, List.getElem_cons_zero, Act.put, List.setIfInBounds_toArray, List.set_cons_zero, List.set_cons_succ]
    refine but_run (i := 8) (by kernel_rfl) rfl (by rfl) ?_
    simp only [List.getElem_toArray, List.getElem_cons_succ, List.getElem_cons_zero]
    intro K_ HK
    go_wp2_with fail
    refine (implNodePack_any _ ts[i] _ (R1.out.on (Below.drew1 _)) (by omega) (by omega)).mono ?_
    rintro e w6 ⟨v6, rfl, o6, b6'⟩
    obtain ⟨A6, c6, rfl, _, _⟩ := o6.reads.lenN
    have b6 : Below W2.heap.size W2 w6 := bstep (Below.drew1 _) b6'
    have hS6 := hSV.on b6
    go_wp2_with fail
    refine HK.out _ _ (fun _ => hS6) ?_
    clear HK
    have B6 := Lib.hid b6
    have O6 : Hid (Owns w6 (fun b => W2.heap.size ≤ b) (.slice A6 (nodePackK ts[i]).length c6) (setsD (nodePackK ts[i]))) := Lib.hid o6
    clear o6 b6 b6'
    try simp only [Act.put, List.setIfInBounds_toArray, List.set_cons_zero, List.set_cons_succ]
    refine but_run (i := 9) (by kernel_rfl) rfl (by rfl) ?_
    simp only [List.getElem_toArray, List.getElem_cons_succ, List.getElem_cons_zero]
    intro K_ HK
    go_wp2
    refine HK.out _ _ (fun _ => hS6) ?_
    clear HK
    have g1 : w6.cell? ⟨g, i, none⟩ = some x := ((bcell B6.out).1 g i hgl).trans HG.out.1
    have g2 : ∀ o, w6.frozen? ⟨g, o, none⟩ = false := fun o => ((bcell B6.out).2 g o hgl).trans (HG.out.2 o)
    refine but_run (i := 10) (by kernel_rfl) rfl (by rfl) ?_
    simp only [List.getElem_toArray, List.getElem_cons_succ, List.getElem_cons_zero]
    intro K_ HK
    go_wp2
    refine HK.out _ _ (fun h => (h rfl).elim) ?_
    clear HK
    refine but_done (by kernel_rfl) ?_
    have hz6 := B6.out.size
    have ON2 := Lib.hid (Owns.setNode (i := i) ON.out B6.out O6.out)
    have OL2 := Lib.hid ((OL.out.on B6.out).keep (w' := w6.setCell ⟨g, i, none⟩ (.slice A6 (nodePackK ts[i]).length c6)) (fun b hb _ => Below.heap_setCell _ _ _ _ (fun e => hPR b hb (by have e' : b = g := e; rw [e']; exact hRg))))
    have P0 := Lib.hid (box_far (j := i) (u := .slice A6 (nodePackK ts[i]).length c6) (box_on Q1.out B6.out) (show w.heap.size + 1 ≠ g by omega))
    have P5 := Lib.hid (box_far (j := i) (u := .slice A6 (nodePackK ts[i]).length c6) (box_on Q5.out B6.out) (show w1.heap.size ≠ g by omega))
    have BB := Lib.hid ((bstep HB.out B6.out).setCell (p := ⟨g, i, none⟩) (show w.heap.size ≤ g by omega) (.slice A6 (nodePackK ts[i]).length c6))
    have hz7 : (w6.setCell ⟨g, i, none⟩ (.slice A6 (nodePackK ts[i]).length c6)).heap.size = w6.heap.size := by simp
    clear HG g1 g2 ON OL O6 hS6 hSW hSV x0 x1 x2 y0 y1 y2 e1 Q0 Q1 Q5 HV
    generalize w6.setCell ⟨g, i, none⟩ (.slice A6 (nodePackK ts[i]).length c6) = W7 at *
    obtain ⟨x0, x1, x2⟩ := box2 P0.out
    obtain ⟨y0, y1, y2⟩ := box2 P5.out
    have n3 : ¬ w1.heap.size = w.heap.size + 1 := by omega
    go_wp2
    have HO : ∀ a b, Only (fun b => b = w.heap.size + 1) W7 ((W7.setCell ⟨w.heap.size + 1, 0, none⟩ a).setCell ⟨w.heap.size + 1, 1, none⟩ b) := fun a b => only_two _ _ _ _ _ _
    refine bodyPost_ret (v := .agg #[.slice A1 lo.length c1, .slice (some ⟨g, 0, none⟩) ts.length d1]) (by simp [results, Tryz.results25, go_sem, x0, x1, x2]) rfl ⟨_, _, rfl, ⟨P, fun b => R b ∨ W2.heap.size ≤ b, fun b hb => by have := hP b hb; omega, fun b hb => by rcases hb with hb | hb; (have := hR b hb; omega); omega, fun b hb hb' => by rcases hb' with hb' | hb'; (exact hPR b hb hb'); (have := hP b hb; omega), OL2.out.far (HO _ _) (fun b hb _ hb' => by have := hP b hb; omega), ?_⟩, BB.out.trans ((HO _ _).below BB.out.size (fun b hb => by omega))⟩
    rw [HRT.out]
    exact ON2.out.far (HO _ _) (fun b hb _ hb' => by rcases hb with hb | hb; (have := hR b hb; omega); omega)
  · have hrt := HOUT.out hin
    have d2' : (decide ((0 : Int) ≤ p) && decide (p < (ts.length : Int))) = false := by
      rcases Int.lt_or_le p 0 with h | h
      · rw [decide_eq_false (by omega)]; rfl
      · rw [decide_eq_false (show ¬ p < (ts.length : Int) by omega), Bool.and_false]
    rw [d2']
    have HRT := Lib.hid hrt
    clear hin hrt d2' x0 x1 x2
    obtain ⟨x0, x1, x2⟩ := box2 Q1.out
    obtain ⟨y0, y1, y2⟩ := box2 Q5.out
    have n3 : ¬ w1.heap.size = w.heap.size + 1 := by omega
    go_wp2
    have HO : ∀ a b, Only (fun b => b = w.heap.size + 1) W2 ((W2.setCell ⟨w.heap.size + 1, 0, none⟩ a).setCell ⟨w.heap.size + 1, 1, none⟩ b) := fun a b => only_two _ _ _ _ _ _
    have h9 := (O1.out.keep (w' := (W2.setCell ⟨w.heap.size + 1, 0, none⟩ (.slice A1 lo.length c1)).setCell ⟨w.heap.size + 1, 1, none⟩ (.slice B1 ts.length d1)) (fun b hb hl => (HO _ _).block b hl (fun e => by omega))).mono (T := fun b => w.heap.size ≤ b) (fun b hb => by omega)
    exact bodyPost_ret (v := .agg #[.slice A1 lo.length c1, .slice B1 ts.length d1]) (by simp [results, Tryz.results25, go_sem, x0, x1, x2]) rfl ⟨_, _, rfl, by rw [HRT.out]; exact h9, HB.out.trans ((HO _ _).below HB.out.size (fun b hb => by omega))⟩
end Go.Proofs.YtkcafbdlealbpaaGreat
