/- Contracts for trees in the laws: laws.toTree copies one, eqTree finds two that read alike equal, markTree writes marks, heldTree finds them; a tree that comes in as an argument is opened. Conditions: at most 1100000 bounds, nodes, sets and keys. -/
import Derived.Test.YtmpgmjnagpiijaaTree
namespace Go.Proofs.Ytmpgmjnagpiijaa
open Go.RowKit Go.ChangeShapes Go.WideShapes Go.Deep
set_option maxRecDepth 100000
set_option linter.unusedSimpArgs false
set_option linter.unusedVariables false

theorem ints_opens : Opens Try.prog 22 (fun ds => ∃ l, ds = [intsD l]) := by
  have hi : Opens Try.prog 3 (fun ds => ∃ n : Int, ds = [.lit (iV n)]) := (Opens.int Try.underlying3).weaken (fun ds ⟨n, h, _⟩ => ⟨n, h⟩)
  have h := Opens.slice (z := 1) (fun n : Int => [.lit (iV n)]) (fun _ => rfl) (by omega) Try.underlying22 (by kernel_rfl) hi 3
  refine h.weaken (fun ds ⟨l, hl⟩ => ⟨l, ?_⟩)
  rw [hl, intsD, flat_one]
theorem nodes_opens : Opens Try.prog 35 (fun ds => ∃ ts, ds = [nodesA ts]) := by
  have h := Opens.slice (z := 1) (fun ns : NodeD => [setsA ns]) (fun _ => rfl) (by omega) Try.underlying35 (by kernel_rfl) node_opens 123
  refine h.weaken (fun ds ⟨l, hl⟩ => ⟨l, ?_⟩)
  rw [hl, nodesA, flat_one]
theorem tree_opens : Opens Try.prog 37 (fun ds => ∃ lo ts, ds = [intsD lo, nodesA ts]) := by
  have h := Opens.struct (P := Try.prog) Try.underlying37 (by kernel_rfl) [fun ds => ∃ l, ds = [intsD l], fun ds => ∃ ts, ds = [nodesA ts]] rfl (fun i hi => by
    match i, hi with
    | 0, _ => exact ints_opens
    | 1, _ => exact nodes_opens)
  refine h.weaken (fun ds ⟨dss, hd, hC, hds⟩ => ?_)
  match dss, hd with
  | [a, b], _ =>
    obtain ⟨lo, h0⟩ := hC 0 (by simp)
    obtain ⟨ts, h1⟩ := hC 1 (by simp)
    simp at h0 h1
    subst h0 h1
    exact ⟨lo, ts, by rw [hds]; rfl⟩
/-- A tree as it comes in. -/
def TreeIs (w : World) (v : Value) (d : List Int × List NodeD) : Prop := ∃ vl vn, v = .agg #[vl, vn] ∧ Reads w w.heap.size vl (intsD d.1) ∧ Reads w w.heap.size vn (nodesA d.2)
theorem open_treeArg {H : Type} {enc : TypeId × Value → H} {w : World} {r : Reach} {b0 base : Nat} {spare : Nat → Bool} {held : Bool} {v : Value} {x : DataW H} {p : List MemPlace}
    (hv : Value.okWide Try.prog w r b0 37 v) (h : DataW.Trod enc Try.prog w base spare held 37 v x p) : ∃ d, TreeIs w v d := by
  obtain ⟨cs, rfl, hsz⟩ := okWide_struct Try.underlying37 hv
  obtain ⟨fuel, hf⟩ := h
  obtain ⟨ds, ⟨lo, ts, rfl⟩, hr⟩ := tree_opens _ _ _ _ _ _ _ _ _ hf
  obtain ⟨l⟩ := cs
  have hl := hr.1
  simp [Value.cells] at hl
  match l, hl with
  | [a, b], _ =>
    have r0 := hr.2 0 (by simp [Value.cells]) (by simp)
    have r1 := hr.2 1 (by simp [Value.cells]) (by simp)
    simp [Value.cells] at r0 r1
    exact ⟨(lo, ts), a, b, rfl, r0, r1⟩
theorem ints_litL (w : World) (S : Nat → Prop) (l : List Int) : OwnsL w S (l.map iV) (l.map fun n => .lit (iV n)) :=
  ⟨by simp, fun _ _ => False, fun i h h' => by simp only [List.getElem_map]; exact .lit _ _, fun _ _ h => h.elim, fun _ _ _ _ h => h.elim⟩
theorem made1I (n : Nat) : (madeCells #[.int .i64 0] n).size = n * 1 := by simp [size_madeCells]
theorem toIntS_any (v : Value) (l : List Int) (w : World) (hv : Reads w w.heap.size v (intsD l)) (hn : l.length ≤ 1048576) :
    Calls Try.prog 67 #[v] w fun e w' => ∃ u, e = .returned u ∧ Owns w' (fun b => w.heap.size ≤ b) u (intsD l) ∧ Below w.heap.size w w' := by
  obtain ⟨A, c, rfl, _, _⟩ := hv.lenN
  have hmk := run_makeInts l.length (by omega)
  have HV := Lib.hid hv
  clear hv
  go_enter Try.func67, Try.ntmps67
  go_wp2
  go_loopw [4] (fun i wr => ∃ k : Nat, k ≤ l.length ∧ i = .int .i64 k ∧ Hid (RowV wr w.heap.size (l.length * 1) 3 ((l.take k).map iV)) ∧ Hid (Below w.heap.size w wr)) (fun i _ => l.length - (intOf i).toNat)
  case atStart => exact ⟨0, Nat.zero_le _, rfl, Lib.hid (by rw [← made1I]; exact RowV.new w _ _), Lib.hid ((Below.refl _ _).alloc (Nat.le_refl _) _)⟩
  case round =>
    obtain ⟨k, hk, rfl, HR, HB⟩ := hrel
    by_cases hlt : k < l.length
    · obtain ⟨b, off, rfl, hbb, hc⟩ := (HV.out.on HB.out).int hlt
      have c1 := hc k hlt
      unfold iV at c1
      have hl : ((l.take k).map iV).length = k := by simp; omega
      obtain ⟨y, c2⟩ := HR.out.cell (k := k) (by omega)
      have f2 := HR.out.frozen k
      have h1 := HR.out.step (by rw [hl]; omega) (iV l[k])
      rw [hl] at h1
      have HR2 : Hid (RowV (wr.setCell ⟨w.heap.size, k, none⟩ (.int .i64 l[k])) w.heap.size (l.length * 1) 3 ((l.take (k + 1)).map iV)) := Lib.hid (by rw [List.take_succ_eq_append_getElem hlt, List.map_append]; exact h1)
      have HB2 := Lib.hid (HB.out.setCell (p := ⟨w.heap.size, k, none⟩) (Nat.le_refl _) (.int .i64 l[k]))
      have i1 : (k : Int) < (l.length : Int) := by omega
      have i2 : (0 : Int) ≤ (k : Int) := by omega
      clear hc h1 hl HR HB
      go_wp2
      go_roundw
      case rel => exact ⟨k + 1, by omega, by go_num, HR2, HB2⟩
      case measure => simp [intOf]; omega
    · go_wp2
      go_ret
      have e : k = l.length := by omega
      subst e
      have h := HR.out
      rw [List.take_length] at h
      exact ⟨_, rfl, h.owns (ints_litL _ _ _) (by simp) (by unfold maxLen; omega), HB.out⟩
theorem toNodeS_any (v : Value) (ts : List NodeD) (w : World) (hv : Reads w w.heap.size v (nodesA ts)) (hn : ts.length + sumT ts ≤ 1048576) :
    Calls Try.prog 68 #[v] w fun e w' => ∃ u, e = .returned u ∧ Owns w' (fun b => w.heap.size ≤ b) u (nodesD ts) ∧ Below w.heap.size w w' := by
  obtain ⟨A, c, rfl, _, _⟩ := hv.lenN
  have hmk := run_makeNodes ts.length (by omega)
  have HV := Lib.hid hv
  clear hv
  go_enter Try.func68, Try.ntmps68
  go_wp2
  go_loopw [4] (fun i wr => ∃ (k : Nat) (xs : List Value), k ≤ ts.length ∧ i = .int .i64 k ∧ RowV wr w.heap.size (ts.length * 1) 87 xs ∧ OwnsL wr (fun b => w.heap.size < b) xs ((ts.take k).map setsD) ∧ Below w.heap.size w wr) (fun i _ => ts.length - (intOf i).toNat)
  case atStart => exact ⟨0, [], Nat.zero_le _, rfl, by rw [← made1N (.slice none 0 0)]; exact RowV.new w _ _, OwnsL.nil _ _, (Below.refl _ _).alloc (Nat.le_refl _) _⟩
  case round =>
    obtain ⟨k, xs, hk, rfl, hrow, hown, hb⟩ := hrel
    by_cases hlt : k < ts.length
    · obtain ⟨b, off, rfl, hbb, hc⟩ := (HV.out.on hb).nodeA hlt
      obtain ⟨A1, d1, c1, _, _, r1⟩ := hc k hlt
      have hl := sumT_mem (List.getElem_mem hlt)
      have HX : Hid (xs.length = k) := Lib.hid (by rw [hown.1]; simp; omega)
      have hg := hrow.lt
      have R1 := Lib.hid r1
      clear hc r1
      have i1 : (k : Int) < (ts.length : Int) := by omega
      have i2 : (0 : Int) ≤ (k : Int) := by omega
      go_wp2_with fail
      refine (toNode_any _ ts[k] _ R1.out (by omega)).mono ?_
      rintro e w1 ⟨vv, rfl, o2, b1⟩
      obtain ⟨Av, cv, rfl, _, _⟩ := o2.reads.lenN
      have hrow1 := hrow.keep (b1.block _ hg)
      have hb1 := hb.trans (b1.mono hb.size)
      obtain ⟨y, c2⟩ := hrow1.cell (k := k) (by omega)
      have f2 := hrow1.frozen k
      have HR := Lib.hid (hrow1.step (by rw [HX.out]; omega) (.slice Av (ts[k]).length cv))
      have HO := Lib.hid (OwnsL.push (j := k) (u := .slice Av (ts[k]).length cv) hown b1 o2 hg)
      have HB := Lib.hid (hb1.setCell (p := ⟨w.heap.size, k, none⟩) (Nat.le_refl _) (.slice Av (ts[k]).length cv))
      clear hrow hrow1 hown hb1 hb o2 b1
      go_wp2
      go_roundw
      case rel =>
        refine ⟨k + 1, xs ++ [.slice Av (ts[k]).length cv], by omega, by go_num, ?_, ?_, HB.out⟩
        · have h := HR.out
          rw [HX.out] at h
          exact h
        · have h := HO.out
          rw [List.take_succ_eq_append_getElem hlt, List.map_append]
          exact h
      case measure => simp [intOf]; omega
    · go_wp2
      go_ret
      have e : k = ts.length := by omega
      subst e
      rw [List.take_length] at hown
      exact ⟨_, rfl, hrow.owns hown (by simp) (by unfold maxLen; omega), hb⟩
theorem toTree_any (vl vn : Value) (lo : List Int) (ts : List NodeD) (w : World) (hl : Reads w w.heap.size vl (intsD lo)) (hv : Reads w w.heap.size vn (nodesA ts)) (hn : lo.length + (ts.length + sumT ts) ≤ 1048576) :
    Calls Try.prog 40 #[.agg #[vl, vn]] w (NewTS w lo ts) := by
  have HI := Lib.hid (fun W b => toIntS_any vl lo W (hl.on b) (by omega))
  have HN := Lib.hid (fun W b => toNodeS_any vn ts W (hv.on b) (by omega))
  obtain ⟨A, c, rfl, _, _⟩ := hl.lenN
  obtain ⟨A', c', rfl, _, _⟩ := hv.lenN
  obtain ⟨q0, q1, q2⟩ := al3 w (.cells #[.slice A lo.length c, .slice A' ts.length c'] 37) (.cells #[.slice none 0 0, .slice none 0 0] 25) (.cells #[.slice none 0 0, .slice none 0 0] 25)
  have Q0 := Lib.hid q0
  have Q1 := Lib.hid q1
  have Q2 := Lib.hid q2
  have HB := Lib.hid (bal3 w (.cells #[.slice A lo.length c, .slice A' ts.length c'] 37) (.cells #[.slice none 0 0, .slice none 0 0] 25) (.cells #[.slice none 0 0, .slice none 0 0] 25))
  have HZ : Hid ((((w.alloc (.cells #[.slice A lo.length c, .slice A' ts.length c'] 37)).alloc (.cells #[.slice none 0 0, .slice none 0 0] 25)).alloc (.cells #[.slice none 0 0, .slice none 0 0] 25)).heap.size = w.heap.size + 3) := Lib.hid (by simp)
  clear hv hl q0 q1 q2
  go_enter Try.func40, Try.ntmps40
  go_upto_region 2 with (fail)
  generalize ((w.alloc (.cells #[.slice A lo.length c, .slice A' ts.length c'] 37)).alloc (.cells #[.slice none 0 0, .slice none 0 0] 25)).alloc (.cells #[.slice none 0 0, .slice none 0 0] 25) = W at *
  obtain ⟨x0, x1, x2⟩ := box2 Q0.out
  go_wp2_with fail
  refine (HI.out _ HB.out).mono ?_
  rintro e w1 ⟨u1, rfl, o1, b1⟩
  obtain ⟨A1, c1, rfl, _, _⟩ := o1.reads.lenN
  clear x0 x1 x2
  have hz := HZ.out
  have hz1 := b1.size
  replace Q0 := Lib.hid (box_far (g := w.heap.size + 1 + 1) (j := 0) (u := .slice A1 lo.length c1) (box_on Q0.out b1) (by omega))
  replace Q1 := Lib.hid (box_far (g := w.heap.size + 1 + 1) (j := 0) (u := .slice A1 lo.length c1) (box_on Q1.out b1) (by omega))
  obtain ⟨x0, x1, x2⟩ := box2 (box_on Q2.out b1)
  replace Q2 := Lib.hid (box_set (i := 0) (u := .slice A1 lo.length c1) (box_on Q2.out b1))
  replace HB := Lib.hid ((bstep HB.out b1).setCell (p := ⟨w.heap.size + 1 + 1, 0, none⟩) (show w.heap.size ≤ w.heap.size + 1 + 1 by omega) (.slice A1 lo.length c1))
  have O1 := Lib.hid (Owns.keep (w' := w1.setCell ⟨w.heap.size + 1 + 1, 0, none⟩ (.slice A1 lo.length c1)) (o1.lt.mono (T := fun b => w.heap.size + 3 ≤ b ∧ b < w1.heap.size) (fun b hb => ⟨by omega, by omega⟩)) (fun b hb _ => Below.heap_setCell _ _ _ _ (fun h => by have h1 : b = w.heap.size + 1 + 1 := h; omega)))
  have ZZ : Hid (w1.heap.size = (w1.setCell ⟨w.heap.size + 1 + 1, 0, none⟩ (.slice A1 lo.length c1)).heap.size) := Lib.hid (by simp)
  simp only [List.setIfInBounds_toArray, List.set_cons_zero] at Q2
  clear o1 b1
  go_upto_region 3 with (fail)
  clear x0 x1 x2
  generalize w1.setCell ⟨w.heap.size + 1 + 1, 0, none⟩ (.slice A1 lo.length c1) = W1 at *
  have hy1 := Nat.le_of_eq ZZ.out
  have hy2 := Nat.le_of_eq ZZ.out.symm
  obtain ⟨x0, x1, x2⟩ := box2 Q0.out
  go_wp2_with fail
  refine (HN.out _ HB.out).mono ?_
  rintro e w2 ⟨u2, rfl, o2, b2⟩
  obtain ⟨A2, c2, rfl, _, _⟩ := o2.reads.lenN
  clear x0 x1 x2
  obtain ⟨x0, x1, x2⟩ := box2 (box_on Q2.out b2)
  obtain ⟨y0, y1, y2⟩ := box2 (box_on Q1.out b2)
  have O2 := Lib.hid o2
  have OO := Lib.hid (O1.out.on b2)
  have BB := Lib.hid (bstep HB.out b2)
  have hz2 := b2.size
  clear o2 b2
  go_wp2
  have HO : ∀ a b c, Only (Mid w.heap.size (w.heap.size + 3)) w2 (((w2.setCell ⟨w.heap.size + 1 + 1, 1, none⟩ a).setCell ⟨w.heap.size + 1, 0, none⟩ b).setCell ⟨w.heap.size + 1, 1, none⟩ c) := fun a b c => (((Only.refl _ _).setCell (.mk (by omega) (by omega)) _).setCell (.mk (by omega) (by omega)) _).setCell (.mk (by omega) (by omega)) _
  refine bodyPost_ret (v := .agg #[.slice A1 lo.length c1, .slice A2 ts.length c2]) (by simp [results, Try.results40, go_sem, y0, y1, y2, x0, x1, x2]) rfl ⟨_, _, rfl, ⟨fun b => w.heap.size + 3 ≤ b ∧ b < w1.heap.size, fun b => W1.heap.size ≤ b, fun b hb => by omega, fun b hb => by omega, fun b hb hb' => by omega, ?_, ?_⟩, bpast BB.out (HO _ _ _)⟩
  · exact OO.out.far (HO _ _ _) (fun b hb _ hb' => by have := hb'.2; omega)
  · exact O2.out.far (HO _ _ _) (fun b hb _ hb' => by have := hb'.2; omega)
set_option maxHeartbeats 1000000 in
theorem eqIntS_same (v u : Value) (l : List Int) (w : World) (hv : Reads w w.heap.size v (intsD l)) (hu : Reads w w.heap.size u (intsD l)) (hn : l.length ≤ 1100000) :
    Calls Try.prog 54 #[v, u] w (SaysBool w true) := by
  obtain ⟨A, c, rfl, _, _⟩ := hv.lenN
  obtain ⟨A', c', rfl, _, _⟩ := hu.lenN
  have hne : ((l.length : Int) != (l.length : Int)) = false := by simp
  have HV := Lib.hid hv
  have HU := Lib.hid hu
  clear hv hu
  go_enter Try.func54, Try.ntmps54
  go_wp2
  go_loopw [5] (fun i wr => ∃ k : Nat, k ≤ l.length ∧ i = .int .i64 k ∧ Hid (Below w.heap.size w wr)) (fun i _ => l.length - (intOf i).toNat)
  case atStart => exact ⟨0, Nat.zero_le _, rfl, Lib.hid (Below.refl _ _)⟩
  case round =>
    obtain ⟨k, hk, rfl, HB⟩ := hrel
    by_cases hlt : k < l.length
    · obtain ⟨b, off, rfl, hbb, hc⟩ := (HV.out.on HB.out).int hlt
      obtain ⟨b2, off2, rfl, hbb2, hc2⟩ := (HU.out.on HB.out).int hlt
      have c1 := hc k hlt
      have c2 := hc2 k hlt
      unfold iV at c1 c2
      clear hc hc2
      have i1 : (k : Int) < (l.length : Int) := by omega
      have i2 : (0 : Int) ≤ (k : Int) := by omega
      have hne2 : (l[k] != l[k]) = false := by simp
      go_wp2
      go_still_tail 8, (by kernel_rfl)
      change wpList _ _ _ _ _ wr.drew
      have HB1 := Lib.hid (bstep HB.out (Below.drew1 _))
      generalize wr.drew = wd at *
      go_wp2
      go_roundw
      case rel => exact ⟨k + 1, by omega, by go_num, HB1⟩
      case measure => simp [intOf]; omega
    · go_wp2
      go_ret
      exact ⟨rfl, HB.out⟩
set_option maxHeartbeats 1000000 in
theorem eqNodeS_same (v u : Value) (ts : List NodeD) (w : World) (hv : Reads w w.heap.size v (nodesD ts)) (hu : Reads w w.heap.size u (nodesD ts)) (hn : ts.length ≤ 1100000) (hs : sumT ts ≤ 1100000) :
    Calls Try.prog 55 #[v, u] w (SaysBool w true) := by
  obtain ⟨A, c, rfl, _, _⟩ := hv.lenN
  obtain ⟨A', c', rfl, _, _⟩ := hu.lenN
  have hne : ((ts.length : Int) != (ts.length : Int)) = false := by simp
  have HV := Lib.hid hv
  have HU := Lib.hid hu
  have HS := Lib.hid hs
  clear hv hu hs
  go_enter Try.func55, Try.ntmps55
  go_wp2
  go_loopw [5] (fun i wr => ∃ k : Nat, k ≤ ts.length ∧ i = .int .i64 k ∧ Hid (Below w.heap.size w wr)) (fun i _ => ts.length - (intOf i).toNat)
  case atStart => exact ⟨0, Nat.zero_le _, rfl, Lib.hid (Below.refl _ _)⟩
  case round =>
    obtain ⟨k, hk, rfl, HB⟩ := hrel
    by_cases hlt : k < ts.length
    · obtain ⟨b, off, rfl, hbb, hc⟩ := (HV.out.on HB.out).node hlt
      obtain ⟨b2, off2, rfl, hbb2, hc2⟩ := (HU.out.on HB.out).node hlt
      obtain ⟨A1, d1, c1, _, _, r1⟩ := hc k hlt
      obtain ⟨A2, d2, c2, _, _, r2⟩ := hc2 k hlt
      have hl := Lib.hid (small_at HS.out hlt)
      have R1 := Lib.hid r1
      have R2 := Lib.hid r2
      clear hc hc2 r1 r2
      have i1 : (k : Int) < (ts.length : Int) := by omega
      have i2 : (0 : Int) ≤ (k : Int) := by omega
      go_wp2
      go_still_tail 8, (by kernel_rfl)
      change wpList _ _ _ _ _ wr.drew
      have HB1 := Lib.hid (bstep HB.out (Below.drew1 _))
      have Q1 := Lib.hid (R1.out.on (Below.drew1 _))
      have Q2 := Lib.hid (R2.out.on (Below.drew1 _))
      clear R1 R2
      generalize wr.drew = wd at *
      go_wp2_with fail
      refine (eqNode_same _ _ ts[k] _ Q1.out Q2.out hl.out).mono ?_
      rintro e w2 ⟨rfl, b2⟩
      have HB2 := Lib.hid (bstep HB1.out b2)
      clear b2
      go_wp2
      go_roundw
      case rel => exact ⟨k + 1, by omega, by go_num, HB2⟩
      case measure => simp [intOf]; omega
    · go_wp2
      go_ret
      exact ⟨rfl, HB.out⟩
theorem eqTree_same (vl vn ul un : Value) (lo : List Int) (ts : List NodeD) (w : World) (hv : RdT w w.heap.size vl vn lo ts) (hu : RdT w w.heap.size ul un lo ts) (hs : SmallT lo ts) :
    Calls Try.prog 24 #[.agg #[vl, vn], .agg #[ul, un]] w (SaysBool w true) := by
  have HI := Lib.hid (fun W b => eqIntS_same vl ul lo W (hv.1.on b) (hu.1.on b) hs.1)
  have HN := Lib.hid (fun W b => eqNodeS_same vn un ts W (hv.2.on b) (hu.2.on b) hs.2.1 hs.2.2)
  obtain ⟨A, c, A', c', rfl, rfl⟩ := hv.shape
  obtain ⟨B, d, B', d', rfl, rfl⟩ := hu.shape
  have HB := Lib.hid (bal2 w (.cells #[.slice A lo.length c, .slice A' ts.length c'] 25) (.cells #[.slice B lo.length d, .slice B' ts.length d'] 25))
  obtain ⟨q0, q1⟩ := al2 w (.cells #[.slice A lo.length c, .slice A' ts.length c'] 25) (.cells #[.slice B lo.length d, .slice B' ts.length d'] 25)
  have Q0 := Lib.hid q0
  have Q1 := Lib.hid q1
  clear hv hu q0 q1
  go_enter Try.func24, Try.ntmps24
  go_upto_region 1 with (fail)
  generalize (w.alloc (.cells #[.slice A lo.length c, .slice A' ts.length c'] 25)).alloc (.cells #[.slice B lo.length d, .slice B' ts.length d'] 25) = W at *
  obtain ⟨x0, x1, x2⟩ := box2 Q0.out
  obtain ⟨y0, y1, y2⟩ := box2 Q1.out
  go_wp2_with fail
  refine (HI.out _ HB.out).mono ?_
  rintro e w1 ⟨rfl, b1⟩
  clear x0 x1 x2 y0 y1 y2
  have B1 := Lib.hid (bstep HB.out b1)
  obtain ⟨x0, x1, x2⟩ := box2 (box_on Q0.out b1)
  obtain ⟨y0, y1, y2⟩ := box2 (box_on Q1.out b1)
  clear b1
  go_wp2_with fail
  refine (HN.out _ B1.out).mono ?_
  rintro e w2 ⟨rfl, b2⟩
  have B2 := Lib.hid (bstep B1.out b2)
  clear b2
  go_wp2
  go_ret
  exact ⟨rfl, B2.out⟩
end Go.Proofs.Ytmpgmjnagpiijaa
