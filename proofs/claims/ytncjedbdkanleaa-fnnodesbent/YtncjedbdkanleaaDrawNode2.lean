/- Contracts for laws.sameKeys and laws.sameNode at values that read alike, and for spec.DrawNode: a valid node and a valid key. Conditions: the code drawn from has at most 2^20 bytes. -/
import Derived.Test.YtncjedbdkanleaaDrawNode
import Derived.Test.YtncjedbdkanleaaLast3
namespace Go.Proofs.Ytncjedbdkanleaa
open Go.RowKit
set_option maxRecDepth 100000
set_option linter.unusedSimpArgs false
set_option linter.unusedVariables false

set_option maxHeartbeats 1000000 in
theorem sameKeysN (v u : Value) (l : List KeyD) (w : World) (hv : Reads w w.heap.size v (keysD l)) (hu : Reads w w.heap.size u (keysD l)) (hn : l.length ≤ 2097152) :
    Calls Try.prog 20 #[v, u] w (SaysBool w true) := by
  obtain ⟨A, c, rfl, _, _⟩ := hv.shapeK
  obtain ⟨A', c', rfl, _, _⟩ := hu.shapeK
  have HV := Lib.hid hv
  have HU := Lib.hid hu
  clear hv hu
  have hne : (((l.length : Nat) : Int) != ((l.length : Nat) : Int)) = false := by simp
  go_enter Try.func20, Try.ntmps20
  go_wp2
  go_loopw [5] (fun i wr => ∃ k : Nat, k ≤ l.length ∧ i = .int .i64 k ∧ Hid (Below w.heap.size w wr)) (fun i _ => l.length - (intOf i).toNat)
  case atStart => exact ⟨0, Nat.zero_le _, rfl, Lib.hid (Below.refl _ _)⟩
  case round =>
    obtain ⟨k, hk, rfl, HB⟩ := hrel
    by_cases hlt : k < l.length
    · obtain ⟨b, off, rfl, hbb, hc⟩ := (HV.out.on HB.out).keys hlt
      obtain ⟨b', off', rfl, hbb', hc'⟩ := (HU.out.on HB.out).keys hlt
      have i1 : (k : Int) < (l.length : Int) := by omega
      have i2 : (0 : Int) ≤ (k : Int) := by omega
      obtain ⟨c0, c1, c2, c3, c4⟩ := hc k hlt
      obtain ⟨d0, d1, d2, d3, d4⟩ := hc' k hlt
      clear hc hc'
      have HBq : Hid (∀ n, Below w.heap.size w (wr.drewN n)) := Lib.hid (fun n => bdrew HB.out n)
      go_wp2
      go_quiet (fail)
      go_wp2
      go_roundw
      case rel => exact ⟨k + 1, by omega, by go_num, Lib.hid (HBq.out _)⟩
      case measure => simp [intOf]; omega
    · go_wp2
      go_ret
      exact ⟨rfl, HB.out⟩
set_option maxHeartbeats 1000000 in
theorem sameNode_same (v u : Value) (ns : List (List KeyD)) (w : World) (hv : Reads w w.heap.size v (setsD ns)) (hu : Reads w w.heap.size u (setsD ns)) (hs : SmallN ns) : Calls Try.prog 14 #[.agg #[v], .agg #[u]] w (SaysBool w true) := by
  obtain ⟨A, c, rfl, _, _⟩ := hv.lenN
  obtain ⟨A', c', rfl, _, _⟩ := hu.lenN
  have B0 := bal2 w (.cells #[.slice A ns.length c] 26) (.cells #[.slice A' ns.length c'] 26)
  obtain ⟨q0, q1⟩ := al2 w (.cells #[.slice A ns.length c] 26) (.cells #[.slice A' ns.length c'] 26)
  have HB := Lib.hid B0
  have Q0 := Lib.hid q0
  have Q1 := Lib.hid q1
  have HV := Lib.hid (hv.on B0)
  have HU := Lib.hid (hu.on B0)
  have HS := Lib.hid hs
  have hn := hs.1
  have hne : ((ns.length : Int) != (ns.length : Int)) = false := by simp
  clear hv hu hs B0 q0 q1
  go_enter Try.func14, Try.ntmps14
  go_upto_region 1 with (fail)
  generalize (w.alloc (.cells #[.slice A ns.length c] 26)).alloc (.cells #[.slice A' ns.length c'] 26) = W at *
  obtain ⟨x0, x1⟩ := box1N Q0.out
  obtain ⟨y0, y1⟩ := box1N Q1.out
  go_wp2
  clear x0 x1 y0 y1
  go_loopw [5] (fun i wr => ∃ k : Nat, k ≤ ns.length ∧ i = .int .i64 k ∧ Hid (Below W.heap.size W wr)) (fun i _ => ns.length - (intOf i).toNat)
  case atStart => exact ⟨0, Nat.zero_le _, rfl, Lib.hid (Below.refl _ _)⟩
  case round =>
    obtain ⟨k, hk, rfl, HW⟩ := hrel
    have R0 := Lib.hid (box_on Q0.out HW.out)
    have R1 := Lib.hid (box_on Q1.out HW.out)
    obtain ⟨x0, x1⟩ := box1N R0.out
    by_cases hlt : k < ns.length
    · obtain ⟨b, off, rfl, hbb, hc⟩ := (HV.out.on HW.out).set hlt
      obtain ⟨b2, off2, rfl, hbb2, hc2⟩ := (HU.out.on HW.out).set hlt
      obtain ⟨A1, d1, c1, _, _, r1⟩ := hc k hlt
      obtain ⟨A2, d2, c2, _, _, r2⟩ := hc2 k hlt
      have hl := HS.out.at hlt
      have RA := Lib.hid r1
      have RB := Lib.hid r2
      have C1 := Lib.hid c1
      have C2 := Lib.hid c2
      have i1 : (k : Int) < (ns.length : Int) := by omega
      have i2 : (0 : Int) ≤ (k : Int) := by omega
      clear hc hc2 r1 r2 c1 c2
      go_upto_region 6 with (fail)
      clear x0 x1
      refine but_begin (f := 11) (S := fun V => Below wr.heap.size wr V) (by kernel_rfl) ?_
      refine but_take (f := 11) (i := 0) (v := ?vs0) rfl (by kernel_rfl) (by kernel_rfl) (by kernel_rfl) (by kernel_rfl) (by kernel_rfl) (fun _ _ _ h => h) (Or.inl ⟨(by rfl), ?hys0⟩) (Below.drew1 _) ?rests0
      case hys0 =>
        intro W hW
        go_simp
        exact rfl
      simp only [List.getElem_toArray, List.getElem_cons_succ, List.getElem_cons_zero, Act.put, List.setIfInBounds_toArray, List.set_cons_zero, List.set_cons_succ]
      refine but_take (f := 11) (i := 1) (v := ?vs1) rfl (by kernel_rfl) (by kernel_rfl) (by kernel_rfl) (by kernel_rfl) (by kernel_rfl) (fun _ _ _ h => h) (Or.inl ⟨(by rfl), ?hys1⟩) (Below.drew1 _) ?rests1
      case hys1 =>
        intro W hW
        obtain ⟨x0, x1⟩ := box1N (box_on R0.out hW)
        obtain ⟨y0, y1⟩ := box1N (box_on R1.out hW)
        go_simp
        exact rfl
      simp only [List.getElem_toArray, List.getElem_cons_succ, List.getElem_cons_zero, Act.put, List.setIfInBounds_toArray, List.set_cons_zero, List.set_cons_succ]
      refine but_take (f := 11) (i := 2) (v := ?vs2) rfl (by kernel_rfl) (by kernel_rfl) (by kernel_rfl) (by kernel_rfl) (by kernel_rfl) (fun _ _ _ h => h) (Or.inl ⟨(by rfl), ?hys2⟩) (Below.drew1 _) ?rests2
      case hys2 =>
        intro W hW
        go_simp
        exact rfl
      simp only [List.getElem_toArray, List.getElem_cons_succ, List.getElem_cons_zero, Act.put, List.setIfInBounds_toArray, List.set_cons_zero, List.set_cons_succ]
      refine but_take (f := 11) (i := 3) (v := ?vs3) rfl (by kernel_rfl) (by kernel_rfl) (by kernel_rfl) (by kernel_rfl) (by kernel_rfl) (fun _ _ _ h => h) (Or.inl ⟨(by rfl), ?hys3⟩) (Below.drew1 _) ?rests3
      case hys3 =>
        intro W hW
        go_simp
        exact rfl
      simp only [List.getElem_toArray, List.getElem_cons_succ, List.getElem_cons_zero, Act.put, List.setIfInBounds_toArray, List.set_cons_zero, List.set_cons_succ]
      refine but_take (f := 11) (i := 4) (v := ?vs4) rfl (by kernel_rfl) (by kernel_rfl) (by kernel_rfl) (by kernel_rfl) (by kernel_rfl) (fun _ _ _ h => h) (Or.inl ⟨(by rfl), ?hys4⟩) (Below.drew1 _) ?rests4
      case hys4 =>
        intro W hW
        have hcc := (hW.cell (p := ⟨b, off + k, none⟩) hbb).trans C1.out
        have hcd := (hW.cell (p := ⟨b2, off2 + k, none⟩) hbb2).trans C2.out
        go_simp
        exact rfl
      simp only [List.getElem_toArray, List.getElem_cons_succ, List.getElem_cons_zero, Act.put, List.setIfInBounds_toArray, List.set_cons_zero, List.set_cons_succ]
      refine but_take (f := 11) (i := 5) (v := ?vs5) rfl (by kernel_rfl) (by kernel_rfl) (by kernel_rfl) (by kernel_rfl) (by kernel_rfl) (fun _ _ _ h => h) (Or.inl ⟨(by rfl), ?hys5⟩) (Below.drew1 _) ?rests5
      case hys5 =>
        intro W hW
        go_simp
        exact rfl
      simp only [List.getElem_toArray, List.getElem_cons_succ, List.getElem_cons_zero, Act.put, List.setIfInBounds_toArray, List.set_cons_zero, List.set_cons_succ]
      refine but_take (f := 11) (i := 6) (v := ?vs6) rfl (by kernel_rfl) (by kernel_rfl) (by kernel_rfl) (by kernel_rfl) (by kernel_rfl) (fun _ _ _ h => h) (Or.inl ⟨(by rfl), ?hys6⟩) (Below.drew1 _) ?rests6
      case hys6 =>
        intro W hW
        obtain ⟨x0, x1⟩ := box1N (box_on R0.out hW)
        obtain ⟨y0, y1⟩ := box1N (box_on R1.out hW)
        go_simp
        exact rfl
      simp only [List.getElem_toArray, List.getElem_cons_succ, List.getElem_cons_zero, Act.put, List.setIfInBounds_toArray, List.set_cons_zero, List.set_cons_succ]
      refine but_take (f := 11) (i := 7) (v := ?vs7) rfl (by kernel_rfl) (by kernel_rfl) (by kernel_rfl) (by kernel_rfl) (by kernel_rfl) (fun _ _ _ h => h) (Or.inl ⟨(by rfl), ?hys7⟩) (Below.drew1 _) ?rests7
      case hys7 =>
        intro W hW
        go_simp
        exact rfl
      simp only [List.getElem_toArray, List.getElem_cons_succ, List.getElem_cons_zero, Act.put, List.setIfInBounds_toArray, List.set_cons_zero, List.set_cons_succ]
      refine but_take (f := 11) (i := 8) (v := ?vs8) rfl (by kernel_rfl) (by kernel_rfl) (by kernel_rfl) (by kernel_rfl) (by kernel_rfl) (fun _ _ _ h => h) (Or.inl ⟨(by rfl), ?hys8⟩) (Below.drew1 _) ?rests8
      case hys8 =>
        intro W hW
        go_simp
        exact rfl
      simp only [List.getElem_toArray, List.getElem_cons_succ, List.getElem_cons_zero, Act.put, List.setIfInBounds_toArray, List.set_cons_zero, List.set_cons_succ]
      refine but_take (f := 11) (i := 9) (v := ?vs9) rfl (by kernel_rfl) (by kernel_rfl) (by kernel_rfl) (by kernel_rfl) (by kernel_rfl) (fun _ _ _ h => h) (Or.inl ⟨(by rfl), ?hys9⟩) (Below.drew1 _) ?rests9
      case hys9 =>
        intro W hW
        have hcc := (hW.cell (p := ⟨b, off + k, none⟩) hbb).trans C1.out
        have hcd := (hW.cell (p := ⟨b2, off2 + k, none⟩) hbb2).trans C2.out
        go_simp
        exact rfl
      simp only [List.getElem_toArray, List.getElem_cons_succ, List.getElem_cons_zero, Act.put, List.setIfInBounds_toArray, List.set_cons_zero, List.set_cons_succ]
      refine but_run (i := 10) (by kernel_rfl) rfl (by rfl) ?_
      simp only [List.getElem_toArray, List.getElem_cons_succ, List.getElem_cons_zero]
      intro K HK
      go_wp2_with fail
      refine (sameKeysN _ _ ns[k] _ (RA.out.on (Below.drew1 _)) (RB.out.on (Below.drew1 _)) (by omega)).mono ?_
      rintro r Vs1 ⟨rfl, hbs1⟩
      go_wp2_with fail
      have hSs1 : (fun V => Below wr.heap.size wr V) Vs1 := bstep (Below.drew1 _) hbs1
      refine HK.out _ _ (fun _ => hSs1) ?_
      clear HK
      refine but_run (i := 11) (by kernel_rfl) rfl (by rfl) ?_
      simp only [List.getElem_toArray, List.getElem_cons_succ, List.getElem_cons_zero]
      intro K HK
      go_wp2_with fail
      refine HK.out _ _ (fun h => absurd rfl h) ?_
      clear HK
      refine but_done (by kernel_rfl) ?_
      have HW2 := Lib.hid (HW.out.trans (hSs1.mono HW.out.size))
      clear hSs1 hbs1
      go_wp2
      go_roundw
      case rel => exact ⟨k + 1, by omega, by go_num, HW2⟩
      case measure => simp [intOf]; omega
    · go_wp2
      go_ret
      exact ⟨rfl, bstep HB.out HW.out⟩
/-- A drawn node that is valid, and a valid key. -/
def DNode (w : World) (e : Ending) (w' : World) : Prop := ∃ v ns x, e = .returned (.tuple #[.agg #[v], KeyD.v x]) ∧ Owns w' (fun b => w.heap.size ≤ b) v (setsD ns) ∧ nodeOkB ns = true ∧ okK x = true ∧ Below w.heap.size w w'
set_option maxHeartbeats 1000000 in
theorem drawNode_any (A : Option Addr) (cap : Nat) (l : List UInt8) (w : World) (hr : Rd w w.heap.size A l) (hn : l.length ≤ 1048576) : Calls Try.prog 12 #[.slice A l.length cap] w (DNode w) := by
  have B0 := bal2 w (.cells #[.slice none 0 0] 26) (.cells #[.int .i64 0, .int .i64 0, .int .i64 0, .int .i64 0, .int .i64 0] 28)
  obtain ⟨q0, q1⟩ := al2 w (.cells #[.slice none 0 0] 26) (.cells #[.int .i64 0, .int .i64 0, .int .i64 0, .int .i64 0, .int .i64 0] 28)
  have HB := Lib.hid B0
  have Q0 := Lib.hid q0
  have Q1 := Lib.hid q1
  have HR := Lib.hid (hr.on B0)
  have HD := Lib.hid l3Draw_any
  unfold AKey keyV at HD
  have HZ : Hid (((w.alloc (.cells #[.slice none 0 0] 26)).alloc (.cells #[.int .i64 0, .int .i64 0, .int .i64 0, .int .i64 0, .int .i64 0] 28)).heap.size = w.heap.size + 2) := Lib.hid (by simp)
  clear hr B0 q0 q1
  go_enter Try.func12, Try.ntmps12
  go_upto_region 1 with (fail)
  generalize (w.alloc (.cells #[.slice none 0 0] 26)).alloc (.cells #[.int .i64 0, .int .i64 0, .int .i64 0, .int .i64 0, .int .i64 0] 28) = W at *
  have hz1 := Nat.le_of_eq HZ.out
  have hz2 := Nat.le_of_eq HZ.out.symm
  clear HZ
  go_wp2_with fail
  refine (l1New_any _ _ l _ HR.out hn).mono ?_
  rintro r w1 ⟨p, rfl, c1, hp, b1⟩
  have Q2 := Lib.hid (box_on Q0.out b1)
  have Q3 := Lib.hid (box_on Q1.out b1)
  have B1 := Lib.hid (bstep HB.out b1)
  have hz3 := b1.size
  have hlt := c1.lt
  clear b1 Q0 Q1 HR
  go_wp2_with fail
  refine (l5Draw_any p w1 c1).mono ?_
  rintro r w2 ⟨u, ns, rfl, o2, hok, c2, g2⟩
  obtain ⟨Au, cu, rfl, _, _⟩ := o2.reads.lenN
  have QO := Lib.hid (al1 w2 (.cells #[.slice Au ns.length cu] 26))
  have OU := Lib.hid (o2.lt.on (bal1 w2 (.cells #[.slice Au ns.length cu] 26)))
  have CC := Lib.hid (c2.alloc (.cells #[.slice Au ns.length cu] 26))
  have Q4 := Lib.hid (box_on (box_grows Q2.out g2 (by omega)) (bal1 w2 (.cells #[.slice Au ns.length cu] 26)))
  have Q5 := Lib.hid (box_on (box_grows Q3.out g2 (by omega)) (bal1 w2 (.cells #[.slice Au ns.length cu] 26)))
  have B2 := Lib.hid (bstep (below_of_only B1.out g2 (by omega)) (bal1 w2 (.cells #[.slice Au ns.length cu] 26)))
  have hz4 := g2.size
  have hz5 : w2.heap.size + 1 ≤ (w2.alloc (.cells #[.slice Au ns.length cu] 26)).heap.size := by simp
  have HOK := Lib.hid hok
  clear o2 c2 g2 hok c1 Q2 Q3 B1
  go_upto_region 3 with (fail)
  generalize w2.alloc (.cells #[.slice Au ns.length cu] 26) = W2 at *
  have CD := Lib.hid (CC.out.keep (w' := W2.drew) (fun _ _ => rfl))
  refine but_begin (f := 4) (S := fun V => V.heap[w2.heap.size]? = some (.cells #[.slice Au ns.length cu] 26)) (by kernel_rfl) ?_
  refine but_take (f := 4) (i := 0) (v := ?vd0) rfl (by kernel_rfl) (by kernel_rfl) (by kernel_rfl) (by kernel_rfl) (by kernel_rfl) (fun _ _ _ h => h) (Or.inl ⟨(by rfl), ?hyd0⟩) (show W2.drew.heap[w2.heap.size]? = some _ from QO.out) ?restd0
  case hyd0 =>
    intro W hW
    obtain ⟨z0, z1⟩ := box1N hW
    go_simp
    exact rfl
  simp only [List.getElem_toArray, List.getElem_cons_succ, List.getElem_cons_zero, Act.put, List.setIfInBounds_toArray, List.set_cons_zero, List.set_cons_succ]
  refine but_take (f := 4) (i := 1) (v := ?vd1) rfl (by kernel_rfl) (by kernel_rfl) (by kernel_rfl) (by kernel_rfl) (by kernel_rfl) (fun _ _ _ h => h) (Or.inl ⟨(by rfl), ?hyd1⟩) (show W2.drew.heap[w2.heap.size]? = some _ from QO.out) ?restd1
  case hyd1 =>
    intro W hW
    go_simp
    exact rfl
  simp only [List.getElem_toArray, List.getElem_cons_succ, List.getElem_cons_zero, Act.put, List.setIfInBounds_toArray, List.set_cons_zero, List.set_cons_succ]
  refine but_run (i := 2) (by kernel_rfl) rfl (by rfl) ?_
  simp only [List.getElem_toArray, List.getElem_cons_succ, List.getElem_cons_zero]
  intro K HK
  go_wp2_with fail
  refine (HD.out p _ CD.out).mono ?_
  rintro r Vd1 ⟨xa, xb, xc, xd, xe, rfl, sm, c3, g3⟩
  go_wp2_with fail
  have hSd1 : (fun V => V.heap[w2.heap.size]? = some (.cells #[.slice Au ns.length cu] 26)) Vd1 := box_grows (show W2.drew.heap[w2.heap.size]? = some _ from QO.out) g3 (by omega)
  refine HK.out _ _ (fun _ => hSd1) ?_
  clear HK
  have O3 := Lib.hid ((OU.out.on (Below.drew1 W2)).far (only_ofN g3) (fun b hb _ e => by have := hb.1; omega))
  have Q6 := Lib.hid (box_grows (show W2.drew.heap[w.heap.size]? = some _ from Q4.out) g3 (by omega))
  have Q7 := Lib.hid (box_grows (show W2.drew.heap[w.heap.size + 1]? = some _ from Q5.out) g3 (by omega))
  have B3 := Lib.hid (below_of_only (bstep B2.out (Below.drew1 W2)) g3 (by omega))
  have OKX := Lib.hid (show okK ⟨xa, xb, xc, xd, xe⟩ = true from sm.2.2)
  clear c3 g3 sm
  refine but_run (i := 3) (by kernel_rfl) rfl (by rfl) ?_
  simp only [List.getElem_toArray, List.getElem_cons_succ, List.getElem_cons_zero]
  intro K HK
  obtain ⟨y0, y1⟩ := box1N Q6.out
  go_wp2_with fail
  have hSd2 : (fun V => V.heap[w2.heap.size]? = some (.cells #[.slice Au ns.length cu] 26)) (Vd1.setCell ⟨w.heap.size, 0, none⟩ (.slice Au ns.length cu)) := box_far hSd1 (by omega)
  refine HK.out _ _ (fun _ => hSd2) ?_
  clear HK
  have Q8 := Lib.hid (box_set (i := 0) (u := .slice Au ns.length cu) Q6.out)
  have Q9 := Lib.hid (box_far (j := 0) (u := .slice Au ns.length cu) Q7.out (show w.heap.size + 1 ≠ w.heap.size by omega))
  have O4 := Lib.hid (O3.out.setFar (u := .slice Au ns.length cu) (j := 0) (g := w.heap.size) (fun h => by have := h.1; omega))
  have B4 := Lib.hid (B3.out.setCell (p := ⟨w.heap.size, 0, none⟩) (Nat.le_refl _) (.slice Au ns.length cu))
  clear y0 y1
  refine but_run (i := 4) (by kernel_rfl) rfl (by rfl) ?_
  simp only [List.getElem_toArray, List.getElem_cons_succ, List.getElem_cons_zero]
  obtain ⟨y0, y1, y2, y3, y4, y5⟩ := box5 Q9.out
  obtain ⟨x0, x1⟩ := box1N Q8.out
  generalize Vd1.setCell ⟨w.heap.size, 0, none⟩ (.slice Au ns.length cu) = V9 at *
  intro K HK
  go_wp2_with fail
  refine HK.out _ _ (fun h => absurd rfl h) ?_
  clear HK
  refine but_done (by kernel_rfl) ?_
  have n1 : ¬ w.heap.size = w.heap.size + 1 := by omega
  have n2 : ¬ w.heap.size + 1 = w.heap.size := by omega
  go_wp2
  refine bodyPost_ret (v := .tuple #[.agg #[.slice Au ns.length cu], KeyD.v ⟨xa, xb, xc, xd, xe⟩]) (by simp [results, Try.results12, go_sem, KeyD.v, keyV, x0, x1, y0, y1, y2, y3, y4, y5]) rfl ⟨_, ns, _, rfl, ?_, HOK.out, OKX.out, ?_⟩
  · exact ((((((O4.out.setFar (fun h => by have := h.1; omega)).setFar (fun h => by have := h.1; omega)).setFar (fun h => by have := h.1; omega)).setFar (fun h => by have := h.1; omega)).setFar (fun h => by have := h.1; omega)).mono (fun b hb => by have := hb.1; omega))
  · exact b5' B4.out (show w.heap.size ≤ w.heap.size + 1 by omega)
end Go.Proofs.Ytncjedbdkanleaa
