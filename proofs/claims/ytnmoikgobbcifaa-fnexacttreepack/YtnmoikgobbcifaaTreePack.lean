/- Contracts of spec.TreePack and impl.TreePack. Conditions: at most 2^20 bounds, nodes, sets and keys. -/
import Derived.Test.YtnmoikgobbcifaaTreeCopy
import Derived.Test.YtnmoikgobbcifaaTreeKeys
import Derived.Test.YtnmoikgobbcifaaNodeBox
import Derived.Test.YtnmoikgobbcifaaTreeOk
namespace Go.Proofs.Ytnmoikgobbcifaa
open Go.RowKit
set_option maxRecDepth 100000
set_option linter.unusedSimpArgs false
set_option linter.unusedVariables false
def treePackK (ts : List NodeD) (p : Int) : List NodeD := if 0 ≤ p ∧ p < (ts.length : Int) then ts.set p.toNat (nodePackK (ts.getD p.toNat [])) else ts
theorem nodePack_size (ns : NodeD) : (nodePackK ns).length + sumN (nodePackK ns) ≤ ns.length + sumN ns := by
  unfold nodePackK
  rw [sum_new]
  have h1 := nodeKeys_len ns
  unfold nodeNewK
  split
  · simp; omega
  · rename_i h
    have : ns ≠ [] := by rintro rfl; exact h rfl
    have := List.length_pos_iff.2 this
    simp; omega
theorem sumT_set (ts : List NodeD) (i : Nat) (n : NodeD) (h : i < ts.length) : sumT (ts.set i n) + ((ts[i]).length + sumN ts[i]) = sumT ts + (n.length + sumN n) := by
  induction ts generalizing i with
  | nil => simp at h
  | cons a ts ih =>
    cases i with
    | zero => simp only [List.set_cons_zero, sumT_cons, List.getElem_cons_zero]; omega
    | succ i =>
      have := ih i (by simpa using h)
      simp only [List.set_cons_succ, sumT_cons, List.getElem_cons_succ]; omega
theorem treePack_small (ts : List NodeD) (p : Int) : (treePackK ts p).length = ts.length ∧ sumT (treePackK ts p) ≤ sumT ts := by
  unfold treePackK
  split
  · rename_i h
    have hlt : p.toNat < ts.length := by omega
    have h1 := sumT_set ts p.toNat (nodePackK (ts.getD p.toNat [])) hlt
    have h2 := nodePack_size (ts.getD p.toNat [])
    rw [getD_node hlt] at h1 h2 ⊢
    exact ⟨by simp, by omega⟩
  · exact ⟨rfl, Nat.le_refl _⟩
theorem Owns.setNode {w w' : World} {S : Nat → Prop} {g cap : Nat} {ts : List NodeD} {i : Nat} {x : Value} {ns : NodeD} (h : Owns w S (.slice (some ⟨g, 0, none⟩) ts.length cap) (nodesD ts)) (hb : Below w.heap.size w w') (hx : Owns w' (fun b => w.heap.size ≤ b) x (setsD ns)) :
    Owns (w'.setCell ⟨g, i, none⟩ x) (fun b => S b ∨ w.heap.size ≤ b) (.slice (some ⟨g, 0, none⟩) ts.length cap) (nodesD (ts.set i ns)) := by
  rcases h.rw' with ⟨hv, _⟩ | ⟨g', cap', xs, hv, hS, hR, hn, hc, hl, hx', ho⟩
  · cases hv
  · cases hv
    have hg := hR.lt
    have hR2 := (hR.keep (hb.block g hg)).set i x
    have k1 := (ho.lt.on hb).setN (i := i) hx (fun b hb hb' => by have := hb.2; omega)
    have k2 : OwnsL (w'.setCell ⟨g, i, none⟩ x) (fun b => (S b ∨ w.heap.size ≤ b) ∧ b ≠ g) (xs.set i x) ((ts.set i ns).map setsD) := by
      rw [List.map_set]
      refine OwnsL.mono (k1.keep (w' := w'.setCell ⟨g, i, none⟩ x) (fun b hb _ => Below.heap_setCell _ _ _ _ ?_)) ?_
      · rcases hb with hb | hb
        · exact hb.1.2
        · simp; omega
      · rintro b (hb | hb)
        · exact ⟨.inl hb.1.1, hb.1.2⟩
        · exact ⟨.inr hb, by omega⟩
    have h5 := hR2.owns (S := fun b => S b ∨ w.heap.size ≤ b) (.inl hS) k2 hn hc (by simp)
    unfold nodesD
    rw [List.length_set]
    exact h5
theorem Owns.nodeRow {w : World} {S : Nat → Prop} {A : Option Addr} {n cap : Nat} {ts : List NodeD} (h : Owns w S (.slice A n cap) (nodesD ts)) {i : Nat} (hi : i < ts.length) : ∃ g x, A = some ⟨g, 0, none⟩ ∧ S g ∧ g < w.heap.size ∧ w.cell? ⟨g, i, none⟩ = some x ∧ ∀ o, w.frozen? ⟨g, o, none⟩ = false := by
  rcases h.rw' with ⟨_, h0, _⟩ | ⟨g', cap', xs, hv, hS, hR, hn, hc, hl, hx', ho⟩
  · omega
  · cases hv
    exact ⟨g', _, rfl, hS, hR.lt, hR.cell (by rw [hx']; simpa using hi), fun o => hR.frozen o⟩
set_option maxHeartbeats 8000000 in
theorem specTreePack_any (vl vn : Value) (lo : List Int) (ts : List NodeD) (p : Int) (w : World) (hv : RdT w w.heap.size vl vn lo ts) (hs : SmallT lo ts) (hn : sumT ts ≤ 1048576) : Calls Try.prog 38 #[.agg #[vl, vn], .int .i64 p] w (NewTS w lo (treePackK ts p)) := by
  obtain ⟨A, c, B, d, rfl, rfl⟩ := hv.shape
  have HS := Lib.hid hs
  have s1 := hs.1
  have s2 := hs.2.1
  obtain ⟨q0, q1⟩ := al2 w (.cells #[.slice A lo.length c, .slice B ts.length d] 27) (.cells #[.slice none 0 0, .slice none 0 0] 27)
  have hb2 := bal2 w (.cells #[.slice A lo.length c, .slice B ts.length d] 27) (.cells #[.slice none 0 0, .slice none 0 0] 27)
  have hz2 : ((w.alloc (.cells #[.slice A lo.length c, .slice B ts.length d] 27)).alloc (.cells #[.slice none 0 0, .slice none 0 0] 27)).heap.size = w.heap.size + 2 := by simp
  have HV := Lib.hid (hv.on hb2)
  have HB := Lib.hid hb2
  have Q0 := Lib.hid q0
  have Q1 := Lib.hid q1
  have HZ2 := Lib.hid hz2
  have HIN : Hid (0 ≤ p ∧ p < (ts.length : Int) → treePackK ts p = ts.set p.toNat (nodePackK (ts.getD p.toNat []))) := Lib.hid (fun h => if_pos h)
  have HOUT : Hid (¬ (0 ≤ p ∧ p < (ts.length : Int)) → treePackK ts p = ts) := Lib.hid (fun h => if_neg h)
  generalize treePackK ts p = rt at *
  clear hv hs q0 q1 hb2 hz2
  go_enter Try.func38, Try.ntmps38
  go_upto_region 1 with (fail)
  generalize (w.alloc (.cells #[.slice A lo.length c, .slice B ts.length d] 27)).alloc (.cells #[.slice none 0 0, .slice none 0 0] 27) = W at *
  have hz2 := Nat.le_of_eq HZ2.out
  have hz3 := Nat.le_of_eq HZ2.out.symm
  obtain ⟨x0, x1, x2⟩ := box2 Q0.out
  go_wp2_with fail
  refine (l6Copy_any _ _ lo ts _ HV.out HS.out).mono ?_
  rintro e w1 ⟨vl1, vn1, rfl, o1, b1⟩
  obtain ⟨A1, c1, B1, d1, rfl, rfl⟩ := o1.reads.shape
  clear x0 x1 x2
  have ba := bal1 w1 (.cells #[.slice A1 lo.length c1, .slice B1 ts.length d1] 27)
  have q5 := al1 w1 (.cells #[.slice A1 lo.length c1, .slice B1 ts.length d1] 27)
  have hzA : (w1.alloc (.cells #[.slice A1 lo.length c1, .slice B1 ts.length d1] 27)).heap.size = w1.heap.size + 1 := by simp
  have O1 := Lib.hid (o1.lt.on ba)
  replace HV := Lib.hid ((HV.out.on b1).on ba)
  replace HB := Lib.hid (bstep (bstep HB.out b1) ba)
  replace Q0 := Lib.hid (box_on (box_on Q0.out b1) ba)
  replace Q1 := Lib.hid (box_on (box_on Q1.out b1) ba)
  have Q5 := Lib.hid q5
  have hb1 := b1.size
  have HZA := Lib.hid hzA
  clear o1 b1 ba q5 hzA
  go_upto_region 2 with (fail)
  generalize w1.alloc (.cells #[.slice A1 lo.length c1, .slice B1 ts.length d1] 27) = W2 at *
  have hy1 := Nat.le_of_eq HZA.out
  have hy2 := Nat.le_of_eq HZA.out.symm
  obtain ⟨x0, x1, x2⟩ := box2 Q0.out
  go_wp2_with fail
  refine (l1In_any p 0 ((ts.length : Int) - 1) _).mono ?_
  rintro e w2 ⟨rfl, rfl⟩
  by_cases hin : 0 ≤ p ∧ p < (ts.length : Int)
  · have hrt := HIN.out hin
    obtain ⟨i, rfl⟩ := Int.eq_ofNat_of_zero_le hin.1
    have hlt : i < ts.length := by have := hin.2; omega
    have d1' : (decide ((0 : Int) ≤ (i : Int)) && decide ((i : Int) ≤ (ts.length : Int) - 1)) = true := by simp; omega
    rw [d1']
    rw [show ((i : Int)).toNat = i from rfl, getD_node hlt] at hrt
    have HRT := Lib.hid hrt
    obtain ⟨P, R, hP, hR, hPR, ol, on⟩ := O1.out
    obtain ⟨g, x, hg0, hRg, hgl, gc, gf⟩ := on.nodeRow hlt
    subst hg0
    obtain ⟨b, off, hbe, hbb, hc⟩ := HV.out.2.node hlt
    subst hbe
    obtain ⟨A2, d2, e1, _, _, r1⟩ := hc i hlt
    have hsm := sumT_mem (List.getElem_mem hlt)
    have i1 : (i : Int) < (ts.length : Int) := by omega
    have i2 : (0 : Int) ≤ (i : Int) := by omega
    have hRg2 := hR g hRg
    have hn5 : ¬ g = w1.heap.size := by omega
    have R1 := Lib.hid r1
    have OL := Lib.hid ol
    have ON := Lib.hid on
    have HG := Lib.hid (And.intro gc gf)
    clear hc r1 ol on gc gf hrt d1' hin x0 x1 x2
    obtain ⟨x0, x1, x2⟩ := box2 Q0.out
    obtain ⟨y0, y1, y2⟩ := box2 Q5.out
    go_wp2
    have hSW : NC2 w.heap.size b (off + i) (.slice (some ⟨b, off, none⟩) ts.length d) (.slice A2 (ts[i]).length d2) w1.heap.size (.slice (some ⟨g, 0, none⟩) ts.length d1) W2.drew := ⟨x1, e1, y1⟩
    have hSV : NC2 w.heap.size b (off + i) (.slice (some ⟨b, off, none⟩) ts.length d) (.slice A2 (ts[i]).length d2) w1.heap.size (.slice (some ⟨g, 0, none⟩) ts.length d1) W2 := ⟨x1, e1, y1⟩
    refine but_begin (f := 10) (S := NC2 w.heap.size b (off + i) (.slice (some ⟨b, off, none⟩) ts.length d) (.slice A2 (ts[i]).length d2) w1.heap.size (.slice (some ⟨g, 0, none⟩) ts.length d1)) (by kernel_rfl) ?_
    refine but_take (f := 10) (i := 0) (v := ?v0) rfl (by kernel_rfl) (by kernel_rfl) (by kernel_rfl) (by kernel_rfl) (by kernel_rfl) (fun _ _ _ h => h) (Or.inl ⟨by rfl, ?hy0⟩) hSW ?rest0
    case hy0 =>
      intro W hW
      obtain ⟨h1, h2, h3⟩ := hW
      go_simp
      exact rfl
    simp only [List.getElem_toArray, List.getElem_cons_succ, List.getElem_cons_zero, Act.put, List.setIfInBounds_toArray, List.set_cons_zero, List.set_cons_succ]
    refine but_take (f := 10) (i := 1) (v := ?v1) rfl (by kernel_rfl) (by kernel_rfl) (by kernel_rfl) (by kernel_rfl) (by kernel_rfl) (fun _ _ _ h => h) (Or.inl ⟨by rfl, ?hy1⟩) hSW ?rest1
    case hy1 =>
      intro W hW
      obtain ⟨h1, h2, h3⟩ := hW
      go_simp
      exact rfl
    simp only [List.getElem_toArray, List.getElem_cons_succ, List.getElem_cons_zero, Act.put, List.setIfInBounds_toArray, List.set_cons_zero, List.set_cons_succ]
    refine but_take (f := 10) (i := 2) (v := ?v2) rfl (by kernel_rfl) (by kernel_rfl) (by kernel_rfl) (by kernel_rfl) (by kernel_rfl) (fun _ _ _ h => h) (Or.inl ⟨by rfl, ?hy2⟩) hSW ?rest2
    case hy2 =>
      intro W hW
      obtain ⟨h1, h2, h3⟩ := hW
      go_simp
      exact rfl
    simp only [List.getElem_toArray, List.getElem_cons_succ, List.getElem_cons_zero, Act.put, List.setIfInBounds_toArray, List.set_cons_zero, List.set_cons_succ]
    refine but_take (f := 10) (i := 3) (v := ?v3) rfl (by kernel_rfl) (by kernel_rfl) (by kernel_rfl) (by kernel_rfl) (by kernel_rfl) (fun _ _ _ h => h) (Or.inl ⟨by rfl, ?hy3⟩) hSW ?rest3
    case hy3 =>
      intro W hW
      obtain ⟨h1, h2, h3⟩ := hW
      go_simp
      exact rfl
    simp only [List.getElem_toArray, List.getElem_cons_succ, List.getElem_cons_zero, Act.put, List.setIfInBounds_toArray, List.set_cons_zero, List.set_cons_succ]
    refine but_take (f := 10) (i := 4) (v := ?v4) rfl (by kernel_rfl) (by kernel_rfl) (by kernel_rfl) (by kernel_rfl) (by kernel_rfl) (fun _ _ _ h => h) (Or.inl ⟨by rfl, ?hy4⟩) hSW ?rest4
    case hy4 =>
      intro W hW
      obtain ⟨h1, h2, h3⟩ := hW
      go_simp
      exact rfl
    simp only [List.getElem_toArray, List.getElem_cons_succ, List.getElem_cons_zero, Act.put, List.setIfInBounds_toArray, List.set_cons_zero, List.set_cons_succ]
    refine but_take (f := 10) (i := 5) (v := ?v5) rfl (by kernel_rfl) (by kernel_rfl) (by kernel_rfl) (by kernel_rfl) (by kernel_rfl) (fun _ _ _ h => h) (Or.inl ⟨by rfl, ?hy5⟩) hSW ?rest5
    case hy5 =>
      intro W hW
      obtain ⟨h1, h2, h3⟩ := hW
      go_simp
      exact rfl
    simp only [List.getElem_toArray, List.getElem_cons_succ, List.getElem_cons_zero, Act.put, List.setIfInBounds_toArray, List.set_cons_zero, List.set_cons_succ]
    refine but_take (f := 10) (i := 6) (v := ?v6) rfl (by kernel_rfl) (by kernel_rfl) (by kernel_rfl) (by kernel_rfl) (by kernel_rfl) (fun _ _ _ h => h) (Or.inl ⟨by rfl, ?hy6⟩) hSW ?rest6
    case hy6 =>
      intro W hW
      obtain ⟨h1, h2, h3⟩ := hW
      go_simp
      exact rfl
    simp only [List.getElem_toArray, List.getElem_cons_succ, List.getElem_cons_zero, Act.put, List.setIfInBounds_toArray, List.set_cons_zero, List.set_cons_succ]
    refine but_take (f := 10) (i := 7) (v := ?v7) rfl (by kernel_rfl) (by kernel_rfl) (by kernel_rfl) (by kernel_rfl) (by kernel_rfl) (fun _ _ _ h => h) (Or.inl ⟨by rfl, ?hy7⟩) hSW ?rest7
    case hy7 =>
      intro W hW
      obtain ⟨h1, h2, h3⟩ := hW
      go_simp
      exact rfl
    simp only [List.getElem_toArray, List.getElem_cons_succ, List.getElem_cons_zero, Act.put, List.setIfInBounds_toArray, List.set_cons_zero, List.set_cons_succ]
    refine but_run (i := 8) (by kernel_rfl) rfl (by rfl) ?_
    simp only [List.getElem_toArray, List.getElem_cons_succ, List.getElem_cons_zero]
    intro K_ HK
    go_wp2_with fail
    refine (specNodePack_any _ ts[i] _ (R1.out.on (Below.drew1 _)) (by omega) (by omega)).mono ?_
    rintro e w6 ⟨v6, rfl, o6, b6'⟩
    obtain ⟨A6, c6, rfl, _, _⟩ := o6.reads.lenN
    have b6 : Below W2.heap.size W2 w6 := bstep (Below.drew1 _) b6'
    have hS6 := hSV.on b6
    go_wp2_with fail
    refine HK.out _ _ (fun _ => hS6) ?_
    clear HK
    have B6 := Lib.hid b6
    have O6 : Hid (Owns w6 (fun b => W2.heap.size ≤ b) (.slice A6 (nodePackK ts[i]).length c6) (setsD (nodePackK ts[i]))) := Lib.hid o6
    clear o6 b6 b6'
    try simp only [Act.put, List.setIfInBounds_toArray, List.set_cons_zero, List.set_cons_succ]
    refine but_run (i := 9) (by kernel_rfl) rfl (by rfl) ?_
    simp only [List.getElem_toArray, List.getElem_cons_succ, List.getElem_cons_zero]
    intro K_ HK
    go_wp2
    refine HK.out _ _ (fun _ => hS6) ?_
    clear HK
    have g1 : w6.cell? ⟨g, i, none⟩ = some x := ((bcell B6.out).1 g i hgl).trans HG.out.1
    have g2 : ∀ o, w6.frozen? ⟨g, o, none⟩ = false := fun o => ((bcell B6.out).2 g o hgl).trans (HG.out.2 o)
    refine but_run (i := 10) (by kernel_rfl) rfl (by rfl) ?_
    simp only [List.getElem_toArray, List.getElem_cons_succ, List.getElem_cons_zero]
    intro K_ HK
    go_wp2
    refine HK.out _ _ (fun h => (h rfl).elim) ?_
    clear HK
    refine but_done (by kernel_rfl) ?_
    have hz6 := B6.out.size
    have ON2 := Lib.hid (Owns.setNode (i := i) ON.out B6.out O6.out)
    have OL2 := Lib.hid ((OL.out.on B6.out).keep (w' := w6.setCell ⟨g, i, none⟩ (.slice A6 (nodePackK ts[i]).length c6)) (fun b hb _ => Below.heap_setCell _ _ _ _ (fun e => hPR b hb (by have e' : b = g := e; rw [e']; exact hRg))))
    have P0 := Lib.hid (box_far (j := i) (u := .slice A6 (nodePackK ts[i]).length c6) (box_on Q1.out B6.out) (show w.heap.size + 1 ≠ g by omega))
    have P5 := Lib.hid (box_far (j := i) (u := .slice A6 (nodePackK ts[i]).length c6) (box_on Q5.out B6.out) (show w1.heap.size ≠ g by omega))
    have BB := Lib.hid ((bstep HB.out B6.out).setCell (p := ⟨g, i, none⟩) (show w.heap.size ≤ g by omega) (.slice A6 (nodePackK ts[i]).length c6))
    have hz7 : (w6.setCell ⟨g, i, none⟩ (.slice A6 (nodePackK ts[i]).length c6)).heap.size = w6.heap.size := by simp
    clear HG g1 g2 ON OL O6 hS6 hSW hSV x0 x1 x2 y0 y1 y2 e1 Q0 Q1 Q5 HV
    generalize w6.setCell ⟨g, i, none⟩ (.slice A6 (nodePackK ts[i]).length c6) = W7 at *
    obtain ⟨x0, x1, x2⟩ := box2 P0.out
    obtain ⟨y0, y1, y2⟩ := box2 P5.out
    have n3 : ¬ w1.heap.size = w.heap.size + 1 := by omega
    go_wp2
    have HO : ∀ a b, Only (fun b => b = w.heap.size + 1) W7 ((W7.setCell ⟨w.heap.size + 1, 0, none⟩ a).setCell ⟨w.heap.size + 1, 1, none⟩ b) := fun a b => only_two _ _ _ _ _ _
    refine bodyPost_ret (v := .agg #[.slice A1 lo.length c1, .slice (some ⟨g, 0, none⟩) ts.length d1]) (by simp [results, Try.results38, go_sem, x0, x1, x2]) rfl ⟨_, _, rfl, ⟨P, fun b => R b ∨ W2.heap.size ≤ b, fun b hb => by have := hP b hb; omega, fun b hb => by rcases hb with hb | hb; (have := hR b hb; omega); omega, fun b hb hb' => by rcases hb' with hb' | hb'; (exact hPR b hb hb'); (have := hP b hb; omega), OL2.out.far (HO _ _) (fun b hb _ hb' => by have := hP b hb; omega), ?_⟩, BB.out.trans ((HO _ _).below BB.out.size (fun b hb => by omega))⟩
    rw [HRT.out]
    exact ON2.out.far (HO _ _) (fun b hb _ hb' => by rcases hb with hb | hb; (have := hR b hb; omega); omega)
  · have hrt := HOUT.out hin
    have d2' : (decide ((0 : Int) ≤ p) && decide (p ≤ (ts.length : Int) - 1)) = false := by
      rcases Int.lt_or_le p 0 with h | h
      · rw [decide_eq_false (by omega)]; rfl
      · rw [decide_eq_false (show ¬ p ≤ (ts.length : Int) - 1 by omega), Bool.and_false]
    rw [d2']
    have HRT := Lib.hid hrt
    clear hin hrt d2' x0 x1 x2
    obtain ⟨x0, x1, x2⟩ := box2 Q1.out
    obtain ⟨y0, y1, y2⟩ := box2 Q5.out
    have n3 : ¬ w1.heap.size = w.heap.size + 1 := by omega
    go_wp2
    have HO : ∀ a b, Only (fun b => b = w.heap.size + 1) W2 ((W2.setCell ⟨w.heap.size + 1, 0, none⟩ a).setCell ⟨w.heap.size + 1, 1, none⟩ b) := fun a b => only_two _ _ _ _ _ _
    have h9 := (O1.out.keep (w' := (W2.setCell ⟨w.heap.size + 1, 0, none⟩ (.slice A1 lo.length c1)).setCell ⟨w.heap.size + 1, 1, none⟩ (.slice B1 ts.length d1)) (fun b hb hl => (HO _ _).block b hl (fun e => by omega))).mono (T := fun b => w.heap.size ≤ b) (fun b hb => by omega)
    exact bodyPost_ret (v := .agg #[.slice A1 lo.length c1, .slice B1 ts.length d1]) (by simp [results, Try.results38, go_sem, x0, x1, x2]) rfl ⟨_, _, rfl, by rw [HRT.out]; exact h9, HB.out.trans ((HO _ _).below HB.out.size (fun b hb => by omega))⟩
set_option maxHeartbeats 8000000 in
theorem implTreePack_any (vl vn : Value) (lo : List Int) (ts : List NodeD) (p : Int) (w : World) (hv : RdT w w.heap.size vl vn lo ts) (hs : SmallT lo ts) (hn : sumT ts ≤ 1048576) : Calls Try.prog 14 #[.agg #[vl, vn], .int .i64 p] w (NewTS w lo (treePackK ts p)) := by
  obtain ⟨A, c, B, d, rfl, rfl⟩ := hv.shape
  have HS := Lib.hid hs
  have s1 := hs.1
  have s2 := hs.2.1
  obtain ⟨q0, q1⟩ := al2 w (.cells #[.slice A lo.length c, .slice B ts.length d] 27) (.cells #[.slice none 0 0, .slice none 0 0] 27)
  have hb2 := bal2 w (.cells #[.slice A lo.length c, .slice B ts.length d] 27) (.cells #[.slice none 0 0, .slice none 0 0] 27)
  have hz2 : ((w.alloc (.cells #[.slice A lo.length c, .slice B ts.length d] 27)).alloc (.cells #[.slice none 0 0, .slice none 0 0] 27)).heap.size = w.heap.size + 2 := by simp
  have HV := Lib.hid (hv.on hb2)
  have HB := Lib.hid hb2
  have Q0 := Lib.hid q0
  have Q1 := Lib.hid q1
  have HZ2 := Lib.hid hz2
  have HIN : Hid (0 ≤ p ∧ p < (ts.length : Int) → treePackK ts p = ts.set p.toNat (nodePackK (ts.getD p.toNat []))) := Lib.hid (fun h => if_pos h)
  have HOUT : Hid (¬ (0 ≤ p ∧ p < (ts.length : Int)) → treePackK ts p = ts) := Lib.hid (fun h => if_neg h)
  generalize treePackK ts p = rt at *
  clear hv hs q0 q1 hb2 hz2
  go_enter Try.func14, Try.ntmps14
  go_upto_region 1 with (fail)
  generalize (w.alloc (.cells #[.slice A lo.length c, .slice B ts.length d] 27)).alloc (.cells #[.slice none 0 0, .slice none 0 0] 27) = W at *
  have hz2 := Nat.le_of_eq HZ2.out
  have hz3 := Nat.le_of_eq HZ2.out.symm
  obtain ⟨x0, x1, x2⟩ := box2 Q0.out
  go_wp2_with fail
  refine (copyTree_any _ _ lo ts _ HV.out HS.out).mono ?_
  rintro e w1 ⟨vl1, vn1, rfl, o1, b1⟩
  obtain ⟨A1, c1, B1, d1, rfl, rfl⟩ := o1.reads.shape
  clear x0 x1 x2
  have ba := bal1 w1 (.cells #[.slice A1 lo.length c1, .slice B1 ts.length d1] 27)
  have q5 := al1 w1 (.cells #[.slice A1 lo.length c1, .slice B1 ts.length d1] 27)
  have hzA : (w1.alloc (.cells #[.slice A1 lo.length c1, .slice B1 ts.length d1] 27)).heap.size = w1.heap.size + 1 := by simp
  have O1 := Lib.hid (o1.lt.on ba)
  replace HV := Lib.hid ((HV.out.on b1).on ba)
  replace HB := Lib.hid (bstep (bstep HB.out b1) ba)
  replace Q0 := Lib.hid (box_on (box_on Q0.out b1) ba)
  replace Q1 := Lib.hid (box_on (box_on Q1.out b1) ba)
  have Q5 := Lib.hid q5
  have hb1 := b1.size
  have HZA := Lib.hid hzA
  clear o1 b1 ba q5 hzA
  go_upto_region 2 with (fail)
  generalize w1.alloc (.cells #[.slice A1 lo.length c1, .slice B1 ts.length d1] 27) = W2 at *
  have hy1 := Nat.le_of_eq HZA.out
  have hy2 := Nat.le_of_eq HZA.out.symm
  obtain ⟨x0, x1, x2⟩ := box2 Q0.out
  go_wp2_with fail
  refine (hasNode_any _ _ lo ts p _ HV.out (by omega)).mono ?_
  rintro e W3 ⟨rfl, b3⟩
  replace HV := Lib.hid (HV.out.on b3)
  replace HB := Lib.hid (bstep HB.out b3)
  replace Q0 := Lib.hid (box_on Q0.out b3)
  replace Q1 := Lib.hid (box_on Q1.out b3)
  replace Q5 := Lib.hid (box_on Q5.out b3)
  replace O1 := Lib.hid (O1.out.on b3)
  have hy3 := b3.size
  clear b3 HZA
  obtain ⟨W2, rfl⟩ : ∃ W, W = W3 := ⟨_, rfl⟩
  by_cases hin : 0 ≤ p ∧ p < (ts.length : Int)
  · have hrt := HIN.out hin
    obtain ⟨i, rfl⟩ := Int.eq_ofNat_of_zero_le hin.1
    have hlt : i < ts.length := by have := hin.2; omega
    have d1' : (decide ((0 : Int) ≤ (i : Int)) && decide ((i : Int) < (ts.length : Int))) = true := by simp; omega
    rw [d1']
    rw [show ((i : Int)).toNat = i from rfl, getD_node hlt] at hrt
    have HRT := Lib.hid hrt
    obtain ⟨P, R, hP, hR, hPR, ol, on⟩ := O1.out
    obtain ⟨g, x, hg0, hRg, hgl, gc, gf⟩ := on.nodeRow hlt
    subst hg0
    obtain ⟨b, off, hbe, hbb, hc⟩ := HV.out.2.node hlt
    subst hbe
    obtain ⟨A2, d2, e1, _, _, r1⟩ := hc i hlt
    have hsm := sumT_mem (List.getElem_mem hlt)
    have i1 : (i : Int) < (ts.length : Int) := by omega
    have i2 : (0 : Int) ≤ (i : Int) := by omega
    have hRg2 := hR g hRg
    have hn5 : ¬ g = w1.heap.size := by omega
    have R1 := Lib.hid r1
    have OL := Lib.hid ol
    have ON := Lib.hid on
    have HG := Lib.hid (And.intro gc gf)
    clear hc r1 ol on gc gf hrt d1' hin x0 x1 x2
    obtain ⟨x0, x1, x2⟩ := box2 Q0.out
    obtain ⟨y0, y1, y2⟩ := box2 Q5.out
    go_wp2
    have hSW : NC2 w.heap.size b (off + i) (.slice (some ⟨b, off, none⟩) ts.length d) (.slice A2 (ts[i]).length d2) w1.heap.size (.slice (some ⟨g, 0, none⟩) ts.length d1) W2.drew := ⟨x1, e1, y1⟩
    have hSV : NC2 w.heap.size b (off + i) (.slice (some ⟨b, off, none⟩) ts.length d) (.slice A2 (ts[i]).length d2) w1.heap.size (.slice (some ⟨g, 0, none⟩) ts.length d1) W2 := ⟨x1, e1, y1⟩
    refine but_begin (f := 10) (S := NC2 w.heap.size b (off + i) (.slice (some ⟨b, off, none⟩) ts.length d) (.slice A2 (ts[i]).length d2) w1.heap.size (.slice (some ⟨g, 0, none⟩) ts.length d1)) (by kernel_rfl) ?_
    refine but_take (f := 10) (i := 0) (v := ?v0) rfl (by kernel_rfl) (by kernel_rfl) (by kernel_rfl) (by kernel_rfl) (by kernel_rfl) (fun _ _ _ h => h) (Or.inl ⟨by rfl, ?hy0⟩) hSW ?rest0
    case hy0 =>
      intro W hW
      obtain ⟨h1, h2, h3⟩ := hW
      go_simp
      exact rfl
    simp only [List.getElem_toArray, List.getElem_cons_succ, List.getElem_cons_zero, Act.put, List.setIfInBounds_toArray, List.set_cons_zero, List.set_cons_succ]
    refine but_take (f := 10) (i := 1) (v := ?v1) rfl (by kernel_rfl) (by kernel_rfl) (by kernel_rfl) (by kernel_rfl) (by kernel_rfl) (fun _ _ _ h => h) (Or.inl ⟨by rfl, ?hy1⟩) hSW ?rest1
    case hy1 =>
      intro W hW
      obtain ⟨h1, h2, h3⟩ := hW
      go_simp
      exact rfl
    simp only [List.getElem_toArray, List.getElem_cons_succ, List.getElem_cons_zero, Act.put, List.setIfInBounds_toArray, List.set_cons_zero, List.set_cons_succ]
    refine but_take (f := 10) (i := 2) (v := ?v2) rfl (by kernel_rfl) (by kernel_rfl) (by kernel_rfl) (by kernel_rfl) (by kernel_rfl) (fun _ _ _ h => h) (Or.inl ⟨by rfl, ?hy2⟩) hSW ?rest2
    case hy2 =>
      intro W hW
      obtain ⟨h1, h2, h3⟩ := hW
      go_simp
      exact rfl
    simp only [List.getElem_toArray, List.getElem_cons_succ, List.getElem_cons_zero, Act.put, List.setIfInBounds_toArray, List.set_cons_zero, List.set_cons_succ]
    refine but_take (f := 10) (i := 3) (v := ?v3) rfl (by kernel_rfl) (by kernel_rfl) (by kernel_rfl) (by kernel_rfl) (by kernel_rfl) (fun _ _ _ h => h) (Or.inl ⟨by rfl, ?hy3⟩) hSW ?rest3
    case hy3 =>
      intro W hW
      obtain ⟨h1, h2, h3⟩ := hW
      go_simp
      exact rfl
    simp only [List.getElem_toArray, List.getElem_cons_succ, List.getElem_cons_zero, Act.put, List.setIfInBounds_toArray, List.set_cons_zero, List.set_cons_succ]
    refine but_take (f := 10) (i := 4) (v := ?v4) rfl (by kernel_rfl) (by kernel_rfl) (by kernel_rfl) (by kernel_rfl) (by kernel_rfl) (fun _ _ _ h => h) (Or.inl ⟨by rfl, ?hy4⟩) hSW ?rest4
    case hy4 =>
      intro W hW
      obtain ⟨h1, h2, h3⟩ := hW
      go_simp
      exact rfl
    simp only [List.getElem_toArray, List.getElem_cons_succ, List.getElem_cons_zero, Act.put, List.setIfInBounds_toArray, List.set_cons_zero, List.set_cons_succ]
    refine but_take (f := 10) (i := 5) (v := ?v5) rfl (by kernel_rfl) (by kernel_rfl) (by kernel_rfl) (by kernel_rfl) (by kernel_rfl) (fun _ _ _ h => h) (Or.inl ⟨by rfl, ?hy5⟩) hSW ?rest5
    case hy5 =>
      intro W hW
      obtain ⟨h1, h2, h3⟩ := hW
      go_simp
      exact rfl
    simp only [List.getElem_toArray, List.getElem_cons_succ, List.getElem_cons_zero, Act.put, List.setIfInBounds_toArray, List.set_cons_zero, List.set_cons_succ]
    refine but_take (f := 10) (i := 6) (v := ?v6) rfl (by kernel_rfl) (by kernel_rfl) (by kernel_rfl) (by kernel_rfl) (by kernel_rfl) (fun _ _ _ h => h) (Or.inl ⟨by rfl, ?hy6⟩) hSW ?rest6
    case hy6 =>
      intro W hW
      obtain ⟨h1, h2, h3⟩ := hW
      go_simp
      exact rfl
    simp only [List.getElem_toArray, List.getElem_cons_succ, List.getElem_cons_zero, Act.put, List.setIfInBounds_toArray, List.set_cons_zero, List.set_cons_succ]
    refine but_take (f := 10) (i := 7) (v := ?v7) rfl (by kernel_rfl) (by kernel_rfl) (by kernel_rfl) (by kernel_rfl) (by kernel_rfl) (fun _ _ _ h => h) (Or.inl ⟨by rfl, ?hy7⟩) hSW ?rest7
    case hy7 =>
      intro W hW
      obtain ⟨h1, h2, h3⟩ := hW
      go_simp
      exact rfl
    simp only [List.getElem_toArray, List.getElem_cons_succ, List.getElem_cons_zero, Act.put, List.setIfInBounds_toArray, List.set_cons_zero, List.set_cons_succ]
    refine but_run (i := 8) (by kernel_rfl) rfl (by rfl) ?_
    simp only [List.getElem_toArray, List.getElem_cons_succ, List.getElem_cons_zero]
    intro K_ HK
    go_wp2_with fail
    refine (implNodePack_any _ ts[i] _ (R1.out.on (Below.drew1 _)) (by omega) (by omega)).mono ?_
    rintro e w6 ⟨v6, rfl, o6, b6'⟩
    obtain ⟨A6, c6, rfl, _, _⟩ := o6.reads.lenN
    have b6 : Below W2.heap.size W2 w6 := bstep (Below.drew1 _) b6'
    have hS6 := hSV.on b6
    go_wp2_with fail
    refine HK.out _ _ (fun _ => hS6) ?_
    clear HK
    have B6 := Lib.hid b6
    have O6 : Hid (Owns w6 (fun b => W2.heap.size ≤ b) (.slice A6 (nodePackK ts[i]).length c6) (setsD (nodePackK ts[i]))) := Lib.hid o6
    clear o6 b6 b6'
    try simp only [Act.put, List.setIfInBounds_toArray, List.set_cons_zero, List.set_cons_succ]
    refine but_run (i := 9) (by kernel_rfl) rfl (by rfl) ?_
    simp only [List.getElem_toArray, List.getElem_cons_succ, List.getElem_cons_zero]
    intro K_ HK
    go_wp2
    refine HK.out _ _ (fun _ => hS6) ?_
    clear HK
    have g1 : w6.cell? ⟨g, i, none⟩ = some x := ((bcell B6.out).1 g i hgl).trans HG.out.1
    have g2 : ∀ o, w6.frozen? ⟨g, o, none⟩ = false := fun o => ((bcell B6.out).2 g o hgl).trans (HG.out.2 o)
    refine but_run (i := 10) (by kernel_rfl) rfl (by rfl) ?_
    simp only [List.getElem_toArray, List.getElem_cons_succ, List.getElem_cons_zero]
    intro K_ HK
    go_wp2
    refine HK.out _ _ (fun h => (h rfl).elim) ?_
    clear HK
    refine but_done (by kernel_rfl) ?_
    have hz6 := B6.out.size
    have ON2 := Lib.hid (Owns.setNode (i := i) ON.out B6.out O6.out)
    have OL2 := Lib.hid ((OL.out.on B6.out).keep (w' := w6.setCell ⟨g, i, none⟩ (.slice A6 (nodePackK ts[i]).length c6)) (fun b hb _ => Below.heap_setCell _ _ _ _ (fun e => hPR b hb (by have e' : b = g := e; rw [e']; exact hRg))))
    have P0 := Lib.hid (box_far (j := i) (u := .slice A6 (nodePackK ts[i]).length c6) (box_on Q1.out B6.out) (show w.heap.size + 1 ≠ g by omega))
    have P5 := Lib.hid (box_far (j := i) (u := .slice A6 (nodePackK ts[i]).length c6) (box_on Q5.out B6.out) (show w1.heap.size ≠ g by omega))
    have BB := Lib.hid ((bstep HB.out B6.out).setCell (p := ⟨g, i, none⟩) (show w.heap.size ≤ g by omega) (.slice A6 (nodePackK ts[i]).length c6))
    have hz7 : (w6.setCell ⟨g, i, none⟩ (.slice A6 (nodePackK ts[i]).length c6)).heap.size = w6.heap.size := by simp
    clear HG g1 g2 ON OL O6 hS6 hSW hSV x0 x1 x2 y0 y1 y2 e1 Q0 Q1 Q5 HV
    generalize w6.setCell ⟨g, i, none⟩ (.slice A6 (nodePackK ts[i]).length c6) = W7 at *
    obtain ⟨x0, x1, x2⟩ := box2 P0.out
    obtain ⟨y0, y1, y2⟩ := box2 P5.out
    have n3 : ¬ w1.heap.size = w.heap.size + 1 := by omega
    go_wp2
    have HO : ∀ a b, Only (fun b => b = w.heap.size + 1) W7 ((W7.setCell ⟨w.heap.size + 1, 0, none⟩ a).setCell ⟨w.heap.size + 1, 1, none⟩ b) := fun a b => only_two _ _ _ _ _ _
    refine bodyPost_ret (v := .agg #[.slice A1 lo.length c1, .slice (some ⟨g, 0, none⟩) ts.length d1]) (by simp [results, Try.results14, go_sem, x0, x1, x2]) rfl ⟨_, _, rfl, ⟨P, fun b => R b ∨ W2.heap.size ≤ b, fun b hb => by have := hP b hb; omega, fun b hb => by rcases hb with hb | hb; (have := hR b hb; omega); omega, fun b hb hb' => by rcases hb' with hb' | hb'; (exact hPR b hb hb'); (have := hP b hb; omega), OL2.out.far (HO _ _) (fun b hb _ hb' => by have := hP b hb; omega), ?_⟩, BB.out.trans ((HO _ _).below BB.out.size (fun b hb => by omega))⟩
    rw [HRT.out]
    exact ON2.out.far (HO _ _) (fun b hb _ hb' => by rcases hb with hb | hb; (have := hR b hb; omega); omega)
  · have hrt := HOUT.out hin
    have d2' : (decide ((0 : Int) ≤ p) && decide (p < (ts.length : Int))) = false := by
      rcases Int.lt_or_le p 0 with h | h
      · rw [decide_eq_false (by omega)]; rfl
      · rw [decide_eq_false (show ¬ p < (ts.length : Int) by omega), Bool.and_false]
    rw [d2']
    have HRT := Lib.hid hrt
    clear hin hrt d2' x0 x1 x2
    obtain ⟨x0, x1, x2⟩ := box2 Q1.out
    obtain ⟨y0, y1, y2⟩ := box2 Q5.out
    have n3 : ¬ w1.heap.size = w.heap.size + 1 := by omega
    go_wp2
    have HO : ∀ a b, Only (fun b => b = w.heap.size + 1) W2 ((W2.setCell ⟨w.heap.size + 1, 0, none⟩ a).setCell ⟨w.heap.size + 1, 1, none⟩ b) := fun a b => only_two _ _ _ _ _ _
    have h9 := (O1.out.keep (w' := (W2.setCell ⟨w.heap.size + 1, 0, none⟩ (.slice A1 lo.length c1)).setCell ⟨w.heap.size + 1, 1, none⟩ (.slice B1 ts.length d1)) (fun b hb hl => (HO _ _).block b hl (fun e => by omega))).mono (T := fun b => w.heap.size ≤ b) (fun b hb => by omega)
    exact bodyPost_ret (v := .agg #[.slice A1 lo.length c1, .slice B1 ts.length d1]) (by simp [results, Try.results14, go_sem, x0, x1, x2]) rfl ⟨_, _, rfl, by rw [HRT.out]; exact h9, HB.out.trans ((HO _ _).below HB.out.size (fun b hb => by omega))⟩
end Go.Proofs.Ytnmoikgobbcifaa
