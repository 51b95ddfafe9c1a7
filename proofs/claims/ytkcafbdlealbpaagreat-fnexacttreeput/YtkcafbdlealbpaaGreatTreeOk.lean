/- When a tree is valid, as a function on lists; contracts of spec.l6Spot and spec.l6Node. Conditions: at most 2^20 bounds, nodes, sets and keys. -/
import Derived.Test.YtkcafbdlealbpaaGreatTreeKeys
import Derived.Test.YtkcafbdlealbpaaGreatNodeOk
import Derived.Test.YtkcafbdlealbpaaGreatLast2
import Derived.Test.YtkcafbdlealbpaaGreatLast3
namespace Go.Proofs.YtkcafbdlealbpaaGreat
open Go.RowKit
set_option maxRecDepth 100000
set_option linter.unusedSimpArgs false
set_option linter.unusedVariables false

def InP (lo : List Int) (i : Nat) (x : Int) : Prop := lo.getD i 0 ≤ x ∧ (i + 1 < lo.length → x < lo.getD (i + 1) 0)
instance (lo : List Int) (i : Nat) (x : Int) : Decidable (InP lo i x) := inferInstanceAs (Decidable (_ ∧ _))
def FitP (lo : List Int) (i : Nat) (ns : NodeD) : Prop := nodeOkB ns = true ∧ (i = 0 ∨ 0 < (nodeKeysK ns).length) ∧ ∀ l ∈ ns, ∀ x ∈ l, InP lo i (spotI x.a x.b)
instance (lo : List Int) (i : Nat) (ns : NodeD) : Decidable (FitP lo i ns) := inferInstanceAs (Decidable (_ ∧ _ ∧ _))
def fitB (lo : List Int) (i : Nat) (ns : NodeD) : Bool := decide (FitP lo i ns)
def RiseP (lo : List Int) : Prop := ∀ i, i < lo.length - 1 → lo.getD i 0 < lo.getD (i + 1) 0
instance (lo : List Int) : Decidable (RiseP lo) := inferInstanceAs (Decidable (∀ i, i < lo.length - 1 → _))
def TreeP (lo : List Int) (ts : List NodeD) : Prop := 1 ≤ ts.length ∧ ts.length ≤ 20 ∧ lo.length = ts.length ∧ lo.getD 0 0 = 0 ∧ RiseP lo ∧ (∀ i, i < ts.length → fitB lo i (ts.getD i []) = true) ∧ (treeKeysK ts).length ≤ 60
instance (lo : List Int) (ts : List NodeD) : Decidable (TreeP lo ts) := inferInstanceAs (Decidable (_ ∧ _ ∧ _ ∧ _ ∧ _ ∧ (∀ i, i < ts.length → _) ∧ _))
def treeOkB (lo : List Int) (ts : List NodeD) : Bool := decide (TreeP lo ts)
theorem getD_at {lo : List Int} {i : Nat} (h : i < lo.length) : lo.getD i 0 = lo[i] := by simp [List.getD_eq_getElem?_getD, h]
theorem getD_node {ts : List NodeD} {i : Nat} (h : i < ts.length) : ts.getD i [] = ts[i] := by simp [List.getD_eq_getElem?_getD, h]
theorem fit_bad {lo : List Int} {i : Nat} {ns : NodeD} {k j : Nat} (hk : k < ns.length) (hj : j < (ns[k]).length) (h : ¬ InP lo i (spotI ((ns[k])[j]).a ((ns[k])[j]).b)) : fitB lo i ns = false :=
  decide_eq_false (fun hf => h (hf.2.2 _ (List.getElem_mem hk) _ (List.getElem_mem hj)))
theorem all_snoc {P : KeyD → Prop} {l : List KeyD} {j : Nat} (hj : j < l.length) (h : ∀ x ∈ l.take j, P x) (h2 : P l[j]) : ∀ x ∈ l.take (j + 1), P x := by
  rw [List.take_succ_eq_append_getElem hj]
  intro x hx
  rcases List.mem_append.1 hx with hx | hx
  · exact h x hx
  · simp at hx; subst hx; exact h2
theorem alls_snoc {P : KeyD → Prop} {ns : NodeD} {k : Nat} (hk : k < ns.length) (h : ∀ l ∈ ns.take k, ∀ x ∈ l, P x) (h2 : ∀ x ∈ ns[k], P x) : ∀ l ∈ ns.take (k + 1), ∀ x ∈ l, P x := by
  rw [List.take_succ_eq_append_getElem hk]
  intro l hl
  rcases List.mem_append.1 hl with hl | hl
  · exact h l hl
  · simp at hl; subst hl; exact h2
theorem l6Spot_any (x : KeyD) (w : World) : Calls Tryz.prog 52 #[x.v] w (SaysInt w (spotI x.a x.b)) := by
  have HP := Lib.hid (specSpotOf_any x.a x.b)
  have HB := Lib.hid (bal1 w (.cells #[.int .i64 x.a, .int .i64 x.b, .int .i64 x.c, .int .i64 x.d, .int .i64 x.e] 29))
  generalize spotI x.a x.b = s at *
  unfold KeyD.v keyV
  go_enter Tryz.func52, Tryz.ntmps52
  go_wp2_with fail
  refine (HP.out _).mono ?_
  rintro e w1 ⟨rfl, rfl⟩
  go_wp2
  go_ret
  exact ⟨rfl, HB.out⟩
set_option maxHeartbeats 8000000 in
theorem l6Node_any (vl vn : Value) (lo : List Int) (ts : List NodeD) (i : Nat) (w : World) (hv : RdT w w.heap.size vl vn lo ts) (hi : i < ts.length) (hiL : i < lo.length) (hn : ts.length ≤ 1048576) (hm : lo.length ≤ 1048576) (hs : sumT ts ≤ 1048576) :
    Calls Tryz.prog 72 #[.agg #[vl, vn], .int .i64 (i : Int)] w (SaysBool w (fitB lo i ts[i])) := by
  obtain ⟨A, c, B, d, rfl, rfl⟩ := hv.shape
  have HVL := Lib.hid hv.1
  obtain ⟨b0, off0, rfl, _, hc0⟩ := hv.2.node hi
  obtain ⟨A1, d1, c1, _, _, r1⟩ := hc0 i hi
  have HS := Lib.hid (small_at (by omega) hi)
  have hsm := sumT_mem (List.getElem_mem hi)
  have i3 : (i : Int) < (ts.length : Int) := by omega
  have i4 : (0 : Int) ≤ (i : Int) := by omega
  have i5 : (i : Int) < (lo.length : Int) := by omega
  generalize ts[i] = ns at *
  have hb2 := bal2 w (.cells #[.slice A lo.length c, .slice (some ⟨b0, off0, none⟩) ts.length d] 27) (.cells #[.slice A1 ns.length d1] 71)
  obtain ⟨q0, q1⟩ := al2 w (.cells #[.slice A lo.length c, .slice (some ⟨b0, off0, none⟩) ts.length d] 27) (.cells #[.slice A1 ns.length d1] 71)
  have HV2 := Lib.hid (r1.on hb2)
  have HB := Lib.hid hb2
  have Q0 := Lib.hid q0
  have Q1 := Lib.hid q1
  have c1' := (bcell (bal1 w (.cells #[.slice A lo.length c, .slice (some ⟨b0, off0, none⟩) ts.length d] 27))).1 b0 (off0 + i) (by assumption)
  rw [c1] at c1'
  clear hv hc0 r1 hb2 q0 q1
  go_enter Tryz.func72, Tryz.ntmps72
  go_upto_region 2 with (fail)
  clear c1 c1'
  generalize (w.alloc (.cells #[.slice A lo.length c, .slice (some ⟨b0, off0, none⟩) ts.length d] 27)).alloc (.cells #[.slice A1 ns.length d1] 71) = W at *
  obtain ⟨y0, y1⟩ := box1N Q1.out
  go_wp2_with fail
  refine (specNodeOk_any _ ns _ HV2.out HS.out).mono ?_
  rintro e W1 ⟨rfl, b1⟩
  have HVN := Lib.hid (HV2.out.on b1)
  replace Q0 := Lib.hid (box_on Q0.out b1)
  replace Q1 := Lib.hid (box_on Q1.out b1)
  have HB1 := Lib.hid (bstep HB.out b1)
  clear y0 y1 b1
  obtain ⟨x0, x1, x2⟩ := box2 Q0.out
  obtain ⟨y0, y1⟩ := box1N Q1.out
  cases hok : nodeOkB ns
  · have HF : Hid (fitB lo i ns = false) := Lib.hid (decide_eq_false (fun h => by have := h.1; rw [hok] at this; cases this))
    go_wp2
    go_ret
    exact ⟨ret_boolB HF.out.symm, HB1.out⟩
  · have HOK := Lib.hid hok
    clear hok
    by_cases hi0 : i = 0
    · have z0 : ¬ (0 : Int) < (i : Int) := by omega
      have z1 : (i : Int) ≤ 0 := by omega
      have HNE : Hid (i = 0 ∨ 0 < (nodeKeysK ns).length) := Lib.hid (.inl hi0)
      clear hi0 HV2 HB
      go_wp2
      go_loopw [6] (fun q wr => ∃ k : Nat, k ≤ ns.length ∧ q = .int .i64 k ∧ Hid (∀ l ∈ ns.take k, ∀ x ∈ l, InP lo i (spotI x.a x.b)) ∧ Hid (Below W1.heap.size W1 wr)) (fun q _ => ns.length - (intOf q).toNat)
      case atStart => exact ⟨0, Nat.zero_le _, rfl, Lib.hid (fun l hl => by simp at hl), Lib.hid (Below.refl _ _)⟩
      case round =>
        clear x0 x1 x2 y0 y1
        obtain ⟨k, hk, rfl, HI, HX⟩ := hrel
        obtain ⟨x0, x1, x2⟩ := box2 (box_on Q0.out HX.out)
        obtain ⟨y0, y1⟩ := box1N (box_on Q1.out HX.out)
        by_cases hlt : k < ns.length
        · have hlk := HS.out.at hlt
          have i1 : (k : Int) < (ns.length : Int) := by omega
          have i2 : (0 : Int) ≤ (k : Int) := by omega
          go_wp2
          go_loopw [7] (fun q wr => ∃ j : Nat, j ≤ (ns[k]).length ∧ q = .int .i64 j ∧ Hid (∀ x ∈ (ns[k]).take j, InP lo i (spotI x.a x.b)) ∧ Hid (Below W1.heap.size W1 wr)) (fun q _ => (ns[k]).length - (intOf q).toNat)
          case atStart => exact ⟨0, Nat.zero_le _, rfl, Lib.hid (fun l hl => by simp at hl), HX⟩
          case round =>
            clear x0 x1 x2 y0 y1 HX
            obtain ⟨j, hj, rfl, HJ, HX⟩ := hrel
            obtain ⟨x0, x1, x2⟩ := box2 (box_on Q0.out HX.out)
            obtain ⟨y0, y1⟩ := box1N (box_on Q1.out HX.out)
            obtain ⟨b, off, hA1, hbb, hc⟩ := (HVN.out.on HX.out).set hlt
            subst hA1
            obtain ⟨A2, d2, c1, _, _, r1⟩ := hc k hlt
            by_cases hlj : j < (ns[k]).length
            · obtain ⟨b3, off3, rfl, hbb3, hc3⟩ := r1.keys hlj
              obtain ⟨e0, e1, e2, e3, e4⟩ := hc3 j hlj
              have j1 : (j : Int) < ((ns[k]).length : Int) := by omega
              have j2 : (0 : Int) ≤ (j : Int) := by omega
              have HBAD := Lib.hid (fun h => fit_bad (lo := lo) (i := i) hlt hlj h)
              have HSN := Lib.hid (all_snoc (P := fun x => InP lo i (spotI x.a x.b)) hlj HJ.out)
              obtain ⟨s, hs⟩ : ∃ s, spotI ((ns[k])[j]).a ((ns[k])[j]).b = s := ⟨_, rfl⟩
              have HSP := Lib.hid (l6Spot_any (ns[k])[j])
              unfold KeyD.v keyV at HSP
              rw [hs] at HBAD HSN HSP
              clear hc hc3 r1 hs
              go_wp2_with fail
              refine (HSP.out _).mono ?_
              rintro e w5 ⟨rfl, b5⟩
              have HX5 := Lib.hid (bstep HX.out b5)
              clear x0 x1 x2 y0 y1 b5 c1 e0 e1 e2 e3 e4
              obtain ⟨x0, x1, x2⟩ := box2 (box_on Q0.out HX5.out)
              obtain ⟨b6, off6, hA6, hbb6, hc6⟩ := (HVL.out.on (bstep HB1.out HX5.out)).int hiL
              subst hA6
              have f1 := hc6 i hiL
              unfold iV at f1
              have g1 := getD_at hiL
              by_cases p1 : lo[i] ≤ s
              · by_cases p2 : i + 1 < lo.length
                · have f2 := hc6 (i + 1) p2
                  unfold iV at f2
                  have g2 := getD_at p2
                  have k1 : (i : Int) + 1 < (lo.length : Int) := by omega
                  have k2 : ((i : Int) + 1).toNat = i + 1 := by omega
                  have k3 : (0 : Int) ≤ (i : Int) + 1 := by omega
                  by_cases p3 : s < lo[i + 1]
                  · have HIN : Hid (InP lo i s) := Lib.hid ⟨by rw [g1]; exact p1, fun _ => by rw [g2]; exact p3⟩
                    clear hc6 g1 g2
                    go_wp2
                    go_roundw
                    case rel => exact ⟨j + 1, by omega, by go_num, Lib.hid (HSN.out HIN.out), HX5⟩
                    case measure => simp [intOf]; omega
                  · have p4 : lo[i + 1] ≤ s := by omega
                    have HN : Hid (¬ InP lo i s) := Lib.hid (fun h => by have := h.2 p2; rw [g2] at this; omega)
                    clear hc6 g1 g2 p3
                    go_wp2
                    go_ret
                    exact ⟨ret_boolB (HBAD.out HN.out).symm, bstep HB1.out HX5.out⟩
                · have k1 : ¬ (i : Int) + 1 < (lo.length : Int) := by omega
                  have k4 : (lo.length : Int) ≤ (i : Int) + 1 := by omega
                  have HIN : Hid (InP lo i s) := Lib.hid ⟨by rw [g1]; exact p1, fun h => absurd h p2⟩
                  clear hc6 g1 p2
                  go_wp2
                  go_roundw
                  case rel => exact ⟨j + 1, by omega, by go_num, Lib.hid (HSN.out HIN.out), HX5⟩
                  case measure => simp [intOf]; omega
              · have p4 : s < lo[i] := by omega
                have HN : Hid (¬ InP lo i s) := Lib.hid (fun h => by have := h.1; rw [g1] at this; omega)
                clear hc6 g1 p1
                go_wp2
                go_ret
                exact ⟨ret_boolB (HBAD.out HN.out).symm, bstep HB1.out HX5.out⟩
            · have e : j = (ns[k]).length := by omega
              subst e
              have h := HJ.out
              rw [List.take_length] at h
              have HSN := Lib.hid (alls_snoc (P := fun x => InP lo i (spotI x.a x.b)) hlt HI.out h)
              clear hc r1 h
              go_wp2
              go_roundw
              case rel => exact ⟨k + 1, by omega, by go_num, HSN, HX⟩
              case measure => simp [intOf]; omega
        · have e : k = ns.length := by omega
          subst e
          have h := HI.out
          rw [List.take_length] at h
          have HF := Lib.hid h
          clear h
          go_wp2
          go_ret
          exact ⟨ret_boolB (by symm; exact decide_eq_true ⟨HOK.out, HNE.out, HF.out⟩), bstep HB1.out HX.out⟩
    · have z0 : (0 : Int) < (i : Int) := by omega
      clear HB
      go_wp2_with fail
      refine (specNodeKeys_any _ ns _ HVN.out (by omega) (by omega)).mono ?_
      clear x0 x1 x2 y0 y1
      rintro e w2 ⟨v2, rfl, o2, b1⟩
      obtain ⟨A2, c2, rfl, _, _⟩ := o2.shape
      replace HVN := Lib.hid (HVN.out.on b1)
      replace Q0 := Lib.hid (box_on Q0.out b1)
      replace Q1 := Lib.hid (box_on Q1.out b1)
      replace HB1 := Lib.hid (bstep HB1.out b1)
      clear o2 b1 HV2
      obtain ⟨W1, rfl⟩ : ∃ W1, W1 = w2 := ⟨_, rfl⟩
      obtain ⟨x0, x1, x2⟩ := box2 Q0.out
      obtain ⟨y0, y1⟩ := box1N Q1.out
      by_cases hke : (nodeKeysK ns).length = 0
      · have hz : (((nodeKeysK ns).length : Int) == 0) = true := by simp [hke]
        have HF : Hid (fitB lo i ns = false) := Lib.hid (decide_eq_false (fun h => by have := h.2.1; omega))
        clear hke
        go_wp2
        go_ret
        exact ⟨ret_boolB HF.out.symm, HB1.out⟩
      · have hz : (((nodeKeysK ns).length : Int) == 0) = false := by simp; simpa using hke
        have HNE : Hid (i = 0 ∨ 0 < (nodeKeysK ns).length) := Lib.hid (.inr (by omega))
        clear hke
        go_wp2
        go_loopw [6] (fun q wr => ∃ k : Nat, k ≤ ns.length ∧ q = .int .i64 k ∧ Hid (∀ l ∈ ns.take k, ∀ x ∈ l, InP lo i (spotI x.a x.b)) ∧ Hid (Below W1.heap.size W1 wr)) (fun q _ => ns.length - (intOf q).toNat)
        case atStart => exact ⟨0, Nat.zero_le _, rfl, Lib.hid (fun l hl => by simp at hl), Lib.hid (Below.refl _ _)⟩
        case round =>
          clear x0 x1 x2 y0 y1
          obtain ⟨k, hk, rfl, HI, HX⟩ := hrel
          obtain ⟨x0, x1, x2⟩ := box2 (box_on Q0.out HX.out)
          obtain ⟨y0, y1⟩ := box1N (box_on Q1.out HX.out)
          by_cases hlt : k < ns.length
          · have hlk := HS.out.at hlt
            have i1 : (k : Int) < (ns.length : Int) := by omega
            have i2 : (0 : Int) ≤ (k : Int) := by omega
            go_wp2
            go_loopw [7] (fun q wr => ∃ j : Nat, j ≤ (ns[k]).length ∧ q = .int .i64 j ∧ Hid (∀ x ∈ (ns[k]).take j, InP lo i (spotI x.a x.b)) ∧ Hid (Below W1.heap.size W1 wr)) (fun q _ => (ns[k]).length - (intOf q).toNat)
            case atStart => exact ⟨0, Nat.zero_le _, rfl, Lib.hid (fun l hl => by simp at hl), HX⟩
            case round =>
              clear x0 x1 x2 y0 y1 HX
              obtain ⟨j, hj, rfl, HJ, HX⟩ := hrel
              obtain ⟨x0, x1, x2⟩ := box2 (box_on Q0.out HX.out)
              obtain ⟨y0, y1⟩ := box1N (box_on Q1.out HX.out)
              obtain ⟨b, off, hA1, hbb, hc⟩ := (HVN.out.on HX.out).set hlt
              subst hA1
              obtain ⟨A2, d2, c1, _, _, r1⟩ := hc k hlt
              by_cases hlj : j < (ns[k]).length
              · obtain ⟨b3, off3, rfl, hbb3, hc3⟩ := r1.keys hlj
                obtain ⟨e0, e1, e2, e3, e4⟩ := hc3 j hlj
                have j1 : (j : Int) < ((ns[k]).length : Int) := by omega
                have j2 : (0 : Int) ≤ (j : Int) := by omega
                have HBAD := Lib.hid (fun h => fit_bad (lo := lo) (i := i) hlt hlj h)
                have HSN := Lib.hid (all_snoc (P := fun x => InP lo i (spotI x.a x.b)) hlj HJ.out)
                obtain ⟨s, hs⟩ : ∃ s, spotI ((ns[k])[j]).a ((ns[k])[j]).b = s := ⟨_, rfl⟩
                have HSP := Lib.hid (l6Spot_any (ns[k])[j])
                unfold KeyD.v keyV at HSP
                rw [hs] at HBAD HSN HSP
                clear hc hc3 r1 hs
                go_wp2_with fail
                refine (HSP.out _).mono ?_
                rintro e w5 ⟨rfl, b5⟩
                have HX5 := Lib.hid (bstep HX.out b5)
                clear x0 x1 x2 y0 y1 b5 c1 e0 e1 e2 e3 e4
                obtain ⟨x0, x1, x2⟩ := box2 (box_on Q0.out HX5.out)
                obtain ⟨b6, off6, hA6, hbb6, hc6⟩ := (HVL.out.on (bstep HB1.out HX5.out)).int hiL
                subst hA6
                have f1 := hc6 i hiL
                unfold iV at f1
                have g1 := getD_at hiL
                by_cases p1 : lo[i] ≤ s
                · by_cases p2 : i + 1 < lo.length
                  · have f2 := hc6 (i + 1) p2
                    unfold iV at f2
                    have g2 := getD_at p2
                    have k1 : (i : Int) + 1 < (lo.length : Int) := by omega
                    have k2 : ((i : Int) + 1).toNat = i + 1 := by omega
                    have k3 : (0 : Int) ≤ (i : Int) + 1 := by omega
                    by_cases p3 : s < lo[i + 1]
                    · have HIN : Hid (InP lo i s) := Lib.hid ⟨by rw [g1]; exact p1, fun _ => by rw [g2]; exact p3⟩
                      clear hc6 g1 g2
                      go_wp2
                      go_roundw
                      case rel => exact ⟨j + 1, by omega, by go_num, Lib.hid (HSN.out HIN.out), HX5⟩
                      case measure => simp [intOf]; omega
                    · have p4 : lo[i + 1] ≤ s := by omega
                      have HN : Hid (¬ InP lo i s) := Lib.hid (fun h => by have := h.2 p2; rw [g2] at this; omega)
                      clear hc6 g1 g2 p3
                      go_wp2
                      go_ret
                      exact ⟨ret_boolB (HBAD.out HN.out).symm, bstep HB1.out HX5.out⟩
                  · have k1 : ¬ (i : Int) + 1 < (lo.length : Int) := by omega
                    have k4 : (lo.length : Int) ≤ (i : Int) + 1 := by omega
                    have HIN : Hid (InP lo i s) := Lib.hid ⟨by rw [g1]; exact p1, fun h => absurd h p2⟩
                    clear hc6 g1 p2
                    go_wp2
                    go_roundw
                    case rel => exact ⟨j + 1, by omega, by go_num, Lib.hid (HSN.out HIN.out), HX5⟩
                    case measure => simp [intOf]; omega
                · have p4 : s < lo[i] := by omega
                  have HN : Hid (¬ InP lo i s) := Lib.hid (fun h => by have := h.1; rw [g1] at this; omega)
                  clear hc6 g1 p1
                  go_wp2
                  go_ret
                  exact ⟨ret_boolB (HBAD.out HN.out).symm, bstep HB1.out HX5.out⟩
              · have e : j = (ns[k]).length := by omega
                subst e
                have h := HJ.out
                rw [List.take_length] at h
                have HSN := Lib.hid (alls_snoc (P := fun x => InP lo i (spotI x.a x.b)) hlt HI.out h)
                clear hc r1 h
                go_wp2
                go_roundw
                case rel => exact ⟨k + 1, by omega, by go_num, HSN, HX⟩
                case measure => simp [intOf]; omega
          · have e : k = ns.length := by omega
            subst e
            have h := HI.out
            rw [List.take_length] at h
            have HF := Lib.hid h
            clear h
            go_wp2
            go_ret
            exact ⟨ret_boolB (by symm; exact decide_eq_true ⟨HOK.out, HNE.out, HF.out⟩), bstep HB1.out HX.out⟩
/-- A row of ints, laid down as cells. -/
def IntsIn (w : World) (b off : Nat) (lo : List Int) : Prop := b < w.heap.size ∧ ∀ k (hk : k < lo.length), w.cell? ⟨b, off + k, none⟩ = some (.int .i64 lo[k])
theorem IntsIn.on {w w' : World} {b off : Nat} {lo : List Int} (h : IntsIn w b off lo) (hb : Below w.heap.size w w') : IntsIn w' b off lo := ⟨Nat.lt_of_lt_of_le h.1 hb.size, fun k hk => (hb.cell (p := ⟨b, off + k, none⟩) h.1).trans (h.2 k hk)⟩
theorem IntsIn.cellI {w : World} {b off : Nat} {lo : List Int} (h : IntsIn w b off lo) {k : Nat} (hk : k < lo.length) : w.cell? ⟨b, off + k, none⟩ = some (.int .i64 lo[k]) := h.2 k hk
theorem tree_bad {lo : List Int} {ts : List NodeD} (h : ¬ TreeP lo ts) : treeOkB lo ts = false := decide_eq_false h
set_option maxHeartbeats 8000000 in
theorem specTreeOk_any (vl vn : Value) (lo : List Int) (ts : List NodeD) (w : World) (hv : RdT w w.heap.size vl vn lo ts) (hn : ts.length ≤ 1048576) (hm : lo.length ≤ 1048576) (hs : sumT ts ≤ 1048576) :
    Calls Tryz.prog 22 #[.agg #[vl, vn]] w (SaysBool w (treeOkB lo ts)) := by
  obtain ⟨A, c, B, d, rfl, rfl⟩ := hv.shape
  have HB := Lib.hid (bal1 w (.cells #[.slice A lo.length c, .slice B ts.length d] 27))
  have Q0 := Lib.hid (al1 w (.cells #[.slice A lo.length c, .slice B ts.length d] 27))
  have HV := Lib.hid (hv.on (bal1 w (.cells #[.slice A lo.length c, .slice B ts.length d] 27)))
  clear hv
  go_enter Tryz.func22, Tryz.ntmps22
  go_upto_region 1 with (fail)
  generalize w.alloc (.cells #[.slice A lo.length c, .slice B ts.length d] 27) = W at *
  obtain ⟨x0, x1, x2⟩ := box2 Q0.out
  go_wp2_with fail
  refine (l1In_any (ts.length : Int) 1 20 _).mono ?_
  rintro e w1 ⟨rfl, rfl⟩
  by_cases h1 : 1 ≤ ts.length ∧ ts.length ≤ 20
  · have d1 : (decide ((1 : Int) ≤ (ts.length : Int)) && decide ((ts.length : Int) ≤ 20)) = true := by simp; omega
    rw [d1]
    by_cases h2 : lo.length = ts.length
    · have d2 : ((lo.length : Int) != (ts.length : Int)) = false := by simp [h2]
      have h0 : 0 < lo.length := by omega
      obtain ⟨b, off, rfl, hbb, hc⟩ := HV.out.1.int h0
      have HLI : Hid (IntsIn W b off lo) := Lib.hid ⟨hbb, hc⟩
      have f0 := hc 0 h0
      unfold iV at f0
      rw [Nat.add_zero] at f0
      have i0 : (0 : Int) < (lo.length : Int) := by omega
      have g0 := getD_at h0
      by_cases h3 : lo[0] = 0
      · have d3 : (lo[0] != 0) = false := by simp [h3]
        have H3 : Hid (lo.getD 0 0 = 0) := Lib.hid (by rw [g0]; exact h3)
        have H12 := Lib.hid h1
        have H2 := Lib.hid h2
        have h2a := Nat.le_of_eq h2
        have h2b := Nat.le_of_eq h2.symm
        clear hc g0 h3 h1 d1
        go_wp2
        clear x0 x1 x2 f0 d2 d3 h2
        go_loopw [3] (fun q wr => ∃ k : Nat, k ≤ ts.length ∧ q = .int .i64 k ∧ Hid (∀ j, j < k → fitB lo j (ts.getD j []) = true) ∧ Hid (∀ j, j + 1 < k → lo.getD j 0 < lo.getD (j + 1) 0) ∧ Hid (Below W.heap.size W wr)) (fun q _ => ts.length - (intOf q).toNat)
        case atStart => exact ⟨0, Nat.zero_le _, rfl, Lib.hid (fun j h => by omega), Lib.hid (fun j h => by omega), Lib.hid (Below.refl _ _)⟩
        case round =>
          obtain ⟨k, hk, rfl, HI1, HI2, HX⟩ := hrel
          have QW := Lib.hid (box_on Q0.out HX.out)
          obtain ⟨x0, x1, x2⟩ := box2 QW.out
          by_cases hlt : k < ts.length
          · have HLO := Lib.hid (HLI.out.on HX.out)
            have HVV := Lib.hid (HV.out.on HX.out)
            have hkL : k < lo.length := by omega
            have i1 : (k : Int) < (ts.length : Int) := by omega
            have i2 : (0 : Int) ≤ (k : Int) := by omega
            have i3 : (k : Int) < (lo.length : Int) := by omega
            have gk := getD_at hkL
            by_cases hk0 : k = 0
            · have z0 : decide (0 < k) = false := decide_eq_false (by omega)
              have HR : Hid (∀ j, j + 1 < k + 1 → lo.getD j 0 < lo.getD (j + 1) 0) := Lib.hid (fun j h => by omega)
              clear hk0
              cases hfb : fitB lo k ts[k]
              · have HFB := Lib.hid hfb
                have HBAD : Hid (treeOkB lo ts = false) := Lib.hid (tree_bad (fun h => by have := h.2.2.2.2.2.1 k hlt; rw [getD_node hlt, hfb] at this; cases this))
                clear hfb
                go_wp2
                refine but_begin (f := 21) (S := fun V => Below wr.drew.heap.size wr.drew V) (by kernel_rfl) ?_
                refine but_take (f := 21) (i := 0) (v := ?vk0b0) rfl (by kernel_rfl) (by kernel_rfl) (by kernel_rfl) (by kernel_rfl) (by kernel_rfl) (fun _ _ _ h => h) (Or.inl ⟨(by rfl), ?hyk0b0⟩) (Below.refl _ _) ?restk0b0
                case hyk0b0 =>
                  intro W hW
                  go_simp
                  exact rfl
                simp only [List.getElem_toArray, List.getElem_cons_succ, List.getElem_cons_zero, Act.put, List.setIfInBounds_toArray, List.set_cons_zero, List.set_cons_succ]
                refine but_take (f := 21) (i := 1) (v := ?vk0b1) rfl (by kernel_rfl) (by kernel_rfl) (by kernel_rfl) (by kernel_rfl) (by kernel_rfl) (fun _ _ _ h => h) (Or.inl ⟨(by rfl), ?hyk0b1⟩) (Below.refl _ _) ?restk0b1
                case hyk0b1 =>
                  intro W hW
                  go_simp
                  exact rfl
                simp only [List.getElem_toArray, List.getElem_cons_succ, List.getElem_cons_zero, Act.put, List.setIfInBounds_toArray, List.set_cons_zero, List.set_cons_succ]
                refine but_take (f := 21) (i := 2) (v := ?vk0b2) rfl (by kernel_rfl) (by kernel_rfl) (by kernel_rfl) (by kernel_rfl) (by kernel_rfl) (fun _ _ _ h => h) (Or.inl ⟨(by rfl), ?hyk0b2⟩) (Below.refl _ _) ?restk0b2
                case hyk0b2 =>
                  intro W hW
                  go_simp
                  exact rfl
                simp only [List.getElem_toArray, List.getElem_cons_succ, List.getElem_cons_zero, Act.put, List.setIfInBounds_toArray, List.set_cons_zero, List.set_cons_succ]
                refine but_take (f := 21) (i := 3) (v := undef) rfl (by kernel_rfl) (by kernel_rfl) (by kernel_rfl) (by kernel_rfl) (by kernel_rfl) (fun _ _ _ h => h) (Or.inr ⟨((wanted_at rfl rfl rfl rfl).trans rfl), rfl⟩) (Below.refl _ _) ?_
                simp only [List.getElem_toArray, List.getElem_cons_succ, List.getElem_cons_zero, Act.put, List.setIfInBounds_toArray, List.set_cons_zero, List.set_cons_succ]
                refine but_take (f := 21) (i := 4) (v := undef) rfl (by kernel_rfl) (by kernel_rfl) (by kernel_rfl) (by kernel_rfl) (by kernel_rfl) (fun _ _ _ h => h) (Or.inr ⟨((wanted_at rfl rfl rfl rfl).trans rfl), rfl⟩) (Below.refl _ _) ?_
                simp only [List.getElem_toArray, List.getElem_cons_succ, List.getElem_cons_zero, Act.put, List.setIfInBounds_toArray, List.set_cons_zero, List.set_cons_succ]
                refine but_take (f := 21) (i := 5) (v := undef) rfl (by kernel_rfl) (by kernel_rfl) (by kernel_rfl) (by kernel_rfl) (by kernel_rfl) (fun _ _ _ h => h) (Or.inr ⟨((wanted_at rfl rfl rfl rfl).trans rfl), rfl⟩) (Below.refl _ _) ?_
                simp only [List.getElem_toArray, List.getElem_cons_succ, List.getElem_cons_zero, Act.put, List.setIfInBounds_toArray, List.set_cons_zero, List.set_cons_succ]
                refine but_take (f := 21) (i := 6) (v := undef) rfl (by kernel_rfl) (by kernel_rfl) (by kernel_rfl) (by kernel_rfl) (by kernel_rfl) (fun _ _ _ h => h) (Or.inr ⟨((wanted_at rfl rfl rfl rfl).trans rfl), rfl⟩) (Below.refl _ _) ?_
                simp only [List.getElem_toArray, List.getElem_cons_succ, List.getElem_cons_zero, Act.put, List.setIfInBounds_toArray, List.set_cons_zero, List.set_cons_succ]
                refine but_take (f := 21) (i := 7) (v := undef) rfl (by kernel_rfl) (by kernel_rfl) (by kernel_rfl) (by kernel_rfl) (by kernel_rfl) (fun _ _ _ h => h) (Or.inr ⟨((wanted_at rfl rfl rfl rfl).trans rfl), rfl⟩) (Below.refl _ _) ?_
                simp only [List.getElem_toArray, List.getElem_cons_succ, List.getElem_cons_zero, Act.put, List.setIfInBounds_toArray, List.set_cons_zero, List.set_cons_succ]
                refine but_take (f := 21) (i := 8) (v := undef) rfl (by kernel_rfl) (by kernel_rfl) (by kernel_rfl) (by kernel_rfl) (by kernel_rfl) (fun _ _ _ h => h) (Or.inr ⟨((wanted_at rfl rfl rfl rfl).trans rfl), rfl⟩) (Below.refl _ _) ?_
                simp only [List.getElem_toArray, List.getElem_cons_succ, List.getElem_cons_zero, Act.put, List.setIfInBounds_toArray, List.set_cons_zero, List.set_cons_succ]
                refine but_take (f := 21) (i := 9) (v := undef) rfl (by kernel_rfl) (by kernel_rfl) (by kernel_rfl) (by kernel_rfl) (by kernel_rfl) (fun _ _ _ h => h) (Or.inr ⟨((wanted_at rfl rfl rfl rfl).trans rfl), rfl⟩) (Below.refl _ _) ?_
                simp only [List.getElem_toArray, List.getElem_cons_succ, List.getElem_cons_zero, Act.put, List.setIfInBounds_toArray, List.set_cons_zero, List.set_cons_succ]
                refine but_take (f := 21) (i := 10) (v := undef) rfl (by kernel_rfl) (by kernel_rfl) (by kernel_rfl) (by kernel_rfl) (by kernel_rfl) (fun _ _ _ h => h) (Or.inr ⟨((wanted_at rfl rfl rfl rfl).trans rfl), rfl⟩) (Below.refl _ _) ?_
                simp only [List.getElem_toArray, List.getElem_cons_succ, List.getElem_cons_zero, Act.put, List.setIfInBounds_toArray, List.set_cons_zero, List.set_cons_succ]
                refine but_take (f := 21) (i := 11) (v := undef) rfl (by kernel_rfl) (by kernel_rfl) (by kernel_rfl) (by kernel_rfl) (by kernel_rfl) (fun _ _ _ h => h) (Or.inr ⟨((wanted_at rfl rfl rfl rfl).trans rfl), rfl⟩) (Below.refl _ _) ?_
                simp only [List.getElem_toArray, List.getElem_cons_succ, List.getElem_cons_zero, Act.put, List.setIfInBounds_toArray, List.set_cons_zero, List.set_cons_succ]
                refine but_take (f := 21) (i := 12) (v := undef) rfl (by kernel_rfl) (by kernel_rfl) (by kernel_rfl) (by kernel_rfl) (by kernel_rfl) (fun _ _ _ h => h) (Or.inr ⟨((wanted_at rfl rfl rfl rfl).trans rfl), rfl⟩) (Below.refl _ _) ?_
                simp only [List.getElem_toArray, List.getElem_cons_succ, List.getElem_cons_zero, Act.put, List.setIfInBounds_toArray, List.set_cons_zero, List.set_cons_succ]
                refine but_take (f := 21) (i := 13) (v := undef) rfl (by kernel_rfl) (by kernel_rfl) (by kernel_rfl) (by kernel_rfl) (by kernel_rfl) (fun _ _ _ h => h) (Or.inr ⟨((wanted_at rfl rfl rfl rfl).trans rfl), rfl⟩) (Below.refl _ _) ?_
                simp only [List.getElem_toArray, List.getElem_cons_succ, List.getElem_cons_zero, Act.put, List.setIfInBounds_toArray, List.set_cons_zero, List.set_cons_succ]
                refine but_take (f := 21) (i := 14) (v := undef) rfl (by kernel_rfl) (by kernel_rfl) (by kernel_rfl) (by kernel_rfl) (by kernel_rfl) (fun _ _ _ h => h) (Or.inr ⟨((wanted_at rfl rfl rfl rfl).trans rfl), rfl⟩) (Below.refl _ _) ?_
                simp only [List.getElem_toArray, List.getElem_cons_succ, List.getElem_cons_zero, Act.put, List.setIfInBounds_toArray, List.set_cons_zero, List.set_cons_succ]
                refine but_take (f := 21) (i := 15) (v := ?vk0b15) rfl (by kernel_rfl) (by kernel_rfl) (by kernel_rfl) (by kernel_rfl) (by kernel_rfl) (fun _ _ _ h => h) (Or.inl ⟨(by rfl), ?hyk0b15⟩) (Below.refl _ _) ?restk0b15
                case hyk0b15 =>
                  intro W hW
                  go_simp
                  exact rfl
                simp only [List.getElem_toArray, List.getElem_cons_succ, List.getElem_cons_zero, Act.put, List.setIfInBounds_toArray, List.set_cons_zero, List.set_cons_succ]
                refine but_take (f := 21) (i := 16) (v := ?vk0b16) rfl (by kernel_rfl) (by kernel_rfl) (by kernel_rfl) (by kernel_rfl) (by kernel_rfl) (fun _ _ _ h => h) (Or.inl ⟨(by rfl), ?hyk0b16⟩) (Below.refl _ _) ?restk0b16
                case hyk0b16 =>
                  intro W hW
                  go_simp
                  exact rfl
                simp only [List.getElem_toArray, List.getElem_cons_succ, List.getElem_cons_zero, Act.put, List.setIfInBounds_toArray, List.set_cons_zero, List.set_cons_succ]
                refine but_take (f := 21) (i := 17) (v := ?vk0b17) rfl (by kernel_rfl) (by kernel_rfl) (by kernel_rfl) (by kernel_rfl) (by kernel_rfl) (fun _ _ _ h => h) (Or.inl ⟨((wanted_at rfl rfl rfl rfl).trans rfl), ?hyk0b17⟩) (Below.refl _ _) ?restk0b17
                case hyk0b17 =>
                  intro W hW
                  have hb0 : Below wr.heap.size wr W := bstep (Below.drew1 _) hW
                  obtain ⟨x0, x1, x2⟩ := box2 (box_on QW.out hb0)
                  go_simp
                  exact rfl
                simp only [List.getElem_toArray, List.getElem_cons_succ, List.getElem_cons_zero, Act.put, List.setIfInBounds_toArray, List.set_cons_zero, List.set_cons_succ]
                refine but_take (f := 21) (i := 18) (v := ?vk0b18) rfl (by kernel_rfl) (by kernel_rfl) (by kernel_rfl) (by kernel_rfl) (by kernel_rfl) (fun _ _ _ h => h) (Or.inl ⟨((wanted_at rfl rfl rfl rfl).trans rfl), ?hyk0b18⟩) (Below.refl _ _) ?restk0b18
                case hyk0b18 =>
                  intro W hW
                  go_simp
                  exact rfl
                simp only [List.getElem_toArray, List.getElem_cons_succ, List.getElem_cons_zero, Act.put, List.setIfInBounds_toArray, List.set_cons_zero, List.set_cons_succ]
                refine but_run (i := 19) (by kernel_rfl) rfl ((wanted_at rfl rfl rfl rfl).trans rfl) ?_
                simp only [List.getElem_toArray, List.getElem_cons_succ, List.getElem_cons_zero]
                intro K HK
                go_wp2_with fail
                refine (l6Node_any _ _ lo ts k _ (HVV.out.on (bstep (Below.drew1 _) (Below.refl _ _))) hlt (by omega) (by omega) (by omega) (by omega)).mono ?_
                rintro r Vk0b1 ⟨rfl, hBk0b1⟩
                rw [HFB.out]
                have hSk0b1 := bstep (Below.refl _ _) hBk0b1
                go_wp2_with fail
                refine HK.out _ Vk0b1 (fun _ => hSk0b1) ?_
                clear HK
                refine but_take (f := 21) (i := 20) (v := ?vk0b20) rfl (by kernel_rfl) (by kernel_rfl) (by kernel_rfl) (by kernel_rfl) (by kernel_rfl) (fun _ _ _ h => h) (Or.inl ⟨((wanted_at rfl rfl rfl rfl).trans rfl), ?hyk0b20⟩) hSk0b1 ?restk0b20
                case hyk0b20 =>
                  intro W hW
                  go_simp
                  exact rfl
                simp only [List.getElem_toArray, List.getElem_cons_succ, List.getElem_cons_zero, Act.put, List.setIfInBounds_toArray, List.set_cons_zero, List.set_cons_succ]
                refine but_run (i := 21) (by kernel_rfl) rfl (by rfl) ?_
                simp only [List.getElem_toArray, List.getElem_cons_succ, List.getElem_cons_zero]
                intro K HK
                go_wp2_with fail
                refine HK.out _ Vk0b1 (fun h => absurd rfl h) ?_
                clear HK
                refine but_done (by kernel_rfl) ?_
                go_wp2_with fail
                go_ret
                exact ⟨ret_boolB HBAD.out.symm, bstep HB.out (bstep HX.out (bstep (Below.drew1 _) hSk0b1))⟩
              · have HFB := Lib.hid hfb
                have HN1 : Hid (∀ j, j < k + 1 → fitB lo j (ts.getD j []) = true) := Lib.hid (fun j h => by
                  rcases Nat.lt_or_ge j k with h' | h'
                  · exact HI1.out j h'
                  · have : j = k := by omega
                    subst this; rw [getD_node hlt]; exact hfb)
                have HN2 := HR
                clear hfb
                go_wp2
                refine but_begin (f := 21) (S := fun V => Below wr.drew.heap.size wr.drew V) (by kernel_rfl) ?_
                refine but_take (f := 21) (i := 0) (v := ?vk0g0) rfl (by kernel_rfl) (by kernel_rfl) (by kernel_rfl) (by kernel_rfl) (by kernel_rfl) (fun _ _ _ h => h) (Or.inl ⟨(by rfl), ?hyk0g0⟩) (Below.refl _ _) ?restk0g0
                case hyk0g0 =>
                  intro W hW
                  go_simp
                  exact rfl
                simp only [List.getElem_toArray, List.getElem_cons_succ, List.getElem_cons_zero, Act.put, List.setIfInBounds_toArray, List.set_cons_zero, List.set_cons_succ]
                refine but_take (f := 21) (i := 1) (v := ?vk0g1) rfl (by kernel_rfl) (by kernel_rfl) (by kernel_rfl) (by kernel_rfl) (by kernel_rfl) (fun _ _ _ h => h) (Or.inl ⟨(by rfl), ?hyk0g1⟩) (Below.refl _ _) ?restk0g1
                case hyk0g1 =>
                  intro W hW
                  go_simp
                  exact rfl
                simp only [List.getElem_toArray, List.getElem_cons_succ, List.getElem_cons_zero, Act.put, List.setIfInBounds_toArray, List.set_cons_zero, List.set_cons_succ]
                refine but_take (f := 21) (i := 2) (v := ?vk0g2) rfl (by kernel_rfl) (by kernel_rfl) (by kernel_rfl) (by kernel_rfl) (by kernel_rfl) (fun _ _ _ h => h) (Or.inl ⟨(by rfl), ?hyk0g2⟩) (Below.refl _ _) ?restk0g2
                case hyk0g2 =>
                  intro W hW
                  go_simp
                  exact rfl
                simp only [List.getElem_toArray, List.getElem_cons_succ, List.getElem_cons_zero, Act.put, List.setIfInBounds_toArray, List.set_cons_zero, List.set_cons_succ]
                refine but_take (f := 21) (i := 3) (v := undef) rfl (by kernel_rfl) (by kernel_rfl) (by kernel_rfl) (by kernel_rfl) (by kernel_rfl) (fun _ _ _ h => h) (Or.inr ⟨((wanted_at rfl rfl rfl rfl).trans rfl), rfl⟩) (Below.refl _ _) ?_
                simp only [List.getElem_toArray, List.getElem_cons_succ, List.getElem_cons_zero, Act.put, List.setIfInBounds_toArray, List.set_cons_zero, List.set_cons_succ]
                refine but_take (f := 21) (i := 4) (v := undef) rfl (by kernel_rfl) (by kernel_rfl) (by kernel_rfl) (by kernel_rfl) (by kernel_rfl) (fun _ _ _ h => h) (Or.inr ⟨((wanted_at rfl rfl rfl rfl).trans rfl), rfl⟩) (Below.refl _ _) ?_
                simp only [List.getElem_toArray, List.getElem_cons_succ, List.getElem_cons_zero, Act.put, List.setIfInBounds_toArray, List.set_cons_zero, List.set_cons_succ]
                refine but_take (f := 21) (i := 5) (v := undef) rfl (by kernel_rfl) (by kernel_rfl) (by kernel_rfl) (by kernel_rfl) (by kernel_rfl) (fun _ _ _ h => h) (Or.inr ⟨((wanted_at rfl rfl rfl rfl).trans rfl), rfl⟩) (Below.refl _ _) ?_
                simp only [List.getElem_toArray, List.getElem_cons_succ, List.getElem_cons_zero, Act.put, List.setIfInBounds_toArray, List.set_cons_zero, List.set_cons_succ]
                refine but_take (f := 21) (i := 6) (v := undef) rfl (by kernel_rfl) (by kernel_rfl) (by kernel_rfl) (by kernel_rfl) (by kernel_rfl) (fun _ _ _ h => h) (Or.inr ⟨((wanted_at rfl rfl rfl rfl).trans rfl), rfl⟩) (Below.refl _ _) ?_
                simp only [List.getElem_toArray, List.getElem_cons_succ, List.getElem_cons_zero, Act.put, List.setIfInBounds_toArray, List.set_cons_zero, List.set_cons_succ]
                refine but_take (f := 21) (i := 7) (v := undef) rfl (by kernel_rfl) (by kernel_rfl) (by kernel_rfl) (by kernel_rfl) (by kernel_rfl) (fun _ _ _ h => h) (Or.inr ⟨((wanted_at rfl rfl rfl rfl).trans rfl), rfl⟩) (Below.refl _ _) ?_
                simp only [List.getElem_toArray, List.getElem_cons_succ, List.getElem_cons_zero, Act.put, List.setIfInBounds_toArray, List.set_cons_zero, List.set_cons_succ]
                refine but_take (f := 21) (i := 8) (v := undef) rfl (by kernel_rfl) (by kernel_rfl) (by kernel_rfl) (by kernel_rfl) (by kernel_rfl) (fun _ _ _ h => h) (Or.inr ⟨((wanted_at rfl rfl rfl rfl).trans rfl), rfl⟩) (Below.refl _ _) ?_
                simp only [List.getElem_toArray, List.getElem_cons_succ, List.getElem_cons_zero, Act.put, List.setIfInBounds_toArray, List.set_cons_zero, List.set_cons_succ]
                refine but_take (f := 21) (i := 9) (v := undef) rfl (by kernel_rfl) (by kernel_rfl) (by kernel_rfl) (by kernel_rfl) (by kernel_rfl) (fun _ _ _ h => h) (Or.inr ⟨((wanted_at rfl rfl rfl rfl).trans rfl), rfl⟩) (Below.refl _ _) ?_
                simp only [List.getElem_toArray, List.getElem_cons_succ, List.getElem_cons_zero, Act.put, List.setIfInBounds_toArray, List.set_cons_zero, List.set_cons_succ]
                refine but_take (f := 21) (i := 10) (v := undef) rfl (by kernel_rfl) (by kernel_rfl) (by kernel_rfl) (by kernel_rfl) (by kernel_rfl) (fun _ _ _ h => h) (Or.inr ⟨((wanted_at rfl rfl rfl rfl).trans rfl), rfl⟩) (Below.refl _ _) ?_
                simp only [List.getElem_toArray, List.getElem_cons_succ, List.getElem_cons_zero, Act.put, List.setIfInBounds_toArray, List.set_cons_zero, List.set_cons_succ]
                refine but_take (f := 21) (i := 11) (v := undef) rfl (by kernel_rfl) (by kernel_rfl) (by kernel_rfl) (by kernel_rfl) (by kernel_rfl) (fun _ _ _ h => h) (Or.inr ⟨((wanted_at rfl rfl rfl rfl).trans rfl), rfl⟩) (Below.refl _ _) ?_
                simp only [List.getElem_toArray, List.getElem_cons_succ, List.getElem_cons_zero, Act.put, List.setIfInBounds_toArray, List.set_cons_zero, List.set_cons_succ]
                refine but_take (f := 21) (i := 12) (v := undef) rfl (by kernel_rfl) (by kernel_rfl) (by kernel_rfl) (by kernel_rfl) (by kernel_rfl) (fun _ _ _ h => h) (Or.inr ⟨((wanted_at rfl rfl rfl rfl).trans rfl), rfl⟩) (Below.refl _ _) ?_
                simp only [List.getElem_toArray, List.getElem_cons_succ, List.getElem_cons_zero, Act.put, List.setIfInBounds_toArray, List.set_cons_zero, List.set_cons_succ]
                refine but_take (f := 21) (i := 13) (v := undef) rfl (by kernel_rfl) (by kernel_rfl) (by kernel_rfl) (by kernel_rfl) (by kernel_rfl) (fun _ _ _ h => h) (Or.inr ⟨((wanted_at rfl rfl rfl rfl).trans rfl), rfl⟩) (Below.refl _ _) ?_
                simp only [List.getElem_toArray, List.getElem_cons_succ, List.getElem_cons_zero, Act.put, List.setIfInBounds_toArray, List.set_cons_zero, List.set_cons_succ]
                refine but_take (f := 21) (i := 14) (v := undef) rfl (by kernel_rfl) (by kernel_rfl) (by kernel_rfl) (by kernel_rfl) (by kernel_rfl) (fun _ _ _ h => h) (Or.inr ⟨((wanted_at rfl rfl rfl rfl).trans rfl), rfl⟩) (Below.refl _ _) ?_
                simp only [List.getElem_toArray, List.getElem_cons_succ, List.getElem_cons_zero, Act.put, List.setIfInBounds_toArray, List.set_cons_zero, List.set_cons_succ]
                refine but_take (f := 21) (i := 15) (v := ?vk0g15) rfl (by kernel_rfl) (by kernel_rfl) (by kernel_rfl) (by kernel_rfl) (by kernel_rfl) (fun _ _ _ h => h) (Or.inl ⟨(by rfl), ?hyk0g15⟩) (Below.refl _ _) ?restk0g15
                case hyk0g15 =>
                  intro W hW
                  go_simp
                  exact rfl
                simp only [List.getElem_toArray, List.getElem_cons_succ, List.getElem_cons_zero, Act.put, List.setIfInBounds_toArray, List.set_cons_zero, List.set_cons_succ]
                refine but_take (f := 21) (i := 16) (v := ?vk0g16) rfl (by kernel_rfl) (by kernel_rfl) (by kernel_rfl) (by kernel_rfl) (by kernel_rfl) (fun _ _ _ h => h) (Or.inl ⟨(by rfl), ?hyk0g16⟩) (Below.refl _ _) ?restk0g16
                case hyk0g16 =>
                  intro W hW
                  go_simp
                  exact rfl
                simp only [List.getElem_toArray, List.getElem_cons_succ, List.getElem_cons_zero, Act.put, List.setIfInBounds_toArray, List.set_cons_zero, List.set_cons_succ]
                refine but_take (f := 21) (i := 17) (v := ?vk0g17) rfl (by kernel_rfl) (by kernel_rfl) (by kernel_rfl) (by kernel_rfl) (by kernel_rfl) (fun _ _ _ h => h) (Or.inl ⟨((wanted_at rfl rfl rfl rfl).trans rfl), ?hyk0g17⟩) (Below.refl _ _) ?restk0g17
                case hyk0g17 =>
                  intro W hW
                  have hb0 : Below wr.heap.size wr W := bstep (Below.drew1 _) hW
                  obtain ⟨x0, x1, x2⟩ := box2 (box_on QW.out hb0)
                  go_simp
                  exact rfl
                simp only [List.getElem_toArray, List.getElem_cons_succ, List.getElem_cons_zero, Act.put, List.setIfInBounds_toArray, List.set_cons_zero, List.set_cons_succ]
                refine but_take (f := 21) (i := 18) (v := ?vk0g18) rfl (by kernel_rfl) (by kernel_rfl) (by kernel_rfl) (by kernel_rfl) (by kernel_rfl) (fun _ _ _ h => h) (Or.inl ⟨((wanted_at rfl rfl rfl rfl).trans rfl), ?hyk0g18⟩) (Below.refl _ _) ?restk0g18
                case hyk0g18 =>
                  intro W hW
                  go_simp
                  exact rfl
                simp only [List.getElem_toArray, List.getElem_cons_succ, List.getElem_cons_zero, Act.put, List.setIfInBounds_toArray, List.set_cons_zero, List.set_cons_succ]
                refine but_run (i := 19) (by kernel_rfl) rfl ((wanted_at rfl rfl rfl rfl).trans rfl) ?_
                simp only [List.getElem_toArray, List.getElem_cons_succ, List.getElem_cons_zero]
                intro K HK
                go_wp2_with fail
                refine (l6Node_any _ _ lo ts k _ (HVV.out.on (bstep (Below.drew1 _) (Below.refl _ _))) hlt (by omega) (by omega) (by omega) (by omega)).mono ?_
                rintro r Vk0g1 ⟨rfl, hBk0g1⟩
                rw [HFB.out]
                have hSk0g1 := bstep (Below.refl _ _) hBk0g1
                go_wp2_with fail
                refine HK.out _ Vk0g1 (fun _ => hSk0g1) ?_
                clear HK
                refine but_take (f := 21) (i := 20) (v := ?vk0g20) rfl (by kernel_rfl) (by kernel_rfl) (by kernel_rfl) (by kernel_rfl) (by kernel_rfl) (fun _ _ _ h => h) (Or.inl ⟨((wanted_at rfl rfl rfl rfl).trans rfl), ?hyk0g20⟩) hSk0g1 ?restk0g20
                case hyk0g20 =>
                  intro W hW
                  go_simp
                  exact rfl
                simp only [List.getElem_toArray, List.getElem_cons_succ, List.getElem_cons_zero, Act.put, List.setIfInBounds_toArray, List.set_cons_zero, List.set_cons_succ]
                refine but_run (i := 21) (by kernel_rfl) rfl (by rfl) ?_
                simp only [List.getElem_toArray, List.getElem_cons_succ, List.getElem_cons_zero]
                intro K HK
                go_wp2_with fail
                refine HK.out _ Vk0g1 (fun h => absurd rfl h) ?_
                clear HK
                refine but_done (by kernel_rfl) ?_
                go_wp2_with fail
                go_roundw
                case rel => exact ⟨k + 1, by omega, by go_num, HN1, HN2, Lib.hid (bstep HX.out (bstep (Below.drew1 _) hSk0g1))⟩
                case measure => simp [intOf]; omega
            · have hkP : k - 1 < lo.length := by omega
              have z0 : decide (0 < k) = true := decide_eq_true (by omega)
              have i4 : IntKind.i64.wrap ((k : Int) - 1) = (k : Int) - 1 := by rw [IntKind.wrap_i64]; omega
              have i5 : (0 : Int) ≤ (k : Int) - 1 := by omega
              have i8 : (1 : Int) ≤ (k : Int) := by omega
              have i6 : (k : Int) - 1 < (lo.length : Int) := by omega
              have i7 : ((k : Int) - 1).toNat = k - 1 := by omega
              have gp := getD_at hkP
              have hkk : k - 1 + 1 = k := by omega
              by_cases hr : lo[k - 1] < lo[k]
              · have z1 : decide (lo[k] ≤ lo[k - 1]) = false := decide_eq_false (by omega)
                have HR : Hid (∀ j, j + 1 < k + 1 → lo.getD j 0 < lo.getD (j + 1) 0) := Lib.hid (fun j h => by
                  rcases Nat.lt_or_ge (j + 1) k with h' | h'
                  · exact HI2.out j h'
                  · have : j = k - 1 := by omega
                    subst this; rw [hkk, gk, gp]; exact hr)
                clear hkk gp gk hr hk0
                cases hfb : fitB lo k ts[k]
                · have HFB := Lib.hid hfb
                  have HBAD : Hid (treeOkB lo ts = false) := Lib.hid (tree_bad (fun h => by have := h.2.2.2.2.2.1 k hlt; rw [getD_node hlt, hfb] at this; cases this))
                  clear hfb
                  go_wp2
                  refine but_begin (f := 21) (S := fun V => Below wr.drew.heap.size wr.drew V) (by kernel_rfl) ?_
                  refine but_take (f := 21) (i := 0) (v := ?vkub0) rfl (by kernel_rfl) (by kernel_rfl) (by kernel_rfl) (by kernel_rfl) (by kernel_rfl) (fun _ _ _ h => h) (Or.inl ⟨(by rfl), ?hykub0⟩) (Below.refl _ _) ?restkub0
                  case hykub0 =>
                    intro W hW
                    go_simp
                    exact rfl
                  simp only [List.getElem_toArray, List.getElem_cons_succ, List.getElem_cons_zero, Act.put, List.setIfInBounds_toArray, List.set_cons_zero, List.set_cons_succ]
                  refine but_take (f := 21) (i := 1) (v := ?vkub1) rfl (by kernel_rfl) (by kernel_rfl) (by kernel_rfl) (by kernel_rfl) (by kernel_rfl) (fun _ _ _ h => h) (Or.inl ⟨(by rfl), ?hykub1⟩) (Below.refl _ _) ?restkub1
                  case hykub1 =>
                    intro W hW
                    go_simp
                    exact rfl
                  simp only [List.getElem_toArray, List.getElem_cons_succ, List.getElem_cons_zero, Act.put, List.setIfInBounds_toArray, List.set_cons_zero, List.set_cons_succ]
                  refine but_take (f := 21) (i := 2) (v := ?vkub2) rfl (by kernel_rfl) (by kernel_rfl) (by kernel_rfl) (by kernel_rfl) (by kernel_rfl) (fun _ _ _ h => h) (Or.inl ⟨(by rfl), ?hykub2⟩) (Below.refl _ _) ?restkub2
                  case hykub2 =>
                    intro W hW
                    go_simp
                    exact rfl
                  simp only [List.getElem_toArray, List.getElem_cons_succ, List.getElem_cons_zero, Act.put, List.setIfInBounds_toArray, List.set_cons_zero, List.set_cons_succ]
                  refine but_take (f := 21) (i := 3) (v := ?vkub3) rfl (by kernel_rfl) (by kernel_rfl) (by kernel_rfl) (by kernel_rfl) (by kernel_rfl) (fun _ _ _ h => h) (Or.inl ⟨((wanted_at rfl rfl rfl rfl).trans rfl), ?hykub3⟩) (Below.refl _ _) ?restkub3
                  case hykub3 =>
                    intro W hW
                    go_simp
                    exact rfl
                  simp only [List.getElem_toArray, List.getElem_cons_succ, List.getElem_cons_zero, Act.put, List.setIfInBounds_toArray, List.set_cons_zero, List.set_cons_succ]
                  refine but_take (f := 21) (i := 4) (v := ?vkub4) rfl (by kernel_rfl) (by kernel_rfl) (by kernel_rfl) (by kernel_rfl) (by kernel_rfl) (fun _ _ _ h => h) (Or.inl ⟨((wanted_at rfl rfl rfl rfl).trans rfl), ?hykub4⟩) (Below.refl _ _) ?restkub4
                  case hykub4 =>
                    intro W hW
                    have hb0 : Below wr.heap.size wr W := bstep (Below.drew1 _) hW
                    obtain ⟨x0, x1, x2⟩ := box2 (box_on QW.out hb0)
                    go_simp
                    exact rfl
                  simp only [List.getElem_toArray, List.getElem_cons_succ, List.getElem_cons_zero, Act.put, List.setIfInBounds_toArray, List.set_cons_zero, List.set_cons_succ]
                  refine but_take (f := 21) (i := 5) (v := ?vkub5) rfl (by kernel_rfl) (by kernel_rfl) (by kernel_rfl) (by kernel_rfl) (by kernel_rfl) (fun _ _ _ h => h) (Or.inl ⟨((wanted_at rfl rfl rfl rfl).trans rfl), ?hykub5⟩) (Below.refl _ _) ?restkub5
                  case hykub5 =>
                    intro W hW
                    go_simp
                    exact rfl
                  simp only [List.getElem_toArray, List.getElem_cons_succ, List.getElem_cons_zero, Act.put, List.setIfInBounds_toArray, List.set_cons_zero, List.set_cons_succ]
                  refine but_take (f := 21) (i := 6) (v := ?vkub6) rfl (by kernel_rfl) (by kernel_rfl) (by kernel_rfl) (by kernel_rfl) (by kernel_rfl) (fun _ _ _ h => h) (Or.inl ⟨((wanted_at rfl rfl rfl rfl).trans rfl), ?hykub6⟩) (Below.refl _ _) ?restkub6
                  case hykub6 =>
                    intro W hW
                    go_simp
                    exact rfl
                  simp only [List.getElem_toArray, List.getElem_cons_succ, List.getElem_cons_zero, Act.put, List.setIfInBounds_toArray, List.set_cons_zero, List.set_cons_succ]
                  refine but_take (f := 21) (i := 7) (v := ?vkub7) rfl (by kernel_rfl) (by kernel_rfl) (by kernel_rfl) (by kernel_rfl) (by kernel_rfl) (fun _ _ _ h => h) (Or.inl ⟨((wanted_at rfl rfl rfl rfl).trans rfl), ?hykub7⟩) (Below.refl _ _) ?restkub7
                  case hykub7 =>
                    intro W hW
                    go_simp
                    exact rfl
                  simp only [List.getElem_toArray, List.getElem_cons_succ, List.getElem_cons_zero, Act.put, List.setIfInBounds_toArray, List.set_cons_zero, List.set_cons_succ]
                  refine but_take (f := 21) (i := 8) (v := ?vkub8) rfl (by kernel_rfl) (by kernel_rfl) (by kernel_rfl) (by kernel_rfl) (by kernel_rfl) (fun _ _ _ h => h) (Or.inl ⟨((wanted_at rfl rfl rfl rfl).trans rfl), ?hykub8⟩) (Below.refl _ _) ?restkub8
                  case hykub8 =>
                    intro W hW
                    have hb0 : Below wr.heap.size wr W := bstep (Below.drew1 _) hW
                    have f1 := (HLO.out.on hb0).cellI hkL
                    have f2 := (HLO.out.on hb0).cellI hkP
                    go_simp
                    exact rfl
                  simp only [List.getElem_toArray, List.getElem_cons_succ, List.getElem_cons_zero, Act.put, List.setIfInBounds_toArray, List.set_cons_zero, List.set_cons_succ]
                  refine but_take (f := 21) (i := 9) (v := ?vkub9) rfl (by kernel_rfl) (by kernel_rfl) (by kernel_rfl) (by kernel_rfl) (by kernel_rfl) (fun _ _ _ h => h) (Or.inl ⟨((wanted_at rfl rfl rfl rfl).trans rfl), ?hykub9⟩) (Below.refl _ _) ?restkub9
                  case hykub9 =>
                    intro W hW
                    go_simp
                    exact rfl
                  simp only [List.getElem_toArray, List.getElem_cons_succ, List.getElem_cons_zero, Act.put, List.setIfInBounds_toArray, List.set_cons_zero, List.set_cons_succ]
                  refine but_take (f := 21) (i := 10) (v := ?vkub10) rfl (by kernel_rfl) (by kernel_rfl) (by kernel_rfl) (by kernel_rfl) (by kernel_rfl) (fun _ _ _ h => h) (Or.inl ⟨((wanted_at rfl rfl rfl rfl).trans rfl), ?hykub10⟩) (Below.refl _ _) ?restkub10
                  case hykub10 =>
                    intro W hW
                    have hb0 : Below wr.heap.size wr W := bstep (Below.drew1 _) hW
                    obtain ⟨x0, x1, x2⟩ := box2 (box_on QW.out hb0)
                    go_simp
                    exact rfl
                  simp only [List.getElem_toArray, List.getElem_cons_succ, List.getElem_cons_zero, Act.put, List.setIfInBounds_toArray, List.set_cons_zero, List.set_cons_succ]
                  refine but_take (f := 21) (i := 11) (v := ?vkub11) rfl (by kernel_rfl) (by kernel_rfl) (by kernel_rfl) (by kernel_rfl) (by kernel_rfl) (fun _ _ _ h => h) (Or.inl ⟨((wanted_at rfl rfl rfl rfl).trans rfl), ?hykub11⟩) (Below.refl _ _) ?restkub11
                  case hykub11 =>
                    intro W hW
                    go_simp
                    exact rfl
                  simp only [List.getElem_toArray, List.getElem_cons_succ, List.getElem_cons_zero, Act.put, List.setIfInBounds_toArray, List.set_cons_zero, List.set_cons_succ]
                  refine but_take (f := 21) (i := 12) (v := ?vkub12) rfl (by kernel_rfl) (by kernel_rfl) (by kernel_rfl) (by kernel_rfl) (by kernel_rfl) (fun _ _ _ h => h) (Or.inl ⟨((wanted_at rfl rfl rfl rfl).trans rfl), ?hykub12⟩) (Below.refl _ _) ?restkub12
                  case hykub12 =>
                    intro W hW
                    go_simp
                    exact rfl
                  simp only [List.getElem_toArray, List.getElem_cons_succ, List.getElem_cons_zero, Act.put, List.setIfInBounds_toArray, List.set_cons_zero, List.set_cons_succ]
                  refine but_take (f := 21) (i := 13) (v := ?vkub13) rfl (by kernel_rfl) (by kernel_rfl) (by kernel_rfl) (by kernel_rfl) (by kernel_rfl) (fun _ _ _ h => h) (Or.inl ⟨((wanted_at rfl rfl rfl rfl).trans rfl), ?hykub13⟩) (Below.refl _ _) ?restkub13
                  case hykub13 =>
                    intro W hW
                    have hb0 : Below wr.heap.size wr W := bstep (Below.drew1 _) hW
                    have f1 := (HLO.out.on hb0).cellI hkL
                    have f2 := (HLO.out.on hb0).cellI hkP
                    go_simp
                    exact rfl
                  simp only [List.getElem_toArray, List.getElem_cons_succ, List.getElem_cons_zero, Act.put, List.setIfInBounds_toArray, List.set_cons_zero, List.set_cons_succ]
                  refine but_take (f := 21) (i := 14) (v := ?vkub14) rfl (by kernel_rfl) (by kernel_rfl) (by kernel_rfl) (by kernel_rfl) (by kernel_rfl) (fun _ _ _ h => h) (Or.inl ⟨((wanted_at rfl rfl rfl rfl).trans rfl), ?hykub14⟩) (Below.refl _ _) ?restkub14
                  case hykub14 =>
                    intro W hW
                    go_simp
                    exact rfl
                  simp only [List.getElem_toArray, List.getElem_cons_succ, List.getElem_cons_zero, Act.put, List.setIfInBounds_toArray, List.set_cons_zero, List.set_cons_succ]
                  refine but_take (f := 21) (i := 15) (v := ?vkub15) rfl (by kernel_rfl) (by kernel_rfl) (by kernel_rfl) (by kernel_rfl) (by kernel_rfl) (fun _ _ _ h => h) (Or.inl ⟨(by rfl), ?hykub15⟩) (Below.refl _ _) ?restkub15
                  case hykub15 =>
                    intro W hW
                    go_simp
                    exact rfl
                  simp only [List.getElem_toArray, List.getElem_cons_succ, List.getElem_cons_zero, Act.put, List.setIfInBounds_toArray, List.set_cons_zero, List.set_cons_succ]
                  refine but_take (f := 21) (i := 16) (v := ?vkub16) rfl (by kernel_rfl) (by kernel_rfl) (by kernel_rfl) (by kernel_rfl) (by kernel_rfl) (fun _ _ _ h => h) (Or.inl ⟨(by rfl), ?hykub16⟩) (Below.refl _ _) ?restkub16
                  case hykub16 =>
                    intro W hW
                    go_simp
                    exact rfl
                  simp only [List.getElem_toArray, List.getElem_cons_succ, List.getElem_cons_zero, Act.put, List.setIfInBounds_toArray, List.set_cons_zero, List.set_cons_succ]
                  refine but_take (f := 21) (i := 17) (v := ?vkub17) rfl (by kernel_rfl) (by kernel_rfl) (by kernel_rfl) (by kernel_rfl) (by kernel_rfl) (fun _ _ _ h => h) (Or.inl ⟨((wanted_at rfl rfl rfl rfl).trans rfl), ?hykub17⟩) (Below.refl _ _) ?restkub17
                  case hykub17 =>
                    intro W hW
                    have hb0 : Below wr.heap.size wr W := bstep (Below.drew1 _) hW
                    obtain ⟨x0, x1, x2⟩ := box2 (box_on QW.out hb0)
                    go_simp
                    exact rfl
                  simp only [List.getElem_toArray, List.getElem_cons_succ, List.getElem_cons_zero, Act.put, List.setIfInBounds_toArray, List.set_cons_zero, List.set_cons_succ]
                  refine but_take (f := 21) (i := 18) (v := ?vkub18) rfl (by kernel_rfl) (by kernel_rfl) (by kernel_rfl) (by kernel_rfl) (by kernel_rfl) (fun _ _ _ h => h) (Or.inl ⟨((wanted_at rfl rfl rfl rfl).trans rfl), ?hykub18⟩) (Below.refl _ _) ?restkub18
                  case hykub18 =>
                    intro W hW
                    go_simp
                    exact rfl
                  simp only [List.getElem_toArray, List.getElem_cons_succ, List.getElem_cons_zero, Act.put, List.setIfInBounds_toArray, List.set_cons_zero, List.set_cons_succ]
                  refine but_run (i := 19) (by kernel_rfl) rfl ((wanted_at rfl rfl rfl rfl).trans rfl) ?_
                  simp only [List.getElem_toArray, List.getElem_cons_succ, List.getElem_cons_zero]
                  intro K HK
                  go_wp2_with fail
                  refine (l6Node_any _ _ lo ts k _ (HVV.out.on (bstep (Below.drew1 _) (Below.refl _ _))) hlt (by omega) (by omega) (by omega) (by omega)).mono ?_
                  rintro r Vkub1 ⟨rfl, hBkub1⟩
                  rw [HFB.out]
                  have hSkub1 := bstep (Below.refl _ _) hBkub1
                  go_wp2_with fail
                  refine HK.out _ Vkub1 (fun _ => hSkub1) ?_
                  clear HK
                  refine but_take (f := 21) (i := 20) (v := ?vkub20) rfl (by kernel_rfl) (by kernel_rfl) (by kernel_rfl) (by kernel_rfl) (by kernel_rfl) (fun _ _ _ h => h) (Or.inl ⟨((wanted_at rfl rfl rfl rfl).trans rfl), ?hykub20⟩) hSkub1 ?restkub20
                  case hykub20 =>
                    intro W hW
                    go_simp
                    exact rfl
                  simp only [List.getElem_toArray, List.getElem_cons_succ, List.getElem_cons_zero, Act.put, List.setIfInBounds_toArray, List.set_cons_zero, List.set_cons_succ]
                  refine but_run (i := 21) (by kernel_rfl) rfl (by rfl) ?_
                  simp only [List.getElem_toArray, List.getElem_cons_succ, List.getElem_cons_zero]
                  intro K HK
                  go_wp2_with fail
                  refine HK.out _ Vkub1 (fun h => absurd rfl h) ?_
                  clear HK
                  refine but_done (by kernel_rfl) ?_
                  go_wp2_with fail
                  go_ret
                  exact ⟨ret_boolB HBAD.out.symm, bstep HB.out (bstep HX.out (bstep (Below.drew1 _) hSkub1))⟩
                · have HFB := Lib.hid hfb
                  have HN1 : Hid (∀ j, j < k + 1 → fitB lo j (ts.getD j []) = true) := Lib.hid (fun j h => by
                    rcases Nat.lt_or_ge j k with h' | h'
                    · exact HI1.out j h'
                    · have : j = k := by omega
                      subst this; rw [getD_node hlt]; exact hfb)
                  have HN2 := HR
                  clear hfb
                  go_wp2
                  refine but_begin (f := 21) (S := fun V => Below wr.drew.heap.size wr.drew V) (by kernel_rfl) ?_
                  refine but_take (f := 21) (i := 0) (v := ?vkug0) rfl (by kernel_rfl) (by kernel_rfl) (by kernel_rfl) (by kernel_rfl) (by kernel_rfl) (fun _ _ _ h => h) (Or.inl ⟨(by rfl), ?hykug0⟩) (Below.refl _ _) ?restkug0
                  case hykug0 =>
                    intro W hW
                    go_simp
                    exact rfl
                  simp only [List.getElem_toArray, List.getElem_cons_succ, List.getElem_cons_zero, Act.put, List.setIfInBounds_toArray, List.set_cons_zero, List.set_cons_succ]
                  refine but_take (f := 21) (i := 1) (v := ?vkug1) rfl (by kernel_rfl) (by kernel_rfl) (by kernel_rfl) (by kernel_rfl) (by kernel_rfl) (fun _ _ _ h => h) (Or.inl ⟨(by rfl), ?hykug1⟩) (Below.refl _ _) ?restkug1
                  case hykug1 =>
                    intro W hW
                    go_simp
                    exact rfl
                  simp only [List.getElem_toArray, List.getElem_cons_succ, List.getElem_cons_zero, Act.put, List.setIfInBounds_toArray, List.set_cons_zero, List.set_cons_succ]
                  refine but_take (f := 21) (i := 2) (v := ?vkug2) rfl (by kernel_rfl) (by kernel_rfl) (by kernel_rfl) (by kernel_rfl) (by kernel_rfl) (fun _ _ _ h => h) (Or.inl ⟨(by rfl), ?hykug2⟩) (Below.refl _ _) ?restkug2
                  case hykug2 =>
                    intro W hW
                    go_simp
                    exact rfl
                  simp only [List.getElem_toArray, List.getElem_cons_succ, List.getElem_cons_zero, Act.put, List.setIfInBounds_toArray, List.set_cons_zero, List.set_cons_succ]
                  refine but_take (f := 21) (i := 3) (v := ?vkug3) rfl (by kernel_rfl) (by kernel_rfl) (by kernel_rfl) (by kernel_rfl) (by kernel_rfl) (fun _ _ _ h => h) (Or.inl ⟨((wanted_at rfl rfl rfl rfl).trans rfl), ?hykug3⟩) (Below.refl _ _) ?restkug3
                  case hykug3 =>
                    intro W hW
                    go_simp
                    exact rfl
                  simp only [List.getElem_toArray, List.getElem_cons_succ, List.getElem_cons_zero, Act.put, List.setIfInBounds_toArray, List.set_cons_zero, List.set_cons_succ]
                  refine but_take (f := 21) (i := 4) (v := ?vkug4) rfl (by kernel_rfl) (by kernel_rfl) (by kernel_rfl) (by kernel_rfl) (by kernel_rfl) (fun _ _ _ h => h) (Or.inl ⟨((wanted_at rfl rfl rfl rfl).trans rfl), ?hykug4⟩) (Below.refl _ _) ?restkug4
                  case hykug4 =>
                    intro W hW
                    have hb0 : Below wr.heap.size wr W := bstep (Below.drew1 _) hW
                    obtain ⟨x0, x1, x2⟩ := box2 (box_on QW.out hb0)
                    go_simp
                    exact rfl
                  simp only [List.getElem_toArray, List.getElem_cons_succ, List.getElem_cons_zero, Act.put, List.setIfInBounds_toArray, List.set_cons_zero, List.set_cons_succ]
                  refine but_take (f := 21) (i := 5) (v := ?vkug5) rfl (by kernel_rfl) (by kernel_rfl) (by kernel_rfl) (by kernel_rfl) (by kernel_rfl) (fun _ _ _ h => h) (Or.inl ⟨((wanted_at rfl rfl rfl rfl).trans rfl), ?hykug5⟩) (Below.refl _ _) ?restkug5
                  case hykug5 =>
                    intro W hW
                    go_simp
                    exact rfl
                  simp only [List.getElem_toArray, List.getElem_cons_succ, List.getElem_cons_zero, Act.put, List.setIfInBounds_toArray, List.set_cons_zero, List.set_cons_succ]
                  refine but_take (f := 21) (i := 6) (v := ?vkug6) rfl (by kernel_rfl) (by kernel_rfl) (by kernel_rfl) (by kernel_rfl) (by kernel_rfl) (fun _ _ _ h => h) (Or.inl ⟨((wanted_at rfl rfl rfl rfl).trans rfl), ?hykug6⟩) (Below.refl _ _) ?restkug6
                  case hykug6 =>
                    intro W hW
                    go_simp
                    exact rfl
                  simp only [List.getElem_toArray, List.getElem_cons_succ, List.getElem_cons_zero, Act.put, List.setIfInBounds_toArray, List.set_cons_zero, List.set_cons_succ]
                  refine but_take (f := 21) (i := 7) (v := ?vkug7) rfl (by kernel_rfl) (by kernel_rfl) (by kernel_rfl) (by kernel_rfl) (by kernel_rfl) (fun _ _ _ h => h) (Or.inl ⟨((wanted_at rfl rfl rfl rfl).trans rfl), ?hykug7⟩) (Below.refl _ _) ?restkug7
                  case hykug7 =>
                    intro W hW
                    go_simp
                    exact rfl
                  simp only [List.getElem_toArray, List.getElem_cons_succ, List.getElem_cons_zero, Act.put, List.setIfInBounds_toArray, List.set_cons_zero, List.set_cons_succ]
                  refine but_take (f := 21) (i := 8) (v := ?vkug8) rfl (by kernel_rfl) (by kernel_rfl) (by kernel_rfl) (by kernel_rfl) (by kernel_rfl) (fun _ _ _ h => h) (Or.inl ⟨((wanted_at rfl rfl rfl rfl).trans rfl), ?hykug8⟩) (Below.refl _ _) ?restkug8
                  case hykug8 =>
                    intro W hW
                    have hb0 : Below wr.heap.size wr W := bstep (Below.drew1 _) hW
                    have f1 := (HLO.out.on hb0).cellI hkL
                    have f2 := (HLO.out.on hb0).cellI hkP
                    go_simp
                    exact rfl
                  simp only [List.getElem_toArray, List.getElem_cons_succ, List.getElem_cons_zero, Act.put, List.setIfInBounds_toArray, List.set_cons_zero, List.set_cons_succ]
                  refine but_take (f := 21) (i := 9) (v := ?vkug9) rfl (by kernel_rfl) (by kernel_rfl) (by kernel_rfl) (by kernel_rfl) (by kernel_rfl) (fun _ _ _ h => h) (Or.inl ⟨((wanted_at rfl rfl rfl rfl).trans rfl), ?hykug9⟩) (Below.refl _ _) ?restkug9
                  case hykug9 =>
                    intro W hW
                    go_simp
                    exact rfl
                  simp only [List.getElem_toArray, List.getElem_cons_succ, List.getElem_cons_zero, Act.put, List.setIfInBounds_toArray, List.set_cons_zero, List.set_cons_succ]
                  refine but_take (f := 21) (i := 10) (v := ?vkug10) rfl (by kernel_rfl) (by kernel_rfl) (by kernel_rfl) (by kernel_rfl) (by kernel_rfl) (fun _ _ _ h => h) (Or.inl ⟨((wanted_at rfl rfl rfl rfl).trans rfl), ?hykug10⟩) (Below.refl _ _) ?restkug10
                  case hykug10 =>
                    intro W hW
                    have hb0 : Below wr.heap.size wr W := bstep (Below.drew1 _) hW
                    obtain ⟨x0, x1, x2⟩ := box2 (box_on QW.out hb0)
                    go_simp
                    exact rfl
                  simp only [List.getElem_toArray, List.getElem_cons_succ, List.getElem_cons_zero, Act.put, List.setIfInBounds_toArray, List.set_cons_zero, List.set_cons_succ]
                  refine but_take (f := 21) (i := 11) (v := ?vkug11) rfl (by kernel_rfl) (by kernel_rfl) (by kernel_rfl) (by kernel_rfl) (by kernel_rfl) (fun _ _ _ h => h) (Or.inl ⟨((wanted_at rfl rfl rfl rfl).trans rfl), ?hykug11⟩) (Below.refl _ _) ?restkug11
                  case hykug11 =>
                    intro W hW
                    go_simp
                    exact rfl
                  simp only [List.getElem_toArray, List.getElem_cons_succ, List.getElem_cons_zero, Act.put, List.setIfInBounds_toArray, List.set_cons_zero, List.set_cons_succ]
                  refine but_take (f := 21) (i := 12) (v := ?vkug12) rfl (by kernel_rfl) (by kernel_rfl) (by kernel_rfl) (by kernel_rfl) (by kernel_rfl) (fun _ _ _ h => h) (Or.inl ⟨((wanted_at rfl rfl rfl rfl).trans rfl), ?hykug12⟩) (Below.refl _ _) ?restkug12
                  case hykug12 =>
                    intro W hW
                    go_simp
                    exact rfl
                  simp only [List.getElem_toArray, List.getElem_cons_succ, List.getElem_cons_zero, Act.put, List.setIfInBounds_toArray, List.set_cons_zero, List.set_cons_succ]
                  refine but_take (f := 21) (i := 13) (v := ?vkug13) rfl (by kernel_rfl) (by kernel_rfl) (by kernel_rfl) (by kernel_rfl) (by kernel_rfl) (fun _ _ _ h => h) (Or.inl ⟨((wanted_at rfl rfl rfl rfl).trans rfl), ?hykug13⟩) (Below.refl _ _) ?restkug13
                  case hykug13 =>
                    intro W hW
                    have hb0 : Below wr.heap.size wr W := bstep (Below.drew1 _) hW
                    have f1 := (HLO.out.on hb0).cellI hkL
                    have f2 := (HLO.out.on hb0).cellI hkP
                    go_simp
                    exact rfl
                  simp only [List.getElem_toArray, List.getElem_cons_succ, List.getElem_cons_zero, Act.put, List.setIfInBounds_toArray, List.set_cons_zero, List.set_cons_succ]
                  refine but_take (f := 21) (i := 14) (v := ?vkug14) rfl (by kernel_rfl) (by kernel_rfl) (by kernel_rfl) (by kernel_rfl) (by kernel_rfl) (fun _ _ _ h => h) (Or.inl ⟨((wanted_at rfl rfl rfl rfl).trans rfl), ?hykug14⟩) (Below.refl _ _) ?restkug14
                  case hykug14 =>
                    intro W hW
                    go_simp
                    exact rfl
                  simp only [List.getElem_toArray, List.getElem_cons_succ, List.getElem_cons_zero, Act.put, List.setIfInBounds_toArray, List.set_cons_zero, List.set_cons_succ]
                  refine but_take (f := 21) (i := 15) (v := ?vkug15) rfl (by kernel_rfl) (by kernel_rfl) (by kernel_rfl) (by kernel_rfl) (by kernel_rfl) (fun _ _ _ h => h) (Or.inl ⟨(by rfl), ?hykug15⟩) (Below.refl _ _) ?restkug15
                  case hykug15 =>
                    intro W hW
                    go_simp
                    exact rfl
                  simp only [List.getElem_toArray, List.getElem_cons_succ, List.getElem_cons_zero, Act.put, List.setIfInBounds_toArray, List.set_cons_zero, List.set_cons_succ]
                  refine but_take (f := 21) (i := 16) (v := ?vkug16) rfl (by kernel_rfl) (by kernel_rfl) (by kernel_rfl) (by kernel_rfl) (by kernel_rfl) (fun _ _ _ h => h) (Or.inl ⟨(by rfl), ?hykug16⟩) (Below.refl _ _) ?restkug16
                  case hykug16 =>
                    intro W hW
                    go_simp
                    exact rfl
                  simp only [List.getElem_toArray, List.getElem_cons_succ, List.getElem_cons_zero, Act.put, List.setIfInBounds_toArray, List.set_cons_zero, List.set_cons_succ]
                  refine but_take (f := 21) (i := 17) (v := ?vkug17) rfl (by kernel_rfl) (by kernel_rfl) (by kernel_rfl) (by kernel_rfl) (by kernel_rfl) (fun _ _ _ h => h) (Or.inl ⟨((wanted_at rfl rfl rfl rfl).trans rfl), ?hykug17⟩) (Below.refl _ _) ?restkug17
                  case hykug17 =>
                    intro W hW
                    have hb0 : Below wr.heap.size wr W := bstep (Below.drew1 _) hW
                    obtain ⟨x0, x1, x2⟩ := box2 (box_on QW.out hb0)
                    go_simp
                    exact rfl
                  simp only [List.getElem_toArray, List.getElem_cons_succ, List.getElem_cons_zero, Act.put, List.setIfInBounds_toArray, List.set_cons_zero, List.set_cons_succ]
                  refine but_take (f := 21) (i := 18) (v := ?vkug18) rfl (by kernel_rfl) (by kernel_rfl) (by kernel_rfl) (by kernel_rfl) (by kernel_rfl) (fun _ _ _ h => h) (Or.inl ⟨((wanted_at rfl rfl rfl rfl).trans rfl), ?hykug18⟩) (Below.refl _ _) ?restkug18
                  case hykug18 =>
                    intro W hW
                    go_simp
                    exact rfl
                  simp only [List.getElem_toArray, List.getElem_cons_succ, List.getElem_cons_zero, Act.put, List.setIfInBounds_toArray, List.set_cons_zero, List.set_cons_succ]
                  refine but_run (i := 19) (by kernel_rfl) rfl ((wanted_at rfl rfl rfl rfl).trans rfl) ?_
                  simp only [List.getElem_toArray, List.getElem_cons_succ, List.getElem_cons_zero]
                  intro K HK
                  go_wp2_with fail
                  refine (l6Node_any _ _ lo ts k _ (HVV.out.on (bstep (Below.drew1 _) (Below.refl _ _))) hlt (by omega) (by omega) (by omega) (by omega)).mono ?_
                  rintro r Vkug1 ⟨rfl, hBkug1⟩
                  rw [HFB.out]
                  have hSkug1 := bstep (Below.refl _ _) hBkug1
                  go_wp2_with fail
                  refine HK.out _ Vkug1 (fun _ => hSkug1) ?_
                  clear HK
                  refine but_take (f := 21) (i := 20) (v := ?vkug20) rfl (by kernel_rfl) (by kernel_rfl) (by kernel_rfl) (by kernel_rfl) (by kernel_rfl) (fun _ _ _ h => h) (Or.inl ⟨((wanted_at rfl rfl rfl rfl).trans rfl), ?hykug20⟩) hSkug1 ?restkug20
                  case hykug20 =>
                    intro W hW
                    go_simp
                    exact rfl
                  simp only [List.getElem_toArray, List.getElem_cons_succ, List.getElem_cons_zero, Act.put, List.setIfInBounds_toArray, List.set_cons_zero, List.set_cons_succ]
                  refine but_run (i := 21) (by kernel_rfl) rfl (by rfl) ?_
                  simp only [List.getElem_toArray, List.getElem_cons_succ, List.getElem_cons_zero]
                  intro K HK
                  go_wp2_with fail
                  refine HK.out _ Vkug1 (fun h => absurd rfl h) ?_
                  clear HK
                  refine but_done (by kernel_rfl) ?_
                  go_wp2_with fail
                  go_roundw
                  case rel => exact ⟨k + 1, by omega, by go_num, HN1, HN2, Lib.hid (bstep HX.out (bstep (Below.drew1 _) hSkug1))⟩
                  case measure => simp [intOf]; omega
              · have z1 : decide (lo[k] ≤ lo[k - 1]) = true := decide_eq_true (by omega)
                have HBAD : Hid (treeOkB lo ts = false) := Lib.hid (tree_bad (fun h => by have := h.2.2.2.2.1 (k - 1) (by omega); rw [hkk, gk, gp] at this; omega))
                clear hkk gp gk hr hk0
                go_wp2
                refine but_begin (f := 21) (S := fun V => Below wr.drew.heap.size wr.drew V) (by kernel_rfl) ?_
                refine but_take (f := 21) (i := 0) (v := ?vkdb0) rfl (by kernel_rfl) (by kernel_rfl) (by kernel_rfl) (by kernel_rfl) (by kernel_rfl) (fun _ _ _ h => h) (Or.inl ⟨(by rfl), ?hykdb0⟩) (Below.refl _ _) ?restkdb0
                case hykdb0 =>
                  intro W hW
                  go_simp
                  exact rfl
                simp only [List.getElem_toArray, List.getElem_cons_succ, List.getElem_cons_zero, Act.put, List.setIfInBounds_toArray, List.set_cons_zero, List.set_cons_succ]
                refine but_take (f := 21) (i := 1) (v := ?vkdb1) rfl (by kernel_rfl) (by kernel_rfl) (by kernel_rfl) (by kernel_rfl) (by kernel_rfl) (fun _ _ _ h => h) (Or.inl ⟨(by rfl), ?hykdb1⟩) (Below.refl _ _) ?restkdb1
                case hykdb1 =>
                  intro W hW
                  go_simp
                  exact rfl
                simp only [List.getElem_toArray, List.getElem_cons_succ, List.getElem_cons_zero, Act.put, List.setIfInBounds_toArray, List.set_cons_zero, List.set_cons_succ]
                refine but_take (f := 21) (i := 2) (v := ?vkdb2) rfl (by kernel_rfl) (by kernel_rfl) (by kernel_rfl) (by kernel_rfl) (by kernel_rfl) (fun _ _ _ h => h) (Or.inl ⟨(by rfl), ?hykdb2⟩) (Below.refl _ _) ?restkdb2
                case hykdb2 =>
                  intro W hW
                  go_simp
                  exact rfl
                simp only [List.getElem_toArray, List.getElem_cons_succ, List.getElem_cons_zero, Act.put, List.setIfInBounds_toArray, List.set_cons_zero, List.set_cons_succ]
                refine but_take (f := 21) (i := 3) (v := ?vkdb3) rfl (by kernel_rfl) (by kernel_rfl) (by kernel_rfl) (by kernel_rfl) (by kernel_rfl) (fun _ _ _ h => h) (Or.inl ⟨((wanted_at rfl rfl rfl rfl).trans rfl), ?hykdb3⟩) (Below.refl _ _) ?restkdb3
                case hykdb3 =>
                  intro W hW
                  go_simp
                  exact rfl
                simp only [List.getElem_toArray, List.getElem_cons_succ, List.getElem_cons_zero, Act.put, List.setIfInBounds_toArray, List.set_cons_zero, List.set_cons_succ]
                refine but_take (f := 21) (i := 4) (v := ?vkdb4) rfl (by kernel_rfl) (by kernel_rfl) (by kernel_rfl) (by kernel_rfl) (by kernel_rfl) (fun _ _ _ h => h) (Or.inl ⟨((wanted_at rfl rfl rfl rfl).trans rfl), ?hykdb4⟩) (Below.refl _ _) ?restkdb4
                case hykdb4 =>
                  intro W hW
                  have hb0 : Below wr.heap.size wr W := bstep (Below.drew1 _) hW
                  obtain ⟨x0, x1, x2⟩ := box2 (box_on QW.out hb0)
                  go_simp
                  exact rfl
                simp only [List.getElem_toArray, List.getElem_cons_succ, List.getElem_cons_zero, Act.put, List.setIfInBounds_toArray, List.set_cons_zero, List.set_cons_succ]
                refine but_take (f := 21) (i := 5) (v := ?vkdb5) rfl (by kernel_rfl) (by kernel_rfl) (by kernel_rfl) (by kernel_rfl) (by kernel_rfl) (fun _ _ _ h => h) (Or.inl ⟨((wanted_at rfl rfl rfl rfl).trans rfl), ?hykdb5⟩) (Below.refl _ _) ?restkdb5
                case hykdb5 =>
                  intro W hW
                  go_simp
                  exact rfl
                simp only [List.getElem_toArray, List.getElem_cons_succ, List.getElem_cons_zero, Act.put, List.setIfInBounds_toArray, List.set_cons_zero, List.set_cons_succ]
                refine but_take (f := 21) (i := 6) (v := ?vkdb6) rfl (by kernel_rfl) (by kernel_rfl) (by kernel_rfl) (by kernel_rfl) (by kernel_rfl) (fun _ _ _ h => h) (Or.inl ⟨((wanted_at rfl rfl rfl rfl).trans rfl), ?hykdb6⟩) (Below.refl _ _) ?restkdb6
                case hykdb6 =>
                  intro W hW
                  go_simp
                  exact rfl
                simp only [List.getElem_toArray, List.getElem_cons_succ, List.getElem_cons_zero, Act.put, List.setIfInBounds_toArray, List.set_cons_zero, List.set_cons_succ]
                refine but_take (f := 21) (i := 7) (v := ?vkdb7) rfl (by kernel_rfl) (by kernel_rfl) (by kernel_rfl) (by kernel_rfl) (by kernel_rfl) (fun _ _ _ h => h) (Or.inl ⟨((wanted_at rfl rfl rfl rfl).trans rfl), ?hykdb7⟩) (Below.refl _ _) ?restkdb7
                case hykdb7 =>
                  intro W hW
                  go_simp
                  exact rfl
                simp only [List.getElem_toArray, List.getElem_cons_succ, List.getElem_cons_zero, Act.put, List.setIfInBounds_toArray, List.set_cons_zero, List.set_cons_succ]
                refine but_take (f := 21) (i := 8) (v := ?vkdb8) rfl (by kernel_rfl) (by kernel_rfl) (by kernel_rfl) (by kernel_rfl) (by kernel_rfl) (fun _ _ _ h => h) (Or.inl ⟨((wanted_at rfl rfl rfl rfl).trans rfl), ?hykdb8⟩) (Below.refl _ _) ?restkdb8
                case hykdb8 =>
                  intro W hW
                  have hb0 : Below wr.heap.size wr W := bstep (Below.drew1 _) hW
                  have f1 := (HLO.out.on hb0).cellI hkL
                  have f2 := (HLO.out.on hb0).cellI hkP
                  go_simp
                  exact rfl
                simp only [List.getElem_toArray, List.getElem_cons_succ, List.getElem_cons_zero, Act.put, List.setIfInBounds_toArray, List.set_cons_zero, List.set_cons_succ]
                refine but_take (f := 21) (i := 9) (v := ?vkdb9) rfl (by kernel_rfl) (by kernel_rfl) (by kernel_rfl) (by kernel_rfl) (by kernel_rfl) (fun _ _ _ h => h) (Or.inl ⟨((wanted_at rfl rfl rfl rfl).trans rfl), ?hykdb9⟩) (Below.refl _ _) ?restkdb9
                case hykdb9 =>
                  intro W hW
                  go_simp
                  exact rfl
                simp only [List.getElem_toArray, List.getElem_cons_succ, List.getElem_cons_zero, Act.put, List.setIfInBounds_toArray, List.set_cons_zero, List.set_cons_succ]
                refine but_take (f := 21) (i := 10) (v := ?vkdb10) rfl (by kernel_rfl) (by kernel_rfl) (by kernel_rfl) (by kernel_rfl) (by kernel_rfl) (fun _ _ _ h => h) (Or.inl ⟨((wanted_at rfl rfl rfl rfl).trans rfl), ?hykdb10⟩) (Below.refl _ _) ?restkdb10
                case hykdb10 =>
                  intro W hW
                  have hb0 : Below wr.heap.size wr W := bstep (Below.drew1 _) hW
                  obtain ⟨x0, x1, x2⟩ := box2 (box_on QW.out hb0)
                  go_simp
                  exact rfl
                simp only [List.getElem_toArray, List.getElem_cons_succ, List.getElem_cons_zero, Act.put, List.setIfInBounds_toArray, List.set_cons_zero, List.set_cons_succ]
                refine but_take (f := 21) (i := 11) (v := ?vkdb11) rfl (by kernel_rfl) (by kernel_rfl) (by kernel_rfl) (by kernel_rfl) (by kernel_rfl) (fun _ _ _ h => h) (Or.inl ⟨((wanted_at rfl rfl rfl rfl).trans rfl), ?hykdb11⟩) (Below.refl _ _) ?restkdb11
                case hykdb11 =>
                  intro W hW
                  go_simp
                  exact rfl
                simp only [List.getElem_toArray, List.getElem_cons_succ, List.getElem_cons_zero, Act.put, List.setIfInBounds_toArray, List.set_cons_zero, List.set_cons_succ]
                refine but_take (f := 21) (i := 12) (v := ?vkdb12) rfl (by kernel_rfl) (by kernel_rfl) (by kernel_rfl) (by kernel_rfl) (by kernel_rfl) (fun _ _ _ h => h) (Or.inl ⟨((wanted_at rfl rfl rfl rfl).trans rfl), ?hykdb12⟩) (Below.refl _ _) ?restkdb12
                case hykdb12 =>
                  intro W hW
                  go_simp
                  exact rfl
                simp only [List.getElem_toArray, List.getElem_cons_succ, List.getElem_cons_zero, Act.put, List.setIfInBounds_toArray, List.set_cons_zero, List.set_cons_succ]
                refine but_take (f := 21) (i := 13) (v := ?vkdb13) rfl (by kernel_rfl) (by kernel_rfl) (by kernel_rfl) (by kernel_rfl) (by kernel_rfl) (fun _ _ _ h => h) (Or.inl ⟨((wanted_at rfl rfl rfl rfl).trans rfl), ?hykdb13⟩) (Below.refl _ _) ?restkdb13
                case hykdb13 =>
                  intro W hW
                  have hb0 : Below wr.heap.size wr W := bstep (Below.drew1 _) hW
                  have f1 := (HLO.out.on hb0).cellI hkL
                  have f2 := (HLO.out.on hb0).cellI hkP
                  go_simp
                  exact rfl
                simp only [List.getElem_toArray, List.getElem_cons_succ, List.getElem_cons_zero, Act.put, List.setIfInBounds_toArray, List.set_cons_zero, List.set_cons_succ]
                refine but_take (f := 21) (i := 14) (v := ?vkdb14) rfl (by kernel_rfl) (by kernel_rfl) (by kernel_rfl) (by kernel_rfl) (by kernel_rfl) (fun _ _ _ h => h) (Or.inl ⟨((wanted_at rfl rfl rfl rfl).trans rfl), ?hykdb14⟩) (Below.refl _ _) ?restkdb14
                case hykdb14 =>
                  intro W hW
                  go_simp
                  exact rfl
                simp only [List.getElem_toArray, List.getElem_cons_succ, List.getElem_cons_zero, Act.put, List.setIfInBounds_toArray, List.set_cons_zero, List.set_cons_succ]
                refine but_take (f := 21) (i := 15) (v := ?vkdb15) rfl (by kernel_rfl) (by kernel_rfl) (by kernel_rfl) (by kernel_rfl) (by kernel_rfl) (fun _ _ _ h => h) (Or.inl ⟨(by rfl), ?hykdb15⟩) (Below.refl _ _) ?restkdb15
                case hykdb15 =>
                  intro W hW
                  go_simp
                  exact rfl
                simp only [List.getElem_toArray, List.getElem_cons_succ, List.getElem_cons_zero, Act.put, List.setIfInBounds_toArray, List.set_cons_zero, List.set_cons_succ]
                refine but_take (f := 21) (i := 16) (v := ?vkdb16) rfl (by kernel_rfl) (by kernel_rfl) (by kernel_rfl) (by kernel_rfl) (by kernel_rfl) (fun _ _ _ h => h) (Or.inl ⟨(by rfl), ?hykdb16⟩) (Below.refl _ _) ?restkdb16
                case hykdb16 =>
                  intro W hW
                  go_simp
                  exact rfl
                simp only [List.getElem_toArray, List.getElem_cons_succ, List.getElem_cons_zero, Act.put, List.setIfInBounds_toArray, List.set_cons_zero, List.set_cons_succ]
                refine but_take (f := 21) (i := 17) (v := undef) rfl (by kernel_rfl) (by kernel_rfl) (by kernel_rfl) (by kernel_rfl) (by kernel_rfl) (fun _ _ _ h => h) (Or.inr ⟨((wanted_at rfl rfl rfl rfl).trans rfl), rfl⟩) (Below.refl _ _) ?_
                simp only [List.getElem_toArray, List.getElem_cons_succ, List.getElem_cons_zero, Act.put, List.setIfInBounds_toArray, List.set_cons_zero, List.set_cons_succ]
                refine but_take (f := 21) (i := 18) (v := undef) rfl (by kernel_rfl) (by kernel_rfl) (by kernel_rfl) (by kernel_rfl) (by kernel_rfl) (fun _ _ _ h => h) (Or.inr ⟨((wanted_at rfl rfl rfl rfl).trans rfl), rfl⟩) (Below.refl _ _) ?_
                simp only [List.getElem_toArray, List.getElem_cons_succ, List.getElem_cons_zero, Act.put, List.setIfInBounds_toArray, List.set_cons_zero, List.set_cons_succ]
                refine but_take (f := 21) (i := 19) (v := undef) rfl (by kernel_rfl) (by kernel_rfl) (by kernel_rfl) (by kernel_rfl) (by kernel_rfl) (fun _ _ _ h => h) (Or.inr ⟨((wanted_at rfl rfl rfl rfl).trans rfl), rfl⟩) (Below.refl _ _) ?_
                simp only [List.getElem_toArray, List.getElem_cons_succ, List.getElem_cons_zero, Act.put, List.setIfInBounds_toArray, List.set_cons_zero, List.set_cons_succ]
                refine but_take (f := 21) (i := 20) (v := undef) rfl (by kernel_rfl) (by kernel_rfl) (by kernel_rfl) (by kernel_rfl) (by kernel_rfl) (fun _ _ _ h => h) (Or.inr ⟨((wanted_at rfl rfl rfl rfl).trans rfl), rfl⟩) (Below.refl _ _) ?_
                simp only [List.getElem_toArray, List.getElem_cons_succ, List.getElem_cons_zero, Act.put, List.setIfInBounds_toArray, List.set_cons_zero, List.set_cons_succ]
                refine but_run (i := 21) (by kernel_rfl) rfl (by rfl) ?_
                simp only [List.getElem_toArray, List.getElem_cons_succ, List.getElem_cons_zero]
                intro K HK
                go_wp2_with fail
                refine HK.out _ wr.drew (fun h => absurd rfl h) ?_
                clear HK
                refine but_done (by kernel_rfl) ?_
                go_wp2_with fail
                go_ret
                exact ⟨ret_boolB HBAD.out.symm, bstep HB.out (bstep HX.out (bstep (Below.drew1 _) (Below.refl _ _)))⟩
          · have e : k = ts.length := by omega
            subst e
            go_wp2_with fail
            refine (specTreeKeys_any _ _ lo ts _ (HV.out.on HX.out) (by omega) (by omega)).mono ?_
            rintro e w2 ⟨v2, rfl, o2, b2⟩
            obtain ⟨A2, c2, rfl, _, _⟩ := o2.shape
            have HB2 := Lib.hid (bstep HB.out (bstep HX.out b2))
            clear o2 b2 x0 x1 x2
            go_wp2
            go_ret
            refine ⟨ret_boolB ?_, HB2.out⟩
            unfold treeOkB
            refine decide_eq_decide.2 ⟨fun h => ⟨H12.out.1, H12.out.2, H2.out, H3.out, fun j hj => HI2.out j (by omega), HI1.out, by omega⟩, fun h => by have := h.2.2.2.2.2.2; omega⟩
      · have d3 : (lo[0] != 0) = true := by simp [h3]
        have HBAD : Hid (treeOkB lo ts = false) := Lib.hid (tree_bad (fun h => h3 (by rw [← g0]; exact h.2.2.2.1)))
        clear hc g0 h3 d1 h1 h2
        go_wp2
        go_ret
        exact ⟨ret_boolB HBAD.out.symm, HB.out⟩
    · have d2 : ((lo.length : Int) != (ts.length : Int)) = true := by simp; omega
      have HBAD : Hid (treeOkB lo ts = false) := Lib.hid (tree_bad (fun h => h2 h.2.2.1))
      clear d1 h1 h2
      go_wp2
      go_ret
      exact ⟨ret_boolB HBAD.out.symm, HB.out⟩
  · have d1 : (decide ((1 : Int) ≤ (ts.length : Int)) && decide ((ts.length : Int) ≤ 20)) = false := by
      rcases Nat.lt_or_ge ts.length 1 with h | h
      · rw [decide_eq_false (by omega)]; rfl
      · rw [decide_eq_false (show ¬ (ts.length : Int) ≤ 20 by omega), Bool.and_false]
    rw [d1]
    have HBAD : Hid (treeOkB lo ts = false) := Lib.hid (tree_bad (fun h => h1 ⟨h.1, h.2.1⟩))
    clear d1 h1
    go_wp2
    go_ret
    exact ⟨ret_boolB HBAD.out.symm, HB.out⟩
end Go.Proofs.YtkcafbdlealbpaaGreat
