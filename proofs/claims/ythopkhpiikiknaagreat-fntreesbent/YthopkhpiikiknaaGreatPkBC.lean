/- Several texts in one: TreeOk, TreePack, TreePutPure, AppFull, TreeCut, TreeHalf, TreeRepl, TreeRepl2, TreePair. -/
import Derived.ArgAppend
import Derived.StillTailTactics
import Derived.Test.YthopkhpiikiknaaGreatPkBB
namespace Go.Proofs.YthopkhpiikiknaaGreat
open Go.RowKit
set_option maxRecDepth 100000
set_option linter.unusedSimpArgs false
set_option linter.unusedVariables false

def InP (lo : List Int) (i : Nat) (x : Int) : Prop := lo.getD i 0 ≤ x ∧ (i + 1 < lo.length → x < lo.getD (i + 1) 0)
instance (lo : List Int) (i : Nat) (x : Int) : Decidable (InP lo i x) := inferInstanceAs (Decidable (_ ∧ _))
def FitP (lo : List Int) (i : Nat) (ns : NodeD) : Prop := nodeOkB ns = true ∧ (i = 0 ∨ 0 < (nodeKeysK ns).length) ∧ ∀ l ∈ ns, ∀ x ∈ l, InP lo i (spotI x.a x.b)
instance (lo : List Int) (i : Nat) (ns : NodeD) : Decidable (FitP lo i ns) := inferInstanceAs (Decidable (_ ∧ _ ∧ _))
def fitB (lo : List Int) (i : Nat) (ns : NodeD) : Bool := decide (FitP lo i ns)
def RiseP (lo : List Int) : Prop := ∀ i, i < lo.length - 1 → lo.getD i 0 < lo.getD (i + 1) 0
instance (lo : List Int) : Decidable (RiseP lo) := inferInstanceAs (Decidable (∀ i, i < lo.length - 1 → _))
def TreeP (lo : List Int) (ts : List NodeD) : Prop := 1 ≤ ts.length ∧ ts.length ≤ 20 ∧ lo.length = ts.length ∧ lo.getD 0 0 = 0 ∧ RiseP lo ∧ (∀ i, i < ts.length → fitB lo i (ts.getD i []) = true) ∧ (treeKeysK ts).length ≤ 60
instance (lo : List Int) (ts : List NodeD) : Decidable (TreeP lo ts) := inferInstanceAs (Decidable (_ ∧ _ ∧ _ ∧ _ ∧ _ ∧ (∀ i, i < ts.length → _) ∧ _))
def treeOkB (lo : List Int) (ts : List NodeD) : Bool := decide (TreeP lo ts)
theorem getD_at {lo : List Int} {i : Nat} (h : i < lo.length) : lo.getD i 0 = lo[i] := by simp [List.getD_eq_getElem?_getD, h]
theorem getD_node {ts : List NodeD} {i : Nat} (h : i < ts.length) : ts.getD i [] = ts[i] := by simp [List.getD_eq_getElem?_getD, h]
theorem fit_bad {lo : List Int} {i : Nat} {ns : NodeD} {k j : Nat} (hk : k < ns.length) (hj : j < (ns[k]).length) (h : ¬ InP lo i (spotI ((ns[k])[j]).a ((ns[k])[j]).b)) : fitB lo i ns = false :=
 decide_eq_false (fun hf => h (hf.2.2 _ (List.getElem_mem hk) _ (List.getElem_mem hj)))
theorem all_snoc {P : KeyD → Prop} {l : List KeyD} {j : Nat} (hj : j < l.length) (h : ∀ x ∈ l.take j, P x) (h2 : P l[j]) : ∀ x ∈ l.take (j + 1), P x := by
 rw [List.take_succ_eq_append_getElem hj]
 intro x hx
 rcases List.mem_append.1 hx with hx | hx
 ·exact h x hx
 ·simp at hx; subst hx; exact h2
theorem alls_snoc {P : KeyD → Prop} {ns : NodeD} {k : Nat} (hk : k < ns.length) (h : ∀ l ∈ ns.take k, ∀ x ∈ l, P x) (h2 : ∀ x ∈ ns[k], P x) : ∀ l ∈ ns.take (k + 1), ∀ x ∈ l, P x := by
 rw [List.take_succ_eq_append_getElem hk]
 intro l hl
 rcases List.mem_append.1 hl with hl | hl
 ·exact h l hl
 ·simp at hl; subst hl; exact h2
theorem l6Spot_any (x : KeyD) (w : World) : Calls Tryz.prog 45 #[x.v] w (SaysInt w (spotI x.a x.b)) := by
 have HP := Lib.hid (specSpotOf_any x.a x.b)
 have HB := Lib.hid (bal1 w (.cells #[.int .i64 x.a, .int .i64 x.b, .int .i64 x.c, .int .i64 x.d, .int .i64 x.e] 29))
 generalize spotI x.a x.b = s at *
 unfold KeyD.v keyV
 go_enter Tryz.func45, Tryz.ntmps45
 go_wp2_with fail
 refine (HP.out _).mono ?_
 rintro e w1 ⟨rfl, rfl⟩
 go_wp2
 go_ret
 exact ⟨rfl, HB.out⟩
set_option maxHeartbeats 8000000 in
theorem l6Node_any (vl vn : Value) (lo : List Int) (ts : List NodeD) (i : Nat) (w : World) (hv : RdT w w.heap.size vl vn lo ts) (hi : i < ts.length) (hiL : i < lo.length) (hn : ts.length ≤ 1048576) (hm : lo.length ≤ 1048576) (hs : sumT ts ≤ 1048576) :
  Calls Tryz.prog 65 #[.agg #[vl, vn], .int .i64 (i : Int)] w (SaysBool w (fitB lo i ts[i])) := by
 obtain ⟨A, c, B, d, rfl, rfl⟩ := hv.shape
 have HVL := Lib.hid hv.1
 obtain ⟨b0, off0, rfl, _, hc0⟩ := hv.2.node hi
 obtain ⟨A1, d1, c1, _, _, r1⟩ := hc0 i hi
 have HS := Lib.hid (small_at (by omega) hi)
 have hsm := sumT_mem (List.getElem_mem hi)
 have i3 : (i : Int) < (ts.length : Int) := by omega
 have i4 : (0 : Int) ≤ (i : Int) := by omega
 have i5 : (i : Int) < (lo.length : Int) := by omega
 generalize ts[i] = ns at *
 have hb2 := bal2 w (.cells #[.slice A lo.length c, .slice (some ⟨b0, off0, none⟩) ts.length d] 27) (.cells #[.slice A1 ns.length d1] 62)
 obtain ⟨q0, q1⟩ := al2 w (.cells #[.slice A lo.length c, .slice (some ⟨b0, off0, none⟩) ts.length d] 27) (.cells #[.slice A1 ns.length d1] 62)
 have HV2 := Lib.hid (r1.on hb2)
 have HB := Lib.hid hb2
 have Q0 := Lib.hid q0
 have Q1 := Lib.hid q1
 have c1' := (bcell (bal1 w (.cells #[.slice A lo.length c, .slice (some ⟨b0, off0, none⟩) ts.length d] 27))).1 b0 (off0 + i) (by assumption)
 rw [c1] at c1'
 clear hv hc0 r1 hb2 q0 q1
 go_enter Tryz.func65, Tryz.ntmps65
 go_upto_region 2 with (fail)
 clear c1 c1'
 generalize (w.alloc (.cells #[.slice A lo.length c, .slice (some ⟨b0, off0, none⟩) ts.length d] 27)).alloc (.cells #[.slice A1 ns.length d1] 62) = W at *
 obtain ⟨y0, y1⟩ := box1N Q1.out
 go_wp2_with fail
 refine (specNodeOk_any _ ns _ HV2.out HS.out).mono ?_
 rintro e W1 ⟨rfl, b1⟩
 have HVN := Lib.hid (HV2.out.on b1)
 replace Q0 := Lib.hid (box_on Q0.out b1)
 replace Q1 := Lib.hid (box_on Q1.out b1)
 have HB1 := Lib.hid (bstep HB.out b1)
 clear y0 y1 b1
 obtain ⟨x0, x1, x2⟩ := box2 Q0.out
 obtain ⟨y0, y1⟩ := box1N Q1.out
 cases hok : nodeOkB ns
 ·have HF : Hid (fitB lo i ns = false) := Lib.hid (decide_eq_false (fun h => by have := h.1; rw [hok] at this; cases this))
  go_wp2
  go_ret
  exact ⟨ret_boolB HF.out.symm, HB1.out⟩
 ·have HOK := Lib.hid hok
  clear hok
  by_cases hi0 : i = 0
  ·have z0 : ¬ (0 : Int) < (i : Int) := by omega
   have z1 : (i : Int) ≤ 0 := by omega
   have HNE : Hid (i = 0 ∨ 0 < (nodeKeysK ns).length) := Lib.hid (.inl hi0)
   clear hi0 HV2 HB
   go_wp2
   go_loopw [6] (fun q wr => ∃ k : Nat, k ≤ ns.length ∧ q = .int .i64 k ∧ Hid (∀ l ∈ ns.take k, ∀ x ∈ l, InP lo i (spotI x.a x.b)) ∧ Hid (Below W1.heap.size W1 wr)) (fun q _ => ns.length - (intOf q).toNat)
   case atStart => exact ⟨0, Nat.zero_le _, rfl, Lib.hid (fun l hl => by simp at hl), Lib.hid (Below.refl _ _)⟩
   case round =>
    clear x0 x1 x2 y0 y1
    obtain ⟨k, hk, rfl, HI, HX⟩ := hrel
    obtain ⟨x0, x1, x2⟩ := box2 (box_on Q0.out HX.out)
    obtain ⟨y0, y1⟩ := box1N (box_on Q1.out HX.out)
    by_cases hlt : k < ns.length
    ·have hlk := HS.out.at hlt
     have i1 : (k : Int) < (ns.length : Int) := by omega
     have i2 : (0 : Int) ≤ (k : Int) := by omega
     go_wp2
     go_loopw [7] (fun q wr => ∃ j : Nat, j ≤ (ns[k]).length ∧ q = .int .i64 j ∧ Hid (∀ x ∈ (ns[k]).take j, InP lo i (spotI x.a x.b)) ∧ Hid (Below W1.heap.size W1 wr)) (fun q _ => (ns[k]).length - (intOf q).toNat)
     case atStart => exact ⟨0, Nat.zero_le _, rfl, Lib.hid (fun l hl => by simp at hl), HX⟩
     case round =>
      clear x0 x1 x2 y0 y1 HX
      obtain ⟨j, hj, rfl, HJ, HX⟩ := hrel
      obtain ⟨x0, x1, x2⟩ := box2 (box_on Q0.out HX.out)
      obtain ⟨y0, y1⟩ := box1N (box_on Q1.out HX.out)
      obtain ⟨b, off, hA1, hbb, hc⟩ := (HVN.out.on HX.out).set hlt
      subst hA1
      obtain ⟨A2, d2, c1, _, _, r1⟩ := hc k hlt
      by_cases hlj : j < (ns[k]).length
      ·obtain ⟨b3, off3, rfl, hbb3, hc3⟩ := r1.keys hlj
       obtain ⟨e0, e1, e2, e3, e4⟩ := hc3 j hlj
       have j1 : (j : Int) < ((ns[k]).length : Int) := by omega
       have j2 : (0 : Int) ≤ (j : Int) := by omega
       have HBAD := Lib.hid (fun h => fit_bad (lo := lo) (i := i) hlt hlj h)
       have HSN := Lib.hid (all_snoc (P := fun x => InP lo i (spotI x.a x.b)) hlj HJ.out)
       obtain ⟨s, hs⟩ : ∃ s, spotI ((ns[k])[j]).a ((ns[k])[j]).b = s := ⟨_, rfl⟩
       have HSP := Lib.hid (l6Spot_any (ns[k])[j])
       unfold KeyD.v keyV at HSP
       rw [hs] at HBAD HSN HSP
       clear hc hc3 r1 hs
       go_wp2_with fail
       refine (HSP.out _).mono ?_
       rintro e w5 ⟨rfl, b5⟩
       have HX5 := Lib.hid (bstep HX.out b5)
       clear x0 x1 x2 y0 y1 b5 c1 e0 e1 e2 e3 e4
       obtain ⟨x0, x1, x2⟩ := box2 (box_on Q0.out HX5.out)
       obtain ⟨b6, off6, hA6, hbb6, hc6⟩ := (HVL.out.on (bstep HB1.out HX5.out)).int hiL
       subst hA6
       have f1 := hc6 i hiL
       unfold iV at f1
       have g1 := getD_at hiL
       by_cases p1 : lo[i] ≤ s
       ·by_cases p2 : i + 1 < lo.length
        ·have f2 := hc6 (i + 1) p2
         unfold iV at f2
         have g2 := getD_at p2
         have k1 : (i : Int) + 1 < (lo.length : Int) := by omega
         have k2 : ((i : Int) + 1).toNat = i + 1 := by omega
         have k3 : (0 : Int) ≤ (i : Int) + 1 := by omega
         by_cases p3 : s < lo[i + 1]
         ·have HIN : Hid (InP lo i s) := Lib.hid ⟨by rw [g1]; exact p1, fun _ => by rw [g2]; exact p3⟩
          clear hc6 g1 g2
          go_wp2
          go_roundw
          case rel => exact ⟨j + 1, by omega, by go_num, Lib.hid (HSN.out HIN.out), HX5⟩
          case measure => simp [intOf]; omega
         ·have p4 : lo[i + 1] ≤ s := by omega
          have HN : Hid (¬ InP lo i s) := Lib.hid (fun h => by have := h.2 p2; rw [g2] at this; omega)
          clear hc6 g1 g2 p3
          go_wp2
          go_ret
          exact ⟨ret_boolB (HBAD.out HN.out).symm, bstep HB1.out HX5.out⟩
        ·have k1 : ¬ (i : Int) + 1 < (lo.length : Int) := by omega
         have k4 : (lo.length : Int) ≤ (i : Int) + 1 := by omega
         have HIN : Hid (InP lo i s) := Lib.hid ⟨by rw [g1]; exact p1, fun h => absurd h p2⟩
         clear hc6 g1 p2
         go_wp2
         go_roundw
         case rel => exact ⟨j + 1, by omega, by go_num, Lib.hid (HSN.out HIN.out), HX5⟩
         case measure => simp [intOf]; omega
       ·have p4 : s < lo[i] := by omega
        have HN : Hid (¬ InP lo i s) := Lib.hid (fun h => by have := h.1; rw [g1] at this; omega)
        clear hc6 g1 p1
        go_wp2
        go_ret
        exact ⟨ret_boolB (HBAD.out HN.out).symm, bstep HB1.out HX5.out⟩
      ·have e : j = (ns[k]).length := by omega
       subst e
       have h := HJ.out
       rw [List.take_length] at h
       have HSN := Lib.hid (alls_snoc (P := fun x => InP lo i (spotI x.a x.b)) hlt HI.out h)
       clear hc r1 h
       go_wp2
       go_roundw
       case rel => exact ⟨k + 1, by omega, by go_num, HSN, HX⟩
       case measure => simp [intOf]; omega
    ·have e : k = ns.length := by omega
     subst e
     have h := HI.out
     rw [List.take_length] at h
     have HF := Lib.hid h
     clear h
     go_wp2
     go_ret
     exact ⟨ret_boolB (by symm; exact decide_eq_true ⟨HOK.out, HNE.out, HF.out⟩), bstep HB1.out HX.out⟩
  ·have z0 : (0 : Int) < (i : Int) := by omega
   clear HB
   go_wp2_with fail
   refine (specNodeKeys_any _ ns _ HVN.out (by omega) (by omega)).mono ?_
   clear x0 x1 x2 y0 y1
   rintro e w2 ⟨v2, rfl, o2, b1⟩
   obtain ⟨A2, c2, rfl, _, _⟩ := o2.shape
   replace HVN := Lib.hid (HVN.out.on b1)
   replace Q0 := Lib.hid (box_on Q0.out b1)
   replace Q1 := Lib.hid (box_on Q1.out b1)
   replace HB1 := Lib.hid (bstep HB1.out b1)
   clear o2 b1 HV2
   obtain ⟨W1, rfl⟩ : ∃ W1, W1 = w2 := ⟨_, rfl⟩
   obtain ⟨x0, x1, x2⟩ := box2 Q0.out
   obtain ⟨y0, y1⟩ := box1N Q1.out
   by_cases hke : (nodeKeysK ns).length = 0
   ·have hz : (((nodeKeysK ns).length : Int) == 0) = true := by simp [hke]
    have HF : Hid (fitB lo i ns = false) := Lib.hid (decide_eq_false (fun h => by have := h.2.1; omega))
    clear hke
    go_wp2
    go_ret
    exact ⟨ret_boolB HF.out.symm, HB1.out⟩
   ·have hz : (((nodeKeysK ns).length : Int) == 0) = false := by simp; simpa using hke
    have HNE : Hid (i = 0 ∨ 0 < (nodeKeysK ns).length) := Lib.hid (.inr (by omega))
    clear hke
    go_wp2
    go_loopw [6] (fun q wr => ∃ k : Nat, k ≤ ns.length ∧ q = .int .i64 k ∧ Hid (∀ l ∈ ns.take k, ∀ x ∈ l, InP lo i (spotI x.a x.b)) ∧ Hid (Below W1.heap.size W1 wr)) (fun q _ => ns.length - (intOf q).toNat)
    case atStart => exact ⟨0, Nat.zero_le _, rfl, Lib.hid (fun l hl => by simp at hl), Lib.hid (Below.refl _ _)⟩
    case round =>
     clear x0 x1 x2 y0 y1
     obtain ⟨k, hk, rfl, HI, HX⟩ := hrel
     obtain ⟨x0, x1, x2⟩ := box2 (box_on Q0.out HX.out)
     obtain ⟨y0, y1⟩ := box1N (box_on Q1.out HX.out)
     by_cases hlt : k < ns.length
     ·have hlk := HS.out.at hlt
      have i1 : (k : Int) < (ns.length : Int) := by omega
      have i2 : (0 : Int) ≤ (k : Int) := by omega
      go_wp2
      go_loopw [7] (fun q wr => ∃ j : Nat, j ≤ (ns[k]).length ∧ q = .int .i64 j ∧ Hid (∀ x ∈ (ns[k]).take j, InP lo i (spotI x.a x.b)) ∧ Hid (Below W1.heap.size W1 wr)) (fun q _ => (ns[k]).length - (intOf q).toNat)
      case atStart => exact ⟨0, Nat.zero_le _, rfl, Lib.hid (fun l hl => by simp at hl), HX⟩
      case round =>
       clear x0 x1 x2 y0 y1 HX
       obtain ⟨j, hj, rfl, HJ, HX⟩ := hrel
       obtain ⟨x0, x1, x2⟩ := box2 (box_on Q0.out HX.out)
       obtain ⟨y0, y1⟩ := box1N (box_on Q1.out HX.out)
       obtain ⟨b, off, hA1, hbb, hc⟩ := (HVN.out.on HX.out).set hlt
       subst hA1
       obtain ⟨A2, d2, c1, _, _, r1⟩ := hc k hlt
       by_cases hlj : j < (ns[k]).length
       ·obtain ⟨b3, off3, rfl, hbb3, hc3⟩ := r1.keys hlj
        obtain ⟨e0, e1, e2, e3, e4⟩ := hc3 j hlj
        have j1 : (j : Int) < ((ns[k]).length : Int) := by omega
        have j2 : (0 : Int) ≤ (j : Int) := by omega
        have HBAD := Lib.hid (fun h => fit_bad (lo := lo) (i := i) hlt hlj h)
        have HSN := Lib.hid (all_snoc (P := fun x => InP lo i (spotI x.a x.b)) hlj HJ.out)
        obtain ⟨s, hs⟩ : ∃ s, spotI ((ns[k])[j]).a ((ns[k])[j]).b = s := ⟨_, rfl⟩
        have HSP := Lib.hid (l6Spot_any (ns[k])[j])
        unfold KeyD.v keyV at HSP
        rw [hs] at HBAD HSN HSP
        clear hc hc3 r1 hs
        go_wp2_with fail
        refine (HSP.out _).mono ?_
        rintro e w5 ⟨rfl, b5⟩
        have HX5 := Lib.hid (bstep HX.out b5)
        clear x0 x1 x2 y0 y1 b5 c1 e0 e1 e2 e3 e4
        obtain ⟨x0, x1, x2⟩ := box2 (box_on Q0.out HX5.out)
        obtain ⟨b6, off6, hA6, hbb6, hc6⟩ := (HVL.out.on (bstep HB1.out HX5.out)).int hiL
        subst hA6
        have f1 := hc6 i hiL
        unfold iV at f1
        have g1 := getD_at hiL
        by_cases p1 : lo[i] ≤ s
        ·by_cases p2 : i + 1 < lo.length
         ·have f2 := hc6 (i + 1) p2
          unfold iV at f2
          have g2 := getD_at p2
          have k1 : (i : Int) + 1 < (lo.length : Int) := by omega
          have k2 : ((i : Int) + 1).toNat = i + 1 := by omega
          have k3 : (0 : Int) ≤ (i : Int) + 1 := by omega
          by_cases p3 : s < lo[i + 1]
          ·have HIN : Hid (InP lo i s) := Lib.hid ⟨by rw [g1]; exact p1, fun _ => by rw [g2]; exact p3⟩
           clear hc6 g1 g2
           go_wp2
           go_roundw
           case rel => exact ⟨j + 1, by omega, by go_num, Lib.hid (HSN.out HIN.out), HX5⟩
           case measure => simp [intOf]; omega
          ·have p4 : lo[i + 1] ≤ s := by omega
           have HN : Hid (¬ InP lo i s) := Lib.hid (fun h => by have := h.2 p2; rw [g2] at this; omega)
           clear hc6 g1 g2 p3
           go_wp2
           go_ret
           exact ⟨ret_boolB (HBAD.out HN.out).symm, bstep HB1.out HX5.out⟩
         ·have k1 : ¬ (i : Int) + 1 < (lo.length : Int) := by omega
          have k4 : (lo.length : Int) ≤ (i : Int) + 1 := by omega
          have HIN : Hid (InP lo i s) := Lib.hid ⟨by rw [g1]; exact p1, fun h => absurd h p2⟩
          clear hc6 g1 p2
          go_wp2
          go_roundw
          case rel => exact ⟨j + 1, by omega, by go_num, Lib.hid (HSN.out HIN.out), HX5⟩
          case measure => simp [intOf]; omega
        ·have p4 : s < lo[i] := by omega
         have HN : Hid (¬ InP lo i s) := Lib.hid (fun h => by have := h.1; rw [g1] at this; omega)
         clear hc6 g1 p1
         go_wp2
         go_ret
         exact ⟨ret_boolB (HBAD.out HN.out).symm, bstep HB1.out HX5.out⟩
       ·have e : j = (ns[k]).length := by omega
        subst e
        have h := HJ.out
        rw [List.take_length] at h
        have HSN := Lib.hid (alls_snoc (P := fun x => InP lo i (spotI x.a x.b)) hlt HI.out h)
        clear hc r1 h
        go_wp2
        go_roundw
        case rel => exact ⟨k + 1, by omega, by go_num, HSN, HX⟩
        case measure => simp [intOf]; omega
     ·have e : k = ns.length := by omega
      subst e
      have h := HI.out
      rw [List.take_length] at h
      have HF := Lib.hid h
      clear h
      go_wp2
      go_ret
      exact ⟨ret_boolB (by symm; exact decide_eq_true ⟨HOK.out, HNE.out, HF.out⟩), bstep HB1.out HX.out⟩
/-- A row of ints, laid down as cells. -/
def IntsIn (w : World) (b off : Nat) (lo : List Int) : Prop := b < w.heap.size ∧ ∀ k (hk : k < lo.length), w.cell? ⟨b, off + k, none⟩ = some (.int .i64 lo[k])
theorem IntsIn.on {w w' : World} {b off : Nat} {lo : List Int} (h : IntsIn w b off lo) (hb : Below w.heap.size w w') : IntsIn w' b off lo := ⟨Nat.lt_of_lt_of_le h.1 hb.size, fun k hk => (hb.cell (p := ⟨b, off + k, none⟩) h.1).trans (h.2 k hk)⟩
theorem IntsIn.cellI {w : World} {b off : Nat} {lo : List Int} (h : IntsIn w b off lo) {k : Nat} (hk : k < lo.length) : w.cell? ⟨b, off + k, none⟩ = some (.int .i64 lo[k]) := h.2 k hk
theorem tree_bad {lo : List Int} {ts : List NodeD} (h : ¬ TreeP lo ts) : treeOkB lo ts = false := decide_eq_false h
set_option maxHeartbeats 8000000 in
theorem specTreeOk_any (vl vn : Value) (lo : List Int) (ts : List NodeD) (w : World) (hv : RdT w w.heap.size vl vn lo ts) (hn : ts.length ≤ 1048576) (hm : lo.length ≤ 1048576) (hs : sumT ts ≤ 1048576) :
  Calls Tryz.prog 21 #[.agg #[vl, vn]] w (SaysBool w (treeOkB lo ts)) := by
 obtain ⟨A, c, B, d, rfl, rfl⟩ := hv.shape
 have HB := Lib.hid (bal1 w (.cells #[.slice A lo.length c, .slice B ts.length d] 27))
 have Q0 := Lib.hid (al1 w (.cells #[.slice A lo.length c, .slice B ts.length d] 27))
 have HV := Lib.hid (hv.on (bal1 w (.cells #[.slice A lo.length c, .slice B ts.length d] 27)))
 clear hv
 go_enter Tryz.func21, Tryz.ntmps21
 go_upto_region 1 with (fail)
 generalize w.alloc (.cells #[.slice A lo.length c, .slice B ts.length d] 27) = W at *
 obtain ⟨x0, x1, x2⟩ := box2 Q0.out
 go_wp2_with fail
 refine (l1In_any (ts.length : Int) 1 20 _).mono ?_
 rintro e w1 ⟨rfl, rfl⟩
 by_cases h1 : 1 ≤ ts.length ∧ ts.length ≤ 20
 ·have d1 : (decide ((1 : Int) ≤ (ts.length : Int)) && decide ((ts.length : Int) ≤ 20)) = true := by simp; omega
  rw [d1]
  by_cases h2 : lo.length = ts.length
  ·have d2 : ((lo.length : Int) != (ts.length : Int)) = false := by simp [h2]
   have h0 : 0 < lo.length := by omega
   obtain ⟨b, off, rfl, hbb, hc⟩ := HV.out.1.int h0
   have HLI : Hid (IntsIn W b off lo) := Lib.hid ⟨hbb, hc⟩
   have f0 := hc 0 h0
   unfold iV at f0
   rw [Nat.add_zero] at f0
   have i0 : (0 : Int) < (lo.length : Int) := by omega
   have g0 := getD_at h0
   by_cases h3 : lo[0] = 0
   ·have d3 : (lo[0] != 0) = false := by simp [h3]
    have H3 : Hid (lo.getD 0 0 = 0) := Lib.hid (by rw [g0]; exact h3)
    have H12 := Lib.hid h1
    have H2 := Lib.hid h2
    have h2a := Nat.le_of_eq h2
    have h2b := Nat.le_of_eq h2.symm
    clear hc g0 h3 h1 d1
    go_wp2
    clear x0 x1 x2 f0 d2 d3 h2
    go_loopw [3] (fun q wr => ∃ k : Nat, k ≤ ts.length ∧ q = .int .i64 k ∧ Hid (∀ j, j < k → fitB lo j (ts.getD j []) = true) ∧ Hid (∀ j, j + 1 < k → lo.getD j 0 < lo.getD (j + 1) 0) ∧ Hid (Below W.heap.size W wr)) (fun q _ => ts.length - (intOf q).toNat)
    case atStart => exact ⟨0, Nat.zero_le _, rfl, Lib.hid (fun j h => by omega), Lib.hid (fun j h => by omega), Lib.hid (Below.refl _ _)⟩
    case round =>
     obtain ⟨k, hk, rfl, HI1, HI2, HX⟩ := hrel
     have QW := Lib.hid (box_on Q0.out HX.out)
     obtain ⟨x0, x1, x2⟩ := box2 QW.out
     by_cases hlt : k < ts.length
     ·have HLO := Lib.hid (HLI.out.on HX.out)
      have HVV := Lib.hid (HV.out.on HX.out)
      have hkL : k < lo.length := by omega
      have i1 : (k : Int) < (ts.length : Int) := by omega
      have i2 : (0 : Int) ≤ (k : Int) := by omega
      have i3 : (k : Int) < (lo.length : Int) := by omega
      have gk := getD_at hkL
      by_cases hk0 : k = 0
      ·have z0 : decide (0 < k) = false := decide_eq_false (by omega)
       have HR : Hid (∀ j, j + 1 < k + 1 → lo.getD j 0 < lo.getD (j + 1) 0) := Lib.hid (fun j h => by omega)
       clear hk0
       cases hfb : fitB lo k ts[k]
       ·have HFB := Lib.hid hfb
        have HBAD : Hid (treeOkB lo ts = false) := Lib.hid (tree_bad (fun h => by have := h.2.2.2.2.2.1 k hlt; rw [getD_node hlt, hfb] at this; cases this))
        clear hfb
        go_wp2
        refine but_begin (f := 21) (S := fun V => Below wr.drew.heap.size wr.drew V) (by kernel_rfl) ?_
        refine but_take (f := 21) (i := 0) (v := ?vk0b0) rfl (by kernel_rfl) (by kernel_rfl) (by kernel_rfl) (by kernel_rfl) (by kernel_rfl) (fun _ _ _ h => h) (Or.inl ⟨(by rfl), ?hyk0b0⟩) (Below.refl _ _) ?restk0b0
        case hyk0b0 =>
         intro W hW
         go_simp
         exact rfl
        simp only [List.getElem_toArray, List.getElem_cons_succ, List.getElem_cons_zero, Act.put, List.setIfInBounds_toArray, List.set_cons_zero, List.set_cons_succ]
        refine but_take (f := 21) (i := 1) (v := ?vk0b1) rfl (by kernel_rfl) (by kernel_rfl) (by kernel_rfl) (by kernel_rfl) (by kernel_rfl) (fun _ _ _ h => h) (Or.inl ⟨(by rfl), ?hyk0b1⟩) (Below.refl _ _) ?restk0b1
        case hyk0b1 =>
         intro W hW
         go_simp
         exact rfl
        simp only [List.getElem_toArray, List.getElem_cons_succ, List.getElem_cons_zero, Act.put, List.setIfInBounds_toArray, List.set_cons_zero, List.set_cons_succ]
        refine but_take (f := 21) (i := 2) (v := ?vk0b2) rfl (by kernel_rfl) (by kernel_rfl) (by kernel_rfl) (by kernel_rfl) (by kernel_rfl) (fun _ _ _ h => h) (Or.inl ⟨(by rfl), ?hyk0b2⟩) (Below.refl _ _) ?restk0b2
        case hyk0b2 =>
         intro W hW
         go_simp
         exact rfl
        simp only [List.getElem_toArray, List.getElem_cons_succ, List.getElem_cons_zero, Act.put, List.setIfInBounds_toArray, List.set_cons_zero, List.set_cons_succ]
        refine but_take (f := 21) (i := 3) (v := undef) rfl (by kernel_rfl) (by kernel_rfl) (by kernel_rfl) (by kernel_rfl) (by kernel_rfl) (fun _ _ _ h => h) (Or.inr ⟨((wanted_at rfl rfl rfl rfl).trans rfl), rfl⟩) (Below.refl _ _) ?_
        simp only [List.getElem_toArray, List.getElem_cons_succ, List.getElem_cons_zero, Act.put, List.setIfInBounds_toArray, List.set_cons_zero, List.set_cons_succ]
        refine but_take (f := 21) (i := 4) (v := undef) rfl (by kernel_rfl) (by kernel_rfl) (by kernel_rfl) (by kernel_rfl) (by kernel_rfl) (fun _ _ _ h => h) (Or.inr ⟨((wanted_at rfl rfl rfl rfl).trans rfl), rfl⟩) (Below.refl _ _) ?_
        simp only [List.getElem_toArray, List.getElem_cons_succ, List.getElem_cons_zero, Act.put, List.setIfInBounds_toArray, List.set_cons_zero, List.set_cons_succ]
        refine but_take (f := 21) (i := 5) (v := undef) rfl (by kernel_rfl) (by kernel_rfl) (by kernel_rfl) (by kernel_rfl) (by kernel_rfl) (fun _ _ _ h => h) (Or.inr ⟨((wanted_at rfl rfl rfl rfl).trans rfl), rfl⟩) (Below.refl _ _) ?_
        simp only [List.getElem_toArray, List.getElem_cons_succ, List.getElem_cons_zero, Act.put, List.setIfInBounds_toArray, List.set_cons_zero, List.set_cons_succ]
        refine but_take (f := 21) (i := 6) (v := undef) rfl (by kernel_rfl) (by kernel_rfl) (by kernel_rfl) (by kernel_rfl) (by kernel_rfl) (fun _ _ _ h => h) (Or.inr ⟨((wanted_at rfl rfl rfl rfl).trans rfl), rfl⟩) (Below.refl _ _) ?_
        simp only [List.getElem_toArray, List.getElem_cons_succ, List.getElem_cons_zero, Act.put, List.setIfInBounds_toArray, List.set_cons_zero, List.set_cons_succ]
        refine but_take (f := 21) (i := 7) (v := undef) rfl (by kernel_rfl) (by kernel_rfl) (by kernel_rfl) (by kernel_rfl) (by kernel_rfl) (fun _ _ _ h => h) (Or.inr ⟨((wanted_at rfl rfl rfl rfl).trans rfl), rfl⟩) (Below.refl _ _) ?_
        simp only [List.getElem_toArray, List.getElem_cons_succ, List.getElem_cons_zero, Act.put, List.setIfInBounds_toArray, List.set_cons_zero, List.set_cons_succ]
        refine but_take (f := 21) (i := 8) (v := undef) rfl (by kernel_rfl) (by kernel_rfl) (by kernel_rfl) (by kernel_rfl) (by kernel_rfl) (fun _ _ _ h => h) (Or.inr ⟨((wanted_at rfl rfl rfl rfl).trans rfl), rfl⟩) (Below.refl _ _) ?_
        simp only [List.getElem_toArray, List.getElem_cons_succ, List.getElem_cons_zero, Act.put, List.setIfInBounds_toArray, List.set_cons_zero, List.set_cons_succ]
        refine but_take (f := 21) (i := 9) (v := undef) rfl (by kernel_rfl) (by kernel_rfl) (by kernel_rfl) (by kernel_rfl) (by kernel_rfl) (fun _ _ _ h => h) (Or.inr ⟨((wanted_at rfl rfl rfl rfl).trans rfl), rfl⟩) (Below.refl _ _) ?_
        simp only [List.getElem_toArray, List.getElem_cons_succ, List.getElem_cons_zero, Act.put, List.setIfInBounds_toArray, List.set_cons_zero, List.set_cons_succ]
        refine but_take (f := 21) (i := 10) (v := undef) rfl (by kernel_rfl) (by kernel_rfl) (by kernel_rfl) (by kernel_rfl) (by kernel_rfl) (fun _ _ _ h => h) (Or.inr ⟨((wanted_at rfl rfl rfl rfl).trans rfl), rfl⟩) (Below.refl _ _) ?_
        simp only [List.getElem_toArray, List.getElem_cons_succ, List.getElem_cons_zero, Act.put, List.setIfInBounds_toArray, List.set_cons_zero, List.set_cons_succ]
        refine but_take (f := 21) (i := 11) (v := undef) rfl (by kernel_rfl) (by kernel_rfl) (by kernel_rfl) (by kernel_rfl) (by kernel_rfl) (fun _ _ _ h => h) (Or.inr ⟨((wanted_at rfl rfl rfl rfl).trans rfl), rfl⟩) (Below.refl _ _) ?_
        simp only [List.getElem_toArray, List.getElem_cons_succ, List.getElem_cons_zero, Act.put, List.setIfInBounds_toArray, List.set_cons_zero, List.set_cons_succ]
        refine but_take (f := 21) (i := 12) (v := undef) rfl (by kernel_rfl) (by kernel_rfl) (by kernel_rfl) (by kernel_rfl) (by kernel_rfl) (fun _ _ _ h => h) (Or.inr ⟨((wanted_at rfl rfl rfl rfl).trans rfl), rfl⟩) (Below.refl _ _) ?_
        simp only [List.getElem_toArray, List.getElem_cons_succ, List.getElem_cons_zero, Act.put, List.setIfInBounds_toArray, List.set_cons_zero, List.set_cons_succ]
        refine but_take (f := 21) (i := 13) (v := undef) rfl (by kernel_rfl) (by kernel_rfl) (by kernel_rfl) (by kernel_rfl) (by kernel_rfl) (fun _ _ _ h => h) (Or.inr ⟨((wanted_at rfl rfl rfl rfl).trans rfl), rfl⟩) (Below.refl _ _) ?_
        simp only [List.getElem_toArray, List.getElem_cons_succ, List.getElem_cons_zero, Act.put, List.setIfInBounds_toArray, List.set_cons_zero, List.set_cons_succ]
        refine but_take (f := 21) (i := 14) (v := undef) rfl (by kernel_rfl) (by kernel_rfl) (by kernel_rfl) (by kernel_rfl) (by kernel_rfl) (fun _ _ _ h => h) (Or.inr ⟨((wanted_at rfl rfl rfl rfl).trans rfl), rfl⟩) (Below.refl _ _) ?_
        simp only [List.getElem_toArray, List.getElem_cons_succ, List.getElem_cons_zero, Act.put, List.setIfInBounds_toArray, List.set_cons_zero, List.set_cons_succ]
        refine but_take (f := 21) (i := 15) (v := ?vk0b15) rfl (by kernel_rfl) (by kernel_rfl) (by kernel_rfl) (by kernel_rfl) (by kernel_rfl) (fun _ _ _ h => h) (Or.inl ⟨(by rfl), ?hyk0b15⟩) (Below.refl _ _) ?restk0b15
        case hyk0b15 =>
         intro W hW
         go_simp
         exact rfl
        simp only [List.getElem_toArray, List.getElem_cons_succ, List.getElem_cons_zero, Act.put, List.setIfInBounds_toArray, List.set_cons_zero, List.set_cons_succ]
        refine but_take (f := 21) (i := 16) (v := ?vk0b16) rfl (by kernel_rfl) (by kernel_rfl) (by kernel_rfl) (by kernel_rfl) (by kernel_rfl) (fun _ _ _ h => h) (Or.inl ⟨(by rfl), ?hyk0b16⟩) (Below.refl _ _) ?restk0b16
        case hyk0b16 =>
         intro W hW
         go_simp
         exact rfl
        simp only [List.getElem_toArray, List.getElem_cons_succ, List.getElem_cons_zero, Act.put, List.setIfInBounds_toArray, List.set_cons_zero, List.set_cons_succ]
        refine but_take (f := 21) (i := 17) (v := ?vk0b17) rfl (by kernel_rfl) (by kernel_rfl) (by kernel_rfl) (by kernel_rfl) (by kernel_rfl) (fun _ _ _ h => h) (Or.inl ⟨((wanted_at rfl rfl rfl rfl).trans rfl), ?hyk0b17⟩) (Below.refl _ _) ?restk0b17
        case hyk0b17 =>
         intro W hW
         have hb0 : Below wr.heap.size wr W := bstep (Below.drew1 _) hW
         obtain ⟨x0, x1, x2⟩ := box2 (box_on QW.out hb0)
         go_simp
         exact rfl
        simp only [List.getElem_toArray, List.getElem_cons_succ, List.getElem_cons_zero, Act.put, List.setIfInBounds_toArray, List.set_cons_zero, List.set_cons_succ]
        refine but_take (f := 21) (i := 18) (v := ?vk0b18) rfl (by kernel_rfl) (by kernel_rfl) (by kernel_rfl) (by kernel_rfl) (by kernel_rfl) (fun _ _ _ h => h) (Or.inl ⟨((wanted_at rfl rfl rfl rfl).trans rfl), ?hyk0b18⟩) (Below.refl _ _) ?restk0b18
        case hyk0b18 =>
         intro W hW
         go_simp
         exact rfl
        simp only [List.getElem_toArray, List.getElem_cons_succ, List.getElem_cons_zero, Act.put, List.setIfInBounds_toArray, List.set_cons_zero, List.set_cons_succ]
        refine but_run (i := 19) (by kernel_rfl) rfl ((wanted_at rfl rfl rfl rfl).trans rfl) ?_
        simp only [List.getElem_toArray, List.getElem_cons_succ, List.getElem_cons_zero]
        intro K HK
        go_wp2_with fail
        refine (l6Node_any _ _ lo ts k _ (HVV.out.on (bstep (Below.drew1 _) (Below.refl _ _))) hlt (by omega) (by omega) (by omega) (by omega)).mono ?_
        rintro r Vk0b1 ⟨rfl, hBk0b1⟩
        rw [HFB.out]
        have hSk0b1 := bstep (Below.refl _ _) hBk0b1
        go_wp2_with fail
        refine HK.out _ Vk0b1 (fun _ => hSk0b1) ?_
        clear HK
        refine but_take (f := 21) (i := 20) (v := ?vk0b20) rfl (by kernel_rfl) (by kernel_rfl) (by kernel_rfl) (by kernel_rfl) (by kernel_rfl) (fun _ _ _ h => h) (Or.inl ⟨((wanted_at rfl rfl rfl rfl).trans rfl), ?hyk0b20⟩) hSk0b1 ?restk0b20
        case hyk0b20 =>
         intro W hW
         go_simp
         exact rfl
        simp only [List.getElem_toArray, List.getElem_cons_succ, List.getElem_cons_zero, Act.put, List.setIfInBounds_toArray, List.set_cons_zero, List.set_cons_succ]
        refine but_run (i := 21) (by kernel_rfl) rfl (by rfl) ?_
        simp only [List.getElem_toArray, List.getElem_cons_succ, List.getElem_cons_zero]
        intro K HK
        go_wp2_with fail
        refine HK.out _ Vk0b1 (fun h => absurd rfl h) ?_
        clear HK
        refine but_done (by kernel_rfl) ?_
        go_wp2_with fail
        go_ret
        exact ⟨ret_boolB HBAD.out.symm, bstep HB.out (bstep HX.out (bstep (Below.drew1 _) hSk0b1))⟩
       ·have HFB := Lib.hid hfb
        have HN1 : Hid (∀ j, j < k + 1 → fitB lo j (ts.getD j []) = true) := Lib.hid (fun j h => by
         rcases Nat.lt_or_ge j k with h' | h'
         ·exact HI1.out j h'
         ·have : j = k := by omega
          subst this; rw [getD_node hlt]; exact hfb)
        have HN2 := HR
        clear hfb
        go_wp2
        refine but_begin (f := 21) (S := fun V => Below wr.drew.heap.size wr.drew V) (by kernel_rfl) ?_
        refine but_take (f := 21) (i := 0) (v := ?vk0g0) rfl (by kernel_rfl) (by kernel_rfl) (by kernel_rfl) (by kernel_rfl) (by kernel_rfl) (fun _ _ _ h => h) (Or.inl ⟨(by rfl), ?hyk0g0⟩) (Below.refl _ _) ?restk0g0
        case hyk0g0 =>
         intro W hW
         go_simp
         exact rfl
        simp only [List.getElem_toArray, List.getElem_cons_succ, List.getElem_cons_zero, Act.put, List.setIfInBounds_toArray, List.set_cons_zero, List.set_cons_succ]
        refine but_take (f := 21) (i := 1) (v := ?vk0g1) rfl (by kernel_rfl) (by kernel_rfl) (by kernel_rfl) (by kernel_rfl) (by kernel_rfl) (fun _ _ _ h => h) (Or.inl ⟨(by rfl), ?hyk0g1⟩) (Below.refl _ _) ?restk0g1
        case hyk0g1 =>
         intro W hW
         go_simp
         exact rfl
        simp only [List.getElem_toArray, List.getElem_cons_succ, List.getElem_cons_zero, Act.put, List.setIfInBounds_toArray, List.set_cons_zero, List.set_cons_succ]
        refine but_take (f := 21) (i := 2) (v := ?vk0g2) rfl (by kernel_rfl) (by kernel_rfl) (by kernel_rfl) (by kernel_rfl) (by kernel_rfl) (fun _ _ _ h => h) (Or.inl ⟨(by rfl), ?hyk0g2⟩) (Below.refl _ _) ?restk0g2
        case hyk0g2 =>
         intro W hW
         go_simp
         exact rfl
        simp only [List.getElem_toArray, List.getElem_cons_succ, List.getElem_cons_zero, Act.put, List.setIfInBounds_toArray, List.set_cons_zero, List.set_cons_succ]
        refine but_take (f := 21) (i := 3) (v := undef) rfl (by kernel_rfl) (by kernel_rfl) (by kernel_rfl) (by kernel_rfl) (by kernel_rfl) (fun _ _ _ h => h) (Or.inr ⟨((wanted_at rfl rfl rfl rfl).trans rfl), rfl⟩) (Below.refl _ _) ?_
        simp only [List.getElem_toArray, List.getElem_cons_succ, List.getElem_cons_zero, Act.put, List.setIfInBounds_toArray, List.set_cons_zero, List.set_cons_succ]
        refine but_take (f := 21) (i := 4) (v := undef) rfl (by kernel_rfl) (by kernel_rfl) (by kernel_rfl) (by kernel_rfl) (by kernel_rfl) (fun _ _ _ h => h) (Or.inr ⟨((wanted_at rfl rfl rfl rfl).trans rfl), rfl⟩) (Below.refl _ _) ?_
        simp only [List.getElem_toArray, List.getElem_cons_succ, List.getElem_cons_zero, Act.put, List.setIfInBounds_toArray, List.set_cons_zero, List.set_cons_succ]
        refine but_take (f := 21) (i := 5) (v := undef) rfl (by kernel_rfl) (by kernel_rfl) (by kernel_rfl) (by kernel_rfl) (by kernel_rfl) (fun _ _ _ h => h) (Or.inr ⟨((wanted_at rfl rfl rfl rfl).trans rfl), rfl⟩) (Below.refl _ _) ?_
        simp only [List.getElem_toArray, List.getElem_cons_succ, List.getElem_cons_zero, Act.put, List.setIfInBounds_toArray, List.set_cons_zero, List.set_cons_succ]
        refine but_take (f := 21) (i := 6) (v := undef) rfl (by kernel_rfl) (by kernel_rfl) (by kernel_rfl) (by kernel_rfl) (by kernel_rfl) (fun _ _ _ h => h) (Or.inr ⟨((wanted_at rfl rfl rfl rfl).trans rfl), rfl⟩) (Below.refl _ _) ?_
        simp only [List.getElem_toArray, List.getElem_cons_succ, List.getElem_cons_zero, Act.put, List.setIfInBounds_toArray, List.set_cons_zero, List.set_cons_succ]
        refine but_take (f := 21) (i := 7) (v := undef) rfl (by kernel_rfl) (by kernel_rfl) (by kernel_rfl) (by kernel_rfl) (by kernel_rfl) (fun _ _ _ h => h) (Or.inr ⟨((wanted_at rfl rfl rfl rfl).trans rfl), rfl⟩) (Below.refl _ _) ?_
        simp only [List.getElem_toArray, List.getElem_cons_succ, List.getElem_cons_zero, Act.put, List.setIfInBounds_toArray, List.set_cons_zero, List.set_cons_succ]
        refine but_take (f := 21) (i := 8) (v := undef) rfl (by kernel_rfl) (by kernel_rfl) (by kernel_rfl) (by kernel_rfl) (by kernel_rfl) (fun _ _ _ h => h) (Or.inr ⟨((wanted_at rfl rfl rfl rfl).trans rfl), rfl⟩) (Below.refl _ _) ?_
        simp only [List.getElem_toArray, List.getElem_cons_succ, List.getElem_cons_zero, Act.put, List.setIfInBounds_toArray, List.set_cons_zero, List.set_cons_succ]
        refine but_take (f := 21) (i := 9) (v := undef) rfl (by kernel_rfl) (by kernel_rfl) (by kernel_rfl) (by kernel_rfl) (by kernel_rfl) (fun _ _ _ h => h) (Or.inr ⟨((wanted_at rfl rfl rfl rfl).trans rfl), rfl⟩) (Below.refl _ _) ?_
        simp only [List.getElem_toArray, List.getElem_cons_succ, List.getElem_cons_zero, Act.put, List.setIfInBounds_toArray, List.set_cons_zero, List.set_cons_succ]
        refine but_take (f := 21) (i := 10) (v := undef) rfl (by kernel_rfl) (by kernel_rfl) (by kernel_rfl) (by kernel_rfl) (by kernel_rfl) (fun _ _ _ h => h) (Or.inr ⟨((wanted_at rfl rfl rfl rfl).trans rfl), rfl⟩) (Below.refl _ _) ?_
        simp only [List.getElem_toArray, List.getElem_cons_succ, List.getElem_cons_zero, Act.put, List.setIfInBounds_toArray, List.set_cons_zero, List.set_cons_succ]
        refine but_take (f := 21) (i := 11) (v := undef) rfl (by kernel_rfl) (by kernel_rfl) (by kernel_rfl) (by kernel_rfl) (by kernel_rfl) (fun _ _ _ h => h) (Or.inr ⟨((wanted_at rfl rfl rfl rfl).trans rfl), rfl⟩) (Below.refl _ _) ?_
        simp only [List.getElem_toArray, List.getElem_cons_succ, List.getElem_cons_zero, Act.put, List.setIfInBounds_toArray, List.set_cons_zero, List.set_cons_succ]
        refine but_take (f := 21) (i := 12) (v := undef) rfl (by kernel_rfl) (by kernel_rfl) (by kernel_rfl) (by kernel_rfl) (by kernel_rfl) (fun _ _ _ h => h) (Or.inr ⟨((wanted_at rfl rfl rfl rfl).trans rfl), rfl⟩) (Below.refl _ _) ?_
        simp only [List.getElem_toArray, List.getElem_cons_succ, List.getElem_cons_zero, Act.put, List.setIfInBounds_toArray, List.set_cons_zero, List.set_cons_succ]
        refine but_take (f := 21) (i := 13) (v := undef) rfl (by kernel_rfl) (by kernel_rfl) (by kernel_rfl) (by kernel_rfl) (by kernel_rfl) (fun _ _ _ h => h) (Or.inr ⟨((wanted_at rfl rfl rfl rfl).trans rfl), rfl⟩) (Below.refl _ _) ?_
        simp only [List.getElem_toArray, List.getElem_cons_succ, List.getElem_cons_zero, Act.put, List.setIfInBounds_toArray, List.set_cons_zero, List.set_cons_succ]
        refine but_take (f := 21) (i := 14) (v := undef) rfl (by kernel_rfl) (by kernel_rfl) (by kernel_rfl) (by kernel_rfl) (by kernel_rfl) (fun _ _ _ h => h) (Or.inr ⟨((wanted_at rfl rfl rfl rfl).trans rfl), rfl⟩) (Below.refl _ _) ?_
        simp only [List.getElem_toArray, List.getElem_cons_succ, List.getElem_cons_zero, Act.put, List.setIfInBounds_toArray, List.set_cons_zero, List.set_cons_succ]
        refine but_take (f := 21) (i := 15) (v := ?vk0g15) rfl (by kernel_rfl) (by kernel_rfl) (by kernel_rfl) (by kernel_rfl) (by kernel_rfl) (fun _ _ _ h => h) (Or.inl ⟨(by rfl), ?hyk0g15⟩) (Below.refl _ _) ?restk0g15
        case hyk0g15 =>
         intro W hW
         go_simp
         exact rfl
        simp only [List.getElem_toArray, List.getElem_cons_succ, List.getElem_cons_zero, Act.put, List.setIfInBounds_toArray, List.set_cons_zero, List.set_cons_succ]
        refine but_take (f := 21) (i := 16) (v := ?vk0g16) rfl (by kernel_rfl) (by kernel_rfl) (by kernel_rfl) (by kernel_rfl) (by kernel_rfl) (fun _ _ _ h => h) (Or.inl ⟨(by rfl), ?hyk0g16⟩) (Below.refl _ _) ?restk0g16
        case hyk0g16 =>
         intro W hW
         go_simp
         exact rfl
        simp only [List.getElem_toArray, List.getElem_cons_succ, List.getElem_cons_zero, Act.put, List.setIfInBounds_toArray, List.set_cons_zero, List.set_cons_succ]
        refine but_take (f := 21) (i := 17) (v := ?vk0g17) rfl (by kernel_rfl) (by kernel_rfl) (by kernel_rfl) (by kernel_rfl) (by kernel_rfl) (fun _ _ _ h => h) (Or.inl ⟨((wanted_at rfl rfl rfl rfl).trans rfl), ?hyk0g17⟩) (Below.refl _ _) ?restk0g17
        case hyk0g17 =>
         intro W hW
         have hb0 : Below wr.heap.size wr W := bstep (Below.drew1 _) hW
         obtain ⟨x0, x1, x2⟩ := box2 (box_on QW.out hb0)
         go_simp
         exact rfl
        simp only [List.getElem_toArray, List.getElem_cons_succ, List.getElem_cons_zero, Act.put, List.setIfInBounds_toArray, List.set_cons_zero, List.set_cons_succ]
        refine but_take (f := 21) (i := 18) (v := ?vk0g18) rfl (by kernel_rfl) (by kernel_rfl) (by kernel_rfl) (by kernel_rfl) (by kernel_rfl) (fun _ _ _ h => h) (Or.inl ⟨((wanted_at rfl rfl rfl rfl).trans rfl), ?hyk0g18⟩) (Below.refl _ _) ?restk0g18
        case hyk0g18 =>
         intro W hW
         go_simp
         exact rfl
        simp only [List.getElem_toArray, List.getElem_cons_succ, List.getElem_cons_zero, Act.put, List.setIfInBounds_toArray, List.set_cons_zero, List.set_cons_succ]
        refine but_run (i := 19) (by kernel_rfl) rfl ((wanted_at rfl rfl rfl rfl).trans rfl) ?_
        simp only [List.getElem_toArray, List.getElem_cons_succ, List.getElem_cons_zero]
        intro K HK
        go_wp2_with fail
        refine (l6Node_any _ _ lo ts k _ (HVV.out.on (bstep (Below.drew1 _) (Below.refl _ _))) hlt (by omega) (by omega) (by omega) (by omega)).mono ?_
        rintro r Vk0g1 ⟨rfl, hBk0g1⟩
        rw [HFB.out]
        have hSk0g1 := bstep (Below.refl _ _) hBk0g1
        go_wp2_with fail
        refine HK.out _ Vk0g1 (fun _ => hSk0g1) ?_
        clear HK
        refine but_take (f := 21) (i := 20) (v := ?vk0g20) rfl (by kernel_rfl) (by kernel_rfl) (by kernel_rfl) (by kernel_rfl) (by kernel_rfl) (fun _ _ _ h => h) (Or.inl ⟨((wanted_at rfl rfl rfl rfl).trans rfl), ?hyk0g20⟩) hSk0g1 ?restk0g20
        case hyk0g20 =>
         intro W hW
         go_simp
         exact rfl
        simp only [List.getElem_toArray, List.getElem_cons_succ, List.getElem_cons_zero, Act.put, List.setIfInBounds_toArray, List.set_cons_zero, List.set_cons_succ]
        refine but_run (i := 21) (by kernel_rfl) rfl (by rfl) ?_
        simp only [List.getElem_toArray, List.getElem_cons_succ, List.getElem_cons_zero]
        intro K HK
        go_wp2_with fail
        refine HK.out _ Vk0g1 (fun h => absurd rfl h) ?_
        clear HK
        refine but_done (by kernel_rfl) ?_
        go_wp2_with fail
        go_roundw
        case rel => exact ⟨k + 1, by omega, by go_num, HN1, HN2, Lib.hid (bstep HX.out (bstep (Below.drew1 _) hSk0g1))⟩
        case measure => simp [intOf]; omega
      ·have hkP : k - 1 < lo.length := by omega
       have z0 : decide (0 < k) = true := decide_eq_true (by omega)
       have i4 : IntKind.i64.wrap ((k : Int) - 1) = (k : Int) - 1 := by rw [IntKind.wrap_i64]; omega
       have i5 : (0 : Int) ≤ (k : Int) - 1 := by omega
       have i8 : (1 : Int) ≤ (k : Int) := by omega
       have i6 : (k : Int) - 1 < (lo.length : Int) := by omega
       have i7 : ((k : Int) - 1).toNat = k - 1 := by omega
       have gp := getD_at hkP
       have hkk : k - 1 + 1 = k := by omega
       by_cases hr : lo[k - 1] < lo[k]
       ·have z1 : decide (lo[k] ≤ lo[k - 1]) = false := decide_eq_false (by omega)
        have HR : Hid (∀ j, j + 1 < k + 1 → lo.getD j 0 < lo.getD (j + 1) 0) := Lib.hid (fun j h => by
         rcases Nat.lt_or_ge (j + 1) k with h' | h'
         ·exact HI2.out j h'
         ·have : j = k - 1 := by omega
          subst this; rw [hkk, gk, gp]; exact hr)
        clear hkk gp gk hr hk0
        cases hfb : fitB lo k ts[k]
        ·have HFB := Lib.hid hfb
         have HBAD : Hid (treeOkB lo ts = false) := Lib.hid (tree_bad (fun h => by have := h.2.2.2.2.2.1 k hlt; rw [getD_node hlt, hfb] at this; cases this))
         clear hfb
         go_wp2
         refine but_begin (f := 21) (S := fun V => Below wr.drew.heap.size wr.drew V) (by kernel_rfl) ?_
         refine but_take (f := 21) (i := 0) (v := ?vkub0) rfl (by kernel_rfl) (by kernel_rfl) (by kernel_rfl) (by kernel_rfl) (by kernel_rfl) (fun _ _ _ h => h) (Or.inl ⟨(by rfl), ?hykub0⟩) (Below.refl _ _) ?restkub0
         case hykub0 =>
          intro W hW
          go_simp
          exact rfl
         simp only [List.getElem_toArray, List.getElem_cons_succ, List.getElem_cons_zero, Act.put, List.setIfInBounds_toArray, List.set_cons_zero, List.set_cons_succ]
         refine but_take (f := 21) (i := 1) (v := ?vkub1) rfl (by kernel_rfl) (by kernel_rfl) (by kernel_rfl) (by kernel_rfl) (by kernel_rfl) (fun _ _ _ h => h) (Or.inl ⟨(by rfl), ?hykub1⟩) (Below.refl _ _) ?restkub1
         case hykub1 =>
          intro W hW
          go_simp
          exact rfl
         simp only [List.getElem_toArray, List.getElem_cons_succ, List.getElem_cons_zero, Act.put, List.setIfInBounds_toArray, List.set_cons_zero, List.set_cons_succ]
         refine but_take (f := 21) (i := 2) (v := ?vkub2) rfl (by kernel_rfl) (by kernel_rfl) (by kernel_rfl) (by kernel_rfl) (by kernel_rfl) (fun _ _ _ h => h) (Or.inl ⟨(by rfl), ?hykub2⟩) (Below.refl _ _) ?restkub2
         case hykub2 =>
          intro W hW
          go_simp
          exact rfl
         simp only [List.getElem_toArray, List.getElem_cons_succ, List.getElem_cons_zero, Act.put, List.setIfInBounds_toArray, List.set_cons_zero, List.set_cons_succ]
         refine but_take (f := 21) (i := 3) (v := ?vkub3) rfl (by kernel_rfl) (by kernel_rfl) (by kernel_rfl) (by kernel_rfl) (by kernel_rfl) (fun _ _ _ h => h) (Or.inl ⟨((wanted_at rfl rfl rfl rfl).trans rfl), ?hykub3⟩) (Below.refl _ _) ?restkub3
         case hykub3 =>
          intro W hW
          go_simp
          exact rfl
         simp only [List.getElem_toArray, List.getElem_cons_succ, List.getElem_cons_zero, Act.put, List.setIfInBounds_toArray, List.set_cons_zero, List.set_cons_succ]
         refine but_take (f := 21) (i := 4) (v := ?vkub4) rfl (by kernel_rfl) (by kernel_rfl) (by kernel_rfl) (by kernel_rfl) (by kernel_rfl) (fun _ _ _ h => h) (Or.inl ⟨((wanted_at rfl rfl rfl rfl).trans rfl), ?hykub4⟩) (Below.refl _ _) ?restkub4
         case hykub4 =>
          intro W hW
          have hb0 : Below wr.heap.size wr W := bstep (Below.drew1 _) hW
          obtain ⟨x0, x1, x2⟩ := box2 (box_on QW.out hb0)
          go_simp
          exact rfl
         simp only [List.getElem_toArray, List.getElem_cons_succ, List.getElem_cons_zero, Act.put, List.setIfInBounds_toArray, List.set_cons_zero, List.set_cons_succ]
         refine but_take (f := 21) (i := 5) (v := ?vkub5) rfl (by kernel_rfl) (by kernel_rfl) (by kernel_rfl) (by kernel_rfl) (by kernel_rfl) (fun _ _ _ h => h) (Or.inl ⟨((wanted_at rfl rfl rfl rfl).trans rfl), ?hykub5⟩) (Below.refl _ _) ?restkub5
         case hykub5 =>
          intro W hW
          go_simp
          exact rfl
         simp only [List.getElem_toArray, List.getElem_cons_succ, List.getElem_cons_zero, Act.put, List.setIfInBounds_toArray, List.set_cons_zero, List.set_cons_succ]
         refine but_take (f := 21) (i := 6) (v := ?vkub6) rfl (by kernel_rfl) (by kernel_rfl) (by kernel_rfl) (by kernel_rfl) (by kernel_rfl) (fun _ _ _ h => h) (Or.inl ⟨((wanted_at rfl rfl rfl rfl).trans rfl), ?hykub6⟩) (Below.refl _ _) ?restkub6
         case hykub6 =>
          intro W hW
          go_simp
          exact rfl
         simp only [List.getElem_toArray, List.getElem_cons_succ, List.getElem_cons_zero, Act.put, List.setIfInBounds_toArray, List.set_cons_zero, List.set_cons_succ]
         refine but_take (f := 21) (i := 7) (v := ?vkub7) rfl (by kernel_rfl) (by kernel_rfl) (by kernel_rfl) (by kernel_rfl) (by kernel_rfl) (fun _ _ _ h => h) (Or.inl ⟨((wanted_at rfl rfl rfl rfl).trans rfl), ?hykub7⟩) (Below.refl _ _) ?restkub7
         case hykub7 =>
          intro W hW
          go_simp
          exact rfl
         simp only [List.getElem_toArray, List.getElem_cons_succ, List.getElem_cons_zero, Act.put, List.setIfInBounds_toArray, List.set_cons_zero, List.set_cons_succ]
         refine but_take (f := 21) (i := 8) (v := ?vkub8) rfl (by kernel_rfl) (by kernel_rfl) (by kernel_rfl) (by kernel_rfl) (by kernel_rfl) (fun _ _ _ h => h) (Or.inl ⟨((wanted_at rfl rfl rfl rfl).trans rfl), ?hykub8⟩) (Below.refl _ _) ?restkub8
         case hykub8 =>
          intro W hW
          have hb0 : Below wr.heap.size wr W := bstep (Below.drew1 _) hW
          have f1 := (HLO.out.on hb0).cellI hkL
          have f2 := (HLO.out.on hb0).cellI hkP
          go_simp
          exact rfl
         simp only [List.getElem_toArray, List.getElem_cons_succ, List.getElem_cons_zero, Act.put, List.setIfInBounds_toArray, List.set_cons_zero, List.set_cons_succ]
         refine but_take (f := 21) (i := 9) (v := ?vkub9) rfl (by kernel_rfl) (by kernel_rfl) (by kernel_rfl) (by kernel_rfl) (by kernel_rfl) (fun _ _ _ h => h) (Or.inl ⟨((wanted_at rfl rfl rfl rfl).trans rfl), ?hykub9⟩) (Below.refl _ _) ?restkub9
         case hykub9 =>
          intro W hW
          go_simp
          exact rfl
         simp only [List.getElem_toArray, List.getElem_cons_succ, List.getElem_cons_zero, Act.put, List.setIfInBounds_toArray, List.set_cons_zero, List.set_cons_succ]
         refine but_take (f := 21) (i := 10) (v := ?vkub10) rfl (by kernel_rfl) (by kernel_rfl) (by kernel_rfl) (by kernel_rfl) (by kernel_rfl) (fun _ _ _ h => h) (Or.inl ⟨((wanted_at rfl rfl rfl rfl).trans rfl), ?hykub10⟩) (Below.refl _ _) ?restkub10
         case hykub10 =>
          intro W hW
          have hb0 : Below wr.heap.size wr W := bstep (Below.drew1 _) hW
          obtain ⟨x0, x1, x2⟩ := box2 (box_on QW.out hb0)
          go_simp
          exact rfl
         simp only [List.getElem_toArray, List.getElem_cons_succ, List.getElem_cons_zero, Act.put, List.setIfInBounds_toArray, List.set_cons_zero, List.set_cons_succ]
         refine but_take (f := 21) (i := 11) (v := ?vkub11) rfl (by kernel_rfl) (by kernel_rfl) (by kernel_rfl) (by kernel_rfl) (by kernel_rfl) (fun _ _ _ h => h) (Or.inl ⟨((wanted_at rfl rfl rfl rfl).trans rfl), ?hykub11⟩) (Below.refl _ _) ?restkub11
         case hykub11 =>
          intro W hW
          go_simp
          exact rfl
         simp only [List.getElem_toArray, List.getElem_cons_succ, List.getElem_cons_zero, Act.put, List.setIfInBounds_toArray, List.set_cons_zero, List.set_cons_succ]
         refine but_take (f := 21) (i := 12) (v := ?vkub12) rfl (by kernel_rfl) (by kernel_rfl) (by kernel_rfl) (by kernel_rfl) (by kernel_rfl) (fun _ _ _ h => h) (Or.inl ⟨((wanted_at rfl rfl rfl rfl).trans rfl), ?hykub12⟩) (Below.refl _ _) ?restkub12
         case hykub12 =>
          intro W hW
          go_simp
          exact rfl
         simp only [List.getElem_toArray, List.getElem_cons_succ, List.getElem_cons_zero, Act.put, List.setIfInBounds_toArray, List.set_cons_zero, List.set_cons_succ]
         refine but_take (f := 21) (i := 13) (v := ?vkub13) rfl (by kernel_rfl) (by kernel_rfl) (by kernel_rfl) (by kernel_rfl) (by kernel_rfl) (fun _ _ _ h => h) (Or.inl ⟨((wanted_at rfl rfl rfl rfl).trans rfl), ?hykub13⟩) (Below.refl _ _) ?restkub13
         case hykub13 =>
          intro W hW
          have hb0 : Below wr.heap.size wr W := bstep (Below.drew1 _) hW
          have f1 := (HLO.out.on hb0).cellI hkL
          have f2 := (HLO.out.on hb0).cellI hkP
          go_simp
          exact rfl
         simp only [List.getElem_toArray, List.getElem_cons_succ, List.getElem_cons_zero, Act.put, List.setIfInBounds_toArray, List.set_cons_zero, List.set_cons_succ]
         refine but_take (f := 21) (i := 14) (v := ?vkub14) rfl (by kernel_rfl) (by kernel_rfl) (by kernel_rfl) (by kernel_rfl) (by kernel_rfl) (fun _ _ _ h => h) (Or.inl ⟨((wanted_at rfl rfl rfl rfl).trans rfl), ?hykub14⟩) (Below.refl _ _) ?restkub14
         case hykub14 =>
          intro W hW
          go_simp
          exact rfl
         simp only [List.getElem_toArray, List.getElem_cons_succ, List.getElem_cons_zero, Act.put, List.setIfInBounds_toArray, List.set_cons_zero, List.set_cons_succ]
         refine but_take (f := 21) (i := 15) (v := ?vkub15) rfl (by kernel_rfl) (by kernel_rfl) (by kernel_rfl) (by kernel_rfl) (by kernel_rfl) (fun _ _ _ h => h) (Or.inl ⟨(by rfl), ?hykub15⟩) (Below.refl _ _) ?restkub15
         case hykub15 =>
          intro W hW
          go_simp
          exact rfl
         simp only [List.getElem_toArray, List.getElem_cons_succ, List.getElem_cons_zero, Act.put, List.setIfInBounds_toArray, List.set_cons_zero, List.set_cons_succ]
         refine but_take (f := 21) (i := 16) (v := ?vkub16) rfl (by kernel_rfl) (by kernel_rfl) (by kernel_rfl) (by kernel_rfl) (by kernel_rfl) (fun _ _ _ h => h) (Or.inl ⟨(by rfl), ?hykub16⟩) (Below.refl _ _) ?restkub16
         case hykub16 =>
          intro W hW
          go_simp
          exact rfl
         simp only [List.getElem_toArray, List.getElem_cons_succ, List.getElem_cons_zero, Act.put, List.setIfInBounds_toArray, List.set_cons_zero, List.set_cons_succ]
         refine but_take (f := 21) (i := 17) (v := ?vkub17) rfl (by kernel_rfl) (by kernel_rfl) (by kernel_rfl) (by kernel_rfl) (by kernel_rfl) (fun _ _ _ h => h) (Or.inl ⟨((wanted_at rfl rfl rfl rfl).trans rfl), ?hykub17⟩) (Below.refl _ _) ?restkub17
         case hykub17 =>
          intro W hW
          have hb0 : Below wr.heap.size wr W := bstep (Below.drew1 _) hW
          obtain ⟨x0, x1, x2⟩ := box2 (box_on QW.out hb0)
          go_simp
          exact rfl
         simp only [List.getElem_toArray, List.getElem_cons_succ, List.getElem_cons_zero, Act.put, List.setIfInBounds_toArray, List.set_cons_zero, List.set_cons_succ]
         refine but_take (f := 21) (i := 18) (v := ?vkub18) rfl (by kernel_rfl) (by kernel_rfl) (by kernel_rfl) (by kernel_rfl) (by kernel_rfl) (fun _ _ _ h => h) (Or.inl ⟨((wanted_at rfl rfl rfl rfl).trans rfl), ?hykub18⟩) (Below.refl _ _) ?restkub18
         case hykub18 =>
          intro W hW
          go_simp
          exact rfl
         simp only [List.getElem_toArray, List.getElem_cons_succ, List.getElem_cons_zero, Act.put, List.setIfInBounds_toArray, List.set_cons_zero, List.set_cons_succ]
         refine but_run (i := 19) (by kernel_rfl) rfl ((wanted_at rfl rfl rfl rfl).trans rfl) ?_
         simp only [List.getElem_toArray, List.getElem_cons_succ, List.getElem_cons_zero]
         intro K HK
         go_wp2_with fail
         refine (l6Node_any _ _ lo ts k _ (HVV.out.on (bstep (Below.drew1 _) (Below.refl _ _))) hlt (by omega) (by omega) (by omega) (by omega)).mono ?_
         rintro r Vkub1 ⟨rfl, hBkub1⟩
         rw [HFB.out]
         have hSkub1 := bstep (Below.refl _ _) hBkub1
         go_wp2_with fail
         refine HK.out _ Vkub1 (fun _ => hSkub1) ?_
         clear HK
         refine but_take (f := 21) (i := 20) (v := ?vkub20) rfl (by kernel_rfl) (by kernel_rfl) (by kernel_rfl) (by kernel_rfl) (by kernel_rfl) (fun _ _ _ h => h) (Or.inl ⟨((wanted_at rfl rfl rfl rfl).trans rfl), ?hykub20⟩) hSkub1 ?restkub20
         case hykub20 =>
          intro W hW
          go_simp
          exact rfl
         simp only [List.getElem_toArray, List.getElem_cons_succ, List.getElem_cons_zero, Act.put, List.setIfInBounds_toArray, List.set_cons_zero, List.set_cons_succ]
         refine but_run (i := 21) (by kernel_rfl) rfl (by rfl) ?_
         simp only [List.getElem_toArray, List.getElem_cons_succ, List.getElem_cons_zero]
         intro K HK
         go_wp2_with fail
         refine HK.out _ Vkub1 (fun h => absurd rfl h) ?_
         clear HK
         refine but_done (by kernel_rfl) ?_
         go_wp2_with fail
         go_ret
         exact ⟨ret_boolB HBAD.out.symm, bstep HB.out (bstep HX.out (bstep (Below.drew1 _) hSkub1))⟩
        ·have HFB := Lib.hid hfb
         have HN1 : Hid (∀ j, j < k + 1 → fitB lo j (ts.getD j []) = true) := Lib.hid (fun j h => by
          rcases Nat.lt_or_ge j k with h' | h'
          ·exact HI1.out j h'
          ·have : j = k := by omega
           subst this; rw [getD_node hlt]; exact hfb)
         have HN2 := HR
         clear hfb
         go_wp2
         refine but_begin (f := 21) (S := fun V => Below wr.drew.heap.size wr.drew V) (by kernel_rfl) ?_
         refine but_take (f := 21) (i := 0) (v := ?vkug0) rfl (by kernel_rfl) (by kernel_rfl) (by kernel_rfl) (by kernel_rfl) (by kernel_rfl) (fun _ _ _ h => h) (Or.inl ⟨(by rfl), ?hykug0⟩) (Below.refl _ _) ?restkug0
         case hykug0 =>
          intro W hW
          go_simp
          exact rfl
         simp only [List.getElem_toArray, List.getElem_cons_succ, List.getElem_cons_zero, Act.put, List.setIfInBounds_toArray, List.set_cons_zero, List.set_cons_succ]
         refine but_take (f := 21) (i := 1) (v := ?vkug1) rfl (by kernel_rfl) (by kernel_rfl) (by kernel_rfl) (by kernel_rfl) (by kernel_rfl) (fun _ _ _ h => h) (Or.inl ⟨(by rfl), ?hykug1⟩) (Below.refl _ _) ?restkug1
         case hykug1 =>
          intro W hW
          go_simp
          exact rfl
         simp only [List.getElem_toArray, List.getElem_cons_succ, List.getElem_cons_zero, Act.put, List.setIfInBounds_toArray, List.set_cons_zero, List.set_cons_succ]
         refine but_take (f := 21) (i := 2) (v := ?vkug2) rfl (by kernel_rfl) (by kernel_rfl) (by kernel_rfl) (by kernel_rfl) (by kernel_rfl) (fun _ _ _ h => h) (Or.inl ⟨(by rfl), ?hykug2⟩) (Below.refl _ _) ?restkug2
         case hykug2 =>
          intro W hW
          go_simp
          exact rfl
         simp only [List.getElem_toArray, List.getElem_cons_succ, List.getElem_cons_zero, Act.put, List.setIfInBounds_toArray, List.set_cons_zero, List.set_cons_succ]
         refine but_take (f := 21) (i := 3) (v := ?vkug3) rfl (by kernel_rfl) (by kernel_rfl) (by kernel_rfl) (by kernel_rfl) (by kernel_rfl) (fun _ _ _ h => h) (Or.inl ⟨((wanted_at rfl rfl rfl rfl).trans rfl), ?hykug3⟩) (Below.refl _ _) ?restkug3
         case hykug3 =>
          intro W hW
          go_simp
          exact rfl
         simp only [List.getElem_toArray, List.getElem_cons_succ, List.getElem_cons_zero, Act.put, List.setIfInBounds_toArray, List.set_cons_zero, List.set_cons_succ]
         refine but_take (f := 21) (i := 4) (v := ?vkug4) rfl (by kernel_rfl) (by kernel_rfl) (by kernel_rfl) (by kernel_rfl) (by kernel_rfl) (fun _ _ _ h => h) (Or.inl ⟨((wanted_at rfl rfl rfl rfl).trans rfl), ?hykug4⟩) (Below.refl _ _) ?restkug4
         case hykug4 =>
          intro W hW
          have hb0 : Below wr.heap.size wr W := bstep (Below.drew1 _) hW
          obtain ⟨x0, x1, x2⟩ := box2 (box_on QW.out hb0)
          go_simp
          exact rfl
         simp only [List.getElem_toArray, List.getElem_cons_succ, List.getElem_cons_zero, Act.put, List.setIfInBounds_toArray, List.set_cons_zero, List.set_cons_succ]
         refine but_take (f := 21) (i := 5) (v := ?vkug5) rfl (by kernel_rfl) (by kernel_rfl) (by kernel_rfl) (by kernel_rfl) (by kernel_rfl) (fun _ _ _ h => h) (Or.inl ⟨((wanted_at rfl rfl rfl rfl).trans rfl), ?hykug5⟩) (Below.refl _ _) ?restkug5
         case hykug5 =>
          intro W hW
          go_simp
          exact rfl
         simp only [List.getElem_toArray, List.getElem_cons_succ, List.getElem_cons_zero, Act.put, List.setIfInBounds_toArray, List.set_cons_zero, List.set_cons_succ]
         refine but_take (f := 21) (i := 6) (v := ?vkug6) rfl (by kernel_rfl) (by kernel_rfl) (by kernel_rfl) (by kernel_rfl) (by kernel_rfl) (fun _ _ _ h => h) (Or.inl ⟨((wanted_at rfl rfl rfl rfl).trans rfl), ?hykug6⟩) (Below.refl _ _) ?restkug6
         case hykug6 =>
          intro W hW
          go_simp
          exact rfl
         simp only [List.getElem_toArray, List.getElem_cons_succ, List.getElem_cons_zero, Act.put, List.setIfInBounds_toArray, List.set_cons_zero, List.set_cons_succ]
         refine but_take (f := 21) (i := 7) (v := ?vkug7) rfl (by kernel_rfl) (by kernel_rfl) (by kernel_rfl) (by kernel_rfl) (by kernel_rfl) (fun _ _ _ h => h) (Or.inl ⟨((wanted_at rfl rfl rfl rfl).trans rfl), ?hykug7⟩) (Below.refl _ _) ?restkug7
         case hykug7 =>
          intro W hW
          go_simp
          exact rfl
         simp only [List.getElem_toArray, List.getElem_cons_succ, List.getElem_cons_zero, Act.put, List.setIfInBounds_toArray, List.set_cons_zero, List.set_cons_succ]
         refine but_take (f := 21) (i := 8) (v := ?vkug8) rfl (by kernel_rfl) (by kernel_rfl) (by kernel_rfl) (by kernel_rfl) (by kernel_rfl) (fun _ _ _ h => h) (Or.inl ⟨((wanted_at rfl rfl rfl rfl).trans rfl), ?hykug8⟩) (Below.refl _ _) ?restkug8
         case hykug8 =>
          intro W hW
          have hb0 : Below wr.heap.size wr W := bstep (Below.drew1 _) hW
          have f1 := (HLO.out.on hb0).cellI hkL
          have f2 := (HLO.out.on hb0).cellI hkP
          go_simp
          exact rfl
         simp only [List.getElem_toArray, List.getElem_cons_succ, List.getElem_cons_zero, Act.put, List.setIfInBounds_toArray, List.set_cons_zero, List.set_cons_succ]
         refine but_take (f := 21) (i := 9) (v := ?vkug9) rfl (by kernel_rfl) (by kernel_rfl) (by kernel_rfl) (by kernel_rfl) (by kernel_rfl) (fun _ _ _ h => h) (Or.inl ⟨((wanted_at rfl rfl rfl rfl).trans rfl), ?hykug9⟩) (Below.refl _ _) ?restkug9
         case hykug9 =>
          intro W hW
          go_simp
          exact rfl
         simp only [List.getElem_toArray, List.getElem_cons_succ, List.getElem_cons_zero, Act.put, List.setIfInBounds_toArray, List.set_cons_zero, List.set_cons_succ]
         refine but_take (f := 21) (i := 10) (v := ?vkug10) rfl (by kernel_rfl) (by kernel_rfl) (by kernel_rfl) (by kernel_rfl) (by kernel_rfl) (fun _ _ _ h => h) (Or.inl ⟨((wanted_at rfl rfl rfl rfl).trans rfl), ?hykug10⟩) (Below.refl _ _) ?restkug10
         case hykug10 =>
          intro W hW
          have hb0 : Below wr.heap.size wr W := bstep (Below.drew1 _) hW
          obtain ⟨x0, x1, x2⟩ := box2 (box_on QW.out hb0)
          go_simp
          exact rfl
         simp only [List.getElem_toArray, List.getElem_cons_succ, List.getElem_cons_zero, Act.put, List.setIfInBounds_toArray, List.set_cons_zero, List.set_cons_succ]
         refine but_take (f := 21) (i := 11) (v := ?vkug11) rfl (by kernel_rfl) (by kernel_rfl) (by kernel_rfl) (by kernel_rfl) (by kernel_rfl) (fun _ _ _ h => h) (Or.inl ⟨((wanted_at rfl rfl rfl rfl).trans rfl), ?hykug11⟩) (Below.refl _ _) ?restkug11
         case hykug11 =>
          intro W hW
          go_simp
          exact rfl
         simp only [List.getElem_toArray, List.getElem_cons_succ, List.getElem_cons_zero, Act.put, List.setIfInBounds_toArray, List.set_cons_zero, List.set_cons_succ]
         refine but_take (f := 21) (i := 12) (v := ?vkug12) rfl (by kernel_rfl) (by kernel_rfl) (by kernel_rfl) (by kernel_rfl) (by kernel_rfl) (fun _ _ _ h => h) (Or.inl ⟨((wanted_at rfl rfl rfl rfl).trans rfl), ?hykug12⟩) (Below.refl _ _) ?restkug12
         case hykug12 =>
          intro W hW
          go_simp
          exact rfl
         simp only [List.getElem_toArray, List.getElem_cons_succ, List.getElem_cons_zero, Act.put, List.setIfInBounds_toArray, List.set_cons_zero, List.set_cons_succ]
         refine but_take (f := 21) (i := 13) (v := ?vkug13) rfl (by kernel_rfl) (by kernel_rfl) (by kernel_rfl) (by kernel_rfl) (by kernel_rfl) (fun _ _ _ h => h) (Or.inl ⟨((wanted_at rfl rfl rfl rfl).trans rfl), ?hykug13⟩) (Below.refl _ _) ?restkug13
         case hykug13 =>
          intro W hW
          have hb0 : Below wr.heap.size wr W := bstep (Below.drew1 _) hW
          have f1 := (HLO.out.on hb0).cellI hkL
          have f2 := (HLO.out.on hb0).cellI hkP
          go_simp
          exact rfl
         simp only [List.getElem_toArray, List.getElem_cons_succ, List.getElem_cons_zero, Act.put, List.setIfInBounds_toArray, List.set_cons_zero, List.set_cons_succ]
         refine but_take (f := 21) (i := 14) (v := ?vkug14) rfl (by kernel_rfl) (by kernel_rfl) (by kernel_rfl) (by kernel_rfl) (by kernel_rfl) (fun _ _ _ h => h) (Or.inl ⟨((wanted_at rfl rfl rfl rfl).trans rfl), ?hykug14⟩) (Below.refl _ _) ?restkug14
         case hykug14 =>
          intro W hW
          go_simp
          exact rfl
         simp only [List.getElem_toArray, List.getElem_cons_succ, List.getElem_cons_zero, Act.put, List.setIfInBounds_toArray, List.set_cons_zero, List.set_cons_succ]
         refine but_take (f := 21) (i := 15) (v := ?vkug15) rfl (by kernel_rfl) (by kernel_rfl) (by kernel_rfl) (by kernel_rfl) (by kernel_rfl) (fun _ _ _ h => h) (Or.inl ⟨(by rfl), ?hykug15⟩) (Below.refl _ _) ?restkug15
         case hykug15 =>
          intro W hW
          go_simp
          exact rfl
         simp only [List.getElem_toArray, List.getElem_cons_succ, List.getElem_cons_zero, Act.put, List.setIfInBounds_toArray, List.set_cons_zero, List.set_cons_succ]
         refine but_take (f := 21) (i := 16) (v := ?vkug16) rfl (by kernel_rfl) (by kernel_rfl) (by kernel_rfl) (by kernel_rfl) (by kernel_rfl) (fun _ _ _ h => h) (Or.inl ⟨(by rfl), ?hykug16⟩) (Below.refl _ _) ?restkug16
         case hykug16 =>
          intro W hW
          go_simp
          exact rfl
         simp only [List.getElem_toArray, List.getElem_cons_succ, List.getElem_cons_zero, Act.put, List.setIfInBounds_toArray, List.set_cons_zero, List.set_cons_succ]
         refine but_take (f := 21) (i := 17) (v := ?vkug17) rfl (by kernel_rfl) (by kernel_rfl) (by kernel_rfl) (by kernel_rfl) (by kernel_rfl) (fun _ _ _ h => h) (Or.inl ⟨((wanted_at rfl rfl rfl rfl).trans rfl), ?hykug17⟩) (Below.refl _ _) ?restkug17
         case hykug17 =>
          intro W hW
          have hb0 : Below wr.heap.size wr W := bstep (Below.drew1 _) hW
          obtain ⟨x0, x1, x2⟩ := box2 (box_on QW.out hb0)
          go_simp
          exact rfl
         simp only [List.getElem_toArray, List.getElem_cons_succ, List.getElem_cons_zero, Act.put, List.setIfInBounds_toArray, List.set_cons_zero, List.set_cons_succ]
         refine but_take (f := 21) (i := 18) (v := ?vkug18) rfl (by kernel_rfl) (by kernel_rfl) (by kernel_rfl) (by kernel_rfl) (by kernel_rfl) (fun _ _ _ h => h) (Or.inl ⟨((wanted_at rfl rfl rfl rfl).trans rfl), ?hykug18⟩) (Below.refl _ _) ?restkug18
         case hykug18 =>
          intro W hW
          go_simp
          exact rfl
         simp only [List.getElem_toArray, List.getElem_cons_succ, List.getElem_cons_zero, Act.put, List.setIfInBounds_toArray, List.set_cons_zero, List.set_cons_succ]
         refine but_run (i := 19) (by kernel_rfl) rfl ((wanted_at rfl rfl rfl rfl).trans rfl) ?_
         simp only [List.getElem_toArray, List.getElem_cons_succ, List.getElem_cons_zero]
         intro K HK
         go_wp2_with fail
         refine (l6Node_any _ _ lo ts k _ (HVV.out.on (bstep (Below.drew1 _) (Below.refl _ _))) hlt (by omega) (by omega) (by omega) (by omega)).mono ?_
         rintro r Vkug1 ⟨rfl, hBkug1⟩
         rw [HFB.out]
         have hSkug1 := bstep (Below.refl _ _) hBkug1
         go_wp2_with fail
         refine HK.out _ Vkug1 (fun _ => hSkug1) ?_
         clear HK
         refine but_take (f := 21) (i := 20) (v := ?vkug20) rfl (by kernel_rfl) (by kernel_rfl) (by kernel_rfl) (by kernel_rfl) (by kernel_rfl) (fun _ _ _ h => h) (Or.inl ⟨((wanted_at rfl rfl rfl rfl).trans rfl), ?hykug20⟩) hSkug1 ?restkug20
         case hykug20 =>
          intro W hW
          go_simp
          exact rfl
         simp only [List.getElem_toArray, List.getElem_cons_succ, List.getElem_cons_zero, Act.put, List.setIfInBounds_toArray, List.set_cons_zero, List.set_cons_succ]
         refine but_run (i := 21) (by kernel_rfl) rfl (by rfl) ?_
         simp only [List.getElem_toArray, List.getElem_cons_succ, List.getElem_cons_zero]
         intro K HK
         go_wp2_with fail
         refine HK.out _ Vkug1 (fun h => absurd rfl h) ?_
         clear HK
         refine but_done (by kernel_rfl) ?_
         go_wp2_with fail
         go_roundw
         case rel => exact ⟨k + 1, by omega, by go_num, HN1, HN2, Lib.hid (bstep HX.out (bstep (Below.drew1 _) hSkug1))⟩
         case measure => simp [intOf]; omega
       ·have z1 : decide (lo[k] ≤ lo[k - 1]) = true := decide_eq_true (by omega)
        have HBAD : Hid (treeOkB lo ts = false) := Lib.hid (tree_bad (fun h => by have := h.2.2.2.2.1 (k - 1) (by omega); rw [hkk, gk, gp] at this; omega))
        clear hkk gp gk hr hk0
        go_wp2
        refine but_begin (f := 21) (S := fun V => Below wr.drew.heap.size wr.drew V) (by kernel_rfl) ?_
        refine but_take (f := 21) (i := 0) (v := ?vkdb0) rfl (by kernel_rfl) (by kernel_rfl) (by kernel_rfl) (by kernel_rfl) (by kernel_rfl) (fun _ _ _ h => h) (Or.inl ⟨(by rfl), ?hykdb0⟩) (Below.refl _ _) ?restkdb0
        case hykdb0 =>
         intro W hW
         go_simp
         exact rfl
        simp only [List.getElem_toArray, List.getElem_cons_succ, List.getElem_cons_zero, Act.put, List.setIfInBounds_toArray, List.set_cons_zero, List.set_cons_succ]
        refine but_take (f := 21) (i := 1) (v := ?vkdb1) rfl (by kernel_rfl) (by kernel_rfl) (by kernel_rfl) (by kernel_rfl) (by kernel_rfl) (fun _ _ _ h => h) (Or.inl ⟨(by rfl), ?hykdb1⟩) (Below.refl _ _) ?restkdb1
        case hykdb1 =>
         intro W hW
         go_simp
         exact rfl
        simp only [List.getElem_toArray, List.getElem_cons_succ, List.getElem_cons_zero, Act.put, List.setIfInBounds_toArray, List.set_cons_zero, List.set_cons_succ]
        refine but_take (f := 21) (i := 2) (v := ?vkdb2) rfl (by kernel_rfl) (by kernel_rfl) (by kernel_rfl) (by kernel_rfl) (by kernel_rfl) (fun _ _ _ h => h) (Or.inl ⟨(by rfl), ?hykdb2⟩) (Below.refl _ _) ?restkdb2
        case hykdb2 =>
         intro W hW
         go_simp
         exact rfl
        simp only [List.getElem_toArray, List.getElem_cons_succ, List.getElem_cons_zero, Act.put, List.setIfInBounds_toArray, List.set_cons_zero, List.set_cons_succ]
        refine but_take (f := 21) (i := 3) (v := ?vkdb3) rfl (by kernel_rfl) (by kernel_rfl) (by kernel_rfl) (by kernel_rfl) (by kernel_rfl) (fun _ _ _ h => h) (Or.inl ⟨((wanted_at rfl rfl rfl rfl).trans rfl), ?hykdb3⟩) (Below.refl _ _) ?restkdb3
        case hykdb3 =>
         intro W hW
         go_simp
         exact rfl
        simp only [List.getElem_toArray, List.getElem_cons_succ, List.getElem_cons_zero, Act.put, List.setIfInBounds_toArray, List.set_cons_zero, List.set_cons_succ]
        refine but_take (f := 21) (i := 4) (v := ?vkdb4) rfl (by kernel_rfl) (by kernel_rfl) (by kernel_rfl) (by kernel_rfl) (by kernel_rfl) (fun _ _ _ h => h) (Or.inl ⟨((wanted_at rfl rfl rfl rfl).trans rfl), ?hykdb4⟩) (Below.refl _ _) ?restkdb4
        case hykdb4 =>
         intro W hW
         have hb0 : Below wr.heap.size wr W := bstep (Below.drew1 _) hW
         obtain ⟨x0, x1, x2⟩ := box2 (box_on QW.out hb0)
         go_simp
         exact rfl
        simp only [List.getElem_toArray, List.getElem_cons_succ, List.getElem_cons_zero, Act.put, List.setIfInBounds_toArray, List.set_cons_zero, List.set_cons_succ]
        refine but_take (f := 21) (i := 5) (v := ?vkdb5) rfl (by kernel_rfl) (by kernel_rfl) (by kernel_rfl) (by kernel_rfl) (by kernel_rfl) (fun _ _ _ h => h) (Or.inl ⟨((wanted_at rfl rfl rfl rfl).trans rfl), ?hykdb5⟩) (Below.refl _ _) ?restkdb5
        case hykdb5 =>
         intro W hW
         go_simp
         exact rfl
        simp only [List.getElem_toArray, List.getElem_cons_succ, List.getElem_cons_zero, Act.put, List.setIfInBounds_toArray, List.set_cons_zero, List.set_cons_succ]
        refine but_take (f := 21) (i := 6) (v := ?vkdb6) rfl (by kernel_rfl) (by kernel_rfl) (by kernel_rfl) (by kernel_rfl) (by kernel_rfl) (fun _ _ _ h => h) (Or.inl ⟨((wanted_at rfl rfl rfl rfl).trans rfl), ?hykdb6⟩) (Below.refl _ _) ?restkdb6
        case hykdb6 =>
         intro W hW
         go_simp
         exact rfl
        simp only [List.getElem_toArray, List.getElem_cons_succ, List.getElem_cons_zero, Act.put, List.setIfInBounds_toArray, List.set_cons_zero, List.set_cons_succ]
        refine but_take (f := 21) (i := 7) (v := ?vkdb7) rfl (by kernel_rfl) (by kernel_rfl) (by kernel_rfl) (by kernel_rfl) (by kernel_rfl) (fun _ _ _ h => h) (Or.inl ⟨((wanted_at rfl rfl rfl rfl).trans rfl), ?hykdb7⟩) (Below.refl _ _) ?restkdb7
        case hykdb7 =>
         intro W hW
         go_simp
         exact rfl
        simp only [List.getElem_toArray, List.getElem_cons_succ, List.getElem_cons_zero, Act.put, List.setIfInBounds_toArray, List.set_cons_zero, List.set_cons_succ]
        refine but_take (f := 21) (i := 8) (v := ?vkdb8) rfl (by kernel_rfl) (by kernel_rfl) (by kernel_rfl) (by kernel_rfl) (by kernel_rfl) (fun _ _ _ h => h) (Or.inl ⟨((wanted_at rfl rfl rfl rfl).trans rfl), ?hykdb8⟩) (Below.refl _ _) ?restkdb8
        case hykdb8 =>
         intro W hW
         have hb0 : Below wr.heap.size wr W := bstep (Below.drew1 _) hW
         have f1 := (HLO.out.on hb0).cellI hkL
         have f2 := (HLO.out.on hb0).cellI hkP
         go_simp
         exact rfl
        simp only [List.getElem_toArray, List.getElem_cons_succ, List.getElem_cons_zero, Act.put, List.setIfInBounds_toArray, List.set_cons_zero, List.set_cons_succ]
        refine but_take (f := 21) (i := 9) (v := ?vkdb9) rfl (by kernel_rfl) (by kernel_rfl) (by kernel_rfl) (by kernel_rfl) (by kernel_rfl) (fun _ _ _ h => h) (Or.inl ⟨((wanted_at rfl rfl rfl rfl).trans rfl), ?hykdb9⟩) (Below.refl _ _) ?restkdb9
        case hykdb9 =>
         intro W hW
         go_simp
         exact rfl
        simp only [List.getElem_toArray, List.getElem_cons_succ, List.getElem_cons_zero, Act.put, List.setIfInBounds_toArray, List.set_cons_zero, List.set_cons_succ]
        refine but_take (f := 21) (i := 10) (v := ?vkdb10) rfl (by kernel_rfl) (by kernel_rfl) (by kernel_rfl) (by kernel_rfl) (by kernel_rfl) (fun _ _ _ h => h) (Or.inl ⟨((wanted_at rfl rfl rfl rfl).trans rfl), ?hykdb10⟩) (Below.refl _ _) ?restkdb10
        case hykdb10 =>
         intro W hW
         have hb0 : Below wr.heap.size wr W := bstep (Below.drew1 _) hW
         obtain ⟨x0, x1, x2⟩ := box2 (box_on QW.out hb0)
         go_simp
         exact rfl
        simp only [List.getElem_toArray, List.getElem_cons_succ, List.getElem_cons_zero, Act.put, List.setIfInBounds_toArray, List.set_cons_zero, List.set_cons_succ]
        refine but_take (f := 21) (i := 11) (v := ?vkdb11) rfl (by kernel_rfl) (by kernel_rfl) (by kernel_rfl) (by kernel_rfl) (by kernel_rfl) (fun _ _ _ h => h) (Or.inl ⟨((wanted_at rfl rfl rfl rfl).trans rfl), ?hykdb11⟩) (Below.refl _ _) ?restkdb11
        case hykdb11 =>
         intro W hW
         go_simp
         exact rfl
        simp only [List.getElem_toArray, List.getElem_cons_succ, List.getElem_cons_zero, Act.put, List.setIfInBounds_toArray, List.set_cons_zero, List.set_cons_succ]
        refine but_take (f := 21) (i := 12) (v := ?vkdb12) rfl (by kernel_rfl) (by kernel_rfl) (by kernel_rfl) (by kernel_rfl) (by kernel_rfl) (fun _ _ _ h => h) (Or.inl ⟨((wanted_at rfl rfl rfl rfl).trans rfl), ?hykdb12⟩) (Below.refl _ _) ?restkdb12
        case hykdb12 =>
         intro W hW
         go_simp
         exact rfl
        simp only [List.getElem_toArray, List.getElem_cons_succ, List.getElem_cons_zero, Act.put, List.setIfInBounds_toArray, List.set_cons_zero, List.set_cons_succ]
        refine but_take (f := 21) (i := 13) (v := ?vkdb13) rfl (by kernel_rfl) (by kernel_rfl) (by kernel_rfl) (by kernel_rfl) (by kernel_rfl) (fun _ _ _ h => h) (Or.inl ⟨((wanted_at rfl rfl rfl rfl).trans rfl), ?hykdb13⟩) (Below.refl _ _) ?restkdb13
        case hykdb13 =>
         intro W hW
         have hb0 : Below wr.heap.size wr W := bstep (Below.drew1 _) hW
         have f1 := (HLO.out.on hb0).cellI hkL
         have f2 := (HLO.out.on hb0).cellI hkP
         go_simp
         exact rfl
        simp only [List.getElem_toArray, List.getElem_cons_succ, List.getElem_cons_zero, Act.put, List.setIfInBounds_toArray, List.set_cons_zero, List.set_cons_succ]
        refine but_take (f := 21) (i := 14) (v := ?vkdb14) rfl (by kernel_rfl) (by kernel_rfl) (by kernel_rfl) (by kernel_rfl) (by kernel_rfl) (fun _ _ _ h => h) (Or.inl ⟨((wanted_at rfl rfl rfl rfl).trans rfl), ?hykdb14⟩) (Below.refl _ _) ?restkdb14
        case hykdb14 =>
         intro W hW
         go_simp
         exact rfl
        simp only [List.getElem_toArray, List.getElem_cons_succ, List.getElem_cons_zero, Act.put, List.setIfInBounds_toArray, List.set_cons_zero, List.set_cons_succ]
        refine but_take (f := 21) (i := 15) (v := ?vkdb15) rfl (by kernel_rfl) (by kernel_rfl) (by kernel_rfl) (by kernel_rfl) (by kernel_rfl) (fun _ _ _ h => h) (Or.inl ⟨(by rfl), ?hykdb15⟩) (Below.refl _ _) ?restkdb15
        case hykdb15 =>
         intro W hW
         go_simp
         exact rfl
        simp only [List.getElem_toArray, List.getElem_cons_succ, List.getElem_cons_zero, Act.put, List.setIfInBounds_toArray, List.set_cons_zero, List.set_cons_succ]
        refine but_take (f := 21) (i := 16) (v := ?vkdb16) rfl (by kernel_rfl) (by kernel_rfl) (by kernel_rfl) (by kernel_rfl) (by kernel_rfl) (fun _ _ _ h => h) (Or.inl ⟨(by rfl), ?hykdb16⟩) (Below.refl _ _) ?restkdb16
        case hykdb16 =>
         intro W hW
         go_simp
         exact rfl
        simp only [List.getElem_toArray, List.getElem_cons_succ, List.getElem_cons_zero, Act.put, List.setIfInBounds_toArray, List.set_cons_zero, List.set_cons_succ]
        refine but_take (f := 21) (i := 17) (v := undef) rfl (by kernel_rfl) (by kernel_rfl) (by kernel_rfl) (by kernel_rfl) (by kernel_rfl) (fun _ _ _ h => h) (Or.inr ⟨((wanted_at rfl rfl rfl rfl).trans rfl), rfl⟩) (Below.refl _ _) ?_
        simp only [List.getElem_toArray, List.getElem_cons_succ, List.getElem_cons_zero, Act.put, List.setIfInBounds_toArray, List.set_cons_zero, List.set_cons_succ]
        refine but_take (f := 21) (i := 18) (v := undef) rfl (by kernel_rfl) (by kernel_rfl) (by kernel_rfl) (by kernel_rfl) (by kernel_rfl) (fun _ _ _ h => h) (Or.inr ⟨((wanted_at rfl rfl rfl rfl).trans rfl), rfl⟩) (Below.refl _ _) ?_
        simp only [List.getElem_toArray, List.getElem_cons_succ, List.getElem_cons_zero, Act.put, List.setIfInBounds_toArray, List.set_cons_zero, List.set_cons_succ]
        refine but_take (f := 21) (i := 19) (v := undef) rfl (by kernel_rfl) (by kernel_rfl) (by kernel_rfl) (by kernel_rfl) (by kernel_rfl) (fun _ _ _ h => h) (Or.inr ⟨((wanted_at rfl rfl rfl rfl).trans rfl), rfl⟩) (Below.refl _ _) ?_
        simp only [List.getElem_toArray, List.getElem_cons_succ, List.getElem_cons_zero, Act.put, List.setIfInBounds_toArray, List.set_cons_zero, List.set_cons_succ]
        refine but_take (f := 21) (i := 20) (v := undef) rfl (by kernel_rfl) (by kernel_rfl) (by kernel_rfl) (by kernel_rfl) (by kernel_rfl) (fun _ _ _ h => h) (Or.inr ⟨((wanted_at rfl rfl rfl rfl).trans rfl), rfl⟩) (Below.refl _ _) ?_
        simp only [List.getElem_toArray, List.getElem_cons_succ, List.getElem_cons_zero, Act.put, List.setIfInBounds_toArray, List.set_cons_zero, List.set_cons_succ]
        refine but_run (i := 21) (by kernel_rfl) rfl (by rfl) ?_
        simp only [List.getElem_toArray, List.getElem_cons_succ, List.getElem_cons_zero]
        intro K HK
        go_wp2_with fail
        refine HK.out _ wr.drew (fun h => absurd rfl h) ?_
        clear HK
        refine but_done (by kernel_rfl) ?_
        go_wp2_with fail
        go_ret
        exact ⟨ret_boolB HBAD.out.symm, bstep HB.out (bstep HX.out (bstep (Below.drew1 _) (Below.refl _ _)))⟩
     ·have e : k = ts.length := by omega
      subst e
      go_wp2_with fail
      refine (specTreeKeys_any _ _ lo ts _ (HV.out.on HX.out) (by omega) (by omega)).mono ?_
      rintro e w2 ⟨v2, rfl, o2, b2⟩
      obtain ⟨A2, c2, rfl, _, _⟩ := o2.shape
      have HB2 := Lib.hid (bstep HB.out (bstep HX.out b2))
      clear o2 b2 x0 x1 x2
      go_wp2
      go_ret
      refine ⟨ret_boolB ?_, HB2.out⟩
      unfold treeOkB
      refine decide_eq_decide.2 ⟨fun h => ⟨H12.out.1, H12.out.2, H2.out, H3.out, fun j hj => HI2.out j (by omega), HI1.out, by omega⟩, fun h => by have := h.2.2.2.2.2.2; omega⟩
   ·have d3 : (lo[0] != 0) = true := by simp [h3]
    have HBAD : Hid (treeOkB lo ts = false) := Lib.hid (tree_bad (fun h => h3 (by rw [← g0]; exact h.2.2.2.1)))
    clear hc g0 h3 d1 h1 h2
    go_wp2
    go_ret
    exact ⟨ret_boolB HBAD.out.symm, HB.out⟩
  ·have d2 : ((lo.length : Int) != (ts.length : Int)) = true := by simp; omega
   have HBAD : Hid (treeOkB lo ts = false) := Lib.hid (tree_bad (fun h => h2 h.2.2.1))
   clear d1 h1 h2
   go_wp2
   go_ret
   exact ⟨ret_boolB HBAD.out.symm, HB.out⟩
 ·have d1 : (decide ((1 : Int) ≤ (ts.length : Int)) && decide ((ts.length : Int) ≤ 20)) = false := by
   rcases Nat.lt_or_ge ts.length 1 with h | h
   ·rw [decide_eq_false (by omega)]; rfl
   ·rw [decide_eq_false (show ¬ (ts.length : Int) ≤ 20 by omega), Bool.and_false]
  rw [d1]
  have HBAD : Hid (treeOkB lo ts = false) := Lib.hid (tree_bad (fun h => h1 ⟨h.1, h.2.1⟩))
  clear d1 h1
  go_wp2
  go_ret
  exact ⟨ret_boolB HBAD.out.symm, HB.out⟩
end Go.Proofs.YthopkhpiikiknaaGreat
namespace Go.Proofs.YthopkhpiikiknaaGreat
open Go.RowKit
set_option maxRecDepth 100000
set_option linter.unusedSimpArgs false
set_option linter.unusedVariables false
def treePackK (ts : List NodeD) (p : Int) : List NodeD := if 0 ≤ p ∧ p < (ts.length : Int) then ts.set p.toNat (nodePackK (ts.getD p.toNat [])) else ts
theorem nodePack_size (ns : NodeD) : (nodePackK ns).length + sumN (nodePackK ns) ≤ ns.length + sumN ns := by
 unfold nodePackK
 rw [sum_new]
 have h1 := nodeKeys_len ns
 unfold nodeNewK
 split
 ·simp; omega
 ·rename_i h
  have : ns ≠ [] := by rintro rfl; exact h rfl
  have := List.length_pos_iff.2 this
  simp; omega
theorem sumT_set (ts : List NodeD) (i : Nat) (n : NodeD) (h : i < ts.length) : sumT (ts.set i n) + ((ts[i]).length + sumN ts[i]) = sumT ts + (n.length + sumN n) := by
 induction ts generalizing i with
 |nil => simp at h
 |cons a ts ih =>
  cases i with
  |zero => simp only [List.set_cons_zero, sumT_cons, List.getElem_cons_zero]; omega
  |succ i =>
   have := ih i (by simpa using h)
   simp only [List.set_cons_succ, sumT_cons, List.getElem_cons_succ]; omega
theorem treePack_small (ts : List NodeD) (p : Int) : (treePackK ts p).length = ts.length ∧ sumT (treePackK ts p) ≤ sumT ts := by
 unfold treePackK
 split
 ·rename_i h
  have hlt : p.toNat < ts.length := by omega
  have h1 := sumT_set ts p.toNat (nodePackK (ts.getD p.toNat [])) hlt
  have h2 := nodePack_size (ts.getD p.toNat [])
  rw [getD_node hlt] at h1 h2 ⊢
  exact ⟨by simp, by omega⟩
 ·exact ⟨rfl, Nat.le_refl _⟩
theorem Owns.setNode {w w' : World} {S : Nat → Prop} {g cap : Nat} {ts : List NodeD} {i : Nat} {x : Value} {ns : NodeD} (h : Owns w S (.slice (some ⟨g, 0, none⟩) ts.length cap) (nodesD ts)) (hb : Below w.heap.size w w') (hx : Owns w' (fun b => w.heap.size ≤ b) x (setsD ns)) :
  Owns (w'.setCell ⟨g, i, none⟩ x) (fun b => S b ∨ w.heap.size ≤ b) (.slice (some ⟨g, 0, none⟩) ts.length cap) (nodesD (ts.set i ns)) := by
 rcases h.rw' with ⟨hv, _⟩ | ⟨g', cap', xs, hv, hS, hR, hn, hc, hl, hx', ho⟩
 ·cases hv
 ·cases hv
  have hg := hR.lt
  have hR2 := (hR.keep (hb.block g hg)).set i x
  have k1 := (ho.lt.on hb).setN (i := i) hx (fun b hb hb' => by have := hb.2; omega)
  have k2 : OwnsL (w'.setCell ⟨g, i, none⟩ x) (fun b => (S b ∨ w.heap.size ≤ b) ∧ b ≠ g) (xs.set i x) ((ts.set i ns).map setsD) := by
   rw [List.map_set]
   refine OwnsL.mono (k1.keep (w' := w'.setCell ⟨g, i, none⟩ x) (fun b hb _ => Below.heap_setCell _ _ _ _ ?_)) ?_
   ·rcases hb with hb | hb
    ·exact hb.1.2
    ·simp; omega
   ·rintro b (hb | hb)
    ·exact ⟨.inl hb.1.1, hb.1.2⟩
    ·exact ⟨.inr hb, by omega⟩
  have h5 := hR2.owns (S := fun b => S b ∨ w.heap.size ≤ b) (.inl hS) k2 hn hc (by simp)
  unfold nodesD
  rw [List.length_set]
  exact h5
theorem Owns.nodeRow {w : World} {S : Nat → Prop} {A : Option Addr} {n cap : Nat} {ts : List NodeD} (h : Owns w S (.slice A n cap) (nodesD ts)) {i : Nat} (hi : i < ts.length) : ∃ g x, A = some ⟨g, 0, none⟩ ∧ S g ∧ g < w.heap.size ∧ w.cell? ⟨g, i, none⟩ = some x ∧ ∀ o, w.frozen? ⟨g, o, none⟩ = false := by
 rcases h.rw' with ⟨_, h0, _⟩ | ⟨g', cap', xs, hv, hS, hR, hn, hc, hl, hx', ho⟩
 ·omega
 ·cases hv
  exact ⟨g', _, rfl, hS, hR.lt, hR.cell (by rw [hx']; simpa using hi), fun o => hR.frozen o⟩
set_option maxHeartbeats 8000000 in
theorem specTreePack_any (vl vn : Value) (lo : List Int) (ts : List NodeD) (p : Int) (w : World) (hv : RdT w w.heap.size vl vn lo ts) (hs : SmallT lo ts) (hn : sumT ts ≤ 1048576) : Calls Tryz.prog 25 #[.agg #[vl, vn], .int .i64 p] w (NewTS w lo (treePackK ts p)) := by
 obtain ⟨A, c, B, d, rfl, rfl⟩ := hv.shape
 have HS := Lib.hid hs
 have s1 := hs.1
 have s2 := hs.2.1
 obtain ⟨q0, q1⟩ := al2 w (.cells #[.slice A lo.length c, .slice B ts.length d] 27) (.cells #[.slice none 0 0, .slice none 0 0] 27)
 have hb2 := bal2 w (.cells #[.slice A lo.length c, .slice B ts.length d] 27) (.cells #[.slice none 0 0, .slice none 0 0] 27)
 have hz2 : ((w.alloc (.cells #[.slice A lo.length c, .slice B ts.length d] 27)).alloc (.cells #[.slice none 0 0, .slice none 0 0] 27)).heap.size = w.heap.size + 2 := by simp
 have HV := Lib.hid (hv.on hb2)
 have HB := Lib.hid hb2
 have Q0 := Lib.hid q0
 have Q1 := Lib.hid q1
 have HZ2 := Lib.hid hz2
 have HIN : Hid (0 ≤ p ∧ p < (ts.length : Int) → treePackK ts p = ts.set p.toNat (nodePackK (ts.getD p.toNat []))) := Lib.hid (fun h => if_pos h)
 have HOUT : Hid (¬ (0 ≤ p ∧ p < (ts.length : Int)) → treePackK ts p = ts) := Lib.hid (fun h => if_neg h)
 generalize treePackK ts p = rt at *
 clear hv hs q0 q1 hb2 hz2
 go_enter Tryz.func25, Tryz.ntmps25
 go_upto_region 1 with (fail)
 generalize (w.alloc (.cells #[.slice A lo.length c, .slice B ts.length d] 27)).alloc (.cells #[.slice none 0 0, .slice none 0 0] 27) = W at *
 have hz2 := Nat.le_of_eq HZ2.out
 have hz3 := Nat.le_of_eq HZ2.out.symm
 obtain ⟨x0, x1, x2⟩ := box2 Q0.out
 go_wp2_with fail
 refine (l6Copy_any _ _ lo ts _ HV.out HS.out).mono ?_
 rintro e w1 ⟨vl1, vn1, rfl, o1, b1⟩
 obtain ⟨A1, c1, B1, d1, rfl, rfl⟩ := o1.reads.shape
 clear x0 x1 x2
 have ba := bal1 w1 (.cells #[.slice A1 lo.length c1, .slice B1 ts.length d1] 27)
 have q5 := al1 w1 (.cells #[.slice A1 lo.length c1, .slice B1 ts.length d1] 27)
 have hzA : (w1.alloc (.cells #[.slice A1 lo.length c1, .slice B1 ts.length d1] 27)).heap.size = w1.heap.size + 1 := by simp
 have O1 := Lib.hid (o1.lt.on ba)
 replace HV := Lib.hid ((HV.out.on b1).on ba)
 replace HB := Lib.hid (bstep (bstep HB.out b1) ba)
 replace Q0 := Lib.hid (box_on (box_on Q0.out b1) ba)
 replace Q1 := Lib.hid (box_on (box_on Q1.out b1) ba)
 have Q5 := Lib.hid q5
 have hb1 := b1.size
 have HZA := Lib.hid hzA
 clear o1 b1 ba q5 hzA
 go_upto_region 2 with (fail)
 generalize w1.alloc (.cells #[.slice A1 lo.length c1, .slice B1 ts.length d1] 27) = W2 at *
 have hy1 := Nat.le_of_eq HZA.out
 have hy2 := Nat.le_of_eq HZA.out.symm
 obtain ⟨x0, x1, x2⟩ := box2 Q0.out
 go_wp2_with fail
 refine (l1In_any p 0 ((ts.length : Int) - 1) _).mono ?_
 rintro e w2 ⟨rfl, rfl⟩
 by_cases hin : 0 ≤ p ∧ p < (ts.length : Int)
 ·have hrt := HIN.out hin
  obtain ⟨i, rfl⟩ := Int.eq_ofNat_of_zero_le hin.1
  have hlt : i < ts.length := by have := hin.2; omega
  have d1' : (decide ((0 : Int) ≤ (i : Int)) && decide ((i : Int) ≤ (ts.length : Int) - 1)) = true := by simp; omega
  rw [d1']
  rw [show ((i : Int)).toNat = i from rfl, getD_node hlt] at hrt
  have HRT := Lib.hid hrt
  obtain ⟨P, R, hP, hR, hPR, ol, on⟩ := O1.out
  obtain ⟨g, x, hg0, hRg, hgl, gc, gf⟩ := on.nodeRow hlt
  subst hg0
  obtain ⟨b, off, hbe, hbb, hc⟩ := HV.out.2.node hlt
  subst hbe
  obtain ⟨A2, d2, e1, _, _, r1⟩ := hc i hlt
  have hsm := sumT_mem (List.getElem_mem hlt)
  have i1 : (i : Int) < (ts.length : Int) := by omega
  have i2 : (0 : Int) ≤ (i : Int) := by omega
  have hRg2 := hR g hRg
  have hn5 : ¬ g = w1.heap.size := by omega
  have R1 := Lib.hid r1
  have OL := Lib.hid ol
  have ON := Lib.hid on
  have HG := Lib.hid (And.intro gc gf)
  clear hc r1 ol on gc gf hrt d1' hin x0 x1 x2
  obtain ⟨x0, x1, x2⟩ := box2 Q0.out
  obtain ⟨y0, y1, y2⟩ := box2 Q5.out
  go_wp2
  have hSW : NC2 w.heap.size b (off + i) (.slice (some ⟨b, off, none⟩) ts.length d) (.slice A2 (ts[i]).length d2) w1.heap.size (.slice (some ⟨g, 0, none⟩) ts.length d1) W2.drew := ⟨x1, e1, y1⟩
  have hSV : NC2 w.heap.size b (off + i) (.slice (some ⟨b, off, none⟩) ts.length d) (.slice A2 (ts[i]).length d2) w1.heap.size (.slice (some ⟨g, 0, none⟩) ts.length d1) W2 := ⟨x1, e1, y1⟩
  refine but_begin (f := 10) (S := NC2 w.heap.size b (off + i) (.slice (some ⟨b, off, none⟩) ts.length d) (.slice A2 (ts[i]).length d2) w1.heap.size (.slice (some ⟨g, 0, none⟩) ts.length d1)) (by kernel_rfl) ?_
  refine but_take (f := 10) (i := 0) (v := ?v0) rfl (by kernel_rfl) (by kernel_rfl) (by kernel_rfl) (by kernel_rfl) (by kernel_rfl) (fun _ _ _ h => h) (Or.inl ⟨by rfl, ?hy0⟩) hSW ?rest0
  case hy0 =>
   intro W hW
   obtain ⟨h1, h2, h3⟩ := hW
   go_simp
   exact rfl
  simp only [List.getElem_toArray, List.getElem_cons_succ, List.getElem_cons_zero, Act.put, List.setIfInBounds_toArray, List.set_cons_zero, List.set_cons_succ]
  refine but_take (f := 10) (i := 1) (v := ?v1) rfl (by kernel_rfl) (by kernel_rfl) (by kernel_rfl) (by kernel_rfl) (by kernel_rfl) (fun _ _ _ h => h) (Or.inl ⟨by rfl, ?hy1⟩) hSW ?rest1
  case hy1 =>
   intro W hW
   obtain ⟨h1, h2, h3⟩ := hW
   go_simp
   exact rfl
  simp only [List.getElem_toArray, List.getElem_cons_succ, List.getElem_cons_zero, Act.put, List.setIfInBounds_toArray, List.set_cons_zero, List.set_cons_succ]
  refine but_take (f := 10) (i := 2) (v := ?v2) rfl (by kernel_rfl) (by kernel_rfl) (by kernel_rfl) (by kernel_rfl) (by kernel_rfl) (fun _ _ _ h => h) (Or.inl ⟨by rfl, ?hy2⟩) hSW ?rest2
  case hy2 =>
   intro W hW
   obtain ⟨h1, h2, h3⟩ := hW
   go_simp
   exact rfl
  simp only [List.getElem_toArray, List.getElem_cons_succ, List.getElem_cons_zero, Act.put, List.setIfInBounds_toArray, List.set_cons_zero, List.set_cons_succ]
  refine but_take (f := 10) (i := 3) (v := ?v3) rfl (by kernel_rfl) (by kernel_rfl) (by kernel_rfl) (by kernel_rfl) (by kernel_rfl) (fun _ _ _ h => h) (Or.inl ⟨by rfl, ?hy3⟩) hSW ?rest3
  case hy3 =>
   intro W hW
   obtain ⟨h1, h2, h3⟩ := hW
   go_simp
   exact rfl
  simp only [List.getElem_toArray, List.getElem_cons_succ, List.getElem_cons_zero, Act.put, List.setIfInBounds_toArray, List.set_cons_zero, List.set_cons_succ]
  refine but_take (f := 10) (i := 4) (v := ?v4) rfl (by kernel_rfl) (by kernel_rfl) (by kernel_rfl) (by kernel_rfl) (by kernel_rfl) (fun _ _ _ h => h) (Or.inl ⟨by rfl, ?hy4⟩) hSW ?rest4
  case hy4 =>
   intro W hW
   obtain ⟨h1, h2, h3⟩ := hW
   go_simp
   exact rfl
  simp only [List.getElem_toArray, List.getElem_cons_succ, List.getElem_cons_zero, Act.put, List.setIfInBounds_toArray, List.set_cons_zero, List.set_cons_succ]
  refine but_take (f := 10) (i := 5) (v := ?v5) rfl (by kernel_rfl) (by kernel_rfl) (by kernel_rfl) (by kernel_rfl) (by kernel_rfl) (fun _ _ _ h => h) (Or.inl ⟨by rfl, ?hy5⟩) hSW ?rest5
  case hy5 =>
   intro W hW
   obtain ⟨h1, h2, h3⟩ := hW
   go_simp
   exact rfl
  simp only [List.getElem_toArray, List.getElem_cons_succ, List.getElem_cons_zero, Act.put, List.setIfInBounds_toArray, List.set_cons_zero, List.set_cons_succ]
  refine but_take (f := 10) (i := 6) (v := ?v6) rfl (by kernel_rfl) (by kernel_rfl) (by kernel_rfl) (by kernel_rfl) (by kernel_rfl) (fun _ _ _ h => h) (Or.inl ⟨by rfl, ?hy6⟩) hSW ?rest6
  case hy6 =>
   intro W hW
   obtain ⟨h1, h2, h3⟩ := hW
   go_simp
   exact rfl
  simp only [List.getElem_toArray, List.getElem_cons_succ, List.getElem_cons_zero, Act.put, List.setIfInBounds_toArray, List.set_cons_zero, List.set_cons_succ]
  refine but_take (f := 10) (i := 7) (v := ?v7) rfl (by kernel_rfl) (by kernel_rfl) (by kernel_rfl) (by kernel_rfl) (by kernel_rfl) (fun _ _ _ h => h) (Or.inl ⟨by rfl, ?hy7⟩) hSW ?rest7
  case hy7 =>
   intro W hW
   obtain ⟨h1, h2, h3⟩ := hW
   go_simp
   exact rfl
  simp only [List.getElem_toArray, List.getElem_cons_succ, List.getElem_cons_zero, Act.put, List.setIfInBounds_toArray, List.set_cons_zero, List.set_cons_succ]
  refine but_run (i := 8) (by kernel_rfl) rfl (by rfl) ?_
  simp only [List.getElem_toArray, List.getElem_cons_succ, List.getElem_cons_zero]
  intro K_ HK
  go_wp2_with fail
  refine (specNodePack_any _ ts[i] _ (R1.out.on (Below.drew1 _)) (by omega) (by omega)).mono ?_
  rintro e w6 ⟨v6, rfl, o6, b6'⟩
  obtain ⟨A6, c6, rfl, _, _⟩ := o6.reads.lenN
  have b6 : Below W2.heap.size W2 w6 := bstep (Below.drew1 _) b6'
  have hS6 := hSV.on b6
  go_wp2_with fail
  refine HK.out _ _ (fun _ => hS6) ?_
  clear HK
  have B6 := Lib.hid b6
  have O6 : Hid (Owns w6 (fun b => W2.heap.size ≤ b) (.slice A6 (nodePackK ts[i]).length c6) (setsD (nodePackK ts[i]))) := Lib.hid o6
  clear o6 b6 b6'
  try simp only [Act.put, List.setIfInBounds_toArray, List.set_cons_zero, List.set_cons_succ]
  refine but_run (i := 9) (by kernel_rfl) rfl (by rfl) ?_
  simp only [List.getElem_toArray, List.getElem_cons_succ, List.getElem_cons_zero]
  intro K_ HK
  go_wp2
  refine HK.out _ _ (fun _ => hS6) ?_
  clear HK
  have g1 : w6.cell? ⟨g, i, none⟩ = some x := ((bcell B6.out).1 g i hgl).trans HG.out.1
  have g2 : ∀ o, w6.frozen? ⟨g, o, none⟩ = false := fun o => ((bcell B6.out).2 g o hgl).trans (HG.out.2 o)
  refine but_run (i := 10) (by kernel_rfl) rfl (by rfl) ?_
  simp only [List.getElem_toArray, List.getElem_cons_succ, List.getElem_cons_zero]
  intro K_ HK
  go_wp2
  refine HK.out _ _ (fun h => (h rfl).elim) ?_
  clear HK
  refine but_done (by kernel_rfl) ?_
  have hz6 := B6.out.size
  have ON2 := Lib.hid (Owns.setNode (i := i) ON.out B6.out O6.out)
  have OL2 := Lib.hid ((OL.out.on B6.out).keep (w' := w6.setCell ⟨g, i, none⟩ (.slice A6 (nodePackK ts[i]).length c6)) (fun b hb _ => Below.heap_setCell _ _ _ _ (fun e => hPR b hb (by have e' : b = g := e; rw [e']; exact hRg))))
  have P0 := Lib.hid (box_far (j := i) (u := .slice A6 (nodePackK ts[i]).length c6) (box_on Q1.out B6.out) (show w.heap.size + 1 ≠ g by omega))
  have P5 := Lib.hid (box_far (j := i) (u := .slice A6 (nodePackK ts[i]).length c6) (box_on Q5.out B6.out) (show w1.heap.size ≠ g by omega))
  have BB := Lib.hid ((bstep HB.out B6.out).setCell (p := ⟨g, i, none⟩) (show w.heap.size ≤ g by omega) (.slice A6 (nodePackK ts[i]).length c6))
  have hz7 : (w6.setCell ⟨g, i, none⟩ (.slice A6 (nodePackK ts[i]).length c6)).heap.size = w6.heap.size := by simp
  clear HG g1 g2 ON OL O6 hS6 hSW hSV x0 x1 x2 y0 y1 y2 e1 Q0 Q1 Q5 HV
  generalize w6.setCell ⟨g, i, none⟩ (.slice A6 (nodePackK ts[i]).length c6) = W7 at *
  obtain ⟨x0, x1, x2⟩ := box2 P0.out
  obtain ⟨y0, y1, y2⟩ := box2 P5.out
  have n3 : ¬ w1.heap.size = w.heap.size + 1 := by omega
  go_wp2
  have HO : ∀ a b, Only (fun b => b = w.heap.size + 1) W7 ((W7.setCell ⟨w.heap.size + 1, 0, none⟩ a).setCell ⟨w.heap.size + 1, 1, none⟩ b) := fun a b => only_two _ _ _ _ _ _
  refine bodyPost_ret (v := .agg #[.slice A1 lo.length c1, .slice (some ⟨g, 0, none⟩) ts.length d1]) (by simp [results, Tryz.results25, go_sem, x0, x1, x2]) rfl ⟨_, _, rfl, ⟨P, fun b => R b ∨ W2.heap.size ≤ b, fun b hb => by have := hP b hb; omega, fun b hb => by rcases hb with hb | hb; (have := hR b hb; omega); omega, fun b hb hb' => by rcases hb' with hb' | hb'; (exact hPR b hb hb'); (have := hP b hb; omega), OL2.out.far (HO _ _) (fun b hb _ hb' => by have := hP b hb; omega), ?_⟩, BB.out.trans ((HO _ _).below BB.out.size (fun b hb => by omega))⟩
  rw [HRT.out]
  exact ON2.out.far (HO _ _) (fun b hb _ hb' => by rcases hb with hb | hb; (have := hR b hb; omega); omega)
 ·have hrt := HOUT.out hin
  have d2' : (decide ((0 : Int) ≤ p) && decide (p ≤ (ts.length : Int) - 1)) = false := by
   rcases Int.lt_or_le p 0 with h | h
   ·rw [decide_eq_false (by omega)]; rfl
   ·rw [decide_eq_false (show ¬ p ≤ (ts.length : Int) - 1 by omega), Bool.and_false]
  rw [d2']
  have HRT := Lib.hid hrt
  clear hin hrt d2' x0 x1 x2
  obtain ⟨x0, x1, x2⟩ := box2 Q1.out
  obtain ⟨y0, y1, y2⟩ := box2 Q5.out
  have n3 : ¬ w1.heap.size = w.heap.size + 1 := by omega
  go_wp2
  have HO : ∀ a b, Only (fun b => b = w.heap.size + 1) W2 ((W2.setCell ⟨w.heap.size + 1, 0, none⟩ a).setCell ⟨w.heap.size + 1, 1, none⟩ b) := fun a b => only_two _ _ _ _ _ _
  have h9 := (O1.out.keep (w' := (W2.setCell ⟨w.heap.size + 1, 0, none⟩ (.slice A1 lo.length c1)).setCell ⟨w.heap.size + 1, 1, none⟩ (.slice B1 ts.length d1)) (fun b hb hl => (HO _ _).block b hl (fun e => by omega))).mono (T := fun b => w.heap.size ≤ b) (fun b hb => by omega)
  exact bodyPost_ret (v := .agg #[.slice A1 lo.length c1, .slice B1 ts.length d1]) (by simp [results, Tryz.results25, go_sem, x0, x1, x2]) rfl ⟨_, _, rfl, by rw [HRT.out]; exact h9, HB.out.trans ((HO _ _).below HB.out.size (fun b hb => by omega))⟩
set_option maxHeartbeats 8000000 in
theorem implTreePack_any (vl vn : Value) (lo : List Int) (ts : List NodeD) (p : Int) (w : World) (hv : RdT w w.heap.size vl vn lo ts) (hs : SmallT lo ts) (hn : sumT ts ≤ 1048576) : Calls Tryz.prog 24 #[.agg #[vl, vn], .int .i64 p] w (NewTS w lo (treePackK ts p)) := by
 obtain ⟨A, c, B, d, rfl, rfl⟩ := hv.shape
 have HS := Lib.hid hs
 have s1 := hs.1
 have s2 := hs.2.1
 obtain ⟨q0, q1⟩ := al2 w (.cells #[.slice A lo.length c, .slice B ts.length d] 27) (.cells #[.slice none 0 0, .slice none 0 0] 27)
 have hb2 := bal2 w (.cells #[.slice A lo.length c, .slice B ts.length d] 27) (.cells #[.slice none 0 0, .slice none 0 0] 27)
 have hz2 : ((w.alloc (.cells #[.slice A lo.length c, .slice B ts.length d] 27)).alloc (.cells #[.slice none 0 0, .slice none 0 0] 27)).heap.size = w.heap.size + 2 := by simp
 have HV := Lib.hid (hv.on hb2)
 have HB := Lib.hid hb2
 have Q0 := Lib.hid q0
 have Q1 := Lib.hid q1
 have HZ2 := Lib.hid hz2
 have HIN : Hid (0 ≤ p ∧ p < (ts.length : Int) → treePackK ts p = ts.set p.toNat (nodePackK (ts.getD p.toNat []))) := Lib.hid (fun h => if_pos h)
 have HOUT : Hid (¬ (0 ≤ p ∧ p < (ts.length : Int)) → treePackK ts p = ts) := Lib.hid (fun h => if_neg h)
 generalize treePackK ts p = rt at *
 clear hv hs q0 q1 hb2 hz2
 go_enter Tryz.func24, Tryz.ntmps24
 go_upto_region 1 with (fail)
 generalize (w.alloc (.cells #[.slice A lo.length c, .slice B ts.length d] 27)).alloc (.cells #[.slice none 0 0, .slice none 0 0] 27) = W at *
 have hz2 := Nat.le_of_eq HZ2.out
 have hz3 := Nat.le_of_eq HZ2.out.symm
 obtain ⟨x0, x1, x2⟩ := box2 Q0.out
 go_wp2_with fail
 refine (copyTree_any _ _ lo ts _ HV.out HS.out).mono ?_
 rintro e w1 ⟨vl1, vn1, rfl, o1, b1⟩
 obtain ⟨A1, c1, B1, d1, rfl, rfl⟩ := o1.reads.shape
 clear x0 x1 x2
 have ba := bal1 w1 (.cells #[.slice A1 lo.length c1, .slice B1 ts.length d1] 27)
 have q5 := al1 w1 (.cells #[.slice A1 lo.length c1, .slice B1 ts.length d1] 27)
 have hzA : (w1.alloc (.cells #[.slice A1 lo.length c1, .slice B1 ts.length d1] 27)).heap.size = w1.heap.size + 1 := by simp
 have O1 := Lib.hid (o1.lt.on ba)
 replace HV := Lib.hid ((HV.out.on b1).on ba)
 replace HB := Lib.hid (bstep (bstep HB.out b1) ba)
 replace Q0 := Lib.hid (box_on (box_on Q0.out b1) ba)
 replace Q1 := Lib.hid (box_on (box_on Q1.out b1) ba)
 have Q5 := Lib.hid q5
 have hb1 := b1.size
 have HZA := Lib.hid hzA
 clear o1 b1 ba q5 hzA
 go_upto_region 2 with (fail)
 generalize w1.alloc (.cells #[.slice A1 lo.length c1, .slice B1 ts.length d1] 27) = W2 at *
 have hy1 := Nat.le_of_eq HZA.out
 have hy2 := Nat.le_of_eq HZA.out.symm
 obtain ⟨x0, x1, x2⟩ := box2 Q0.out
 go_wp2_with fail
 refine (hasNode_any _ _ lo ts p _ HV.out (by omega)).mono ?_
 rintro e W3 ⟨rfl, b3⟩
 replace HV := Lib.hid (HV.out.on b3)
 replace HB := Lib.hid (bstep HB.out b3)
 replace Q0 := Lib.hid (box_on Q0.out b3)
 replace Q1 := Lib.hid (box_on Q1.out b3)
 replace Q5 := Lib.hid (box_on Q5.out b3)
 replace O1 := Lib.hid (O1.out.on b3)
 have hy3 := b3.size
 clear b3 HZA
 obtain ⟨W2, rfl⟩ : ∃ W, W = W3 := ⟨_, rfl⟩
 by_cases hin : 0 ≤ p ∧ p < (ts.length : Int)
 ·have hrt := HIN.out hin
  obtain ⟨i, rfl⟩ := Int.eq_ofNat_of_zero_le hin.1
  have hlt : i < ts.length := by have := hin.2; omega
  have d1' : (decide ((0 : Int) ≤ (i : Int)) && decide ((i : Int) < (ts.length : Int))) = true := by simp; omega
  rw [d1']
  rw [show ((i : Int)).toNat = i from rfl, getD_node hlt] at hrt
  have HRT := Lib.hid hrt
  obtain ⟨P, R, hP, hR, hPR, ol, on⟩ := O1.out
  obtain ⟨g, x, hg0, hRg, hgl, gc, gf⟩ := on.nodeRow hlt
  subst hg0
  obtain ⟨b, off, hbe, hbb, hc⟩ := HV.out.2.node hlt
  subst hbe
  obtain ⟨A2, d2, e1, _, _, r1⟩ := hc i hlt
  have hsm := sumT_mem (List.getElem_mem hlt)
  have i1 : (i : Int) < (ts.length : Int) := by omega
  have i2 : (0 : Int) ≤ (i : Int) := by omega
  have hRg2 := hR g hRg
  have hn5 : ¬ g = w1.heap.size := by omega
  have R1 := Lib.hid r1
  have OL := Lib.hid ol
  have ON := Lib.hid on
  have HG := Lib.hid (And.intro gc gf)
  clear hc r1 ol on gc gf hrt d1' hin x0 x1 x2
  obtain ⟨x0, x1, x2⟩ := box2 Q0.out
  obtain ⟨y0, y1, y2⟩ := box2 Q5.out
  go_wp2
  have hSW : NC2 w.heap.size b (off + i) (.slice (some ⟨b, off, none⟩) ts.length d) (.slice A2 (ts[i]).length d2) w1.heap.size (.slice (some ⟨g, 0, none⟩) ts.length d1) W2.drew := ⟨x1, e1, y1⟩
  have hSV : NC2 w.heap.size b (off + i) (.slice (some ⟨b, off, none⟩) ts.length d) (.slice A2 (ts[i]).length d2) w1.heap.size (.slice (some ⟨g, 0, none⟩) ts.length d1) W2 := ⟨x1, e1, y1⟩
  refine but_begin (f := 10) (S := NC2 w.heap.size b (off + i) (.slice (some ⟨b, off, none⟩) ts.length d) (.slice A2 (ts[i]).length d2) w1.heap.size (.slice (some ⟨g, 0, none⟩) ts.length d1)) (by kernel_rfl) ?_
  refine but_take (f := 10) (i := 0) (v := ?v0) rfl (by kernel_rfl) (by kernel_rfl) (by kernel_rfl) (by kernel_rfl) (by kernel_rfl) (fun _ _ _ h => h) (Or.inl ⟨by rfl, ?hy0⟩) hSW ?rest0
  case hy0 =>
   intro W hW
   obtain ⟨h1, h2, h3⟩ := hW
   go_simp
   exact rfl
  simp only [List.getElem_toArray, List.getElem_cons_succ, List.getElem_cons_zero, Act.put, List.setIfInBounds_toArray, List.set_cons_zero, List.set_cons_succ]
  refine but_take (f := 10) (i := 1) (v := ?v1) rfl (by kernel_rfl) (by kernel_rfl) (by kernel_rfl) (by kernel_rfl) (by kernel_rfl) (fun _ _ _ h => h) (Or.inl ⟨by rfl, ?hy1⟩) hSW ?rest1
  case hy1 =>
   intro W hW
   obtain ⟨h1, h2, h3⟩ := hW
   go_simp
   exact rfl
  simp only [List.getElem_toArray, List.getElem_cons_succ, List.getElem_cons_zero, Act.put, List.setIfInBounds_toArray, List.set_cons_zero, List.set_cons_succ]
  refine but_take (f := 10) (i := 2) (v := ?v2) rfl (by kernel_rfl) (by kernel_rfl) (by kernel_rfl) (by kernel_rfl) (by kernel_rfl) (fun _ _ _ h => h) (Or.inl ⟨by rfl, ?hy2⟩) hSW ?rest2
  case hy2 =>
   intro W hW
   obtain ⟨h1, h2, h3⟩ := hW
   go_simp
   exact rfl
  simp only [List.getElem_toArray, List.getElem_cons_succ, List.getElem_cons_zero, Act.put, List.setIfInBounds_toArray, List.set_cons_zero, List.set_cons_succ]
  refine but_take (f := 10) (i := 3) (v := ?v3) rfl (by kernel_rfl) (by kernel_rfl) (by kernel_rfl) (by kernel_rfl) (by kernel_rfl) (fun _ _ _ h => h) (Or.inl ⟨by rfl, ?hy3⟩) hSW ?rest3
  case hy3 =>
   intro W hW
   obtain ⟨h1, h2, h3⟩ := hW
   go_simp
   exact rfl
  simp only [List.getElem_toArray, List.getElem_cons_succ, List.getElem_cons_zero, Act.put, List.setIfInBounds_toArray, List.set_cons_zero, List.set_cons_succ]
  refine but_take (f := 10) (i := 4) (v := ?v4) rfl (by kernel_rfl) (by kernel_rfl) (by kernel_rfl) (by kernel_rfl) (by kernel_rfl) (fun _ _ _ h => h) (Or.inl ⟨by rfl, ?hy4⟩) hSW ?rest4
  case hy4 =>
   intro W hW
   obtain ⟨h1, h2, h3⟩ := hW
   go_simp
   exact rfl
  simp only [List.getElem_toArray, List.getElem_cons_succ, List.getElem_cons_zero, Act.put, List.setIfInBounds_toArray, List.set_cons_zero, List.set_cons_succ]
  refine but_take (f := 10) (i := 5) (v := ?v5) rfl (by kernel_rfl) (by kernel_rfl) (by kernel_rfl) (by kernel_rfl) (by kernel_rfl) (fun _ _ _ h => h) (Or.inl ⟨by rfl, ?hy5⟩) hSW ?rest5
  case hy5 =>
   intro W hW
   obtain ⟨h1, h2, h3⟩ := hW
   go_simp
   exact rfl
  simp only [List.getElem_toArray, List.getElem_cons_succ, List.getElem_cons_zero, Act.put, List.setIfInBounds_toArray, List.set_cons_zero, List.set_cons_succ]
  refine but_take (f := 10) (i := 6) (v := ?v6) rfl (by kernel_rfl) (by kernel_rfl) (by kernel_rfl) (by kernel_rfl) (by kernel_rfl) (fun _ _ _ h => h) (Or.inl ⟨by rfl, ?hy6⟩) hSW ?rest6
  case hy6 =>
   intro W hW
   obtain ⟨h1, h2, h3⟩ := hW
   go_simp
   exact rfl
  simp only [List.getElem_toArray, List.getElem_cons_succ, List.getElem_cons_zero, Act.put, List.setIfInBounds_toArray, List.set_cons_zero, List.set_cons_succ]
  refine but_take (f := 10) (i := 7) (v := ?v7) rfl (by kernel_rfl) (by kernel_rfl) (by kernel_rfl) (by kernel_rfl) (by kernel_rfl) (fun _ _ _ h => h) (Or.inl ⟨by rfl, ?hy7⟩) hSW ?rest7
  case hy7 =>
   intro W hW
   obtain ⟨h1, h2, h3⟩ := hW
   go_simp
   exact rfl
  simp only [List.getElem_toArray, List.getElem_cons_succ, List.getElem_cons_zero, Act.put, List.setIfInBounds_toArray, List.set_cons_zero, List.set_cons_succ]
  refine but_run (i := 8) (by kernel_rfl) rfl (by rfl) ?_
  simp only [List.getElem_toArray, List.getElem_cons_succ, List.getElem_cons_zero]
  intro K_ HK
  go_wp2_with fail
  refine (implNodePack_any _ ts[i] _ (R1.out.on (Below.drew1 _)) (by omega) (by omega)).mono ?_
  rintro e w6 ⟨v6, rfl, o6, b6'⟩
  obtain ⟨A6, c6, rfl, _, _⟩ := o6.reads.lenN
  have b6 : Below W2.heap.size W2 w6 := bstep (Below.drew1 _) b6'
  have hS6 := hSV.on b6
  go_wp2_with fail
  refine HK.out _ _ (fun _ => hS6) ?_
  clear HK
  have B6 := Lib.hid b6
  have O6 : Hid (Owns w6 (fun b => W2.heap.size ≤ b) (.slice A6 (nodePackK ts[i]).length c6) (setsD (nodePackK ts[i]))) := Lib.hid o6
  clear o6 b6 b6'
  try simp only [Act.put, List.setIfInBounds_toArray, List.set_cons_zero, List.set_cons_succ]
  refine but_run (i := 9) (by kernel_rfl) rfl (by rfl) ?_
  simp only [List.getElem_toArray, List.getElem_cons_succ, List.getElem_cons_zero]
  intro K_ HK
  go_wp2
  refine HK.out _ _ (fun _ => hS6) ?_
  clear HK
  have g1 : w6.cell? ⟨g, i, none⟩ = some x := ((bcell B6.out).1 g i hgl).trans HG.out.1
  have g2 : ∀ o, w6.frozen? ⟨g, o, none⟩ = false := fun o => ((bcell B6.out).2 g o hgl).trans (HG.out.2 o)
  refine but_run (i := 10) (by kernel_rfl) rfl (by rfl) ?_
  simp only [List.getElem_toArray, List.getElem_cons_succ, List.getElem_cons_zero]
  intro K_ HK
  go_wp2
  refine HK.out _ _ (fun h => (h rfl).elim) ?_
  clear HK
  refine but_done (by kernel_rfl) ?_
  have hz6 := B6.out.size
  have ON2 := Lib.hid (Owns.setNode (i := i) ON.out B6.out O6.out)
  have OL2 := Lib.hid ((OL.out.on B6.out).keep (w' := w6.setCell ⟨g, i, none⟩ (.slice A6 (nodePackK ts[i]).length c6)) (fun b hb _ => Below.heap_setCell _ _ _ _ (fun e => hPR b hb (by have e' : b = g := e; rw [e']; exact hRg))))
  have P0 := Lib.hid (box_far (j := i) (u := .slice A6 (nodePackK ts[i]).length c6) (box_on Q1.out B6.out) (show w.heap.size + 1 ≠ g by omega))
  have P5 := Lib.hid (box_far (j := i) (u := .slice A6 (nodePackK ts[i]).length c6) (box_on Q5.out B6.out) (show w1.heap.size ≠ g by omega))
  have BB := Lib.hid ((bstep HB.out B6.out).setCell (p := ⟨g, i, none⟩) (show w.heap.size ≤ g by omega) (.slice A6 (nodePackK ts[i]).length c6))
  have hz7 : (w6.setCell ⟨g, i, none⟩ (.slice A6 (nodePackK ts[i]).length c6)).heap.size = w6.heap.size := by simp
  clear HG g1 g2 ON OL O6 hS6 hSW hSV x0 x1 x2 y0 y1 y2 e1 Q0 Q1 Q5 HV
  generalize w6.setCell ⟨g, i, none⟩ (.slice A6 (nodePackK ts[i]).length c6) = W7 at *
  obtain ⟨x0, x1, x2⟩ := box2 P0.out
  obtain ⟨y0, y1, y2⟩ := box2 P5.out
  have n3 : ¬ w1.heap.size = w.heap.size + 1 := by omega
  go_wp2
  have HO : ∀ a b, Only (fun b => b = w.heap.size + 1) W7 ((W7.setCell ⟨w.heap.size + 1, 0, none⟩ a).setCell ⟨w.heap.size + 1, 1, none⟩ b) := fun a b => only_two _ _ _ _ _ _
  refine bodyPost_ret (v := .agg #[.slice A1 lo.length c1, .slice (some ⟨g, 0, none⟩) ts.length d1]) (by simp [results, Tryz.results24, go_sem, x0, x1, x2]) rfl ⟨_, _, rfl, ⟨P, fun b => R b ∨ W2.heap.size ≤ b, fun b hb => by have := hP b hb; omega, fun b hb => by rcases hb with hb | hb; (have := hR b hb; omega); omega, fun b hb hb' => by rcases hb' with hb' | hb'; (exact hPR b hb hb'); (have := hP b hb; omega), OL2.out.far (HO _ _) (fun b hb _ hb' => by have := hP b hb; omega), ?_⟩, BB.out.trans ((HO _ _).below BB.out.size (fun b hb => by omega))⟩
  rw [HRT.out]
  exact ON2.out.far (HO _ _) (fun b hb _ hb' => by rcases hb with hb | hb; (have := hR b hb; omega); omega)
 ·have hrt := HOUT.out hin
  have d2' : (decide ((0 : Int) ≤ p) && decide (p < (ts.length : Int))) = false := by
   rcases Int.lt_or_le p 0 with h | h
   ·rw [decide_eq_false (by omega)]; rfl
   ·rw [decide_eq_false (show ¬ p < (ts.length : Int) by omega), Bool.and_false]
  rw [d2']
  have HRT := Lib.hid hrt
  clear hin hrt d2' x0 x1 x2
  obtain ⟨x0, x1, x2⟩ := box2 Q1.out
  obtain ⟨y0, y1, y2⟩ := box2 Q5.out
  have n3 : ¬ w1.heap.size = w.heap.size + 1 := by omega
  go_wp2
  have HO : ∀ a b, Only (fun b => b = w.heap.size + 1) W2 ((W2.setCell ⟨w.heap.size + 1, 0, none⟩ a).setCell ⟨w.heap.size + 1, 1, none⟩ b) := fun a b => only_two _ _ _ _ _ _
  have h9 := (O1.out.keep (w' := (W2.setCell ⟨w.heap.size + 1, 0, none⟩ (.slice A1 lo.length c1)).setCell ⟨w.heap.size + 1, 1, none⟩ (.slice B1 ts.length d1)) (fun b hb hl => (HO _ _).block b hl (fun e => by omega))).mono (T := fun b => w.heap.size ≤ b) (fun b hb => by omega)
  exact bodyPost_ret (v := .agg #[.slice A1 lo.length c1, .slice B1 ts.length d1]) (by simp [results, Tryz.results24, go_sem, x0, x1, x2]) rfl ⟨_, _, rfl, by rw [HRT.out]; exact h9, HB.out.trans ((HO _ _).below HB.out.size (fun b hb => by omega))⟩
end Go.Proofs.YthopkhpiikiknaaGreat
namespace Go.Proofs.YthopkhpiikiknaaGreat
open Go.RowKit
set_option maxRecDepth 100000
set_option linter.unusedSimpArgs false
set_option linter.unusedVariables false

def setL {α : Type} (l : List α) (i : Nat) (m : List α) (j : Nat) : List α := l.take i ++ m ++ l.drop j
theorem setL_len {α : Type} (l : List α) (i : Nat) (m : List α) (j : Nat) (h : i ≤ j) (hj : j ≤ l.length) : (setL l i m j).length = l.length + m.length - (j - i) := by
 unfold setL
 simp
 omega
def fewB (a b : NodeD) : Bool := decide ((nodeKeysK a).length + (nodeKeysK b).length ≤ 6)
def pairGo : List NodeD → Nat → Int
 |a :: b :: r, k => if fewB a b then (k : Int) else pairGo (b :: r) (k + 1)
 |[_], _ => -1
 |[], _ => -1
def pairK (ts : List NodeD) : Int := pairGo ts 0
/-- The first pair is at i: none ahead of it, and it is one. -/
theorem pairGo_spec (ts : List NodeD) : ∀ k : Nat, (pairGo ts k = -1 ∧ ∀ j (h : j + 1 < ts.length), fewB ts[j] ts[j + 1] = false) ∨ ∃ i : Nat, pairGo ts k = ((k + i : Nat) : Int) ∧ ∃ h : i + 1 < ts.length, fewB ts[i] ts[i + 1] = true ∧ ∀ j (hj : j < i), fewB ts[j] ts[j + 1] = false := by
 induction ts with
 |nil => intro k; exact .inl ⟨rfl, fun j h => by simp at h⟩
 |cons a ts ih =>
  cases ts with
  |nil => intro k; exact .inl ⟨rfl, fun j h => by simp at h⟩
  |cons b r =>
   intro k
   cases hf : fewB a b with
   |true =>
    refine .inr ⟨0, by simp [pairGo, hf], by simp, ?_, fun j hj => by omega⟩
    exact hf
   |false =>
    have he : pairGo (a :: b :: r) k = pairGo (b :: r) (k + 1) := by simp [pairGo, hf]
    rw [he]
    rcases ih (k + 1) with ⟨h1, h2⟩ | ⟨i, h1, h2, h3, h4⟩
    ·refine .inl ⟨h1, fun j h => ?_⟩
     cases j with
     |zero => exact hf
     |succ j => exact h2 j (by simpa using h)
    ·refine .inr ⟨i + 1, by rw [h1]; congr 1; omega, by simpa using h2, h3, fun j hj => ?_⟩
     cases j with
     |zero => exact hf
     |succ j => exact h4 j (by omega)
theorem pair_spec (ts : List NodeD) : (pairK ts = -1 ∧ ∀ j (h : j + 1 < ts.length), fewB ts[j] ts[j + 1] = false) ∨ ∃ i : Nat, pairK ts = (i : Int) ∧ ∃ h : i + 1 < ts.length, fewB ts[i] ts[i + 1] = true ∧ ∀ j (hj : j < i), fewB ts[j] ts[j + 1] = false := by
 rcases pairGo_spec ts 0 with h | ⟨i, h1, h2⟩
 ·exact .inl h
 ·exact .inr ⟨i, by rw [pairK, h1, Nat.zero_add], h2⟩
theorem pair_hit {ts : List NodeD} {k : Nat} (hk : k + 1 < ts.length) (h1 : fewB ts[k] ts[k + 1] = true) (h2 : ∀ j (hj : j < k), fewB ts[j] ts[j + 1] = false) : pairK ts = (k : Int) := by
 rcases pair_spec ts with ⟨_, h⟩ | ⟨i, h3, h4, h5, h6⟩
 ·rw [h k hk] at h1; cases h1
 ·rw [h3]
  rcases Nat.lt_trichotomy i k with h | h | h
  ·rw [h2 i h] at h5; cases h5
  ·rw [h]
  ·rw [h6 k h] at h1; cases h1
theorem pair_miss {ts : List NodeD} (h : ∀ j (hj : j + 1 < ts.length), fewB ts[j] ts[j + 1] = false) : pairK ts = -1 := by
 rcases pair_spec ts with ⟨h1, _⟩ | ⟨i, _, h4, h5, _⟩
 ·exact h1
 ·rw [h i h4] at h5; cases h5
abbrev TreeD := List Int × List NodeD
def joinAt (t : TreeD) (i : Nat) : TreeD := (t.1.take (i + 1) ++ t.1.drop (i + 2), setL t.2 i [nodeNewK (nodeKeysK (t.2.getD i []) ++ nodeKeysK (t.2.getD (i + 1) []))] (i + 2))
def joinGo : Nat → TreeD → TreeD
 |0, t => t
 |n + 1, t => if 0 ≤ pairK t.2 then joinGo n (joinAt t (pairK t.2).toNat) else t
def joinK (t : TreeD) : TreeD := joinGo t.2.length t
theorem joinAt_len (t : TreeD) (i : Nat) (h : i + 1 < t.2.length) : (joinAt t i).2.length + 1 = t.2.length := by
 unfold joinAt
 rw [setL_len _ _ _ _ (by omega) (by omega)]
 simp
 omega
theorem pair_lt {ts : List NodeD} (h : 0 ≤ pairK ts) : (pairK ts).toNat + 1 < ts.length := by
 rcases pair_spec ts with ⟨h1, _⟩ | ⟨i, h1, h2, _⟩
 ·omega
 ·rw [h1]; simpa using h2
theorem join_step {t : TreeD} {i : Nat} (h : pairK t.2 = (i : Int)) : joinK t = joinK (joinAt t i) := by
 have hp : 0 ≤ pairK t.2 := by rw [h]; omega
 have hlt := pair_lt hp
 rw [h, show ((i : Int)).toNat = i from rfl] at hlt
 have hl := joinAt_len t i hlt
 unfold joinK
 rw [← hl]
 simp only [joinGo]
 rw [if_pos hp, h, show ((i : Int)).toNat = i from rfl]
theorem join_done {t : TreeD} (h : pairK t.2 = -1) : joinK t = t := by
 unfold joinK
 cases hn : t.2.length with
 |zero => rfl
 |succ n =>
  simp only [joinGo]
  rw [if_neg (by rw [h]; decide)]
def halfK (l : List KeyD) : Nat := (l.length + 1) / 2
/-- What TreePut has ahead of the joining. -/
def midK (lo : List Int) (ts : List NodeD) (x : KeyD) : TreeD :=
 let i := (whereK lo (spotI x.a x.b)).toNat
 let n := ts.getD i []
 let l := rebK n x
 if putNB n x = false then (setL lo i [lo.getD i 0, spotI (l.getD (halfK l) zK).a (l.getD (halfK l) zK).b] (i + 1), setL ts i [nodeNewK (l.take (halfK l)), nodeNewK (l.drop (halfK l))] (i + 1))
 else if 0 < i ∧ (nodeKeysK (putN n x)).length = 0 then (setL lo i [] (i + 1), setL ts i [] (i + 1))
 else (setL lo i [lo.getD i 0] (i + 1), setL ts i [putN n x] (i + 1))
def endK (lo : List Int) (ts : List NodeD) (x : KeyD) : TreeD := joinK (midK lo ts x)
def treePutB (lo : List Int) (ts : List NodeD) (x : KeyD) : Bool := treeOkB lo ts && okK x && treeOkB (endK lo ts x).1 (endK lo ts x).2
def treePutK (lo : List Int) (ts : List NodeD) (x : KeyD) : TreeD := if treePutB lo ts x then endK lo ts x else (lo, ts)
/-- Owned cells, parted. -/
theorem OwnsL.split {w : World} {S : Nat → Prop} {vs : List Value} {cs : List Dat} (h : OwnsL w S vs cs) (i : Nat) : ∃ S1 S2 : Nat → Prop, OwnsL w S1 (vs.take i) (cs.take i) ∧ OwnsL w S2 (vs.drop i) (cs.drop i) ∧ (∀ b, S1 b → S b) ∧ (∀ b, S2 b → S b) ∧ ∀ b, S1 b → ¬ S2 b := by
 obtain ⟨hl, F, ho, hF, hd⟩ := h
 refine ⟨fun b => ∃ k, k < i ∧ F k b, fun b => ∃ k, i ≤ k ∧ F k b, ⟨by simp [hl], fun k b => k < i ∧ F k b, fun k a b => ?_, fun k b h => ⟨k, h⟩, fun k j b hkj h1 h2 => hd k j b hkj h1.2 h2.2⟩, ⟨by simp [hl], fun k b => F (i + k) b, fun k a b => ?_, fun k b h => ⟨i + k, by omega, h⟩, fun k j b hkj h1 h2 => hd _ _ b (by omega) h1 h2⟩, fun b ⟨k, _, h⟩ => hF k b h, fun b ⟨k, _, h⟩ => hF k b h, fun b ⟨k, h1, h2⟩ ⟨j, h3, h4⟩ => hd k j b (by omega) h2 h4⟩
 ·simp only [List.length_take] at a b
  rw [List.getElem_take, List.getElem_take]
  exact (ho k (by omega) (by omega)).mono (fun b hb => ⟨by omega, hb⟩)
 ·simp only [List.length_drop] at a b
  rw [List.getElem_drop, List.getElem_drop]
  exact ho (i + k) (by omega) (by omega)
/-- Some cells taken out, others laid in their place. -/
theorem OwnsL.swap {w : World} {S T U : Nat → Prop} {vs us : List Value} {cs ds : List Dat} (h : OwnsL w S vs cs) (k : OwnsL w T us ds) (i j : Nat) (hij : i ≤ j) (hS : ∀ b, S b → U b) (hT : ∀ b, T b → U b) (hd : ∀ b, S b → ¬ T b) : OwnsL w U (vs.take i ++ us ++ vs.drop j) (cs.take i ++ ds ++ cs.drop j) := by
 obtain ⟨S1, S2, h1, h2, hs1, hs2, hdd⟩ := h.split i
 obtain ⟨S3, S4, h3, h4, hs3, hs4, _⟩ := h2.split (j - i)
 rw [List.drop_drop, List.drop_drop, show i + (j - i) = j by omega] at h4
 have a1 := h1.append k (U := fun b => S1 b ∨ T b) (fun b hb => .inl hb) (fun b hb => .inr hb) (fun b hb hb' => hd b (hs1 b hb) hb')
 exact a1.append h4 (fun b hb => hb.elim (fun h => hS b (hs1 b h)) (fun h => hT b h)) (fun b hb => hS b (hs2 b (hs4 b hb))) (fun b hb hb' => hb.elim (fun h => hdd b h (hs4 b hb')) (fun h => hd b (hs2 b (hs4 b hb')) h))
/-- The tail of a row, as slicing spells its address. -/
def tailA (A : Option Addr) (c j : Nat) : Option Addr := if c = j then A else A.map (fun a => a.add j)
theorem At.takeV {w : World} {A : Option Addr} {xs : List Value} (h : At w A xs) (i : Nat) : At w A (xs.take i) := by
 rcases h with rfl | ⟨b, off, rfl, hc⟩
 ·exact .inl (by simp)
 ·refine .inr ⟨b, off, rfl, fun k hk => ?_⟩
  simp only [List.length_take] at hk
  rw [hc k (by omega), List.getElem_take]
theorem At.tailV {w : World} {A : Option Addr} {xs : List Value} (h : At w A xs) {c j : Nat} (hc : xs.length ≤ c) : At w (tailA A c j) (xs.drop j) := by
 unfold tailA
 split
 ·exact .inl (List.drop_eq_nil_of_le (by omega))
 ·rcases h with rfl | ⟨b, off, rfl, hcell⟩
  ·exact .inl (by simp)
  ·refine .inr ⟨b, off + j, by rw [Option.map_some, Addr.add_lit], fun k hk => ?_⟩
   simp only [List.length_drop] at hk
   rw [List.getElem_drop, ← hcell (j + k) (by omega), Nat.add_assoc]
theorem run_tailI {w : World} (A : Option Addr) (n c j : Nat) (h1 : j ≤ n) (h2 : n ≤ c) : (Instr.slice 24 (.slice A n c) (some (.int .i64 (j : Int))) none none).run Tryz.prog w = .ok (.slice (tailA A c j) (n - j) (c - j)) w := by
 obtain ⟨i, hi, h0, h3, h4⟩ := info_parts int_info
 have e1 : (0 : Int) ≤ (j : Int) := by omega
 have e2 : (j : Int) ≤ (n : Int) := by omega
 simp [Instr.slice, Instr.sliceBounds, Instr.sliceBound, run_underlying Tryz.underlying24, sizeOf, typeInfo, hi, h3, tailA, e2, go_sem]
 intro h; omega
theorem run_tailN {w : World} (A : Option Addr) (n c j : Nat) (h1 : j ≤ n) (h2 : n ≤ c) : (Instr.slice 25 (.slice A n c) (some (.int .i64 (j : Int))) none none).run Tryz.prog w = .ok (.slice (tailA A c j) (n - j) (c - j)) w := by
 obtain ⟨i, hi, h0, h3, h4⟩ := info_parts node_info
 have e1 : (0 : Int) ≤ (j : Int) := by omega
 have e2 : (j : Int) ≤ (n : Int) := by omega
 simp [Instr.slice, Instr.sliceBounds, Instr.sliceBound, run_underlying Tryz.underlying25, sizeOf, typeInfo, hi, h3, tailA, e2, go_sem]
 intro h; omega
end Go.Proofs.YthopkhpiikiknaaGreat
namespace Go.Proofs.YthopkhpiikiknaaGreat
open Go.RowKit
set_option maxRecDepth 100000
set_option linter.unusedSimpArgs false
set_option linter.unusedVariables false

theorem At.adds {w : World} {ad : Addr} {news : List Value} (hA : At w (some ad) news) : ∀ j u, news[j]? = some u → w.cell? (ad.add j) = some u := by
 intro j u hu
 have hj := (List.getElem?_eq_some_iff.1 hu).1
 rcases hA with h | ⟨b, off, he, hc⟩
 ·subst h; simp at hj
 ·injection he with he
  subst he
  rw [Addr.add_lit, hc j hj]
  exact congrArg some (List.getElem?_eq_some_iff.1 hu).2
/-- A full row: its capacity is its length. -/
theorem operFull {P : Program} {o : Oper} {a : Act} {Kn : Act → World → Prop} {Q : Exit → Act → World → Prop} (w : World) (hgd : o.guard = none) (s x : Operand) (t e z by_ : Nat) (zero : Value)
  (hop : o.op = .call { callee := .builtin .append, args := #[s, x], argTypes := #[t, t] }) (ht : P.underlying t = some (.slice e)) (hinfo : (P.info? e).map (fun i => (i.zero, i.size, i.bytes)) = some (some zero, z, by_)) (hzc : zero.cells.size = z) (hz : 0 < z) (hby : by_ ≤ 1024)
  (ao : Addr) (n : Nat) (xs : List Value) (hs : a.eval s = .slice (some ao) n n) (hlo : xs.length = n * z) (hxs : At w (some ao) xs) (ad : Addr) (m c : Nat) (news : List Value) (hx : a.eval x = .slice (some ad) m c) (hm : 0 < m) (hl : news.length = m * z) (hA : At w (some ad) news) (hlen : n + m ≤ 1073741824)
  (h : ∀ v' w', w'.ownsRow w.heap.size e z v' (n + m) (xs ++ news) → w.grownBy w' none → Kn (a.put o.dst v') w') : Oper.wp P o a w Kn Q := by
 obtain ⟨i, hi, h0, hsz, hb⟩ := info_parts hinfo
 have hbytes : (n + m) * by_ ≤ 140737488355328 := Nat.le_trans (Nat.mul_le_mul hlen hby) (by decide)
 have h63 : n + m ≤ maxLen := by unfold maxLen; omega
 obtain ⟨v', w', hrun, h2, h3⟩ := run_append_arg_grows (P := P) w t o.type e i zero z by_ ht hi h0 hsz hb hzc hz ao n n xs hlo hxs.adds ad m c news hl hA.adds (by omega) h63 hbytes
 unfold Oper.wp execOp
 simp only [hop, resolve, invoke, builtin, Sem.run_bind, Sem.run_pure, Result.andThen_ok, List.map_toArray, List.map_cons, List.map_nil, hs, hx, hrun]
 exact h v' w' h2 h3
/-- Nothing appended: the row stays. -/
theorem operNone {P : Program} {o : Oper} {a : Act} {Kn : Act → World → Prop} {Q : Exit → Act → World → Prop} (w : World) (hgd : o.guard = none) (s x : Operand) (t e z by_ : Nat) (zero : Value)
  (hop : o.op = .call { callee := .builtin .append, args := #[s, x], argTypes := #[t, t] }) (ht : P.underlying t = some (.slice e)) (hinfo : (P.info? e).map (fun i => (i.zero, i.size, i.bytes)) = some (some zero, z, by_))
  (ao : Addr) (n cap : Nat) (hs : a.eval s = .slice (some ao) n cap) (hn : n ≤ cap) (A : Option Addr) (c : Nat) (hx : a.eval x = .slice A 0 c)
  (h : Kn (a.put o.dst (.slice (some ao) n cap)) w) : Oper.wp P o a w Kn Q := by
 obtain ⟨i, hi, h0, hsz, hb⟩ := info_parts hinfo
 have hrun : (Builtin.append_ #[t, t] o.type #[.slice (some ao) n cap, .slice A 0 c]).run P w = .ok (.slice (some ao) n cap) w := by
  cases A with
  |none => simp [Builtin.append_, run_underlying ht, sizeOf, typeInfo, hi, Builtin.lenOf, Builtin.firstCells, hn, storeCells]
  |some ad => simp [Builtin.append_, run_underlying ht, sizeOf, typeInfo, hi, Builtin.lenOf, Builtin.firstCells, hn, storeCells, loadCells, loadCellsFrom]
 unfold Oper.wp execOp
 simp only [hop, resolve, invoke, builtin, Sem.run_bind, Sem.run_pure, Result.andThen_ok, List.map_toArray, List.map_cons, List.map_nil, hs, hx, hrun]
 exact h
end Go.Proofs.YthopkhpiikiknaaGreat
namespace Go.Proofs.YthopkhpiikiknaaGreat
open Go.RowKit
set_option maxRecDepth 100000
set_option linter.unusedSimpArgs false
set_option linter.unusedVariables false

/-- A row cut at i: x[:i:i]. -/
theorem OwnC.cut {w : World} {S : Nat → Prop} {A : Option Addr} {c e z n : Nat} {cs : List Dat} (h : OwnC w S (.slice A n c) (.row e z n cs)) {i : Nat} (hi : i ≤ n) (hA : A ≠ none) : OwnC w S (.slice A i i) (.row e z i (cs.take (i * z))) := by
 rcases h with ⟨h, _⟩ | ⟨g, cap, cur, xs, h1, h2, h3, h4, h5, h6, h7, h8, h9⟩
 ·injection h with h
  exact absurd h hA
 ·injection h1 with h1 _ h1'
  subst h1 h1'
  have hz : i * z ≤ n * z := Nat.mul_le_mul_right z hi
  obtain ⟨S1, S2, a1, _, a3, _, _⟩ := h9.split (i * z)
  refine .inr ⟨g, i, cur, xs.take (i * z), rfl, h2, h3, Nat.le_refl _, by omega, by omega, ?_, ?_, a1.mono a3⟩
  ·rw [List.length_take, h7]
   omega
  ·rw [← h8, List.take_take, Nat.min_eq_left hz]
/-- A row of capacities of its own: its block, and the cells that it reads as. -/
theorem OwnC.rows {w : World} {S : Nat → Prop} {A : Option Addr} {c e z n : Nat} {cs : List Dat} (h : OwnC w S (.slice A n c) (.row e z n cs)) (hn : 0 < n) : ∃ (g : Nat) (xs : List Value), A = some ⟨g, 0, none⟩ ∧ S g ∧ At w (some ⟨g, 0, none⟩) xs ∧ xs.length = n * z ∧ OwnsL w (fun b => S b ∧ b ≠ g) xs cs ∧ n ≤ c ∧ c ≤ maxLen := by
 rcases h with ⟨_, h, _⟩ | ⟨g, cap, cur, xs, h1, h2, h3, h4, h5, h6, h7, h8, h9⟩
 ·omega
 ·injection h1 with h1 _ h1'
  subst h1 h1'
  have hl : xs.length = n * z := by rw [h9.1, h7]
  refine ⟨g, xs, rfl, h2, .inr ⟨g, 0, rfl, fun i hi => ?_⟩, hl, h9, h4, h5⟩
  have hi' : i < cur.size := by omega
  rw [Nat.zero_add, cell_of_row _ _ _ _ _ _ h3]
  subst h8
  rw [List.getElem_take, Array.getElem_toList]
  exact Array.getElem?_eq_getElem hi'
theorem At.drop {w : World} {b off : Nat} {xs : List Value} (h : At w (some ⟨b, off, none⟩) xs) (k : Nat) : At w (some ⟨b, off + k, none⟩) (xs.drop k) := by
 rcases h with h | ⟨b', off', h1, h2⟩
 ·exact .inl (by rw [h]; simp)
 ·injection h1 with h1
  injection h1 with h1 h1'
  subst h1 h1'
  refine .inr ⟨b, off + k, rfl, fun i hi => ?_⟩
  rw [List.length_drop] at hi
  rw [Nat.add_assoc, h2 (k + i) (by omega), List.getElem_drop]
end Go.Proofs.YthopkhpiikiknaaGreat
namespace Go.Proofs.YthopkhpiikiknaaGreat
open Go.RowKit
set_option maxRecDepth 100000
set_option linter.unusedSimpArgs false
set_option linter.unusedVariables false

/-- A row of one cell an element: the call's own, or the first n elements of block g, cut there. -/
def Half (w0 w : World) (g : Nat) (e : TypeId) (v : Value) (n : Nat) (xs : List Value) : Prop :=
 w.ownsRow w0.heap.size e 1 v n xs ∨ (v = .slice (some ⟨g, 0, none⟩) n n ∧ At w (some ⟨g, 0, none⟩) xs ∧ xs.length = n ∧ g < w0.heap.size)
theorem Half.len {w0 w : World} {g : Nat} {e : TypeId} {v : Value} {n : Nat} {xs : List Value} (h : Half w0 w g e v n xs) : xs.length = n := by
 rcases h with h | h
 ·simpa using h.1
 ·exact h.2.2.1
theorem At.keepB {w w' : World} {b off : Nat} {xs : List Value} (h : At w (some ⟨b, off, none⟩) xs) (hk : w'.heap[b]? = w.heap[b]?) : At w' (some ⟨b, off, none⟩) xs := by
 rcases h with h | ⟨b', off', h1, h2⟩
 ·exact .inl h
 ·injection h1 with h1
  injection h1 with h1 h1'
  subst h1 h1'
  exact .inr ⟨b, off, rfl, fun i hi => (World.cell?_of_block (a := ⟨b, off + i, none⟩) hk).trans (h2 i hi)⟩
theorem Half.keep {w0 w w' : World} {g : Nat} {e : TypeId} {v : Value} {n : Nat} {xs : List Value} (h : Half w0 w g e v n xs) (hk : ∀ b, v.ownBlock = some b → w'.heap[b]? = w.heap[b]?) : Half w0 w' g e v n xs := by
 rcases h with h | ⟨rfl, h2, h3, h4⟩
 ·exact .inl (row_keep h hk)
 ·exact .inr ⟨rfl, h2.keepB (hk g rfl), h3, h4⟩
theorem Half.lt {w0 w : World} {g : Nat} {e : TypeId} {v : Value} {n : Nat} {xs : List Value} (h : Half w0 w g e v n xs) (hz : w0.heap.size ≤ w.heap.size) : ∀ b, v.ownBlock = some b → b < w.heap.size := by
 rcases h with h | ⟨rfl, h2, h3, h4⟩
 ·exact fun b hb => (row_lt h b hb).1
 ·intro b hb
  simp [Value.ownBlock] at hb
  subst hb
  omega
theorem Half.form {w0 w : World} {g : Nat} {e : TypeId} {v : Value} {n : Nat} {xs : List Value} (h : Half w0 w g e v n xs) : ∃ A c, v = .slice A n c := by
 rcases h with h | ⟨rfl, _⟩
 ·rcases row_cases h with ⟨rfl, rfl, _⟩ | ⟨g, cap, rfl, _⟩
  ·exact ⟨none, 0, rfl⟩
  ·exact ⟨_, cap, rfl⟩
 ·exact ⟨_, n, rfl⟩
/-- An append onto such a row. -/
theorem operHalf {P : Program} {o : Oper} {a : Act} {Kn : Act → World → Prop} {Q : Exit → Act → World → Prop} (w0 w : World) (hgd : o.guard = none) (s x : Operand) (t e by_ : Nat) (zero : Value)
  (hop : o.op = .call { callee := .builtin .append, args := #[s, x], argTypes := #[t, t] }) (ht : P.underlying t = some (.slice e)) (hinfo : (P.info? e).map (fun i => (i.zero, i.size, i.bytes)) = some (some zero, 1, by_)) (hzc : zero.cells.size = 1) (hby : by_ ≤ 1024)
  (g n : Nat) (v : Value) (xs : List Value) (hs : a.eval s = v) (hh : Half w0 w g e v n xs) (A : Option Addr) (m c : Nat) (news : List Value) (hx : a.eval x = .slice A m c) (hl : news.length = m) (hA : At w A news) (h1 : ∀ u ∈ news, u.oneCell' = true) (hlen : n + m ≤ 1073741824) (hb : Below w0.heap.size w0 w)
  (h : ∀ v' w', Half w0 w' g e v' (n + m) (xs ++ news) → w.grownBy w' v.ownBlock → (∀ b, v'.ownBlock = some b → v.ownBlock = some b ∨ w.heap.size ≤ b) → Below w0.heap.size w0 w' → Kn (a.put o.dst v') w') : Oper.wp P o a w Kn Q := by
 rcases hh with hh | ⟨rfl, h2, h3, h4⟩
 ·refine operAppN w hgd s x t e 1 by_ zero hop ht hinfo hzc (by omega) hby w0.heap.size n v xs hs hh A m c news hx (by omega) hA h1 hlen hb.size ?_
  intro v' w' k1 k2 _ k4
  refine h v' w' (.inl k1) k2 (fun b hb' => ?_) (hb.grown k2 hb.size (fun k hk => (row_lt hh k hk).2))
  rcases k4 with k4 | k4
  ·exact .inl (k4 ▸ hb')
  ·rw [k4] at hb'
   injection hb' with hb'
   exact .inr (by omega)
 ·by_cases hm : m = 0
  ·subst hm
   have hn : news = [] := List.length_eq_zero_iff.1 hl
   subst hn
   refine operNone w hgd s x t e 1 by_ zero hop ht hinfo ⟨g, 0, none⟩ n n hs (Nat.le_refl _) A c hx ?_
   exact h _ w (.inr ⟨rfl, by simpa using h2, by simpa using h3, h4⟩) (World.grownBy.refl _ _) (fun b hb' => .inl hb') hb
  ·obtain ⟨ad, rfl⟩ : ∃ ad, A = some ad := by
    rcases hA with h | ⟨b, off, h, _⟩
    ·subst h
     simp at hl
     omega
    ·exact ⟨_, h⟩
   refine operFull w hgd s x t e 1 by_ zero hop ht hinfo hzc (by omega) hby ⟨g, 0, none⟩ n xs hs (by omega) h2 ad m c news hx (by omega) (by omega) hA hlen ?_
   intro v' w' k1 k2
   refine h v' w' (.inl ?_) ⟨k2.os, k2.tape, k2.output, k2.size, fun i hi _ => k2.block i hi (by simp)⟩ (fun b hb' => .inr (row_lt k1 b hb').2) (hb.grown k2 hb.size (fun k hk => by simp at hk))
   obtain ⟨k3, k4 | ⟨g', cap, cur, k5, k6, k7⟩⟩ := k1
   ·exact ⟨k3, .inl k4⟩
   ·exact ⟨k3, .inr ⟨g', cap, cur, k5, Nat.le_trans hb.size k6, k7⟩⟩
/-- The two rows, and blocks F that neither of them is. -/
structure Pair2 (w0 w : World) (F : Nat → Prop) (gl gn : Nat) (vl vn : Value) (nl nn : Nat) (xl xn : List Value) : Prop where
 hl : Half w0 w gl 3 vl nl xl
 hn : Half w0 w gn 62 vn nn xn
 d : ∀ b, vl.ownBlock = some b → vn.ownBlock ≠ some b
 fl : ∀ b, F b → vl.ownBlock ≠ some b ∧ vn.ownBlock ≠ some b ∧ b < w.heap.size
 below : Below w0.heap.size w0 w
theorem Pair2.on {w0 w w' : World} {F : Nat → Prop} {gl gn nl nn : Nat} {vl vn : Value} {xl xn : List Value} (h : Pair2 w0 w F gl gn vl vn nl nn xl xn) (hb : Below w.heap.size w w') : Pair2 w0 w' F gl gn vl vn nl nn xl xn :=
 ⟨h.hl.keep (fun b hb' => hb.block b (h.hl.lt h.below.size b hb')), h.hn.keep (fun b hb' => hb.block b (h.hn.lt h.below.size b hb')), h.d, fun b hF => ⟨(h.fl b hF).1, (h.fl b hF).2.1, Nat.lt_of_lt_of_le (h.fl b hF).2.2 hb.size⟩, bstep h.below hb⟩
theorem Pair2.mono {w0 w : World} {F G : Nat → Prop} {gl gn nl nn : Nat} {vl vn : Value} {xl xn : List Value} (h : Pair2 w0 w F gl gn vl vn nl nn xl xn) (hG : ∀ b, G b → F b) : Pair2 w0 w G gl gn vl vn nl nn xl xn := ⟨h.hl, h.hn, h.d, fun b hb => h.fl b (hG b hb), h.below⟩
/-- A new block beside the rows. -/
theorem Pair2.alloc {w0 w : World} {F : Nat → Prop} {gl gn nl nn : Nat} {vl vn : Value} {xl xn : List Value} (h : Pair2 w0 w F gl gn vl vn nl nn xl xn) (o : Obj) : Pair2 w0 (w.alloc o) (fun b => F b ∨ b = w.heap.size) gl gn vl vn nl nn xl xn := by
 have h2 := h.on (bal1 w o)
 refine ⟨h2.hl, h2.hn, h2.d, fun b hF => ?_, h2.below⟩
 rcases hF with hF | rfl
 ·exact h2.fl b hF
 ·refine ⟨fun e => ?_, fun e => ?_, by simp⟩
  ·have := h.hl.lt h.below.size _ e
   omega
  ·have := h.hn.lt h.below.size _ e
   omega
/-- An append onto the first row, onto the second. -/
theorem Pair2.low {w0 w w' : World} {F : Nat → Prop} {gl gn nl nn : Nat} {vl vn v' : Value} {xl xn : List Value} {n' : Nat} {xs' : List Value} (h : Pair2 w0 w F gl gn vl vn nl nn xl xn) (h1 : Half w0 w' gl 3 v' n' xs') (hg : w.grownBy w' vl.ownBlock) (hv : ∀ b, v'.ownBlock = some b → vl.ownBlock = some b ∨ w.heap.size ≤ b) (hb : Below w0.heap.size w0 w') :
  Pair2 w0 w' F gl gn v' vn n' nn xs' xn ∧ ∀ b, F b → w'.heap[b]? = w.heap[b]? := by
 refine ⟨⟨h1, h.hn.keep (fun b hb' => hg.block b (h.hn.lt h.below.size b hb') (fun e => h.d b e.symm hb')), fun b hb' he => ?_, fun b hF => ⟨fun he => ?_, (h.fl b hF).2.1, Nat.lt_of_lt_of_le (h.fl b hF).2.2 hg.size⟩, hb⟩, fun b hF => hg.block b (h.fl b hF).2.2 (fun e => (h.fl b hF).1 e.symm)⟩
 ·rcases hv b hb' with h2 | h2
  ·exact h.d b h2 he
  ·have := h.hn.lt h.below.size b he
   omega
 ·rcases hv b he with h2 | h2
  ·exact (h.fl b hF).1 h2
  ·have := (h.fl b hF).2.2
   omega
theorem Pair2.node {w0 w w' : World} {F : Nat → Prop} {gl gn nl nn : Nat} {vl vn v' : Value} {xl xn : List Value} {n' : Nat} {xs' : List Value} (h : Pair2 w0 w F gl gn vl vn nl nn xl xn) (h1 : Half w0 w' gn 62 v' n' xs') (hg : w.grownBy w' vn.ownBlock) (hv : ∀ b, v'.ownBlock = some b → vn.ownBlock = some b ∨ w.heap.size ≤ b) (hb : Below w0.heap.size w0 w') :
  Pair2 w0 w' F gl gn vl v' nl n' xl xs' ∧ ∀ b, F b → w'.heap[b]? = w.heap[b]? := by
 refine ⟨⟨h.hl.keep (fun b hb' => hg.block b (h.hl.lt h.below.size b hb') (fun e => h.d b hb' e.symm)), h1, fun b hb' he => ?_, fun b hF => ⟨(h.fl b hF).1, fun he => ?_, Nat.lt_of_lt_of_le (h.fl b hF).2.2 hg.size⟩, hb⟩, fun b hF => hg.block b (h.fl b hF).2.2 (fun e => (h.fl b hF).2.1 e.symm)⟩
 ·rcases hv b he with h2 | h2
  ·exact h.d b hb' h2
  ·have := h.hl.lt h.below.size b hb'
   omega
 ·rcases hv b he with h2 | h2
  ·exact (h.fl b hF).2.1 h2
  ·have := (h.fl b hF).2.2
   omega
/-- A store into a block beside the rows. -/
theorem Pair2.store {w0 w : World} {F : Nat → Prop} {gl gn nl nn : Nat} {vl vn : Value} {xl xn : List Value} (h : Pair2 w0 w F gl gn vl vn nl nn xl xn) {p o : Nat} (hF : F p) (hp : w0.heap.size ≤ p) (u : Value) : Pair2 w0 (w.setCell ⟨p, o, none⟩ u) F gl gn vl vn nl nn xl xn := by
 obtain ⟨h1, h2, h3⟩ := h.fl p hF
 exact ⟨h.hl.keep (fun b hb => Below.heap_setCell _ _ _ _ (by rintro rfl; exact h1 hb)), h.hn.keep (fun b hb => Below.heap_setCell _ _ _ _ (by rintro rfl; exact h2 hb)), h.d, fun b hb => ⟨(h.fl b hb).1, (h.fl b hb).2.1, by simpa [World.setCell] using (h.fl b hb).2.2⟩, h.below.setCell (p := ⟨p, o, none⟩) hp u⟩
theorem At.box1 {w : World} {b : Nat} {a : Value} {e : TypeId} (h : w.heap[b]? = some (.cells #[a] e (0, 0))) : At w (some ⟨b, 0, none⟩) [a] := by
 refine .inr ⟨b, 0, rfl, fun i hi => ?_⟩
 rw [cell_of_row _ _ _ _ _ _ h]
 match i, hi with
 |0, _ => rfl
/-- The cells of branches: a bound and a node each. -/
def brX (br : List (Int × Value)) : List Value := br.flatMap fun p => [.int .i64 p.1, p.2]
theorem brX_at {br : List (Int × Value)} {k : Nat} (h : k < br.length) : (brX br)[k * 2]? = some (.int .i64 (br[k]).1) ∧ (brX br)[k * 2 + 1]? = some (br[k]).2 := by
 induction br generalizing k with
 |nil => simp at h
 |cons p t ih =>
  have e : brX (p :: t) = .int .i64 p.1 :: p.2 :: brX t := rfl
  rw [e]
  cases k with
  |zero => exact ⟨rfl, rfl⟩
  |succ k =>
   obtain ⟨h1, h2⟩ := ih (k := k) (by simpa using h)
   rw [show (k + 1) * 2 = k * 2 + 1 + 1 by omega]
   exact ⟨by simpa using h1, by simpa using h2⟩
theorem At.br {w : World} {B : Option Addr} {br : List (Int × Value)} (h : At w B (brX br)) {k : Nat} (hk : k < br.length) : ∃ b off, B = some ⟨b, off, none⟩ ∧ b < w.heap.size ∧ w.cell? ⟨b, off + k * 2, none⟩ = some (.int .i64 (br[k]).1) ∧ w.cell? ⟨b, off + k * 2 + 1, none⟩ = some (br[k]).2 := by
 obtain ⟨h1, h2⟩ := brX_at hk
 rcases h with h | ⟨b, off, rfl, hc⟩
 ·rw [h] at h1
  simp at h1
 ·obtain ⟨l1, e1⟩ := List.getElem?_eq_some_iff.1 h1
  obtain ⟨l2, e2⟩ := List.getElem?_eq_some_iff.1 h2
  have c1 := hc _ l1
  have c2 := hc _ l2
  rw [e1] at c1
  rw [e2, ← Nat.add_assoc] at c2
  exact ⟨b, off, rfl, World.block_lt_of_cell? w _ c1, c1, c2⟩
end Go.Proofs.YthopkhpiikiknaaGreat
namespace Go.Proofs.YthopkhpiikiknaaGreat
open Go.RowKit
set_option maxRecDepth 100000
set_option linter.unusedSimpArgs false
set_option linter.unusedVariables false

set_option maxHeartbeats 16000000 in
theorem replaceNodes_cells (gl gn cl cn i j cb : Nat) (lo : List Int) (xs : List Value) (B : Option Addr) (br : List (Int × Value)) (w : World)
  (hal : At w (some ⟨gl, 0, none⟩) (lo.map iV)) (han : At w (some ⟨gn, 0, none⟩) xs) (hxl : xs.length = lo.length) (h1x : ∀ u ∈ xs, u.oneCell' = true) (hcl : lo.length ≤ cl) (hcn : lo.length ≤ cn) (hcl2 : cl ≤ maxLen) (hcn2 : cn ≤ maxLen) (hgl : gl < w.heap.size) (hgn : gn < w.heap.size) (hne : gl ≠ gn) (hij : i ≤ j) (hj : j ≤ lo.length) (hlo : lo.length ≤ 1000000)
  (hB : At w B (brX br)) (hbr : ∀ p ∈ br, ∃ A n c, p.2 = .slice A n c) (hbn : br.length ≤ 1000) :
  Calls Tryz.prog 77 #[.agg #[.slice (some ⟨gl, 0, none⟩) lo.length cl, .slice (some ⟨gn, 0, none⟩) lo.length cn], .int .i64 (i : Int), .int .i64 (j : Int), .slice B br.length cb] w fun e w' => ∃ vl vn, e = .returned (.agg #[vl, vn]) ∧
   Pair2 w w' (fun _ => False) gl gn vl vn (i + br.length + (lo.length - j)) (i + br.length + (lo.length - j)) (((lo.map iV).take i ++ br.map (fun p => .int .i64 p.1)) ++ (lo.map iV).drop j) ((xs.take i ++ br.map (·.2)) ++ xs.drop j) := by
 obtain ⟨q0, q1⟩ := al2 w (.cells #[.slice (some ⟨gl, 0, none⟩) lo.length cl, .slice (some ⟨gn, 0, none⟩) lo.length cn] 27) (.cells #[.slice none 0 0, .slice none 0 0] 27)
 have hb2 := bal2 w (.cells #[.slice (some ⟨gl, 0, none⟩) lo.length cl, .slice (some ⟨gn, 0, none⟩) lo.length cn] 27) (.cells #[.slice none 0 0, .slice none 0 0] 27)
 have hz2 : ((w.alloc (.cells #[.slice (some ⟨gl, 0, none⟩) lo.length cl, .slice (some ⟨gn, 0, none⟩) lo.length cn] 27)).alloc (.cells #[.slice none 0 0, .slice none 0 0] 27)).heap.size = w.heap.size + 2 := by simp
 have TLL := Lib.hid (At.tailV (c := cl) (j := j) hal (by simpa using hcl))
 have TLN := Lib.hid (At.tailV (c := cn) (j := j) han (by omega))
 have HO1 : Hid (∀ u ∈ (lo.map iV).drop j, u.oneCell' = true) := Lib.hid (fun u hu => one_iV lo u (List.mem_of_mem_drop hu))
 have HO2 : Hid (∀ u ∈ xs.drop j, u.oneCell' = true) := Lib.hid (fun u hu => h1x u (List.mem_of_mem_drop hu))
 have HPS : Hid (∀ W, Below w.heap.size w W → W.heap.size = w.heap.size + 2 → Pair2 w W (fun b => b = w.heap.size ∨ b = w.heap.size + 1) gl gn (.slice (some ⟨gl, 0, none⟩) i i) (.slice (some ⟨gn, 0, none⟩) i i) i i ((lo.map iV).take i) (xs.take i)) := Lib.hid (fun W hb hz => by
  refine ⟨.inr ⟨rfl, (hal.keepB (hb.block gl hgl)).takeV i, by simp; omega, hgl⟩, .inr ⟨rfl, (han.keepB (hb.block gn hgn)).takeV i, by simp; omega, hgn⟩, fun b h1 h2 => ?_, fun b hb' => ?_, hb⟩
  ·simp [Value.ownBlock] at h1 h2
   omega
  ·simp only [Value.ownBlock, Option.some.injEq, ne_eq]
   rcases hb' with rfl | rfl <;> exact ⟨by omega, by omega, by omega⟩)
 have HBR := Lib.hid hB
 have HBK := Lib.hid hbr
 have QT := Lib.hid q0
 have QR := Lib.hid q1
 have HB2 := Lib.hid hb2
 have HXL := Lib.hid hxl
 have HZ := Lib.hid hz2
 have i1 : (0 : Int) ≤ (i : Int) := by omega
 have i2 : (i : Int) ≤ (cl : Int) := by omega
 have i3 : (i : Int) ≤ (cn : Int) := by omega
 have i4 : (0 : Int) ≤ (j : Int) := by omega
 have i5 : (j : Int) ≤ (lo.length : Int) := by omega
 clear hal han h1x hB hbr q0 q1 hb2 hxl hz2
 go_enter Tryz.func77, Tryz.ntmps77
 go_wp2
 generalize (w.alloc (.cells #[.slice (some ⟨gl, 0, none⟩) lo.length cl, .slice (some ⟨gn, 0, none⟩) lo.length cn] 27)).alloc (.cells #[.slice none 0 0, .slice none 0 0] 27) = W at *
 have HP1 := Lib.hid (HPS.out W HB2.out HZ.out)
 clear HPS
 have hpr : w.heap.size ≤ w.heap.size + 1 := by omega
 refine but_begin (f := 11) (S := fun V => V.heap[w.heap.size]? = some (.cells #[.slice (some ⟨gl, 0, none⟩) lo.length cl, .slice (some ⟨gn, 0, none⟩) lo.length cn] 27 (0, 0))) (by kernel_rfl) ?_
 refine but_take (f := 11) (i := 0) (v := ?vz0) rfl (by kernel_rfl) (by kernel_rfl) (by kernel_rfl) (by kernel_rfl) (by kernel_rfl) (fun _ _ _ h => h) (Or.inl ⟨(by rfl), ?hyz0⟩) (box_on QT.out (Below.drew1 _)) ?restz0
 case hyz0 =>
  intro W hW
  go_simp
  exact rfl
 simp only [List.getElem_toArray, List.getElem_cons_succ, List.getElem_cons_zero, Act.put, List.setIfInBounds_toArray, List.set_cons_zero, List.set_cons_succ]
 refine but_take (f := 11) (i := 1) (v := ?vz1) rfl (by kernel_rfl) (by kernel_rfl) (by kernel_rfl) (by kernel_rfl) (by kernel_rfl) (fun _ _ _ h => h) (Or.inl ⟨(by rfl), ?hyz1⟩) (box_on QT.out (Below.drew1 _)) ?restz1
 case hyz1 =>
  intro W hW
  obtain ⟨y0, y1, y2⟩ := box2 hW
  go_simp
  exact rfl
 simp only [List.getElem_toArray, List.getElem_cons_succ, List.getElem_cons_zero, Act.put, List.setIfInBounds_toArray, List.set_cons_zero, List.set_cons_succ]
 refine but_take (f := 11) (i := 2) (v := ?vz2) rfl (by kernel_rfl) (by kernel_rfl) (by kernel_rfl) (by kernel_rfl) (by kernel_rfl) (fun _ _ _ h => h) (Or.inl ⟨(by rfl), ?hyz2⟩) (box_on QT.out (Below.drew1 _)) ?restz2
 case hyz2 =>
  intro W hW
  go_simp
  exact rfl
 simp only [List.getElem_toArray, List.getElem_cons_succ, List.getElem_cons_zero, Act.put, List.setIfInBounds_toArray, List.set_cons_zero, List.set_cons_succ]
 refine but_take (f := 11) (i := 3) (v := ?vz3) rfl (by kernel_rfl) (by kernel_rfl) (by kernel_rfl) (by kernel_rfl) (by kernel_rfl) (fun _ _ _ h => h) (Or.inl ⟨(by rfl), ?hyz3⟩) (box_on QT.out (Below.drew1 _)) ?restz3
 case hyz3 =>
  intro W hW
  go_simp
  exact rfl
 simp only [List.getElem_toArray, List.getElem_cons_succ, List.getElem_cons_zero, Act.put, List.setIfInBounds_toArray, List.set_cons_zero, List.set_cons_succ]
 refine but_take (f := 11) (i := 4) (v := ?vz4) rfl (by kernel_rfl) (by kernel_rfl) (by kernel_rfl) (by kernel_rfl) (by kernel_rfl) (fun _ _ _ h => h) (Or.inl ⟨(by rfl), ?hyz4⟩) (box_on QT.out (Below.drew1 _)) ?restz4
 case hyz4 =>
  intro W hW
  go_simp
  exact rfl
 simp only [List.getElem_toArray, List.getElem_cons_succ, List.getElem_cons_zero, Act.put, List.setIfInBounds_toArray, List.set_cons_zero, List.set_cons_succ]
 refine but_take (f := 11) (i := 5) (v := ?vz5) rfl (by kernel_rfl) (by kernel_rfl) (by kernel_rfl) (by kernel_rfl) (by kernel_rfl) (fun _ _ _ h => h) (Or.inl ⟨(by rfl), ?hyz5⟩) (box_on QT.out (Below.drew1 _)) ?restz5
 case hyz5 =>
  intro W hW
  go_simp
  exact rfl
 simp only [List.getElem_toArray, List.getElem_cons_succ, List.getElem_cons_zero, Act.put, List.setIfInBounds_toArray, List.set_cons_zero, List.set_cons_succ]
 refine but_take (f := 11) (i := 6) (v := ?vz6) rfl (by kernel_rfl) (by kernel_rfl) (by kernel_rfl) (by kernel_rfl) (by kernel_rfl) (fun _ _ _ h => h) (Or.inl ⟨(by rfl), ?hyz6⟩) (box_on QT.out (Below.drew1 _)) ?restz6
 case hyz6 =>
  intro W hW
  obtain ⟨y0, y1, y2⟩ := box2 hW
  go_simp
  exact rfl
 simp only [List.getElem_toArray, List.getElem_cons_succ, List.getElem_cons_zero, Act.put, List.setIfInBounds_toArray, List.set_cons_zero, List.set_cons_succ]
 refine but_take (f := 11) (i := 7) (v := ?vz7) rfl (by kernel_rfl) (by kernel_rfl) (by kernel_rfl) (by kernel_rfl) (by kernel_rfl) (fun _ _ _ h => h) (Or.inl ⟨(by rfl), ?hyz7⟩) (box_on QT.out (Below.drew1 _)) ?restz7
 case hyz7 =>
  intro W hW
  go_simp
  exact rfl
 simp only [List.getElem_toArray, List.getElem_cons_succ, List.getElem_cons_zero, Act.put, List.setIfInBounds_toArray, List.set_cons_zero, List.set_cons_succ]
 refine but_take (f := 11) (i := 8) (v := ?vz8) rfl (by kernel_rfl) (by kernel_rfl) (by kernel_rfl) (by kernel_rfl) (by kernel_rfl) (fun _ _ _ h => h) (Or.inl ⟨(by rfl), ?hyz8⟩) (box_on QT.out (Below.drew1 _)) ?restz8
 case hyz8 =>
  intro W hW
  go_simp
  exact rfl
 simp only [List.getElem_toArray, List.getElem_cons_succ, List.getElem_cons_zero, Act.put, List.setIfInBounds_toArray, List.set_cons_zero, List.set_cons_succ]
 refine but_take (f := 11) (i := 9) (v := ?vz9) rfl (by kernel_rfl) (by kernel_rfl) (by kernel_rfl) (by kernel_rfl) (by kernel_rfl) (fun _ _ _ h => h) (Or.inl ⟨(by rfl), ?hyz9⟩) (box_on QT.out (Below.drew1 _)) ?restz9
 case hyz9 =>
  intro W hW
  go_simp
  exact rfl
 simp only [List.getElem_toArray, List.getElem_cons_succ, List.getElem_cons_zero, Act.put, List.setIfInBounds_toArray, List.set_cons_zero, List.set_cons_succ]
 refine but_run (i := 10) (by kernel_rfl) rfl (by rfl) ?_
 simp only [List.getElem_toArray, List.getElem_cons_succ, List.getElem_cons_zero]
 intro K HK
 go_wp2_with fail
 have hSz1 : (fun V => V.heap[w.heap.size]? = some (.cells #[.slice (some ⟨gl, 0, none⟩) lo.length cl, .slice (some ⟨gn, 0, none⟩) lo.length cn] 27 (0, 0))) (W.drew) := (box_on QT.out (Below.drew1 _))
 refine HK.out _ _ (fun _ => hSz1) ?_
 clear HK
 refine but_run (i := 11) (by kernel_rfl) rfl (by rfl) ?_
 simp only [List.getElem_toArray, List.getElem_cons_succ, List.getElem_cons_zero]
 intro K HK
 go_wp2_with fail
 refine HK.out _ _ (fun h => absurd rfl h) ?_
 clear HK
 refine but_done (by kernel_rfl) ?_
 have HPD := Lib.hid (HP1.out.on (Below.drew1 W))
 replace QT := Lib.hid (box_on QT.out (Below.drew1 W))
 replace QR := Lib.hid (box_on QR.out (Below.drew1 W))
 clear HP1 HB2 HZ
 generalize W.drew = wd at *
 go_wp2
 go_loopw [9, 10, 12, 25] (fun o1 o2 _ q wr => ∃ k : Nat, k ≤ br.length ∧ q = .int .i64 k ∧ Hid (Pair2 w wr (fun b => b = w.heap.size ∨ b = w.heap.size + 1) gl gn o1 o2 (i + k) (i + k) ((lo.map iV).take i ++ (br.take k).map (fun p => .int .i64 p.1)) (xs.take i ++ (br.take k).map (·.2))) ∧ Hid (wr.heap[w.heap.size]? = some (.cells #[.slice (some ⟨gl, 0, none⟩) lo.length cl, .slice (some ⟨gn, 0, none⟩) lo.length cn] 27 (0, 0))) ∧ Hid (wr.heap[w.heap.size + 1]? = some (.cells #[.slice none 0 0, .slice none 0 0] 27 (0, 0)))) (fun _ _ _ q _ => br.length - (intOf q).toNat)
 case atStart => exact ⟨0, Nat.zero_le _, rfl, Lib.hid (by simpa using HPD.out), QT, QR⟩
 case round =>
  clear HPD QT QR
  obtain ⟨k, hk, rfl, HP, QT, QR⟩ := hrel
  obtain ⟨Af, cf, hf1⟩ := HP.out.hl.form
  obtain ⟨Ag, cg, hf2⟩ := HP.out.hn.form
  subst hf1 hf2
  by_cases hlt : k < br.length
  ·obtain ⟨b, off, hBb, hbb, c0, c1⟩ := (HBR.out.on HP.out.below).br hlt
   subst hBb
   obtain ⟨Ay, ny, cy, hy⟩ := HBK.out br[k] (List.getElem_mem hlt)
   rw [hy] at c1
   have k1 : (k : Int) < (br.length : Int) := by omega
   have k2 : (0 : Int) ≤ (k : Int) := by omega
   have HPB := Lib.hid (HP.out.alloc (.cells #[.int .i64 (br[k]).1, .slice Ay ny cy] 99))
   have QB := Lib.hid (al1 wr (.cells #[.int .i64 (br[k]).1, .slice Ay ny cy] 99))
   have BW := Lib.hid (bstep HP.out.below (bal1 wr (.cells #[.int .i64 (br[k]).1, .slice Ay ny cy] 99)))
   replace QT := Lib.hid (box_on QT.out (bal1 wr (.cells #[.int .i64 (br[k]).1, .slice Ay ny cy] 99)))
   replace QR := Lib.hid (box_on QR.out (bal1 wr (.cells #[.int .i64 (br[k]).1, .slice Ay ny cy] 99)))
   have HE1 : Hid ((lo.map iV).take i ++ (br.take (k + 1)).map (fun p => .int .i64 p.1) = ((lo.map iV).take i ++ (br.take k).map (fun p => .int .i64 p.1)) ++ [.int .i64 (br[k]).1]) := Lib.hid (by rw [List.take_succ_eq_append_getElem hlt, List.map_append, List.append_assoc]; rfl)
   have HE2 : Hid (xs.take i ++ (br.take (k + 1)).map (·.2) = (xs.take i ++ (br.take k).map (·.2)) ++ [.slice Ay ny cy]) := Lib.hid (by rw [List.take_succ_eq_append_getElem hlt, List.map_append, List.append_assoc, List.map_singleton, hy])
   clear HP hy
   go_upto_region 5 with (fail)
   clear c0 c1
   generalize wr.alloc (.cells #[.int .i64 (br[k]).1, .slice Ay ny cy] 99) = wb at *
   refine but_begin (f := 11) (S := fun V => Below w.heap.size w V ∧ V.heap[wr.heap.size]? = some (.cells #[.int .i64 (br[k]).1, .slice Ay ny cy] 99 (0, 0))) (by kernel_rfl) ?_
   have hSd : (fun V => Below w.heap.size w V ∧ V.heap[wr.heap.size]? = some (.cells #[.int .i64 (br[k]).1, .slice Ay ny cy] 99 (0, 0))) wb.drew := ⟨bstep BW.out (Below.drew1 _), box_on QB.out (Below.drew1 _)⟩
   replace QB := Lib.hid (box_on QB.out (Below.drew1 wb))
   replace QT := Lib.hid (box_on QT.out (Below.drew1 wb))
   replace QR := Lib.hid (box_on QR.out (Below.drew1 wb))
   have HP0 := Lib.hid (HPB.out.on (Below.drew1 wb))
   clear HPB
   generalize wb.drew = Vd at *
   refine but_take (f := 11) (i := 0) (v := ?va0) rfl (by kernel_rfl) (by kernel_rfl) (by kernel_rfl) (by kernel_rfl) (by kernel_rfl) (fun _ _ _ h => h) (Or.inl ⟨(by rfl), ?hya0⟩) hSd ?resta0
   case hya0 =>
    intro W hW
    go_simp
    exact rfl
   simp only [List.getElem_toArray, List.getElem_cons_succ, List.getElem_cons_zero, Act.put, List.setIfInBounds_toArray, List.set_cons_zero, List.set_cons_succ]
   refine but_take (f := 11) (i := 1) (v := ?va1) rfl (by kernel_rfl) (by kernel_rfl) (by kernel_rfl) (by kernel_rfl) (by kernel_rfl) (fun _ _ _ h => h) (Or.inl ⟨(by rfl), ?hya1⟩) hSd ?resta1
   case hya1 =>
    intro W hW
    go_simp
    exact rfl
   simp only [List.getElem_toArray, List.getElem_cons_succ, List.getElem_cons_zero, Act.put, List.setIfInBounds_toArray, List.set_cons_zero, List.set_cons_succ]
   refine but_take (f := 11) (i := 2) (v := ?va2) rfl (by kernel_rfl) (by kernel_rfl) (by kernel_rfl) (by kernel_rfl) (by kernel_rfl) (fun _ _ _ h => h) (Or.inl ⟨(by rfl), ?hya2⟩) hSd ?resta2
   case hya2 =>
    intro W hW
    obtain ⟨y0, y1, y2⟩ := box2 hW.2
    go_simp
    exact rfl
   simp only [List.getElem_toArray, List.getElem_cons_succ, List.getElem_cons_zero, Act.put, List.setIfInBounds_toArray, List.set_cons_zero, List.set_cons_succ]
   refine but_take (f := 11) (i := 5) (v := ?va5) rfl (by kernel_rfl) (by kernel_rfl) (by kernel_rfl) (by kernel_rfl) (by kernel_rfl) (fun _ _ _ h => h) (Or.inl ⟨(by rfl), ?hya5⟩) hSd ?resta5
   case hya5 =>
    intro W hW
    go_simp
    exact rfl
   simp only [List.getElem_toArray, List.getElem_cons_succ, List.getElem_cons_zero, Act.put, List.setIfInBounds_toArray, List.set_cons_zero, List.set_cons_succ]
   refine but_take (f := 11) (i := 6) (v := ?va6) rfl (by kernel_rfl) (by kernel_rfl) (by kernel_rfl) (by kernel_rfl) (by kernel_rfl) (fun _ _ _ h => h) (Or.inl ⟨(by rfl), ?hya6⟩) hSd ?resta6
   case hya6 =>
    intro W hW
    go_simp
    exact rfl
   simp only [List.getElem_toArray, List.getElem_cons_succ, List.getElem_cons_zero, Act.put, List.setIfInBounds_toArray, List.set_cons_zero, List.set_cons_succ]
   refine but_take (f := 11) (i := 7) (v := ?va7) rfl (by kernel_rfl) (by kernel_rfl) (by kernel_rfl) (by kernel_rfl) (by kernel_rfl) (fun _ _ _ h => h) (Or.inl ⟨(by rfl), ?hya7⟩) hSd ?resta7
   case hya7 =>
    intro W hW
    obtain ⟨y0, y1, y2⟩ := box2 hW.2
    go_simp
    exact rfl
   simp only [List.getElem_toArray, List.getElem_cons_succ, List.getElem_cons_zero, Act.put, List.setIfInBounds_toArray, List.set_cons_zero, List.set_cons_succ]
   refine but_two (i := 3) (j := 8) (by kernel_rfl) rfl rfl (by rfl) (by rfl) ?_ ?_
   ·simp only [List.getElem_toArray, List.getElem_cons_succ, List.getElem_cons_zero]
    intro K HK
    go_wp2_with fail
    have hSap1 : (fun V => Below w.heap.size w V ∧ V.heap[wr.heap.size]? = some (.cells #[.int .i64 (br[k]).1, .slice Ay ny cy] 99 (0, 0))) (Vd.alloc (.cells #[.int .i64 (br[k]).1] 3)) := ⟨bstep hSd.1 (bal1 _ _), box_on hSd.2 (bal1 _ _)⟩
    refine HK.out _ _ (fun _ => hSap1) ?_
    clear HK
    have HPap1 := Lib.hid (HP0.out.alloc (.cells #[.int .i64 (br[k]).1] 3))
    have QL := Lib.hid (al1 Vd (.cells #[.int .i64 (br[k]).1] 3))
    replace QB := Lib.hid (box_on QB.out (bal1 Vd (.cells #[.int .i64 (br[k]).1] 3)))
    replace QT := Lib.hid (box_on QT.out (bal1 Vd (.cells #[.int .i64 (br[k]).1] 3)))
    replace QR := Lib.hid (box_on QR.out (bal1 Vd (.cells #[.int .i64 (br[k]).1] 3)))
    generalize Vd.alloc (.cells #[.int .i64 (br[k]).1] 3) = Vnap1 at *
    refine but_two (i := 4) (j := 8) (by kernel_rfl) rfl rfl (by rfl) (by rfl) ?_ ?_
    ·simp only [List.getElem_toArray, List.getElem_cons_succ, List.getElem_cons_zero]
     intro K HK
     refine operHalf w _ (by rfl) (.tmp 29) (.tmp 32) 24 3 8 (.int .i64 0) (by rfl) Tryz.underlying24 (by kernel_rfl) rfl (by omega) gl (i + k) _ _ (by rfl) HPap1.out.hl (some ⟨Vd.heap.size, 0, none⟩) (1) (1) ([.int .i64 (br[k]).1]) (by rfl) (by simp) (At.box1 QL.out) (by simp [Value.oneCell']) (by omega) HPap1.out.below ?_
     intro vapp2 Vapp2 happ2 gapp2 aapp2 bapp2
     obtain ⟨papp2, fapp2⟩ := HPap1.out.low happ2 gapp2 aapp2 bapp2
     have HPapp2 := Lib.hid papp2
     obtain ⟨Aapp2, capp2, rfl⟩ := happ2.form
     have hSapp2 : (fun V => Below w.heap.size w V ∧ V.heap[wr.heap.size]? = some (.cells #[.int .i64 (br[k]).1, .slice Ay ny cy] 99 (0, 0))) Vapp2 := ⟨bapp2, (fapp2 _ (.inl (.inr rfl))).trans hSap1.2⟩
     refine HK.out _ _ (fun _ => hSapp2) ?_
     clear HK
     replace QB := Lib.hid ((fapp2 _ (.inl (.inr rfl))).trans QB.out)
     replace QT := Lib.hid ((fapp2 _ (.inl (.inl (.inl rfl)))).trans QT.out)
     replace QR := Lib.hid ((fapp2 _ (.inl (.inl (.inr rfl)))).trans QR.out)
     replace QL := Lib.hid ((fapp2 _ (.inr rfl)).trans QL.out)
     clear happ2 gapp2 aapp2 bapp2 papp2 fapp2
     simp only [List.getElem_toArray, List.getElem_cons_succ, List.getElem_cons_zero, Act.put, List.setIfInBounds_toArray, List.set_cons_zero, List.set_cons_succ]
     refine but_run (i := 8) (by kernel_rfl) rfl (by rfl) ?_
     simp only [List.getElem_toArray, List.getElem_cons_succ, List.getElem_cons_zero]
     intro K HK
     go_wp2_with fail
     have hSapp3 : (fun V => Below w.heap.size w V ∧ V.heap[wr.heap.size]? = some (.cells #[.int .i64 (br[k]).1, .slice Ay ny cy] 99 (0, 0))) (Vapp2.alloc (.cells #[.slice Ay ny cy] 62)) := ⟨bstep hSapp2.1 (bal1 _ _), box_on hSapp2.2 (bal1 _ _)⟩
     refine HK.out _ _ (fun _ => hSapp3) ?_
     clear HK
     have HPapp3 := Lib.hid (HPapp2.out.alloc (.cells #[.slice Ay ny cy] 62))
     have QN := Lib.hid (al1 Vapp2 (.cells #[.slice Ay ny cy] 62))
     replace QB := Lib.hid (box_on QB.out (bal1 Vapp2 (.cells #[.slice Ay ny cy] 62)))
     replace QT := Lib.hid (box_on QT.out (bal1 Vapp2 (.cells #[.slice Ay ny cy] 62)))
     replace QR := Lib.hid (box_on QR.out (bal1 Vapp2 (.cells #[.slice Ay ny cy] 62)))
     replace QL := Lib.hid (box_on QL.out (bal1 Vapp2 (.cells #[.slice Ay ny cy] 62)))
     generalize Vapp2.alloc (.cells #[.slice Ay ny cy] 62) = Vnapp3 at *
     refine but_run (i := 9) (by kernel_rfl) rfl (by rfl) ?_
     simp only [List.getElem_toArray, List.getElem_cons_succ, List.getElem_cons_zero]
     intro K HK
     refine operHalf w _ (by rfl) (.tmp 34) (.tmp 37) 25 62 24 (.agg #[.slice none 0 0]) (by rfl) Tryz.underlying25 (by kernel_rfl) rfl (by omega) gn (i + k) _ _ (by rfl) HPapp3.out.hn (some ⟨Vapp2.heap.size, 0, none⟩) (1) (1) ([.slice Ay ny cy]) (by rfl) (by simp) (At.box1 QN.out) (by simp [Value.oneCell']) (by omega) HPapp3.out.below ?_
     intro vapp4 Vapp4 happ4 gapp4 aapp4 bapp4
     obtain ⟨papp4, fapp4⟩ := HPapp3.out.node happ4 gapp4 aapp4 bapp4
     have HPapp4 := Lib.hid papp4
     obtain ⟨Aapp4, capp4, rfl⟩ := happ4.form
     have hSapp4 : (fun V => Below w.heap.size w V ∧ V.heap[wr.heap.size]? = some (.cells #[.int .i64 (br[k]).1, .slice Ay ny cy] 99 (0, 0))) Vapp4 := ⟨bapp4, (fapp4 _ (.inl (.inl (.inr rfl)))).trans hSapp3.2⟩
     refine HK.out _ _ (fun _ => hSapp4) ?_
     clear HK
     replace QB := Lib.hid ((fapp4 _ (.inl (.inl (.inr rfl)))).trans QB.out)
     replace QT := Lib.hid ((fapp4 _ (.inl (.inl (.inl (.inl rfl))))).trans QT.out)
     replace QR := Lib.hid ((fapp4 _ (.inl (.inl (.inl (.inr rfl))))).trans QR.out)
     replace QL := Lib.hid ((fapp4 _ (.inl (.inr rfl))).trans QL.out)
     replace QN := Lib.hid ((fapp4 _ (.inr rfl)).trans QN.out)
     clear happ4 gapp4 aapp4 bapp4 papp4 fapp4
     simp only [List.getElem_toArray, List.getElem_cons_succ, List.getElem_cons_zero, Act.put, List.setIfInBounds_toArray, List.set_cons_zero, List.set_cons_succ]
     refine but_run (i := 10) (by kernel_rfl) rfl (by rfl) ?_
     simp only [List.getElem_toArray, List.getElem_cons_succ, List.getElem_cons_zero]
     intro K HK
     go_wp2_with fail
     have hSapp5 : (fun V => Below w.heap.size w V ∧ V.heap[wr.heap.size]? = some (.cells #[.int .i64 (br[k]).1, .slice Ay ny cy] 99 (0, 0))) (Vapp4) := hSapp4
     refine HK.out _ _ (fun _ => hSapp5) ?_
     clear HK
     refine but_run (i := 11) (by kernel_rfl) rfl (by rfl) ?_
     simp only [List.getElem_toArray, List.getElem_cons_succ, List.getElem_cons_zero]
     intro K HK
     go_wp2_with fail
     refine HK.out _ _ (fun h => absurd rfl h) ?_
     clear HK
     refine but_done (by kernel_rfl) ?_
     go_wp2_with fail
     go_roundw
     case rel => exact ⟨k + 1, by omega, by go_num, Lib.hid (by rw [HE1.out, HE2.out]; exact HPapp4.out.mono (fun b hb => .inl (.inl (.inl hb)))), QT, QR⟩
     case measure => simp [intOf]; omega
    ·simp only [List.getElem_toArray, List.getElem_cons_succ, List.getElem_cons_zero]
     intro K HK
     go_wp2_with fail
     have hSapq2 : (fun V => Below w.heap.size w V ∧ V.heap[wr.heap.size]? = some (.cells #[.int .i64 (br[k]).1, .slice Ay ny cy] 99 (0, 0))) (Vnap1.alloc (.cells #[.slice Ay ny cy] 62)) := ⟨bstep hSap1.1 (bal1 _ _), box_on hSap1.2 (bal1 _ _)⟩
     refine HK.out _ _ (fun _ => hSapq2) ?_
     clear HK
     have HPapq2 := Lib.hid (HPap1.out.alloc (.cells #[.slice Ay ny cy] 62))
     have QN := Lib.hid (al1 Vnap1 (.cells #[.slice Ay ny cy] 62))
     replace QB := Lib.hid (box_on QB.out (bal1 Vnap1 (.cells #[.slice Ay ny cy] 62)))
     replace QT := Lib.hid (box_on QT.out (bal1 Vnap1 (.cells #[.slice Ay ny cy] 62)))
     replace QR := Lib.hid (box_on QR.out (bal1 Vnap1 (.cells #[.slice Ay ny cy] 62)))
     replace QL := Lib.hid (box_on QL.out (bal1 Vnap1 (.cells #[.slice Ay ny cy] 62)))
     generalize Vnap1.alloc (.cells #[.slice Ay ny cy] 62) = Vnapq2 at *
     refine but_run (i := 4) (by kernel_rfl) rfl (by rfl) ?_
     simp only [List.getElem_toArray, List.getElem_cons_succ, List.getElem_cons_zero]
     intro K HK
     refine operHalf w _ (by rfl) (.tmp 29) (.tmp 32) 24 3 8 (.int .i64 0) (by rfl) Tryz.underlying24 (by kernel_rfl) rfl (by omega) gl (i + k) _ _ (by rfl) HPapq2.out.hl (some ⟨Vd.heap.size, 0, none⟩) (1) (1) ([.int .i64 (br[k]).1]) (by rfl) (by simp) (At.box1 QL.out) (by simp [Value.oneCell']) (by omega) HPapq2.out.below ?_
     intro vapq3 Vapq3 hapq3 gapq3 aapq3 bapq3
     obtain ⟨papq3, fapq3⟩ := HPapq2.out.low hapq3 gapq3 aapq3 bapq3
     have HPapq3 := Lib.hid papq3
     obtain ⟨Aapq3, capq3, rfl⟩ := hapq3.form
     have hSapq3 : (fun V => Below w.heap.size w V ∧ V.heap[wr.heap.size]? = some (.cells #[.int .i64 (br[k]).1, .slice Ay ny cy] 99 (0, 0))) Vapq3 := ⟨bapq3, (fapq3 _ (.inl (.inl (.inr rfl)))).trans hSapq2.2⟩
     refine HK.out _ _ (fun _ => hSapq3) ?_
     clear HK
     replace QB := Lib.hid ((fapq3 _ (.inl (.inl (.inr rfl)))).trans QB.out)
     replace QT := Lib.hid ((fapq3 _ (.inl (.inl (.inl (.inl rfl))))).trans QT.out)
     replace QR := Lib.hid ((fapq3 _ (.inl (.inl (.inl (.inr rfl))))).trans QR.out)
     replace QL := Lib.hid ((fapq3 _ (.inl (.inr rfl))).trans QL.out)
     replace QN := Lib.hid ((fapq3 _ (.inr rfl)).trans QN.out)
     clear hapq3 gapq3 aapq3 bapq3 papq3 fapq3
     simp only [List.getElem_toArray, List.getElem_cons_succ, List.getElem_cons_zero, Act.put, List.setIfInBounds_toArray, List.set_cons_zero, List.set_cons_succ]
     refine but_run (i := 9) (by kernel_rfl) rfl (by rfl) ?_
     simp only [List.getElem_toArray, List.getElem_cons_succ, List.getElem_cons_zero]
     intro K HK
     refine operHalf w _ (by rfl) (.tmp 34) (.tmp 37) 25 62 24 (.agg #[.slice none 0 0]) (by rfl) Tryz.underlying25 (by kernel_rfl) rfl (by omega) gn (i + k) _ _ (by rfl) HPapq3.out.hn (some ⟨Vnap1.heap.size, 0, none⟩) (1) (1) ([.slice Ay ny cy]) (by rfl) (by simp) (At.box1 QN.out) (by simp [Value.oneCell']) (by omega) HPapq3.out.below ?_
     intro vapq4 Vapq4 hapq4 gapq4 aapq4 bapq4
     obtain ⟨papq4, fapq4⟩ := HPapq3.out.node hapq4 gapq4 aapq4 bapq4
     have HPapq4 := Lib.hid papq4
     obtain ⟨Aapq4, capq4, rfl⟩ := hapq4.form
     have hSapq4 : (fun V => Below w.heap.size w V ∧ V.heap[wr.heap.size]? = some (.cells #[.int .i64 (br[k]).1, .slice Ay ny cy] 99 (0, 0))) Vapq4 := ⟨bapq4, (fapq4 _ (.inl (.inl (.inr rfl)))).trans hSapq3.2⟩
     refine HK.out _ _ (fun _ => hSapq4) ?_
     clear HK
     replace QB := Lib.hid ((fapq4 _ (.inl (.inl (.inr rfl)))).trans QB.out)
     replace QT := Lib.hid ((fapq4 _ (.inl (.inl (.inl (.inl rfl))))).trans QT.out)
     replace QR := Lib.hid ((fapq4 _ (.inl (.inl (.inl (.inr rfl))))).trans QR.out)
     replace QL := Lib.hid ((fapq4 _ (.inl (.inr rfl))).trans QL.out)
     replace QN := Lib.hid ((fapq4 _ (.inr rfl)).trans QN.out)
     clear hapq4 gapq4 aapq4 bapq4 papq4 fapq4
     simp only [List.getElem_toArray, List.getElem_cons_succ, List.getElem_cons_zero, Act.put, List.setIfInBounds_toArray, List.set_cons_zero, List.set_cons_succ]
     refine but_run (i := 10) (by kernel_rfl) rfl (by rfl) ?_
     simp only [List.getElem_toArray, List.getElem_cons_succ, List.getElem_cons_zero]
     intro K HK
     go_wp2_with fail
     have hSapq5 : (fun V => Below w.heap.size w V ∧ V.heap[wr.heap.size]? = some (.cells #[.int .i64 (br[k]).1, .slice Ay ny cy] 99 (0, 0))) (Vapq4) := hSapq4
     refine HK.out _ _ (fun _ => hSapq5) ?_
     clear HK
     refine but_run (i := 11) (by kernel_rfl) rfl (by rfl) ?_
     simp only [List.getElem_toArray, List.getElem_cons_succ, List.getElem_cons_zero]
     intro K HK
     go_wp2_with fail
     refine HK.out _ _ (fun h => absurd rfl h) ?_
     clear HK
     refine but_done (by kernel_rfl) ?_
     go_wp2_with fail
     go_roundw
     case rel => exact ⟨k + 1, by omega, by go_num, Lib.hid (by rw [HE1.out, HE2.out]; exact HPapq4.out.mono (fun b hb => .inl (.inl (.inl hb)))), QT, QR⟩
     case measure => simp [intOf]; omega
   ·simp only [List.getElem_toArray, List.getElem_cons_succ, List.getElem_cons_zero]
    intro K HK
    go_wp2_with fail
    have hSaq1 : (fun V => Below w.heap.size w V ∧ V.heap[wr.heap.size]? = some (.cells #[.int .i64 (br[k]).1, .slice Ay ny cy] 99 (0, 0))) (Vd.alloc (.cells #[.slice Ay ny cy] 62)) := ⟨bstep hSd.1 (bal1 _ _), box_on hSd.2 (bal1 _ _)⟩
    refine HK.out _ _ (fun _ => hSaq1) ?_
    clear HK
    have HPaq1 := Lib.hid (HP0.out.alloc (.cells #[.slice Ay ny cy] 62))
    have QN := Lib.hid (al1 Vd (.cells #[.slice Ay ny cy] 62))
    replace QB := Lib.hid (box_on QB.out (bal1 Vd (.cells #[.slice Ay ny cy] 62)))
    replace QT := Lib.hid (box_on QT.out (bal1 Vd (.cells #[.slice Ay ny cy] 62)))
    replace QR := Lib.hid (box_on QR.out (bal1 Vd (.cells #[.slice Ay ny cy] 62)))
    generalize Vd.alloc (.cells #[.slice Ay ny cy] 62) = Vnaq1 at *
    refine but_run (i := 3) (by kernel_rfl) rfl (by rfl) ?_
    simp only [List.getElem_toArray, List.getElem_cons_succ, List.getElem_cons_zero]
    intro K HK
    go_wp2_with fail
    have hSaq2 : (fun V => Below w.heap.size w V ∧ V.heap[wr.heap.size]? = some (.cells #[.int .i64 (br[k]).1, .slice Ay ny cy] 99 (0, 0))) (Vnaq1.alloc (.cells #[.int .i64 (br[k]).1] 3)) := ⟨bstep hSaq1.1 (bal1 _ _), box_on hSaq1.2 (bal1 _ _)⟩
    refine HK.out _ _ (fun _ => hSaq2) ?_
    clear HK
    have HPaq2 := Lib.hid (HPaq1.out.alloc (.cells #[.int .i64 (br[k]).1] 3))
    have QL := Lib.hid (al1 Vnaq1 (.cells #[.int .i64 (br[k]).1] 3))
    replace QB := Lib.hid (box_on QB.out (bal1 Vnaq1 (.cells #[.int .i64 (br[k]).1] 3)))
    replace QT := Lib.hid (box_on QT.out (bal1 Vnaq1 (.cells #[.int .i64 (br[k]).1] 3)))
    replace QR := Lib.hid (box_on QR.out (bal1 Vnaq1 (.cells #[.int .i64 (br[k]).1] 3)))
    replace QN := Lib.hid (box_on QN.out (bal1 Vnaq1 (.cells #[.int .i64 (br[k]).1] 3)))
    generalize Vnaq1.alloc (.cells #[.int .i64 (br[k]).1] 3) = Vnaq2 at *
    refine but_run (i := 4) (by kernel_rfl) rfl (by rfl) ?_
    simp only [List.getElem_toArray, List.getElem_cons_succ, List.getElem_cons_zero]
    intro K HK
    refine operHalf w _ (by rfl) (.tmp 29) (.tmp 32) 24 3 8 (.int .i64 0) (by rfl) Tryz.underlying24 (by kernel_rfl) rfl (by omega) gl (i + k) _ _ (by rfl) HPaq2.out.hl (some ⟨Vnaq1.heap.size, 0, none⟩) (1) (1) ([.int .i64 (br[k]).1]) (by rfl) (by simp) (At.box1 QL.out) (by simp [Value.oneCell']) (by omega) HPaq2.out.below ?_
    intro vaq3 Vaq3 haq3 gaq3 aaq3 baq3
    obtain ⟨paq3, faq3⟩ := HPaq2.out.low haq3 gaq3 aaq3 baq3
    have HPaq3 := Lib.hid paq3
    obtain ⟨Aaq3, caq3, rfl⟩ := haq3.form
    have hSaq3 : (fun V => Below w.heap.size w V ∧ V.heap[wr.heap.size]? = some (.cells #[.int .i64 (br[k]).1, .slice Ay ny cy] 99 (0, 0))) Vaq3 := ⟨baq3, (faq3 _ (.inl (.inl (.inr rfl)))).trans hSaq2.2⟩
    refine HK.out _ _ (fun _ => hSaq3) ?_
    clear HK
    replace QB := Lib.hid ((faq3 _ (.inl (.inl (.inr rfl)))).trans QB.out)
    replace QT := Lib.hid ((faq3 _ (.inl (.inl (.inl (.inl rfl))))).trans QT.out)
    replace QR := Lib.hid ((faq3 _ (.inl (.inl (.inl (.inr rfl))))).trans QR.out)
    replace QN := Lib.hid ((faq3 _ (.inl (.inr rfl))).trans QN.out)
    replace QL := Lib.hid ((faq3 _ (.inr rfl)).trans QL.out)
    clear haq3 gaq3 aaq3 baq3 paq3 faq3
    simp only [List.getElem_toArray, List.getElem_cons_succ, List.getElem_cons_zero, Act.put, List.setIfInBounds_toArray, List.set_cons_zero, List.set_cons_succ]
    refine but_run (i := 9) (by kernel_rfl) rfl (by rfl) ?_
    simp only [List.getElem_toArray, List.getElem_cons_succ, List.getElem_cons_zero]
    intro K HK
    refine operHalf w _ (by rfl) (.tmp 34) (.tmp 37) 25 62 24 (.agg #[.slice none 0 0]) (by rfl) Tryz.underlying25 (by kernel_rfl) rfl (by omega) gn (i + k) _ _ (by rfl) HPaq3.out.hn (some ⟨Vd.heap.size, 0, none⟩) (1) (1) ([.slice Ay ny cy]) (by rfl) (by simp) (At.box1 QN.out) (by simp [Value.oneCell']) (by omega) HPaq3.out.below ?_
    intro vaq4 Vaq4 haq4 gaq4 aaq4 baq4
    obtain ⟨paq4, faq4⟩ := HPaq3.out.node haq4 gaq4 aaq4 baq4
    have HPaq4 := Lib.hid paq4
    obtain ⟨Aaq4, caq4, rfl⟩ := haq4.form
    have hSaq4 : (fun V => Below w.heap.size w V ∧ V.heap[wr.heap.size]? = some (.cells #[.int .i64 (br[k]).1, .slice Ay ny cy] 99 (0, 0))) Vaq4 := ⟨baq4, (faq4 _ (.inl (.inl (.inr rfl)))).trans hSaq3.2⟩
    refine HK.out _ _ (fun _ => hSaq4) ?_
    clear HK
    replace QB := Lib.hid ((faq4 _ (.inl (.inl (.inr rfl)))).trans QB.out)
    replace QT := Lib.hid ((faq4 _ (.inl (.inl (.inl (.inl rfl))))).trans QT.out)
    replace QR := Lib.hid ((faq4 _ (.inl (.inl (.inl (.inr rfl))))).trans QR.out)
    replace QN := Lib.hid ((faq4 _ (.inl (.inr rfl))).trans QN.out)
    replace QL := Lib.hid ((faq4 _ (.inr rfl)).trans QL.out)
    clear haq4 gaq4 aaq4 baq4 paq4 faq4
    simp only [List.getElem_toArray, List.getElem_cons_succ, List.getElem_cons_zero, Act.put, List.setIfInBounds_toArray, List.set_cons_zero, List.set_cons_succ]
    refine but_run (i := 10) (by kernel_rfl) rfl (by rfl) ?_
    simp only [List.getElem_toArray, List.getElem_cons_succ, List.getElem_cons_zero]
    intro K HK
    go_wp2_with fail
    have hSaq5 : (fun V => Below w.heap.size w V ∧ V.heap[wr.heap.size]? = some (.cells #[.int .i64 (br[k]).1, .slice Ay ny cy] 99 (0, 0))) (Vaq4) := hSaq4
    refine HK.out _ _ (fun _ => hSaq5) ?_
    clear HK
    refine but_run (i := 11) (by kernel_rfl) rfl (by rfl) ?_
    simp only [List.getElem_toArray, List.getElem_cons_succ, List.getElem_cons_zero]
    intro K HK
    go_wp2_with fail
    refine HK.out _ _ (fun h => absurd rfl h) ?_
    clear HK
    refine but_done (by kernel_rfl) ?_
    go_wp2_with fail
    go_roundw
    case rel => exact ⟨k + 1, by omega, by go_num, Lib.hid (by rw [HE1.out, HE2.out]; exact HPaq4.out.mono (fun b hb => .inl (.inl (.inl hb)))), QT, QR⟩
    case measure => simp [intOf]; omega
  ·have hke : k = br.length := by omega
   subst hke
   have hp := HP.out
   rw [List.take_length] at hp
   have HPR := Lib.hid hp
   have BW := Lib.hid HP.out.below
   have ht1 := fun W => run_tailI (w := W) (some ⟨gl, 0, none⟩) lo.length cl j hj hcl
   have ht2 := fun W => run_tailN (w := W) (some ⟨gn, 0, none⟩) lo.length cn j hj hcn
   clear hp HP
   go_upto_region 7 with (fail)
   refine but_begin (f := 13) (S := fun V => Below w.heap.size w V ∧ V.heap[w.heap.size]? = some (.cells #[.slice (some ⟨gl, 0, none⟩) lo.length cl, .slice (some ⟨gn, 0, none⟩) lo.length cn] 27 (0, 0))) (by kernel_rfl) ?_
   have hSd : (fun V => Below w.heap.size w V ∧ V.heap[w.heap.size]? = some (.cells #[.slice (some ⟨gl, 0, none⟩) lo.length cl, .slice (some ⟨gn, 0, none⟩) lo.length cn] 27 (0, 0))) wr.drew := ⟨bstep BW.out (Below.drew1 _), box_on QT.out (Below.drew1 _)⟩
   replace QT := Lib.hid (box_on QT.out (Below.drew1 wr))
   replace QR := Lib.hid (box_on QR.out (Below.drew1 wr))
   have HP0 := Lib.hid (HPR.out.on (Below.drew1 wr))
   clear HPR
   generalize wr.drew = Vd at *
   refine but_take (f := 13) (i := 0) (v := ?vb0) rfl (by kernel_rfl) (by kernel_rfl) (by kernel_rfl) (by kernel_rfl) (by kernel_rfl) (fun _ _ _ h => h) (Or.inl ⟨(by rfl), ?hyb0⟩) hSd ?restb0
   case hyb0 =>
    intro W hW
    go_simp
    exact rfl
   simp only [List.getElem_toArray, List.getElem_cons_succ, List.getElem_cons_zero, Act.put, List.setIfInBounds_toArray, List.set_cons_zero, List.set_cons_succ]
   refine but_take (f := 13) (i := 1) (v := ?vb1) rfl (by kernel_rfl) (by kernel_rfl) (by kernel_rfl) (by kernel_rfl) (by kernel_rfl) (fun _ _ _ h => h) (Or.inl ⟨(by rfl), ?hyb1⟩) hSd ?restb1
   case hyb1 =>
    intro W hW
    go_simp
    exact rfl
   simp only [List.getElem_toArray, List.getElem_cons_succ, List.getElem_cons_zero, Act.put, List.setIfInBounds_toArray, List.set_cons_zero, List.set_cons_succ]
   refine but_take (f := 13) (i := 2) (v := ?vb2) rfl (by kernel_rfl) (by kernel_rfl) (by kernel_rfl) (by kernel_rfl) (by kernel_rfl) (fun _ _ _ h => h) (Or.inl ⟨(by rfl), ?hyb2⟩) hSd ?restb2
   case hyb2 =>
    intro W hW
    obtain ⟨y0, y1, y2⟩ := box2 hW.2
    go_simp
    exact rfl
   simp only [List.getElem_toArray, List.getElem_cons_succ, List.getElem_cons_zero, Act.put, List.setIfInBounds_toArray, List.set_cons_zero, List.set_cons_succ]
   refine but_take (f := 13) (i := 3) (v := ?vb3) rfl (by kernel_rfl) (by kernel_rfl) (by kernel_rfl) (by kernel_rfl) (by kernel_rfl) (fun _ _ _ h => h) (Or.inl ⟨(by rfl), ?hyb3⟩) hSd ?restb3
   case hyb3 =>
    intro W hW
    go_simp
    exact rfl
   simp only [List.getElem_toArray, List.getElem_cons_succ, List.getElem_cons_zero, Act.put, List.setIfInBounds_toArray, List.set_cons_zero, List.set_cons_succ]
   refine but_take (f := 13) (i := 4) (v := ?vb4) rfl (by kernel_rfl) (by kernel_rfl) (by kernel_rfl) (by kernel_rfl) (by kernel_rfl) (fun _ _ _ h => h) (Or.inl ⟨(by rfl), ?hyb4⟩) hSd ?restb4
   case hyb4 =>
    intro W hW
    go_simp
    exact rfl
   simp only [List.getElem_toArray, List.getElem_cons_succ, List.getElem_cons_zero, Act.put, List.setIfInBounds_toArray, List.set_cons_zero, List.set_cons_succ]
   refine but_take (f := 13) (i := 6) (v := ?vb6) rfl (by kernel_rfl) (by kernel_rfl) (by kernel_rfl) (by kernel_rfl) (by kernel_rfl) (fun _ _ _ h => h) (Or.inl ⟨(by rfl), ?hyb6⟩) hSd ?restb6
   case hyb6 =>
    intro W hW
    go_simp
    exact rfl
   simp only [List.getElem_toArray, List.getElem_cons_succ, List.getElem_cons_zero, Act.put, List.setIfInBounds_toArray, List.set_cons_zero, List.set_cons_succ]
   refine but_take (f := 13) (i := 7) (v := ?vb7) rfl (by kernel_rfl) (by kernel_rfl) (by kernel_rfl) (by kernel_rfl) (by kernel_rfl) (fun _ _ _ h => h) (Or.inl ⟨(by rfl), ?hyb7⟩) hSd ?restb7
   case hyb7 =>
    intro W hW
    go_simp
    exact rfl
   simp only [List.getElem_toArray, List.getElem_cons_succ, List.getElem_cons_zero, Act.put, List.setIfInBounds_toArray, List.set_cons_zero, List.set_cons_succ]
   refine but_take (f := 13) (i := 8) (v := ?vb8) rfl (by kernel_rfl) (by kernel_rfl) (by kernel_rfl) (by kernel_rfl) (by kernel_rfl) (fun _ _ _ h => h) (Or.inl ⟨(by rfl), ?hyb8⟩) hSd ?restb8
   case hyb8 =>
    intro W hW
    obtain ⟨y0, y1, y2⟩ := box2 hW.2
    go_simp
    exact rfl
   simp only [List.getElem_toArray, List.getElem_cons_succ, List.getElem_cons_zero, Act.put, List.setIfInBounds_toArray, List.set_cons_zero, List.set_cons_succ]
   refine but_take (f := 13) (i := 9) (v := ?vb9) rfl (by kernel_rfl) (by kernel_rfl) (by kernel_rfl) (by kernel_rfl) (by kernel_rfl) (fun _ _ _ h => h) (Or.inl ⟨(by rfl), ?hyb9⟩) hSd ?restb9
   case hyb9 =>
    intro W hW
    go_simp
    exact rfl
   simp only [List.getElem_toArray, List.getElem_cons_succ, List.getElem_cons_zero, Act.put, List.setIfInBounds_toArray, List.set_cons_zero, List.set_cons_succ]
   refine but_take (f := 13) (i := 10) (v := ?vb10) rfl (by kernel_rfl) (by kernel_rfl) (by kernel_rfl) (by kernel_rfl) (by kernel_rfl) (fun _ _ _ h => h) (Or.inl ⟨(by rfl), ?hyb10⟩) hSd ?restb10
   case hyb10 =>
    intro W hW
    go_simp
    exact rfl
   simp only [List.getElem_toArray, List.getElem_cons_succ, List.getElem_cons_zero, Act.put, List.setIfInBounds_toArray, List.set_cons_zero, List.set_cons_succ]
   refine but_run (i := 5) (by kernel_rfl) rfl (by rfl) ?_
   simp only [List.getElem_toArray, List.getElem_cons_succ, List.getElem_cons_zero]
   intro K HK
   refine operHalf w _ (by rfl) (.tmp 40) (.tmp 44) 24 3 8 (.int .i64 0) (by rfl) Tryz.underlying24 (by kernel_rfl) rfl (by omega) gl (i + br.length) _ _ (by rfl) HP0.out.hl (tailA (some ⟨gl, 0, none⟩) cl j) (lo.length - j) (cl - j) ((lo.map iV).drop j) (by rfl) (by simp) (TLL.out.on hSd.1) (HO1.out) (by omega) HP0.out.below ?_
   intro vb1 Vb1 hb1 gb1 ab1 bb1
   obtain ⟨pb1, fb1⟩ := HP0.out.low hb1 gb1 ab1 bb1
   have HPb1 := Lib.hid pb1
   obtain ⟨Ab1, cb1, rfl⟩ := hb1.form
   have hSb1 : (fun V => Below w.heap.size w V ∧ V.heap[w.heap.size]? = some (.cells #[.slice (some ⟨gl, 0, none⟩) lo.length cl, .slice (some ⟨gn, 0, none⟩) lo.length cn] 27 (0, 0))) Vb1 := ⟨bb1, (fb1 _ (.inl rfl)).trans hSd.2⟩
   refine HK.out _ _ (fun _ => hSb1) ?_
   clear HK
   replace QT := Lib.hid ((fb1 _ (.inl rfl)).trans QT.out)
   replace QR := Lib.hid ((fb1 _ (.inr rfl)).trans QR.out)
   clear hb1 gb1 ab1 bb1 pb1 fb1
   simp only [List.getElem_toArray, List.getElem_cons_succ, List.getElem_cons_zero, Act.put, List.setIfInBounds_toArray, List.set_cons_zero, List.set_cons_succ]
   refine but_run (i := 11) (by kernel_rfl) rfl (by rfl) ?_
   simp only [List.getElem_toArray, List.getElem_cons_succ, List.getElem_cons_zero]
   intro K HK
   refine operHalf w _ (by rfl) (.tmp 46) (.tmp 50) 25 62 24 (.agg #[.slice none 0 0]) (by rfl) Tryz.underlying25 (by kernel_rfl) rfl (by omega) gn (i + br.length) _ _ (by rfl) HPb1.out.hn (tailA (some ⟨gn, 0, none⟩) cn j) (lo.length - j) (cn - j) (xs.drop j) (by rfl) (by rw [List.length_drop, HXL.out]) (TLN.out.on hSb1.1) (HO2.out) (by omega) HPb1.out.below ?_
   intro vb2 Vb2 hb2 gb2 ab2 bb2
   obtain ⟨pb2, fb2⟩ := HPb1.out.node hb2 gb2 ab2 bb2
   have HPb2 := Lib.hid pb2
   obtain ⟨Ab2, cb2, rfl⟩ := hb2.form
   have hSb2 : (fun V => Below w.heap.size w V ∧ V.heap[w.heap.size]? = some (.cells #[.slice (some ⟨gl, 0, none⟩) lo.length cl, .slice (some ⟨gn, 0, none⟩) lo.length cn] 27 (0, 0))) Vb2 := ⟨bb2, (fb2 _ (.inl rfl)).trans hSb1.2⟩
   refine HK.out _ _ (fun _ => hSb2) ?_
   clear HK
   replace QT := Lib.hid ((fb2 _ (.inl rfl)).trans QT.out)
   replace QR := Lib.hid ((fb2 _ (.inr rfl)).trans QR.out)
   clear hb2 gb2 ab2 bb2 pb2 fb2
   simp only [List.getElem_toArray, List.getElem_cons_succ, List.getElem_cons_zero, Act.put, List.setIfInBounds_toArray, List.set_cons_zero, List.set_cons_succ]
   refine but_take (f := 13) (i := 12) (v := ?vb12) rfl (by kernel_rfl) (by kernel_rfl) (by kernel_rfl) (by kernel_rfl) (by kernel_rfl) (fun _ _ _ h => h) (Or.inl ⟨(by rfl), ?hyb12⟩) hSb2 ?restb12
   case hyb12 =>
    intro W hW
    go_simp
    exact rfl
   simp only [List.getElem_toArray, List.getElem_cons_succ, List.getElem_cons_zero, Act.put, List.setIfInBounds_toArray, List.set_cons_zero, List.set_cons_succ]
   obtain ⟨r0, r1, r2⟩ := box2 QR.out
   refine but_run (i := 13) (by kernel_rfl) rfl (by rfl) ?_
   simp only [List.getElem_toArray, List.getElem_cons_succ, List.getElem_cons_zero]
   intro K HK
   go_wp2_with fail
   refine HK.out _ _ (fun h => absurd rfl h) ?_
   clear HK
   refine but_done (by kernel_rfl) ?_
   go_wp2_with fail
   refine bodyPost_ret (v := .agg #[.slice Ab1 (i + br.length + (lo.length - j)) cb1, .slice Ab2 (i + br.length + (lo.length - j)) cb2]) (by simp [results, Tryz.results77, go_sem, *]) rfl ?_
   exact ⟨_, _, rfl, ((HPb2.out.store (.inr rfl) hpr _).store (.inr rfl) hpr _).mono (fun b hb => hb.elim)⟩
end Go.Proofs.YthopkhpiikiknaaGreat
namespace Go.Proofs.YthopkhpiikiknaaGreat
open Go.RowKit
set_option maxRecDepth 100000
set_option linter.unusedSimpArgs false
set_option linter.unusedVariables false

theorem At.cellsV {w : World} {g : Nat} {cur : Array Value} {e : TypeId} {xs : List Value} (h : At w (some ⟨g, 0, none⟩) xs) (hc : w.heap[g]? = some (.cells cur e (0, 0))) : xs.length ≤ cur.size ∧ cur.toList.take xs.length = xs := by
 have key : ∀ i (hi : i < xs.length), cur[i]? = some xs[i] := by
  intro i hi
  rcases h with h | ⟨b, off, h1, h2⟩
  ·rw [h] at hi
   simp at hi
  ·injection h1 with h1
   injection h1 with h1 h1'
   subst h1 h1'
   have := h2 i hi
   rw [Nat.zero_add, cell_of_row _ _ _ _ _ _ hc] at this
   exact this
 have hle : xs.length ≤ cur.size := by
  rcases Nat.eq_zero_or_pos xs.length with h0 | h0
  ·omega
  ·have := (Array.getElem?_eq_some_iff.1 (key (xs.length - 1) (by omega))).1
   omega
 refine ⟨hle, List.ext_getElem? (fun i => ?_)⟩
 by_cases hi : i < xs.length
 ·rw [List.getElem?_take_of_lt hi, Array.getElem?_toList, key i hi, List.getElem?_eq_getElem hi]
 ·rw [List.getElem?_eq_none (by simp; omega), List.getElem?_eq_none (by omega)]
theorem Half.ownC {w0 w : World} {g : Nat} {e : TypeId} {v : Value} {n : Nat} {xs : List Value} {cs : List Dat} {S U : Nat → Prop} (h : Half w0 w g e v n xs) (hg : ∃ cur, w.heap[g]? = some (.cells cur e (0, 0))) (hS : ∀ b, v.ownBlock = some b → S b) (ho : OwnsL w U xs cs) (hU : ∀ b, U b → S b ∧ v.ownBlock ≠ some b) (hl : cs.length = n) (hn : n ≤ maxLen) : OwnC w S v (.row e 1 n cs) := by
 rcases h with h | ⟨rfl, hat, hxl, _⟩
 ·rcases row_cases h with ⟨rfl, rfl, hx⟩ | ⟨g', cap, rfl, hb, ⟨cur, hcur, hsz, htk⟩, hn', hc, _⟩
  ·exact .inl ⟨rfl, rfl, List.length_eq_zero_iff.1 hl⟩
  ·exact .inr ⟨g', cap, cur, xs, rfl, hS g' rfl, hcur, hn', hc, by omega, by omega, htk, ho.mono (fun b hb => ⟨(hU b hb).1, fun e => (hU b hb).2 (by rw [e]; rfl)⟩)⟩
 ·obtain ⟨cur, hcur⟩ := hg
  obtain ⟨h1, h2⟩ := hat.cellsV hcur
  exact .inr ⟨g, n, cur, xs, rfl, hS g rfl, hcur, Nat.le_refl _, hn, by omega, by omega, by rw [Nat.mul_one, ← hxl]; exact h2, ho.mono (fun b hb => ⟨(hU b hb).1, fun e => (hU b hb).2 (by rw [e]; rfl)⟩)⟩
theorem Half.ownB {w0 w : World} {g : Nat} {e : TypeId} {v : Value} {n : Nat} {xs : List Value} (h : Half w0 w g e v n xs) : ∀ b, v.ownBlock = some b → w0.heap.size ≤ b ∨ b = g := by
 rcases h with h | ⟨rfl, _⟩
 ·exact fun b hb => .inl (row_lt h b hb).2
 ·intro b hb
  simp [Value.ownBlock] at hb
  exact .inr hb.symm
theorem setL_map {α β : Type} (f : α → β) (l : List α) (i : Nat) (m : List α) (j : Nat) : (setL l i m j).map f = (l.map f).take i ++ m.map f ++ (l.map f).drop j := by simp [setL, List.map_take, List.map_drop]
/-- What lies in an owned row of one cell an element that is not empty. -/
theorem OwnC.row1 {w : World} {S : Nat → Prop} {v : Value} {e n : Nat} {cs : List Dat} (h : OwnC w S v (.row e 1 n cs)) (hn : 0 < n) : ∃ (g cap : Nat) (cur : Array Value) (xs : List Value), v = .slice (some ⟨g, 0, none⟩) n cap ∧ S g ∧ w.heap[g]? = some (.cells cur e (0, 0)) ∧ n ≤ cap ∧ cap ≤ maxLen ∧ xs.length = n ∧ At w (some ⟨g, 0, none⟩) xs ∧ OwnsL w (fun b => S b ∧ b ≠ g) xs cs := by
 rcases h with ⟨_, h, _⟩ | ⟨g, cap, cur, xs, rfl, h2, h3, h4, h5, h6, h7, h8, h9⟩
 ·omega
 ·have hl : xs.length = n := by rw [h9.1, h7]; omega
  refine ⟨g, cap, cur, xs, rfl, h2, h3, h4, h5, hl, .inr ⟨g, 0, rfl, fun i hi => ?_⟩, h9⟩
  rw [Nat.zero_add, cell_of_row _ _ _ _ _ _ h3]
  subst h8
  rw [List.getElem_take, Array.getElem_toList]
  exact Array.getElem?_eq_getElem (by omega)
theorem zip_fst {los : List Int} {us : List Value} (h : los.length = us.length) : (los.zip us).map (fun p => Value.int .i64 p.1) = los.map iV := by
 induction los generalizing us with
 |nil => rfl
 |cons a t ih =>
  cases us with
  |nil => simp at h
  |cons u r => simp only [List.zip_cons_cons, List.map_cons, ih (by simpa using h)]; rfl
theorem zip_snd {los : List Int} {us : List Value} (h : los.length = us.length) : (los.zip us).map (·.2) = us := by
 induction los generalizing us with
 |nil => cases us with | nil => rfl | cons u r => simp at h
 |cons a t ih =>
  cases us with
  |nil => simp at h
  |cons u r => simp only [List.zip_cons_cons, List.map_cons, ih (by simpa using h)]
/-- A tree in blocks of U, whose rows may be cut. -/
def MakesC (w : World) (U : Nat → Prop) (lo : List Int) (ts : List NodeD) (e : Ending) (w' : World) : Prop := ∃ vl vn, e = .returned (.agg #[vl, vn]) ∧ TreeC w' U vl vn lo ts ∧ Below w.heap.size w w'
theorem replaceNodes_any (vl vn : Value) (lo : List Int) (ts : List NodeD) (i j : Nat) (B : Option Addr) (cb : Nat) (los : List Int) (nds : List NodeD) (us : List Value) (S T : Nat → Prop) (w : World) (hv : TreeC w S vl vn lo ts)
  (hB : At w B (brX (los.zip us))) (hlu : los.length = us.length) (hun : us.length = nds.length) (hus : ∀ u ∈ us, ∃ A n c, u = .slice A n c) (hou : OwnsL w T us (nds.map setsD)) (hST : ∀ b, S b → ¬ T b) (hij : i ≤ j) (hj : j ≤ lo.length) (hlt : lo.length = ts.length) (h0 : 0 < lo.length) (hs : lo.length ≤ 1000000) (hbn : los.length ≤ 2) :
  Calls Tryz.prog 77 #[.agg #[vl, vn], .int .i64 (i : Int), .int .i64 (j : Int), .slice B los.length cb] w (MakesC w (fun b => S b ∨ T b ∨ w.heap.size ≤ b) (setL lo i los j) (setL ts i nds j)) := by
 obtain ⟨P, Q, hP, hQ, hPQ, hl, hn⟩ := hv.lt
 obtain ⟨gl, cl, curl, xl, rfl, hPl, hhl, hcl, hcl2, hxl, hal, hol⟩ := OwnC.row1 hl h0
 obtain ⟨gn, cn, curn, xn, rfl, hQn, hhn, hcn, hcn2, hxn, han, hon⟩ := OwnC.row1 hn (by omega)
 have hxi : xl = lo.map iV := lits_eq hol.reads
 subst hxi
 have hgne : gl ≠ gn := by
  rintro rfl
  exact hPQ gl hPl hQn
 have h1x : ∀ u ∈ xn, u.oneCell' = true := hon.reads.ones (fun c hc => by simp at hc; obtain ⟨l, _, rfl⟩ := hc; rfl)
 have hzl : (los.zip us).length = los.length := by simp; omega
 rw [← hlt] at hcn hxn
 have hcall := replaceNodes_cells gl gn cl cn i j cb lo xn B (los.zip us) w hal han hxn h1x hcl hcn hcl2 hcn2 (hP gl hPl).2 (hQ gn hQn).2 hgne hij hj hs hB (fun p hp => hus p.2 (List.of_mem_zip hp).2) (by omega)
 rw [hzl] at hcall
 rw [← hlt]
 refine hcall.mono ?_
 rintro e w' ⟨vl', vn', rfl, hp⟩
 have hb := hp.below
 rw [zip_fst hlu, zip_snd hlu] at hp
 refine ⟨vl', vn', rfl, ?_, hb⟩
 have hsw := OwnsL.swap (U := fun b => (Q b ∧ b ≠ gn) ∨ (T b ∧ b < w.heap.size)) hon hou.lt i j hij (fun b hb => .inl hb) (fun b hb => .inr hb) (fun b hb hb' => hST b (hQ b hb.1).1 hb'.1)
 have hlen : (setL lo i los j).length = i + los.length + (lo.length - j) := by unfold setL; simp; omega
 have hlen2 : (setL ts i nds j).length = i + los.length + (lo.length - j) := by unfold setL; simp; omega
 have hvl := hp.hl.ownB
 have hvn := hp.hn.ownB
 have hgl := hP gl hPl
 have hgn := hQ gn hQn
 refine ⟨fun b => vl'.ownBlock = some b, fun b => ((Q b ∧ b ≠ gn) ∨ (T b ∧ b < w.heap.size)) ∨ vn'.ownBlock = some b, fun b h => ?_, fun b h => ?_, fun b h h' => ?_, ?_, ?_⟩
 ·rcases hvl b h with h1 | rfl
  ·exact .inr (.inr h1)
  ·exact .inl hgl.1
 ·rcases h with (h | h) | h
  ·exact .inl (hQ b h.1).1
  ·exact .inr (.inl h.1)
  ·rcases hvn b h with h1 | rfl
   ·exact .inr (.inr h1)
   ·exact .inl hgn.1
 ·rcases h' with (h' | h') | h'
  ·rcases hvl b h with h1 | rfl
   ·have := (hQ b h'.1).2
    omega
   ·exact hPQ b hPl h'.1
  ·rcases hvl b h with h1 | rfl
   ·omega
   ·exact hST b hgl.1 h'.1
  ·exact hp.d b h h'
 ·have h1 := hp.hl
  rw [← setL_map iV lo i los j] at h1
  have h2 := h1.ownC (S := fun b => vl'.ownBlock = some b) (U := fun _ => False) (cs := (setL lo i los j).map fun n => .lit (iV n)) ⟨curl, (hb.block gl hgl.2).trans hhl⟩ (fun b h => h) (ints_litL w' _ _) (fun b h => h.elim) (by rw [List.length_map, hlen]) (by unfold maxLen; omega)
  rw [← hlen] at h2
  exact h2
 ·have h1 := hp.hn
  have h2 := h1.ownC (S := fun b => ((Q b ∧ b ≠ gn) ∨ (T b ∧ b < w.heap.size)) ∨ vn'.ownBlock = some b) ⟨curn, (hb.block gn hgn.2).trans hhn⟩ (fun b h => .inr h) (hsw.on hb) (fun b h => ⟨.inl h, fun he => ?_⟩) (by simp; omega) (by unfold maxLen; omega)
  ·rw [← setL_map setsD ts i nds j, ← hlen2] at h2
   exact h2
  ·rcases hvn b he with h3 | rfl
   ·rcases h with h | h
    ·have := (hQ b h.1).2
     omega
    ·omega
   ·rcases h with h | h
    ·exact h.2 rfl
    ·exact hST b hgn.1 h.1
end Go.Proofs.YthopkhpiikiknaaGreat
namespace Go.Proofs.YthopkhpiikiknaaGreat
open Go.RowKit
set_option maxRecDepth 100000
set_option linter.unusedSimpArgs false
set_option linter.unusedVariables false
theorem few_iff (a b : NodeD) : fewB a b = true ↔ ((nodeKeysK a).length : Int) + ((nodeKeysK b).length : Int) ≤ 6 := by
 unfold fewB
 rw [decide_eq_true_iff]
 omega
set_option maxHeartbeats 8000000 in
theorem l6Pair_any (vl vn : Value) (lo : List Int) (ts : List NodeD) (w : World) (hv : RdT w w.heap.size vl vn lo ts) (hn : ts.length ≤ 1048576) (hs : sumT ts ≤ 1048576) :
  Calls Tryz.prog 89 #[.agg #[vl, vn]] w (SaysInt w (pairK ts)) := by
 obtain ⟨A, c, B, d, rfl, rfl⟩ := hv.shape
 have HB := Lib.hid (bal1 w (.cells #[.slice A lo.length c, .slice B ts.length d] 27))
 have Q0 := Lib.hid (al1 w (.cells #[.slice A lo.length c, .slice B ts.length d] 27))
 have HV := Lib.hid (hv.2.on (bal1 w (.cells #[.slice A lo.length c, .slice B ts.length d] 27)))
 clear hv
 go_enter Tryz.func89, Tryz.ntmps89
 go_upto_region 1 with (fail)
 generalize w.alloc (.cells #[.slice A lo.length c, .slice B ts.length d] 27) = W at *
 go_wp2
 go_loopw [3] (fun q wr => ∃ k : Nat, k ≤ ts.length ∧ q = .int .i64 k ∧ Hid (∀ j (hj : j < k) (h : j + 1 < ts.length), fewB ts[j] ts[j + 1] = false) ∧ Hid (Below W.heap.size W wr)) (fun q _ => ts.length - (intOf q).toNat)
 case atStart => exact ⟨0, Nat.zero_le _, rfl, Lib.hid (fun j h => by omega), Lib.hid (Below.refl _ _)⟩
 case round =>
  obtain ⟨k, hk, rfl, HI, HX⟩ := hrel
  have QW := Lib.hid (box_on Q0.out HX.out)
  obtain ⟨x0, x1, x2⟩ := box2 QW.out
  by_cases hlt : k + 1 < ts.length
  ·obtain ⟨b, off, hBe, hbb, hc⟩ := (HV.out.on HX.out).node hlt
   subst hBe
   obtain ⟨A1, d1, e1, _, _, r1⟩ := hc k (by omega)
   obtain ⟨A2, d2, e2, _, _, r2⟩ := hc (k + 1) hlt
   have hl1 := sumT_mem (List.getElem_mem (show k < ts.length by omega))
   have hl2 := sumT_mem (List.getElem_mem hlt)
   have hk1 := nodeKeys_len ts[k]
   have hk2 := nodeKeys_len ts[k + 1]
   have R1 := Lib.hid r1
   have R2 := Lib.hid r2
   have E1 := Lib.hid e1
   have E2 := Lib.hid e2
   have i1 : (k : Int) + 1 < (ts.length : Int) := by omega
   have i2 : (0 : Int) ≤ (k : Int) := by omega
   have i3 : (0 : Int) ≤ (k : Int) + 1 := by omega
   have i4 : (k : Int) < (ts.length : Int) := by omega
   have i5 : ((k : Int) + 1).toNat = k + 1 := by omega
   have i6 : IntKind.i64.wrap ((k : Int) + 1) = (k : Int) + 1 := by rw [IntKind.wrap_i64]; omega
   have i7 : IntKind.i64.wrap (((nodeKeysK ts[k]).length : Int) + ((nodeKeysK ts[k + 1]).length : Int)) = ((nodeKeysK ts[k]).length : Int) + ((nodeKeysK ts[k + 1]).length : Int) := by rw [IntKind.wrap_i64]; omega
   have HFW := Lib.hid (few_iff ts[k] ts[k + 1])
   clear hc r1 r2 e1 e2 x0 x1 x2
   obtain ⟨K1, hK1⟩ : ∃ K, nodeKeysK ts[k] = K := ⟨_, rfl⟩
   obtain ⟨K2, hK2⟩ : ∃ K, nodeKeysK ts[k + 1] = K := ⟨_, rfl⟩
   rw [hK1] at i7 HFW hk1
   rw [hK2] at i7 HFW hk2
   have HK1 := Lib.hid hK1
   have HK2 := Lib.hid hK2
   clear hK1 hK2
   by_cases hf : (K1.length : Int) + (K2.length : Int) ≤ 6
   ·have HRES := Lib.hid (pair_hit hlt (HFW.out.2 hf) (fun j hj => HI.out j hj (by omega)))
    obtain ⟨x0, x1, x2⟩ := box2 QW.out
    go_wp2
    clear x0 x1 x2
    refine but_begin (f := 16) (S := fun V => Below wr.drew.heap.size wr.drew V) (by kernel_rfl) ?_
    refine but_take (f := 16) (i := 0) (v := ?vpa0) rfl (by kernel_rfl) (by kernel_rfl) (by kernel_rfl) (by kernel_rfl) (by kernel_rfl) (fun _ _ _ h => h) (Or.inl ⟨(by rfl), ?hypa0⟩) (Below.refl _ _) ?restpa0
    case hypa0 =>
     intro W hW
     go_simp
     exact rfl
    simp only [List.getElem_toArray, List.getElem_cons_succ, List.getElem_cons_zero, Act.put, List.setIfInBounds_toArray, List.set_cons_zero, List.set_cons_succ]
    refine but_take (f := 16) (i := 1) (v := ?vpa1) rfl (by kernel_rfl) (by kernel_rfl) (by kernel_rfl) (by kernel_rfl) (by kernel_rfl) (fun _ _ _ h => h) (Or.inl ⟨(by rfl), ?hypa1⟩) (Below.refl _ _) ?restpa1
    case hypa1 =>
     intro W hW
     have hb0 : Below wr.heap.size wr W := bstep (Below.drew1 _) hW
     obtain ⟨x0, x1, x2⟩ := box2 (box_on QW.out hb0)
     go_simp
     exact rfl
    simp only [List.getElem_toArray, List.getElem_cons_succ, List.getElem_cons_zero, Act.put, List.setIfInBounds_toArray, List.set_cons_zero, List.set_cons_succ]
    refine but_take (f := 16) (i := 2) (v := ?vpa2) rfl (by kernel_rfl) (by kernel_rfl) (by kernel_rfl) (by kernel_rfl) (by kernel_rfl) (fun _ _ _ h => h) (Or.inl ⟨(by rfl), ?hypa2⟩) (Below.refl _ _) ?restpa2
    case hypa2 =>
     intro W hW
     go_simp
     exact rfl
    simp only [List.getElem_toArray, List.getElem_cons_succ, List.getElem_cons_zero, Act.put, List.setIfInBounds_toArray, List.set_cons_zero, List.set_cons_succ]
    refine but_take (f := 16) (i := 3) (v := ?vpa3) rfl (by kernel_rfl) (by kernel_rfl) (by kernel_rfl) (by kernel_rfl) (by kernel_rfl) (fun _ _ _ h => h) (Or.inl ⟨(by rfl), ?hypa3⟩) (Below.refl _ _) ?restpa3
    case hypa3 =>
     intro W hW
     go_simp
     exact rfl
    simp only [List.getElem_toArray, List.getElem_cons_succ, List.getElem_cons_zero, Act.put, List.setIfInBounds_toArray, List.set_cons_zero, List.set_cons_succ]
    refine but_take (f := 16) (i := 4) (v := ?vpa4) rfl (by kernel_rfl) (by kernel_rfl) (by kernel_rfl) (by kernel_rfl) (by kernel_rfl) (fun _ _ _ h => h) (Or.inl ⟨(by rfl), ?hypa4⟩) (Below.refl _ _) ?restpa4
    case hypa4 =>
     intro W hW
     have hb0 : Below wr.heap.size wr W := bstep (Below.drew1 _) hW
     have e1 := (hb0.cell (p := ⟨b, off + k, none⟩) hbb).trans E1.out
     have e2 := (hb0.cell (p := ⟨b, off + (k + 1), none⟩) hbb).trans E2.out
     go_simp
     exact rfl
    simp only [List.getElem_toArray, List.getElem_cons_succ, List.getElem_cons_zero, Act.put, List.setIfInBounds_toArray, List.set_cons_zero, List.set_cons_succ]
    refine but_take (f := 16) (i := 7) (v := ?vpa7) rfl (by kernel_rfl) (by kernel_rfl) (by kernel_rfl) (by kernel_rfl) (by kernel_rfl) (fun _ _ _ h => h) (Or.inl ⟨(by rfl), ?hypa7⟩) (Below.refl _ _) ?restpa7
    case hypa7 =>
     intro W hW
     go_simp
     exact rfl
    simp only [List.getElem_toArray, List.getElem_cons_succ, List.getElem_cons_zero, Act.put, List.setIfInBounds_toArray, List.set_cons_zero, List.set_cons_succ]
    refine but_take (f := 16) (i := 8) (v := ?vpa8) rfl (by kernel_rfl) (by kernel_rfl) (by kernel_rfl) (by kernel_rfl) (by kernel_rfl) (fun _ _ _ h => h) (Or.inl ⟨(by rfl), ?hypa8⟩) (Below.refl _ _) ?restpa8
    case hypa8 =>
     intro W hW
     have hb0 : Below wr.heap.size wr W := bstep (Below.drew1 _) hW
     obtain ⟨x0, x1, x2⟩ := box2 (box_on QW.out hb0)
     go_simp
     exact rfl
    simp only [List.getElem_toArray, List.getElem_cons_succ, List.getElem_cons_zero, Act.put, List.setIfInBounds_toArray, List.set_cons_zero, List.set_cons_succ]
    refine but_take (f := 16) (i := 9) (v := ?vpa9) rfl (by kernel_rfl) (by kernel_rfl) (by kernel_rfl) (by kernel_rfl) (by kernel_rfl) (fun _ _ _ h => h) (Or.inl ⟨(by rfl), ?hypa9⟩) (Below.refl _ _) ?restpa9
    case hypa9 =>
     intro W hW
     go_simp
     exact rfl
    simp only [List.getElem_toArray, List.getElem_cons_succ, List.getElem_cons_zero, Act.put, List.setIfInBounds_toArray, List.set_cons_zero, List.set_cons_succ]
    refine but_take (f := 16) (i := 10) (v := ?vpa10) rfl (by kernel_rfl) (by kernel_rfl) (by kernel_rfl) (by kernel_rfl) (by kernel_rfl) (fun _ _ _ h => h) (Or.inl ⟨(by rfl), ?hypa10⟩) (Below.refl _ _) ?restpa10
    case hypa10 =>
     intro W hW
     go_simp
     exact rfl
    simp only [List.getElem_toArray, List.getElem_cons_succ, List.getElem_cons_zero, Act.put, List.setIfInBounds_toArray, List.set_cons_zero, List.set_cons_succ]
    refine but_take (f := 16) (i := 11) (v := ?vpa11) rfl (by kernel_rfl) (by kernel_rfl) (by kernel_rfl) (by kernel_rfl) (by kernel_rfl) (fun _ _ _ h => h) (Or.inl ⟨(by rfl), ?hypa11⟩) (Below.refl _ _) ?restpa11
    case hypa11 =>
     intro W hW
     go_simp
     exact rfl
    simp only [List.getElem_toArray, List.getElem_cons_succ, List.getElem_cons_zero, Act.put, List.setIfInBounds_toArray, List.set_cons_zero, List.set_cons_succ]
    refine but_take (f := 16) (i := 12) (v := ?vpa12) rfl (by kernel_rfl) (by kernel_rfl) (by kernel_rfl) (by kernel_rfl) (by kernel_rfl) (fun _ _ _ h => h) (Or.inl ⟨(by rfl), ?hypa12⟩) (Below.refl _ _) ?restpa12
    case hypa12 =>
     intro W hW
     have hb0 : Below wr.heap.size wr W := bstep (Below.drew1 _) hW
     have e1 := (hb0.cell (p := ⟨b, off + k, none⟩) hbb).trans E1.out
     have e2 := (hb0.cell (p := ⟨b, off + (k + 1), none⟩) hbb).trans E2.out
     go_simp
     exact rfl
    simp only [List.getElem_toArray, List.getElem_cons_succ, List.getElem_cons_zero, Act.put, List.setIfInBounds_toArray, List.set_cons_zero, List.set_cons_succ]
    refine but_run (i := 5) (by kernel_rfl) rfl (by rfl) ?_
    simp only [List.getElem_toArray, List.getElem_cons_succ, List.getElem_cons_zero]
    intro K HK
    go_wp2_with fail
    refine (specNodeKeys_any _ ts[k] _ (R1.out.on (bstep (Below.drew1 _) (Below.refl _ _))) (by omega) (by omega)).mono ?_
    rintro r Vpa1 ⟨va, rfl, oa, hBpa1⟩
    rw [HK1.out] at oa
    obtain ⟨Aa, ca, rfl, _, _⟩ := oa.shape
    clear oa
    have hSpa1 := bstep (Below.refl _ _) hBpa1
    go_wp2_with fail
    refine HK.out _ Vpa1 (fun _ => hSpa1) ?_
    clear HK
    refine but_take (f := 16) (i := 6) (v := ?vpa6) rfl (by kernel_rfl) (by kernel_rfl) (by kernel_rfl) (by kernel_rfl) (by kernel_rfl) (fun _ _ _ h => h) (Or.inl ⟨(by rfl), ?hypa6⟩) hSpa1 ?restpa6
    case hypa6 =>
     intro W hW
     go_simp
     exact rfl
    simp only [List.getElem_toArray, List.getElem_cons_succ, List.getElem_cons_zero, Act.put, List.setIfInBounds_toArray, List.set_cons_zero, List.set_cons_succ]
    refine but_run (i := 13) (by kernel_rfl) rfl (by rfl) ?_
    simp only [List.getElem_toArray, List.getElem_cons_succ, List.getElem_cons_zero]
    intro K HK
    go_wp2_with fail
    refine (specNodeKeys_any _ ts[k + 1] _ (R2.out.on (bstep (Below.drew1 _) hSpa1)) (by omega) (by omega)).mono ?_
    rintro r Vpa2 ⟨vb, rfl, ob, hBpa2⟩
    rw [HK2.out] at ob
    obtain ⟨Ab, cb, rfl, _, _⟩ := ob.shape
    clear ob
    have hSpa2 := bstep hSpa1 hBpa2
    go_wp2_with fail
    refine HK.out _ Vpa2 (fun _ => hSpa2) ?_
    clear HK
    refine but_take (f := 16) (i := 14) (v := ?vpa14) rfl (by kernel_rfl) (by kernel_rfl) (by kernel_rfl) (by kernel_rfl) (by kernel_rfl) (fun _ _ _ h => h) (Or.inl ⟨(by rfl), ?hypa14⟩) hSpa2 ?restpa14
    case hypa14 =>
     intro W hW
     go_simp
     exact rfl
    simp only [List.getElem_toArray, List.getElem_cons_succ, List.getElem_cons_zero, Act.put, List.setIfInBounds_toArray, List.set_cons_zero, List.set_cons_succ]
    refine but_take (f := 16) (i := 15) (v := ?vpa15) rfl (by kernel_rfl) (by kernel_rfl) (by kernel_rfl) (by kernel_rfl) (by kernel_rfl) (fun _ _ _ h => h) (Or.inl ⟨(by rfl), ?hypa15⟩) hSpa2 ?restpa15
    case hypa15 =>
     intro W hW
     go_simp
     exact rfl
    simp only [List.getElem_toArray, List.getElem_cons_succ, List.getElem_cons_zero, Act.put, List.setIfInBounds_toArray, List.set_cons_zero, List.set_cons_succ]
    refine but_run (i := 16) (by kernel_rfl) rfl (by rfl) ?_
    simp only [List.getElem_toArray, List.getElem_cons_succ, List.getElem_cons_zero]
    intro K HK
    go_wp2_with fail
    refine HK.out _ Vpa2 (fun h => absurd rfl h) ?_
    clear HK
    refine but_done (by kernel_rfl) ?_
    go_wp2_with fail
    go_ret
    exact ⟨by rw [HRES.out]; rfl, bstep HB.out (bstep HX.out (bstep (Below.drew1 _) hSpa2))⟩
   ·have hf' : (6 : Int) < (K1.length : Int) + (K2.length : Int) := by omega
    have HNX : Hid (∀ j (hj : j < k + 1) (h : j + 1 < ts.length), fewB ts[j] ts[j + 1] = false) := Lib.hid (fun j hj h => by
     rcases Nat.lt_or_ge j k with h' | h'
     ·exact HI.out j h' h
     ·have e : j = k := by omega
      subst e
      cases hfe : fewB ts[j] ts[j + 1]
      ·rfl
      ·exact absurd (HFW.out.1 hfe) hf)
    clear hf
    obtain ⟨x0, x1, x2⟩ := box2 QW.out
    go_wp2
    clear x0 x1 x2
    refine but_begin (f := 16) (S := fun V => Below wr.drew.heap.size wr.drew V) (by kernel_rfl) ?_
    refine but_take (f := 16) (i := 0) (v := ?vpb0) rfl (by kernel_rfl) (by kernel_rfl) (by kernel_rfl) (by kernel_rfl) (by kernel_rfl) (fun _ _ _ h => h) (Or.inl ⟨(by rfl), ?hypb0⟩) (Below.refl _ _) ?restpb0
    case hypb0 =>
     intro W hW
     go_simp
     exact rfl
    simp only [List.getElem_toArray, List.getElem_cons_succ, List.getElem_cons_zero, Act.put, List.setIfInBounds_toArray, List.set_cons_zero, List.set_cons_succ]
    refine but_take (f := 16) (i := 1) (v := ?vpb1) rfl (by kernel_rfl) (by kernel_rfl) (by kernel_rfl) (by kernel_rfl) (by kernel_rfl) (fun _ _ _ h => h) (Or.inl ⟨(by rfl), ?hypb1⟩) (Below.refl _ _) ?restpb1
    case hypb1 =>
     intro W hW
     have hb0 : Below wr.heap.size wr W := bstep (Below.drew1 _) hW
     obtain ⟨x0, x1, x2⟩ := box2 (box_on QW.out hb0)
     go_simp
     exact rfl
    simp only [List.getElem_toArray, List.getElem_cons_succ, List.getElem_cons_zero, Act.put, List.setIfInBounds_toArray, List.set_cons_zero, List.set_cons_succ]
    refine but_take (f := 16) (i := 2) (v := ?vpb2) rfl (by kernel_rfl) (by kernel_rfl) (by kernel_rfl) (by kernel_rfl) (by kernel_rfl) (fun _ _ _ h => h) (Or.inl ⟨(by rfl), ?hypb2⟩) (Below.refl _ _) ?restpb2
    case hypb2 =>
     intro W hW
     go_simp
     exact rfl
    simp only [List.getElem_toArray, List.getElem_cons_succ, List.getElem_cons_zero, Act.put, List.setIfInBounds_toArray, List.set_cons_zero, List.set_cons_succ]
    refine but_take (f := 16) (i := 3) (v := ?vpb3) rfl (by kernel_rfl) (by kernel_rfl) (by kernel_rfl) (by kernel_rfl) (by kernel_rfl) (fun _ _ _ h => h) (Or.inl ⟨(by rfl), ?hypb3⟩) (Below.refl _ _) ?restpb3
    case hypb3 =>
     intro W hW
     go_simp
     exact rfl
    simp only [List.getElem_toArray, List.getElem_cons_succ, List.getElem_cons_zero, Act.put, List.setIfInBounds_toArray, List.set_cons_zero, List.set_cons_succ]
    refine but_take (f := 16) (i := 4) (v := ?vpb4) rfl (by kernel_rfl) (by kernel_rfl) (by kernel_rfl) (by kernel_rfl) (by kernel_rfl) (fun _ _ _ h => h) (Or.inl ⟨(by rfl), ?hypb4⟩) (Below.refl _ _) ?restpb4
    case hypb4 =>
     intro W hW
     have hb0 : Below wr.heap.size wr W := bstep (Below.drew1 _) hW
     have e1 := (hb0.cell (p := ⟨b, off + k, none⟩) hbb).trans E1.out
     have e2 := (hb0.cell (p := ⟨b, off + (k + 1), none⟩) hbb).trans E2.out
     go_simp
     exact rfl
    simp only [List.getElem_toArray, List.getElem_cons_succ, List.getElem_cons_zero, Act.put, List.setIfInBounds_toArray, List.set_cons_zero, List.set_cons_succ]
    refine but_take (f := 16) (i := 7) (v := ?vpb7) rfl (by kernel_rfl) (by kernel_rfl) (by kernel_rfl) (by kernel_rfl) (by kernel_rfl) (fun _ _ _ h => h) (Or.inl ⟨(by rfl), ?hypb7⟩) (Below.refl _ _) ?restpb7
    case hypb7 =>
     intro W hW
     go_simp
     exact rfl
    simp only [List.getElem_toArray, List.getElem_cons_succ, List.getElem_cons_zero, Act.put, List.setIfInBounds_toArray, List.set_cons_zero, List.set_cons_succ]
    refine but_take (f := 16) (i := 8) (v := ?vpb8) rfl (by kernel_rfl) (by kernel_rfl) (by kernel_rfl) (by kernel_rfl) (by kernel_rfl) (fun _ _ _ h => h) (Or.inl ⟨(by rfl), ?hypb8⟩) (Below.refl _ _) ?restpb8
    case hypb8 =>
     intro W hW
     have hb0 : Below wr.heap.size wr W := bstep (Below.drew1 _) hW
     obtain ⟨x0, x1, x2⟩ := box2 (box_on QW.out hb0)
     go_simp
     exact rfl
    simp only [List.getElem_toArray, List.getElem_cons_succ, List.getElem_cons_zero, Act.put, List.setIfInBounds_toArray, List.set_cons_zero, List.set_cons_succ]
    refine but_take (f := 16) (i := 9) (v := ?vpb9) rfl (by kernel_rfl) (by kernel_rfl) (by kernel_rfl) (by kernel_rfl) (by kernel_rfl) (fun _ _ _ h => h) (Or.inl ⟨(by rfl), ?hypb9⟩) (Below.refl _ _) ?restpb9
    case hypb9 =>
     intro W hW
     go_simp
     exact rfl
    simp only [List.getElem_toArray, List.getElem_cons_succ, List.getElem_cons_zero, Act.put, List.setIfInBounds_toArray, List.set_cons_zero, List.set_cons_succ]
    refine but_take (f := 16) (i := 10) (v := ?vpb10) rfl (by kernel_rfl) (by kernel_rfl) (by kernel_rfl) (by kernel_rfl) (by kernel_rfl) (fun _ _ _ h => h) (Or.inl ⟨(by rfl), ?hypb10⟩) (Below.refl _ _) ?restpb10
    case hypb10 =>
     intro W hW
     go_simp
     exact rfl
    simp only [List.getElem_toArray, List.getElem_cons_succ, List.getElem_cons_zero, Act.put, List.setIfInBounds_toArray, List.set_cons_zero, List.set_cons_succ]
    refine but_take (f := 16) (i := 11) (v := ?vpb11) rfl (by kernel_rfl) (by kernel_rfl) (by kernel_rfl) (by kernel_rfl) (by kernel_rfl) (fun _ _ _ h => h) (Or.inl ⟨(by rfl), ?hypb11⟩) (Below.refl _ _) ?restpb11
    case hypb11 =>
     intro W hW
     go_simp
     exact rfl
    simp only [List.getElem_toArray, List.getElem_cons_succ, List.getElem_cons_zero, Act.put, List.setIfInBounds_toArray, List.set_cons_zero, List.set_cons_succ]
    refine but_take (f := 16) (i := 12) (v := ?vpb12) rfl (by kernel_rfl) (by kernel_rfl) (by kernel_rfl) (by kernel_rfl) (by kernel_rfl) (fun _ _ _ h => h) (Or.inl ⟨(by rfl), ?hypb12⟩) (Below.refl _ _) ?restpb12
    case hypb12 =>
     intro W hW
     have hb0 : Below wr.heap.size wr W := bstep (Below.drew1 _) hW
     have e1 := (hb0.cell (p := ⟨b, off + k, none⟩) hbb).trans E1.out
     have e2 := (hb0.cell (p := ⟨b, off + (k + 1), none⟩) hbb).trans E2.out
     go_simp
     exact rfl
    simp only [List.getElem_toArray, List.getElem_cons_succ, List.getElem_cons_zero, Act.put, List.setIfInBounds_toArray, List.set_cons_zero, List.set_cons_succ]
    refine but_run (i := 5) (by kernel_rfl) rfl (by rfl) ?_
    simp only [List.getElem_toArray, List.getElem_cons_succ, List.getElem_cons_zero]
    intro K HK
    go_wp2_with fail
    refine (specNodeKeys_any _ ts[k] _ (R1.out.on (bstep (Below.drew1 _) (Below.refl _ _))) (by omega) (by omega)).mono ?_
    rintro r Vpb1 ⟨va, rfl, oa, hBpb1⟩
    rw [HK1.out] at oa
    obtain ⟨Aa, ca, rfl, _, _⟩ := oa.shape
    clear oa
    have hSpb1 := bstep (Below.refl _ _) hBpb1
    go_wp2_with fail
    refine HK.out _ Vpb1 (fun _ => hSpb1) ?_
    clear HK
    refine but_take (f := 16) (i := 6) (v := ?vpb6) rfl (by kernel_rfl) (by kernel_rfl) (by kernel_rfl) (by kernel_rfl) (by kernel_rfl) (fun _ _ _ h => h) (Or.inl ⟨(by rfl), ?hypb6⟩) hSpb1 ?restpb6
    case hypb6 =>
     intro W hW
     go_simp
     exact rfl
    simp only [List.getElem_toArray, List.getElem_cons_succ, List.getElem_cons_zero, Act.put, List.setIfInBounds_toArray, List.set_cons_zero, List.set_cons_succ]
    refine but_run (i := 13) (by kernel_rfl) rfl (by rfl) ?_
    simp only [List.getElem_toArray, List.getElem_cons_succ, List.getElem_cons_zero]
    intro K HK
    go_wp2_with fail
    refine (specNodeKeys_any _ ts[k + 1] _ (R2.out.on (bstep (Below.drew1 _) hSpb1)) (by omega) (by omega)).mono ?_
    rintro r Vpb2 ⟨vb, rfl, ob, hBpb2⟩
    rw [HK2.out] at ob
    obtain ⟨Ab, cb, rfl, _, _⟩ := ob.shape
    clear ob
    have hSpb2 := bstep hSpb1 hBpb2
    go_wp2_with fail
    refine HK.out _ Vpb2 (fun _ => hSpb2) ?_
    clear HK
    refine but_take (f := 16) (i := 14) (v := ?vpb14) rfl (by kernel_rfl) (by kernel_rfl) (by kernel_rfl) (by kernel_rfl) (by kernel_rfl) (fun _ _ _ h => h) (Or.inl ⟨(by rfl), ?hypb14⟩) hSpb2 ?restpb14
    case hypb14 =>
     intro W hW
     go_simp
     exact rfl
    simp only [List.getElem_toArray, List.getElem_cons_succ, List.getElem_cons_zero, Act.put, List.setIfInBounds_toArray, List.set_cons_zero, List.set_cons_succ]
    refine but_take (f := 16) (i := 15) (v := ?vpb15) rfl (by kernel_rfl) (by kernel_rfl) (by kernel_rfl) (by kernel_rfl) (by kernel_rfl) (fun _ _ _ h => h) (Or.inl ⟨(by rfl), ?hypb15⟩) hSpb2 ?restpb15
    case hypb15 =>
     intro W hW
     go_simp
     exact rfl
    simp only [List.getElem_toArray, List.getElem_cons_succ, List.getElem_cons_zero, Act.put, List.setIfInBounds_toArray, List.set_cons_zero, List.set_cons_succ]
    refine but_run (i := 16) (by kernel_rfl) rfl (by rfl) ?_
    simp only [List.getElem_toArray, List.getElem_cons_succ, List.getElem_cons_zero]
    intro K HK
    go_wp2_with fail
    refine HK.out _ Vpb2 (fun h => absurd rfl h) ?_
    clear HK
    refine but_done (by kernel_rfl) ?_
    go_wp2_with fail
    go_roundw
    case rel => exact ⟨k + 1, by omega, by go_num, HNX, Lib.hid (bstep HX.out (bstep (Below.drew1 _) hSpb2))⟩
    case measure => simp [intOf]; omega
  ·have i1 : ¬ (k : Int) + 1 < (ts.length : Int) := by omega
   have i6 : IntKind.i64.wrap ((k : Int) + 1) = (k : Int) + 1 := by rw [IntKind.wrap_i64]; omega
   have HRES := Lib.hid (pair_miss (fun j hj => HI.out j (by omega) hj))
   go_wp2
   go_ret
   exact ⟨by rw [HRES.out]; rfl, bstep HB.out HX.out⟩
end Go.Proofs.YthopkhpiikiknaaGreat
