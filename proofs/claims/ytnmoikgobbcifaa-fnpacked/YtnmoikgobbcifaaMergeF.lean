/- Several texts in one: Packed. -/
import Derived.Test.YtnmoikgobbcifaaMergeE
import Derived.Test.YtnmoikgobbcifaaTreeIOk
import Derived.Test.YtnmoikgobbcifaaMergeA
/- The walk of FnPacked: at every code the call returns true and writes nothing that was there. No condition. -/
namespace Go.Proofs.Ytnmoikgobbcifaa
open Go.RowKit
set_option maxRecDepth 100000
set_option linter.unusedSimpArgs false
set_option linter.unusedVariables false
theorem newest_mem {r : List (List KeyD)} {p q : Int} {x : KeyD} (h : newest r p q = some x) : ∃ l ∈ r, x ∈ l := by
  induction r with
  | nil => cases h
  | cons l r ih =>
    unfold newest at h
    cases ha : atK l p q with
    | some y =>
      rw [ha] at h
      simp at h
      subst h
      exact ⟨l, by simp, (at_mem ha).1⟩
    | none =>
      rw [ha] at h
      simp at h
      obtain ⟨l', h1, h2⟩ := ih h
      exact ⟨l', by simp [h1], h2⟩
theorem keys_mem {ns : NodeD} (h : FineN ns) {x : KeyD} (hx : x ∈ nodeKeysK ns) : ∃ l ∈ ns, x ∈ l := by
  have h1 := key_there h hx
  rw [nodeAt_new] at h1
  have h2 : newest ns.reverse x.a x.b = some x := by
    cases hn : newest ns.reverse x.a x.b with
    | none => rw [hn] at h1; cases h1
    | some y =>
      rw [hn] at h1
      unfold pickO at h1
      simp only at h1
      split at h1
      · cases h1
      · exact h1
  obtain ⟨l, h3, h4⟩ := newest_mem h2
  exact ⟨l, List.mem_reverse.1 h3, h4⟩
theorem pack_tree_keys {ts : List NodeD} {i : Nat} (hi : i < ts.length) : treeKeysK (ts.set i (nodePackK ts[i])) = treeKeysK ts := by
  unfold treeKeysK
  rw [List.map_set, pack_keys]
  congr 1
  refine List.ext_getElem (by simp) (fun j h1 h2 => ?_)
  by_cases hij : i = j
  · subst hij; simp
  · simp [List.getElem_set_ne hij]
theorem pack_tree_ok {lo : List Int} {ts : List NodeD} (h : treeOkB lo ts = true) {i : Nat} (hi : i < ts.length) : treeOkB lo (ts.set i (nodePackK ts[i])) = true := by
  have hp : TreeP lo ts := of_decide_eq_true h
  obtain ⟨h1, h2, h3, h4, h5, h6, h7⟩ := hp
  refine decide_eq_true ⟨by simpa using h1, by simpa using h2, by simpa using h3, h4, h5, fun j hj => ?_, by rw [pack_tree_keys hi]; exact h7⟩
  rw [List.length_set] at hj
  rw [getD_node (by simpa using hj)]
  by_cases hij : i = j
  · subst hij
    rw [List.getElem_set_self]
    have hf : FitP lo i ts[i] := fit_at (of_decide_eq_true h) hi
    refine decide_eq_true ⟨pack_ok hf.1, by rw [pack_keys]; exact hf.2.1, fun l hl x hx => ?_⟩
    have hl2 : l = nodeKeysK ts[i] := by
      unfold nodePackK nodeNewK at hl
      split at hl
      · simp at hl
      · simpa using hl
    rw [hl2] at hx
    obtain ⟨l', h8, h9⟩ := keys_mem (fine_of hf.1) hx
    exact hf.2.2 l' h8 x h9
  · rw [List.getElem_set_ne hij]
    have := h6 j hj
    rw [getD_node hj] at this
    exact this
set_option maxHeartbeats 1000000 in
theorem sameInts_same (v u : Value) (l : List Int) (w : World) (hv : Reads w w.heap.size v (intsD l)) (hu : Reads w w.heap.size u (intsD l)) (hn : l.length ≤ 1100000) :
    Calls Try.prog 19 #[v, u] w (SaysBool w true) := by
  obtain ⟨A, c, rfl, _, _⟩ := hv.lenN
  obtain ⟨A', c', rfl, _, _⟩ := hu.lenN
  have hne : ((l.length : Int) != (l.length : Int)) = false := by simp
  have HV := Lib.hid hv
  have HU := Lib.hid hu
  clear hv hu
  go_enter Try.func19, Try.ntmps19
  go_wp2
  go_loopw [5] (fun i wr => ∃ k : Nat, k ≤ l.length ∧ i = .int .i64 k ∧ Hid (Below w.heap.size w wr)) (fun i _ => l.length - (intOf i).toNat)
  case atStart => exact ⟨0, Nat.zero_le _, rfl, Lib.hid (Below.refl _ _)⟩
  case round =>
    obtain ⟨k, hk, rfl, HB⟩ := hrel
    by_cases hlt : k < l.length
    · obtain ⟨b, off, rfl, hbb, hc⟩ := (HV.out.on HB.out).int hlt
      obtain ⟨b2, off2, rfl, hbb2, hc2⟩ := (HU.out.on HB.out).int hlt
      have c1 := hc k hlt
      have c2 := hc2 k hlt
      unfold iV at c1 c2
      clear hc hc2
      have i1 : (k : Int) < (l.length : Int) := by omega
      have i2 : (0 : Int) ≤ (k : Int) := by omega
      have hne2 : (l[k] != l[k]) = false := by simp
      go_wp2
      go_still_tail 8, (by kernel_rfl)
      change wpList _ _ _ _ _ wr.drew
      have HB1 := Lib.hid (bstep HB.out (Below.drew1 _))
      generalize wr.drew = wd at *
      go_wp2
      go_roundw
      case rel => exact ⟨k + 1, by omega, by go_num, HB1⟩
      case measure => simp [intOf]; omega
    · go_wp2
      go_ret
      exact ⟨rfl, HB.out⟩
theorem at_bel (A : Option Addr) (cap : Nat) (l : List UInt8) (i : Nat) (w : World) (hr : Rd w w.heap.size A l) (hn : l.length ≤ 1048576) (hi : i ≤ 1048576) : Calls Try.prog 13 #[.slice A l.length cap, .int .i64 (i : Int)] w fun e w' => ∃ x : Nat, x ≤ 255 ∧ e = .returned (.int .i64 (x : Int)) ∧ Below w.heap.size w w' := by
  refine (at_any A cap l i w hr hn hi).mono ?_
  rintro r _ ⟨x, hx, rfl, rfl⟩
  exact ⟨x, hx, rfl, Below.refl _ _⟩
set_option maxHeartbeats 20000000 in
theorem packed_walk (a0 : Option Addr) (len0 cap0 : Nat) (z0 : List Int) (w : World) (w0 : CameIn .u8 w a0 len0 cap0 z0) :
    Calls Try.prog 3 #[.slice a0 len0 cap0] w fun e w' => e = .returned (.bool true) ∧ Below w.heap.size w w' := by
  obtain ⟨l, rfl, hr⟩ := w0.rd
  clear w0
  by_cases hbig : l.length ≤ 1048576
  · have d0 : decide ((1048576 : Int) < (l.length : Int)) = false := decide_eq_false (by omega)
    have HDT := Lib.hid (drawTree_any a0 cap0 l w hr hbig)
    unfold DTree KeyD.v keyV at HDT
    have HR := Lib.hid hr
    clear hr
    go_enter Try.func3, Try.ntmps3
    go_wp2_with fail
    refine (big_any _ _ _ _).mono ?_
    rintro r w1 ⟨rfl, rfl⟩
    rw [d0]
    clear d0
    go_wp2_with fail
    refine HDT.out.mono ?_
    rintro r w1 ⟨vl, vn, lo, ts, x, rfl, oT, hok, _, bd⟩
    obtain ⟨AT, cT, BT, dT, rfl, rfl⟩ := oT.reads.shape
    have hsm := treeP_small hok
    have hts : 1 ≤ ts.length := (of_decide_eq_true hok : TreeP lo ts).1
    have ba := bal2 w1 (.cells #[.slice AT lo.length cT, .slice BT ts.length dT] 27) (.cells #[.int .i64 x.a, .int .i64 x.b, .int .i64 x.c, .int .i64 x.d, .int .i64 x.e] 29)
    obtain ⟨q0, q1⟩ := al2 w1 (.cells #[.slice AT lo.length cT, .slice BT ts.length dT] 27) (.cells #[.int .i64 x.a, .int .i64 x.b, .int .i64 x.c, .int .i64 x.d, .int .i64 x.e] 29)
    have QT := Lib.hid q0
    have OT := Lib.hid (oT.c.on ba)
    have BB := Lib.hid (bstep bd ba)
    have HOK := Lib.hid hok
    replace HR := Lib.hid (HR.out.on BB.out)
    have hz0 : w1.heap.size < ((w1.alloc (.cells #[.slice AT lo.length cT, .slice BT ts.length dT] 27)).alloc (.cells #[.int .i64 x.a, .int .i64 x.b, .int .i64 x.c, .int .i64 x.d, .int .i64 x.e] 29)).heap.size := by simp; omega
    clear oT bd ba q0 q1 HDT hok
    go_upto_region 4 with (fail)
    generalize (w1.alloc (.cells #[.slice AT lo.length cT, .slice BT ts.length dT] 27)).alloc (.cells #[.int .i64 x.a, .int .i64 x.b, .int .i64 x.c, .int .i64 x.d, .int .i64 x.e] 29) = W1 at *
    obtain ⟨x0, x1, x2⟩ := box2 QT.out
    have n0 : ((ts.length : Int) == 0) = false := by rw [beq_eq_false_iff_ne]; omega
    have n1 : ¬ (ts.length : Int) = 0 := by omega
    have n2 : ¬ ts = [] := by rintro rfl; simp at hts
    go_cut [5] (fun s5 wx => ∃ i : Nat, i < ts.length ∧ s5 = .int .i64 (i : Int) ∧ Hid (Below W1.heap.size W1 wx))
    case first =>
      refine but_begin (f := 6) (S := fun V => Below W1.drew.heap.size W1.drew V) (by kernel_rfl) ?_
      refine but_take (f := 6) (i := 0) (v := ?va0) rfl (by kernel_rfl) (by kernel_rfl) (by kernel_rfl) (by kernel_rfl) (by kernel_rfl) (fun _ _ _ h => h) (Or.inl ⟨(by rfl), ?hya0⟩) (Below.refl _ _) ?resta0
      case hya0 =>
        intro W hW
        go_simp
        exact rfl
      simp only [List.getElem_toArray, List.getElem_cons_succ, List.getElem_cons_zero, Act.put, List.setIfInBounds_toArray, List.set_cons_zero, List.set_cons_succ]
      refine but_take (f := 6) (i := 2) (v := ?va2) rfl (by kernel_rfl) (by kernel_rfl) (by kernel_rfl) (by kernel_rfl) (by kernel_rfl) (fun _ _ _ h => h) (Or.inl ⟨(by rfl), ?hya2⟩) (Below.refl _ _) ?resta2
      case hya2 =>
        intro W hW
        go_simp
        exact rfl
      simp only [List.getElem_toArray, List.getElem_cons_succ, List.getElem_cons_zero, Act.put, List.setIfInBounds_toArray, List.set_cons_zero, List.set_cons_succ]
      refine but_take (f := 6) (i := 3) (v := ?va3) rfl (by kernel_rfl) (by kernel_rfl) (by kernel_rfl) (by kernel_rfl) (by kernel_rfl) (fun _ _ _ h => h) (Or.inl ⟨(by rfl), ?hya3⟩) (Below.refl _ _) ?resta3
      case hya3 =>
        intro W hW
        have hb0 : Below W1.heap.size W1 W := bstep (Below.drew1 _) hW
        obtain ⟨x0, x1, x2⟩ := box2 (box_on QT.out hb0)
        go_simp
        exact rfl
      simp only [List.getElem_toArray, List.getElem_cons_succ, List.getElem_cons_zero, Act.put, List.setIfInBounds_toArray, List.set_cons_zero, List.set_cons_succ]
      refine but_take (f := 6) (i := 4) (v := ?va4) rfl (by kernel_rfl) (by kernel_rfl) (by kernel_rfl) (by kernel_rfl) (by kernel_rfl) (fun _ _ _ h => h) (Or.inl ⟨(by rfl), ?hya4⟩) (Below.refl _ _) ?resta4
      case hya4 =>
        intro W hW
        go_simp
        exact rfl
      simp only [List.getElem_toArray, List.getElem_cons_succ, List.getElem_cons_zero, Act.put, List.setIfInBounds_toArray, List.set_cons_zero, List.set_cons_succ]
      refine but_run (i := 1) (by kernel_rfl) rfl (by rfl) ?_
      simp only [List.getElem_toArray, List.getElem_cons_succ, List.getElem_cons_zero]
      intro K HK
      go_wp2_with fail
      refine (at_bel _ _ l 2 _ (HR.out.on (bstep (Below.drew1 _) (Below.refl _ _))) hbig (by omega)).mono ?_
      rintro r Va1 ⟨xv, hxv, rfl, hBa1⟩
      have hSa1 := bstep (Below.refl _ _) hBa1
      go_wp2_with fail
      refine HK.out _ Va1 (fun _ => hSa1) ?_
      clear HK
      refine but_take (f := 6) (i := 5) (v := ?va5) rfl (by kernel_rfl) (by kernel_rfl) (by kernel_rfl) (by kernel_rfl) (by kernel_rfl) (fun _ _ _ h => h) (Or.inl ⟨(by rfl), ?hya5⟩) hSa1 ?resta5
      case hya5 =>
        intro W hW
        go_simp
        exact rfl
      simp only [List.getElem_toArray, List.getElem_cons_succ, List.getElem_cons_zero, Act.put, List.setIfInBounds_toArray, List.set_cons_zero, List.set_cons_succ]
      refine but_run (i := 6) (by kernel_rfl) rfl (by rfl) ?_
      simp only [List.getElem_toArray, List.getElem_cons_succ, List.getElem_cons_zero]
      intro K HK
      go_wp2_with fail
      refine HK.out _ Va1 (fun h => absurd rfl h) ?_
      clear HK
      refine but_done (by kernel_rfl) ?_
      have hmod : ((xv : Int).tmod (ts.length : Int)) = ((xv % ts.length : Nat) : Int) := rfl
      go_wp2_with fail
      go_meet
      exact ⟨xv % ts.length, Nat.mod_lt _ (by omega), by rw [← hmod], Lib.hid (bstep (Below.drew1 _) hSa1)⟩
    case rest =>
      obtain ⟨i, hi, rfl, BX⟩ := hcut
      obtain ⟨W2, rfl⟩ : ∃ W, W = wc := ⟨_, rfl⟩
      replace QT := Lib.hid (box_on QT.out BX.out)
      replace OT := Lib.hid (OT.out.on BX.out)
      replace BB := Lib.hid (bstep BB.out BX.out)
      have hz1 := BX.out.size
      clear BX HR x0 x1 x2
      obtain ⟨rt, hrt⟩ : ∃ rt, treePackK ts (i : Int) = rt := ⟨_, rfl⟩
      have hre : rt = ts.set i (nodePackK ts[i]) := by rw [← hrt, treePackK, if_pos ⟨by omega, by omega⟩, show ((i : Int)).toNat = i from rfl, getD_node hi]
      have HPK : Hid (treeOkB lo rt = true ∧ treeKeysK rt = treeKeysK ts) := Lib.hid (by rw [hre]; exact ⟨pack_tree_ok HOK.out hi, pack_tree_keys hi⟩)
      have hsr := treePack_small ts (i : Int)
      rw [hrt] at hsr
      have hsr1 := Nat.le_of_eq hsr.1
      have hsr2 := hsr.2
      obtain ⟨KK, hKK⟩ : ∃ K, treeKeysK ts = K := ⟨_, rfl⟩
      have hkk := treeKeys_len ts
      rw [hKK] at HPK hkk
      have HKK := Lib.hid hKK
      have HRT := Lib.hid hrt
      clear hrt hre hsr hKK
      obtain ⟨x0, x1, x2⟩ := box2 QT.out
      go_wp2_with fail
      refine (implTreePack_any _ _ lo ts (i : Int) _ OT.out.reads ⟨by omega, by omega, by omega⟩ (by omega)).mono ?_
      rintro r w5 ⟨vlx, vnx, rfl, ox, b5⟩
      rw [HRT.out] at ox
      obtain ⟨AX, cX, BX, dX, rfl, rfl⟩ := ox.reads.shape
      clear x0 x1 x2
      have ba := bal1 w5 (.cells #[.slice AX lo.length cX, .slice BX rt.length dX] 27)
      have QX := Lib.hid (al1 w5 (.cells #[.slice AX lo.length cX, .slice BX rt.length dX] 27))
      have OX := Lib.hid (ox.c.on ba)
      replace QT := Lib.hid (box_on (box_on QT.out b5) ba)
      replace OT := Lib.hid ((OT.out.on b5).on ba)
      replace BB := Lib.hid (bstep (bstep BB.out b5) ba)
      clear ox b5 ba
      go_upto_region 6 with (fail)
      generalize w5.alloc (.cells #[.slice AX lo.length cX, .slice BX rt.length dX] 27) = W5 at *
      go_wp2_with fail
      refine (implTreeNew_any _).mono ?_
      rintro r w6 ⟨vly, vny, rfl, oy, b6⟩
      obtain ⟨yl, hyl⟩ : ∃ l, l = [(0 : Int)] := ⟨_, rfl⟩
      obtain ⟨yn, hyn⟩ : ∃ l, l = [([] : NodeD)] := ⟨_, rfl⟩
      have HY : Hid (treeOkB yl yn = true ∧ treeKeysK yn = []) := Lib.hid (by rw [hyl, hyn]; exact ⟨ok_newT, rfl⟩)
      have hsy : yl.length ≤ 20 ∧ yn.length ≤ 20 ∧ sumT yn ≤ 220 := treeP_small HY.out.1
      rw [← hyl, ← hyn] at oy
      clear hyl hyn
      obtain ⟨AY, cY, BY, dY, rfl, rfl⟩ := oy.reads.shape
      have ba := bal1 w6 (.cells #[.slice AY yl.length cY, .slice BY yn.length dY] 27)
      have QY := Lib.hid (al1 w6 (.cells #[.slice AY yl.length cY, .slice BY yn.length dY] 27))
      have OY := Lib.hid (oy.c.on ba)
      replace QX := Lib.hid (box_on (box_on QX.out b6) ba)
      replace OX := Lib.hid ((OX.out.on b6).on ba)
      replace QT := Lib.hid (box_on (box_on QT.out b6) ba)
      replace OT := Lib.hid ((OT.out.on b6).on ba)
      replace BB := Lib.hid (bstep (bstep BB.out b6) ba)
      clear oy b6 ba
      go_upto_region 7 with (fail)
      generalize w6.alloc (.cells #[.slice AY yl.length cY, .slice BY yn.length dY] 27) = W6 at *
      refine but_begin (f := 26) (S := fun V => Below W6.drew.heap.size W6.drew V) (by kernel_rfl) ?_
      refine but_take (f := 26) (i := 0) (v := ?vb0) rfl (by kernel_rfl) (by kernel_rfl) (by kernel_rfl) (by kernel_rfl) (by kernel_rfl) (fun _ _ _ h => h) (Or.inl ⟨(by rfl), ?hyb0⟩) (Below.refl _ _) ?restb0
      case hyb0 =>
        intro W hW
        have hb0 : Below W6.heap.size W6 W := bstep (Below.drew1 _) hW
        obtain ⟨x0, x1, x2⟩ := box2 (box_on QX.out hb0)
        obtain ⟨t0, t1, t2⟩ := box2 (box_on QT.out hb0)
        obtain ⟨y0, y1, y2⟩ := box2 (box_on QY.out hb0)
        go_simp
        exact rfl
      simp only [List.getElem_toArray, List.getElem_cons_succ, List.getElem_cons_zero, Act.put, List.setIfInBounds_toArray, List.set_cons_zero, List.set_cons_succ]
      refine but_run (i := 1) (by kernel_rfl) rfl (by rfl) ?_
      simp only [List.getElem_toArray, List.getElem_cons_succ, List.getElem_cons_zero]
      intro K HK
      go_wp2_with fail
      refine (implTreeOk_any _ _ lo rt _ (OX.out.on (bstep (Below.drew1 _) (Below.refl _ _))).reads (by omega) (by omega) (by omega)).mono ?_
      rintro r Vb1 ⟨rfl, hBb1⟩
      rw [HPK.out.1]
      have hSb1 := bstep (Below.refl _ _) hBb1
      go_wp2_with fail
      refine HK.out _ Vb1 (fun _ => hSb1) ?_
      clear HK
      refine but_take (f := 26) (i := 2) (v := ?vb2) rfl (by kernel_rfl) (by kernel_rfl) (by kernel_rfl) (by kernel_rfl) (by kernel_rfl) (fun _ _ _ h => h) (Or.inl ⟨(by rfl), ?hyb2⟩) hSb1 ?restb2
      case hyb2 =>
        intro W hW
        go_simp
        exact rfl
      simp only [List.getElem_toArray, List.getElem_cons_succ, List.getElem_cons_zero, Act.put, List.setIfInBounds_toArray, List.set_cons_zero, List.set_cons_succ]
      refine but_take (f := 26) (i := 3) (v := ?vb3) rfl (by kernel_rfl) (by kernel_rfl) (by kernel_rfl) (by kernel_rfl) (by kernel_rfl) (fun _ _ _ h => h) (Or.inl ⟨((wanted_at rfl rfl rfl rfl).trans rfl), ?hyb3⟩) hSb1 ?restb3
      case hyb3 =>
        intro W hW
        have hb0 : Below W6.heap.size W6 W := bstep (Below.drew1 _) hW
        obtain ⟨x0, x1, x2⟩ := box2 (box_on QX.out hb0)
        obtain ⟨t0, t1, t2⟩ := box2 (box_on QT.out hb0)
        obtain ⟨y0, y1, y2⟩ := box2 (box_on QY.out hb0)
        go_simp
        exact rfl
      simp only [List.getElem_toArray, List.getElem_cons_succ, List.getElem_cons_zero, Act.put, List.setIfInBounds_toArray, List.set_cons_zero, List.set_cons_succ]
      refine but_take (f := 26) (i := 5) (v := ?vb5) rfl (by kernel_rfl) (by kernel_rfl) (by kernel_rfl) (by kernel_rfl) (by kernel_rfl) (fun _ _ _ h => h) (Or.inl ⟨((wanted_at rfl rfl rfl rfl).trans rfl), ?hyb5⟩) hSb1 ?restb5
      case hyb5 =>
        intro W hW
        have hb0 : Below W6.heap.size W6 W := bstep (Below.drew1 _) hW
        obtain ⟨x0, x1, x2⟩ := box2 (box_on QX.out hb0)
        obtain ⟨t0, t1, t2⟩ := box2 (box_on QT.out hb0)
        obtain ⟨y0, y1, y2⟩ := box2 (box_on QY.out hb0)
        go_simp
        exact rfl
      simp only [List.getElem_toArray, List.getElem_cons_succ, List.getElem_cons_zero, Act.put, List.setIfInBounds_toArray, List.set_cons_zero, List.set_cons_succ]
      refine but_run (i := 4) (by kernel_rfl) rfl ((wanted_at rfl rfl rfl rfl).trans rfl) ?_
      simp only [List.getElem_toArray, List.getElem_cons_succ, List.getElem_cons_zero]
      intro K HK
      go_wp2_with fail
      refine (implTreeKeys_any _ _ lo rt _ (OX.out.on (bstep (Below.drew1 _) hSb1)).reads (by omega) (by omega)).mono ?_
      rintro r Vb2 ⟨va, rfl, oa, hBb2⟩
      rw [HPK.out.2] at oa
      obtain ⟨Aa, ca, rfl, _, _⟩ := oa.shape
      have OA := Lib.hid oa
      clear oa
      have hSb2 := bstep hSb1 hBb2
      go_wp2_with fail
      refine HK.out _ Vb2 (fun _ => hSb2) ?_
      clear HK
      refine but_run (i := 6) (by kernel_rfl) rfl ((wanted_at rfl rfl rfl rfl).trans rfl) ?_
      simp only [List.getElem_toArray, List.getElem_cons_succ, List.getElem_cons_zero]
      intro K HK
      go_wp2_with fail
      refine (implTreeKeys_any _ _ lo ts _ (OT.out.on (bstep (Below.drew1 _) hSb2)).reads (by omega) (by omega)).mono ?_
      rintro r Vb3 ⟨vb, rfl, ob, hBb3⟩
      rw [HKK.out] at ob
      obtain ⟨Ab, cb, rfl, _, _⟩ := ob.shape
      have OB := Lib.hid ob
      replace OA := Lib.hid (OA.out.on hBb3)
      clear ob
      have hSb3 := bstep hSb2 hBb3
      go_wp2_with fail
      refine HK.out _ Vb3 (fun _ => hSb3) ?_
      clear HK
      refine but_run (i := 7) (by kernel_rfl) rfl ((wanted_at rfl rfl rfl rfl).trans rfl) ?_
      simp only [List.getElem_toArray, List.getElem_cons_succ, List.getElem_cons_zero]
      intro K HK
      go_wp2_with fail
      refine (sameKeysN _ _ KK _ OA.out.owns.reads OB.out.owns.reads (by omega)).mono ?_
      rintro r Vb4 ⟨rfl, hBb4⟩
      have hSb4 := bstep hSb3 hBb4
      go_wp2_with fail
      refine HK.out _ Vb4 (fun _ => hSb4) ?_
      clear HK
      refine but_take (f := 26) (i := 8) (v := ?vb8) rfl (by kernel_rfl) (by kernel_rfl) (by kernel_rfl) (by kernel_rfl) (by kernel_rfl) (fun _ _ _ h => h) (Or.inl ⟨(by rfl), ?hyb8⟩) hSb4 ?restb8
      case hyb8 =>
        intro W hW
        go_simp
        exact rfl
      simp only [List.getElem_toArray, List.getElem_cons_succ, List.getElem_cons_zero, Act.put, List.setIfInBounds_toArray, List.set_cons_zero, List.set_cons_succ]
      refine but_take (f := 26) (i := 9) (v := ?vb9) rfl (by kernel_rfl) (by kernel_rfl) (by kernel_rfl) (by kernel_rfl) (by kernel_rfl) (fun _ _ _ h => h) (Or.inl ⟨(by rfl), ?hyb9⟩) hSb4 ?restb9
      case hyb9 =>
        intro W hW
        go_simp
        exact rfl
      simp only [List.getElem_toArray, List.getElem_cons_succ, List.getElem_cons_zero, Act.put, List.setIfInBounds_toArray, List.set_cons_zero, List.set_cons_succ]
      refine but_take (f := 26) (i := 10) (v := ?vb10) rfl (by kernel_rfl) (by kernel_rfl) (by kernel_rfl) (by kernel_rfl) (by kernel_rfl) (fun _ _ _ h => h) (Or.inl ⟨((wanted_at rfl rfl rfl rfl).trans rfl), ?hyb10⟩) hSb4 ?restb10
      case hyb10 =>
        intro W hW
        go_simp
        exact rfl
      simp only [List.getElem_toArray, List.getElem_cons_succ, List.getElem_cons_zero, Act.put, List.setIfInBounds_toArray, List.set_cons_zero, List.set_cons_succ]
      refine but_take (f := 26) (i := 11) (v := ?vb11) rfl (by kernel_rfl) (by kernel_rfl) (by kernel_rfl) (by kernel_rfl) (by kernel_rfl) (fun _ _ _ h => h) (Or.inl ⟨((wanted_at rfl rfl rfl rfl).trans rfl), ?hyb11⟩) hSb4 ?restb11
      case hyb11 =>
        intro W hW
        have hb0 : Below W6.heap.size W6 W := bstep (Below.drew1 _) hW
        obtain ⟨x0, x1, x2⟩ := box2 (box_on QX.out hb0)
        obtain ⟨t0, t1, t2⟩ := box2 (box_on QT.out hb0)
        obtain ⟨y0, y1, y2⟩ := box2 (box_on QY.out hb0)
        go_simp
        exact rfl
      simp only [List.getElem_toArray, List.getElem_cons_succ, List.getElem_cons_zero, Act.put, List.setIfInBounds_toArray, List.set_cons_zero, List.set_cons_succ]
      refine but_take (f := 26) (i := 12) (v := ?vb12) rfl (by kernel_rfl) (by kernel_rfl) (by kernel_rfl) (by kernel_rfl) (by kernel_rfl) (fun _ _ _ h => h) (Or.inl ⟨((wanted_at rfl rfl rfl rfl).trans rfl), ?hyb12⟩) hSb4 ?restb12
      case hyb12 =>
        intro W hW
        go_simp
        exact rfl
      simp only [List.getElem_toArray, List.getElem_cons_succ, List.getElem_cons_zero, Act.put, List.setIfInBounds_toArray, List.set_cons_zero, List.set_cons_succ]
      refine but_take (f := 26) (i := 13) (v := ?vb13) rfl (by kernel_rfl) (by kernel_rfl) (by kernel_rfl) (by kernel_rfl) (by kernel_rfl) (fun _ _ _ h => h) (Or.inl ⟨((wanted_at rfl rfl rfl rfl).trans rfl), ?hyb13⟩) hSb4 ?restb13
      case hyb13 =>
        intro W hW
        have hb0 : Below W6.heap.size W6 W := bstep (Below.drew1 _) hW
        obtain ⟨x0, x1, x2⟩ := box2 (box_on QX.out hb0)
        obtain ⟨t0, t1, t2⟩ := box2 (box_on QT.out hb0)
        obtain ⟨y0, y1, y2⟩ := box2 (box_on QY.out hb0)
        go_simp
        exact rfl
      simp only [List.getElem_toArray, List.getElem_cons_succ, List.getElem_cons_zero, Act.put, List.setIfInBounds_toArray, List.set_cons_zero, List.set_cons_succ]
      refine but_run (i := 14) (by kernel_rfl) rfl ((wanted_at rfl rfl rfl rfl).trans rfl) ?_
      simp only [List.getElem_toArray, List.getElem_cons_succ, List.getElem_cons_zero]
      intro K HK
      go_wp2_with fail
      refine (sameInts_same _ _ lo _ (OX.out.on (bstep (Below.drew1 _) hSb4)).reads.1 (OT.out.on (bstep (Below.drew1 _) hSb4)).reads.1 (by omega)).mono ?_
      rintro r Vb5 ⟨rfl, hBb5⟩
      have hSb5 := bstep hSb4 hBb5
      go_wp2_with fail
      refine HK.out _ Vb5 (fun _ => hSb5) ?_
      clear HK
      refine but_take (f := 26) (i := 15) (v := ?vb15) rfl (by kernel_rfl) (by kernel_rfl) (by kernel_rfl) (by kernel_rfl) (by kernel_rfl) (fun _ _ _ h => h) (Or.inl ⟨(by rfl), ?hyb15⟩) hSb5 ?restb15
      case hyb15 =>
        intro W hW
        go_simp
        exact rfl
      simp only [List.getElem_toArray, List.getElem_cons_succ, List.getElem_cons_zero, Act.put, List.setIfInBounds_toArray, List.set_cons_zero, List.set_cons_succ]
      refine but_take (f := 26) (i := 16) (v := ?vb16) rfl (by kernel_rfl) (by kernel_rfl) (by kernel_rfl) (by kernel_rfl) (by kernel_rfl) (fun _ _ _ h => h) (Or.inl ⟨(by rfl), ?hyb16⟩) hSb5 ?restb16
      case hyb16 =>
        intro W hW
        go_simp
        exact rfl
      simp only [List.getElem_toArray, List.getElem_cons_succ, List.getElem_cons_zero, Act.put, List.setIfInBounds_toArray, List.set_cons_zero, List.set_cons_succ]
      refine but_take (f := 26) (i := 17) (v := ?vb17) rfl (by kernel_rfl) (by kernel_rfl) (by kernel_rfl) (by kernel_rfl) (by kernel_rfl) (fun _ _ _ h => h) (Or.inl ⟨((wanted_at rfl rfl rfl rfl).trans rfl), ?hyb17⟩) hSb5 ?restb17
      case hyb17 =>
        intro W hW
        have hb0 : Below W6.heap.size W6 W := bstep (Below.drew1 _) hW
        obtain ⟨x0, x1, x2⟩ := box2 (box_on QX.out hb0)
        obtain ⟨t0, t1, t2⟩ := box2 (box_on QT.out hb0)
        obtain ⟨y0, y1, y2⟩ := box2 (box_on QY.out hb0)
        go_simp
        exact rfl
      simp only [List.getElem_toArray, List.getElem_cons_succ, List.getElem_cons_zero, Act.put, List.setIfInBounds_toArray, List.set_cons_zero, List.set_cons_succ]
      refine but_run (i := 18) (by kernel_rfl) rfl ((wanted_at rfl rfl rfl rfl).trans rfl) ?_
      simp only [List.getElem_toArray, List.getElem_cons_succ, List.getElem_cons_zero]
      intro K HK
      go_wp2_with fail
      refine (implTreeOk_any _ _ yl yn _ (OY.out.on (bstep (Below.drew1 _) hSb5)).reads (by omega) (by omega) (by omega)).mono ?_
      rintro r Vb6 ⟨rfl, hBb6⟩
      rw [HY.out.1]
      have hSb6 := bstep hSb5 hBb6
      go_wp2_with fail
      refine HK.out _ Vb6 (fun _ => hSb6) ?_
      clear HK
      refine but_take (f := 26) (i := 19) (v := ?vb19) rfl (by kernel_rfl) (by kernel_rfl) (by kernel_rfl) (by kernel_rfl) (by kernel_rfl) (fun _ _ _ h => h) (Or.inl ⟨(by rfl), ?hyb19⟩) hSb6 ?restb19
      case hyb19 =>
        intro W hW
        go_simp
        exact rfl
      simp only [List.getElem_toArray, List.getElem_cons_succ, List.getElem_cons_zero, Act.put, List.setIfInBounds_toArray, List.set_cons_zero, List.set_cons_succ]
      refine but_take (f := 26) (i := 20) (v := ?vb20) rfl (by kernel_rfl) (by kernel_rfl) (by kernel_rfl) (by kernel_rfl) (by kernel_rfl) (fun _ _ _ h => h) (Or.inl ⟨(by rfl), ?hyb20⟩) hSb6 ?restb20
      case hyb20 =>
        intro W hW
        go_simp
        exact rfl
      simp only [List.getElem_toArray, List.getElem_cons_succ, List.getElem_cons_zero, Act.put, List.setIfInBounds_toArray, List.set_cons_zero, List.set_cons_succ]
      refine but_take (f := 26) (i := 21) (v := ?vb21) rfl (by kernel_rfl) (by kernel_rfl) (by kernel_rfl) (by kernel_rfl) (by kernel_rfl) (fun _ _ _ h => h) (Or.inl ⟨((wanted_at rfl rfl rfl rfl).trans rfl), ?hyb21⟩) hSb6 ?restb21
      case hyb21 =>
        intro W hW
        have hb0 : Below W6.heap.size W6 W := bstep (Below.drew1 _) hW
        obtain ⟨x0, x1, x2⟩ := box2 (box_on QX.out hb0)
        obtain ⟨t0, t1, t2⟩ := box2 (box_on QT.out hb0)
        obtain ⟨y0, y1, y2⟩ := box2 (box_on QY.out hb0)
        go_simp
        exact rfl
      simp only [List.getElem_toArray, List.getElem_cons_succ, List.getElem_cons_zero, Act.put, List.setIfInBounds_toArray, List.set_cons_zero, List.set_cons_succ]
      refine but_run (i := 22) (by kernel_rfl) rfl ((wanted_at rfl rfl rfl rfl).trans rfl) ?_
      simp only [List.getElem_toArray, List.getElem_cons_succ, List.getElem_cons_zero]
      intro K HK
      go_wp2_with fail
      refine (implTreeKeys_any _ _ yl yn _ (OY.out.on (bstep (Below.drew1 _) hSb6)).reads (by omega) (by omega)).mono ?_
      rintro r Vb7 ⟨vc, rfl, oc, hBb7⟩
      rw [HY.out.2] at oc
      obtain ⟨Ac, cc, rfl, _, _⟩ := oc.shape
      clear oc
      have hSb7 := bstep hSb6 hBb7
      go_wp2_with fail
      refine HK.out _ Vb7 (fun _ => hSb7) ?_
      clear HK
      refine but_take (f := 26) (i := 23) (v := ?vb23) rfl (by kernel_rfl) (by kernel_rfl) (by kernel_rfl) (by kernel_rfl) (by kernel_rfl) (fun _ _ _ h => h) (Or.inl ⟨((wanted_at rfl rfl rfl rfl).trans rfl), ?hyb23⟩) hSb7 ?restb23
      case hyb23 =>
        intro W hW
        go_simp
        exact rfl
      simp only [List.getElem_toArray, List.getElem_cons_succ, List.getElem_cons_zero, Act.put, List.setIfInBounds_toArray, List.set_cons_zero, List.set_cons_succ]
      refine but_take (f := 26) (i := 24) (v := ?vb24) rfl (by kernel_rfl) (by kernel_rfl) (by kernel_rfl) (by kernel_rfl) (by kernel_rfl) (fun _ _ _ h => h) (Or.inl ⟨((wanted_at rfl rfl rfl rfl).trans rfl), ?hyb24⟩) hSb7 ?restb24
      case hyb24 =>
        intro W hW
        go_simp
        exact rfl
      simp only [List.getElem_toArray, List.getElem_cons_succ, List.getElem_cons_zero, Act.put, List.setIfInBounds_toArray, List.set_cons_zero, List.set_cons_succ]
      refine but_take (f := 26) (i := 25) (v := ?vb25) rfl (by kernel_rfl) (by kernel_rfl) (by kernel_rfl) (by kernel_rfl) (by kernel_rfl) (fun _ _ _ h => h) (Or.inl ⟨(by rfl), ?hyb25⟩) hSb7 ?restb25
      case hyb25 =>
        intro W hW
        go_simp
        exact rfl
      simp only [List.getElem_toArray, List.getElem_cons_succ, List.getElem_cons_zero, Act.put, List.setIfInBounds_toArray, List.set_cons_zero, List.set_cons_succ]
      refine but_run (i := 26) (by kernel_rfl) rfl (by rfl) ?_
      simp only [List.getElem_toArray, List.getElem_cons_succ, List.getElem_cons_zero]
      intro K HK
      go_wp2_with fail
      refine HK.out _ Vb7 (fun h => absurd rfl h) ?_
      clear HK
      refine but_done (by kernel_rfl) ?_
      go_wp2_with fail
      go_ret
      exact ⟨rfl, bstep BB.out (bstep (Below.drew1 _) hSb7)⟩
  · have d0 : decide ((1048576 : Int) < (l.length : Int)) = true := decide_eq_true (by omega)
    go_enter Try.func3, Try.ntmps3
    go_wp2_with fail
    refine (big_any _ _ _ _).mono ?_
    rintro r w1 ⟨rfl, rfl⟩
    rw [d0]
    go_wp2
    go_ret
    exact ⟨rfl, Below.refl _ _⟩
end Go.Proofs.Ytnmoikgobbcifaa
