/- Several texts in one: TreeIOk. -/
import Derived.Sort.CutIn
import Derived.Test.YtpfepcjbhchpcaaGreatPkNE
namespace Go.Proofs.YtpfepcjbhchpcaaGreat
open Go.RowKit Go.Shelf
set_option maxRecDepth 100000
set_option linter.unusedSimpArgs false
set_option linter.unusedVariables false
attribute [local go_sem] Oper.semAt_some

theorem rise_le {lo : List Int} (h : RiseP lo) : ∀ d a, a + d < lo.length → lo.getD a 0 ≤ lo.getD (a + d) 0 := by
  intro d
  induction d with
  | zero => intro a _; exact Int.le_refl _
  | succ d ih =>
    intro a ha
    have h1 := ih a (by omega)
    have h2 := h (a + d) (by omega)
    rw [Nat.add_assoc] at h2
    omega
theorem where_back {lo : List Int} {x : Int} : ∀ k, k ≤ lo.length → ∀ i : Nat, whereK (lo.take k) x = (i : Int) → i < k ∧ lo.getD i 0 ≤ x ∧ ∀ j, i < j → j < k → x < lo.getD j 0 := by
  intro k
  induction k with
  | zero => intro _ i h; rw [List.take_zero, whereK_nil] at h; omega
  | succ k ih =>
    intro hk i h
    have hlt : k < lo.length := by omega
    rw [whereK_take hlt] at h
    have g := getD_at hlt
    by_cases hle : lo[k] ≤ x
    · rw [if_pos hle] at h
      have : i = k := by omega
      subst this
      exact ⟨by omega, by rw [g]; exact hle, fun j h1 h2 => by omega⟩
    · rw [if_neg hle] at h
      obtain ⟨h1, h2, h3⟩ := ih (by omega) i h
      refine ⟨by omega, h2, fun j h4 h5 => ?_⟩
      rcases Nat.lt_or_ge j k with h6 | h6
      · exact h3 j h4 h6
      · have : j = k := by omega
        subst this
        rw [g]; omega
theorem where_iff {lo : List Int} (h : RiseP lo) {i : Nat} (hi : i < lo.length) (x : Int) : whereK lo x = (i : Int) ↔ InP lo i x := by
  constructor
  · intro hw
    have hb := where_back (x := x) lo.length (Nat.le_refl _) i (by rw [List.take_length]; exact hw)
    exact ⟨hb.2.1, fun h1 => hb.2.2 (i + 1) (by omega) h1⟩
  · rintro ⟨h1, h2⟩
    have key : ∀ d, i + 1 + d ≤ lo.length → whereK (lo.take (i + 1 + d)) x = (i : Int) := by
      intro d
      induction d with
      | zero =>
        intro _
        rw [Nat.add_zero, whereK_take hi, if_pos (by rw [← getD_at hi]; exact h1)]
      | succ d ih =>
        intro hd
        have hlt : i + 1 + d < lo.length := by omega
        rw [← Nat.add_assoc, whereK_take hlt, if_neg (by
          have := rise_le h d (i + 1) (by omega)
          have := h2 (by omega)
          rw [← getD_at hlt]
          omega)]
        exact ih (by omega)
    have := key (lo.length - (i + 1)) (by omega)
    rw [show i + 1 + (lo.length - (i + 1)) = lo.length by omega, List.take_length] at this
    exact this
theorem lessN_any (a b : Int) (w : World) : Calls Tryz.prog 130 #[.int .i64 a, .int .i64 b] w fun e w' => e = .returned (.bool (decide (a < b))) ∧ w = w' := by
  have hN : Hid (∀ x W, Calls Tryz.prog 181 #[.int .i64 x] W fun e w' => e = .returned (.bool false) ∧ W = w') := Lib.hid (fun x W => by
    have hx : (x != x) = false := by simp
    go_enter Tryz.func181, Tryz.ntmps181
    go_wp2
    go_ret
    exact ⟨rfl, rfl⟩)
  go_enter Tryz.func130, Tryz.ntmps130
  go_wp2_with fail
  refine (hN.out _ _).mono ?_
  rintro e w1 ⟨rfl, rfl⟩
  go_wp2
  go_ret
  exact ⟨rfl, rfl⟩
set_option maxHeartbeats 2000000 in
theorem ascI_any (v : Value) (lo : List Int) (w : World) (hv : Reads w w.heap.size v (intsD lo)) (hn : lo.length ≤ 1100000) : Calls Tryz.prog 131 #[.agg #[v, .func (.func 130) #[] #[]]] w (SaysBool w (decide (RiseP lo))) := by
  obtain ⟨A, c, rfl, _, _⟩ := hv.lenN
  have HT := Lib.hid lessN_any
  have HV := Lib.hid (hv.on (bal1 w (.cells #[.slice A lo.length c, .func (.func 130) #[] #[]] 164)))
  have Q0 := Lib.hid (al1 w (.cells #[.slice A lo.length c, .func (.func 130) #[] #[]] 164))
  have HB := Lib.hid (bal1 w (.cells #[.slice A lo.length c, .func (.func 130) #[] #[]] 164))
  clear hv
  go_enter Tryz.func131, Tryz.ntmps131
  go_wp2
  generalize w.alloc (.cells #[.slice A lo.length c, .func (.func 130) #[] #[]] 164) = W at *
  go_loopw [3] (fun i wr => ∃ j : Nat, (j < lo.length ∨ j = 0) ∧ i = .int .i64 ((j : Int) + 1) ∧ Hid (∀ i, i < j → lo.getD i 0 < lo.getD (i + 1) 0) ∧ Hid (Below W.heap.size W wr)) (fun i _ => lo.length - (intOf i).toNat)
  case atStart => exact ⟨0, .inr rfl, rfl, Lib.hid (fun i h => by omega), Lib.hid (Below.refl _ _)⟩
  case round =>
    obtain ⟨j, hj, rfl, HI, HW⟩ := hrel
    obtain ⟨x0, x1, x2⟩ := box2 (box_on Q0.out HW.out)
    by_cases hlt : j + 1 < lo.length
    · obtain ⟨b, off, rfl, hbb, hc⟩ := (HV.out.on HW.out).int hlt
      have c0 := hc j (by omega)
      have c1 := hc (j + 1) hlt
      unfold iV at c0 c1
      have i1 : (j : Int) + 1 < (lo.length : Int) := by omega
      have i2 : (0 : Int) ≤ (j : Int) + 1 := by omega
      have i3 : IntKind.i64.wrap ((j : Int) + 1 - 1) = (j : Int) := by rw [IntKind.wrap_i64]; omega
      have i7 : IntKind.i64.wrap (j : Int) = (j : Int) := by rw [IntKind.wrap_i64]; omega
      have i4 : (j : Int) < (lo.length : Int) := by omega
      have i5 : (0 : Int) ≤ (j : Int) := by omega
      have i6 : ((j : Int) + 1).toNat = j + 1 := by omega
      have hjl : j < lo.length := by omega
      have g0 := getD_at hjl
      have g1 := getD_at hlt
      have BC := Lib.hid (bstep HW.out (Below.drew1 _))
      clear hc
      cases hless : decide (lo[j] < lo[j + 1])
      all_goals
        have HL := Lib.hid hless
        have HNX : Hid (lo.getD j 0 < lo.getD (j + 1) 0 ↔ lo[j] < lo[j + 1]) := Lib.hid (by rw [g0, g1])
        clear hless g0 g1
        go_wp2
        go_region_held3 (fun W => W.cell? ⟨w.heap.size, 0, none⟩ = some (.slice (some ⟨b, off, none⟩) lo.length c) ∧ W.cell? ⟨w.heap.size, 1, none⟩ = some (.func (.func 130) #[] #[]) ∧ W.cell? ⟨b, off + j, none⟩ = some (.int .i64 lo[j]) ∧ W.cell? ⟨b, off + (j + 1), none⟩ = some (.int .i64 lo[j + 1]))
          (first | exact ⟨x0, x1, c0, c1⟩ | fail)
          (first
            | (go_at_call 130; refine (HT.out _ _ _).mono ?_; rintro r w8 ⟨rfl, rfl⟩; rw [HL.out])
            | fail)
        all_goals
          clear c0 c1 x0 x1 x2
          change Hid (Below W.heap.size W wr.drew) at BC
          generalize wr.drew = wd at *
          go_wp2
          first
            | go_ret
              refine ⟨ret_boolB ?_, bstep HB.out BC.out⟩
              symm
              refine decide_eq_false (fun h => ?_)
              have h2 := HNX.out.1 (h j (by omega))
              have h3 := HL.out
              rw [decide_eq_true h2] at h3
              cases h3
            | go_roundw
              case rel => exact ⟨j + 1, .inl hlt, by go_num, Lib.hid (fun i hi => by
                  rcases Nat.lt_or_ge i j with h' | h'
                  · exact HI.out i h'
                  · have e : i = j := by omega
                    subst e
                    exact HNX.out.2 (of_decide_eq_true HL.out)), BC⟩
              case measure => simp [intOf]; omega
    · have i2 : ¬ (j : Int) + 1 < (lo.length : Int) := by omega
      go_wp2
      go_ret
      refine ⟨ret_boolB ?_, bstep HB.out HW.out⟩
      symm
      exact decide_eq_true (fun i h => HI.out i (by omega))
set_option maxHeartbeats 8000000 in
theorem nodeFits_any (vl vn : Value) (lo : List Int) (ts : List NodeD) (i : Nat) (w : World) (hv : RdT w w.heap.size vl vn lo ts) (hi : i < ts.length) (hiL : i < lo.length) (hr : Hid (RiseP lo)) (hn : ts.length ≤ 1048576) (hm : lo.length ≤ 1100000) (hs : sumT ts ≤ 1048576) :
    Calls Tryz.prog 132 #[.agg #[vl, vn], .int .i64 (i : Int)] w (SaysBool w (fitB lo i ts[i])) := by
  have HVT := Lib.hid hv
  obtain ⟨A, c, B, d, rfl, rfl⟩ := hv.shape
  obtain ⟨b0, off0, rfl, hb00, hc0⟩ := hv.2.node hi
  obtain ⟨A1, d1, c1, _, _, rd⟩ := hc0 i hi
  have HS := Lib.hid (small_at (by omega) hi)
  have hsm := sumT_mem (List.getElem_mem hi)
  have i3 : (i : Int) < (ts.length : Int) := by omega
  have i4 : (0 : Int) ≤ (i : Int) := by omega
  generalize ts[i] = ns at *
  have HB0 := bal3 w (.cells #[.slice A lo.length c, .slice (some ⟨b0, off0, none⟩) ts.length d] 36) (.cells #[.int .i64 (i : Int)] 3) (.cells #[.bool false] 4)
  obtain ⟨q0, q1, q2⟩ := al3 w (.cells #[.slice A lo.length c, .slice (some ⟨b0, off0, none⟩) ts.length d] 36) (.cells #[.int .i64 (i : Int)] 3) (.cells #[.bool false] 4)
  have hba := bal1 (((w.alloc (.cells #[.slice A lo.length c, .slice (some ⟨b0, off0, none⟩) ts.length d] 36)).alloc (.cells #[.int .i64 (i : Int)] 3)).alloc (.cells #[.bool false] 4)) (.cells #[.slice A1 ns.length d1] 97)
  have q3 := al1 (((w.alloc (.cells #[.slice A lo.length c, .slice (some ⟨b0, off0, none⟩) ts.length d] 36)).alloc (.cells #[.int .i64 (i : Int)] 3)).alloc (.cells #[.bool false] 4)) (.cells #[.slice A1 ns.length d1] 97)
  simp only [World.size_alloc] at q3
  have HB1 := Lib.hid (bstep HB0 hba)
  have Q0 := Lib.hid (box_on q0 hba)
  have Q1 := Lib.hid (box_on q1 hba)
  have Q2 := Lib.hid (box_on q2 hba)
  have Q3 := Lib.hid q3
  have HVN := Lib.hid (rd.on HB1.out)
  have HW3 : Hid (w.heap.size + 4 ≤ ((((w.alloc (.cells #[.slice A lo.length c, .slice (some ⟨b0, off0, none⟩) ts.length d] 36)).alloc (.cells #[.int .i64 (i : Int)] 3)).alloc (.cells #[.bool false] 4)).alloc (.cells #[.slice A1 ns.length d1] 97)).heap.size) := Lib.hid (by simp)
  have c1' := (bcell HB0).1 b0 (off0 + i) hb00
  rw [c1] at c1'
  clear hv hc0 rd HB0 q0 q1 q2 q3 hba
  refine (callsIn_wide (n := 3)).1 ?_
  refine callsIn_of_wp_marks Tryz.func132 rfl trivial ?_ rfl
  simp only [Tryz.ntmps132, List.size_toArray, List.length_cons, List.length_nil, Nat.reduceAdd, Nat.reduceSub, Array.replicate_succ, Array.replicate_zero, List.push_toArray, List.append_toArray, List.nil_append, List.cons_append]
  gi_upto_region 2 with (fail)
  clear c1 c1'
  generalize ((((w.alloc (.cells #[.slice A lo.length c, .slice (some ⟨b0, off0, none⟩) ts.length d] 36)).alloc (.cells #[.int .i64 (i : Int)] 3)).alloc (.cells #[.bool false] 4)).alloc (.cells #[.slice A1 ns.length d1] 97)) = W at *
  obtain ⟨x0, x1, x2⟩ := box2 Q0.out
  obtain ⟨y0, y1⟩ := box1N Q1.out
  obtain ⟨z0, z1⟩ := box1N Q2.out
  obtain ⟨v0, v1⟩ := box1N Q3.out
  gi_wp2_with fail
  refine ⟨trivial, (callsIn_wide.2 (implNodeOk_any _ ns _ HVN.out HS.out)).mono ?_⟩
  rintro e W1 ⟨rfl, b1⟩
  replace HVN := Lib.hid (HVN.out.on b1)
  replace Q0 := Lib.hid (box_on Q0.out b1)
  replace Q1 := Lib.hid (box_on Q1.out b1)
  replace Q2 := Lib.hid (box_on Q2.out b1)
  replace Q3 := Lib.hid (box_on Q3.out b1)
  replace HB1 := Lib.hid (bstep HB1.out b1)
  replace HW3 := Lib.hid (Nat.le_trans HW3.out b1.size)
  clear x0 x1 x2 y0 y1 z0 z1 v0 v1 b1
  obtain ⟨x0, x1, x2⟩ := box2 Q0.out
  obtain ⟨y0, y1⟩ := box1N Q1.out
  obtain ⟨z0, z1⟩ := box1N Q2.out
  obtain ⟨v0, v1⟩ := box1N Q3.out
  cases hok : nodeOkB ns
  · have HF : Hid (fitB lo i ns = false) := Lib.hid (decide_eq_false (fun h => by have := h.1; rw [hok] at this; cases this))
    gi_wp2
    · rename_i h1 h2; first | cases h1 | simp [undef] at h1
    · rename_i h1 h2; first | cases h1 | simp [undef] at h1
    refine ⟨trivial, ?_⟩
    gi_wp2
    refine ⟨.bool false, by simp [results, Tryz.results132, go_sem, z0, z1], by rw [HF.out], HB1.out.setCell (p := ⟨w.heap.size + 1 + 1, 0, none⟩) (show w.heap.size ≤ w.heap.size + 1 + 1 by omega) _⟩
  · have HOK := Lib.hid hok
    clear hok
    by_cases hi0 : i = 0
    · have t0 : ¬ (0 : Int) < (i : Int) := by omega
      have t1 : (i : Int) ≤ 0 := by omega
      have HNE : Hid (i = 0 ∨ 0 < (nodeKeysK ns).length) := Lib.hid (.inl hi0)
      clear hi0
      obtain ⟨zs, hzl, hzm, hzs, hzr⟩ := sets_sv HVN.out
      have HKS : Hid (keysOfS zs = ns.flatten) := Lib.hid (by rw [keysOfS_map, hzm])
      have HL : Hid (∀ z ∈ zs, z.ks.length ≤ 1100000) := Lib.hid (fun z hz => Nat.le_trans (sumN_sv hzm hz) HS.out.2)
      have hzn : zs.length ≤ 1100000 := by rw [hzl]; exact HS.out.1
      have HZS := Lib.hid hzs
      have HZR := Lib.hid hzr
      clear hzs hzr hzm
      gi_wp2_with fail
      refine ⟨trivial, ?_⟩
      gi_wp2_with fail
      refine ⟨trivial, (callsIn_wide.2 (allF_any _ _ _ _)).mono ?_⟩
      rintro r w3 ⟨rfl, rfl⟩
      gi_wp2_with fail
      refine ⟨trivial, (callsIn_wide.2 (layered_any _ _ _)).mono ?_⟩
      rintro r w3 ⟨rfl, rfl⟩
      gi_wp2_with fail
      clear x0 x1 x2 y0 y1 v0 v1 z0 z1
      obtain ⟨r0, r1⟩ := al2 W1 (.cells #[.slice A1 ns.length d1] 95) (.cells #[.func (.func 223) #[] #[.pointer (some ⟨W1.heap.size, 0, none⟩)]] 199)
      have hb3 := bal2 W1 (.cells #[.slice A1 ns.length d1] 95) (.cells #[.func (.func 223) #[] #[.pointer (some ⟨W1.heap.size, 0, none⟩)]] 199)
      have hz6 : ((W1.alloc (.cells #[.slice A1 ns.length d1] 95)).alloc (.cells #[.func (.func 223) #[] #[.pointer (some ⟨W1.heap.size, 0, none⟩)]] 199)).heap.size = W1.heap.size + 2 := by simp
      have HB6 := Lib.hid (bstep HB1.out hb3)
      have HZ0 := Lib.hid ((HZS.out.below (hb3.mono (Nat.le_refl _))).mono hb3.size)
      have HZ1 : Hid (∀ z ∈ zs, Reads ((W1.alloc (.cells #[.slice A1 ns.length d1] 95)).alloc (.cells #[.func (.func 223) #[] #[.pointer (some ⟨W1.heap.size, 0, none⟩)]] 199)) ((W1.alloc (.cells #[.slice A1 ns.length d1] 95)).alloc (.cells #[.func (.func 223) #[] #[.pointer (some ⟨W1.heap.size, 0, none⟩)]] 199)).heap.size (.slice z.A z.ks.length z.c) (keysD z.ks)) := Lib.hid (fun z hz => (HZR.out z hz).on hb3)
      replace Q0 := Lib.hid (box_on Q0.out hb3)
      replace Q1 := Lib.hid (box_on Q1.out hb3)
      replace Q2 := Lib.hid (box_on Q2.out hb3)
      have hsW := HW3.out
      clear hb3
      generalize (W1.alloc (.cells #[.slice A1 ns.length d1] 95)).alloc (.cells #[.func (.func 223) #[] #[.pointer (some ⟨W1.heap.size, 0, none⟩)]] 199) = W0 at *
      have hww := HB6.out.size
      refine rangeL (E := 58) (gf := 222) (lb := #[.pointer (some ⟨W1.heap.size + 1, 0, none⟩)]) rfl (enters_of Tryz.func222 (by kernel_rfl) rfl)
        (layered_seq 58 (fun _ _ h => by cases h) (W1.heap.size + 1) W0.heap.size 223 #[.pointer (some ⟨W1.heap.size, 0, none⟩)] zs W0 (Nat.le_refl _) (by omega) (box1N r1).1 (enters_of Tryz.func223 (by kernel_rfl) rfl)
          (all_seq 58 W1.heap.size W0.heap.size A1 d1 zs hzn (by omega) W0 (Nat.le_refl _) (by rw [hzl]; exact (box1N r0).1) HZ0.out)
          HZ1.out HL.out)
        (Below.refl _ _) (Nat.le_refl _) (fun _ => rfl)
        (fun pre V => Below W0.heap.size W0 V ∧ ∀ y ∈ pre, InP lo i (spotI y.a y.b))
        (fun cd _ V => cd = .ret ∧ fitB lo i ns = false ∧ V.heap[w.heap.size + 1 + 1]? = some (.cells #[.bool false] 4 (0, 0)) ∧ Below w.heap.size w V)
        (OwnFrom.and (ownFrom_below (Nat.le_refl _) (Nat.le_refl _)) (ownFrom_pure _ _))
        (fun cd s X Y row hs hg hr => by
          obtain ⟨h1, h2, h3, h4⟩ := hs
          have hr' : ∀ r, row = some r → ∃ o : Obj, X.heap[r]? = some o ∧ o.isCells = false := fun r e => (hr r e).2
          exact ⟨h1, h2, cellsN hg hr' h3, ownFrom_below (β := Unit) (Nat.le_refl _) hww () X Y row h4 hg hr⟩)
        ⟨Below.refl _ _, fun y hy => by cases hy⟩
        (fun x a' V => ∃ Bx, W0.heap.size ≤ Bx ∧ V.heap[Bx]? = some (.cells #[.int .i64 x.a, .int .i64 x.b, .int .i64 x.c, .int .i64 x.d, .int .i64 x.e] 58 (0, 0)) ∧ a' = { tmps := #[.agg #[.slice A lo.length c, .slice (some ⟨b0, off0, none⟩) ts.length d], .int .i64 (i : Int), .pointer (some ⟨w.heap.size, 0, none⟩), .pointer (some ⟨w.heap.size + 1, 0, none⟩), .pointer (some ⟨w.heap.size + 1 + 1, 0, none⟩), .pointer (some ⟨w.heap.size + 1 + 1 + 1, 0, none⟩), .pointer (some ⟨Bx, 0, none⟩), .pointer (some ⟨w.heap.size, 1, none⟩), .slice (some ⟨b0, off0, none⟩) ts.length d, .int .i64 (i : Int), .pointer (some ⟨b0, off0 + i, none⟩), .agg #[.slice A1 ns.length d1], .agg #[.slice A1 ns.length d1], .bool true, .bool false, .bool false, .int .i64 (i : Int), .bool false, .bool false, undef, undef, undef, undef, .bool false, .bool false, .pointer (some ⟨w.heap.size + 1 + 1 + 1, 0, none⟩), .slice A1 ns.length d1, .func (.func 223) #[] #[.pointer (some ⟨W1.heap.size, 0, none⟩)], .func (.func 222) #[] #[.pointer (some ⟨W1.heap.size + 1, 0, none⟩)], .agg #[.int .i64 x.a, .int .i64 x.b, .int .i64 x.c, .int .i64 x.d, .int .i64 x.e], undef, undef, undef, undef, undef, undef, undef, undef], defers := [] })
        (fun x a' _ X Y row hs hg hr => by obtain ⟨Bx, h1, h2, h3⟩ := hs; exact ⟨Bx, h1, cellsN hg (fun r e => (hr r e).2) h2, h3⟩)
        ?assign ?body ?done ?stop
      case assign =>
        rintro l pre x V K hpx ⟨hB, hpre⟩ hK
        unfold KeyD.v keyV
        gi_wp2
        exact hK _ _ (only_alloc0 _ _ _) ⟨hB.alloc hB.size _, hpre⟩ ⟨V.heap.size, hB.size, al1 _ _, rfl⟩
      case body =>
        rintro l pre x a' V hpx ⟨hB, hpre⟩ ⟨Bx, hBx, qx, rfl⟩
        have HBV := Lib.hid hB
        have HPR := Lib.hid hpre
        have HPX := Lib.hid hpx
        have hzV := hB.size
        have QX := Lib.hid qx
        have HRT := Lib.hid (HVT.out.on (bstep HB6.out hB))
        obtain ⟨a0, a1, a2, a3, a4, a5⟩ := box5 qx
        obtain ⟨x0, x1, x2⟩ := box2 (box_on Q0.out hB)
        obtain ⟨y0, y1⟩ := box1N (box_on Q1.out hB)
        have p2 := box_on Q2.out hB
        have P2 := Lib.hid p2
        have HIFF := Lib.hid (where_iff hr.out hiL (spotI x.a x.b))
        have HXM : Hid (x ∈ ns.flatten) := Lib.hid (by rw [← HKS.out]; obtain ⟨t, ht⟩ := hpx; rw [← ht]; simp)
        have HWI := Lib.hid (fun W b => implWhereIn_any (.slice A lo.length c) (.slice (some ⟨b0, off0, none⟩) ts.length d) lo ts x.a x.b W (HRT.out.on b) hm)
        have C4 := Lib.hid (fun W (b : Below V.heap.size V W) => box1N (box_on (box_on Q1.out HBV.out) b))
        clear hB hpre hpx qx p2
        obtain ⟨u, hu⟩ : ∃ u, whereK lo (spotI x.a x.b) = u := ⟨_, rfl⟩
        have HU := Lib.hid hu
        clear hu
        have hmx : Tryz.prog.follows .mixedOrders = true := by kernel_rfl
        have hfn : Fence.wide.fn 185 := trivial
        obtain ⟨nb, hnb⟩ : ∃ nb, (u != (i : Int)) = nb := ⟨_, rfl⟩
        have HNB := Lib.hid hnb
        gi_wp2
        gi_region_with_o (gi_at_call 185; refine (CallsIn.inRound l (callsIn_wide.2 (HWI.out _ (Below.drew1 _)))).mono ?_; rintro r w4 ⟨rfl, e4⟩; rw [HU.out]; have E4 := Lib.hid (bstep (Below.drew1 _) e4); obtain ⟨g0, g1⟩ := C4.out _ E4.out; clear e4)
        all_goals
          clear hnb a0 a1 a2 a3 a4 a5 x0 x1 x2 y0 y1 g0 g1
          have hz4 := E4.out.size
          have P4 := Lib.hid (box_on P2.out E4.out)
          obtain ⟨d0, d1⟩ := box1N P4.out
          cases nb
          · have hne : (u == (i : Int)) = true := by have := HNB.out; simpa using this
            have HIN : Hid (InP lo i (spotI x.a x.b)) := Lib.hid (HIFF.out.1 (HU.out.trans (by simpa using hne)))
            clear hne
            gi_wp2
            exact ⟨Kept.of_below E4.out _ _ _, HBV.out.trans (E4.out.mono hzV), fun y hy => (List.mem_append.1 hy).elim (HPR.out y) (fun e => by simp at e; subst e; exact HIN.out)⟩
          · have HFF : Hid (fitB lo i ns = false) := Lib.hid (decide_eq_false (fun h => by
              obtain ⟨l1, hl1, hx1⟩ := List.mem_flatten.1 HXM.out
              have h5 := HIFF.out.2 (h.2.2 l1 hl1 x hx1)
              rw [HU.out] at h5
              have h6 := HNB.out
              simp [h5] at h6))
            gi_wp2
            exact ⟨((Only.of_below E4.out (fun b => b < W0.heap.size)).setCell (g := w.heap.size + 1 + 1) (j := 0) (show w.heap.size + 1 + 1 < W0.heap.size by omega) _).kept _ (fun b hb => ⟨Nat.zero_le _, fun h => by omega⟩), rfl, HFF.out, box_set P4.out, (bstep (bstep HB6.out HBV.out) E4.out).setCell (p := ⟨w.heap.size + 1 + 1, 0, none⟩) (show w.heap.size ≤ w.heap.size + 1 + 1 by omega) _⟩
      case done =>
        rintro D V hD ⟨hB, hall⟩ hK
        have HFF : Hid (fitB lo i ns = true) := Lib.hid (decide_eq_true ⟨HOK.out, HNE.out, fun l1 hl1 x hx => hall x (by rw [HKS.out]; exact List.mem_flatten.2 ⟨l1, hl1, hx⟩)⟩)
        have HBV := Lib.hid hB
        have HKD := Lib.hid hK
        have hDV : D < V.heap.size := (Array.getElem?_eq_some_iff.1 hK).1
        have p2 := box_on Q2.out hB
        obtain ⟨c0, c1⟩ := box1N p2
        have P2' := Lib.hid p2
        clear hB hall hK p2
        gi_wp2
        have hK5 : (V.setCell ⟨w.heap.size + 1 + 1, 0, none⟩ (.bool true)).heap[D]? = some (.deferred (some [])) := box_far HKD.out (by omega)
        refine ⟨by simp, .inl ⟨_, _, rfl, run_takeDeferred hK5, ?_⟩⟩
        have hput := fun {b cur e} => cellsN (b := b) (cur := cur) (e := e) (grownBy_putObj' _ D (.deferred none)) (fun r e => by cases e; exact ⟨_, hK5, rfl⟩)
        obtain ⟨e0, e1⟩ := box1N (hput (box_set (i := 0) (u := .bool true) P2'.out))
        refine ⟨.bool true, by simp [results, Tryz.results132, go_sem, e0], by rw [HFF.out], ((bstep HB6.out HBV.out).setCell (p := ⟨w.heap.size + 1 + 1, 0, none⟩) (show w.heap.size ≤ w.heap.size + 1 + 1 by omega) _).trans (belowK_b (w := w) (Nat.le_refl _) _ D _ _ (by omega) hK5 rfl rfl)⟩
      case stop =>
        rintro D cd pre V hD _ ⟨rfl, h1, h2, h3⟩ hK
        gi_wp2
        refine ⟨by simp, .inl ⟨_, _, rfl, run_takeDeferred hK, ?_⟩⟩
        have hput := fun {b cur e} => cellsN (b := b) (cur := cur) (e := e) (grownBy_putObj' V D (.deferred none)) (fun r e => by cases e; exact ⟨_, hK, rfl⟩)
        obtain ⟨a0, a1⟩ := box1N (hput h2)
        refine ⟨.bool false, by simp [results, Tryz.results132, go_sem, a0], by rw [h1], h3.trans (belowK_b (w := w) (Nat.le_refl _) _ D _ _ (by omega) hK rfl rfl)⟩
    · have t0 : (0 : Int) < (i : Int) := by omega
      gi_wp2_with fail
      refine ⟨trivial, (callsIn_wide.2 (implNodeKeys_any _ ns _ HVN.out (by omega) (by omega))).mono ?_⟩
      clear x0 x1 x2 y0 y1 z0 z1 v0 v1
      rintro e w2 ⟨v2, rfl, o2, b1⟩
      obtain ⟨A2, c2, rfl, _, _⟩ := o2.shape
      replace HVN := Lib.hid (HVN.out.on b1)
      replace Q0 := Lib.hid (box_on Q0.out b1)
      replace Q1 := Lib.hid (box_on Q1.out b1)
      replace Q2 := Lib.hid (box_on Q2.out b1)
      replace Q3 := Lib.hid (box_on Q3.out b1)
      replace HB1 := Lib.hid (bstep HB1.out b1)
      replace HW3 := Lib.hid (Nat.le_trans HW3.out b1.size)
      clear o2 b1
      obtain ⟨W1, rfl⟩ : ∃ W1, W1 = w2 := ⟨_, rfl⟩
      obtain ⟨x0, x1, x2⟩ := box2 Q0.out
      obtain ⟨y0, y1⟩ := box1N Q1.out
      obtain ⟨z0, z1⟩ := box1N Q2.out
      obtain ⟨v0, v1⟩ := box1N Q3.out
      by_cases hke : (nodeKeysK ns).length = 0
      · have hz : (((nodeKeysK ns).length : Int) == 0) = true := by simp [hke]
        have HF : Hid (fitB lo i ns = false) := Lib.hid (decide_eq_false (fun h => by have := h.2.1; omega))
        clear hke
        gi_wp2
        refine ⟨.bool false, by simp [results, Tryz.results132, go_sem, z0, z1], by rw [HF.out], HB1.out.setCell (p := ⟨w.heap.size + 1 + 1, 0, none⟩) (show w.heap.size ≤ w.heap.size + 1 + 1 by omega) _⟩
      · have hz : (((nodeKeysK ns).length : Int) == 0) = false := by simp; simpa using hke
        have HNE : Hid (i = 0 ∨ 0 < (nodeKeysK ns).length) := Lib.hid (.inr (by omega))
        clear hke
        obtain ⟨zs, hzl, hzm, hzs, hzr⟩ := sets_sv HVN.out
        have HKS : Hid (keysOfS zs = ns.flatten) := Lib.hid (by rw [keysOfS_map, hzm])
        have HL : Hid (∀ z ∈ zs, z.ks.length ≤ 1100000) := Lib.hid (fun z hz => Nat.le_trans (sumN_sv hzm hz) HS.out.2)
        have hzn : zs.length ≤ 1100000 := by rw [hzl]; exact HS.out.1
        have HZS := Lib.hid hzs
        have HZR := Lib.hid hzr
        clear hzs hzr hzm
        gi_wp2_with fail
        refine ⟨trivial, (callsIn_wide.2 (allF_any _ _ _ _)).mono ?_⟩
        rintro r w3 ⟨rfl, rfl⟩
        gi_wp2_with fail
        refine ⟨trivial, (callsIn_wide.2 (layered_any _ _ _)).mono ?_⟩
        rintro r w3 ⟨rfl, rfl⟩
        gi_wp2_with fail
        clear x0 x1 x2 y0 y1 v0 v1 z0 z1
        obtain ⟨r0, r1⟩ := al2 W1 (.cells #[.slice A1 ns.length d1] 95) (.cells #[.func (.func 223) #[] #[.pointer (some ⟨W1.heap.size, 0, none⟩)]] 199)
        have hb3 := bal2 W1 (.cells #[.slice A1 ns.length d1] 95) (.cells #[.func (.func 223) #[] #[.pointer (some ⟨W1.heap.size, 0, none⟩)]] 199)
        have hz6 : ((W1.alloc (.cells #[.slice A1 ns.length d1] 95)).alloc (.cells #[.func (.func 223) #[] #[.pointer (some ⟨W1.heap.size, 0, none⟩)]] 199)).heap.size = W1.heap.size + 2 := by simp
        have HB6 := Lib.hid (bstep HB1.out hb3)
        have HZ0 := Lib.hid ((HZS.out.below (hb3.mono (Nat.le_refl _))).mono hb3.size)
        have HZ1 : Hid (∀ z ∈ zs, Reads ((W1.alloc (.cells #[.slice A1 ns.length d1] 95)).alloc (.cells #[.func (.func 223) #[] #[.pointer (some ⟨W1.heap.size, 0, none⟩)]] 199)) ((W1.alloc (.cells #[.slice A1 ns.length d1] 95)).alloc (.cells #[.func (.func 223) #[] #[.pointer (some ⟨W1.heap.size, 0, none⟩)]] 199)).heap.size (.slice z.A z.ks.length z.c) (keysD z.ks)) := Lib.hid (fun z hz => (HZR.out z hz).on hb3)
        replace Q0 := Lib.hid (box_on Q0.out hb3)
        replace Q1 := Lib.hid (box_on Q1.out hb3)
        replace Q2 := Lib.hid (box_on Q2.out hb3)
        have hsW := HW3.out
        clear hb3
        generalize (W1.alloc (.cells #[.slice A1 ns.length d1] 95)).alloc (.cells #[.func (.func 223) #[] #[.pointer (some ⟨W1.heap.size, 0, none⟩)]] 199) = W0 at *
        have hww := HB6.out.size
        refine rangeL (E := 58) (gf := 222) (lb := #[.pointer (some ⟨W1.heap.size + 1, 0, none⟩)]) rfl (enters_of Tryz.func222 (by kernel_rfl) rfl)
          (layered_seq 58 (fun _ _ h => by cases h) (W1.heap.size + 1) W0.heap.size 223 #[.pointer (some ⟨W1.heap.size, 0, none⟩)] zs W0 (Nat.le_refl _) (by omega) (box1N r1).1 (enters_of Tryz.func223 (by kernel_rfl) rfl)
            (all_seq 58 W1.heap.size W0.heap.size A1 d1 zs hzn (by omega) W0 (Nat.le_refl _) (by rw [hzl]; exact (box1N r0).1) HZ0.out)
            HZ1.out HL.out)
          (Below.refl _ _) (Nat.le_refl _) (fun _ => rfl)
          (fun pre V => Below W0.heap.size W0 V ∧ ∀ y ∈ pre, InP lo i (spotI y.a y.b))
          (fun cd _ V => cd = .ret ∧ fitB lo i ns = false ∧ V.heap[w.heap.size + 1 + 1]? = some (.cells #[.bool false] 4 (0, 0)) ∧ Below w.heap.size w V)
          (OwnFrom.and (ownFrom_below (Nat.le_refl _) (Nat.le_refl _)) (ownFrom_pure _ _))
          (fun cd s X Y row hs hg hr => by
            obtain ⟨h1, h2, h3, h4⟩ := hs
            have hr' : ∀ r, row = some r → ∃ o : Obj, X.heap[r]? = some o ∧ o.isCells = false := fun r e => (hr r e).2
            exact ⟨h1, h2, cellsN hg hr' h3, ownFrom_below (β := Unit) (Nat.le_refl _) hww () X Y row h4 hg hr⟩)
          ⟨Below.refl _ _, fun y hy => by cases hy⟩
          (fun x a' V => ∃ Bx, W0.heap.size ≤ Bx ∧ V.heap[Bx]? = some (.cells #[.int .i64 x.a, .int .i64 x.b, .int .i64 x.c, .int .i64 x.d, .int .i64 x.e] 58 (0, 0)) ∧ a' = { tmps := #[.agg #[.slice A lo.length c, .slice (some ⟨b0, off0, none⟩) ts.length d], .int .i64 (i : Int), .pointer (some ⟨w.heap.size, 0, none⟩), .pointer (some ⟨w.heap.size + 1, 0, none⟩), .pointer (some ⟨w.heap.size + 1 + 1, 0, none⟩), .pointer (some ⟨w.heap.size + 1 + 1 + 1, 0, none⟩), .pointer (some ⟨Bx, 0, none⟩), .pointer (some ⟨w.heap.size, 1, none⟩), .slice (some ⟨b0, off0, none⟩) ts.length d, .int .i64 (i : Int), .pointer (some ⟨b0, off0 + i, none⟩), .agg #[.slice A1 ns.length d1], .agg #[.slice A1 ns.length d1], .bool true, .bool false, .bool false, .int .i64 (i : Int), .bool true, .bool true, .agg #[.slice A1 ns.length d1], .slice A2 (nodeKeysK ns).length c2, .int .i64 ((nodeKeysK ns).length : Int), .bool false, .bool false, .bool false, .pointer (some ⟨w.heap.size + 1 + 1 + 1, 0, none⟩), .slice A1 ns.length d1, .func (.func 223) #[] #[.pointer (some ⟨W1.heap.size, 0, none⟩)], .func (.func 222) #[] #[.pointer (some ⟨W1.heap.size + 1, 0, none⟩)], .agg #[.int .i64 x.a, .int .i64 x.b, .int .i64 x.c, .int .i64 x.d, .int .i64 x.e], undef, undef, undef, undef, undef, undef, undef, undef], defers := [] })
          (fun x a' _ X Y row hs hg hr => by obtain ⟨Bx, h1, h2, h3⟩ := hs; exact ⟨Bx, h1, cellsN hg (fun r e => (hr r e).2) h2, h3⟩)
          ?assign ?body ?done ?stop
        case assign =>
          rintro l pre x V K hpx ⟨hB, hpre⟩ hK
          unfold KeyD.v keyV
          gi_wp2
          exact hK _ _ (only_alloc0 _ _ _) ⟨hB.alloc hB.size _, hpre⟩ ⟨V.heap.size, hB.size, al1 _ _, rfl⟩
        case body =>
          rintro l pre x a' V hpx ⟨hB, hpre⟩ ⟨Bx, hBx, qx, rfl⟩
          have HBV := Lib.hid hB
          have HPR := Lib.hid hpre
          have HPX := Lib.hid hpx
          have hzV := hB.size
          have QX := Lib.hid qx
          have HRT := Lib.hid (HVT.out.on (bstep HB6.out hB))
          obtain ⟨a0, a1, a2, a3, a4, a5⟩ := box5 qx
          obtain ⟨x0, x1, x2⟩ := box2 (box_on Q0.out hB)
          obtain ⟨y0, y1⟩ := box1N (box_on Q1.out hB)
          have p2 := box_on Q2.out hB
          have P2 := Lib.hid p2
          have HIFF := Lib.hid (where_iff hr.out hiL (spotI x.a x.b))
          have HXM : Hid (x ∈ ns.flatten) := Lib.hid (by rw [← HKS.out]; obtain ⟨t, ht⟩ := hpx; rw [← ht]; simp)
          have HWI := Lib.hid (fun W b => implWhereIn_any (.slice A lo.length c) (.slice (some ⟨b0, off0, none⟩) ts.length d) lo ts x.a x.b W (HRT.out.on b) hm)
          have C4 := Lib.hid (fun W (b : Below V.heap.size V W) => box1N (box_on (box_on Q1.out HBV.out) b))
          clear hB hpre hpx qx p2
          obtain ⟨u, hu⟩ : ∃ u, whereK lo (spotI x.a x.b) = u := ⟨_, rfl⟩
          have HU := Lib.hid hu
          clear hu
          have hmx : Tryz.prog.follows .mixedOrders = true := by kernel_rfl
          have hfn : Fence.wide.fn 185 := trivial
          obtain ⟨nb, hnb⟩ : ∃ nb, (u != (i : Int)) = nb := ⟨_, rfl⟩
          have HNB := Lib.hid hnb
          gi_wp2
          gi_region_with_o (gi_at_call 185; refine (CallsIn.inRound l (callsIn_wide.2 (HWI.out _ (Below.drew1 _)))).mono ?_; rintro r w4 ⟨rfl, e4⟩; rw [HU.out]; have E4 := Lib.hid (bstep (Below.drew1 _) e4); obtain ⟨g0, g1⟩ := C4.out _ E4.out; clear e4)
          all_goals
            clear hnb a0 a1 a2 a3 a4 a5 x0 x1 x2 y0 y1 g0 g1
            have hz4 := E4.out.size
            have P4 := Lib.hid (box_on P2.out E4.out)
            obtain ⟨d0, d1⟩ := box1N P4.out
            cases nb
            · have hne : (u == (i : Int)) = true := by have := HNB.out; simpa using this
              have HIN : Hid (InP lo i (spotI x.a x.b)) := Lib.hid (HIFF.out.1 (HU.out.trans (by simpa using hne)))
              clear hne
              gi_wp2
              exact ⟨Kept.of_below E4.out _ _ _, HBV.out.trans (E4.out.mono hzV), fun y hy => (List.mem_append.1 hy).elim (HPR.out y) (fun e => by simp at e; subst e; exact HIN.out)⟩
            · have HFF : Hid (fitB lo i ns = false) := Lib.hid (decide_eq_false (fun h => by
                obtain ⟨l1, hl1, hx1⟩ := List.mem_flatten.1 HXM.out
                have h5 := HIFF.out.2 (h.2.2 l1 hl1 x hx1)
                rw [HU.out] at h5
                have h6 := HNB.out
                simp [h5] at h6))
              gi_wp2
              exact ⟨((Only.of_below E4.out (fun b => b < W0.heap.size)).setCell (g := w.heap.size + 1 + 1) (j := 0) (show w.heap.size + 1 + 1 < W0.heap.size by omega) _).kept _ (fun b hb => ⟨Nat.zero_le _, fun h => by omega⟩), rfl, HFF.out, box_set P4.out, (bstep (bstep HB6.out HBV.out) E4.out).setCell (p := ⟨w.heap.size + 1 + 1, 0, none⟩) (show w.heap.size ≤ w.heap.size + 1 + 1 by omega) _⟩
        case done =>
          rintro D V hD ⟨hB, hall⟩ hK
          have HFF : Hid (fitB lo i ns = true) := Lib.hid (decide_eq_true ⟨HOK.out, HNE.out, fun l1 hl1 x hx => hall x (by rw [HKS.out]; exact List.mem_flatten.2 ⟨l1, hl1, hx⟩)⟩)
          have HBV := Lib.hid hB
          have HKD := Lib.hid hK
          have hDV : D < V.heap.size := (Array.getElem?_eq_some_iff.1 hK).1
          have p2 := box_on Q2.out hB
          obtain ⟨c0, c1⟩ := box1N p2
          have P2' := Lib.hid p2
          clear hB hall hK p2
          gi_wp2
          have hK5 : (V.setCell ⟨w.heap.size + 1 + 1, 0, none⟩ (.bool true)).heap[D]? = some (.deferred (some [])) := box_far HKD.out (by omega)
          refine ⟨by simp, .inl ⟨_, _, rfl, run_takeDeferred hK5, ?_⟩⟩
          have hput := fun {b cur e} => cellsN (b := b) (cur := cur) (e := e) (grownBy_putObj' _ D (.deferred none)) (fun r e => by cases e; exact ⟨_, hK5, rfl⟩)
          obtain ⟨e0, e1⟩ := box1N (hput (box_set (i := 0) (u := .bool true) P2'.out))
          refine ⟨.bool true, by simp [results, Tryz.results132, go_sem, e0], by rw [HFF.out], ((bstep HB6.out HBV.out).setCell (p := ⟨w.heap.size + 1 + 1, 0, none⟩) (show w.heap.size ≤ w.heap.size + 1 + 1 by omega) _).trans (belowK_b (w := w) (Nat.le_refl _) _ D _ _ (by omega) hK5 rfl rfl)⟩
        case stop =>
          rintro D cd pre V hD _ ⟨rfl, h1, h2, h3⟩ hK
          gi_wp2
          refine ⟨by simp, .inl ⟨_, _, rfl, run_takeDeferred hK, ?_⟩⟩
          have hput := fun {b cur e} => cellsN (b := b) (cur := cur) (e := e) (grownBy_putObj' V D (.deferred none)) (fun r e => by cases e; exact ⟨_, hK, rfl⟩)
          obtain ⟨a0, a1⟩ := box1N (hput h2)
          refine ⟨.bool false, by simp [results, Tryz.results132, go_sem, a0], by rw [h1], h3.trans (belowK_b (w := w) (Nat.le_refl _) _ D _ _ (by omega) hK rfl rfl)⟩
theorem store_lessN (a : Addr) (m : Mode) (w : World) : (store a (.func (.func 130) #[] #[]) m).run Tryz.prog w = stored Tryz.prog w a (.func (.func 130) #[] #[]) m := run_store _ w a _ m rfl
set_option maxHeartbeats 4000000 in
theorem implTreeOk_any (vl vn : Value) (lo : List Int) (ts : List NodeD) (w : World) (hv : RdT w w.heap.size vl vn lo ts) (hn : ts.length ≤ 1048576) (hm : lo.length ≤ 1048576) (hs : sumT ts ≤ 1048576) :
    Calls Tryz.prog 73 #[.agg #[vl, vn]] w (SaysBool w (treeOkB lo ts)) := by
  obtain ⟨A, c, B, d, rfl, rfl⟩ := hv.shape
  have HB := Lib.hid (bal1 w (.cells #[.slice A lo.length c, .slice B ts.length d] 36))
  have Q0 := Lib.hid (al1 w (.cells #[.slice A lo.length c, .slice B ts.length d] 36))
  have HV := Lib.hid (hv.on (bal1 w (.cells #[.slice A lo.length c, .slice B ts.length d] 36)))
  have hst := store_lessN
  clear hv
  go_enter Tryz.func73, Tryz.ntmps73
  go_upto_region 1 with (fail)
  generalize w.alloc (.cells #[.slice A lo.length c, .slice B ts.length d] 36) = W at *
  obtain ⟨x0, x1, x2⟩ := box2 Q0.out
  by_cases h1 : 1 ≤ ts.length
  · by_cases h1' : ts.length ≤ 20
    · have e1 : ¬ (ts.length : Int) < 1 := by omega
      have e1' : (1 : Int) ≤ (ts.length : Int) := by omega
      have e2 : (ts.length : Int) ≤ 20 := by omega
      by_cases h2 : lo.length = ts.length
      · have d2 : ((lo.length : Int) != (ts.length : Int)) = false := by simp [h2]
        have h0 : 0 < lo.length := by omega
        have H2 := Lib.hid h2
        have h2a := Nat.le_of_eq h2
        have h2b := Nat.le_of_eq h2.symm
        clear h2
        go_upto_region 4 with (fail)
        clear d2
        have ba := bal1 W (.cells #[.slice A lo.length c, .func (.func 130) #[] #[]] 164)
        have QS := Lib.hid (al1 W (.cells #[.slice A lo.length c, .func (.func 130) #[] #[]] 164))
        replace Q0 := Lib.hid (box_on Q0.out ba)
        replace HV := Lib.hid (HV.out.on ba)
        replace HB := Lib.hid (bstep HB.out ba)
        clear ba x0 x1 x2
        generalize W.alloc (.cells #[.slice A lo.length c, .func (.func 130) #[] #[]] 164) = W1 at *
        obtain ⟨x0, x1, x2⟩ := box2 Q0.out
        obtain ⟨s0, s1, s2⟩ := box2 QS.out
        obtain ⟨b, off, hA, hbb, hc⟩ := HV.out.1.int h0
        subst hA
        have f0 := hc 0 h0
        unfold iV at f0
        rw [Nat.add_zero] at f0
        have i0 : (0 : Int) < (lo.length : Int) := by omega
        have g0 := getD_at h0
        clear hc
        by_cases h3 : lo[0] = 0
        · have d3 : (lo[0] != 0) = false := by simp [h3]
          have H3 : Hid (lo.getD 0 0 = 0) := Lib.hid (by rw [g0]; exact h3)
          clear g0 h3
          go_wp2_with fail
          refine (ascI_any _ lo _ HV.out.1 (by omega)).mono ?_
          rintro e w2 ⟨rfl, b2⟩
          replace Q0 := Lib.hid (box_on Q0.out b2)
          replace HV := Lib.hid (HV.out.on b2)
          replace HB := Lib.hid (bstep HB.out b2)
          clear b2 x0 x1 x2 s0 s1 s2 f0 QS
          obtain ⟨x0, x1, x2⟩ := box2 Q0.out
          by_cases hr : RiseP lo
          · have HR := Lib.hid hr
            rw [decide_eq_true hr]
            clear hr d3
            go_wp2
            go_loopw [40] (fun q wr => ∃ k : Nat, k ≤ ts.length ∧ q = .int .i64 k ∧ Hid (∀ j, j < k → fitB lo j (ts.getD j []) = true) ∧ Hid (Below w2.heap.size w2 wr)) (fun q _ => ts.length - (intOf q).toNat)
            case atStart => exact ⟨0, Nat.zero_le _, rfl, Lib.hid (fun j h => by omega), Lib.hid (Below.refl _ _)⟩
            case round =>
              clear x0 x1 x2
              obtain ⟨k, hk, rfl, HI1, HX⟩ := hrel
              obtain ⟨x0, x1, x2⟩ := box2 (box_on Q0.out HX.out)
              by_cases hlt : k < ts.length
              · have i1 : (k : Int) < (ts.length : Int) := by omega
                have i2 : (0 : Int) ≤ (k : Int) := by omega
                cases hfb : fitB lo k ts[k]
                all_goals
                  have HFB := Lib.hid hfb
                  clear hfb
                  go_wp2_with fail
                  refine (nodeFits_any _ _ lo ts k _ (HV.out.on HX.out) hlt (by omega) HR (by omega) (by omega) (by omega)).mono ?_
                  rintro e w3 ⟨rfl, b3⟩
                  rw [HFB.out]
                  have HX3 := Lib.hid (bstep HX.out b3)
                  clear b3 x0 x1 x2
                  go_wp2
                  first
                    | go_ret
                      refine ⟨ret_boolB ?_, bstep HB.out HX3.out⟩
                      symm
                      exact tree_bad (fun h => by have := h.2.2.2.2.2.1 k hlt; rw [getD_node hlt, HFB.out] at this; cases this)
                    | go_roundw
                      case rel => exact ⟨k + 1, by omega, by go_num, Lib.hid (fun j h => by
                          rcases Nat.lt_or_ge j k with h' | h'
                          · exact HI1.out j h'
                          · have e : j = k := by omega
                            subst e; rw [getD_node hlt]; exact HFB.out), HX3⟩
                      case measure => simp [intOf]; omega
              · have e : k = ts.length := by omega
                subst e
                go_wp2_with fail
                refine (implTreeKeys_any _ _ lo ts _ (HV.out.on HX.out) (by omega) (by omega)).mono ?_
                rintro e w3 ⟨v3, rfl, o3, b3⟩
                obtain ⟨A3, c3, rfl, _, _⟩ := o3.shape
                have HB2 := Lib.hid (bstep HB.out (bstep HX.out b3))
                clear o3 b3 x0 x1 x2
                go_wp2
                go_ret
                refine ⟨ret_boolB ?_, HB2.out⟩
                unfold treeOkB
                refine decide_eq_decide.2 ⟨fun h => ⟨h1, h1', H2.out, H3.out, HR.out, HI1.out, by omega⟩, fun h => by have := h.2.2.2.2.2.2; omega⟩
          · rw [decide_eq_false hr]
            have HBAD : Hid (treeOkB lo ts = false) := Lib.hid (tree_bad (fun h => hr h.2.2.2.2.1))
            clear hr d3
            go_wp2
            go_ret
            exact ⟨ret_boolB HBAD.out.symm, HB.out⟩
        · have d3 : (lo[0] != 0) = true := by simp [h3]
          have HBAD : Hid (treeOkB lo ts = false) := Lib.hid (tree_bad (fun h => h3 (by rw [← g0]; exact h.2.2.2.1)))
          clear g0 h3
          go_wp2
          go_ret
          exact ⟨ret_boolB HBAD.out.symm, HB.out⟩
      · have d2 : ((lo.length : Int) != (ts.length : Int)) = true := by simp; omega
        have HBAD : Hid (treeOkB lo ts = false) := Lib.hid (tree_bad (fun h => h2 h.2.2.1))
        clear h2
        go_wp2
        go_ret
        exact ⟨ret_boolB HBAD.out.symm, HB.out⟩
    · have e1 : ¬ (ts.length : Int) < 1 := by omega
      have e1' : (1 : Int) ≤ (ts.length : Int) := by omega
      have e2 : (20 : Int) < (ts.length : Int) := by omega
      have HBAD : Hid (treeOkB lo ts = false) := Lib.hid (tree_bad (fun h => h1' h.2.1))
      clear h1'
      go_wp2
      go_ret
      exact ⟨ret_boolB HBAD.out.symm, HB.out⟩
  · have e1 : (ts.length : Int) < 1 := by omega
    have HBAD : Hid (treeOkB lo ts = false) := Lib.hid (tree_bad (fun h => h1 h.1))
    clear h1
    go_wp2
    go_ret
    exact ⟨ret_boolB HBAD.out.symm, HB.out⟩
end Go.Proofs.YtpfepcjbhchpcaaGreat
