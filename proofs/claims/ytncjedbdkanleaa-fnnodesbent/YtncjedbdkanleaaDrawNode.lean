/- Contracts for drawn nodes: spec.l5Draw (valid), spec.l5Any (any node), each in memory of its own. Conditions: the code drawn from has at most 2^20 bytes. -/
import Derived.Test.YtncjedbdkanleaaNodeSPut
import Derived.Test.YtncjedbdkanleaaDrawSet2
import Derived.Test.YtncjedbdkanleaaLast4
namespace Go.Proofs.Ytncjedbdkanleaa
open Go.RowKit
set_option maxRecDepth 100000
set_option linter.unusedSimpArgs false
set_option linter.unusedVariables false

theorem only_ofN {w w' : World} {p : Nat} (h : w.grownBy w' (some p)) : Only (fun x => x = p) w w' := Only.of_grown h rfl
theorem ok_putN {ns : List (List KeyD)} {x : KeyD} (h : nodeOkB ns = true) : nodeOkB (putN ns x) = true := by
  unfold putN
  split
  · assumption
  · split
    · assumption
    · exact h
theorem okN_small {ns : List (List KeyD)} (h : nodeOkB ns = true) : ns.length ≤ 3 ∧ sumN ns ≤ 8 := by
  simp [nodeOkB] at h
  omega
theorem Owns.farP {w w' : World} {p base : Nat} {v : Value} {c : Dat} (h : Owns w (fun b => base ≤ b) v c) (hg : w.grownBy w' (some p)) (hp : p < base) : Owns w' (fun b => base ≤ b) v c := h.far (only_ofN hg) (fun b hb _ e => by omega)
theorem NOwn.farP {w w' : World} {p base bo : Nat} {u : Value} {ns : List (List KeyD)} (h : NOwn w base bo u ns) (hg : w.grownBy w' (some p)) (hp : p < base) : NOwn w' base bo u ns := by
  obtain ⟨xs, h1, h2, h3⟩ := h
  exact ⟨xs, row_keep h1 (fun g hg' => hg.block g (row_lt h1 g hg').1 (fun e => by injection e with e; have := (row_lt h1 g hg').2; omega)), h2.far (only_ofN hg) (fun b hb _ e => by have := hb.1.1; omega), h3⟩
/-- A drawn node: valid, in memory of the call's own. -/
def ANode (w : World) (p : Nat) (e : Ending) (w' : World) : Prop := ∃ v ns, e = .returned (.agg #[v]) ∧ Owns w' (fun b => w.heap.size ≤ b) v (setsD ns) ∧ nodeOkB ns = true ∧ Cur w' p ∧ w.grownBy w' (some p)
def NIn (w : World) (p : Nat) (wr : World) : Prop :=
  ∃ ns u, wr.heap[w.heap.size + 1]? = some (.cells #[u] 26) ∧ wr.heap[w.heap.size]? = some (.cells #[.slice none 0 0] 26) ∧ Owns wr (fun b => w.heap.size + 2 ≤ b) u (setsD ns) ∧ nodeOkB ns = true ∧ Cur wr p ∧ w.grownBy wr (some p)
set_option maxHeartbeats 1000000 in
theorem l5Draw_any (p : Nat) (w : World) (hc : Cur w p) : Calls Try.prog 47 #[.pointer (some ⟨p, 0, none⟩)] w (ANode w p) := by
  have hlt := hc.lt
  have HD := Lib.hid l3Draw_any
  have HP := Lib.hid specNodePut_any
  unfold AKey keyV at HD
  unfold KeyD.v keyV at HP
  have C0 := Lib.hid ((hc.alloc (.cells #[.slice none 0 0] 26)).alloc (.cells #[.slice none 0 0] 26))
  have G0 := Lib.hid (only_alloc (only_start w (.cells #[.slice none 0 0] 26) (some p)) (.cells #[.slice none 0 0] 26))
  obtain ⟨q0, q1⟩ := al2 w (.cells #[.slice none 0 0] 26) (.cells #[.slice none 0 0] 26)
  have Q0 := Lib.hid q0
  have Q1 := Lib.hid q1
  clear hc q0 q1
  go_enter Try.func47, Try.ntmps47
  go_wp2_with fail
  refine (l1Below_any p 12 _ C0.out (by omega) (by omega)).mono ?_
  rintro r w1 ⟨j, hj, rfl, c1, g1⟩
  have START : Hid (NIn w p w1) := Lib.hid ⟨[], .slice none 0 0, box_grows Q1.out g1 (by omega), box_grows Q0.out g1 (by omega), .nil _ _ _, rfl, c1, only_trans G0.out g1⟩
  clear c1 g1 Q0 Q1 C0 G0
  go_wp2
  go_loopw [4] (fun i wr => ∃ k : Nat, k ≤ 12 ∧ i = .int .i64 k ∧ Hid (NIn w p wr)) (fun i _ => (intOf i).toNat)
  case atStart => exact ⟨j, by omega, rfl, START⟩
  case round =>
    clear START hj
    obtain ⟨k, hk, rfl, HN⟩ := hrel
    obtain ⟨ns, u, q1, q0, ou, hok, hcu, hgr⟩ := HN.out
    obtain ⟨Au, cu, rfl, _, _⟩ := ou.reads.lenN
    have QO := Lib.hid q1
    have QR := Lib.hid q0
    have OU := Lib.hid ou
    have HOK := Lib.hid hok
    have HC := Lib.hid hcu
    have HG := Lib.hid hgr
    have hsm := okN_small hok
    have hsz : w.heap.size + 1 < wr.heap.size := (Array.getElem?_eq_some_iff.1 q1).1
    clear q0 q1 ou hok hcu hgr HN
    rcases k with _ | k
    · obtain ⟨z0, z1⟩ := box1N QO.out
      obtain ⟨y0, y1⟩ := box1N QR.out
      go_wp2
      refine bodyPost_ret (v := .agg #[.slice Au ns.length cu]) (by simp [results, Try.results47, go_sem, y0, y1]) rfl ⟨_, ns, rfl, (OU.out.setFar (by omega)).mono (fun b hb => by omega), HOK.out, HC.out.setNew hlt _, only_setNew HG.out (Nat.le_refl _) _⟩
    · have i1 : (0 : Int) < (k : Int) + 1 := by omega
      have i2 : IntKind.i64.wrap ((k : Int) + 1 - 1) = (k : Int) := by rw [IntKind.wrap_i64]; omega
      have i3 : IntKind.i64.wrap (k : Int) = (k : Int) := by rw [IntKind.wrap_i64]; omega
      have CD := Lib.hid (HC.out.keep (w' := wr.drew) (fun _ _ => rfl))
      have OD := Lib.hid (OU.out.on (Below.drew1 wr))
      go_upto_region 5 with (fail)
      refine f_begin (F := fun i => i == 6 || i == 7) (S := fun V => V.heap[w.heap.size + 1]? = some (.cells #[.slice Au ns.length cu] 26)) (by kernel_rfl) ?_
      have hS0 : (fun V => V.heap[w.heap.size + 1]? = some (.cells #[.slice Au ns.length cu] 26)) wr.drew := show wr.drew.heap[w.heap.size + 1]? = some _ from QO.out
      refine f_take (i := 0) (v := ?vd0) rfl (by kernel_rfl) (by kernel_rfl) (by kernel_rfl) (by kernel_rfl) (by kernel_rfl) (fun _ _ _ h => h) (Or.inl ⟨by rfl, ?hyd0⟩) hS0 ?restd0
      case hyd0 =>
        intro W hW
        obtain ⟨z0, z1⟩ := box1N hW
        go_simp
        exact rfl
      simp only [List.getElem_toArray, List.getElem_cons_succ, List.getElem_cons_zero, Act.put, List.setIfInBounds_toArray, List.set_cons_zero, List.set_cons_succ]
      refine f_take (i := 1) (v := ?vd1) rfl (by kernel_rfl) (by kernel_rfl) (by kernel_rfl) (by kernel_rfl) (by kernel_rfl) (fun _ _ _ h => h) (Or.inl ⟨by rfl, ?hyd1⟩) hS0 ?restd1
      case hyd1 =>
        intro W hW
        go_simp
        exact rfl
      simp only [List.getElem_toArray, List.getElem_cons_succ, List.getElem_cons_zero, Act.put, List.setIfInBounds_toArray, List.set_cons_zero, List.set_cons_succ]
      refine f_run (i := 2) (by kernel_rfl) rfl (by rfl) ?_
      simp only [List.getElem_toArray, List.getElem_cons_succ, List.getElem_cons_zero]
      intro K HK
      go_wp2_with fail
      refine (HD.out p _ CD.out).mono ?_
      rintro r Vd1 ⟨xa, xb, xc, xd, xe, rfl, sm, c2, g2⟩
      go_wp2_with fail
      have hSd1 : (fun V => V.heap[w.heap.size + 1]? = some (.cells #[.slice Au ns.length cu] 26)) Vd1 := box_grows hS0 g2 (by omega)
      refine HK.out _ _ (fun _ => hSd1) ?_
      clear HK
      have O2 := Lib.hid (OD.out.farP g2 (by omega))
      have C2 := Lib.hid c2
      have G2 := Lib.hid (only_trans (only_draw1 HG.out) g2)
      have R2 := Lib.hid (box_grows (show wr.drew.heap[w.heap.size]? = some _ from QR.out) g2 (by omega))
      have hz2 := g2.size
      have hzd : wr.heap.size ≤ wr.drew.heap.size := Nat.le_refl _
      clear c2 g2 sm
      try simp only [List.getElem_toArray, List.getElem_cons_succ, List.getElem_cons_zero, Act.put, List.setIfInBounds_toArray, List.set_cons_zero, List.set_cons_succ]
      refine f_run (i := 3) (by kernel_rfl) rfl (by rfl) ?_
      simp only [List.getElem_toArray, List.getElem_cons_succ, List.getElem_cons_zero]
      intro K HK
      go_wp2_with fail
      refine (HP.out _ ns ⟨xa, xb, xc, xd, xe⟩ _ O2.out.reads (by omega) (by omega)).mono ?_
      rintro r Vd2 ⟨v3, rfl, o3, b3⟩
      obtain ⟨A3, c3, rfl, _, _⟩ := o3.reads.lenN
      go_wp2_with fail
      have hSd2 : (fun V => V.heap[w.heap.size + 1]? = some (.cells #[.slice Au ns.length cu] 26)) Vd2 := box_on hSd1 b3
      refine HK.out _ _ (fun _ => hSd2) ?_
      clear HK
      have hz3 := b3.size
      try simp only [List.getElem_toArray, List.getElem_cons_succ, List.getElem_cons_zero, Act.put, List.setIfInBounds_toArray, List.set_cons_zero, List.set_cons_succ]
      refine f_take (i := 4) (v := ?vd4) rfl (by kernel_rfl) (by kernel_rfl) (by kernel_rfl) (by kernel_rfl) (by kernel_rfl) (fun _ _ _ h => h) (Or.inl ⟨by rfl, ?hyd4⟩) hSd2 ?restd4
      case hyd4 =>
        intro W hW
        go_simp
        exact rfl
      simp only [List.getElem_toArray, List.getElem_cons_succ, List.getElem_cons_zero, Act.put, List.setIfInBounds_toArray, List.set_cons_zero, List.set_cons_succ]
      obtain ⟨z0, z1⟩ := box1N hSd2
      refine f_two (i := 5) (j := 6) (by kernel_rfl) rfl rfl (by rfl) (by rfl) ?_ ?_
      · simp only [List.getElem_toArray, List.getElem_cons_succ, List.getElem_cons_zero]
        intro K HK
        go_wp2_with fail
        refine HK.out _ _ (fun _ => hSd2) ?_
        clear HK
        try simp only [List.getElem_toArray, List.getElem_cons_succ, List.getElem_cons_zero, Act.put, List.setIfInBounds_toArray, List.set_cons_zero, List.set_cons_succ]
        refine f_two (i := 6) (j := 7) (by kernel_rfl) rfl rfl (by rfl) (by rfl) ?_ ?_
        · simp only [List.getElem_toArray, List.getElem_cons_succ, List.getElem_cons_zero]
          intro K HK
          go_wp2_with fail
          refine HK.out _ _ (fun h => absurd h (by decide)) ?_
          clear HK
          try simp only [List.getElem_toArray, List.getElem_cons_succ, List.getElem_cons_zero, Act.put, List.setIfInBounds_toArray, List.set_cons_zero, List.set_cons_succ]
          refine f_run (i := 7) (by kernel_rfl) rfl (by rfl) ?_
          simp only [List.getElem_toArray, List.getElem_cons_succ, List.getElem_cons_zero]
          intro K HK
          go_wp2_with fail
          refine HK.out _ _ (fun h => absurd h (by decide)) ?_
          clear HK
          skip
          have NEW : Hid (NIn w p (Vd2.setCell ⟨w.heap.size + 1, 0, none⟩ (.slice A3 (putN ns ⟨xa, xb, xc, xd, xe⟩).length c3))) := Lib.hid ⟨_, _, box_set hSd2, box_far (box_on R2.out b3) (by omega), ((o3.mono (T := fun b => w.heap.size + 2 ≤ b) (fun b hb => by omega)).setFar (by omega)), ok_putN HOK.out, (C2.out.on b3).setNew (by omega) _, only_setNew (grown_on G2.out (b3.mono G2.out.size)) (by omega) _⟩
          clear o3 b3 O2 C2 G2 R2 hSd1 hSd2 z0 z1 CD OD QO QR OU HOK HC HG hsm
          refine f_done (by kernel_rfl) ?_
          go_wp2
          go_roundw
          case rel => exact ⟨k, by omega, by go_num, NEW⟩
          case measure => simp [intOf]
        · simp only [List.getElem_toArray, List.getElem_cons_succ, List.getElem_cons_zero]
          intro K HK
          go_wp2_with fail
          refine HK.out _ _ (fun h => absurd h (by decide)) ?_
          clear HK
          skip
          refine f_run (i := 6) (by kernel_rfl) rfl (by rfl) ?_
          simp only [List.getElem_toArray, List.getElem_cons_succ, List.getElem_cons_zero]
          intro K HK
          go_wp2_with fail
          refine HK.out _ _ (fun h => absurd h (by decide)) ?_
          clear HK
          try simp only [List.getElem_toArray, List.getElem_cons_succ, List.getElem_cons_zero, Act.put, List.setIfInBounds_toArray, List.set_cons_zero, List.set_cons_succ]
          have NEW : Hid (NIn w p (Vd2.setCell ⟨w.heap.size + 1, 0, none⟩ (.slice A3 (putN ns ⟨xa, xb, xc, xd, xe⟩).length c3))) := Lib.hid ⟨_, _, box_set hSd2, box_far (box_on R2.out b3) (by omega), ((o3.mono (T := fun b => w.heap.size + 2 ≤ b) (fun b hb => by omega)).setFar (by omega)), ok_putN HOK.out, (C2.out.on b3).setNew (by omega) _, only_setNew (grown_on G2.out (b3.mono G2.out.size)) (by omega) _⟩
          clear o3 b3 O2 C2 G2 R2 hSd1 hSd2 z0 z1 CD OD QO QR OU HOK HC HG hsm
          refine f_done (by kernel_rfl) ?_
          go_wp2
          go_roundw
          case rel => exact ⟨k, by omega, by go_num, NEW⟩
          case measure => simp [intOf]
      · simp only [List.getElem_toArray, List.getElem_cons_succ, List.getElem_cons_zero]
        intro K HK
        go_wp2_with fail
        refine HK.out _ _ (fun h => absurd h (by decide)) ?_
        clear HK
        try simp only [List.getElem_toArray, List.getElem_cons_succ, List.getElem_cons_zero, Act.put, List.setIfInBounds_toArray, List.set_cons_zero, List.set_cons_succ]
        refine f_run (i := 5) (by kernel_rfl) rfl (by rfl) ?_
        simp only [List.getElem_toArray, List.getElem_cons_succ, List.getElem_cons_zero]
        intro K HK
        go_wp2_with fail
        refine HK.out _ _ (fun _ => hSd2) ?_
        clear HK
        try simp only [List.getElem_toArray, List.getElem_cons_succ, List.getElem_cons_zero, Act.put, List.setIfInBounds_toArray, List.set_cons_zero, List.set_cons_succ]
        refine f_run (i := 7) (by kernel_rfl) rfl (by rfl) ?_
        simp only [List.getElem_toArray, List.getElem_cons_succ, List.getElem_cons_zero]
        intro K HK
        go_wp2_with fail
        refine HK.out _ _ (fun h => absurd h (by decide)) ?_
        clear HK
        skip
        have NEW : Hid (NIn w p (Vd2.setCell ⟨w.heap.size + 1, 0, none⟩ (.slice A3 (putN ns ⟨xa, xb, xc, xd, xe⟩).length c3))) := Lib.hid ⟨_, _, box_set hSd2, box_far (box_on R2.out b3) (by omega), ((o3.mono (T := fun b => w.heap.size + 2 ≤ b) (fun b hb => by omega)).setFar (by omega)), ok_putN HOK.out, (C2.out.on b3).setNew (by omega) _, only_setNew (grown_on G2.out (b3.mono G2.out.size)) (by omega) _⟩
        clear o3 b3 O2 C2 G2 R2 hSd1 hSd2 z0 z1 CD OD QO QR OU HOK HC HG hsm
        refine f_done (by kernel_rfl) ?_
        go_wp2
        go_roundw
        case rel => exact ⟨k, by omega, by go_num, NEW⟩
        case measure => simp [intOf]
end Go.Proofs.Ytncjedbdkanleaa
