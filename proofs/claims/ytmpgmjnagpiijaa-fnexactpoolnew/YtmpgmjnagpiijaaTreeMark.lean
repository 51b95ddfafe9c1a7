/- Contracts for trees in the laws: laws.markTree writes marks, laws.heldTree finds them. Conditions: at most 1100000 bounds, nodes, sets and keys. -/
import Derived.Test.YtmpgmjnagpiijaaTreeLaw
namespace Go.Proofs.Ytmpgmjnagpiijaa
open Go.RowKit Go.ChangeShapes Go.WideShapes Go.Deep
set_option maxRecDepth 100000
set_option linter.unusedSimpArgs false
set_option linter.unusedVariables false

def mI (k : Int) (_ : Int) : Int := k
def sI (_ : Int) : Nat := 1
def mNd (k : Int) (ns : NodeD) : NodeD := mkL mN sN k ns ns.length
def sNd (ns : NodeD) : Nat := sumN ns * 5
def mkI (k : Int) (l : List Int) : List Int := mkL mI sI k l l.length
def mkT (k : Int) (ts : List NodeD) : List NodeD := mkL mNd sNd k ts ts.length
theorem mNd_len (k : Int) (ns : NodeD) : (mNd k ns).length = ns.length := mkL_length _ _ _ _ _
theorem totI (l : List Int) (i : Nat) (h : i ≤ l.length) : totL sI l i = i := by
  induction l generalizing i with
  | nil => simp at h; subst h; rfl
  | cons a l ih =>
    cases i with
    | zero => rfl
    | succ i => simp only [totL, sI]; rw [ih i (by simpa using h)]; omega
theorem totT (ts : List NodeD) (i : Nat) : totL sNd ts i ≤ sumT ts * 5 := by
  induction ts generalizing i with
  | nil => cases i <;> simp [totL]
  | cons a ts ih =>
    cases i with
    | zero => simp [totL]
    | succ i => have := ih i; simp only [totL, sNd, sumT_cons]; omega
def RwC (w : World) (g : Nat) (e : TypeId) (n : Nat) (xs : List Value) : Prop := ∃ cur : Array Value, w.heap[g]? = some (.cells cur e (0, 0)) ∧ n ≤ cur.size ∧ cur.toList.take n = xs
theorem RwC.set {w : World} {g : Nat} {e : TypeId} {n : Nat} {xs : List Value} (h : RwC w g e n xs) (i : Nat) (u : Value) : RwC (w.setCell ⟨g, i, none⟩ u) g e n (xs.set i u) := by
  obtain ⟨cur, hg, hs, hx⟩ := h
  refine ⟨cur.setIfInBounds i u, heap_setCell_same w g i cur _ _ hg, by simpa using hs, ?_⟩
  rw [Array.toList_setIfInBounds, ← hx, List.take_set]
theorem RwC.cell {w : World} {g : Nat} {e : TypeId} {n : Nat} {xs : List Value} (h : RwC w g e n xs) {i : Nat} (hi : i < xs.length) : w.cell? ⟨g, i, none⟩ = some xs[i] := by
  obtain ⟨cur, hg, hs, hx⟩ := h
  rw [cell_of_row w g i cur _ _ hg]
  subst hx
  simp at hi ⊢
theorem RwC.frozen {w : World} {g : Nat} {e : TypeId} {n : Nat} {xs : List Value} (h : RwC w g e n xs) (k : Nat) : w.frozen? ⟨g, k, none⟩ = false := by
  obtain ⟨cur, hg, _⟩ := h
  exact frozen_of_row w g k cur _ hg
theorem lits_eq {w : World} {B : Nat} {xs : List Value} {l : List Int} (h : ReadsL w B xs (l.map fun n => .lit (iV n))) : xs = l.map iV := by
  refine List.ext_getElem (by rw [h.1]; simp) (fun i h1 h2 => ?_)
  have := h.2 i h1 (by rw [← h.1]; exact h1)
  simp only [List.getElem_map] at this ⊢
  generalize xs[i] = x at this
  cases this
  rfl
set_option maxHeartbeats 1000000 in
theorem markIntS_any (v : Value) (S : Nat → Prop) (l : List Int) (k : Int) (w : World) (hv : OwnC w S v (intsD l)) (hn : l.length ≤ 1100000) (h0 : 0 ≤ k) (h1 : k ≤ 1099511627776) :
    Calls Try.prog 59 #[v, .int .i64 k] w fun e w' => e = .returned (.int .i64 (k + (l.length : Nat))) ∧ OwnC w' S v (intsD (mkI k l)) ∧ Only S w w' := by
  rcases hv with ⟨rfl, hl, hc⟩ | ⟨g, cap, cur, xs, rfl, hS, hh, hcap, hmax, hsz, hl, hx, ho⟩
  · have : l = [] := List.length_eq_zero_iff.1 hl
    subst this
    go_enter Try.func59, Try.ntmps59
    go_wp2
    go_loopw [1, 5] (fun q i wr => i = .int .i64 0 ∧ q = .int .i64 k ∧ w = wr) (fun _ _ _ => 0)
    case atStart => exact ⟨rfl, rfl, rfl⟩
    case round =>
      obtain ⟨rfl, rfl, rfl⟩ := hrel
      go_wp2
      go_ret
      exact ⟨by simp, .inl ⟨rfl, rfl, rfl⟩, Only.refl _ _⟩
  · have hxs := lits_eq ho.reads
    rw [Nat.mul_one] at hx hsz
    have HR : Hid (RwC w g 3 l.length (l.map iV)) := Lib.hid ⟨cur, hh, hsz, by rw [hx, hxs]⟩
    clear hh hx ho hxs hsz hl
    go_enter Try.func59, Try.ntmps59
    go_wp2
    go_loopw [1, 5] (fun q i wr => ∃ j : Nat, j ≤ l.length ∧ i = .int .i64 j ∧ q = .int .i64 (k + (j : Nat)) ∧ Hid (RwC wr g 3 l.length ((mkL mI sI k l j).map iV)) ∧ Hid (Only S w wr)) (fun _ i _ => l.length - (intOf i).toNat)
    case atStart => exact ⟨0, Nat.zero_le _, rfl, by simp, by rw [mkL_zero]; exact HR, Lib.hid (Only.refl _ _)⟩
    case round =>
      clear HR
      obtain ⟨j, hj, rfl, rfl, HR, HO⟩ := hrel
      by_cases hlt : j < l.length
      · have hlm : j < ((mkL mI sI k l j).map iV).length := by simp [mkL_length]; exact hlt
        obtain ⟨y, c1⟩ : ∃ y : Int, wr.cell? ⟨g, j, none⟩ = some (.int .i64 y) := ⟨_, (HR.out.cell hlm).trans (by rw [List.getElem_map]; rfl)⟩
        have f1 := HR.out.frozen j
        have hs := HR.out.set j (iV (k + (j : Nat)))
        rw [← List.map_set, show (mkL mI sI k l j).set j (k + (j : Nat)) = mkL mI sI k l (j + 1) by rw [mkL_succ _ _ _ _ _ hlt, totI l j hj]; rfl] at hs
        have HS := Lib.hid hs
        have HO2 := Lib.hid (HO.out.setCell (j := j) hS (iV (k + (j : Nat))))
        unfold iV at HS HO2
        have i1 : (j : Int) < (l.length : Int) := by omega
        have i2 : (0 : Int) ≤ (j : Int) := by omega
        clear HR HO hlm hs
        have q1 : k + (j : Int) ≤ 1199511627776 := by omega
        have q0 : 0 ≤ k + (j : Int) := by omega
        generalize hq : k + (j : Int) = q at *
        have HQ := Lib.hid hq
        clear hq
        go_wp2
        go_roundw
        case rel => exact ⟨j + 1, by omega, by go_num, by rw [← HQ.out]; go_num, HS, HO2⟩
        case measure => simp [intOf]; omega
      · go_wp2
        go_ret
        have e : j = l.length := by omega
        subst e
        obtain ⟨cur2, k1, k2, k3⟩ := HR.out
        refine ⟨rfl, .inr ⟨g, cap, cur2, (mkI k l).map iV, by rw [mkI, mkL_length], hS, k1, by rw [mkI, mkL_length]; exact hcap, hmax, by rw [mkI, mkL_length, Nat.mul_one]; exact k2, by simp, by rw [mkI, mkL_length, Nat.mul_one]; exact k3, ints_litL _ _ _⟩, HO.out⟩
set_option maxHeartbeats 1000000 in
theorem markNodeS_any (v : Value) (S : Nat → Prop) (ts : List NodeD) (k : Int) (w : World) (hv : OwnC w S v (nodesD ts)) (hn : ts.length ≤ 1100000) (hs : sumT ts ≤ 1100000) (h0 : 0 ≤ k) (h1 : k ≤ 549755813888) :
    Calls Try.prog 60 #[v, .int .i64 k] w fun e w' => e = .returned (.int .i64 (k + (totL sNd ts ts.length : Nat))) ∧ OwnC w' S v (nodesD (mkT k ts)) ∧ Only S w w' := by
  rcases hv with ⟨rfl, hl, hc⟩ | ⟨g, cap, cur, xs, rfl, hS, hh, hcap, hmax, hsz, hl, hx, ho⟩
  · have : ts = [] := List.length_eq_zero_iff.1 hl
    subst this
    go_enter Try.func60, Try.ntmps60
    go_wp2
    go_loopw [1, 5] (fun q i wr => i = .int .i64 0 ∧ q = .int .i64 k ∧ w = wr) (fun _ _ _ => 0)
    case atStart => exact ⟨rfl, rfl, rfl⟩
    case round =>
      obtain ⟨rfl, rfl, rfl⟩ := hrel
      go_wp2
      go_ret
      exact ⟨by simp [totL], .inl ⟨rfl, rfl, rfl⟩, Only.refl _ _⟩
  · have HXL : Hid (xs.length = ts.length) := Lib.hid (by rw [ho.1]; simp)
    have TOT : Hid (∀ i, totL sNd ts i ≤ 5500000) := Lib.hid (fun i => by have := totT ts i; omega)
    have HH := Lib.hid hh
    have HS := Lib.hid hs
    have HX := Lib.hid hx
    have HZ := Lib.hid hsz
    have HO := Lib.hid ho
    clear hh hs hx hl hsz ho
    go_enter Try.func60, Try.ntmps60
    go_wp2
    go_loopw [1, 5] (fun q i wr => ∃ j : Nat, j ≤ ts.length ∧ i = .int .i64 j ∧ q = .int .i64 (k + totL sNd ts j) ∧ OwnsL wr (fun b => S b ∧ b ≠ g) xs ((mkL mNd sNd k ts j).map setsD) ∧ Only (fun b => S b ∧ b ≠ g) w wr) (fun _ i _ => ts.length - (intOf i).toNat)
    case atStart => exact ⟨0, Nat.zero_le _, rfl, by simp [totL], by rw [mkL_zero]; exact HO.out, Only.refl _ _⟩
    case round =>
      obtain ⟨j, hj, rfl, rfl, hr, hO⟩ := hrel
      have hG := box_only HH.out hO (fun h => h.2 rfl)
      by_cases hlt : j < ts.length
      · have hlx : j < xs.length := by rw [HXL.out]; exact hlt
        have hlm : j < ((mkL mNd sNd k ts j).map setsD).length := by simp [mkL_length]; exact hlt
        obtain ⟨T, hT, hTS, hup⟩ := hr.pick hlx hlm
        rw [List.getElem_map, mkL_at _ _ _ _ _ hlt] at hT
        have c1 : wr.cell? ⟨g, j, none⟩ = some xs[j] := by
          rw [cell_of_row wr g j cur _ _ hG]
          have h5 : (cur.toList.take (ts.length * 1))[j]? = some xs[j] := by rw [HX.out]; simp
          rw [List.getElem?_take_of_lt (by omega)] at h5
          simpa using h5
        have t1 := TOT.out j
        have hl := Lib.hid (small_at HS.out hlt)
        have T1 : Hid (totL sNd ts (j + 1) = totL sNd ts j + sumN ts[j] * 5) := Lib.hid (totL_succ sNd ts j hlt)
        have UP := Lib.hid hup
        have TS := Lib.hid hTS
        have HO := Lib.hid hO
        clear hr hG hup hTS hO
        have q0 : 0 ≤ k + (totL sNd ts j : Int) := by omega
        obtain ⟨A1, d1, e1, _, _⟩ := hT.reads.lenN
        rw [e1] at hT c1
        rw [e1] at UP
        have hjc : j < cap := by omega
        generalize hq : (totL sNd ts j : Int) = q at q0
        have H := Lib.hid (markKeySS_any _ _ ts[j] (k + q) _ hT hl.out q0 (by omega))
        clear hT
        go_wp2_with fail
        refine H.out.mono ?_
        rintro e w1 ⟨rfl, o1, g1⟩
        go_wp2
        go_roundw
        case rel =>
          refine ⟨j + 1, by omega, by go_num, ?_, ?_, ?_⟩
          · rw [T1.out]; subst hq; go_num
          · have h := UP.out w1 _ o1 g1
            rw [mkL_succ _ _ _ _ _ hlt, List.map_set]
            subst hq
            exact h
          · exact HO.out.trans (g1.mono TS.out)
        case measure => simp [intOf]; omega
      · go_wp2
        go_ret
        have e : j = ts.length := by omega
        subst e
        exact ⟨rfl, .inr ⟨g, cap, cur, xs, by rw [mkT, mkL_length], hS, hG, by rw [mkT, mkL_length]; exact hcap, hmax, by rw [mkT, mkL_length]; exact HZ.out, by simp, by rw [mkT, mkL_length]; exact HX.out, hr⟩, hO.mono (fun b hb => hb.1)⟩
def markEnd (k : Int) (lo : List Int) (ts : List NodeD) : Int := k + (lo.length : Nat) + (totL sNd ts ts.length : Nat)
theorem markEnd_le {k : Int} {lo : List Int} {ts : List NodeD} (hs : SmallT lo ts) (h0 : 0 ≤ k) (h1 : k ≤ 274877906944) : 0 ≤ markEnd k lo ts ∧ markEnd k lo ts ≤ 549755813888 := by
  have := totT ts ts.length
  have := hs.1
  have := hs.2.2
  unfold markEnd
  omega
theorem markTree_any (vl vn : Value) (S : Nat → Prop) (lo : List Int) (ts : List NodeD) (k : Int) (w : World) (hv : TreeC w S vl vn lo ts) (hS : ∀ b, S b → b < w.heap.size) (hs : SmallT lo ts) (h0 : 0 ≤ k) (h1 : k ≤ 274877906944) :
    Calls Try.prog 28 #[.agg #[vl, vn], .int .i64 k] w fun e w' => e = .returned (.int .i64 (markEnd k lo ts)) ∧ TreeC w' S vl vn (mkI k lo) (mkT (k + (lo.length : Nat)) ts) ∧ Only S w w' := by
  obtain ⟨A, c, A', c', rfl, rfl⟩ := hv.reads.shape
  obtain ⟨P, Q, hP, hQ, hd, hl, hn⟩ := hv
  have HB := Lib.hid (bal1 w (.cells #[.slice A lo.length c, .slice A' ts.length c'] 25))
  have Q0 := Lib.hid (al1 w (.cells #[.slice A lo.length c, .slice A' ts.length c'] 25))
  have HM := Lib.hid (markIntS_any _ P lo k _ (hl.on HB.out) hs.1 h0 (by omega))
  have HN := Lib.hid (hn.on HB.out)
  have hs1 := hs.1
  have hs2 := hs.2.1
  have hs3 := hs.2.2
  clear hl hn
  go_enter Try.func28, Try.ntmps28
  go_upto_region 1 with (fail)
  generalize w.alloc (.cells #[.slice A lo.length c, .slice A' ts.length c'] 25) = W at *
  obtain ⟨x0, x1, x2⟩ := box2 Q0.out
  go_wp2_with fail
  refine HM.out.mono ?_
  rintro e w1 ⟨rfl, o, g⟩
  clear x0 x1 x2
  have hPW : ∀ b, P b → b < w.heap.size := fun b hb => hS b (hP b hb)
  replace Q0 := Lib.hid (box_only Q0.out g (fun h => by have := hPW _ h; omega))
  replace HN := Lib.hid (HN.out.far g (fun b hb _ hb' => hd b hb' hb))
  have HL := Lib.hid o
  have HG := Lib.hid ((Only.of_below HB.out S).trans (g.mono hP))
  clear o g HM
  obtain ⟨q, hq⟩ : ∃ q : Int, k + ((lo.length : Nat) : Int) = q := ⟨_, rfl⟩
  rw [hq]
  have HM := Lib.hid (markNodeS_any _ Q ts q _ HN.out hs2 hs3 (by omega) (by omega))
  have HQ := Lib.hid hq
  clear hq
  obtain ⟨x0, x1, x2⟩ := box2 Q0.out
  go_wp2_with fail
  refine HM.out.mono ?_
  rintro e w2 ⟨rfl, o, g⟩
  have ON := Lib.hid o
  have OL := Lib.hid (HL.out.far g (fun b hb _ hb' => hd b hb hb'))
  have G := Lib.hid (HG.out.trans (g.mono hQ))
  clear o g
  go_wp2
  go_ret
  exact ⟨by rw [markEnd, HQ.out]; rfl, ⟨P, Q, hP, hQ, hd, OL.out, by rw [HQ.out]; exact ON.out⟩, G.out⟩
theorem heldIntS_any (v : Value) (l : List Int) (k : Int) (w : World) (hv : Reads w w.heap.size v (intsD (mkI k l))) (hn : l.length ≤ 1100000) (h0 : 0 ≤ k) (h1 : k ≤ 1099511627776) :
    Calls Try.prog 62 #[v, .int .i64 k] w fun e w' => e = .returned (.int .i64 (k + (l.length : Nat))) ∧ w = w' := by
  have hml : (mkI k l).length = l.length := mkL_length _ _ _ _ _
  obtain ⟨A, c, rfl, _, _⟩ := hv.lenN
  rw [hml] at hv
  rw [hml]
  have HV := Lib.hid hv
  clear hv
  go_enter Try.func62, Try.ntmps62
  go_wp2
  go_loop [1, 5] (fun q i => ∃ j : Nat, j ≤ l.length ∧ i = .int .i64 j ∧ q = .int .i64 (k + (j : Nat))) (fun _ i => l.length - (intOf i).toNat)
  case atStart => exact ⟨0, Nat.zero_le _, rfl, by simp⟩
  case round =>
    obtain ⟨j, hj, rfl, rfl⟩ := hrel
    by_cases hlt : j < l.length
    · obtain ⟨b, off, rfl, hbb, hc⟩ := HV.out.int (i := j) (by rw [hml]; exact hlt)
      have c1 := hc j (by rw [hml]; exact hlt)
      rw [show (mkI k l)[j]'(by rw [hml]; exact hlt) = k + (j : Nat) from (mkL_get _ _ _ _ _ _ hlt hlt).trans (by rw [totI l j hj]; rfl)] at c1
      unfold iV at c1
      have i1 : (j : Int) < (l.length : Int) := by omega
      have i2 : (0 : Int) ≤ (j : Int) := by omega
      have q1 : k + (j : Int) ≤ 1199511627776 := by omega
      have q0 : 0 ≤ k + (j : Int) := by omega
      clear hc
      generalize hq : k + (j : Int) = q at *
      have HQ := Lib.hid hq
      have hne : (q != q) = false := by simp
      clear hq
      go_wp2
      go_round
      case rel => exact ⟨j + 1, by omega, by go_num, by rw [← HQ.out]; go_num⟩
      case measure => simp [intOf]; omega
    · go_wp2
      go_ret
      have e : j = l.length := by omega
      subst e
      exact ⟨rfl, rfl⟩
set_option maxHeartbeats 1000000 in
theorem heldNodeS_any (v : Value) (ts : List NodeD) (k : Int) (w : World) (hv : Reads w w.heap.size v (nodesD (mkT k ts))) (hn : ts.length ≤ 1100000) (hs : sumT ts ≤ 1100000) (h0 : 0 ≤ k) (h1 : k ≤ 549755813888) :
    Calls Try.prog 63 #[v, .int .i64 k] w fun e w' => e = .returned (.int .i64 (k + (totL sNd ts ts.length : Nat))) ∧ w = w' := by
  have hml : (mkT k ts).length = ts.length := mkL_length _ _ _ _ _
  obtain ⟨A, c, rfl, _, _⟩ := hv.lenN
  rw [hml] at hv
  rw [hml]
  have TOT : Hid (∀ i, totL sNd ts i ≤ 5500000) := Lib.hid (fun i => by have := totT ts i; omega)
  have HS := Lib.hid hs
  have HV := Lib.hid hv
  clear hs hv
  go_enter Try.func63, Try.ntmps63
  go_wp2
  go_loop [1, 5] (fun q i => ∃ j : Nat, j ≤ ts.length ∧ i = .int .i64 j ∧ q = .int .i64 (k + totL sNd ts j)) (fun _ i => ts.length - (intOf i).toNat)
  case atStart => exact ⟨0, Nat.zero_le _, rfl, by simp [totL]⟩
  case round =>
    obtain ⟨j, hj, rfl, rfl⟩ := hrel
    by_cases hlt : j < ts.length
    · have hlm : j < (mkT k ts).length := by rw [hml]; exact hlt
      obtain ⟨b, off, rfl, hbb, hc⟩ := HV.out.node hlm
      obtain ⟨A1, d1, c1, _, _, r1⟩ := hc j hlm
      have t1 := TOT.out j
      have hl := Lib.hid (small_at HS.out hlt)
      have T1 : Hid (totL sNd ts (j + 1) = totL sNd ts j + sumN ts[j] * 5) := Lib.hid (totL_succ sNd ts j hlt)
      have eg : (mkT k ts)[j]'hlm = mNd (k + (totL sNd ts j : Int)) ts[j] := mkL_get _ _ _ _ _ _ hlt hlt
      rw [eg] at c1 r1
      rw [mNd_len] at c1 r1
      have i1 : (j : Int) < (ts.length : Int) := by omega
      have i2 : (0 : Int) ≤ (j : Int) := by omega
      clear hc
      generalize hq : (totL sNd ts j : Int) = q at r1 c1
      have q0 : 0 ≤ k + q := by omega
      have H := Lib.hid (heldKeySS_any _ ts[j] (k + q) w r1 hl.out q0 (by omega))
      have hsn : sumN ts[j] ≤ 1100000 := hl.out.2
      have d0 : decide (k + q + ((sumN ts[j] * 5 : Nat) : Int) < 0) = false := decide_eq_false (by omega)
      have HQ := Lib.hid hq
      have q1 : q ≤ 5500000 := by omega
      clear hq t1 r1 eg
      go_wp2_with fail
      refine H.out.mono ?_
      rintro e w1 ⟨rfl, rfl⟩
      go_wp2
      go_round
      case rel => exact ⟨j + 1, by omega, by go_num, by rw [T1.out, ← HQ.out]; go_num⟩
      case measure => simp [intOf]; omega
    · go_wp2
      go_ret
      have e : j = ts.length := by omega
      subst e
      exact ⟨rfl, rfl⟩
theorem heldTree_any (vl vn : Value) (lo : List Int) (ts : List NodeD) (k : Int) (w : World) (hv : RdT w w.heap.size vl vn (mkI k lo) (mkT (k + (lo.length : Nat)) ts)) (hs : SmallT lo ts) (h0 : 0 ≤ k) (h1 : k ≤ 274877906944) :
    Calls Try.prog 32 #[.agg #[vl, vn], .int .i64 k] w fun e w' => e = .returned (.int .i64 (markEnd k lo ts)) ∧ Below w.heap.size w w' := by
  have HME := markEnd_le hs h0 h1
  have hs1 := hs.1
  have HI := Lib.hid (fun W b => heldIntS_any vl lo k W (hv.1.on b) hs.1 h0 (by omega))
  have HN := Lib.hid (fun W b => heldNodeS_any vn ts (k + (lo.length : Nat)) W (hv.2.on b) hs.2.1 hs.2.2 (by omega) (by omega))
  obtain ⟨A, c, A', c', rfl, rfl⟩ := hv.shape
  have hml : (mkT (k + (lo.length : Nat)) ts).length = ts.length := mkL_length _ _ _ _ _
  have hmi : (mkI k lo).length = lo.length := mkL_length _ _ _ _ _
  rw [hml, hmi]
  rw [hml] at HN
  rw [hmi] at HI
  have HB := Lib.hid (bal1 w (.cells #[.slice A lo.length c, .slice A' ts.length c'] 25))
  have d0 : decide (markEnd k lo ts < 0) = false := decide_eq_false (by omega)
  obtain ⟨q, hq⟩ : ∃ q : Int, k + ((lo.length : Nat) : Int) = q := ⟨_, rfl⟩
  unfold markEnd at d0 HME ⊢
  rw [hq] at HN HI d0 HME ⊢
  have d1 : decide (q < 0) = false := decide_eq_false (by omega)
  generalize hp : q + ((totL sNd ts ts.length : Nat) : Int) = p at HN d0 HME ⊢
  clear hv hml hmi
  go_enter Try.func32, Try.ntmps32
  go_wp2_with fail
  refine (HI.out _ HB.out).mono ?_
  rintro e w1 ⟨rfl, rfl⟩
  go_wp2_with fail
  refine (HN.out _ HB.out).mono ?_
  rintro e w1 ⟨rfl, rfl⟩
  go_wp2
  go_ret
  exact ⟨rfl, HB.out⟩
end Go.Proofs.Ytmpgmjnagpiijaa
