/- The contract of spec.l5Any: any drawn node, in memory of its own. Conditions: the code drawn from has at most 2^20 bytes. -/
import Derived.Test.YtncjedbdkanleaaDrawNode2
namespace Go.Proofs.Ytncjedbdkanleaa
open Go.RowKit
set_option maxRecDepth 100000
set_option linter.unusedSimpArgs false
set_option linter.unusedVariables false

/-- u is a row of sets in blocks from base to n1, none of them bo. -/
def NOwnB (w : World) (base bo n1 : Nat) (u : Value) (ns : List (List KeyD)) : Prop :=
  ∃ xs, w.ownsRow base 34 1 u ns.length xs ∧ OwnsL w (fun b => ((base ≤ b ∧ b ≠ bo) ∧ u.ownBlock ≠ some b) ∧ b < n1) xs (ns.map keysD) ∧ u.ownBlock ≠ some bo ∧ ∀ g, u.ownBlock = some g → g < n1
theorem NOwn.upto {w : World} {base bo : Nat} {u : Value} {ns : List (List KeyD)} (h : NOwn w base bo u ns) : NOwnB w base bo w.heap.size u ns := by
  obtain ⟨xs, h1, h2, h3⟩ := h
  exact ⟨xs, h1, h2.lt, h3, fun g hg => (row_lt h1 g hg).1⟩
theorem NOwnB.on {w w' : World} {base bo n1 : Nat} {u : Value} {ns : List (List KeyD)} (h : NOwnB w base bo n1 u ns) (hb : Below w.heap.size w w') : NOwnB w' base bo n1 u ns := by
  obtain ⟨xs, h1, h2, h3, h4⟩ := h
  exact ⟨xs, row_on h1 hb, h2.on hb, h3, h4⟩
theorem NOwnB.farP {w w' : World} {p base bo n1 : Nat} {u : Value} {ns : List (List KeyD)} (h : NOwnB w base bo n1 u ns) (hg : w.grownBy w' (some p)) (hp : p < base) : NOwnB w' base bo n1 u ns := by
  obtain ⟨xs, h1, h2, h3, h4⟩ := h
  exact ⟨xs, row_keep h1 (fun g hg' => hg.block g (row_lt h1 g hg').1 (fun e => by injection e with e; have := (row_lt h1 g hg').2; omega)), h2.far (only_ofN hg) (fun b hb _ e => by have := hb.1.1.1; omega), h3, h4⟩
/-- More sets laid behind the row, and its new value stored into the box. -/
theorem NOwnB.apps {w w7 w8 : World} {base bo n1 : Nat} {u v8 : Value} {ns ms : List (List KeyD)} {xs ys : List Value} (h1 : w.ownsRow base 34 1 u ns.length xs) (h2 : OwnsL w (fun b => ((base ≤ b ∧ b ≠ bo) ∧ u.ownBlock ≠ some b) ∧ b < n1) xs (ns.map keysD)) (h3 : u.ownBlock ≠ some bo) (h4 : ∀ g, u.ownBlock = some g → g < n1)
    (hbo : bo < n1) (hbase : base ≤ n1) (hn1 : n1 ≤ w.heap.size) (b7 : Below w.heap.size w w7) (hys : OwnsL w7 (fun b => n1 ≤ b ∧ b < w7.heap.size) ys (ms.map keysD)) (o8 : w8.ownsRow base 34 1 v8 (ns.length + ms.length) (xs ++ ys)) (g8 : w7.grownBy w8 u.ownBlock) (hat : v8.ownBlock = u.ownBlock ∨ v8.ownBlock = some w7.heap.size) :
    NOwn (w8.setCell ⟨bo, 0, none⟩ v8) base bo v8 (ns ++ ms) := by
  have hz7 := b7.size
  have hn8 : v8.ownBlock ≠ some bo := by
    rcases hat with h | h
    · rw [h]; exact h3
    · rw [h]; simp; omega
  have hO : Only (fun b => u.ownBlock = some b) w7 w8 := ⟨g8.os, g8.tape, g8.output, g8.size, fun i hi hn => g8.block i hi (fun e => hn e.symm)⟩
  have k1 := (h2.on b7).far hO (fun b hb _ hb' => hb.1.2 hb')
  have k2 := hys.far hO (fun b hb _ hb' => by have := h4 b hb'; have := hb.1; omega)
  have k3 : OwnsL w8 (fun b => (base ≤ b ∧ b ≠ bo) ∧ v8.ownBlock ≠ some b) (xs ++ ys) (ns.map keysD ++ ms.map keysD) := by
    refine k1.append k2 (fun b hb => ⟨hb.1.1, fun hv => ?_⟩) (fun b hb => ⟨⟨by have := hb.1; omega, by have := hb.1; omega⟩, fun hv => ?_⟩) (fun b hb hb' => by have := hb.2; have := hb'.1; omega)
    · rcases hat with h | h
      · exact hb.1.2 (h ▸ hv)
      · rw [h] at hv; simp at hv; have := hb.2; omega
    · rcases hat with h | h
      · have := h4 b (h ▸ hv); have := hb.1; omega
      · rw [h] at hv; simp at hv; have := hb.2; omega
  refine ⟨xs ++ ys, ?_, ?_, hn8⟩
  · rw [List.length_append]
    exact row_keep o8 (fun g hg => Below.heap_setCell _ _ _ _ (fun e => hn8 (by have e' : g = bo := e; rw [← e']; exact hg)))
  · rw [List.map_append]
    exact k3.keep (fun b hb _ => Below.heap_setCell _ _ _ _ hb.1.2)
theorem At.lit2n (w : World) (a b : Value) (e : TypeId) {n : Nat} (h : w.heap.size = n) : At (w.alloc (.cells #[a, b] e)) (some ⟨n, 0, none⟩) [a, b] := h ▸ At.lit2 w a b e
/-- One key in a block of its own. -/
theorem own_key1 {w : World} {b : Nat} {k : KeyD} (h : w.heap[b]? = some (.cells #[.int .i64 k.a, .int .i64 k.b, .int .i64 k.c, .int .i64 k.d, .int .i64 k.e] 28 (0, 0))) : Owns w (fun x => x = b) (.slice (some ⟨b, 0, none⟩) 1 1) (keysD [k]) :=
  RwK.owns (l := [k]) (cap := 1) (S := fun x => x = b) ⟨_, h, rfl, rfl⟩ rfl (Nat.le_refl _) (by unfold maxLen; omega)
/-- Any drawn node. -/
def AnyN (w : World) (p : Nat) (e : Ending) (w' : World) : Prop := ∃ v ns, e = .returned (.agg #[v]) ∧ Owns w' (fun b => w.heap.size ≤ b) v (setsD ns) ∧ ns.length ≤ 5 ∧ sumN ns ≤ 20 ∧ Cur w' p ∧ w.grownBy w' (some p)
set_option maxHeartbeats 2000000 in
theorem l5Any_any (p : Nat) (w : World) (hc : Cur w p) : Calls Try.prog 60 #[.pointer (some ⟨p, 0, none⟩)] w (AnyN w p) := by
  have hlt := hc.lt
  have HD := Lib.hid l3Draw_any
  unfold AKey keyV at HD
  have C0 := Lib.hid (hc.alloc (.cells #[.slice none 0 0] 26))
  have G0 := Lib.hid (only_start w (.cells #[.slice none 0 0] 26) (some p))
  have Q0 := Lib.hid (al1 w (.cells #[.slice none 0 0] 26))
  have HZ : Hid ((w.alloc (.cells #[.slice none 0 0] 26)).heap.size = w.heap.size + 1) := Lib.hid (by simp)
  clear hc
  go_enter Try.func60, Try.ntmps60
  go_upto_region 1 with (fail)
  generalize w.alloc (.cells #[.slice none 0 0] 26) = W at *
  have hz1 := Nat.le_of_eq HZ.out
  have hz2 := Nat.le_of_eq HZ.out.symm
  clear HZ
  go_wp2_with fail
  refine (l5Draw_any p W C0.out).mono ?_
  rintro r w1 ⟨u, ns, rfl, o1, hok, c1, g1⟩
  obtain ⟨Au, cu, rfl, _, _⟩ := o1.reads.lenN
  have hsm := okN_small hok
  have NO := Lib.hid (NOwn.of o1 (.cells #[.slice Au ns.length cu] 26))
  have QO := Lib.hid (al1 w1 (.cells #[.slice Au ns.length cu] 26))
  have QR := Lib.hid (box_on (box_grows Q0.out g1 (by omega)) (bal1 w1 (.cells #[.slice Au ns.length cu] 26)))
  have CC := Lib.hid (c1.alloc (.cells #[.slice Au ns.length cu] 26))
  have GG := Lib.hid (only_alloc (only_trans G0.out g1) (.cells #[.slice Au ns.length cu] 26))
  have hb1 := g1.size
  have HZ : Hid ((w1.alloc (.cells #[.slice Au ns.length cu] 26)).heap.size = w1.heap.size + 1) := Lib.hid (by simp)
  clear o1 c1 g1 hok Q0 C0 G0
  go_upto_region 2 with (fail)
  generalize w1.alloc (.cells #[.slice Au ns.length cu] 26) = W2 at *
  have hz3 := Nat.le_of_eq HZ.out
  have hz4 := Nat.le_of_eq HZ.out.symm
  clear HZ
  go_wp2_with fail
  refine (l1Below_any p 8 _ CC.out (by omega) (by omega)).mono ?_
  rintro r w2 ⟨j, hj, rfl, c2, g2⟩
  replace NO := Lib.hid (NO.out.farP g2 (by omega))
  replace QO := Lib.hid (box_grows QO.out g2 (by omega))
  replace QR := Lib.hid (box_grows QR.out g2 (by omega))
  replace CC := Lib.hid c2
  replace GG := Lib.hid (only_trans GG.out g2)
  have hb2 := g2.size
  have NB := Lib.hid (NO.out.upto.on (Below.drew1 w2))
  have CD := Lib.hid (CC.out.keep (w' := w2.drew) (fun _ _ => rfl))
  have GD := Lib.hid (only_draw1 GG.out)
  have QD := Lib.hid (show w2.drew.heap[w.heap.size]? = some (.cells #[.slice none 0 0] 26) from QR.out)
  have hzd : w2.heap.size ≤ w2.drew.heap.size := Nat.le_refl _
  clear c2 g2
  rcases j with _ | _ | j
  · go_upto_region 4 with (fail)
    refine but_begin (f := 7) (S := fun V => V.heap[w1.heap.size]? = some (.cells #[.slice Au ns.length cu] 26)) (by kernel_rfl) ?_
    refine but_take (f := 7) (i := 0) (v := ?va0) rfl (by kernel_rfl) (by kernel_rfl) (by kernel_rfl) (by kernel_rfl) (by kernel_rfl) (fun _ _ _ h => h) (Or.inl ⟨(by rfl), ?hya0⟩) (show w2.drew.heap[w1.heap.size]? = some _ from QO.out) ?resta0
    case hya0 =>
      intro W hW
      go_simp
      exact rfl
    simp only [List.getElem_toArray, List.getElem_cons_succ, List.getElem_cons_zero, Act.put, List.setIfInBounds_toArray, List.set_cons_zero, List.set_cons_succ]
    refine but_take (f := 7) (i := 1) (v := ?va1) rfl (by kernel_rfl) (by kernel_rfl) (by kernel_rfl) (by kernel_rfl) (by kernel_rfl) (fun _ _ _ h => h) (Or.inl ⟨(by rfl), ?hya1⟩) (show w2.drew.heap[w1.heap.size]? = some _ from QO.out) ?resta1
    case hya1 =>
      intro W hW
      obtain ⟨z0, z1⟩ := box1N hW
      go_simp
      exact rfl
    simp only [List.getElem_toArray, List.getElem_cons_succ, List.getElem_cons_zero, Act.put, List.setIfInBounds_toArray, List.set_cons_zero, List.set_cons_succ]
    refine but_take (f := 7) (i := 2) (v := ?va2) rfl (by kernel_rfl) (by kernel_rfl) (by kernel_rfl) (by kernel_rfl) (by kernel_rfl) (fun _ _ _ h => h) (Or.inl ⟨(by rfl), ?hya2⟩) (show w2.drew.heap[w1.heap.size]? = some _ from QO.out) ?resta2
    case hya2 =>
      intro W hW
      go_simp
      exact rfl
    simp only [List.getElem_toArray, List.getElem_cons_succ, List.getElem_cons_zero, Act.put, List.setIfInBounds_toArray, List.set_cons_zero, List.set_cons_succ]
    refine but_run (i := 3) (by kernel_rfl) rfl (by rfl) ?_
    simp only [List.getElem_toArray, List.getElem_cons_succ, List.getElem_cons_zero]
    intro K HK
    go_wp2_with fail
    refine (l4Any_any p 6 _ CD.out (by omega)).mono ?_
    rintro r Va1 ⟨v3, l3, rfl, o3, hl3, c3, g3⟩
    obtain ⟨A3, c3v, rfl, _, _⟩ := o3.shape
    go_wp2_with fail
    have hSa1 : (fun V => V.heap[w1.heap.size]? = some (.cells #[.slice Au ns.length cu] 26)) Va1 := box_grows (show w2.drew.heap[w1.heap.size]? = some _ from QO.out) g3 (by omega)
    refine HK.out _ _ (fun _ => hSa1) ?_
    clear HK
    have CC3 := Lib.hid c3
    have GG3 := Lib.hid (only_trans GD.out g3)
    have QR3 := Lib.hid (box_grows QD.out g3 (by omega))
    replace NB := Lib.hid (NB.out.farP g3 (by omega))
    have hza1 := g3.size
    have OY := Lib.hid o3
    clear c3 g3 o3
    refine but_run (i := 4) (by kernel_rfl) rfl (by rfl) ?_
    simp only [List.getElem_toArray, List.getElem_cons_succ, List.getElem_cons_zero]
    intro K HK
    go_wp2_with fail
    have hSa2 : (fun V => V.heap[w1.heap.size]? = some (.cells #[.slice Au ns.length cu] 26)) (Va1.alloc (.cells #[.slice A3 l3.length c3v] 34)) := box_on hSa1 (bal1 _ _)
    refine HK.out _ _ (fun _ => hSa2) ?_
    clear HK
    replace NB := Lib.hid (NB.out.on (bal1 Va1 (.cells #[.slice A3 l3.length c3v] 34)))
    replace CC3 := Lib.hid (CC3.out.alloc (.cells #[.slice A3 l3.length c3v] 34))
    replace GG3 := Lib.hid (only_alloc GG3.out (.cells #[.slice A3 l3.length c3v] 34))
    replace QR3 := Lib.hid (box_on QR3.out (bal1 Va1 (.cells #[.slice A3 l3.length c3v] 34)))
    have HYS := Lib.hid (OwnsL.one ((OY.out.owns.on (bal1 Va1 (.cells #[.slice A3 l3.length c3v] 34))).lt))
    have hza2 : (Va1.alloc (.cells #[.slice A3 l3.length c3v] 34)).heap.size ≤ Va1.heap.size + 1 := by simp
    have hya2 : Va1.heap.size + 1 ≤ (Va1.alloc (.cells #[.slice A3 l3.length c3v] 34)).heap.size := by simp
    refine but_run (i := 5) (by kernel_rfl) rfl (by rfl) ?_
    simp only [List.getElem_toArray, List.getElem_cons_succ, List.getElem_cons_zero]
    intro K HK
    obtain ⟨xs, hr, ho, hne, hug⟩ := NB.out
    have HR0 := Lib.hid hr
    have HO0 := Lib.hid ho
    have HNE := Lib.hid hne
    have HUG := Lib.hid hug
    clear hr ho hne hug
    have B7 := Lib.hid (Below.refl (Va1.alloc (.cells #[.slice A3 l3.length c3v] 34)).heap.size (Va1.alloc (.cells #[.slice A3 l3.length c3v] 34)))
    refine operAppN _ (by rfl) (.tmp 11) (.tmp 14) 24 34 1 24 (.slice none 0 0) (by rfl) Try.underlying24 (by kernel_rfl) rfl (by omega) (by omega) W.heap.size ns.length _ xs (by rfl) HR0.out _ 1 1 [.slice A3 l3.length c3v] (by rfl) rfl (At.lit1 _ _ _) (by simp [Value.oneCell']) (by omega) (by omega) ?_
    intro v8 Va3 o8 g8 _ at8
    have P8 := Lib.hid (box_grown hSa2 g8 HNE.out)
    have P9 := Lib.hid (box_grown QR3.out g8 (row_ne HR0.out (by omega)))
    have hO8 : Only (fun b => W.heap.size ≤ b) (Va1.alloc (.cells #[.slice A3 l3.length c3v] 34)) Va3 := ⟨g8.os, g8.tape, g8.output, g8.size, fun i hi hn => g8.block i hi (fun e => hn (row_lt HR0.out i e.symm).2)⟩
    have C8 := Lib.hid (CC3.out.keep (w' := Va3) (fun k hk => hO8.block k (by have := CC3.out.lt; omega) (fun h => by omega)))
    have G8' := Lib.hid (grown_on GG3.out (hO8.below (by omega) (fun b hb => by omega)))
    have G8 := Lib.hid g8
    have O8 := Lib.hid o8
    have AT8 := Lib.hid at8
    obtain ⟨gv, cv, rfl⟩ := row_shape o8 (by omega)
    clear o8 at8 hO8
    have hSa3 : (fun V => V.heap[w1.heap.size]? = some (.cells #[.slice Au ns.length cu] 26)) Va3 := P8.out
    refine HK.out _ _ (fun _ => hSa3) ?_
    clear HK
    clear g8
    obtain ⟨z0, z1⟩ := box1N P8.out
    simp only [List.getElem_toArray, List.getElem_cons_succ, List.getElem_cons_zero, Act.put, List.setIfInBounds_toArray, List.set_cons_zero, List.set_cons_succ]
    refine but_take (f := 7) (i := 6) (v := ?va6) rfl (by kernel_rfl) (by kernel_rfl) (by kernel_rfl) (by kernel_rfl) (by kernel_rfl) (fun _ _ _ h => h) (Or.inl ⟨(by rfl), ?hya6⟩) hSa3 ?resta6
    case hya6 =>
      intro W hW
      go_simp
      exact rfl
    simp only [List.getElem_toArray, List.getElem_cons_succ, List.getElem_cons_zero, Act.put, List.setIfInBounds_toArray, List.set_cons_zero, List.set_cons_succ]
    refine but_run (i := 7) (by kernel_rfl) rfl (by rfl) ?_
    simp only [List.getElem_toArray, List.getElem_cons_succ, List.getElem_cons_zero]
    intro K HK
    go_wp2_with fail
    refine HK.out _ _ (fun h => absurd rfl h) ?_
    clear HK
    refine but_done (by kernel_rfl) ?_
    have hN := Lib.hid (NOwnB.apps (ms := [l3]) HR0.out HO0.out HNE.out HUG.out (by omega) (by omega) (by omega) (Below.refl _ _) HYS.out O8.out G8.out AT8.out)
    have PX := Lib.hid (box_set (i := 0) (u := .slice (some ⟨gv, 0, none⟩) (ns.length + 1) cv) P8.out)
    have PY := Lib.hid (box_far (j := 0) (u := .slice (some ⟨gv, 0, none⟩) (ns.length + 1) cv) P9.out (show w.heap.size ≠ w1.heap.size by omega))
    have CX := Lib.hid (C8.out.setNew (j := 0) (show p < w1.heap.size by omega) (.slice (some ⟨gv, 0, none⟩) (ns.length + 1) cv))
    have GX := Lib.hid (only_setNew (j := 0) G8'.out (show w.heap.size ≤ w1.heap.size by omega) (.slice (some ⟨gv, 0, none⟩) (ns.length + 1) cv))
    clear P8 P9 C8 G8' z0 z1
    go_upto_region 7 with (fail)
    generalize Va3.setCell ⟨w1.heap.size, 0, none⟩ (.slice (some ⟨gv, 0, none⟩) (ns.length + 1) cv) = W9 at *
    obtain ⟨z0, z1⟩ := box1N PX.out
    obtain ⟨y0, y1⟩ := box1N PY.out
    go_wp2
    refine bodyPost_ret (v := .agg #[.slice (some ⟨gv, 0, none⟩) (ns.length + 1) cv]) (by simp [results, Try.results60, go_sem, y0, y1]) rfl ⟨_, ns ++ [l3], rfl, (hN.out.owns.setFar (by omega)).mono (fun b hb => by have := hb.1; omega), by simp; omega, by rw [sumN_append]; simp [sumN] at hsm ⊢; omega, CX.out.setNew hlt _, only_setNew GX.out (Nat.le_refl _) _⟩
  · go_upto_region 6 with (fail)
    refine but_begin (f := 11) (S := fun V => V.heap[w1.heap.size]? = some (.cells #[.slice Au ns.length cu] 26)) (by kernel_rfl) ?_
    refine but_take (f := 11) (i := 0) (v := ?vb0) rfl (by kernel_rfl) (by kernel_rfl) (by kernel_rfl) (by kernel_rfl) (by kernel_rfl) (fun _ _ _ h => h) (Or.inl ⟨(by rfl), ?hyb0⟩) (show w2.drew.heap[w1.heap.size]? = some _ from QO.out) ?restb0
    case hyb0 =>
      intro W hW
      go_simp
      exact rfl
    simp only [List.getElem_toArray, List.getElem_cons_succ, List.getElem_cons_zero, Act.put, List.setIfInBounds_toArray, List.set_cons_zero, List.set_cons_succ]
    refine but_take (f := 11) (i := 1) (v := ?vb1) rfl (by kernel_rfl) (by kernel_rfl) (by kernel_rfl) (by kernel_rfl) (by kernel_rfl) (fun _ _ _ h => h) (Or.inl ⟨(by rfl), ?hyb1⟩) (show w2.drew.heap[w1.heap.size]? = some _ from QO.out) ?restb1
    case hyb1 =>
      intro W hW
      obtain ⟨z0, z1⟩ := box1N hW
      go_simp
      exact rfl
    simp only [List.getElem_toArray, List.getElem_cons_succ, List.getElem_cons_zero, Act.put, List.setIfInBounds_toArray, List.set_cons_zero, List.set_cons_succ]
    refine but_take (f := 11) (i := 2) (v := ?vb2) rfl (by kernel_rfl) (by kernel_rfl) (by kernel_rfl) (by kernel_rfl) (by kernel_rfl) (fun _ _ _ h => h) (Or.inl ⟨(by rfl), ?hyb2⟩) (show w2.drew.heap[w1.heap.size]? = some _ from QO.out) ?restb2
    case hyb2 =>
      intro W hW
      go_simp
      exact rfl
    simp only [List.getElem_toArray, List.getElem_cons_succ, List.getElem_cons_zero, Act.put, List.setIfInBounds_toArray, List.set_cons_zero, List.set_cons_succ]
    refine but_take (f := 11) (i := 5) (v := ?vb5) rfl (by kernel_rfl) (by kernel_rfl) (by kernel_rfl) (by kernel_rfl) (by kernel_rfl) (fun _ _ _ h => h) (Or.inl ⟨(by rfl), ?hyb5⟩) (show w2.drew.heap[w1.heap.size]? = some _ from QO.out) ?restb5
    case hyb5 =>
      intro W hW
      go_simp
      exact rfl
    simp only [List.getElem_toArray, List.getElem_cons_succ, List.getElem_cons_zero, Act.put, List.setIfInBounds_toArray, List.set_cons_zero, List.set_cons_succ]
    refine but_run (i := 3) (by kernel_rfl) rfl (by rfl) ?_
    simp only [List.getElem_toArray, List.getElem_cons_succ, List.getElem_cons_zero]
    intro K HK
    go_wp2_with fail
    refine (HD.out p _ CD.out).mono ?_
    rintro r Vb1 ⟨ya, yb, yc, yd, ye, rfl, sm1, c3, g3⟩
    go_wp2_with fail
    have hSb1 : (fun V => V.heap[w1.heap.size]? = some (.cells #[.slice Au ns.length cu] 26)) Vb1 := box_grows (show w2.drew.heap[w1.heap.size]? = some _ from QO.out) g3 (by omega)
    refine HK.out _ _ (fun _ => hSb1) ?_
    clear HK
    have CC3 := Lib.hid c3
    have GG3 := Lib.hid (only_trans GD.out g3)
    have QR3 := Lib.hid (box_grows QD.out g3 (by omega))
    replace NB := Lib.hid (NB.out.farP g3 (by omega))
    have hzb1 := g3.size
    clear c3 g3 sm1
    refine but_two (i := 4) (j := 6) (by kernel_rfl) rfl rfl (by rfl) (by rfl) ?_ ?_
    · simp only [List.getElem_toArray, List.getElem_cons_succ, List.getElem_cons_zero]
      intro K HK
      go_wp2_with fail
      have hSbp2 : (fun V => V.heap[w1.heap.size]? = some (.cells #[.slice Au ns.length cu] 26)) (Vb1.alloc (.cells #[.int .i64 ya, .int .i64 yb, .int .i64 yc, .int .i64 yd, .int .i64 ye] 28)) := box_on hSb1 (bal1 _ _)
      refine HK.out _ _ (fun _ => hSbp2) ?_
      clear HK
      have QS1 : Hid ((Vb1.alloc (.cells #[.int .i64 ya, .int .i64 yb, .int .i64 yc, .int .i64 yd, .int .i64 ye] 28)).heap[Vb1.heap.size]? = some (.cells #[.int .i64 ya, .int .i64 yb, .int .i64 yc, .int .i64 yd, .int .i64 ye] 28)) := Lib.hid (by have h := al1 Vb1 (.cells #[.int .i64 ya, .int .i64 yb, .int .i64 yc, .int .i64 yd, .int .i64 ye] 28); simpa only [World.size_alloc] using h)
      replace NB := Lib.hid (NB.out.on (bal1 Vb1 (.cells #[.int .i64 ya, .int .i64 yb, .int .i64 yc, .int .i64 yd, .int .i64 ye] 28)))
      replace CC3 := Lib.hid (CC3.out.alloc (.cells #[.int .i64 ya, .int .i64 yb, .int .i64 yc, .int .i64 yd, .int .i64 ye] 28))
      replace GG3 := Lib.hid (only_alloc GG3.out (.cells #[.int .i64 ya, .int .i64 yb, .int .i64 yc, .int .i64 yd, .int .i64 ye] 28))
      replace QR3 := Lib.hid (box_on QR3.out (bal1 Vb1 (.cells #[.int .i64 ya, .int .i64 yb, .int .i64 yc, .int .i64 yd, .int .i64 ye] 28)))
      try replace QS2 := Lib.hid (box_on QS2.out (bal1 Vb1 (.cells #[.int .i64 ya, .int .i64 yb, .int .i64 yc, .int .i64 yd, .int .i64 ye] 28)))
      have hzbp2 : (Vb1.alloc (.cells #[.int .i64 ya, .int .i64 yb, .int .i64 yc, .int .i64 yd, .int .i64 ye] 28)).heap.size ≤ Vb1.heap.size + 1 := by simp
      have hybp2 : Vb1.heap.size + 1 ≤ (Vb1.alloc (.cells #[.int .i64 ya, .int .i64 yb, .int .i64 yc, .int .i64 yd, .int .i64 ye] 28)).heap.size := by simp
      refine but_run (i := 6) (by kernel_rfl) rfl (by rfl) ?_
      simp only [List.getElem_toArray, List.getElem_cons_succ, List.getElem_cons_zero]
      intro K HK
      go_wp2_with fail
      refine (HD.out p _ CC3.out).mono ?_
      rintro r Vbp3 ⟨ua, ub, uc, ud, ue, rfl, sm2, c6, g6⟩
      go_wp2_with fail
      have hSbp3 : (fun V => V.heap[w1.heap.size]? = some (.cells #[.slice Au ns.length cu] 26)) Vbp3 := box_grows hSbp2 g6 (by omega)
      refine HK.out _ _ (fun _ => hSbp3) ?_
      clear HK
      replace CC3 := Lib.hid c6
      replace GG3 := Lib.hid (only_trans GG3.out g6)
      replace QR3 := Lib.hid (box_grows QR3.out g6 (by omega))
      replace NB := Lib.hid (NB.out.farP g6 (by omega))
      try replace QS1 := Lib.hid (box_grows QS1.out g6 (by omega))
      have hzbp3 := g6.size
      clear c6 g6 sm2
      refine but_run (i := 7) (by kernel_rfl) rfl (by rfl) ?_
      simp only [List.getElem_toArray, List.getElem_cons_succ, List.getElem_cons_zero]
      intro K HK
      go_wp2_with fail
      have hSbp4 : (fun V => V.heap[w1.heap.size]? = some (.cells #[.slice Au ns.length cu] 26)) (Vbp3.alloc (.cells #[.int .i64 ua, .int .i64 ub, .int .i64 uc, .int .i64 ud, .int .i64 ue] 28)) := box_on hSbp3 (bal1 _ _)
      refine HK.out _ _ (fun _ => hSbp4) ?_
      clear HK
      have QS2 : Hid ((Vbp3.alloc (.cells #[.int .i64 ua, .int .i64 ub, .int .i64 uc, .int .i64 ud, .int .i64 ue] 28)).heap[Vbp3.heap.size]? = some (.cells #[.int .i64 ua, .int .i64 ub, .int .i64 uc, .int .i64 ud, .int .i64 ue] 28)) := Lib.hid (by have h := al1 Vbp3 (.cells #[.int .i64 ua, .int .i64 ub, .int .i64 uc, .int .i64 ud, .int .i64 ue] 28); simpa only [World.size_alloc] using h)
      replace NB := Lib.hid (NB.out.on (bal1 Vbp3 (.cells #[.int .i64 ua, .int .i64 ub, .int .i64 uc, .int .i64 ud, .int .i64 ue] 28)))
      replace CC3 := Lib.hid (CC3.out.alloc (.cells #[.int .i64 ua, .int .i64 ub, .int .i64 uc, .int .i64 ud, .int .i64 ue] 28))
      replace GG3 := Lib.hid (only_alloc GG3.out (.cells #[.int .i64 ua, .int .i64 ub, .int .i64 uc, .int .i64 ud, .int .i64 ue] 28))
      replace QR3 := Lib.hid (box_on QR3.out (bal1 Vbp3 (.cells #[.int .i64 ua, .int .i64 ub, .int .i64 uc, .int .i64 ud, .int .i64 ue] 28)))
      try replace QS1 := Lib.hid (box_on QS1.out (bal1 Vbp3 (.cells #[.int .i64 ua, .int .i64 ub, .int .i64 uc, .int .i64 ud, .int .i64 ue] 28)))
      have hzbp4 : (Vbp3.alloc (.cells #[.int .i64 ua, .int .i64 ub, .int .i64 uc, .int .i64 ud, .int .i64 ue] 28)).heap.size ≤ Vbp3.heap.size + 1 := by simp
      have hybp4 : Vbp3.heap.size + 1 ≤ (Vbp3.alloc (.cells #[.int .i64 ua, .int .i64 ub, .int .i64 uc, .int .i64 ud, .int .i64 ue] 28)).heap.size := by simp
      refine but_run (i := 8) (by kernel_rfl) rfl (by rfl) ?_
      simp only [List.getElem_toArray, List.getElem_cons_succ, List.getElem_cons_zero]
      intro K HK
      go_wp2_with fail
      have hSbp5 : (fun V => V.heap[w1.heap.size]? = some (.cells #[.slice Au ns.length cu] 26)) ((Vbp3.alloc (.cells #[.int .i64 ua, .int .i64 ub, .int .i64 uc, .int .i64 ud, .int .i64 ue] 28)).alloc (.cells #[.slice (some ⟨Vb1.heap.size, 0, none⟩) 1 1, .slice (some ⟨Vbp3.heap.size, 0, none⟩) 1 1] 34)) := box_on hSbp4 (bal1 _ _)
      refine HK.out _ _ (fun _ => hSbp5) ?_
      clear HK
      replace NB := Lib.hid (NB.out.on (bal1 (Vbp3.alloc (.cells #[.int .i64 ua, .int .i64 ub, .int .i64 uc, .int .i64 ud, .int .i64 ue] 28)) (.cells #[.slice (some ⟨Vb1.heap.size, 0, none⟩) 1 1, .slice (some ⟨Vbp3.heap.size, 0, none⟩) 1 1] 34)))
      replace CC3 := Lib.hid (CC3.out.alloc (.cells #[.slice (some ⟨Vb1.heap.size, 0, none⟩) 1 1, .slice (some ⟨Vbp3.heap.size, 0, none⟩) 1 1] 34))
      replace GG3 := Lib.hid (only_alloc GG3.out (.cells #[.slice (some ⟨Vb1.heap.size, 0, none⟩) 1 1, .slice (some ⟨Vbp3.heap.size, 0, none⟩) 1 1] 34))
      replace QR3 := Lib.hid (box_on QR3.out (bal1 (Vbp3.alloc (.cells #[.int .i64 ua, .int .i64 ub, .int .i64 uc, .int .i64 ud, .int .i64 ue] 28)) (.cells #[.slice (some ⟨Vb1.heap.size, 0, none⟩) 1 1, .slice (some ⟨Vbp3.heap.size, 0, none⟩) 1 1] 34)))
      replace QS1 := Lib.hid (box_on QS1.out (bal1 (Vbp3.alloc (.cells #[.int .i64 ua, .int .i64 ub, .int .i64 uc, .int .i64 ud, .int .i64 ue] 28)) (.cells #[.slice (some ⟨Vb1.heap.size, 0, none⟩) 1 1, .slice (some ⟨Vbp3.heap.size, 0, none⟩) 1 1] 34)))
      replace QS2 := Lib.hid (box_on QS2.out (bal1 (Vbp3.alloc (.cells #[.int .i64 ua, .int .i64 ub, .int .i64 uc, .int .i64 ud, .int .i64 ue] 28)) (.cells #[.slice (some ⟨Vb1.heap.size, 0, none⟩) 1 1, .slice (some ⟨Vbp3.heap.size, 0, none⟩) 1 1] 34)))
      have hzbp5 : ((Vbp3.alloc (.cells #[.int .i64 ua, .int .i64 ub, .int .i64 uc, .int .i64 ud, .int .i64 ue] 28)).alloc (.cells #[.slice (some ⟨Vb1.heap.size, 0, none⟩) 1 1, .slice (some ⟨Vbp3.heap.size, 0, none⟩) 1 1] 34)).heap.size ≤ (Vbp3.alloc (.cells #[.int .i64 ua, .int .i64 ub, .int .i64 uc, .int .i64 ud, .int .i64 ue] 28)).heap.size + 1 := by simp
      have hybp5 : (Vbp3.alloc (.cells #[.int .i64 ua, .int .i64 ub, .int .i64 uc, .int .i64 ud, .int .i64 ue] 28)).heap.size + 1 ≤ ((Vbp3.alloc (.cells #[.int .i64 ua, .int .i64 ub, .int .i64 uc, .int .i64 ud, .int .i64 ue] 28)).alloc (.cells #[.slice (some ⟨Vb1.heap.size, 0, none⟩) 1 1, .slice (some ⟨Vbp3.heap.size, 0, none⟩) 1 1] 34)).heap.size := by simp
      refine but_run (i := 9) (by kernel_rfl) rfl (by rfl) ?_
      simp only [List.getElem_toArray, List.getElem_cons_succ, List.getElem_cons_zero]
      intro K HK
      have l1 := (Array.getElem?_eq_some_iff.1 QS1.out).1
      have l2 := (Array.getElem?_eq_some_iff.1 QS2.out).1
      have HYS : Hid (OwnsL ((Vbp3.alloc (.cells #[.int .i64 ua, .int .i64 ub, .int .i64 uc, .int .i64 ud, .int .i64 ue] 28)).alloc (.cells #[.slice (some ⟨Vb1.heap.size, 0, none⟩) 1 1, .slice (some ⟨Vbp3.heap.size, 0, none⟩) 1 1] 34)) (fun b => w2.heap.size ≤ b ∧ b < ((Vbp3.alloc (.cells #[.int .i64 ua, .int .i64 ub, .int .i64 uc, .int .i64 ud, .int .i64 ue] 28)).alloc (.cells #[.slice (some ⟨Vb1.heap.size, 0, none⟩) 1 1, .slice (some ⟨Vbp3.heap.size, 0, none⟩) 1 1] 34)).heap.size) [.slice (some ⟨Vb1.heap.size, 0, none⟩) 1 1, .slice (some ⟨Vbp3.heap.size, 0, none⟩) 1 1] ([[⟨ya, yb, yc, yd, ye⟩], [⟨ua, ub, uc, ud, ue⟩]].map keysD)) := Lib.hid (OwnsL.two (own_key1 (k := ⟨ya, yb, yc, yd, ye⟩) QS1.out) (own_key1 (k := ⟨ua, ub, uc, ud, ue⟩) QS2.out) (fun b hb => ⟨by omega, by omega⟩) (fun b hb => ⟨by omega, by omega⟩) (fun b hb hb' => by omega))
      obtain ⟨xs, hr, ho, hne, hug⟩ := NB.out
      have HR0 := Lib.hid hr
      have HO0 := Lib.hid ho
      have HNE := Lib.hid hne
      have HUG := Lib.hid hug
      clear hr ho hne hug
      have B7 := Lib.hid (Below.refl ((Vbp3.alloc (.cells #[.int .i64 ua, .int .i64 ub, .int .i64 uc, .int .i64 ud, .int .i64 ue] 28)).alloc (.cells #[.slice (some ⟨Vb1.heap.size, 0, none⟩) 1 1, .slice (some ⟨Vbp3.heap.size, 0, none⟩) 1 1] 34)).heap.size ((Vbp3.alloc (.cells #[.int .i64 ua, .int .i64 ub, .int .i64 uc, .int .i64 ud, .int .i64 ue] 28)).alloc (.cells #[.slice (some ⟨Vb1.heap.size, 0, none⟩) 1 1, .slice (some ⟨Vbp3.heap.size, 0, none⟩) 1 1] 34)))
      refine operAppN _ (by rfl) (.tmp 20) (.tmp 27) 24 34 1 24 (.slice none 0 0) (by rfl) Try.underlying24 (by kernel_rfl) rfl (by omega) (by omega) W.heap.size ns.length _ xs (by rfl) HR0.out _ 2 2 [.slice (some ⟨Vb1.heap.size, 0, none⟩) 1 1, .slice (some ⟨Vbp3.heap.size, 0, none⟩) 1 1] (by rfl) rfl (At.lit2n _ _ _ _ (by simp)) (by simp [Value.oneCell']) (by omega) (by omega) ?_
      intro v8 Vbp6 o8 g8 _ at8
      have P8 := Lib.hid (box_grown hSbp5 g8 HNE.out)
      have P9 := Lib.hid (box_grown QR3.out g8 (row_ne HR0.out (by omega)))
      have hO8 : Only (fun b => W.heap.size ≤ b) ((Vbp3.alloc (.cells #[.int .i64 ua, .int .i64 ub, .int .i64 uc, .int .i64 ud, .int .i64 ue] 28)).alloc (.cells #[.slice (some ⟨Vb1.heap.size, 0, none⟩) 1 1, .slice (some ⟨Vbp3.heap.size, 0, none⟩) 1 1] 34)) Vbp6 := ⟨g8.os, g8.tape, g8.output, g8.size, fun i hi hn => g8.block i hi (fun e => hn (row_lt HR0.out i e.symm).2)⟩
      have C8 := Lib.hid (CC3.out.keep (w' := Vbp6) (fun k hk => hO8.block k (by have := CC3.out.lt; omega) (fun h => by omega)))
      have G8' := Lib.hid (grown_on GG3.out (hO8.below (by omega) (fun b hb => by omega)))
      have G8 := Lib.hid g8
      have O8 := Lib.hid o8
      have AT8 := Lib.hid at8
      obtain ⟨gv, cv, rfl⟩ := row_shape o8 (by omega)
      clear o8 at8 hO8
      have hSbp6 : (fun V => V.heap[w1.heap.size]? = some (.cells #[.slice Au ns.length cu] 26)) Vbp6 := P8.out
      refine HK.out _ _ (fun _ => hSbp6) ?_
      clear HK
      clear g8
      obtain ⟨z0, z1⟩ := box1N P8.out
      simp only [List.getElem_toArray, List.getElem_cons_succ, List.getElem_cons_zero, Act.put, List.setIfInBounds_toArray, List.set_cons_zero, List.set_cons_succ]
      refine but_take (f := 11) (i := 10) (v := ?vbp10) rfl (by kernel_rfl) (by kernel_rfl) (by kernel_rfl) (by kernel_rfl) (by kernel_rfl) (fun _ _ _ h => h) (Or.inl ⟨(by rfl), ?hybp10⟩) hSbp6 ?restbp10
      case hybp10 =>
        intro W hW
        go_simp
        exact rfl
      simp only [List.getElem_toArray, List.getElem_cons_succ, List.getElem_cons_zero, Act.put, List.setIfInBounds_toArray, List.set_cons_zero, List.set_cons_succ]
      refine but_run (i := 11) (by kernel_rfl) rfl (by rfl) ?_
      simp only [List.getElem_toArray, List.getElem_cons_succ, List.getElem_cons_zero]
      intro K HK
      go_wp2_with fail
      refine HK.out _ _ (fun h => absurd rfl h) ?_
      clear HK
      refine but_done (by kernel_rfl) ?_
      have hN := Lib.hid (NOwnB.apps (ms := [[⟨ya, yb, yc, yd, ye⟩], [⟨ua, ub, uc, ud, ue⟩]]) HR0.out HO0.out HNE.out HUG.out (by omega) (by omega) (by omega) (Below.refl _ _) HYS.out O8.out G8.out AT8.out)
      have PX := Lib.hid (box_set (i := 0) (u := .slice (some ⟨gv, 0, none⟩) (ns.length + 2) cv) P8.out)
      have PY := Lib.hid (box_far (j := 0) (u := .slice (some ⟨gv, 0, none⟩) (ns.length + 2) cv) P9.out (show w.heap.size ≠ w1.heap.size by omega))
      have CX := Lib.hid (C8.out.setNew (j := 0) (show p < w1.heap.size by omega) (.slice (some ⟨gv, 0, none⟩) (ns.length + 2) cv))
      have GX := Lib.hid (only_setNew (j := 0) G8'.out (show w.heap.size ≤ w1.heap.size by omega) (.slice (some ⟨gv, 0, none⟩) (ns.length + 2) cv))
      clear P8 P9 C8 G8' z0 z1
      go_upto_region 7 with (fail)
      generalize Vbp6.setCell ⟨w1.heap.size, 0, none⟩ (.slice (some ⟨gv, 0, none⟩) (ns.length + 2) cv) = W9 at *
      obtain ⟨z0, z1⟩ := box1N PX.out
      obtain ⟨y0, y1⟩ := box1N PY.out
      go_wp2
      refine bodyPost_ret (v := .agg #[.slice (some ⟨gv, 0, none⟩) (ns.length + 2) cv]) (by simp [results, Try.results60, go_sem, y0, y1]) rfl ⟨_, ns ++ [[⟨ya, yb, yc, yd, ye⟩], [⟨ua, ub, uc, ud, ue⟩]], rfl, (hN.out.owns.setFar (by omega)).mono (fun b hb => by have := hb.1; omega), by simp; omega, by rw [sumN_append]; simp [sumN] at hsm ⊢; omega, CX.out.setNew hlt _, only_setNew GX.out (Nat.le_refl _) _⟩
    · simp only [List.getElem_toArray, List.getElem_cons_succ, List.getElem_cons_zero]
      intro K HK
      go_wp2_with fail
      refine (HD.out p _ CC3.out).mono ?_
      rintro r Vbq2 ⟨ua, ub, uc, ud, ue, rfl, sm2, c6, g6⟩
      go_wp2_with fail
      have hSbq2 : (fun V => V.heap[w1.heap.size]? = some (.cells #[.slice Au ns.length cu] 26)) Vbq2 := box_grows hSb1 g6 (by omega)
      refine HK.out _ _ (fun _ => hSbq2) ?_
      clear HK
      replace CC3 := Lib.hid c6
      replace GG3 := Lib.hid (only_trans GG3.out g6)
      replace QR3 := Lib.hid (box_grows QR3.out g6 (by omega))
      replace NB := Lib.hid (NB.out.farP g6 (by omega))
      try replace QS1 := Lib.hid (box_grows QS1.out g6 (by omega))
      have hzbq2 := g6.size
      clear c6 g6 sm2
      refine but_two (i := 4) (j := 7) (by kernel_rfl) rfl rfl (by rfl) (by rfl) ?_ ?_
      · simp only [List.getElem_toArray, List.getElem_cons_succ, List.getElem_cons_zero]
        intro K HK
        go_wp2_with fail
        have hSbqp3 : (fun V => V.heap[w1.heap.size]? = some (.cells #[.slice Au ns.length cu] 26)) (Vbq2.alloc (.cells #[.int .i64 ya, .int .i64 yb, .int .i64 yc, .int .i64 yd, .int .i64 ye] 28)) := box_on hSbq2 (bal1 _ _)
        refine HK.out _ _ (fun _ => hSbqp3) ?_
        clear HK
        have QS1 : Hid ((Vbq2.alloc (.cells #[.int .i64 ya, .int .i64 yb, .int .i64 yc, .int .i64 yd, .int .i64 ye] 28)).heap[Vbq2.heap.size]? = some (.cells #[.int .i64 ya, .int .i64 yb, .int .i64 yc, .int .i64 yd, .int .i64 ye] 28)) := Lib.hid (by have h := al1 Vbq2 (.cells #[.int .i64 ya, .int .i64 yb, .int .i64 yc, .int .i64 yd, .int .i64 ye] 28); simpa only [World.size_alloc] using h)
        replace NB := Lib.hid (NB.out.on (bal1 Vbq2 (.cells #[.int .i64 ya, .int .i64 yb, .int .i64 yc, .int .i64 yd, .int .i64 ye] 28)))
        replace CC3 := Lib.hid (CC3.out.alloc (.cells #[.int .i64 ya, .int .i64 yb, .int .i64 yc, .int .i64 yd, .int .i64 ye] 28))
        replace GG3 := Lib.hid (only_alloc GG3.out (.cells #[.int .i64 ya, .int .i64 yb, .int .i64 yc, .int .i64 yd, .int .i64 ye] 28))
        replace QR3 := Lib.hid (box_on QR3.out (bal1 Vbq2 (.cells #[.int .i64 ya, .int .i64 yb, .int .i64 yc, .int .i64 yd, .int .i64 ye] 28)))
        try replace QS2 := Lib.hid (box_on QS2.out (bal1 Vbq2 (.cells #[.int .i64 ya, .int .i64 yb, .int .i64 yc, .int .i64 yd, .int .i64 ye] 28)))
        have hzbqp3 : (Vbq2.alloc (.cells #[.int .i64 ya, .int .i64 yb, .int .i64 yc, .int .i64 yd, .int .i64 ye] 28)).heap.size ≤ Vbq2.heap.size + 1 := by simp
        have hybqp3 : Vbq2.heap.size + 1 ≤ (Vbq2.alloc (.cells #[.int .i64 ya, .int .i64 yb, .int .i64 yc, .int .i64 yd, .int .i64 ye] 28)).heap.size := by simp
        refine but_run (i := 7) (by kernel_rfl) rfl (by rfl) ?_
        simp only [List.getElem_toArray, List.getElem_cons_succ, List.getElem_cons_zero]
        intro K HK
        go_wp2_with fail
        have hSbqp4 : (fun V => V.heap[w1.heap.size]? = some (.cells #[.slice Au ns.length cu] 26)) ((Vbq2.alloc (.cells #[.int .i64 ya, .int .i64 yb, .int .i64 yc, .int .i64 yd, .int .i64 ye] 28)).alloc (.cells #[.int .i64 ua, .int .i64 ub, .int .i64 uc, .int .i64 ud, .int .i64 ue] 28)) := box_on hSbqp3 (bal1 _ _)
        refine HK.out _ _ (fun _ => hSbqp4) ?_
        clear HK
        have QS2 : Hid (((Vbq2.alloc (.cells #[.int .i64 ya, .int .i64 yb, .int .i64 yc, .int .i64 yd, .int .i64 ye] 28)).alloc (.cells #[.int .i64 ua, .int .i64 ub, .int .i64 uc, .int .i64 ud, .int .i64 ue] 28)).heap[Vbq2.heap.size + 1]? = some (.cells #[.int .i64 ua, .int .i64 ub, .int .i64 uc, .int .i64 ud, .int .i64 ue] 28)) := Lib.hid (by have h := al1 (Vbq2.alloc (.cells #[.int .i64 ya, .int .i64 yb, .int .i64 yc, .int .i64 yd, .int .i64 ye] 28)) (.cells #[.int .i64 ua, .int .i64 ub, .int .i64 uc, .int .i64 ud, .int .i64 ue] 28); simpa only [World.size_alloc] using h)
        replace NB := Lib.hid (NB.out.on (bal1 (Vbq2.alloc (.cells #[.int .i64 ya, .int .i64 yb, .int .i64 yc, .int .i64 yd, .int .i64 ye] 28)) (.cells #[.int .i64 ua, .int .i64 ub, .int .i64 uc, .int .i64 ud, .int .i64 ue] 28)))
        replace CC3 := Lib.hid (CC3.out.alloc (.cells #[.int .i64 ua, .int .i64 ub, .int .i64 uc, .int .i64 ud, .int .i64 ue] 28))
        replace GG3 := Lib.hid (only_alloc GG3.out (.cells #[.int .i64 ua, .int .i64 ub, .int .i64 uc, .int .i64 ud, .int .i64 ue] 28))
        replace QR3 := Lib.hid (box_on QR3.out (bal1 (Vbq2.alloc (.cells #[.int .i64 ya, .int .i64 yb, .int .i64 yc, .int .i64 yd, .int .i64 ye] 28)) (.cells #[.int .i64 ua, .int .i64 ub, .int .i64 uc, .int .i64 ud, .int .i64 ue] 28)))
        try replace QS1 := Lib.hid (box_on QS1.out (bal1 (Vbq2.alloc (.cells #[.int .i64 ya, .int .i64 yb, .int .i64 yc, .int .i64 yd, .int .i64 ye] 28)) (.cells #[.int .i64 ua, .int .i64 ub, .int .i64 uc, .int .i64 ud, .int .i64 ue] 28)))
        have hzbqp4 : ((Vbq2.alloc (.cells #[.int .i64 ya, .int .i64 yb, .int .i64 yc, .int .i64 yd, .int .i64 ye] 28)).alloc (.cells #[.int .i64 ua, .int .i64 ub, .int .i64 uc, .int .i64 ud, .int .i64 ue] 28)).heap.size ≤ (Vbq2.alloc (.cells #[.int .i64 ya, .int .i64 yb, .int .i64 yc, .int .i64 yd, .int .i64 ye] 28)).heap.size + 1 := by simp
        have hybqp4 : (Vbq2.alloc (.cells #[.int .i64 ya, .int .i64 yb, .int .i64 yc, .int .i64 yd, .int .i64 ye] 28)).heap.size + 1 ≤ ((Vbq2.alloc (.cells #[.int .i64 ya, .int .i64 yb, .int .i64 yc, .int .i64 yd, .int .i64 ye] 28)).alloc (.cells #[.int .i64 ua, .int .i64 ub, .int .i64 uc, .int .i64 ud, .int .i64 ue] 28)).heap.size := by simp
        refine but_run (i := 8) (by kernel_rfl) rfl (by rfl) ?_
        simp only [List.getElem_toArray, List.getElem_cons_succ, List.getElem_cons_zero]
        intro K HK
        go_wp2_with fail
        have hSbqp5 : (fun V => V.heap[w1.heap.size]? = some (.cells #[.slice Au ns.length cu] 26)) (((Vbq2.alloc (.cells #[.int .i64 ya, .int .i64 yb, .int .i64 yc, .int .i64 yd, .int .i64 ye] 28)).alloc (.cells #[.int .i64 ua, .int .i64 ub, .int .i64 uc, .int .i64 ud, .int .i64 ue] 28)).alloc (.cells #[.slice (some ⟨Vbq2.heap.size, 0, none⟩) 1 1, .slice (some ⟨Vbq2.heap.size + 1, 0, none⟩) 1 1] 34)) := box_on hSbqp4 (bal1 _ _)
        refine HK.out _ _ (fun _ => hSbqp5) ?_
        clear HK
        replace NB := Lib.hid (NB.out.on (bal1 ((Vbq2.alloc (.cells #[.int .i64 ya, .int .i64 yb, .int .i64 yc, .int .i64 yd, .int .i64 ye] 28)).alloc (.cells #[.int .i64 ua, .int .i64 ub, .int .i64 uc, .int .i64 ud, .int .i64 ue] 28)) (.cells #[.slice (some ⟨Vbq2.heap.size, 0, none⟩) 1 1, .slice (some ⟨Vbq2.heap.size + 1, 0, none⟩) 1 1] 34)))
        replace CC3 := Lib.hid (CC3.out.alloc (.cells #[.slice (some ⟨Vbq2.heap.size, 0, none⟩) 1 1, .slice (some ⟨Vbq2.heap.size + 1, 0, none⟩) 1 1] 34))
        replace GG3 := Lib.hid (only_alloc GG3.out (.cells #[.slice (some ⟨Vbq2.heap.size, 0, none⟩) 1 1, .slice (some ⟨Vbq2.heap.size + 1, 0, none⟩) 1 1] 34))
        replace QR3 := Lib.hid (box_on QR3.out (bal1 ((Vbq2.alloc (.cells #[.int .i64 ya, .int .i64 yb, .int .i64 yc, .int .i64 yd, .int .i64 ye] 28)).alloc (.cells #[.int .i64 ua, .int .i64 ub, .int .i64 uc, .int .i64 ud, .int .i64 ue] 28)) (.cells #[.slice (some ⟨Vbq2.heap.size, 0, none⟩) 1 1, .slice (some ⟨Vbq2.heap.size + 1, 0, none⟩) 1 1] 34)))
        replace QS1 := Lib.hid (box_on QS1.out (bal1 ((Vbq2.alloc (.cells #[.int .i64 ya, .int .i64 yb, .int .i64 yc, .int .i64 yd, .int .i64 ye] 28)).alloc (.cells #[.int .i64 ua, .int .i64 ub, .int .i64 uc, .int .i64 ud, .int .i64 ue] 28)) (.cells #[.slice (some ⟨Vbq2.heap.size, 0, none⟩) 1 1, .slice (some ⟨Vbq2.heap.size + 1, 0, none⟩) 1 1] 34)))
        replace QS2 := Lib.hid (box_on QS2.out (bal1 ((Vbq2.alloc (.cells #[.int .i64 ya, .int .i64 yb, .int .i64 yc, .int .i64 yd, .int .i64 ye] 28)).alloc (.cells #[.int .i64 ua, .int .i64 ub, .int .i64 uc, .int .i64 ud, .int .i64 ue] 28)) (.cells #[.slice (some ⟨Vbq2.heap.size, 0, none⟩) 1 1, .slice (some ⟨Vbq2.heap.size + 1, 0, none⟩) 1 1] 34)))
        have hzbqp5 : (((Vbq2.alloc (.cells #[.int .i64 ya, .int .i64 yb, .int .i64 yc, .int .i64 yd, .int .i64 ye] 28)).alloc (.cells #[.int .i64 ua, .int .i64 ub, .int .i64 uc, .int .i64 ud, .int .i64 ue] 28)).alloc (.cells #[.slice (some ⟨Vbq2.heap.size, 0, none⟩) 1 1, .slice (some ⟨Vbq2.heap.size + 1, 0, none⟩) 1 1] 34)).heap.size ≤ ((Vbq2.alloc (.cells #[.int .i64 ya, .int .i64 yb, .int .i64 yc, .int .i64 yd, .int .i64 ye] 28)).alloc (.cells #[.int .i64 ua, .int .i64 ub, .int .i64 uc, .int .i64 ud, .int .i64 ue] 28)).heap.size + 1 := by simp
        have hybqp5 : ((Vbq2.alloc (.cells #[.int .i64 ya, .int .i64 yb, .int .i64 yc, .int .i64 yd, .int .i64 ye] 28)).alloc (.cells #[.int .i64 ua, .int .i64 ub, .int .i64 uc, .int .i64 ud, .int .i64 ue] 28)).heap.size + 1 ≤ (((Vbq2.alloc (.cells #[.int .i64 ya, .int .i64 yb, .int .i64 yc, .int .i64 yd, .int .i64 ye] 28)).alloc (.cells #[.int .i64 ua, .int .i64 ub, .int .i64 uc, .int .i64 ud, .int .i64 ue] 28)).alloc (.cells #[.slice (some ⟨Vbq2.heap.size, 0, none⟩) 1 1, .slice (some ⟨Vbq2.heap.size + 1, 0, none⟩) 1 1] 34)).heap.size := by simp
        refine but_run (i := 9) (by kernel_rfl) rfl (by rfl) ?_
        simp only [List.getElem_toArray, List.getElem_cons_succ, List.getElem_cons_zero]
        intro K HK
        have l1 := (Array.getElem?_eq_some_iff.1 QS1.out).1
        have l2 := (Array.getElem?_eq_some_iff.1 QS2.out).1
        have HYS : Hid (OwnsL (((Vbq2.alloc (.cells #[.int .i64 ya, .int .i64 yb, .int .i64 yc, .int .i64 yd, .int .i64 ye] 28)).alloc (.cells #[.int .i64 ua, .int .i64 ub, .int .i64 uc, .int .i64 ud, .int .i64 ue] 28)).alloc (.cells #[.slice (some ⟨Vbq2.heap.size, 0, none⟩) 1 1, .slice (some ⟨Vbq2.heap.size + 1, 0, none⟩) 1 1] 34)) (fun b => w2.heap.size ≤ b ∧ b < (((Vbq2.alloc (.cells #[.int .i64 ya, .int .i64 yb, .int .i64 yc, .int .i64 yd, .int .i64 ye] 28)).alloc (.cells #[.int .i64 ua, .int .i64 ub, .int .i64 uc, .int .i64 ud, .int .i64 ue] 28)).alloc (.cells #[.slice (some ⟨Vbq2.heap.size, 0, none⟩) 1 1, .slice (some ⟨Vbq2.heap.size + 1, 0, none⟩) 1 1] 34)).heap.size) [.slice (some ⟨Vbq2.heap.size, 0, none⟩) 1 1, .slice (some ⟨Vbq2.heap.size + 1, 0, none⟩) 1 1] ([[⟨ya, yb, yc, yd, ye⟩], [⟨ua, ub, uc, ud, ue⟩]].map keysD)) := Lib.hid (OwnsL.two (own_key1 (k := ⟨ya, yb, yc, yd, ye⟩) QS1.out) (own_key1 (k := ⟨ua, ub, uc, ud, ue⟩) QS2.out) (fun b hb => ⟨by omega, by omega⟩) (fun b hb => ⟨by omega, by omega⟩) (fun b hb hb' => by omega))
        obtain ⟨xs, hr, ho, hne, hug⟩ := NB.out
        have HR0 := Lib.hid hr
        have HO0 := Lib.hid ho
        have HNE := Lib.hid hne
        have HUG := Lib.hid hug
        clear hr ho hne hug
        have B7 := Lib.hid (Below.refl (((Vbq2.alloc (.cells #[.int .i64 ya, .int .i64 yb, .int .i64 yc, .int .i64 yd, .int .i64 ye] 28)).alloc (.cells #[.int .i64 ua, .int .i64 ub, .int .i64 uc, .int .i64 ud, .int .i64 ue] 28)).alloc (.cells #[.slice (some ⟨Vbq2.heap.size, 0, none⟩) 1 1, .slice (some ⟨Vbq2.heap.size + 1, 0, none⟩) 1 1] 34)).heap.size (((Vbq2.alloc (.cells #[.int .i64 ya, .int .i64 yb, .int .i64 yc, .int .i64 yd, .int .i64 ye] 28)).alloc (.cells #[.int .i64 ua, .int .i64 ub, .int .i64 uc, .int .i64 ud, .int .i64 ue] 28)).alloc (.cells #[.slice (some ⟨Vbq2.heap.size, 0, none⟩) 1 1, .slice (some ⟨Vbq2.heap.size + 1, 0, none⟩) 1 1] 34)))
        refine operAppN _ (by rfl) (.tmp 20) (.tmp 27) 24 34 1 24 (.slice none 0 0) (by rfl) Try.underlying24 (by kernel_rfl) rfl (by omega) (by omega) W.heap.size ns.length _ xs (by rfl) HR0.out _ 2 2 [.slice (some ⟨Vbq2.heap.size, 0, none⟩) 1 1, .slice (some ⟨Vbq2.heap.size + 1, 0, none⟩) 1 1] (by rfl) rfl (At.lit2n _ _ _ _ (by simp)) (by simp [Value.oneCell']) (by omega) (by omega) ?_
        intro v8 Vbqp6 o8 g8 _ at8
        have P8 := Lib.hid (box_grown hSbqp5 g8 HNE.out)
        have P9 := Lib.hid (box_grown QR3.out g8 (row_ne HR0.out (by omega)))
        have hO8 : Only (fun b => W.heap.size ≤ b) (((Vbq2.alloc (.cells #[.int .i64 ya, .int .i64 yb, .int .i64 yc, .int .i64 yd, .int .i64 ye] 28)).alloc (.cells #[.int .i64 ua, .int .i64 ub, .int .i64 uc, .int .i64 ud, .int .i64 ue] 28)).alloc (.cells #[.slice (some ⟨Vbq2.heap.size, 0, none⟩) 1 1, .slice (some ⟨Vbq2.heap.size + 1, 0, none⟩) 1 1] 34)) Vbqp6 := ⟨g8.os, g8.tape, g8.output, g8.size, fun i hi hn => g8.block i hi (fun e => hn (row_lt HR0.out i e.symm).2)⟩
        have C8 := Lib.hid (CC3.out.keep (w' := Vbqp6) (fun k hk => hO8.block k (by have := CC3.out.lt; omega) (fun h => by omega)))
        have G8' := Lib.hid (grown_on GG3.out (hO8.below (by omega) (fun b hb => by omega)))
        have G8 := Lib.hid g8
        have O8 := Lib.hid o8
        have AT8 := Lib.hid at8
        obtain ⟨gv, cv, rfl⟩ := row_shape o8 (by omega)
        clear o8 at8 hO8
        have hSbqp6 : (fun V => V.heap[w1.heap.size]? = some (.cells #[.slice Au ns.length cu] 26)) Vbqp6 := P8.out
        refine HK.out _ _ (fun _ => hSbqp6) ?_
        clear HK
        clear g8
        obtain ⟨z0, z1⟩ := box1N P8.out
        simp only [List.getElem_toArray, List.getElem_cons_succ, List.getElem_cons_zero, Act.put, List.setIfInBounds_toArray, List.set_cons_zero, List.set_cons_succ]
        refine but_take (f := 11) (i := 10) (v := ?vbqp10) rfl (by kernel_rfl) (by kernel_rfl) (by kernel_rfl) (by kernel_rfl) (by kernel_rfl) (fun _ _ _ h => h) (Or.inl ⟨(by rfl), ?hybqp10⟩) hSbqp6 ?restbqp10
        case hybqp10 =>
          intro W hW
          go_simp
          exact rfl
        simp only [List.getElem_toArray, List.getElem_cons_succ, List.getElem_cons_zero, Act.put, List.setIfInBounds_toArray, List.set_cons_zero, List.set_cons_succ]
        refine but_run (i := 11) (by kernel_rfl) rfl (by rfl) ?_
        simp only [List.getElem_toArray, List.getElem_cons_succ, List.getElem_cons_zero]
        intro K HK
        go_wp2_with fail
        refine HK.out _ _ (fun h => absurd rfl h) ?_
        clear HK
        refine but_done (by kernel_rfl) ?_
        have hN := Lib.hid (NOwnB.apps (ms := [[⟨ya, yb, yc, yd, ye⟩], [⟨ua, ub, uc, ud, ue⟩]]) HR0.out HO0.out HNE.out HUG.out (by omega) (by omega) (by omega) (Below.refl _ _) HYS.out O8.out G8.out AT8.out)
        have PX := Lib.hid (box_set (i := 0) (u := .slice (some ⟨gv, 0, none⟩) (ns.length + 2) cv) P8.out)
        have PY := Lib.hid (box_far (j := 0) (u := .slice (some ⟨gv, 0, none⟩) (ns.length + 2) cv) P9.out (show w.heap.size ≠ w1.heap.size by omega))
        have CX := Lib.hid (C8.out.setNew (j := 0) (show p < w1.heap.size by omega) (.slice (some ⟨gv, 0, none⟩) (ns.length + 2) cv))
        have GX := Lib.hid (only_setNew (j := 0) G8'.out (show w.heap.size ≤ w1.heap.size by omega) (.slice (some ⟨gv, 0, none⟩) (ns.length + 2) cv))
        clear P8 P9 C8 G8' z0 z1
        go_upto_region 7 with (fail)
        generalize Vbqp6.setCell ⟨w1.heap.size, 0, none⟩ (.slice (some ⟨gv, 0, none⟩) (ns.length + 2) cv) = W9 at *
        obtain ⟨z0, z1⟩ := box1N PX.out
        obtain ⟨y0, y1⟩ := box1N PY.out
        go_wp2
        refine bodyPost_ret (v := .agg #[.slice (some ⟨gv, 0, none⟩) (ns.length + 2) cv]) (by simp [results, Try.results60, go_sem, y0, y1]) rfl ⟨_, ns ++ [[⟨ya, yb, yc, yd, ye⟩], [⟨ua, ub, uc, ud, ue⟩]], rfl, (hN.out.owns.setFar (by omega)).mono (fun b hb => by have := hb.1; omega), by simp; omega, by rw [sumN_append]; simp [sumN] at hsm ⊢; omega, CX.out.setNew hlt _, only_setNew GX.out (Nat.le_refl _) _⟩
      · simp only [List.getElem_toArray, List.getElem_cons_succ, List.getElem_cons_zero]
        intro K HK
        go_wp2_with fail
        have hSbqq3 : (fun V => V.heap[w1.heap.size]? = some (.cells #[.slice Au ns.length cu] 26)) (Vbq2.alloc (.cells #[.int .i64 ua, .int .i64 ub, .int .i64 uc, .int .i64 ud, .int .i64 ue] 28)) := box_on hSbq2 (bal1 _ _)
        refine HK.out _ _ (fun _ => hSbqq3) ?_
        clear HK
        have QS2 : Hid ((Vbq2.alloc (.cells #[.int .i64 ua, .int .i64 ub, .int .i64 uc, .int .i64 ud, .int .i64 ue] 28)).heap[Vbq2.heap.size]? = some (.cells #[.int .i64 ua, .int .i64 ub, .int .i64 uc, .int .i64 ud, .int .i64 ue] 28)) := Lib.hid (by have h := al1 Vbq2 (.cells #[.int .i64 ua, .int .i64 ub, .int .i64 uc, .int .i64 ud, .int .i64 ue] 28); simpa only [World.size_alloc] using h)
        replace NB := Lib.hid (NB.out.on (bal1 Vbq2 (.cells #[.int .i64 ua, .int .i64 ub, .int .i64 uc, .int .i64 ud, .int .i64 ue] 28)))
        replace CC3 := Lib.hid (CC3.out.alloc (.cells #[.int .i64 ua, .int .i64 ub, .int .i64 uc, .int .i64 ud, .int .i64 ue] 28))
        replace GG3 := Lib.hid (only_alloc GG3.out (.cells #[.int .i64 ua, .int .i64 ub, .int .i64 uc, .int .i64 ud, .int .i64 ue] 28))
        replace QR3 := Lib.hid (box_on QR3.out (bal1 Vbq2 (.cells #[.int .i64 ua, .int .i64 ub, .int .i64 uc, .int .i64 ud, .int .i64 ue] 28)))
        try replace QS1 := Lib.hid (box_on QS1.out (bal1 Vbq2 (.cells #[.int .i64 ua, .int .i64 ub, .int .i64 uc, .int .i64 ud, .int .i64 ue] 28)))
        have hzbqq3 : (Vbq2.alloc (.cells #[.int .i64 ua, .int .i64 ub, .int .i64 uc, .int .i64 ud, .int .i64 ue] 28)).heap.size ≤ Vbq2.heap.size + 1 := by simp
        have hybqq3 : Vbq2.heap.size + 1 ≤ (Vbq2.alloc (.cells #[.int .i64 ua, .int .i64 ub, .int .i64 uc, .int .i64 ud, .int .i64 ue] 28)).heap.size := by simp
        refine but_run (i := 4) (by kernel_rfl) rfl (by rfl) ?_
        simp only [List.getElem_toArray, List.getElem_cons_succ, List.getElem_cons_zero]
        intro K HK
        go_wp2_with fail
        have hSbqq4 : (fun V => V.heap[w1.heap.size]? = some (.cells #[.slice Au ns.length cu] 26)) ((Vbq2.alloc (.cells #[.int .i64 ua, .int .i64 ub, .int .i64 uc, .int .i64 ud, .int .i64 ue] 28)).alloc (.cells #[.int .i64 ya, .int .i64 yb, .int .i64 yc, .int .i64 yd, .int .i64 ye] 28)) := box_on hSbqq3 (bal1 _ _)
        refine HK.out _ _ (fun _ => hSbqq4) ?_
        clear HK
        have QS1 : Hid (((Vbq2.alloc (.cells #[.int .i64 ua, .int .i64 ub, .int .i64 uc, .int .i64 ud, .int .i64 ue] 28)).alloc (.cells #[.int .i64 ya, .int .i64 yb, .int .i64 yc, .int .i64 yd, .int .i64 ye] 28)).heap[Vbq2.heap.size + 1]? = some (.cells #[.int .i64 ya, .int .i64 yb, .int .i64 yc, .int .i64 yd, .int .i64 ye] 28)) := Lib.hid (by have h := al1 (Vbq2.alloc (.cells #[.int .i64 ua, .int .i64 ub, .int .i64 uc, .int .i64 ud, .int .i64 ue] 28)) (.cells #[.int .i64 ya, .int .i64 yb, .int .i64 yc, .int .i64 yd, .int .i64 ye] 28); simpa only [World.size_alloc] using h)
        replace NB := Lib.hid (NB.out.on (bal1 (Vbq2.alloc (.cells #[.int .i64 ua, .int .i64 ub, .int .i64 uc, .int .i64 ud, .int .i64 ue] 28)) (.cells #[.int .i64 ya, .int .i64 yb, .int .i64 yc, .int .i64 yd, .int .i64 ye] 28)))
        replace CC3 := Lib.hid (CC3.out.alloc (.cells #[.int .i64 ya, .int .i64 yb, .int .i64 yc, .int .i64 yd, .int .i64 ye] 28))
        replace GG3 := Lib.hid (only_alloc GG3.out (.cells #[.int .i64 ya, .int .i64 yb, .int .i64 yc, .int .i64 yd, .int .i64 ye] 28))
        replace QR3 := Lib.hid (box_on QR3.out (bal1 (Vbq2.alloc (.cells #[.int .i64 ua, .int .i64 ub, .int .i64 uc, .int .i64 ud, .int .i64 ue] 28)) (.cells #[.int .i64 ya, .int .i64 yb, .int .i64 yc, .int .i64 yd, .int .i64 ye] 28)))
        try replace QS2 := Lib.hid (box_on QS2.out (bal1 (Vbq2.alloc (.cells #[.int .i64 ua, .int .i64 ub, .int .i64 uc, .int .i64 ud, .int .i64 ue] 28)) (.cells #[.int .i64 ya, .int .i64 yb, .int .i64 yc, .int .i64 yd, .int .i64 ye] 28)))
        have hzbqq4 : ((Vbq2.alloc (.cells #[.int .i64 ua, .int .i64 ub, .int .i64 uc, .int .i64 ud, .int .i64 ue] 28)).alloc (.cells #[.int .i64 ya, .int .i64 yb, .int .i64 yc, .int .i64 yd, .int .i64 ye] 28)).heap.size ≤ (Vbq2.alloc (.cells #[.int .i64 ua, .int .i64 ub, .int .i64 uc, .int .i64 ud, .int .i64 ue] 28)).heap.size + 1 := by simp
        have hybqq4 : (Vbq2.alloc (.cells #[.int .i64 ua, .int .i64 ub, .int .i64 uc, .int .i64 ud, .int .i64 ue] 28)).heap.size + 1 ≤ ((Vbq2.alloc (.cells #[.int .i64 ua, .int .i64 ub, .int .i64 uc, .int .i64 ud, .int .i64 ue] 28)).alloc (.cells #[.int .i64 ya, .int .i64 yb, .int .i64 yc, .int .i64 yd, .int .i64 ye] 28)).heap.size := by simp
        refine but_run (i := 8) (by kernel_rfl) rfl (by rfl) ?_
        simp only [List.getElem_toArray, List.getElem_cons_succ, List.getElem_cons_zero]
        intro K HK
        go_wp2_with fail
        have hSbqq5 : (fun V => V.heap[w1.heap.size]? = some (.cells #[.slice Au ns.length cu] 26)) (((Vbq2.alloc (.cells #[.int .i64 ua, .int .i64 ub, .int .i64 uc, .int .i64 ud, .int .i64 ue] 28)).alloc (.cells #[.int .i64 ya, .int .i64 yb, .int .i64 yc, .int .i64 yd, .int .i64 ye] 28)).alloc (.cells #[.slice (some ⟨Vbq2.heap.size + 1, 0, none⟩) 1 1, .slice (some ⟨Vbq2.heap.size, 0, none⟩) 1 1] 34)) := box_on hSbqq4 (bal1 _ _)
        refine HK.out _ _ (fun _ => hSbqq5) ?_
        clear HK
        replace NB := Lib.hid (NB.out.on (bal1 ((Vbq2.alloc (.cells #[.int .i64 ua, .int .i64 ub, .int .i64 uc, .int .i64 ud, .int .i64 ue] 28)).alloc (.cells #[.int .i64 ya, .int .i64 yb, .int .i64 yc, .int .i64 yd, .int .i64 ye] 28)) (.cells #[.slice (some ⟨Vbq2.heap.size + 1, 0, none⟩) 1 1, .slice (some ⟨Vbq2.heap.size, 0, none⟩) 1 1] 34)))
        replace CC3 := Lib.hid (CC3.out.alloc (.cells #[.slice (some ⟨Vbq2.heap.size + 1, 0, none⟩) 1 1, .slice (some ⟨Vbq2.heap.size, 0, none⟩) 1 1] 34))
        replace GG3 := Lib.hid (only_alloc GG3.out (.cells #[.slice (some ⟨Vbq2.heap.size + 1, 0, none⟩) 1 1, .slice (some ⟨Vbq2.heap.size, 0, none⟩) 1 1] 34))
        replace QR3 := Lib.hid (box_on QR3.out (bal1 ((Vbq2.alloc (.cells #[.int .i64 ua, .int .i64 ub, .int .i64 uc, .int .i64 ud, .int .i64 ue] 28)).alloc (.cells #[.int .i64 ya, .int .i64 yb, .int .i64 yc, .int .i64 yd, .int .i64 ye] 28)) (.cells #[.slice (some ⟨Vbq2.heap.size + 1, 0, none⟩) 1 1, .slice (some ⟨Vbq2.heap.size, 0, none⟩) 1 1] 34)))
        replace QS1 := Lib.hid (box_on QS1.out (bal1 ((Vbq2.alloc (.cells #[.int .i64 ua, .int .i64 ub, .int .i64 uc, .int .i64 ud, .int .i64 ue] 28)).alloc (.cells #[.int .i64 ya, .int .i64 yb, .int .i64 yc, .int .i64 yd, .int .i64 ye] 28)) (.cells #[.slice (some ⟨Vbq2.heap.size + 1, 0, none⟩) 1 1, .slice (some ⟨Vbq2.heap.size, 0, none⟩) 1 1] 34)))
        replace QS2 := Lib.hid (box_on QS2.out (bal1 ((Vbq2.alloc (.cells #[.int .i64 ua, .int .i64 ub, .int .i64 uc, .int .i64 ud, .int .i64 ue] 28)).alloc (.cells #[.int .i64 ya, .int .i64 yb, .int .i64 yc, .int .i64 yd, .int .i64 ye] 28)) (.cells #[.slice (some ⟨Vbq2.heap.size + 1, 0, none⟩) 1 1, .slice (some ⟨Vbq2.heap.size, 0, none⟩) 1 1] 34)))
        have hzbqq5 : (((Vbq2.alloc (.cells #[.int .i64 ua, .int .i64 ub, .int .i64 uc, .int .i64 ud, .int .i64 ue] 28)).alloc (.cells #[.int .i64 ya, .int .i64 yb, .int .i64 yc, .int .i64 yd, .int .i64 ye] 28)).alloc (.cells #[.slice (some ⟨Vbq2.heap.size + 1, 0, none⟩) 1 1, .slice (some ⟨Vbq2.heap.size, 0, none⟩) 1 1] 34)).heap.size ≤ ((Vbq2.alloc (.cells #[.int .i64 ua, .int .i64 ub, .int .i64 uc, .int .i64 ud, .int .i64 ue] 28)).alloc (.cells #[.int .i64 ya, .int .i64 yb, .int .i64 yc, .int .i64 yd, .int .i64 ye] 28)).heap.size + 1 := by simp
        have hybqq5 : ((Vbq2.alloc (.cells #[.int .i64 ua, .int .i64 ub, .int .i64 uc, .int .i64 ud, .int .i64 ue] 28)).alloc (.cells #[.int .i64 ya, .int .i64 yb, .int .i64 yc, .int .i64 yd, .int .i64 ye] 28)).heap.size + 1 ≤ (((Vbq2.alloc (.cells #[.int .i64 ua, .int .i64 ub, .int .i64 uc, .int .i64 ud, .int .i64 ue] 28)).alloc (.cells #[.int .i64 ya, .int .i64 yb, .int .i64 yc, .int .i64 yd, .int .i64 ye] 28)).alloc (.cells #[.slice (some ⟨Vbq2.heap.size + 1, 0, none⟩) 1 1, .slice (some ⟨Vbq2.heap.size, 0, none⟩) 1 1] 34)).heap.size := by simp
        refine but_run (i := 9) (by kernel_rfl) rfl (by rfl) ?_
        simp only [List.getElem_toArray, List.getElem_cons_succ, List.getElem_cons_zero]
        intro K HK
        have l1 := (Array.getElem?_eq_some_iff.1 QS1.out).1
        have l2 := (Array.getElem?_eq_some_iff.1 QS2.out).1
        have HYS : Hid (OwnsL (((Vbq2.alloc (.cells #[.int .i64 ua, .int .i64 ub, .int .i64 uc, .int .i64 ud, .int .i64 ue] 28)).alloc (.cells #[.int .i64 ya, .int .i64 yb, .int .i64 yc, .int .i64 yd, .int .i64 ye] 28)).alloc (.cells #[.slice (some ⟨Vbq2.heap.size + 1, 0, none⟩) 1 1, .slice (some ⟨Vbq2.heap.size, 0, none⟩) 1 1] 34)) (fun b => w2.heap.size ≤ b ∧ b < (((Vbq2.alloc (.cells #[.int .i64 ua, .int .i64 ub, .int .i64 uc, .int .i64 ud, .int .i64 ue] 28)).alloc (.cells #[.int .i64 ya, .int .i64 yb, .int .i64 yc, .int .i64 yd, .int .i64 ye] 28)).alloc (.cells #[.slice (some ⟨Vbq2.heap.size + 1, 0, none⟩) 1 1, .slice (some ⟨Vbq2.heap.size, 0, none⟩) 1 1] 34)).heap.size) [.slice (some ⟨Vbq2.heap.size + 1, 0, none⟩) 1 1, .slice (some ⟨Vbq2.heap.size, 0, none⟩) 1 1] ([[⟨ya, yb, yc, yd, ye⟩], [⟨ua, ub, uc, ud, ue⟩]].map keysD)) := Lib.hid (OwnsL.two (own_key1 (k := ⟨ya, yb, yc, yd, ye⟩) QS1.out) (own_key1 (k := ⟨ua, ub, uc, ud, ue⟩) QS2.out) (fun b hb => ⟨by omega, by omega⟩) (fun b hb => ⟨by omega, by omega⟩) (fun b hb hb' => by omega))
        obtain ⟨xs, hr, ho, hne, hug⟩ := NB.out
        have HR0 := Lib.hid hr
        have HO0 := Lib.hid ho
        have HNE := Lib.hid hne
        have HUG := Lib.hid hug
        clear hr ho hne hug
        have B7 := Lib.hid (Below.refl (((Vbq2.alloc (.cells #[.int .i64 ua, .int .i64 ub, .int .i64 uc, .int .i64 ud, .int .i64 ue] 28)).alloc (.cells #[.int .i64 ya, .int .i64 yb, .int .i64 yc, .int .i64 yd, .int .i64 ye] 28)).alloc (.cells #[.slice (some ⟨Vbq2.heap.size + 1, 0, none⟩) 1 1, .slice (some ⟨Vbq2.heap.size, 0, none⟩) 1 1] 34)).heap.size (((Vbq2.alloc (.cells #[.int .i64 ua, .int .i64 ub, .int .i64 uc, .int .i64 ud, .int .i64 ue] 28)).alloc (.cells #[.int .i64 ya, .int .i64 yb, .int .i64 yc, .int .i64 yd, .int .i64 ye] 28)).alloc (.cells #[.slice (some ⟨Vbq2.heap.size + 1, 0, none⟩) 1 1, .slice (some ⟨Vbq2.heap.size, 0, none⟩) 1 1] 34)))
        refine operAppN _ (by rfl) (.tmp 20) (.tmp 27) 24 34 1 24 (.slice none 0 0) (by rfl) Try.underlying24 (by kernel_rfl) rfl (by omega) (by omega) W.heap.size ns.length _ xs (by rfl) HR0.out _ 2 2 [.slice (some ⟨Vbq2.heap.size + 1, 0, none⟩) 1 1, .slice (some ⟨Vbq2.heap.size, 0, none⟩) 1 1] (by rfl) rfl (At.lit2n _ _ _ _ (by simp)) (by simp [Value.oneCell']) (by omega) (by omega) ?_
        intro v8 Vbqq6 o8 g8 _ at8
        have P8 := Lib.hid (box_grown hSbqq5 g8 HNE.out)
        have P9 := Lib.hid (box_grown QR3.out g8 (row_ne HR0.out (by omega)))
        have hO8 : Only (fun b => W.heap.size ≤ b) (((Vbq2.alloc (.cells #[.int .i64 ua, .int .i64 ub, .int .i64 uc, .int .i64 ud, .int .i64 ue] 28)).alloc (.cells #[.int .i64 ya, .int .i64 yb, .int .i64 yc, .int .i64 yd, .int .i64 ye] 28)).alloc (.cells #[.slice (some ⟨Vbq2.heap.size + 1, 0, none⟩) 1 1, .slice (some ⟨Vbq2.heap.size, 0, none⟩) 1 1] 34)) Vbqq6 := ⟨g8.os, g8.tape, g8.output, g8.size, fun i hi hn => g8.block i hi (fun e => hn (row_lt HR0.out i e.symm).2)⟩
        have C8 := Lib.hid (CC3.out.keep (w' := Vbqq6) (fun k hk => hO8.block k (by have := CC3.out.lt; omega) (fun h => by omega)))
        have G8' := Lib.hid (grown_on GG3.out (hO8.below (by omega) (fun b hb => by omega)))
        have G8 := Lib.hid g8
        have O8 := Lib.hid o8
        have AT8 := Lib.hid at8
        obtain ⟨gv, cv, rfl⟩ := row_shape o8 (by omega)
        clear o8 at8 hO8
        have hSbqq6 : (fun V => V.heap[w1.heap.size]? = some (.cells #[.slice Au ns.length cu] 26)) Vbqq6 := P8.out
        refine HK.out _ _ (fun _ => hSbqq6) ?_
        clear HK
        clear g8
        obtain ⟨z0, z1⟩ := box1N P8.out
        simp only [List.getElem_toArray, List.getElem_cons_succ, List.getElem_cons_zero, Act.put, List.setIfInBounds_toArray, List.set_cons_zero, List.set_cons_succ]
        refine but_take (f := 11) (i := 10) (v := ?vbqq10) rfl (by kernel_rfl) (by kernel_rfl) (by kernel_rfl) (by kernel_rfl) (by kernel_rfl) (fun _ _ _ h => h) (Or.inl ⟨(by rfl), ?hybqq10⟩) hSbqq6 ?restbqq10
        case hybqq10 =>
          intro W hW
          go_simp
          exact rfl
        simp only [List.getElem_toArray, List.getElem_cons_succ, List.getElem_cons_zero, Act.put, List.setIfInBounds_toArray, List.set_cons_zero, List.set_cons_succ]
        refine but_run (i := 11) (by kernel_rfl) rfl (by rfl) ?_
        simp only [List.getElem_toArray, List.getElem_cons_succ, List.getElem_cons_zero]
        intro K HK
        go_wp2_with fail
        refine HK.out _ _ (fun h => absurd rfl h) ?_
        clear HK
        refine but_done (by kernel_rfl) ?_
        have hN := Lib.hid (NOwnB.apps (ms := [[⟨ya, yb, yc, yd, ye⟩], [⟨ua, ub, uc, ud, ue⟩]]) HR0.out HO0.out HNE.out HUG.out (by omega) (by omega) (by omega) (Below.refl _ _) HYS.out O8.out G8.out AT8.out)
        have PX := Lib.hid (box_set (i := 0) (u := .slice (some ⟨gv, 0, none⟩) (ns.length + 2) cv) P8.out)
        have PY := Lib.hid (box_far (j := 0) (u := .slice (some ⟨gv, 0, none⟩) (ns.length + 2) cv) P9.out (show w.heap.size ≠ w1.heap.size by omega))
        have CX := Lib.hid (C8.out.setNew (j := 0) (show p < w1.heap.size by omega) (.slice (some ⟨gv, 0, none⟩) (ns.length + 2) cv))
        have GX := Lib.hid (only_setNew (j := 0) G8'.out (show w.heap.size ≤ w1.heap.size by omega) (.slice (some ⟨gv, 0, none⟩) (ns.length + 2) cv))
        clear P8 P9 C8 G8' z0 z1
        go_upto_region 7 with (fail)
        generalize Vbqq6.setCell ⟨w1.heap.size, 0, none⟩ (.slice (some ⟨gv, 0, none⟩) (ns.length + 2) cv) = W9 at *
        obtain ⟨z0, z1⟩ := box1N PX.out
        obtain ⟨y0, y1⟩ := box1N PY.out
        go_wp2
        refine bodyPost_ret (v := .agg #[.slice (some ⟨gv, 0, none⟩) (ns.length + 2) cv]) (by simp [results, Try.results60, go_sem, y0, y1]) rfl ⟨_, ns ++ [[⟨ya, yb, yc, yd, ye⟩], [⟨ua, ub, uc, ud, ue⟩]], rfl, (hN.out.owns.setFar (by omega)).mono (fun b hb => by have := hb.1; omega), by simp; omega, by rw [sumN_append]; simp [sumN] at hsm ⊢; omega, CX.out.setNew hlt _, only_setNew GX.out (Nat.le_refl _) _⟩
  · have e0 : (((j : Int) + 1 + 1) == 0) = false := by simp; omega
    have e1 : (((j : Int) + 1 + 1) == 1) = false := by simp; omega
    clear NB CD GD QD
    obtain ⟨z0, z1⟩ := box1N QO.out
    obtain ⟨y0, y1⟩ := box1N QR.out
    go_wp2
    refine bodyPost_ret (v := .agg #[.slice Au ns.length cu]) (by simp [results, Try.results60, go_sem, y0, y1]) rfl ⟨_, ns, rfl, (NO.out.owns.setFar (by omega)).mono (fun b hb => by have := hb.1; omega), by omega, by omega, CC.out.setNew hlt _, only_setNew GG.out (Nat.le_refl _) _⟩
end Go.Proofs.Ytncjedbdkanleaa
